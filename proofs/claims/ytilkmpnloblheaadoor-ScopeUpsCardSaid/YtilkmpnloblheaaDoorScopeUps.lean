/- ScopeUps: going up tells each scope that it is below, the nearest first, and stops where it is told. -/
import Derived.Test.YtilkmpnloblheaaDoorScopeAll
namespace Go.Proofs.YtilkmpnloblheaaDoor
open Go.RowKit Go.Shelf
open Go.Proofs
set_option maxRecDepth 100000
attribute [local go_sem] Oper.semAt_some wide_fn

theorem wide_round_fn (l : Nat) (f : FuncId) : (Fence.wide.inRound l).fn f = True := by simp [Fence.wide, Fence.inRound]
attribute [local go_sem] wide_round_fn
/-! ### Plainly -/
theorem scopeOk_pieces (s : ByteArray) : scopeOk s = (decide ((Sc.pieces s.data.toList).length ≤ 4) && ((Sc.pieces s.data.toList).map bsOf).all nameOk) := by
  have h1 : s.data.toList.length = s.size := Array.length_toList
  unfold scopeOk cutB
  by_cases h : s.data.toList = []
  · rw [h] at h1 ⊢
    have h2 : s.size = 0 := h1.symm
    rw [h2]; rfl
  · have h2 : 0 < s.data.toList.length := List.length_pos_iff.2 h
    have h3 : (s.size == 0) = false := by simp only [beq_eq_false_iff_ne]; omega
    rw [h3, Bool.false_or, Sc.pieces_cut h, List.length_map]
theorem scopeOk_under (s t : ByteArray) (h : scopeOk s = true) (hu : underB s t = true) : scopeOk t = true := by
  rw [scopeOk_pieces, Bool.and_eq_true, decide_eq_true_eq, List.all_eq_true] at h ⊢
  obtain ⟨r, hr⟩ := (Sc.underL_iff _ _).1 hu
  rw [← hr] at h
  refine ⟨?_, fun x hx => h.2 x ?_⟩
  · have := h.1; rw [List.length_append] at this; omega
  · rw [List.map_append]; exact List.mem_append.2 (Or.inl hx)
theorem upsB_le : ∀ (n : Nat) (s : ByteArray), s.size ≤ n → (∀ x ∈ upsB s, x.size ≤ s.size) ∧ (upsB s).Pairwise (fun a b => b.size < a.size) ∧ (upsB s).getLast? = some ⟨#[]⟩
  | n, s, hn => by
    have h1 : s.data.toList.length = s.size := Array.length_toList
    by_cases h : s.data.toList = []
    · rw [upsB_nil s h]
      have e : s = ⟨#[]⟩ := by rw [← bsOf_data s, h]; rfl
      refine ⟨?_, by simp, by rw [e]; rfl⟩
      intro x hx
      simp at hx; subst hx; exact Nat.le_refl _
    · have hlt := aboveB_lt s h
      cases n with
      | zero => omega
      | succ n =>
        obtain ⟨i1, i2, i3⟩ := upsB_le n (aboveB s) (by omega)
        rw [upsB_cons s h]
        refine ⟨?_, ?_, ?_⟩
        · intro x hx
          rcases List.mem_cons.1 hx with rfl | hx
          · exact Nat.le_refl _
          · have := i1 x hx; omega
        · rw [List.pairwise_cons]
          exact ⟨fun x hx => by have := i1 x hx; omega, i2⟩
        · rw [List.getLast?_cons, i3]; rfl
/-- What was told last. -/
def lastB {m : Nat} (s : ByteArray) (pre : List (Tx m)) : ByteArray := (pre.getLast?.map Subtype.val).getD (s ++ ⟨#[47]⟩)
theorem lastB_snoc {m : Nat} (s : ByteArray) (pre : List (Tx m)) (x : Tx m) : lastB s (pre ++ [x]) = x.1 := by simp [lastB]
theorem lastB_nil {m : Nat} (s : ByteArray) : lastB s ([] : List (Tx m)) = s ++ ⟨#[47]⟩ := rfl
theorem ups_good {m : Nat} (s : ByteArray) (h : scopeOk s = true) (pre : List (Tx m)) (x : Tx m) (hp : (pre ++ [x]).map Subtype.val <+: upsB s) :
    underB s x.1 = true ∧ x.1.size < (lastB s pre).size ∧ scopeOk x.1 = true := by
  have hx : x.1 ∈ upsB s := hp.subset (by simp)
  have hu := (upsB_mem s x.1 h).1 hx
  obtain ⟨i1, i2, _⟩ := upsB_le s.size s (Nat.le_refl _)
  refine ⟨hu, ?_, scopeOk_under s x.1 h hu⟩
  rcases List.eq_nil_or_concat pre with rfl | ⟨p, y, rfl⟩
  · have := i1 _ hx
    rw [lastB_nil, ByteArray.size_append]
    show x.1.size < s.size + 1
    omega
  · simp only [List.concat_eq_append] at hp ⊢
    rw [lastB_snoc]
    have h2 := i2.sublist hp.sublist
    rw [List.map_append, List.map_append] at h2
    have h3 := (List.pairwise_append.1 h2).2.2
    exact h3 y.1 (by simp) x.1 (by simp)
theorem lastB_done {m : Nat} (s : ByteArray) (ys : List (Tx m)) (hy : ys.map Subtype.val = upsB s) : lastB s ys = ⟨#[]⟩ := by
  obtain ⟨_, _, i3⟩ := upsB_le s.size s (Nat.le_refl _)
  rw [← hy, List.getLast?_map] at i3
  unfold lastB; rw [i3]; rfl
theorem len_done {m : Nat} (s : ByteArray) (h : scopeOk s = true) (ys : List (Tx m)) (hy : ys.map Subtype.val = upsB s) : ys.length = if s.toList = [] then 1 else (cutB s).length + 1 := by
  have hl : ys.length = (upsB s).length := by rw [← hy, List.length_map]
  rw [hl]
  unfold upsB
  rw [List.length_map, Sc.upL_pieces _ (cutB_pieces_ne s h), List.length_map, List.length_range, bytes_toList]
  split
  · rename_i h0; rw [h0]; rfl
  · rename_i h0; rw [Sc.pieces_cut h0]; unfold cutB; rw [List.length_map]

theorem box_under {n : Nat} {W W' : World} {B : Nat} {t : TypeId} {v : Value} (h : Boxed W B t v) (hb : Below n W W') (hn : W.heap.size ≤ n) : Boxed W' B t v := (hb.block B (Nat.lt_of_lt_of_le h.lt hn)).trans h
theorem keepsFrom_below {n B : Nat} {W W' : World} (hb : Below n W W') (hn : W.heap.size ≤ n) : KeepsFrom B W W' := ⟨hb.size, fun k _ _ hk _ => (hb.block k (Nat.lt_of_lt_of_le (Array.getElem?_eq_some_iff.1 hk).1 hn)).trans hk⟩

/-- The blocks of its own that it holds between two rounds. -/
structure UpsI (s : ByteArray) (stop : Int) (w : World) (Bn L : Nat) (LB : ByteArray) (W : World) : Prop where
  s0 : Boxed W w.heap.size 9 (.string s)
  s1 : Boxed W (w.heap.size + 1) 3 (.int .i64 stop)
  r : Boxed W (w.heap.size + 2) 4 (.bool false)
  n : Boxed W Bn 3 (.int .i64 (L : Int))
  l : Boxed W (Bn + 1) 9 (.string LB)
  below : Below w.heap.size w W
theorem UpsI.under {s : ByteArray} {stop : Int} {w W W' : World} {Bn L : Nat} {LB : ByteArray} (h : UpsI s stop w Bn L LB W) (hb : Below W.heap.size W W') : UpsI s stop w Bn L LB W' :=
  ⟨box_under h.s0 hb (Nat.le_refl _), box_under h.s1 hb (Nat.le_refl _), box_under h.r hb (Nat.le_refl _), box_under h.n hb (Nat.le_refl _), box_under h.l hb (Nat.le_refl _), h.below.trans (hb.mono h.below.size)⟩
theorem UpsI.own {m : Nat} (s : ByteArray) (stop : Int) (w : World) (Bn B : Nat) (hB : w.heap.size ≤ B) : OwnFrom B (fun (pre : List (Tx m)) W => UpsI s stop w Bn pre.length (lastB s pre) W) := fun pre W W' row h hg hr => by
  have ne : ∀ (k : Nat) (t : TypeId) (v : Value), Boxed W k t v → Boxed W' k t v := fun k t v hk => by
    refine (hg.block k hk.lt (fun e => ?_)).trans hk
    obtain ⟨_, o, ho, hc⟩ := hr k e.symm
    have hk' : W.heap[k]? = _ := hk
    rw [hk'] at ho; cases ho; cases hc
  exact ⟨ne _ _ _ h.s0, ne _ _ _ h.s1, ne _ _ _ h.r, ne _ _ _ h.n, ne _ _ _ h.l, h.below.grown hg h.below.size (fun k e => Nat.le_trans hB (hr k e).1)⟩
theorem UpsI.step {s : ByteArray} {stop : Int} {w W : World} {Bn L : Nat} {LB : ByteArray} (h : UpsI s stop w Bn L LB W) (hB : w.heap.size + 2 < Bn) (Y : ByteArray) : UpsI s stop w Bn (L + 1) Y ((W.setCell ⟨Bn + 1, 0, none⟩ (.string Y)).setCell ⟨Bn, 0, none⟩ (.int .i64 ((L : Int) + 1))) :=
  ⟨(h.s0.other (by omega) _).other (by omega) _, (h.s1.other (by omega) _).other (by omega) _, (h.r.other (by omega) _).other (by omega) _, (h.n.other (by omega) _).set _, ((h.l.set _).other (by omega) _), (h.below.setCell (p := ⟨Bn + 1, 0, none⟩) (by show w.heap.size ≤ Bn + 1; omega) _).setCell (p := ⟨Bn, 0, none⟩) (by show w.heap.size ≤ Bn; omega) _⟩
/-- A round that ends it all: no such one is come to. -/
def Bad {m : Nat} (s : ByteArray) (l : List (Tx m)) : Prop := ∃ (pre : List (Tx m)) (x : Tx m), l = pre ++ [x] ∧ ¬ (underB s x.1 = true ∧ x.1.size < (lastB s pre).size ∧ scopeOk x.1 = true)
theorem bad_no {m : Nat} (s : ByteArray) (h : scopeOk s = true) (l : List (Tx m)) (hb : Bad s l) (hp : l.map Subtype.val <+: upsB s) : False := by
  obtain ⟨pre, x, rfl, hn⟩ := hb
  exact hn (ups_good s h pre x hp)

theorem ups_ar (a Bn L : Nat) (h : a + 2 < Bn) (hL : L ≤ 299) : wrap64 ((L : Int) + 1) = (L : Int) + 1 ∧ ¬ Bn = Bn + 1 ∧ ¬ a + 1 = Bn + 1 ∧ ¬ a + 1 = Bn ∧ a ≤ Bn ∧ a ≤ Bn + 1 ∧ L + 1 ≤ 300 := by
  refine ⟨?_, ?_, ?_, ?_, ?_, ?_, ?_⟩
  · unfold wrap64; omega
  all_goals omega

set_option maxHeartbeats 4000000 in
theorem scopeUps_c (s : ByteArray) (stop : Int) (w : World) (hs : s.size ≤ 140737488351232) (hm : MaxI w) :
    Calls Tryd.prog 5 #[.string s, .int .i64 stop] w fun e w' => e = .returned (.bool true) ∧ Below w.heap.size w w' := by
  obtain ⟨wb, hwb⟩ : ∃ wb, wb = ((w.alloc (.cells #[.string s] 9)).alloc (.cells #[.int .i64 stop] 3)).alloc (.cells #[.bool false] 4) := ⟨_, rfl⟩
  have hbb : Below w.heap.size w wb := by rw [hwb]; exact (((Below.refl _ w).alloc (Nat.le_refl _) _).alloc (by simp) _).alloc (by simp; omega) _
  have hx0 : Boxed wb w.heap.size 9 (.string s) := by rw [hwb]; exact ((Boxed.new w _ _).alloc _).alloc _
  have hx1 : Boxed wb (w.heap.size + 1) 3 (.int .i64 stop) := by
    rw [hwb]
    have := (Boxed.new (w.alloc (.cells #[.string s] 9)) 3 (.int .i64 stop)).alloc (.cells #[.bool false] 4)
    rw [World.size_alloc] at this; exact this
  have hx2 : Boxed wb (w.heap.size + 2) 4 (.bool false) := by
    rw [hwb]
    have := Boxed.new ((w.alloc (.cells #[.string s] 9)).alloc (.cells #[.int .i64 stop] 3)) 4 (.bool false)
    rw [World.size_alloc, World.size_alloc] at this; exact this
  have hzb : wb.heap.size = w.heap.size + 3 := by rw [hwb]; simp
  have hmb := hm.below hbb
  have FIT := Lib.hid (fit5_c hmb wb (Below.refl _ _))
  have HWB := Lib.hid hwb
  clear hwb
  have HBB := Lib.hid hbb
  have HX : Aside (∀ W, Below wb.heap.size wb W → Boxed W w.heap.size 9 (.string s) ∧ Boxed W (w.heap.size + 1) 3 (.int .i64 stop) ∧ Boxed W (w.heap.size + 2) 4 (.bool false) ∧ Below w.heap.size w W) :=
    fun W h => ⟨box_under hx0 h (Nat.le_refl _), box_under hx1 h (Nat.le_refl _), box_under hx2 h (Nat.le_refl _), hbb.trans (h.mono (by omega))⟩
  clear hbb hx0 hx1 hx2
  refine (callsIn_wide (n := 6)).1 ?_
  by_cases h300 : 200 < s.size
  · have h1 : (200 : Int) < (s.size : Int) := by omega
    clear hmb
    refine callsIn_of_wp_marks Tryd.func5 rfl trivial ?_ rfl
    simp only [Tryd.ntmps5, List.size_toArray, List.length_cons, List.length_nil, Nat.reduceAdd, Nat.reduceSub, Array.replicate_succ, Array.replicate_zero, List.push_toArray, List.append_toArray, List.nil_append, List.cons_append]
    gi_wp2_with fail
    rw [← HWB.out]
    refine (callsIn_wide.2 FIT.out).mono ?_
    rintro e w1 ⟨rfl, hb1⟩
    obtain ⟨b0, b1, b2, b3⟩ := HX.out _ hb1
    have c0 := b0.cell
    have c2 := b2.cell
    have f2 := b2.frozen
    have B2 := Lib.hid b2
    have B3 := Lib.hid b3
    clear hb1 b0 b1 b2 b3
    gi_wp2_with fail
    have hbx := Boxed.set (.bool true) B2.out
    have cf := hbx.cell
    exact ⟨.bool true, by simp [results, Tryd.f5, go_sem, cf], rfl, B3.out.setCell (p := ⟨w.heap.size + 2, 0, none⟩) (by simp) _⟩
  have h1 : (s.size : Int) ≤ 200 := by omega
  have h2 : decide ((200 : Int) < (s.size : Int)) = false := by simp; omega
  have rs := rightW s hmb (by omega)
  have PW := Lib.hid (fun W => parts_c s W (by omega))
  obtain ⟨RS, eRS⟩ : ∃ x, x = scopeOk s := ⟨_, rfl⟩
  have hgood : RS = true → scopeOk s = true := fun h => eRS.symm.trans h
  rw [← eRS] at rs
  have HRS := Lib.hid rs
  clear rs eRS
  refine callsIn_of_wp_marks Tryd.func5 rfl trivial ?_ rfl
  simp only [Tryd.ntmps5, List.size_toArray, List.length_cons, List.length_nil, Nat.reduceAdd, Nat.reduceSub, Array.replicate_succ, Array.replicate_zero, List.push_toArray, List.append_toArray, List.nil_append, List.cons_append]
  gi_wp2_with fail
  rw [← HWB.out]
  refine (callsIn_wide.2 FIT.out).mono ?_
  rintro e w1 ⟨rfl, hb1⟩
  have c1 := (HX.out _ hb1).1.cell
  have H1 := Lib.hid hb1
  clear hb1
  gi_wp2_with fail
  refine (callsIn_wide.2 (HRS.out _ H1.out)).mono ?_
  rintro e w2 ⟨rfl, hb2⟩
  obtain ⟨b0, b1, b2, b3⟩ := HX.out _ hb2
  have c0 := b0.cell
  have c2 := b2.cell
  have f2 := b2.frozen
  have B2 := Lib.hid b2
  have B3 := Lib.hid b3
  have H2 := Lib.hid hb2
  clear hb2 c1 b1 b2 b3
  cases RS
  · gi_wp2_with fail
    have hbx := Boxed.set (.bool true) B2.out
    have cf := hbx.cell
    exact ⟨.bool true, by simp [results, Tryd.f5, go_sem, cf], rfl, B3.out.setCell (p := ⟨w.heap.size + 2, 0, none⟩) (by simp) _⟩
  have HG := Lib.hid (hgood rfl)
  clear hgood c2 f2 HRS FIT H1
  have c0a := fun o => Lib.cell?_alloc_some (W := w2) o c0
  have c0b := fun o o2 => Lib.cell?_alloc_some (W := w2.alloc o) o2 (c0a o)
  gi_wp2_with fail
  refine (callsIn_wide.2 (up_c s _)).mono ?_
  rintro e w4 ⟨rfl, hw4⟩
  have hwz : wb.heap.size ≤ w2.heap.size := H2.out.size
  have hI4 : UpsI s stop w w2.heap.size 0 (s ++ ⟨#[47]⟩) w4 := by
    rw [hw4]
    refine ⟨((b0.alloc _).alloc _).alloc _, ?_, ((B2.out.alloc _).alloc _).alloc _, ((Boxed.new w2 _ _).alloc _).alloc _, ?_, ((B3.out.alloc (by omega) _).alloc (by simp; omega) _).alloc (by simp; omega) _⟩
    · exact (((HX.out _ H2.out).2.1.alloc _).alloc _).alloc _
    · have := (Boxed.new (w2.alloc (.cells #[.int .i64 0] 3)) 9 (.string (s ++ ⟨#[47]⟩))).alloc (.cells #[.string s] 9)
      rw [World.size_alloc] at this; exact this
  have hbs : w4.cell? ⟨w2.heap.size + 1 + 1, 0, none⟩ = some (.string s) := by
    rw [hw4]
    have := World.cell?_alloc_new ((w2.alloc (.cells #[.int .i64 0] 3)).alloc (.cells #[.string (s ++ ⟨#[47]⟩)] 9)) #[.string s] 9 0
    rw [World.size_alloc, World.size_alloc] at this; exact this
  have hz4 : w4.heap.size = w2.heap.size + 3 := by rw [hw4]; simp
  rw [World.size_alloc, World.size_alloc]
  clear hw4 c0a c0b c0 b0
  obtain ⟨Bn, hBn⟩ : ∃ Bn, Bn = w2.heap.size := ⟨_, rfl⟩
  rw [← hBn] at hI4 hbs hz4 hwz ⊢
  have hBq : w.heap.size + 2 < Bn := by omega
  clear hBn H2 B2 B3
  have hBn := hBq
  have HSEQ := Lib.hid (up_stops (6 - 1) (by omega) (Bn + 1 + 1) w.heap.size 200 s (by omega) (by omega) w4 hbs (by omega))
  have hups : (upsB s).length ≤ 300 := by
    obtain ⟨_, i2, _⟩ := upsB_le s.size s (Nat.le_refl _)
    have e : (upsB s).length = (upsB s).length := rfl
    unfold upsB
    rw [List.length_map, Sc.upL_pieces _ (cutB_pieces_ne s (HG.out)), List.length_map, List.length_range]
    have h3 := Sc.cutL_le s.data.toList
    have h4 : s.data.toList.length = s.size := Array.length_toList
    unfold Sc.pieces
    split
    · simp
    · omega
  have HM := Lib.hid hm
  clear hbs HX HBB HWB hmb hm
  gi_wp2
  refine' wpIn_rangeFunc_ownG rfl (by omega) (gf := 18) (lb := #[.pointer (some ⟨Bn + 1 + 1, 0, none⟩)]) rfl trivial (enters_of Tryd.func18 (by kernel_rfl) rfl)
    HSEQ.out (fun h k => h.trans k) (belowK_b (by omega)) (Below.refl _ _) (fun _ => rfl)
    (fun pre W => UpsI s stop w Bn pre.length (lastB s pre) W) (fun c pre W => (c = .ret ∧ Bad s pre) ∨ (c = .exit 0 ∧ (pre.length : Int) = stop ∧ pre.length ≤ 300 ∧ UpsI s stop w Bn pre.length (lastB s pre) W))
    (UpsI.own s stop w Bn _ (by omega)) ?ownx hI4
    _ ?assign ?body ?done ?stop
  case ownx =>
    intro c xs A B row h hg hr
    rcases h with h | ⟨h1, h2, h3, h4⟩
    · exact Or.inl h
    · exact Or.inr ⟨h1, h2, h3, UpsI.own s stop w Bn _ (by omega) xs A B row h4 hg hr⟩
  case assign =>
    intro l x W K hK
    gi_wp2
    exact hK
  case body =>
    rintro l pre x W hI hlt
    have UC := Lib.hid (under_c s x.1 (by have := x.2; omega))
    have RC := Lib.hid (right_c x.1 W (by have := x.2; omega) (HM.out.below hI.below))
    have hbad : ¬ (underB s x.1 = true ∧ x.1.size < (lastB s pre).size ∧ scopeOk x.1 = true) → Bad s (pre ++ [x]) := fun h => ⟨pre, x, rfl, h⟩
    have hsn := lastB_snoc s pre x
    have hln : (pre ++ [x]).length = pre.length + 1 := by simp
    obtain ⟨LB, hLB⟩ : ∃ LB, LB = lastB s pre := ⟨_, rfl⟩
    obtain ⟨L, hL⟩ : ∃ L, L = pre.length := ⟨_, rfl⟩
    obtain ⟨Y, hY⟩ : ∃ Y, Y = x.1 := ⟨_, rfl⟩
    rw [← hLB, ← hY] at hbad
    rw [← hLB, ← hL] at hI
    rw [← hL] at hln
    rw [← hY] at UC RC hsn
    have c0 := hI.s0.cell
    have c1 := hI.s1.cell
    have cn := hI.n.cell
    have cl := hI.l.cell
    have cr := hI.r.cell
    have fn := hI.n.frozen
    have fl := hI.l.frozen
    have fr := hI.r.frozen
    have HI := Lib.hid hI
    clear hI
    have hY2 : x.val = Y := hY.symm
    obtain ⟨U, hU⟩ : ∃ U, U = underB s Y := ⟨_, rfl⟩
    obtain ⟨RX, hRX⟩ : ∃ U, U = scopeOk Y := ⟨_, rfl⟩
    rw [← hU] at UC hbad
    rw [← hRX] at RC hbad
    have HBAD := Lib.hid hbad
    have HSN := Lib.hid hsn
    have HLN := Lib.hid hln
    have hL3 : L ≤ 299 := by omega
    clear hbad hsn hln hU hRX hLB hL hY hlt
    cases U
    · gi_wp2_with fail
      try simp only [hY2]
      refine (CallsIn.inRound l (callsIn_wide.2 (UC.out _))).mono ?_
      rintro e w5 ⟨rfl, hw5⟩
      subst hw5
      gi_wp2_with fail
      exact ⟨(KeepsOthers.setCell W ⟨w.heap.size + 1 + 1, 0, none⟩ (.bool false)).from _, Or.inl ⟨rfl, HBAD.out (by simp)⟩⟩
    by_cases hsz : LB.size ≤ Y.size
    · have hsz' : (LB.size : Int) ≤ (Y.size : Int) := by omega
      gi_wp2_with fail
      try simp only [hY2]
      refine (CallsIn.inRound l (callsIn_wide.2 (UC.out _))).mono ?_
      rintro e w5 ⟨rfl, hw5⟩
      subst hw5
      gi_wp2_with fail
      exact ⟨(KeepsOthers.setCell W ⟨w.heap.size + 1 + 1, 0, none⟩ (.bool false)).from _, Or.inl ⟨rfl, HBAD.out (by omega)⟩⟩
    have hsz' : decide ((LB.size : Int) ≤ (Y.size : Int)) = false := by simp; omega
    gi_wp2_with fail
    try simp only [hY2]
    refine (CallsIn.inRound l (callsIn_wide.2 (UC.out _))).mono ?_
    rintro e w5 ⟨rfl, hw5⟩
    subst hw5
    gi_wp2_with fail
    try simp only [hY2]
    refine (CallsIn.inRound l (callsIn_wide.2 RC.out)).mono ?_
    rintro e w5 ⟨rfl, hb5⟩
    have hI5 := HI.out.under hb5
    have HKF := Lib.hid (keepsFrom_below (B := w4.heap.size) hb5 (Nat.le_refl _))
    have HB5 := Lib.hid (hb5.mono HI.out.below.size)
    clear hb5 c0 c1 cn cl cr fn fl fr
    have c0 := hI5.s0.cell
    have c1 := hI5.s1.cell
    have cn := hI5.n.cell
    have cl := hI5.l.cell
    have cr := hI5.r.cell
    have fn := hI5.n.frozen
    have fl := hI5.l.frozen
    have fr := hI5.r.frozen
    have HI5 := Lib.hid hI5
    clear hI5
    cases RX
    · gi_wp2_with fail
      exact ⟨HKF.out.trans ((KeepsOthers.setCell w5 ⟨w.heap.size + 1 + 1, 0, none⟩ (.bool false)).from _), Or.inl ⟨rfl, HBAD.out (by simp)⟩⟩
    · obtain ⟨hfit, hne, hne2, hne3, hle, hle1, hL4⟩ := ups_ar w.heap.size Bn L hBn hL3
      have HST := Lib.hid (HI5.out.step hBn Y)
      have cna : ∀ v, (w5.setCell ⟨Bn + 1, 0, none⟩ v).cell? ⟨Bn, 0, none⟩ = some (.int .i64 (L : Int)) := fun v => (HI5.out.n.other hne v).cell
      have c1a := HST.out.s1.cell
      have cnb := HST.out.n.cell
      have HK2 : Hid (KeepsFrom w4.heap.size W ((w5.setCell ⟨Bn + 1, 0, none⟩ (.string Y)).setCell ⟨Bn, 0, none⟩ (.int .i64 ((L : Int) + 1)))) := Lib.hid ((HKF.out.trans ((KeepsOthers.setCell w5 ⟨Bn + 1, 0, none⟩ (.string Y)).from _)).trans ((KeepsOthers.setCell _ ⟨Bn, 0, none⟩ (.int .i64 ((L : Int) + 1))).from _))
      have HB2 : Hid (Below w.heap.size W ((w5.setCell ⟨Bn + 1, 0, none⟩ (.string Y)).setCell ⟨Bn, 0, none⟩ (.int .i64 ((L : Int) + 1)))) := Lib.hid ((HB5.out.setCell (p := ⟨Bn + 1, 0, none⟩) hle1 _).setCell (p := ⟨Bn, 0, none⟩) hle _)
      obtain ⟨W6, hW6⟩ : ∃ W6, W6 = (w5.setCell ⟨Bn + 1, 0, none⟩ (.string Y)).setCell ⟨Bn, 0, none⟩ (.int .i64 ((L : Int) + 1)) := ⟨_, rfl⟩
      rw [← hW6] at HST c1a cnb HK2 HB2
      have hW6' := hW6.symm
      clear hW6
      have HS6 : Hid (UpsI s stop w Bn (pre ++ [x]).length (lastB s (pre ++ [x])) W6) := Lib.hid (by rw [HLN.out, HSN.out]; exact HST.out)
      have HN6 : Hid ((((pre ++ [x]).length : Nat) : Int) = (L : Int) + 1 ∧ (pre ++ [x]).length ≤ 300) := Lib.hid (by rw [HLN.out]; exact ⟨rfl, hL4⟩)
      clear HST HLN HSN HBAD HI5 HKF HB5 HI
      cases hst : ((L : Int) + 1 == stop)
      · gi_wp2_with fail
        exact ⟨HK2.out, HB2.out, HS6.out⟩
      · have hst2 : Hid ((L : Int) + 1 = stop) := Lib.hid (eq_of_beq hst)
        gi_wp2_with fail
        exact ⟨HK2.out, Or.inr ⟨rfl, HN6.out.1.trans hst2.out, HN6.out.2, HS6.out⟩⟩
  case done =>
    rintro D ys W hD hys hI hK
    have hlast := lastB_done s ys hys
    have hlen := len_done s HG.out ys hys
    rw [hlast] at hI
    obtain ⟨L, hL⟩ : ∃ L, L = ys.length := ⟨_, rfl⟩
    rw [← hL] at hI hlen
    clear hL hlast hys
    by_cases hE : s.toList = []
    · have hE2 : s.toList.isEmpty = true := by rw [hE]; rfl
      rw [if_pos hE] at hlen
      subst hlen
      have c0 := hI.s0.cell
      have c1 := hI.s1.cell
      have cn := hI.n.cell
      have cl := hI.l.cell
      have cr := hI.r.cell
      have fr := hI.r.frozen
      have HI := Lib.hid hI
      have HK := Lib.hid hK
      clear hI hK
      gi_wp2_with fail
      have hI6 := HI.out
      have hbx := Boxed.set (.bool true) hI6.r
      have hK6 := (KeepsOthers.setCell W ⟨w.heap.size + 2, 0, none⟩ (.bool true)).same D _ HK.out rfl
      have cf := cell_kept hbx.cell (grownBy_putObj' _ D (.deferred none)) (fun r e => by cases e; exact ⟨_, hK6, rfl⟩)
      refine ⟨by simp, .inl ⟨_, _, rfl, run_takeDeferred hK6, ?_⟩⟩
      exact ⟨.bool true, by simp [results, Tryd.f5, go_sem, cf], rfl, (hI6.below.setCell (p := ⟨w.heap.size + 2, 0, none⟩) (by simp) _).trans (belowK_b (w := w) (Nat.le_refl _) _ D _ _ (by omega) hK6 rfl rfl)⟩
    · have hE1 : (s.toList == []) = false := by simpa using hE
      have hE2 : s.toList.isEmpty = false := by simpa using hE
      rw [if_neg hE] at hlen
      obtain ⟨C, hC⟩ : ∃ C, C = (cutB s).length := ⟨_, rfl⟩
      have hCb : C ≤ 201 := by
        have h3 := Sc.cutL_le s.data.toList
        have h4 : s.data.toList.length = s.size := Array.length_toList
        rw [hC]; unfold cutB; rw [List.length_map]; omega
      have PW2 : Hid (∀ W : World, Calls Tryd.prog 9 #[.string s] W fun e W' => ∃ b cap, e = .returned (.slice (some ⟨b, 0, none⟩) C cap) ∧ Below W.heap.size W W') := Lib.hid (fun W => (PW.out W).mono fun _ _ ⟨b, cap, h1, _, h2⟩ => ⟨b, cap, by rw [hC]; exact h1, h2⟩)
      rw [← hC] at hlen
      subst hlen
      clear hC PW
      have hfit : wrap64 ((C : Int) + 1) = (C : Int) + 1 := by unfold wrap64; omega
      have c0 := hI.s0.cell
      have c1 := hI.s1.cell
      have cn := hI.n.cell
      have cl := hI.l.cell
      have cr := hI.r.cell
      have fr := hI.r.frozen
      have HI := Lib.hid hI
      have HK := Lib.hid hK
      clear hI hK
      rw [show (((C + 1 : Nat)) : Int) = (C : Int) + 1 by omega] at cn
      gi_wp2_with fail
      refine (callsIn_wide.2 (PW2.out _)).mono ?_
      rintro e W7 ⟨b, cap, rfl, hb7⟩
      have hI7 := HI.out.under hb7
      have HK7 := Lib.hid ((hb7.block D (Array.getElem?_eq_some_iff.1 HK.out).1).trans HK.out)
      clear c0 c1 cn cl cr fr HI HK hb7
      have c0 := hI7.s0.cell
      have c1 := hI7.s1.cell
      have cn := hI7.n.cell
      have cl := hI7.l.cell
      have cr := hI7.r.cell
      have fr := hI7.r.frozen
      have HI7 := Lib.hid hI7
      clear hI7
      rw [show (((C + 1 : Nat)) : Int) = (C : Int) + 1 by omega] at cn
      gi_wp2_with fail
      have hbx := Boxed.set (.bool true) HI7.out.r
      have hK6 := (KeepsOthers.setCell W7 ⟨w.heap.size + 2, 0, none⟩ (.bool true)).same D _ HK7.out rfl
      have cf := cell_kept hbx.cell (grownBy_putObj' _ D (.deferred none)) (fun r e => by cases e; exact ⟨_, hK6, rfl⟩)
      refine ⟨by simp, .inl ⟨_, _, rfl, run_takeDeferred hK6, ?_⟩⟩
      exact ⟨.bool true, by simp [results, Tryd.f5, go_sem, cf], rfl, (HI7.out.below.setCell (p := ⟨w.heap.size + 2, 0, none⟩) (by simp) _).trans (belowK_b (w := w) (Nat.le_refl _) _ D _ _ (by omega) hK6 rfl rfl)⟩
  case stop =>
    rintro D c pre W hD hpre h hK
    rcases h with ⟨_, hb⟩ | ⟨rfl, hst, hln, hI⟩
    · exact (bad_no s HG.out pre hb hpre).elim
    obtain ⟨LB, hLB⟩ : ∃ LB, LB = lastB s pre := ⟨_, rfl⟩
    obtain ⟨L, hL⟩ : ∃ L, L = pre.length := ⟨_, rfl⟩
    rw [← hLB, ← hL] at hI
    rw [← hL] at hst hln
    subst hst
    clear hLB hL
    have c0 := hI.s0.cell
    have c1 := hI.s1.cell
    have cn := hI.n.cell
    have cl := hI.l.cell
    have cr := hI.r.cell
    have fr := hI.r.frozen
    have HI := Lib.hid hI
    have HK := Lib.hid hK
    clear hI hK
    have hself : ((L : Int) == (L : Int)) = true := by simp
    by_cases hE : s.toList = []
    · have hE2 : s.toList.isEmpty = true := by rw [hE]; rfl
      cases hl1 : ((L : Int) == 1)
      · gi_wp2_with fail
        have hbx := Boxed.set (.bool true) HI.out.r
        have hK6 := (KeepsOthers.setCell W ⟨w.heap.size + 2, 0, none⟩ (.bool true)).same D _ HK.out rfl
        have cf := cell_kept hbx.cell (grownBy_putObj' _ D (.deferred none)) (fun r e => by cases e; exact ⟨_, hK6, rfl⟩)
        refine ⟨by simp, .inl ⟨_, _, rfl, run_takeDeferred hK6, ?_⟩⟩
        exact ⟨.bool true, by simp [results, Tryd.f5, go_sem, cf], rfl, (HI.out.below.setCell (p := ⟨w.heap.size + 2, 0, none⟩) (by simp) _).trans (belowK_b (w := w) (Nat.le_refl _) _ D _ _ (by omega) hK6 rfl rfl)⟩
      · rcases (show (LB.toList = [] ∧ LB.toList.isEmpty = true) ∨ ((LB.toList == []) = false ∧ LB.toList.isEmpty = false) by
          cases hq : LB.toList <;> simp) with ⟨hq, hq2⟩ | ⟨hq, hq2⟩
        all_goals
          gi_wp2_with fail
          have hbx := Boxed.set (.bool true) HI.out.r
          have hK6 := (KeepsOthers.setCell W ⟨w.heap.size + 2, 0, none⟩ (.bool true)).same D _ HK.out rfl
          have cf := cell_kept hbx.cell (grownBy_putObj' _ D (.deferred none)) (fun r e => by cases e; exact ⟨_, hK6, rfl⟩)
          refine ⟨by simp, .inl ⟨_, _, rfl, run_takeDeferred hK6, ?_⟩⟩
          exact ⟨.bool true, by simp [results, Tryd.f5, go_sem, cf], rfl, (HI.out.below.setCell (p := ⟨w.heap.size + 2, 0, none⟩) (by simp) _).trans (belowK_b (w := w) (Nat.le_refl _) _ D _ _ (by omega) hK6 rfl rfl)⟩
    · have hE1 : (s.toList == []) = false := by simpa using hE
      have hE2 : s.toList.isEmpty = false := by simpa using hE
      obtain ⟨C, hC⟩ : ∃ C, C = (cutB s).length := ⟨_, rfl⟩
      have hCb : C ≤ 201 := by
        have h3 := Sc.cutL_le s.data.toList
        have h4 : s.data.toList.length = s.size := Array.length_toList
        rw [hC]; unfold cutB; rw [List.length_map]; omega
      have PW2 : Hid (∀ W : World, Calls Tryd.prog 9 #[.string s] W fun e W' => ∃ b cap, e = .returned (.slice (some ⟨b, 0, none⟩) C cap) ∧ Below W.heap.size W W') := Lib.hid (fun W => (PW.out W).mono fun _ _ ⟨b, cap, h1, _, h2⟩ => ⟨b, cap, by rw [hC]; exact h1, h2⟩)
      clear hC PW
      have hfit : wrap64 ((C : Int) + 1) = (C : Int) + 1 := by unfold wrap64; omega
      gi_wp2_with fail
      refine (callsIn_wide.2 (PW2.out _)).mono ?_
      rintro e W7 ⟨b, cap, rfl, hb7⟩
      have hI7 := HI.out.under hb7
      have HK7 := Lib.hid ((hb7.block D (Array.getElem?_eq_some_iff.1 HK.out).1).trans HK.out)
      clear c0 c1 cn cl cr fr HI HK hb7
      have c0 := hI7.s0.cell
      have c1 := hI7.s1.cell
      have cn := hI7.n.cell
      have cl := hI7.l.cell
      have cr := hI7.r.cell
      have fr := hI7.r.frozen
      have HI7 := Lib.hid hI7
      clear hI7
      cases hl1 : ((L : Int) == (C : Int) + 1)
      · gi_wp2_with fail
        have hbx := Boxed.set (.bool true) HI7.out.r
        have hK6 := (KeepsOthers.setCell W7 ⟨w.heap.size + 2, 0, none⟩ (.bool true)).same D _ HK7.out rfl
        have cf := cell_kept hbx.cell (grownBy_putObj' _ D (.deferred none)) (fun r e => by cases e; exact ⟨_, hK6, rfl⟩)
        refine ⟨by simp, .inl ⟨_, _, rfl, run_takeDeferred hK6, ?_⟩⟩
        exact ⟨.bool true, by simp [results, Tryd.f5, go_sem, cf], rfl, (HI7.out.below.setCell (p := ⟨w.heap.size + 2, 0, none⟩) (by simp) _).trans (belowK_b (w := w) (Nat.le_refl _) _ D _ _ (by omega) hK6 rfl rfl)⟩
      · rcases (show (LB.toList = [] ∧ LB.toList.isEmpty = true) ∨ ((LB.toList == []) = false ∧ LB.toList.isEmpty = false) by
          cases hq : LB.toList <;> simp) with ⟨hq, hq2⟩ | ⟨hq, hq2⟩
        all_goals
          gi_wp2_with fail
          have hbx := Boxed.set (.bool true) HI7.out.r
          have hK6 := (KeepsOthers.setCell W7 ⟨w.heap.size + 2, 0, none⟩ (.bool true)).same D _ HK7.out rfl
          have cf := cell_kept hbx.cell (grownBy_putObj' _ D (.deferred none)) (fun r e => by cases e; exact ⟨_, hK6, rfl⟩)
          refine ⟨by simp, .inl ⟨_, _, rfl, run_takeDeferred hK6, ?_⟩⟩
          exact ⟨.bool true, by simp [results, Tryd.f5, go_sem, cf], rfl, (HI7.out.below.setCell (p := ⟨w.heap.size + 2, 0, none⟩) (by simp) _).trans (belowK_b (w := w) (Nat.le_refl _) _ D _ _ (by omega) hK6 rfl rfl)⟩
end Go.Proofs.YtilkmpnloblheaaDoor
