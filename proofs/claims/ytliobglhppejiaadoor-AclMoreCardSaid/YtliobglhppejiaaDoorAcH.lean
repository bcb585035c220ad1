/- acl's of and Home, of any rules. -/
import Derived.Test.YtliobglhppejiaaDoorBackR
import Derived.Test.YtliobglhppejiaaDoorAcR
import Derived.RangeFuncBox
import Derived.Maps.AppendAt
namespace Go.Proofs.YtliobglhppejiaaDoor
open Go.RowKit Go.Shelf
open Go.Proofs
set_option maxRecDepth 100000
attribute [local go_sem] Oper.semAt_some

set_option maxHeartbeats 2000000 in
theorem of_c (k tn : Int) (who : ByteArray) (br : Int) (sc : ByteArray) (co : Option Addr) (n cap : Nat) (nm : ByteArray) (ix : Int) (k2 t2 : Int) (who2 : ByteArray) (w : World) :
    Calls Tryd.prog 33 #[rul k tn who br sc co n cap nm ix, .int .i64 k2, .int .i64 t2, .string who2] w fun e w' => e = .returned (.bool ((k == k2) && ((tn == t2) && (who.toList == who2.toList)))) ∧ Below w.heap.size w w' := by
  have hB : Below w.heap.size w (w.alloc (.cells (ruls k tn who br sc co n cap nm ix) 26)) := (Below.refl _ _).alloc (Nat.le_refl _) _
  have HB := Lib.hid hB
  clear hB
  cases h1 : (k == k2)
  · go_enter Tryd.func33, Tryd.ntmps33
    go_wp2_with fail
    go_ret
    exact ⟨rfl, HB.out⟩
  · cases h2 : (tn == t2)
    · go_enter Tryd.func33, Tryd.ntmps33
      go_wp2_with fail
      go_ret
      exact ⟨rfl, HB.out⟩
    · cases h3 : (who.toList == who2.toList)
      all_goals
        go_enter Tryd.func33, Tryd.ntmps33
        go_wp2_with fail
        go_ret
        exact ⟨rfl, HB.out⟩
theorem of_r (r : Ru) (k2 t2 : Int) (who2 : ByteArray) (w : World) :
    Calls Tryd.prog 33 #[.agg (encR r).toArray, .int .i64 k2, .int .i64 t2, .string who2] w fun e w' => e = .returned (.bool (ofR r k2 t2 who2)) ∧ Below w.heap.size w w' :=
  of_c r.k r.tn r.who r.br r.sc r.co r.cs.length r.cap r.nm r.ix k2 t2 who2 w

/-! ### Home -/
theorem boxR_under {n : Nat} {W W' : World} {B : Nat} {t : TypeId} {v : Value} (h : Boxed W B t v) (hb : Below n W W') (hn : W.heap.size ≤ n) : Boxed W' B t v := (hb.block B (Nat.lt_of_lt_of_le h.lt hn)).trans h
theorem keepsR_below {n B : Nat} {W W' : World} (hb : Below n W W') (hn : W.heap.size ≤ n) : KeepsFrom B W W' := ⟨hb.size, fun k _ _ hk _ => (hb.block k (Nat.lt_of_lt_of_le (Array.getElem?_eq_some_iff.1 hk).1 hn)).trans hk⟩
theorem keepRb {n₀ Bs : Nat} {w : World} (hn : n₀ ≤ w.heap.size) (W : World) (l : Nat) (o o' : Obj) (hl : w.heap.size ≤ l) (h : W.heap[l]? = some o) (hc : o.isCells = false) (hw : o.isWalk = false) : KeepR n₀ Bs W (W.putObj l o') := by
  refine ⟨belowK_b hn W l o o' hl h hc hw, fun v hv => ?_⟩
  have hne : Bs ≠ l := fun e => by
    subst e
    simp only [World.cell?, h] at hv
    cases o <;> simp_all [Obj.isCells]
  have e : (W.putObj l o').heap[Bs]? = W.heap[Bs]? := World.putObj_heap_other hne
  simp only [World.cell?, e]
  exact hv
theorem backwardR_c (sv : Value) (hs : ∃ a len cap, sv = .slice a len cap) (w : World) :
    Calls Tryd.prog 32 #[sv] w fun e w' => e = .returned (.func (.func 54) #[] #[.pointer (some ⟨w.heap.size, 0, none⟩)]) ∧ w' = w.alloc (.cells #[sv] 29) := by
  obtain ⟨a, len, cap, rfl⟩ := hs
  go_enter Tryd.func32, Tryd.ntmps32
  go_wp2
  go_ret
  exact ⟨rfl, rfl⟩
/-- The blocks of its own. -/
structure HomeI (w : World) (tn : Int) (who : ByteArray) (v : Int) (b : Bool) (W : World) : Prop where
  t : Boxed W w.heap.size 3 (.int .i64 tn)
  s : Boxed W (w.heap.size + 1) 9 (.string who)
  n : Boxed W (w.heap.size + 2) 3 (.int .i64 v)
  b : Boxed W (w.heap.size + 3) 4 (.bool b)
  below : Below w.heap.size w W
  size : w.heap.size + 5 ≤ W.heap.size
theorem HomeI.under {w W W' : World} {tn : Int} {who : ByteArray} {v : Int} {b : Bool} (h : HomeI w tn who v b W) (hb : Below W.heap.size W W') : HomeI w tn who v b W' :=
  ⟨boxR_under h.t hb (Nat.le_refl _), boxR_under h.s hb (Nat.le_refl _), boxR_under h.n hb (Nat.le_refl _), boxR_under h.b hb (Nat.le_refl _), h.below.trans (hb.mono h.below.size), Nat.le_trans h.size hb.size⟩
theorem HomeI.kept {B : Nat} {w W W' : World} {tn : Int} {who : ByteArray} {v : Int} {b : Bool} {row : Option Nat} (hB : w.heap.size ≤ B) (h : HomeI w tn who v b W) (hg : W.grownBy W' row) (hr : ∀ k, row = some k → B ≤ k ∧ ∃ o, W.heap[k]? = some o ∧ o.isCells = false) : HomeI w tn who v b W' := by
  have ne : ∀ (k : Nat) (t : TypeId) (v : Value), Boxed W k t v → Boxed W' k t v := fun k t v hk => by
    refine (hg.block k hk.lt (fun e => ?_)).trans hk
    obtain ⟨_, o, ho, hc⟩ := hr k e.symm
    have hk' : W.heap[k]? = _ := hk
    rw [hk'] at ho; cases ho; cases hc
  exact ⟨ne _ _ _ h.t, ne _ _ _ h.s, ne _ _ _ h.n, ne _ _ _ h.b, h.below.grown hg h.below.size (fun k e => Nat.le_trans hB (hr k e).1), Nat.le_trans h.size hg.size⟩
def homeI (rs : List Ru) (tn : Int) (who : ByteArray) : Int := (homeR rs tn who).getD 0
def homeB (rs : List Ru) (tn : Int) (who : ByteArray) : Bool := (homeR rs tn who).isSome
theorem backsR_map (rs : List Ru) (k : Nat) (hk : k ≤ rs.length) : (backsR rs k).map (·.2) = rs.reverse.take k := by
  apply List.ext_getElem
  · simp [backsR]; omega
  · intro j h1 h2
    simp only [backsR, List.length_map, List.length_range] at h1
    have hlt : rs.length - 1 - j < rs.length := by omega
    simp [backsR, hlt]
theorem homeR_none {rs : List Ru} {tn : Int} {who : ByteArray} (h : ∀ x ∈ backsR rs rs.length, ofR x.2 0 tn who = false) : homeR rs tn who = none := by
  unfold homeR
  have e := backsR_map rs rs.length (Nat.le_refl _)
  rw [List.take_of_length_le (by simp)] at e
  rw [List.find?_eq_none.2, Option.map_none]
  intro r hr
  rw [← e] at hr
  obtain ⟨x, hx, rfl⟩ := List.mem_map.1 hr
  simp [h x hx]
theorem homeR_some {rs : List Ru} {tn : Int} {who : ByteArray} {pre : List (Nat × Ru)} {x : Nat × Ru} {k : Nat} (hk : k ≤ rs.length) (he : pre ++ [x] = backsR rs k) (h : ∀ y ∈ pre, ofR y.2 0 tn who = false) (hx : ofR x.2 0 tn who = true) : homeR rs tn who = some x.2.br := by
  unfold homeR
  have e := backsR_map rs k hk
  rw [← he, List.map_append] at e
  have e2 : rs.reverse = (pre.map (·.2) ++ [x.2]) ++ rs.reverse.drop k := by
    have := (List.take_append_drop k rs.reverse).symm
    rw [← e] at this; simpa using this
  rw [e2, List.append_assoc, List.find?_append, List.find?_eq_none.2 (by
    intro r hr
    obtain ⟨y, hy, rfl⟩ := List.mem_map.1 hr
    simp [h y hy])]
  simp [hx]

set_option maxHeartbeats 4000000 in
theorem home_c (ao : Option Addr) (cap : Nat) (rs : List Ru) (tn : Int) (who : ByteArray) (w : World) (hl : RulesB w.heap.size w ao rs) (hn : rs.length * 8 ≤ 140737488351232) :
    Calls Tryd.prog 15 #[.slice ao rs.length cap, .int .i64 tn, .string who] w fun e w' => e = .returned (.tuple #[.int .i64 (homeI rs tn who), .bool (homeB rs tn who)]) ∧ Below w.heap.size w w' := by
  refine (callsIn_wide (n := 6)).1 ?_
  refine callsIn_of_wp_marks Tryd.func15 rfl trivial ?_ rfl
  simp only [Tryd.ntmps15, List.size_toArray, List.length_cons, List.length_nil, Nat.reduceAdd, Nat.reduceSub, Array.replicate_succ, Array.replicate_zero, List.push_toArray, List.append_toArray, List.nil_append, List.cons_append]
  generalize hN : rs.length = N at *
  have HN : Aside (rs.length = N) := hN
  have HL : Aside (RulesB w.heap.size w ao rs) := hl
  clear hN hl
  gi_wp2_with (refine ⟨trivial, ?_⟩; gi_at_call 32; refine (callsIn_wide.2 (backwardR_c _ ⟨_, _, _, rfl⟩ _)).mono ?_; rintro e w' ⟨rfl, rfl⟩)
  obtain ⟨W0, hW0⟩ : ∃ W0, (((((w.alloc (.cells #[.int .i64 tn] 3)).alloc (.cells #[.string who] 9)).alloc (.cells #[.int .i64 0] 3)).alloc (.cells #[.bool false] 4)).alloc (.cells #[.slice ao N cap] 29)) = W0 := ⟨_, rfl⟩
  obtain ⟨Bs, hBs⟩ : ∃ Bs, Bs = w.heap.size + 1 + 1 + 1 + 1 := ⟨_, rfl⟩
  rw [hW0, ← hBs]
  have hs0 : W0.heap.size = Bs + 1 := by rw [← hW0, hBs]; simp
  have hbel0 : Below w.heap.size w W0 := by
    rw [← hW0]; exact (((((Below.refl _ w).alloc (Nat.le_refl _) _).alloc (by simp) _).alloc (by simp; omega) _).alloc (by simp; omega) _).alloc (by simp; omega) _
  have I0 : Aside (HomeI w tn who 0 false W0) := by
    show HomeI w tn who 0 false W0
    rw [← hW0]
    refine ⟨((((Boxed.new w _ _).alloc _).alloc _).alloc _).alloc _, ?_, ?_, ?_, by rw [hW0]; exact hbel0, by simp⟩
    · have := (((Boxed.new (w.alloc (.cells #[.int .i64 tn] 3)) 9 (.string who)).alloc (.cells #[.int .i64 0] 3)).alloc (.cells #[.bool false] 4)).alloc (.cells #[.slice ao N cap] 29)
      rw [World.size_alloc] at this; exact this
    · have := ((Boxed.new ((w.alloc (.cells #[.int .i64 tn] 3)).alloc (.cells #[.string who] 9)) 3 (.int .i64 0)).alloc (.cells #[.bool false] 4)).alloc (.cells #[.slice ao N cap] 29)
      rw [World.size_alloc, World.size_alloc] at this; exact this
    · have := (Boxed.new (((w.alloc (.cells #[.int .i64 tn] 3)).alloc (.cells #[.string who] 9)).alloc (.cells #[.int .i64 0] 3)) 4 (.bool false)).alloc (.cells #[.slice ao N cap] 29)
      rw [World.size_alloc, World.size_alloc, World.size_alloc] at this; exact this
  have hBs0 : W0.cell? ⟨Bs, 0, none⟩ = some (.slice ao N cap) := by
    rw [← hW0]
    have := World.cell?_alloc_new ((((w.alloc (.cells #[.int .i64 tn] 3)).alloc (.cells #[.string who] 9)).alloc (.cells #[.int .i64 0] 3)).alloc (.cells #[.bool false] 4)) #[.slice ao N cap] 29 0
    rw [World.size_alloc, World.size_alloc, World.size_alloc, World.size_alloc, ← hBs] at this
    exact this
  have HSEQ : Aside (SeqStopsK Fence.wide (6 - 1) Tryd.prog 54 #[.pointer (some ⟨Bs, 0, none⟩)] (fun x : Nat × Ru => #[.int .i64 (x.1 : Int), .agg (encR x.2).toArray]) (KeepR w.heap.size Bs) (fun ys => ys = backsR rs N) (fun pre => ∃ k, k ≤ N ∧ pre = backsR rs k) N W0) := fun l J Jx W hW _ _ hY h0 => by
    have hc' := (hW.cell (p := ⟨Bs, 0, none⟩) (by show Bs < _; omega)).trans hBs0
    rw [← HN.out] at hc'
    rcases HL.out.1 with h0' | ⟨b, off, rfl, hb, hrow⟩
    · have hN0 : N = 0 := by rw [← HN.out, h0']; rfl
      rw [h0'] at hc'
      refine (backwardR0_in Fence.wide (6 - 1) trivial rfl l Bs cap ao J W hc' h0).mono ?_
      rintro e W' ⟨he, hj⟩
      refine ⟨he, .inl ⟨[], ?_, hj⟩⟩
      rw [hN0]; rfl
    · have h := backwardR1_in Fence.wide (6 - 1) trivial rfl (by omega) l Bs w.heap.size b off cap rs (by have := HN.out; omega) hb J Jx (by rw [HN.out]; exact hY) W hc' (RowR.below (hbel0.trans (hW.mono (by omega))) hb hrow) h0
      rw [HN.out] at h
      exact h
  have HBs : Aside (Bs = w.heap.size + 4) := by show Bs = _; omega
  clear hBs0 hbel0 hW0 hBs
  refine wpIn_rangeFunc_ownH rfl (by omega) (gf := 54) (lb := #[.pointer (some ⟨Bs, 0, none⟩)]) rfl trivial (enters_of Tryd.func54 (by kernel_rfl) rfl)
    HSEQ.out (fun h k => h.trans k) (keepRb (by have := HBs.out; omega)) (Below.refl _ _) (fun _ => rfl)
    (fun pre W => HomeI w tn who 0 false W ∧ ∀ x ∈ pre, ofR x.2 0 tn who = false)
    (fun c pre W => c = .ret ∧ ∃ p x, pre = p ++ [x] ∧ (∀ y ∈ p, ofR y.2 0 tn who = false) ∧ ofR x.2 0 tn who = true ∧ HomeI w tn who x.2.br true W)
    (fun pre W W' row h hg hr => ⟨h.1.kept (by have := HBs.out; omega) hg hr, h.2⟩)
    (fun c pre W W' row h hg hr => by
      obtain ⟨h1, p, x, h2, h3, h4, h5⟩ := h
      exact ⟨h1, p, x, h2, h3, h4, h5.kept (by have := HBs.out; omega) hg hr⟩)
    ⟨I0.out, fun x hx => by simp at hx⟩
    (fun x a' W => ∃ Bx, Bs < Bx ∧ W.heap[Bx]? = some (.cells (encR x.2).toArray 26 (0, 0)) ∧ a' = { tmps := #[.slice ao N cap, .int .i64 tn, .string who, undef, .pointer (some ⟨w.heap.size, 0, none⟩), .pointer (some ⟨w.heap.size + 1, 0, none⟩), .pointer (some ⟨w.heap.size + 1 + 1, 0, none⟩), .pointer (some ⟨w.heap.size + 1 + 1 + 1, 0, none⟩), undef, .pointer (some ⟨Bx, 0, none⟩), .slice ao N cap, .func (.func 54) #[] #[.pointer (some ⟨Bs, 0, none⟩)], .int .i64 (x.1 : Int), .agg (encR x.2).toArray, undef, undef, undef, undef, undef, undef], defers := [] })
    ?own ?assign ?body ?done ?stop
  case own =>
    rintro x a' _ X Y row ⟨Bx, h1, h2, h3⟩ hg hr
    refine ⟨Bx, h1, (hg.block Bx (Array.getElem?_eq_some_iff.1 h2).1 (fun e => ?_)).trans h2, h3⟩
    obtain ⟨_, o, ho, hc⟩ := hr Bx e.symm
    rw [h2] at ho; cases ho; cases hc
  case assign =>
    rintro l pre ⟨i, ⟨rk, rt, rw1, rb, rsc, rco, rcap, rcs, rn, rix⟩⟩ W K hi hK
    have IA := Lib.hid hi
    have HK := Lib.hid hK
    clear hi hK
    simp only [encR]
    gi_wp2
    have hsz := IA.out.1.size
    have hbs := IA.out.1.below.size
    exact HK.out _ _ ((KeepsOthers.alloc _ _).from _) ⟨(Below.refl _ W).alloc hbs _, fun v hv => Lib.cell?_alloc_some _ hv⟩ ⟨IA.out.1.under ((Below.refl _ W).alloc (Nat.le_refl _) _), IA.out.2⟩ ⟨W.heap.size, by have := HBs.out; omega, World.alloc_heap_new W _, rfl⟩
  case body =>
    rintro l pre ⟨i, ⟨rk, rt, rw1, rb, rsc, rco, rcap, rcs, rn, rix⟩⟩ a' W hl ⟨r, hr⟩ hI ⟨Bx, hBx, bX, rfl⟩ hlt
    have HOF := Lib.hid (of_c rk rt rw1 rb rsc rco rcs.length rcap rn rix 0 tn who W)
    have HQ : Aside (ofR ⟨rk, rt, rw1, rb, rsc, rco, rcap, rcs, rn, rix⟩ 0 tn who = ((rk == 0) && ((rt == tn) && (rw1.toList == who.toList)))) := rfl
    generalize ((rk == 0) && ((rt == tn) && (rw1.toList == who.toList))) = q at HOF HQ
    have hBxW : Bx < W.heap.size := (Array.getElem?_eq_some_iff.1 bX).1
    simp only [encR] at bX
    have x0 : W.cell? ⟨Bx, 0, none⟩ = some (.int .i64 rk) := by simp [World.cell?, bX]
    have x1 : W.cell? ⟨Bx, 1, none⟩ = some (.int .i64 rt) := by simp [World.cell?, bX]
    have x2 : W.cell? ⟨Bx, 2, none⟩ = some (.string rw1) := by simp [World.cell?, bX]
    have x3 : W.cell? ⟨Bx, 3, none⟩ = some (.int .i64 rb) := by simp [World.cell?, bX]
    have x4 : W.cell? ⟨Bx, 4, none⟩ = some (.string rsc) := by simp [World.cell?, bX]
    have x5 : W.cell? ⟨Bx, 5, none⟩ = some (.slice rco rcs.length rcap) := by simp [World.cell?, bX]
    have x6 : W.cell? ⟨Bx, 6, none⟩ = some (.string rn) := by simp [World.cell?, bX]
    have x7 : W.cell? ⟨Bx, 7, none⟩ = some (.int .i64 rix) := by simp [World.cell?, bX]
    have ct := hI.1.t.cell
    have cs' := hI.1.s.cell
    have HI := Lib.hid hI
    clear hI bX hr
    gi_wp2_with fail
    refine ⟨trivial, ?_⟩
    refine (CallsIn.inRound l (callsIn_wide.2 HOF.out)).mono ?_
    rintro e w1 ⟨rfl, hb⟩
    have HKF := Lib.hid (keepsR_below (B := W0.heap.size) hb (Nat.le_refl _))
    have HKB := Lib.hid (show KeepR w.heap.size Bs W w1 from ⟨hb.mono HI.out.1.below.size, fun v hv => (hb.cell (p := ⟨Bs, 0, none⟩) (World.block_lt_of_cell? _ _ hv)).trans hv⟩)
    have hI1 := HI.out.1.under hb
    have x3' := (hb.cell (p := ⟨Bx, 3, none⟩) hBxW).trans x3
    have cn := hI1.n.cell
    have fn := hI1.n.frozen
    have cb := hI1.b.cell
    have fb := hI1.b.frozen
    have HI1 := Lib.hid hI1
    clear hb hI1 x0 x1 x2 x3 x4 x5 x6 x7 ct cs'
    cases q
    · gi_wp2_with fail
      refine ⟨HKF.out, HKB.out, HI1.out, fun y hy => ?_⟩
      rcases List.mem_append.1 hy with hy | hy
      · exact HI.out.2 y hy
      · obtain rfl : y = _ := by simpa using hy
        exact HQ.out
    · have cb' : ∀ v, (w1.setCell ⟨w.heap.size + 2, 0, none⟩ v).cell? ⟨w.heap.size + 3, 0, none⟩ = some (.bool false) := fun v => (HI1.out.b.other (by omega) v).cell
      have fb' : ∀ v, (w1.setCell ⟨w.heap.size + 2, 0, none⟩ v).frozen? ⟨w.heap.size + 3, 0, none⟩ = false := fun v => (HI1.out.b.other (by omega) v).frozen
      gi_wp2_with fail
      refine ⟨HKF.out.trans (((KeepsOthers.setCell w1 ⟨w.heap.size + 1 + 1, 0, none⟩ (.int .i64 rb)).from _).trans ((KeepsOthers.setCell _ ⟨w.heap.size + 1 + 1 + 1, 0, none⟩ (.bool true)).from _)), rfl, pre, _, rfl, HI.out.2, HQ.out, ?_⟩
      have h := HI1.out
      exact ⟨(h.t.other (by omega) _).other (by omega) _, (h.s.other (by omega) _).other (by omega) _, (h.n.set _).other (by omega) _, (h.b.other (by omega) _).set _, (h.below.setCell (p := ⟨w.heap.size + 2, 0, none⟩) (by simp) _).setCell (p := ⟨w.heap.size + 3, 0, none⟩) (by simp) _, by simpa using h.size⟩
  case done =>
    rintro D ys W hD rfl hI hK
    have hq : homeR rs tn who = none := homeR_none (by rw [HN.out]; exact hI.2)
    have e1 : homeI rs tn who = 0 := by unfold homeI; rw [hq]; rfl
    have e2 : homeB rs tn who = false := by unfold homeB; rw [hq]; rfl
    have E12 : Aside (_ ∧ _) := ⟨e1, e2⟩
    clear e1 e2 hq
    have cn := hI.1.n.cell
    have fn := hI.1.n.frozen
    have cb := hI.1.b.cell
    have fb := hI.1.b.frozen
    have cb' : ∀ v, (W.setCell ⟨w.heap.size + 2, 0, none⟩ v).cell? ⟨w.heap.size + 3, 0, none⟩ = some (.bool false) := fun v => (hI.1.b.other (by omega) v).cell
    have fb' : ∀ v, (W.setCell ⟨w.heap.size + 2, 0, none⟩ v).frozen? ⟨w.heap.size + 3, 0, none⟩ = false := fun v => (hI.1.b.other (by omega) v).frozen
    have HI := Lib.hid hI.1
    have HK := Lib.hid hK
    have HD := Lib.hid (show w.heap.size ≤ D by have := HBs.out; omega)
    clear hI hK hs0 I0 HSEQ hD
    gi_wp2_with fail
    have hx := HI.out
    have hbn := (hx.n.set (.int .i64 0)).other (B' := w.heap.size + 1 + 1 + 1) (by omega) (.bool false)
    have hbb := (hx.b.other (B' := w.heap.size + 1 + 1) (by omega) (.int .i64 0)).set (.bool false)
    have hK6 := (KeepsOthers.setCell (W.setCell ⟨w.heap.size + 1 + 1, 0, none⟩ (.int .i64 0)) ⟨w.heap.size + 1 + 1 + 1, 0, none⟩ (.bool false)).same D _ ((KeepsOthers.setCell W ⟨w.heap.size + 1 + 1, 0, none⟩ (.int .i64 0)).same D _ HK.out rfl) rfl
    have cf1 := cell_kept hbn.cell (grownBy_putObj' _ D (.deferred none)) (fun r e => by cases e; exact ⟨_, hK6, rfl⟩)
    have cf2 := cell_kept hbb.cell (grownBy_putObj' _ D (.deferred none)) (fun r e => by cases e; exact ⟨_, hK6, rfl⟩)
    refine ⟨by simp, .inl ⟨_, _, rfl, run_takeDeferred hK6, ?_⟩⟩
    exact ⟨.tuple #[.int .i64 0, .bool false], by simp [results, Tryd.f15, go_sem, cf1, cf2], by rw [E12.out.1, E12.out.2], ((hx.below.setCell (p := ⟨w.heap.size + 2, 0, none⟩) (by simp) _).setCell (p := ⟨w.heap.size + 3, 0, none⟩) (by simp) _).trans (belowK_b (w := w) (Nat.le_refl _) _ D _ _ HD.out hK6 rfl rfl)⟩
  case stop =>
    rintro D c pre W hD ⟨k, hk, hpre⟩ ⟨rfl, p, x, rfl, h3, h4, hI⟩ hK
    have hq : homeR rs tn who = some x.2.br := homeR_some (by rw [HN.out]; exact hk) hpre h3 h4
    have e1 : homeI rs tn who = x.2.br := by unfold homeI; rw [hq]; rfl
    have e2 : homeB rs tn who = true := by unfold homeB; rw [hq]; rfl
    have E12 : Aside (_ ∧ _) := ⟨e1, e2⟩
    clear e1 e2 hq
    have HI := Lib.hid hI
    have HK := Lib.hid hK
    have HD := Lib.hid (show w.heap.size ≤ D by have := HBs.out; omega)
    clear hI hK hs0 I0 HSEQ hD
    gi_wp2_with fail
    have hx := HI.out
    have cf1 := cell_kept hx.n.cell (grownBy_putObj' _ D (.deferred none)) (fun r e => by cases e; exact ⟨_, HK.out, rfl⟩)
    have cf2 := cell_kept hx.b.cell (grownBy_putObj' _ D (.deferred none)) (fun r e => by cases e; exact ⟨_, HK.out, rfl⟩)
    refine ⟨by simp, .inl ⟨_, _, rfl, run_takeDeferred HK.out, ?_⟩⟩
    exact ⟨.tuple #[.int .i64 x.2.br, .bool true], by simp [results, Tryd.f15, go_sem, cf1, cf2], by rw [E12.out.1, E12.out.2], hx.below.trans (belowK_b (w := w) (Nat.le_refl _) _ D _ _ HD.out HK.out rfl rfl)⟩
end Go.Proofs.YtliobglhppejiaaDoor
