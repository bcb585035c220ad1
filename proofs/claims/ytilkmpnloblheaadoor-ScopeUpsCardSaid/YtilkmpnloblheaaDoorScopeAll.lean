/- ScopeAll: going up tells just the scopes that one is below. -/
import Derived.Test.YtilkmpnloblheaaDoorScopeUp
import Derived.Sort.QuietIn
namespace Go.Proofs.YtilkmpnloblheaaDoor
open Go.RowKit Go.Shelf
open Go.Proofs
set_option maxRecDepth 100000
attribute [local go_sem] Oper.semAt_some
theorem wide_fn (f : FuncId) : Fence.wide.fn f = True := by simp [Fence.wide]
attribute [local go_sem] wide_fn

theorem cutB_pieces_ne (s : ByteArray) (h : scopeOk s = true) : ∀ p ∈ Sc.pieces s.data.toList, p ≠ [] := by
  intro p hp
  unfold Sc.pieces at hp
  split at hp
  · simp at hp
  · rename_i hne
    unfold scopeOk at h
    have hz : (s.size == 0) = false := by
      have h1 : s.data.toList.length = s.size := Array.length_toList
      have h2 : 0 < s.data.toList.length := List.length_pos_iff.2 hne
      rw [h1] at h2
      simp only [beq_eq_false_iff_ne]; omega
    rw [hz, Bool.false_or, Bool.and_eq_true] at h
    have := List.all_eq_true.1 h.2 (bsOf p) (List.mem_map_of_mem hp)
    intro e
    subst e
    revert this
    rw [show nameOk (bsOf []) = false by decide +kernel]
    simp
theorem upsB_mem (s t : ByteArray) (h : scopeOk s = true) : t ∈ upsB s ↔ underB s t = true := by
  unfold underB
  rw [← Sc.upL_mem s.data.toList t.data.toList (cutB_pieces_ne s h)]
  unfold upsB
  rw [List.mem_map]
  constructor
  · rintro ⟨x, hx, rfl⟩
    rw [data_bsOf]; exact hx
  · intro hx
    exact ⟨_, hx, bsOf_data t⟩
/-- Has it come? -/
def hasT {m : Nat} (t : ByteArray) (l : List (Tx m)) : Bool := l.any fun x => x.1.toList == t.toList
theorem hasT_snoc {m : Nat} (t : ByteArray) (l : List (Tx m)) (x : Tx m) : hasT t (l ++ [x]) = (hasT t l || (x.1.toList == t.toList)) := by
  unfold hasT; simp
theorem hasT_all {m : Nat} (s t : ByteArray) (h : scopeOk s = true) (l : List (Tx m)) (hl : l.map Subtype.val = upsB s) : hasT t l = underB s t := by
  rw [Bool.eq_iff_iff, ← upsB_mem s t h, ← hl]
  unfold hasT
  simp only [List.any_eq_true, beq_iff_eq, List.mem_map]
  constructor
  · rintro ⟨x, hx, e⟩
    refine ⟨x, hx, ?_⟩
    rw [bytes_toList, bytes_toList] at e
    rw [← bsOf_data x.1, ← bsOf_data t, e]
  · rintro ⟨x, hx, e⟩
    exact ⟨x, hx, by rw [e]⟩

set_option maxHeartbeats 4000000 in
theorem scopeAll_c (s t : ByteArray) (w : World) (hs : s.size ≤ 140737488351232) (ht : t.size ≤ 140737488351232) (hm : MaxI w) :
    Calls Tryd.prog 7 #[.string s, .string t] w fun e w' => e = .returned (.bool true) ∧ Below w.heap.size w w' := by
  obtain ⟨wb, hwb⟩ : ∃ wb, wb = w.alloc (.cells #[.string t] 9) := ⟨_, rfl⟩
  have hbb : Below w.heap.size w wb := by rw [hwb]; exact (Below.refl _ w).alloc (Nat.le_refl _) _
  have hbx : Boxed wb w.heap.size 9 (.string t) := by rw [hwb]; exact Boxed.new w _ _
  have hmb := hm.below hbb
  have FIT := Lib.hid (fit5_c hmb wb (Below.refl _ _))
  have HWB := Lib.hid hwb
  clear hwb
  have HBB := Lib.hid hbb
  have HBX := Lib.hid hbx
  have cellT : ∀ W, Below wb.heap.size wb W → W.cell? ⟨w.heap.size, 0, none⟩ = some (.string t) := fun W h => (h.cell (p := ⟨w.heap.size, 0, none⟩) HBX.out.lt).trans HBX.out.cell
  have CT := Lib.hid cellT
  clear cellT hbb hbx
  refine (callsIn_wide (n := 6)).1 ?_
  by_cases h300 : 200 < s.size + t.size
  · have h1 : (200 : Int) < (s.size : Int) + (t.size : Int) := by omega
    clear hm hmb
    refine callsIn_of_wp_marks Tryd.func7 rfl trivial ?_ rfl
    simp only [Tryd.ntmps7, List.size_toArray, List.length_cons, List.length_nil, Nat.reduceAdd, Nat.reduceSub, Array.replicate_succ, Array.replicate_zero, List.push_toArray, List.append_toArray, List.nil_append, List.cons_append]
    gi_wp2_with fail
    rw [← HWB.out]
    refine (callsIn_wide.2 FIT.out).mono ?_
    rintro e w1 ⟨rfl, hb1⟩
    have c1 := CT.out _ hb1
    have H1 := Lib.hid hb1
    clear hb1
    gi_wp2_with fail
    exact ⟨_, results_tmp rfl _ _ _, rfl, HBB.out.trans (H1.out.mono HBB.out.size)⟩
  have h1 : (s.size : Int) + (t.size : Int) ≤ 200 := by omega
  have h2 : decide ((200 : Int) < (s.size : Int) + (t.size : Int)) = false := by simp; omega
  have rs := rightW s hmb (by omega)
  have rt := rightW t hmb (by omega)
  have ust : ∀ W, Calls Tryd.prog 12 #[.string s, .string t] W fun e W' => e = .returned (.bool (underB s t)) ∧ W = W' := fun W => under_c s t (by omega) W
  have hin : ∀ l : List (Tx 200), scopeOk s = true → l.map Subtype.val = upsB s → hasT t l = underB s t := fun l h hl => hasT_all s t h l hl
  obtain ⟨U, eU⟩ : ∃ x, x = underB s t := ⟨_, rfl⟩
  obtain ⟨RS, eRS⟩ : ∃ x, x = scopeOk s := ⟨_, rfl⟩
  obtain ⟨RT, eRT⟩ : ∃ x, x = scopeOk t := ⟨_, rfl⟩
  rw [← eU] at ust hin
  rw [← eRS] at rs hin
  rw [← eRT] at rt
  have HRS := Lib.hid rs
  have HRT := Lib.hid rt
  have UST := Lib.hid ust
  have HIN := Lib.hid hin
  clear rs rt ust hin eU eRS eRT hm hmb h300
  refine callsIn_of_wp_marks Tryd.func7 rfl trivial ?_ rfl
  simp only [Tryd.ntmps7, List.size_toArray, List.length_cons, List.length_nil, Nat.reduceAdd, Nat.reduceSub, Array.replicate_succ, Array.replicate_zero, List.push_toArray, List.append_toArray, List.nil_append, List.cons_append]
  gi_wp2_with fail
  rw [← HWB.out]
  refine (callsIn_wide.2 FIT.out).mono ?_
  rintro e w1 ⟨rfl, hb1⟩
  have c1 := CT.out _ hb1
  have H1 := Lib.hid hb1
  clear hb1
  gi_wp2_with fail
  refine (callsIn_wide.2 (HRS.out _ H1.out)).mono ?_
  rintro e w2 ⟨rfl, hb2⟩
  have c2 := CT.out _ hb2
  have H2 := Lib.hid hb2
  clear hb2 c1
  cases RS
  · gi_wp2_with fail
    exact ⟨_, results_tmp rfl _ _ _, rfl, HBB.out.trans (H2.out.mono HBB.out.size)⟩
  gi_wp2_with fail
  refine (callsIn_wide.2 (HRT.out _ H2.out)).mono ?_
  rintro e w3 ⟨rfl, hb3⟩
  have c3 := CT.out _ hb3
  have H3 := Lib.hid hb3
  clear hb3 c2
  cases RT
  · gi_wp2_with fail
    exact ⟨_, results_tmp rfl _ _ _, rfl, HBB.out.trans (H3.out.mono HBB.out.size)⟩
  gi_wp2_with fail
  refine (callsIn_wide.2 (up_c s _)).mono ?_
  rintro e w4 ⟨rfl, hw4⟩
  have hbi : Boxed w4 w3.heap.size 4 (.bool false) := by rw [hw4]; exact (Boxed.new w3 _ _).alloc _
  have hbs : w4.cell? ⟨w3.heap.size + 1, 0, none⟩ = some (.string s) := by
    rw [hw4]
    have := World.cell?_alloc_new (w3.alloc (.cells #[.bool false] 4)) #[.string s] 9 0
    rw [World.size_alloc] at this
    exact this
  have hz4 : w4.heap.size = w3.heap.size + 2 := by rw [hw4]; simp
  have hb4 : Below wb.heap.size wb w4 := by rw [hw4]; exact (H3.out.alloc H3.out.size _).alloc (by have := H3.out.size; simp; omega) _
  rw [World.size_alloc]
  clear hw4 c3
  have h3s := H3.out.size
  obtain ⟨Bi, hBi⟩ : ∃ Bi, Bi = w3.heap.size := ⟨_, rfl⟩
  rw [← hBi] at hbi hbs hz4 h3s ⊢
  clear hBi H3 H2 H1
  have HSEQ := Lib.hid (up_stops (6 - 1) (by omega) (Bi + 1) wb.heap.size 200 s (by omega) (by omega) w4 hbs (by omega))
  clear hbs
  have hbw := HBB.out.size
  gi_wp2
  refine' wpIn_rangeFunc_ownG rfl (by omega) (gf := 18) (lb := #[.pointer (some ⟨Bi + 1, 0, none⟩)]) rfl trivial (enters_of Tryd.func18 (by kernel_rfl) rfl)
    HSEQ.out (fun h k => h.trans k) (belowK_b (by omega)) (Below.refl _ _) (fun _ => rfl)
    (fun pre W => Boxed W Bi 4 (.bool (hasT t pre)) ∧ Below wb.heap.size wb W) (fun _ _ _ => False)
    (OwnFrom.and (Own.from (boxed_own _ _ _) _) (ownFrom_below (by omega) (by omega))) (fun _ _ _ _ _ hs _ _ => hs) ⟨hbi, hb4⟩
    _ ?assign ?body ?done ?stop
  case assign =>
    intro l x W K hK
    gi_wp2
    exact hK
  case body =>
    rintro l pre x W ⟨hI, hB⟩ hlt
    have cB := hI.cell
    have fB := hI.frozen
    have cT := CT.out _ hB
    have hz := hI.lt
    have hsn := hasT_snoc t pre x
    have HB := Lib.hid hB
    have HI := Lib.hid hI
    clear hI hB
    cases hh : hasT t pre
    · rw [hh] at cB hsn
      rw [Bool.false_or] at hsn
      have HS := Lib.hid hsn
      clear hsn hh
      gi_wp2_with fail
      have hst := KeepsOthers.setCell W ⟨Bi, 0, none⟩ (.bool (x.1.toList == t.toList))
      have hb := (Below.refl wb.heap.size W).setCell (p := ⟨Bi, 0, none⟩) h3s (.bool (x.1.toList == t.toList))
      have hbx := HI.out.set (.bool (x.1.toList == t.toList))
      exact ⟨hst.from _, hb, by rw [HS.out]; exact hbx, HB.out.trans hb⟩
    · rw [hh] at cB hsn
      rw [Bool.true_or] at hsn
      have HS := Lib.hid hsn
      clear hsn hh
      gi_wp2_with fail
      have hst := KeepsOthers.setCell W ⟨Bi, 0, none⟩ (.bool true)
      have hb := (Below.refl wb.heap.size W).setCell (p := ⟨Bi, 0, none⟩) h3s (.bool true)
      have hbx := HI.out.set (.bool true)
      exact ⟨hst.from _, hb, by rw [HS.out]; exact hbx, HB.out.trans hb⟩
  case done =>
    rintro D ys W hD hys ⟨hI, hB⟩ hK
    have hU := HIN.out ys (by trivial) hys
    rw [hU] at hI
    have cB := hI.cell
    have cT := CT.out _ hB
    have HB := Lib.hid hB
    have HK := Lib.hid hK
    clear hI hB hK hU hys
    gi_wp2_with fail
    gi_quiet (first | (refine (callsIn_wide.2 (UST.out _)).mono ?_; rintro e w6 ⟨rfl, rfl⟩; exact ⟨rfl, _, rfl⟩) | (refine ⟨trivial, ?_⟩; refine (callsIn_wide.2 (UST.out _)).mono ?_; rintro e w6 ⟨rfl, rfl⟩; exact ⟨rfl, _, rfl⟩))
    gi_wp2
    have hKq : (W.drewN nq).heap[D]? = some (.deferred (some [])) := HK.out
    have hBq : Below wb.heap.size wb (W.drewN nq) := HB.out.trans ⟨rfl, rfl, rfl, Nat.le_refl _, fun _ _ => rfl⟩
    refine ⟨by simp, .inl ⟨_, _, rfl, run_takeDeferred hKq, ?_⟩⟩
    exact ⟨_, results_tmp rfl _ _ _, rfl, HBB.out.trans ((hBq.trans (belowK_b (w := wb) (Nat.le_refl _) (W.drewN nq) D _ _ (by omega) hKq rfl rfl)).mono HBB.out.size)⟩
  case stop =>
    rintro D c pre W _ _ h _
    exact h.elim
end Go.Proofs.YtilkmpnloblheaaDoor
