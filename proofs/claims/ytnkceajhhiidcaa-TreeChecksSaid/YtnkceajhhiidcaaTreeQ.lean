/- tree.Path, Near, Linked by their contracts. -/
import Derived.Test.YtnkceajhhiidcaaNewT
import Derived.Laws.CopyRow
namespace Go.Proofs.Ytnkceajhhiidcaa
open Go.RowKit Go.Shelf Go.Sort
open Go.Proofs
set_option maxRecDepth 100000
def copyS (tys : Array TypeId) (ty : TypeId) (args : Array Value) : Sem Value := Builtin.copy_ tys ty args
theorem copy_pre (tys : Array TypeId) (ty : TypeId) (args : Array Value) : Builtin.copy_ tys ty args = copyS tys ty args := rfl
attribute [local go_sem ↓] append_pre copy_pre

theorem hasB_iff {n : Nat} {b : Int} : hasB n b = true ↔ 0 ≤ b ∧ b < n := by unfold hasB; simp
/-- The way that Path tells. -/
def pathP (n m : Nat) (a b : Int) : Option (List Nat) := if hasB n a && hasB n b then wayF 7 m a.toNat b.toNat (-1) else some []
set_option maxHeartbeats 4000000 in
theorem path_c (T N n m : Nat) (a b : Int) (l : List Nat) (hl : pathP n m a b = some l) (w : World) (h : Tr w T N n m) :
    Calls Try.prog 13 #[tp T, .int .i64 a, .int .i64 b] w (WayIs w l) := by
  have HA := Lib.hid (fun w h => has_c T N n m a w h)
  have HB := Lib.hid (fun w h => has_c T N n m b w h)
  have HT := Lib.hid h
  unfold pathP at hl
  cases ha : hasB n a
  · rw [ha] at HA hl
    simp at hl
    subst hl
    clear h ha
    go_enter Try.func13, Try.ntmps13
    go_wp2_with (go_at_call 15; first | (with_reducible refine (HA.out _ HT.out).mono ?_); rintro e w' ⟨rfl, rfl⟩)
    go_ret
    exact way_none _ _ (Below.refl _ _)
  · cases hb : hasB n b
    · rw [ha] at HA
      rw [hb] at HB
      rw [ha, hb] at hl
      simp at hl
      subst hl
      clear h ha hb
      go_enter Try.func13, Try.ntmps13
      go_wp2_with (first | (go_at_call 15; first | (with_reducible refine (HA.out _ HT.out).mono ?_) | (with_reducible refine (HB.out _ HT.out).mono ?_)); rintro e w' ⟨rfl, rfl⟩)
      go_ret
      exact way_none _ _ (Below.refl _ _)
    · have ha2 := hasB_iff.1 ha
      have hb2 := hasB_iff.1 hb
      rw [ha] at HA
      rw [hb] at HB
      rw [ha, hb] at hl
      obtain ⟨x, rfl⟩ := Int.eq_ofNat_of_zero_le ha2.1
      obtain ⟨y, rfl⟩ := Int.eq_ofNat_of_zero_le hb2.1
      simp only [Int.toNat_natCast, Bool.and_self, if_true] at hl
      have HW := Lib.hid (way_c T N n m y 7 x (-1) l (by omega) hl (by omega) w h)
      clear h ha hb ha2 hb2 hl
      go_enter Try.func13, Try.ntmps13
      go_wp2_with (first | (go_at_call 15; first | (with_reducible refine (HA.out _ HT.out).mono ?_) | (with_reducible refine (HB.out _ HT.out).mono ?_)); rintro e w' ⟨rfl, rfl⟩)
      refine HW.out.mono ?_
      rintro e w2 ⟨g, c, rfl, H⟩
      have H2 := Lib.hid H
      clear H HW
      go_wp2_with fail
      go_ret
      exact ⟨g, c, rfl, H2.out⟩

theorem copy_run (W : World) (g L cap : Nat) (R : List Nat) (hL : L = R.length) (hg : g < W.heap.size) (hc : ∀ j, j < R.length → W.cell? ⟨g, j, none⟩ = some (.int .i64 ((R[j]! : Nat) : Int))) :
    ∃ w3, Sem.run Try.prog (copyS #[33, 33] 3 #[.slice (some ⟨W.heap.size, 0, none⟩) L L, .slice (some ⟨g, 0, none⟩) L cap]) (W.alloc (.cells (madeCells #[.int .i64 0] L) 3)) = .ok (.int .i64 (L : Int)) w3 ∧
      Aside ((∀ j, j < R.length → w3.cell? ⟨W.heap.size, j, none⟩ = some (.int .i64 ((R[j]! : Nat) : Int))) ∧ W.heap.size < w3.heap.size ∧ Below W.heap.size W w3) := by
  subst hL
  have hcur := Go.Deep.blk_alloc_new W (.cells (madeCells #[.int .i64 0] R.length) 3)
  have h := run_copy_row (P := Try.prog) (W.alloc (.cells (madeCells #[.int .i64 0] R.length) 3)) 33 33 3 3 W.heap.size 0 R.length R.length ⟨g, 0, none⟩ R.length cap (madeCells #[.int .i64 0] R.length) 3 (vi R) Try.underlying33 (by kernel_rfl) hcur (by simp) (fun j u hu => by
    have hj : j < R.length := by rw [← vi_len]; exact (List.getElem?_eq_some_iff.1 hu).1
    have e := vi_at R j hj
    rw [hu] at e
    injection e with e
    have h2 : (W.alloc (.cells (madeCells #[.int .i64 0] R.length) 3)).cell? ⟨g, j, none⟩ = some u := by
      rw [e, ← hc j hj]
      exact World.cell?_of_block (w := W) (Below.heap_alloc W _ g hg)
    by_cases h0 : j = 0
    · subst h0; simpa [Addr.add] using h2
    · simpa [Addr.add, h0] using h2) (by simp [size_madeCells]) (vi_one R)
  refine ⟨_, by rw [vi_len] at h; exact h, fun j hj => ?_, ?_, ?_⟩
  · rw [cell_of_row _ W.heap.size j _ 3 (0, 0) (setRow_heap _ _ _ _ _ _ hcur)]
    have e := vi_at R j hj
    have hlt : j < (vi R).length := by rw [vi_len]; exact hj
    simp only [List.take_zero, List.nil_append]
    rw [List.getElem?_toArray, List.getElem?_append_left hlt]
    exact e
  · simp
  · refine ((Below.refl _ W).alloc (Nat.le_refl _) _).trans ⟨rfl, rfl, rfl, by simp, fun k hk => setRow_other _ _ _ _ (by omega)⟩
theorem int_info2 : (Try.prog.info? 3).map (fun i => (i.zero, i.size, i.bytes)) = some (some (.int .i64 0), 1, 8) := by kernel_rfl
/-- A broker's neighbours, as Near tells them. -/
def nearP (n m : Nat) (b : Int) : List Nat := if hasB n b then row m b.toNat else []
set_option maxHeartbeats 4000000 in
theorem near_c (T N n m : Nat) (b : Int) (w : World) (h : Tr w T N n m) :
    Calls Try.prog 11 #[tp T, .int .i64 b] w (WayIs w (nearP n m b)) := by
  have HB := Lib.hid (fun w h => has_c T N n m b w h)
  have HT := Lib.hid h
  have hn := h.hn
  unfold nearP
  cases hb : hasB n b
  · rw [hb] at HB
    rw [if_neg (by decide)]
    clear h hb
    go_enter Try.func11, Try.ntmps11
    go_wp2_with (go_at_call 15; first | (with_reducible refine (HB.out _ HT.out).mono ?_); rintro e w' ⟨rfl, rfl⟩)
    go_ret
    exact way_none _ _ (Below.refl _ _)
  · have hb2 := hasB_iff.1 hb
    rw [hb] at HB
    rw [if_pos rfl]
    obtain ⟨x, rfl⟩ := Int.eq_ofNat_of_zero_le hb2.1
    simp only [Int.toNat_natCast]
    obtain ⟨ao, cap, ca, hia⟩ := h.at_ x (by omega)
    have ct := h.tcell
    have hxn : (x : Int) < n := by omega
    have hrl := row_len m x
    generalize row m x = R at *
    by_cases h0 : R = []
    · subst h0
      clear h hb hb2 hia
      go_enter Try.func11, Try.ntmps11
      go_wp2_with (go_at_call 15; first | (with_reducible refine (HB.out _ HT.out).mono ?_); rintro e w' ⟨rfl, rfl⟩)
      go_ret
      exact way_none _ _ (Below.refl _ _)
    · rcases hia with he | ⟨g, rfl, hg, hc⟩
      · exact absurd he h0
      obtain ⟨L, hL⟩ : ∃ L, L = R.length := ⟨_, rfl⟩
      have hpos : 0 < R.length := List.length_pos_iff.2 h0
      obtain ⟨w3, hrun, H3⟩ := copy_run w g L cap R hL hg hc
      rw [← hL] at ca hpos hrl
      have HL := Lib.hid hL
      have H0 := Lib.hid h0
      have hmk := fun W => run_make_row' (P := Try.prog) 33 3 (.int .i64 0) 8 Try.underlying33 int_info2 rfl .i64 .i64 L (by omega) (by omega) W
      have hq : ((L : Int) == 0) = false := by rw [beq_eq_false_iff_ne]; omega
      have hbA := (Below.refl w.heap.size w).alloc (Nat.le_refl _) (.cells (madeCells #[.int .i64 0] L) 3)
      have h1 := h.below hbA
      have ct1 := h1.tcell
      have ca1 : (w.alloc (.cells (madeCells #[.int .i64 0] L) 3)).cell? ⟨N, x, none⟩ = some (.slice (some ⟨g, 0, none⟩) L cap) := (hbA.cell (p := ⟨N, x, none⟩) (World.block_lt_of_cell? w ⟨N, x, none⟩ ca)).trans ca
      clear h hb hb2 hc hL h0 h1 hbA
      go_enter Try.func11, Try.ntmps11
      go_wp2_with (go_at_call 15; first | (with_reducible refine (HB.out _ HT.out).mono ?_); rintro e w' ⟨rfl, rfl⟩)
      go_ret
      refine ⟨_, L, ?_, H3.out.1, fun _ => H3.out.2.1, H3.out.2.2⟩
      unfold wayV
      rw [if_neg H0.out, ← HL.out]
      rfl
def linkedP (n m : Nat) (a b : Int) : Bool := hasB n a && (ints (row m a.toNat)).contains b
set_option maxHeartbeats 4000000 in
theorem linked_c (T N n m : Nat) (a b : Int) (w : World) (h : Tr w T N n m) :
    Calls Try.prog 12 #[tp T, .int .i64 a, .int .i64 b] w fun e w' => e = .returned (.bool (linkedP n m a b)) ∧ w = w' := by
  have HA := Lib.hid (fun w h => has_c T N n m a w h)
  have HT := Lib.hid h
  have hn := h.hn
  unfold linkedP
  cases ha : hasB n a
  · rw [ha] at HA
    rw [Bool.false_and]
    clear h ha
    go_enter Try.func12, Try.ntmps12
    go_wp2_with (go_at_call 15; first | (with_reducible refine (HA.out _ HT.out).mono ?_); rintro e w' ⟨rfl, rfl⟩)
    go_ret
    exact ⟨rfl, rfl⟩
  · have ha2 := hasB_iff.1 ha
    rw [ha] at HA
    rw [Bool.true_and]
    obtain ⟨x, rfl⟩ := Int.eq_ofNat_of_zero_le ha2.1
    simp only [Int.toNat_natCast]
    obtain ⟨ao, cap, ca, hia⟩ := h.at_ x (by omega)
    have ct := h.tcell
    have hxn : (x : Int) < n := by omega
    have hrl := row_len m x
    generalize row m x = R at *
    have HC : Aside (Calls Try.prog 16 #[.slice ao R.length cap, .int .i64 b] w fun e w' => e = .returned (.bool ((ints R).contains b)) ∧ w = w') := by
      rcases hia with rfl | ⟨g, rfl, hg, hc⟩
      · exact (Try.slices_Contains_int_empty ao cap b w).mono fun e w' ⟨h1, h2⟩ => ⟨h1, h2.symm⟩
      · have := Try.slices_Contains_int g 0 R.length cap (ints R) b w (by rw [ints_len]; exact Nat.le_refl _) (by omega) (fun j hj => by
          rw [ints_len] at hj
          rw [Nat.zero_add, hc j hj]
          simp [ints, List.getD, hj])
        rw [List.take_of_length_le (by rw [ints_len]; exact Nat.le_refl _)] at this
        exact this.mono fun e w' ⟨h1, h2⟩ => ⟨h1, h2.symm⟩
    generalize (ints R).contains b = q at *
    generalize R.length = L at *
    clear h ha ha2 hia
    go_enter Try.func12, Try.ntmps12
    go_wp2_with (first | (go_at_call 15; first | (with_reducible refine (HA.out _ HT.out).mono ?_); rintro e w' ⟨rfl, rfl⟩) | (go_at_call 16; refine HC.out.mono ?_; rintro e w' ⟨rfl, rfl⟩))
    go_ret
    exact ⟨rfl, rfl⟩
end Go.Proofs.Ytnkceajhhiidcaa
