/- What each law of layer 3 begins with. -/
import Derived.Test.YtfoboncfmigdaaaGreatDoorFit3
namespace Go.Proofs.YtfoboncfmigdaaaGreatDoor
open Go.RowKit Go.Shelf Go.Sort
open Go.Proofs
set_option maxRecDepth 100000

theorem row_one (a : At) (w : World) (ty : TypeId) : RowAt (w.alloc (.cells (encA a).toArray ty)) w.heap.size 0 [a] := fun j hj c v hv => by
  obtain rfl : j = 0 := by simp at hj; exact hj
  simp only [Nat.zero_mul, Nat.zero_add]
  rw [World.cell?_alloc_new]
  simpa using hv

set_option maxHeartbeats 2000000 in
theorem fit_c (w : World) :
    Calls Tryz.prog 4 #[] w fun e w' => e = .returned (.bool true) ∧ Below w.heap.size w w' := by
  have hc : canonA xA = xA := by kernel_rfl
  go_enter Tryz.func4, Tryz.ntmps4
  go_wp2_with fail
  refine (of_int 3 w).mono ?_
  rintro e w1 ⟨rfl, hb1⟩
  have HB1 : Aside (Below w.heap.size w w1) := hb1
  have hz1 := hb1.size
  clear hb1
  go_wp2_with fail
  refine (new_c ⟨#[97]⟩ (some ⟨w1.heap.size + 1, 0, none⟩) 1 [xA] (by simp) _ (Or.inr ⟨w1.heap.size + 1, 0, rfl, by simp, ?_⟩)).mono ?_
  · have := row_one xA (w1.alloc (.cells (vals 0 3 0 ⟨#[]⟩ false) 31)) 33
    rw [World.size_alloc] at this
    exact this
  rintro e w2 ⟨G, res, rfl, hA⟩
  obtain ⟨hG1, hG2, hrow, hnew, hb2⟩ := hA.out
  obtain rfl := newOf_one _ _ hnew
  rw [hc] at hrow ⊢
  have HB2 : Aside (Below w.heap.size w w2) := ((HB1.out.alloc hz1 _).alloc (by simp; omega) _).trans (hb2.mono (by simp; omega))
  have hz2 : w.heap.size ≤ w2.heap.size := HB2.out.size
  have HR : Aside (RowAt w2 G 0 [xA]) := hrow
  clear hrow hnew hb2 hA hG1
  go_wp2_with fail
  refine (printOne_c G 1 w2 hG2 HR.out).mono ?_
  rintro e w3 ⟨rfl, hb3⟩
  have HB3 : Aside (Below w.heap.size w w3) := HB2.out.trans (hb3.mono hz2)
  clear hb3
  go_wp2_with fail
  refine (nameYes_c _).mono ?_
  rintro e w4 ⟨rfl, rfl⟩
  go_wp2_with fail
  refine (nameNo_c _).mono ?_
  rintro e w4 ⟨rfl, rfl⟩
  go_wp2_with fail
  go_ret
  exact ⟨rfl, HB3.out⟩
end Go.Proofs.YtfoboncfmigdaaaGreatDoor
