/- What the statements of layer 2 begin with is true in every world that holds the tables; and what they ask of a value's text. -/
import Derived.Test.YthkkdikfbagijaaGreatDoorFitTwo
namespace Go.Proofs.YthkkdikfbagijaaGreatDoor
open Go.RowKit
set_option maxRecDepth 100000

set_option maxHeartbeats 1000000 in
theorem fit_c (w : World) (hT : Tabs w) (hg : 20 < w.heap.size) :
    Calls Tryz.prog 4 #[] w fun e w' => e = .returned (.bool true) ∧ Below w.heap.size w w' := by
  have e1 : (FloatKind.f64.format.order 4613937818241073152 4613937818241073152 == some .eq) = true := by decide +kernel
  have e2 : flt 4607182418800017408 4611686018427387904 = true := by decide +kernel
  have HT := Lib.hid hT; clear hT
  go_enter Tryz.func4, Tryz.ntmps4
  go_wp2_with fail
  refine (readThree_c _ HT.out hg).mono ?_
  rintro e w1 ⟨rfl, hb1⟩
  have B1 : Below w1.heap.size w1 (w1.alloc (.cells (vals 1 0 4613937818241073152 ⟨#[]⟩ false) 24)) := (Below.refl _ _).alloc (Nat.le_refl _) _
  have HT1 := Lib.hid ((HT.out.on hb1).on B1)
  have z1 := hb1.size
  have HB1 := Lib.hid hb1; have HBL := Lib.hid B1; clear hb1 B1
  go_wp2_with fail
  refine (of_string ⟨#[97]⟩ _).mono ?_
  rintro e w2 ⟨rfl, hb2⟩
  have B2 : Below w2.heap.size w2 (w2.alloc (.cells (vals 2 0 0 ⟨#[97]⟩ false) 24)) := (Below.refl _ _).alloc (Nat.le_refl _) _
  have z2 : w1.heap.size + 1 ≤ w2.heap.size := by have := hb2.size; simpa using this
  have hb2' : Below (w1.heap.size + 1) (w1.alloc (.cells (vals 1 0 4613937818241073152 ⟨#[]⟩ false) 24)) w2 := by simpa using hb2
  have HT2 := Lib.hid ((HT1.out.on hb2).on B2)
  have hA : Below (w1.heap.size + 1) (w1.alloc (.cells (vals 1 0 4613937818241073152 ⟨#[]⟩ false) 24)) (w2.alloc (.cells (vals 2 0 0 ⟨#[97]⟩ false) 24)) := hb2'.trans (B2.mono z2)
  have hv := val_cells 1 0 4613937818241073152 ⟨#[]⟩ false hA
  obtain ⟨c0, _⟩ := hv 0 _ rfl
  obtain ⟨c2, _⟩ := hv 2 _ rfl
  have HB2 := Lib.hid hb2'; have HBM := Lib.hid B2; clear hb2 hb2' B2 hA hv
  go_wp2_with fail
  refine (printA_c 0 0 false _ HT2.out).mono ?_
  rintro e w3 ⟨rfl, hb3⟩
  have hB : Below w.heap.size w w3 := by
    refine HB1.out.trans ((HBL.out.mono z1).trans ((HB2.out.mono (by omega)).trans ((HBM.out.mono (by omega)).trans (hb3.mono (by simp; omega)))))
  have HB := Lib.hid hB; clear hB hb3
  go_wp2_with fail
  refine (less_c _ _ _).mono ?_
  rintro e w' ⟨rfl, rfl⟩
  go_wp2
  go_ret
  exact ⟨rfl, HB.out⟩

end Go.Proofs.YthkkdikfbagijaaGreatDoor
