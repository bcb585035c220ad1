/- For any two values of unlike kinds: they are never the same, and never held against one another. -/
import Derived.Test.YtflhjgpkgbnifaaGreatDoorFitDone
namespace Go.Proofs.YtflhjgpkgbnifaaGreatDoor
open Go.RowKit
set_option maxRecDepth 100000

set_option maxHeartbeats 1000000 in
theorem compareNe_c (k n k2 n2 : Int) (x x2 : Nat) (s s2 : ByteArray) (y y2 : Bool) (w : World) (h : (k != k2) = true) :
    Calls Tryz.prog 13 #[val k n x s y, val k2 n2 x2 s2 y2] w fun e w' => e = .returned (.tuple #[.int .i64 0, .bool false]) ∧ Below w.heap.size w w' := by
  go_enter Tryz.func13, Tryz.ntmps13
  go_wp2
  go_ret2
  exact ⟨rfl, ((Below.refl _ _).alloc (Nat.le_refl _) _).alloc (by simp) _⟩
set_option maxHeartbeats 1000000 in
theorem sameNe_c (k n k2 n2 : Int) (x x2 : Nat) (s s2 : ByteArray) (y y2 : Bool) (w : World) (h : (k != k2) = true) :
    Calls Tryz.prog 15 #[val k n x s y, val k2 n2 x2 s2 y2] w fun e w' => e = .returned (.bool false) ∧ Below w.heap.size w w' := by
  go_enter Tryz.func15, Tryz.ntmps15
  go_wp2
  go_ret
  exact ⟨rfl, ((Below.refl _ _).alloc (Nat.le_refl _) _).alloc (by simp) _⟩

/-- Two values, boxed one behind the other, in every world in which only what is younger has turned. -/
theorem two_cells {w w' : World} (k n k2 n2 : Int) (x x2 : Nat) (s s2 : ByteArray) (y y2 : Bool)
    (hb : Below (w.heap.size + 2) ((w.alloc (.cells (vals k n x s y) 24)).alloc (.cells (vals k2 n2 x2 s2 y2) 24)) w') :
    (∀ i v, (vals k n x s y)[i]? = some v → w'.cell? ⟨w.heap.size, i, none⟩ = some v) ∧ (∀ i v, (vals k2 n2 x2 s2 y2)[i]? = some v → w'.cell? ⟨w.heap.size + 1, i, none⟩ = some v) := by
  refine ⟨fun i v h => ?_, fun i v h => ?_⟩
  · rw [hb.cell (p := ⟨w.heap.size, i, none⟩) (by simp), World.cell?_alloc_lt _ _ _ (by simp), World.cell?_alloc_new]; exact h
  · rw [hb.cell (p := ⟨w.heap.size + 1, i, none⟩) (by simp)]
    have := World.cell?_alloc_new (w.alloc (.cells (vals k n x s y) 24)) (vals k2 n2 x2 s2 y2) 24 i
    rw [World.size_alloc] at this
    rw [this]; exact h
set_option maxHeartbeats 2000000 in
theorem kinds_long1 (k n : Int) (x : Nat) (s : ByteArray) (y : Bool) (k2 n2 : Int) (x2 : Nat) (s2 : ByteArray) (y2 : Bool) (w : World) (hT : Tabs w) (l1 : ¬ ((s.size : Int) ≤ 300)) :
    Calls Tryz.prog 10 #[val k n x s y, val k2 n2 x2 s2 y2] w fun e w' => e = .returned (.bool true) ∧ Below w.heap.size w w' := by
  have hg : 17 < w.heap.size := World.block_lt_of_cell? w ⟨17, _, none⟩ (hT.pow 0 (by decide)).1
  have B0 : Below w.heap.size w ((w.alloc (.cells (vals k n x s y) 24)).alloc (.cells (vals k2 n2 x2 s2 y2) 24)) := ((Below.refl _ _).alloc (Nat.le_refl _) _).alloc (by simp) _
  have HT0 := Lib.hid (hT.on B0); have HB0 := Lib.hid B0; clear hT B0
  have L1 := Lib.hid l1; clear l1
  go_enter Tryz.func10, Tryz.ntmps10
  go_wp2_with fail
  refine (fit_c _ HT0.out (by simp; omega)).mono ?_
  rintro e w1 ⟨rfl, hb1⟩
  have hA1 : Below (w.heap.size + 2) ((w.alloc (.cells (vals k n x s y) 24)).alloc (.cells (vals k2 n2 x2 s2 y2) 24)) w1 := by simpa using hb1
  have z1 : w.heap.size + 2 ≤ w1.heap.size := by have := hb1.size; simpa using this
  have HT1 := Lib.hid (HT0.out.on hb1)
  obtain ⟨va, vb⟩ := two_cells _ _ _ _ _ _ _ _ _ _ hA1
  have a0 := va 0 _ rfl; have a1 := va 1 _ rfl; have a2 := va 2 _ rfl; have a3 := va 3 _ rfl; have a4 := va 4 _ rfl
  have b0 := vb 0 _ rfl; have b1 := vb 1 _ rfl; have b2 := vb 2 _ rfl; have b3 := vb 3 _ rfl; have b4 := vb 4 _ rfl
  clear va vb
  have HA1 := Lib.hid hA1; clear hb1 hA1
  go_wp2_with fail
  clear a0 a1 a2 a3 a4 b0 b1 b2 b3 b4
  refine (light_c _ _ _ _ _ _).mono ?_
  rw [show decide ((s.size : Int) ≤ 300) = false from decide_eq_false (by have := L1.out; omega)]
  rintro e w2 ⟨rfl, hb2⟩
  have hA2 := HA1.out.trans (hb2.mono z1)
  have z2 : w.heap.size + 2 ≤ w2.heap.size := by have := hb2.size; omega
  have HT2 := Lib.hid (HT1.out.on hb2)
  obtain ⟨va, vb⟩ := two_cells _ _ _ _ _ _ _ _ _ _ hA2
  have a0 := va 0 _ rfl; have a1 := va 1 _ rfl; have a2 := va 2 _ rfl; have a3 := va 3 _ rfl; have a4 := va 4 _ rfl
  have b0 := vb 0 _ rfl; have b1 := vb 1 _ rfl; have b2 := vb 2 _ rfl; have b3 := vb 3 _ rfl; have b4 := vb 4 _ rfl
  clear va vb
  have HA2 := Lib.hid hA2; clear hb2 hA2
  go_wp2_with fail
  clear a0 a1 a2 a3 a4 b0 b1 b2 b3 b4
  go_ret
  exact ⟨rfl, HB0.out.trans (HA2.out.mono (by omega))⟩
set_option maxHeartbeats 2000000 in
theorem kinds_long2 (k n : Int) (x : Nat) (s : ByteArray) (y : Bool) (k2 n2 : Int) (x2 : Nat) (s2 : ByteArray) (y2 : Bool) (w : World) (hT : Tabs w) (l1 : (s.size : Int) ≤ 300) (l2 : ¬ ((s2.size : Int) ≤ 300)) :
    Calls Tryz.prog 10 #[val k n x s y, val k2 n2 x2 s2 y2] w fun e w' => e = .returned (.bool true) ∧ Below w.heap.size w w' := by
  have hg : 17 < w.heap.size := World.block_lt_of_cell? w ⟨17, _, none⟩ (hT.pow 0 (by decide)).1
  have B0 : Below w.heap.size w ((w.alloc (.cells (vals k n x s y) 24)).alloc (.cells (vals k2 n2 x2 s2 y2) 24)) := ((Below.refl _ _).alloc (Nat.le_refl _) _).alloc (by simp) _
  have HT0 := Lib.hid (hT.on B0); have HB0 := Lib.hid B0; clear hT B0
  have L1 := Lib.hid l1; have L2 := Lib.hid l2; clear l1 l2
  go_enter Tryz.func10, Tryz.ntmps10
  go_wp2_with fail
  refine (fit_c _ HT0.out (by simp; omega)).mono ?_
  rintro e w1 ⟨rfl, hb1⟩
  have hA1 : Below (w.heap.size + 2) ((w.alloc (.cells (vals k n x s y) 24)).alloc (.cells (vals k2 n2 x2 s2 y2) 24)) w1 := by simpa using hb1
  have z1 : w.heap.size + 2 ≤ w1.heap.size := by have := hb1.size; simpa using this
  have HT1 := Lib.hid (HT0.out.on hb1)
  obtain ⟨va, vb⟩ := two_cells _ _ _ _ _ _ _ _ _ _ hA1
  have a0 := va 0 _ rfl; have a1 := va 1 _ rfl; have a2 := va 2 _ rfl; have a3 := va 3 _ rfl; have a4 := va 4 _ rfl
  have b0 := vb 0 _ rfl; have b1 := vb 1 _ rfl; have b2 := vb 2 _ rfl; have b3 := vb 3 _ rfl; have b4 := vb 4 _ rfl
  clear va vb
  have HA1 := Lib.hid hA1; clear hb1 hA1
  go_wp2_with fail
  clear a0 a1 a2 a3 a4 b0 b1 b2 b3 b4
  refine (light_c _ _ _ _ _ _).mono ?_
  rw [show decide ((s.size : Int) ≤ 300) = true from decide_eq_true (by have := L1.out; omega)]
  rintro e w2 ⟨rfl, hb2⟩
  have hA2 := HA1.out.trans (hb2.mono z1)
  have z2 : w.heap.size + 2 ≤ w2.heap.size := by have := hb2.size; omega
  have HT2 := Lib.hid (HT1.out.on hb2)
  obtain ⟨va, vb⟩ := two_cells _ _ _ _ _ _ _ _ _ _ hA2
  have a0 := va 0 _ rfl; have a1 := va 1 _ rfl; have a2 := va 2 _ rfl; have a3 := va 3 _ rfl; have a4 := va 4 _ rfl
  have b0 := vb 0 _ rfl; have b1 := vb 1 _ rfl; have b2 := vb 2 _ rfl; have b3 := vb 3 _ rfl; have b4 := vb 4 _ rfl
  clear va vb
  have HA2 := Lib.hid hA2; clear hb2 hA2
  go_wp2_with fail
  clear a0 a1 a2 a3 a4 b0 b1 b2 b3 b4
  refine (light_c _ _ _ _ _ _).mono ?_
  rw [show decide ((s2.size : Int) ≤ 300) = false from decide_eq_false (by have := L2.out; omega)]
  rintro e w3 ⟨rfl, hb3⟩
  have hA3 := HA2.out.trans (hb3.mono z2)
  have z3 : w.heap.size + 2 ≤ w3.heap.size := by have := hb3.size; omega
  have HT3 := Lib.hid (HT2.out.on hb3)
  obtain ⟨va, vb⟩ := two_cells _ _ _ _ _ _ _ _ _ _ hA3
  have a0 := va 0 _ rfl; have a1 := va 1 _ rfl; have a2 := va 2 _ rfl; have a3 := va 3 _ rfl; have a4 := va 4 _ rfl
  have b0 := vb 0 _ rfl; have b1 := vb 1 _ rfl; have b2 := vb 2 _ rfl; have b3 := vb 3 _ rfl; have b4 := vb 4 _ rfl
  clear va vb
  have HA3 := Lib.hid hA3; clear hb3 hA3
  go_wp2_with fail
  clear a0 a1 a2 a3 a4 b0 b1 b2 b3 b4
  go_ret
  exact ⟨rfl, HB0.out.trans (HA3.out.mono (by omega))⟩
set_option maxHeartbeats 2000000 in
theorem kinds_eq (k n : Int) (x : Nat) (s : ByteArray) (y : Bool) (k2 n2 : Int) (x2 : Nat) (s2 : ByteArray) (y2 : Bool) (w : World) (hT : Tabs w) (l1 : (s.size : Int) ≤ 300) (l2 : (s2.size : Int) ≤ 300) (hk : (k == k2) = true) :
    Calls Tryz.prog 10 #[val k n x s y, val k2 n2 x2 s2 y2] w fun e w' => e = .returned (.bool true) ∧ Below w.heap.size w w' := by
  have hg : 17 < w.heap.size := World.block_lt_of_cell? w ⟨17, _, none⟩ (hT.pow 0 (by decide)).1
  have B0 : Below w.heap.size w ((w.alloc (.cells (vals k n x s y) 24)).alloc (.cells (vals k2 n2 x2 s2 y2) 24)) := ((Below.refl _ _).alloc (Nat.le_refl _) _).alloc (by simp) _
  have HT0 := Lib.hid (hT.on B0); have HB0 := Lib.hid B0; clear hT B0
  have L1 := Lib.hid l1; have L2 := Lib.hid l2; clear l1 l2
  go_enter Tryz.func10, Tryz.ntmps10
  go_wp2_with fail
  refine (fit_c _ HT0.out (by simp; omega)).mono ?_
  rintro e w1 ⟨rfl, hb1⟩
  have hA1 : Below (w.heap.size + 2) ((w.alloc (.cells (vals k n x s y) 24)).alloc (.cells (vals k2 n2 x2 s2 y2) 24)) w1 := by simpa using hb1
  have z1 : w.heap.size + 2 ≤ w1.heap.size := by have := hb1.size; simpa using this
  have HT1 := Lib.hid (HT0.out.on hb1)
  obtain ⟨va, vb⟩ := two_cells _ _ _ _ _ _ _ _ _ _ hA1
  have a0 := va 0 _ rfl; have a1 := va 1 _ rfl; have a2 := va 2 _ rfl; have a3 := va 3 _ rfl; have a4 := va 4 _ rfl
  have b0 := vb 0 _ rfl; have b1 := vb 1 _ rfl; have b2 := vb 2 _ rfl; have b3 := vb 3 _ rfl; have b4 := vb 4 _ rfl
  clear va vb
  have HA1 := Lib.hid hA1; clear hb1 hA1
  go_wp2_with fail
  clear a0 a1 a2 a3 a4 b0 b1 b2 b3 b4
  refine (light_c _ _ _ _ _ _).mono ?_
  rw [show decide ((s.size : Int) ≤ 300) = true from decide_eq_true (by have := L1.out; omega)]
  rintro e w2 ⟨rfl, hb2⟩
  have hA2 := HA1.out.trans (hb2.mono z1)
  have z2 : w.heap.size + 2 ≤ w2.heap.size := by have := hb2.size; omega
  have HT2 := Lib.hid (HT1.out.on hb2)
  obtain ⟨va, vb⟩ := two_cells _ _ _ _ _ _ _ _ _ _ hA2
  have a0 := va 0 _ rfl; have a1 := va 1 _ rfl; have a2 := va 2 _ rfl; have a3 := va 3 _ rfl; have a4 := va 4 _ rfl
  have b0 := vb 0 _ rfl; have b1 := vb 1 _ rfl; have b2 := vb 2 _ rfl; have b3 := vb 3 _ rfl; have b4 := vb 4 _ rfl
  clear va vb
  have HA2 := Lib.hid hA2; clear hb2 hA2
  go_wp2_with fail
  clear a0 a1 a2 a3 a4 b0 b1 b2 b3 b4
  refine (light_c _ _ _ _ _ _).mono ?_
  rw [show decide ((s2.size : Int) ≤ 300) = true from decide_eq_true (by have := L2.out; omega)]
  rintro e w3 ⟨rfl, hb3⟩
  have hA3 := HA2.out.trans (hb3.mono z2)
  have z3 : w.heap.size + 2 ≤ w3.heap.size := by have := hb3.size; omega
  have HT3 := Lib.hid (HT2.out.on hb3)
  obtain ⟨va, vb⟩ := two_cells _ _ _ _ _ _ _ _ _ _ hA3
  have a0 := va 0 _ rfl; have a1 := va 1 _ rfl; have a2 := va 2 _ rfl; have a3 := va 3 _ rfl; have a4 := va 4 _ rfl
  have b0 := vb 0 _ rfl; have b1 := vb 1 _ rfl; have b2 := vb 2 _ rfl; have b3 := vb 3 _ rfl; have b4 := vb 4 _ rfl
  clear va vb
  have HA3 := Lib.hid hA3; clear hb3 hA3
  go_wp2_with fail
  clear a0 a1 a2 a3 a4 b0 b1 b2 b3 b4
  go_ret
  exact ⟨rfl, HB0.out.trans (HA3.out.mono (by omega))⟩
set_option maxHeartbeats 2000000 in
theorem kinds_ne (k n : Int) (x : Nat) (s : ByteArray) (y : Bool) (k2 n2 : Int) (x2 : Nat) (s2 : ByteArray) (y2 : Bool) (w : World) (hT : Tabs w) (l1 : (s.size : Int) ≤ 300) (l2 : (s2.size : Int) ≤ 300) (hk : (k == k2) = false) :
    Calls Tryz.prog 10 #[val k n x s y, val k2 n2 x2 s2 y2] w fun e w' => e = .returned (.bool true) ∧ Below w.heap.size w w' := by
  have hg : 17 < w.heap.size := World.block_lt_of_cell? w ⟨17, _, none⟩ (hT.pow 0 (by decide)).1
  have B0 : Below w.heap.size w ((w.alloc (.cells (vals k n x s y) 24)).alloc (.cells (vals k2 n2 x2 s2 y2) 24)) := ((Below.refl _ _).alloc (Nat.le_refl _) _).alloc (by simp) _
  have HT0 := Lib.hid (hT.on B0); have HB0 := Lib.hid B0; clear hT B0
  have hk' : (k != k2) = true := by unfold bne; rw [hk]; rfl
  have L1 := Lib.hid l1; have L2 := Lib.hid l2; clear l1 l2
  go_enter Tryz.func10, Tryz.ntmps10
  go_wp2_with fail
  refine (fit_c _ HT0.out (by simp; omega)).mono ?_
  rintro e w1 ⟨rfl, hb1⟩
  have hA1 : Below (w.heap.size + 2) ((w.alloc (.cells (vals k n x s y) 24)).alloc (.cells (vals k2 n2 x2 s2 y2) 24)) w1 := by simpa using hb1
  have z1 : w.heap.size + 2 ≤ w1.heap.size := by have := hb1.size; simpa using this
  have HT1 := Lib.hid (HT0.out.on hb1)
  obtain ⟨va, vb⟩ := two_cells _ _ _ _ _ _ _ _ _ _ hA1
  have a0 := va 0 _ rfl; have a1 := va 1 _ rfl; have a2 := va 2 _ rfl; have a3 := va 3 _ rfl; have a4 := va 4 _ rfl
  have b0 := vb 0 _ rfl; have b1 := vb 1 _ rfl; have b2 := vb 2 _ rfl; have b3 := vb 3 _ rfl; have b4 := vb 4 _ rfl
  clear va vb
  have HA1 := Lib.hid hA1; clear hb1 hA1
  go_wp2_with fail
  clear a0 a1 a2 a3 a4 b0 b1 b2 b3 b4
  refine (light_c _ _ _ _ _ _).mono ?_
  rw [show decide ((s.size : Int) ≤ 300) = true from decide_eq_true (by have := L1.out; omega)]
  rintro e w2 ⟨rfl, hb2⟩
  have hA2 := HA1.out.trans (hb2.mono z1)
  have z2 : w.heap.size + 2 ≤ w2.heap.size := by have := hb2.size; omega
  have HT2 := Lib.hid (HT1.out.on hb2)
  obtain ⟨va, vb⟩ := two_cells _ _ _ _ _ _ _ _ _ _ hA2
  have a0 := va 0 _ rfl; have a1 := va 1 _ rfl; have a2 := va 2 _ rfl; have a3 := va 3 _ rfl; have a4 := va 4 _ rfl
  have b0 := vb 0 _ rfl; have b1 := vb 1 _ rfl; have b2 := vb 2 _ rfl; have b3 := vb 3 _ rfl; have b4 := vb 4 _ rfl
  clear va vb
  have HA2 := Lib.hid hA2; clear hb2 hA2
  go_wp2_with fail
  clear a0 a1 a2 a3 a4 b0 b1 b2 b3 b4
  refine (light_c _ _ _ _ _ _).mono ?_
  rw [show decide ((s2.size : Int) ≤ 300) = true from decide_eq_true (by have := L2.out; omega)]
  rintro e w3 ⟨rfl, hb3⟩
  have hA3 := HA2.out.trans (hb3.mono z2)
  have z3 : w.heap.size + 2 ≤ w3.heap.size := by have := hb3.size; omega
  have HT3 := Lib.hid (HT2.out.on hb3)
  obtain ⟨va, vb⟩ := two_cells _ _ _ _ _ _ _ _ _ _ hA3
  have a0 := va 0 _ rfl; have a1 := va 1 _ rfl; have a2 := va 2 _ rfl; have a3 := va 3 _ rfl; have a4 := va 4 _ rfl
  have b0 := vb 0 _ rfl; have b1 := vb 1 _ rfl; have b2 := vb 2 _ rfl; have b3 := vb 3 _ rfl; have b4 := vb 4 _ rfl
  clear va vb
  have HA3 := Lib.hid hA3; clear hb3 hA3
  go_wp2_with fail
  clear a0 a1 a2 a3 a4 b0 b1 b2 b3 b4
  refine (compareNe_c _ _ _ _ _ _ _ _ _ _ _ hk').mono ?_
  rintro e w4 ⟨rfl, hb4⟩
  have hA4 := HA3.out.trans (hb4.mono z3)
  have z4 : w.heap.size + 2 ≤ w4.heap.size := by have := hb4.size; omega
  have HT4 := Lib.hid (HT3.out.on hb4)
  obtain ⟨va, vb⟩ := two_cells _ _ _ _ _ _ _ _ _ _ hA4
  have a0 := va 0 _ rfl; have a1 := va 1 _ rfl; have a2 := va 2 _ rfl; have a3 := va 3 _ rfl; have a4 := va 4 _ rfl
  have b0 := vb 0 _ rfl; have b1 := vb 1 _ rfl; have b2 := vb 2 _ rfl; have b3 := vb 3 _ rfl; have b4 := vb 4 _ rfl
  clear va vb
  have HA4 := Lib.hid hA4; clear hb4 hA4
  go_wp2_with fail
  clear a0 a1 a2 a3 a4 b0 b1 b2 b3 b4
  refine (sameNe_c _ _ _ _ _ _ _ _ _ _ _ hk').mono ?_
  rintro e w5 ⟨rfl, hb5⟩
  have hA5 := HA4.out.trans (hb5.mono z4)
  have z5 : w.heap.size + 2 ≤ w5.heap.size := by have := hb5.size; omega
  have HT5 := Lib.hid (HT4.out.on hb5)
  obtain ⟨va, vb⟩ := two_cells _ _ _ _ _ _ _ _ _ _ hA5
  have a0 := va 0 _ rfl; have a1 := va 1 _ rfl; have a2 := va 2 _ rfl; have a3 := va 3 _ rfl; have a4 := va 4 _ rfl
  have b0 := vb 0 _ rfl; have b1 := vb 1 _ rfl; have b2 := vb 2 _ rfl; have b3 := vb 3 _ rfl; have b4 := vb 4 _ rfl
  clear va vb
  have HA5 := Lib.hid hA5; clear hb5 hA5
  go_wp2_with fail
  clear a0 a1 a2 a3 a4 b0 b1 b2 b3 b4
  go_ret
  exact ⟨rfl, HB0.out.trans (HA5.out.mono (by omega))⟩
theorem kinds_w (k n : Int) (x : Nat) (s : ByteArray) (y : Bool) (k2 n2 : Int) (x2 : Nat) (s2 : ByteArray) (y2 : Bool) (w : World) (hT : Tabs w) :
    Calls Tryz.prog 10 #[val k n x s y, val k2 n2 x2 s2 y2] w fun e w' => e = .returned (.bool true) ∧ Below w.heap.size w w' := by
  by_cases l1 : (s.size : Int) ≤ 300
  · by_cases l2 : (s2.size : Int) ≤ 300
    · cases hk : (k == k2)
      · exact kinds_ne k n x s y k2 n2 x2 s2 y2 w hT l1 l2 hk
      · exact kinds_eq k n x s y k2 n2 x2 s2 y2 w hT l1 l2 hk
    · exact kinds_long2 k n x s y k2 n2 x2 s2 y2 w hT l1 l2
  · exact kinds_long1 k n x s y k2 n2 x2 s2 y2 w hT l1
end Go.Proofs.YtflhjgpkgbnifaaGreatDoor
