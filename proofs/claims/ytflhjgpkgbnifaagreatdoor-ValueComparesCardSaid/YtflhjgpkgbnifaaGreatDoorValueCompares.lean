/- For any two values: those of one kind are held against one another as the document says; others are not. -/
import Derived.Test.YtflhjgpkgbnifaaGreatDoorValueOrders
namespace Go.Proofs.YtflhjgpkgbnifaaGreatDoor
open Go.RowKit
set_option maxRecDepth 100000

def rankV (k : Int) : Int := if decide (0 ≤ k) && decide (k ≤ 2) then k else 3
set_option maxHeartbeats 400000 in
theorem rank_c (k n : Int) (x : Nat) (s : ByteArray) (y : Bool) (w : World) :
    Calls Tryz.prog 14 #[val k n x s y] w fun e w' => e = .returned (.int .i64 (rankV k)) ∧ Below w.heap.size w w' := by
  unfold rankV
  cases h1 : decide (0 ≤ k) <;> cases h2 : decide (k ≤ 2)
  all_goals
    go_enter Tryz.func14, Tryz.ntmps14
    go_wp2
    go_ret
    exact ⟨rfl, (Below.refl _ _).alloc (Nat.le_refl _) _⟩

set_option maxHeartbeats 2000000 in
theorem compares_long1 (k n : Int) (x : Nat) (s : ByteArray) (y : Bool) (k2 n2 : Int) (x2 : Nat) (s2 : ByteArray) (y2 : Bool) (w : World) (hT : Tabs w) (l1 : ¬ ((s.size : Int) ≤ 300)) :
    Calls Tryz.prog 3 #[val k n x s y, val k2 n2 x2 s2 y2] w fun e w' => e = .returned (.bool true) ∧ Below w.heap.size w w' := by
  have hg : 17 < w.heap.size := World.block_lt_of_cell? w ⟨17, _, none⟩ (hT.pow 0 (by decide)).1
  have B0 : Below w.heap.size w ((w.alloc (.cells (vals k n x s y) 24)).alloc (.cells (vals k2 n2 x2 s2 y2) 24)) := ((Below.refl _ _).alloc (Nat.le_refl _) _).alloc (by simp) _
  have HT0 := Lib.hid (hT.on B0); have HB0 := Lib.hid B0; clear hT B0
  have L1 := Lib.hid l1; clear l1
  go_enter Tryz.func3, Tryz.ntmps3
  go_wp2_with fail
  refine (fit_c _ HT0.out (by simp; omega)).mono ?_
  rintro e w1 ⟨rfl, hb1⟩
  have hA1 : Below (w.heap.size + 2) ((w.alloc (.cells (vals k n x s y) 24)).alloc (.cells (vals k2 n2 x2 s2 y2) 24)) w1 := by simpa using hb1
  have z1 : w.heap.size + 2 ≤ w1.heap.size := by have := hb1.size; simpa using this
  have HT1 := Lib.hid (HT0.out.on hb1)
  obtain ⟨va, vb⟩ := two_cells _ _ _ _ _ _ _ _ _ _ hA1
  have a0 := va 0 _ rfl; have a1 := va 1 _ rfl; have a2 := va 2 _ rfl; have a3 := va 3 _ rfl; have a4 := va 4 _ rfl
  have b0 := vb 0 _ rfl; have b1 := vb 1 _ rfl; have b2 := vb 2 _ rfl; have b3 := vb 3 _ rfl; have b4 := vb 4 _ rfl
  clear va vb
  have HA1 := Lib.hid hA1; clear hb1 hA1
  go_wp2_with fail
  clear a0 a1 a2 a3 a4 b0 b1 b2 b3 b4
  refine (light_c _ _ _ _ _ _).mono ?_
  rw [show decide ((s.size : Int) ≤ 300) = false from decide_eq_false (by have := L1.out; omega)]
  rintro e w2 ⟨rfl, hb2⟩
  have hA2 := HA1.out.trans (hb2.mono z1)
  have z2 : w.heap.size + 2 ≤ w2.heap.size := by have := hb2.size; omega
  have HT2 := Lib.hid (HT1.out.on hb2)
  obtain ⟨va, vb⟩ := two_cells _ _ _ _ _ _ _ _ _ _ hA2
  have a0 := va 0 _ rfl; have a1 := va 1 _ rfl; have a2 := va 2 _ rfl; have a3 := va 3 _ rfl; have a4 := va 4 _ rfl
  have b0 := vb 0 _ rfl; have b1 := vb 1 _ rfl; have b2 := vb 2 _ rfl; have b3 := vb 3 _ rfl; have b4 := vb 4 _ rfl
  clear va vb
  have HA2 := Lib.hid hA2; clear hb2 hA2
  go_wp2_with fail
  clear a0 a1 a2 a3 a4 b0 b1 b2 b3 b4
  go_ret
  exact ⟨rfl, HB0.out.trans (HA2.out.mono (by omega))⟩
set_option maxHeartbeats 2000000 in
theorem compares_long2 (k n : Int) (x : Nat) (s : ByteArray) (y : Bool) (k2 n2 : Int) (x2 : Nat) (s2 : ByteArray) (y2 : Bool) (w : World) (hT : Tabs w) (l1 : (s.size : Int) ≤ 300) (l2 : ¬ ((s2.size : Int) ≤ 300)) :
    Calls Tryz.prog 3 #[val k n x s y, val k2 n2 x2 s2 y2] w fun e w' => e = .returned (.bool true) ∧ Below w.heap.size w w' := by
  have hg : 17 < w.heap.size := World.block_lt_of_cell? w ⟨17, _, none⟩ (hT.pow 0 (by decide)).1
  have B0 : Below w.heap.size w ((w.alloc (.cells (vals k n x s y) 24)).alloc (.cells (vals k2 n2 x2 s2 y2) 24)) := ((Below.refl _ _).alloc (Nat.le_refl _) _).alloc (by simp) _
  have HT0 := Lib.hid (hT.on B0); have HB0 := Lib.hid B0; clear hT B0
  have L1 := Lib.hid l1; have L2 := Lib.hid l2; clear l1 l2
  go_enter Tryz.func3, Tryz.ntmps3
  go_wp2_with fail
  refine (fit_c _ HT0.out (by simp; omega)).mono ?_
  rintro e w1 ⟨rfl, hb1⟩
  have hA1 : Below (w.heap.size + 2) ((w.alloc (.cells (vals k n x s y) 24)).alloc (.cells (vals k2 n2 x2 s2 y2) 24)) w1 := by simpa using hb1
  have z1 : w.heap.size + 2 ≤ w1.heap.size := by have := hb1.size; simpa using this
  have HT1 := Lib.hid (HT0.out.on hb1)
  obtain ⟨va, vb⟩ := two_cells _ _ _ _ _ _ _ _ _ _ hA1
  have a0 := va 0 _ rfl; have a1 := va 1 _ rfl; have a2 := va 2 _ rfl; have a3 := va 3 _ rfl; have a4 := va 4 _ rfl
  have b0 := vb 0 _ rfl; have b1 := vb 1 _ rfl; have b2 := vb 2 _ rfl; have b3 := vb 3 _ rfl; have b4 := vb 4 _ rfl
  clear va vb
  have HA1 := Lib.hid hA1; clear hb1 hA1
  go_wp2_with fail
  clear a0 a1 a2 a3 a4 b0 b1 b2 b3 b4
  refine (light_c _ _ _ _ _ _).mono ?_
  rw [show decide ((s.size : Int) ≤ 300) = true from decide_eq_true (by have := L1.out; omega)]
  rintro e w2 ⟨rfl, hb2⟩
  have hA2 := HA1.out.trans (hb2.mono z1)
  have z2 : w.heap.size + 2 ≤ w2.heap.size := by have := hb2.size; omega
  have HT2 := Lib.hid (HT1.out.on hb2)
  obtain ⟨va, vb⟩ := two_cells _ _ _ _ _ _ _ _ _ _ hA2
  have a0 := va 0 _ rfl; have a1 := va 1 _ rfl; have a2 := va 2 _ rfl; have a3 := va 3 _ rfl; have a4 := va 4 _ rfl
  have b0 := vb 0 _ rfl; have b1 := vb 1 _ rfl; have b2 := vb 2 _ rfl; have b3 := vb 3 _ rfl; have b4 := vb 4 _ rfl
  clear va vb
  have HA2 := Lib.hid hA2; clear hb2 hA2
  go_wp2_with fail
  clear a0 a1 a2 a3 a4 b0 b1 b2 b3 b4
  refine (light_c _ _ _ _ _ _).mono ?_
  rw [show decide ((s2.size : Int) ≤ 300) = false from decide_eq_false (by have := L2.out; omega)]
  rintro e w3 ⟨rfl, hb3⟩
  have hA3 := HA2.out.trans (hb3.mono z2)
  have z3 : w.heap.size + 2 ≤ w3.heap.size := by have := hb3.size; omega
  have HT3 := Lib.hid (HT2.out.on hb3)
  obtain ⟨va, vb⟩ := two_cells _ _ _ _ _ _ _ _ _ _ hA3
  have a0 := va 0 _ rfl; have a1 := va 1 _ rfl; have a2 := va 2 _ rfl; have a3 := va 3 _ rfl; have a4 := va 4 _ rfl
  have b0 := vb 0 _ rfl; have b1 := vb 1 _ rfl; have b2 := vb 2 _ rfl; have b3 := vb 3 _ rfl; have b4 := vb 4 _ rfl
  clear va vb
  have HA3 := Lib.hid hA3; clear hb3 hA3
  go_wp2_with fail
  clear a0 a1 a2 a3 a4 b0 b1 b2 b3 b4
  go_ret
  exact ⟨rfl, HB0.out.trans (HA3.out.mono (by omega))⟩
set_option maxHeartbeats 2000000 in
theorem compares_ne (k n : Int) (x : Nat) (s : ByteArray) (y : Bool) (k2 n2 : Int) (x2 : Nat) (s2 : ByteArray) (y2 : Bool) (w : World) (hT : Tabs w) (l1 : (s.size : Int) ≤ 300) (l2 : (s2.size : Int) ≤ 300) (hk : (k == k2) = false) :
    Calls Tryz.prog 3 #[val k n x s y, val k2 n2 x2 s2 y2] w fun e w' => e = .returned (.bool true) ∧ Below w.heap.size w w' := by
  have hg : 17 < w.heap.size := World.block_lt_of_cell? w ⟨17, _, none⟩ (hT.pow 0 (by decide)).1
  have B0 : Below w.heap.size w ((w.alloc (.cells (vals k n x s y) 24)).alloc (.cells (vals k2 n2 x2 s2 y2) 24)) := ((Below.refl _ _).alloc (Nat.le_refl _) _).alloc (by simp) _
  have HT0 := Lib.hid (hT.on B0); have HB0 := Lib.hid B0; clear hT B0
  have hk' : (k != k2) = true := by unfold bne; rw [hk]; rfl
  have hk2 : (k2 != k) = true := by rw [bne_iff_ne] at *; exact fun h => hk' h.symm
  have L1 := Lib.hid l1; have L2 := Lib.hid l2; clear l1 l2
  go_enter Tryz.func3, Tryz.ntmps3
  go_wp2_with fail
  refine (fit_c _ HT0.out (by simp; omega)).mono ?_
  rintro e w1 ⟨rfl, hb1⟩
  have hA1 : Below (w.heap.size + 2) ((w.alloc (.cells (vals k n x s y) 24)).alloc (.cells (vals k2 n2 x2 s2 y2) 24)) w1 := by simpa using hb1
  have z1 : w.heap.size + 2 ≤ w1.heap.size := by have := hb1.size; simpa using this
  have HT1 := Lib.hid (HT0.out.on hb1)
  obtain ⟨va, vb⟩ := two_cells _ _ _ _ _ _ _ _ _ _ hA1
  have a0 := va 0 _ rfl; have a1 := va 1 _ rfl; have a2 := va 2 _ rfl; have a3 := va 3 _ rfl; have a4 := va 4 _ rfl
  have b0 := vb 0 _ rfl; have b1 := vb 1 _ rfl; have b2 := vb 2 _ rfl; have b3 := vb 3 _ rfl; have b4 := vb 4 _ rfl
  clear va vb
  have HA1 := Lib.hid hA1; clear hb1 hA1
  go_wp2_with fail
  clear a0 a1 a2 a3 a4 b0 b1 b2 b3 b4
  refine (light_c _ _ _ _ _ _).mono ?_
  rw [show decide ((s.size : Int) ≤ 300) = true from decide_eq_true (by have := L1.out; omega)]
  rintro e w2 ⟨rfl, hb2⟩
  have hA2 := HA1.out.trans (hb2.mono z1)
  have z2 : w.heap.size + 2 ≤ w2.heap.size := by have := hb2.size; omega
  have HT2 := Lib.hid (HT1.out.on hb2)
  obtain ⟨va, vb⟩ := two_cells _ _ _ _ _ _ _ _ _ _ hA2
  have a0 := va 0 _ rfl; have a1 := va 1 _ rfl; have a2 := va 2 _ rfl; have a3 := va 3 _ rfl; have a4 := va 4 _ rfl
  have b0 := vb 0 _ rfl; have b1 := vb 1 _ rfl; have b2 := vb 2 _ rfl; have b3 := vb 3 _ rfl; have b4 := vb 4 _ rfl
  clear va vb
  have HA2 := Lib.hid hA2; clear hb2 hA2
  go_wp2_with fail
  clear a0 a1 a2 a3 a4 b0 b1 b2 b3 b4
  refine (light_c _ _ _ _ _ _).mono ?_
  rw [show decide ((s2.size : Int) ≤ 300) = true from decide_eq_true (by have := L2.out; omega)]
  rintro e w3 ⟨rfl, hb3⟩
  have hA3 := HA2.out.trans (hb3.mono z2)
  have z3 : w.heap.size + 2 ≤ w3.heap.size := by have := hb3.size; omega
  have HT3 := Lib.hid (HT2.out.on hb3)
  obtain ⟨va, vb⟩ := two_cells _ _ _ _ _ _ _ _ _ _ hA3
  have a0 := va 0 _ rfl; have a1 := va 1 _ rfl; have a2 := va 2 _ rfl; have a3 := va 3 _ rfl; have a4 := va 4 _ rfl
  have b0 := vb 0 _ rfl; have b1 := vb 1 _ rfl; have b2 := vb 2 _ rfl; have b3 := vb 3 _ rfl; have b4 := vb 4 _ rfl
  clear va vb
  have HA3 := Lib.hid hA3; clear hb3 hA3
  go_wp2_with fail
  clear a0 a1 a2 a3 a4 b0 b1 b2 b3 b4
  refine (compareNe_c _ _ _ _ _ _ _ _ _ _ _ hk').mono ?_
  rintro e w4 ⟨rfl, hb4⟩
  have hA4 := HA3.out.trans (hb4.mono z3)
  have z4 : w.heap.size + 2 ≤ w4.heap.size := by have := hb4.size; omega
  have HT4 := Lib.hid (HT3.out.on hb4)
  obtain ⟨va, vb⟩ := two_cells _ _ _ _ _ _ _ _ _ _ hA4
  have a0 := va 0 _ rfl; have a1 := va 1 _ rfl; have a2 := va 2 _ rfl; have a3 := va 3 _ rfl; have a4 := va 4 _ rfl
  have b0 := vb 0 _ rfl; have b1 := vb 1 _ rfl; have b2 := vb 2 _ rfl; have b3 := vb 3 _ rfl; have b4 := vb 4 _ rfl
  clear va vb
  have HA4 := Lib.hid hA4; clear hb4 hA4
  go_wp2_with fail
  clear a0 a1 a2 a3 a4 b0 b1 b2 b3 b4
  refine (compareNe_c _ _ _ _ _ _ _ _ _ _ _ hk2).mono ?_
  rintro e w5 ⟨rfl, hb5⟩
  have hA5 := HA4.out.trans (hb5.mono z4)
  have z5 : w.heap.size + 2 ≤ w5.heap.size := by have := hb5.size; omega
  have HT5 := Lib.hid (HT4.out.on hb5)
  obtain ⟨va, vb⟩ := two_cells _ _ _ _ _ _ _ _ _ _ hA5
  have a0 := va 0 _ rfl; have a1 := va 1 _ rfl; have a2 := va 2 _ rfl; have a3 := va 3 _ rfl; have a4 := va 4 _ rfl
  have b0 := vb 0 _ rfl; have b1 := vb 1 _ rfl; have b2 := vb 2 _ rfl; have b3 := vb 3 _ rfl; have b4 := vb 4 _ rfl
  clear va vb
  have HA5 := Lib.hid hA5; clear hb5 hA5
  go_wp2_with fail
  clear a0 a1 a2 a3 a4 b0 b1 b2 b3 b4
  go_ret
  exact ⟨rfl, HB0.out.trans (HA5.out.mono (by omega))⟩
set_option maxHeartbeats 4000000 in
theorem compares_v1 (n : Int) (x : Nat) (s : ByteArray) (y : Bool) (n2 : Int) (x2 : Nat) (s2 : ByteArray) (y2 : Bool) (w : World) (hT : Tabs w) (l1 : (s.size : Int) ≤ 300) (l2 : (s2.size : Int) ≤ 300) (h1 : fnan x = true) (h2 : fnan x2 = true) :
    Calls Tryz.prog 3 #[val 1 n x s y, val 1 n2 x2 s2 y2] w fun e w' => e = .returned (.bool true) ∧ Below w.heap.size w w' := by
  have hg : 17 < w.heap.size := World.block_lt_of_cell? w ⟨17, _, none⟩ (hT.pow 0 (by decide)).1
  have B0 : Below w.heap.size w ((w.alloc (.cells (vals 1 n x s y) 24)).alloc (.cells (vals 1 n2 x2 s2 y2) 24)) := ((Below.refl _ _).alloc (Nat.le_refl _) _).alloc (by simp) _
  have HT0 := Lib.hid (hT.on B0); have HB0 := Lib.hid B0; clear hT B0
  have nx := neq_self x; have nx2 := neq_self x2
  rw [h1] at nx; rw [h2] at nx2
  have H1 := Lib.hid h1; have H2 := Lib.hid h2; clear h1 h2
  have L1 := Lib.hid l1; have L2 := Lib.hid l2; clear l1 l2
  go_enter Tryz.func3, Tryz.ntmps3
  go_wp2_with fail
  refine (fit_c _ HT0.out (by simp; omega)).mono ?_
  rintro e w1 ⟨rfl, hb1⟩
  have hA1 : Below (w.heap.size + 2) ((w.alloc (.cells (vals 1 n x s y) 24)).alloc (.cells (vals 1 n2 x2 s2 y2) 24)) w1 := by simpa using hb1
  have z1 : w.heap.size + 2 ≤ w1.heap.size := by have := hb1.size; simpa using this
  have HT1 := Lib.hid (HT0.out.on hb1)
  obtain ⟨va, vb⟩ := two_cells _ _ _ _ _ _ _ _ _ _ hA1
  have a0 := va 0 _ rfl; have a1 := va 1 _ rfl; have a2 := va 2 _ rfl; have a3 := va 3 _ rfl; have a4 := va 4 _ rfl
  have b0 := vb 0 _ rfl; have b1 := vb 1 _ rfl; have b2 := vb 2 _ rfl; have b3 := vb 3 _ rfl; have b4 := vb 4 _ rfl
  clear va vb
  have HA1 := Lib.hid hA1; clear hb1 hA1
  go_wp2_with fail
  clear a0 a1 a2 a3 a4 b0 b1 b2 b3 b4
  refine (light_c _ _ _ _ _ _).mono ?_
  rw [show decide ((s.size : Int) ≤ 300) = true from decide_eq_true (by have := L1.out; omega)]
  rintro e w2 ⟨rfl, hb2⟩
  have hA2 := HA1.out.trans (hb2.mono z1)
  have z2 : w.heap.size + 2 ≤ w2.heap.size := by have := hb2.size; omega
  have HT2 := Lib.hid (HT1.out.on hb2)
  obtain ⟨va, vb⟩ := two_cells _ _ _ _ _ _ _ _ _ _ hA2
  have a0 := va 0 _ rfl; have a1 := va 1 _ rfl; have a2 := va 2 _ rfl; have a3 := va 3 _ rfl; have a4 := va 4 _ rfl
  have b0 := vb 0 _ rfl; have b1 := vb 1 _ rfl; have b2 := vb 2 _ rfl; have b3 := vb 3 _ rfl; have b4 := vb 4 _ rfl
  clear va vb
  have HA2 := Lib.hid hA2; clear hb2 hA2
  go_wp2_with fail
  clear a0 a1 a2 a3 a4 b0 b1 b2 b3 b4
  refine (light_c _ _ _ _ _ _).mono ?_
  rw [show decide ((s2.size : Int) ≤ 300) = true from decide_eq_true (by have := L2.out; omega)]
  rintro e w3 ⟨rfl, hb3⟩
  have hA3 := HA2.out.trans (hb3.mono z2)
  have z3 : w.heap.size + 2 ≤ w3.heap.size := by have := hb3.size; omega
  have HT3 := Lib.hid (HT2.out.on hb3)
  obtain ⟨va, vb⟩ := two_cells _ _ _ _ _ _ _ _ _ _ hA3
  have a0 := va 0 _ rfl; have a1 := va 1 _ rfl; have a2 := va 2 _ rfl; have a3 := va 3 _ rfl; have a4 := va 4 _ rfl
  have b0 := vb 0 _ rfl; have b1 := vb 1 _ rfl; have b2 := vb 2 _ rfl; have b3 := vb 3 _ rfl; have b4 := vb 4 _ rfl
  clear va vb
  have HA3 := Lib.hid hA3; clear hb3 hA3
  go_wp2_with fail
  clear a0 a1 a2 a3 a4 b0 b1 b2 b3 b4
  refine (compareVoid1_c 1 _ _ _ _ _ _ _ _ _ (show voidB 1 x = true from H1.out)).mono ?_
  rintro e w4 ⟨rfl, hb4⟩
  have hA4 := HA3.out.trans (hb4.mono z3)
  have z4 : w.heap.size + 2 ≤ w4.heap.size := by have := hb4.size; omega
  have HT4 := Lib.hid (HT3.out.on hb4)
  obtain ⟨va, vb⟩ := two_cells _ _ _ _ _ _ _ _ _ _ hA4
  have a0 := va 0 _ rfl; have a1 := va 1 _ rfl; have a2 := va 2 _ rfl; have a3 := va 3 _ rfl; have a4 := va 4 _ rfl
  have b0 := vb 0 _ rfl; have b1 := vb 1 _ rfl; have b2 := vb 2 _ rfl; have b3 := vb 3 _ rfl; have b4 := vb 4 _ rfl
  clear va vb
  have HA4 := Lib.hid hA4; clear hb4 hA4
  go_wp2_with fail
  clear a0 a1 a2 a3 a4 b0 b1 b2 b3 b4
  refine (compareVoid1_c 1 _ _ _ _ _ _ _ _ _ (show voidB 1 x2 = true from H2.out)).mono ?_
  rintro e w5 ⟨rfl, hb5⟩
  have hA5 := HA4.out.trans (hb5.mono z4)
  have z5 : w.heap.size + 2 ≤ w5.heap.size := by have := hb5.size; omega
  have HT5 := Lib.hid (HT4.out.on hb5)
  obtain ⟨va, vb⟩ := two_cells _ _ _ _ _ _ _ _ _ _ hA5
  have a0 := va 0 _ rfl; have a1 := va 1 _ rfl; have a2 := va 2 _ rfl; have a3 := va 3 _ rfl; have a4 := va 4 _ rfl
  have b0 := vb 0 _ rfl; have b1 := vb 1 _ rfl; have b2 := vb 2 _ rfl; have b3 := vb 3 _ rfl; have b4 := vb 4 _ rfl
  clear va vb
  have HA5 := Lib.hid hA5; clear hb5 hA5
  go_wp2_with fail
  clear a0 a1 a2 a3 a4 b0 b1 b2 b3 b4
  go_ret
  exact ⟨rfl, HB0.out.trans (HA5.out.mono (by omega))⟩
set_option maxHeartbeats 4000000 in
theorem compares_v2 (n : Int) (x : Nat) (s : ByteArray) (y : Bool) (n2 : Int) (x2 : Nat) (s2 : ByteArray) (y2 : Bool) (w : World) (hT : Tabs w) (l1 : (s.size : Int) ≤ 300) (l2 : (s2.size : Int) ≤ 300) (h1 : fnan x = true) (h2 : fnan x2 = false) :
    Calls Tryz.prog 3 #[val 1 n x s y, val 1 n2 x2 s2 y2] w fun e w' => e = .returned (.bool true) ∧ Below w.heap.size w w' := by
  have hg : 17 < w.heap.size := World.block_lt_of_cell? w ⟨17, _, none⟩ (hT.pow 0 (by decide)).1
  have B0 : Below w.heap.size w ((w.alloc (.cells (vals 1 n x s y) 24)).alloc (.cells (vals 1 n2 x2 s2 y2) 24)) := ((Below.refl _ _).alloc (Nat.le_refl _) _).alloc (by simp) _
  have HT0 := Lib.hid (hT.on B0); have HB0 := Lib.hid B0; clear hT B0
  have nx := neq_self x; have nx2 := neq_self x2
  rw [h1] at nx; rw [h2] at nx2
  have H1 := Lib.hid h1; have H2 := Lib.hid h2; clear h1 h2
  have L1 := Lib.hid l1; have L2 := Lib.hid l2; clear l1 l2
  go_enter Tryz.func3, Tryz.ntmps3
  go_wp2_with fail
  refine (fit_c _ HT0.out (by simp; omega)).mono ?_
  rintro e w1 ⟨rfl, hb1⟩
  have hA1 : Below (w.heap.size + 2) ((w.alloc (.cells (vals 1 n x s y) 24)).alloc (.cells (vals 1 n2 x2 s2 y2) 24)) w1 := by simpa using hb1
  have z1 : w.heap.size + 2 ≤ w1.heap.size := by have := hb1.size; simpa using this
  have HT1 := Lib.hid (HT0.out.on hb1)
  obtain ⟨va, vb⟩ := two_cells _ _ _ _ _ _ _ _ _ _ hA1
  have a0 := va 0 _ rfl; have a1 := va 1 _ rfl; have a2 := va 2 _ rfl; have a3 := va 3 _ rfl; have a4 := va 4 _ rfl
  have b0 := vb 0 _ rfl; have b1 := vb 1 _ rfl; have b2 := vb 2 _ rfl; have b3 := vb 3 _ rfl; have b4 := vb 4 _ rfl
  clear va vb
  have HA1 := Lib.hid hA1; clear hb1 hA1
  go_wp2_with fail
  clear a0 a1 a2 a3 a4 b0 b1 b2 b3 b4
  refine (light_c _ _ _ _ _ _).mono ?_
  rw [show decide ((s.size : Int) ≤ 300) = true from decide_eq_true (by have := L1.out; omega)]
  rintro e w2 ⟨rfl, hb2⟩
  have hA2 := HA1.out.trans (hb2.mono z1)
  have z2 : w.heap.size + 2 ≤ w2.heap.size := by have := hb2.size; omega
  have HT2 := Lib.hid (HT1.out.on hb2)
  obtain ⟨va, vb⟩ := two_cells _ _ _ _ _ _ _ _ _ _ hA2
  have a0 := va 0 _ rfl; have a1 := va 1 _ rfl; have a2 := va 2 _ rfl; have a3 := va 3 _ rfl; have a4 := va 4 _ rfl
  have b0 := vb 0 _ rfl; have b1 := vb 1 _ rfl; have b2 := vb 2 _ rfl; have b3 := vb 3 _ rfl; have b4 := vb 4 _ rfl
  clear va vb
  have HA2 := Lib.hid hA2; clear hb2 hA2
  go_wp2_with fail
  clear a0 a1 a2 a3 a4 b0 b1 b2 b3 b4
  refine (light_c _ _ _ _ _ _).mono ?_
  rw [show decide ((s2.size : Int) ≤ 300) = true from decide_eq_true (by have := L2.out; omega)]
  rintro e w3 ⟨rfl, hb3⟩
  have hA3 := HA2.out.trans (hb3.mono z2)
  have z3 : w.heap.size + 2 ≤ w3.heap.size := by have := hb3.size; omega
  have HT3 := Lib.hid (HT2.out.on hb3)
  obtain ⟨va, vb⟩ := two_cells _ _ _ _ _ _ _ _ _ _ hA3
  have a0 := va 0 _ rfl; have a1 := va 1 _ rfl; have a2 := va 2 _ rfl; have a3 := va 3 _ rfl; have a4 := va 4 _ rfl
  have b0 := vb 0 _ rfl; have b1 := vb 1 _ rfl; have b2 := vb 2 _ rfl; have b3 := vb 3 _ rfl; have b4 := vb 4 _ rfl
  clear va vb
  have HA3 := Lib.hid hA3; clear hb3 hA3
  go_wp2_with fail
  clear a0 a1 a2 a3 a4 b0 b1 b2 b3 b4
  refine (compareVoid1_c 1 _ _ _ _ _ _ _ _ _ (show voidB 1 x = true from H1.out)).mono ?_
  rintro e w4 ⟨rfl, hb4⟩
  have hA4 := HA3.out.trans (hb4.mono z3)
  have z4 : w.heap.size + 2 ≤ w4.heap.size := by have := hb4.size; omega
  have HT4 := Lib.hid (HT3.out.on hb4)
  obtain ⟨va, vb⟩ := two_cells _ _ _ _ _ _ _ _ _ _ hA4
  have a0 := va 0 _ rfl; have a1 := va 1 _ rfl; have a2 := va 2 _ rfl; have a3 := va 3 _ rfl; have a4 := va 4 _ rfl
  have b0 := vb 0 _ rfl; have b1 := vb 1 _ rfl; have b2 := vb 2 _ rfl; have b3 := vb 3 _ rfl; have b4 := vb 4 _ rfl
  clear va vb
  have HA4 := Lib.hid hA4; clear hb4 hA4
  go_wp2_with fail
  clear a0 a1 a2 a3 a4 b0 b1 b2 b3 b4
  refine (compareVoid2_c 1 _ _ _ _ _ _ _ _ _ (show voidB 1 x2 = false from H2.out) (show voidB 1 x = true from H1.out)).mono ?_
  rintro e w5 ⟨rfl, hb5⟩
  have hA5 := HA4.out.trans (hb5.mono z4)
  have z5 : w.heap.size + 2 ≤ w5.heap.size := by have := hb5.size; omega
  have HT5 := Lib.hid (HT4.out.on hb5)
  obtain ⟨va, vb⟩ := two_cells _ _ _ _ _ _ _ _ _ _ hA5
  have a0 := va 0 _ rfl; have a1 := va 1 _ rfl; have a2 := va 2 _ rfl; have a3 := va 3 _ rfl; have a4 := va 4 _ rfl
  have b0 := vb 0 _ rfl; have b1 := vb 1 _ rfl; have b2 := vb 2 _ rfl; have b3 := vb 3 _ rfl; have b4 := vb 4 _ rfl
  clear va vb
  have HA5 := Lib.hid hA5; clear hb5 hA5
  go_wp2_with fail
  clear a0 a1 a2 a3 a4 b0 b1 b2 b3 b4
  go_ret
  exact ⟨rfl, HB0.out.trans (HA5.out.mono (by omega))⟩
set_option maxHeartbeats 4000000 in
theorem compares_v3 (n : Int) (x : Nat) (s : ByteArray) (y : Bool) (n2 : Int) (x2 : Nat) (s2 : ByteArray) (y2 : Bool) (w : World) (hT : Tabs w) (l1 : (s.size : Int) ≤ 300) (l2 : (s2.size : Int) ≤ 300) (h1 : fnan x = false) (h2 : fnan x2 = true) :
    Calls Tryz.prog 3 #[val 1 n x s y, val 1 n2 x2 s2 y2] w fun e w' => e = .returned (.bool true) ∧ Below w.heap.size w w' := by
  have hg : 17 < w.heap.size := World.block_lt_of_cell? w ⟨17, _, none⟩ (hT.pow 0 (by decide)).1
  have B0 : Below w.heap.size w ((w.alloc (.cells (vals 1 n x s y) 24)).alloc (.cells (vals 1 n2 x2 s2 y2) 24)) := ((Below.refl _ _).alloc (Nat.le_refl _) _).alloc (by simp) _
  have HT0 := Lib.hid (hT.on B0); have HB0 := Lib.hid B0; clear hT B0
  have nx := neq_self x; have nx2 := neq_self x2
  rw [h1] at nx; rw [h2] at nx2
  have H1 := Lib.hid h1; have H2 := Lib.hid h2; clear h1 h2
  have L1 := Lib.hid l1; have L2 := Lib.hid l2; clear l1 l2
  go_enter Tryz.func3, Tryz.ntmps3
  go_wp2_with fail
  refine (fit_c _ HT0.out (by simp; omega)).mono ?_
  rintro e w1 ⟨rfl, hb1⟩
  have hA1 : Below (w.heap.size + 2) ((w.alloc (.cells (vals 1 n x s y) 24)).alloc (.cells (vals 1 n2 x2 s2 y2) 24)) w1 := by simpa using hb1
  have z1 : w.heap.size + 2 ≤ w1.heap.size := by have := hb1.size; simpa using this
  have HT1 := Lib.hid (HT0.out.on hb1)
  obtain ⟨va, vb⟩ := two_cells _ _ _ _ _ _ _ _ _ _ hA1
  have a0 := va 0 _ rfl; have a1 := va 1 _ rfl; have a2 := va 2 _ rfl; have a3 := va 3 _ rfl; have a4 := va 4 _ rfl
  have b0 := vb 0 _ rfl; have b1 := vb 1 _ rfl; have b2 := vb 2 _ rfl; have b3 := vb 3 _ rfl; have b4 := vb 4 _ rfl
  clear va vb
  have HA1 := Lib.hid hA1; clear hb1 hA1
  go_wp2_with fail
  clear a0 a1 a2 a3 a4 b0 b1 b2 b3 b4
  refine (light_c _ _ _ _ _ _).mono ?_
  rw [show decide ((s.size : Int) ≤ 300) = true from decide_eq_true (by have := L1.out; omega)]
  rintro e w2 ⟨rfl, hb2⟩
  have hA2 := HA1.out.trans (hb2.mono z1)
  have z2 : w.heap.size + 2 ≤ w2.heap.size := by have := hb2.size; omega
  have HT2 := Lib.hid (HT1.out.on hb2)
  obtain ⟨va, vb⟩ := two_cells _ _ _ _ _ _ _ _ _ _ hA2
  have a0 := va 0 _ rfl; have a1 := va 1 _ rfl; have a2 := va 2 _ rfl; have a3 := va 3 _ rfl; have a4 := va 4 _ rfl
  have b0 := vb 0 _ rfl; have b1 := vb 1 _ rfl; have b2 := vb 2 _ rfl; have b3 := vb 3 _ rfl; have b4 := vb 4 _ rfl
  clear va vb
  have HA2 := Lib.hid hA2; clear hb2 hA2
  go_wp2_with fail
  clear a0 a1 a2 a3 a4 b0 b1 b2 b3 b4
  refine (light_c _ _ _ _ _ _).mono ?_
  rw [show decide ((s2.size : Int) ≤ 300) = true from decide_eq_true (by have := L2.out; omega)]
  rintro e w3 ⟨rfl, hb3⟩
  have hA3 := HA2.out.trans (hb3.mono z2)
  have z3 : w.heap.size + 2 ≤ w3.heap.size := by have := hb3.size; omega
  have HT3 := Lib.hid (HT2.out.on hb3)
  obtain ⟨va, vb⟩ := two_cells _ _ _ _ _ _ _ _ _ _ hA3
  have a0 := va 0 _ rfl; have a1 := va 1 _ rfl; have a2 := va 2 _ rfl; have a3 := va 3 _ rfl; have a4 := va 4 _ rfl
  have b0 := vb 0 _ rfl; have b1 := vb 1 _ rfl; have b2 := vb 2 _ rfl; have b3 := vb 3 _ rfl; have b4 := vb 4 _ rfl
  clear va vb
  have HA3 := Lib.hid hA3; clear hb3 hA3
  go_wp2_with fail
  clear a0 a1 a2 a3 a4 b0 b1 b2 b3 b4
  refine (compareVoid2_c 1 _ _ _ _ _ _ _ _ _ (show voidB 1 x = false from H1.out) (show voidB 1 x2 = true from H2.out)).mono ?_
  rintro e w4 ⟨rfl, hb4⟩
  have hA4 := HA3.out.trans (hb4.mono z3)
  have z4 : w.heap.size + 2 ≤ w4.heap.size := by have := hb4.size; omega
  have HT4 := Lib.hid (HT3.out.on hb4)
  obtain ⟨va, vb⟩ := two_cells _ _ _ _ _ _ _ _ _ _ hA4
  have a0 := va 0 _ rfl; have a1 := va 1 _ rfl; have a2 := va 2 _ rfl; have a3 := va 3 _ rfl; have a4 := va 4 _ rfl
  have b0 := vb 0 _ rfl; have b1 := vb 1 _ rfl; have b2 := vb 2 _ rfl; have b3 := vb 3 _ rfl; have b4 := vb 4 _ rfl
  clear va vb
  have HA4 := Lib.hid hA4; clear hb4 hA4
  go_wp2_with fail
  clear a0 a1 a2 a3 a4 b0 b1 b2 b3 b4
  refine (compareVoid1_c 1 _ _ _ _ _ _ _ _ _ (show voidB 1 x2 = true from H2.out)).mono ?_
  rintro e w5 ⟨rfl, hb5⟩
  have hA5 := HA4.out.trans (hb5.mono z4)
  have z5 : w.heap.size + 2 ≤ w5.heap.size := by have := hb5.size; omega
  have HT5 := Lib.hid (HT4.out.on hb5)
  obtain ⟨va, vb⟩ := two_cells _ _ _ _ _ _ _ _ _ _ hA5
  have a0 := va 0 _ rfl; have a1 := va 1 _ rfl; have a2 := va 2 _ rfl; have a3 := va 3 _ rfl; have a4 := va 4 _ rfl
  have b0 := vb 0 _ rfl; have b1 := vb 1 _ rfl; have b2 := vb 2 _ rfl; have b3 := vb 3 _ rfl; have b4 := vb 4 _ rfl
  clear va vb
  have HA5 := Lib.hid hA5; clear hb5 hA5
  go_wp2_with fail
  clear a0 a1 a2 a3 a4 b0 b1 b2 b3 b4
  go_ret
  exact ⟨rfl, HB0.out.trans (HA5.out.mono (by omega))⟩
set_option maxHeartbeats 4000000 in
theorem compares_k0 (n : Int) (x : Nat) (s : ByteArray) (y : Bool) (n2 : Int) (x2 : Nat) (s2 : ByteArray) (y2 : Bool) (w : World) (hT : Tabs w) (l1 : (s.size : Int) ≤ 300) (l2 : (s2.size : Int) ≤ 300) (hx : x < 18446744073709551616) (hx2 : x2 < 18446744073709551616) (p q : Int) (ls sm : Bool) (el : (decide (n < n2)) = ls) (es : (n == n2) = sm) (ep : cmpV 0 n n2 x x2 s s2 y y2 = p) (eq : cmpV 0 n2 n x2 x s2 s y2 y = q) (em : sameV 0 n n2 x x2 s s2 y y2 = sm) (tri : (p = -1 ∧ q = 1 ∧ ls = true ∧ sm = false) ∨ (p = 0 ∧ q = 0 ∧ ls = false ∧ sm = true) ∨ (p = 1 ∧ q = -1 ∧ ls = false ∧ sm = false)) :
    Calls Tryz.prog 3 #[val 0 n x s y, val 0 n2 x2 s2 y2] w fun e w' => e = .returned (.bool true) ∧ Below w.heap.size w w' := by
  have hg : 17 < w.heap.size := World.block_lt_of_cell? w ⟨17, _, none⟩ (hT.pow 0 (by decide)).1
  have B0 : Below w.heap.size w ((w.alloc (.cells (vals 0 n x s y) 24)).alloc (.cells (vals 0 n2 x2 s2 y2) 24)) := ((Below.refl _ _).alloc (Nat.le_refl _) _).alloc (by simp) _
  have HT0 := Lib.hid (hT.on B0); have HB0 := Lib.hid B0; clear hT B0
  have HX := Lib.hid hx; have HX2 := Lib.hid hx2; clear hx hx2
  have EP := Lib.hid ep; have EQ := Lib.hid eq; have EM := Lib.hid em; clear ep eq em
  rcases tri with ⟨rfl, rfl, rfl, rfl⟩ | ⟨rfl, rfl, rfl, rfl⟩ | ⟨rfl, rfl, rfl, rfl⟩
  all_goals
    have L1 := Lib.hid l1; have L2 := Lib.hid l2; clear l1 l2
    go_enter Tryz.func3, Tryz.ntmps3
    go_wp2_with fail
    refine (fit_c _ HT0.out (by simp; omega)).mono ?_
    rintro e w1 ⟨rfl, hb1⟩
    have hA1 : Below (w.heap.size + 2) ((w.alloc (.cells (vals 0 n x s y) 24)).alloc (.cells (vals 0 n2 x2 s2 y2) 24)) w1 := by simpa using hb1
    have z1 : w.heap.size + 2 ≤ w1.heap.size := by have := hb1.size; simpa using this
    have HT1 := Lib.hid (HT0.out.on hb1)
    obtain ⟨va, vb⟩ := two_cells _ _ _ _ _ _ _ _ _ _ hA1
    have a0 := va 0 _ rfl; have a1 := va 1 _ rfl; have a2 := va 2 _ rfl; have a3 := va 3 _ rfl; have a4 := va 4 _ rfl
    have b0 := vb 0 _ rfl; have b1 := vb 1 _ rfl; have b2 := vb 2 _ rfl; have b3 := vb 3 _ rfl; have b4 := vb 4 _ rfl
    clear va vb
    have HA1 := Lib.hid hA1; clear hb1 hA1
    go_wp2_with fail
    clear a0 a1 a2 a3 a4 b0 b1 b2 b3 b4
    refine (light_c _ _ _ _ _ _).mono ?_
    rw [show decide ((s.size : Int) ≤ 300) = true from decide_eq_true (by have := L1.out; omega)]
    rintro e w2 ⟨rfl, hb2⟩
    have hA2 := HA1.out.trans (hb2.mono z1)
    have z2 : w.heap.size + 2 ≤ w2.heap.size := by have := hb2.size; omega
    have HT2 := Lib.hid (HT1.out.on hb2)
    obtain ⟨va, vb⟩ := two_cells _ _ _ _ _ _ _ _ _ _ hA2
    have a0 := va 0 _ rfl; have a1 := va 1 _ rfl; have a2 := va 2 _ rfl; have a3 := va 3 _ rfl; have a4 := va 4 _ rfl
    have b0 := vb 0 _ rfl; have b1 := vb 1 _ rfl; have b2 := vb 2 _ rfl; have b3 := vb 3 _ rfl; have b4 := vb 4 _ rfl
    clear va vb
    have HA2 := Lib.hid hA2; clear hb2 hA2
    go_wp2_with fail
    clear a0 a1 a2 a3 a4 b0 b1 b2 b3 b4
    refine (light_c _ _ _ _ _ _).mono ?_
    rw [show decide ((s2.size : Int) ≤ 300) = true from decide_eq_true (by have := L2.out; omega)]
    rintro e w3 ⟨rfl, hb3⟩
    have hA3 := HA2.out.trans (hb3.mono z2)
    have z3 : w.heap.size + 2 ≤ w3.heap.size := by have := hb3.size; omega
    have HT3 := Lib.hid (HT2.out.on hb3)
    obtain ⟨va, vb⟩ := two_cells _ _ _ _ _ _ _ _ _ _ hA3
    have a0 := va 0 _ rfl; have a1 := va 1 _ rfl; have a2 := va 2 _ rfl; have a3 := va 3 _ rfl; have a4 := va 4 _ rfl
    have b0 := vb 0 _ rfl; have b1 := vb 1 _ rfl; have b2 := vb 2 _ rfl; have b3 := vb 3 _ rfl; have b4 := vb 4 _ rfl
    clear va vb
    have HA3 := Lib.hid hA3; clear hb3 hA3
    go_wp2_with fail
    clear a0 a1 a2 a3 a4 b0 b1 b2 b3 b4
    refine (compare_c 0 _ _ _ _ _ _ _ _ _ HX.out HX2.out (show voidB 0 x = false from rfl) (show voidB 0 x2 = false from rfl)).mono ?_
    rw [EP.out]
    rintro e w4 ⟨rfl, hb4⟩
    have hA4 := HA3.out.trans (hb4.mono z3)
    have z4 : w.heap.size + 2 ≤ w4.heap.size := by have := hb4.size; omega
    have HT4 := Lib.hid (HT3.out.on hb4)
    obtain ⟨va, vb⟩ := two_cells _ _ _ _ _ _ _ _ _ _ hA4
    have a0 := va 0 _ rfl; have a1 := va 1 _ rfl; have a2 := va 2 _ rfl; have a3 := va 3 _ rfl; have a4 := va 4 _ rfl
    have b0 := vb 0 _ rfl; have b1 := vb 1 _ rfl; have b2 := vb 2 _ rfl; have b3 := vb 3 _ rfl; have b4 := vb 4 _ rfl
    clear va vb
    have HA4 := Lib.hid hA4; clear hb4 hA4
    go_wp2_with fail
    clear a0 a1 a2 a3 a4 b0 b1 b2 b3 b4
    refine (compare_c 0 _ _ _ _ _ _ _ _ _ HX2.out HX.out (show voidB 0 x2 = false from rfl) (show voidB 0 x = false from rfl)).mono ?_
    rw [EQ.out]
    rintro e w5 ⟨rfl, hb5⟩
    have hA5 := HA4.out.trans (hb5.mono z4)
    have z5 : w.heap.size + 2 ≤ w5.heap.size := by have := hb5.size; omega
    have HT5 := Lib.hid (HT4.out.on hb5)
    obtain ⟨va, vb⟩ := two_cells _ _ _ _ _ _ _ _ _ _ hA5
    have a0 := va 0 _ rfl; have a1 := va 1 _ rfl; have a2 := va 2 _ rfl; have a3 := va 3 _ rfl; have a4 := va 4 _ rfl
    have b0 := vb 0 _ rfl; have b1 := vb 1 _ rfl; have b2 := vb 2 _ rfl; have b3 := vb 3 _ rfl; have b4 := vb 4 _ rfl
    clear va vb
    have HA5 := Lib.hid hA5; clear hb5 hA5
    go_wp2_with fail
    clear a0 a1 a2 a3 a4 b0 b1 b2 b3 b4
    refine (rank_c 0 _ _ _ _ _).mono ?_
    rw [show rankV 0 = 0 from rfl]
    rintro e w6 ⟨rfl, hb6⟩
    have hA6 := HA5.out.trans (hb6.mono z5)
    have z6 : w.heap.size + 2 ≤ w6.heap.size := by have := hb6.size; omega
    have HT6 := Lib.hid (HT5.out.on hb6)
    obtain ⟨va, vb⟩ := two_cells _ _ _ _ _ _ _ _ _ _ hA6
    have a0 := va 0 _ rfl; have a1 := va 1 _ rfl; have a2 := va 2 _ rfl; have a3 := va 3 _ rfl; have a4 := va 4 _ rfl
    have b0 := vb 0 _ rfl; have b1 := vb 1 _ rfl; have b2 := vb 2 _ rfl; have b3 := vb 3 _ rfl; have b4 := vb 4 _ rfl
    clear va vb
    have HA6 := Lib.hid hA6; clear hb6 hA6
    go_wp2_with fail
    go_quiet (fail)
    go_wp2_with fail
    clear a0 a1 a2 a3 a4 b0 b1 b2 b3 b4
    refine (same_v 0 _ _ _ _ _ _ _ _ _ HX.out HX2.out).mono ?_
    rw [EM.out]
    rintro e w7 ⟨rfl, hb7⟩
    have HB7 := Lib.hid hb7; clear hb7
    go_wp2
    go_ret
    exact ⟨rfl, (HB0.out.trans (HA6.out.mono (by omega))).trans ((drewN_below _ _ _).trans (HB7.out.mono (by have := z6; simp; omega)))⟩
set_option maxHeartbeats 4000000 in
theorem compares_k1 (n : Int) (x : Nat) (s : ByteArray) (y : Bool) (n2 : Int) (x2 : Nat) (s2 : ByteArray) (y2 : Bool) (w : World) (hT : Tabs w) (l1 : (s.size : Int) ≤ 300) (l2 : (s2.size : Int) ≤ 300) (hx : x < 18446744073709551616) (hx2 : x2 < 18446744073709551616) (h1 : fnan x = false) (h2 : fnan x2 = false) (p q : Int) (ls sm : Bool) (el : (FloatKind.f64.format.order x x2 == some .lt) = ls) (es : (FloatKind.f64.format.order x x2 == some .eq) = sm) (ep : cmpV 1 n n2 x x2 s s2 y y2 = p) (eq : cmpV 1 n2 n x2 x s2 s y2 y = q) (em : sameV 1 n n2 x x2 s s2 y y2 = sm) (tri : (p = -1 ∧ q = 1 ∧ ls = true ∧ sm = false) ∨ (p = 0 ∧ q = 0 ∧ ls = false ∧ sm = true) ∨ (p = 1 ∧ q = -1 ∧ ls = false ∧ sm = false)) :
    Calls Tryz.prog 3 #[val 1 n x s y, val 1 n2 x2 s2 y2] w fun e w' => e = .returned (.bool true) ∧ Below w.heap.size w w' := by
  have hg : 17 < w.heap.size := World.block_lt_of_cell? w ⟨17, _, none⟩ (hT.pow 0 (by decide)).1
  have B0 : Below w.heap.size w ((w.alloc (.cells (vals 1 n x s y) 24)).alloc (.cells (vals 1 n2 x2 s2 y2) 24)) := ((Below.refl _ _).alloc (Nat.le_refl _) _).alloc (by simp) _
  have HT0 := Lib.hid (hT.on B0); have HB0 := Lib.hid B0; clear hT B0
  have nx := neq_self x; have nx2 := neq_self x2
  rw [h1] at nx; rw [h2] at nx2
  have H1 := Lib.hid h1; have H2 := Lib.hid h2; clear h1 h2
  have HX := Lib.hid hx; have HX2 := Lib.hid hx2; clear hx hx2
  have EP := Lib.hid ep; have EQ := Lib.hid eq; have EM := Lib.hid em; clear ep eq em
  rcases tri with ⟨rfl, rfl, rfl, rfl⟩ | ⟨rfl, rfl, rfl, rfl⟩ | ⟨rfl, rfl, rfl, rfl⟩
  all_goals
    have L1 := Lib.hid l1; have L2 := Lib.hid l2; clear l1 l2
    go_enter Tryz.func3, Tryz.ntmps3
    go_wp2_with fail
    refine (fit_c _ HT0.out (by simp; omega)).mono ?_
    rintro e w1 ⟨rfl, hb1⟩
    have hA1 : Below (w.heap.size + 2) ((w.alloc (.cells (vals 1 n x s y) 24)).alloc (.cells (vals 1 n2 x2 s2 y2) 24)) w1 := by simpa using hb1
    have z1 : w.heap.size + 2 ≤ w1.heap.size := by have := hb1.size; simpa using this
    have HT1 := Lib.hid (HT0.out.on hb1)
    obtain ⟨va, vb⟩ := two_cells _ _ _ _ _ _ _ _ _ _ hA1
    have a0 := va 0 _ rfl; have a1 := va 1 _ rfl; have a2 := va 2 _ rfl; have a3 := va 3 _ rfl; have a4 := va 4 _ rfl
    have b0 := vb 0 _ rfl; have b1 := vb 1 _ rfl; have b2 := vb 2 _ rfl; have b3 := vb 3 _ rfl; have b4 := vb 4 _ rfl
    clear va vb
    have HA1 := Lib.hid hA1; clear hb1 hA1
    go_wp2_with fail
    clear a0 a1 a2 a3 a4 b0 b1 b2 b3 b4
    refine (light_c _ _ _ _ _ _).mono ?_
    rw [show decide ((s.size : Int) ≤ 300) = true from decide_eq_true (by have := L1.out; omega)]
    rintro e w2 ⟨rfl, hb2⟩
    have hA2 := HA1.out.trans (hb2.mono z1)
    have z2 : w.heap.size + 2 ≤ w2.heap.size := by have := hb2.size; omega
    have HT2 := Lib.hid (HT1.out.on hb2)
    obtain ⟨va, vb⟩ := two_cells _ _ _ _ _ _ _ _ _ _ hA2
    have a0 := va 0 _ rfl; have a1 := va 1 _ rfl; have a2 := va 2 _ rfl; have a3 := va 3 _ rfl; have a4 := va 4 _ rfl
    have b0 := vb 0 _ rfl; have b1 := vb 1 _ rfl; have b2 := vb 2 _ rfl; have b3 := vb 3 _ rfl; have b4 := vb 4 _ rfl
    clear va vb
    have HA2 := Lib.hid hA2; clear hb2 hA2
    go_wp2_with fail
    clear a0 a1 a2 a3 a4 b0 b1 b2 b3 b4
    refine (light_c _ _ _ _ _ _).mono ?_
    rw [show decide ((s2.size : Int) ≤ 300) = true from decide_eq_true (by have := L2.out; omega)]
    rintro e w3 ⟨rfl, hb3⟩
    have hA3 := HA2.out.trans (hb3.mono z2)
    have z3 : w.heap.size + 2 ≤ w3.heap.size := by have := hb3.size; omega
    have HT3 := Lib.hid (HT2.out.on hb3)
    obtain ⟨va, vb⟩ := two_cells _ _ _ _ _ _ _ _ _ _ hA3
    have a0 := va 0 _ rfl; have a1 := va 1 _ rfl; have a2 := va 2 _ rfl; have a3 := va 3 _ rfl; have a4 := va 4 _ rfl
    have b0 := vb 0 _ rfl; have b1 := vb 1 _ rfl; have b2 := vb 2 _ rfl; have b3 := vb 3 _ rfl; have b4 := vb 4 _ rfl
    clear va vb
    have HA3 := Lib.hid hA3; clear hb3 hA3
    go_wp2_with fail
    clear a0 a1 a2 a3 a4 b0 b1 b2 b3 b4
    refine (compare_c 1 _ _ _ _ _ _ _ _ _ HX.out HX2.out (show voidB 1 x = false from H1.out) (show voidB 1 x2 = false from H2.out)).mono ?_
    rw [EP.out]
    rintro e w4 ⟨rfl, hb4⟩
    have hA4 := HA3.out.trans (hb4.mono z3)
    have z4 : w.heap.size + 2 ≤ w4.heap.size := by have := hb4.size; omega
    have HT4 := Lib.hid (HT3.out.on hb4)
    obtain ⟨va, vb⟩ := two_cells _ _ _ _ _ _ _ _ _ _ hA4
    have a0 := va 0 _ rfl; have a1 := va 1 _ rfl; have a2 := va 2 _ rfl; have a3 := va 3 _ rfl; have a4 := va 4 _ rfl
    have b0 := vb 0 _ rfl; have b1 := vb 1 _ rfl; have b2 := vb 2 _ rfl; have b3 := vb 3 _ rfl; have b4 := vb 4 _ rfl
    clear va vb
    have HA4 := Lib.hid hA4; clear hb4 hA4
    go_wp2_with fail
    clear a0 a1 a2 a3 a4 b0 b1 b2 b3 b4
    refine (compare_c 1 _ _ _ _ _ _ _ _ _ HX2.out HX.out (show voidB 1 x2 = false from H2.out) (show voidB 1 x = false from H1.out)).mono ?_
    rw [EQ.out]
    rintro e w5 ⟨rfl, hb5⟩
    have hA5 := HA4.out.trans (hb5.mono z4)
    have z5 : w.heap.size + 2 ≤ w5.heap.size := by have := hb5.size; omega
    have HT5 := Lib.hid (HT4.out.on hb5)
    obtain ⟨va, vb⟩ := two_cells _ _ _ _ _ _ _ _ _ _ hA5
    have a0 := va 0 _ rfl; have a1 := va 1 _ rfl; have a2 := va 2 _ rfl; have a3 := va 3 _ rfl; have a4 := va 4 _ rfl
    have b0 := vb 0 _ rfl; have b1 := vb 1 _ rfl; have b2 := vb 2 _ rfl; have b3 := vb 3 _ rfl; have b4 := vb 4 _ rfl
    clear va vb
    have HA5 := Lib.hid hA5; clear hb5 hA5
    go_wp2_with fail
    clear a0 a1 a2 a3 a4 b0 b1 b2 b3 b4
    refine (rank_c 1 _ _ _ _ _).mono ?_
    rw [show rankV 1 = 1 from rfl]
    rintro e w6 ⟨rfl, hb6⟩
    have hA6 := HA5.out.trans (hb6.mono z5)
    have z6 : w.heap.size + 2 ≤ w6.heap.size := by have := hb6.size; omega
    have HT6 := Lib.hid (HT5.out.on hb6)
    obtain ⟨va, vb⟩ := two_cells _ _ _ _ _ _ _ _ _ _ hA6
    have a0 := va 0 _ rfl; have a1 := va 1 _ rfl; have a2 := va 2 _ rfl; have a3 := va 3 _ rfl; have a4 := va 4 _ rfl
    have b0 := vb 0 _ rfl; have b1 := vb 1 _ rfl; have b2 := vb 2 _ rfl; have b3 := vb 3 _ rfl; have b4 := vb 4 _ rfl
    clear va vb
    have HA6 := Lib.hid hA6; clear hb6 hA6
    go_wp2_with fail
    go_quiet (fail)
    go_wp2_with fail
    clear a0 a1 a2 a3 a4 b0 b1 b2 b3 b4
    refine (same_v 1 _ _ _ _ _ _ _ _ _ HX.out HX2.out).mono ?_
    rw [EM.out]
    rintro e w7 ⟨rfl, hb7⟩
    have HB7 := Lib.hid hb7; clear hb7
    go_wp2
    go_ret
    exact ⟨rfl, (HB0.out.trans (HA6.out.mono (by omega))).trans ((drewN_below _ _ _).trans (HB7.out.mono (by have := z6; simp; omega)))⟩
set_option maxHeartbeats 4000000 in
theorem compares_k2 (n : Int) (x : Nat) (s : ByteArray) (y : Bool) (n2 : Int) (x2 : Nat) (s2 : ByteArray) (y2 : Bool) (w : World) (hT : Tabs w) (l1 : (s.size : Int) ≤ 300) (l2 : (s2.size : Int) ≤ 300) (hx : x < 18446744073709551616) (hx2 : x2 < 18446744073709551616) (p q : Int) (ls sm : Bool) (el : (Op.bytesLess s.toList s2.toList) = ls) (es : (s.toList == s2.toList) = sm) (ep : cmpV 2 n n2 x x2 s s2 y y2 = p) (eq : cmpV 2 n2 n x2 x s2 s y2 y = q) (em : sameV 2 n n2 x x2 s s2 y y2 = sm) (tri : (p = -1 ∧ q = 1 ∧ ls = true ∧ sm = false) ∨ (p = 0 ∧ q = 0 ∧ ls = false ∧ sm = true) ∨ (p = 1 ∧ q = -1 ∧ ls = false ∧ sm = false)) :
    Calls Tryz.prog 3 #[val 2 n x s y, val 2 n2 x2 s2 y2] w fun e w' => e = .returned (.bool true) ∧ Below w.heap.size w w' := by
  have hg : 17 < w.heap.size := World.block_lt_of_cell? w ⟨17, _, none⟩ (hT.pow 0 (by decide)).1
  have B0 : Below w.heap.size w ((w.alloc (.cells (vals 2 n x s y) 24)).alloc (.cells (vals 2 n2 x2 s2 y2) 24)) := ((Below.refl _ _).alloc (Nat.le_refl _) _).alloc (by simp) _
  have HT0 := Lib.hid (hT.on B0); have HB0 := Lib.hid B0; clear hT B0
  have HX := Lib.hid hx; have HX2 := Lib.hid hx2; clear hx hx2
  have EP := Lib.hid ep; have EQ := Lib.hid eq; have EM := Lib.hid em; clear ep eq em
  rcases tri with ⟨rfl, rfl, rfl, rfl⟩ | ⟨rfl, rfl, rfl, rfl⟩ | ⟨rfl, rfl, rfl, rfl⟩
  all_goals
    have L1 := Lib.hid l1; have L2 := Lib.hid l2; clear l1 l2
    go_enter Tryz.func3, Tryz.ntmps3
    go_wp2_with fail
    refine (fit_c _ HT0.out (by simp; omega)).mono ?_
    rintro e w1 ⟨rfl, hb1⟩
    have hA1 : Below (w.heap.size + 2) ((w.alloc (.cells (vals 2 n x s y) 24)).alloc (.cells (vals 2 n2 x2 s2 y2) 24)) w1 := by simpa using hb1
    have z1 : w.heap.size + 2 ≤ w1.heap.size := by have := hb1.size; simpa using this
    have HT1 := Lib.hid (HT0.out.on hb1)
    obtain ⟨va, vb⟩ := two_cells _ _ _ _ _ _ _ _ _ _ hA1
    have a0 := va 0 _ rfl; have a1 := va 1 _ rfl; have a2 := va 2 _ rfl; have a3 := va 3 _ rfl; have a4 := va 4 _ rfl
    have b0 := vb 0 _ rfl; have b1 := vb 1 _ rfl; have b2 := vb 2 _ rfl; have b3 := vb 3 _ rfl; have b4 := vb 4 _ rfl
    clear va vb
    have HA1 := Lib.hid hA1; clear hb1 hA1
    go_wp2_with fail
    clear a0 a1 a2 a3 a4 b0 b1 b2 b3 b4
    refine (light_c _ _ _ _ _ _).mono ?_
    rw [show decide ((s.size : Int) ≤ 300) = true from decide_eq_true (by have := L1.out; omega)]
    rintro e w2 ⟨rfl, hb2⟩
    have hA2 := HA1.out.trans (hb2.mono z1)
    have z2 : w.heap.size + 2 ≤ w2.heap.size := by have := hb2.size; omega
    have HT2 := Lib.hid (HT1.out.on hb2)
    obtain ⟨va, vb⟩ := two_cells _ _ _ _ _ _ _ _ _ _ hA2
    have a0 := va 0 _ rfl; have a1 := va 1 _ rfl; have a2 := va 2 _ rfl; have a3 := va 3 _ rfl; have a4 := va 4 _ rfl
    have b0 := vb 0 _ rfl; have b1 := vb 1 _ rfl; have b2 := vb 2 _ rfl; have b3 := vb 3 _ rfl; have b4 := vb 4 _ rfl
    clear va vb
    have HA2 := Lib.hid hA2; clear hb2 hA2
    go_wp2_with fail
    clear a0 a1 a2 a3 a4 b0 b1 b2 b3 b4
    refine (light_c _ _ _ _ _ _).mono ?_
    rw [show decide ((s2.size : Int) ≤ 300) = true from decide_eq_true (by have := L2.out; omega)]
    rintro e w3 ⟨rfl, hb3⟩
    have hA3 := HA2.out.trans (hb3.mono z2)
    have z3 : w.heap.size + 2 ≤ w3.heap.size := by have := hb3.size; omega
    have HT3 := Lib.hid (HT2.out.on hb3)
    obtain ⟨va, vb⟩ := two_cells _ _ _ _ _ _ _ _ _ _ hA3
    have a0 := va 0 _ rfl; have a1 := va 1 _ rfl; have a2 := va 2 _ rfl; have a3 := va 3 _ rfl; have a4 := va 4 _ rfl
    have b0 := vb 0 _ rfl; have b1 := vb 1 _ rfl; have b2 := vb 2 _ rfl; have b3 := vb 3 _ rfl; have b4 := vb 4 _ rfl
    clear va vb
    have HA3 := Lib.hid hA3; clear hb3 hA3
    go_wp2_with fail
    clear a0 a1 a2 a3 a4 b0 b1 b2 b3 b4
    refine (compare_c 2 _ _ _ _ _ _ _ _ _ HX.out HX2.out (show voidB 2 x = false from rfl) (show voidB 2 x2 = false from rfl)).mono ?_
    rw [EP.out]
    rintro e w4 ⟨rfl, hb4⟩
    have hA4 := HA3.out.trans (hb4.mono z3)
    have z4 : w.heap.size + 2 ≤ w4.heap.size := by have := hb4.size; omega
    have HT4 := Lib.hid (HT3.out.on hb4)
    obtain ⟨va, vb⟩ := two_cells _ _ _ _ _ _ _ _ _ _ hA4
    have a0 := va 0 _ rfl; have a1 := va 1 _ rfl; have a2 := va 2 _ rfl; have a3 := va 3 _ rfl; have a4 := va 4 _ rfl
    have b0 := vb 0 _ rfl; have b1 := vb 1 _ rfl; have b2 := vb 2 _ rfl; have b3 := vb 3 _ rfl; have b4 := vb 4 _ rfl
    clear va vb
    have HA4 := Lib.hid hA4; clear hb4 hA4
    go_wp2_with fail
    clear a0 a1 a2 a3 a4 b0 b1 b2 b3 b4
    refine (compare_c 2 _ _ _ _ _ _ _ _ _ HX2.out HX.out (show voidB 2 x2 = false from rfl) (show voidB 2 x = false from rfl)).mono ?_
    rw [EQ.out]
    rintro e w5 ⟨rfl, hb5⟩
    have hA5 := HA4.out.trans (hb5.mono z4)
    have z5 : w.heap.size + 2 ≤ w5.heap.size := by have := hb5.size; omega
    have HT5 := Lib.hid (HT4.out.on hb5)
    obtain ⟨va, vb⟩ := two_cells _ _ _ _ _ _ _ _ _ _ hA5
    have a0 := va 0 _ rfl; have a1 := va 1 _ rfl; have a2 := va 2 _ rfl; have a3 := va 3 _ rfl; have a4 := va 4 _ rfl
    have b0 := vb 0 _ rfl; have b1 := vb 1 _ rfl; have b2 := vb 2 _ rfl; have b3 := vb 3 _ rfl; have b4 := vb 4 _ rfl
    clear va vb
    have HA5 := Lib.hid hA5; clear hb5 hA5
    go_wp2_with fail
    clear a0 a1 a2 a3 a4 b0 b1 b2 b3 b4
    refine (rank_c 2 _ _ _ _ _).mono ?_
    rw [show rankV 2 = 2 from rfl]
    rintro e w6 ⟨rfl, hb6⟩
    have hA6 := HA5.out.trans (hb6.mono z5)
    have z6 : w.heap.size + 2 ≤ w6.heap.size := by have := hb6.size; omega
    have HT6 := Lib.hid (HT5.out.on hb6)
    obtain ⟨va, vb⟩ := two_cells _ _ _ _ _ _ _ _ _ _ hA6
    have a0 := va 0 _ rfl; have a1 := va 1 _ rfl; have a2 := va 2 _ rfl; have a3 := va 3 _ rfl; have a4 := va 4 _ rfl
    have b0 := vb 0 _ rfl; have b1 := vb 1 _ rfl; have b2 := vb 2 _ rfl; have b3 := vb 3 _ rfl; have b4 := vb 4 _ rfl
    clear va vb
    have HA6 := Lib.hid hA6; clear hb6 hA6
    go_wp2_with fail
    go_quiet (fail)
    go_wp2_with fail
    clear a0 a1 a2 a3 a4 b0 b1 b2 b3 b4
    refine (same_v 2 _ _ _ _ _ _ _ _ _ HX.out HX2.out).mono ?_
    rw [EM.out]
    rintro e w7 ⟨rfl, hb7⟩
    have HB7 := Lib.hid hb7; clear hb7
    go_wp2
    go_ret
    exact ⟨rfl, (HB0.out.trans (HA6.out.mono (by omega))).trans ((drewN_below _ _ _).trans (HB7.out.mono (by have := z6; simp; omega)))⟩
set_option maxHeartbeats 4000000 in
theorem compares_k3ff (k : Int) (n : Int) (x : Nat) (s : ByteArray) (n2 : Int) (x2 : Nat) (s2 : ByteArray) (w : World) (hT : Tabs w) (l1 : (s.size : Int) ≤ 300) (l2 : (s2.size : Int) ≤ 300) (hx : x < 18446744073709551616) (hx2 : x2 < 18446744073709551616) (h1 : (k == 1) = false) (hr : rankV k = 3) (hv : ∀ z, voidB k z = false) (ep : cmpV k n n2 x x2 s s2 false false = 0) (eq : cmpV k n2 n x2 x s2 s false false = 0) (em : sameV k n n2 x x2 s s2 false false = true) :
    Calls Tryz.prog 3 #[val k n x s false, val k n2 x2 s2 false] w fun e w' => e = .returned (.bool true) ∧ Below w.heap.size w w' := by
  have hg : 17 < w.heap.size := World.block_lt_of_cell? w ⟨17, _, none⟩ (hT.pow 0 (by decide)).1
  have B0 : Below w.heap.size w ((w.alloc (.cells (vals k n x s false) 24)).alloc (.cells (vals k n2 x2 s2 false) 24)) := ((Below.refl _ _).alloc (Nat.le_refl _) _).alloc (by simp) _
  have HT0 := Lib.hid (hT.on B0); have HB0 := Lib.hid B0; clear hT B0
  have HR := Lib.hid hr; have HV := Lib.hid hv; clear hr hv
  have HX := Lib.hid hx; have HX2 := Lib.hid hx2; clear hx hx2
  have EP := Lib.hid ep; have EQ := Lib.hid eq; have EM := Lib.hid em; clear ep eq em
  have L1 := Lib.hid l1; have L2 := Lib.hid l2; clear l1 l2
  go_enter Tryz.func3, Tryz.ntmps3
  go_wp2_with fail
  refine (fit_c _ HT0.out (by simp; omega)).mono ?_
  rintro e w1 ⟨rfl, hb1⟩
  have hA1 : Below (w.heap.size + 2) ((w.alloc (.cells (vals k n x s false) 24)).alloc (.cells (vals k n2 x2 s2 false) 24)) w1 := by simpa using hb1
  have z1 : w.heap.size + 2 ≤ w1.heap.size := by have := hb1.size; simpa using this
  have HT1 := Lib.hid (HT0.out.on hb1)
  obtain ⟨va, vb⟩ := two_cells _ _ _ _ _ _ _ _ _ _ hA1
  have a0 := va 0 _ rfl; have a1 := va 1 _ rfl; have a2 := va 2 _ rfl; have a3 := va 3 _ rfl; have a4 := va 4 _ rfl
  have b0 := vb 0 _ rfl; have b1 := vb 1 _ rfl; have b2 := vb 2 _ rfl; have b3 := vb 3 _ rfl; have b4 := vb 4 _ rfl
  clear va vb
  have HA1 := Lib.hid hA1; clear hb1 hA1
  go_wp2_with fail
  clear a0 a1 a2 a3 a4 b0 b1 b2 b3 b4
  refine (light_c _ _ _ _ _ _).mono ?_
  rw [show decide ((s.size : Int) ≤ 300) = true from decide_eq_true (by have := L1.out; omega)]
  rintro e w2 ⟨rfl, hb2⟩
  have hA2 := HA1.out.trans (hb2.mono z1)
  have z2 : w.heap.size + 2 ≤ w2.heap.size := by have := hb2.size; omega
  have HT2 := Lib.hid (HT1.out.on hb2)
  obtain ⟨va, vb⟩ := two_cells _ _ _ _ _ _ _ _ _ _ hA2
  have a0 := va 0 _ rfl; have a1 := va 1 _ rfl; have a2 := va 2 _ rfl; have a3 := va 3 _ rfl; have a4 := va 4 _ rfl
  have b0 := vb 0 _ rfl; have b1 := vb 1 _ rfl; have b2 := vb 2 _ rfl; have b3 := vb 3 _ rfl; have b4 := vb 4 _ rfl
  clear va vb
  have HA2 := Lib.hid hA2; clear hb2 hA2
  go_wp2_with fail
  clear a0 a1 a2 a3 a4 b0 b1 b2 b3 b4
  refine (light_c _ _ _ _ _ _).mono ?_
  rw [show decide ((s2.size : Int) ≤ 300) = true from decide_eq_true (by have := L2.out; omega)]
  rintro e w3 ⟨rfl, hb3⟩
  have hA3 := HA2.out.trans (hb3.mono z2)
  have z3 : w.heap.size + 2 ≤ w3.heap.size := by have := hb3.size; omega
  have HT3 := Lib.hid (HT2.out.on hb3)
  obtain ⟨va, vb⟩ := two_cells _ _ _ _ _ _ _ _ _ _ hA3
  have a0 := va 0 _ rfl; have a1 := va 1 _ rfl; have a2 := va 2 _ rfl; have a3 := va 3 _ rfl; have a4 := va 4 _ rfl
  have b0 := vb 0 _ rfl; have b1 := vb 1 _ rfl; have b2 := vb 2 _ rfl; have b3 := vb 3 _ rfl; have b4 := vb 4 _ rfl
  clear va vb
  have HA3 := Lib.hid hA3; clear hb3 hA3
  go_wp2_with fail
  clear a0 a1 a2 a3 a4 b0 b1 b2 b3 b4
  refine (compare_c k _ _ _ _ _ _ _ _ _ HX.out HX2.out (HV.out x) (HV.out x2)).mono ?_
  rw [EP.out]
  rintro e w4 ⟨rfl, hb4⟩
  have hA4 := HA3.out.trans (hb4.mono z3)
  have z4 : w.heap.size + 2 ≤ w4.heap.size := by have := hb4.size; omega
  have HT4 := Lib.hid (HT3.out.on hb4)
  obtain ⟨va, vb⟩ := two_cells _ _ _ _ _ _ _ _ _ _ hA4
  have a0 := va 0 _ rfl; have a1 := va 1 _ rfl; have a2 := va 2 _ rfl; have a3 := va 3 _ rfl; have a4 := va 4 _ rfl
  have b0 := vb 0 _ rfl; have b1 := vb 1 _ rfl; have b2 := vb 2 _ rfl; have b3 := vb 3 _ rfl; have b4 := vb 4 _ rfl
  clear va vb
  have HA4 := Lib.hid hA4; clear hb4 hA4
  go_wp2_with fail
  clear a0 a1 a2 a3 a4 b0 b1 b2 b3 b4
  refine (compare_c k _ _ _ _ _ _ _ _ _ HX2.out HX.out (HV.out x2) (HV.out x)).mono ?_
  rw [EQ.out]
  rintro e w5 ⟨rfl, hb5⟩
  have hA5 := HA4.out.trans (hb5.mono z4)
  have z5 : w.heap.size + 2 ≤ w5.heap.size := by have := hb5.size; omega
  have HT5 := Lib.hid (HT4.out.on hb5)
  obtain ⟨va, vb⟩ := two_cells _ _ _ _ _ _ _ _ _ _ hA5
  have a0 := va 0 _ rfl; have a1 := va 1 _ rfl; have a2 := va 2 _ rfl; have a3 := va 3 _ rfl; have a4 := va 4 _ rfl
  have b0 := vb 0 _ rfl; have b1 := vb 1 _ rfl; have b2 := vb 2 _ rfl; have b3 := vb 3 _ rfl; have b4 := vb 4 _ rfl
  clear va vb
  have HA5 := Lib.hid hA5; clear hb5 hA5
  go_wp2_with fail
  clear a0 a1 a2 a3 a4 b0 b1 b2 b3 b4
  refine (rank_c k _ _ _ _ _).mono ?_
  rw [HR.out]
  rintro e w6 ⟨rfl, hb6⟩
  have hA6 := HA5.out.trans (hb6.mono z5)
  have z6 : w.heap.size + 2 ≤ w6.heap.size := by have := hb6.size; omega
  have HT6 := Lib.hid (HT5.out.on hb6)
  obtain ⟨va, vb⟩ := two_cells _ _ _ _ _ _ _ _ _ _ hA6
  have a0 := va 0 _ rfl; have a1 := va 1 _ rfl; have a2 := va 2 _ rfl; have a3 := va 3 _ rfl; have a4 := va 4 _ rfl
  have b0 := vb 0 _ rfl; have b1 := vb 1 _ rfl; have b2 := vb 2 _ rfl; have b3 := vb 3 _ rfl; have b4 := vb 4 _ rfl
  clear va vb
  have HA6 := Lib.hid hA6; clear hb6 hA6
  go_wp2_with fail
  go_quiet (fail)
  go_wp2_with fail
  clear a0 a1 a2 a3 a4 b0 b1 b2 b3 b4
  refine (same_v k _ _ _ _ _ _ _ _ _ HX.out HX2.out).mono ?_
  rw [EM.out]
  rintro e w7 ⟨rfl, hb7⟩
  have HB7 := Lib.hid hb7; clear hb7
  go_wp2
  go_ret
  exact ⟨rfl, (HB0.out.trans (HA6.out.mono (by omega))).trans ((drewN_below _ _ _).trans (HB7.out.mono (by have := z6; simp; omega)))⟩
set_option maxHeartbeats 4000000 in
theorem compares_k3tt (k : Int) (n : Int) (x : Nat) (s : ByteArray) (n2 : Int) (x2 : Nat) (s2 : ByteArray) (w : World) (hT : Tabs w) (l1 : (s.size : Int) ≤ 300) (l2 : (s2.size : Int) ≤ 300) (hx : x < 18446744073709551616) (hx2 : x2 < 18446744073709551616) (h1 : (k == 1) = false) (hr : rankV k = 3) (hv : ∀ z, voidB k z = false) (ep : cmpV k n n2 x x2 s s2 true true = 0) (eq : cmpV k n2 n x2 x s2 s true true = 0) (em : sameV k n n2 x x2 s s2 true true = true) :
    Calls Tryz.prog 3 #[val k n x s true, val k n2 x2 s2 true] w fun e w' => e = .returned (.bool true) ∧ Below w.heap.size w w' := by
  have hg : 17 < w.heap.size := World.block_lt_of_cell? w ⟨17, _, none⟩ (hT.pow 0 (by decide)).1
  have B0 : Below w.heap.size w ((w.alloc (.cells (vals k n x s true) 24)).alloc (.cells (vals k n2 x2 s2 true) 24)) := ((Below.refl _ _).alloc (Nat.le_refl _) _).alloc (by simp) _
  have HT0 := Lib.hid (hT.on B0); have HB0 := Lib.hid B0; clear hT B0
  have HR := Lib.hid hr; have HV := Lib.hid hv; clear hr hv
  have HX := Lib.hid hx; have HX2 := Lib.hid hx2; clear hx hx2
  have EP := Lib.hid ep; have EQ := Lib.hid eq; have EM := Lib.hid em; clear ep eq em
  have L1 := Lib.hid l1; have L2 := Lib.hid l2; clear l1 l2
  go_enter Tryz.func3, Tryz.ntmps3
  go_wp2_with fail
  refine (fit_c _ HT0.out (by simp; omega)).mono ?_
  rintro e w1 ⟨rfl, hb1⟩
  have hA1 : Below (w.heap.size + 2) ((w.alloc (.cells (vals k n x s true) 24)).alloc (.cells (vals k n2 x2 s2 true) 24)) w1 := by simpa using hb1
  have z1 : w.heap.size + 2 ≤ w1.heap.size := by have := hb1.size; simpa using this
  have HT1 := Lib.hid (HT0.out.on hb1)
  obtain ⟨va, vb⟩ := two_cells _ _ _ _ _ _ _ _ _ _ hA1
  have a0 := va 0 _ rfl; have a1 := va 1 _ rfl; have a2 := va 2 _ rfl; have a3 := va 3 _ rfl; have a4 := va 4 _ rfl
  have b0 := vb 0 _ rfl; have b1 := vb 1 _ rfl; have b2 := vb 2 _ rfl; have b3 := vb 3 _ rfl; have b4 := vb 4 _ rfl
  clear va vb
  have HA1 := Lib.hid hA1; clear hb1 hA1
  go_wp2_with fail
  clear a0 a1 a2 a3 a4 b0 b1 b2 b3 b4
  refine (light_c _ _ _ _ _ _).mono ?_
  rw [show decide ((s.size : Int) ≤ 300) = true from decide_eq_true (by have := L1.out; omega)]
  rintro e w2 ⟨rfl, hb2⟩
  have hA2 := HA1.out.trans (hb2.mono z1)
  have z2 : w.heap.size + 2 ≤ w2.heap.size := by have := hb2.size; omega
  have HT2 := Lib.hid (HT1.out.on hb2)
  obtain ⟨va, vb⟩ := two_cells _ _ _ _ _ _ _ _ _ _ hA2
  have a0 := va 0 _ rfl; have a1 := va 1 _ rfl; have a2 := va 2 _ rfl; have a3 := va 3 _ rfl; have a4 := va 4 _ rfl
  have b0 := vb 0 _ rfl; have b1 := vb 1 _ rfl; have b2 := vb 2 _ rfl; have b3 := vb 3 _ rfl; have b4 := vb 4 _ rfl
  clear va vb
  have HA2 := Lib.hid hA2; clear hb2 hA2
  go_wp2_with fail
  clear a0 a1 a2 a3 a4 b0 b1 b2 b3 b4
  refine (light_c _ _ _ _ _ _).mono ?_
  rw [show decide ((s2.size : Int) ≤ 300) = true from decide_eq_true (by have := L2.out; omega)]
  rintro e w3 ⟨rfl, hb3⟩
  have hA3 := HA2.out.trans (hb3.mono z2)
  have z3 : w.heap.size + 2 ≤ w3.heap.size := by have := hb3.size; omega
  have HT3 := Lib.hid (HT2.out.on hb3)
  obtain ⟨va, vb⟩ := two_cells _ _ _ _ _ _ _ _ _ _ hA3
  have a0 := va 0 _ rfl; have a1 := va 1 _ rfl; have a2 := va 2 _ rfl; have a3 := va 3 _ rfl; have a4 := va 4 _ rfl
  have b0 := vb 0 _ rfl; have b1 := vb 1 _ rfl; have b2 := vb 2 _ rfl; have b3 := vb 3 _ rfl; have b4 := vb 4 _ rfl
  clear va vb
  have HA3 := Lib.hid hA3; clear hb3 hA3
  go_wp2_with fail
  clear a0 a1 a2 a3 a4 b0 b1 b2 b3 b4
  refine (compare_c k _ _ _ _ _ _ _ _ _ HX.out HX2.out (HV.out x) (HV.out x2)).mono ?_
  rw [EP.out]
  rintro e w4 ⟨rfl, hb4⟩
  have hA4 := HA3.out.trans (hb4.mono z3)
  have z4 : w.heap.size + 2 ≤ w4.heap.size := by have := hb4.size; omega
  have HT4 := Lib.hid (HT3.out.on hb4)
  obtain ⟨va, vb⟩ := two_cells _ _ _ _ _ _ _ _ _ _ hA4
  have a0 := va 0 _ rfl; have a1 := va 1 _ rfl; have a2 := va 2 _ rfl; have a3 := va 3 _ rfl; have a4 := va 4 _ rfl
  have b0 := vb 0 _ rfl; have b1 := vb 1 _ rfl; have b2 := vb 2 _ rfl; have b3 := vb 3 _ rfl; have b4 := vb 4 _ rfl
  clear va vb
  have HA4 := Lib.hid hA4; clear hb4 hA4
  go_wp2_with fail
  clear a0 a1 a2 a3 a4 b0 b1 b2 b3 b4
  refine (compare_c k _ _ _ _ _ _ _ _ _ HX2.out HX.out (HV.out x2) (HV.out x)).mono ?_
  rw [EQ.out]
  rintro e w5 ⟨rfl, hb5⟩
  have hA5 := HA4.out.trans (hb5.mono z4)
  have z5 : w.heap.size + 2 ≤ w5.heap.size := by have := hb5.size; omega
  have HT5 := Lib.hid (HT4.out.on hb5)
  obtain ⟨va, vb⟩ := two_cells _ _ _ _ _ _ _ _ _ _ hA5
  have a0 := va 0 _ rfl; have a1 := va 1 _ rfl; have a2 := va 2 _ rfl; have a3 := va 3 _ rfl; have a4 := va 4 _ rfl
  have b0 := vb 0 _ rfl; have b1 := vb 1 _ rfl; have b2 := vb 2 _ rfl; have b3 := vb 3 _ rfl; have b4 := vb 4 _ rfl
  clear va vb
  have HA5 := Lib.hid hA5; clear hb5 hA5
  go_wp2_with fail
  clear a0 a1 a2 a3 a4 b0 b1 b2 b3 b4
  refine (rank_c k _ _ _ _ _).mono ?_
  rw [HR.out]
  rintro e w6 ⟨rfl, hb6⟩
  have hA6 := HA5.out.trans (hb6.mono z5)
  have z6 : w.heap.size + 2 ≤ w6.heap.size := by have := hb6.size; omega
  have HT6 := Lib.hid (HT5.out.on hb6)
  obtain ⟨va, vb⟩ := two_cells _ _ _ _ _ _ _ _ _ _ hA6
  have a0 := va 0 _ rfl; have a1 := va 1 _ rfl; have a2 := va 2 _ rfl; have a3 := va 3 _ rfl; have a4 := va 4 _ rfl
  have b0 := vb 0 _ rfl; have b1 := vb 1 _ rfl; have b2 := vb 2 _ rfl; have b3 := vb 3 _ rfl; have b4 := vb 4 _ rfl
  clear va vb
  have HA6 := Lib.hid hA6; clear hb6 hA6
  go_wp2_with fail
  go_quiet (fail)
  go_wp2_with fail
  clear a0 a1 a2 a3 a4 b0 b1 b2 b3 b4
  refine (same_v k _ _ _ _ _ _ _ _ _ HX.out HX2.out).mono ?_
  rw [EM.out]
  rintro e w7 ⟨rfl, hb7⟩
  have HB7 := Lib.hid hb7; clear hb7
  go_wp2
  go_ret
  exact ⟨rfl, (HB0.out.trans (HA6.out.mono (by omega))).trans ((drewN_below _ _ _).trans (HB7.out.mono (by have := z6; simp; omega)))⟩
set_option maxHeartbeats 4000000 in
theorem compares_k3ft (k : Int) (n : Int) (x : Nat) (s : ByteArray) (n2 : Int) (x2 : Nat) (s2 : ByteArray) (w : World) (hT : Tabs w) (l1 : (s.size : Int) ≤ 300) (l2 : (s2.size : Int) ≤ 300) (hx : x < 18446744073709551616) (hx2 : x2 < 18446744073709551616) (h1 : (k == 1) = false) (hr : rankV k = 3) (hv : ∀ z, voidB k z = false) (ep : cmpV k n n2 x x2 s s2 false true = -1) (eq : cmpV k n2 n x2 x s2 s true false = 1) (em : sameV k n n2 x x2 s s2 false true = false) :
    Calls Tryz.prog 3 #[val k n x s false, val k n2 x2 s2 true] w fun e w' => e = .returned (.bool true) ∧ Below w.heap.size w w' := by
  have hg : 17 < w.heap.size := World.block_lt_of_cell? w ⟨17, _, none⟩ (hT.pow 0 (by decide)).1
  have B0 : Below w.heap.size w ((w.alloc (.cells (vals k n x s false) 24)).alloc (.cells (vals k n2 x2 s2 true) 24)) := ((Below.refl _ _).alloc (Nat.le_refl _) _).alloc (by simp) _
  have HT0 := Lib.hid (hT.on B0); have HB0 := Lib.hid B0; clear hT B0
  have HR := Lib.hid hr; have HV := Lib.hid hv; clear hr hv
  have HX := Lib.hid hx; have HX2 := Lib.hid hx2; clear hx hx2
  have EP := Lib.hid ep; have EQ := Lib.hid eq; have EM := Lib.hid em; clear ep eq em
  have L1 := Lib.hid l1; have L2 := Lib.hid l2; clear l1 l2
  go_enter Tryz.func3, Tryz.ntmps3
  go_wp2_with fail
  refine (fit_c _ HT0.out (by simp; omega)).mono ?_
  rintro e w1 ⟨rfl, hb1⟩
  have hA1 : Below (w.heap.size + 2) ((w.alloc (.cells (vals k n x s false) 24)).alloc (.cells (vals k n2 x2 s2 true) 24)) w1 := by simpa using hb1
  have z1 : w.heap.size + 2 ≤ w1.heap.size := by have := hb1.size; simpa using this
  have HT1 := Lib.hid (HT0.out.on hb1)
  obtain ⟨va, vb⟩ := two_cells _ _ _ _ _ _ _ _ _ _ hA1
  have a0 := va 0 _ rfl; have a1 := va 1 _ rfl; have a2 := va 2 _ rfl; have a3 := va 3 _ rfl; have a4 := va 4 _ rfl
  have b0 := vb 0 _ rfl; have b1 := vb 1 _ rfl; have b2 := vb 2 _ rfl; have b3 := vb 3 _ rfl; have b4 := vb 4 _ rfl
  clear va vb
  have HA1 := Lib.hid hA1; clear hb1 hA1
  go_wp2_with fail
  clear a0 a1 a2 a3 a4 b0 b1 b2 b3 b4
  refine (light_c _ _ _ _ _ _).mono ?_
  rw [show decide ((s.size : Int) ≤ 300) = true from decide_eq_true (by have := L1.out; omega)]
  rintro e w2 ⟨rfl, hb2⟩
  have hA2 := HA1.out.trans (hb2.mono z1)
  have z2 : w.heap.size + 2 ≤ w2.heap.size := by have := hb2.size; omega
  have HT2 := Lib.hid (HT1.out.on hb2)
  obtain ⟨va, vb⟩ := two_cells _ _ _ _ _ _ _ _ _ _ hA2
  have a0 := va 0 _ rfl; have a1 := va 1 _ rfl; have a2 := va 2 _ rfl; have a3 := va 3 _ rfl; have a4 := va 4 _ rfl
  have b0 := vb 0 _ rfl; have b1 := vb 1 _ rfl; have b2 := vb 2 _ rfl; have b3 := vb 3 _ rfl; have b4 := vb 4 _ rfl
  clear va vb
  have HA2 := Lib.hid hA2; clear hb2 hA2
  go_wp2_with fail
  clear a0 a1 a2 a3 a4 b0 b1 b2 b3 b4
  refine (light_c _ _ _ _ _ _).mono ?_
  rw [show decide ((s2.size : Int) ≤ 300) = true from decide_eq_true (by have := L2.out; omega)]
  rintro e w3 ⟨rfl, hb3⟩
  have hA3 := HA2.out.trans (hb3.mono z2)
  have z3 : w.heap.size + 2 ≤ w3.heap.size := by have := hb3.size; omega
  have HT3 := Lib.hid (HT2.out.on hb3)
  obtain ⟨va, vb⟩ := two_cells _ _ _ _ _ _ _ _ _ _ hA3
  have a0 := va 0 _ rfl; have a1 := va 1 _ rfl; have a2 := va 2 _ rfl; have a3 := va 3 _ rfl; have a4 := va 4 _ rfl
  have b0 := vb 0 _ rfl; have b1 := vb 1 _ rfl; have b2 := vb 2 _ rfl; have b3 := vb 3 _ rfl; have b4 := vb 4 _ rfl
  clear va vb
  have HA3 := Lib.hid hA3; clear hb3 hA3
  go_wp2_with fail
  clear a0 a1 a2 a3 a4 b0 b1 b2 b3 b4
  refine (compare_c k _ _ _ _ _ _ _ _ _ HX.out HX2.out (HV.out x) (HV.out x2)).mono ?_
  rw [EP.out]
  rintro e w4 ⟨rfl, hb4⟩
  have hA4 := HA3.out.trans (hb4.mono z3)
  have z4 : w.heap.size + 2 ≤ w4.heap.size := by have := hb4.size; omega
  have HT4 := Lib.hid (HT3.out.on hb4)
  obtain ⟨va, vb⟩ := two_cells _ _ _ _ _ _ _ _ _ _ hA4
  have a0 := va 0 _ rfl; have a1 := va 1 _ rfl; have a2 := va 2 _ rfl; have a3 := va 3 _ rfl; have a4 := va 4 _ rfl
  have b0 := vb 0 _ rfl; have b1 := vb 1 _ rfl; have b2 := vb 2 _ rfl; have b3 := vb 3 _ rfl; have b4 := vb 4 _ rfl
  clear va vb
  have HA4 := Lib.hid hA4; clear hb4 hA4
  go_wp2_with fail
  clear a0 a1 a2 a3 a4 b0 b1 b2 b3 b4
  refine (compare_c k _ _ _ _ _ _ _ _ _ HX2.out HX.out (HV.out x2) (HV.out x)).mono ?_
  rw [EQ.out]
  rintro e w5 ⟨rfl, hb5⟩
  have hA5 := HA4.out.trans (hb5.mono z4)
  have z5 : w.heap.size + 2 ≤ w5.heap.size := by have := hb5.size; omega
  have HT5 := Lib.hid (HT4.out.on hb5)
  obtain ⟨va, vb⟩ := two_cells _ _ _ _ _ _ _ _ _ _ hA5
  have a0 := va 0 _ rfl; have a1 := va 1 _ rfl; have a2 := va 2 _ rfl; have a3 := va 3 _ rfl; have a4 := va 4 _ rfl
  have b0 := vb 0 _ rfl; have b1 := vb 1 _ rfl; have b2 := vb 2 _ rfl; have b3 := vb 3 _ rfl; have b4 := vb 4 _ rfl
  clear va vb
  have HA5 := Lib.hid hA5; clear hb5 hA5
  go_wp2_with fail
  clear a0 a1 a2 a3 a4 b0 b1 b2 b3 b4
  refine (rank_c k _ _ _ _ _).mono ?_
  rw [HR.out]
  rintro e w6 ⟨rfl, hb6⟩
  have hA6 := HA5.out.trans (hb6.mono z5)
  have z6 : w.heap.size + 2 ≤ w6.heap.size := by have := hb6.size; omega
  have HT6 := Lib.hid (HT5.out.on hb6)
  obtain ⟨va, vb⟩ := two_cells _ _ _ _ _ _ _ _ _ _ hA6
  have a0 := va 0 _ rfl; have a1 := va 1 _ rfl; have a2 := va 2 _ rfl; have a3 := va 3 _ rfl; have a4 := va 4 _ rfl
  have b0 := vb 0 _ rfl; have b1 := vb 1 _ rfl; have b2 := vb 2 _ rfl; have b3 := vb 3 _ rfl; have b4 := vb 4 _ rfl
  clear va vb
  have HA6 := Lib.hid hA6; clear hb6 hA6
  go_wp2_with fail
  go_quiet (fail)
  go_wp2_with fail
  clear a0 a1 a2 a3 a4 b0 b1 b2 b3 b4
  refine (same_v k _ _ _ _ _ _ _ _ _ HX.out HX2.out).mono ?_
  rw [EM.out]
  rintro e w7 ⟨rfl, hb7⟩
  have HB7 := Lib.hid hb7; clear hb7
  go_wp2
  go_ret
  exact ⟨rfl, (HB0.out.trans (HA6.out.mono (by omega))).trans ((drewN_below _ _ _).trans (HB7.out.mono (by have := z6; simp; omega)))⟩
set_option maxHeartbeats 4000000 in
theorem compares_k3tf (k : Int) (n : Int) (x : Nat) (s : ByteArray) (n2 : Int) (x2 : Nat) (s2 : ByteArray) (w : World) (hT : Tabs w) (l1 : (s.size : Int) ≤ 300) (l2 : (s2.size : Int) ≤ 300) (hx : x < 18446744073709551616) (hx2 : x2 < 18446744073709551616) (h1 : (k == 1) = false) (hr : rankV k = 3) (hv : ∀ z, voidB k z = false) (ep : cmpV k n n2 x x2 s s2 true false = 1) (eq : cmpV k n2 n x2 x s2 s false true = -1) (em : sameV k n n2 x x2 s s2 true false = false) :
    Calls Tryz.prog 3 #[val k n x s true, val k n2 x2 s2 false] w fun e w' => e = .returned (.bool true) ∧ Below w.heap.size w w' := by
  have hg : 17 < w.heap.size := World.block_lt_of_cell? w ⟨17, _, none⟩ (hT.pow 0 (by decide)).1
  have B0 : Below w.heap.size w ((w.alloc (.cells (vals k n x s true) 24)).alloc (.cells (vals k n2 x2 s2 false) 24)) := ((Below.refl _ _).alloc (Nat.le_refl _) _).alloc (by simp) _
  have HT0 := Lib.hid (hT.on B0); have HB0 := Lib.hid B0; clear hT B0
  have HR := Lib.hid hr; have HV := Lib.hid hv; clear hr hv
  have HX := Lib.hid hx; have HX2 := Lib.hid hx2; clear hx hx2
  have EP := Lib.hid ep; have EQ := Lib.hid eq; have EM := Lib.hid em; clear ep eq em
  have L1 := Lib.hid l1; have L2 := Lib.hid l2; clear l1 l2
  go_enter Tryz.func3, Tryz.ntmps3
  go_wp2_with fail
  refine (fit_c _ HT0.out (by simp; omega)).mono ?_
  rintro e w1 ⟨rfl, hb1⟩
  have hA1 : Below (w.heap.size + 2) ((w.alloc (.cells (vals k n x s true) 24)).alloc (.cells (vals k n2 x2 s2 false) 24)) w1 := by simpa using hb1
  have z1 : w.heap.size + 2 ≤ w1.heap.size := by have := hb1.size; simpa using this
  have HT1 := Lib.hid (HT0.out.on hb1)
  obtain ⟨va, vb⟩ := two_cells _ _ _ _ _ _ _ _ _ _ hA1
  have a0 := va 0 _ rfl; have a1 := va 1 _ rfl; have a2 := va 2 _ rfl; have a3 := va 3 _ rfl; have a4 := va 4 _ rfl
  have b0 := vb 0 _ rfl; have b1 := vb 1 _ rfl; have b2 := vb 2 _ rfl; have b3 := vb 3 _ rfl; have b4 := vb 4 _ rfl
  clear va vb
  have HA1 := Lib.hid hA1; clear hb1 hA1
  go_wp2_with fail
  clear a0 a1 a2 a3 a4 b0 b1 b2 b3 b4
  refine (light_c _ _ _ _ _ _).mono ?_
  rw [show decide ((s.size : Int) ≤ 300) = true from decide_eq_true (by have := L1.out; omega)]
  rintro e w2 ⟨rfl, hb2⟩
  have hA2 := HA1.out.trans (hb2.mono z1)
  have z2 : w.heap.size + 2 ≤ w2.heap.size := by have := hb2.size; omega
  have HT2 := Lib.hid (HT1.out.on hb2)
  obtain ⟨va, vb⟩ := two_cells _ _ _ _ _ _ _ _ _ _ hA2
  have a0 := va 0 _ rfl; have a1 := va 1 _ rfl; have a2 := va 2 _ rfl; have a3 := va 3 _ rfl; have a4 := va 4 _ rfl
  have b0 := vb 0 _ rfl; have b1 := vb 1 _ rfl; have b2 := vb 2 _ rfl; have b3 := vb 3 _ rfl; have b4 := vb 4 _ rfl
  clear va vb
  have HA2 := Lib.hid hA2; clear hb2 hA2
  go_wp2_with fail
  clear a0 a1 a2 a3 a4 b0 b1 b2 b3 b4
  refine (light_c _ _ _ _ _ _).mono ?_
  rw [show decide ((s2.size : Int) ≤ 300) = true from decide_eq_true (by have := L2.out; omega)]
  rintro e w3 ⟨rfl, hb3⟩
  have hA3 := HA2.out.trans (hb3.mono z2)
  have z3 : w.heap.size + 2 ≤ w3.heap.size := by have := hb3.size; omega
  have HT3 := Lib.hid (HT2.out.on hb3)
  obtain ⟨va, vb⟩ := two_cells _ _ _ _ _ _ _ _ _ _ hA3
  have a0 := va 0 _ rfl; have a1 := va 1 _ rfl; have a2 := va 2 _ rfl; have a3 := va 3 _ rfl; have a4 := va 4 _ rfl
  have b0 := vb 0 _ rfl; have b1 := vb 1 _ rfl; have b2 := vb 2 _ rfl; have b3 := vb 3 _ rfl; have b4 := vb 4 _ rfl
  clear va vb
  have HA3 := Lib.hid hA3; clear hb3 hA3
  go_wp2_with fail
  clear a0 a1 a2 a3 a4 b0 b1 b2 b3 b4
  refine (compare_c k _ _ _ _ _ _ _ _ _ HX.out HX2.out (HV.out x) (HV.out x2)).mono ?_
  rw [EP.out]
  rintro e w4 ⟨rfl, hb4⟩
  have hA4 := HA3.out.trans (hb4.mono z3)
  have z4 : w.heap.size + 2 ≤ w4.heap.size := by have := hb4.size; omega
  have HT4 := Lib.hid (HT3.out.on hb4)
  obtain ⟨va, vb⟩ := two_cells _ _ _ _ _ _ _ _ _ _ hA4
  have a0 := va 0 _ rfl; have a1 := va 1 _ rfl; have a2 := va 2 _ rfl; have a3 := va 3 _ rfl; have a4 := va 4 _ rfl
  have b0 := vb 0 _ rfl; have b1 := vb 1 _ rfl; have b2 := vb 2 _ rfl; have b3 := vb 3 _ rfl; have b4 := vb 4 _ rfl
  clear va vb
  have HA4 := Lib.hid hA4; clear hb4 hA4
  go_wp2_with fail
  clear a0 a1 a2 a3 a4 b0 b1 b2 b3 b4
  refine (compare_c k _ _ _ _ _ _ _ _ _ HX2.out HX.out (HV.out x2) (HV.out x)).mono ?_
  rw [EQ.out]
  rintro e w5 ⟨rfl, hb5⟩
  have hA5 := HA4.out.trans (hb5.mono z4)
  have z5 : w.heap.size + 2 ≤ w5.heap.size := by have := hb5.size; omega
  have HT5 := Lib.hid (HT4.out.on hb5)
  obtain ⟨va, vb⟩ := two_cells _ _ _ _ _ _ _ _ _ _ hA5
  have a0 := va 0 _ rfl; have a1 := va 1 _ rfl; have a2 := va 2 _ rfl; have a3 := va 3 _ rfl; have a4 := va 4 _ rfl
  have b0 := vb 0 _ rfl; have b1 := vb 1 _ rfl; have b2 := vb 2 _ rfl; have b3 := vb 3 _ rfl; have b4 := vb 4 _ rfl
  clear va vb
  have HA5 := Lib.hid hA5; clear hb5 hA5
  go_wp2_with fail
  clear a0 a1 a2 a3 a4 b0 b1 b2 b3 b4
  refine (rank_c k _ _ _ _ _).mono ?_
  rw [HR.out]
  rintro e w6 ⟨rfl, hb6⟩
  have hA6 := HA5.out.trans (hb6.mono z5)
  have z6 : w.heap.size + 2 ≤ w6.heap.size := by have := hb6.size; omega
  have HT6 := Lib.hid (HT5.out.on hb6)
  obtain ⟨va, vb⟩ := two_cells _ _ _ _ _ _ _ _ _ _ hA6
  have a0 := va 0 _ rfl; have a1 := va 1 _ rfl; have a2 := va 2 _ rfl; have a3 := va 3 _ rfl; have a4 := va 4 _ rfl
  have b0 := vb 0 _ rfl; have b1 := vb 1 _ rfl; have b2 := vb 2 _ rfl; have b3 := vb 3 _ rfl; have b4 := vb 4 _ rfl
  clear va vb
  have HA6 := Lib.hid hA6; clear hb6 hA6
  go_wp2_with fail
  go_quiet (fail)
  go_wp2_with fail
  clear a0 a1 a2 a3 a4 b0 b1 b2 b3 b4
  refine (same_v k _ _ _ _ _ _ _ _ _ HX.out HX2.out).mono ?_
  rw [EM.out]
  rintro e w7 ⟨rfl, hb7⟩
  have HB7 := Lib.hid hb7; clear hb7
  go_wp2
  go_ret
  exact ⟨rfl, (HB0.out.trans (HA6.out.mono (by omega))).trans ((drewN_below _ _ _).trans (HB7.out.mono (by have := z6; simp; omega)))⟩
theorem sgn_tri (a b : Int) : (sgn a b = -1 ∧ sgn b a = 1 ∧ decide (a < b) = true ∧ (a == b) = false) ∨ (sgn a b = 0 ∧ sgn b a = 0 ∧ decide (a < b) = false ∧ (a == b) = true) ∨ (sgn a b = 1 ∧ sgn b a = -1 ∧ decide (a < b) = false ∧ (a == b) = false) := by
  unfold sgn
  rcases (by omega : a < b ∨ a = b ∨ b < a) with h | h | h
  · exact .inl ⟨if_pos h, by rw [if_neg (by omega), if_pos h], decide_eq_true h, beq_eq_false_iff_ne.2 (by omega)⟩
  · subst h; exact .inr (.inl ⟨by rw [if_neg (by omega), if_neg (by omega)], by rw [if_neg (by omega), if_neg (by omega)], decide_eq_false (by omega), beq_self_eq_true a⟩)
  · exact .inr (.inr ⟨by rw [if_neg (by omega), if_pos h], if_pos h, decide_eq_false (by omega), beq_eq_false_iff_ne.2 (by omega)⟩)
theorem sgs_tri (a b : ByteArray) : (sgs a b = -1 ∧ sgs b a = 1 ∧ Op.bytesLess a.toList b.toList = true ∧ (a.toList == b.toList) = false) ∨ (sgs a b = 0 ∧ sgs b a = 0 ∧ Op.bytesLess a.toList b.toList = false ∧ (a.toList == b.toList) = true) ∨ (sgs a b = 1 ∧ sgs b a = -1 ∧ Op.bytesLess a.toList b.toList = false ∧ (a.toList == b.toList) = false) := by
  rw [sgs_eq, sgs_eq, bytesLess_eq]
  generalize a.toList = l
  generalize b.toList = m
  have irr : ∀ u : List UInt8, ¬ u < u := fun u => List.lt_irrefl u
  by_cases h : l < m
  · have h2 : ¬ m < l := fun h3 => irr _ (List.lt_trans h h3)
    have h3 : l ≠ m := fun e => by subst e; exact irr _ h
    exact .inl ⟨if_pos h, by rw [if_neg h2, if_neg (Ne.symm h3)], decide_eq_true h, beq_eq_false_iff_ne.2 h3⟩
  · by_cases e : l = m
    · subst e; exact .inr (.inl ⟨by rw [if_neg h, if_pos rfl], by rw [if_neg h, if_pos rfl], decide_eq_false h, beq_self_eq_true l⟩)
    · have h2 : m < l := by
        rcases List.le_total l m with h3 | h3
        · exact absurd (List.le_antisymm h3 (List.not_lt.1 h)) e
        · exact Decidable.byContradiction fun h4 => e (List.le_antisymm (List.not_lt.1 h4) h3)
      exact .inr (.inr ⟨by rw [if_neg h, if_neg e], if_pos h2, decide_eq_false h, beq_eq_false_iff_ne.2 e⟩)
theorem fl_tri (x x2 : Nat) (h1 : fnan x = false) (h2 : fnan x2 = false) : (sgn (fkey x) (fkey x2) = -1 ∧ sgn (fkey x2) (fkey x) = 1 ∧ (FloatKind.f64.format.order x x2 == some .lt) = true ∧ (FloatKind.f64.format.order x x2 == some .eq) = false ∧ (fkey x == fkey x2) = false) ∨
    (sgn (fkey x) (fkey x2) = 0 ∧ sgn (fkey x2) (fkey x) = 0 ∧ (FloatKind.f64.format.order x x2 == some .lt) = false ∧ (FloatKind.f64.format.order x x2 == some .eq) = true ∧ (fkey x == fkey x2) = true) ∨
    (sgn (fkey x) (fkey x2) = 1 ∧ sgn (fkey x2) (fkey x) = -1 ∧ (FloatKind.f64.format.order x x2 == some .lt) = false ∧ (FloatKind.f64.format.order x x2 == some .eq) = false ∧ (fkey x == fkey x2) = false) := by
  have k1 := @fkey_lt x x2 h1 h2
  have k2 := @fkey_lt x2 x h2 h1
  have k3 := @fkey_eq x x2 h1 h2
  unfold sgn
  rcases (by omega : fpos x < fpos x2 ∨ fpos x = fpos x2 ∨ fpos x2 < fpos x) with h | h | h
  · have o := ford_of_lt h1 h2 _ (ford_lt h)
    rw [o]
    exact .inl ⟨if_pos (k1.2 h), by rw [if_neg (by omega), if_pos (k1.2 h)], rfl, rfl, beq_eq_false_iff_ne.2 (by omega)⟩
  · have o := ford_of_lt h1 h2 _ (ford_eq h)
    rw [o]
    exact .inr (.inl ⟨by rw [if_neg (by omega), if_neg (by omega)], by rw [if_neg (by omega), if_neg (by omega)], rfl, rfl, beq_iff_eq.2 (k3.2 h)⟩)
  · have o := ford_of_lt h1 h2 _ (ford_gt h)
    rw [o]
    exact .inr (.inr ⟨by rw [if_neg (by omega), if_pos (k2.2 h)], if_pos (k2.2 h), rfl, rfl, beq_eq_false_iff_ne.2 (by omega)⟩)

theorem compares_w (k n : Int) (x : Nat) (s : ByteArray) (y : Bool) (k2 n2 : Int) (x2 : Nat) (s2 : ByteArray) (y2 : Bool) (hx : x < 18446744073709551616) (hx2 : x2 < 18446744073709551616) (w : World) (hT : Tabs w) :
    Calls Tryz.prog 3 #[val k n x s y, val k2 n2 x2 s2 y2] w fun e w' => e = .returned (.bool true) ∧ Below w.heap.size w w' := by
  by_cases l1 : (s.size : Int) ≤ 300
  · by_cases l2 : (s2.size : Int) ≤ 300
    · by_cases hk : k = k2
      · subst hk
        by_cases h0 : k = 0
        · subst h0
          exact compares_k0 n x s y n2 x2 s2 y2 w hT l1 l2 hx hx2 _ _ _ _ rfl rfl rfl rfl rfl (sgn_tri n n2)
        · by_cases h1 : k = 1
          · subst h1
            cases f1 : fnan x
            · cases f2 : fnan x2
              · rcases fl_tri x x2 f1 f2 with ⟨a, b, c, d, e⟩ | ⟨a, b, c, d, e⟩ | ⟨a, b, c, d, e⟩
                · exact compares_k1 n x s y n2 x2 s2 y2 w hT l1 l2 hx hx2 f1 f2 _ _ _ _ c d a b e (.inl ⟨rfl, rfl, rfl, rfl⟩)
                · exact compares_k1 n x s y n2 x2 s2 y2 w hT l1 l2 hx hx2 f1 f2 _ _ _ _ c d a b e (.inr (.inl ⟨rfl, rfl, rfl, rfl⟩))
                · exact compares_k1 n x s y n2 x2 s2 y2 w hT l1 l2 hx hx2 f1 f2 _ _ _ _ c d a b e (.inr (.inr ⟨rfl, rfl, rfl, rfl⟩))
              · exact compares_v3 n x s y n2 x2 s2 y2 w hT l1 l2 f1 f2
            · cases f2 : fnan x2
              · exact compares_v2 n x s y n2 x2 s2 y2 w hT l1 l2 f1 f2
              · exact compares_v1 n x s y n2 x2 s2 y2 w hT l1 l2 f1 f2
          · by_cases h2 : k = 2
            · subst h2
              exact compares_k2 n x s y n2 x2 s2 y2 w hT l1 l2 hx hx2 _ _ _ _ rfl rfl rfl rfl rfl (sgs_tri s s2)
            · have b0 : (k == 0) = false := beq_eq_false_iff_ne.2 h0
              have b1 : (k == 1) = false := beq_eq_false_iff_ne.2 h1
              have b2 : (k == 2) = false := beq_eq_false_iff_ne.2 h2
              have hr : rankV k = 3 := by
                unfold rankV
                by_cases p1 : 0 ≤ k
                · rw [decide_eq_false (by omega : ¬ k ≤ 2), Bool.and_false, if_neg Bool.false_ne_true]
                · rw [decide_eq_false p1, Bool.false_and, if_neg Bool.false_ne_true]
              have hv : ∀ z, voidB k z = false := fun z => by unfold voidB; rw [b1, Bool.false_and]
              have e1 : ∀ a b c d : Bool, cmpV k n n2 x x2 s s2 a b = sgn (b01 a) (b01 b) ∧ cmpV k n2 n x2 x s2 s c d = sgn (b01 c) (b01 d) ∧ sameV k n n2 x x2 s s2 a b = (a == b) := fun a b c d => by
                unfold cmpV sameV; rw [b0, b1, b2]; exact ⟨rfl, rfl, rfl⟩
              obtain ⟨p1, p2, p3⟩ := e1 y y2 y2 y
              cases y <;> cases y2
              · exact compares_k3ff k n x s n2 x2 s2 w hT l1 l2 hx hx2 b1 hr hv p1 p2 p3
              · exact compares_k3ft k n x s n2 x2 s2 w hT l1 l2 hx hx2 b1 hr hv p1 p2 p3
              · exact compares_k3tf k n x s n2 x2 s2 w hT l1 l2 hx hx2 b1 hr hv p1 p2 p3
              · exact compares_k3tt k n x s n2 x2 s2 w hT l1 l2 hx hx2 b1 hr hv p1 p2 p3
      · exact compares_ne k n x s y k2 n2 x2 s2 y2 w hT l1 l2 (beq_eq_false_iff_ne.2 hk)
    · exact compares_long2 k n x s y k2 n2 x2 s2 y2 w hT l1 l2
  · exact compares_long1 k n x s y k2 n2 x2 s2 y2 w hT l1
end Go.Proofs.YtflhjgpkgbnifaaGreatDoor
