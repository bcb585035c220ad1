/- Of any three values that can be held against one another: what is below and below is below. -/
import Derived.Test.YtflhjgpkgbnifaaGreatDoorCmp
namespace Go.Proofs.YtflhjgpkgbnifaaGreatDoor
open Go.RowKit
set_option maxRecDepth 100000

theorem ret_bool {b : Bool} (h : b = true) : Ending.returned (.bool b) = .returned (.bool true) := by rw [h]
/-- What Compare answers of any two values. -/
def cmpOk (k : Int) (x : Nat) (k2 : Int) (x2 : Nat) : Bool := k == k2 && (!voidB k x && !voidB k2 x2)
def cmpR (k n : Int) (x : Nat) (s : ByteArray) (y : Bool) (k2 n2 : Int) (x2 : Nat) (s2 : ByteArray) (y2 : Bool) : Int := if cmpOk k x k2 x2 then cmpV k n n2 x x2 s s2 y y2 else 0
theorem compare_any (k n k2 n2 : Int) (x x2 : Nat) (s s2 : ByteArray) (y y2 : Bool) (w : World) (hx : x < 18446744073709551616) (hx2 : x2 < 18446744073709551616) :
    Calls Tryz.prog 13 #[val k n x s y, val k2 n2 x2 s2 y2] w fun e w' => e = .returned (.tuple #[.int .i64 (cmpR k n x s y k2 n2 x2 s2 y2), .bool (cmpOk k x k2 x2)]) ∧ Below w.heap.size w w' := by
  by_cases hk : k = k2
  · subst hk
    cases h1 : voidB k x
    · cases h2 : voidB k x2
      · have e1 : cmpOk k x k x2 = true := by simp [cmpOk, h1, h2]
        unfold cmpR; rw [e1, if_pos rfl]
        exact compare_c k n n2 x x2 s s2 y y2 w hx hx2 h1 h2
      · have e1 : cmpOk k x k x2 = false := by simp [cmpOk, h1, h2]
        unfold cmpR; rw [e1, if_neg Bool.false_ne_true]
        exact compareVoid2_c k n n2 x x2 s s2 y y2 w h1 h2
    · have e1 : cmpOk k x k x2 = false := by simp [cmpOk, h1]
      unfold cmpR; rw [e1, if_neg Bool.false_ne_true]
      exact compareVoid1_c k n n2 x x2 s s2 y y2 w h1
  · have e1 : cmpOk k x k2 x2 = false := by simp [cmpOk, hk]
    unfold cmpR; rw [e1, if_neg Bool.false_ne_true]
    exact compareNe_c k n k2 n2 x x2 s s2 y y2 w (by simp [hk])

theorem sgn_trans {a b c : Int} (h1 : sgn a b ≤ 0) (h2 : sgn b c ≤ 0) : sgn a c ≤ 0 ∧ (sgn a c < 0 ↔ sgn a b < 0 ∨ sgn b c < 0) := by
  unfold sgn at *
  split at h1 <;> split at h2 <;> (repeat' split) <;> (repeat' split at h1) <;> (repeat' split at h2) <;> omega
theorem sgs_eq (s t : ByteArray) : sgs s t = if s.toList < t.toList then -1 else if s.toList = t.toList then 0 else 1 := by
  unfold sgs
  rw [bytesLess_eq]
  simp only [decide_eq_true_eq, beq_iff_eq]
theorem sgs_trans {a b c : ByteArray} (h1 : sgs a b ≤ 0) (h2 : sgs b c ≤ 0) : sgs a c ≤ 0 ∧ (sgs a c < 0 ↔ sgs a b < 0 ∨ sgs b c < 0) := by
  simp only [sgs_eq] at *
  generalize a.toList = l at *
  generalize b.toList = m at *
  generalize c.toList = r at *
  have irr : ∀ u : List UInt8, ¬ u < u := fun u => List.lt_irrefl u
  by_cases h3 : l < m
  · by_cases h4 : m < r
    · have h5 : l < r := List.lt_trans h3 h4
      simp [h3, h4, h5]
    · by_cases h6 : m = r
      · subst h6; simp [h3, h4]
      · simp [h4, h6] at h2
  · by_cases h6 : l = m
    · subst h6
      by_cases h4 : l < r
      · simp [h3, h4]
      · by_cases h7 : l = r
        · subst h7; simp [h3]
        · simp [h4, h7] at h2
    · simp [h3, h6] at h1
theorem cmpV_trans {k n n2 n3 : Int} {x x2 x3 : Nat} {s s2 s3 : ByteArray} {y y2 y3 : Bool} (h1 : cmpV k n n2 x x2 s s2 y y2 ≤ 0) (h2 : cmpV k n2 n3 x2 x3 s2 s3 y2 y3 ≤ 0) :
    cmpV k n n3 x x3 s s3 y y3 ≤ 0 ∧ (cmpV k n n3 x x3 s s3 y y3 < 0 ↔ cmpV k n n2 x x2 s s2 y y2 < 0 ∨ cmpV k n2 n3 x2 x3 s2 s3 y2 y3 < 0) := by
  unfold cmpV at *
  cases h0 : (k == 0)
  · cases h3 : (k == 1)
    · cases h4 : (k == 2)
      · simp only [h0, h3, h4, Bool.false_eq_true, if_false] at *; exact sgn_trans h1 h2
      · simp only [h0, h3, h4, Bool.false_eq_true, if_false, if_true] at *; exact sgs_trans h1 h2
    · simp only [h0, h3, Bool.false_eq_true, if_false, if_true] at *; exact sgn_trans h1 h2
  · simp only [h0, if_true] at *; exact sgn_trans h1 h2

/-- Three values, boxed one behind the other, in every world in which only what is younger has turned. -/
theorem three_cells {w w' : World} (k n k2 n2 k3 n3 : Int) (x x2 x3 : Nat) (s s2 s3 : ByteArray) (y y2 y3 : Bool)
    (hb : Below (w.heap.size + 3) (((w.alloc (.cells (vals k n x s y) 24)).alloc (.cells (vals k2 n2 x2 s2 y2) 24)).alloc (.cells (vals k3 n3 x3 s3 y3) 24)) w') :
    (∀ i v, (vals k n x s y)[i]? = some v → w'.cell? ⟨w.heap.size, i, none⟩ = some v) ∧ (∀ i v, (vals k2 n2 x2 s2 y2)[i]? = some v → w'.cell? ⟨w.heap.size + 1, i, none⟩ = some v) ∧ (∀ i v, (vals k3 n3 x3 s3 y3)[i]? = some v → w'.cell? ⟨w.heap.size + 1 + 1, i, none⟩ = some v) := by
  have hb2 : Below (w.heap.size + 2) ((w.alloc (.cells (vals k n x s y) 24)).alloc (.cells (vals k2 n2 x2 s2 y2) 24)) w' := ((Below.refl _ _).alloc (by simp) _).trans (hb.mono (by omega))
  obtain ⟨h1, h2⟩ := two_cells _ _ _ _ _ _ _ _ _ _ hb2
  refine ⟨h1, h2, fun i v h => ?_⟩
  rw [hb.cell (p := ⟨w.heap.size + 1 + 1, i, none⟩) (by simp)]
  have := World.cell?_alloc_new ((w.alloc (.cells (vals k n x s y) 24)).alloc (.cells (vals k2 n2 x2 s2 y2) 24)) (vals k3 n3 x3 s3 y3) 24 i
  rw [World.size_alloc, World.size_alloc] at this
  rw [this]; exact h
set_option maxHeartbeats 4000000 in
theorem orders_l1 (k n : Int) (x : Nat) (s : ByteArray) (y : Bool) (k2 n2 : Int) (x2 : Nat) (s2 : ByteArray) (y2 : Bool) (k3 n3 : Int) (x3 : Nat) (s3 : ByteArray) (y3 : Bool) (w : World) (hT : Tabs w) (l1 : ¬ (s.size : Int) ≤ 300) :
    Calls Tryz.prog 7 #[val k n x s y, val k2 n2 x2 s2 y2, val k3 n3 x3 s3 y3] w fun e w' => e = .returned (.bool true) ∧ Below w.heap.size w w' := by
  have hg : 17 < w.heap.size := World.block_lt_of_cell? w ⟨17, _, none⟩ (hT.pow 0 (by decide)).1
  have B0 : Below w.heap.size w (((w.alloc (.cells (vals k n x s y) 24)).alloc (.cells (vals k2 n2 x2 s2 y2) 24)).alloc (.cells (vals k3 n3 x3 s3 y3) 24)) := (((Below.refl _ _).alloc (Nat.le_refl _) _).alloc (by simp) _).alloc (by simp; omega) _
  have HT0 := Lib.hid (hT.on B0); have HB0 := Lib.hid B0; clear hT B0
  have L1 := Lib.hid l1; clear l1
  go_enter Tryz.func7, Tryz.ntmps7
  go_wp2_with fail
  refine (fit_c _ HT0.out (by simp; omega)).mono ?_
  rintro e w1 ⟨rfl, hb1⟩
  have hA1 : Below (w.heap.size + 3) (((w.alloc (.cells (vals k n x s y) 24)).alloc (.cells (vals k2 n2 x2 s2 y2) 24)).alloc (.cells (vals k3 n3 x3 s3 y3) 24)) w1 := by simpa using hb1
  have z1 : w.heap.size + 3 ≤ w1.heap.size := by have := hb1.size; simpa using this
  obtain ⟨va, vb, vd⟩ := three_cells _ _ _ _ _ _ _ _ _ _ _ _ _ _ _ hA1
  have a0 := va 0 _ rfl; have a1 := va 1 _ rfl; have a2 := va 2 _ rfl; have a3 := va 3 _ rfl; have a4 := va 4 _ rfl
  have b0 := vb 0 _ rfl; have b1 := vb 1 _ rfl; have b2 := vb 2 _ rfl; have b3 := vb 3 _ rfl; have b4 := vb 4 _ rfl
  have d0 := vd 0 _ rfl; have d1 := vd 1 _ rfl; have d2 := vd 2 _ rfl; have d3 := vd 3 _ rfl; have d4 := vd 4 _ rfl
  clear va vb vd
  have HA1 := Lib.hid hA1; clear hb1 hA1
  go_wp2_with fail
  clear a0 a1 a2 a3 a4 b0 b1 b2 b3 b4 d0 d1 d2 d3 d4
  refine (light_c _ _ _ _ _ _).mono ?_
  rw [show decide ((s.size : Int) ≤ 300) = false from decide_eq_false (by have := L1.out; omega)]
  rintro e w2 ⟨rfl, hb2⟩
  have hA2 := HA1.out.trans (hb2.mono z1)
  have z2 : w.heap.size + 3 ≤ w2.heap.size := by have := hb2.size; omega
  obtain ⟨va, vb, vd⟩ := three_cells _ _ _ _ _ _ _ _ _ _ _ _ _ _ _ hA2
  have a0 := va 0 _ rfl; have a1 := va 1 _ rfl; have a2 := va 2 _ rfl; have a3 := va 3 _ rfl; have a4 := va 4 _ rfl
  have b0 := vb 0 _ rfl; have b1 := vb 1 _ rfl; have b2 := vb 2 _ rfl; have b3 := vb 3 _ rfl; have b4 := vb 4 _ rfl
  have d0 := vd 0 _ rfl; have d1 := vd 1 _ rfl; have d2 := vd 2 _ rfl; have d3 := vd 3 _ rfl; have d4 := vd 4 _ rfl
  clear va vb vd
  have HA2 := Lib.hid hA2; clear hb2 hA2
  go_wp2_with fail
  clear a0 a1 a2 a3 a4 b0 b1 b2 b3 b4 d0 d1 d2 d3 d4
  go_ret
  exact ⟨rfl, HB0.out.trans (HA2.out.mono (by omega))⟩
set_option maxHeartbeats 4000000 in
theorem orders_l2 (k n : Int) (x : Nat) (s : ByteArray) (y : Bool) (k2 n2 : Int) (x2 : Nat) (s2 : ByteArray) (y2 : Bool) (k3 n3 : Int) (x3 : Nat) (s3 : ByteArray) (y3 : Bool) (w : World) (hT : Tabs w) (l1 : (s.size : Int) ≤ 300) (l2 : ¬ (s2.size : Int) ≤ 300) :
    Calls Tryz.prog 7 #[val k n x s y, val k2 n2 x2 s2 y2, val k3 n3 x3 s3 y3] w fun e w' => e = .returned (.bool true) ∧ Below w.heap.size w w' := by
  have hg : 17 < w.heap.size := World.block_lt_of_cell? w ⟨17, _, none⟩ (hT.pow 0 (by decide)).1
  have B0 : Below w.heap.size w (((w.alloc (.cells (vals k n x s y) 24)).alloc (.cells (vals k2 n2 x2 s2 y2) 24)).alloc (.cells (vals k3 n3 x3 s3 y3) 24)) := (((Below.refl _ _).alloc (Nat.le_refl _) _).alloc (by simp) _).alloc (by simp; omega) _
  have HT0 := Lib.hid (hT.on B0); have HB0 := Lib.hid B0; clear hT B0
  have L1 := Lib.hid l1; have L2 := Lib.hid l2; clear l1 l2
  go_enter Tryz.func7, Tryz.ntmps7
  go_wp2_with fail
  refine (fit_c _ HT0.out (by simp; omega)).mono ?_
  rintro e w1 ⟨rfl, hb1⟩
  have hA1 : Below (w.heap.size + 3) (((w.alloc (.cells (vals k n x s y) 24)).alloc (.cells (vals k2 n2 x2 s2 y2) 24)).alloc (.cells (vals k3 n3 x3 s3 y3) 24)) w1 := by simpa using hb1
  have z1 : w.heap.size + 3 ≤ w1.heap.size := by have := hb1.size; simpa using this
  obtain ⟨va, vb, vd⟩ := three_cells _ _ _ _ _ _ _ _ _ _ _ _ _ _ _ hA1
  have a0 := va 0 _ rfl; have a1 := va 1 _ rfl; have a2 := va 2 _ rfl; have a3 := va 3 _ rfl; have a4 := va 4 _ rfl
  have b0 := vb 0 _ rfl; have b1 := vb 1 _ rfl; have b2 := vb 2 _ rfl; have b3 := vb 3 _ rfl; have b4 := vb 4 _ rfl
  have d0 := vd 0 _ rfl; have d1 := vd 1 _ rfl; have d2 := vd 2 _ rfl; have d3 := vd 3 _ rfl; have d4 := vd 4 _ rfl
  clear va vb vd
  have HA1 := Lib.hid hA1; clear hb1 hA1
  go_wp2_with fail
  clear a0 a1 a2 a3 a4 b0 b1 b2 b3 b4 d0 d1 d2 d3 d4
  refine (light_c _ _ _ _ _ _).mono ?_
  rw [show decide ((s.size : Int) ≤ 300) = true from decide_eq_true (by have := L1.out; omega)]
  rintro e w2 ⟨rfl, hb2⟩
  have hA2 := HA1.out.trans (hb2.mono z1)
  have z2 : w.heap.size + 3 ≤ w2.heap.size := by have := hb2.size; omega
  obtain ⟨va, vb, vd⟩ := three_cells _ _ _ _ _ _ _ _ _ _ _ _ _ _ _ hA2
  have a0 := va 0 _ rfl; have a1 := va 1 _ rfl; have a2 := va 2 _ rfl; have a3 := va 3 _ rfl; have a4 := va 4 _ rfl
  have b0 := vb 0 _ rfl; have b1 := vb 1 _ rfl; have b2 := vb 2 _ rfl; have b3 := vb 3 _ rfl; have b4 := vb 4 _ rfl
  have d0 := vd 0 _ rfl; have d1 := vd 1 _ rfl; have d2 := vd 2 _ rfl; have d3 := vd 3 _ rfl; have d4 := vd 4 _ rfl
  clear va vb vd
  have HA2 := Lib.hid hA2; clear hb2 hA2
  go_wp2_with fail
  clear a0 a1 a2 a3 a4 b0 b1 b2 b3 b4 d0 d1 d2 d3 d4
  refine (light_c _ _ _ _ _ _).mono ?_
  rw [show decide ((s2.size : Int) ≤ 300) = false from decide_eq_false (by have := L2.out; omega)]
  rintro e w3 ⟨rfl, hb3⟩
  have hA3 := HA2.out.trans (hb3.mono z2)
  have z3 : w.heap.size + 3 ≤ w3.heap.size := by have := hb3.size; omega
  obtain ⟨va, vb, vd⟩ := three_cells _ _ _ _ _ _ _ _ _ _ _ _ _ _ _ hA3
  have a0 := va 0 _ rfl; have a1 := va 1 _ rfl; have a2 := va 2 _ rfl; have a3 := va 3 _ rfl; have a4 := va 4 _ rfl
  have b0 := vb 0 _ rfl; have b1 := vb 1 _ rfl; have b2 := vb 2 _ rfl; have b3 := vb 3 _ rfl; have b4 := vb 4 _ rfl
  have d0 := vd 0 _ rfl; have d1 := vd 1 _ rfl; have d2 := vd 2 _ rfl; have d3 := vd 3 _ rfl; have d4 := vd 4 _ rfl
  clear va vb vd
  have HA3 := Lib.hid hA3; clear hb3 hA3
  go_wp2_with fail
  clear a0 a1 a2 a3 a4 b0 b1 b2 b3 b4 d0 d1 d2 d3 d4
  go_ret
  exact ⟨rfl, HB0.out.trans (HA3.out.mono (by omega))⟩
set_option maxHeartbeats 4000000 in
theorem orders_l3 (k n : Int) (x : Nat) (s : ByteArray) (y : Bool) (k2 n2 : Int) (x2 : Nat) (s2 : ByteArray) (y2 : Bool) (k3 n3 : Int) (x3 : Nat) (s3 : ByteArray) (y3 : Bool) (w : World) (hT : Tabs w) (l1 : (s.size : Int) ≤ 300) (l2 : (s2.size : Int) ≤ 300) (l3 : ¬ (s3.size : Int) ≤ 300) :
    Calls Tryz.prog 7 #[val k n x s y, val k2 n2 x2 s2 y2, val k3 n3 x3 s3 y3] w fun e w' => e = .returned (.bool true) ∧ Below w.heap.size w w' := by
  have hg : 17 < w.heap.size := World.block_lt_of_cell? w ⟨17, _, none⟩ (hT.pow 0 (by decide)).1
  have B0 : Below w.heap.size w (((w.alloc (.cells (vals k n x s y) 24)).alloc (.cells (vals k2 n2 x2 s2 y2) 24)).alloc (.cells (vals k3 n3 x3 s3 y3) 24)) := (((Below.refl _ _).alloc (Nat.le_refl _) _).alloc (by simp) _).alloc (by simp; omega) _
  have HT0 := Lib.hid (hT.on B0); have HB0 := Lib.hid B0; clear hT B0
  have L1 := Lib.hid l1; have L2 := Lib.hid l2; have L3 := Lib.hid l3; clear l1 l2 l3
  go_enter Tryz.func7, Tryz.ntmps7
  go_wp2_with fail
  refine (fit_c _ HT0.out (by simp; omega)).mono ?_
  rintro e w1 ⟨rfl, hb1⟩
  have hA1 : Below (w.heap.size + 3) (((w.alloc (.cells (vals k n x s y) 24)).alloc (.cells (vals k2 n2 x2 s2 y2) 24)).alloc (.cells (vals k3 n3 x3 s3 y3) 24)) w1 := by simpa using hb1
  have z1 : w.heap.size + 3 ≤ w1.heap.size := by have := hb1.size; simpa using this
  obtain ⟨va, vb, vd⟩ := three_cells _ _ _ _ _ _ _ _ _ _ _ _ _ _ _ hA1
  have a0 := va 0 _ rfl; have a1 := va 1 _ rfl; have a2 := va 2 _ rfl; have a3 := va 3 _ rfl; have a4 := va 4 _ rfl
  have b0 := vb 0 _ rfl; have b1 := vb 1 _ rfl; have b2 := vb 2 _ rfl; have b3 := vb 3 _ rfl; have b4 := vb 4 _ rfl
  have d0 := vd 0 _ rfl; have d1 := vd 1 _ rfl; have d2 := vd 2 _ rfl; have d3 := vd 3 _ rfl; have d4 := vd 4 _ rfl
  clear va vb vd
  have HA1 := Lib.hid hA1; clear hb1 hA1
  go_wp2_with fail
  clear a0 a1 a2 a3 a4 b0 b1 b2 b3 b4 d0 d1 d2 d3 d4
  refine (light_c _ _ _ _ _ _).mono ?_
  rw [show decide ((s.size : Int) ≤ 300) = true from decide_eq_true (by have := L1.out; omega)]
  rintro e w2 ⟨rfl, hb2⟩
  have hA2 := HA1.out.trans (hb2.mono z1)
  have z2 : w.heap.size + 3 ≤ w2.heap.size := by have := hb2.size; omega
  obtain ⟨va, vb, vd⟩ := three_cells _ _ _ _ _ _ _ _ _ _ _ _ _ _ _ hA2
  have a0 := va 0 _ rfl; have a1 := va 1 _ rfl; have a2 := va 2 _ rfl; have a3 := va 3 _ rfl; have a4 := va 4 _ rfl
  have b0 := vb 0 _ rfl; have b1 := vb 1 _ rfl; have b2 := vb 2 _ rfl; have b3 := vb 3 _ rfl; have b4 := vb 4 _ rfl
  have d0 := vd 0 _ rfl; have d1 := vd 1 _ rfl; have d2 := vd 2 _ rfl; have d3 := vd 3 _ rfl; have d4 := vd 4 _ rfl
  clear va vb vd
  have HA2 := Lib.hid hA2; clear hb2 hA2
  go_wp2_with fail
  clear a0 a1 a2 a3 a4 b0 b1 b2 b3 b4 d0 d1 d2 d3 d4
  refine (light_c _ _ _ _ _ _).mono ?_
  rw [show decide ((s2.size : Int) ≤ 300) = true from decide_eq_true (by have := L2.out; omega)]
  rintro e w3 ⟨rfl, hb3⟩
  have hA3 := HA2.out.trans (hb3.mono z2)
  have z3 : w.heap.size + 3 ≤ w3.heap.size := by have := hb3.size; omega
  obtain ⟨va, vb, vd⟩ := three_cells _ _ _ _ _ _ _ _ _ _ _ _ _ _ _ hA3
  have a0 := va 0 _ rfl; have a1 := va 1 _ rfl; have a2 := va 2 _ rfl; have a3 := va 3 _ rfl; have a4 := va 4 _ rfl
  have b0 := vb 0 _ rfl; have b1 := vb 1 _ rfl; have b2 := vb 2 _ rfl; have b3 := vb 3 _ rfl; have b4 := vb 4 _ rfl
  have d0 := vd 0 _ rfl; have d1 := vd 1 _ rfl; have d2 := vd 2 _ rfl; have d3 := vd 3 _ rfl; have d4 := vd 4 _ rfl
  clear va vb vd
  have HA3 := Lib.hid hA3; clear hb3 hA3
  go_wp2_with fail
  clear a0 a1 a2 a3 a4 b0 b1 b2 b3 b4 d0 d1 d2 d3 d4
  refine (light_c _ _ _ _ _ _).mono ?_
  rw [show decide ((s3.size : Int) ≤ 300) = false from decide_eq_false (by have := L3.out; omega)]
  rintro e w4 ⟨rfl, hb4⟩
  have hA4 := HA3.out.trans (hb4.mono z3)
  have z4 : w.heap.size + 3 ≤ w4.heap.size := by have := hb4.size; omega
  obtain ⟨va, vb, vd⟩ := three_cells _ _ _ _ _ _ _ _ _ _ _ _ _ _ _ hA4
  have a0 := va 0 _ rfl; have a1 := va 1 _ rfl; have a2 := va 2 _ rfl; have a3 := va 3 _ rfl; have a4 := va 4 _ rfl
  have b0 := vb 0 _ rfl; have b1 := vb 1 _ rfl; have b2 := vb 2 _ rfl; have b3 := vb 3 _ rfl; have b4 := vb 4 _ rfl
  have d0 := vd 0 _ rfl; have d1 := vd 1 _ rfl; have d2 := vd 2 _ rfl; have d3 := vd 3 _ rfl; have d4 := vd 4 _ rfl
  clear va vb vd
  have HA4 := Lib.hid hA4; clear hb4 hA4
  go_wp2_with fail
  clear a0 a1 a2 a3 a4 b0 b1 b2 b3 b4 d0 d1 d2 d3 d4
  go_ret
  exact ⟨rfl, HB0.out.trans (HA4.out.mono (by omega))⟩
set_option maxHeartbeats 4000000 in
theorem orders_go (k n : Int) (x : Nat) (s : ByteArray) (y : Bool) (k2 n2 : Int) (x2 : Nat) (s2 : ByteArray) (y2 : Bool) (k3 n3 : Int) (x3 : Nat) (s3 : ByteArray) (y3 : Bool) (w : World) (hT : Tabs w) (l1 : (s.size : Int) ≤ 300) (l2 : (s2.size : Int) ≤ 300) (l3 : (s3.size : Int) ≤ 300) (hx : x < 18446744073709551616) (hx2 : x2 < 18446744073709551616) (hx3 : x3 < 18446744073709551616) (p q r : Int) (ok is has : Bool) (ep : cmpR k n x s y k2 n2 x2 s2 y2 = p) (eq : cmpR k2 n2 x2 s2 y2 k3 n3 x3 s3 y3 = q) (er : cmpR k n x s y k3 n3 x3 s3 y3 = r) (eok : cmpOk k x k2 x2 = ok) (eis : cmpOk k2 x2 k3 x3 = is) (ehas : cmpOk k x k3 x3 = has)
    (hh : ok = false ∨ (ok = true ∧ is = false) ∨ (ok = true ∧ is = true ∧ has = true ∧ ¬ p ≤ 0) ∨ (ok = true ∧ is = true ∧ has = true ∧ p ≤ 0 ∧ ¬ q ≤ 0) ∨ (ok = true ∧ is = true ∧ has = true ∧ p ≤ 0 ∧ q ≤ 0 ∧ r ≤ 0 ∧ ((r < 0 ∧ p < 0) ∨ (r < 0 ∧ ¬ p < 0 ∧ q < 0) ∨ (¬ r < 0 ∧ ¬ p < 0 ∧ ¬ q < 0)))) :
    Calls Tryz.prog 7 #[val k n x s y, val k2 n2 x2 s2 y2, val k3 n3 x3 s3 y3] w fun e w' => e = .returned (.bool true) ∧ Below w.heap.size w w' := by
  have hg : 17 < w.heap.size := World.block_lt_of_cell? w ⟨17, _, none⟩ (hT.pow 0 (by decide)).1
  have B0 : Below w.heap.size w (((w.alloc (.cells (vals k n x s y) 24)).alloc (.cells (vals k2 n2 x2 s2 y2) 24)).alloc (.cells (vals k3 n3 x3 s3 y3) 24)) := (((Below.refl _ _).alloc (Nat.le_refl _) _).alloc (by simp) _).alloc (by simp; omega) _
  have HT0 := Lib.hid (hT.on B0); have HB0 := Lib.hid B0; clear hT B0
  have L1 := Lib.hid l1; have L2 := Lib.hid l2; have L3 := Lib.hid l3; clear l1 l2 l3
  have HX := Lib.hid hx; have HX2 := Lib.hid hx2; have HX3 := Lib.hid hx3; clear hx hx2 hx3
  have EP := Lib.hid ep; have EQ := Lib.hid eq; have ER := Lib.hid er; have EO := Lib.hid eok; have EI := Lib.hid eis; have EH := Lib.hid ehas; clear ep eq er eok eis ehas
  have HH := Lib.hid hh; clear hh
  go_enter Tryz.func7, Tryz.ntmps7
  go_wp2_with fail
  refine (fit_c _ HT0.out (by simp; omega)).mono ?_
  rintro e w1 ⟨rfl, hb1⟩
  have hA1 : Below (w.heap.size + 3) (((w.alloc (.cells (vals k n x s y) 24)).alloc (.cells (vals k2 n2 x2 s2 y2) 24)).alloc (.cells (vals k3 n3 x3 s3 y3) 24)) w1 := by simpa using hb1
  have z1 : w.heap.size + 3 ≤ w1.heap.size := by have := hb1.size; simpa using this
  obtain ⟨va, vb, vd⟩ := three_cells _ _ _ _ _ _ _ _ _ _ _ _ _ _ _ hA1
  have a0 := va 0 _ rfl; have a1 := va 1 _ rfl; have a2 := va 2 _ rfl; have a3 := va 3 _ rfl; have a4 := va 4 _ rfl
  have b0 := vb 0 _ rfl; have b1 := vb 1 _ rfl; have b2 := vb 2 _ rfl; have b3 := vb 3 _ rfl; have b4 := vb 4 _ rfl
  have d0 := vd 0 _ rfl; have d1 := vd 1 _ rfl; have d2 := vd 2 _ rfl; have d3 := vd 3 _ rfl; have d4 := vd 4 _ rfl
  clear va vb vd
  have HA1 := Lib.hid hA1; clear hb1 hA1
  go_wp2_with fail
  clear a0 a1 a2 a3 a4 b0 b1 b2 b3 b4 d0 d1 d2 d3 d4
  refine (light_c _ _ _ _ _ _).mono ?_
  rw [show decide ((s.size : Int) ≤ 300) = true from decide_eq_true (by have := L1.out; omega)]
  rintro e w2 ⟨rfl, hb2⟩
  have hA2 := HA1.out.trans (hb2.mono z1)
  have z2 : w.heap.size + 3 ≤ w2.heap.size := by have := hb2.size; omega
  obtain ⟨va, vb, vd⟩ := three_cells _ _ _ _ _ _ _ _ _ _ _ _ _ _ _ hA2
  have a0 := va 0 _ rfl; have a1 := va 1 _ rfl; have a2 := va 2 _ rfl; have a3 := va 3 _ rfl; have a4 := va 4 _ rfl
  have b0 := vb 0 _ rfl; have b1 := vb 1 _ rfl; have b2 := vb 2 _ rfl; have b3 := vb 3 _ rfl; have b4 := vb 4 _ rfl
  have d0 := vd 0 _ rfl; have d1 := vd 1 _ rfl; have d2 := vd 2 _ rfl; have d3 := vd 3 _ rfl; have d4 := vd 4 _ rfl
  clear va vb vd
  have HA2 := Lib.hid hA2; clear hb2 hA2
  go_wp2_with fail
  clear a0 a1 a2 a3 a4 b0 b1 b2 b3 b4 d0 d1 d2 d3 d4
  refine (light_c _ _ _ _ _ _).mono ?_
  rw [show decide ((s2.size : Int) ≤ 300) = true from decide_eq_true (by have := L2.out; omega)]
  rintro e w3 ⟨rfl, hb3⟩
  have hA3 := HA2.out.trans (hb3.mono z2)
  have z3 : w.heap.size + 3 ≤ w3.heap.size := by have := hb3.size; omega
  obtain ⟨va, vb, vd⟩ := three_cells _ _ _ _ _ _ _ _ _ _ _ _ _ _ _ hA3
  have a0 := va 0 _ rfl; have a1 := va 1 _ rfl; have a2 := va 2 _ rfl; have a3 := va 3 _ rfl; have a4 := va 4 _ rfl
  have b0 := vb 0 _ rfl; have b1 := vb 1 _ rfl; have b2 := vb 2 _ rfl; have b3 := vb 3 _ rfl; have b4 := vb 4 _ rfl
  have d0 := vd 0 _ rfl; have d1 := vd 1 _ rfl; have d2 := vd 2 _ rfl; have d3 := vd 3 _ rfl; have d4 := vd 4 _ rfl
  clear va vb vd
  have HA3 := Lib.hid hA3; clear hb3 hA3
  go_wp2_with fail
  clear a0 a1 a2 a3 a4 b0 b1 b2 b3 b4 d0 d1 d2 d3 d4
  refine (light_c _ _ _ _ _ _).mono ?_
  rw [show decide ((s3.size : Int) ≤ 300) = true from decide_eq_true (by have := L3.out; omega)]
  rintro e w4 ⟨rfl, hb4⟩
  have hA4 := HA3.out.trans (hb4.mono z3)
  have z4 : w.heap.size + 3 ≤ w4.heap.size := by have := hb4.size; omega
  obtain ⟨va, vb, vd⟩ := three_cells _ _ _ _ _ _ _ _ _ _ _ _ _ _ _ hA4
  have a0 := va 0 _ rfl; have a1 := va 1 _ rfl; have a2 := va 2 _ rfl; have a3 := va 3 _ rfl; have a4 := va 4 _ rfl
  have b0 := vb 0 _ rfl; have b1 := vb 1 _ rfl; have b2 := vb 2 _ rfl; have b3 := vb 3 _ rfl; have b4 := vb 4 _ rfl
  have d0 := vd 0 _ rfl; have d1 := vd 1 _ rfl; have d2 := vd 2 _ rfl; have d3 := vd 3 _ rfl; have d4 := vd 4 _ rfl
  clear va vb vd
  have HA4 := Lib.hid hA4; clear hb4 hA4
  go_wp2_with fail
  clear a0 a1 a2 a3 a4 b0 b1 b2 b3 b4 d0 d1 d2 d3 d4
  refine (compare_any _ _ _ _ _ _ _ _ _ _ _ HX.out HX2.out).mono ?_
  rw [EP.out, EO.out]
  rintro e w5 ⟨rfl, hb5⟩
  have hA5 := HA4.out.trans (hb5.mono z4)
  have z5 : w.heap.size + 3 ≤ w5.heap.size := by have := hb5.size; omega
  obtain ⟨va, vb, vd⟩ := three_cells _ _ _ _ _ _ _ _ _ _ _ _ _ _ _ hA5
  have a0 := va 0 _ rfl; have a1 := va 1 _ rfl; have a2 := va 2 _ rfl; have a3 := va 3 _ rfl; have a4 := va 4 _ rfl
  have b0 := vb 0 _ rfl; have b1 := vb 1 _ rfl; have b2 := vb 2 _ rfl; have b3 := vb 3 _ rfl; have b4 := vb 4 _ rfl
  have d0 := vd 0 _ rfl; have d1 := vd 1 _ rfl; have d2 := vd 2 _ rfl; have d3 := vd 3 _ rfl; have d4 := vd 4 _ rfl
  clear va vb vd
  have HA5 := Lib.hid hA5; clear hb5 hA5
  go_wp2_with fail
  clear a0 a1 a2 a3 a4 b0 b1 b2 b3 b4 d0 d1 d2 d3 d4
  refine (compare_any _ _ _ _ _ _ _ _ _ _ _ HX2.out HX3.out).mono ?_
  rw [EQ.out, EI.out]
  rintro e w6 ⟨rfl, hb6⟩
  have hA6 := HA5.out.trans (hb6.mono z5)
  have z6 : w.heap.size + 3 ≤ w6.heap.size := by have := hb6.size; omega
  obtain ⟨va, vb, vd⟩ := three_cells _ _ _ _ _ _ _ _ _ _ _ _ _ _ _ hA6
  have a0 := va 0 _ rfl; have a1 := va 1 _ rfl; have a2 := va 2 _ rfl; have a3 := va 3 _ rfl; have a4 := va 4 _ rfl
  have b0 := vb 0 _ rfl; have b1 := vb 1 _ rfl; have b2 := vb 2 _ rfl; have b3 := vb 3 _ rfl; have b4 := vb 4 _ rfl
  have d0 := vd 0 _ rfl; have d1 := vd 1 _ rfl; have d2 := vd 2 _ rfl; have d3 := vd 3 _ rfl; have d4 := vd 4 _ rfl
  clear va vb vd
  have HA6 := Lib.hid hA6; clear hb6 hA6
  go_wp2_with fail
  clear a0 a1 a2 a3 a4 b0 b1 b2 b3 b4 d0 d1 d2 d3 d4
  refine (compare_any _ _ _ _ _ _ _ _ _ _ _ HX.out HX3.out).mono ?_
  rw [ER.out, EH.out]
  rintro e w7 ⟨rfl, hb7⟩
  have hA7 := HA6.out.trans (hb7.mono z6)
  have z7 : w.heap.size + 3 ≤ w7.heap.size := by have := hb7.size; omega
  obtain ⟨va, vb, vd⟩ := three_cells _ _ _ _ _ _ _ _ _ _ _ _ _ _ _ hA7
  have a0 := va 0 _ rfl; have a1 := va 1 _ rfl; have a2 := va 2 _ rfl; have a3 := va 3 _ rfl; have a4 := va 4 _ rfl
  have b0 := vb 0 _ rfl; have b1 := vb 1 _ rfl; have b2 := vb 2 _ rfl; have b3 := vb 3 _ rfl; have b4 := vb 4 _ rfl
  have d0 := vd 0 _ rfl; have d1 := vd 1 _ rfl; have d2 := vd 2 _ rfl; have d3 := vd 3 _ rfl; have d4 := vd 4 _ rfl
  clear va vb vd
  have HA7 := Lib.hid hA7; clear hb7 hA7
  clear a0 a1 a2 a3 a4 b0 b1 b2 b3 b4 d0 d1 d2 d3 d4
  have hh := HH.out; clear HH
  rcases hh with rfl | ⟨rfl, rfl⟩ | ⟨rfl, rfl, rfl, h1⟩ | ⟨rfl, rfl, rfl, h1, h2⟩ | ⟨rfl, rfl, rfl, h1, h2, h3, ⟨h4, h5⟩ | ⟨h4, h5, h6⟩ | ⟨h4, h5, h6⟩⟩
  all_goals
    go_wp2
    all_goals
      go_ret
      refine ⟨?_, HB0.out.trans (HA7.out.mono (by omega))⟩
      first | rfl | (exfalso; omega) | (refine ret_bool ?_; rw [decide_eq_true h4]; done) | (refine ret_bool ?_; rw [decide_eq_true h4, decide_eq_true h6]; done) | (refine ret_bool ?_; simp; omega)
theorem orders_w (k n : Int) (x : Nat) (s : ByteArray) (y : Bool) (k2 n2 : Int) (x2 : Nat) (s2 : ByteArray) (y2 : Bool) (k3 n3 : Int) (x3 : Nat) (s3 : ByteArray) (y3 : Bool) (hx : x < 18446744073709551616) (hx2 : x2 < 18446744073709551616) (hx3 : x3 < 18446744073709551616) (w : World) (hT : Tabs w) :
    Calls Tryz.prog 7 #[val k n x s y, val k2 n2 x2 s2 y2, val k3 n3 x3 s3 y3] w fun e w' => e = .returned (.bool true) ∧ Below w.heap.size w w' := by
  by_cases l1 : (s.size : Int) ≤ 300
  · by_cases l2 : (s2.size : Int) ≤ 300
    · by_cases l3 : (s3.size : Int) ≤ 300
      · refine orders_go k n x s y k2 n2 x2 s2 y2 k3 n3 x3 s3 y3 w hT l1 l2 l3 hx hx2 hx3 _ _ _ _ _ _ rfl rfl rfl rfl rfl rfl ?_
        cases ho : cmpOk k x k2 x2
        · exact .inl rfl
        · refine .inr ?_
          cases hi : cmpOk k2 x2 k3 x3
          · exact .inl ⟨rfl, rfl⟩
          · refine .inr ?_
            have ho' := ho
            have hi' := hi
            simp only [cmpOk, Bool.and_eq_true, beq_iff_eq, Bool.not_eq_true'] at ho' hi'
            obtain ⟨rfl, v1, v2⟩ := ho'
            obtain ⟨rfl, _, v3⟩ := hi'
            have hh : cmpOk k x k x3 = true := by simp [cmpOk, v1, v3]
            unfold cmpR
            rw [ho, hi, hh, if_pos rfl, if_pos rfl, if_pos rfl]
            by_cases h1 : cmpV k n n2 x x2 s s2 y y2 ≤ 0
            · refine .inr ?_
              by_cases h2 : cmpV k n2 n3 x2 x3 s2 s3 y2 y3 ≤ 0
              · refine .inr ⟨rfl, rfl, rfl, h1, h2, ?_⟩
                obtain ⟨h3, h4⟩ := cmpV_trans h1 h2
                refine ⟨h3, ?_⟩
                by_cases h5 : cmpV k n n2 x x2 s s2 y y2 < 0
                · exact .inl ⟨h4.2 (.inl h5), h5⟩
                · by_cases h6 : cmpV k n2 n3 x2 x3 s2 s3 y2 y3 < 0
                  · exact .inr (.inl ⟨h4.2 (.inr h6), h5, h6⟩)
                  · exact .inr (.inr ⟨fun h => (h4.1 h).elim h5 h6, h5, h6⟩)
              · exact .inl ⟨rfl, rfl, rfl, h1, h2⟩
            · exact .inl ⟨rfl, rfl, rfl, h1⟩
      · exact orders_l3 k n x s y k2 n2 x2 s2 y2 k3 n3 x3 s3 y3 w hT l1 l2 l3
    · exact orders_l2 k n x s y k2 n2 x2 s2 y2 k3 n3 x3 s3 y3 w hT l1 l2
  · exact orders_l1 k n x s y k2 n2 x2 s2 y2 k3 n3 x3 s3 y3 w hT l1
end Go.Proofs.YtflhjgpkgbnifaaGreatDoor
