/- cmp.Compare at the types that values are held against one another by; value.Void, Compare and Same, whatever the two values. -/
import Derived.Test.YtflhjgpkgbnifaaGreatDoorValueKinds
import Derived.Sort.Walk0
namespace Go.Proofs.YtflhjgpkgbnifaaGreatDoor
open Go.RowKit
set_option maxRecDepth 100000

def sgn (a b : Int) : Int := if a < b then -1 else if b < a then 1 else 0
def sgs (s t : ByteArray) : Int := if Op.bytesLess s.toList t.toList then -1 else if s.toList == t.toList then 0 else 1
set_option maxHeartbeats 400000 in
theorem isNaN_i64 (a : Int) (w : World) : Calls Tryz.prog 36 #[.int .i64 a] w fun e w' => e = .returned (.bool false) ∧ w = w' := by
  go_enter Tryz.func36, Tryz.ntmps36
  go_wp2
  go_ret
  exact ⟨by simp, rfl⟩
set_option maxHeartbeats 400000 in
theorem isNaN_u64 (a : Int) (w : World) : Calls Tryz.prog 37 #[.int .u64 a] w fun e w' => e = .returned (.bool false) ∧ w = w' := by
  go_enter Tryz.func37, Tryz.ntmps37
  go_wp2
  go_ret
  exact ⟨by simp, rfl⟩
set_option maxHeartbeats 400000 in
theorem isNaN_int (a : Int) (w : World) : Calls Tryz.prog 40 #[.int .i64 a] w fun e w' => e = .returned (.bool false) ∧ w = w' := by
  go_enter Tryz.func40, Tryz.ntmps40
  go_wp2
  go_ret
  exact ⟨by simp, rfl⟩
set_option maxHeartbeats 400000 in
theorem isNaN_str (s : ByteArray) (w : World) : Calls Tryz.prog 39 #[.string s] w fun e w' => e = .returned (.bool false) ∧ w = w' := by
  go_enter Tryz.func39, Tryz.ntmps39
  go_wp2
  go_ret
  exact ⟨by simp, rfl⟩
set_option maxHeartbeats 400000 in
theorem cmp_i64 (a b : Int) (w : World) : Calls Tryz.prog 24 #[.int .i64 a, .int .i64 b] w fun e w' => e = .returned (.int .i64 (sgn a b)) ∧ w = w' := by
  unfold sgn
  rcases (by omega : a < b ∨ (¬ a < b ∧ b < a) ∨ (¬ a < b ∧ ¬ b < a)) with h | ⟨h, h2⟩ | ⟨h, h2⟩
  all_goals
    go_enter Tryz.func24, Tryz.ntmps24
    go_wp2_with (go_at_call 36; refine (isNaN_i64 _ _).mono ?_; rintro e w' ⟨rfl, rfl⟩)
    go_ret
    exact ⟨rfl, rfl⟩
set_option maxHeartbeats 400000 in
theorem cmp_u64 (a b : Int) (w : World) : Calls Tryz.prog 25 #[.int .u64 a, .int .u64 b] w fun e w' => e = .returned (.int .i64 (sgn a b)) ∧ w = w' := by
  unfold sgn
  rcases (by omega : a < b ∨ (¬ a < b ∧ b < a) ∨ (¬ a < b ∧ ¬ b < a)) with h | ⟨h, h2⟩ | ⟨h, h2⟩
  all_goals
    go_enter Tryz.func25, Tryz.ntmps25
    go_wp2_with (go_at_call 37; refine (isNaN_u64 _ _).mono ?_; rintro e w' ⟨rfl, rfl⟩)
    go_ret
    exact ⟨rfl, rfl⟩
set_option maxHeartbeats 400000 in
theorem cmp_int (a b : Int) (w : World) : Calls Tryz.prog 28 #[.int .i64 a, .int .i64 b] w fun e w' => e = .returned (.int .i64 (sgn a b)) ∧ w = w' := by
  unfold sgn
  rcases (by omega : a < b ∨ (¬ a < b ∧ b < a) ∨ (¬ a < b ∧ ¬ b < a)) with h | ⟨h, h2⟩ | ⟨h, h2⟩
  all_goals
    go_enter Tryz.func28, Tryz.ntmps28
    go_wp2_with (go_at_call 40; refine (isNaN_int _ _).mono ?_; rintro e w' ⟨rfl, rfl⟩)
    go_ret
    exact ⟨rfl, rfl⟩
set_option maxHeartbeats 400000 in
theorem cmp_str (s t : ByteArray) (w : World) : Calls Tryz.prog 27 #[.string s, .string t] w fun e w' => e = .returned (.int .i64 (sgs s t)) ∧ w = w' := by
  unfold sgs
  cases h : Op.bytesLess s.toList t.toList <;> cases h2 : (s.toList == t.toList)
  all_goals
    go_enter Tryz.func27, Tryz.ntmps27
    go_wp2_with (go_at_call 39; refine (isNaN_str _ _).mono ?_; rintro e w' ⟨rfl, rfl⟩)
    go_ret
    exact ⟨rfl, rfl⟩

def b01 (b : Bool) : Int := if b then 1 else 0
set_option maxHeartbeats 400000 in
theorem place_c (b : Bool) (w : World) : Calls Tryz.prog 29 #[.bool b] w fun e w' => e = .returned (.int .i64 (b01 b)) ∧ w = w' := by
  cases b
  all_goals
    go_enter Tryz.func29, Tryz.ntmps29
    go_wp2
    go_ret
    exact ⟨rfl, rfl⟩

def voidB (k : Int) (x : Nat) : Bool := k == 1 && fnan x
set_option maxHeartbeats 1000000 in
theorem void_c (k n : Int) (x : Nat) (s : ByteArray) (y : Bool) (w : World) :
    Calls Tryz.prog 20 #[val k n x s y] w fun e w' => e = .returned (.bool (voidB k x)) ∧ Below w.heap.size w w' := by
  unfold voidB
  cases h : (k == 1)
  · go_enter Tryz.func20, Tryz.ntmps20
    go_wp2
    go_ret
    exact ⟨rfl, (Below.refl _ _).alloc (Nat.le_refl _) _⟩
  · rw [Bool.true_and]
    go_enter Tryz.func20, Tryz.ntmps20
    go_wp2_with fail
    refine (none_c _ _).mono ?_; rintro e w' ⟨rfl, rfl⟩
    go_wp2
    go_ret
    exact ⟨rfl, (Below.refl _ _).alloc (Nat.le_refl _) _⟩

/-- How two values of one kind stand. -/
def cmpV (k n n2 : Int) (x x2 : Nat) (s s2 : ByteArray) (y y2 : Bool) : Int :=
  if k == 0 then sgn n n2 else if k == 1 then sgn (fkey x) (fkey x2) else if k == 2 then sgs s s2 else sgn (b01 y) (b01 y2)
def sameV (k n n2 : Int) (x x2 : Nat) (s s2 : ByteArray) (y y2 : Bool) : Bool :=
  if k == 0 then n == n2 else if k == 1 then fkey x == fkey x2 else if k == 2 then s.toList == s2.toList else y == y2
set_option maxHeartbeats 2000000 in
theorem compareVoid1_c (k n n2 : Int) (x x2 : Nat) (s s2 : ByteArray) (y y2 : Bool) (w : World) (hv : voidB k x = true) :
    Calls Tryz.prog 13 #[val k n x s y, val k n2 x2 s2 y2] w fun e w' => e = .returned (.tuple #[.int .i64 0, .bool false]) ∧ Below w.heap.size w w' := by
  have B0 : Below w.heap.size w ((w.alloc (.cells (vals k n x s y) 24)).alloc (.cells (vals k n2 x2 s2 y2) 24)) := ((Below.refl _ _).alloc (Nat.le_refl _) _).alloc (by simp) _
  have HB0 := Lib.hid B0; clear B0
  have HV := Lib.hid hv; clear hv
  go_enter Tryz.func13, Tryz.ntmps13
  go_wp2_with fail
  refine (void_c _ _ _ _ _ _).mono ?_
  rw [HV.out]
  rintro e w1 ⟨rfl, hb1⟩
  have hA1 : Below (w.heap.size + 2) ((w.alloc (.cells (vals k n x s y) 24)).alloc (.cells (vals k n2 x2 s2 y2) 24)) w1 := by simpa using hb1
  have z1 : w.heap.size + 2 ≤ w1.heap.size := by have := hb1.size; simpa using this
  obtain ⟨va, vb⟩ := two_cells _ _ _ _ _ _ _ _ _ _ hA1
  have a0 := va 0 _ rfl; have a1 := va 1 _ rfl; have a2 := va 2 _ rfl; have a3 := va 3 _ rfl; have a4 := va 4 _ rfl
  have b0 := vb 0 _ rfl; have b1 := vb 1 _ rfl; have b2 := vb 2 _ rfl; have b3 := vb 3 _ rfl; have b4 := vb 4 _ rfl
  clear va vb
  have HA1 := Lib.hid hA1; clear hb1 hA1
  go_wp2_with fail
  go_ret2
  exact ⟨rfl, HB0.out.trans (HA1.out.mono (by omega))⟩
set_option maxHeartbeats 2000000 in
theorem compareVoid2_c (k n n2 : Int) (x x2 : Nat) (s s2 : ByteArray) (y y2 : Bool) (w : World) (hv : voidB k x = false) (hv2 : voidB k x2 = true) :
    Calls Tryz.prog 13 #[val k n x s y, val k n2 x2 s2 y2] w fun e w' => e = .returned (.tuple #[.int .i64 0, .bool false]) ∧ Below w.heap.size w w' := by
  have B0 : Below w.heap.size w ((w.alloc (.cells (vals k n x s y) 24)).alloc (.cells (vals k n2 x2 s2 y2) 24)) := ((Below.refl _ _).alloc (Nat.le_refl _) _).alloc (by simp) _
  have HB0 := Lib.hid B0; clear B0
  have HV := Lib.hid hv; have HV2 := Lib.hid hv2; clear hv hv2
  go_enter Tryz.func13, Tryz.ntmps13
  go_wp2_with fail
  refine (void_c _ _ _ _ _ _).mono ?_
  rw [HV.out]
  rintro e w1 ⟨rfl, hb1⟩
  have hA1 : Below (w.heap.size + 2) ((w.alloc (.cells (vals k n x s y) 24)).alloc (.cells (vals k n2 x2 s2 y2) 24)) w1 := by simpa using hb1
  have z1 : w.heap.size + 2 ≤ w1.heap.size := by have := hb1.size; simpa using this
  obtain ⟨va, vb⟩ := two_cells _ _ _ _ _ _ _ _ _ _ hA1
  have a0 := va 0 _ rfl; have a1 := va 1 _ rfl; have a2 := va 2 _ rfl; have a3 := va 3 _ rfl; have a4 := va 4 _ rfl
  have b0 := vb 0 _ rfl; have b1 := vb 1 _ rfl; have b2 := vb 2 _ rfl; have b3 := vb 3 _ rfl; have b4 := vb 4 _ rfl
  clear va vb
  have HA1 := Lib.hid hA1; clear hb1 hA1
  go_wp2_with fail
  clear a0 a1 a2 a3 a4 b0 b1 b2 b3 b4
  refine (void_c _ _ _ _ _ _).mono ?_
  rw [HV2.out]
  rintro e w2 ⟨rfl, hb2⟩
  have hA2 := HA1.out.trans (hb2.mono z1)
  have z2 : w.heap.size + 2 ≤ w2.heap.size := by have := hb2.size; omega
  obtain ⟨va, vb⟩ := two_cells _ _ _ _ _ _ _ _ _ _ hA2
  have a0 := va 0 _ rfl; have a1 := va 1 _ rfl; have a2 := va 2 _ rfl; have a3 := va 3 _ rfl; have a4 := va 4 _ rfl
  have b0 := vb 0 _ rfl; have b1 := vb 1 _ rfl; have b2 := vb 2 _ rfl; have b3 := vb 3 _ rfl; have b4 := vb 4 _ rfl
  clear va vb
  have HA2 := Lib.hid hA2; clear hb2 hA2
  go_wp2_with fail
  go_ret2
  exact ⟨rfl, HB0.out.trans (HA2.out.mono (by omega))⟩
set_option maxHeartbeats 2000000 in
theorem compare0_c (k n n2 : Int) (x x2 : Nat) (s s2 : ByteArray) (y y2 : Bool) (w : World) (hv : voidB k x = false) (hv2 : voidB k x2 = false) (h0 : (k == 0) = true) :
    Calls Tryz.prog 13 #[val k n x s y, val k n2 x2 s2 y2] w fun e w' => e = .returned (.tuple #[.int .i64 (sgn n n2), .bool true]) ∧ Below w.heap.size w w' := by
  have B0 : Below w.heap.size w ((w.alloc (.cells (vals k n x s y) 24)).alloc (.cells (vals k n2 x2 s2 y2) 24)) := ((Below.refl _ _).alloc (Nat.le_refl _) _).alloc (by simp) _
  have HB0 := Lib.hid B0; clear B0
  have HV := Lib.hid hv; have HV2 := Lib.hid hv2; clear hv hv2
  go_enter Tryz.func13, Tryz.ntmps13
  go_wp2_with fail
  refine (void_c _ _ _ _ _ _).mono ?_
  rw [HV.out]
  rintro e w1 ⟨rfl, hb1⟩
  have hA1 : Below (w.heap.size + 2) ((w.alloc (.cells (vals k n x s y) 24)).alloc (.cells (vals k n2 x2 s2 y2) 24)) w1 := by simpa using hb1
  have z1 : w.heap.size + 2 ≤ w1.heap.size := by have := hb1.size; simpa using this
  obtain ⟨va, vb⟩ := two_cells _ _ _ _ _ _ _ _ _ _ hA1
  have a0 := va 0 _ rfl; have a1 := va 1 _ rfl; have a2 := va 2 _ rfl; have a3 := va 3 _ rfl; have a4 := va 4 _ rfl
  have b0 := vb 0 _ rfl; have b1 := vb 1 _ rfl; have b2 := vb 2 _ rfl; have b3 := vb 3 _ rfl; have b4 := vb 4 _ rfl
  clear va vb
  have HA1 := Lib.hid hA1; clear hb1 hA1
  go_wp2_with fail
  clear a0 a1 a2 a3 a4 b0 b1 b2 b3 b4
  refine (void_c _ _ _ _ _ _).mono ?_
  rw [HV2.out]
  rintro e w2 ⟨rfl, hb2⟩
  have hA2 := HA1.out.trans (hb2.mono z1)
  have z2 : w.heap.size + 2 ≤ w2.heap.size := by have := hb2.size; omega
  obtain ⟨va, vb⟩ := two_cells _ _ _ _ _ _ _ _ _ _ hA2
  have a0 := va 0 _ rfl; have a1 := va 1 _ rfl; have a2 := va 2 _ rfl; have a3 := va 3 _ rfl; have a4 := va 4 _ rfl
  have b0 := vb 0 _ rfl; have b1 := vb 1 _ rfl; have b2 := vb 2 _ rfl; have b3 := vb 3 _ rfl; have b4 := vb 4 _ rfl
  clear va vb
  have HA2 := Lib.hid hA2; clear hb2 hA2
  go_wp2_with fail
  refine (cmp_i64 _ _ _).mono ?_; rintro e w' ⟨rfl, rfl⟩
  go_wp2
  go_ret2
  exact ⟨rfl, HB0.out.trans (HA2.out.mono (by omega))⟩
set_option maxHeartbeats 2000000 in
theorem compare2_c (k n n2 : Int) (x x2 : Nat) (s s2 : ByteArray) (y y2 : Bool) (w : World) (hv : voidB k x = false) (hv2 : voidB k x2 = false) (h0 : (k == 0) = false) (h1 : (k == 1) = false) (h2 : (k == 2) = true) :
    Calls Tryz.prog 13 #[val k n x s y, val k n2 x2 s2 y2] w fun e w' => e = .returned (.tuple #[.int .i64 (sgs s s2), .bool true]) ∧ Below w.heap.size w w' := by
  have B0 : Below w.heap.size w ((w.alloc (.cells (vals k n x s y) 24)).alloc (.cells (vals k n2 x2 s2 y2) 24)) := ((Below.refl _ _).alloc (Nat.le_refl _) _).alloc (by simp) _
  have HB0 := Lib.hid B0; clear B0
  have HV := Lib.hid hv; have HV2 := Lib.hid hv2; clear hv hv2
  go_enter Tryz.func13, Tryz.ntmps13
  go_wp2_with fail
  refine (void_c _ _ _ _ _ _).mono ?_
  rw [HV.out]
  rintro e w1 ⟨rfl, hb1⟩
  have hA1 : Below (w.heap.size + 2) ((w.alloc (.cells (vals k n x s y) 24)).alloc (.cells (vals k n2 x2 s2 y2) 24)) w1 := by simpa using hb1
  have z1 : w.heap.size + 2 ≤ w1.heap.size := by have := hb1.size; simpa using this
  obtain ⟨va, vb⟩ := two_cells _ _ _ _ _ _ _ _ _ _ hA1
  have a0 := va 0 _ rfl; have a1 := va 1 _ rfl; have a2 := va 2 _ rfl; have a3 := va 3 _ rfl; have a4 := va 4 _ rfl
  have b0 := vb 0 _ rfl; have b1 := vb 1 _ rfl; have b2 := vb 2 _ rfl; have b3 := vb 3 _ rfl; have b4 := vb 4 _ rfl
  clear va vb
  have HA1 := Lib.hid hA1; clear hb1 hA1
  go_wp2_with fail
  clear a0 a1 a2 a3 a4 b0 b1 b2 b3 b4
  refine (void_c _ _ _ _ _ _).mono ?_
  rw [HV2.out]
  rintro e w2 ⟨rfl, hb2⟩
  have hA2 := HA1.out.trans (hb2.mono z1)
  have z2 : w.heap.size + 2 ≤ w2.heap.size := by have := hb2.size; omega
  obtain ⟨va, vb⟩ := two_cells _ _ _ _ _ _ _ _ _ _ hA2
  have a0 := va 0 _ rfl; have a1 := va 1 _ rfl; have a2 := va 2 _ rfl; have a3 := va 3 _ rfl; have a4 := va 4 _ rfl
  have b0 := vb 0 _ rfl; have b1 := vb 1 _ rfl; have b2 := vb 2 _ rfl; have b3 := vb 3 _ rfl; have b4 := vb 4 _ rfl
  clear va vb
  have HA2 := Lib.hid hA2; clear hb2 hA2
  go_wp2_with fail
  refine (cmp_str _ _ _).mono ?_; rintro e w' ⟨rfl, rfl⟩
  go_wp2
  go_ret2
  exact ⟨rfl, HB0.out.trans (HA2.out.mono (by omega))⟩
set_option maxHeartbeats 2000000 in
theorem compare1_c (k n n2 : Int) (x x2 : Nat) (s s2 : ByteArray) (y y2 : Bool) (w : World) (hv : voidB k x = false) (hv2 : voidB k x2 = false) (h0 : (k == 0) = false) (h1 : (k == 1) = true) (hx : x < 18446744073709551616) (hx2 : x2 < 18446744073709551616) :
    Calls Tryz.prog 13 #[val k n x s y, val k n2 x2 s2 y2] w fun e w' => e = .returned (.tuple #[.int .i64 (sgn (fkey x) (fkey x2)), .bool true]) ∧ Below w.heap.size w w' := by
  have B0 : Below w.heap.size w ((w.alloc (.cells (vals k n x s y) 24)).alloc (.cells (vals k n2 x2 s2 y2) 24)) := ((Below.refl _ _).alloc (Nat.le_refl _) _).alloc (by simp) _
  have HB0 := Lib.hid B0; clear B0
  have HX := Lib.hid hx; have HX2 := Lib.hid hx2; clear hx hx2
  have HV := Lib.hid hv; have HV2 := Lib.hid hv2; clear hv hv2
  go_enter Tryz.func13, Tryz.ntmps13
  go_wp2_with fail
  refine (void_c _ _ _ _ _ _).mono ?_
  rw [HV.out]
  rintro e w1 ⟨rfl, hb1⟩
  have hA1 : Below (w.heap.size + 2) ((w.alloc (.cells (vals k n x s y) 24)).alloc (.cells (vals k n2 x2 s2 y2) 24)) w1 := by simpa using hb1
  have z1 : w.heap.size + 2 ≤ w1.heap.size := by have := hb1.size; simpa using this
  obtain ⟨va, vb⟩ := two_cells _ _ _ _ _ _ _ _ _ _ hA1
  have a0 := va 0 _ rfl; have a1 := va 1 _ rfl; have a2 := va 2 _ rfl; have a3 := va 3 _ rfl; have a4 := va 4 _ rfl
  have b0 := vb 0 _ rfl; have b1 := vb 1 _ rfl; have b2 := vb 2 _ rfl; have b3 := vb 3 _ rfl; have b4 := vb 4 _ rfl
  clear va vb
  have HA1 := Lib.hid hA1; clear hb1 hA1
  go_wp2_with fail
  clear a0 a1 a2 a3 a4 b0 b1 b2 b3 b4
  refine (void_c _ _ _ _ _ _).mono ?_
  rw [HV2.out]
  rintro e w2 ⟨rfl, hb2⟩
  have hA2 := HA1.out.trans (hb2.mono z1)
  have z2 : w.heap.size + 2 ≤ w2.heap.size := by have := hb2.size; omega
  obtain ⟨va, vb⟩ := two_cells _ _ _ _ _ _ _ _ _ _ hA2
  have a0 := va 0 _ rfl; have a1 := va 1 _ rfl; have a2 := va 2 _ rfl; have a3 := va 3 _ rfl; have a4 := va 4 _ rfl
  have b0 := vb 0 _ rfl; have b1 := vb 1 _ rfl; have b2 := vb 2 _ rfl; have b3 := vb 3 _ rfl; have b4 := vb 4 _ rfl
  clear va vb
  have HA2 := Lib.hid hA2; clear hb2 hA2
  go_wp2_with fail
  go_quiet ((first | (go_at_call 26; exact Calls.quiet_of_same ((key_c _ (by first | exact HX.out | exact HX2.out) _).mono fun _ _ ⟨a, b⟩ => ⟨a, b.symm⟩)) | (go_at_call 25; exact Calls.quiet_of_same ((cmp_u64 _ _ _).mono fun _ _ ⟨a, b⟩ => ⟨a, b.symm⟩))))
  go_wp2
  go_ret2
  exact ⟨rfl, (HB0.out.trans (HA2.out.mono (by omega))).trans ⟨rfl, rfl, rfl, Nat.le_refl _, fun _ _ => rfl⟩⟩
set_option maxHeartbeats 2000000 in
theorem compare3_c (k n n2 : Int) (x x2 : Nat) (s s2 : ByteArray) (y y2 : Bool) (w : World) (hv : voidB k x = false) (hv2 : voidB k x2 = false) (h0 : (k == 0) = false) (h1 : (k == 1) = false) (h2 : (k == 2) = false) :
    Calls Tryz.prog 13 #[val k n x s y, val k n2 x2 s2 y2] w fun e w' => e = .returned (.tuple #[.int .i64 (sgn (b01 y) (b01 y2)), .bool true]) ∧ Below w.heap.size w w' := by
  have B0 : Below w.heap.size w ((w.alloc (.cells (vals k n x s y) 24)).alloc (.cells (vals k n2 x2 s2 y2) 24)) := ((Below.refl _ _).alloc (Nat.le_refl _) _).alloc (by simp) _
  have HB0 := Lib.hid B0; clear B0
  have HV := Lib.hid hv; have HV2 := Lib.hid hv2; clear hv hv2
  go_enter Tryz.func13, Tryz.ntmps13
  go_wp2_with fail
  refine (void_c _ _ _ _ _ _).mono ?_
  rw [HV.out]
  rintro e w1 ⟨rfl, hb1⟩
  have hA1 : Below (w.heap.size + 2) ((w.alloc (.cells (vals k n x s y) 24)).alloc (.cells (vals k n2 x2 s2 y2) 24)) w1 := by simpa using hb1
  have z1 : w.heap.size + 2 ≤ w1.heap.size := by have := hb1.size; simpa using this
  obtain ⟨va, vb⟩ := two_cells _ _ _ _ _ _ _ _ _ _ hA1
  have a0 := va 0 _ rfl; have a1 := va 1 _ rfl; have a2 := va 2 _ rfl; have a3 := va 3 _ rfl; have a4 := va 4 _ rfl
  have b0 := vb 0 _ rfl; have b1 := vb 1 _ rfl; have b2 := vb 2 _ rfl; have b3 := vb 3 _ rfl; have b4 := vb 4 _ rfl
  clear va vb
  have HA1 := Lib.hid hA1; clear hb1 hA1
  go_wp2_with fail
  clear a0 a1 a2 a3 a4 b0 b1 b2 b3 b4
  refine (void_c _ _ _ _ _ _).mono ?_
  rw [HV2.out]
  rintro e w2 ⟨rfl, hb2⟩
  have hA2 := HA1.out.trans (hb2.mono z1)
  have z2 : w.heap.size + 2 ≤ w2.heap.size := by have := hb2.size; omega
  obtain ⟨va, vb⟩ := two_cells _ _ _ _ _ _ _ _ _ _ hA2
  have a0 := va 0 _ rfl; have a1 := va 1 _ rfl; have a2 := va 2 _ rfl; have a3 := va 3 _ rfl; have a4 := va 4 _ rfl
  have b0 := vb 0 _ rfl; have b1 := vb 1 _ rfl; have b2 := vb 2 _ rfl; have b3 := vb 3 _ rfl; have b4 := vb 4 _ rfl
  clear va vb
  have HA2 := Lib.hid hA2; clear hb2 hA2
  go_wp2_with fail
  go_quiet ((first | (go_at_call 29; exact Calls.quiet_of_same ((place_c _ _).mono fun _ _ ⟨a, b⟩ => ⟨a, b.symm⟩)) | (go_at_call 28; exact Calls.quiet_of_same ((cmp_int _ _ _).mono fun _ _ ⟨a, b⟩ => ⟨a, b.symm⟩))))
  go_wp2
  go_ret2
  exact ⟨rfl, (HB0.out.trans (HA2.out.mono (by omega))).trans ⟨rfl, rfl, rfl, Nat.le_refl _, fun _ _ => rfl⟩⟩
set_option maxHeartbeats 2000000 in
theorem same0_c (k n n2 : Int) (x x2 : Nat) (s s2 : ByteArray) (y y2 : Bool) (w : World) (h0 : (k == 0) = true) :
    Calls Tryz.prog 15 #[val k n x s y, val k n2 x2 s2 y2] w fun e w' => e = .returned (.bool (n == n2)) ∧ Below w.heap.size w w' := by
  go_enter Tryz.func15, Tryz.ntmps15
  go_wp2
  go_ret
  exact ⟨rfl, ((Below.refl _ _).alloc (Nat.le_refl _) _).alloc (by simp) _⟩
set_option maxHeartbeats 2000000 in
theorem same2_c (k n n2 : Int) (x x2 : Nat) (s s2 : ByteArray) (y y2 : Bool) (w : World) (h0 : (k == 0) = false) (h1 : (k == 1) = false) (h2 : (k == 2) = true) :
    Calls Tryz.prog 15 #[val k n x s y, val k n2 x2 s2 y2] w fun e w' => e = .returned (.bool (s.toList == s2.toList)) ∧ Below w.heap.size w w' := by
  go_enter Tryz.func15, Tryz.ntmps15
  go_wp2
  go_ret
  exact ⟨rfl, ((Below.refl _ _).alloc (Nat.le_refl _) _).alloc (by simp) _⟩
set_option maxHeartbeats 2000000 in
theorem same3_c (k n n2 : Int) (x x2 : Nat) (s s2 : ByteArray) (y y2 : Bool) (w : World) (h0 : (k == 0) = false) (h1 : (k == 1) = false) (h2 : (k == 2) = false) :
    Calls Tryz.prog 15 #[val k n x s y, val k n2 x2 s2 y2] w fun e w' => e = .returned (.bool (y == y2)) ∧ Below w.heap.size w w' := by
  go_enter Tryz.func15, Tryz.ntmps15
  go_wp2
  go_ret
  exact ⟨rfl, ((Below.refl _ _).alloc (Nat.le_refl _) _).alloc (by simp) _⟩
set_option maxHeartbeats 2000000 in
theorem same1_c (k n n2 : Int) (x x2 : Nat) (s s2 : ByteArray) (y y2 : Bool) (w : World) (h0 : (k == 0) = false) (h1 : (k == 1) = true) (hx : x < 18446744073709551616) (hx2 : x2 < 18446744073709551616) :
    Calls Tryz.prog 15 #[val k n x s y, val k n2 x2 s2 y2] w fun e w' => e = .returned (.bool (fkey x == fkey x2)) ∧ Below w.heap.size w w' := by
  have HX := Lib.hid hx; have HX2 := Lib.hid hx2; clear hx hx2
  go_enter Tryz.func15, Tryz.ntmps15
  go_wp2_with (go_at_call 22; refine (same_c _ _ HX.out HX2.out _).mono ?_; rintro e w' ⟨rfl, rfl⟩)
  go_ret
  exact ⟨rfl, ((Below.refl _ _).alloc (Nat.le_refl _) _).alloc (by simp) _⟩

theorem compare_c (k n n2 : Int) (x x2 : Nat) (s s2 : ByteArray) (y y2 : Bool) (w : World) (hx : x < 18446744073709551616) (hx2 : x2 < 18446744073709551616) (hv : voidB k x = false) (hv2 : voidB k x2 = false) :
    Calls Tryz.prog 13 #[val k n x s y, val k n2 x2 s2 y2] w fun e w' => e = .returned (.tuple #[.int .i64 (cmpV k n n2 x x2 s s2 y y2), .bool true]) ∧ Below w.heap.size w w' := by
  unfold cmpV
  cases h0 : (k == 0)
  · cases h1 : (k == 1)
    · cases h2 : (k == 2)
      · exact compare3_c k n n2 x x2 s s2 y y2 w hv hv2 h0 h1 h2
      · exact compare2_c k n n2 x x2 s s2 y y2 w hv hv2 h0 h1 h2
    · exact compare1_c k n n2 x x2 s s2 y y2 w hv hv2 h0 h1 hx hx2
  · exact compare0_c k n n2 x x2 s s2 y y2 w hv hv2 h0
theorem same_v (k n n2 : Int) (x x2 : Nat) (s s2 : ByteArray) (y y2 : Bool) (w : World) (hx : x < 18446744073709551616) (hx2 : x2 < 18446744073709551616) :
    Calls Tryz.prog 15 #[val k n x s y, val k n2 x2 s2 y2] w fun e w' => e = .returned (.bool (sameV k n n2 x x2 s s2 y y2)) ∧ Below w.heap.size w w' := by
  unfold sameV
  cases h0 : (k == 0)
  · cases h1 : (k == 1)
    · cases h2 : (k == 2)
      · exact same3_c k n n2 x x2 s s2 y y2 w h0 h1 h2
      · exact same2_c k n n2 x x2 s s2 y y2 w h0 h1 h2
    · exact same1_c k n n2 x x2 s s2 y y2 w h0 h1 hx hx2
  · exact same0_c k n n2 x x2 s s2 y y2 w h0
end Go.Proofs.YtflhjgpkgbnifaaGreatDoor
