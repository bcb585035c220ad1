/- value.Compare of any two values; how values stand. (For seats of later layers; drawn off Cmp and ValueOrders.) -/
import Derived.Test.YtjeippdfgojdnaaGreatDoorKept
import Derived.Sort.Walk0
import Derived.Deep.QuietTactic
namespace Go.Proofs.YtjeippdfgojdnaaGreatDoor
open Go.RowKit
set_option maxRecDepth 100000

set_option maxHeartbeats 1000000 in
theorem compareNe_c (k n k2 n2 : Int) (x x2 : Nat) (s s2 : ByteArray) (y y2 : Bool) (w : World) (h : (k != k2) = true) :
    Calls Tryz.prog 42 #[val k n x s y, val k2 n2 x2 s2 y2] w fun e w' => e = .returned (.tuple #[.int .i64 0, .bool false]) ∧ Below w.heap.size w w' := by
  go_enter Tryz.func42, Tryz.ntmps42
  go_wp2
  go_ret2
  exact ⟨rfl, ((Below.refl _ _).alloc (Nat.le_refl _) _).alloc (by simp) _⟩
/-- Two values, boxed one behind the other, in every world in which only what is younger has turned. -/
theorem two_cells {w w' : World} (k n k2 n2 : Int) (x x2 : Nat) (s s2 : ByteArray) (y y2 : Bool)
    (hb : Below (w.heap.size + 2) ((w.alloc (.cells (vals k n x s y) 24)).alloc (.cells (vals k2 n2 x2 s2 y2) 24)) w') :
    (∀ i v, (vals k n x s y)[i]? = some v → w'.cell? ⟨w.heap.size, i, none⟩ = some v) ∧ (∀ i v, (vals k2 n2 x2 s2 y2)[i]? = some v → w'.cell? ⟨w.heap.size + 1, i, none⟩ = some v) := by
  refine ⟨fun i v h => ?_, fun i v h => ?_⟩
  · rw [hb.cell (p := ⟨w.heap.size, i, none⟩) (by simp), World.cell?_alloc_lt _ _ _ (by simp), World.cell?_alloc_new]; exact h
  · rw [hb.cell (p := ⟨w.heap.size + 1, i, none⟩) (by simp)]
    have := World.cell?_alloc_new (w.alloc (.cells (vals k n x s y) 24)) (vals k2 n2 x2 s2 y2) 24 i
    rw [World.size_alloc] at this
    rw [this]; exact h
def sgn (a b : Int) : Int := if a < b then -1 else if b < a then 1 else 0
def sgs (s t : ByteArray) : Int := if Op.bytesLess s.toList t.toList then -1 else if s.toList == t.toList then 0 else 1
set_option maxHeartbeats 400000 in
theorem isNaN_i64 (a : Int) (w : World) : Calls Tryz.prog 87 #[.int .i64 a] w fun e w' => e = .returned (.bool false) ∧ w = w' := by
  go_enter Tryz.func87, Tryz.ntmps87
  go_wp2
  go_ret
  exact ⟨by simp, rfl⟩
set_option maxHeartbeats 400000 in
theorem isNaN_u64 (a : Int) (w : World) : Calls Tryz.prog 88 #[.int .u64 a] w fun e w' => e = .returned (.bool false) ∧ w = w' := by
  go_enter Tryz.func88, Tryz.ntmps88
  go_wp2
  go_ret
  exact ⟨by simp, rfl⟩
set_option maxHeartbeats 400000 in
theorem isNaN_int (a : Int) (w : World) : Calls Tryz.prog 91 #[.int .i64 a] w fun e w' => e = .returned (.bool false) ∧ w = w' := by
  go_enter Tryz.func91, Tryz.ntmps91
  go_wp2
  go_ret
  exact ⟨by simp, rfl⟩
set_option maxHeartbeats 400000 in
theorem isNaN_str (s : ByteArray) (w : World) : Calls Tryz.prog 90 #[.string s] w fun e w' => e = .returned (.bool false) ∧ w = w' := by
  go_enter Tryz.func90, Tryz.ntmps90
  go_wp2
  go_ret
  exact ⟨by simp, rfl⟩
set_option maxHeartbeats 400000 in
theorem cmp_i64 (a b : Int) (w : World) : Calls Tryz.prog 68 #[.int .i64 a, .int .i64 b] w fun e w' => e = .returned (.int .i64 (sgn a b)) ∧ w = w' := by
  unfold sgn
  rcases (by omega : a < b ∨ (¬ a < b ∧ b < a) ∨ (¬ a < b ∧ ¬ b < a)) with h | ⟨h, h2⟩ | ⟨h, h2⟩
  all_goals
    go_enter Tryz.func68, Tryz.ntmps68
    go_wp2_with (go_at_call 87; refine (isNaN_i64 _ _).mono ?_; rintro e w' ⟨rfl, rfl⟩)
    go_ret
    exact ⟨rfl, rfl⟩
set_option maxHeartbeats 400000 in
theorem cmp_u64 (a b : Int) (w : World) : Calls Tryz.prog 69 #[.int .u64 a, .int .u64 b] w fun e w' => e = .returned (.int .i64 (sgn a b)) ∧ w = w' := by
  unfold sgn
  rcases (by omega : a < b ∨ (¬ a < b ∧ b < a) ∨ (¬ a < b ∧ ¬ b < a)) with h | ⟨h, h2⟩ | ⟨h, h2⟩
  all_goals
    go_enter Tryz.func69, Tryz.ntmps69
    go_wp2_with (go_at_call 88; refine (isNaN_u64 _ _).mono ?_; rintro e w' ⟨rfl, rfl⟩)
    go_ret
    exact ⟨rfl, rfl⟩
set_option maxHeartbeats 400000 in
theorem cmp_int (a b : Int) (w : World) : Calls Tryz.prog 72 #[.int .i64 a, .int .i64 b] w fun e w' => e = .returned (.int .i64 (sgn a b)) ∧ w = w' := by
  unfold sgn
  rcases (by omega : a < b ∨ (¬ a < b ∧ b < a) ∨ (¬ a < b ∧ ¬ b < a)) with h | ⟨h, h2⟩ | ⟨h, h2⟩
  all_goals
    go_enter Tryz.func72, Tryz.ntmps72
    go_wp2_with (go_at_call 91; refine (isNaN_int _ _).mono ?_; rintro e w' ⟨rfl, rfl⟩)
    go_ret
    exact ⟨rfl, rfl⟩
set_option maxHeartbeats 400000 in
theorem cmp_str (s t : ByteArray) (w : World) : Calls Tryz.prog 71 #[.string s, .string t] w fun e w' => e = .returned (.int .i64 (sgs s t)) ∧ w = w' := by
  unfold sgs
  cases h : Op.bytesLess s.toList t.toList <;> cases h2 : (s.toList == t.toList)
  all_goals
    go_enter Tryz.func71, Tryz.ntmps71
    go_wp2_with (go_at_call 90; refine (isNaN_str _ _).mono ?_; rintro e w' ⟨rfl, rfl⟩)
    go_ret
    exact ⟨rfl, rfl⟩

def b01 (b : Bool) : Int := if b then 1 else 0
set_option maxHeartbeats 400000 in
theorem place_c (b : Bool) (w : World) : Calls Tryz.prog 73 #[.bool b] w fun e w' => e = .returned (.int .i64 (b01 b)) ∧ w = w' := by
  cases b
  all_goals
    go_enter Tryz.func73, Tryz.ntmps73
    go_wp2
    go_ret
    exact ⟨rfl, rfl⟩

/-- How two values of one kind stand. -/
def cmpV (k n n2 : Int) (x x2 : Nat) (s s2 : ByteArray) (y y2 : Bool) : Int :=
  if k == 0 then sgn n n2 else if k == 1 then sgn (fkey x) (fkey x2) else if k == 2 then sgs s s2 else sgn (b01 y) (b01 y2)
set_option maxHeartbeats 2000000 in
theorem compareVoid1_c (k n n2 : Int) (x x2 : Nat) (s s2 : ByteArray) (y y2 : Bool) (w : World) (hv : voidB k x = true) :
    Calls Tryz.prog 42 #[val k n x s y, val k n2 x2 s2 y2] w fun e w' => e = .returned (.tuple #[.int .i64 0, .bool false]) ∧ Below w.heap.size w w' := by
  have B0 : Below w.heap.size w ((w.alloc (.cells (vals k n x s y) 24)).alloc (.cells (vals k n2 x2 s2 y2) 24)) := ((Below.refl _ _).alloc (Nat.le_refl _) _).alloc (by simp) _
  have HB0 := Lib.hid B0; clear B0
  have HV := Lib.hid hv; clear hv
  go_enter Tryz.func42, Tryz.ntmps42
  go_wp2_with fail
  refine (void_c _ _ _ _ _ _).mono ?_
  rw [HV.out]
  rintro e w1 ⟨rfl, hb1⟩
  have hA1 : Below (w.heap.size + 2) ((w.alloc (.cells (vals k n x s y) 24)).alloc (.cells (vals k n2 x2 s2 y2) 24)) w1 := by simpa using hb1
  have z1 : w.heap.size + 2 ≤ w1.heap.size := by have := hb1.size; simpa using this
  obtain ⟨va, vb⟩ := two_cells _ _ _ _ _ _ _ _ _ _ hA1
  have a0 := va 0 _ rfl; have a1 := va 1 _ rfl; have a2 := va 2 _ rfl; have a3 := va 3 _ rfl; have a4 := va 4 _ rfl
  have b0 := vb 0 _ rfl; have b1 := vb 1 _ rfl; have b2 := vb 2 _ rfl; have b3 := vb 3 _ rfl; have b4 := vb 4 _ rfl
  clear va vb
  have HA1 := Lib.hid hA1; clear hb1 hA1
  go_wp2_with fail
  go_ret2
  exact ⟨rfl, HB0.out.trans (HA1.out.mono (by omega))⟩
set_option maxHeartbeats 2000000 in
theorem compareVoid2_c (k n n2 : Int) (x x2 : Nat) (s s2 : ByteArray) (y y2 : Bool) (w : World) (hv : voidB k x = false) (hv2 : voidB k x2 = true) :
    Calls Tryz.prog 42 #[val k n x s y, val k n2 x2 s2 y2] w fun e w' => e = .returned (.tuple #[.int .i64 0, .bool false]) ∧ Below w.heap.size w w' := by
  have B0 : Below w.heap.size w ((w.alloc (.cells (vals k n x s y) 24)).alloc (.cells (vals k n2 x2 s2 y2) 24)) := ((Below.refl _ _).alloc (Nat.le_refl _) _).alloc (by simp) _
  have HB0 := Lib.hid B0; clear B0
  have HV := Lib.hid hv; have HV2 := Lib.hid hv2; clear hv hv2
  go_enter Tryz.func42, Tryz.ntmps42
  go_wp2_with fail
  refine (void_c _ _ _ _ _ _).mono ?_
  rw [HV.out]
  rintro e w1 ⟨rfl, hb1⟩
  have hA1 : Below (w.heap.size + 2) ((w.alloc (.cells (vals k n x s y) 24)).alloc (.cells (vals k n2 x2 s2 y2) 24)) w1 := by simpa using hb1
  have z1 : w.heap.size + 2 ≤ w1.heap.size := by have := hb1.size; simpa using this
  obtain ⟨va, vb⟩ := two_cells _ _ _ _ _ _ _ _ _ _ hA1
  have a0 := va 0 _ rfl; have a1 := va 1 _ rfl; have a2 := va 2 _ rfl; have a3 := va 3 _ rfl; have a4 := va 4 _ rfl
  have b0 := vb 0 _ rfl; have b1 := vb 1 _ rfl; have b2 := vb 2 _ rfl; have b3 := vb 3 _ rfl; have b4 := vb 4 _ rfl
  clear va vb
  have HA1 := Lib.hid hA1; clear hb1 hA1
  go_wp2_with fail
  clear a0 a1 a2 a3 a4 b0 b1 b2 b3 b4
  refine (void_c _ _ _ _ _ _).mono ?_
  rw [HV2.out]
  rintro e w2 ⟨rfl, hb2⟩
  have hA2 := HA1.out.trans (hb2.mono z1)
  have z2 : w.heap.size + 2 ≤ w2.heap.size := by have := hb2.size; omega
  obtain ⟨va, vb⟩ := two_cells _ _ _ _ _ _ _ _ _ _ hA2
  have a0 := va 0 _ rfl; have a1 := va 1 _ rfl; have a2 := va 2 _ rfl; have a3 := va 3 _ rfl; have a4 := va 4 _ rfl
  have b0 := vb 0 _ rfl; have b1 := vb 1 _ rfl; have b2 := vb 2 _ rfl; have b3 := vb 3 _ rfl; have b4 := vb 4 _ rfl
  clear va vb
  have HA2 := Lib.hid hA2; clear hb2 hA2
  go_wp2_with fail
  go_ret2
  exact ⟨rfl, HB0.out.trans (HA2.out.mono (by omega))⟩
set_option maxHeartbeats 2000000 in
theorem compare0_c (k n n2 : Int) (x x2 : Nat) (s s2 : ByteArray) (y y2 : Bool) (w : World) (hv : voidB k x = false) (hv2 : voidB k x2 = false) (h0 : (k == 0) = true) :
    Calls Tryz.prog 42 #[val k n x s y, val k n2 x2 s2 y2] w fun e w' => e = .returned (.tuple #[.int .i64 (sgn n n2), .bool true]) ∧ Below w.heap.size w w' := by
  have B0 : Below w.heap.size w ((w.alloc (.cells (vals k n x s y) 24)).alloc (.cells (vals k n2 x2 s2 y2) 24)) := ((Below.refl _ _).alloc (Nat.le_refl _) _).alloc (by simp) _
  have HB0 := Lib.hid B0; clear B0
  have HV := Lib.hid hv; have HV2 := Lib.hid hv2; clear hv hv2
  go_enter Tryz.func42, Tryz.ntmps42
  go_wp2_with fail
  refine (void_c _ _ _ _ _ _).mono ?_
  rw [HV.out]
  rintro e w1 ⟨rfl, hb1⟩
  have hA1 : Below (w.heap.size + 2) ((w.alloc (.cells (vals k n x s y) 24)).alloc (.cells (vals k n2 x2 s2 y2) 24)) w1 := by simpa using hb1
  have z1 : w.heap.size + 2 ≤ w1.heap.size := by have := hb1.size; simpa using this
  obtain ⟨va, vb⟩ := two_cells _ _ _ _ _ _ _ _ _ _ hA1
  have a0 := va 0 _ rfl; have a1 := va 1 _ rfl; have a2 := va 2 _ rfl; have a3 := va 3 _ rfl; have a4 := va 4 _ rfl
  have b0 := vb 0 _ rfl; have b1 := vb 1 _ rfl; have b2 := vb 2 _ rfl; have b3 := vb 3 _ rfl; have b4 := vb 4 _ rfl
  clear va vb
  have HA1 := Lib.hid hA1; clear hb1 hA1
  go_wp2_with fail
  clear a0 a1 a2 a3 a4 b0 b1 b2 b3 b4
  refine (void_c _ _ _ _ _ _).mono ?_
  rw [HV2.out]
  rintro e w2 ⟨rfl, hb2⟩
  have hA2 := HA1.out.trans (hb2.mono z1)
  have z2 : w.heap.size + 2 ≤ w2.heap.size := by have := hb2.size; omega
  obtain ⟨va, vb⟩ := two_cells _ _ _ _ _ _ _ _ _ _ hA2
  have a0 := va 0 _ rfl; have a1 := va 1 _ rfl; have a2 := va 2 _ rfl; have a3 := va 3 _ rfl; have a4 := va 4 _ rfl
  have b0 := vb 0 _ rfl; have b1 := vb 1 _ rfl; have b2 := vb 2 _ rfl; have b3 := vb 3 _ rfl; have b4 := vb 4 _ rfl
  clear va vb
  have HA2 := Lib.hid hA2; clear hb2 hA2
  go_wp2_with fail
  refine (cmp_i64 _ _ _).mono ?_; rintro e w' ⟨rfl, rfl⟩
  go_wp2
  go_ret2
  exact ⟨rfl, HB0.out.trans (HA2.out.mono (by omega))⟩
set_option maxHeartbeats 2000000 in
theorem compare2_c (k n n2 : Int) (x x2 : Nat) (s s2 : ByteArray) (y y2 : Bool) (w : World) (hv : voidB k x = false) (hv2 : voidB k x2 = false) (h0 : (k == 0) = false) (h1 : (k == 1) = false) (h2 : (k == 2) = true) :
    Calls Tryz.prog 42 #[val k n x s y, val k n2 x2 s2 y2] w fun e w' => e = .returned (.tuple #[.int .i64 (sgs s s2), .bool true]) ∧ Below w.heap.size w w' := by
  have B0 : Below w.heap.size w ((w.alloc (.cells (vals k n x s y) 24)).alloc (.cells (vals k n2 x2 s2 y2) 24)) := ((Below.refl _ _).alloc (Nat.le_refl _) _).alloc (by simp) _
  have HB0 := Lib.hid B0; clear B0
  have HV := Lib.hid hv; have HV2 := Lib.hid hv2; clear hv hv2
  go_enter Tryz.func42, Tryz.ntmps42
  go_wp2_with fail
  refine (void_c _ _ _ _ _ _).mono ?_
  rw [HV.out]
  rintro e w1 ⟨rfl, hb1⟩
  have hA1 : Below (w.heap.size + 2) ((w.alloc (.cells (vals k n x s y) 24)).alloc (.cells (vals k n2 x2 s2 y2) 24)) w1 := by simpa using hb1
  have z1 : w.heap.size + 2 ≤ w1.heap.size := by have := hb1.size; simpa using this
  obtain ⟨va, vb⟩ := two_cells _ _ _ _ _ _ _ _ _ _ hA1
  have a0 := va 0 _ rfl; have a1 := va 1 _ rfl; have a2 := va 2 _ rfl; have a3 := va 3 _ rfl; have a4 := va 4 _ rfl
  have b0 := vb 0 _ rfl; have b1 := vb 1 _ rfl; have b2 := vb 2 _ rfl; have b3 := vb 3 _ rfl; have b4 := vb 4 _ rfl
  clear va vb
  have HA1 := Lib.hid hA1; clear hb1 hA1
  go_wp2_with fail
  clear a0 a1 a2 a3 a4 b0 b1 b2 b3 b4
  refine (void_c _ _ _ _ _ _).mono ?_
  rw [HV2.out]
  rintro e w2 ⟨rfl, hb2⟩
  have hA2 := HA1.out.trans (hb2.mono z1)
  have z2 : w.heap.size + 2 ≤ w2.heap.size := by have := hb2.size; omega
  obtain ⟨va, vb⟩ := two_cells _ _ _ _ _ _ _ _ _ _ hA2
  have a0 := va 0 _ rfl; have a1 := va 1 _ rfl; have a2 := va 2 _ rfl; have a3 := va 3 _ rfl; have a4 := va 4 _ rfl
  have b0 := vb 0 _ rfl; have b1 := vb 1 _ rfl; have b2 := vb 2 _ rfl; have b3 := vb 3 _ rfl; have b4 := vb 4 _ rfl
  clear va vb
  have HA2 := Lib.hid hA2; clear hb2 hA2
  go_wp2_with fail
  refine (cmp_str _ _ _).mono ?_; rintro e w' ⟨rfl, rfl⟩
  go_wp2
  go_ret2
  exact ⟨rfl, HB0.out.trans (HA2.out.mono (by omega))⟩
set_option maxHeartbeats 2000000 in
theorem compare1_c (k n n2 : Int) (x x2 : Nat) (s s2 : ByteArray) (y y2 : Bool) (w : World) (hv : voidB k x = false) (hv2 : voidB k x2 = false) (h0 : (k == 0) = false) (h1 : (k == 1) = true) (hx : x < 18446744073709551616) (hx2 : x2 < 18446744073709551616) :
    Calls Tryz.prog 42 #[val k n x s y, val k n2 x2 s2 y2] w fun e w' => e = .returned (.tuple #[.int .i64 (sgn (fkey x) (fkey x2)), .bool true]) ∧ Below w.heap.size w w' := by
  have B0 : Below w.heap.size w ((w.alloc (.cells (vals k n x s y) 24)).alloc (.cells (vals k n2 x2 s2 y2) 24)) := ((Below.refl _ _).alloc (Nat.le_refl _) _).alloc (by simp) _
  have HB0 := Lib.hid B0; clear B0
  have HX := Lib.hid hx; have HX2 := Lib.hid hx2; clear hx hx2
  have HV := Lib.hid hv; have HV2 := Lib.hid hv2; clear hv hv2
  go_enter Tryz.func42, Tryz.ntmps42
  go_wp2_with fail
  refine (void_c _ _ _ _ _ _).mono ?_
  rw [HV.out]
  rintro e w1 ⟨rfl, hb1⟩
  have hA1 : Below (w.heap.size + 2) ((w.alloc (.cells (vals k n x s y) 24)).alloc (.cells (vals k n2 x2 s2 y2) 24)) w1 := by simpa using hb1
  have z1 : w.heap.size + 2 ≤ w1.heap.size := by have := hb1.size; simpa using this
  obtain ⟨va, vb⟩ := two_cells _ _ _ _ _ _ _ _ _ _ hA1
  have a0 := va 0 _ rfl; have a1 := va 1 _ rfl; have a2 := va 2 _ rfl; have a3 := va 3 _ rfl; have a4 := va 4 _ rfl
  have b0 := vb 0 _ rfl; have b1 := vb 1 _ rfl; have b2 := vb 2 _ rfl; have b3 := vb 3 _ rfl; have b4 := vb 4 _ rfl
  clear va vb
  have HA1 := Lib.hid hA1; clear hb1 hA1
  go_wp2_with fail
  clear a0 a1 a2 a3 a4 b0 b1 b2 b3 b4
  refine (void_c _ _ _ _ _ _).mono ?_
  rw [HV2.out]
  rintro e w2 ⟨rfl, hb2⟩
  have hA2 := HA1.out.trans (hb2.mono z1)
  have z2 : w.heap.size + 2 ≤ w2.heap.size := by have := hb2.size; omega
  obtain ⟨va, vb⟩ := two_cells _ _ _ _ _ _ _ _ _ _ hA2
  have a0 := va 0 _ rfl; have a1 := va 1 _ rfl; have a2 := va 2 _ rfl; have a3 := va 3 _ rfl; have a4 := va 4 _ rfl
  have b0 := vb 0 _ rfl; have b1 := vb 1 _ rfl; have b2 := vb 2 _ rfl; have b3 := vb 3 _ rfl; have b4 := vb 4 _ rfl
  clear va vb
  have HA2 := Lib.hid hA2; clear hb2 hA2
  go_wp2_with fail
  go_quiet ((first | (go_at_call 70; exact Calls.quiet_of_same ((key_c _ (by first | exact HX.out | exact HX2.out) _).mono fun _ _ ⟨a, b⟩ => ⟨a, b.symm⟩)) | (go_at_call 69; exact Calls.quiet_of_same ((cmp_u64 _ _ _).mono fun _ _ ⟨a, b⟩ => ⟨a, b.symm⟩))))
  go_wp2
  go_ret2
  exact ⟨rfl, (HB0.out.trans (HA2.out.mono (by omega))).trans ⟨rfl, rfl, rfl, Nat.le_refl _, fun _ _ => rfl⟩⟩
set_option maxHeartbeats 2000000 in
theorem compare3_c (k n n2 : Int) (x x2 : Nat) (s s2 : ByteArray) (y y2 : Bool) (w : World) (hv : voidB k x = false) (hv2 : voidB k x2 = false) (h0 : (k == 0) = false) (h1 : (k == 1) = false) (h2 : (k == 2) = false) :
    Calls Tryz.prog 42 #[val k n x s y, val k n2 x2 s2 y2] w fun e w' => e = .returned (.tuple #[.int .i64 (sgn (b01 y) (b01 y2)), .bool true]) ∧ Below w.heap.size w w' := by
  have B0 : Below w.heap.size w ((w.alloc (.cells (vals k n x s y) 24)).alloc (.cells (vals k n2 x2 s2 y2) 24)) := ((Below.refl _ _).alloc (Nat.le_refl _) _).alloc (by simp) _
  have HB0 := Lib.hid B0; clear B0
  have HV := Lib.hid hv; have HV2 := Lib.hid hv2; clear hv hv2
  go_enter Tryz.func42, Tryz.ntmps42
  go_wp2_with fail
  refine (void_c _ _ _ _ _ _).mono ?_
  rw [HV.out]
  rintro e w1 ⟨rfl, hb1⟩
  have hA1 : Below (w.heap.size + 2) ((w.alloc (.cells (vals k n x s y) 24)).alloc (.cells (vals k n2 x2 s2 y2) 24)) w1 := by simpa using hb1
  have z1 : w.heap.size + 2 ≤ w1.heap.size := by have := hb1.size; simpa using this
  obtain ⟨va, vb⟩ := two_cells _ _ _ _ _ _ _ _ _ _ hA1
  have a0 := va 0 _ rfl; have a1 := va 1 _ rfl; have a2 := va 2 _ rfl; have a3 := va 3 _ rfl; have a4 := va 4 _ rfl
  have b0 := vb 0 _ rfl; have b1 := vb 1 _ rfl; have b2 := vb 2 _ rfl; have b3 := vb 3 _ rfl; have b4 := vb 4 _ rfl
  clear va vb
  have HA1 := Lib.hid hA1; clear hb1 hA1
  go_wp2_with fail
  clear a0 a1 a2 a3 a4 b0 b1 b2 b3 b4
  refine (void_c _ _ _ _ _ _).mono ?_
  rw [HV2.out]
  rintro e w2 ⟨rfl, hb2⟩
  have hA2 := HA1.out.trans (hb2.mono z1)
  have z2 : w.heap.size + 2 ≤ w2.heap.size := by have := hb2.size; omega
  obtain ⟨va, vb⟩ := two_cells _ _ _ _ _ _ _ _ _ _ hA2
  have a0 := va 0 _ rfl; have a1 := va 1 _ rfl; have a2 := va 2 _ rfl; have a3 := va 3 _ rfl; have a4 := va 4 _ rfl
  have b0 := vb 0 _ rfl; have b1 := vb 1 _ rfl; have b2 := vb 2 _ rfl; have b3 := vb 3 _ rfl; have b4 := vb 4 _ rfl
  clear va vb
  have HA2 := Lib.hid hA2; clear hb2 hA2
  go_wp2_with fail
  go_quiet ((first | (go_at_call 73; exact Calls.quiet_of_same ((place_c _ _).mono fun _ _ ⟨a, b⟩ => ⟨a, b.symm⟩)) | (go_at_call 72; exact Calls.quiet_of_same ((cmp_int _ _ _).mono fun _ _ ⟨a, b⟩ => ⟨a, b.symm⟩))))
  go_wp2
  go_ret2
  exact ⟨rfl, (HB0.out.trans (HA2.out.mono (by omega))).trans ⟨rfl, rfl, rfl, Nat.le_refl _, fun _ _ => rfl⟩⟩
theorem compare_c (k n n2 : Int) (x x2 : Nat) (s s2 : ByteArray) (y y2 : Bool) (w : World) (hx : x < 18446744073709551616) (hx2 : x2 < 18446744073709551616) (hv : voidB k x = false) (hv2 : voidB k x2 = false) :
    Calls Tryz.prog 42 #[val k n x s y, val k n2 x2 s2 y2] w fun e w' => e = .returned (.tuple #[.int .i64 (cmpV k n n2 x x2 s s2 y y2), .bool true]) ∧ Below w.heap.size w w' := by
  unfold cmpV
  cases h0 : (k == 0)
  · cases h1 : (k == 1)
    · cases h2 : (k == 2)
      · exact compare3_c k n n2 x x2 s s2 y y2 w hv hv2 h0 h1 h2
      · exact compare2_c k n n2 x x2 s s2 y y2 w hv hv2 h0 h1 h2
    · exact compare1_c k n n2 x x2 s s2 y y2 w hv hv2 h0 h1 hx hx2
  · exact compare0_c k n n2 x x2 s s2 y y2 w hv hv2 h0
/-- What Compare answers of any two values. -/
def cmpOk (k : Int) (x : Nat) (k2 : Int) (x2 : Nat) : Bool := k == k2 && (!voidB k x && !voidB k2 x2)
def cmpR (k n : Int) (x : Nat) (s : ByteArray) (y : Bool) (k2 n2 : Int) (x2 : Nat) (s2 : ByteArray) (y2 : Bool) : Int := if cmpOk k x k2 x2 then cmpV k n n2 x x2 s s2 y y2 else 0
theorem compare_any (k n k2 n2 : Int) (x x2 : Nat) (s s2 : ByteArray) (y y2 : Bool) (w : World) (hx : x < 18446744073709551616) (hx2 : x2 < 18446744073709551616) :
    Calls Tryz.prog 42 #[val k n x s y, val k2 n2 x2 s2 y2] w fun e w' => e = .returned (.tuple #[.int .i64 (cmpR k n x s y k2 n2 x2 s2 y2), .bool (cmpOk k x k2 x2)]) ∧ Below w.heap.size w w' := by
  by_cases hk : k = k2
  · subst hk
    cases h1 : voidB k x
    · cases h2 : voidB k x2
      · have e1 : cmpOk k x k x2 = true := by simp [cmpOk, h1, h2]
        unfold cmpR; rw [e1, if_pos rfl]
        exact compare_c k n n2 x x2 s s2 y y2 w hx hx2 h1 h2
      · have e1 : cmpOk k x k x2 = false := by simp [cmpOk, h1, h2]
        unfold cmpR; rw [e1, if_neg Bool.false_ne_true]
        exact compareVoid2_c k n n2 x x2 s s2 y y2 w h1 h2
    · have e1 : cmpOk k x k x2 = false := by simp [cmpOk, h1]
      unfold cmpR; rw [e1, if_neg Bool.false_ne_true]
      exact compareVoid1_c k n n2 x x2 s s2 y y2 w h1
  · have e1 : cmpOk k x k2 x2 = false := by simp [cmpOk, hk]
    unfold cmpR; rw [e1, if_neg Bool.false_ne_true]
    exact compareNe_c k n k2 n2 x x2 s s2 y y2 w (by simp [hk])

theorem sgn_trans {a b c : Int} (h1 : sgn a b ≤ 0) (h2 : sgn b c ≤ 0) : sgn a c ≤ 0 ∧ (sgn a c < 0 ↔ sgn a b < 0 ∨ sgn b c < 0) := by
  unfold sgn at *
  split at h1 <;> split at h2 <;> (repeat' split) <;> (repeat' split at h1) <;> (repeat' split at h2) <;> omega
theorem sgs_eq (s t : ByteArray) : sgs s t = if s.toList < t.toList then -1 else if s.toList = t.toList then 0 else 1 := by
  unfold sgs
  rw [bytesLess_eq]
  simp only [decide_eq_true_eq, beq_iff_eq]
theorem sgs_trans {a b c : ByteArray} (h1 : sgs a b ≤ 0) (h2 : sgs b c ≤ 0) : sgs a c ≤ 0 ∧ (sgs a c < 0 ↔ sgs a b < 0 ∨ sgs b c < 0) := by
  simp only [sgs_eq] at *
  generalize a.toList = l at *
  generalize b.toList = m at *
  generalize c.toList = r at *
  have irr : ∀ u : List UInt8, ¬ u < u := fun u => List.lt_irrefl u
  by_cases h3 : l < m
  · by_cases h4 : m < r
    · have h5 : l < r := List.lt_trans h3 h4
      simp [h3, h4, h5]
    · by_cases h6 : m = r
      · subst h6; simp [h3, h4]
      · simp [h4, h6] at h2
  · by_cases h6 : l = m
    · subst h6
      by_cases h4 : l < r
      · simp [h3, h4]
      · by_cases h7 : l = r
        · subst h7; simp [h3]
        · simp [h4, h7] at h2
    · simp [h3, h6] at h1
theorem cmpV_trans {k n n2 n3 : Int} {x x2 x3 : Nat} {s s2 s3 : ByteArray} {y y2 y3 : Bool} (h1 : cmpV k n n2 x x2 s s2 y y2 ≤ 0) (h2 : cmpV k n2 n3 x2 x3 s2 s3 y2 y3 ≤ 0) :
    cmpV k n n3 x x3 s s3 y y3 ≤ 0 ∧ (cmpV k n n3 x x3 s s3 y y3 < 0 ↔ cmpV k n n2 x x2 s s2 y y2 < 0 ∨ cmpV k n2 n3 x2 x3 s2 s3 y2 y3 < 0) := by
  unfold cmpV at *
  cases h0 : (k == 0)
  · cases h3 : (k == 1)
    · cases h4 : (k == 2)
      · simp only [h0, h3, h4, Bool.false_eq_true, if_false] at *; exact sgn_trans h1 h2
      · simp only [h0, h3, h4, Bool.false_eq_true, if_false, if_true] at *; exact sgs_trans h1 h2
    · simp only [h0, h3, Bool.false_eq_true, if_false, if_true] at *; exact sgn_trans h1 h2
  · simp only [h0, if_true] at *; exact sgn_trans h1 h2

theorem sgn_tri (a b : Int) : (sgn a b = -1 ∧ sgn b a = 1 ∧ decide (a < b) = true ∧ (a == b) = false) ∨ (sgn a b = 0 ∧ sgn b a = 0 ∧ decide (a < b) = false ∧ (a == b) = true) ∨ (sgn a b = 1 ∧ sgn b a = -1 ∧ decide (a < b) = false ∧ (a == b) = false) := by
  unfold sgn
  rcases (by omega : a < b ∨ a = b ∨ b < a) with h | h | h
  · exact .inl ⟨if_pos h, by rw [if_neg (by omega), if_pos h], decide_eq_true h, beq_eq_false_iff_ne.2 (by omega)⟩
  · subst h; exact .inr (.inl ⟨by rw [if_neg (by omega), if_neg (by omega)], by rw [if_neg (by omega), if_neg (by omega)], decide_eq_false (by omega), beq_self_eq_true a⟩)
  · exact .inr (.inr ⟨by rw [if_neg (by omega), if_pos h], if_pos h, decide_eq_false (by omega), beq_eq_false_iff_ne.2 (by omega)⟩)
theorem sgs_tri (a b : ByteArray) : (sgs a b = -1 ∧ sgs b a = 1 ∧ Op.bytesLess a.toList b.toList = true ∧ (a.toList == b.toList) = false) ∨ (sgs a b = 0 ∧ sgs b a = 0 ∧ Op.bytesLess a.toList b.toList = false ∧ (a.toList == b.toList) = true) ∨ (sgs a b = 1 ∧ sgs b a = -1 ∧ Op.bytesLess a.toList b.toList = false ∧ (a.toList == b.toList) = false) := by
  rw [sgs_eq, sgs_eq, bytesLess_eq]
  generalize a.toList = l
  generalize b.toList = m
  have irr : ∀ u : List UInt8, ¬ u < u := fun u => List.lt_irrefl u
  by_cases h : l < m
  · have h2 : ¬ m < l := fun h3 => irr _ (List.lt_trans h h3)
    have h3 : l ≠ m := fun e => by subst e; exact irr _ h
    exact .inl ⟨if_pos h, by rw [if_neg h2, if_neg (Ne.symm h3)], decide_eq_true h, beq_eq_false_iff_ne.2 h3⟩
  · by_cases e : l = m
    · subst e; exact .inr (.inl ⟨by rw [if_neg h, if_pos rfl], by rw [if_neg h, if_pos rfl], decide_eq_false h, beq_self_eq_true l⟩)
    · have h2 : m < l := by
        rcases List.le_total l m with h3 | h3
        · exact absurd (List.le_antisymm h3 (List.not_lt.1 h)) e
        · exact Decidable.byContradiction fun h4 => e (List.le_antisymm (List.not_lt.1 h4) h3)
      exact .inr (.inr ⟨by rw [if_neg h, if_neg e], if_pos h2, decide_eq_false h, beq_eq_false_iff_ne.2 e⟩)
theorem fl_tri (x x2 : Nat) (h1 : fnan x = false) (h2 : fnan x2 = false) : (sgn (fkey x) (fkey x2) = -1 ∧ sgn (fkey x2) (fkey x) = 1 ∧ (FloatKind.f64.format.order x x2 == some .lt) = true ∧ (FloatKind.f64.format.order x x2 == some .eq) = false ∧ (fkey x == fkey x2) = false) ∨
    (sgn (fkey x) (fkey x2) = 0 ∧ sgn (fkey x2) (fkey x) = 0 ∧ (FloatKind.f64.format.order x x2 == some .lt) = false ∧ (FloatKind.f64.format.order x x2 == some .eq) = true ∧ (fkey x == fkey x2) = true) ∨
    (sgn (fkey x) (fkey x2) = 1 ∧ sgn (fkey x2) (fkey x) = -1 ∧ (FloatKind.f64.format.order x x2 == some .lt) = false ∧ (FloatKind.f64.format.order x x2 == some .eq) = false ∧ (fkey x == fkey x2) = false) := by
  have k1 := @fkey_lt x x2 h1 h2
  have k2 := @fkey_lt x2 x h2 h1
  have k3 := @fkey_eq x x2 h1 h2
  unfold sgn
  rcases (by omega : fpos x < fpos x2 ∨ fpos x = fpos x2 ∨ fpos x2 < fpos x) with h | h | h
  · have o := ford_of_lt h1 h2 _ (ford_lt h)
    rw [o]
    exact .inl ⟨if_pos (k1.2 h), by rw [if_neg (by omega), if_pos (k1.2 h)], rfl, rfl, beq_eq_false_iff_ne.2 (by omega)⟩
  · have o := ford_of_lt h1 h2 _ (ford_eq h)
    rw [o]
    exact .inr (.inl ⟨by rw [if_neg (by omega), if_neg (by omega)], by rw [if_neg (by omega), if_neg (by omega)], rfl, rfl, beq_iff_eq.2 (k3.2 h)⟩)
  · have o := ford_of_lt h1 h2 _ (ford_gt h)
    rw [o]
    exact .inr (.inr ⟨by rw [if_neg (by omega), if_pos (k2.2 h)], if_pos (k2.2 h), rfl, rfl, beq_eq_false_iff_ne.2 (by omega)⟩)

end Go.Proofs.YtjeippdfgojdnaaGreatDoor
