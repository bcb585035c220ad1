/- cond.Implies of any two conditions. (Written by gen_condi.py.) -/
import Derived.Test.YtliobglhppejiaaDoorGaC
namespace Go.Proofs.YtliobglhppejiaaDoor
open Go.RowKit Go.Shelf
open Go.Proofs
set_option maxRecDepth 100000

theorem cmpV_three (k n n2 : Int) (x x2 : Nat) (s s2 : ByteArray) (y y2 : Bool) : cmpV k n n2 x x2 s s2 y y2 = -1 ∨ cmpV k n n2 x x2 s s2 y y2 = 0 ∨ cmpV k n n2 x x2 s s2 y y2 = 1 := by
  have h : ∀ a b, sgn a b = -1 ∨ sgn a b = 0 ∨ sgn a b = 1 := fun a b => by unfold sgn; repeat' split
                                                                            all_goals simp
  have h2 : ∀ a b, sgs a b = -1 ∨ sgs a b = 0 ∨ sgs a b = 1 := fun a b => by unfold sgs; repeat' split
                                                                             all_goals simp
  unfold cmpV
  repeat' split
  all_goals first | exact h _ _ | exact h2 _ _
theorem cmpR_three (k n : Int) (x : Nat) (s : ByteArray) (y : Bool) (k2 n2 : Int) (x2 : Nat) (s2 : ByteArray) (y2 : Bool) : cmpR k n x s y k2 n2 x2 s2 y2 = -1 ∨ cmpR k n x s y k2 n2 x2 s2 y2 = 0 ∨ cmpR k n x s y k2 n2 x2 s2 y2 = 1 := by
  unfold cmpR
  split
  · exact cmpV_three _ _ _ _ _ _ _ _ _
  · simp

set_option maxHeartbeats 1000000 in
theorem prefixI_c (t : ByteArray) (nm : ByteArray) (op k n : Int) (x : Nat) (s : ByteArray) (y : Bool) (w : World) :
    Calls Tryd.prog 96 #[.string t, cnd nm op k n x s y] w fun e w' => e = .returned (.bool (prefixI t ⟨⟨nm, k, n, x, s, y⟩, op⟩)) ∧ Below w.heap.size w w' := by
  have hp := fun W => Tryd.strings_HasPrefix t s W
  have hp2 := fun W => Tryd.strings_HasPrefix s t W
  unfold prefixI preB
  simp only []
  generalize Lib.hasPrefix s.data.toList t.data.toList = q at *
  generalize Lib.hasPrefix t.data.toList s.data.toList = p at *
  have HP := Lib.hid hp; have HQ := Lib.hid hp2; clear hp hp2
  cases h6 : (op == 6)
  · cases h1 : (op == 1)
    · go_enter Tryd.func96, Tryd.ntmps96
      go_wp2
      go_ret
      exact ⟨rfl, (Below.refl _ _).alloc (Nat.le_refl _) _⟩
    · go_enter Tryd.func96, Tryd.ntmps96
      go_wp2_with fail
      refine (HQ.out _).mono ?_
      rintro e w1 ⟨rfl, rfl⟩
      go_wp2_with fail
      go_ret
      exact ⟨rfl, (Below.refl _ _).alloc (Nat.le_refl _) _⟩
  · go_enter Tryd.func96, Tryd.ntmps96
    go_wp2_with fail
    refine (HP.out _).mono ?_
    rintro e w1 ⟨rfl, rfl⟩
    go_wp2_with fail
    go_ret
    exact ⟨rfl, (Below.refl _ _).alloc (Nat.le_refl _) _⟩

set_option maxHeartbeats 4000000 in
theorem bound_lt (nm : ByteArray) (op k n : Int) (x : Nat) (s : ByteArray) (y : Bool) (nm2 : ByteArray) (op2 k2 n2 : Int) (x2 : Nat) (s2 : ByteArray) (y2 : Bool) (hx : x < 18446744073709551616) (hx2 : x2 < 18446744073709551616) (w : World) :
    Calls Tryd.prog 97 #[cnd nm op k n x s y, cnd nm2 op2 k2 n2 x2 s2 y2, .int .i64 2, .int .i64 3] w fun e w' => e = .returned (.bool (boundI op op2 (cmpR k n x s y k2 n2 x2 s2 y2) 2 3)) ∧ Below w.heap.size w w' := by
  have B0 : Below w.heap.size w ((w.alloc (.cells (cnds nm op k n x s y) 55)).alloc (.cells (cnds nm2 op2 k2 n2 x2 s2 y2) 55)) := ((Below.refl _ _).alloc (Nat.le_refl _) _).alloc (by simp) _
  have HB0 := Lib.hid B0; clear B0
  have hc := fun W => compare_any k n k2 n2 x x2 s s2 y y2 W hx hx2
  have hr := cmpR_three k n x s y k2 n2 x2 s2 y2
  unfold boundI
  generalize cmpR k n x s y k2 n2 x2 s2 y2 = r at *
  generalize cmpOk k x k2 x2 = b at *
  have HC := Lib.hid hc; clear hc hx hx2
  rcases hr with rfl | rfl | rfl
  all_goals
    cases hs : (op2 == 2)
    · cases h1 : (op2 == 1)
      · cases hl : (op2 == 3)
        · skip
          go_enter Tryd.func97, Tryd.ntmps97
          go_wp2_with fail
          refine (HC.out _).mono ?_
          rintro e w1 ⟨rfl, hb⟩
          have hA1 : Below (w.heap.size + 2) ((w.alloc (.cells (cnds nm op k n x s y) 55)).alloc (.cells (cnds nm2 op2 k2 n2 x2 s2 y2) 55)) w1 := by simpa using hb
          have z1 : w.heap.size + 2 ≤ w1.heap.size := by have := hA1.size; simpa using this
          obtain ⟨va, vb⟩ := two_lay hA1
          have a0 := va 0 _ rfl; have a1 := va 1 _ rfl; have a2 := va 2 _ rfl; have a3 := va 3 _ rfl; have a4 := va 4 _ rfl; have a5 := va 5 _ rfl; have a6 := va 6 _ rfl
          have b0 := vb 0 _ rfl; have b1 := vb 1 _ rfl; have b2 := vb 2 _ rfl; have b3 := vb 3 _ rfl; have b4 := vb 4 _ rfl; have b5 := vb 5 _ rfl; have b6 := vb 6 _ rfl
          clear va vb
          have HA1 := Lib.hid hA1; clear hb hA1
          go_wp2_with fail
          go_ret
          exact ⟨rfl, HB0.out.trans (HA1.out.mono (by omega))⟩
        · skip
          go_enter Tryd.func97, Tryd.ntmps97
          go_wp2_with fail
          refine (HC.out _).mono ?_
          rintro e w1 ⟨rfl, hb⟩
          have hA1 : Below (w.heap.size + 2) ((w.alloc (.cells (cnds nm op k n x s y) 55)).alloc (.cells (cnds nm2 op2 k2 n2 x2 s2 y2) 55)) w1 := by simpa using hb
          have z1 : w.heap.size + 2 ≤ w1.heap.size := by have := hA1.size; simpa using this
          obtain ⟨va, vb⟩ := two_lay hA1
          have a0 := va 0 _ rfl; have a1 := va 1 _ rfl; have a2 := va 2 _ rfl; have a3 := va 3 _ rfl; have a4 := va 4 _ rfl; have a5 := va 5 _ rfl; have a6 := va 6 _ rfl
          have b0 := vb 0 _ rfl; have b1 := vb 1 _ rfl; have b2 := vb 2 _ rfl; have b3 := vb 3 _ rfl; have b4 := vb 4 _ rfl; have b5 := vb 5 _ rfl; have b6 := vb 6 _ rfl
          clear va vb
          have HA1 := Lib.hid hA1; clear hb hA1
          go_wp2_with fail
          go_ret
          exact ⟨rfl, HB0.out.trans (HA1.out.mono (by omega))⟩
      · cases ha : (op == 2)
        · skip
          go_enter Tryd.func97, Tryd.ntmps97
          go_wp2_with fail
          refine (HC.out _).mono ?_
          rintro e w1 ⟨rfl, hb⟩
          have hA1 : Below (w.heap.size + 2) ((w.alloc (.cells (cnds nm op k n x s y) 55)).alloc (.cells (cnds nm2 op2 k2 n2 x2 s2 y2) 55)) w1 := by simpa using hb
          have z1 : w.heap.size + 2 ≤ w1.heap.size := by have := hA1.size; simpa using this
          obtain ⟨va, vb⟩ := two_lay hA1
          have a0 := va 0 _ rfl; have a1 := va 1 _ rfl; have a2 := va 2 _ rfl; have a3 := va 3 _ rfl; have a4 := va 4 _ rfl; have a5 := va 5 _ rfl; have a6 := va 6 _ rfl
          have b0 := vb 0 _ rfl; have b1 := vb 1 _ rfl; have b2 := vb 2 _ rfl; have b3 := vb 3 _ rfl; have b4 := vb 4 _ rfl; have b5 := vb 5 _ rfl; have b6 := vb 6 _ rfl
          clear va vb
          have HA1 := Lib.hid hA1; clear hb hA1
          go_wp2_with fail
          go_ret
          exact ⟨rfl, HB0.out.trans (HA1.out.mono (by omega))⟩
        · skip
          go_enter Tryd.func97, Tryd.ntmps97
          go_wp2_with fail
          refine (HC.out _).mono ?_
          rintro e w1 ⟨rfl, hb⟩
          have hA1 : Below (w.heap.size + 2) ((w.alloc (.cells (cnds nm op k n x s y) 55)).alloc (.cells (cnds nm2 op2 k2 n2 x2 s2 y2) 55)) w1 := by simpa using hb
          have z1 : w.heap.size + 2 ≤ w1.heap.size := by have := hA1.size; simpa using this
          obtain ⟨va, vb⟩ := two_lay hA1
          have a0 := va 0 _ rfl; have a1 := va 1 _ rfl; have a2 := va 2 _ rfl; have a3 := va 3 _ rfl; have a4 := va 4 _ rfl; have a5 := va 5 _ rfl; have a6 := va 6 _ rfl
          have b0 := vb 0 _ rfl; have b1 := vb 1 _ rfl; have b2 := vb 2 _ rfl; have b3 := vb 3 _ rfl; have b4 := vb 4 _ rfl; have b5 := vb 5 _ rfl; have b6 := vb 6 _ rfl
          clear va vb
          have HA1 := Lib.hid hA1; clear hb hA1
          go_wp2_with fail
          go_ret
          exact ⟨rfl, HB0.out.trans (HA1.out.mono (by omega))⟩
    · cases ha : (op == 2)
      · skip
        go_enter Tryd.func97, Tryd.ntmps97
        go_wp2_with fail
        refine (HC.out _).mono ?_
        rintro e w1 ⟨rfl, hb⟩
        have hA1 : Below (w.heap.size + 2) ((w.alloc (.cells (cnds nm op k n x s y) 55)).alloc (.cells (cnds nm2 op2 k2 n2 x2 s2 y2) 55)) w1 := by simpa using hb
        have z1 : w.heap.size + 2 ≤ w1.heap.size := by have := hA1.size; simpa using this
        obtain ⟨va, vb⟩ := two_lay hA1
        have a0 := va 0 _ rfl; have a1 := va 1 _ rfl; have a2 := va 2 _ rfl; have a3 := va 3 _ rfl; have a4 := va 4 _ rfl; have a5 := va 5 _ rfl; have a6 := va 6 _ rfl
        have b0 := vb 0 _ rfl; have b1 := vb 1 _ rfl; have b2 := vb 2 _ rfl; have b3 := vb 3 _ rfl; have b4 := vb 4 _ rfl; have b5 := vb 5 _ rfl; have b6 := vb 6 _ rfl
        clear va vb
        have HA1 := Lib.hid hA1; clear hb hA1
        go_wp2_with fail
        go_ret
        exact ⟨rfl, HB0.out.trans (HA1.out.mono (by omega))⟩
      · skip
        go_enter Tryd.func97, Tryd.ntmps97
        go_wp2_with fail
        refine (HC.out _).mono ?_
        rintro e w1 ⟨rfl, hb⟩
        have hA1 : Below (w.heap.size + 2) ((w.alloc (.cells (cnds nm op k n x s y) 55)).alloc (.cells (cnds nm2 op2 k2 n2 x2 s2 y2) 55)) w1 := by simpa using hb
        have z1 : w.heap.size + 2 ≤ w1.heap.size := by have := hA1.size; simpa using this
        obtain ⟨va, vb⟩ := two_lay hA1
        have a0 := va 0 _ rfl; have a1 := va 1 _ rfl; have a2 := va 2 _ rfl; have a3 := va 3 _ rfl; have a4 := va 4 _ rfl; have a5 := va 5 _ rfl; have a6 := va 6 _ rfl
        have b0 := vb 0 _ rfl; have b1 := vb 1 _ rfl; have b2 := vb 2 _ rfl; have b3 := vb 3 _ rfl; have b4 := vb 4 _ rfl; have b5 := vb 5 _ rfl; have b6 := vb 6 _ rfl
        clear va vb
        have HA1 := Lib.hid hA1; clear hb hA1
        go_wp2_with fail
        go_ret
        exact ⟨rfl, HB0.out.trans (HA1.out.mono (by omega))⟩
set_option maxHeartbeats 4000000 in
theorem bound_gt (nm : ByteArray) (op k n : Int) (x : Nat) (s : ByteArray) (y : Bool) (nm2 : ByteArray) (op2 k2 n2 : Int) (x2 : Nat) (s2 : ByteArray) (y2 : Bool) (hx : x < 18446744073709551616) (hx2 : x2 < 18446744073709551616) (w : World) :
    Calls Tryd.prog 97 #[cnd nm op k n x s y, cnd nm2 op2 k2 n2 x2 s2 y2, .int .i64 4, .int .i64 5] w fun e w' => e = .returned (.bool (boundI op op2 (-cmpR k n x s y k2 n2 x2 s2 y2) 4 5)) ∧ Below w.heap.size w w' := by
  have B0 : Below w.heap.size w ((w.alloc (.cells (cnds nm op k n x s y) 55)).alloc (.cells (cnds nm2 op2 k2 n2 x2 s2 y2) 55)) := ((Below.refl _ _).alloc (Nat.le_refl _) _).alloc (by simp) _
  have HB0 := Lib.hid B0; clear B0
  have hc := fun W => compare_any k n k2 n2 x x2 s s2 y y2 W hx hx2
  have hr := cmpR_three k n x s y k2 n2 x2 s2 y2
  unfold boundI
  generalize cmpR k n x s y k2 n2 x2 s2 y2 = r at *
  generalize cmpOk k x k2 x2 = b at *
  have HC := Lib.hid hc; clear hc hx hx2
  rcases hr with rfl | rfl | rfl
  all_goals
    cases hs : (op2 == 4)
    · cases h1 : (op2 == 1)
      · cases hl : (op2 == 5)
        · skip
          go_enter Tryd.func97, Tryd.ntmps97
          go_wp2_with fail
          refine (HC.out _).mono ?_
          rintro e w1 ⟨rfl, hb⟩
          have hA1 : Below (w.heap.size + 2) ((w.alloc (.cells (cnds nm op k n x s y) 55)).alloc (.cells (cnds nm2 op2 k2 n2 x2 s2 y2) 55)) w1 := by simpa using hb
          have z1 : w.heap.size + 2 ≤ w1.heap.size := by have := hA1.size; simpa using this
          obtain ⟨va, vb⟩ := two_lay hA1
          have a0 := va 0 _ rfl; have a1 := va 1 _ rfl; have a2 := va 2 _ rfl; have a3 := va 3 _ rfl; have a4 := va 4 _ rfl; have a5 := va 5 _ rfl; have a6 := va 6 _ rfl
          have b0 := vb 0 _ rfl; have b1 := vb 1 _ rfl; have b2 := vb 2 _ rfl; have b3 := vb 3 _ rfl; have b4 := vb 4 _ rfl; have b5 := vb 5 _ rfl; have b6 := vb 6 _ rfl
          clear va vb
          have HA1 := Lib.hid hA1; clear hb hA1
          go_wp2_with fail
          go_ret
          exact ⟨rfl, HB0.out.trans (HA1.out.mono (by omega))⟩
        · skip
          go_enter Tryd.func97, Tryd.ntmps97
          go_wp2_with fail
          refine (HC.out _).mono ?_
          rintro e w1 ⟨rfl, hb⟩
          have hA1 : Below (w.heap.size + 2) ((w.alloc (.cells (cnds nm op k n x s y) 55)).alloc (.cells (cnds nm2 op2 k2 n2 x2 s2 y2) 55)) w1 := by simpa using hb
          have z1 : w.heap.size + 2 ≤ w1.heap.size := by have := hA1.size; simpa using this
          obtain ⟨va, vb⟩ := two_lay hA1
          have a0 := va 0 _ rfl; have a1 := va 1 _ rfl; have a2 := va 2 _ rfl; have a3 := va 3 _ rfl; have a4 := va 4 _ rfl; have a5 := va 5 _ rfl; have a6 := va 6 _ rfl
          have b0 := vb 0 _ rfl; have b1 := vb 1 _ rfl; have b2 := vb 2 _ rfl; have b3 := vb 3 _ rfl; have b4 := vb 4 _ rfl; have b5 := vb 5 _ rfl; have b6 := vb 6 _ rfl
          clear va vb
          have HA1 := Lib.hid hA1; clear hb hA1
          go_wp2_with fail
          go_ret
          exact ⟨rfl, HB0.out.trans (HA1.out.mono (by omega))⟩
      · cases ha : (op == 4)
        · skip
          go_enter Tryd.func97, Tryd.ntmps97
          go_wp2_with fail
          refine (HC.out _).mono ?_
          rintro e w1 ⟨rfl, hb⟩
          have hA1 : Below (w.heap.size + 2) ((w.alloc (.cells (cnds nm op k n x s y) 55)).alloc (.cells (cnds nm2 op2 k2 n2 x2 s2 y2) 55)) w1 := by simpa using hb
          have z1 : w.heap.size + 2 ≤ w1.heap.size := by have := hA1.size; simpa using this
          obtain ⟨va, vb⟩ := two_lay hA1
          have a0 := va 0 _ rfl; have a1 := va 1 _ rfl; have a2 := va 2 _ rfl; have a3 := va 3 _ rfl; have a4 := va 4 _ rfl; have a5 := va 5 _ rfl; have a6 := va 6 _ rfl
          have b0 := vb 0 _ rfl; have b1 := vb 1 _ rfl; have b2 := vb 2 _ rfl; have b3 := vb 3 _ rfl; have b4 := vb 4 _ rfl; have b5 := vb 5 _ rfl; have b6 := vb 6 _ rfl
          clear va vb
          have HA1 := Lib.hid hA1; clear hb hA1
          go_wp2_with fail
          go_ret
          exact ⟨rfl, HB0.out.trans (HA1.out.mono (by omega))⟩
        · skip
          go_enter Tryd.func97, Tryd.ntmps97
          go_wp2_with fail
          refine (HC.out _).mono ?_
          rintro e w1 ⟨rfl, hb⟩
          have hA1 : Below (w.heap.size + 2) ((w.alloc (.cells (cnds nm op k n x s y) 55)).alloc (.cells (cnds nm2 op2 k2 n2 x2 s2 y2) 55)) w1 := by simpa using hb
          have z1 : w.heap.size + 2 ≤ w1.heap.size := by have := hA1.size; simpa using this
          obtain ⟨va, vb⟩ := two_lay hA1
          have a0 := va 0 _ rfl; have a1 := va 1 _ rfl; have a2 := va 2 _ rfl; have a3 := va 3 _ rfl; have a4 := va 4 _ rfl; have a5 := va 5 _ rfl; have a6 := va 6 _ rfl
          have b0 := vb 0 _ rfl; have b1 := vb 1 _ rfl; have b2 := vb 2 _ rfl; have b3 := vb 3 _ rfl; have b4 := vb 4 _ rfl; have b5 := vb 5 _ rfl; have b6 := vb 6 _ rfl
          clear va vb
          have HA1 := Lib.hid hA1; clear hb hA1
          go_wp2_with fail
          go_ret
          exact ⟨rfl, HB0.out.trans (HA1.out.mono (by omega))⟩
    · cases ha : (op == 4)
      · skip
        go_enter Tryd.func97, Tryd.ntmps97
        go_wp2_with fail
        refine (HC.out _).mono ?_
        rintro e w1 ⟨rfl, hb⟩
        have hA1 : Below (w.heap.size + 2) ((w.alloc (.cells (cnds nm op k n x s y) 55)).alloc (.cells (cnds nm2 op2 k2 n2 x2 s2 y2) 55)) w1 := by simpa using hb
        have z1 : w.heap.size + 2 ≤ w1.heap.size := by have := hA1.size; simpa using this
        obtain ⟨va, vb⟩ := two_lay hA1
        have a0 := va 0 _ rfl; have a1 := va 1 _ rfl; have a2 := va 2 _ rfl; have a3 := va 3 _ rfl; have a4 := va 4 _ rfl; have a5 := va 5 _ rfl; have a6 := va 6 _ rfl
        have b0 := vb 0 _ rfl; have b1 := vb 1 _ rfl; have b2 := vb 2 _ rfl; have b3 := vb 3 _ rfl; have b4 := vb 4 _ rfl; have b5 := vb 5 _ rfl; have b6 := vb 6 _ rfl
        clear va vb
        have HA1 := Lib.hid hA1; clear hb hA1
        go_wp2_with fail
        go_ret
        exact ⟨rfl, HB0.out.trans (HA1.out.mono (by omega))⟩
      · skip
        go_enter Tryd.func97, Tryd.ntmps97
        go_wp2_with fail
        refine (HC.out _).mono ?_
        rintro e w1 ⟨rfl, hb⟩
        have hA1 : Below (w.heap.size + 2) ((w.alloc (.cells (cnds nm op k n x s y) 55)).alloc (.cells (cnds nm2 op2 k2 n2 x2 s2 y2) 55)) w1 := by simpa using hb
        have z1 : w.heap.size + 2 ≤ w1.heap.size := by have := hA1.size; simpa using this
        obtain ⟨va, vb⟩ := two_lay hA1
        have a0 := va 0 _ rfl; have a1 := va 1 _ rfl; have a2 := va 2 _ rfl; have a3 := va 3 _ rfl; have a4 := va 4 _ rfl; have a5 := va 5 _ rfl; have a6 := va 6 _ rfl
        have b0 := vb 0 _ rfl; have b1 := vb 1 _ rfl; have b2 := vb 2 _ rfl; have b3 := vb 3 _ rfl; have b4 := vb 4 _ rfl; have b5 := vb 5 _ rfl; have b6 := vb 6 _ rfl
        clear va vb
        have HA1 := Lib.hid hA1; clear hb hA1
        go_wp2_with fail
        go_ret
        exact ⟨rfl, HB0.out.trans (HA1.out.mono (by omega))⟩
set_option maxHeartbeats 2000000 in
theorem implies_name (nm : ByteArray) (op k n : Int) (x : Nat) (s : ByteArray) (y : Bool) (nm2 : ByteArray) (op2 k2 n2 : Int) (x2 : Nat) (s2 : ByteArray) (y2 : Bool) (hx : x < 18446744073709551616) (hx2 : x2 < 18446744073709551616) (w : World) (hn : (nm.toList == nm2.toList) = false) :
    Calls Tryd.prog 80 #[cnd nm op k n x s y, cnd nm2 op2 k2 n2 x2 s2 y2] w fun e w' => e = .returned (.bool (false)) ∧ Below w.heap.size w w' := by
  have B0 : Below w.heap.size w ((w.alloc (.cells (cnds nm op k n x s y) 55)).alloc (.cells (cnds nm2 op2 k2 n2 x2 s2 y2) 55)) := ((Below.refl _ _).alloc (Nat.le_refl _) _).alloc (by simp) _
  have HB0 := Lib.hid B0; clear B0
  have hva := fun W => cvoid_c nm op k n x s y W
  have hvb := fun W => cvoid_c nm2 op2 k2 n2 x2 s2 y2 W
  have HVA := Lib.hid hva; have HVB := Lib.hid hvb; clear hva hvb
  have HX := Lib.hid hx; have HX2 := Lib.hid hx2; clear hx hx2
  go_enter Tryd.func80, Tryd.ntmps80
  go_wp2_with fail
  go_ret
  exact ⟨rfl, HB0.out⟩
set_option maxHeartbeats 2000000 in
theorem implies_void (nm : ByteArray) (op k n : Int) (x : Nat) (s : ByteArray) (y : Bool) (nm2 : ByteArray) (op2 k2 n2 : Int) (x2 : Nat) (s2 : ByteArray) (y2 : Bool) (hx : x < 18446744073709551616) (hx2 : x2 < 18446744073709551616) (w : World) (hn : (nm.toList == nm2.toList) = true) (hvA : cvoidB ⟨⟨nm, k, n, x, s, y⟩, op⟩ = true) :
    Calls Tryd.prog 80 #[cnd nm op k n x s y, cnd nm2 op2 k2 n2 x2 s2 y2] w fun e w' => e = .returned (.bool (true)) ∧ Below w.heap.size w w' := by
  have B0 : Below w.heap.size w ((w.alloc (.cells (cnds nm op k n x s y) 55)).alloc (.cells (cnds nm2 op2 k2 n2 x2 s2 y2) 55)) := ((Below.refl _ _).alloc (Nat.le_refl _) _).alloc (by simp) _
  have HB0 := Lib.hid B0; clear B0
  have hva := fun W => cvoid_c nm op k n x s y W
  have hvb := fun W => cvoid_c nm2 op2 k2 n2 x2 s2 y2 W
  have HVA := Lib.hid hva; have HVB := Lib.hid hvb; clear hva hvb
  have HX := Lib.hid hx; have HX2 := Lib.hid hx2; clear hx hx2
  go_enter Tryd.func80, Tryd.ntmps80
  go_wp2_with fail
  refine (HVA.out _).mono ?_
  rw [hvA]
  rintro e w1 ⟨rfl, hb⟩
  have hA1 : Below (w.heap.size + 2) ((w.alloc (.cells (cnds nm op k n x s y) 55)).alloc (.cells (cnds nm2 op2 k2 n2 x2 s2 y2) 55)) w1 := by simpa using hb
  have z1 : w.heap.size + 2 ≤ w1.heap.size := by have := hA1.size; simpa using this
  obtain ⟨va, vb⟩ := two_lay hA1
  have a0 := va 0 _ rfl; have a1 := va 1 _ rfl; have a2 := va 2 _ rfl; have a3 := va 3 _ rfl; have a4 := va 4 _ rfl; have a5 := va 5 _ rfl; have a6 := va 6 _ rfl
  have b0 := vb 0 _ rfl; have b1 := vb 1 _ rfl; have b2 := vb 2 _ rfl; have b3 := vb 3 _ rfl; have b4 := vb 4 _ rfl; have b5 := vb 5 _ rfl; have b6 := vb 6 _ rfl
  clear va vb
  have HA1 := Lib.hid hA1; clear hb hA1
  go_wp2_with fail
  go_ret
  exact ⟨rfl, HB0.out.trans (HA1.out.mono (by omega))⟩
set_option maxHeartbeats 2000000 in
theorem implies_has (nm : ByteArray) (op k n : Int) (x : Nat) (s : ByteArray) (y : Bool) (nm2 : ByteArray) (op2 k2 n2 : Int) (x2 : Nat) (s2 : ByteArray) (y2 : Bool) (hx : x < 18446744073709551616) (hx2 : x2 < 18446744073709551616) (w : World) (hn : (nm.toList == nm2.toList) = true) (hvA : cvoidB ⟨⟨nm, k, n, x, s, y⟩, op⟩ = false) (h7 : (op2 == 7) = true) :
    Calls Tryd.prog 80 #[cnd nm op k n x s y, cnd nm2 op2 k2 n2 x2 s2 y2] w fun e w' => e = .returned (.bool (true)) ∧ Below w.heap.size w w' := by
  have B0 : Below w.heap.size w ((w.alloc (.cells (cnds nm op k n x s y) 55)).alloc (.cells (cnds nm2 op2 k2 n2 x2 s2 y2) 55)) := ((Below.refl _ _).alloc (Nat.le_refl _) _).alloc (by simp) _
  have HB0 := Lib.hid B0; clear B0
  have hva := fun W => cvoid_c nm op k n x s y W
  have hvb := fun W => cvoid_c nm2 op2 k2 n2 x2 s2 y2 W
  have HVA := Lib.hid hva; have HVB := Lib.hid hvb; clear hva hvb
  have HX := Lib.hid hx; have HX2 := Lib.hid hx2; clear hx hx2
  go_enter Tryd.func80, Tryd.ntmps80
  go_wp2_with fail
  refine (HVA.out _).mono ?_
  rw [hvA]
  rintro e w1 ⟨rfl, hb⟩
  have hA1 : Below (w.heap.size + 2) ((w.alloc (.cells (cnds nm op k n x s y) 55)).alloc (.cells (cnds nm2 op2 k2 n2 x2 s2 y2) 55)) w1 := by simpa using hb
  have z1 : w.heap.size + 2 ≤ w1.heap.size := by have := hA1.size; simpa using this
  obtain ⟨va, vb⟩ := two_lay hA1
  have a0 := va 0 _ rfl; have a1 := va 1 _ rfl; have a2 := va 2 _ rfl; have a3 := va 3 _ rfl; have a4 := va 4 _ rfl; have a5 := va 5 _ rfl; have a6 := va 6 _ rfl
  have b0 := vb 0 _ rfl; have b1 := vb 1 _ rfl; have b2 := vb 2 _ rfl; have b3 := vb 3 _ rfl; have b4 := vb 4 _ rfl; have b5 := vb 5 _ rfl; have b6 := vb 6 _ rfl
  clear va vb
  have HA1 := Lib.hid hA1; clear hb hA1
  go_wp2_with fail
  go_ret
  exact ⟨rfl, HB0.out.trans (HA1.out.mono (by omega))⟩
set_option maxHeartbeats 2000000 in
theorem implies_hasA (nm : ByteArray) (op k n : Int) (x : Nat) (s : ByteArray) (y : Bool) (nm2 : ByteArray) (op2 k2 n2 : Int) (x2 : Nat) (s2 : ByteArray) (y2 : Bool) (hx : x < 18446744073709551616) (hx2 : x2 < 18446744073709551616) (w : World) (hn : (nm.toList == nm2.toList) = true) (hvA : cvoidB ⟨⟨nm, k, n, x, s, y⟩, op⟩ = false) (h7 : (op2 == 7) = false) (g7 : (op == 7) = true) :
    Calls Tryd.prog 80 #[cnd nm op k n x s y, cnd nm2 op2 k2 n2 x2 s2 y2] w fun e w' => e = .returned (.bool (false)) ∧ Below w.heap.size w w' := by
  have B0 : Below w.heap.size w ((w.alloc (.cells (cnds nm op k n x s y) 55)).alloc (.cells (cnds nm2 op2 k2 n2 x2 s2 y2) 55)) := ((Below.refl _ _).alloc (Nat.le_refl _) _).alloc (by simp) _
  have HB0 := Lib.hid B0; clear B0
  have hva := fun W => cvoid_c nm op k n x s y W
  have hvb := fun W => cvoid_c nm2 op2 k2 n2 x2 s2 y2 W
  have HVA := Lib.hid hva; have HVB := Lib.hid hvb; clear hva hvb
  have HX := Lib.hid hx; have HX2 := Lib.hid hx2; clear hx hx2
  go_enter Tryd.func80, Tryd.ntmps80
  go_wp2_with fail
  refine (HVA.out _).mono ?_
  rw [hvA]
  rintro e w1 ⟨rfl, hb⟩
  have hA1 : Below (w.heap.size + 2) ((w.alloc (.cells (cnds nm op k n x s y) 55)).alloc (.cells (cnds nm2 op2 k2 n2 x2 s2 y2) 55)) w1 := by simpa using hb
  have z1 : w.heap.size + 2 ≤ w1.heap.size := by have := hA1.size; simpa using this
  obtain ⟨va, vb⟩ := two_lay hA1
  have a0 := va 0 _ rfl; have a1 := va 1 _ rfl; have a2 := va 2 _ rfl; have a3 := va 3 _ rfl; have a4 := va 4 _ rfl; have a5 := va 5 _ rfl; have a6 := va 6 _ rfl
  have b0 := vb 0 _ rfl; have b1 := vb 1 _ rfl; have b2 := vb 2 _ rfl; have b3 := vb 3 _ rfl; have b4 := vb 4 _ rfl; have b5 := vb 5 _ rfl; have b6 := vb 6 _ rfl
  clear va vb
  have HA1 := Lib.hid hA1; clear hb hA1
  go_wp2_with fail
  go_ret
  exact ⟨rfl, HB0.out.trans (HA1.out.mono (by omega))⟩
set_option maxHeartbeats 2000000 in
theorem implies_voidB (nm : ByteArray) (op k n : Int) (x : Nat) (s : ByteArray) (y : Bool) (nm2 : ByteArray) (op2 k2 n2 : Int) (x2 : Nat) (s2 : ByteArray) (y2 : Bool) (hx : x < 18446744073709551616) (hx2 : x2 < 18446744073709551616) (w : World) (hn : (nm.toList == nm2.toList) = true) (hvA : cvoidB ⟨⟨nm, k, n, x, s, y⟩, op⟩ = false) (h7 : (op2 == 7) = false) (g7 : (op == 7) = false) (hvB : cvoidB ⟨⟨nm2, k2, n2, x2, s2, y2⟩, op2⟩ = true) :
    Calls Tryd.prog 80 #[cnd nm op k n x s y, cnd nm2 op2 k2 n2 x2 s2 y2] w fun e w' => e = .returned (.bool (false)) ∧ Below w.heap.size w w' := by
  have B0 : Below w.heap.size w ((w.alloc (.cells (cnds nm op k n x s y) 55)).alloc (.cells (cnds nm2 op2 k2 n2 x2 s2 y2) 55)) := ((Below.refl _ _).alloc (Nat.le_refl _) _).alloc (by simp) _
  have HB0 := Lib.hid B0; clear B0
  have hva := fun W => cvoid_c nm op k n x s y W
  have hvb := fun W => cvoid_c nm2 op2 k2 n2 x2 s2 y2 W
  have HVA := Lib.hid hva; have HVB := Lib.hid hvb; clear hva hvb
  have HX := Lib.hid hx; have HX2 := Lib.hid hx2; clear hx hx2
  go_enter Tryd.func80, Tryd.ntmps80
  go_wp2_with fail
  refine (HVA.out _).mono ?_
  rw [hvA]
  rintro e w1 ⟨rfl, hb⟩
  have hA1 : Below (w.heap.size + 2) ((w.alloc (.cells (cnds nm op k n x s y) 55)).alloc (.cells (cnds nm2 op2 k2 n2 x2 s2 y2) 55)) w1 := by simpa using hb
  have z1 : w.heap.size + 2 ≤ w1.heap.size := by have := hA1.size; simpa using this
  obtain ⟨va, vb⟩ := two_lay hA1
  have a0 := va 0 _ rfl; have a1 := va 1 _ rfl; have a2 := va 2 _ rfl; have a3 := va 3 _ rfl; have a4 := va 4 _ rfl; have a5 := va 5 _ rfl; have a6 := va 6 _ rfl
  have b0 := vb 0 _ rfl; have b1 := vb 1 _ rfl; have b2 := vb 2 _ rfl; have b3 := vb 3 _ rfl; have b4 := vb 4 _ rfl; have b5 := vb 5 _ rfl; have b6 := vb 6 _ rfl
  clear va vb
  have HA1 := Lib.hid hA1; clear hb hA1
  go_wp2_with fail
  clear a0 a1 a2 a3 a4 a5 a6 b0 b1 b2 b3 b4 b5 b6
  refine (HVB.out _).mono ?_
  rw [hvB]
  rintro e w2 ⟨rfl, hb⟩
  have hA2 := HA1.out.trans (hb.mono z1)
  have z2 : w.heap.size + 2 ≤ w2.heap.size := by have := hA2.size; simpa using this
  obtain ⟨va, vb⟩ := two_lay hA2
  have a0 := va 0 _ rfl; have a1 := va 1 _ rfl; have a2 := va 2 _ rfl; have a3 := va 3 _ rfl; have a4 := va 4 _ rfl; have a5 := va 5 _ rfl; have a6 := va 6 _ rfl
  have b0 := vb 0 _ rfl; have b1 := vb 1 _ rfl; have b2 := vb 2 _ rfl; have b3 := vb 3 _ rfl; have b4 := vb 4 _ rfl; have b5 := vb 5 _ rfl; have b6 := vb 6 _ rfl
  clear va vb
  have HA2 := Lib.hid hA2; clear hb hA2
  go_wp2_with fail
  go_ret
  exact ⟨rfl, HB0.out.trans (HA2.out.mono (by omega))⟩
set_option maxHeartbeats 2000000 in
theorem implies_kinds (nm : ByteArray) (op k n : Int) (x : Nat) (s : ByteArray) (y : Bool) (nm2 : ByteArray) (op2 k2 n2 : Int) (x2 : Nat) (s2 : ByteArray) (y2 : Bool) (hx : x < 18446744073709551616) (hx2 : x2 < 18446744073709551616) (w : World) (hn : (nm.toList == nm2.toList) = true) (hvA : cvoidB ⟨⟨nm, k, n, x, s, y⟩, op⟩ = false) (h7 : (op2 == 7) = false) (g7 : (op == 7) = false) (hvB : cvoidB ⟨⟨nm2, k2, n2, x2, s2, y2⟩, op2⟩ = false) (hk : (k != k2) = true) :
    Calls Tryd.prog 80 #[cnd nm op k n x s y, cnd nm2 op2 k2 n2 x2 s2 y2] w fun e w' => e = .returned (.bool (false)) ∧ Below w.heap.size w w' := by
  have B0 : Below w.heap.size w ((w.alloc (.cells (cnds nm op k n x s y) 55)).alloc (.cells (cnds nm2 op2 k2 n2 x2 s2 y2) 55)) := ((Below.refl _ _).alloc (Nat.le_refl _) _).alloc (by simp) _
  have HB0 := Lib.hid B0; clear B0
  have hva := fun W => cvoid_c nm op k n x s y W
  have hvb := fun W => cvoid_c nm2 op2 k2 n2 x2 s2 y2 W
  have HVA := Lib.hid hva; have HVB := Lib.hid hvb; clear hva hvb
  have HX := Lib.hid hx; have HX2 := Lib.hid hx2; clear hx hx2
  go_enter Tryd.func80, Tryd.ntmps80
  go_wp2_with fail
  refine (HVA.out _).mono ?_
  rw [hvA]
  rintro e w1 ⟨rfl, hb⟩
  have hA1 : Below (w.heap.size + 2) ((w.alloc (.cells (cnds nm op k n x s y) 55)).alloc (.cells (cnds nm2 op2 k2 n2 x2 s2 y2) 55)) w1 := by simpa using hb
  have z1 : w.heap.size + 2 ≤ w1.heap.size := by have := hA1.size; simpa using this
  obtain ⟨va, vb⟩ := two_lay hA1
  have a0 := va 0 _ rfl; have a1 := va 1 _ rfl; have a2 := va 2 _ rfl; have a3 := va 3 _ rfl; have a4 := va 4 _ rfl; have a5 := va 5 _ rfl; have a6 := va 6 _ rfl
  have b0 := vb 0 _ rfl; have b1 := vb 1 _ rfl; have b2 := vb 2 _ rfl; have b3 := vb 3 _ rfl; have b4 := vb 4 _ rfl; have b5 := vb 5 _ rfl; have b6 := vb 6 _ rfl
  clear va vb
  have HA1 := Lib.hid hA1; clear hb hA1
  go_wp2_with fail
  clear a0 a1 a2 a3 a4 a5 a6 b0 b1 b2 b3 b4 b5 b6
  refine (HVB.out _).mono ?_
  rw [hvB]
  rintro e w2 ⟨rfl, hb⟩
  have hA2 := HA1.out.trans (hb.mono z1)
  have z2 : w.heap.size + 2 ≤ w2.heap.size := by have := hA2.size; simpa using this
  obtain ⟨va, vb⟩ := two_lay hA2
  have a0 := va 0 _ rfl; have a1 := va 1 _ rfl; have a2 := va 2 _ rfl; have a3 := va 3 _ rfl; have a4 := va 4 _ rfl; have a5 := va 5 _ rfl; have a6 := va 6 _ rfl
  have b0 := vb 0 _ rfl; have b1 := vb 1 _ rfl; have b2 := vb 2 _ rfl; have b3 := vb 3 _ rfl; have b4 := vb 4 _ rfl; have b5 := vb 5 _ rfl; have b6 := vb 6 _ rfl
  clear va vb
  have HA2 := Lib.hid hA2; clear hb hA2
  go_wp2_with fail
  go_ret
  exact ⟨rfl, HB0.out.trans (HA2.out.mono (by omega))⟩
set_option maxHeartbeats 2000000 in
theorem implies_eq (nm : ByteArray) (op k n : Int) (x : Nat) (s : ByteArray) (y : Bool) (nm2 : ByteArray) (op2 k2 n2 : Int) (x2 : Nat) (s2 : ByteArray) (y2 : Bool) (hx : x < 18446744073709551616) (hx2 : x2 < 18446744073709551616) (w : World) (hn : (nm.toList == nm2.toList) = true) (hvA : cvoidB ⟨⟨nm, k, n, x, s, y⟩, op⟩ = false) (h7 : (op2 == 7) = false) (g7 : (op == 7) = false) (hvB : cvoidB ⟨⟨nm2, k2, n2, x2, s2, y2⟩, op2⟩ = false) (hk : (k != k2) = false) (o0 : (op == 0) = true) :
    Calls Tryd.prog 80 #[cnd nm op k n x s y, cnd nm2 op2 k2 n2 x2 s2 y2] w fun e w' => e = .returned (.bool (holdsB ⟨⟨nm2, k2, n2, x2, s2, y2⟩, op2⟩ ⟨nm, k, n, x, s, y⟩)) ∧ Below w.heap.size w w' := by
  have B0 : Below w.heap.size w ((w.alloc (.cells (cnds nm op k n x s y) 55)).alloc (.cells (cnds nm2 op2 k2 n2 x2 s2 y2) 55)) := ((Below.refl _ _).alloc (Nat.le_refl _) _).alloc (by simp) _
  have HB0 := Lib.hid B0; clear B0
  have hva := fun W => cvoid_c nm op k n x s y W
  have hvb := fun W => cvoid_c nm2 op2 k2 n2 x2 s2 y2 W
  have HVA := Lib.hid hva; have HVB := Lib.hid hvb; clear hva hvb
  have HX := Lib.hid hx; have HX2 := Lib.hid hx2; clear hx hx2
  go_enter Tryd.func80, Tryd.ntmps80
  go_wp2_with fail
  refine (HVA.out _).mono ?_
  rw [hvA]
  rintro e w1 ⟨rfl, hb⟩
  have hA1 : Below (w.heap.size + 2) ((w.alloc (.cells (cnds nm op k n x s y) 55)).alloc (.cells (cnds nm2 op2 k2 n2 x2 s2 y2) 55)) w1 := by simpa using hb
  have z1 : w.heap.size + 2 ≤ w1.heap.size := by have := hA1.size; simpa using this
  obtain ⟨va, vb⟩ := two_lay hA1
  have a0 := va 0 _ rfl; have a1 := va 1 _ rfl; have a2 := va 2 _ rfl; have a3 := va 3 _ rfl; have a4 := va 4 _ rfl; have a5 := va 5 _ rfl; have a6 := va 6 _ rfl
  have b0 := vb 0 _ rfl; have b1 := vb 1 _ rfl; have b2 := vb 2 _ rfl; have b3 := vb 3 _ rfl; have b4 := vb 4 _ rfl; have b5 := vb 5 _ rfl; have b6 := vb 6 _ rfl
  clear va vb
  have HA1 := Lib.hid hA1; clear hb hA1
  go_wp2_with fail
  clear a0 a1 a2 a3 a4 a5 a6 b0 b1 b2 b3 b4 b5 b6
  refine (HVB.out _).mono ?_
  rw [hvB]
  rintro e w2 ⟨rfl, hb⟩
  have hA2 := HA1.out.trans (hb.mono z1)
  have z2 : w.heap.size + 2 ≤ w2.heap.size := by have := hA2.size; simpa using this
  obtain ⟨va, vb⟩ := two_lay hA2
  have a0 := va 0 _ rfl; have a1 := va 1 _ rfl; have a2 := va 2 _ rfl; have a3 := va 3 _ rfl; have a4 := va 4 _ rfl; have a5 := va 5 _ rfl; have a6 := va 6 _ rfl
  have b0 := vb 0 _ rfl; have b1 := vb 1 _ rfl; have b2 := vb 2 _ rfl; have b3 := vb 3 _ rfl; have b4 := vb 4 _ rfl; have b5 := vb 5 _ rfl; have b6 := vb 6 _ rfl
  clear va vb
  have HA2 := Lib.hid hA2; clear hb hA2
  go_wp2_with fail
  clear a0 a1 a2 a3 a4 a5 a6 b0 b1 b2 b3 b4 b5 b6
  refine (holds_c nm2 op2 k2 n2 x2 s2 y2 nm k n x s y HX2.out HX.out _).mono ?_
  rintro e w3 ⟨rfl, hb⟩
  have hA3 := HA2.out.trans (hb.mono z2)
  have z3 : w.heap.size + 2 ≤ w3.heap.size := by have := hA3.size; simpa using this
  obtain ⟨va, vb⟩ := two_lay hA3
  have a0 := va 0 _ rfl; have a1 := va 1 _ rfl; have a2 := va 2 _ rfl; have a3 := va 3 _ rfl; have a4 := va 4 _ rfl; have a5 := va 5 _ rfl; have a6 := va 6 _ rfl
  have b0 := vb 0 _ rfl; have b1 := vb 1 _ rfl; have b2 := vb 2 _ rfl; have b3 := vb 3 _ rfl; have b4 := vb 4 _ rfl; have b5 := vb 5 _ rfl; have b6 := vb 6 _ rfl
  clear va vb
  have HA3 := Lib.hid hA3; clear hb hA3
  go_wp2_with fail
  go_ret
  exact ⟨rfl, HB0.out.trans (HA3.out.mono (by omega))⟩
set_option maxHeartbeats 2000000 in
theorem implies_ne0 (nm : ByteArray) (op k n : Int) (x : Nat) (s : ByteArray) (y : Bool) (nm2 : ByteArray) (op2 k2 n2 : Int) (x2 : Nat) (s2 : ByteArray) (y2 : Bool) (hx : x < 18446744073709551616) (hx2 : x2 < 18446744073709551616) (w : World) (hn : (nm.toList == nm2.toList) = true) (hvA : cvoidB ⟨⟨nm, k, n, x, s, y⟩, op⟩ = false) (h7 : (op2 == 7) = false) (g7 : (op == 7) = false) (hvB : cvoidB ⟨⟨nm2, k2, n2, x2, s2, y2⟩, op2⟩ = false) (hk : (k != k2) = false) (o0 : (op == 0) = false) (o1 : (op == 1) = true) (q1 : (op2 == 1) = false) :
    Calls Tryd.prog 80 #[cnd nm op k n x s y, cnd nm2 op2 k2 n2 x2 s2 y2] w fun e w' => e = .returned (.bool (false)) ∧ Below w.heap.size w w' := by
  have B0 : Below w.heap.size w ((w.alloc (.cells (cnds nm op k n x s y) 55)).alloc (.cells (cnds nm2 op2 k2 n2 x2 s2 y2) 55)) := ((Below.refl _ _).alloc (Nat.le_refl _) _).alloc (by simp) _
  have HB0 := Lib.hid B0; clear B0
  have hva := fun W => cvoid_c nm op k n x s y W
  have hvb := fun W => cvoid_c nm2 op2 k2 n2 x2 s2 y2 W
  have HVA := Lib.hid hva; have HVB := Lib.hid hvb; clear hva hvb
  have HX := Lib.hid hx; have HX2 := Lib.hid hx2; clear hx hx2
  go_enter Tryd.func80, Tryd.ntmps80
  go_wp2_with fail
  refine (HVA.out _).mono ?_
  rw [hvA]
  rintro e w1 ⟨rfl, hb⟩
  have hA1 : Below (w.heap.size + 2) ((w.alloc (.cells (cnds nm op k n x s y) 55)).alloc (.cells (cnds nm2 op2 k2 n2 x2 s2 y2) 55)) w1 := by simpa using hb
  have z1 : w.heap.size + 2 ≤ w1.heap.size := by have := hA1.size; simpa using this
  obtain ⟨va, vb⟩ := two_lay hA1
  have a0 := va 0 _ rfl; have a1 := va 1 _ rfl; have a2 := va 2 _ rfl; have a3 := va 3 _ rfl; have a4 := va 4 _ rfl; have a5 := va 5 _ rfl; have a6 := va 6 _ rfl
  have b0 := vb 0 _ rfl; have b1 := vb 1 _ rfl; have b2 := vb 2 _ rfl; have b3 := vb 3 _ rfl; have b4 := vb 4 _ rfl; have b5 := vb 5 _ rfl; have b6 := vb 6 _ rfl
  clear va vb
  have HA1 := Lib.hid hA1; clear hb hA1
  go_wp2_with fail
  clear a0 a1 a2 a3 a4 a5 a6 b0 b1 b2 b3 b4 b5 b6
  refine (HVB.out _).mono ?_
  rw [hvB]
  rintro e w2 ⟨rfl, hb⟩
  have hA2 := HA1.out.trans (hb.mono z1)
  have z2 : w.heap.size + 2 ≤ w2.heap.size := by have := hA2.size; simpa using this
  obtain ⟨va, vb⟩ := two_lay hA2
  have a0 := va 0 _ rfl; have a1 := va 1 _ rfl; have a2 := va 2 _ rfl; have a3 := va 3 _ rfl; have a4 := va 4 _ rfl; have a5 := va 5 _ rfl; have a6 := va 6 _ rfl
  have b0 := vb 0 _ rfl; have b1 := vb 1 _ rfl; have b2 := vb 2 _ rfl; have b3 := vb 3 _ rfl; have b4 := vb 4 _ rfl; have b5 := vb 5 _ rfl; have b6 := vb 6 _ rfl
  clear va vb
  have HA2 := Lib.hid hA2; clear hb hA2
  go_wp2_with fail
  go_ret
  exact ⟨rfl, HB0.out.trans (HA2.out.mono (by omega))⟩
set_option maxHeartbeats 2000000 in
theorem implies_ne1 (nm : ByteArray) (op k n : Int) (x : Nat) (s : ByteArray) (y : Bool) (nm2 : ByteArray) (op2 k2 n2 : Int) (x2 : Nat) (s2 : ByteArray) (y2 : Bool) (hx : x < 18446744073709551616) (hx2 : x2 < 18446744073709551616) (w : World) (hn : (nm.toList == nm2.toList) = true) (hvA : cvoidB ⟨⟨nm, k, n, x, s, y⟩, op⟩ = false) (h7 : (op2 == 7) = false) (g7 : (op == 7) = false) (hvB : cvoidB ⟨⟨nm2, k2, n2, x2, s2, y2⟩, op2⟩ = false) (hk : (k != k2) = false) (o0 : (op == 0) = false) (o1 : (op == 1) = true) (q1 : (op2 == 1) = true) :
    Calls Tryd.prog 80 #[cnd nm op k n x s y, cnd nm2 op2 k2 n2 x2 s2 y2] w fun e w' => e = .returned (.bool (vsame ⟨nm, k, n, x, s, y⟩ ⟨nm2, k2, n2, x2, s2, y2⟩)) ∧ Below w.heap.size w w' := by
  have B0 : Below w.heap.size w ((w.alloc (.cells (cnds nm op k n x s y) 55)).alloc (.cells (cnds nm2 op2 k2 n2 x2 s2 y2) 55)) := ((Below.refl _ _).alloc (Nat.le_refl _) _).alloc (by simp) _
  have HB0 := Lib.hid B0; clear B0
  have hva := fun W => cvoid_c nm op k n x s y W
  have hvb := fun W => cvoid_c nm2 op2 k2 n2 x2 s2 y2 W
  have HVA := Lib.hid hva; have HVB := Lib.hid hvb; clear hva hvb
  have HX := Lib.hid hx; have HX2 := Lib.hid hx2; clear hx hx2
  go_enter Tryd.func80, Tryd.ntmps80
  go_wp2_with fail
  refine (HVA.out _).mono ?_
  rw [hvA]
  rintro e w1 ⟨rfl, hb⟩
  have hA1 : Below (w.heap.size + 2) ((w.alloc (.cells (cnds nm op k n x s y) 55)).alloc (.cells (cnds nm2 op2 k2 n2 x2 s2 y2) 55)) w1 := by simpa using hb
  have z1 : w.heap.size + 2 ≤ w1.heap.size := by have := hA1.size; simpa using this
  obtain ⟨va, vb⟩ := two_lay hA1
  have a0 := va 0 _ rfl; have a1 := va 1 _ rfl; have a2 := va 2 _ rfl; have a3 := va 3 _ rfl; have a4 := va 4 _ rfl; have a5 := va 5 _ rfl; have a6 := va 6 _ rfl
  have b0 := vb 0 _ rfl; have b1 := vb 1 _ rfl; have b2 := vb 2 _ rfl; have b3 := vb 3 _ rfl; have b4 := vb 4 _ rfl; have b5 := vb 5 _ rfl; have b6 := vb 6 _ rfl
  clear va vb
  have HA1 := Lib.hid hA1; clear hb hA1
  go_wp2_with fail
  clear a0 a1 a2 a3 a4 a5 a6 b0 b1 b2 b3 b4 b5 b6
  refine (HVB.out _).mono ?_
  rw [hvB]
  rintro e w2 ⟨rfl, hb⟩
  have hA2 := HA1.out.trans (hb.mono z1)
  have z2 : w.heap.size + 2 ≤ w2.heap.size := by have := hA2.size; simpa using this
  obtain ⟨va, vb⟩ := two_lay hA2
  have a0 := va 0 _ rfl; have a1 := va 1 _ rfl; have a2 := va 2 _ rfl; have a3 := va 3 _ rfl; have a4 := va 4 _ rfl; have a5 := va 5 _ rfl; have a6 := va 6 _ rfl
  have b0 := vb 0 _ rfl; have b1 := vb 1 _ rfl; have b2 := vb 2 _ rfl; have b3 := vb 3 _ rfl; have b4 := vb 4 _ rfl; have b5 := vb 5 _ rfl; have b6 := vb 6 _ rfl
  clear va vb
  have HA2 := Lib.hid hA2; clear hb hA2
  go_wp2_with fail
  clear a0 a1 a2 a3 a4 a5 a6 b0 b1 b2 b3 b4 b5 b6
  refine (vsame_c k k2 n n2 x x2 s s2 y y2 _ HX.out HX2.out).mono ?_
  rintro e w3 ⟨rfl, hb⟩
  have hA3 := HA2.out.trans (hb.mono z2)
  have z3 : w.heap.size + 2 ≤ w3.heap.size := by have := hA3.size; simpa using this
  obtain ⟨va, vb⟩ := two_lay hA3
  have a0 := va 0 _ rfl; have a1 := va 1 _ rfl; have a2 := va 2 _ rfl; have a3 := va 3 _ rfl; have a4 := va 4 _ rfl; have a5 := va 5 _ rfl; have a6 := va 6 _ rfl
  have b0 := vb 0 _ rfl; have b1 := vb 1 _ rfl; have b2 := vb 2 _ rfl; have b3 := vb 3 _ rfl; have b4 := vb 4 _ rfl; have b5 := vb 5 _ rfl; have b6 := vb 6 _ rfl
  clear va vb
  have HA3 := Lib.hid hA3; clear hb hA3
  go_wp2_with fail
  go_ret
  exact ⟨rfl, HB0.out.trans (HA3.out.mono (by omega))⟩
set_option maxHeartbeats 2000000 in
theorem implies_pre (nm : ByteArray) (op k n : Int) (x : Nat) (s : ByteArray) (y : Bool) (nm2 : ByteArray) (op2 k2 n2 : Int) (x2 : Nat) (s2 : ByteArray) (y2 : Bool) (hx : x < 18446744073709551616) (hx2 : x2 < 18446744073709551616) (w : World) (hn : (nm.toList == nm2.toList) = true) (hvA : cvoidB ⟨⟨nm, k, n, x, s, y⟩, op⟩ = false) (h7 : (op2 == 7) = false) (g7 : (op == 7) = false) (hvB : cvoidB ⟨⟨nm2, k2, n2, x2, s2, y2⟩, op2⟩ = false) (hk : (k != k2) = false) (o0 : (op == 0) = false) (o1 : (op == 1) = false) (o6 : (op == 6) = true) :
    Calls Tryd.prog 80 #[cnd nm op k n x s y, cnd nm2 op2 k2 n2 x2 s2 y2] w fun e w' => e = .returned (.bool (prefixI s ⟨⟨nm2, k2, n2, x2, s2, y2⟩, op2⟩)) ∧ Below w.heap.size w w' := by
  have B0 : Below w.heap.size w ((w.alloc (.cells (cnds nm op k n x s y) 55)).alloc (.cells (cnds nm2 op2 k2 n2 x2 s2 y2) 55)) := ((Below.refl _ _).alloc (Nat.le_refl _) _).alloc (by simp) _
  have HB0 := Lib.hid B0; clear B0
  have hva := fun W => cvoid_c nm op k n x s y W
  have hvb := fun W => cvoid_c nm2 op2 k2 n2 x2 s2 y2 W
  have HVA := Lib.hid hva; have HVB := Lib.hid hvb; clear hva hvb
  have HX := Lib.hid hx; have HX2 := Lib.hid hx2; clear hx hx2
  go_enter Tryd.func80, Tryd.ntmps80
  go_wp2_with fail
  refine (HVA.out _).mono ?_
  rw [hvA]
  rintro e w1 ⟨rfl, hb⟩
  have hA1 : Below (w.heap.size + 2) ((w.alloc (.cells (cnds nm op k n x s y) 55)).alloc (.cells (cnds nm2 op2 k2 n2 x2 s2 y2) 55)) w1 := by simpa using hb
  have z1 : w.heap.size + 2 ≤ w1.heap.size := by have := hA1.size; simpa using this
  obtain ⟨va, vb⟩ := two_lay hA1
  have a0 := va 0 _ rfl; have a1 := va 1 _ rfl; have a2 := va 2 _ rfl; have a3 := va 3 _ rfl; have a4 := va 4 _ rfl; have a5 := va 5 _ rfl; have a6 := va 6 _ rfl
  have b0 := vb 0 _ rfl; have b1 := vb 1 _ rfl; have b2 := vb 2 _ rfl; have b3 := vb 3 _ rfl; have b4 := vb 4 _ rfl; have b5 := vb 5 _ rfl; have b6 := vb 6 _ rfl
  clear va vb
  have HA1 := Lib.hid hA1; clear hb hA1
  go_wp2_with fail
  clear a0 a1 a2 a3 a4 a5 a6 b0 b1 b2 b3 b4 b5 b6
  refine (HVB.out _).mono ?_
  rw [hvB]
  rintro e w2 ⟨rfl, hb⟩
  have hA2 := HA1.out.trans (hb.mono z1)
  have z2 : w.heap.size + 2 ≤ w2.heap.size := by have := hA2.size; simpa using this
  obtain ⟨va, vb⟩ := two_lay hA2
  have a0 := va 0 _ rfl; have a1 := va 1 _ rfl; have a2 := va 2 _ rfl; have a3 := va 3 _ rfl; have a4 := va 4 _ rfl; have a5 := va 5 _ rfl; have a6 := va 6 _ rfl
  have b0 := vb 0 _ rfl; have b1 := vb 1 _ rfl; have b2 := vb 2 _ rfl; have b3 := vb 3 _ rfl; have b4 := vb 4 _ rfl; have b5 := vb 5 _ rfl; have b6 := vb 6 _ rfl
  clear va vb
  have HA2 := Lib.hid hA2; clear hb hA2
  go_wp2_with fail
  clear a0 a1 a2 a3 a4 a5 a6 b0 b1 b2 b3 b4 b5 b6
  refine (prefixI_c s nm2 op2 k2 n2 x2 s2 y2 _).mono ?_
  rintro e w3 ⟨rfl, hb⟩
  have hA3 := HA2.out.trans (hb.mono z2)
  have z3 : w.heap.size + 2 ≤ w3.heap.size := by have := hA3.size; simpa using this
  obtain ⟨va, vb⟩ := two_lay hA3
  have a0 := va 0 _ rfl; have a1 := va 1 _ rfl; have a2 := va 2 _ rfl; have a3 := va 3 _ rfl; have a4 := va 4 _ rfl; have a5 := va 5 _ rfl; have a6 := va 6 _ rfl
  have b0 := vb 0 _ rfl; have b1 := vb 1 _ rfl; have b2 := vb 2 _ rfl; have b3 := vb 3 _ rfl; have b4 := vb 4 _ rfl; have b5 := vb 5 _ rfl; have b6 := vb 6 _ rfl
  clear va vb
  have HA3 := Lib.hid hA3; clear hb hA3
  go_wp2_with fail
  go_ret
  exact ⟨rfl, HB0.out.trans (HA3.out.mono (by omega))⟩
set_option maxHeartbeats 2000000 in
theorem implies_lt (nm : ByteArray) (op k n : Int) (x : Nat) (s : ByteArray) (y : Bool) (nm2 : ByteArray) (op2 k2 n2 : Int) (x2 : Nat) (s2 : ByteArray) (y2 : Bool) (hx : x < 18446744073709551616) (hx2 : x2 < 18446744073709551616) (w : World) (hn : (nm.toList == nm2.toList) = true) (hvA : cvoidB ⟨⟨nm, k, n, x, s, y⟩, op⟩ = false) (h7 : (op2 == 7) = false) (g7 : (op == 7) = false) (hvB : cvoidB ⟨⟨nm2, k2, n2, x2, s2, y2⟩, op2⟩ = false) (hk : (k != k2) = false) (o0 : (op == 0) = false) (o1 : (op == 1) = false) (o6 : (op == 6) = false) (o2 : (op == 2) = true) :
    Calls Tryd.prog 80 #[cnd nm op k n x s y, cnd nm2 op2 k2 n2 x2 s2 y2] w fun e w' => e = .returned (.bool (boundI op op2 (cmpR k n x s y k2 n2 x2 s2 y2) 2 3)) ∧ Below w.heap.size w w' := by
  have B0 : Below w.heap.size w ((w.alloc (.cells (cnds nm op k n x s y) 55)).alloc (.cells (cnds nm2 op2 k2 n2 x2 s2 y2) 55)) := ((Below.refl _ _).alloc (Nat.le_refl _) _).alloc (by simp) _
  have HB0 := Lib.hid B0; clear B0
  have hva := fun W => cvoid_c nm op k n x s y W
  have hvb := fun W => cvoid_c nm2 op2 k2 n2 x2 s2 y2 W
  have HVA := Lib.hid hva; have HVB := Lib.hid hvb; clear hva hvb
  have HX := Lib.hid hx; have HX2 := Lib.hid hx2; clear hx hx2
  go_enter Tryd.func80, Tryd.ntmps80
  go_wp2_with fail
  refine (HVA.out _).mono ?_
  rw [hvA]
  rintro e w1 ⟨rfl, hb⟩
  have hA1 : Below (w.heap.size + 2) ((w.alloc (.cells (cnds nm op k n x s y) 55)).alloc (.cells (cnds nm2 op2 k2 n2 x2 s2 y2) 55)) w1 := by simpa using hb
  have z1 : w.heap.size + 2 ≤ w1.heap.size := by have := hA1.size; simpa using this
  obtain ⟨va, vb⟩ := two_lay hA1
  have a0 := va 0 _ rfl; have a1 := va 1 _ rfl; have a2 := va 2 _ rfl; have a3 := va 3 _ rfl; have a4 := va 4 _ rfl; have a5 := va 5 _ rfl; have a6 := va 6 _ rfl
  have b0 := vb 0 _ rfl; have b1 := vb 1 _ rfl; have b2 := vb 2 _ rfl; have b3 := vb 3 _ rfl; have b4 := vb 4 _ rfl; have b5 := vb 5 _ rfl; have b6 := vb 6 _ rfl
  clear va vb
  have HA1 := Lib.hid hA1; clear hb hA1
  go_wp2_with fail
  clear a0 a1 a2 a3 a4 a5 a6 b0 b1 b2 b3 b4 b5 b6
  refine (HVB.out _).mono ?_
  rw [hvB]
  rintro e w2 ⟨rfl, hb⟩
  have hA2 := HA1.out.trans (hb.mono z1)
  have z2 : w.heap.size + 2 ≤ w2.heap.size := by have := hA2.size; simpa using this
  obtain ⟨va, vb⟩ := two_lay hA2
  have a0 := va 0 _ rfl; have a1 := va 1 _ rfl; have a2 := va 2 _ rfl; have a3 := va 3 _ rfl; have a4 := va 4 _ rfl; have a5 := va 5 _ rfl; have a6 := va 6 _ rfl
  have b0 := vb 0 _ rfl; have b1 := vb 1 _ rfl; have b2 := vb 2 _ rfl; have b3 := vb 3 _ rfl; have b4 := vb 4 _ rfl; have b5 := vb 5 _ rfl; have b6 := vb 6 _ rfl
  clear va vb
  have HA2 := Lib.hid hA2; clear hb hA2
  go_wp2_with fail
  clear a0 a1 a2 a3 a4 a5 a6 b0 b1 b2 b3 b4 b5 b6
  refine (bound_lt nm op k n x s y nm2 op2 k2 n2 x2 s2 y2 HX.out HX2.out _).mono ?_
  rintro e w3 ⟨rfl, hb⟩
  have hA3 := HA2.out.trans (hb.mono z2)
  have z3 : w.heap.size + 2 ≤ w3.heap.size := by have := hA3.size; simpa using this
  obtain ⟨va, vb⟩ := two_lay hA3
  have a0 := va 0 _ rfl; have a1 := va 1 _ rfl; have a2 := va 2 _ rfl; have a3 := va 3 _ rfl; have a4 := va 4 _ rfl; have a5 := va 5 _ rfl; have a6 := va 6 _ rfl
  have b0 := vb 0 _ rfl; have b1 := vb 1 _ rfl; have b2 := vb 2 _ rfl; have b3 := vb 3 _ rfl; have b4 := vb 4 _ rfl; have b5 := vb 5 _ rfl; have b6 := vb 6 _ rfl
  clear va vb
  have HA3 := Lib.hid hA3; clear hb hA3
  go_wp2_with fail
  go_ret
  exact ⟨rfl, HB0.out.trans (HA3.out.mono (by omega))⟩
set_option maxHeartbeats 2000000 in
theorem implies_le (nm : ByteArray) (op k n : Int) (x : Nat) (s : ByteArray) (y : Bool) (nm2 : ByteArray) (op2 k2 n2 : Int) (x2 : Nat) (s2 : ByteArray) (y2 : Bool) (hx : x < 18446744073709551616) (hx2 : x2 < 18446744073709551616) (w : World) (hn : (nm.toList == nm2.toList) = true) (hvA : cvoidB ⟨⟨nm, k, n, x, s, y⟩, op⟩ = false) (h7 : (op2 == 7) = false) (g7 : (op == 7) = false) (hvB : cvoidB ⟨⟨nm2, k2, n2, x2, s2, y2⟩, op2⟩ = false) (hk : (k != k2) = false) (o0 : (op == 0) = false) (o1 : (op == 1) = false) (o6 : (op == 6) = false) (o2 : (op == 2) = false) (o3 : (op == 3) = true) :
    Calls Tryd.prog 80 #[cnd nm op k n x s y, cnd nm2 op2 k2 n2 x2 s2 y2] w fun e w' => e = .returned (.bool (boundI op op2 (cmpR k n x s y k2 n2 x2 s2 y2) 2 3)) ∧ Below w.heap.size w w' := by
  have B0 : Below w.heap.size w ((w.alloc (.cells (cnds nm op k n x s y) 55)).alloc (.cells (cnds nm2 op2 k2 n2 x2 s2 y2) 55)) := ((Below.refl _ _).alloc (Nat.le_refl _) _).alloc (by simp) _
  have HB0 := Lib.hid B0; clear B0
  have hva := fun W => cvoid_c nm op k n x s y W
  have hvb := fun W => cvoid_c nm2 op2 k2 n2 x2 s2 y2 W
  have HVA := Lib.hid hva; have HVB := Lib.hid hvb; clear hva hvb
  have HX := Lib.hid hx; have HX2 := Lib.hid hx2; clear hx hx2
  go_enter Tryd.func80, Tryd.ntmps80
  go_wp2_with fail
  refine (HVA.out _).mono ?_
  rw [hvA]
  rintro e w1 ⟨rfl, hb⟩
  have hA1 : Below (w.heap.size + 2) ((w.alloc (.cells (cnds nm op k n x s y) 55)).alloc (.cells (cnds nm2 op2 k2 n2 x2 s2 y2) 55)) w1 := by simpa using hb
  have z1 : w.heap.size + 2 ≤ w1.heap.size := by have := hA1.size; simpa using this
  obtain ⟨va, vb⟩ := two_lay hA1
  have a0 := va 0 _ rfl; have a1 := va 1 _ rfl; have a2 := va 2 _ rfl; have a3 := va 3 _ rfl; have a4 := va 4 _ rfl; have a5 := va 5 _ rfl; have a6 := va 6 _ rfl
  have b0 := vb 0 _ rfl; have b1 := vb 1 _ rfl; have b2 := vb 2 _ rfl; have b3 := vb 3 _ rfl; have b4 := vb 4 _ rfl; have b5 := vb 5 _ rfl; have b6 := vb 6 _ rfl
  clear va vb
  have HA1 := Lib.hid hA1; clear hb hA1
  go_wp2_with fail
  clear a0 a1 a2 a3 a4 a5 a6 b0 b1 b2 b3 b4 b5 b6
  refine (HVB.out _).mono ?_
  rw [hvB]
  rintro e w2 ⟨rfl, hb⟩
  have hA2 := HA1.out.trans (hb.mono z1)
  have z2 : w.heap.size + 2 ≤ w2.heap.size := by have := hA2.size; simpa using this
  obtain ⟨va, vb⟩ := two_lay hA2
  have a0 := va 0 _ rfl; have a1 := va 1 _ rfl; have a2 := va 2 _ rfl; have a3 := va 3 _ rfl; have a4 := va 4 _ rfl; have a5 := va 5 _ rfl; have a6 := va 6 _ rfl
  have b0 := vb 0 _ rfl; have b1 := vb 1 _ rfl; have b2 := vb 2 _ rfl; have b3 := vb 3 _ rfl; have b4 := vb 4 _ rfl; have b5 := vb 5 _ rfl; have b6 := vb 6 _ rfl
  clear va vb
  have HA2 := Lib.hid hA2; clear hb hA2
  go_wp2_with fail
  clear a0 a1 a2 a3 a4 a5 a6 b0 b1 b2 b3 b4 b5 b6
  refine (bound_lt nm op k n x s y nm2 op2 k2 n2 x2 s2 y2 HX.out HX2.out _).mono ?_
  rintro e w3 ⟨rfl, hb⟩
  have hA3 := HA2.out.trans (hb.mono z2)
  have z3 : w.heap.size + 2 ≤ w3.heap.size := by have := hA3.size; simpa using this
  obtain ⟨va, vb⟩ := two_lay hA3
  have a0 := va 0 _ rfl; have a1 := va 1 _ rfl; have a2 := va 2 _ rfl; have a3 := va 3 _ rfl; have a4 := va 4 _ rfl; have a5 := va 5 _ rfl; have a6 := va 6 _ rfl
  have b0 := vb 0 _ rfl; have b1 := vb 1 _ rfl; have b2 := vb 2 _ rfl; have b3 := vb 3 _ rfl; have b4 := vb 4 _ rfl; have b5 := vb 5 _ rfl; have b6 := vb 6 _ rfl
  clear va vb
  have HA3 := Lib.hid hA3; clear hb hA3
  go_wp2_with fail
  go_ret
  exact ⟨rfl, HB0.out.trans (HA3.out.mono (by omega))⟩
set_option maxHeartbeats 2000000 in
theorem implies_gt (nm : ByteArray) (op k n : Int) (x : Nat) (s : ByteArray) (y : Bool) (nm2 : ByteArray) (op2 k2 n2 : Int) (x2 : Nat) (s2 : ByteArray) (y2 : Bool) (hx : x < 18446744073709551616) (hx2 : x2 < 18446744073709551616) (w : World) (hn : (nm.toList == nm2.toList) = true) (hvA : cvoidB ⟨⟨nm, k, n, x, s, y⟩, op⟩ = false) (h7 : (op2 == 7) = false) (g7 : (op == 7) = false) (hvB : cvoidB ⟨⟨nm2, k2, n2, x2, s2, y2⟩, op2⟩ = false) (hk : (k != k2) = false) (o0 : (op == 0) = false) (o1 : (op == 1) = false) (o6 : (op == 6) = false) (o2 : (op == 2) = false) (o3 : (op == 3) = false) (o4 : (op == 4) = true) :
    Calls Tryd.prog 80 #[cnd nm op k n x s y, cnd nm2 op2 k2 n2 x2 s2 y2] w fun e w' => e = .returned (.bool (boundI op op2 (-cmpR k n x s y k2 n2 x2 s2 y2) 4 5)) ∧ Below w.heap.size w w' := by
  have B0 : Below w.heap.size w ((w.alloc (.cells (cnds nm op k n x s y) 55)).alloc (.cells (cnds nm2 op2 k2 n2 x2 s2 y2) 55)) := ((Below.refl _ _).alloc (Nat.le_refl _) _).alloc (by simp) _
  have HB0 := Lib.hid B0; clear B0
  have hva := fun W => cvoid_c nm op k n x s y W
  have hvb := fun W => cvoid_c nm2 op2 k2 n2 x2 s2 y2 W
  have HVA := Lib.hid hva; have HVB := Lib.hid hvb; clear hva hvb
  have HX := Lib.hid hx; have HX2 := Lib.hid hx2; clear hx hx2
  go_enter Tryd.func80, Tryd.ntmps80
  go_wp2_with fail
  refine (HVA.out _).mono ?_
  rw [hvA]
  rintro e w1 ⟨rfl, hb⟩
  have hA1 : Below (w.heap.size + 2) ((w.alloc (.cells (cnds nm op k n x s y) 55)).alloc (.cells (cnds nm2 op2 k2 n2 x2 s2 y2) 55)) w1 := by simpa using hb
  have z1 : w.heap.size + 2 ≤ w1.heap.size := by have := hA1.size; simpa using this
  obtain ⟨va, vb⟩ := two_lay hA1
  have a0 := va 0 _ rfl; have a1 := va 1 _ rfl; have a2 := va 2 _ rfl; have a3 := va 3 _ rfl; have a4 := va 4 _ rfl; have a5 := va 5 _ rfl; have a6 := va 6 _ rfl
  have b0 := vb 0 _ rfl; have b1 := vb 1 _ rfl; have b2 := vb 2 _ rfl; have b3 := vb 3 _ rfl; have b4 := vb 4 _ rfl; have b5 := vb 5 _ rfl; have b6 := vb 6 _ rfl
  clear va vb
  have HA1 := Lib.hid hA1; clear hb hA1
  go_wp2_with fail
  clear a0 a1 a2 a3 a4 a5 a6 b0 b1 b2 b3 b4 b5 b6
  refine (HVB.out _).mono ?_
  rw [hvB]
  rintro e w2 ⟨rfl, hb⟩
  have hA2 := HA1.out.trans (hb.mono z1)
  have z2 : w.heap.size + 2 ≤ w2.heap.size := by have := hA2.size; simpa using this
  obtain ⟨va, vb⟩ := two_lay hA2
  have a0 := va 0 _ rfl; have a1 := va 1 _ rfl; have a2 := va 2 _ rfl; have a3 := va 3 _ rfl; have a4 := va 4 _ rfl; have a5 := va 5 _ rfl; have a6 := va 6 _ rfl
  have b0 := vb 0 _ rfl; have b1 := vb 1 _ rfl; have b2 := vb 2 _ rfl; have b3 := vb 3 _ rfl; have b4 := vb 4 _ rfl; have b5 := vb 5 _ rfl; have b6 := vb 6 _ rfl
  clear va vb
  have HA2 := Lib.hid hA2; clear hb hA2
  go_wp2_with fail
  clear a0 a1 a2 a3 a4 a5 a6 b0 b1 b2 b3 b4 b5 b6
  refine (bound_gt nm op k n x s y nm2 op2 k2 n2 x2 s2 y2 HX.out HX2.out _).mono ?_
  rintro e w3 ⟨rfl, hb⟩
  have hA3 := HA2.out.trans (hb.mono z2)
  have z3 : w.heap.size + 2 ≤ w3.heap.size := by have := hA3.size; simpa using this
  obtain ⟨va, vb⟩ := two_lay hA3
  have a0 := va 0 _ rfl; have a1 := va 1 _ rfl; have a2 := va 2 _ rfl; have a3 := va 3 _ rfl; have a4 := va 4 _ rfl; have a5 := va 5 _ rfl; have a6 := va 6 _ rfl
  have b0 := vb 0 _ rfl; have b1 := vb 1 _ rfl; have b2 := vb 2 _ rfl; have b3 := vb 3 _ rfl; have b4 := vb 4 _ rfl; have b5 := vb 5 _ rfl; have b6 := vb 6 _ rfl
  clear va vb
  have HA3 := Lib.hid hA3; clear hb hA3
  go_wp2_with fail
  go_ret
  exact ⟨rfl, HB0.out.trans (HA3.out.mono (by omega))⟩
set_option maxHeartbeats 2000000 in
theorem implies_ge (nm : ByteArray) (op k n : Int) (x : Nat) (s : ByteArray) (y : Bool) (nm2 : ByteArray) (op2 k2 n2 : Int) (x2 : Nat) (s2 : ByteArray) (y2 : Bool) (hx : x < 18446744073709551616) (hx2 : x2 < 18446744073709551616) (w : World) (hn : (nm.toList == nm2.toList) = true) (hvA : cvoidB ⟨⟨nm, k, n, x, s, y⟩, op⟩ = false) (h7 : (op2 == 7) = false) (g7 : (op == 7) = false) (hvB : cvoidB ⟨⟨nm2, k2, n2, x2, s2, y2⟩, op2⟩ = false) (hk : (k != k2) = false) (o0 : (op == 0) = false) (o1 : (op == 1) = false) (o6 : (op == 6) = false) (o2 : (op == 2) = false) (o3 : (op == 3) = false) (o4 : (op == 4) = false) (o5 : (op == 5) = true) :
    Calls Tryd.prog 80 #[cnd nm op k n x s y, cnd nm2 op2 k2 n2 x2 s2 y2] w fun e w' => e = .returned (.bool (boundI op op2 (-cmpR k n x s y k2 n2 x2 s2 y2) 4 5)) ∧ Below w.heap.size w w' := by
  have B0 : Below w.heap.size w ((w.alloc (.cells (cnds nm op k n x s y) 55)).alloc (.cells (cnds nm2 op2 k2 n2 x2 s2 y2) 55)) := ((Below.refl _ _).alloc (Nat.le_refl _) _).alloc (by simp) _
  have HB0 := Lib.hid B0; clear B0
  have hva := fun W => cvoid_c nm op k n x s y W
  have hvb := fun W => cvoid_c nm2 op2 k2 n2 x2 s2 y2 W
  have HVA := Lib.hid hva; have HVB := Lib.hid hvb; clear hva hvb
  have HX := Lib.hid hx; have HX2 := Lib.hid hx2; clear hx hx2
  go_enter Tryd.func80, Tryd.ntmps80
  go_wp2_with fail
  refine (HVA.out _).mono ?_
  rw [hvA]
  rintro e w1 ⟨rfl, hb⟩
  have hA1 : Below (w.heap.size + 2) ((w.alloc (.cells (cnds nm op k n x s y) 55)).alloc (.cells (cnds nm2 op2 k2 n2 x2 s2 y2) 55)) w1 := by simpa using hb
  have z1 : w.heap.size + 2 ≤ w1.heap.size := by have := hA1.size; simpa using this
  obtain ⟨va, vb⟩ := two_lay hA1
  have a0 := va 0 _ rfl; have a1 := va 1 _ rfl; have a2 := va 2 _ rfl; have a3 := va 3 _ rfl; have a4 := va 4 _ rfl; have a5 := va 5 _ rfl; have a6 := va 6 _ rfl
  have b0 := vb 0 _ rfl; have b1 := vb 1 _ rfl; have b2 := vb 2 _ rfl; have b3 := vb 3 _ rfl; have b4 := vb 4 _ rfl; have b5 := vb 5 _ rfl; have b6 := vb 6 _ rfl
  clear va vb
  have HA1 := Lib.hid hA1; clear hb hA1
  go_wp2_with fail
  clear a0 a1 a2 a3 a4 a5 a6 b0 b1 b2 b3 b4 b5 b6
  refine (HVB.out _).mono ?_
  rw [hvB]
  rintro e w2 ⟨rfl, hb⟩
  have hA2 := HA1.out.trans (hb.mono z1)
  have z2 : w.heap.size + 2 ≤ w2.heap.size := by have := hA2.size; simpa using this
  obtain ⟨va, vb⟩ := two_lay hA2
  have a0 := va 0 _ rfl; have a1 := va 1 _ rfl; have a2 := va 2 _ rfl; have a3 := va 3 _ rfl; have a4 := va 4 _ rfl; have a5 := va 5 _ rfl; have a6 := va 6 _ rfl
  have b0 := vb 0 _ rfl; have b1 := vb 1 _ rfl; have b2 := vb 2 _ rfl; have b3 := vb 3 _ rfl; have b4 := vb 4 _ rfl; have b5 := vb 5 _ rfl; have b6 := vb 6 _ rfl
  clear va vb
  have HA2 := Lib.hid hA2; clear hb hA2
  go_wp2_with fail
  clear a0 a1 a2 a3 a4 a5 a6 b0 b1 b2 b3 b4 b5 b6
  refine (bound_gt nm op k n x s y nm2 op2 k2 n2 x2 s2 y2 HX.out HX2.out _).mono ?_
  rintro e w3 ⟨rfl, hb⟩
  have hA3 := HA2.out.trans (hb.mono z2)
  have z3 : w.heap.size + 2 ≤ w3.heap.size := by have := hA3.size; simpa using this
  obtain ⟨va, vb⟩ := two_lay hA3
  have a0 := va 0 _ rfl; have a1 := va 1 _ rfl; have a2 := va 2 _ rfl; have a3 := va 3 _ rfl; have a4 := va 4 _ rfl; have a5 := va 5 _ rfl; have a6 := va 6 _ rfl
  have b0 := vb 0 _ rfl; have b1 := vb 1 _ rfl; have b2 := vb 2 _ rfl; have b3 := vb 3 _ rfl; have b4 := vb 4 _ rfl; have b5 := vb 5 _ rfl; have b6 := vb 6 _ rfl
  clear va vb
  have HA3 := Lib.hid hA3; clear hb hA3
  go_wp2_with fail
  go_ret
  exact ⟨rfl, HB0.out.trans (HA3.out.mono (by omega))⟩
set_option maxHeartbeats 2000000 in
theorem implies_none (nm : ByteArray) (op k n : Int) (x : Nat) (s : ByteArray) (y : Bool) (nm2 : ByteArray) (op2 k2 n2 : Int) (x2 : Nat) (s2 : ByteArray) (y2 : Bool) (hx : x < 18446744073709551616) (hx2 : x2 < 18446744073709551616) (w : World) (hn : (nm.toList == nm2.toList) = true) (hvA : cvoidB ⟨⟨nm, k, n, x, s, y⟩, op⟩ = false) (h7 : (op2 == 7) = false) (g7 : (op == 7) = false) (hvB : cvoidB ⟨⟨nm2, k2, n2, x2, s2, y2⟩, op2⟩ = false) (hk : (k != k2) = false) (o0 : (op == 0) = false) (o1 : (op == 1) = false) (o6 : (op == 6) = false) (o2 : (op == 2) = false) (o3 : (op == 3) = false) (o4 : (op == 4) = false) (o5 : (op == 5) = false) :
    Calls Tryd.prog 80 #[cnd nm op k n x s y, cnd nm2 op2 k2 n2 x2 s2 y2] w fun e w' => e = .returned (.bool (false)) ∧ Below w.heap.size w w' := by
  have B0 : Below w.heap.size w ((w.alloc (.cells (cnds nm op k n x s y) 55)).alloc (.cells (cnds nm2 op2 k2 n2 x2 s2 y2) 55)) := ((Below.refl _ _).alloc (Nat.le_refl _) _).alloc (by simp) _
  have HB0 := Lib.hid B0; clear B0
  have hva := fun W => cvoid_c nm op k n x s y W
  have hvb := fun W => cvoid_c nm2 op2 k2 n2 x2 s2 y2 W
  have HVA := Lib.hid hva; have HVB := Lib.hid hvb; clear hva hvb
  have HX := Lib.hid hx; have HX2 := Lib.hid hx2; clear hx hx2
  go_enter Tryd.func80, Tryd.ntmps80
  go_wp2_with fail
  refine (HVA.out _).mono ?_
  rw [hvA]
  rintro e w1 ⟨rfl, hb⟩
  have hA1 : Below (w.heap.size + 2) ((w.alloc (.cells (cnds nm op k n x s y) 55)).alloc (.cells (cnds nm2 op2 k2 n2 x2 s2 y2) 55)) w1 := by simpa using hb
  have z1 : w.heap.size + 2 ≤ w1.heap.size := by have := hA1.size; simpa using this
  obtain ⟨va, vb⟩ := two_lay hA1
  have a0 := va 0 _ rfl; have a1 := va 1 _ rfl; have a2 := va 2 _ rfl; have a3 := va 3 _ rfl; have a4 := va 4 _ rfl; have a5 := va 5 _ rfl; have a6 := va 6 _ rfl
  have b0 := vb 0 _ rfl; have b1 := vb 1 _ rfl; have b2 := vb 2 _ rfl; have b3 := vb 3 _ rfl; have b4 := vb 4 _ rfl; have b5 := vb 5 _ rfl; have b6 := vb 6 _ rfl
  clear va vb
  have HA1 := Lib.hid hA1; clear hb hA1
  go_wp2_with fail
  clear a0 a1 a2 a3 a4 a5 a6 b0 b1 b2 b3 b4 b5 b6
  refine (HVB.out _).mono ?_
  rw [hvB]
  rintro e w2 ⟨rfl, hb⟩
  have hA2 := HA1.out.trans (hb.mono z1)
  have z2 : w.heap.size + 2 ≤ w2.heap.size := by have := hA2.size; simpa using this
  obtain ⟨va, vb⟩ := two_lay hA2
  have a0 := va 0 _ rfl; have a1 := va 1 _ rfl; have a2 := va 2 _ rfl; have a3 := va 3 _ rfl; have a4 := va 4 _ rfl; have a5 := va 5 _ rfl; have a6 := va 6 _ rfl
  have b0 := vb 0 _ rfl; have b1 := vb 1 _ rfl; have b2 := vb 2 _ rfl; have b3 := vb 3 _ rfl; have b4 := vb 4 _ rfl; have b5 := vb 5 _ rfl; have b6 := vb 6 _ rfl
  clear va vb
  have HA2 := Lib.hid hA2; clear hb hA2
  go_wp2_with fail
  go_ret
  exact ⟨rfl, HB0.out.trans (HA2.out.mono (by omega))⟩
theorem implies_c (nm : ByteArray) (op k n : Int) (x : Nat) (s : ByteArray) (y : Bool) (nm2 : ByteArray) (op2 k2 n2 : Int) (x2 : Nat) (s2 : ByteArray) (y2 : Bool) (hx : x < 18446744073709551616) (hx2 : x2 < 18446744073709551616) (w : World) :
    Calls Tryd.prog 80 #[cnd nm op k n x s y, cnd nm2 op2 k2 n2 x2 s2 y2] w fun e w' => e = .returned (.bool (impliesB ⟨⟨nm, k, n, x, s, y⟩, op⟩ ⟨⟨nm2, k2, n2, x2, s2, y2⟩, op2⟩)) ∧ Below w.heap.size w w' := by
  unfold impliesB
  cases hn : (nm.toList == nm2.toList)
  · exact implies_name nm op k n x s y nm2 op2 k2 n2 x2 s2 y2 hx hx2 w hn
  · simp only [Bool.not_true, Bool.false_eq_true, if_false]
    cases hvA : cvoidB ⟨⟨nm, k, n, x, s, y⟩, op⟩
    · cases h7 : (op2 == 7)
      · cases g7 : (op == 7)
        · cases hvB : cvoidB ⟨⟨nm2, k2, n2, x2, s2, y2⟩, op2⟩
          · cases hk : (k != k2)
            · simp only [Bool.or_self, Bool.false_eq_true, if_false]
              have hkk : k = k2 := by simpa using hk
              have hok : cmpOk k x k2 x2 = true := by
                have e7 : op ≠ 7 := by simpa using g7
                have e72 : op2 ≠ 7 := by simpa using h7
                have v1 := (notvoid hvA e7).1
                have v2 := (notvoid hvB e72).1
                simp only [] at v1 v2
                unfold cmpOk
                rw [v1, v2]; simp [hkk]
              have hR : cmpR k n x s y k2 n2 x2 s2 y2 = cmpA ⟨nm, k, n, x, s, y⟩ ⟨nm2, k2, n2, x2, s2, y2⟩ := by
                unfold cmpR; rw [hok, if_pos rfl]; rfl
              unfold coreB
              simp only []
              cases o0 : (op == 0)
              · cases o1 : (op == 1)
                · cases o6 : (op == 6)
                  · cases o2 : (op == 2)
                    · cases o3 : (op == 3)
                      · cases o4 : (op == 4)
                        · cases o5 : (op == 5)
                          · exact implies_none nm op k n x s y nm2 op2 k2 n2 x2 s2 y2 hx hx2 w hn hvA h7 g7 hvB hk o0 o1 o6 o2 o3 o4 o5
                          · have := implies_ge nm op k n x s y nm2 op2 k2 n2 x2 s2 y2 hx hx2 w hn hvA h7 g7 hvB hk o0 o1 o6 o2 o3 o4 o5
                            rw [hR] at this; exact this
                        · have := implies_gt nm op k n x s y nm2 op2 k2 n2 x2 s2 y2 hx hx2 w hn hvA h7 g7 hvB hk o0 o1 o6 o2 o3 o4
                          rw [hR] at this; exact this
                      · have := implies_le nm op k n x s y nm2 op2 k2 n2 x2 s2 y2 hx hx2 w hn hvA h7 g7 hvB hk o0 o1 o6 o2 o3
                        rw [hR] at this; exact this
                    · have := implies_lt nm op k n x s y nm2 op2 k2 n2 x2 s2 y2 hx hx2 w hn hvA h7 g7 hvB hk o0 o1 o6 o2
                      rw [hR] at this; exact this
                  · exact implies_pre nm op k n x s y nm2 op2 k2 n2 x2 s2 y2 hx hx2 w hn hvA h7 g7 hvB hk o0 o1 o6
                · cases q1 : (op2 == 1)
                  · exact implies_ne0 nm op k n x s y nm2 op2 k2 n2 x2 s2 y2 hx hx2 w hn hvA h7 g7 hvB hk o0 o1 q1
                  · exact implies_ne1 nm op k n x s y nm2 op2 k2 n2 x2 s2 y2 hx hx2 w hn hvA h7 g7 hvB hk o0 o1 q1
              · exact implies_eq nm op k n x s y nm2 op2 k2 n2 x2 s2 y2 hx hx2 w hn hvA h7 g7 hvB hk o0
            · exact implies_kinds nm op k n x s y nm2 op2 k2 n2 x2 s2 y2 hx hx2 w hn hvA h7 g7 hvB hk
          · exact implies_voidB nm op k n x s y nm2 op2 k2 n2 x2 s2 y2 hx hx2 w hn hvA h7 g7 hvB
        · exact implies_hasA nm op k n x s y nm2 op2 k2 n2 x2 s2 y2 hx hx2 w hn hvA h7 g7
      · exact implies_has nm op k n x s y nm2 op2 k2 n2 x2 s2 y2 hx hx2 w hn hvA h7
    · exact implies_void nm op k n x s y nm2 op2 k2 n2 x2 s2 y2 hx hx2 w hn hvA
end Go.Proofs.YtliobglhppejiaaDoor
