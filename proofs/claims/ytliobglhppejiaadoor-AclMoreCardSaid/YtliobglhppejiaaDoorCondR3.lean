/- gazetteref06.Implies answers as package cond does. (Written by gen_condr3.py.) -/
import Derived.Test.YtliobglhppejiaaDoorCondR2
namespace Go.Proofs.YtliobglhppejiaaDoor
open Go.RowKit Go.Shelf
open Go.Proofs
set_option maxRecDepth 100000

/-- One side, as the document's own answer goes about it. -/
def sideI (aop bop r strict other : Int) : Bool :=
  if bop == strict || bop == other then decide (r < 0) || (r == 0 && !(aop == other && bop == strict)) else bop == 1 && (decide (r < 0) || (r == 0 && aop == strict))
theorem side_lt (aop bop r : Int) (h : aop = 2 ∨ aop = 3) : sideI aop bop r 2 3 = boundI aop bop r 2 3 := by
  unfold sideI boundI
  by_cases b2 : bop = 2
  · subst b2; rcases h with rfl | rfl <;> simp
  · by_cases b3 : bop = 3
    · subst b3; rcases h with rfl | rfl <;> simp <;> rw [Bool.eq_iff_iff] <;> simp <;> omega
    · by_cases b1 : bop = 1
      · subst b1; rcases h with rfl | rfl <;> simp
      · simp [b1, b2, b3]
theorem side_gt (aop bop r : Int) (h : aop = 4 ∨ aop = 5) : sideI aop bop r 4 5 = boundI aop bop r 4 5 := by
  unfold sideI boundI
  by_cases b2 : bop = 4
  · subst b2; rcases h with rfl | rfl <;> simp
  · by_cases b3 : bop = 5
    · subst b3; rcases h with rfl | rfl <;> simp <;> rw [Bool.eq_iff_iff] <;> simp <;> omega
    · by_cases b1 : bop = 1
      · subst b1; rcases h with rfl | rfl <;> simp
      · simp [b1, b2, b3]

set_option maxHeartbeats 4000000 in
theorem rside_lt (nm : ByteArray) (op k n : Int) (x : Nat) (s : ByteArray) (y : Bool) (nm2 : ByteArray) (op2 k2 n2 : Int) (x2 : Nat) (s2 : ByteArray) (y2 : Bool) (r : Int) (b : Bool) (hr : r = -1 ∨ r = 0 ∨ r = 1) (w : World)
    (hc : ∀ W, Calls Tryd.prog 63 #[val k n x s y, val k2 n2 x2 s2 y2] W fun e w' => e = .returned (.tuple #[.int .i64 r, .bool b]) ∧ Below W.heap.size W w') :
    Calls Tryd.prog 64 #[.bool true, .int .i64 2, .int .i64 3, cnd nm op k n x s y, cnd nm2 op2 k2 n2 x2 s2 y2] w fun e w' => e = .returned (.bool (sideI op op2 (r) 2 3)) ∧ Below w.heap.size w w' := by
  have B0 : Below w.heap.size w ((w.alloc (.cells (cnds nm op k n x s y) 55)).alloc (.cells (cnds nm2 op2 k2 n2 x2 s2 y2) 55)) := ((Below.refl _ _).alloc (Nat.le_refl _) _).alloc (by simp) _
  have HB0 := Lib.hid B0; clear B0
  unfold sideI
  have HC := Lib.hid hc; clear hc
  rcases hr with rfl | rfl | rfl
  all_goals
    cases hs : (op2 == 2)
    · cases hl : (op2 == 3)
      · cases h1 : (op2 == 1)
        · skip
          go_enter Tryd.func64, Tryd.ntmps64
          go_wp2_with fail
          refine (HC.out _).mono ?_
          rintro e w1 ⟨rfl, hb⟩
          have hA1 : Below (w.heap.size + 2) ((w.alloc (.cells (cnds nm op k n x s y) 55)).alloc (.cells (cnds nm2 op2 k2 n2 x2 s2 y2) 55)) w1 := by simpa using hb
          have z1 : w.heap.size + 2 ≤ w1.heap.size := by have := hA1.size; simpa using this
          obtain ⟨va, vb⟩ := two_lay hA1
          have a0 := va 0 _ rfl; have a1 := va 1 _ rfl; have a2 := va 2 _ rfl; have a3 := va 3 _ rfl; have a4 := va 4 _ rfl; have a5 := va 5 _ rfl; have a6 := va 6 _ rfl
          have b0 := vb 0 _ rfl; have b1 := vb 1 _ rfl; have b2 := vb 2 _ rfl; have b3 := vb 3 _ rfl; have b4 := vb 4 _ rfl; have b5 := vb 5 _ rfl; have b6 := vb 6 _ rfl
          clear va vb
          have HA1 := Lib.hid hA1; clear hb hA1
          go_wp2_with fail
          go_ret
          exact ⟨rfl, HB0.out.trans (HA1.out.mono (by omega))⟩
        · cases ha : (op == 2)
          · skip
            go_enter Tryd.func64, Tryd.ntmps64
            go_wp2_with fail
            refine (HC.out _).mono ?_
            rintro e w1 ⟨rfl, hb⟩
            have hA1 : Below (w.heap.size + 2) ((w.alloc (.cells (cnds nm op k n x s y) 55)).alloc (.cells (cnds nm2 op2 k2 n2 x2 s2 y2) 55)) w1 := by simpa using hb
            have z1 : w.heap.size + 2 ≤ w1.heap.size := by have := hA1.size; simpa using this
            obtain ⟨va, vb⟩ := two_lay hA1
            have a0 := va 0 _ rfl; have a1 := va 1 _ rfl; have a2 := va 2 _ rfl; have a3 := va 3 _ rfl; have a4 := va 4 _ rfl; have a5 := va 5 _ rfl; have a6 := va 6 _ rfl
            have b0 := vb 0 _ rfl; have b1 := vb 1 _ rfl; have b2 := vb 2 _ rfl; have b3 := vb 3 _ rfl; have b4 := vb 4 _ rfl; have b5 := vb 5 _ rfl; have b6 := vb 6 _ rfl
            clear va vb
            have HA1 := Lib.hid hA1; clear hb hA1
            go_wp2_with fail
            go_ret
            exact ⟨rfl, HB0.out.trans (HA1.out.mono (by omega))⟩
          · skip
            go_enter Tryd.func64, Tryd.ntmps64
            go_wp2_with fail
            refine (HC.out _).mono ?_
            rintro e w1 ⟨rfl, hb⟩
            have hA1 : Below (w.heap.size + 2) ((w.alloc (.cells (cnds nm op k n x s y) 55)).alloc (.cells (cnds nm2 op2 k2 n2 x2 s2 y2) 55)) w1 := by simpa using hb
            have z1 : w.heap.size + 2 ≤ w1.heap.size := by have := hA1.size; simpa using this
            obtain ⟨va, vb⟩ := two_lay hA1
            have a0 := va 0 _ rfl; have a1 := va 1 _ rfl; have a2 := va 2 _ rfl; have a3 := va 3 _ rfl; have a4 := va 4 _ rfl; have a5 := va 5 _ rfl; have a6 := va 6 _ rfl
            have b0 := vb 0 _ rfl; have b1 := vb 1 _ rfl; have b2 := vb 2 _ rfl; have b3 := vb 3 _ rfl; have b4 := vb 4 _ rfl; have b5 := vb 5 _ rfl; have b6 := vb 6 _ rfl
            clear va vb
            have HA1 := Lib.hid hA1; clear hb hA1
            go_wp2_with fail
            go_ret
            exact ⟨rfl, HB0.out.trans (HA1.out.mono (by omega))⟩
      · cases ha : (op == 3)
        · skip
          go_enter Tryd.func64, Tryd.ntmps64
          go_wp2_with fail
          refine (HC.out _).mono ?_
          rintro e w1 ⟨rfl, hb⟩
          have hA1 : Below (w.heap.size + 2) ((w.alloc (.cells (cnds nm op k n x s y) 55)).alloc (.cells (cnds nm2 op2 k2 n2 x2 s2 y2) 55)) w1 := by simpa using hb
          have z1 : w.heap.size + 2 ≤ w1.heap.size := by have := hA1.size; simpa using this
          obtain ⟨va, vb⟩ := two_lay hA1
          have a0 := va 0 _ rfl; have a1 := va 1 _ rfl; have a2 := va 2 _ rfl; have a3 := va 3 _ rfl; have a4 := va 4 _ rfl; have a5 := va 5 _ rfl; have a6 := va 6 _ rfl
          have b0 := vb 0 _ rfl; have b1 := vb 1 _ rfl; have b2 := vb 2 _ rfl; have b3 := vb 3 _ rfl; have b4 := vb 4 _ rfl; have b5 := vb 5 _ rfl; have b6 := vb 6 _ rfl
          clear va vb
          have HA1 := Lib.hid hA1; clear hb hA1
          go_wp2_with fail
          go_ret
          exact ⟨rfl, HB0.out.trans (HA1.out.mono (by omega))⟩
        · skip
          go_enter Tryd.func64, Tryd.ntmps64
          go_wp2_with fail
          refine (HC.out _).mono ?_
          rintro e w1 ⟨rfl, hb⟩
          have hA1 : Below (w.heap.size + 2) ((w.alloc (.cells (cnds nm op k n x s y) 55)).alloc (.cells (cnds nm2 op2 k2 n2 x2 s2 y2) 55)) w1 := by simpa using hb
          have z1 : w.heap.size + 2 ≤ w1.heap.size := by have := hA1.size; simpa using this
          obtain ⟨va, vb⟩ := two_lay hA1
          have a0 := va 0 _ rfl; have a1 := va 1 _ rfl; have a2 := va 2 _ rfl; have a3 := va 3 _ rfl; have a4 := va 4 _ rfl; have a5 := va 5 _ rfl; have a6 := va 6 _ rfl
          have b0 := vb 0 _ rfl; have b1 := vb 1 _ rfl; have b2 := vb 2 _ rfl; have b3 := vb 3 _ rfl; have b4 := vb 4 _ rfl; have b5 := vb 5 _ rfl; have b6 := vb 6 _ rfl
          clear va vb
          have HA1 := Lib.hid hA1; clear hb hA1
          go_wp2_with fail
          go_ret
          exact ⟨rfl, HB0.out.trans (HA1.out.mono (by omega))⟩
    · cases ha : (op == 3)
      · skip
        go_enter Tryd.func64, Tryd.ntmps64
        go_wp2_with fail
        refine (HC.out _).mono ?_
        rintro e w1 ⟨rfl, hb⟩
        have hA1 : Below (w.heap.size + 2) ((w.alloc (.cells (cnds nm op k n x s y) 55)).alloc (.cells (cnds nm2 op2 k2 n2 x2 s2 y2) 55)) w1 := by simpa using hb
        have z1 : w.heap.size + 2 ≤ w1.heap.size := by have := hA1.size; simpa using this
        obtain ⟨va, vb⟩ := two_lay hA1
        have a0 := va 0 _ rfl; have a1 := va 1 _ rfl; have a2 := va 2 _ rfl; have a3 := va 3 _ rfl; have a4 := va 4 _ rfl; have a5 := va 5 _ rfl; have a6 := va 6 _ rfl
        have b0 := vb 0 _ rfl; have b1 := vb 1 _ rfl; have b2 := vb 2 _ rfl; have b3 := vb 3 _ rfl; have b4 := vb 4 _ rfl; have b5 := vb 5 _ rfl; have b6 := vb 6 _ rfl
        clear va vb
        have HA1 := Lib.hid hA1; clear hb hA1
        go_wp2_with fail
        go_ret
        exact ⟨rfl, HB0.out.trans (HA1.out.mono (by omega))⟩
      · skip
        go_enter Tryd.func64, Tryd.ntmps64
        go_wp2_with fail
        refine (HC.out _).mono ?_
        rintro e w1 ⟨rfl, hb⟩
        have hA1 : Below (w.heap.size + 2) ((w.alloc (.cells (cnds nm op k n x s y) 55)).alloc (.cells (cnds nm2 op2 k2 n2 x2 s2 y2) 55)) w1 := by simpa using hb
        have z1 : w.heap.size + 2 ≤ w1.heap.size := by have := hA1.size; simpa using this
        obtain ⟨va, vb⟩ := two_lay hA1
        have a0 := va 0 _ rfl; have a1 := va 1 _ rfl; have a2 := va 2 _ rfl; have a3 := va 3 _ rfl; have a4 := va 4 _ rfl; have a5 := va 5 _ rfl; have a6 := va 6 _ rfl
        have b0 := vb 0 _ rfl; have b1 := vb 1 _ rfl; have b2 := vb 2 _ rfl; have b3 := vb 3 _ rfl; have b4 := vb 4 _ rfl; have b5 := vb 5 _ rfl; have b6 := vb 6 _ rfl
        clear va vb
        have HA1 := Lib.hid hA1; clear hb hA1
        go_wp2_with fail
        go_ret
        exact ⟨rfl, HB0.out.trans (HA1.out.mono (by omega))⟩
set_option maxHeartbeats 4000000 in
theorem rside_gt (nm : ByteArray) (op k n : Int) (x : Nat) (s : ByteArray) (y : Bool) (nm2 : ByteArray) (op2 k2 n2 : Int) (x2 : Nat) (s2 : ByteArray) (y2 : Bool) (r : Int) (b : Bool) (hr : r = -1 ∨ r = 0 ∨ r = 1) (w : World)
    (hc : ∀ W, Calls Tryd.prog 63 #[val k n x s y, val k2 n2 x2 s2 y2] W fun e w' => e = .returned (.tuple #[.int .i64 r, .bool b]) ∧ Below W.heap.size W w') :
    Calls Tryd.prog 64 #[.bool false, .int .i64 4, .int .i64 5, cnd nm op k n x s y, cnd nm2 op2 k2 n2 x2 s2 y2] w fun e w' => e = .returned (.bool (sideI op op2 (-r) 4 5)) ∧ Below w.heap.size w w' := by
  have B0 : Below w.heap.size w ((w.alloc (.cells (cnds nm op k n x s y) 55)).alloc (.cells (cnds nm2 op2 k2 n2 x2 s2 y2) 55)) := ((Below.refl _ _).alloc (Nat.le_refl _) _).alloc (by simp) _
  have HB0 := Lib.hid B0; clear B0
  unfold sideI
  have HC := Lib.hid hc; clear hc
  rcases hr with rfl | rfl | rfl
  all_goals
    cases hs : (op2 == 4)
    · cases hl : (op2 == 5)
      · cases h1 : (op2 == 1)
        · skip
          go_enter Tryd.func64, Tryd.ntmps64
          go_wp2_with fail
          refine (HC.out _).mono ?_
          rintro e w1 ⟨rfl, hb⟩
          have hA1 : Below (w.heap.size + 2) ((w.alloc (.cells (cnds nm op k n x s y) 55)).alloc (.cells (cnds nm2 op2 k2 n2 x2 s2 y2) 55)) w1 := by simpa using hb
          have z1 : w.heap.size + 2 ≤ w1.heap.size := by have := hA1.size; simpa using this
          obtain ⟨va, vb⟩ := two_lay hA1
          have a0 := va 0 _ rfl; have a1 := va 1 _ rfl; have a2 := va 2 _ rfl; have a3 := va 3 _ rfl; have a4 := va 4 _ rfl; have a5 := va 5 _ rfl; have a6 := va 6 _ rfl
          have b0 := vb 0 _ rfl; have b1 := vb 1 _ rfl; have b2 := vb 2 _ rfl; have b3 := vb 3 _ rfl; have b4 := vb 4 _ rfl; have b5 := vb 5 _ rfl; have b6 := vb 6 _ rfl
          clear va vb
          have HA1 := Lib.hid hA1; clear hb hA1
          go_wp2_with fail
          go_ret
          exact ⟨rfl, HB0.out.trans (HA1.out.mono (by omega))⟩
        · cases ha : (op == 4)
          · skip
            go_enter Tryd.func64, Tryd.ntmps64
            go_wp2_with fail
            refine (HC.out _).mono ?_
            rintro e w1 ⟨rfl, hb⟩
            have hA1 : Below (w.heap.size + 2) ((w.alloc (.cells (cnds nm op k n x s y) 55)).alloc (.cells (cnds nm2 op2 k2 n2 x2 s2 y2) 55)) w1 := by simpa using hb
            have z1 : w.heap.size + 2 ≤ w1.heap.size := by have := hA1.size; simpa using this
            obtain ⟨va, vb⟩ := two_lay hA1
            have a0 := va 0 _ rfl; have a1 := va 1 _ rfl; have a2 := va 2 _ rfl; have a3 := va 3 _ rfl; have a4 := va 4 _ rfl; have a5 := va 5 _ rfl; have a6 := va 6 _ rfl
            have b0 := vb 0 _ rfl; have b1 := vb 1 _ rfl; have b2 := vb 2 _ rfl; have b3 := vb 3 _ rfl; have b4 := vb 4 _ rfl; have b5 := vb 5 _ rfl; have b6 := vb 6 _ rfl
            clear va vb
            have HA1 := Lib.hid hA1; clear hb hA1
            go_wp2_with fail
            go_ret
            exact ⟨rfl, HB0.out.trans (HA1.out.mono (by omega))⟩
          · skip
            go_enter Tryd.func64, Tryd.ntmps64
            go_wp2_with fail
            refine (HC.out _).mono ?_
            rintro e w1 ⟨rfl, hb⟩
            have hA1 : Below (w.heap.size + 2) ((w.alloc (.cells (cnds nm op k n x s y) 55)).alloc (.cells (cnds nm2 op2 k2 n2 x2 s2 y2) 55)) w1 := by simpa using hb
            have z1 : w.heap.size + 2 ≤ w1.heap.size := by have := hA1.size; simpa using this
            obtain ⟨va, vb⟩ := two_lay hA1
            have a0 := va 0 _ rfl; have a1 := va 1 _ rfl; have a2 := va 2 _ rfl; have a3 := va 3 _ rfl; have a4 := va 4 _ rfl; have a5 := va 5 _ rfl; have a6 := va 6 _ rfl
            have b0 := vb 0 _ rfl; have b1 := vb 1 _ rfl; have b2 := vb 2 _ rfl; have b3 := vb 3 _ rfl; have b4 := vb 4 _ rfl; have b5 := vb 5 _ rfl; have b6 := vb 6 _ rfl
            clear va vb
            have HA1 := Lib.hid hA1; clear hb hA1
            go_wp2_with fail
            go_ret
            exact ⟨rfl, HB0.out.trans (HA1.out.mono (by omega))⟩
      · cases ha : (op == 5)
        · skip
          go_enter Tryd.func64, Tryd.ntmps64
          go_wp2_with fail
          refine (HC.out _).mono ?_
          rintro e w1 ⟨rfl, hb⟩
          have hA1 : Below (w.heap.size + 2) ((w.alloc (.cells (cnds nm op k n x s y) 55)).alloc (.cells (cnds nm2 op2 k2 n2 x2 s2 y2) 55)) w1 := by simpa using hb
          have z1 : w.heap.size + 2 ≤ w1.heap.size := by have := hA1.size; simpa using this
          obtain ⟨va, vb⟩ := two_lay hA1
          have a0 := va 0 _ rfl; have a1 := va 1 _ rfl; have a2 := va 2 _ rfl; have a3 := va 3 _ rfl; have a4 := va 4 _ rfl; have a5 := va 5 _ rfl; have a6 := va 6 _ rfl
          have b0 := vb 0 _ rfl; have b1 := vb 1 _ rfl; have b2 := vb 2 _ rfl; have b3 := vb 3 _ rfl; have b4 := vb 4 _ rfl; have b5 := vb 5 _ rfl; have b6 := vb 6 _ rfl
          clear va vb
          have HA1 := Lib.hid hA1; clear hb hA1
          go_wp2_with fail
          go_ret
          exact ⟨rfl, HB0.out.trans (HA1.out.mono (by omega))⟩
        · skip
          go_enter Tryd.func64, Tryd.ntmps64
          go_wp2_with fail
          refine (HC.out _).mono ?_
          rintro e w1 ⟨rfl, hb⟩
          have hA1 : Below (w.heap.size + 2) ((w.alloc (.cells (cnds nm op k n x s y) 55)).alloc (.cells (cnds nm2 op2 k2 n2 x2 s2 y2) 55)) w1 := by simpa using hb
          have z1 : w.heap.size + 2 ≤ w1.heap.size := by have := hA1.size; simpa using this
          obtain ⟨va, vb⟩ := two_lay hA1
          have a0 := va 0 _ rfl; have a1 := va 1 _ rfl; have a2 := va 2 _ rfl; have a3 := va 3 _ rfl; have a4 := va 4 _ rfl; have a5 := va 5 _ rfl; have a6 := va 6 _ rfl
          have b0 := vb 0 _ rfl; have b1 := vb 1 _ rfl; have b2 := vb 2 _ rfl; have b3 := vb 3 _ rfl; have b4 := vb 4 _ rfl; have b5 := vb 5 _ rfl; have b6 := vb 6 _ rfl
          clear va vb
          have HA1 := Lib.hid hA1; clear hb hA1
          go_wp2_with fail
          go_ret
          exact ⟨rfl, HB0.out.trans (HA1.out.mono (by omega))⟩
    · cases ha : (op == 5)
      · skip
        go_enter Tryd.func64, Tryd.ntmps64
        go_wp2_with fail
        refine (HC.out _).mono ?_
        rintro e w1 ⟨rfl, hb⟩
        have hA1 : Below (w.heap.size + 2) ((w.alloc (.cells (cnds nm op k n x s y) 55)).alloc (.cells (cnds nm2 op2 k2 n2 x2 s2 y2) 55)) w1 := by simpa using hb
        have z1 : w.heap.size + 2 ≤ w1.heap.size := by have := hA1.size; simpa using this
        obtain ⟨va, vb⟩ := two_lay hA1
        have a0 := va 0 _ rfl; have a1 := va 1 _ rfl; have a2 := va 2 _ rfl; have a3 := va 3 _ rfl; have a4 := va 4 _ rfl; have a5 := va 5 _ rfl; have a6 := va 6 _ rfl
        have b0 := vb 0 _ rfl; have b1 := vb 1 _ rfl; have b2 := vb 2 _ rfl; have b3 := vb 3 _ rfl; have b4 := vb 4 _ rfl; have b5 := vb 5 _ rfl; have b6 := vb 6 _ rfl
        clear va vb
        have HA1 := Lib.hid hA1; clear hb hA1
        go_wp2_with fail
        go_ret
        exact ⟨rfl, HB0.out.trans (HA1.out.mono (by omega))⟩
      · skip
        go_enter Tryd.func64, Tryd.ntmps64
        go_wp2_with fail
        refine (HC.out _).mono ?_
        rintro e w1 ⟨rfl, hb⟩
        have hA1 : Below (w.heap.size + 2) ((w.alloc (.cells (cnds nm op k n x s y) 55)).alloc (.cells (cnds nm2 op2 k2 n2 x2 s2 y2) 55)) w1 := by simpa using hb
        have z1 : w.heap.size + 2 ≤ w1.heap.size := by have := hA1.size; simpa using this
        obtain ⟨va, vb⟩ := two_lay hA1
        have a0 := va 0 _ rfl; have a1 := va 1 _ rfl; have a2 := va 2 _ rfl; have a3 := va 3 _ rfl; have a4 := va 4 _ rfl; have a5 := va 5 _ rfl; have a6 := va 6 _ rfl
        have b0 := vb 0 _ rfl; have b1 := vb 1 _ rfl; have b2 := vb 2 _ rfl; have b3 := vb 3 _ rfl; have b4 := vb 4 _ rfl; have b5 := vb 5 _ rfl; have b6 := vb 6 _ rfl
        clear va vb
        have HA1 := Lib.hid hA1; clear hb hA1
        go_wp2_with fail
        go_ret
        exact ⟨rfl, HB0.out.trans (HA1.out.mono (by omega))⟩
set_option maxHeartbeats 2000000 in
theorem rimplies_name (nm : ByteArray) (op k n : Int) (x : Nat) (s : ByteArray) (y : Bool) (nm2 : ByteArray) (op2 k2 n2 : Int) (x2 : Nat) (s2 : ByteArray) (y2 : Bool) (hx : x < 18446744073709551616) (hx2 : x2 < 18446744073709551616) (hs : s.size ≤ 9223372036854775807) (hs2 : s2.size ≤ 9223372036854775807) (w : World) (hn : (nm.toList == nm2.toList) = false) :
    Calls Tryd.prog 41 #[cnd nm op k n x s y, cnd nm2 op2 k2 n2 x2 s2 y2] w fun e w' => e = .returned (.bool (false)) ∧ Below w.heap.size w w' := by
  have B0 : Below w.heap.size w ((w.alloc (.cells (cnds nm op k n x s y) 55)).alloc (.cells (cnds nm2 op2 k2 n2 x2 s2 y2) 55)) := ((Below.refl _ _).alloc (Nat.le_refl _) _).alloc (by simp) _
  have HB0 := Lib.hid B0; clear B0
  have HVA := Lib.hid (fun W => rcvoid_c nm op k n x s y W); have HVB := Lib.hid (fun W => rcvoid_c nm2 op2 k2 n2 x2 s2 y2 W)
  have HCM := Lib.hid (fun W => rcompare_c k n x s y k2 n2 x2 s2 y2 hx hx2 hs hs2 W)
  have HX := Lib.hid hx; have HX2 := Lib.hid hx2; have HS := Lib.hid hs; have HS2 := Lib.hid hs2; clear hx hx2 hs hs2
  go_enter Tryd.func41, Tryd.ntmps41
  go_wp2_with fail
  go_ret
  exact ⟨rfl, HB0.out⟩
set_option maxHeartbeats 2000000 in
theorem rimplies_void (nm : ByteArray) (op k n : Int) (x : Nat) (s : ByteArray) (y : Bool) (nm2 : ByteArray) (op2 k2 n2 : Int) (x2 : Nat) (s2 : ByteArray) (y2 : Bool) (hx : x < 18446744073709551616) (hx2 : x2 < 18446744073709551616) (hs : s.size ≤ 9223372036854775807) (hs2 : s2.size ≤ 9223372036854775807) (w : World) (hn : (nm.toList == nm2.toList) = true) (hvA : cvoidB ⟨⟨nm, k, n, x, s, y⟩, op⟩ = true) :
    Calls Tryd.prog 41 #[cnd nm op k n x s y, cnd nm2 op2 k2 n2 x2 s2 y2] w fun e w' => e = .returned (.bool (true)) ∧ Below w.heap.size w w' := by
  have B0 : Below w.heap.size w ((w.alloc (.cells (cnds nm op k n x s y) 55)).alloc (.cells (cnds nm2 op2 k2 n2 x2 s2 y2) 55)) := ((Below.refl _ _).alloc (Nat.le_refl _) _).alloc (by simp) _
  have HB0 := Lib.hid B0; clear B0
  have HVA := Lib.hid (fun W => rcvoid_c nm op k n x s y W); have HVB := Lib.hid (fun W => rcvoid_c nm2 op2 k2 n2 x2 s2 y2 W)
  have HCM := Lib.hid (fun W => rcompare_c k n x s y k2 n2 x2 s2 y2 hx hx2 hs hs2 W)
  have HX := Lib.hid hx; have HX2 := Lib.hid hx2; have HS := Lib.hid hs; have HS2 := Lib.hid hs2; clear hx hx2 hs hs2
  go_enter Tryd.func41, Tryd.ntmps41
  go_wp2_with fail
  refine (HVA.out _).mono ?_
  rw [hvA]
  rintro e w1 ⟨rfl, hb⟩
  have hA1 : Below (w.heap.size + 2) ((w.alloc (.cells (cnds nm op k n x s y) 55)).alloc (.cells (cnds nm2 op2 k2 n2 x2 s2 y2) 55)) w1 := by simpa using hb
  have z1 : w.heap.size + 2 ≤ w1.heap.size := by have := hA1.size; simpa using this
  obtain ⟨va, vb⟩ := two_lay hA1
  have a0 := va 0 _ rfl; have a1 := va 1 _ rfl; have a2 := va 2 _ rfl; have a3 := va 3 _ rfl; have a4 := va 4 _ rfl; have a5 := va 5 _ rfl; have a6 := va 6 _ rfl
  have b0 := vb 0 _ rfl; have b1 := vb 1 _ rfl; have b2 := vb 2 _ rfl; have b3 := vb 3 _ rfl; have b4 := vb 4 _ rfl; have b5 := vb 5 _ rfl; have b6 := vb 6 _ rfl
  clear va vb
  have HA1 := Lib.hid hA1; clear hb hA1
  go_wp2_with fail
  go_ret
  exact ⟨rfl, HB0.out.trans (HA1.out.mono (by omega))⟩
set_option maxHeartbeats 2000000 in
theorem rimplies_has (nm : ByteArray) (op k n : Int) (x : Nat) (s : ByteArray) (y : Bool) (nm2 : ByteArray) (op2 k2 n2 : Int) (x2 : Nat) (s2 : ByteArray) (y2 : Bool) (hx : x < 18446744073709551616) (hx2 : x2 < 18446744073709551616) (hs : s.size ≤ 9223372036854775807) (hs2 : s2.size ≤ 9223372036854775807) (w : World) (hn : (nm.toList == nm2.toList) = true) (hvA : cvoidB ⟨⟨nm, k, n, x, s, y⟩, op⟩ = false) (h7 : (op2 == 7) = true) :
    Calls Tryd.prog 41 #[cnd nm op k n x s y, cnd nm2 op2 k2 n2 x2 s2 y2] w fun e w' => e = .returned (.bool (true)) ∧ Below w.heap.size w w' := by
  have B0 : Below w.heap.size w ((w.alloc (.cells (cnds nm op k n x s y) 55)).alloc (.cells (cnds nm2 op2 k2 n2 x2 s2 y2) 55)) := ((Below.refl _ _).alloc (Nat.le_refl _) _).alloc (by simp) _
  have HB0 := Lib.hid B0; clear B0
  have HVA := Lib.hid (fun W => rcvoid_c nm op k n x s y W); have HVB := Lib.hid (fun W => rcvoid_c nm2 op2 k2 n2 x2 s2 y2 W)
  have HCM := Lib.hid (fun W => rcompare_c k n x s y k2 n2 x2 s2 y2 hx hx2 hs hs2 W)
  have HX := Lib.hid hx; have HX2 := Lib.hid hx2; have HS := Lib.hid hs; have HS2 := Lib.hid hs2; clear hx hx2 hs hs2
  go_enter Tryd.func41, Tryd.ntmps41
  go_wp2_with fail
  refine (HVA.out _).mono ?_
  rw [hvA]
  rintro e w1 ⟨rfl, hb⟩
  have hA1 : Below (w.heap.size + 2) ((w.alloc (.cells (cnds nm op k n x s y) 55)).alloc (.cells (cnds nm2 op2 k2 n2 x2 s2 y2) 55)) w1 := by simpa using hb
  have z1 : w.heap.size + 2 ≤ w1.heap.size := by have := hA1.size; simpa using this
  obtain ⟨va, vb⟩ := two_lay hA1
  have a0 := va 0 _ rfl; have a1 := va 1 _ rfl; have a2 := va 2 _ rfl; have a3 := va 3 _ rfl; have a4 := va 4 _ rfl; have a5 := va 5 _ rfl; have a6 := va 6 _ rfl
  have b0 := vb 0 _ rfl; have b1 := vb 1 _ rfl; have b2 := vb 2 _ rfl; have b3 := vb 3 _ rfl; have b4 := vb 4 _ rfl; have b5 := vb 5 _ rfl; have b6 := vb 6 _ rfl
  clear va vb
  have HA1 := Lib.hid hA1; clear hb hA1
  go_wp2_with fail
  go_ret
  exact ⟨rfl, HB0.out.trans (HA1.out.mono (by omega))⟩
set_option maxHeartbeats 2000000 in
theorem rimplies_hasA (nm : ByteArray) (op k n : Int) (x : Nat) (s : ByteArray) (y : Bool) (nm2 : ByteArray) (op2 k2 n2 : Int) (x2 : Nat) (s2 : ByteArray) (y2 : Bool) (hx : x < 18446744073709551616) (hx2 : x2 < 18446744073709551616) (hs : s.size ≤ 9223372036854775807) (hs2 : s2.size ≤ 9223372036854775807) (w : World) (hn : (nm.toList == nm2.toList) = true) (hvA : cvoidB ⟨⟨nm, k, n, x, s, y⟩, op⟩ = false) (h7 : (op2 == 7) = false) (g7 : (op == 7) = true) :
    Calls Tryd.prog 41 #[cnd nm op k n x s y, cnd nm2 op2 k2 n2 x2 s2 y2] w fun e w' => e = .returned (.bool (false)) ∧ Below w.heap.size w w' := by
  have B0 : Below w.heap.size w ((w.alloc (.cells (cnds nm op k n x s y) 55)).alloc (.cells (cnds nm2 op2 k2 n2 x2 s2 y2) 55)) := ((Below.refl _ _).alloc (Nat.le_refl _) _).alloc (by simp) _
  have HB0 := Lib.hid B0; clear B0
  have HVA := Lib.hid (fun W => rcvoid_c nm op k n x s y W); have HVB := Lib.hid (fun W => rcvoid_c nm2 op2 k2 n2 x2 s2 y2 W)
  have HCM := Lib.hid (fun W => rcompare_c k n x s y k2 n2 x2 s2 y2 hx hx2 hs hs2 W)
  have HX := Lib.hid hx; have HX2 := Lib.hid hx2; have HS := Lib.hid hs; have HS2 := Lib.hid hs2; clear hx hx2 hs hs2
  go_enter Tryd.func41, Tryd.ntmps41
  go_wp2_with fail
  refine (HVA.out _).mono ?_
  rw [hvA]
  rintro e w1 ⟨rfl, hb⟩
  have hA1 : Below (w.heap.size + 2) ((w.alloc (.cells (cnds nm op k n x s y) 55)).alloc (.cells (cnds nm2 op2 k2 n2 x2 s2 y2) 55)) w1 := by simpa using hb
  have z1 : w.heap.size + 2 ≤ w1.heap.size := by have := hA1.size; simpa using this
  obtain ⟨va, vb⟩ := two_lay hA1
  have a0 := va 0 _ rfl; have a1 := va 1 _ rfl; have a2 := va 2 _ rfl; have a3 := va 3 _ rfl; have a4 := va 4 _ rfl; have a5 := va 5 _ rfl; have a6 := va 6 _ rfl
  have b0 := vb 0 _ rfl; have b1 := vb 1 _ rfl; have b2 := vb 2 _ rfl; have b3 := vb 3 _ rfl; have b4 := vb 4 _ rfl; have b5 := vb 5 _ rfl; have b6 := vb 6 _ rfl
  clear va vb
  have HA1 := Lib.hid hA1; clear hb hA1
  go_wp2_with fail
  go_ret
  exact ⟨rfl, HB0.out.trans (HA1.out.mono (by omega))⟩
set_option maxHeartbeats 2000000 in
theorem rimplies_voidB (nm : ByteArray) (op k n : Int) (x : Nat) (s : ByteArray) (y : Bool) (nm2 : ByteArray) (op2 k2 n2 : Int) (x2 : Nat) (s2 : ByteArray) (y2 : Bool) (hx : x < 18446744073709551616) (hx2 : x2 < 18446744073709551616) (hs : s.size ≤ 9223372036854775807) (hs2 : s2.size ≤ 9223372036854775807) (w : World) (hn : (nm.toList == nm2.toList) = true) (hvA : cvoidB ⟨⟨nm, k, n, x, s, y⟩, op⟩ = false) (h7 : (op2 == 7) = false) (g7 : (op == 7) = false) (hvB : cvoidB ⟨⟨nm2, k2, n2, x2, s2, y2⟩, op2⟩ = true) :
    Calls Tryd.prog 41 #[cnd nm op k n x s y, cnd nm2 op2 k2 n2 x2 s2 y2] w fun e w' => e = .returned (.bool (false)) ∧ Below w.heap.size w w' := by
  have B0 : Below w.heap.size w ((w.alloc (.cells (cnds nm op k n x s y) 55)).alloc (.cells (cnds nm2 op2 k2 n2 x2 s2 y2) 55)) := ((Below.refl _ _).alloc (Nat.le_refl _) _).alloc (by simp) _
  have HB0 := Lib.hid B0; clear B0
  have HVA := Lib.hid (fun W => rcvoid_c nm op k n x s y W); have HVB := Lib.hid (fun W => rcvoid_c nm2 op2 k2 n2 x2 s2 y2 W)
  have HCM := Lib.hid (fun W => rcompare_c k n x s y k2 n2 x2 s2 y2 hx hx2 hs hs2 W)
  have HX := Lib.hid hx; have HX2 := Lib.hid hx2; have HS := Lib.hid hs; have HS2 := Lib.hid hs2; clear hx hx2 hs hs2
  go_enter Tryd.func41, Tryd.ntmps41
  go_wp2_with fail
  refine (HVA.out _).mono ?_
  rw [hvA]
  rintro e w1 ⟨rfl, hb⟩
  have hA1 : Below (w.heap.size + 2) ((w.alloc (.cells (cnds nm op k n x s y) 55)).alloc (.cells (cnds nm2 op2 k2 n2 x2 s2 y2) 55)) w1 := by simpa using hb
  have z1 : w.heap.size + 2 ≤ w1.heap.size := by have := hA1.size; simpa using this
  obtain ⟨va, vb⟩ := two_lay hA1
  have a0 := va 0 _ rfl; have a1 := va 1 _ rfl; have a2 := va 2 _ rfl; have a3 := va 3 _ rfl; have a4 := va 4 _ rfl; have a5 := va 5 _ rfl; have a6 := va 6 _ rfl
  have b0 := vb 0 _ rfl; have b1 := vb 1 _ rfl; have b2 := vb 2 _ rfl; have b3 := vb 3 _ rfl; have b4 := vb 4 _ rfl; have b5 := vb 5 _ rfl; have b6 := vb 6 _ rfl
  clear va vb
  have HA1 := Lib.hid hA1; clear hb hA1
  go_wp2_with fail
  clear a0 a1 a2 a3 a4 a5 a6 b0 b1 b2 b3 b4 b5 b6
  refine (HVB.out _).mono ?_
  rw [hvB]
  rintro e w2 ⟨rfl, hb⟩
  have hA2 := HA1.out.trans (hb.mono z1)
  have z2 : w.heap.size + 2 ≤ w2.heap.size := by have := hA2.size; simpa using this
  obtain ⟨va, vb⟩ := two_lay hA2
  have a0 := va 0 _ rfl; have a1 := va 1 _ rfl; have a2 := va 2 _ rfl; have a3 := va 3 _ rfl; have a4 := va 4 _ rfl; have a5 := va 5 _ rfl; have a6 := va 6 _ rfl
  have b0 := vb 0 _ rfl; have b1 := vb 1 _ rfl; have b2 := vb 2 _ rfl; have b3 := vb 3 _ rfl; have b4 := vb 4 _ rfl; have b5 := vb 5 _ rfl; have b6 := vb 6 _ rfl
  clear va vb
  have HA2 := Lib.hid hA2; clear hb hA2
  go_wp2_with fail
  go_ret
  exact ⟨rfl, HB0.out.trans (HA2.out.mono (by omega))⟩
set_option maxHeartbeats 2000000 in
theorem rimplies_kinds (nm : ByteArray) (op k n : Int) (x : Nat) (s : ByteArray) (y : Bool) (nm2 : ByteArray) (op2 k2 n2 : Int) (x2 : Nat) (s2 : ByteArray) (y2 : Bool) (hx : x < 18446744073709551616) (hx2 : x2 < 18446744073709551616) (hs : s.size ≤ 9223372036854775807) (hs2 : s2.size ≤ 9223372036854775807) (w : World) (hn : (nm.toList == nm2.toList) = true) (hvA : cvoidB ⟨⟨nm, k, n, x, s, y⟩, op⟩ = false) (h7 : (op2 == 7) = false) (g7 : (op == 7) = false) (hvB : cvoidB ⟨⟨nm2, k2, n2, x2, s2, y2⟩, op2⟩ = false) (hk : (k != k2) = true) :
    Calls Tryd.prog 41 #[cnd nm op k n x s y, cnd nm2 op2 k2 n2 x2 s2 y2] w fun e w' => e = .returned (.bool (false)) ∧ Below w.heap.size w w' := by
  have B0 : Below w.heap.size w ((w.alloc (.cells (cnds nm op k n x s y) 55)).alloc (.cells (cnds nm2 op2 k2 n2 x2 s2 y2) 55)) := ((Below.refl _ _).alloc (Nat.le_refl _) _).alloc (by simp) _
  have HB0 := Lib.hid B0; clear B0
  have HVA := Lib.hid (fun W => rcvoid_c nm op k n x s y W); have HVB := Lib.hid (fun W => rcvoid_c nm2 op2 k2 n2 x2 s2 y2 W)
  have HCM := Lib.hid (fun W => rcompare_c k n x s y k2 n2 x2 s2 y2 hx hx2 hs hs2 W)
  have HX := Lib.hid hx; have HX2 := Lib.hid hx2; have HS := Lib.hid hs; have HS2 := Lib.hid hs2; clear hx hx2 hs hs2
  go_enter Tryd.func41, Tryd.ntmps41
  go_wp2_with fail
  refine (HVA.out _).mono ?_
  rw [hvA]
  rintro e w1 ⟨rfl, hb⟩
  have hA1 : Below (w.heap.size + 2) ((w.alloc (.cells (cnds nm op k n x s y) 55)).alloc (.cells (cnds nm2 op2 k2 n2 x2 s2 y2) 55)) w1 := by simpa using hb
  have z1 : w.heap.size + 2 ≤ w1.heap.size := by have := hA1.size; simpa using this
  obtain ⟨va, vb⟩ := two_lay hA1
  have a0 := va 0 _ rfl; have a1 := va 1 _ rfl; have a2 := va 2 _ rfl; have a3 := va 3 _ rfl; have a4 := va 4 _ rfl; have a5 := va 5 _ rfl; have a6 := va 6 _ rfl
  have b0 := vb 0 _ rfl; have b1 := vb 1 _ rfl; have b2 := vb 2 _ rfl; have b3 := vb 3 _ rfl; have b4 := vb 4 _ rfl; have b5 := vb 5 _ rfl; have b6 := vb 6 _ rfl
  clear va vb
  have HA1 := Lib.hid hA1; clear hb hA1
  go_wp2_with fail
  clear a0 a1 a2 a3 a4 a5 a6 b0 b1 b2 b3 b4 b5 b6
  refine (HVB.out _).mono ?_
  rw [hvB]
  rintro e w2 ⟨rfl, hb⟩
  have hA2 := HA1.out.trans (hb.mono z1)
  have z2 : w.heap.size + 2 ≤ w2.heap.size := by have := hA2.size; simpa using this
  obtain ⟨va, vb⟩ := two_lay hA2
  have a0 := va 0 _ rfl; have a1 := va 1 _ rfl; have a2 := va 2 _ rfl; have a3 := va 3 _ rfl; have a4 := va 4 _ rfl; have a5 := va 5 _ rfl; have a6 := va 6 _ rfl
  have b0 := vb 0 _ rfl; have b1 := vb 1 _ rfl; have b2 := vb 2 _ rfl; have b3 := vb 3 _ rfl; have b4 := vb 4 _ rfl; have b5 := vb 5 _ rfl; have b6 := vb 6 _ rfl
  clear va vb
  have HA2 := Lib.hid hA2; clear hb hA2
  go_wp2_with fail
  go_ret
  exact ⟨rfl, HB0.out.trans (HA2.out.mono (by omega))⟩
set_option maxHeartbeats 2000000 in
theorem rimplies_eq (nm : ByteArray) (op k n : Int) (x : Nat) (s : ByteArray) (y : Bool) (nm2 : ByteArray) (op2 k2 n2 : Int) (x2 : Nat) (s2 : ByteArray) (y2 : Bool) (hx : x < 18446744073709551616) (hx2 : x2 < 18446744073709551616) (hs : s.size ≤ 9223372036854775807) (hs2 : s2.size ≤ 9223372036854775807) (w : World) (hn : (nm.toList == nm2.toList) = true) (hvA : cvoidB ⟨⟨nm, k, n, x, s, y⟩, op⟩ = false) (h7 : (op2 == 7) = false) (g7 : (op == 7) = false) (hvB : cvoidB ⟨⟨nm2, k2, n2, x2, s2, y2⟩, op2⟩ = false) (hk : (k != k2) = false) (hok : cmpOk k x k2 x2 = true) (o0 : (op == 0) = true) :
    Calls Tryd.prog 41 #[cnd nm op k n x s y, cnd nm2 op2 k2 n2 x2 s2 y2] w fun e w' => e = .returned (.bool (holdsB ⟨⟨nm2, k2, n2, x2, s2, y2⟩, op2⟩ ⟨nm, k, n, x, s, y⟩)) ∧ Below w.heap.size w w' := by
  have B0 : Below w.heap.size w ((w.alloc (.cells (cnds nm op k n x s y) 55)).alloc (.cells (cnds nm2 op2 k2 n2 x2 s2 y2) 55)) := ((Below.refl _ _).alloc (Nat.le_refl _) _).alloc (by simp) _
  have HB0 := Lib.hid B0; clear B0
  have HVA := Lib.hid (fun W => rcvoid_c nm op k n x s y W); have HVB := Lib.hid (fun W => rcvoid_c nm2 op2 k2 n2 x2 s2 y2 W)
  have HCM := Lib.hid (fun W => rcompare_c k n x s y k2 n2 x2 s2 y2 hx hx2 hs hs2 W)
  have HX := Lib.hid hx; have HX2 := Lib.hid hx2; have HS := Lib.hid hs; have HS2 := Lib.hid hs2; clear hx hx2 hs hs2
  go_enter Tryd.func41, Tryd.ntmps41
  go_wp2_with fail
  refine (HVA.out _).mono ?_
  rw [hvA]
  rintro e w1 ⟨rfl, hb⟩
  have hA1 : Below (w.heap.size + 2) ((w.alloc (.cells (cnds nm op k n x s y) 55)).alloc (.cells (cnds nm2 op2 k2 n2 x2 s2 y2) 55)) w1 := by simpa using hb
  have z1 : w.heap.size + 2 ≤ w1.heap.size := by have := hA1.size; simpa using this
  obtain ⟨va, vb⟩ := two_lay hA1
  have a0 := va 0 _ rfl; have a1 := va 1 _ rfl; have a2 := va 2 _ rfl; have a3 := va 3 _ rfl; have a4 := va 4 _ rfl; have a5 := va 5 _ rfl; have a6 := va 6 _ rfl
  have b0 := vb 0 _ rfl; have b1 := vb 1 _ rfl; have b2 := vb 2 _ rfl; have b3 := vb 3 _ rfl; have b4 := vb 4 _ rfl; have b5 := vb 5 _ rfl; have b6 := vb 6 _ rfl
  clear va vb
  have HA1 := Lib.hid hA1; clear hb hA1
  go_wp2_with fail
  clear a0 a1 a2 a3 a4 a5 a6 b0 b1 b2 b3 b4 b5 b6
  refine (HVB.out _).mono ?_
  rw [hvB]
  rintro e w2 ⟨rfl, hb⟩
  have hA2 := HA1.out.trans (hb.mono z1)
  have z2 : w.heap.size + 2 ≤ w2.heap.size := by have := hA2.size; simpa using this
  obtain ⟨va, vb⟩ := two_lay hA2
  have a0 := va 0 _ rfl; have a1 := va 1 _ rfl; have a2 := va 2 _ rfl; have a3 := va 3 _ rfl; have a4 := va 4 _ rfl; have a5 := va 5 _ rfl; have a6 := va 6 _ rfl
  have b0 := vb 0 _ rfl; have b1 := vb 1 _ rfl; have b2 := vb 2 _ rfl; have b3 := vb 3 _ rfl; have b4 := vb 4 _ rfl; have b5 := vb 5 _ rfl; have b6 := vb 6 _ rfl
  clear va vb
  have HA2 := Lib.hid hA2; clear hb hA2
  go_wp2_with fail
  clear a0 a1 a2 a3 a4 a5 a6 b0 b1 b2 b3 b4 b5 b6
  refine (HCM.out _).mono ?_
  rw [hok]
  rintro e w3 ⟨rfl, hb⟩
  have hA3 := HA2.out.trans (hb.mono z2)
  have z3 : w.heap.size + 2 ≤ w3.heap.size := by have := hA3.size; simpa using this
  obtain ⟨va, vb⟩ := two_lay hA3
  have a0 := va 0 _ rfl; have a1 := va 1 _ rfl; have a2 := va 2 _ rfl; have a3 := va 3 _ rfl; have a4 := va 4 _ rfl; have a5 := va 5 _ rfl; have a6 := va 6 _ rfl
  have b0 := vb 0 _ rfl; have b1 := vb 1 _ rfl; have b2 := vb 2 _ rfl; have b3 := vb 3 _ rfl; have b4 := vb 4 _ rfl; have b5 := vb 5 _ rfl; have b6 := vb 6 _ rfl
  clear va vb
  have HA3 := Lib.hid hA3; clear hb hA3
  go_wp2_with fail
  clear a0 a1 a2 a3 a4 a5 a6 b0 b1 b2 b3 b4 b5 b6
  refine (rholds_c nm2 op2 k2 n2 x2 s2 y2 nm k n x s y HX2.out HX.out HS2.out HS.out _).mono ?_
  rintro e w4 ⟨rfl, hb⟩
  have hA4 := HA3.out.trans (hb.mono z3)
  have z4 : w.heap.size + 2 ≤ w4.heap.size := by have := hA4.size; simpa using this
  obtain ⟨va, vb⟩ := two_lay hA4
  have a0 := va 0 _ rfl; have a1 := va 1 _ rfl; have a2 := va 2 _ rfl; have a3 := va 3 _ rfl; have a4 := va 4 _ rfl; have a5 := va 5 _ rfl; have a6 := va 6 _ rfl
  have b0 := vb 0 _ rfl; have b1 := vb 1 _ rfl; have b2 := vb 2 _ rfl; have b3 := vb 3 _ rfl; have b4 := vb 4 _ rfl; have b5 := vb 5 _ rfl; have b6 := vb 6 _ rfl
  clear va vb
  have HA4 := Lib.hid hA4; clear hb hA4
  go_wp2_with fail
  go_ret
  exact ⟨rfl, HB0.out.trans (HA4.out.mono (by omega))⟩
set_option maxHeartbeats 2000000 in
theorem rimplies_ne0 (nm : ByteArray) (op k n : Int) (x : Nat) (s : ByteArray) (y : Bool) (nm2 : ByteArray) (op2 k2 n2 : Int) (x2 : Nat) (s2 : ByteArray) (y2 : Bool) (hx : x < 18446744073709551616) (hx2 : x2 < 18446744073709551616) (hs : s.size ≤ 9223372036854775807) (hs2 : s2.size ≤ 9223372036854775807) (w : World) (hn : (nm.toList == nm2.toList) = true) (hvA : cvoidB ⟨⟨nm, k, n, x, s, y⟩, op⟩ = false) (h7 : (op2 == 7) = false) (g7 : (op == 7) = false) (hvB : cvoidB ⟨⟨nm2, k2, n2, x2, s2, y2⟩, op2⟩ = false) (hk : (k != k2) = false) (hok : cmpOk k x k2 x2 = true) (o0 : (op == 0) = false) (o1 : (op == 1) = true) (q1 : (op2 == 1) = false) :
    Calls Tryd.prog 41 #[cnd nm op k n x s y, cnd nm2 op2 k2 n2 x2 s2 y2] w fun e w' => e = .returned (.bool (false)) ∧ Below w.heap.size w w' := by
  have B0 : Below w.heap.size w ((w.alloc (.cells (cnds nm op k n x s y) 55)).alloc (.cells (cnds nm2 op2 k2 n2 x2 s2 y2) 55)) := ((Below.refl _ _).alloc (Nat.le_refl _) _).alloc (by simp) _
  have HB0 := Lib.hid B0; clear B0
  have HVA := Lib.hid (fun W => rcvoid_c nm op k n x s y W); have HVB := Lib.hid (fun W => rcvoid_c nm2 op2 k2 n2 x2 s2 y2 W)
  have HCM := Lib.hid (fun W => rcompare_c k n x s y k2 n2 x2 s2 y2 hx hx2 hs hs2 W)
  have HX := Lib.hid hx; have HX2 := Lib.hid hx2; have HS := Lib.hid hs; have HS2 := Lib.hid hs2; clear hx hx2 hs hs2
  go_enter Tryd.func41, Tryd.ntmps41
  go_wp2_with fail
  refine (HVA.out _).mono ?_
  rw [hvA]
  rintro e w1 ⟨rfl, hb⟩
  have hA1 : Below (w.heap.size + 2) ((w.alloc (.cells (cnds nm op k n x s y) 55)).alloc (.cells (cnds nm2 op2 k2 n2 x2 s2 y2) 55)) w1 := by simpa using hb
  have z1 : w.heap.size + 2 ≤ w1.heap.size := by have := hA1.size; simpa using this
  obtain ⟨va, vb⟩ := two_lay hA1
  have a0 := va 0 _ rfl; have a1 := va 1 _ rfl; have a2 := va 2 _ rfl; have a3 := va 3 _ rfl; have a4 := va 4 _ rfl; have a5 := va 5 _ rfl; have a6 := va 6 _ rfl
  have b0 := vb 0 _ rfl; have b1 := vb 1 _ rfl; have b2 := vb 2 _ rfl; have b3 := vb 3 _ rfl; have b4 := vb 4 _ rfl; have b5 := vb 5 _ rfl; have b6 := vb 6 _ rfl
  clear va vb
  have HA1 := Lib.hid hA1; clear hb hA1
  go_wp2_with fail
  clear a0 a1 a2 a3 a4 a5 a6 b0 b1 b2 b3 b4 b5 b6
  refine (HVB.out _).mono ?_
  rw [hvB]
  rintro e w2 ⟨rfl, hb⟩
  have hA2 := HA1.out.trans (hb.mono z1)
  have z2 : w.heap.size + 2 ≤ w2.heap.size := by have := hA2.size; simpa using this
  obtain ⟨va, vb⟩ := two_lay hA2
  have a0 := va 0 _ rfl; have a1 := va 1 _ rfl; have a2 := va 2 _ rfl; have a3 := va 3 _ rfl; have a4 := va 4 _ rfl; have a5 := va 5 _ rfl; have a6 := va 6 _ rfl
  have b0 := vb 0 _ rfl; have b1 := vb 1 _ rfl; have b2 := vb 2 _ rfl; have b3 := vb 3 _ rfl; have b4 := vb 4 _ rfl; have b5 := vb 5 _ rfl; have b6 := vb 6 _ rfl
  clear va vb
  have HA2 := Lib.hid hA2; clear hb hA2
  go_wp2_with fail
  clear a0 a1 a2 a3 a4 a5 a6 b0 b1 b2 b3 b4 b5 b6
  refine (HCM.out _).mono ?_
  rw [hok]
  rintro e w3 ⟨rfl, hb⟩
  have hA3 := HA2.out.trans (hb.mono z2)
  have z3 : w.heap.size + 2 ≤ w3.heap.size := by have := hA3.size; simpa using this
  obtain ⟨va, vb⟩ := two_lay hA3
  have a0 := va 0 _ rfl; have a1 := va 1 _ rfl; have a2 := va 2 _ rfl; have a3 := va 3 _ rfl; have a4 := va 4 _ rfl; have a5 := va 5 _ rfl; have a6 := va 6 _ rfl
  have b0 := vb 0 _ rfl; have b1 := vb 1 _ rfl; have b2 := vb 2 _ rfl; have b3 := vb 3 _ rfl; have b4 := vb 4 _ rfl; have b5 := vb 5 _ rfl; have b6 := vb 6 _ rfl
  clear va vb
  have HA3 := Lib.hid hA3; clear hb hA3
  go_wp2_with fail
  go_ret
  exact ⟨rfl, HB0.out.trans (HA3.out.mono (by omega))⟩
set_option maxHeartbeats 2000000 in
theorem rimplies_ne1 (nm : ByteArray) (op k n : Int) (x : Nat) (s : ByteArray) (y : Bool) (nm2 : ByteArray) (op2 k2 n2 : Int) (x2 : Nat) (s2 : ByteArray) (y2 : Bool) (hx : x < 18446744073709551616) (hx2 : x2 < 18446744073709551616) (hs : s.size ≤ 9223372036854775807) (hs2 : s2.size ≤ 9223372036854775807) (w : World) (hn : (nm.toList == nm2.toList) = true) (hvA : cvoidB ⟨⟨nm, k, n, x, s, y⟩, op⟩ = false) (h7 : (op2 == 7) = false) (g7 : (op == 7) = false) (hvB : cvoidB ⟨⟨nm2, k2, n2, x2, s2, y2⟩, op2⟩ = false) (hk : (k != k2) = false) (hok : cmpOk k x k2 x2 = true) (o0 : (op == 0) = false) (o1 : (op == 1) = true) (q1 : (op2 == 1) = true) :
    Calls Tryd.prog 41 #[cnd nm op k n x s y, cnd nm2 op2 k2 n2 x2 s2 y2] w fun e w' => e = .returned (.bool (cmpR k n x s y k2 n2 x2 s2 y2 == 0)) ∧ Below w.heap.size w w' := by
  have B0 : Below w.heap.size w ((w.alloc (.cells (cnds nm op k n x s y) 55)).alloc (.cells (cnds nm2 op2 k2 n2 x2 s2 y2) 55)) := ((Below.refl _ _).alloc (Nat.le_refl _) _).alloc (by simp) _
  have HB0 := Lib.hid B0; clear B0
  have HVA := Lib.hid (fun W => rcvoid_c nm op k n x s y W); have HVB := Lib.hid (fun W => rcvoid_c nm2 op2 k2 n2 x2 s2 y2 W)
  have HCM := Lib.hid (fun W => rcompare_c k n x s y k2 n2 x2 s2 y2 hx hx2 hs hs2 W)
  have HX := Lib.hid hx; have HX2 := Lib.hid hx2; have HS := Lib.hid hs; have HS2 := Lib.hid hs2; clear hx hx2 hs hs2
  go_enter Tryd.func41, Tryd.ntmps41
  go_wp2_with fail
  refine (HVA.out _).mono ?_
  rw [hvA]
  rintro e w1 ⟨rfl, hb⟩
  have hA1 : Below (w.heap.size + 2) ((w.alloc (.cells (cnds nm op k n x s y) 55)).alloc (.cells (cnds nm2 op2 k2 n2 x2 s2 y2) 55)) w1 := by simpa using hb
  have z1 : w.heap.size + 2 ≤ w1.heap.size := by have := hA1.size; simpa using this
  obtain ⟨va, vb⟩ := two_lay hA1
  have a0 := va 0 _ rfl; have a1 := va 1 _ rfl; have a2 := va 2 _ rfl; have a3 := va 3 _ rfl; have a4 := va 4 _ rfl; have a5 := va 5 _ rfl; have a6 := va 6 _ rfl
  have b0 := vb 0 _ rfl; have b1 := vb 1 _ rfl; have b2 := vb 2 _ rfl; have b3 := vb 3 _ rfl; have b4 := vb 4 _ rfl; have b5 := vb 5 _ rfl; have b6 := vb 6 _ rfl
  clear va vb
  have HA1 := Lib.hid hA1; clear hb hA1
  go_wp2_with fail
  clear a0 a1 a2 a3 a4 a5 a6 b0 b1 b2 b3 b4 b5 b6
  refine (HVB.out _).mono ?_
  rw [hvB]
  rintro e w2 ⟨rfl, hb⟩
  have hA2 := HA1.out.trans (hb.mono z1)
  have z2 : w.heap.size + 2 ≤ w2.heap.size := by have := hA2.size; simpa using this
  obtain ⟨va, vb⟩ := two_lay hA2
  have a0 := va 0 _ rfl; have a1 := va 1 _ rfl; have a2 := va 2 _ rfl; have a3 := va 3 _ rfl; have a4 := va 4 _ rfl; have a5 := va 5 _ rfl; have a6 := va 6 _ rfl
  have b0 := vb 0 _ rfl; have b1 := vb 1 _ rfl; have b2 := vb 2 _ rfl; have b3 := vb 3 _ rfl; have b4 := vb 4 _ rfl; have b5 := vb 5 _ rfl; have b6 := vb 6 _ rfl
  clear va vb
  have HA2 := Lib.hid hA2; clear hb hA2
  go_wp2_with fail
  clear a0 a1 a2 a3 a4 a5 a6 b0 b1 b2 b3 b4 b5 b6
  refine (HCM.out _).mono ?_
  rw [hok]
  rintro e w3 ⟨rfl, hb⟩
  have hA3 := HA2.out.trans (hb.mono z2)
  have z3 : w.heap.size + 2 ≤ w3.heap.size := by have := hA3.size; simpa using this
  obtain ⟨va, vb⟩ := two_lay hA3
  have a0 := va 0 _ rfl; have a1 := va 1 _ rfl; have a2 := va 2 _ rfl; have a3 := va 3 _ rfl; have a4 := va 4 _ rfl; have a5 := va 5 _ rfl; have a6 := va 6 _ rfl
  have b0 := vb 0 _ rfl; have b1 := vb 1 _ rfl; have b2 := vb 2 _ rfl; have b3 := vb 3 _ rfl; have b4 := vb 4 _ rfl; have b5 := vb 5 _ rfl; have b6 := vb 6 _ rfl
  clear va vb
  have HA3 := Lib.hid hA3; clear hb hA3
  go_wp2_with fail
  go_ret
  exact ⟨rfl, HB0.out.trans (HA3.out.mono (by omega))⟩
set_option maxHeartbeats 2000000 in
theorem rimplies_lt (nm : ByteArray) (op k n : Int) (x : Nat) (s : ByteArray) (y : Bool) (nm2 : ByteArray) (op2 k2 n2 : Int) (x2 : Nat) (s2 : ByteArray) (y2 : Bool) (hx : x < 18446744073709551616) (hx2 : x2 < 18446744073709551616) (hs : s.size ≤ 9223372036854775807) (hs2 : s2.size ≤ 9223372036854775807) (w : World) (hn : (nm.toList == nm2.toList) = true) (hvA : cvoidB ⟨⟨nm, k, n, x, s, y⟩, op⟩ = false) (h7 : (op2 == 7) = false) (g7 : (op == 7) = false) (hvB : cvoidB ⟨⟨nm2, k2, n2, x2, s2, y2⟩, op2⟩ = false) (hk : (k != k2) = false) (hok : cmpOk k x k2 x2 = true) (o0 : (op == 0) = false) (o1 : (op == 1) = false) (o2 : (op == 2) = true) :
    Calls Tryd.prog 41 #[cnd nm op k n x s y, cnd nm2 op2 k2 n2 x2 s2 y2] w fun e w' => e = .returned (.bool (sideI op op2 (cmpR k n x s y k2 n2 x2 s2 y2) 2 3)) ∧ Below w.heap.size w w' := by
  have B0 : Below w.heap.size w ((w.alloc (.cells (cnds nm op k n x s y) 55)).alloc (.cells (cnds nm2 op2 k2 n2 x2 s2 y2) 55)) := ((Below.refl _ _).alloc (Nat.le_refl _) _).alloc (by simp) _
  have HB0 := Lib.hid B0; clear B0
  have HVA := Lib.hid (fun W => rcvoid_c nm op k n x s y W); have HVB := Lib.hid (fun W => rcvoid_c nm2 op2 k2 n2 x2 s2 y2 W)
  have HCM := Lib.hid (fun W => rcompare_c k n x s y k2 n2 x2 s2 y2 hx hx2 hs hs2 W)
  have HX := Lib.hid hx; have HX2 := Lib.hid hx2; have HS := Lib.hid hs; have HS2 := Lib.hid hs2; clear hx hx2 hs hs2
  go_enter Tryd.func41, Tryd.ntmps41
  go_wp2_with fail
  refine (HVA.out _).mono ?_
  rw [hvA]
  rintro e w1 ⟨rfl, hb⟩
  have hA1 : Below (w.heap.size + 2) ((w.alloc (.cells (cnds nm op k n x s y) 55)).alloc (.cells (cnds nm2 op2 k2 n2 x2 s2 y2) 55)) w1 := by simpa using hb
  have z1 : w.heap.size + 2 ≤ w1.heap.size := by have := hA1.size; simpa using this
  obtain ⟨va, vb⟩ := two_lay hA1
  have a0 := va 0 _ rfl; have a1 := va 1 _ rfl; have a2 := va 2 _ rfl; have a3 := va 3 _ rfl; have a4 := va 4 _ rfl; have a5 := va 5 _ rfl; have a6 := va 6 _ rfl
  have b0 := vb 0 _ rfl; have b1 := vb 1 _ rfl; have b2 := vb 2 _ rfl; have b3 := vb 3 _ rfl; have b4 := vb 4 _ rfl; have b5 := vb 5 _ rfl; have b6 := vb 6 _ rfl
  clear va vb
  have HA1 := Lib.hid hA1; clear hb hA1
  go_wp2_with fail
  clear a0 a1 a2 a3 a4 a5 a6 b0 b1 b2 b3 b4 b5 b6
  refine (HVB.out _).mono ?_
  rw [hvB]
  rintro e w2 ⟨rfl, hb⟩
  have hA2 := HA1.out.trans (hb.mono z1)
  have z2 : w.heap.size + 2 ≤ w2.heap.size := by have := hA2.size; simpa using this
  obtain ⟨va, vb⟩ := two_lay hA2
  have a0 := va 0 _ rfl; have a1 := va 1 _ rfl; have a2 := va 2 _ rfl; have a3 := va 3 _ rfl; have a4 := va 4 _ rfl; have a5 := va 5 _ rfl; have a6 := va 6 _ rfl
  have b0 := vb 0 _ rfl; have b1 := vb 1 _ rfl; have b2 := vb 2 _ rfl; have b3 := vb 3 _ rfl; have b4 := vb 4 _ rfl; have b5 := vb 5 _ rfl; have b6 := vb 6 _ rfl
  clear va vb
  have HA2 := Lib.hid hA2; clear hb hA2
  go_wp2_with fail
  clear a0 a1 a2 a3 a4 a5 a6 b0 b1 b2 b3 b4 b5 b6
  refine (HCM.out _).mono ?_
  rw [hok]
  rintro e w3 ⟨rfl, hb⟩
  have hA3 := HA2.out.trans (hb.mono z2)
  have z3 : w.heap.size + 2 ≤ w3.heap.size := by have := hA3.size; simpa using this
  obtain ⟨va, vb⟩ := two_lay hA3
  have a0 := va 0 _ rfl; have a1 := va 1 _ rfl; have a2 := va 2 _ rfl; have a3 := va 3 _ rfl; have a4 := va 4 _ rfl; have a5 := va 5 _ rfl; have a6 := va 6 _ rfl
  have b0 := vb 0 _ rfl; have b1 := vb 1 _ rfl; have b2 := vb 2 _ rfl; have b3 := vb 3 _ rfl; have b4 := vb 4 _ rfl; have b5 := vb 5 _ rfl; have b6 := vb 6 _ rfl
  clear va vb
  have HA3 := Lib.hid hA3; clear hb hA3
  go_wp2_with fail
  clear a0 a1 a2 a3 a4 a5 a6 b0 b1 b2 b3 b4 b5 b6
  refine (rside_lt nm op k n x s y nm2 op2 k2 n2 x2 s2 y2 _ _ (cmpR_three _ _ _ _ _ _ _ _ _ _) _ HCM.out).mono ?_
  rintro e w4 ⟨rfl, hb⟩
  have hA4 := HA3.out.trans (hb.mono z3)
  have z4 : w.heap.size + 2 ≤ w4.heap.size := by have := hA4.size; simpa using this
  obtain ⟨va, vb⟩ := two_lay hA4
  have a0 := va 0 _ rfl; have a1 := va 1 _ rfl; have a2 := va 2 _ rfl; have a3 := va 3 _ rfl; have a4 := va 4 _ rfl; have a5 := va 5 _ rfl; have a6 := va 6 _ rfl
  have b0 := vb 0 _ rfl; have b1 := vb 1 _ rfl; have b2 := vb 2 _ rfl; have b3 := vb 3 _ rfl; have b4 := vb 4 _ rfl; have b5 := vb 5 _ rfl; have b6 := vb 6 _ rfl
  clear va vb
  have HA4 := Lib.hid hA4; clear hb hA4
  go_wp2_with fail
  go_ret
  exact ⟨rfl, HB0.out.trans (HA4.out.mono (by omega))⟩
set_option maxHeartbeats 2000000 in
theorem rimplies_le (nm : ByteArray) (op k n : Int) (x : Nat) (s : ByteArray) (y : Bool) (nm2 : ByteArray) (op2 k2 n2 : Int) (x2 : Nat) (s2 : ByteArray) (y2 : Bool) (hx : x < 18446744073709551616) (hx2 : x2 < 18446744073709551616) (hs : s.size ≤ 9223372036854775807) (hs2 : s2.size ≤ 9223372036854775807) (w : World) (hn : (nm.toList == nm2.toList) = true) (hvA : cvoidB ⟨⟨nm, k, n, x, s, y⟩, op⟩ = false) (h7 : (op2 == 7) = false) (g7 : (op == 7) = false) (hvB : cvoidB ⟨⟨nm2, k2, n2, x2, s2, y2⟩, op2⟩ = false) (hk : (k != k2) = false) (hok : cmpOk k x k2 x2 = true) (o0 : (op == 0) = false) (o1 : (op == 1) = false) (o2 : (op == 2) = false) (o3 : (op == 3) = true) :
    Calls Tryd.prog 41 #[cnd nm op k n x s y, cnd nm2 op2 k2 n2 x2 s2 y2] w fun e w' => e = .returned (.bool (sideI op op2 (cmpR k n x s y k2 n2 x2 s2 y2) 2 3)) ∧ Below w.heap.size w w' := by
  have B0 : Below w.heap.size w ((w.alloc (.cells (cnds nm op k n x s y) 55)).alloc (.cells (cnds nm2 op2 k2 n2 x2 s2 y2) 55)) := ((Below.refl _ _).alloc (Nat.le_refl _) _).alloc (by simp) _
  have HB0 := Lib.hid B0; clear B0
  have HVA := Lib.hid (fun W => rcvoid_c nm op k n x s y W); have HVB := Lib.hid (fun W => rcvoid_c nm2 op2 k2 n2 x2 s2 y2 W)
  have HCM := Lib.hid (fun W => rcompare_c k n x s y k2 n2 x2 s2 y2 hx hx2 hs hs2 W)
  have HX := Lib.hid hx; have HX2 := Lib.hid hx2; have HS := Lib.hid hs; have HS2 := Lib.hid hs2; clear hx hx2 hs hs2
  go_enter Tryd.func41, Tryd.ntmps41
  go_wp2_with fail
  refine (HVA.out _).mono ?_
  rw [hvA]
  rintro e w1 ⟨rfl, hb⟩
  have hA1 : Below (w.heap.size + 2) ((w.alloc (.cells (cnds nm op k n x s y) 55)).alloc (.cells (cnds nm2 op2 k2 n2 x2 s2 y2) 55)) w1 := by simpa using hb
  have z1 : w.heap.size + 2 ≤ w1.heap.size := by have := hA1.size; simpa using this
  obtain ⟨va, vb⟩ := two_lay hA1
  have a0 := va 0 _ rfl; have a1 := va 1 _ rfl; have a2 := va 2 _ rfl; have a3 := va 3 _ rfl; have a4 := va 4 _ rfl; have a5 := va 5 _ rfl; have a6 := va 6 _ rfl
  have b0 := vb 0 _ rfl; have b1 := vb 1 _ rfl; have b2 := vb 2 _ rfl; have b3 := vb 3 _ rfl; have b4 := vb 4 _ rfl; have b5 := vb 5 _ rfl; have b6 := vb 6 _ rfl
  clear va vb
  have HA1 := Lib.hid hA1; clear hb hA1
  go_wp2_with fail
  clear a0 a1 a2 a3 a4 a5 a6 b0 b1 b2 b3 b4 b5 b6
  refine (HVB.out _).mono ?_
  rw [hvB]
  rintro e w2 ⟨rfl, hb⟩
  have hA2 := HA1.out.trans (hb.mono z1)
  have z2 : w.heap.size + 2 ≤ w2.heap.size := by have := hA2.size; simpa using this
  obtain ⟨va, vb⟩ := two_lay hA2
  have a0 := va 0 _ rfl; have a1 := va 1 _ rfl; have a2 := va 2 _ rfl; have a3 := va 3 _ rfl; have a4 := va 4 _ rfl; have a5 := va 5 _ rfl; have a6 := va 6 _ rfl
  have b0 := vb 0 _ rfl; have b1 := vb 1 _ rfl; have b2 := vb 2 _ rfl; have b3 := vb 3 _ rfl; have b4 := vb 4 _ rfl; have b5 := vb 5 _ rfl; have b6 := vb 6 _ rfl
  clear va vb
  have HA2 := Lib.hid hA2; clear hb hA2
  go_wp2_with fail
  clear a0 a1 a2 a3 a4 a5 a6 b0 b1 b2 b3 b4 b5 b6
  refine (HCM.out _).mono ?_
  rw [hok]
  rintro e w3 ⟨rfl, hb⟩
  have hA3 := HA2.out.trans (hb.mono z2)
  have z3 : w.heap.size + 2 ≤ w3.heap.size := by have := hA3.size; simpa using this
  obtain ⟨va, vb⟩ := two_lay hA3
  have a0 := va 0 _ rfl; have a1 := va 1 _ rfl; have a2 := va 2 _ rfl; have a3 := va 3 _ rfl; have a4 := va 4 _ rfl; have a5 := va 5 _ rfl; have a6 := va 6 _ rfl
  have b0 := vb 0 _ rfl; have b1 := vb 1 _ rfl; have b2 := vb 2 _ rfl; have b3 := vb 3 _ rfl; have b4 := vb 4 _ rfl; have b5 := vb 5 _ rfl; have b6 := vb 6 _ rfl
  clear va vb
  have HA3 := Lib.hid hA3; clear hb hA3
  go_wp2_with fail
  clear a0 a1 a2 a3 a4 a5 a6 b0 b1 b2 b3 b4 b5 b6
  refine (rside_lt nm op k n x s y nm2 op2 k2 n2 x2 s2 y2 _ _ (cmpR_three _ _ _ _ _ _ _ _ _ _) _ HCM.out).mono ?_
  rintro e w4 ⟨rfl, hb⟩
  have hA4 := HA3.out.trans (hb.mono z3)
  have z4 : w.heap.size + 2 ≤ w4.heap.size := by have := hA4.size; simpa using this
  obtain ⟨va, vb⟩ := two_lay hA4
  have a0 := va 0 _ rfl; have a1 := va 1 _ rfl; have a2 := va 2 _ rfl; have a3 := va 3 _ rfl; have a4 := va 4 _ rfl; have a5 := va 5 _ rfl; have a6 := va 6 _ rfl
  have b0 := vb 0 _ rfl; have b1 := vb 1 _ rfl; have b2 := vb 2 _ rfl; have b3 := vb 3 _ rfl; have b4 := vb 4 _ rfl; have b5 := vb 5 _ rfl; have b6 := vb 6 _ rfl
  clear va vb
  have HA4 := Lib.hid hA4; clear hb hA4
  go_wp2_with fail
  go_ret
  exact ⟨rfl, HB0.out.trans (HA4.out.mono (by omega))⟩
set_option maxHeartbeats 2000000 in
theorem rimplies_gt (nm : ByteArray) (op k n : Int) (x : Nat) (s : ByteArray) (y : Bool) (nm2 : ByteArray) (op2 k2 n2 : Int) (x2 : Nat) (s2 : ByteArray) (y2 : Bool) (hx : x < 18446744073709551616) (hx2 : x2 < 18446744073709551616) (hs : s.size ≤ 9223372036854775807) (hs2 : s2.size ≤ 9223372036854775807) (w : World) (hn : (nm.toList == nm2.toList) = true) (hvA : cvoidB ⟨⟨nm, k, n, x, s, y⟩, op⟩ = false) (h7 : (op2 == 7) = false) (g7 : (op == 7) = false) (hvB : cvoidB ⟨⟨nm2, k2, n2, x2, s2, y2⟩, op2⟩ = false) (hk : (k != k2) = false) (hok : cmpOk k x k2 x2 = true) (o0 : (op == 0) = false) (o1 : (op == 1) = false) (o2 : (op == 2) = false) (o3 : (op == 3) = false) (o4 : (op == 4) = true) :
    Calls Tryd.prog 41 #[cnd nm op k n x s y, cnd nm2 op2 k2 n2 x2 s2 y2] w fun e w' => e = .returned (.bool (sideI op op2 (-cmpR k n x s y k2 n2 x2 s2 y2) 4 5)) ∧ Below w.heap.size w w' := by
  have B0 : Below w.heap.size w ((w.alloc (.cells (cnds nm op k n x s y) 55)).alloc (.cells (cnds nm2 op2 k2 n2 x2 s2 y2) 55)) := ((Below.refl _ _).alloc (Nat.le_refl _) _).alloc (by simp) _
  have HB0 := Lib.hid B0; clear B0
  have HVA := Lib.hid (fun W => rcvoid_c nm op k n x s y W); have HVB := Lib.hid (fun W => rcvoid_c nm2 op2 k2 n2 x2 s2 y2 W)
  have HCM := Lib.hid (fun W => rcompare_c k n x s y k2 n2 x2 s2 y2 hx hx2 hs hs2 W)
  have HX := Lib.hid hx; have HX2 := Lib.hid hx2; have HS := Lib.hid hs; have HS2 := Lib.hid hs2; clear hx hx2 hs hs2
  go_enter Tryd.func41, Tryd.ntmps41
  go_wp2_with fail
  refine (HVA.out _).mono ?_
  rw [hvA]
  rintro e w1 ⟨rfl, hb⟩
  have hA1 : Below (w.heap.size + 2) ((w.alloc (.cells (cnds nm op k n x s y) 55)).alloc (.cells (cnds nm2 op2 k2 n2 x2 s2 y2) 55)) w1 := by simpa using hb
  have z1 : w.heap.size + 2 ≤ w1.heap.size := by have := hA1.size; simpa using this
  obtain ⟨va, vb⟩ := two_lay hA1
  have a0 := va 0 _ rfl; have a1 := va 1 _ rfl; have a2 := va 2 _ rfl; have a3 := va 3 _ rfl; have a4 := va 4 _ rfl; have a5 := va 5 _ rfl; have a6 := va 6 _ rfl
  have b0 := vb 0 _ rfl; have b1 := vb 1 _ rfl; have b2 := vb 2 _ rfl; have b3 := vb 3 _ rfl; have b4 := vb 4 _ rfl; have b5 := vb 5 _ rfl; have b6 := vb 6 _ rfl
  clear va vb
  have HA1 := Lib.hid hA1; clear hb hA1
  go_wp2_with fail
  clear a0 a1 a2 a3 a4 a5 a6 b0 b1 b2 b3 b4 b5 b6
  refine (HVB.out _).mono ?_
  rw [hvB]
  rintro e w2 ⟨rfl, hb⟩
  have hA2 := HA1.out.trans (hb.mono z1)
  have z2 : w.heap.size + 2 ≤ w2.heap.size := by have := hA2.size; simpa using this
  obtain ⟨va, vb⟩ := two_lay hA2
  have a0 := va 0 _ rfl; have a1 := va 1 _ rfl; have a2 := va 2 _ rfl; have a3 := va 3 _ rfl; have a4 := va 4 _ rfl; have a5 := va 5 _ rfl; have a6 := va 6 _ rfl
  have b0 := vb 0 _ rfl; have b1 := vb 1 _ rfl; have b2 := vb 2 _ rfl; have b3 := vb 3 _ rfl; have b4 := vb 4 _ rfl; have b5 := vb 5 _ rfl; have b6 := vb 6 _ rfl
  clear va vb
  have HA2 := Lib.hid hA2; clear hb hA2
  go_wp2_with fail
  clear a0 a1 a2 a3 a4 a5 a6 b0 b1 b2 b3 b4 b5 b6
  refine (HCM.out _).mono ?_
  rw [hok]
  rintro e w3 ⟨rfl, hb⟩
  have hA3 := HA2.out.trans (hb.mono z2)
  have z3 : w.heap.size + 2 ≤ w3.heap.size := by have := hA3.size; simpa using this
  obtain ⟨va, vb⟩ := two_lay hA3
  have a0 := va 0 _ rfl; have a1 := va 1 _ rfl; have a2 := va 2 _ rfl; have a3 := va 3 _ rfl; have a4 := va 4 _ rfl; have a5 := va 5 _ rfl; have a6 := va 6 _ rfl
  have b0 := vb 0 _ rfl; have b1 := vb 1 _ rfl; have b2 := vb 2 _ rfl; have b3 := vb 3 _ rfl; have b4 := vb 4 _ rfl; have b5 := vb 5 _ rfl; have b6 := vb 6 _ rfl
  clear va vb
  have HA3 := Lib.hid hA3; clear hb hA3
  go_wp2_with fail
  clear a0 a1 a2 a3 a4 a5 a6 b0 b1 b2 b3 b4 b5 b6
  refine (rside_gt nm op k n x s y nm2 op2 k2 n2 x2 s2 y2 _ _ (cmpR_three _ _ _ _ _ _ _ _ _ _) _ HCM.out).mono ?_
  rintro e w4 ⟨rfl, hb⟩
  have hA4 := HA3.out.trans (hb.mono z3)
  have z4 : w.heap.size + 2 ≤ w4.heap.size := by have := hA4.size; simpa using this
  obtain ⟨va, vb⟩ := two_lay hA4
  have a0 := va 0 _ rfl; have a1 := va 1 _ rfl; have a2 := va 2 _ rfl; have a3 := va 3 _ rfl; have a4 := va 4 _ rfl; have a5 := va 5 _ rfl; have a6 := va 6 _ rfl
  have b0 := vb 0 _ rfl; have b1 := vb 1 _ rfl; have b2 := vb 2 _ rfl; have b3 := vb 3 _ rfl; have b4 := vb 4 _ rfl; have b5 := vb 5 _ rfl; have b6 := vb 6 _ rfl
  clear va vb
  have HA4 := Lib.hid hA4; clear hb hA4
  go_wp2_with fail
  go_ret
  exact ⟨rfl, HB0.out.trans (HA4.out.mono (by omega))⟩
set_option maxHeartbeats 2000000 in
theorem rimplies_ge (nm : ByteArray) (op k n : Int) (x : Nat) (s : ByteArray) (y : Bool) (nm2 : ByteArray) (op2 k2 n2 : Int) (x2 : Nat) (s2 : ByteArray) (y2 : Bool) (hx : x < 18446744073709551616) (hx2 : x2 < 18446744073709551616) (hs : s.size ≤ 9223372036854775807) (hs2 : s2.size ≤ 9223372036854775807) (w : World) (hn : (nm.toList == nm2.toList) = true) (hvA : cvoidB ⟨⟨nm, k, n, x, s, y⟩, op⟩ = false) (h7 : (op2 == 7) = false) (g7 : (op == 7) = false) (hvB : cvoidB ⟨⟨nm2, k2, n2, x2, s2, y2⟩, op2⟩ = false) (hk : (k != k2) = false) (hok : cmpOk k x k2 x2 = true) (o0 : (op == 0) = false) (o1 : (op == 1) = false) (o2 : (op == 2) = false) (o3 : (op == 3) = false) (o4 : (op == 4) = false) (o5 : (op == 5) = true) :
    Calls Tryd.prog 41 #[cnd nm op k n x s y, cnd nm2 op2 k2 n2 x2 s2 y2] w fun e w' => e = .returned (.bool (sideI op op2 (-cmpR k n x s y k2 n2 x2 s2 y2) 4 5)) ∧ Below w.heap.size w w' := by
  have B0 : Below w.heap.size w ((w.alloc (.cells (cnds nm op k n x s y) 55)).alloc (.cells (cnds nm2 op2 k2 n2 x2 s2 y2) 55)) := ((Below.refl _ _).alloc (Nat.le_refl _) _).alloc (by simp) _
  have HB0 := Lib.hid B0; clear B0
  have HVA := Lib.hid (fun W => rcvoid_c nm op k n x s y W); have HVB := Lib.hid (fun W => rcvoid_c nm2 op2 k2 n2 x2 s2 y2 W)
  have HCM := Lib.hid (fun W => rcompare_c k n x s y k2 n2 x2 s2 y2 hx hx2 hs hs2 W)
  have HX := Lib.hid hx; have HX2 := Lib.hid hx2; have HS := Lib.hid hs; have HS2 := Lib.hid hs2; clear hx hx2 hs hs2
  go_enter Tryd.func41, Tryd.ntmps41
  go_wp2_with fail
  refine (HVA.out _).mono ?_
  rw [hvA]
  rintro e w1 ⟨rfl, hb⟩
  have hA1 : Below (w.heap.size + 2) ((w.alloc (.cells (cnds nm op k n x s y) 55)).alloc (.cells (cnds nm2 op2 k2 n2 x2 s2 y2) 55)) w1 := by simpa using hb
  have z1 : w.heap.size + 2 ≤ w1.heap.size := by have := hA1.size; simpa using this
  obtain ⟨va, vb⟩ := two_lay hA1
  have a0 := va 0 _ rfl; have a1 := va 1 _ rfl; have a2 := va 2 _ rfl; have a3 := va 3 _ rfl; have a4 := va 4 _ rfl; have a5 := va 5 _ rfl; have a6 := va 6 _ rfl
  have b0 := vb 0 _ rfl; have b1 := vb 1 _ rfl; have b2 := vb 2 _ rfl; have b3 := vb 3 _ rfl; have b4 := vb 4 _ rfl; have b5 := vb 5 _ rfl; have b6 := vb 6 _ rfl
  clear va vb
  have HA1 := Lib.hid hA1; clear hb hA1
  go_wp2_with fail
  clear a0 a1 a2 a3 a4 a5 a6 b0 b1 b2 b3 b4 b5 b6
  refine (HVB.out _).mono ?_
  rw [hvB]
  rintro e w2 ⟨rfl, hb⟩
  have hA2 := HA1.out.trans (hb.mono z1)
  have z2 : w.heap.size + 2 ≤ w2.heap.size := by have := hA2.size; simpa using this
  obtain ⟨va, vb⟩ := two_lay hA2
  have a0 := va 0 _ rfl; have a1 := va 1 _ rfl; have a2 := va 2 _ rfl; have a3 := va 3 _ rfl; have a4 := va 4 _ rfl; have a5 := va 5 _ rfl; have a6 := va 6 _ rfl
  have b0 := vb 0 _ rfl; have b1 := vb 1 _ rfl; have b2 := vb 2 _ rfl; have b3 := vb 3 _ rfl; have b4 := vb 4 _ rfl; have b5 := vb 5 _ rfl; have b6 := vb 6 _ rfl
  clear va vb
  have HA2 := Lib.hid hA2; clear hb hA2
  go_wp2_with fail
  clear a0 a1 a2 a3 a4 a5 a6 b0 b1 b2 b3 b4 b5 b6
  refine (HCM.out _).mono ?_
  rw [hok]
  rintro e w3 ⟨rfl, hb⟩
  have hA3 := HA2.out.trans (hb.mono z2)
  have z3 : w.heap.size + 2 ≤ w3.heap.size := by have := hA3.size; simpa using this
  obtain ⟨va, vb⟩ := two_lay hA3
  have a0 := va 0 _ rfl; have a1 := va 1 _ rfl; have a2 := va 2 _ rfl; have a3 := va 3 _ rfl; have a4 := va 4 _ rfl; have a5 := va 5 _ rfl; have a6 := va 6 _ rfl
  have b0 := vb 0 _ rfl; have b1 := vb 1 _ rfl; have b2 := vb 2 _ rfl; have b3 := vb 3 _ rfl; have b4 := vb 4 _ rfl; have b5 := vb 5 _ rfl; have b6 := vb 6 _ rfl
  clear va vb
  have HA3 := Lib.hid hA3; clear hb hA3
  go_wp2_with fail
  clear a0 a1 a2 a3 a4 a5 a6 b0 b1 b2 b3 b4 b5 b6
  refine (rside_gt nm op k n x s y nm2 op2 k2 n2 x2 s2 y2 _ _ (cmpR_three _ _ _ _ _ _ _ _ _ _) _ HCM.out).mono ?_
  rintro e w4 ⟨rfl, hb⟩
  have hA4 := HA3.out.trans (hb.mono z3)
  have z4 : w.heap.size + 2 ≤ w4.heap.size := by have := hA4.size; simpa using this
  obtain ⟨va, vb⟩ := two_lay hA4
  have a0 := va 0 _ rfl; have a1 := va 1 _ rfl; have a2 := va 2 _ rfl; have a3 := va 3 _ rfl; have a4 := va 4 _ rfl; have a5 := va 5 _ rfl; have a6 := va 6 _ rfl
  have b0 := vb 0 _ rfl; have b1 := vb 1 _ rfl; have b2 := vb 2 _ rfl; have b3 := vb 3 _ rfl; have b4 := vb 4 _ rfl; have b5 := vb 5 _ rfl; have b6 := vb 6 _ rfl
  clear va vb
  have HA4 := Lib.hid hA4; clear hb hA4
  go_wp2_with fail
  go_ret
  exact ⟨rfl, HB0.out.trans (HA4.out.mono (by omega))⟩
set_option maxHeartbeats 2000000 in
theorem rimplies_p6 (nm : ByteArray) (op k n : Int) (x : Nat) (s : ByteArray) (y : Bool) (nm2 : ByteArray) (op2 k2 n2 : Int) (x2 : Nat) (s2 : ByteArray) (y2 : Bool) (hx : x < 18446744073709551616) (hx2 : x2 < 18446744073709551616) (hs : s.size ≤ 9223372036854775807) (hs2 : s2.size ≤ 9223372036854775807) (w : World) (hn : (nm.toList == nm2.toList) = true) (hvA : cvoidB ⟨⟨nm, k, n, x, s, y⟩, op⟩ = false) (h7 : (op2 == 7) = false) (g7 : (op == 7) = false) (hvB : cvoidB ⟨⟨nm2, k2, n2, x2, s2, y2⟩, op2⟩ = false) (hk : (k != k2) = false) (hok : cmpOk k x k2 x2 = true) (o0 : (op == 0) = false) (o1 : (op == 1) = false) (o2 : (op == 2) = false) (o3 : (op == 3) = false) (o4 : (op == 4) = false) (o5 : (op == 5) = false) (q6 : (op2 == 6) = true) :
    Calls Tryd.prog 41 #[cnd nm op k n x s y, cnd nm2 op2 k2 n2 x2 s2 y2] w fun e w' => e = .returned (.bool (preB s s2)) ∧ Below w.heap.size w w' := by
  have B0 : Below w.heap.size w ((w.alloc (.cells (cnds nm op k n x s y) 55)).alloc (.cells (cnds nm2 op2 k2 n2 x2 s2 y2) 55)) := ((Below.refl _ _).alloc (Nat.le_refl _) _).alloc (by simp) _
  have HB0 := Lib.hid B0; clear B0
  have HVA := Lib.hid (fun W => rcvoid_c nm op k n x s y W); have HVB := Lib.hid (fun W => rcvoid_c nm2 op2 k2 n2 x2 s2 y2 W)
  have HCM := Lib.hid (fun W => rcompare_c k n x s y k2 n2 x2 s2 y2 hx hx2 hs hs2 W)
  have HX := Lib.hid hx; have HX2 := Lib.hid hx2; have HS := Lib.hid hs; have HS2 := Lib.hid hs2; clear hx hx2 hs hs2
  go_enter Tryd.func41, Tryd.ntmps41
  go_wp2_with fail
  refine (HVA.out _).mono ?_
  rw [hvA]
  rintro e w1 ⟨rfl, hb⟩
  have hA1 : Below (w.heap.size + 2) ((w.alloc (.cells (cnds nm op k n x s y) 55)).alloc (.cells (cnds nm2 op2 k2 n2 x2 s2 y2) 55)) w1 := by simpa using hb
  have z1 : w.heap.size + 2 ≤ w1.heap.size := by have := hA1.size; simpa using this
  obtain ⟨va, vb⟩ := two_lay hA1
  have a0 := va 0 _ rfl; have a1 := va 1 _ rfl; have a2 := va 2 _ rfl; have a3 := va 3 _ rfl; have a4 := va 4 _ rfl; have a5 := va 5 _ rfl; have a6 := va 6 _ rfl
  have b0 := vb 0 _ rfl; have b1 := vb 1 _ rfl; have b2 := vb 2 _ rfl; have b3 := vb 3 _ rfl; have b4 := vb 4 _ rfl; have b5 := vb 5 _ rfl; have b6 := vb 6 _ rfl
  clear va vb
  have HA1 := Lib.hid hA1; clear hb hA1
  go_wp2_with fail
  clear a0 a1 a2 a3 a4 a5 a6 b0 b1 b2 b3 b4 b5 b6
  refine (HVB.out _).mono ?_
  rw [hvB]
  rintro e w2 ⟨rfl, hb⟩
  have hA2 := HA1.out.trans (hb.mono z1)
  have z2 : w.heap.size + 2 ≤ w2.heap.size := by have := hA2.size; simpa using this
  obtain ⟨va, vb⟩ := two_lay hA2
  have a0 := va 0 _ rfl; have a1 := va 1 _ rfl; have a2 := va 2 _ rfl; have a3 := va 3 _ rfl; have a4 := va 4 _ rfl; have a5 := va 5 _ rfl; have a6 := va 6 _ rfl
  have b0 := vb 0 _ rfl; have b1 := vb 1 _ rfl; have b2 := vb 2 _ rfl; have b3 := vb 3 _ rfl; have b4 := vb 4 _ rfl; have b5 := vb 5 _ rfl; have b6 := vb 6 _ rfl
  clear va vb
  have HA2 := Lib.hid hA2; clear hb hA2
  go_wp2_with fail
  clear a0 a1 a2 a3 a4 a5 a6 b0 b1 b2 b3 b4 b5 b6
  refine (HCM.out _).mono ?_
  rw [hok]
  rintro e w3 ⟨rfl, hb⟩
  have hA3 := HA2.out.trans (hb.mono z2)
  have z3 : w.heap.size + 2 ≤ w3.heap.size := by have := hA3.size; simpa using this
  obtain ⟨va, vb⟩ := two_lay hA3
  have a0 := va 0 _ rfl; have a1 := va 1 _ rfl; have a2 := va 2 _ rfl; have a3 := va 3 _ rfl; have a4 := va 4 _ rfl; have a5 := va 5 _ rfl; have a6 := va 6 _ rfl
  have b0 := vb 0 _ rfl; have b1 := vb 1 _ rfl; have b2 := vb 2 _ rfl; have b3 := vb 3 _ rfl; have b4 := vb 4 _ rfl; have b5 := vb 5 _ rfl; have b6 := vb 6 _ rfl
  clear va vb
  have HA3 := Lib.hid hA3; clear hb hA3
  go_wp2_with fail
  clear a0 a1 a2 a3 a4 a5 a6 b0 b1 b2 b3 b4 b5 b6
  refine (begins_c s s2 _).mono ?_
  rintro e w9 ⟨rfl, rfl⟩
  go_wp2_with fail
  go_ret
  exact ⟨rfl, HB0.out.trans (HA3.out.mono (by omega))⟩
set_option maxHeartbeats 2000000 in
theorem rimplies_p1 (nm : ByteArray) (op k n : Int) (x : Nat) (s : ByteArray) (y : Bool) (nm2 : ByteArray) (op2 k2 n2 : Int) (x2 : Nat) (s2 : ByteArray) (y2 : Bool) (hx : x < 18446744073709551616) (hx2 : x2 < 18446744073709551616) (hs : s.size ≤ 9223372036854775807) (hs2 : s2.size ≤ 9223372036854775807) (w : World) (hn : (nm.toList == nm2.toList) = true) (hvA : cvoidB ⟨⟨nm, k, n, x, s, y⟩, op⟩ = false) (h7 : (op2 == 7) = false) (g7 : (op == 7) = false) (hvB : cvoidB ⟨⟨nm2, k2, n2, x2, s2, y2⟩, op2⟩ = false) (hk : (k != k2) = false) (hok : cmpOk k x k2 x2 = true) (o0 : (op == 0) = false) (o1 : (op == 1) = false) (o2 : (op == 2) = false) (o3 : (op == 3) = false) (o4 : (op == 4) = false) (o5 : (op == 5) = false) (q6 : (op2 == 6) = false) (q1 : (op2 == 1) = true) :
    Calls Tryd.prog 41 #[cnd nm op k n x s y, cnd nm2 op2 k2 n2 x2 s2 y2] w fun e w' => e = .returned (.bool (!preB s2 s)) ∧ Below w.heap.size w w' := by
  have B0 : Below w.heap.size w ((w.alloc (.cells (cnds nm op k n x s y) 55)).alloc (.cells (cnds nm2 op2 k2 n2 x2 s2 y2) 55)) := ((Below.refl _ _).alloc (Nat.le_refl _) _).alloc (by simp) _
  have HB0 := Lib.hid B0; clear B0
  have HVA := Lib.hid (fun W => rcvoid_c nm op k n x s y W); have HVB := Lib.hid (fun W => rcvoid_c nm2 op2 k2 n2 x2 s2 y2 W)
  have HCM := Lib.hid (fun W => rcompare_c k n x s y k2 n2 x2 s2 y2 hx hx2 hs hs2 W)
  have HX := Lib.hid hx; have HX2 := Lib.hid hx2; have HS := Lib.hid hs; have HS2 := Lib.hid hs2; clear hx hx2 hs hs2
  go_enter Tryd.func41, Tryd.ntmps41
  go_wp2_with fail
  refine (HVA.out _).mono ?_
  rw [hvA]
  rintro e w1 ⟨rfl, hb⟩
  have hA1 : Below (w.heap.size + 2) ((w.alloc (.cells (cnds nm op k n x s y) 55)).alloc (.cells (cnds nm2 op2 k2 n2 x2 s2 y2) 55)) w1 := by simpa using hb
  have z1 : w.heap.size + 2 ≤ w1.heap.size := by have := hA1.size; simpa using this
  obtain ⟨va, vb⟩ := two_lay hA1
  have a0 := va 0 _ rfl; have a1 := va 1 _ rfl; have a2 := va 2 _ rfl; have a3 := va 3 _ rfl; have a4 := va 4 _ rfl; have a5 := va 5 _ rfl; have a6 := va 6 _ rfl
  have b0 := vb 0 _ rfl; have b1 := vb 1 _ rfl; have b2 := vb 2 _ rfl; have b3 := vb 3 _ rfl; have b4 := vb 4 _ rfl; have b5 := vb 5 _ rfl; have b6 := vb 6 _ rfl
  clear va vb
  have HA1 := Lib.hid hA1; clear hb hA1
  go_wp2_with fail
  clear a0 a1 a2 a3 a4 a5 a6 b0 b1 b2 b3 b4 b5 b6
  refine (HVB.out _).mono ?_
  rw [hvB]
  rintro e w2 ⟨rfl, hb⟩
  have hA2 := HA1.out.trans (hb.mono z1)
  have z2 : w.heap.size + 2 ≤ w2.heap.size := by have := hA2.size; simpa using this
  obtain ⟨va, vb⟩ := two_lay hA2
  have a0 := va 0 _ rfl; have a1 := va 1 _ rfl; have a2 := va 2 _ rfl; have a3 := va 3 _ rfl; have a4 := va 4 _ rfl; have a5 := va 5 _ rfl; have a6 := va 6 _ rfl
  have b0 := vb 0 _ rfl; have b1 := vb 1 _ rfl; have b2 := vb 2 _ rfl; have b3 := vb 3 _ rfl; have b4 := vb 4 _ rfl; have b5 := vb 5 _ rfl; have b6 := vb 6 _ rfl
  clear va vb
  have HA2 := Lib.hid hA2; clear hb hA2
  go_wp2_with fail
  clear a0 a1 a2 a3 a4 a5 a6 b0 b1 b2 b3 b4 b5 b6
  refine (HCM.out _).mono ?_
  rw [hok]
  rintro e w3 ⟨rfl, hb⟩
  have hA3 := HA2.out.trans (hb.mono z2)
  have z3 : w.heap.size + 2 ≤ w3.heap.size := by have := hA3.size; simpa using this
  obtain ⟨va, vb⟩ := two_lay hA3
  have a0 := va 0 _ rfl; have a1 := va 1 _ rfl; have a2 := va 2 _ rfl; have a3 := va 3 _ rfl; have a4 := va 4 _ rfl; have a5 := va 5 _ rfl; have a6 := va 6 _ rfl
  have b0 := vb 0 _ rfl; have b1 := vb 1 _ rfl; have b2 := vb 2 _ rfl; have b3 := vb 3 _ rfl; have b4 := vb 4 _ rfl; have b5 := vb 5 _ rfl; have b6 := vb 6 _ rfl
  clear va vb
  have HA3 := Lib.hid hA3; clear hb hA3
  go_wp2_with fail
  clear a0 a1 a2 a3 a4 a5 a6 b0 b1 b2 b3 b4 b5 b6
  refine (begins_c s2 s _).mono ?_
  rintro e w9 ⟨rfl, rfl⟩
  go_wp2_with fail
  go_ret
  exact ⟨rfl, HB0.out.trans (HA3.out.mono (by omega))⟩
set_option maxHeartbeats 2000000 in
theorem rimplies_p0 (nm : ByteArray) (op k n : Int) (x : Nat) (s : ByteArray) (y : Bool) (nm2 : ByteArray) (op2 k2 n2 : Int) (x2 : Nat) (s2 : ByteArray) (y2 : Bool) (hx : x < 18446744073709551616) (hx2 : x2 < 18446744073709551616) (hs : s.size ≤ 9223372036854775807) (hs2 : s2.size ≤ 9223372036854775807) (w : World) (hn : (nm.toList == nm2.toList) = true) (hvA : cvoidB ⟨⟨nm, k, n, x, s, y⟩, op⟩ = false) (h7 : (op2 == 7) = false) (g7 : (op == 7) = false) (hvB : cvoidB ⟨⟨nm2, k2, n2, x2, s2, y2⟩, op2⟩ = false) (hk : (k != k2) = false) (hok : cmpOk k x k2 x2 = true) (o0 : (op == 0) = false) (o1 : (op == 1) = false) (o2 : (op == 2) = false) (o3 : (op == 3) = false) (o4 : (op == 4) = false) (o5 : (op == 5) = false) (q6 : (op2 == 6) = false) (q1 : (op2 == 1) = false) :
    Calls Tryd.prog 41 #[cnd nm op k n x s y, cnd nm2 op2 k2 n2 x2 s2 y2] w fun e w' => e = .returned (.bool (false)) ∧ Below w.heap.size w w' := by
  have B0 : Below w.heap.size w ((w.alloc (.cells (cnds nm op k n x s y) 55)).alloc (.cells (cnds nm2 op2 k2 n2 x2 s2 y2) 55)) := ((Below.refl _ _).alloc (Nat.le_refl _) _).alloc (by simp) _
  have HB0 := Lib.hid B0; clear B0
  have HVA := Lib.hid (fun W => rcvoid_c nm op k n x s y W); have HVB := Lib.hid (fun W => rcvoid_c nm2 op2 k2 n2 x2 s2 y2 W)
  have HCM := Lib.hid (fun W => rcompare_c k n x s y k2 n2 x2 s2 y2 hx hx2 hs hs2 W)
  have HX := Lib.hid hx; have HX2 := Lib.hid hx2; have HS := Lib.hid hs; have HS2 := Lib.hid hs2; clear hx hx2 hs hs2
  go_enter Tryd.func41, Tryd.ntmps41
  go_wp2_with fail
  refine (HVA.out _).mono ?_
  rw [hvA]
  rintro e w1 ⟨rfl, hb⟩
  have hA1 : Below (w.heap.size + 2) ((w.alloc (.cells (cnds nm op k n x s y) 55)).alloc (.cells (cnds nm2 op2 k2 n2 x2 s2 y2) 55)) w1 := by simpa using hb
  have z1 : w.heap.size + 2 ≤ w1.heap.size := by have := hA1.size; simpa using this
  obtain ⟨va, vb⟩ := two_lay hA1
  have a0 := va 0 _ rfl; have a1 := va 1 _ rfl; have a2 := va 2 _ rfl; have a3 := va 3 _ rfl; have a4 := va 4 _ rfl; have a5 := va 5 _ rfl; have a6 := va 6 _ rfl
  have b0 := vb 0 _ rfl; have b1 := vb 1 _ rfl; have b2 := vb 2 _ rfl; have b3 := vb 3 _ rfl; have b4 := vb 4 _ rfl; have b5 := vb 5 _ rfl; have b6 := vb 6 _ rfl
  clear va vb
  have HA1 := Lib.hid hA1; clear hb hA1
  go_wp2_with fail
  clear a0 a1 a2 a3 a4 a5 a6 b0 b1 b2 b3 b4 b5 b6
  refine (HVB.out _).mono ?_
  rw [hvB]
  rintro e w2 ⟨rfl, hb⟩
  have hA2 := HA1.out.trans (hb.mono z1)
  have z2 : w.heap.size + 2 ≤ w2.heap.size := by have := hA2.size; simpa using this
  obtain ⟨va, vb⟩ := two_lay hA2
  have a0 := va 0 _ rfl; have a1 := va 1 _ rfl; have a2 := va 2 _ rfl; have a3 := va 3 _ rfl; have a4 := va 4 _ rfl; have a5 := va 5 _ rfl; have a6 := va 6 _ rfl
  have b0 := vb 0 _ rfl; have b1 := vb 1 _ rfl; have b2 := vb 2 _ rfl; have b3 := vb 3 _ rfl; have b4 := vb 4 _ rfl; have b5 := vb 5 _ rfl; have b6 := vb 6 _ rfl
  clear va vb
  have HA2 := Lib.hid hA2; clear hb hA2
  go_wp2_with fail
  clear a0 a1 a2 a3 a4 a5 a6 b0 b1 b2 b3 b4 b5 b6
  refine (HCM.out _).mono ?_
  rw [hok]
  rintro e w3 ⟨rfl, hb⟩
  have hA3 := HA2.out.trans (hb.mono z2)
  have z3 : w.heap.size + 2 ≤ w3.heap.size := by have := hA3.size; simpa using this
  obtain ⟨va, vb⟩ := two_lay hA3
  have a0 := va 0 _ rfl; have a1 := va 1 _ rfl; have a2 := va 2 _ rfl; have a3 := va 3 _ rfl; have a4 := va 4 _ rfl; have a5 := va 5 _ rfl; have a6 := va 6 _ rfl
  have b0 := vb 0 _ rfl; have b1 := vb 1 _ rfl; have b2 := vb 2 _ rfl; have b3 := vb 3 _ rfl; have b4 := vb 4 _ rfl; have b5 := vb 5 _ rfl; have b6 := vb 6 _ rfl
  clear va vb
  have HA3 := Lib.hid hA3; clear hb hA3
  go_wp2_with fail
  go_ret
  exact ⟨rfl, HB0.out.trans (HA3.out.mono (by omega))⟩
theorem rimplies_c (nm : ByteArray) (op k n : Int) (x : Nat) (s : ByteArray) (y : Bool) (nm2 : ByteArray) (op2 k2 n2 : Int) (x2 : Nat) (s2 : ByteArray) (y2 : Bool) (hx : x < 18446744073709551616) (hx2 : x2 < 18446744073709551616) (hs : s.size ≤ 9223372036854775807) (hs2 : s2.size ≤ 9223372036854775807) (ho : OpB ⟨⟨nm, k, n, x, s, y⟩, op⟩) (w : World) :
    Calls Tryd.prog 41 #[cnd nm op k n x s y, cnd nm2 op2 k2 n2 x2 s2 y2] w fun e w' => e = .returned (.bool (impliesB ⟨⟨nm, k, n, x, s, y⟩, op⟩ ⟨⟨nm2, k2, n2, x2, s2, y2⟩, op2⟩)) ∧ Below w.heap.size w w' := by
  unfold impliesB
  cases hn : (nm.toList == nm2.toList)
  · exact rimplies_name nm op k n x s y nm2 op2 k2 n2 x2 s2 y2 hx hx2 hs hs2 w hn
  · simp only [Bool.not_true, Bool.false_eq_true, if_false]
    cases hvA : cvoidB ⟨⟨nm, k, n, x, s, y⟩, op⟩
    · cases h7 : (op2 == 7)
      · cases g7 : (op == 7)
        · cases hvB : cvoidB ⟨⟨nm2, k2, n2, x2, s2, y2⟩, op2⟩
          · cases hk : (k != k2)
            · simp only [Bool.or_self, Bool.false_eq_true, if_false]
              have hkk : k = k2 := by simpa using hk
              have e7 : op ≠ 7 := by simpa using g7
              have hok : cmpOk k x k2 x2 = true := by
                have e72 : op2 ≠ 7 := by simpa using h7
                have v1 := (notvoid hvA e7).1
                have v2 := (notvoid hvB e72).1
                simp only [] at v1 v2
                unfold cmpOk
                rw [v1, v2]; simp [hkk]
              have hR : cmpR k n x s y k2 n2 x2 s2 y2 = cmpA ⟨nm, k, n, x, s, y⟩ ⟨nm2, k2, n2, x2, s2, y2⟩ := by
                unfold cmpR; rw [hok, if_pos rfl]; rfl
              have hvs : vsame ⟨nm, k, n, x, s, y⟩ ⟨nm2, k2, n2, x2, s2, y2⟩ = (cmpR k n x s y k2 n2 x2 s2 y2 == 0) := by
                rw [vsame_iff, hR]; simp [hkk]
              have h0 := ho.1; have h1 := ho.2
              simp only [] at h0 h1
              unfold coreB
              simp only []
              cases o0 : (op == 0)
              · cases o1 : (op == 1)
                · cases o2 : (op == 2)
                  · cases o3 : (op == 3)
                    · cases o4 : (op == 4)
                      · cases o5 : (op == 5)
                        · have o6 : (op == 6) = true := by
                            simp only [beq_eq_false_iff_ne] at o0 o1 o2 o3 o4 o5
                            simp; omega
                          rw [o6]
                          simp only [if_true, Bool.false_eq_true, if_false]
                          unfold prefixI
                          simp only []
                          cases q6 : (op2 == 6)
                          · cases q1 : (op2 == 1)
                            · exact rimplies_p0 nm op k n x s y nm2 op2 k2 n2 x2 s2 y2 hx hx2 hs hs2 w hn hvA h7 g7 hvB hk hok o0 o1 o2 o3 o4 o5 q6 q1
                            · exact rimplies_p1 nm op k n x s y nm2 op2 k2 n2 x2 s2 y2 hx hx2 hs hs2 w hn hvA h7 g7 hvB hk hok o0 o1 o2 o3 o4 o5 q6 q1
                          · exact rimplies_p6 nm op k n x s y nm2 op2 k2 n2 x2 s2 y2 hx hx2 hs hs2 w hn hvA h7 g7 hvB hk hok o0 o1 o2 o3 o4 o5 q6
                        · have e5 : op = 5 := by simpa using o5
                          have o6 : (op == 6) = false := by rw [e5]; rfl
                          rw [o6]
                          have := rimplies_ge nm op k n x s y nm2 op2 k2 n2 x2 s2 y2 hx hx2 hs hs2 w hn hvA h7 g7 hvB hk hok o0 o1 o2 o3 o4 o5
                          rw [side_gt _ _ _ (Or.inr e5), hR] at this; exact this
                      · have e4 : op = 4 := by simpa using o4
                        have o6 : (op == 6) = false := by rw [e4]; rfl
                        rw [o6]
                        have := rimplies_gt nm op k n x s y nm2 op2 k2 n2 x2 s2 y2 hx hx2 hs hs2 w hn hvA h7 g7 hvB hk hok o0 o1 o2 o3 o4
                        rw [side_gt _ _ _ (Or.inl e4), hR] at this; exact this
                    · have e3 : op = 3 := by simpa using o3
                      have o6 : (op == 6) = false := by rw [e3]; rfl
                      rw [o6]
                      have := rimplies_le nm op k n x s y nm2 op2 k2 n2 x2 s2 y2 hx hx2 hs hs2 w hn hvA h7 g7 hvB hk hok o0 o1 o2 o3
                      rw [side_lt _ _ _ (Or.inr e3), hR] at this; exact this
                  · have e2 : op = 2 := by simpa using o2
                    have o6 : (op == 6) = false := by rw [e2]; rfl
                    rw [o6]
                    have := rimplies_lt nm op k n x s y nm2 op2 k2 n2 x2 s2 y2 hx hx2 hs hs2 w hn hvA h7 g7 hvB hk hok o0 o1 o2
                    rw [side_lt _ _ _ (Or.inl e2), hR] at this; exact this
                · cases q1 : (op2 == 1)
                  · exact rimplies_ne0 nm op k n x s y nm2 op2 k2 n2 x2 s2 y2 hx hx2 hs hs2 w hn hvA h7 g7 hvB hk hok o0 o1 q1
                  · rw [hvs]; exact rimplies_ne1 nm op k n x s y nm2 op2 k2 n2 x2 s2 y2 hx hx2 hs hs2 w hn hvA h7 g7 hvB hk hok o0 o1 q1
              · exact rimplies_eq nm op k n x s y nm2 op2 k2 n2 x2 s2 y2 hx hx2 hs hs2 w hn hvA h7 g7 hvB hk hok o0
            · exact rimplies_kinds nm op k n x s y nm2 op2 k2 n2 x2 s2 y2 hx hx2 hs hs2 w hn hvA h7 g7 hvB hk
          · exact rimplies_voidB nm op k n x s y nm2 op2 k2 n2 x2 s2 y2 hx hx2 hs hs2 w hn hvA h7 g7 hvB
        · exact rimplies_hasA nm op k n x s y nm2 op2 k2 n2 x2 s2 y2 hx hx2 hs hs2 w hn hvA h7 g7
      · exact rimplies_has nm op k n x s y nm2 op2 k2 n2 x2 s2 y2 hx hx2 hs hs2 w hn hvA h7
    · exact rimplies_void nm op k n x s y nm2 op2 k2 n2 x2 s2 y2 hx hx2 hs hs2 w hn hvA
end Go.Proofs.YtliobglhppejiaaDoor
