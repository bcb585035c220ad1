/- gazetteref06: Holds, Void, Implies answer as package cond does. (Written by gen_condr2.py.) -/
import Derived.Test.YtjnfbinomljocaaDoorCondR
namespace Go.Proofs.YtjnfbinomljocaaDoor
open Go.RowKit Go.Shelf
open Go.Proofs
set_option maxRecDepth 100000

/-- Holds, as the document's own answer goes about it. -/
def rholdsB (op r : Int) (b p q : Bool) : Bool := if op == 7 then true else if b then (if op == 6 then q && p else standsB op r) else false
theorem rholds_eq (nm : ByteArray) (op k n : Int) (x : Nat) (s : ByteArray) (y : Bool) (nm2 : ByteArray) (k2 n2 : Int) (x2 : Nat) (s2 : ByteArray) (y2 : Bool) :
    holdsB ⟨⟨nm, k, n, x, s, y⟩, op⟩ ⟨nm2, k2, n2, x2, s2, y2⟩ = rholdsB op (cmpR k2 n2 x2 s2 y2 k n x s y) (cmpOk k2 x2 k x) (preB s2 s) (k2 == 2) := by
  unfold holdsB rholdsB okA cmpA
  simp only []
  cases h7 : (op == 7)
  · simp only [Bool.false_eq_true, if_false]
    cases hb : cmpOk k2 x2 k x
    · cases h6 : (op == 6)
      · simp
      · simp only [if_true, Bool.false_eq_true, if_false]
        by_cases e1 : k = 2
        · by_cases e2 : k2 = 2
          · exfalso
            subst e1; subst e2
            have : cmpOk 2 x2 2 x = true := rfl
            rw [this] at hb; cases hb
          · have : (k2 == 2) = false := by simpa using e2
            rw [this]; simp
        · have : (k == 2) = false := by simpa using e1
          rw [this]; rfl
    · have hk : k2 = k := by
        unfold cmpOk at hb
        simp only [Bool.and_eq_true, beq_iff_eq] at hb
        exact hb.1
      have hr : cmpR k2 n2 x2 s2 y2 k n x s y = cmpV k2 n2 n x2 x s2 s y2 y := by unfold cmpR; rw [hb]; rfl
      rw [hr]
      cases h6 : (op == 6)
      · simp
      · subst hk
        cases (k2 == 2) <;> simp
  · rfl

set_option maxHeartbeats 4000000 in
theorem rholds_w (nm : ByteArray) (op k n : Int) (x : Nat) (s : ByteArray) (y : Bool) (k2 n2 : Int) (x2 : Nat) (s2 : ByteArray) (y2 : Bool) (r : Int) (b p : Bool) (w : World)
    (hc : ∀ W, Calls Tryd.prog 55 #[val k2 n2 x2 s2 y2, val k n x s y] W fun e w' => e = .returned (.tuple #[.int .i64 r, .bool b]) ∧ Below W.heap.size W w')
    (hp : ∀ W, Calls Tryd.prog 56 #[.string s2, .string s] W fun e w' => e = .returned (.bool p) ∧ W = w') :
    Calls Tryd.prog 34 #[cnd nm op k n x s y, val k2 n2 x2 s2 y2] w fun e w' => e = .returned (.bool (rholdsB op r b p (k2 == 2))) ∧ Below w.heap.size w w' := by
  have B0 : Below w.heap.size w ((w.alloc (.cells (cnds nm op k n x s y) 66)).alloc (.cells (vals k2 n2 x2 s2 y2) 49)) := ((Below.refl _ _).alloc (Nat.le_refl _) _).alloc (by simp) _
  have HB0 := Lib.hid B0; clear B0
  have HC := Lib.hid hc; have HP := Lib.hid hp; clear hc hp
  unfold rholdsB standsB
  cases h7 : (op == 7)
  · cases b
    · go_enter Tryd.func34, Tryd.ntmps34
      go_wp2_with fail
      refine (HC.out _).mono ?_
      rintro e w1 ⟨rfl, hb⟩
      have hA1 : Below (w.heap.size + 2) ((w.alloc (.cells (cnds nm op k n x s y) 66)).alloc (.cells (vals k2 n2 x2 s2 y2) 49)) w1 := by simpa using hb
      obtain ⟨va, vb⟩ := two_lay hA1
      have c1 := va 1 _ rfl; have c5 := va 5 _ rfl; have v0 := vb 0 _ rfl; have v3 := vb 3 _ rfl
      clear va vb
      have HA1 := Lib.hid hA1; clear hb hA1
      go_wp2_with fail
      go_ret
      exact ⟨rfl, HB0.out.trans (HA1.out.mono (by omega))⟩
    · cases h6 : (op == 6)
      · cases h0 : (op == 0)
        · cases h1 : (op == 1)
          · cases h2 : (op == 2)
            · cases h3 : (op == 3)
              · cases h4 : (op == 4)
                · cases h5 : (op == 5)
                  · go_enter Tryd.func34, Tryd.ntmps34
                    go_wp2_with fail
                    refine (HC.out _).mono ?_
                    rintro e w1 ⟨rfl, hb⟩
                    have hA1 : Below (w.heap.size + 2) ((w.alloc (.cells (cnds nm op k n x s y) 66)).alloc (.cells (vals k2 n2 x2 s2 y2) 49)) w1 := by simpa using hb
                    obtain ⟨va, vb⟩ := two_lay hA1
                    have c1 := va 1 _ rfl; have c5 := va 5 _ rfl; have v0 := vb 0 _ rfl; have v3 := vb 3 _ rfl
                    clear va vb
                    have HA1 := Lib.hid hA1; clear hb hA1
                    go_wp2_with fail
                    go_ret
                    exact ⟨rfl, HB0.out.trans (HA1.out.mono (by omega))⟩
                  · go_enter Tryd.func34, Tryd.ntmps34
                    go_wp2_with fail
                    refine (HC.out _).mono ?_
                    rintro e w1 ⟨rfl, hb⟩
                    have hA1 : Below (w.heap.size + 2) ((w.alloc (.cells (cnds nm op k n x s y) 66)).alloc (.cells (vals k2 n2 x2 s2 y2) 49)) w1 := by simpa using hb
                    obtain ⟨va, vb⟩ := two_lay hA1
                    have c1 := va 1 _ rfl; have c5 := va 5 _ rfl; have v0 := vb 0 _ rfl; have v3 := vb 3 _ rfl
                    clear va vb
                    have HA1 := Lib.hid hA1; clear hb hA1
                    go_wp2_with fail
                    go_ret
                    exact ⟨rfl, HB0.out.trans (HA1.out.mono (by omega))⟩
                · go_enter Tryd.func34, Tryd.ntmps34
                  go_wp2_with fail
                  refine (HC.out _).mono ?_
                  rintro e w1 ⟨rfl, hb⟩
                  have hA1 : Below (w.heap.size + 2) ((w.alloc (.cells (cnds nm op k n x s y) 66)).alloc (.cells (vals k2 n2 x2 s2 y2) 49)) w1 := by simpa using hb
                  obtain ⟨va, vb⟩ := two_lay hA1
                  have c1 := va 1 _ rfl; have c5 := va 5 _ rfl; have v0 := vb 0 _ rfl; have v3 := vb 3 _ rfl
                  clear va vb
                  have HA1 := Lib.hid hA1; clear hb hA1
                  go_wp2_with fail
                  go_ret
                  exact ⟨rfl, HB0.out.trans (HA1.out.mono (by omega))⟩
              · go_enter Tryd.func34, Tryd.ntmps34
                go_wp2_with fail
                refine (HC.out _).mono ?_
                rintro e w1 ⟨rfl, hb⟩
                have hA1 : Below (w.heap.size + 2) ((w.alloc (.cells (cnds nm op k n x s y) 66)).alloc (.cells (vals k2 n2 x2 s2 y2) 49)) w1 := by simpa using hb
                obtain ⟨va, vb⟩ := two_lay hA1
                have c1 := va 1 _ rfl; have c5 := va 5 _ rfl; have v0 := vb 0 _ rfl; have v3 := vb 3 _ rfl
                clear va vb
                have HA1 := Lib.hid hA1; clear hb hA1
                go_wp2_with fail
                go_ret
                exact ⟨rfl, HB0.out.trans (HA1.out.mono (by omega))⟩
            · go_enter Tryd.func34, Tryd.ntmps34
              go_wp2_with fail
              refine (HC.out _).mono ?_
              rintro e w1 ⟨rfl, hb⟩
              have hA1 : Below (w.heap.size + 2) ((w.alloc (.cells (cnds nm op k n x s y) 66)).alloc (.cells (vals k2 n2 x2 s2 y2) 49)) w1 := by simpa using hb
              obtain ⟨va, vb⟩ := two_lay hA1
              have c1 := va 1 _ rfl; have c5 := va 5 _ rfl; have v0 := vb 0 _ rfl; have v3 := vb 3 _ rfl
              clear va vb
              have HA1 := Lib.hid hA1; clear hb hA1
              go_wp2_with fail
              go_ret
              exact ⟨rfl, HB0.out.trans (HA1.out.mono (by omega))⟩
          · go_enter Tryd.func34, Tryd.ntmps34
            go_wp2_with fail
            refine (HC.out _).mono ?_
            rintro e w1 ⟨rfl, hb⟩
            have hA1 : Below (w.heap.size + 2) ((w.alloc (.cells (cnds nm op k n x s y) 66)).alloc (.cells (vals k2 n2 x2 s2 y2) 49)) w1 := by simpa using hb
            obtain ⟨va, vb⟩ := two_lay hA1
            have c1 := va 1 _ rfl; have c5 := va 5 _ rfl; have v0 := vb 0 _ rfl; have v3 := vb 3 _ rfl
            clear va vb
            have HA1 := Lib.hid hA1; clear hb hA1
            go_wp2_with fail
            go_ret
            exact ⟨rfl, HB0.out.trans (HA1.out.mono (by omega))⟩
        · go_enter Tryd.func34, Tryd.ntmps34
          go_wp2_with fail
          refine (HC.out _).mono ?_
          rintro e w1 ⟨rfl, hb⟩
          have hA1 : Below (w.heap.size + 2) ((w.alloc (.cells (cnds nm op k n x s y) 66)).alloc (.cells (vals k2 n2 x2 s2 y2) 49)) w1 := by simpa using hb
          obtain ⟨va, vb⟩ := two_lay hA1
          have c1 := va 1 _ rfl; have c5 := va 5 _ rfl; have v0 := vb 0 _ rfl; have v3 := vb 3 _ rfl
          clear va vb
          have HA1 := Lib.hid hA1; clear hb hA1
          go_wp2_with fail
          go_ret
          exact ⟨rfl, HB0.out.trans (HA1.out.mono (by omega))⟩
      · obtain rfl : op = 6 := by simpa using h6
        clear h6 h7
        cases hk : (k2 == 2)
        · go_enter Tryd.func34, Tryd.ntmps34
          go_wp2_with fail
          refine (HC.out _).mono ?_
          rintro e w1 ⟨rfl, hb⟩
          have hA1 : Below (w.heap.size + 2) ((w.alloc (.cells (cnds nm 6 k n x s y) 66)).alloc (.cells (vals k2 n2 x2 s2 y2) 49)) w1 := by simpa using hb
          obtain ⟨va, vb⟩ := two_lay hA1
          have c1 := va 1 _ rfl; have c5 := va 5 _ rfl; have v0 := vb 0 _ rfl; have v3 := vb 3 _ rfl
          clear va vb
          have HA1 := Lib.hid hA1; clear hb hA1
          go_wp2_with fail
          go_ret
          exact ⟨rfl, HB0.out.trans (HA1.out.mono (by omega))⟩
        · go_enter Tryd.func34, Tryd.ntmps34
          go_wp2_with fail
          refine (HC.out _).mono ?_
          rintro e w1 ⟨rfl, hb⟩
          have hA1 : Below (w.heap.size + 2) ((w.alloc (.cells (cnds nm 6 k n x s y) 66)).alloc (.cells (vals k2 n2 x2 s2 y2) 49)) w1 := by simpa using hb
          obtain ⟨va, vb⟩ := two_lay hA1
          have c1 := va 1 _ rfl; have c5 := va 5 _ rfl; have v0 := vb 0 _ rfl; have v3 := vb 3 _ rfl
          clear va vb
          have HA1 := Lib.hid hA1; clear hb hA1
          go_wp2_with fail
          refine (HP.out _).mono ?_
          rintro e w2 ⟨rfl, rfl⟩
          go_wp2_with fail
          go_ret
          exact ⟨rfl, HB0.out.trans (HA1.out.mono (by omega))⟩
  · go_enter Tryd.func34, Tryd.ntmps34
    go_wp2
    go_ret
    exact ⟨rfl, HB0.out⟩
theorem rholds_c (nm : ByteArray) (op k n : Int) (x : Nat) (s : ByteArray) (y : Bool) (nm2 : ByteArray) (k2 n2 : Int) (x2 : Nat) (s2 : ByteArray) (y2 : Bool) (hx : x < 18446744073709551616) (hx2 : x2 < 18446744073709551616) (hs : s.size ≤ 9223372036854775807) (hs2 : s2.size ≤ 9223372036854775807) (w : World) :
    Calls Tryd.prog 34 #[cnd nm op k n x s y, val k2 n2 x2 s2 y2] w fun e w' => e = .returned (.bool (holdsB ⟨⟨nm, k, n, x, s, y⟩, op⟩ ⟨nm2, k2, n2, x2, s2, y2⟩)) ∧ Below w.heap.size w w' := by
  rw [rholds_eq]
  exact rholds_w nm op k n x s y k2 n2 x2 s2 y2 _ _ _ w (fun W => rcompare_c k2 n2 x2 s2 y2 k n x s y hx2 hx hs2 hs W) (fun W => begins_c s2 s W)

/-! ### Void -/
theorem rcv_eq (nm : ByteArray) (op k n : Int) (x : Nat) (s : ByteArray) (y : Bool) (b : Bool) (hb : b = voidB k x) : cvoidB ⟨⟨nm, k, n, x, s, y⟩, op⟩ = ((op != 7 && b) || (op == 6 && k != 2)) := by
  subst hb
  unfold cvoidB
  simp only []
  by_cases h7 : op = 7
  · subst h7; simp
  · have e7 : (op == 7) = false := by simpa using h7
    by_cases h6 : op = 6
    · subst h6
      by_cases hk : k = 2
      · subst hk; rfl
      · have : (k != 2) = true := by simpa using hk
        simp [this]
    · have e6 : (op == 6) = false := by simpa using h6
      simp only [bne, e7, e6]
      simp
end Go.Proofs.YtjnfbinomljocaaDoor
