/- gazetteref06: Holds, Void, Implies answer as package cond does. (Written by gen_condr2.py.) -/
import Derived.Test.YtliobglhppejiaaGreatDoorCondR
namespace Go.Proofs.YtliobglhppejiaaGreatDoor
open Go.RowKit Go.Shelf
open Go.Proofs
set_option maxRecDepth 100000

/-- Holds, as the document's own answer goes about it. -/
def rholdsB (op r : Int) (b p q : Bool) : Bool := if op == 7 then true else if b then (if op == 6 then q && p else standsB op r) else false
theorem rholds_eq (nm : ByteArray) (op k n : Int) (x : Nat) (s : ByteArray) (y : Bool) (nm2 : ByteArray) (k2 n2 : Int) (x2 : Nat) (s2 : ByteArray) (y2 : Bool) :
    holdsB ⟨⟨nm, k, n, x, s, y⟩, op⟩ ⟨nm2, k2, n2, x2, s2, y2⟩ = rholdsB op (cmpR k2 n2 x2 s2 y2 k n x s y) (cmpOk k2 x2 k x) (preB s2 s) (k2 == 2) := by
  unfold holdsB rholdsB okA cmpA
  simp only []
  cases h7 : (op == 7)
  · simp only [Bool.false_eq_true, if_false]
    cases hb : cmpOk k2 x2 k x
    · cases h6 : (op == 6)
      · simp
      · simp only [if_true, Bool.false_eq_true, if_false]
        by_cases e1 : k = 2
        · by_cases e2 : k2 = 2
          · exfalso
            subst e1; subst e2
            have : cmpOk 2 x2 2 x = true := rfl
            rw [this] at hb; cases hb
          · have : (k2 == 2) = false := by simpa using e2
            rw [this]; simp
        · have : (k == 2) = false := by simpa using e1
          rw [this]; rfl
    · have hk : k2 = k := by
        unfold cmpOk at hb
        simp only [Bool.and_eq_true, beq_iff_eq] at hb
        exact hb.1
      have hr : cmpR k2 n2 x2 s2 y2 k n x s y = cmpV k2 n2 n x2 x s2 s y2 y := by unfold cmpR; rw [hb]; rfl
      rw [hr]
      cases h6 : (op == 6)
      · simp
      · subst hk
        cases (k2 == 2) <;> simp
  · rfl

/-! ### Void -/
theorem rcv_eq (nm : ByteArray) (op k n : Int) (x : Nat) (s : ByteArray) (y : Bool) (b : Bool) (hb : b = voidB k x) : cvoidB ⟨⟨nm, k, n, x, s, y⟩, op⟩ = ((op != 7 && b) || (op == 6 && k != 2)) := by
  subst hb
  unfold cvoidB
  simp only []
  by_cases h7 : op = 7
  · subst h7; simp
  · have e7 : (op == 7) = false := by simpa using h7
    by_cases h6 : op = 6
    · subst h6
      by_cases hk : k = 2
      · subst hk; rfl
      · have : (k != 2) = true := by simpa using hk
        simp [this]
    · have e6 : (op == 6) = false := by simpa using h6
      simp only [bne, e7, e6]
      simp
end Go.Proofs.YtliobglhppejiaaGreatDoor
