/- cond.Implies of any two conditions. (Written by gen_condi.py.) -/
import Derived.Test.YtjnfbinomljocaaDoorGaC
namespace Go.Proofs.YtjnfbinomljocaaDoor
open Go.RowKit Go.Shelf
open Go.Proofs
set_option maxRecDepth 100000

theorem cmpV_three (k n n2 : Int) (x x2 : Nat) (s s2 : ByteArray) (y y2 : Bool) : cmpV k n n2 x x2 s s2 y y2 = -1 ∨ cmpV k n n2 x x2 s s2 y y2 = 0 ∨ cmpV k n n2 x x2 s s2 y y2 = 1 := by
  have h : ∀ a b, sgn a b = -1 ∨ sgn a b = 0 ∨ sgn a b = 1 := fun a b => by unfold sgn; repeat' split
                                                                            all_goals simp
  have h2 : ∀ a b, sgs a b = -1 ∨ sgs a b = 0 ∨ sgs a b = 1 := fun a b => by unfold sgs; repeat' split
                                                                             all_goals simp
  unfold cmpV
  repeat' split
  all_goals first | exact h _ _ | exact h2 _ _
theorem cmpR_three (k n : Int) (x : Nat) (s : ByteArray) (y : Bool) (k2 n2 : Int) (x2 : Nat) (s2 : ByteArray) (y2 : Bool) : cmpR k n x s y k2 n2 x2 s2 y2 = -1 ∨ cmpR k n x s y k2 n2 x2 s2 y2 = 0 ∨ cmpR k n x s y k2 n2 x2 s2 y2 = 1 := by
  unfold cmpR
  split
  · exact cmpV_three _ _ _ _ _ _ _ _ _
  · simp

end Go.Proofs.YtjnfbinomljocaaDoor
