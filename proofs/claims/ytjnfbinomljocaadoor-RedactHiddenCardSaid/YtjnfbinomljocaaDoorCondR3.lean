/- gazetteref06.Implies answers as package cond does. (Written by gen_condr3.py.) -/
import Derived.Test.YtjnfbinomljocaaDoorCondR2
namespace Go.Proofs.YtjnfbinomljocaaDoor
open Go.RowKit Go.Shelf
open Go.Proofs
set_option maxRecDepth 100000

/-- One side, as the document's own answer goes about it. -/
def sideI (aop bop r strict other : Int) : Bool :=
  if bop == strict || bop == other then decide (r < 0) || (r == 0 && !(aop == other && bop == strict)) else bop == 1 && (decide (r < 0) || (r == 0 && aop == strict))
theorem side_lt (aop bop r : Int) (h : aop = 2 ∨ aop = 3) : sideI aop bop r 2 3 = boundI aop bop r 2 3 := by
  unfold sideI boundI
  by_cases b2 : bop = 2
  · subst b2; rcases h with rfl | rfl <;> simp
  · by_cases b3 : bop = 3
    · subst b3; rcases h with rfl | rfl <;> simp <;> rw [Bool.eq_iff_iff] <;> simp <;> omega
    · by_cases b1 : bop = 1
      · subst b1; rcases h with rfl | rfl <;> simp
      · simp [b1, b2, b3]
theorem side_gt (aop bop r : Int) (h : aop = 4 ∨ aop = 5) : sideI aop bop r 4 5 = boundI aop bop r 4 5 := by
  unfold sideI boundI
  by_cases b2 : bop = 4
  · subst b2; rcases h with rfl | rfl <;> simp
  · by_cases b3 : bop = 5
    · subst b3; rcases h with rfl | rfl <;> simp <;> rw [Bool.eq_iff_iff] <;> simp <;> omega
    · by_cases b1 : bop = 1
      · subst b1; rcases h with rfl | rfl <;> simp
      · simp [b1, b2, b3]

end Go.Proofs.YtjnfbinomljocaaDoor
