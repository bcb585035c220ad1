/- What is kept, kept once more; its bounds. -/
import Derived.Test.YtfoboncfmigdaaaGreatDoorAtP
namespace Go.Proofs.YtfoboncfmigdaaaGreatDoor
open Go.RowKit Go.Shelf Go.Sort
open Go.Proofs
set_option maxRecDepth 100000

theorem fcanon_idem (x : Nat) : fcanon (fcanon x) = fcanon x := by
  cases h : fnan x
  · by_cases hz : frung x = 0
    · have : fcanon x = 0 := by unfold fcanon; rw [h, if_neg Bool.false_ne_true, if_pos hz]
      rw [this]; decide +kernel
    · have : fcanon x = x := by unfold fcanon; rw [h, if_neg Bool.false_ne_true, if_neg hz]
      rw [this, this]
  · rw [canon_nan h]; decide +kernel
theorem canonA_idem (a : At) : canonA (canonA a) = canonA a := by
  obtain ⟨nm, k, n, x, s, y⟩ := a
  unfold canonA
  simp only []
  by_cases h0 : (k == 0) = true
  · rw [if_pos h0]; rfl
  · rw [if_neg h0]
    by_cases h1 : (k == 1) = true
    · rw [if_pos h1]; simp [fcanon_idem]
    · rw [if_neg h1]
      by_cases h2 : (k == 2) = true
      · rw [if_pos h2]; rfl
      · rw [if_neg h2]
        by_cases h3 : (k == 3) = true
        · rw [if_pos h3]; rfl
        · rw [if_neg h3]; rfl
theorem canonA_bd (a : At) (hx : a.x < 18446744073709551616) (h0 : -9223372036854775808 ≤ a.n) (h1 : a.n ≤ 9223372036854775807) : (canonA a).x < 18446744073709551616 ∧ -9223372036854775808 ≤ (canonA a).n ∧ (canonA a).n ≤ 9223372036854775807 := by
  have hf := fcanon_lt a.x hx
  unfold canonA
  repeat' split
  all_goals simp only []
  all_goals omega
theorem canon_x (a : At) (h : AtOk a) : (canonA a).x < 18446744073709551616 := by
  unfold canonA
  repeat' split
  all_goals first | (show (0 : Nat) < _; decide) | skip
  show fcanon a.x < _
  unfold fcanon
  repeat' split
  · decide
  · decide
  · exact h
end Go.Proofs.YtfoboncfmigdaaaGreatDoor
