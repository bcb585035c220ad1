/- For any two numbers, keys rise with numbers, both noughts have one key, and all that are none have one. -/
import Derived.Test.YtigpalhacdaeoaaFit
import Derived.Test.YtigpalhacdaeoaaLaw
namespace Go.Proofs.Ytigpalhacdaeoaa
open Go.RowKit

/-- What two numbers can be to one another, with all that follows for keys. -/
theorem keys_ways (a b : Nat) :
    (fnan a = false ∧ fnan b = false ∧ (FloatKind.f64.format.order a b == some .lt) = true ∧ decide (fkey a < fkey b) = true ∧ (fkey a == fkey b) = false ∧ flt a b = true ∧ flt b a = false)
    ∨ (fnan a = false ∧ fnan b = false ∧ (FloatKind.f64.format.order a b == some .lt) = false ∧ (FloatKind.f64.format.order a b == some .gt) = true ∧ decide (fkey b < fkey a) = true ∧ (fkey a == fkey b) = false ∧ flt a b = false ∧ flt b a = true)
    ∨ (fnan a = false ∧ fnan b = false ∧ (FloatKind.f64.format.order a b == some .lt) = false ∧ (FloatKind.f64.format.order a b == some .gt) = false ∧ (fkey a == fkey b) = true ∧ flt a b = false)
    ∨ (fnan a = true ∧ fnan b = false ∧ (fkey a == fkey b) = false ∧ decide (fkey b < fkey a) = true ∧ flt a b = false)
    ∨ (fnan a = false ∧ fnan b = true ∧ (fkey a == fkey b) = false ∧ decide (fkey a < fkey b) = true ∧ flt a b = false)
    ∨ (fnan a = true ∧ fnan b = true ∧ (fkey a == fkey b) = true ∧ flt a b = false) := by
  have ta := @fkey_top a
  have tb := @fkey_top b
  have ea := @fkey_nan a
  have eb := @fkey_nan b
  have lt := @fkey_lt a b
  have gt := @fkey_lt b a
  have eq := @fkey_eq a b
  cases hna : fnan a
  · cases hnb : fnan b
    · have lt := lt hna hnb
      have gt := gt hnb hna
      have eq := eq hna hnb
      have o1 := @ford_of_lt a b hna hnb
      rcases (by omega : fpos a < fpos b ∨ fpos b < fpos a ∨ fpos a = fpos b) with h | h | h
      · have o := o1 _ (ford_lt h)
        exact .inl ⟨rfl, rfl, by rw [o]; rfl, by rw [decide_eq_true_eq]; omega, by rw [beq_eq_false_iff_ne]; omega, by simp [flt, hna, hnb, h], by simp [flt, hna, hnb]; omega⟩
      · have o := o1 _ (ford_gt h)
        exact .inr (.inl ⟨rfl, rfl, by rw [o]; rfl, by rw [o]; rfl, by rw [decide_eq_true_eq]; omega, by rw [beq_eq_false_iff_ne]; omega, by simp [flt, hna, hnb]; omega, by simp [flt, hna, hnb, h]⟩)
      · have o := o1 _ (ford_eq h)
        exact .inr (.inr (.inl ⟨rfl, rfl, by rw [o]; rfl, by rw [o]; rfl, by rw [beq_iff_eq]; omega, by simp [flt, hna, hnb]; omega⟩))
    · have ta := ta hna
      have eb := eb hnb
      exact .inr (.inr (.inr (.inr (.inl ⟨rfl, rfl, by rw [beq_eq_false_iff_ne]; omega, by rw [decide_eq_true_eq]; omega, by simp [flt, hnb]⟩))))
  · have ea := ea hna
    cases hnb : fnan b
    · have tb := tb hnb
      exact .inr (.inr (.inr (.inl ⟨rfl, rfl, by rw [beq_eq_false_iff_ne]; omega, by rw [decide_eq_true_eq]; omega, by simp [flt, hna]⟩)))
    · have eb := eb hnb
      exact .inr (.inr (.inr (.inr (.inr ⟨rfl, rfl, by rw [beq_iff_eq]; omega, by simp [flt, hna]⟩))))

set_option maxHeartbeats 1600000 in
theorem keys_w (a b : Nat) (ha : a < 18446744073709551616) (hb : b < 18446744073709551616) (w : World) : Calls Try.prog 3 #[.float .f64 a, .float .f64 b] w fun e w' => e = .returned (.bool true) ∧ Below w.heap.size w w' := by
  have HA := Lib.hid ha; clear ha
  have HB := Lib.hid hb; clear hb
  have na := neq_self a
  have nb := neq_self b
  rcases keys_ways a b with ⟨h1, h2, h3, h4, h5, h6, h7⟩ | ⟨h1, h2, h3, h4, h5, h6, h7, h8⟩ | ⟨h1, h2, h3, h4, h5, h6⟩ | ⟨h1, h2, h3, h4, h5⟩ | ⟨h1, h2, h3, h4, h5⟩ | ⟨h1, h2, h3, h4⟩
  all_goals
    rw [h1] at na
    rw [h2] at nb
    go_enter Try.func3, Try.ntmps3
    go_wp2_with (first | (go_at_call 9; refine (fit_c _).mono ?_; rintro e w' ⟨rfl, rfl⟩) | (go_at_call 10; refine (key_c _ (by first | exact HA.out | exact HB.out) _).mono ?_; rintro e w' ⟨rfl, rfl⟩) | (go_at_call 11; refine (less_c _ _ _).mono ?_; rintro e w' ⟨rfl, rfl⟩) | (go_at_call 12; refine (same_c _ _ HA.out HB.out _).mono ?_; rintro e w' ⟨rfl, rfl⟩))
    go_ret
    exact ⟨rfl, laws.below_drew _ _⟩

end Go.Proofs.Ytigpalhacdaeoaa
