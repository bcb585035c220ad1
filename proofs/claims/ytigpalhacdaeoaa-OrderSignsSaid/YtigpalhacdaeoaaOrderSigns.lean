/- A number and what is below nothing by as much stand on both sides of noughts. -/
import Derived.Test.YtigpalhacdaeoaaFit
import Derived.Test.YtigpalhacdaeoaaLaw
namespace Go.Proofs.Ytigpalhacdaeoaa
open Go.RowKit

theorem lo_xor (r : Nat) (h : r < 2 ^ 63) : r ^^^ 2 ^ 63 = 2 ^ 63 + r := by
  apply Nat.eq_of_testBit_eq
  intro i
  rw [Nat.testBit_xor, Nat.testBit_two_pow]
  rcases Nat.lt_trichotomy i 63 with hi | hi | hi
  · rw [Nat.testBit_two_pow_add_gt hi]
    have : decide (63 = i) = false := by simp; omega
    rw [this, Bool.xor_false]
  · subst hi
    rw [Nat.testBit_two_pow_add_eq, Nat.testBit_lt_two_pow h]; rfl
  · have e1 : r.testBit i = false := Nat.testBit_lt_two_pow (Nat.lt_of_lt_of_le h (Nat.pow_le_pow_right (by decide) (by omega)))
    have e2 : (2 ^ 63 + r).testBit i = false := Nat.testBit_lt_two_pow (Nat.lt_of_lt_of_le (m := 2 ^ 64) (by omega) (Nat.pow_le_pow_right (by decide) (by omega)))
    have e3 : decide (63 = i) = false := by simp; omega
    rw [e1, e2, e3]; rfl
theorem hi_xor (r : Nat) (h : r < 2 ^ 63) : (2 ^ 63 + r) ^^^ 2 ^ 63 = r := by
  rw [← lo_xor r h, Nat.xor_assoc, Nat.xor_self, Nat.xor_zero]

theorem neg_parts (x : Nat) (hx : x < 18446744073709551616) : Op.negFloat .f64 x < 18446744073709551616 ∧ fnan (Op.negFloat .f64 x) = fnan x ∧ fpos (Op.negFloat .f64 x) = -fpos x := by
  have hp := fneg_parts x hx
  have e : Op.negFloat .f64 x = x ^^^ 2 ^ 63 := rfl
  rw [e]
  by_cases hg : fneg x = true
  · simp only [hg, if_true] at hp
    have ex : x = 2 ^ 63 + frung x := by omega
    have e2 : x ^^^ 2 ^ 63 = frung x := by
      have := hi_xor (frung x) (by omega)
      rw [← ex] at this; exact this
    rw [e2]
    have n0 := fneg_lo (frung x) (by omega)
    have r0 : frung (frung x) = frung x := Nat.mod_eq_of_lt (by omega)
    refine ⟨by omega, by unfold fnan; rw [r0], ?_⟩
    unfold fpos; rw [n0, hg, r0]; simp
  · rw [Bool.not_eq_true] at hg
    simp only [hg] at hp
    have ex : x = frung x := by simp at hp; omega
    have e2 := lo_xor (frung x) (by omega)
    rw [← ex] at e2
    rw [e2]
    have n0 : fneg (2 ^ 63 + x) = true := by unfold fneg; rw [beq_iff_eq]; omega
    have r0 : frung (2 ^ 63 + x) = frung x := by unfold frung; omega
    refine ⟨by omega, by unfold fnan; rw [r0], ?_⟩
    unfold fpos; rw [n0, hg, r0]; simp

theorem pos_zero (x : Nat) : fpos x = 0 ↔ frung x = 0 := by
  unfold fpos; split <;> omega

/-- What a number can be, with what follows for its key and the other one's. -/
theorem signs_ways (x : Nat) (hx : x < 18446744073709551616) :
    (fnan x = true ∧ (fkey x == fkey (Op.negFloat .f64 x)) = true)
    ∨ (fnan x = false ∧ (FloatKind.f64.format.order x 0 == some .eq) = true ∧ (fkey x == fkey (Op.negFloat .f64 x)) = true ∧ (fkey x == 9223372036854775808) = true)
    ∨ (fnan x = false ∧ (FloatKind.f64.format.order x 0 == some .eq) = false ∧ decide (9223372036854775808 < fkey x) = (FloatKind.f64.format.order x 0 == some .gt) ∧ (IntKind.u64.wrap (fkey x + fkey (Op.negFloat .f64 x)) == 18446744073709551615) = true ∧ (fkey x != fkey (Op.negFloat .f64 x)) = true) := by
  obtain ⟨h1, h2, h3⟩ := neg_parts x hx
  cases hn : fnan x
  · rw [hn] at h2
    have hk := fkey_num hn
    have hk2 := fkey_num h2
    have z := pos_zero x
    by_cases hz : frung x = 0
    · have := z.2 hz
      refine .inr (.inl ⟨rfl, by rw [eq_zero, decide_eq_true hz], ?_, ?_⟩)
      · rw [beq_iff_eq, hk, hk2, h3, this]; rfl
      · rw [beq_iff_eq, hk, this]; rfl
    · have o := order_num x 0 hn rfl
      have p0 : fpos 0 = 0 := by decide
      have bd := fpos_bd hn
      refine .inr (.inr ⟨rfl, by rw [eq_zero, decide_eq_false hz], ?_, ?_, ?_⟩)
      · rw [o, p0, hk]
        by_cases hp : fpos x < 0
        · rw [ford_lt hp, if_neg (by omega), decide_eq_false (by omega)]; rfl
        · rw [ford_gt (by omega), if_pos (by omega), decide_eq_true (by omega)]; rfl
      · rw [beq_iff_eq, hk, hk2, h3, IntKind.wrap_u64]
        split <;> split <;> omega
      · rw [bne_iff_ne, hk, hk2, h3]
        split <;> split <;> omega
  · rw [hn] at h2
    exact .inl ⟨rfl, by rw [fkey_nan hn, fkey_nan h2]; rfl⟩

set_option maxHeartbeats 1600000 in
theorem orderSigns_w (x : Nat) (hx : x < 18446744073709551616) (w : World) : Calls Try.prog 7 #[.float .f64 x] w fun e w' => e = .returned (.bool true) ∧ Below w.heap.size w w' := by
  have HA := Lib.hid hx
  have HB := Lib.hid (neg_parts x hx).1
  have nx := neq_self x
  rcases signs_ways x hx with ⟨h1, h2⟩ | ⟨h1, h2, h3, h4⟩ | ⟨h1, h2, h3, h4, h5⟩
  all_goals
    clear hx
    rw [h1] at nx
    go_enter Try.func7, Try.ntmps7
    go_wp2_with (first | (go_at_call 9; refine (fit_c _).mono ?_; rintro e w' ⟨rfl, rfl⟩) | (go_at_call 10; refine (key_c _ (by first | exact HA.out | exact HB.out) _).mono ?_; rintro e w' ⟨rfl, rfl⟩) | (go_at_call 15; refine (none_c _ _).mono ?_; rintro e w' ⟨rfl, rfl⟩) | (go_at_call 14; refine (canon_c _ _).mono ?_; rintro e w' ⟨rfl, rfl⟩) | (go_at_call 11; refine (less_c _ _ _).mono ?_; rintro e w' ⟨rfl, rfl⟩) | (go_at_call 12; refine (same_c _ _ (by first | exact HA.out | exact HB.out) (by first | exact HA.out | exact HB.out) _).mono ?_; rintro e w' ⟨rfl, rfl⟩))
    go_ret
    exact ⟨rfl, laws.below_drew _ _⟩

end Go.Proofs.Ytigpalhacdaeoaa
