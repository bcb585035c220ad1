/- Each key leads back to its number; others to none. -/
import Derived.Test.YtigpalhacdaeoaaOrderCanons
namespace Go.Proofs.Ytigpalhacdaeoaa
open Go.RowKit

theorem back_key (x : Nat) (hx : x < 18446744073709551616) : fback (fkey x) = (fcanon x, true) := by
  have hp := fneg_parts x hx
  have e : fbk (fkey x) = fcanon x := by
    unfold fbk
    cases hn : fnan x
    · have hk := fkey_num hn
      have bd := fpos_bd hn
      have rg := fnan_rung hn
      by_cases hz : frung x = 0
      · have h0 := (pos_zero x).2 hz
        have e0 : fbits (fkey x) = 0 := by rw [hk, h0]; decide
        rw [e0]; simp [fcanon, hn, hz]; decide
      · by_cases hg : fneg x = true
        · simp only [hg, if_true] at hp
          have hv : fpos x = -(frung x : Int) := by simp [fpos, hg]
          have e0 : fbits (fkey x) = x := by rw [hk, hv]; unfold fbits; rw [if_neg (by omega), if_neg (by omega)]; omega
          rw [e0]
        · rw [Bool.not_eq_true] at hg
          simp only [hg] at hp
          have hv : fpos x = (frung x : Int) := by simp [fpos, hg]
          have e0 : fbits (fkey x) = x := by rw [hk, hv]; unfold fbits; rw [if_pos (by omega), if_pos (by omega)]; simp at hp; omega
          rw [e0]
    · rw [fkey_nan hn, canon_nan hn]; decide +kernel
  unfold fback
  rw [e, if_pos]
  cases hn : fnan x
  · obtain ⟨h1, h2⟩ := canon_num hn
    exact (fkey_eq h1 hn).2 h2
  · rw [canon_nan hn, fkey_nan hn]; decide +kernel

theorem fback_lt (k : Int) (h1 : k < 18446744073709551616) : (fback k).1 < 18446744073709551616 := by
  unfold fback; split
  · exact fbk_lt k h1
  · decide

theorem back_ways (x : Nat) :
    (fnan x = true ∧ (fkey x == fkey (fcanon x)) = true)
    ∨ (fnan x = false ∧ (fkey x == fkey (fcanon x)) = true ∧ (FloatKind.f64.format.order (fcanon x) x != some .eq) = false) := by
  cases hn : fnan x
  · obtain ⟨h1, h2⟩ := canon_num hn
    exact .inr ⟨rfl, by rw [beq_iff_eq]; exact ((fkey_eq h1 hn).2 h2).symm, by rw [order_same h1 hn h2]; rfl⟩
  · exact .inl ⟨rfl, by rw [canon_nan hn, fkey_nan hn]; decide +kernel⟩

theorem other_ways (k : Int) :
    (∃ z, fback k = (z, true) ∧ (fkey z == k) = true)
    ∨ (fback k = (0, false) ∧ (fkey 0 != k) = true) := by
  by_cases h : fkey (fbk k) = k
  · exact .inl ⟨fbk k, by simp [fback, h], by rw [beq_iff_eq]; exact h⟩
  · refine .inr ⟨by simp [fback, h], ?_⟩
    rw [bne_iff_ne]
    intro e
    apply h
    rw [← e]; decide +kernel

set_option maxHeartbeats 1600000 in
theorem orderBacks_w (x : Nat) (k : Int) (hx : x < 18446744073709551616) (hk : 0 ≤ k ∧ k ≤ 18446744073709551615) (w : World) : Calls Try.prog 4 #[.float .f64 x, .int .u64 k] w fun e w' => e = .returned (.bool true) ∧ Below w.heap.size w w' := by
  have HA := Lib.hid hx
  have HB := Lib.hid (fcanon_lt x hx)
  have HL : Hid (0 ≤ fkey x ∧ fkey x < 18446744073709551616) := ⟨(fkey_bd x).1, by have := (fkey_bd x).2; omega⟩
  have HK : Hid (0 ≤ k ∧ k < 18446744073709551616) := ⟨hk.1, by omega⟩
  have HC := Lib.hid (fback_lt k (by omega))
  have hb := back_key x hx
  have nx : (FloatKind.f64.format.order x x == some .eq) = !fnan x := by rw [← neq_self x]; simp [bne]
  have z0 : (FloatKind.f64.format.order 0 0 == some .eq) = true := by decide +kernel
  clear hx hk
  rcases other_ways k with ⟨z, g1, g2⟩ | ⟨g1, g2⟩
  all_goals
    rw [g1] at HC
    rcases back_ways x with ⟨h1, h2⟩ | ⟨h1, h2, h3⟩
    all_goals
      rw [h1] at nx
      go_enter Try.func4, Try.ntmps4
      go_wp2_with (first | (go_at_call 9; refine (fit_c _).mono ?_; rintro e w' ⟨rfl, rfl⟩) | (go_at_call 10; refine (key_c _ (by first | exact HA.out | exact HB.out | exact HC.out) _).mono ?_; rintro e w' ⟨rfl, rfl⟩) | (go_at_call 15; refine (none_c _ _).mono ?_; rintro e w' ⟨rfl, rfl⟩) | (go_at_call 14; refine (canon_c _ _).mono ?_; rintro e w' ⟨rfl, rfl⟩) | (go_at_call 11; refine (less_c _ _ _).mono ?_; rintro e w' ⟨rfl, rfl⟩) | (go_at_call 12; refine (same_c _ _ (by first | exact HA.out | exact HB.out | exact HC.out) (by first | exact HA.out | exact HB.out | exact HC.out) _).mono ?_; rintro e w' ⟨rfl, rfl⟩) | (go_at_call 13; refine (back_c _ (by first | exact HK.out.1 | exact HL.out.1) (by first | exact HK.out.2 | exact HL.out.2) _).mono ?_; rintro e w' ⟨rfl, rfl⟩))
      go_ret
      exact ⟨rfl, laws.below_drew _ _⟩

end Go.Proofs.Ytigpalhacdaeoaa
