/- Of three numbers keys tell an order. -/
import Derived.Test.YtigpalhacdaeoaaOrderBacks
import Derived.LoopN
namespace Go.Proofs.Ytigpalhacdaeoaa
open Go.RowKit

@[go_sem] theorem ix_u0 (a b c : Int) (w : World) : (Instr.index 32 (.agg #[.int .u64 a, .int .u64 b, .int .u64 c]) (.int .i64 0)).run Try.prog w = .ok (.int .u64 a) w := by kernel_rfl
@[go_sem] theorem ix_u1 (a b c : Int) (w : World) : (Instr.index 32 (.agg #[.int .u64 a, .int .u64 b, .int .u64 c]) (.int .i64 1)).run Try.prog w = .ok (.int .u64 b) w := by kernel_rfl
@[go_sem] theorem ix_u2 (a b c : Int) (w : World) : (Instr.index 32 (.agg #[.int .u64 a, .int .u64 b, .int .u64 c]) (.int .i64 2)).run Try.prog w = .ok (.int .u64 c) w := by kernel_rfl
@[go_sem] theorem ix_f0 (a b c : Nat) (w : World) : (Instr.index 33 (.agg #[.float .f64 a, .float .f64 b, .float .f64 c]) (.int .i64 0)).run Try.prog w = .ok (.float .f64 a) w := by kernel_rfl
@[go_sem] theorem ix_f1 (a b c : Nat) (w : World) : (Instr.index 33 (.agg #[.float .f64 a, .float .f64 b, .float .f64 c]) (.int .i64 1)).run Try.prog w = .ok (.float .f64 b) w := by kernel_rfl
@[go_sem] theorem ix_f2 (a b c : Nat) (w : World) : (Instr.index 33 (.agg #[.float .f64 a, .float .f64 b, .float .f64 c]) (.int .i64 2)).run Try.prog w = .ok (.float .f64 c) w := by kernel_rfl

theorem top_ways (x : Nat) : (fkey x == 18446744073709551615) = fnan x := by
  cases h : fnan x
  · rw [beq_eq_false_iff_ne]; have := fkey_top h; omega
  · rw [fkey_nan h]; decide

theorem geq_false {a b : Nat} (h : fnan a = true ∨ fnan b = true ∨ fpos a < fpos b) : (FloatKind.f64.format.order a b == some .gt) = false ∧ (FloatKind.f64.format.order a b == some .eq) = false := by
  cases ha : fnan a
  · cases hb : fnan b
    · rw [ha, hb] at h
      rw [order_num a b ha hb, ford_lt (by simpa using h)]; decide
    · rw [order_nan a b (.inr hb)]; decide
  · rw [order_nan a b (.inl ha)]; decide

theorem chains_ways (a b c : Nat) :
    (decide (fkey a < fkey b) = false)
    ∨ (decide (fkey a < fkey b) = true ∧ decide (fkey b < fkey c) = false)
    ∨ (decide (fkey a < fkey b) = true ∧ decide (fkey b < fkey c) = true ∧ decide (fkey c ≤ fkey a) = false ∧ (FloatKind.f64.format.order a b == some .gt) = false ∧ (FloatKind.f64.format.order a b == some .eq) = false
      ∧ (FloatKind.f64.format.order b c == some .gt) = false ∧ (FloatKind.f64.format.order b c == some .eq) = false) := by
  by_cases h1 : fkey a < fkey b
  · by_cases h2 : fkey b < fkey c
    · have u := (fkey_bd b).2
      have v := (fkey_bd c).2
      have na : fnan a = false := by
        cases h : fnan a
        · rfl
        · have := fkey_nan h; omega
      have nb : fnan b = false := by
        cases h : fnan b
        · rfl
        · have := fkey_nan h; omega
      have g1 := geq_false (a := a) (b := b) (.inr (.inr ((fkey_lt na nb).1 h1)))
      have g2 : (FloatKind.f64.format.order b c == some .gt) = false ∧ (FloatKind.f64.format.order b c == some .eq) = false := by
        cases hc : fnan c
        · exact geq_false (.inr (.inr ((fkey_lt nb hc).1 h2)))
        · exact geq_false (.inr (.inl hc))
      exact .inr (.inr ⟨decide_eq_true h1, decide_eq_true h2, decide_eq_false (by omega), g1.1, g1.2, g2.1, g2.2⟩)
    · exact .inr (.inl ⟨decide_eq_true h1, decide_eq_false h2⟩)
  · exact .inl (decide_eq_false h1)

set_option maxHeartbeats 1600000 in
theorem orderChains_w (a b c : Nat) (ha : a < 18446744073709551616) (hb : b < 18446744073709551616) (hc : c < 18446744073709551616) (w : World) : Calls Try.prog 6 #[.float .f64 a, .float .f64 b, .float .f64 c] w fun e w' => e = .returned (.bool true) ∧ Below w.heap.size w w' := by
  have HA := Lib.hid ha
  have HB := Lib.hid hb
  have HC := Lib.hid hc
  have ta := top_ways a
  have tb := top_ways b
  have tc := top_ways c
  clear ha hb hc
  cases na : fnan a <;> cases nb : fnan b <;> cases nc : fnan c
  all_goals
    rw [na] at ta; rw [nb] at tb; rw [nc] at tc
    rcases chains_ways a b c with h1 | ⟨h1, h2⟩ | ⟨h1, h2, h3, h4, h5, h6, h7⟩
    all_goals
      go_enter Try.func6, Try.ntmps6
      go_wp2_with (first | (go_at_call 9; refine (fit_c _).mono ?_; rintro e w' ⟨rfl, rfl⟩) | (go_at_call 10; refine (key_c _ (by first | exact HA.out | exact HB.out | exact HC.out) _).mono ?_; rintro e w' ⟨rfl, rfl⟩) | (go_at_call 15; refine (none_c _ _).mono ?_; rintro e w' ⟨rfl, rfl⟩))
      refine wp_loop_rounds 4 ?_
      repeat any_goals (rw [rounds_succ]; go_wp2_with (first | (go_at_call 9; refine (fit_c _).mono ?_; rintro e w' ⟨rfl, rfl⟩) | (go_at_call 10; refine (key_c _ (by first | exact HA.out | exact HB.out | exact HC.out) _).mono ?_; rintro e w' ⟨rfl, rfl⟩) | (go_at_call 15; refine (none_c _ _).mono ?_; rintro e w' ⟨rfl, rfl⟩)))
      refine wp_loop_rounds 4 ?_
      repeat any_goals (rw [rounds_succ]; go_wp2_with (first | (go_at_call 9; refine (fit_c _).mono ?_; rintro e w' ⟨rfl, rfl⟩) | (go_at_call 10; refine (key_c _ (by first | exact HA.out | exact HB.out | exact HC.out) _).mono ?_; rintro e w' ⟨rfl, rfl⟩) | (go_at_call 15; refine (none_c _ _).mono ?_; rintro e w' ⟨rfl, rfl⟩)))
      go_ret
      exact ⟨rfl, laws.below_drew _ _⟩

end Go.Proofs.Ytigpalhacdaeoaa
