/- What is kept is the number itself, but for noughts and such that are none. -/
import Derived.Test.YtigpalhacdaeoaaOrderSigns
namespace Go.Proofs.Ytigpalhacdaeoaa
open Go.RowKit

@[go_sem] theorem run_one_zero (t : TypeId) (w : World) : (binOp .quo t (.float .f64 4607182418800017408) (.float .f64 0)).run Try.prog w = .ok (.float .f64 9218868437227405312) w :=
  run_float_arith w .quo t .f64 _ _ _ (by decide +kernel)

theorem canon_num {x : Nat} (h : fnan x = false) : fnan (fcanon x) = false ∧ fpos (fcanon x) = fpos x := by
  unfold fcanon
  rw [h]
  by_cases hz : frung x = 0
  · simp only [hz, if_true, Bool.false_eq_true, if_false]
    exact ⟨rfl, by rw [(pos_zero x).2 hz]; decide⟩
  · simp only [hz, Bool.false_eq_true, if_false]
    exact ⟨h, trivial⟩
theorem canon_nan {x : Nat} (h : fnan x = true) : fcanon x = 9221120237041090561 := by simp [fcanon, h]
theorem order_same {a b : Nat} (ha : fnan a = false) (hb : fnan b = false) (h : fpos a = fpos b) : FloatKind.f64.format.order a b = some .eq := by
  rw [order_num a b ha hb, ford_eq h]

theorem canon_ways (x : Nat) :
    (fnan x = true ∧ fcanon x = 9221120237041090561)
    ∨ (fnan x = false ∧ (FloatKind.f64.format.order x 0 == some .eq) = true ∧ fcanon x = 0)
    ∨ (fnan x = false ∧ (FloatKind.f64.format.order x 0 == some .eq) = false ∧ (FloatKind.f64.format.order (fcanon x) x == some .eq) = true ∧ (fkey (fcanon x) == fkey x) = true) := by
  cases h : fnan x
  · obtain ⟨h1, h2⟩ := canon_num h
    by_cases hz : frung x = 0
    · exact .inr (.inl ⟨rfl, by rw [eq_zero, decide_eq_true hz], by simp [fcanon, h, hz]⟩)
    · exact .inr (.inr ⟨rfl, by rw [eq_zero, decide_eq_false hz], by rw [order_same h1 h h2]; rfl, by rw [beq_iff_eq]; exact (fkey_eq h1 h).2 h2⟩)
  · exact .inl ⟨rfl, canon_nan h⟩

set_option maxHeartbeats 1600000 in
theorem orderCanons_w (x : Nat) (hx : x < 18446744073709551616) (w : World) : Calls Try.prog 5 #[.float .f64 x] w fun e w' => e = .returned (.bool true) ∧ Below w.heap.size w w' := by
  have HA := Lib.hid hx
  have HB := Lib.hid (fcanon_lt x hx)
  have nx := neq_self x
  have nn : (FloatKind.f64.format.order 9221120237041090561 9221120237041090561 != some .eq) = true := by decide +kernel
  have z0 : (FloatKind.f64.format.order 0 0 == some .eq) = true := by decide +kernel
  have zi : (FloatKind.f64.format.order 9218868437227405312 0 == some .gt) = true := by decide +kernel
  rcases canon_ways x with ⟨h1, h2⟩ | ⟨h1, h2, h3⟩ | ⟨h1, h2, h3, h4⟩
  all_goals
    clear hx
    rw [h1] at nx
    go_enter Try.func5, Try.ntmps5
    go_wp2_with (first | (go_at_call 9; refine (fit_c _).mono ?_; rintro e w' ⟨rfl, rfl⟩) | (go_at_call 10; refine (key_c _ (by first | exact HA.out | exact HB.out) _).mono ?_; rintro e w' ⟨rfl, rfl⟩) | (go_at_call 15; refine (none_c _ _).mono ?_; rintro e w' ⟨rfl, rfl⟩) | (go_at_call 14; refine (canon_c _ _).mono ?_; rintro e w' ⟨rfl, rfl⟩) | (go_at_call 11; refine (less_c _ _ _).mono ?_; rintro e w' ⟨rfl, rfl⟩) | (go_at_call 12; refine (same_c _ _ (by first | exact HA.out | exact HB.out) (by first | exact HA.out | exact HB.out) _).mono ?_; rintro e w' ⟨rfl, rfl⟩))
    go_ret
    exact ⟨rfl, laws.below_drew _ _⟩

end Go.Proofs.Ytigpalhacdaeoaa
