/- What has no end stands at both ends, but for such that are none. -/
import Derived.Test.YtigpalhacdaeoaaOrderBacks
namespace Go.Proofs.Ytigpalhacdaeoaa
open Go.RowKit

theorem ends_ways (x : Nat) :
    (fnan x = true ∧ decide (fkey 9218868437227405312 < fkey x) = true)
    ∨ (fnan x = false ∧ decide (fkey x ≤ fkey 9218868437227405312) = true ∧ decide (fkey 18442240474082181120 ≤ fkey x) = true
      ∧ (FloatKind.f64.format.order x 9218868437227405312 == some .eq) = (fkey x == 18442240474082181120)) := by
  have kb : fkey 9218868437227405312 = 18442240474082181120 := by decide +kernel
  have ks : fkey 18442240474082181120 = 4503599627370495 := by decide +kernel
  cases h : fnan x
  · have bd := fpos_bd h
    have hk := fkey_num h
    refine .inr ⟨rfl, ?_, ?_, ?_⟩
    · rw [decide_eq_true_eq, kb, hk]; split <;> omega
    · rw [decide_eq_true_eq, ks, hk]; split <;> omega
    · rw [order_num x _ h (by decide +kernel)]
      have pb : fpos 9218868437227405312 = 9218868437227405312 := by decide +kernel
      rw [pb]
      by_cases e : fpos x = 9218868437227405312
      · rw [ford_eq e, hk, e]; decide
      · rw [ford_lt (by omega)]
        have : (fkey x == 18442240474082181120) = false := by rw [beq_eq_false_iff_ne, hk]; split <;> omega
        rw [this]; decide
  · exact .inl ⟨rfl, by rw [kb, fkey_nan h]; decide⟩

set_option maxHeartbeats 1600000 in
theorem orderEnds_w (x : Nat) (hx : x < 18446744073709551616) (w : World) : Calls Try.prog 8 #[.float .f64 x] w fun e w' => e = .returned (.bool true) ∧ Below w.heap.size w w' := by
  have HA := Lib.hid hx
  have HB : Hid (9218868437227405312 < 18446744073709551616) := by unfold Hid; decide
  have HC : Hid (18442240474082181120 < 18446744073709551616) := by unfold Hid; decide
  have HK : Hid ((0 : Int) ≤ 18442240474082181120 ∧ (18442240474082181120 : Int) < 18446744073709551616) := by unfold Hid; decide
  have HL : Hid ((0 : Int) ≤ 4503599627370495 ∧ (4503599627370495 : Int) < 18446744073709551616) := by unfold Hid; decide
  have b1 : fback 18442240474082181120 = (9218868437227405312, true) := by decide +kernel
  have b2 : fback 4503599627370495 = (18442240474082181120, true) := by decide +kernel
  have ng : Op.negFloat .f64 18442240474082181120 = 9218868437227405312 := by decide +kernel
  have o1 : (FloatKind.f64.format.order 9218868437227405312 9218868437227405312 == some .eq) = true := by decide +kernel
  have o2 : (FloatKind.f64.format.order 9218868437227405312 9214871658872686752 == some .gt) = true := by decide +kernel
  have nx := neq_self x
  clear hx
  rcases ends_ways x with ⟨h1, h2⟩ | ⟨h1, h2, h3, h4⟩
  · rw [h1] at nx
    go_enter Try.func8, Try.ntmps8
    go_wp2_with (first | (go_at_call 9; refine (fit_c _).mono ?_; rintro e w' ⟨rfl, rfl⟩) | (go_at_call 10; refine (key_c _ (by first | exact HA.out | exact HB.out | exact HC.out) _).mono ?_; rintro e w' ⟨rfl, rfl⟩) | (go_at_call 15; refine (none_c _ _).mono ?_; rintro e w' ⟨rfl, rfl⟩) | (go_at_call 13; refine (back_c _ (by first | exact HK.out.1 | exact HL.out.1) (by first | exact HK.out.2 | exact HL.out.2) _).mono ?_; rintro e w' ⟨rfl, rfl⟩))
    go_ret
    exact ⟨rfl, laws.below_drew _ _⟩
  · rw [h1] at nx
    go_enter Try.func8, Try.ntmps8
    go_wp2_with (first | (go_at_call 9; refine (fit_c _).mono ?_; rintro e w' ⟨rfl, rfl⟩) | (go_at_call 10; refine (key_c _ (by first | exact HA.out | exact HB.out | exact HC.out) _).mono ?_; rintro e w' ⟨rfl, rfl⟩) | (go_at_call 15; refine (none_c _ _).mono ?_; rintro e w' ⟨rfl, rfl⟩) | (go_at_call 13; refine (back_c _ (by first | exact HK.out.1 | exact HL.out.1) (by first | exact HK.out.2 | exact HL.out.2) _).mono ?_; rintro e w' ⟨rfl, rfl⟩))
    go_ret
    exact ⟨rfl, laws.below_drew _ _⟩

end Go.Proofs.Ytigpalhacdaeoaa
