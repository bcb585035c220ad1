/- The functions of package order, each by a contract of its own. -/
import Derived.Test.YthkkdikfbagijaaGreatDoorRows
import Derived.Test.YthkkdikfbagijaaGreatDoorFloat
import Derived.WalkKit
import Derived.WalkLawsBesides
import Derived.KernelRfl
import Derived.Lib.Hide
namespace Go.Proofs.YthkkdikfbagijaaGreatDoor
open Go.RowKit

theorem neq_self (x : Nat) : (FloatKind.f64.format.order x x != some .eq) = fnan x := by
  cases h : fnan x
  · rw [order_num x x h h, ford_eq rfl]; rfl
  · rw [order_nan x x (.inl h)]; rfl

set_option maxHeartbeats 400000 in
theorem isnan_c (x : Nat) (w : World) : Calls Tryz.prog 35 #[.float .f64 x] w fun e w' => e = .returned (.bool (fnan x)) ∧ w = w' := by
  have h := neq_self x
  go_enter Tryz.func35, Tryz.ntmps35
  go_wp2
  go_ret
  exact ⟨rfl, rfl⟩

set_option maxHeartbeats 400000 in
theorem none_c (x : Nat) (w : World) : Calls Tryz.prog 22 #[.float .f64 x] w fun e w' => e = .returned (.bool (fnan x)) ∧ w = w' := by
  go_enter Tryz.func22, Tryz.ntmps22
  go_wp2_with (go_at_call 35; refine (isnan_c _ _).mono ?_; rintro e w' ⟨rfl, rfl⟩)
  go_ret
  exact ⟨rfl, rfl⟩

@[go_sem] theorem call_from (x : Int) (w : World) : (callFunc 36 #[.int .u64 x]).run Tryz.prog w = .ok (.value (.float .f64 x.toNat)) w := by
  rw [run_callFunc_extern (fn := Tryz.f36) (e := Extern.MathFloatBits.float64frombits) Tryz.func36 (by kernel_rfl) (by kernel_rfl) (by kernel_rfl) (by kernel_rfl)]
  rfl

set_option maxHeartbeats 400000 in
theorem nan_c (w : World) : Calls Tryz.prog 23 #[] w fun e w' => e = .returned (.float .f64 9221120237041090561) ∧ w = w' := by
  go_enter Tryz.func23, Tryz.ntmps23
  go_wp2
  go_ret
  exact ⟨rfl, rfl⟩

def fcanon (x : Nat) : Nat := if fnan x then 9221120237041090561 else if frung x = 0 then 0 else x

theorem eq_zero (x : Nat) : (FloatKind.f64.format.order x 0 == some .eq) = decide (frung x = 0) := by
  cases h : fnan x
  · rw [order_num x 0 h rfl]
    have : fpos 0 = 0 := by decide
    rw [this]
    by_cases e : frung x = 0
    · rw [ford_eq (by unfold fpos; split <;> omega)]; simp [e]
    · unfold ford fpos
      cases fneg x <;> simp [e]
      all_goals (try split) <;> simp <;> omega
  · rw [order_nan x 0 (.inl h)]
    simp only [fnan, decide_eq_true_eq] at h
    simp; omega

set_option maxHeartbeats 400000 in
theorem canon_c (x : Nat) (w : World) : Calls Tryz.prog 14 #[.float .f64 x] w fun e w' => e = .returned (.float .f64 (fcanon x)) ∧ w = w' := by
  have hz := eq_zero x
  by_cases hn : fnan x = true
  · have hc : fcanon x = 9221120237041090561 := by simp [fcanon, hn]
    rw [hc]; clear hz hc
    go_enter Tryz.func14, Tryz.ntmps14
    go_wp2_with (first | (go_at_call 22; refine (none_c _ _).mono ?_; rintro e w' ⟨rfl, rfl⟩) | (go_at_call 23; refine (nan_c _).mono ?_; rintro e w' ⟨rfl, rfl⟩))
    go_ret
    exact ⟨rfl, rfl⟩
  · have hn' : fnan x = false := by simpa using hn
    clear hn
    by_cases hr : frung x = 0
    · have hc : fcanon x = 0 := by simp [fcanon, hn', hr]
      have hz' : (FloatKind.f64.format.order x 0 == some .eq) = true := by rw [hz]; simp [hr]
      rw [hc]; clear hz hr hc
      go_enter Tryz.func14, Tryz.ntmps14
      go_wp2_with (go_at_call 22; refine (none_c _ _).mono ?_; rintro e w' ⟨rfl, rfl⟩)
      go_ret
      exact ⟨rfl, rfl⟩
    · have hc : fcanon x = x := by simp [fcanon, hn', hr]
      have hz' : (FloatKind.f64.format.order x 0 == some .eq) = false := by rw [hz]; simp [hr]
      rw [hc]; clear hz hr hc
      go_enter Tryz.func14, Tryz.ntmps14
      go_wp2_with (go_at_call 22; refine (none_c _ _).mono ?_; rintro e w' ⟨rfl, rfl⟩)
      go_ret
      exact ⟨rfl, rfl⟩

theorem and_top (a : Nat) : a &&& 9223372036854775808 = if fneg a then 9223372036854775808 else 0 := by
  rw [show (9223372036854775808 : Nat) = 2 ^ 63 from rfl, nat_bit]
  unfold fneg
  by_cases h : a / 2 ^ 63 % 2 = 1
  · rw [h]; rfl
  · have h0 : a / 2 ^ 63 % 2 = 0 := by omega
    rw [h0]; rfl
theorem or_top (a : Nat) (h : a < 9223372036854775808) : a ||| 9223372036854775808 = a + 9223372036854775808 := by
  have := Nat.two_pow_add_eq_or_of_lt (i := 63) (b := a) h 1
  rw [Nat.mul_one] at this
  rw [Nat.or_comm, Nat.add_comm]
  exact this.symm
theorem xor_all (a : Nat) (h : a < 18446744073709551616) : 18446744073709551615 ^^^ a = 18446744073709551615 - a := by
  have e := BitVec.allOnes_xor (x := BitVec.ofNat 64 a)
  have e2 := congrArg BitVec.toNat e
  rw [BitVec.toNat_xor, BitVec.toNat_not, BitVec.toNat_ofNat, Nat.mod_eq_of_lt (by simpa using h)] at e2
  exact e2
theorem fneg_lo (x : Nat) (h : x < 9223372036854775808) : fneg x = false := by
  unfold fneg; rw [Nat.div_eq_of_lt (by omega)]; rfl
theorem fneg_parts (x : Nat) (hx : x < 18446744073709551616) : x = (if fneg x then 9223372036854775808 else 0) + frung x ∧ frung x < 9223372036854775808 := by
  unfold fneg frung
  by_cases h : x / 2 ^ 63 % 2 = 1
  · simp only [h]; constructor <;> simp <;> omega
  · have : x / 2 ^ 63 % 2 = 0 := by omega
    simp only [this]; constructor <;> simp <;> omega
theorem fcanon_lt (x : Nat) (hx : x < 18446744073709551616) : fcanon x < 18446744073709551616 := by
  unfold fcanon; split; · decide
  split <;> omega
theorem key_yes (x : Nat) (hx : x < 18446744073709551616) (hn : fnan x = false) (h : (bits BinOp.and IntKind.u64 (↑(fcanon x)) 9223372036854775808 != 0) = true) :
    bits BinOp.xor IntKind.u64 IntKind.u64.max ↑(fcanon x) = fkey x := by
  have hl := fcanon_lt x hx
  have ea := bits_and_u64_nat (fcanon x) 9223372036854775808 hl (by decide)
  have ex := bits_xor_u64_nat 18446744073709551615 (fcanon x) (by decide) hl
  rw [show ((9223372036854775808 : Nat) : Int) = 9223372036854775808 from rfl] at ea
  rw [show ((18446744073709551615 : Nat) : Int) = IntKind.u64.max from by decide] at ex
  rw [ea, and_top] at h
  rw [ex, xor_all _ hl]
  have hp := fneg_parts x hx
  by_cases hr : frung x = 0
  · have hc : fcanon x = 0 := by simp [fcanon, hn, hr]
    rw [hc] at h; exact absurd h (by decide)
  · have hc : fcanon x = x := by simp [fcanon, hn, hr]
    rw [hc] at h ⊢
    by_cases hg : fneg x = true
    · simp only [hg, if_true] at hp
      simp only [fkey, hn, fpos, hg, if_true, Bool.false_eq_true, if_false]
      rw [if_neg (by omega)]; omega
    · rw [Bool.not_eq_true] at hg; rw [hg] at h; exact absurd h (by decide)
theorem key_no (x : Nat) (hx : x < 18446744073709551616) (hn : fnan x = false) (h : (bits BinOp.and IntKind.u64 (↑(fcanon x)) 9223372036854775808 != 0) = false) :
    bits BinOp.or IntKind.u64 (↑(fcanon x)) 9223372036854775808 = fkey x := by
  have hl := fcanon_lt x hx
  have ea := bits_and_u64_nat (fcanon x) 9223372036854775808 hl (by decide)
  have eo := bits_or_u64_nat (fcanon x) 9223372036854775808 hl (by decide)
  rw [show ((9223372036854775808 : Nat) : Int) = 9223372036854775808 from rfl] at ea eo
  rw [ea, and_top] at h
  rw [eo]
  have hp := fneg_parts x hx
  by_cases hr : frung x = 0
  · have hc : fcanon x = 0 := by simp [fcanon, hn, hr]
    rw [hc]
    simp only [fkey, hn, fpos, hr]; simp
  · have hc : fcanon x = x := by simp [fcanon, hn, hr]
    rw [hc] at h ⊢
    by_cases hg : fneg x = true
    · rw [hg] at h; exact absurd h (by decide)
    · rw [Bool.not_eq_true] at hg
      simp only [hg] at hp
      rw [or_top _ (by simp at hp; omega)]
      simp only [fkey, hn, fpos, hg, Bool.false_eq_true, if_false] at hp ⊢
      rw [if_pos (by omega)]; omega

end Go.Proofs.YthkkdikfbagijaaGreatDoor
