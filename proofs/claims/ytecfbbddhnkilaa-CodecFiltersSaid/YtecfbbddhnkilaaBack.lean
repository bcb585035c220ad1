/- Package order: Less, Back. (Drawn off the texts of layer 1.) -/
import Derived.Test.YtecfbbddhnkilaaVal3
namespace Go.Proofs.Ytecfbbddhnkilaa
open Go.RowKit

def flt (a b : Nat) : Bool := !fnan a && !fnan b && decide (fpos a < fpos b)

theorem lss_eq (a b : Nat) : (FloatKind.f64.format.order a b == some .lt) = flt a b := by
  unfold flt
  cases ha : fnan a
  · cases hb : fnan b
    · rw [order_num a b ha hb]
      unfold ford
      by_cases h : fpos a < fpos b
      · simp [h]
      · by_cases h2 : fpos a = fpos b <;> simp [h, h2]
    · rw [order_nan a b (.inr hb)]; rfl
  · rw [order_nan a b (.inl ha)]; rfl

set_option maxHeartbeats 400000 in
theorem less_c (a b : Nat) (w : World) : Calls Try.prog 15 #[.float .f64 a, .float .f64 b] w fun e w' => e = .returned (.bool (flt a b)) ∧ w = w' := by
  have h := lss_eq a b
  go_enter Try.func15, Try.ntmps15
  go_wp2
  go_ret
  exact ⟨rfl, rfl⟩

def fbits (k : Int) : Nat := if 9223372036854775808 ≤ k then k.toNat - 9223372036854775808 else 18446744073709551615 - k.toNat
/-- The number of a key, before it is asked whether the key is its own. -/
def fbk (k : Int) : Nat := fcanon (fbits k)
def fback (k : Int) : Nat × Bool := if fkey (fbk k) = k then (fbk k, true) else (0, false)

theorem fbk_eq (k : Int) : fbk k = fcanon (fbits k) := rfl
theorem fbits_lt (k : Int) (h1 : k < 18446744073709551616) : fbits k < 18446744073709551616 := by
  unfold fbits; split <;> omega
theorem fbk_lt (k : Int) (h1 : k < 18446744073709551616) : fbk k < 18446744073709551616 := fcanon_lt _ (fbits_lt k h1)
theorem top_bit (k : Int) (h0 : 0 ≤ k) (h1 : k < 18446744073709551616) : (bits BinOp.and IntKind.u64 k 9223372036854775808 != 0) = decide (9223372036854775808 ≤ k) := by
  rw [u64_and k 9223372036854775808 h0 h1 (by decide) (by decide)]
  rw [show (9223372036854775808 : Int).toNat = 9223372036854775808 from rfl, and_top]
  unfold fneg
  by_cases h : 9223372036854775808 ≤ k
  · have e : k.toNat / 2 ^ 63 % 2 = 1 := by omega
    rw [e, decide_eq_true h]; decide
  · have e : k.toNat / 2 ^ 63 % 2 = 0 := by omega
    rw [e, decide_eq_false h]; decide
theorem bits_yes (k : Int) (h0 : 0 ≤ k) (h1 : k < 18446744073709551616) (h : (bits BinOp.and IntKind.u64 k 9223372036854775808 != 0) = true) :
    (bits BinOp.andNot IntKind.u64 k 9223372036854775808).toNat = fbits k := by
  rw [top_bit k h0 h1, decide_eq_true_eq] at h
  rw [u64_andNot k 9223372036854775808 h0 h1 (by decide) (by decide)]
  rw [show (18446744073709551615 - (9223372036854775808 : Int).toNat : Nat) = 2 ^ 63 - 1 from by decide, Nat.and_two_pow_sub_one_eq_mod]
  unfold fbits; rw [if_pos h]; omega
theorem bits_no (k : Int) (h0 : 0 ≤ k) (h1 : k < 18446744073709551616) (h : (bits BinOp.and IntKind.u64 k 9223372036854775808 != 0) = false) :
    (bits BinOp.xor IntKind.u64 IntKind.u64.max k).toNat = fbits k := by
  rw [top_bit k h0 h1, decide_eq_false_iff_not] at h
  rw [u64_xor IntKind.u64.max k (by decide) (by decide) h0 h1]
  rw [show (IntKind.u64.max).toNat = 18446744073709551615 from by decide, xor_all _ (by omega)]
  unfold fbits; rw [if_neg h]; omega

set_option maxHeartbeats 400000 in
theorem back_c (k : Int) (h0 : 0 ≤ k) (h1 : k < 18446744073709551616) (w : World) : Calls Try.prog 49 #[.int .u64 k] w fun e w' => e = .returned (.tuple #[.float .f64 (fback k).1, .bool (fback k).2]) ∧ w = w' := by
  have H0 := Lib.hid h0; clear h0
  have H1 := Lib.hid h1; clear h1
  by_cases he : fkey (fbk k) = k
  · have hb : fback k = (fbk k, true) := by simp [fback, he]
    have he' : (fkey (fbk k) != k) = false := by simp [he]
    rw [hb]; clear he hb
    go_enter Try.func49, Try.ntmps49
    go_wp2_with fail
    all_goals
      rw [show (_ : Int).toNat = fbits k from by first | exact bits_yes k H0.out H1.out (by assumption) | exact bits_no k H0.out H1.out (by assumption)]
      refine (canon_c _ _).mono ?_; rintro e w' ⟨rfl, rfl⟩
      rw [← fbk_eq]
      go_wp2_with fail
      refine (key_c _ (fbk_lt k H1.out) _).mono ?_; rintro e w' ⟨rfl, rfl⟩
      go_wp2
      go_ret2
      exact ⟨rfl, rfl⟩
  · have hb : fback k = (0, false) := by simp [fback, he]
    have he' : (fkey (fbk k) != k) = true := by simp [he]
    rw [hb]; clear he hb
    go_enter Try.func49, Try.ntmps49
    go_wp2_with fail
    all_goals
      rw [show (_ : Int).toNat = fbits k from by first | exact bits_yes k H0.out H1.out (by assumption) | exact bits_no k H0.out H1.out (by assumption)]
      refine (canon_c _ _).mono ?_; rintro e w' ⟨rfl, rfl⟩
      rw [← fbk_eq]
      go_wp2_with fail
      refine (key_c _ (fbk_lt k H1.out) _).mono ?_; rintro e w' ⟨rfl, rfl⟩
      go_wp2
      go_ret2
      exact ⟨rfl, rfl⟩

theorem order_same {a b : Nat} (ha : fnan a = false) (hb : fnan b = false) (h : fpos a = fpos b) : FloatKind.f64.format.order a b = some .eq := by
  rw [order_num a b ha hb, ford_eq h]

theorem back_key (x : Nat) (hx : x < 18446744073709551616) : fback (fkey x) = (fcanon x, true) := by
  have hp := fneg_parts x hx
  have e : fbk (fkey x) = fcanon x := by
    unfold fbk
    cases hn : fnan x
    · have hk := fkey_num hn
      have bd := fpos_bd hn
      have rg := fnan_rung hn
      by_cases hz : frung x = 0
      · have h0 := (pos_zero x).2 hz
        have e0 : fbits (fkey x) = 0 := by rw [hk, h0]; decide
        rw [e0]; simp [fcanon, hn, hz]; decide
      · by_cases hg : fneg x = true
        · simp only [hg, if_true] at hp
          have hv : fpos x = -(frung x : Int) := by simp [fpos, hg]
          have e0 : fbits (fkey x) = x := by rw [hk, hv]; unfold fbits; rw [if_neg (by omega), if_neg (by omega)]; omega
          rw [e0]
        · rw [Bool.not_eq_true] at hg
          simp only [hg] at hp
          have hv : fpos x = (frung x : Int) := by simp [fpos, hg]
          have e0 : fbits (fkey x) = x := by rw [hk, hv]; unfold fbits; rw [if_pos (by omega), if_pos (by omega)]; simp at hp; omega
          rw [e0]
    · rw [fkey_nan hn, canon_nan hn]; decide +kernel
  unfold fback
  rw [e, if_pos]
  cases hn : fnan x
  · obtain ⟨h1, h2⟩ := canon_num hn
    exact (fkey_eq h1 hn).2 h2
  · rw [canon_nan hn, fkey_nan hn]; decide +kernel

theorem fback_lt (k : Int) (h1 : k < 18446744073709551616) : (fback k).1 < 18446744073709551616 := by
  unfold fback; split
  · exact fbk_lt k h1
  · decide
end Go.Proofs.Ytecfbbddhnkilaa
