/- Package order: Less, Same, Back, and what the statements of layer 1 begin with. -/
import Derived.Test.YtigpalhacdaeoaaOrd
import Derived.Deep.QuietTactic
import Derived.BigQuiet
namespace Go.Proofs.Ytigpalhacdaeoaa
open Go.RowKit

def flt (a b : Nat) : Bool := !fnan a && !fnan b && decide (fpos a < fpos b)

theorem lss_eq (a b : Nat) : (FloatKind.f64.format.order a b == some .lt) = flt a b := by
  unfold flt
  cases ha : fnan a
  · cases hb : fnan b
    · rw [order_num a b ha hb]
      unfold ford
      by_cases h : fpos a < fpos b
      · simp [h]
      · by_cases h2 : fpos a = fpos b <;> simp [h, h2]
    · rw [order_nan a b (.inr hb)]; rfl
  · rw [order_nan a b (.inl ha)]; rfl

set_option maxHeartbeats 400000 in
theorem less_c (a b : Nat) (w : World) : Calls Try.prog 11 #[.float .f64 a, .float .f64 b] w fun e w' => e = .returned (.bool (flt a b)) ∧ w = w' := by
  have h := lss_eq a b
  go_enter Try.func11, Try.ntmps11
  go_wp2
  go_ret
  exact ⟨rfl, rfl⟩

set_option maxHeartbeats 400000 in
theorem same_c (a b : Nat) (ha : a < 18446744073709551616) (hb : b < 18446744073709551616) (w : World) : Calls Try.prog 12 #[.float .f64 a, .float .f64 b] w fun e w' => e = .returned (.bool (fkey a == fkey b)) ∧ w = w' := by
  have HA := Lib.hid ha; clear ha
  have HB := Lib.hid hb; clear hb
  go_enter Try.func12, Try.ntmps12
  go_wp2_with (go_at_call 10; refine (key_c _ (by first | exact HA.out | exact HB.out) _).mono ?_; rintro e w' ⟨rfl, rfl⟩)
  go_ret
  exact ⟨rfl, rfl⟩

@[go_sem] theorem unary_neg_float (k : FloatKind) (b : Nat) (w : World) : (Op.unary .neg (.float k b)).run Try.prog w = .ok (.float k (Op.negFloat k b)) w := rfl
theorem neg_zero : Op.negFloat .f64 0 = 9223372036854775808 := by decide +kernel

/-- The word that 0/0 is in a world. -/
def nanq (w : World) : Nat := Question.cut (.nanBits .f64 0 0) (w.tape w.drawn (.nanBits .f64 0 0))
theorem nanq_nan (w : World) : fnan (nanq w) = true := by
  unfold nanq
  generalize w.tape w.drawn (.nanBits .f64 0 0) = t
  have h1 : t / 2 % (2 ^ 52 - 1) < 2 ^ 52 - 1 := Nat.mod_lt _ (by decide)
  have h2 : t % 2 < 2 := Nat.mod_lt _ (by decide)
  refine decide_eq_true ?_
  simp only [Question.cut, frung]
  rw [Nat.add_assoc, Nat.add_assoc, Nat.mul_comm, Nat.mul_add_mod, Nat.mod_eq_of_lt (by omega)]
  omega

@[go_sem] theorem run_quo_zeros (t : TypeId) (w : World) : (binOp .quo t (.float .f64 0) (.float .f64 0)).run Try.prog w = .ok (.float .f64 (nanq w)) w.drew := by
  have h : FloatKind.f64.format.div 0 0 = none := by decide +kernel
  simp [binOp, Op.floatArith, h, choose, Sem.run, Question.forced, nanq]

theorem fnan_rung {x : Nat} (h : fnan x = false) : frung x ≤ 9218868437227405312 := by
  simp only [fnan, decide_eq_false_iff_not, Nat.not_lt] at h; exact h
theorem fpos_bd {x : Nat} (h : fnan x = false) : -9218868437227405312 ≤ fpos x ∧ fpos x ≤ 9218868437227405312 := by
  have := fnan_rung h
  unfold fpos; split <;> omega
theorem fkey_num {x : Nat} (h : fnan x = false) : fkey x = if 0 ≤ fpos x then 9223372036854775808 + fpos x else 9223372036854775807 + fpos x := by
  simp [fkey, h]
theorem fkey_nan {x : Nat} (h : fnan x = true) : fkey x = 18446744073709551615 := by
  simp [fkey, h]
theorem fkey_bd (x : Nat) : 0 ≤ fkey x ∧ fkey x ≤ 18446744073709551615 := by
  cases h : fnan x
  · have := fpos_bd h
    rw [fkey_num h]; split <;> omega
  · rw [fkey_nan h]; omega
theorem fkey_top {x : Nat} (h : fnan x = false) : fkey x < 18446744073709551615 := by
  have := fpos_bd h
  rw [fkey_num h]; split <;> omega
theorem fkey_lt {a b : Nat} (ha : fnan a = false) (hb : fnan b = false) : fkey a < fkey b ↔ fpos a < fpos b := by
  rw [fkey_num ha, fkey_num hb]; split <;> split <;> omega
theorem fkey_eq {a b : Nat} (ha : fnan a = false) (hb : fnan b = false) : fkey a = fkey b ↔ fpos a = fpos b := by
  rw [fkey_num ha, fkey_num hb]; split <;> split <;> omega

def fbits (k : Int) : Nat := if 9223372036854775808 ≤ k then k.toNat - 9223372036854775808 else 18446744073709551615 - k.toNat
/-- The number of a key, before it is asked whether the key is its own. -/
def fbk (k : Int) : Nat := fcanon (fbits k)
def fback (k : Int) : Nat × Bool := if fkey (fbk k) = k then (fbk k, true) else (0, false)

theorem fbk_eq (k : Int) : fbk k = fcanon (fbits k) := rfl
theorem fbits_lt (k : Int) (h1 : k < 18446744073709551616) : fbits k < 18446744073709551616 := by
  unfold fbits; split <;> omega
theorem fbk_lt (k : Int) (h1 : k < 18446744073709551616) : fbk k < 18446744073709551616 := fcanon_lt _ (fbits_lt k h1)
theorem top_bit (k : Int) (h0 : 0 ≤ k) (h1 : k < 18446744073709551616) : (bits BinOp.and IntKind.u64 k 9223372036854775808 != 0) = decide (9223372036854775808 ≤ k) := by
  rw [u64_and k 9223372036854775808 h0 h1 (by decide) (by decide)]
  rw [show (9223372036854775808 : Int).toNat = 9223372036854775808 from rfl, and_top]
  unfold fneg
  by_cases h : 9223372036854775808 ≤ k
  · have e : k.toNat / 2 ^ 63 % 2 = 1 := by omega
    rw [e, decide_eq_true h]; decide
  · have e : k.toNat / 2 ^ 63 % 2 = 0 := by omega
    rw [e, decide_eq_false h]; decide
theorem bits_yes (k : Int) (h0 : 0 ≤ k) (h1 : k < 18446744073709551616) (h : (bits BinOp.and IntKind.u64 k 9223372036854775808 != 0) = true) :
    (bits BinOp.andNot IntKind.u64 k 9223372036854775808).toNat = fbits k := by
  rw [top_bit k h0 h1, decide_eq_true_eq] at h
  rw [u64_andNot k 9223372036854775808 h0 h1 (by decide) (by decide)]
  rw [show (18446744073709551615 - (9223372036854775808 : Int).toNat : Nat) = 2 ^ 63 - 1 from by decide, Nat.and_two_pow_sub_one_eq_mod]
  unfold fbits; rw [if_pos h]; omega
theorem bits_no (k : Int) (h0 : 0 ≤ k) (h1 : k < 18446744073709551616) (h : (bits BinOp.and IntKind.u64 k 9223372036854775808 != 0) = false) :
    (bits BinOp.xor IntKind.u64 IntKind.u64.max k).toNat = fbits k := by
  rw [top_bit k h0 h1, decide_eq_false_iff_not] at h
  rw [u64_xor IntKind.u64.max k (by decide) (by decide) h0 h1]
  rw [show (IntKind.u64.max).toNat = 18446744073709551615 from by decide, xor_all _ (by omega)]
  unfold fbits; rw [if_neg h]; omega

set_option maxHeartbeats 400000 in
theorem back_c (k : Int) (h0 : 0 ≤ k) (h1 : k < 18446744073709551616) (w : World) : Calls Try.prog 13 #[.int .u64 k] w fun e w' => e = .returned (.tuple #[.float .f64 (fback k).1, .bool (fback k).2]) ∧ w = w' := by
  have H0 := Lib.hid h0; clear h0
  have H1 := Lib.hid h1; clear h1
  by_cases he : fkey (fbk k) = k
  · have hb : fback k = (fbk k, true) := by simp [fback, he]
    have he' : (fkey (fbk k) != k) = false := by simp [he]
    rw [hb]; clear he hb
    go_enter Try.func13, Try.ntmps13
    go_wp2_with fail
    all_goals
      rw [show (_ : Int).toNat = fbits k from by first | exact bits_yes k H0.out H1.out (by assumption) | exact bits_no k H0.out H1.out (by assumption)]
      refine (canon_c _ _).mono ?_; rintro e w' ⟨rfl, rfl⟩
      rw [← fbk_eq]
      go_wp2_with fail
      refine (key_c _ (fbk_lt k H1.out) _).mono ?_; rintro e w' ⟨rfl, rfl⟩
      go_wp2
      go_ret2
      exact ⟨rfl, rfl⟩
  · have hb : fback k = (0, false) := by simp [fback, he]
    have he' : (fkey (fbk k) != k) = true := by simp [he]
    rw [hb]; clear he hb
    go_enter Try.func13, Try.ntmps13
    go_wp2_with fail
    all_goals
      rw [show (_ : Int).toNat = fbits k from by first | exact bits_yes k H0.out H1.out (by assumption) | exact bits_no k H0.out H1.out (by assumption)]
      refine (canon_c _ _).mono ?_; rintro e w' ⟨rfl, rfl⟩
      rw [← fbk_eq]
      go_wp2_with fail
      refine (key_c _ (fbk_lt k H1.out) _).mono ?_; rintro e w' ⟨rfl, rfl⟩
      go_wp2
      go_ret2
      exact ⟨rfl, rfl⟩

set_option maxHeartbeats 400000 in
theorem fit_c (w : World) : Calls Try.prog 9 #[] w fun e w' => e = .returned (.bool true) ∧ w' = w.drewN 1 := by
  have hq := nanq_nan w
  go_enter Try.func9, Try.ntmps9
  go_wp2_with fail
  refine (key_c _ (by decide) _).mono ?_; rintro e w' ⟨rfl, rfl⟩
  go_wp2_with fail
  rw [neg_zero]
  refine (same_c _ _ (by decide) (by decide) _).mono ?_; rintro e w' ⟨rfl, rfl⟩
  rw [show (fkey 0 == fkey 9223372036854775808) = true from by decide +kernel]
  go_wp2_with fail
  refine (none_c _ _).mono ?_; rintro e w' ⟨rfl, rfl⟩
  go_wp2_with fail
  refine (less_c _ _ _).mono ?_; rintro e w' ⟨rfl, rfl⟩
  rw [show flt 13830554455654793216 4611686018427387904 = true from by decide +kernel]
  go_wp2_with fail
  go_ret
  exact ⟨rfl, rfl⟩

theorem ford_of_lt {a b : Nat} (ha : fnan a = false) (hb : fnan b = false) (o : Ordering) (h : ford (fpos a) (fpos b) = o) : FloatKind.f64.format.order a b = some o := by
  rw [order_num a b ha hb, h]

end Go.Proofs.Ytigpalhacdaeoaa
