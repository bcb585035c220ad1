/- Float, Ord, V0, Val3, Bytes0: merged by merge.py. -/
import GoSem.Core.Float
import Derived.Test.YtjnfbinomljocaaDoorRows
import Derived.WalkKit
import Derived.WalkLawsBesides
import Derived.KernelRfl
import Derived.Lib.Hide
import Derived.Outline
import Derived.Deep.QuietTactic
import Derived.BigQuiet
import Derived.Laws.StructEq
import Derived.Laws.IdiomStrings
import Derived.LoopTactic
import Derived.Deep.LoopGhost
import Derived.Below
import Derived.Shelf.Abstract
/- What the order of two float64 words is, in terms of the words themselves: a plain file, over no program. -/
namespace Go.Proofs.YtjnfbinomljocaaDoor

/-- The sign bit of a word of 64 bits. -/
def fneg (b : Nat) : Bool := b / 2 ^ 63 % 2 == 1
/-- The word without its sign bit. -/
def frung (b : Nat) : Nat := b % 2 ^ 63
/-- Is the word no number? -/
def fnan (b : Nat) : Bool := decide (0x7FF0000000000000 < frung b)
/-- The word's place among all numbers: 0 for both noughts. -/
def fpos (b : Nat) : Int := if fneg b then -(frung b : Int) else frung b

/-- The magnitude of a rung, in units of the least one. -/
def fmag (r : Nat) : Nat := if r < 2 ^ 52 then r else (2 ^ 52 + r % 2 ^ 52) * 2 ^ (r / 2 ^ 52 - 1)

theorem fmag_succ (r : Nat) : fmag r < fmag (r + 1) := by
  unfold fmag
  by_cases h : r + 1 < 2 ^ 52
  · rw [if_pos (by omega), if_pos h]; omega
  · by_cases h2 : r < 2 ^ 52
    · have e : r = 2 ^ 52 - 1 := by omega
      subst e
      decide +kernel
    · rw [if_neg h2, if_neg h]
      by_cases h3 : (r + 1) % 2 ^ 52 = 0
      · have e1 : r % 2 ^ 52 = 2 ^ 52 - 1 := by omega
        have e2 : (r + 1) / 2 ^ 52 = r / 2 ^ 52 + 1 := by omega
        have e3 : ∃ q, r / 2 ^ 52 = q + 1 := ⟨r / 2 ^ 52 - 1, by omega⟩
        obtain ⟨q, hq⟩ := e3
        have e4 : 2 ^ (q + 1) = 2 * 2 ^ q := by rw [Nat.pow_succ, Nat.mul_comm]
        rw [h3, e1, e2, hq, Nat.add_sub_cancel, Nat.add_sub_cancel, e4, ← Nat.mul_assoc]
        exact Nat.mul_lt_mul_of_pos_right (by decide) (Nat.two_pow_pos q)
      · have e1 : (r + 1) % 2 ^ 52 = r % 2 ^ 52 + 1 := by omega
        have e2 : (r + 1) / 2 ^ 52 = r / 2 ^ 52 := by omega
        rw [e1, e2]
        exact Nat.mul_lt_mul_of_pos_right (by omega) (Nat.two_pow_pos _)

theorem fmag_lt {r s : Nat} (h : r < s) : fmag r < fmag s := by
  induction s with
  | zero => omega
  | succ s ih =>
    by_cases e : r = s
    · subst e; exact fmag_succ r
    · exact Nat.lt_trans (ih (by omega)) (fmag_succ s)

theorem fmag_lt_iff (r s : Nat) : fmag r < fmag s ↔ r < s := by
  refine ⟨fun h => ?_, fmag_lt⟩
  by_cases e : r < s
  · exact e
  · by_cases e2 : r = s
    · subst e2; omega
    · have := fmag_lt (r := s) (s := r) (by omega); omega

theorem fmag_eq_iff (r s : Nat) : fmag r = fmag s ↔ r = s := by
  refine ⟨fun h => ?_, fun h => by rw [h]⟩
  have := fmag_lt_iff r s
  have := fmag_lt_iff s r
  omega

/-- What a word stands for, by its parts. -/
theorem read_fin (b : Nat) (h : frung b < 0x7FF0000000000000) : ∃ m p : Nat, Ieee.double.read b = .number (fneg b) m (Ieee.double.leastPlace + p) ∧ m * 2 ^ p = fmag (frung b) := by
  unfold Ieee.Format.read
  have hs : Ieee.double.signWeight = 2 ^ 63 := rfl
  have hb : Ieee.double.binade = 2 ^ 52 := rfl
  have hi : Ieee.double.infRung = 0x7FF0000000000000 := by decide +kernel
  simp only [hs, hb, hi]
  change ∃ m p : Nat, (if frung b < 2 ^ 52 then _ else if frung b < 0x7FF0000000000000 then _ else _) = _ ∧ _
  by_cases h2 : frung b < 2 ^ 52
  · refine ⟨frung b, 0, ?_, ?_⟩
    · rw [if_pos h2]; simp [fneg, frung]
    · simp [fmag, h2]
  · refine ⟨2 ^ 52 + frung b % 2 ^ 52, frung b / 2 ^ 52 - 1, ?_, ?_⟩
    · rw [if_neg h2, if_pos h]; simp [fneg, frung]
    · simp only [fmag, h2, if_false]

theorem read_inf (b : Nat) (h : frung b = 0x7FF0000000000000) : Ieee.double.read b = .infinity (fneg b) := by
  unfold Ieee.Format.read
  have hs : Ieee.double.signWeight = 2 ^ 63 := rfl
  have hb : Ieee.double.binade = 2 ^ 52 := rfl
  have hi : Ieee.double.infRung = 0x7FF0000000000000 := by decide +kernel
  simp only [hs, hb, hi]
  change (if frung b < 2 ^ 52 then _ else if frung b < 0x7FF0000000000000 then _ else if frung b = 0x7FF0000000000000 then _ else _) = _
  rw [if_neg (by rw [h]; decide), if_neg (by omega), if_pos h]
  rfl

theorem read_nan (b : Nat) (h : 0x7FF0000000000000 < frung b) : ∃ t, Ieee.double.read b = .nan (fneg b) t := by
  unfold Ieee.Format.read
  have hs : Ieee.double.signWeight = 2 ^ 63 := rfl
  have hb : Ieee.double.binade = 2 ^ 52 := rfl
  have hi : Ieee.double.infRung = 0x7FF0000000000000 := by decide +kernel
  simp only [hs, hb, hi]
  refine ⟨frung b - 0x7FF0000000000000, ?_⟩
  change (if frung b < 2 ^ 52 then _ else if frung b < 0x7FF0000000000000 then _ else if frung b = 0x7FF0000000000000 then _ else _) = _
  rw [if_neg (by omega), if_neg (by omega), if_neg (by omega)]
  rfl

/-- The order of two positions. -/
def ford (x y : Int) : Ordering := if x < y then .lt else if x = y then .eq else .gt

theorem ford_lt {x y : Int} (h : x < y) : ford x y = .lt := if_pos h
theorem ford_gt {x y : Int} (h : y < x) : ford x y = .gt := by
  unfold ford; rw [if_neg (by omega), if_neg (by omega)]
theorem ford_eq {x y : Int} (h : x = y) : ford x y = .eq := by
  unfold ford; rw [if_neg (by omega), if_pos h]

theorem compare_ford (x y : Int) : compare x y = ford x y := rfl

theorem ford_iff {x y u v : Int} (h1 : x < y ↔ u < v) (h2 : x = y ↔ u = v) : ford x y = ford u v := by
  unfold ford
  by_cases a : x < y
  · rw [if_pos a, if_pos (h1.1 a)]
  · rw [if_neg a, if_neg (fun c => a (h1.2 c))]
    by_cases b : x = y
    · rw [if_pos b, if_pos (h2.1 b)]
    · rw [if_neg b, if_neg (fun c => b (h2.2 c))]

theorem mul_lt_iff (x y : Int) (k : Nat) (hk : 0 < k) : x * k < y * k ↔ x < y :=
  ⟨fun h => Int.lt_of_mul_lt_mul_right h (by omega), fun h => Int.mul_lt_mul_of_pos_right h (by omega)⟩

theorem signed_mul (s : Bool) (m u k : Nat) : Ieee.signed s m u * ((2 ^ k : Nat) : Int) = if s then -((m * 2 ^ (u + k) : Nat) : Int) else ((m * 2 ^ (u + k) : Nat) : Int) := by
  unfold Ieee.signed
  have e : ((m <<< u : Nat) : Int) * ((2 ^ k : Nat) : Int) = ((m * 2 ^ (u + k) : Nat) : Int) := by
    rw [Nat.shiftLeft_eq, ← Int.natCast_mul, Nat.mul_assoc, ← Nat.pow_add]
  cases s
  · simpa using e
  · simp only [if_true]; rw [Int.neg_mul, e]

/-- The order of two finite words. -/
theorem signed_order (s t : Bool) (m n p q : Nat) (L : Int) :
    compare (Ieee.signed s m ((L + p) - min (L + p) (L + q)).toNat) (Ieee.signed t n ((L + q) - min (L + p) (L + q)).toNat)
      = ford (if s then -((m * 2 ^ p : Nat) : Int) else ((m * 2 ^ p : Nat) : Int)) (if t then -((n * 2 ^ q : Nat) : Int) else ((n * 2 ^ q : Nat) : Int)) := by
  have e1 : ((L + p) - min (L + p) (L + q)).toNat + min p q = p := by omega
  have e2 : ((L + q) - min (L + p) (L + q)).toNat + min p q = q := by omega
  have h1 := signed_mul s m ((L + p) - min (L + p) (L + q)).toNat (min p q)
  have h2 := signed_mul t n ((L + q) - min (L + p) (L + q)).toNat (min p q)
  rw [e1] at h1
  rw [e2] at h2
  rw [compare_ford, ← h1, ← h2]
  have hk : 0 < 2 ^ min p q := Nat.two_pow_pos _
  refine ford_iff (mul_lt_iff _ _ _ hk).symm ?_
  exact ⟨fun h => by rw [h], fun h => Int.eq_of_mul_eq_mul_right (by omega) h⟩

theorem order_nan (a b : Nat) (h : fnan a = true ∨ fnan b = true) : FloatKind.f64.format.order a b = none := by
  change (Ieee.double.read a).order (Ieee.double.read b) = none
  simp only [fnan, decide_eq_true_eq] at h
  rcases h with h | h
  · obtain ⟨t, e⟩ := read_nan a h
    rw [e]; cases Ieee.double.read b <;> rfl
  · obtain ⟨t, e⟩ := read_nan b h
    rw [e]; cases Ieee.double.read a <;> rfl

theorem order_num (a b : Nat) (ha : fnan a = false) (hb : fnan b = false) : FloatKind.f64.format.order a b = some (ford (fpos a) (fpos b)) := by
  change (Ieee.double.read a).order (Ieee.double.read b) = _
  simp only [fnan, decide_eq_false_iff_not, Nat.not_lt] at ha hb
  by_cases ia : frung a = 0x7FF0000000000000
  · by_cases ib : frung b = 0x7FF0000000000000
    · rw [read_inf a ia, read_inf b ib]
      unfold fpos; rw [ia, ib]
      cases fneg a <;> cases fneg b <;> decide +kernel
    · obtain ⟨m, p, e, hm⟩ := read_fin b (by omega)
      rw [read_inf a ia, e]
      unfold fpos; rw [ia]
      have hlt : frung b < 0x7FF0000000000000 := by omega
      cases fneg a <;> cases fneg b <;> first | exact congrArg some (ford_lt (by simp; omega)).symm | exact congrArg some (ford_gt (by simp; omega)).symm
  · obtain ⟨m, p, ea, hm⟩ := read_fin a (by omega)
    have hlt : frung a < 0x7FF0000000000000 := by omega
    by_cases ib : frung b = 0x7FF0000000000000
    · rw [read_inf b ib, ea]
      unfold fpos; rw [ib]
      cases fneg a <;> cases fneg b <;> first | exact congrArg some (ford_lt (by simp; omega)).symm | exact congrArg some (ford_gt (by simp; omega)).symm
    · obtain ⟨n, q, eb, hn⟩ := read_fin b (by omega)
      rw [ea, eb]
      simp only [Ieee.Datum.order]
      rw [signed_order, hm, hn]
      have l1 := fmag_lt_iff (frung a) (frung b)
      have l2 := fmag_lt_iff (frung b) (frung a)
      have l3 := fmag_eq_iff (frung a) (frung b)
      have z1 := fmag_lt_iff (frung a) 0
      have z2 := fmag_lt_iff (frung b) 0
      have z3 := fmag_lt_iff 0 (frung a)
      have z4 := fmag_lt_iff 0 (frung b)
      have z0 : fmag 0 = 0 := by decide
      refine congrArg some (ford_iff ?_ ?_) <;> unfold fpos <;> cases fneg a <;> cases fneg b <;> simp <;> omega

/-- 2^64 - 1, kept behind a name. -/
def fkey (b : Nat) : Int := if fnan b then 18446744073709551615 else if 0 ≤ fpos b then 9223372036854775808 + fpos b else 9223372036854775807 + fpos b

end Go.Proofs.YtjnfbinomljocaaDoor

/- The functions of package order, each by a contract of its own. -/
namespace Go.Proofs.YtjnfbinomljocaaDoor
open Go.RowKit

theorem neq_self (x : Nat) : (FloatKind.f64.format.order x x != some .eq) = fnan x := by
  cases h : fnan x
  · rw [order_num x x h h, ford_eq rfl]; rfl
  · rw [order_nan x x (.inl h)]; rfl

set_option maxHeartbeats 400000 in
theorem isnan_c (x : Nat) (w : World) : Calls Tryd.prog 87 #[.float .f64 x] w fun e w' => e = .returned (.bool (fnan x)) ∧ w = w' := by
  have h := neq_self x
  go_enter Tryd.func87, Tryd.ntmps87
  go_wp2
  go_ret
  exact ⟨rfl, rfl⟩

set_option maxHeartbeats 400000 in
theorem none_c (x : Nat) (w : World) : Calls Tryd.prog 64 #[.float .f64 x] w fun e w' => e = .returned (.bool (fnan x)) ∧ w = w' := by
  go_enter Tryd.func64, Tryd.ntmps64
  go_wp2_with (go_at_call 87; refine (isnan_c _ _).mono ?_; rintro e w' ⟨rfl, rfl⟩)
  go_ret
  exact ⟨rfl, rfl⟩

@[go_sem] theorem call_bits (x : Nat) (w : World) : (callFunc 86 #[.float .f64 x]).run Tryd.prog w = .ok (.value (.int .u64 x)) w := by
  rw [run_callFunc_extern (fn := Tryd.f86) (e := Extern.MathFloatBits.float64bits) Tryd.func86 (by kernel_rfl) (by kernel_rfl) (by kernel_rfl) (by kernel_rfl)]
  rfl
@[go_sem] theorem call_from (x : Int) (w : World) : (callFunc 98 #[.int .u64 x]).run Tryd.prog w = .ok (.value (.float .f64 x.toNat)) w := by
  rw [run_callFunc_extern (fn := Tryd.f98) (e := Extern.MathFloatBits.float64frombits) Tryd.func98 (by kernel_rfl) (by kernel_rfl) (by kernel_rfl) (by kernel_rfl)]
  rfl

set_option maxHeartbeats 400000 in
theorem nan_c (w : World) : Calls Tryd.prog 82 #[] w fun e w' => e = .returned (.float .f64 9221120237041090561) ∧ w = w' := by
  go_enter Tryd.func82, Tryd.ntmps82
  go_wp2
  go_ret
  exact ⟨rfl, rfl⟩

def fcanon (x : Nat) : Nat := if fnan x then 9221120237041090561 else if frung x = 0 then 0 else x

theorem eq_zero (x : Nat) : (FloatKind.f64.format.order x 0 == some .eq) = decide (frung x = 0) := by
  cases h : fnan x
  · rw [order_num x 0 h rfl]
    have : fpos 0 = 0 := by decide
    rw [this]
    by_cases e : frung x = 0
    · rw [ford_eq (by unfold fpos; split <;> omega)]; simp [e]
    · unfold ford fpos
      cases fneg x <;> simp [e]
      all_goals (try split) <;> simp <;> omega
  · rw [order_nan x 0 (.inl h)]
    simp only [fnan, decide_eq_true_eq] at h
    simp; omega

set_option maxHeartbeats 400000 in
theorem canon_c (x : Nat) (w : World) : Calls Tryd.prog 59 #[.float .f64 x] w fun e w' => e = .returned (.float .f64 (fcanon x)) ∧ w = w' := by
  have hz := eq_zero x
  by_cases hn : fnan x = true
  · have hc : fcanon x = 9221120237041090561 := by simp [fcanon, hn]
    rw [hc]; clear hz hc
    go_enter Tryd.func59, Tryd.ntmps59
    go_wp2_with (first | (go_at_call 64; refine (none_c _ _).mono ?_; rintro e w' ⟨rfl, rfl⟩) | (go_at_call 82; refine (nan_c _).mono ?_; rintro e w' ⟨rfl, rfl⟩))
    go_ret
    exact ⟨rfl, rfl⟩
  · have hn' : fnan x = false := by simpa using hn
    clear hn
    by_cases hr : frung x = 0
    · have hc : fcanon x = 0 := by simp [fcanon, hn', hr]
      have hz' : (FloatKind.f64.format.order x 0 == some .eq) = true := by rw [hz]; simp [hr]
      rw [hc]; clear hz hr hc
      go_enter Tryd.func59, Tryd.ntmps59
      go_wp2_with (go_at_call 64; refine (none_c _ _).mono ?_; rintro e w' ⟨rfl, rfl⟩)
      go_ret
      exact ⟨rfl, rfl⟩
    · have hc : fcanon x = x := by simp [fcanon, hn', hr]
      have hz' : (FloatKind.f64.format.order x 0 == some .eq) = false := by rw [hz]; simp [hr]
      rw [hc]; clear hz hr hc
      go_enter Tryd.func59, Tryd.ntmps59
      go_wp2_with (go_at_call 64; refine (none_c _ _).mono ?_; rintro e w' ⟨rfl, rfl⟩)
      go_ret
      exact ⟨rfl, rfl⟩

theorem and_top (a : Nat) : a &&& 9223372036854775808 = if fneg a then 9223372036854775808 else 0 := by
  rw [show (9223372036854775808 : Nat) = 2 ^ 63 from rfl, nat_bit]
  unfold fneg
  by_cases h : a / 2 ^ 63 % 2 = 1
  · rw [h]; rfl
  · have h0 : a / 2 ^ 63 % 2 = 0 := by omega
    rw [h0]; rfl
theorem or_top (a : Nat) (h : a < 9223372036854775808) : a ||| 9223372036854775808 = a + 9223372036854775808 := by
  have := Nat.two_pow_add_eq_or_of_lt (i := 63) (b := a) h 1
  rw [Nat.mul_one] at this
  rw [Nat.or_comm, Nat.add_comm]
  exact this.symm
theorem xor_all (a : Nat) (h : a < 18446744073709551616) : 18446744073709551615 ^^^ a = 18446744073709551615 - a := by
  have e := BitVec.allOnes_xor (x := BitVec.ofNat 64 a)
  have e2 := congrArg BitVec.toNat e
  rw [BitVec.toNat_xor, BitVec.toNat_not, BitVec.toNat_ofNat, Nat.mod_eq_of_lt (by simpa using h)] at e2
  exact e2
theorem fneg_lo (x : Nat) (h : x < 9223372036854775808) : fneg x = false := by
  unfold fneg; rw [Nat.div_eq_of_lt (by omega)]; rfl
theorem fneg_parts (x : Nat) (hx : x < 18446744073709551616) : x = (if fneg x then 9223372036854775808 else 0) + frung x ∧ frung x < 9223372036854775808 := by
  unfold fneg frung
  by_cases h : x / 2 ^ 63 % 2 = 1
  · simp only [h]; constructor <;> simp <;> omega
  · have : x / 2 ^ 63 % 2 = 0 := by omega
    simp only [this]; constructor <;> simp <;> omega
theorem fcanon_lt (x : Nat) (hx : x < 18446744073709551616) : fcanon x < 18446744073709551616 := by
  unfold fcanon; split; · decide
  split <;> omega
theorem key_yes (x : Nat) (hx : x < 18446744073709551616) (hn : fnan x = false) (h : (bits BinOp.and IntKind.u64 (↑(fcanon x)) 9223372036854775808 != 0) = true) :
    bits BinOp.xor IntKind.u64 IntKind.u64.max ↑(fcanon x) = fkey x := by
  have hl := fcanon_lt x hx
  have ea := bits_and_u64_nat (fcanon x) 9223372036854775808 hl (by decide)
  have ex := bits_xor_u64_nat 18446744073709551615 (fcanon x) (by decide) hl
  rw [show ((9223372036854775808 : Nat) : Int) = 9223372036854775808 from rfl] at ea
  rw [show ((18446744073709551615 : Nat) : Int) = IntKind.u64.max from by decide] at ex
  rw [ea, and_top] at h
  rw [ex, xor_all _ hl]
  have hp := fneg_parts x hx
  by_cases hr : frung x = 0
  · have hc : fcanon x = 0 := by simp [fcanon, hn, hr]
    rw [hc] at h; exact absurd h (by decide)
  · have hc : fcanon x = x := by simp [fcanon, hn, hr]
    rw [hc] at h ⊢
    by_cases hg : fneg x = true
    · simp only [hg, if_true] at hp
      simp only [fkey, hn, fpos, hg, if_true, Bool.false_eq_true, if_false]
      rw [if_neg (by omega)]; omega
    · rw [Bool.not_eq_true] at hg; rw [hg] at h; exact absurd h (by decide)
theorem key_no (x : Nat) (hx : x < 18446744073709551616) (hn : fnan x = false) (h : (bits BinOp.and IntKind.u64 (↑(fcanon x)) 9223372036854775808 != 0) = false) :
    bits BinOp.or IntKind.u64 (↑(fcanon x)) 9223372036854775808 = fkey x := by
  have hl := fcanon_lt x hx
  have ea := bits_and_u64_nat (fcanon x) 9223372036854775808 hl (by decide)
  have eo := bits_or_u64_nat (fcanon x) 9223372036854775808 hl (by decide)
  rw [show ((9223372036854775808 : Nat) : Int) = 9223372036854775808 from rfl] at ea eo
  rw [ea, and_top] at h
  rw [eo]
  have hp := fneg_parts x hx
  by_cases hr : frung x = 0
  · have hc : fcanon x = 0 := by simp [fcanon, hn, hr]
    rw [hc]
    simp only [fkey, hn, fpos, hr]; simp
  · have hc : fcanon x = x := by simp [fcanon, hn, hr]
    rw [hc] at h ⊢
    by_cases hg : fneg x = true
    · rw [hg] at h; exact absurd h (by decide)
    · rw [Bool.not_eq_true] at hg
      simp only [hg] at hp
      rw [or_top _ (by simp at hp; omega)]
      simp only [fkey, hn, fpos, hg, Bool.false_eq_true, if_false] at hp ⊢
      rw [if_pos (by omega)]; omega

set_option maxHeartbeats 400000 in
theorem key_c (x : Nat) (hx : x < 18446744073709551616) (w : World) : Calls Tryd.prog 63 #[.float .f64 x] w fun e w' => e = .returned (.int .u64 (fkey x)) ∧ w = w' := by
  have HX := Lib.hid hx; clear hx
  by_cases hn : fnan x = true
  · have hc : fkey x = 18446744073709551615 := by simp [fkey, hn]
    rw [hc]; clear hc
    go_enter Tryd.func63, Tryd.ntmps63
    go_wp2_with (first | (go_at_call 64; refine (none_c _ _).mono ?_; rintro e w' ⟨rfl, rfl⟩))
    go_ret
    exact ⟨rfl, rfl⟩
  · have hn' : fnan x = false := by simpa using hn
    clear hn
    go_enter Tryd.func63, Tryd.ntmps63
    go_wp2_with (first | (go_at_call 64; refine (none_c _ _).mono ?_; rintro e w' ⟨rfl, rfl⟩) | (go_at_call 59; refine (canon_c _ _).mono ?_; rintro e w' ⟨rfl, rfl⟩))
    · have h : (bits BinOp.and IntKind.u64 (↑(fcanon x)) 9223372036854775808 != 0) = true := by assumption
      go_ret
      exact ⟨by rw [key_yes x HX.out hn' h]; rfl, rfl⟩
    · have h : (bits BinOp.and IntKind.u64 (↑(fcanon x)) 9223372036854775808 != 0) = false := by assumption
      go_ret
      exact ⟨by rw [key_no x HX.out hn' h]; rfl, rfl⟩

end Go.Proofs.YtjnfbinomljocaaDoor

/- A value as the program holds it; a float's store. -/
namespace Go.Proofs.YtjnfbinomljocaaDoor
open Go.RowKit

/-- A value as the program holds it. -/
abbrev vals (k n : Int) (x : Nat) (s : ByteArray) (y : Bool) : Array Value := #[.int .i64 k, .int .i64 n, .float .f64 x, .string s, .bool y]
abbrev val (k n : Int) (x : Nat) (s : ByteArray) (y : Bool) : Value := .agg (vals k n x s y)
@[go_sem] theorem run_store_float {P : Program} {w : World} {a : Addr} {m : Mode} (k : FloatKind) (n : Nat) : (store a (.float k n) m).run P w = stored P w a (.float k n) m := run_store P w a _ m rfl
theorem pos_zero (x : Nat) : fpos x = 0 ↔ frung x = 0 := by
  unfold fpos; split <;> omega
/-- What a number can be, with what follows for its key and the other one's. -/
theorem canon_num {x : Nat} (h : fnan x = false) : fnan (fcanon x) = false ∧ fpos (fcanon x) = fpos x := by
  unfold fcanon
  rw [h]
  by_cases hz : frung x = 0
  · simp only [hz, if_true, Bool.false_eq_true, if_false]
    exact ⟨rfl, by rw [(pos_zero x).2 hz]; decide⟩
  · simp only [hz, Bool.false_eq_true, if_false]
    exact ⟨h, trivial⟩
theorem canon_nan {x : Nat} (h : fnan x = true) : fcanon x = 9221120237041090561 := by simp [fcanon, h]
end Go.Proofs.YtjnfbinomljocaaDoor

/- Package value over the functions of package order: Same, Canon; a value's fields. (Drawn off the texts of layer 2.) -/
namespace Go.Proofs.YtjnfbinomljocaaDoor
open Go.RowKit
set_option maxRecDepth 100000

set_option maxHeartbeats 400000 in
theorem same_c (a b : Nat) (ha : a < 18446744073709551616) (hb : b < 18446744073709551616) (w : World) : Calls Tryd.prog 47 #[.float .f64 a, .float .f64 b] w fun e w' => e = .returned (.bool (fkey a == fkey b)) ∧ w = w' := by
  have HA := Lib.hid ha; clear ha
  have HB := Lib.hid hb; clear hb
  go_enter Tryd.func47, Tryd.ntmps47
  go_wp2_with (go_at_call 63; refine (key_c _ (by first | exact HA.out | exact HB.out) _).mono ?_; rintro e w' ⟨rfl, rfl⟩)
  go_ret
  exact ⟨rfl, rfl⟩

theorem fnan_rung {x : Nat} (h : fnan x = false) : frung x ≤ 9218868437227405312 := by
  simp only [fnan, decide_eq_false_iff_not, Nat.not_lt] at h; exact h
theorem fpos_bd {x : Nat} (h : fnan x = false) : -9218868437227405312 ≤ fpos x ∧ fpos x ≤ 9218868437227405312 := by
  have := fnan_rung h
  unfold fpos; split <;> omega
theorem fkey_num {x : Nat} (h : fnan x = false) : fkey x = if 0 ≤ fpos x then 9223372036854775808 + fpos x else 9223372036854775807 + fpos x := by
  simp [fkey, h]
theorem fkey_nan {x : Nat} (h : fnan x = true) : fkey x = 18446744073709551615 := by
  simp [fkey, h]
theorem fkey_bd (x : Nat) : 0 ≤ fkey x ∧ fkey x ≤ 18446744073709551615 := by
  cases h : fnan x
  · have := fpos_bd h
    rw [fkey_num h]; split <;> omega
  · rw [fkey_nan h]; omega
theorem fkey_top {x : Nat} (h : fnan x = false) : fkey x < 18446744073709551615 := by
  have := fpos_bd h
  rw [fkey_num h]; split <;> omega
theorem fkey_lt {a b : Nat} (ha : fnan a = false) (hb : fnan b = false) : fkey a < fkey b ↔ fpos a < fpos b := by
  rw [fkey_num ha, fkey_num hb]; split <;> split <;> omega
theorem fkey_eq {a b : Nat} (ha : fnan a = false) (hb : fnan b = false) : fkey a = fkey b ↔ fpos a = fpos b := by
  rw [fkey_num ha, fkey_num hb]; split <;> split <;> omega

theorem ford_of_lt {a b : Nat} (ha : fnan a = false) (hb : fnan b = false) (o : Ordering) (h : ford (fpos a) (fpos b) = o) : FloatKind.f64.format.order a b = some o := by
  rw [order_num a b ha hb, h]


def sameV (k n n2 : Int) (x x2 : Nat) (s s2 : ByteArray) (y y2 : Bool) : Bool :=
  if k == 0 then n == n2 else if k == 1 then fkey x == fkey x2 else if k == 2 then s.toList == s2.toList else y == y2
set_option maxHeartbeats 2000000 in
theorem same0_c (k n n2 : Int) (x x2 : Nat) (s s2 : ByteArray) (y y2 : Bool) (w : World) (h0 : (k == 0) = true) :
    Calls Tryd.prog 24 #[val k n x s y, val k n2 x2 s2 y2] w fun e w' => e = .returned (.bool (n == n2)) ∧ Below w.heap.size w w' := by
  go_enter Tryd.func24, Tryd.ntmps24
  go_wp2
  go_ret
  exact ⟨rfl, ((Below.refl _ _).alloc (Nat.le_refl _) _).alloc (by simp) _⟩
set_option maxHeartbeats 2000000 in
theorem same2_c (k n n2 : Int) (x x2 : Nat) (s s2 : ByteArray) (y y2 : Bool) (w : World) (h0 : (k == 0) = false) (h1 : (k == 1) = false) (h2 : (k == 2) = true) :
    Calls Tryd.prog 24 #[val k n x s y, val k n2 x2 s2 y2] w fun e w' => e = .returned (.bool (s.toList == s2.toList)) ∧ Below w.heap.size w w' := by
  go_enter Tryd.func24, Tryd.ntmps24
  go_wp2
  go_ret
  exact ⟨rfl, ((Below.refl _ _).alloc (Nat.le_refl _) _).alloc (by simp) _⟩
set_option maxHeartbeats 2000000 in
theorem same3_c (k n n2 : Int) (x x2 : Nat) (s s2 : ByteArray) (y y2 : Bool) (w : World) (h0 : (k == 0) = false) (h1 : (k == 1) = false) (h2 : (k == 2) = false) :
    Calls Tryd.prog 24 #[val k n x s y, val k n2 x2 s2 y2] w fun e w' => e = .returned (.bool (y == y2)) ∧ Below w.heap.size w w' := by
  go_enter Tryd.func24, Tryd.ntmps24
  go_wp2
  go_ret
  exact ⟨rfl, ((Below.refl _ _).alloc (Nat.le_refl _) _).alloc (by simp) _⟩
set_option maxHeartbeats 2000000 in
theorem same1_c (k n n2 : Int) (x x2 : Nat) (s s2 : ByteArray) (y y2 : Bool) (w : World) (h0 : (k == 0) = false) (h1 : (k == 1) = true) (hx : x < 18446744073709551616) (hx2 : x2 < 18446744073709551616) :
    Calls Tryd.prog 24 #[val k n x s y, val k n2 x2 s2 y2] w fun e w' => e = .returned (.bool (fkey x == fkey x2)) ∧ Below w.heap.size w w' := by
  have HX := Lib.hid hx; have HX2 := Lib.hid hx2; clear hx hx2
  go_enter Tryd.func24, Tryd.ntmps24
  go_wp2_with (go_at_call 47; refine (same_c _ _ HX.out HX2.out _).mono ?_; rintro e w' ⟨rfl, rfl⟩)
  go_ret
  exact ⟨rfl, ((Below.refl _ _).alloc (Nat.le_refl _) _).alloc (by simp) _⟩

theorem same_v (k n n2 : Int) (x x2 : Nat) (s s2 : ByteArray) (y y2 : Bool) (w : World) (hx : x < 18446744073709551616) (hx2 : x2 < 18446744073709551616) :
    Calls Tryd.prog 24 #[val k n x s y, val k n2 x2 s2 y2] w fun e w' => e = .returned (.bool (sameV k n n2 x x2 s s2 y y2)) ∧ Below w.heap.size w w' := by
  unfold sameV
  cases h0 : (k == 0)
  · cases h1 : (k == 1)
    · cases h2 : (k == 2)
      · exact same3_c k n n2 x x2 s s2 y y2 w h0 h1 h2
      · exact same2_c k n n2 x x2 s s2 y y2 w h0 h1 h2
    · exact same1_c k n n2 x x2 s s2 y y2 w h0 h1 hx hx2
  · exact same0_c k n n2 x x2 s s2 y y2 w h0
theorem fkey_canon (x : Nat) : fkey (fcanon x) = fkey x := by
  unfold fcanon
  cases h : fnan x
  · by_cases hz : frung x = 0
    · have e : fpos x = 0 := by unfold fpos; rw [hz]; simp
      rw [if_neg Bool.false_ne_true, if_pos hz, fkey_num h, e]
      decide +kernel
    · rw [if_neg Bool.false_ne_true, if_neg hz]
  · rw [if_pos rfl, fkey_nan h]
    decide +kernel

set_option maxHeartbeats 1000000 in
theorem canon0_v (n : Int) (x : Nat) (s : ByteArray) (y : Bool) (w : World) :
    Calls Tryd.prog 40 #[val 0 n x s y] w fun e w' => e = .returned (val 0 n 0 ⟨#[]⟩ false) ∧ Below w.heap.size w w' := by
  go_enter Tryd.func40, Tryd.ntmps40
  go_wp2
  refine bodyPost_ret (v := val 0 n 0 ⟨#[]⟩ false) (by simp [results, Tryd.results40, go_sem]) rfl ⟨rfl, ?_⟩
  exact ((Below.refl _ _).alloc (Nat.le_refl _) _).alloc (by simp) _
set_option maxHeartbeats 1000000 in
theorem canon1_v (n : Int) (x : Nat) (s : ByteArray) (y : Bool) (w : World) :
    Calls Tryd.prog 40 #[val 1 n x s y] w fun e w' => e = .returned (val 1 0 (fcanon x) ⟨#[]⟩ false) ∧ Below w.heap.size w w' := by
  go_enter Tryd.func40, Tryd.ntmps40
  go_wp2_with (go_at_call 59; refine (canon_c _ _).mono ?_; rintro e w' ⟨rfl, rfl⟩)
  refine bodyPost_ret (v := val 1 0 (fcanon x) ⟨#[]⟩ false) (by simp [results, Tryd.results40, go_sem]) rfl ⟨rfl, ?_⟩
  exact ((Below.refl _ _).alloc (Nat.le_refl _) _).alloc (by simp) _
set_option maxHeartbeats 1000000 in
theorem canon2_v (n : Int) (x : Nat) (s : ByteArray) (y : Bool) (w : World) :
    Calls Tryd.prog 40 #[val 2 n x s y] w fun e w' => e = .returned (val 2 0 0 s false) ∧ Below w.heap.size w w' := by
  go_enter Tryd.func40, Tryd.ntmps40
  go_wp2
  refine bodyPost_ret (v := val 2 0 0 s false) (by simp [results, Tryd.results40, go_sem]) rfl ⟨rfl, ?_⟩
  exact ((Below.refl _ _).alloc (Nat.le_refl _) _).alloc (by simp) _
set_option maxHeartbeats 1000000 in
theorem canon3_v (n : Int) (x : Nat) (s : ByteArray) (y : Bool) (w : World) :
    Calls Tryd.prog 40 #[val 3 n x s y] w fun e w' => e = .returned (val 3 0 0 ⟨#[]⟩ y) ∧ Below w.heap.size w w' := by
  go_enter Tryd.func40, Tryd.ntmps40
  go_wp2
  refine bodyPost_ret (v := val 3 0 0 ⟨#[]⟩ y) (by simp [results, Tryd.results40, go_sem]) rfl ⟨rfl, ?_⟩
  exact ((Below.refl _ _).alloc (Nat.le_refl _) _).alloc (by simp) _

set_option maxHeartbeats 1000000 in
theorem canon4_v (k n : Int) (x : Nat) (s : ByteArray) (y : Bool) (w : World) (h0 : (k == 0) = false) (h1 : (k == 1) = false) (h2 : (k == 2) = false) (h3 : (k == 3) = false) :
    Calls Tryd.prog 40 #[val k n x s y] w fun e w' => e = .returned (val 0 0 0 ⟨#[]⟩ false) ∧ Below w.heap.size w w' := by
  go_enter Tryd.func40, Tryd.ntmps40
  go_wp2
  refine bodyPost_ret (v := val 0 0 0 ⟨#[]⟩ false) (by simp [results, Tryd.results40, go_sem]) rfl ⟨rfl, ?_⟩
  exact ((Below.refl _ _).alloc (Nat.le_refl _) _).alloc (by simp) _
end Go.Proofs.YtjnfbinomljocaaDoor

/- What every text of a seat without event.New begins with. -/
namespace Go.Proofs.YtjnfbinomljocaaDoor
open Go.RowKit Go.Shelf
open Go.Proofs
theorem bytes_toList (b : ByteArray) : b.toList = b.data.toList := by
  have h : ∀ (n i : Nat) (r : List UInt8), b.size - i = n → ByteArray.toList.loop b i r = r.reverse ++ b.data.toList.drop i := by
    intro n
    induction n with
    | zero =>
      intro i r h
      unfold ByteArray.toList.loop
      have hz : b.data.toList.length = b.size := Array.length_toList
      rw [if_neg (by omega), List.drop_of_length_le (by omega)]; simp
    | succ n ih =>
      intro i r h
      unfold ByteArray.toList.loop
      rw [if_pos (by omega), ih (i + 1) _ (by omega)]
      have hz : b.data.toList.length = b.size := Array.length_toList
      have hlt : i < b.data.toList.length := by omega
      rw [List.drop_eq_getElem_cons hlt]
      have : b.get! i = b.data.toList[i] := by
        have hlt2 : i < b.data.size := by simpa using hlt
        show b.data[i]! = _
        rw [getElem!_pos b.data i hlt2, Array.getElem_toList]
      rw [this]; simp
  have := h _ 0 [] rfl
  simpa [ByteArray.toList] using this
end Go.Proofs.YtjnfbinomljocaaDoor
