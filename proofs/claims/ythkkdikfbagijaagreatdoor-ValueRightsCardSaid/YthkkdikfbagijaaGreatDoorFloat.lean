/- What the order of two float64 words is, in terms of the words themselves: a plain file, over no program. -/
import GoSem.Core.Float
namespace Go.Proofs.YthkkdikfbagijaaGreatDoor

/-- The sign bit of a word of 64 bits. -/
def fneg (b : Nat) : Bool := b / 2 ^ 63 % 2 == 1
/-- The word without its sign bit. -/
def frung (b : Nat) : Nat := b % 2 ^ 63
/-- Is the word no number? -/
def fnan (b : Nat) : Bool := decide (0x7FF0000000000000 < frung b)
/-- The word's place among all numbers: 0 for both noughts. -/
def fpos (b : Nat) : Int := if fneg b then -(frung b : Int) else frung b

/-- The magnitude of a rung, in units of the least one. -/
def fmag (r : Nat) : Nat := if r < 2 ^ 52 then r else (2 ^ 52 + r % 2 ^ 52) * 2 ^ (r / 2 ^ 52 - 1)

theorem fmag_succ (r : Nat) : fmag r < fmag (r + 1) := by
  unfold fmag
  by_cases h : r + 1 < 2 ^ 52
  · rw [if_pos (by omega), if_pos h]; omega
  · by_cases h2 : r < 2 ^ 52
    · have e : r = 2 ^ 52 - 1 := by omega
      subst e
      decide +kernel
    · rw [if_neg h2, if_neg h]
      by_cases h3 : (r + 1) % 2 ^ 52 = 0
      · have e1 : r % 2 ^ 52 = 2 ^ 52 - 1 := by omega
        have e2 : (r + 1) / 2 ^ 52 = r / 2 ^ 52 + 1 := by omega
        have e3 : ∃ q, r / 2 ^ 52 = q + 1 := ⟨r / 2 ^ 52 - 1, by omega⟩
        obtain ⟨q, hq⟩ := e3
        have e4 : 2 ^ (q + 1) = 2 * 2 ^ q := by rw [Nat.pow_succ, Nat.mul_comm]
        rw [h3, e1, e2, hq, Nat.add_sub_cancel, Nat.add_sub_cancel, e4, ← Nat.mul_assoc]
        exact Nat.mul_lt_mul_of_pos_right (by decide) (Nat.two_pow_pos q)
      · have e1 : (r + 1) % 2 ^ 52 = r % 2 ^ 52 + 1 := by omega
        have e2 : (r + 1) / 2 ^ 52 = r / 2 ^ 52 := by omega
        rw [e1, e2]
        exact Nat.mul_lt_mul_of_pos_right (by omega) (Nat.two_pow_pos _)

theorem fmag_lt {r s : Nat} (h : r < s) : fmag r < fmag s := by
  induction s with
  | zero => omega
  | succ s ih =>
    by_cases e : r = s
    · subst e; exact fmag_succ r
    · exact Nat.lt_trans (ih (by omega)) (fmag_succ s)

theorem fmag_lt_iff (r s : Nat) : fmag r < fmag s ↔ r < s := by
  refine ⟨fun h => ?_, fmag_lt⟩
  by_cases e : r < s
  · exact e
  · by_cases e2 : r = s
    · subst e2; omega
    · have := fmag_lt (r := s) (s := r) (by omega); omega

theorem fmag_eq_iff (r s : Nat) : fmag r = fmag s ↔ r = s := by
  refine ⟨fun h => ?_, fun h => by rw [h]⟩
  have := fmag_lt_iff r s
  have := fmag_lt_iff s r
  omega

/-- What a word stands for, by its parts. -/
theorem read_fin (b : Nat) (h : frung b < 0x7FF0000000000000) : ∃ m p : Nat, Ieee.double.read b = .number (fneg b) m (Ieee.double.leastPlace + p) ∧ m * 2 ^ p = fmag (frung b) := by
  unfold Ieee.Format.read
  have hs : Ieee.double.signWeight = 2 ^ 63 := rfl
  have hb : Ieee.double.binade = 2 ^ 52 := rfl
  have hi : Ieee.double.infRung = 0x7FF0000000000000 := by decide +kernel
  simp only [hs, hb, hi]
  change ∃ m p : Nat, (if frung b < 2 ^ 52 then _ else if frung b < 0x7FF0000000000000 then _ else _) = _ ∧ _
  by_cases h2 : frung b < 2 ^ 52
  · refine ⟨frung b, 0, ?_, ?_⟩
    · rw [if_pos h2]; simp [fneg, frung]
    · simp [fmag, h2]
  · refine ⟨2 ^ 52 + frung b % 2 ^ 52, frung b / 2 ^ 52 - 1, ?_, ?_⟩
    · rw [if_neg h2, if_pos h]; simp [fneg, frung]
    · simp only [fmag, h2, if_false]

theorem read_inf (b : Nat) (h : frung b = 0x7FF0000000000000) : Ieee.double.read b = .infinity (fneg b) := by
  unfold Ieee.Format.read
  have hs : Ieee.double.signWeight = 2 ^ 63 := rfl
  have hb : Ieee.double.binade = 2 ^ 52 := rfl
  have hi : Ieee.double.infRung = 0x7FF0000000000000 := by decide +kernel
  simp only [hs, hb, hi]
  change (if frung b < 2 ^ 52 then _ else if frung b < 0x7FF0000000000000 then _ else if frung b = 0x7FF0000000000000 then _ else _) = _
  rw [if_neg (by rw [h]; decide), if_neg (by omega), if_pos h]
  rfl

theorem read_nan (b : Nat) (h : 0x7FF0000000000000 < frung b) : ∃ t, Ieee.double.read b = .nan (fneg b) t := by
  unfold Ieee.Format.read
  have hs : Ieee.double.signWeight = 2 ^ 63 := rfl
  have hb : Ieee.double.binade = 2 ^ 52 := rfl
  have hi : Ieee.double.infRung = 0x7FF0000000000000 := by decide +kernel
  simp only [hs, hb, hi]
  refine ⟨frung b - 0x7FF0000000000000, ?_⟩
  change (if frung b < 2 ^ 52 then _ else if frung b < 0x7FF0000000000000 then _ else if frung b = 0x7FF0000000000000 then _ else _) = _
  rw [if_neg (by omega), if_neg (by omega), if_neg (by omega)]
  rfl

/-- The order of two positions. -/
def ford (x y : Int) : Ordering := if x < y then .lt else if x = y then .eq else .gt

theorem ford_lt {x y : Int} (h : x < y) : ford x y = .lt := if_pos h
theorem ford_gt {x y : Int} (h : y < x) : ford x y = .gt := by
  unfold ford; rw [if_neg (by omega), if_neg (by omega)]
theorem ford_eq {x y : Int} (h : x = y) : ford x y = .eq := by
  unfold ford; rw [if_neg (by omega), if_pos h]

theorem compare_ford (x y : Int) : compare x y = ford x y := rfl

theorem ford_iff {x y u v : Int} (h1 : x < y ↔ u < v) (h2 : x = y ↔ u = v) : ford x y = ford u v := by
  unfold ford
  by_cases a : x < y
  · rw [if_pos a, if_pos (h1.1 a)]
  · rw [if_neg a, if_neg (fun c => a (h1.2 c))]
    by_cases b : x = y
    · rw [if_pos b, if_pos (h2.1 b)]
    · rw [if_neg b, if_neg (fun c => b (h2.2 c))]

theorem mul_lt_iff (x y : Int) (k : Nat) (hk : 0 < k) : x * k < y * k ↔ x < y :=
  ⟨fun h => Int.lt_of_mul_lt_mul_right h (by omega), fun h => Int.mul_lt_mul_of_pos_right h (by omega)⟩

theorem signed_mul (s : Bool) (m u k : Nat) : Ieee.signed s m u * ((2 ^ k : Nat) : Int) = if s then -((m * 2 ^ (u + k) : Nat) : Int) else ((m * 2 ^ (u + k) : Nat) : Int) := by
  unfold Ieee.signed
  have e : ((m <<< u : Nat) : Int) * ((2 ^ k : Nat) : Int) = ((m * 2 ^ (u + k) : Nat) : Int) := by
    rw [Nat.shiftLeft_eq, ← Int.natCast_mul, Nat.mul_assoc, ← Nat.pow_add]
  cases s
  · simpa using e
  · simp only [if_true]; rw [Int.neg_mul, e]

/-- The order of two finite words. -/
theorem signed_order (s t : Bool) (m n p q : Nat) (L : Int) :
    compare (Ieee.signed s m ((L + p) - min (L + p) (L + q)).toNat) (Ieee.signed t n ((L + q) - min (L + p) (L + q)).toNat)
      = ford (if s then -((m * 2 ^ p : Nat) : Int) else ((m * 2 ^ p : Nat) : Int)) (if t then -((n * 2 ^ q : Nat) : Int) else ((n * 2 ^ q : Nat) : Int)) := by
  have e1 : ((L + p) - min (L + p) (L + q)).toNat + min p q = p := by omega
  have e2 : ((L + q) - min (L + p) (L + q)).toNat + min p q = q := by omega
  have h1 := signed_mul s m ((L + p) - min (L + p) (L + q)).toNat (min p q)
  have h2 := signed_mul t n ((L + q) - min (L + p) (L + q)).toNat (min p q)
  rw [e1] at h1
  rw [e2] at h2
  rw [compare_ford, ← h1, ← h2]
  have hk : 0 < 2 ^ min p q := Nat.two_pow_pos _
  refine ford_iff (mul_lt_iff _ _ _ hk).symm ?_
  exact ⟨fun h => by rw [h], fun h => Int.eq_of_mul_eq_mul_right (by omega) h⟩

theorem order_nan (a b : Nat) (h : fnan a = true ∨ fnan b = true) : FloatKind.f64.format.order a b = none := by
  change (Ieee.double.read a).order (Ieee.double.read b) = none
  simp only [fnan, decide_eq_true_eq] at h
  rcases h with h | h
  · obtain ⟨t, e⟩ := read_nan a h
    rw [e]; cases Ieee.double.read b <;> rfl
  · obtain ⟨t, e⟩ := read_nan b h
    rw [e]; cases Ieee.double.read a <;> rfl

theorem order_num (a b : Nat) (ha : fnan a = false) (hb : fnan b = false) : FloatKind.f64.format.order a b = some (ford (fpos a) (fpos b)) := by
  change (Ieee.double.read a).order (Ieee.double.read b) = _
  simp only [fnan, decide_eq_false_iff_not, Nat.not_lt] at ha hb
  by_cases ia : frung a = 0x7FF0000000000000
  · by_cases ib : frung b = 0x7FF0000000000000
    · rw [read_inf a ia, read_inf b ib]
      unfold fpos; rw [ia, ib]
      cases fneg a <;> cases fneg b <;> decide +kernel
    · obtain ⟨m, p, e, hm⟩ := read_fin b (by omega)
      rw [read_inf a ia, e]
      unfold fpos; rw [ia]
      have hlt : frung b < 0x7FF0000000000000 := by omega
      cases fneg a <;> cases fneg b <;> first | exact congrArg some (ford_lt (by simp; omega)).symm | exact congrArg some (ford_gt (by simp; omega)).symm
  · obtain ⟨m, p, ea, hm⟩ := read_fin a (by omega)
    have hlt : frung a < 0x7FF0000000000000 := by omega
    by_cases ib : frung b = 0x7FF0000000000000
    · rw [read_inf b ib, ea]
      unfold fpos; rw [ib]
      cases fneg a <;> cases fneg b <;> first | exact congrArg some (ford_lt (by simp; omega)).symm | exact congrArg some (ford_gt (by simp; omega)).symm
    · obtain ⟨n, q, eb, hn⟩ := read_fin b (by omega)
      rw [ea, eb]
      simp only [Ieee.Datum.order]
      rw [signed_order, hm, hn]
      have l1 := fmag_lt_iff (frung a) (frung b)
      have l2 := fmag_lt_iff (frung b) (frung a)
      have l3 := fmag_eq_iff (frung a) (frung b)
      have z1 := fmag_lt_iff (frung a) 0
      have z2 := fmag_lt_iff (frung b) 0
      have z3 := fmag_lt_iff 0 (frung a)
      have z4 := fmag_lt_iff 0 (frung b)
      have z0 : fmag 0 = 0 := by decide
      refine congrArg some (ford_iff ?_ ?_) <;> unfold fpos <;> cases fneg a <;> cases fneg b <;> simp <;> omega

/-- 2^64 - 1, kept behind a name. -/
def fkey (b : Nat) : Int := if fnan b then 18446744073709551615 else if 0 ≤ fpos b then 9223372036854775808 + fpos b else 9223372036854775807 + fpos b

end Go.Proofs.YthkkdikfbagijaaGreatDoor
