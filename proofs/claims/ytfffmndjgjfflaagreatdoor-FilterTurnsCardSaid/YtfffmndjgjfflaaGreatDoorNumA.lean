/- The shortest digits of a number, plainly: uscale as one division; the digits lie in the number's interval. -/
import Derived.Test.YtfffmndjgjfflaaGreatDoorGaM
namespace Go.Proofs.YtfffmndjgjfflaaGreatDoor
open Go.RowKit Go.Lib
open Go.Proofs
set_option maxRecDepth 100000

/-! ### uscale as one division -/
def gN (x hi lo : Nat) : Nat := x * hi - x * lo / 18446744073709551616
def phiN (k g : Nat) : Nat := if 1 < g % 2 ^ k then g / 2 ^ k / 2 * 2 + 1 else g / 2 ^ k
def uN (x hi lo s : Nat) : Nat := phiN (64 + s) (gN x hi lo)

theorem or_one (q : Nat) : q ||| 1 = q / 2 * 2 + 1 := by
  apply Nat.eq_of_testBit_eq
  intro i
  rw [Nat.testBit_or]
  cases i with
  | zero => simp [Nat.testBit_zero]
  | succ i =>
    rw [Nat.testBit_succ, Nat.testBit_succ, Nat.testBit_succ, show 1 / 2 = 0 from rfl, Nat.zero_testBit, Bool.or_false, show (q / 2 * 2 + 1) / 2 = q / 2 from by omega]
theorem u64_id (n : Nat) (h : n < 18446744073709551616) : IntKind.u64.wrap (n : Int) = (n : Int) := by
  simp [IntKind.wrap, IntKind.signed, IntKind.bits]; omega
/-- A number parted by P·2^64: its quotient and its rest. -/
theorem part (q r P g : Nat) (h : g = q * (18446744073709551616 * P) + r) (hr : r < 18446744073709551616 * P) : g / (18446744073709551616 * P) = q ∧ g % (18446744073709551616 * P) = r := by
  have hp : 0 < 18446744073709551616 * P := by omega
  subst h
  constructor
  · rw [Nat.add_comm, Nat.add_mul_div_right _ _ hp, Nat.div_eq_of_lt hr, Nat.zero_add]
  · rw [Nat.add_comm, Nat.add_mul_mod_self_right, Nat.mod_eq_of_lt hr]

theorem uscN (x hi lo s : Nat) (hx : x < 18446744073709551616) (hh : hi < 18446744073709551616) (h1 : 1 ≤ hi) (hl : lo < 18446744073709551616) :
    usc x hi lo s = ((uN x hi lo s : Nat) : Int) := by
  obtain ⟨H, hH⟩ : ∃ H, H = x * hi / 18446744073709551616 := ⟨_, rfl⟩
  obtain ⟨M, hM⟩ : ∃ M, M = x * hi % 18446744073709551616 := ⟨_, rfl⟩
  obtain ⟨L, hL⟩ : ∃ L, L = x * lo / 18446744073709551616 := ⟨_, rfl⟩
  have hL2 : L ≤ 18446744073709551614 := by
    have : x * lo ≤ 18446744073709551615 * 18446744073709551615 := Nat.mul_le_mul (by omega) (by omega)
    rw [hL]; omega
  have hxh : x * hi ≤ 18446744073709551615 * 18446744073709551615 := Nat.mul_le_mul (by omega) (by omega)
  have hHb : H ≤ 18446744073709551614 := by rw [hH]; omega
  have hLx : L ≤ x := by
    have : x * lo ≤ x * 18446744073709551616 := Nat.mul_le_mul (Nat.le_refl _) (by omega)
    rw [hL]; omega
  have hxx : x ≤ x * hi := Nat.le_mul_of_pos_right _ h1
  have hMb : M < 18446744073709551616 := by rw [hM]; exact Nat.mod_lt _ (by decide)
  have hsum : x * hi = H * 18446744073709551616 + M := by rw [hH, hM]; omega
  have hG : gN x hi lo = H * 18446744073709551616 + M - L := by unfold gN; rw [hsum, ← hL]
  obtain ⟨P, hP⟩ : ∃ P, P = 2 ^ s := ⟨_, rfl⟩
  have hP1 : 1 ≤ P := by rw [hP]; exact Nat.two_pow_pos s
  have hK : 2 ^ (64 + s) = 18446744073709551616 * P := by rw [Nat.pow_add, hP]
  have hcH : (mulHi x hi : Nat) = H := hH.symm
  have hcM : (mulLo x hi : Nat) = M := hM.symm
  have hcL : (mulHi x lo : Nat) = L := hL.symm
  unfold usc uN phiN
  rw [hcH, hcM, hcL, hG, hK]
  clear hcH hcM hcL hG hH hM hL hK
  have hPi : ((2 : Int) ^ s) = ((P : Nat) : Int) := by rw [hP]; simp
  have hq : (H : Int) / 2 ^ s = ((H / P : Nat) : Int) := by rw [hPi]; simp
  obtain ⟨Q, hQ⟩ : ∃ Q, Q = H / P := ⟨_, rfl⟩
  obtain ⟨R, hR⟩ : ∃ R, R = H % P := ⟨_, rfl⟩
  have hHQ : H = Q * P + R := by rw [hQ, hR, Nat.mul_comm]; exact (Nat.div_add_mod H P).symm
  have hRP : R < P := by rw [hR]; exact Nat.mod_lt _ (by omega)
  have hQb : Q ≤ H := by rw [hQ]; exact Nat.div_le_self _ _
  have hodd : uscOdd (H : Int) s = decide (R ≠ 0) := by
    unfold uscOdd
    rw [hq, ← hQ, hPi, ← Int.natCast_mul, u64_id _ (Nat.lt_of_le_of_lt (show Q * P ≤ H by omega) (by omega))]
    by_cases h0 : R = 0
    · rw [decide_eq_false (by omega)]; simp; omega
    · rw [decide_eq_true h0]; simp; omega
  rw [hodd]
  by_cases h0 : R = 0
  · rw [decide_eq_false (by omega), if_neg Bool.false_ne_true]
    unfold uscNo
    by_cases hml : M < L
    · have hH1 : 1 ≤ H := by
        rcases Nat.eq_zero_or_pos H with h | h
        · subst h; omega
        · exact h
      have hQ1 : 1 ≤ Q := by
        rcases Nat.eq_zero_or_pos Q with h | h
        · subst h; omega
        · exact h
      have e1 : (H - 1) / P = Q - 1 := by
        have : H - 1 = (Q - 1) * P + (P - 1) := by
          have : Q * P = (Q - 1) * P + P := by rw [← Nat.succ_mul]; congr 1; omega
          omega
        rw [this, Nat.add_comm, Nat.add_mul_div_right _ _ (by omega), Nat.div_eq_of_lt (by omega), Nat.zero_add]
      obtain ⟨g1, g2⟩ := part (Q - 1) ((P - 1) * 18446744073709551616 + (18446744073709551616 + M - L)) P (H * 18446744073709551616 + M - L) (by
        have hq1 : Q * P = (Q - 1) * P + P := by rw [← Nat.succ_mul]; congr 1; omega
        have hp1 : (P - 1) * 18446744073709551616 = P * 18446744073709551616 - 18446744073709551616 := by omega
        have : (Q - 1) * (18446744073709551616 * P) = (Q - 1) * P * 18446744073709551616 := by rw [Nat.mul_comm 18446744073709551616 P, Nat.mul_assoc]
        rw [this, hp1]; omega) (by omega)
      rw [g1, g2, if_pos (by omega), decide_eq_true hml]
      have e2 : IntKind.u64.wrap ((H : Int) - b2 true) = ((H - 1 : Nat) : Int) := by
        show IntKind.u64.wrap ((H : Int) - 1) = _
        rw [show (H : Int) - 1 = ((H - 1 : Nat) : Int) by omega, u64_id _ (by omega)]
      have e3 : IntKind.u64.wrap ((M : Int) - L) = ((18446744073709551616 + M - L : Nat) : Int) := by
        simp [IntKind.wrap, IntKind.signed, IntKind.bits]; omega
      rw [e2, e3, decide_eq_true (show (1 : Int) < ((18446744073709551616 + M - L : Nat) : Int) by omega), hPi, ← Int.natCast_ediv, e1]
      rw [show b2 true = ((1 : Nat) : Int) from rfl, bits_or_u64_nat _ _ (by omega) (by decide), or_one]
    · obtain ⟨g1, g2⟩ := part Q (M - L) P (H * 18446744073709551616 + M - L) (by
        have : Q * (18446744073709551616 * P) = Q * P * 18446744073709551616 := by rw [Nat.mul_comm 18446744073709551616 P, Nat.mul_assoc]
        rw [this]; omega) (by omega)
      rw [g1, g2, decide_eq_false hml]
      have e2 : IntKind.u64.wrap ((H : Int) - b2 false) = (H : Int) := by
        show IntKind.u64.wrap ((H : Int) - 0) = _
        rw [Int.sub_zero, u64_id _ (by omega)]
      have e3 : IntKind.u64.wrap ((M : Int) - L) = ((M - L : Nat) : Int) := by
        rw [show (M : Int) - L = ((M - L : Nat) : Int) by omega, u64_id _ (by omega)]
      rw [e2, e3, hq, ← hQ]
      by_cases hg : 1 < M - L
      · rw [if_pos hg, decide_eq_true (show (1 : Int) < ((M - L : Nat) : Int) by omega), show b2 true = ((1 : Nat) : Int) from rfl, bits_or_u64_nat _ _ (by omega) (by decide), or_one]
      · rw [if_neg hg, decide_eq_false (show ¬ (1 : Int) < ((M - L : Nat) : Int) by omega), show b2 false = ((0 : Nat) : Int) from rfl, bits_or_u64_nat _ _ (by omega) (by decide), Nat.or_zero]
  · rw [decide_eq_true h0, if_pos rfl]
    unfold uscYes
    obtain ⟨g1, g2⟩ := part Q (R * 18446744073709551616 + M - L) P (H * 18446744073709551616 + M - L) (by
      have : Q * (18446744073709551616 * P) = Q * P * 18446744073709551616 := by rw [Nat.mul_comm 18446744073709551616 P, Nat.mul_assoc]
      rw [this, hHQ, Nat.add_mul]; omega) (by omega)
    rw [g1, g2, if_pos (by omega), hq, ← hQ, show (1 : Int) = ((1 : Nat) : Int) from rfl, bits_or_u64_nat _ _ (by omega) (by decide), or_one]
def minN (u od : Nat) : Nat := (u + od + 3) / 4
def maxN (u od : Nat) : Nat := (u - od) / 4
def midN (u : Nat) : Nat := (u + 1 + u / 4 % 2) / 4
/-- The whole number at the scale of the interval. -/
def valN (lo hi mid : Nat) : Nat := if lo ≤ hi / 10 * 10 then hi / 10 * 10 else if lo < hi then mid else lo

theorem phi_lt (k g : Nat) : phiN k g ≤ g / 2 ^ k + 1 := by unfold phiN; split <;> omega
theorem gN_le (x hi lo : Nat) : gN x hi lo ≤ x * hi := Nat.sub_le _ _
theorem uN_lt (x hi lo s : Nat) (hx : x < 18446744073709551616) (hh : hi < 18446744073709551616) (h1 : 1 ≤ s) : uN x hi lo s ≤ 9223372036854775808 := by
  unfold uN
  refine Nat.le_trans (phi_lt _ _) ?_
  have h : gN x hi lo ≤ 18446744073709551615 * 18446744073709551615 := Nat.le_trans (gN_le _ _ _) (Nat.mul_le_mul (by omega) (by omega))
  have h2 : 2 ^ 65 ≤ 2 ^ (64 + s) := Nat.pow_le_pow_right (by decide) (by omega)
  have h3 : gN x hi lo / 2 ^ (64 + s) ≤ gN x hi lo / 2 ^ 65 := Nat.div_le_div_left h2 (by decide)
  have e : (2 : Nat) ^ 65 = 36893488147419103232 := by decide
  rw [e] at h3
  omega
theorem nudge0 (u : Nat) (h : u ≤ 9223372036854775808) (od : Nat) (ho : od ≤ 1) : nudgeF (u : Int) od = ((u + od : Nat) : Int) := by
  unfold nudgeF
  rw [u64_id od (by omega), ← Int.natCast_add, u64_id _ (by omega)]
theorem nudge1 (u : Nat) (h : u ≤ 9223372036854775808) (od : Nat) (ho : od ≤ u) : nudgeF (u : Int) (-(od : Int)) = ((u - od : Nat) : Int) := by
  unfold nudgeF
  simp [IntKind.wrap, IntKind.signed, IntKind.bits]; omega
theorem sfMin_n (mn i s od : Nat) (hx : mn < 18446744073709551616) (h1 : 1 ≤ s) (ho : od ≤ 1) (hp : 1 ≤ powHi i) : sfMin mn i s od = ((minN (uN mn (powHi i) (powLo i) s) od : Nat) : Int) := by
  unfold sfMin
  rw [uscN mn _ _ s hx (pow_lt i).1 hp (pow_lt i).2]
  have hu := uN_lt mn (powHi i) (powLo i) s hx (pow_lt i).1 h1
  rw [nudge0 _ hu od ho]
  unfold ceilF minN
  rw [show (((uN mn (powHi i) (powLo i) s + od : Nat) : Int) + 3) = ((uN mn (powHi i) (powLo i) s + od + 3 : Nat) : Int) by simp, u64_id _ (by omega)]
  simp
theorem sfMax_n (mx i s od : Nat) (hx : mx < 18446744073709551616) (h1 : 1 ≤ s) (hp : 1 ≤ powHi i) (ho : od ≤ uN mx (powHi i) (powLo i) s) : sfMax mx i s od = ((maxN (uN mx (powHi i) (powLo i) s) od : Nat) : Int) := by
  unfold sfMax
  rw [uscN mx _ _ s hx (pow_lt i).1 hp (pow_lt i).2]
  have hu := uN_lt mx (powHi i) (powLo i) s hx (pow_lt i).1 h1
  rw [nudge1 _ hu od ho]
  unfold floorF maxN
  rw [u64_id _ (by omega)]
  simp
theorem and_one_u (k : Nat) (h : k < 18446744073709551616) : bits BinOp.and IntKind.u64 (k : Int) 1 = ((k % 2 : Nat) : Int) := by
  have h1 := bits_and_u64_nat k 1 h (by decide)
  rw [show ((1 : Nat) : Int) = 1 from rfl] at h1
  rw [h1, Nat.and_one_is_mod]
theorem sfMid_n (m i s : Nat) (hx : m < 18446744073709551616) (h1 : 1 ≤ s) (hp : 1 ≤ powHi i) : sfMid m i s = ((midN (uN m (powHi i) (powLo i) s) : Nat) : Int) := by
  unfold sfMid
  rw [uscN m _ _ s hx (pow_lt i).1 hp (pow_lt i).2]
  have hu := uN_lt m (powHi i) (powLo i) s hx (pow_lt i).1 h1
  generalize uN m (powHi i) (powLo i) s = u at hu
  unfold roundF midN
  rw [show ((u : Int) + 1) = ((u + 1 : Nat) : Int) by simp, u64_id _ (by omega), show ((u : Int) / 4) = ((u / 4 : Nat) : Int) by simp, and_one_u _ (by omega), ← Int.natCast_add, u64_id _ (by omega)]
  simp

/-! ### The shortest digits lie in the interval -/
theorem phi_ge {k g q : Nat} (h : 4 * q ≤ phiN k g) : 4 * q * 2 ^ k ≤ g := by
  have : 4 * q ≤ g / 2 ^ k := by unfold phiN at h; split at h <;> omega
  exact Nat.le_trans (Nat.mul_le_mul_right _ this) (Nat.div_mul_le_self _ _)
theorem phi_of_ge {k g q : Nat} (h : 4 * q * 2 ^ k ≤ g) : 4 * q ≤ phiN k g := by
  have : 4 * q ≤ g / 2 ^ k := (Nat.le_div_iff_mul_le (Nat.two_pow_pos k)).2 h
  unfold phiN; split <;> omega
theorem phi_le {k g q : Nat} (h : phiN k g ≤ 4 * q) : g ≤ 4 * q * 2 ^ k + 1 := by
  have hp := Nat.two_pow_pos k
  have hd := Nat.div_add_mod g (2 ^ k)
  have hm := Nat.mod_lt g hp
  by_cases hs : 1 < g % 2 ^ k
  · have : g / 2 ^ k + 1 ≤ 4 * q := by unfold phiN at h; rw [if_pos hs] at h; omega
    have h2 := Nat.mul_le_mul_right (2 ^ k) this
    rw [Nat.add_mul, Nat.one_mul, Nat.mul_comm (g / 2 ^ k)] at h2
    omega
  · have : g / 2 ^ k ≤ 4 * q := by unfold phiN at h; rw [if_neg hs] at h; omega
    have h2 := Nat.mul_le_mul_right (2 ^ k) this
    rw [Nat.mul_comm (g / 2 ^ k)] at h2
    omega
theorem phi_of_le {k g q : Nat} (hk : 1 ≤ k) (h : g ≤ 4 * q * 2 ^ k + 1) : phiN k g ≤ 4 * q := by
  have hp := Nat.two_pow_pos k
  have h2 : 2 ≤ 2 ^ k := Nat.pow_le_pow_right (n := 2) (by decide) hk
  by_cases hs : g ≤ 4 * q * 2 ^ k - 1
  · rcases Nat.eq_zero_or_pos q with h0 | h0
    · subst h0
      have hg : g ≤ 1 := by omega
      unfold phiN
      have e : g / 2 ^ k = 0 := Nat.div_eq_of_lt (by omega)
      have e2 : g % 2 ^ k = g := Nat.mod_eq_of_lt (by omega)
      rw [e, e2]; split <;> omega
    · have hpos : 0 < 4 * q * 2 ^ k := Nat.mul_pos (by omega) hp
      have : g / 2 ^ k < 4 * q := (Nat.div_lt_iff_lt_mul hp).2 (by omega)
      unfold phiN; split <;> omega
  · obtain ⟨r, hr, hr2⟩ : ∃ r, g = 4 * q * 2 ^ k + r ∧ r ≤ 1 := ⟨g - 4 * q * 2 ^ k, by omega, by omega⟩
    subst hr
    have e : (4 * q * 2 ^ k + r) / 2 ^ k = 4 * q := by rw [Nat.add_comm, Nat.add_mul_div_right _ _ hp, Nat.div_eq_of_lt (by omega), Nat.zero_add]
    have e2 : (4 * q * 2 ^ k + r) % 2 ^ k = r := by rw [Nat.add_comm, Nat.add_mul_mod_self_right, Nat.mod_eq_of_lt (by omega)]
    unfold phiN
    rw [e, e2, if_neg (by omega)]
    exact Nat.le_refl _
theorem gN_mid (a b c hi lo : Nat) (h : a + c = 2 * b) (hh : 1 ≤ hi) (hl : lo < 18446744073709551616) : gN a hi lo + gN c hi lo ≤ 2 * gN b hi lo + 1 ∧ 2 * gN b hi lo ≤ gN a hi lo + gN c hi lo + 1 := by
  unfold gN
  have e1 : a * hi + c * hi = 2 * (b * hi) := by rw [← Nat.add_mul, h, Nat.mul_assoc]
  have e2 : a * lo + c * lo = 2 * (b * lo) := by rw [← Nat.add_mul, h, Nat.mul_assoc]
  have l : ∀ x, x * lo / 18446744073709551616 ≤ x * hi := fun x => by
    have h1 : x * lo ≤ x * 18446744073709551616 := Nat.mul_le_mul (Nat.le_refl _) (by omega)
    have h2 : x ≤ x * hi := Nat.le_mul_of_pos_right _ hh
    omega
  have la := l a; have lb := l b; have lc := l c
  omega
theorem valN_in (mn m mx hi lo s od : Nat) (h : mn + mx = 2 * m) (hh : 1 ≤ hi) (hl : lo < 18446744073709551616) (ho : od ≤ 1)
    (hle : minN (uN mn hi lo s) od ≤ maxN (uN mx hi lo s) od) :
    minN (uN mn hi lo s) od ≤ valN (minN (uN mn hi lo s) od) (maxN (uN mx hi lo s) od) (midN (uN m hi lo s)) ∧ valN (minN (uN mn hi lo s) od) (maxN (uN mx hi lo s) od) (midN (uN m hi lo s)) ≤ maxN (uN mx hi lo s) od := by
  obtain ⟨d1, hd1⟩ : ∃ d, d = minN (uN mn hi lo s) od := ⟨_, rfl⟩
  obtain ⟨d2, hd2⟩ : ∃ d, d = maxN (uN mx hi lo s) od := ⟨_, rfl⟩
  rw [← hd1, ← hd2] at hle ⊢
  unfold valN
  split
  · omega
  · split
    · rename_i hlt
      obtain ⟨m1, m2⟩ := gN_mid mn m mx hi lo h hh hl
      have hk : 1 ≤ 64 + s := by omega
      have a1 : 4 * d2 * 2 ^ (64 + s) ≤ gN mx hi lo := phi_ge (show 4 * d2 ≤ uN mx hi lo s by unfold maxN at hd2; omega)
      have a2 : 4 * (d1 - 1) * 2 ^ (64 + s) ≤ gN mn hi lo := phi_ge (show 4 * (d1 - 1) ≤ uN mn hi lo s by unfold minN at hd1; omega)
      have a3 : gN mx hi lo ≤ 4 * (d2 + 1) * 2 ^ (64 + s) + 1 := phi_le (show uN mx hi lo s ≤ 4 * (d2 + 1) by unfold maxN at hd2; omega)
      have a4 : gN mn hi lo ≤ 4 * d1 * 2 ^ (64 + s) + 1 := phi_le (show uN mn hi lo s ≤ 4 * d1 by unfold minN at hd1; omega)
      obtain ⟨K, hK⟩ : ∃ K, K = 2 ^ (64 + s) := ⟨_, rfl⟩
      have hK2 : 2 ≤ K := by rw [hK]; exact Nat.pow_le_pow_right (n := 2) (by decide) hk
      have b1 : 4 * d1 * 2 ^ (64 + s) ≤ gN m hi lo := by
        rw [← hK] at a1 a2 ⊢
        have c1 : (d1 + 1) * K ≤ d2 * K := Nat.mul_le_mul_right _ (by omega)
        have c2 : d1 * K ≤ (d1 - 1) * K + K := by rw [← Nat.succ_mul]; exact Nat.mul_le_mul_right _ (by omega)
        rw [Nat.add_mul] at c1
        rw [Nat.mul_assoc] at a1 a2 ⊢
        omega
      have b2 : gN m hi lo ≤ 4 * d2 * 2 ^ (64 + s) + 1 := by
        rw [← hK] at a3 a4 ⊢
        have c1 : (d1 + 1) * K ≤ d2 * K := Nat.mul_le_mul_right _ (by omega)
        rw [Nat.add_mul] at c1
        rw [Nat.mul_assoc, Nat.add_mul] at a3
        rw [Nat.mul_assoc] at a4 ⊢
        omega
      have u1 : 4 * d1 ≤ uN m hi lo s := phi_of_ge b1
      have u2 : uN m hi lo s ≤ 4 * d2 := phi_of_le hk b2
      unfold midN
      generalize uN m hi lo s = u at u1 u2
      constructor
      · omega
      · by_cases hu : u = 4 * d2
        · subst hu; omega
        · omega
    · omega
/-- An interval that is wide enough holds a whole number. -/
theorem wide_le (mn mx hi lo s od g : Nat) (ho : od ≤ 1) (h1 : gN mn hi lo < 4 * g * 2 ^ (64 + s)) (h2 : 4 * g * 2 ^ (64 + s) + 1 < gN mx hi lo) :
    minN (uN mn hi lo s) od ≤ g ∧ g ≤ maxN (uN mx hi lo s) od := by
  have hp := Nat.two_pow_pos (64 + s)
  have u1 : uN mn hi lo s + 1 ≤ 4 * g := by
    have h : gN mn hi lo / 2 ^ (64 + s) < 4 * g := (Nat.div_lt_iff_lt_mul hp).2 h1
    unfold uN phiN; split <;> omega
  have u2 : 4 * g + 1 ≤ uN mx hi lo s := by
    have h : 4 * g ≤ gN mx hi lo / 2 ^ (64 + s) := (Nat.le_div_iff_mul_le hp).2 (by omega)
    unfold uN phiN
    split
    · omega
    · rename_i hs
      have hd := Nat.div_add_mod (gN mx hi lo) (2 ^ (64 + s))
      rcases Nat.eq_or_lt_of_le h with e | e
      · rw [← e, Nat.mul_comm] at hd; omega
      · omega
  unfold minN maxN
  omega
/-! ### A number's digits, in units of 10^-400 -/
def shortV (m : Nat) (e : Int) : Nat := (shortD m e).toNat * 10 ^ (shortP m e + 400).toNat
def loV (m : Nat) (e : Int) : Nat := minN (uN (sfMn m e) (powHi (sfI m e)) (powLo (sfI m e)) (sfS m e)) (sfOd m e) * 10 ^ (748 - sfI m e)
def hiV (m : Nat) (e : Int) : Nat := maxN (uN (sfMx m e) (powHi (sfI m e)) (powLo (sfI m e)) (sfS m e)) (sfOd m e) * 10 ^ (748 - sfI m e)
theorem sf_val (m mn mx i s od : Nat) (hi : i < 696) (hm : m < 18446744073709551616) (hmn : mn < 18446744073709551616) (hmx : mx < 18446744073709551616) (h1 : 1 ≤ s) (hp : 1 ≤ powHi i) (ho : od ≤ 1) (hu : od ≤ uN mx (powHi i) (powLo i) s) :
    (sfD m mn mx i s od).toNat * 10 ^ (sfP mn mx i s od + 400).toNat = valN (minN (uN mn (powHi i) (powLo i) s) od) (maxN (uN mx (powHi i) (powLo i) s) od) (midN (uN m (powHi i) (powLo i) s)) * 10 ^ (748 - i) := by
  unfold sfD sfP valN
  rw [sfMin_n mn i s od hmn h1 ho hp, sfMax_n mx i s od hmx h1 hp hu, sfMid_n m i s hm h1 hp]
  generalize minN (uN mn (powHi i) (powLo i) s) od = a
  generalize maxN (uN mx (powHi i) (powLo i) s) od = b
  generalize midN (uN m (powHi i) (powLo i) s) = c
  by_cases h : a ≤ b / 10 * 10
  · rw [if_pos (by omega), if_pos (by omega), if_pos h, show (349 - (i : Int) + 400).toNat = (748 - i) + 1 by omega, Nat.pow_succ, show ((b : Int) / 10).toNat = b / 10 by omega, Nat.mul_assoc, Nat.mul_comm _ 10]
  · have hn : ¬ ((a : Int) ≤ (b : Int) / 10 * 10) := by omega
    rw [if_neg hn, if_neg hn, if_neg h, show (348 - (i : Int) + 400).toNat = 748 - i by omega]
    by_cases h2 : a < b
    · rw [if_pos (by omega), if_pos h2]; rfl
    · rw [if_neg (by omega), if_neg h2]; rfl
end Go.Proofs.YtfffmndjgjfflaaGreatDoor
