/- Numbers that have one text are kept alike: the shortest digits rise with the numbers, and a text tells its digits. -/
import Derived.Test.YtfffmndjgjfflaaGreatDoorNumS
namespace Go.Proofs.YtfffmndjgjfflaaGreatDoor
open Go.RowKit Go.Lib
open Go.Proofs
set_option maxRecDepth 100000

theorem wideG (mn D hi lo s : Nat) (hh : 1 ≤ hi) (hl : lo < 18446744073709551616) (h : 2 ^ (66 + s) + 3 ≤ D * (hi - 1)) :
    ∃ g, gN mn hi lo < 4 * g * 2 ^ (64 + s) ∧ 4 * g * 2 ^ (64 + s) + 1 < gN (mn + D) hi lo := by
  have eK : ∀ g, 4 * g * 2 ^ (64 + s) = g * 2 ^ (66 + s) := fun g => by
    rw [show 66 + s = (64 + s) + 2 by omega, Nat.pow_succ, Nat.pow_succ, Nat.mul_comm 4 g, Nat.mul_assoc]
    congr 1
    omega
  obtain ⟨K, hK⟩ : ∃ K, K = 2 ^ (66 + s) := ⟨_, rfl⟩
  have hKp : 0 < K := by rw [hK]; exact Nat.two_pow_pos _
  have hd : gN mn hi lo + K + 2 ≤ gN (mn + D) hi lo := by
    rw [← hK] at h
    have l : ∀ x, x * lo / 18446744073709551616 ≤ x := fun x => by
      have h1 : x * lo ≤ x * 18446744073709551616 := Nat.mul_le_mul (Nat.le_refl _) (by omega)
      omega
    have e1 : (mn + D) * hi = mn * hi + D * hi := Nat.add_mul _ _ _
    have e2 : (mn + D) * lo = mn * lo + D * lo := Nat.add_mul _ _ _
    have e3 : D * (hi - 1) + D = D * hi := by
      rw [← Nat.mul_succ]; congr 1; omega
    have l1 := l mn; have l2 := l D
    have h2 : mn ≤ mn * hi := Nat.le_mul_of_pos_right _ hh
    unfold gN
    rw [e1, e2]
    omega
  refine ⟨gN mn hi lo / K + 1, ?_, ?_⟩
  · rw [eK, ← hK, Nat.add_mul, Nat.one_mul, Nat.mul_comm]
    have h1 := Nat.div_add_mod (gN mn hi lo) K
    have h2 := Nat.mod_lt (gN mn hi lo) hKp
    omega
  · rw [eK, ← hK, Nat.add_mul, Nat.one_mul, Nat.mul_comm]
    have h1 := Nat.div_add_mod (gN mn hi lo) K
    omega
theorem okV (m : Nat) (e : Int) (h696 : sfI m e < 696) (hm : m < 18446744073709551616) (hsum : sfMn m e + sfMx m e = 2 * m) (h1 : 1 ≤ sfS m e) (hp : 1 ≤ powHi (sfI m e)) (ho : sfOd m e ≤ 1)
    (hw : ∃ g, gN (sfMn m e) (powHi (sfI m e)) (powLo (sfI m e)) < 4 * g * 2 ^ (64 + sfS m e) ∧ 4 * g * 2 ^ (64 + sfS m e) + 1 < gN (sfMx m e) (powHi (sfI m e)) (powLo (sfI m e))) :
    loV m e ≤ shortV m e ∧ shortV m e ≤ hiV m e := by
  have bn := u64_bd (sfLo m e)
  have bx := u64_bd (sfHi m e)
  have hmn : sfMn m e < 18446744073709551616 := by unfold sfMn; omega
  have hmx : sfMx m e < 18446744073709551616 := by unfold sfMx; omega
  obtain ⟨g, g1, g2⟩ := hw
  obtain ⟨w1, w2⟩ := wide_le _ _ _ _ _ (sfOd m e) g ho g1 g2
  have hu : sfOd m e ≤ uN (sfMx m e) (powHi (sfI m e)) (powLo (sfI m e)) (sfS m e) := by
    have hq : 4 * g ≤ uN (sfMx m e) (powHi (sfI m e)) (powLo (sfI m e)) (sfS m e) := by
      have := phi_of_ge (k := 64 + sfS m e) (g := gN (sfMx m e) (powHi (sfI m e)) (powLo (sfI m e))) (q := g) (by omega)
      exact this
    have hg : 1 ≤ g := by
      rcases Nat.eq_zero_or_pos g with h | h
      · subst h; simp at g1
      · exact h
    omega
  have hv := sf_val m (sfMn m e) (sfMx m e) (sfI m e) (sfS m e) (sfOd m e) h696 hm hmn hmx h1 hp ho hu
  obtain ⟨v1, v2⟩ := valN_in _ _ _ _ _ _ _ hsum hp (pow_lt _).2 ho (Nat.le_trans w1 w2)
  unfold loV hiV shortV shortD shortP
  rw [hv]
  exact ⟨Nat.mul_le_mul_right _ v1, Nat.mul_le_mul_right _ v2⟩
theorem apart (u od od' t : Nat) (ho : od + od' = 1) (hu : 1 ≤ u) : maxN u od * 10 ^ t < minN u od' * 10 ^ t := by
  refine Nat.mul_lt_mul_of_pos_right ?_ (Nat.pow_pos (by decide))
  unfold maxN minN
  omega
theorem bitLen_of (M b : Nat) (h : M ≠ 0) (h0 : M < 18446744073709551616) (h1 : 2 ^ b ≤ M) (h2 : M < 2 ^ (b + 1)) : Lib.bitLen M = b + 1 := by
  obtain ⟨a1, a2, a3⟩ := Lib.bitLenAux_bounds 64 M (by omega) h
  unfold Lib.bitLen
  have b1 : b < Lib.bitLenAux 64 M := (Nat.pow_lt_pow_iff_right (by decide : 1 < 2)).1 (Nat.lt_of_le_of_lt h1 a3)
  have b2 : Lib.bitLenAux 64 M - 1 < b + 1 := (Nat.pow_lt_pow_iff_right (by decide : 1 < 2)).1 (Nat.lt_of_le_of_lt a2 h2)
  omega
/-! ### Numbers with a leading bit, but for powers of two -/
structure NF (M : Nat) (e : Int) (m i s : Nat) : Prop where
  em : m = M * 2048
  ei : sfI m e = i
  es : sfS m e = s
  emn : sfMn m e = m - 1024
  emx : sfMx m e = m + 1024
  eod : sfOd m e = M % 2
theorem nf (M E : Nat) (h1 : 1 ≤ E) (h2 : E ≤ 2046) (hM : 4503599627370496 ≤ M) (hM2 : M < 9007199254740992) (hk : E = 1 ∨ M ≠ 4503599627370496) :
    NF M ((E : Int) - 1086) (M * 2048) (iE E) (sE E) := by
  have ha : sfA? (M * 2048) ((E : Int) - 1086) = false := by
    unfold sfA?
    rcases hk with h | h
    · rw [decide_eq_false (by omega), Bool.and_false]
    · rw [show (((M * 2048 : Nat) : Int) == 9223372036854775808) = false by rw [beq_eq_false_iff_ne]; omega, Bool.false_and]
  have hp : sfPow (M * 2048) ((E : Int) - 1086) = -lgTen ((E : Int) - 1075) := by
    unfold sfPow; rw [ha, if_neg Bool.false_ne_true, if_pos (by omega), show (E : Int) - 1086 + 11 = (E : Int) - 1075 by omega]
  refine ⟨rfl, ?_, ?_, ?_, ?_, ?_⟩
  · unfold sfI iE; rw [hp]; congr 1; omega
  · unfold sfS sE; rw [hp]
  · unfold sfMn sfLo; rw [ha, if_neg Bool.false_ne_true, if_pos (by omega), show (((M * 2048 : Nat) : Int) - 1024) = ((M * 2048 - 1024 : Nat) : Int) by omega, u64_id _ (by omega)]
    exact Int.toNat_natCast _
  · unfold sfMx sfHi; rw [ha, if_neg Bool.false_ne_true, if_pos (by omega), show (((M * 2048 : Nat) : Int) + 1024) = ((M * 2048 + 1024 : Nat) : Int) by omega, u64_id _ (by omega)]
    exact Int.toNat_natCast _
  · unfold sfOd; rw [if_pos (by omega)]; omega
theorem nf_ok (M E : Nat) (h1 : 1 ≤ E) (h2 : E ≤ 2046) (hM : 4503599627370496 ≤ M) (hM2 : M < 9007199254740992) (hk : E = 1 ∨ M ≠ 4503599627370496) :
    loV (M * 2048) ((E : Int) - 1086) ≤ shortV (M * 2048) ((E : Int) - 1086) ∧ shortV (M * 2048) ((E : Int) - 1086) ≤ hiV (M * 2048) ((E : Int) - 1086) := by
  have n := nf M E h1 h2 hM hM2 hk
  obtain ⟨⟨c1, c2⟩, c3, c4⟩ := chkE_at E h1 h2
  have hi := (sfI_lt (M * 2048) ((E : Int) - 1086) (by omega) (by omega)).1
  refine okV _ _ hi (by omega) (by rw [n.emn, n.emx]; omega) (by rw [n.es]; exact c1) (by rw [n.ei]; omega) (by rw [n.eod]; omega) ?_
  rw [n.ei, n.es, n.emn, n.emx]
  rcases c4 with c4 | c4
  · subst c4
    have ei : iE 1075 = 348 := by decide
    have es : sE 1075 = 8 := by decide
    have hh : powHi 348 = 9223372036854775808 := by decide +kernel
    have hl : powLo 348 = 0 := by decide +kernel
    refine ⟨M, ?_, ?_⟩
    · unfold gN
      rw [ei, es, hh, hl, Nat.mul_zero, Nat.zero_div, show (2 : Nat) ^ (64 + 8) = 4722366482869645213696 from by decide]
      omega
    · unfold gN
      rw [ei, es, hh, hl, Nat.mul_zero, Nat.zero_div, show (2 : Nat) ^ (64 + 8) = 4722366482869645213696 from by decide]
      omega
  · have hw := wideG (M * 2048 - 1024) 2048 (powHi (iE E)) (powLo (iE E)) (sE E) (by omega) (pow_lt _).2 (by
      have e : 2 ^ (66 + sE E) = 2048 * 2 ^ (55 + sE E) := by rw [show 66 + sE E = 11 + (55 + sE E) by omega, Nat.pow_add]
      rw [e]; omega)
    rw [show M * 2048 - 1024 + 2048 = M * 2048 + 1024 by omega] at hw
    exact hw
theorem nf_step (M E : Nat) (h1 : 1 ≤ E) (h2 : E ≤ 2046) (hM : 4503599627370496 ≤ M) (hM2 : M + 1 < 9007199254740992) (hk : E = 1 ∨ M ≠ 4503599627370496) :
    hiV (M * 2048) ((E : Int) - 1086) < loV ((M + 1) * 2048) ((E : Int) - 1086) := by
  have n := nf M E h1 h2 hM (by omega) hk
  have n2 := nf (M + 1) E h1 h2 (by omega) hM2 (by omega)
  obtain ⟨⟨c1, c2⟩, c3, c4⟩ := chkE_at E h1 h2
  unfold hiV loV
  rw [n.ei, n.es, n.emx, n.eod, n2.ei, n2.es, n2.emn, n2.eod, show (M + 1) * 2048 - 1024 = M * 2048 + 1024 by omega]
  refine apart _ _ _ _ (by omega) ?_
  have hb : 4 * 1 ≤ uN (M * 2048 + 1024) (powHi (iE E)) (powLo (iE E)) (sE E) := by
    refine phi_of_ge ?_
    have l : (M * 2048 + 1024) * powLo (iE E) / 18446744073709551616 ≤ M * 2048 + 1024 := by
      have h1 : (M * 2048 + 1024) * powLo (iE E) ≤ (M * 2048 + 1024) * 18446744073709551616 := Nat.mul_le_mul (Nat.le_refl _) (Nat.le_of_lt (pow_lt _).2)
      omega
    have l2 : (M * 2048 + 1024) * 9223372036854775808 ≤ (M * 2048 + 1024) * powHi (iE E) := Nat.mul_le_mul_left _ c3
    have l3 : 2 ^ (64 + sE E) ≤ 2 ^ 80 := Nat.pow_le_pow_right (by decide) (by omega)
    rw [show (2 : Nat) ^ 80 = 1208925819614629174706176 from by decide] at l3
    unfold gN
    omega
  omega

/-! ### Numbers below all that have a leading bit -/
theorem p_1074 : lgTen (-1074) = -324 := by decide
theorem bf (M S : Nat) (hS : 12 ≤ S) (hS2 : S ≤ 63) (hM : 2 ^ (63 - S) ≤ M) (hM2 : M < 2 ^ (64 - S)) (m : Nat) (hm : m = M * 2 ^ S) (e : Int) (he : e = -1074 - S) :
    sfI m e = iE 1 ∧ sfS m e = sE 1 + (S - 11) ∧ (sfMn m e = m - 2 ^ (S - 1) ∧ sfMx m e = m + 2 ^ (S - 1)) ∧ sfOd m e = M % 2 ∧ m + 2 ^ (S - 1) < 18446744073709551616 ∧ 2 ^ (S - 1) ≤ m ∧ 2 * 2 ^ (S - 1) = 2 ^ S ∧ 1 ≤ M := by
  have hM1 : 1 ≤ M := Nat.le_trans (Nat.two_pow_pos _) hM
  have h2S : 2 * 2 ^ (S - 1) = 2 ^ S := by rw [← Nat.pow_succ']; congr 1; omega
  have hmS : 2 ^ S ≤ m := by rw [hm]; exact Nat.le_mul_of_pos_left _ hM1
  have hpp := Nat.two_pow_pos (S - 1)
  have hmx : m + 2 ^ S ≤ 18446744073709551616 := by
    have h1 : (M + 1) * 2 ^ S ≤ 2 ^ (64 - S) * 2 ^ S := Nat.mul_le_mul_right _ hM2
    rw [← Nat.pow_add, show 64 - S + S = 64 by omega, Nat.add_mul, Nat.one_mul, ← hm] at h1
    exact h1
  have ha : sfA? m e = false := by
    unfold sfA?
    rw [decide_eq_false (by omega), Bool.and_false]
  have hE : (11 + (-1085 - e)).toNat = S := by omega
  have hp : sfPow m e = -lgTen (-1074) := by
    unfold sfPow; rw [ha, if_neg Bool.false_ne_true, if_neg (by omega), show e + (11 + (-1085 - e)) = -1074 by omega]
  have hpi : ((2 : Int) ^ (S - 1)) = ((2 ^ (S - 1) : Nat) : Int) := by simp
  have hw : IntKind.u64.wrap (2 ^ ((11 + (-1085 - e)).toNat - 1)) = ((2 ^ (S - 1) : Nat) : Int) := by
    rw [hE, hpi, u64_id _ (by omega)]
  refine ⟨?_, ?_, ⟨?_, ?_⟩, ?_, by omega, by omega, h2S, hM1⟩
  · unfold sfI; rw [hp, p_1074]; decide
  · unfold sfS
    rw [hp, p_1074, show sE 1 = 6 from by decide, show lgTwo (- -324) = 1076 from by decide]
    omega
  · unfold sfMn sfLo; rw [ha, if_neg Bool.false_ne_true, if_neg (by omega), hw, show ((m : Int) - ((2 ^ (S - 1) : Nat) : Int)) = ((m - 2 ^ (S - 1) : Nat) : Int) by omega, u64_id _ (by omega)]
    exact Int.toNat_natCast _
  · unfold sfMx sfHi; rw [ha, if_neg Bool.false_ne_true, if_neg (by omega), hw, ← Int.natCast_add, u64_id _ (by omega)]
    exact Int.toNat_natCast _
  · unfold sfOd; rw [if_neg (by omega), hE, hm, Nat.mul_div_cancel _ (Nat.two_pow_pos S)]
theorem bf_ok (M S : Nat) (hS : 12 ≤ S) (hS2 : S ≤ 63) (hM : 2 ^ (63 - S) ≤ M) (hM2 : M < 2 ^ (64 - S)) : loV (M * 2 ^ S) (-1074 - S) ≤ shortV (M * 2 ^ S) (-1074 - S) ∧ shortV (M * 2 ^ S) (-1074 - S) ≤ hiV (M * 2 ^ S) (-1074 - S) := by
  obtain ⟨b1, b2, ⟨b3, b4⟩, b5, b6, b7, b8, b9⟩ := bf M S hS hS2 hM hM2 _ rfl _ rfl
  obtain ⟨⟨c1, c2⟩, c3, c4⟩ := chkE_at 1 (by decide) (by decide)
  have hi := (sfI_lt (M * 2 ^ S) (-1074 - S) (by omega) (by omega)).1
  refine okV _ _ hi (by omega) (by rw [b3, b4]; omega) (by rw [b2]; omega) (by rw [b1]; omega) (by rw [b5]; omega) ?_
  rw [b1, b2, b3, b4]
  have c5 : 2 ^ (55 + sE 1) + 2 ≤ powHi (iE 1) := c4.resolve_left (by decide)
  have hw := wideG (M * 2 ^ S - 2 ^ (S - 1)) (2 ^ S) (powHi (iE 1)) (powLo (iE 1)) (sE 1 + (S - 11)) (by omega) (pow_lt _).2 (by
    have e : 2 ^ (66 + (sE 1 + (S - 11))) = 2 ^ S * 2 ^ (55 + sE 1) := by rw [show 66 + (sE 1 + (S - 11)) = S + (55 + sE 1) by omega, Nat.pow_add]
    have h12 : 2 ^ 12 ≤ 2 ^ S := Nat.pow_le_pow_right (by decide) hS
    have h3 : 2 ^ S * (2 ^ (55 + sE 1) + 1) ≤ 2 ^ S * (powHi (iE 1) - 1) := Nat.mul_le_mul_left _ (by omega)
    rw [Nat.mul_add, Nat.mul_one] at h3
    rw [show (2 : Nat) ^ 12 = 4096 from by decide] at h12
    rw [e]
    omega)
  rw [show M * 2 ^ S - 2 ^ (S - 1) + 2 ^ S = M * 2 ^ S + 2 ^ (S - 1) by omega] at hw
  exact hw
theorem bf_step (M S : Nat) (hS : 12 ≤ S) (hS2 : S ≤ 63) (hM : 2 ^ (63 - S) ≤ M) (hM2 : M + 1 < 2 ^ (64 - S)) : hiV (M * 2 ^ S) (-1074 - S) < loV ((M + 1) * 2 ^ S) (-1074 - S) := by
  obtain ⟨b1, b2, ⟨b3, b4⟩, b5, b6, b7, b8, b9⟩ := bf M S hS hS2 hM (by omega) _ rfl _ rfl
  obtain ⟨a1, a2, ⟨a3, a4⟩, a5, a6, a7, a8, a9⟩ := bf (M + 1) S hS hS2 (by omega) hM2 _ rfl _ rfl
  obtain ⟨⟨c1, c2⟩, c3, c4⟩ := chkE_at 1 (by decide) (by decide)
  unfold hiV loV
  rw [b1, b2, b4, b5, a1, a2, a3, a5, show (M + 1) * 2 ^ S - 2 ^ (S - 1) = M * 2 ^ S + 2 ^ (S - 1) by rw [Nat.add_mul]; omega]
  refine apart _ _ _ _ (by omega) ?_
  have hm62 : 2 ^ 63 ≤ M * 2 ^ S := by
    have := Nat.mul_le_mul_right (2 ^ S) hM
    rw [← Nat.pow_add, show 63 - S + S = 63 by omega] at this
    exact this
  obtain ⟨x, hx⟩ : ∃ x, x = M * 2 ^ S + 2 ^ (S - 1) := ⟨_, rfl⟩
  rw [← hx]
  have hx2 : 2 ^ 63 ≤ x := by omega
  have hb : 4 * 1 ≤ uN x (powHi (iE 1)) (powLo (iE 1)) (sE 1 + (S - 11)) := by
    refine phi_of_ge ?_
    have l : x * powLo (iE 1) / 18446744073709551616 ≤ x := by
      have h1 : x * powLo (iE 1) ≤ x * 18446744073709551616 := Nat.mul_le_mul (Nat.le_refl _) (Nat.le_of_lt (pow_lt _).2)
      omega
    have l2 : x * 9223372036854775808 ≤ x * powHi (iE 1) := Nat.mul_le_mul_left _ c3
    have l3 : 2 ^ (64 + (sE 1 + (S - 11))) ≤ 2 ^ 122 := Nat.pow_le_pow_right (by decide) (by rw [show sE 1 = 6 from by decide]; omega)
    rw [show (2 : Nat) ^ 122 = 5316911983139663491615228241121378304 from by decide] at l3
    unfold gN
    omega
  omega

theorem chkS_at (E : Nat) (h1 : 2 ≤ E) (h2 : E ≤ 2046) : hiX (E * 4503599627370496 - 1) < loX (E * 4503599627370496) ∧ (loX (E * 4503599627370496) ≤ valX (E * 4503599627370496) ∧ valX (E * 4503599627370496) ≤ hiX (E * 4503599627370496)) ∧ hiX (E * 4503599627370496) < loX (E * 4503599627370496 + 1) := by
  have h := List.all_eq_true.1 chkS_all (E - 2) (List.mem_range.2 (by omega))
  rw [show E - 2 + 2 = E by omega] at h
  unfold chkS at h
  simpa [and_assoc] using h
theorem chkB_at (j : Nat) (h1 : 1 ≤ j) (h2 : j ≤ 52) : hiX (2 ^ j - 1) < loX (2 ^ j) := by
  have h := List.all_eq_true.1 chkB_all (j - 1) (List.mem_range.2 (by omega))
  rw [show j - 1 + 1 = j by omega] at h
  unfold chkB at h
  simpa using h

/-- A number with a leading bit: its mantissa and exponent. -/
theorem word_n (x E : Nat) (hE : E = x / 4503599627370496) (h1 : 1 ≤ E) (h2 : E ≤ 2046) : xm x = (x % 4503599627370496 + 4503599627370496) * 2048 ∧ xe x = (E : Int) - 1086 := by
  have e1 : fExp x = E := by unfold fExp; omega
  have e2 : fM x = x % 4503599627370496 + 4503599627370496 := by unfold fM fMan; rw [e1, if_neg (by omega)]
  have e3 : fS x = 11 := by
    unfold fS
    rw [e2, bitLen_of _ 52 (by omega) (by omega) (by rw [show (2 : Nat) ^ 52 = 4503599627370496 from by decide]; omega) (by rw [show (2 : Nat) ^ (52 + 1) = 9007199254740992 from by decide]; omega)]
  refine ⟨by unfold xm; rw [e2, e3], ?_⟩
  unfold xe fE
  rw [e1, if_neg (by omega), e3]; omega
theorem word_b (x b : Nat) (hb : b ≤ 51) (h1 : 2 ^ b ≤ x) (h2 : x < 2 ^ (b + 1)) : xm x = x * 2 ^ (63 - b) ∧ xe x = -1074 - ((63 - b : Nat) : Int) := by
  have hp := Nat.two_pow_pos b
  have h3 : 2 ^ (b + 1) ≤ 2 ^ 52 := Nat.pow_le_pow_right (by decide) (by omega)
  rw [show (2 : Nat) ^ 52 = 4503599627370496 from by decide] at h3
  have e1 : fExp x = 0 := by unfold fExp; omega
  have e2 : fM x = x := by unfold fM fMan; rw [e1, if_pos rfl]; omega
  have e3 : fS x = 63 - b := by
    unfold fS
    rw [e2, bitLen_of _ b (by omega) (by omega) h1 h2]; omega
  refine ⟨by unfold xm; rw [e2, e3], ?_⟩
  unfold xe fE
  rw [e1, if_pos rfl, e3]; omega
theorem log_of (x : Nat) (h : 1 ≤ x) (h2 : x < 4503599627370496) : ∃ b, b ≤ 51 ∧ 2 ^ b ≤ x ∧ x < 2 ^ (b + 1) := by
  refine ⟨Nat.log2 x, ?_, Nat.log2_self_le (by omega), Nat.lt_log2_self⟩
  have := (Nat.log2_lt (n := x) (k := 52) (by omega)).2 (by rw [show (2 : Nat) ^ 52 = 4503599627370496 from by decide]; omega)
  omega

theorem x_ok (x : Nat) (h1 : 1 ≤ x) (h2 : x < 9218868437227405312) : loX x ≤ valX x ∧ valX x ≤ hiX x := by
  by_cases hb : x < 4503599627370496
  · obtain ⟨b, b1, b2, b3⟩ := log_of x h1 hb
    obtain ⟨e1, e2⟩ := word_b x b b1 b2 b3
    unfold loX valX hiX
    rw [e1, e2]
    exact bf_ok x (63 - b) (by omega) (by omega) (by rw [show 63 - (63 - b) = b by omega]; exact b2) (by rw [show 64 - (63 - b) = b + 1 by omega]; exact b3)
  · obtain ⟨E, hE⟩ : ∃ E, E = x / 4503599627370496 := ⟨_, rfl⟩
    by_cases hk : E = 1 ∨ x % 4503599627370496 ≠ 0
    · obtain ⟨e1, e2⟩ := word_n x E hE (by omega) (by omega)
      unfold loX valX hiX
      rw [e1, e2]
      exact nf_ok _ E (by omega) (by omega) (by omega) (by omega) (by omega)
    · have := (chkS_at E (by omega) (by omega)).2.1
      rw [show E * 4503599627370496 = x by omega] at this
      exact this
theorem x_step (x : Nat) (h1 : 1 ≤ x) (h2 : x + 1 < 9218868437227405312) : hiX x < loX (x + 1) := by
  by_cases hb : x + 1 < 4503599627370496
  · obtain ⟨b, b1, b2, b3⟩ := log_of x h1 (by omega)
    by_cases hc : x + 1 < 2 ^ (b + 1)
    · obtain ⟨e1, e2⟩ := word_b x b b1 b2 b3
      obtain ⟨f1, f2⟩ := word_b (x + 1) b b1 (by omega) hc
      unfold loX hiX
      rw [e1, e2, f1, f2]
      exact bf_step x (63 - b) (by omega) (by omega) (by rw [show 63 - (63 - b) = b by omega]; exact b2) (by rw [show 64 - (63 - b) = b + 1 by omega]; exact hc)
    · have := chkB_at (b + 1) (by omega) (by omega)
      rw [show 2 ^ (b + 1) = x + 1 by omega, Nat.add_sub_cancel] at this
      exact this
  · by_cases hb2 : x + 1 = 4503599627370496
    · have := chkB_at 52 (by omega) (by omega)
      rw [show 2 ^ 52 = x + 1 by rw [hb2], Nat.add_sub_cancel] at this
      exact this
    · obtain ⟨E, hE⟩ : ∃ E, E = x / 4503599627370496 := ⟨_, rfl⟩
      by_cases hk : E = 1 ∨ x % 4503599627370496 ≠ 0
      · by_cases hc : (x + 1) % 4503599627370496 = 0
        · have := (chkS_at (E + 1) (by omega) (by omega)).1
          rw [show (E + 1) * 4503599627370496 = x + 1 by omega, Nat.add_sub_cancel] at this
          exact this
        · obtain ⟨e1, e2⟩ := word_n x E hE (by omega) (by omega)
          obtain ⟨f1, f2⟩ := word_n (x + 1) E (by omega) (by omega) (by omega)
          unfold loX hiX
          rw [e1, e2, f1, f2, show (x + 1) % 4503599627370496 + 4503599627370496 = x % 4503599627370496 + 4503599627370496 + 1 by omega]
          exact nf_step _ E (by omega) (by omega) (by omega) (by omega) (by omega)
      · have := (chkS_at E (by omega) (by omega)).2.2
        rw [show E * 4503599627370496 = x by omega] at this
        exact this
/-- The shortest digits rise with the numbers. -/
theorem val_rise (x : Nat) (h1 : 1 ≤ x) (n : Nat) (h2 : x + (n + 1) < 9218868437227405312) : valX x < valX (x + (n + 1)) := by
  induction n with
  | zero => exact Nat.lt_of_le_of_lt (x_ok x h1 (by omega)).2 (Nat.lt_of_lt_of_le (x_step x h1 (by omega)) (x_ok (x + 1) (by omega) (by omega)).1)
  | succ n ih =>
    refine Nat.lt_trans (ih (by omega)) ?_
    exact Nat.lt_of_le_of_lt (x_ok (x + (n + 1)) (by omega) (by omega)).2 (Nat.lt_of_lt_of_le (x_step (x + (n + 1)) (by omega) (by omega)) (x_ok (x + (n + 1) + 1) (by omega) (by omega)).1)
theorem val_one : 0 < valX 1 := by decide +kernel
theorem val_pos (x : Nat) (h1 : 1 ≤ x) (h2 : x < 9218868437227405312) : 0 < valX x := by
  rcases Nat.eq_or_lt_of_le h1 with e | e
  · rw [← e]; exact val_one
  · have := val_rise 1 (Nat.le_refl _) (x - 2) (by omega)
    rw [show 1 + (x - 2 + 1) = x by omega] at this
    omega
theorem val_inj (x y : Nat) (hx : 1 ≤ x) (hx2 : x < 9218868437227405312) (hy : 1 ≤ y) (hy2 : y < 9218868437227405312) (h : valX x = valX y) : x = y := by
  rcases Nat.lt_trichotomy x y with hl | rfl | hl
  · have := val_rise x hx (y - x - 1) (by omega)
    rw [show x + (y - x - 1 + 1) = y by omega] at this
    omega
  · rfl
  · have := val_rise y hy (x - y - 1) (by omega)
    rw [show y + (x - y - 1 + 1) = x by omega] at this
    omega
/-! ### Texts of numbers, read -/
def dv (l : List UInt8) : Nat := l.foldl (fun a b => a * 10 + (b.toNat - 48)) 0
theorem dv_from (l : List UInt8) : ∀ a, l.foldl (fun a b => a * 10 + (b.toNat - 48)) a = a * 10 ^ l.length + dv l := by
  induction l with
  | nil => intro a; simp [dv]
  | cons b l ih =>
    intro a
    unfold dv
    rw [List.foldl_cons, List.foldl_cons, ih, ih (0 * 10 + _), List.length_cons, Nat.pow_succ, Nat.add_mul, Nat.zero_mul, Nat.zero_add, Nat.mul_assoc, Nat.mul_comm 10, Nat.add_assoc]
theorem dv_app (a b : List UInt8) : dv (a ++ b) = dv a * 10 ^ b.length + dv b := by
  unfold dv; rw [List.foldl_append, dv_from]; rfl
theorem dv_zeros (n : Nat) : dv (List.replicate n 48) = 0 := by
  induction n with
  | zero => rfl
  | succ n ih => rw [List.replicate_succ, show (48 : UInt8) :: List.replicate n 48 = [48] ++ List.replicate n 48 from rfl, dv_app, ih]; simp [dv]
theorem dv_one (b : UInt8) : dv [b] = b.toNat - 48 := by simp [dv]
def cutT (c : UInt8) : List UInt8 → List UInt8 × List UInt8
  | [] => ([], [])
  | b :: l => if b = c then ([], l) else (b :: (cutT c l).1, (cutT c l).2)
theorem cutT_at (c : UInt8) (a b : List UInt8) (h : ∀ x ∈ a, x ≠ c) : cutT c (a ++ c :: b) = (a, b) := by
  induction a with
  | nil => simp [cutT]
  | cons x a ih =>
    rw [List.cons_append, cutT, if_neg (h x List.mem_cons_self), ih fun y hy => h y (List.mem_cons_of_mem _ hy)]
theorem cutT_none (c : UInt8) (a : List UInt8) (h : ∀ x ∈ a, x ≠ c) : cutT c a = (a, []) := by
  induction a with
  | nil => simp [cutT]
  | cons x a ih =>
    rw [cutT, if_neg (h x List.mem_cons_self), ih fun y hy => h y (List.mem_cons_of_mem _ hy)]
def expoT : List UInt8 → Int
  | [] => 0
  | b :: l => if b = 45 then -(dv l : Int) else dv l
/-- What a text without its sign tells, in units of 10^-400. -/
def textV (l : List UInt8) : Nat :=
  dv ((cutT 46 (cutT 101 l).1).1 ++ (cutT 46 (cutT 101 l).1).2) * 10 ^ (400 + expoT (cutT 101 l).2 - (cutT 46 (cutT 101 l).1).2.length).toNat
theorem textV_p (a b : List UInt8) (ha : ∀ x ∈ a, x ≠ 46 ∧ x ≠ 101) (hb : ∀ x ∈ b, x ≠ 101) : textV (a ++ 46 :: b) = dv (a ++ b) * 10 ^ (400 - (b.length : Int)).toNat := by
  unfold textV
  rw [cutT_none 101 (a ++ 46 :: b) (fun x hx => by
    rcases List.mem_append.1 hx with h | h
    · exact (ha x h).2
    · rcases List.mem_cons.1 h with rfl | h
      · decide
      · exact hb x h)]
  simp only []
  rw [cutT_at 46 a b fun x hx => (ha x hx).1]
  simp [expoT]
theorem textV_n (a : List UInt8) (ha : ∀ x ∈ a, x ≠ 46 ∧ x ≠ 101) (t : Nat) (ht : t = 400) : textV a = dv a * 10 ^ t := by
  have e : (400 + expoT [] - (([] : List UInt8).length : Int)).toNat = t := by rw [ht]; rfl
  unfold textV
  rw [cutT_none 101 a fun x hx => (ha x hx).2]
  simp only []
  rw [cutT_none 46 a fun x hx => (ha x hx).1, List.append_nil, e]
theorem textV_e (a b c : List UInt8) (s : UInt8) (ha : ∀ x ∈ a, x ≠ 46 ∧ x ≠ 101) (hb : ∀ x ∈ b, x ≠ 101) : textV ((a ++ 46 :: b) ++ 101 :: s :: c) = dv (a ++ b) * 10 ^ (400 + (if s = 45 then -(dv c : Int) else dv c) - (b.length : Int)).toNat := by
  unfold textV
  rw [cutT_at 101 (a ++ 46 :: b) (s :: c) (fun x hx => by
    rcases List.mem_append.1 hx with h | h
    · exact (ha x h).2
    · rcases List.mem_cons.1 h with rfl | h
      · decide
      · exact hb x h)]
  simp only []
  rw [cutT_at 46 a b fun x hx => (ha x hx).1]
  simp [expoT]
theorem textV_e1 (a c : List UInt8) (s : UInt8) (ha : ∀ x ∈ a, x ≠ 46 ∧ x ≠ 101) : textV (a ++ 101 :: s :: c) = dv a * 10 ^ (400 + (if s = 45 then -(dv c : Int) else dv c)).toNat := by
  unfold textV
  rw [cutT_at 101 a (s :: c) (fun x hx => (ha x hx).2)]
  simp only []
  rw [cutT_none 46 a fun x hx => (ha x hx).1, List.append_nil]
  simp [expoT]

/-! ### The digits that are written -/
theorem dg_digit (u j : Nat) : 48 ≤ (Lib.dg u j).toNat ∧ (Lib.dg u j).toNat ≤ 57 ∧ (Lib.dg u j).toNat - 48 = u / 10 ^ j % 10 := by
  have h : u / 10 ^ j % 10 < 10 := Nat.mod_lt _ (by decide)
  have e : (Lib.dg u j).toNat = 48 + u / 10 ^ j % 10 := by
    unfold Lib.dg
    rw [UInt8.toNat_ofNat_of_lt' (by simp [UInt8.size]; omega)]
  omega
theorem dv_dig (u : Nat) : ∀ n, n ≤ nDig u → dv ((List.range n).map (digD u)) = u / 10 ^ (nDig u - n)
  | 0, _ => by
    rw [Nat.sub_zero, Nat.div_eq_of_lt (lt_nDig u)]; rfl
  | n + 1, h => by
    rw [List.range_succ, List.map_append, dv_app, dv_dig u n (by omega)]
    show _ * 10 ^ 1 + dv [digD u n] = _
    rw [dv_one]
    unfold digD
    rw [(dg_digit u _).2.2, show nDig u - n = (nDig u - 1 - n) + 1 by omega, Nat.pow_succ, ← Nat.div_div_eq_div_mul, show nDig u - (n + 1) = nDig u - 1 - n by omega, Nat.pow_one]
    omega
theorem strip_val (u nd : Nat) : ∀ k, k ≤ nd → u / 10 ^ (nd - k) * 10 ^ (nd - k) = u → u / 10 ^ (nd - strip u nd k) * 10 ^ (nd - strip u nd k) = u
  | 0, _, h => h
  | k + 1, hk, h => by
    unfold strip
    split
    · rename_i hd
      refine strip_val u nd k (by omega) ?_
      have h0 : u / 10 ^ (nd - 1 - k) % 10 = 0 := by
        have := (dg_digit u (nd - 1 - k)).2.2
        rw [hd] at this
        simpa using this.symm
      have e1 : nd - k = (nd - 1 - k) + 1 := by omega
      have e2 : nd - (k + 1) = nd - 1 - k := by omega
      rw [e2] at h
      rw [e1, Nat.pow_succ, ← Nat.div_div_eq_div_mul, Nat.mul_comm (10 ^ _) 10, ← Nat.mul_assoc, Nat.div_mul_cancel (Nat.dvd_of_mod_eq_zero h0)]
      exact h
    · exact h
theorem nzd_val (u : Nat) : u / 10 ^ (nDig u - nzd u) * 10 ^ (nDig u - nzd u) = u := strip_val u (nDig u) (nDig u) (Nat.le_refl _) (by simp)
theorem nzd_pos (u : Nat) (h : 0 < u) : 0 < nzd u := by
  rcases Nat.eq_zero_or_pos (nzd u) with e | e
  · have := nzd_val u
    rw [e, Nat.sub_zero, Nat.div_eq_of_lt (lt_nDig u)] at this
    omega
  · exact e
theorem dv_nzd (u : Nat) : dv ((List.range (nzd u)).map (digD u)) * 10 ^ (nDig u - nzd u) = u := by
  rw [dv_dig u (nzd u) (strip_le _ _ _)]; exact nzd_val u
theorem expL_dv (x : Nat) (h : x ≤ 400) : dv (expL x) = x := by
  unfold expL
  split
  · simp [dv]; omega
  · split
    · simp [dv]; omega
    · simp [dv]; omega
/-- Bytes that are digits. -/
def DigL (l : List UInt8) : Prop := ∀ x ∈ l, 48 ≤ x.toNat ∧ x.toNat ≤ 57
theorem DigL.ne {l : List UInt8} (h : DigL l) : ∀ x ∈ l, x ≠ 46 ∧ x ≠ 101 := fun x hx => by
  have := h x hx
  exact ⟨fun e => by subst e; exact absurd this (by decide), fun e => by subst e; exact absurd this (by decide)⟩
theorem digL_map (u : Nat) (f : Nat → Nat) (n : Nat) : DigL ((List.range n).map fun j => digD u (f j)) := fun x hx => by
  obtain ⟨j, _, rfl⟩ := List.mem_map.1 hx
  exact ⟨(dg_digit u _).1, (dg_digit u _).2.1⟩
theorem digL_zeros (n : Nat) : DigL (List.replicate n 48) := fun x hx => by rw [(List.mem_replicate.1 hx).2]; decide
theorem DigL.app {a b : List UInt8} (h : DigL a) (k : DigL b) : DigL (a ++ b) := fun x hx => (List.mem_append.1 hx).elim (h x) (k x)
theorem range_join (D : Nat → UInt8) (q n : Nat) (h : q ≤ n) : (List.range q).map D ++ (List.range (n - q)).map (fun j => D (q + j)) = (List.range n).map D := by
  have : List.range n = List.range (q + (n - q)) := by congr 1; omega
  rw [this, List.range_add, List.map_append, List.map_map]; rfl
/-- What is written of a number tells it. -/
theorem gL_val (u : Nat) (P : Int) (hu : 0 < u) (h1 : -347 ≤ P) (h2 : P ≤ 349) (h3 : nDig u ≤ 20) : textV (gL false (digD u) (nzd u) (nDig u + P)) = u * 10 ^ (P + 400).toNat := by
  have hz := nzd_pos u hu
  have hzl : nzd u ≤ nDig u := strip_le _ _ _
  have hval := dv_nzd u
  have hfin : ∀ t : Nat, (t : Int) = (nDig u : Int) + P - nzd u + 400 → dv ((List.range (nzd u)).map (digD u)) * 10 ^ t = u * 10 ^ (P + 400).toNat := fun t ht => by
    rw [show t = (nDig u - nzd u) + (P + 400).toNat by omega, Nat.pow_add, ← Nat.mul_assoc, hval]
  have hD : DigL ((List.range (nzd u)).map (digD u)) := digL_map u (fun j => j) _
  unfold gL
  rw [if_neg (by omega)]
  unfold efgL
  generalize hdp : (nDig u : Int) + P = dp at *
  split
  · unfold eL
    rw [show sgnL false = [] from rfl, List.nil_append]
    have hx : (dp - 1).natAbs ≤ 400 := by omega
    have hs : (400 + (if (if dp - 1 < 0 then (45 : UInt8) else 43) = 45 then -((dv (expL (dp - 1).natAbs) : Nat) : Int) else ((dv (expL (dp - 1).natAbs) : Nat) : Int))) = 399 + dp := by
      rw [expL_dv _ hx]
      by_cases hn : dp - 1 < 0
      · rw [if_pos hn, if_pos rfl]; omega
      · rw [if_neg hn, if_neg (by decide)]; omega
    by_cases hone : nzd u = 1
    · rw [if_pos hone, List.append_nil]
      have e := textV_e1 [digD u 0] (expL (dp - 1).natAbs) (if dp - 1 < 0 then 45 else 43) (by
        refine DigL.ne (l := [digD u 0]) fun x hx => ?_
        rw [List.mem_singleton.1 hx]
        exact ⟨(dg_digit u _).1, (dg_digit u _).2.1⟩)
      rw [hs] at e
      rw [show ([digD u 0] ++ [101] ++ [if dp - 1 < 0 then (45 : UInt8) else 43] ++ expL (dp - 1).natAbs) = [digD u 0] ++ 101 :: (if dp - 1 < 0 then (45 : UInt8) else 43) :: expL (dp - 1).natAbs by simp, e]
      have := hfin (399 + dp).toNat (by omega)
      rw [hone] at this
      exact this
    · rw [if_neg hone]
      have e := textV_e [digD u 0] ((List.range (nzd u - 1)).map fun j => digD u (1 + j)) (expL (dp - 1).natAbs) (if dp - 1 < 0 then 45 else 43) (by
        refine DigL.ne (l := [digD u 0]) fun x hx => ?_
        rw [List.mem_singleton.1 hx]
        exact ⟨(dg_digit u _).1, (dg_digit u _).2.1⟩) (fun x hx => ((digL_map u (fun j => 1 + j) _).ne x hx).2)
      rw [hs] at e
      rw [show ([digD u 0] ++ (46 :: (List.range (nzd u - 1)).map fun j => digD u (1 + j)) ++ [101] ++ [if dp - 1 < 0 then (45 : UInt8) else 43] ++ expL (dp - 1).natAbs) = ([digD u 0] ++ 46 :: (List.range (nzd u - 1)).map fun j => digD u (1 + j)) ++ 101 :: (if dp - 1 < 0 then (45 : UInt8) else 43) :: expL (dp - 1).natAbs by simp, e]
      have hr := range_join (digD u) 1 (nzd u) (by omega)
      rw [show (List.range 1).map (digD u) = [digD u 0] from rfl] at hr
      rw [hr, List.length_map, List.length_range]
      exact hfin _ (by omega)
  · unfold fL
    rw [show sgnL false = [] from rfl, List.nil_append]
    by_cases hp : 0 < dp
    · rw [if_pos hp]
      by_cases hq : dp.toNat < nzd u
      · rw [if_pos hq, Nat.min_eq_right (Nat.le_of_lt hq), show dp.toNat - nzd u = 0 by omega, List.replicate_zero, List.append_nil,
          textV_p _ _ (digL_map u (fun j => j) _).ne (fun x hx => ((digL_map u (fun j => dp.toNat + j) _).ne x hx).2), range_join (digD u) _ _ (Nat.le_of_lt hq), List.length_map, List.length_range]
        exact hfin _ (by omega)
      · obtain ⟨t4, ht4⟩ : ∃ t : Nat, t = 400 := ⟨_, rfl⟩
        rw [if_neg hq, Nat.min_eq_left (by omega), List.append_nil, textV_n _ (hD.app (digL_zeros _)).ne t4 ht4, dv_app, dv_zeros, Nat.add_zero, List.length_replicate, Nat.mul_assoc, ← Nat.pow_add]
        exact hfin ((dp.toNat - nzd u) + t4) (by omega)
    · rw [if_neg hp]
      rw [show ([] ++ [48, 46] ++ List.replicate (-dp).toNat 48 ++ (List.range (nzd u)).map (digD u)) = [48] ++ 46 :: (List.replicate (-dp).toNat 48 ++ (List.range (nzd u)).map (digD u)) by simp,
        textV_p [48] _ (DigL.ne (digL_zeros 1)) (fun x hx => (((digL_zeros _).app hD).ne x hx).2), dv_app, dv_app, dv_zeros, List.length_append, List.length_replicate, List.length_map, List.length_range, show dv [48] = 0 from rfl, Nat.zero_mul, Nat.zero_mul, Nat.zero_add, Nat.zero_add]
      exact hfin _ (by omega)
/-- Bytes that a number's text has, if it is one: digits, signs, a point, an e. -/
def NumB (l : List UInt8) : Prop := ∀ x ∈ l, x ≠ 73 ∧ x ≠ 78 ∧ x ≠ 32
theorem NumB.app {a b : List UInt8} (h : NumB a) (k : NumB b) : NumB (a ++ b) := fun x hx => (List.mem_append.1 hx).elim (h x) (k x)
theorem DigL.nb {l : List UInt8} (h : DigL l) : NumB l := fun x hx => by
  have := h x hx
  exact ⟨fun e => by subst e; exact absurd this (by decide), fun e => by subst e; exact absurd this (by decide), fun e => by subst e; exact absurd this (by decide)⟩
theorem lit_nb (l : List UInt8) (h : l.all (fun b => b != 73 && (b != 78 && b != 32)) = true) : NumB l := fun x hx => by
  have := List.all_eq_true.1 h x hx
  simpa using this
theorem exp_dig (x : Nat) (h : x ≤ 400) : DigL (expL x) := by
  have hb : ∀ n : Nat, n < 10 → 48 ≤ (UInt8.ofNat (n + 48)).toNat ∧ (UInt8.ofNat (n + 48)).toNat ≤ 57 := fun n hn => by
    rw [UInt8.toNat_ofNat_of_lt' (by simp [UInt8.size]; omega)]; omega
  unfold expL
  intro b hbm
  split at hbm
  · rcases List.mem_cons.1 hbm with rfl | hbm
    · decide
    · rw [List.mem_singleton.1 hbm]; exact hb _ (by omega)
  · split at hbm
    · rcases List.mem_cons.1 hbm with rfl | hbm
      · exact hb _ (by omega)
      · rw [List.mem_singleton.1 hbm]; exact hb _ (by omega)
    · rcases List.mem_cons.1 hbm with rfl | hbm
      · exact hb _ (by omega)
      · rcases List.mem_cons.1 hbm with rfl | hbm
        · exact hb _ (by omega)
        · rw [List.mem_singleton.1 hbm]; exact hb _ (by omega)
theorem gL_sgn (neg : Bool) (u : Nat) (dp : Int) (hz : 0 < nzd u) : gL neg (digD u) (nzd u) dp = sgnL neg ++ gL false (digD u) (nzd u) dp := by
  unfold gL
  rw [if_neg (by omega), if_neg (by omega)]
  unfold efgL
  split
  · unfold eL
    rw [show sgnL false = [] from rfl, List.nil_append]
    simp only [List.append_assoc]
  · unfold fL
    rw [show sgnL false = [] from rfl]
    split <;> simp only [List.append_assoc, List.nil_append]
/-- A number's text without its sign begins with a digit; and has none of I, N. -/
theorem gL_body (u : Nat) (P : Int) (hu : 0 < u) (h1 : -347 ≤ P) (h2 : P ≤ 349) (h3 : nDig u ≤ 20) :
    NumB (gL false (digD u) (nzd u) (nDig u + P)) ∧ ∃ b l, gL false (digD u) (nzd u) (nDig u + P) = b :: l ∧ 48 ≤ b.toNat ∧ b.toNat ≤ 57 := by
  have hz := nzd_pos u hu
  have hzl : nzd u ≤ nDig u := strip_le _ _ _
  have hD : DigL ((List.range (nzd u)).map (digD u)) := digL_map u (fun j => j) _
  have h0 : DigL [digD u 0] := fun x hx => by
    rw [List.mem_singleton.1 hx]
    exact ⟨(dg_digit u _).1, (dg_digit u _).2.1⟩
  unfold gL
  rw [if_neg (by omega)]
  unfold efgL
  generalize hdp : (nDig u : Int) + P = dp at *
  split
  · unfold eL
    rw [show sgnL false = [] from rfl, List.nil_append]
    refine ⟨?_, digD u 0, _, by simp only [List.append_assoc, List.singleton_append]; rfl, (dg_digit u _).1, (dg_digit u _).2.1⟩
    refine NumB.app (NumB.app (NumB.app (h0.nb.app ?_) (lit_nb _ (by decide))) ?_) (exp_dig _ (by omega)).nb
    · split
      · exact lit_nb _ rfl
      · exact (lit_nb [46] (by decide)).app (digL_map u (fun j => 1 + j) _).nb
    · split <;> exact lit_nb _ (by decide)
  · unfold fL
    rw [show sgnL false = [] from rfl]
    split
    · refine ⟨?_, ?_⟩
      · refine NumB.app (NumB.app (NumB.app (lit_nb _ rfl) (digL_map u (fun j => j) _).nb) (digL_zeros _).nb) ?_
        split
        · exact (lit_nb [46] (by decide)).app (digL_map u (fun j => dp.toNat + j) _).nb
        · exact lit_nb _ rfl
      · obtain ⟨q, hq⟩ : ∃ q, min (nzd u) dp.toNat = q + 1 := ⟨min (nzd u) dp.toNat - 1, by omega⟩
        rw [hq, List.range_succ_eq_map, List.map_cons]
        refine ⟨digD u 0, _, by simp only [List.nil_append, List.cons_append]; rfl, (dg_digit u _).1, (dg_digit u _).2.1⟩
    · refine ⟨?_, ?_⟩
      · exact NumB.app (NumB.app (NumB.app (lit_nb _ rfl) (lit_nb _ (by decide))) (digL_zeros _).nb) hD.nb
      · exact ⟨48, _, by simp only [List.nil_append, List.cons_append]; rfl, by decide, by decide⟩

theorem containsAny_no {l : List UInt8} (h : Lib.containsAny l [46, 101, 73, 78] = false) : ∀ x ∈ l, x ≠ 46 ∧ x ≠ 101 := by
  induction l with
  | nil => intro x hx; simp at hx
  | cons b l ih =>
    unfold Lib.containsAny Lib.indexAny at h
    cases hb : ([46, 101, 73, 78] : List UInt8).contains b
    · rw [hb, if_neg Bool.false_ne_true] at h
      have hl : Lib.containsAny l [46, 101, 73, 78] = false := by
        unfold Lib.containsAny
        rw [decide_eq_false_iff_not] at h ⊢
        intro hc
        apply h
        rw [if_neg (by rw [beq_iff_eq]; omega)]
        omega
      intro x hx
      rcases List.mem_cons.1 hx with rfl | hx
      · constructor
        · rintro rfl; simp at hb
        · rintro rfl; simp at hb
      · exact ih hl x hx
    · rw [hb, if_pos rfl] at h
      simp at h
/-- A number's text with its sign. -/
def numZ (z : Nat) : List UInt8 := if Lib.containsAny (ftoaL z) [46, 101, 73, 78] then ftoaL z else ftoaL z ++ [46, 48]
def unsg : List UInt8 → Bool × List UInt8
  | [] => (false, [])
  | b :: l => if b = 45 then (true, l) else (false, b :: l)
theorem fin_parts (z r : Nat) (hr : r = z % 9223372036854775808) (h1 : 1 ≤ r) (h2 : r < 9218868437227405312) :
    fExp z ≠ 2047 ∧ fM z ≠ 0 ∧ fExp r = fExp z ∧ fM r = fM z ∧ fE r = fE z ∧ fDig z = fDig r ∧ fPt z = fPt r ∧ fExp r ≠ 2047 ∧ fM r ≠ 0 := by
  have e1 : fExp r = fExp z := by unfold fExp; omega
  have e2 : fMan r = fMan z := by unfold fMan; omega
  have e3 : fM r = fM z := by unfold fM; rw [e1, e2]
  have e4 : fE r = fE z := by unfold fE; rw [e1]
  have e5 : fExp r ≠ 2047 := by unfold fExp; omega
  have e6 : fM r ≠ 0 := by
    unfold fM
    split
    · rename_i h; unfold fExp at h; unfold fMan; omega
    · omega
  refine ⟨by rw [← e1]; exact e5, by rw [← e3]; exact e6, e1, e3, e4, ?_, ?_, e5, e6⟩
  · unfold fDig fS; rw [e3, e4]
  · unfold fPt fS; rw [e3, e4]
theorem numZ_fin (z r : Nat) (hr : r = z % 9223372036854775808) (h1 : 1 ≤ r) (h2 : r < 9218868437227405312) :
    NumB (numZ z) ∧ ∃ body, unsg (numZ z) = (fNeg z, body) ∧ textV body = valX r ∧ ∃ b l, numZ z = b :: l ∧ (b = 45 ∨ (48 ≤ b.toNat ∧ b.toNat ≤ 57)) := by
  obtain ⟨p1, p2, p3, p4, p5, p6, p7, p8, p9⟩ := fin_parts z r hr h1 h2
  obtain ⟨q1, q2, q3⟩ := fPt_bd r p8 p9
  have hv : valX r = fDig r * 10 ^ (fPt r + 400).toNat := rfl
  have hu : 0 < fDig r := by
    have := val_pos r h1 h2
    rw [hv] at this
    exact Nat.pos_of_mul_pos_right this
  have hf : ftoaL z = sgnL (fNeg z) ++ gL false (digD (fDig r)) (nzd (fDig r)) (nDig (fDig r) + fPt r) := by
    unfold ftoaL
    rw [if_neg p1, if_neg p2, p6, p7, gL_sgn _ _ _ (nzd_pos _ hu)]
  obtain ⟨nb, b, l, hbl, d1, d2⟩ := gL_body (fDig r) (fPt r) hu q1 q2 q3
  have hval := gL_val (fDig r) (fPt r) hu q1 q2 q3
  generalize gL false (digD (fDig r)) (nzd (fDig r)) (nDig (fDig r) + fPt r) = body at *
  have hus : ∀ t, unsg (sgnL (fNeg z) ++ (body ++ t)) = (fNeg z, body ++ t) := fun t => by
    cases fNeg z
    · rw [show sgnL false = [] from rfl, List.nil_append, hbl, List.cons_append]
      have h45 : ¬ b = 45 := fun e => by subst e; exact absurd d1 (by decide)
      show (if b = 45 then (true, l ++ t) else (false, b :: (l ++ t))) = _
      rw [if_neg h45]
    · rw [show sgnL true = [45] from rfl]
      simp [unsg]
  have hhd : ∀ t, ∃ b' l', sgnL (fNeg z) ++ (body ++ t) = b' :: l' ∧ (b' = 45 ∨ (48 ≤ b'.toNat ∧ b'.toNat ≤ 57)) := fun t => by
    cases fNeg z
    · exact ⟨b, l ++ t, by rw [hbl]; rfl, Or.inr ⟨d1, d2⟩⟩
    · exact ⟨45, body ++ t, rfl, Or.inl rfl⟩
  have hsn : NumB (sgnL (fNeg z)) := by cases fNeg z <;> exact lit_nb _ (by decide)
  unfold numZ
  cases hc : Lib.containsAny (ftoaL z) [46, 101, 73, 78]
  · rw [if_neg Bool.false_ne_true]
    have hno := containsAny_no hc
    rw [hf] at hno ⊢
    have hnb : ∀ x ∈ body, x ≠ 46 ∧ x ≠ 101 := fun x hx => hno x (List.mem_append.2 (Or.inr hx))
    refine ⟨(hsn.app nb).app (lit_nb _ (by decide)), body ++ [46, 48], ?_, ?_, by rw [List.append_assoc]; exact hhd _⟩
    · rw [List.append_assoc]; exact hus _
    · obtain ⟨t4, ht4⟩ : ∃ t : Nat, t = 400 := ⟨_, rfl⟩
      rw [hv, ← hval, textV_n body hnb t4 ht4, textV_p body [48] hnb (by decide), dv_app, show dv [48] = 0 from rfl, Nat.add_zero]
      have e : (400 - (([48] : List UInt8).length : Int)).toNat = t4 - 1 := by rw [ht4]; rfl
      rw [e, Nat.mul_assoc, ← Nat.pow_add]
      congr 2
      show 1 + (t4 - 1) = t4
      omega
  · rw [if_pos rfl, hf]
    refine ⟨hsn.app nb, body, ?_, ?_, by have := hhd []; rwa [List.append_nil] at this⟩
    · have := hus []
      rwa [List.append_nil] at this
    · rw [hv, ← hval]

theorem numZ_zero : numZ 0 = [48, 46, 48] := by decide +kernel
theorem numZ_nan : numZ 9221120237041090561 = [78, 97, 78] := by decide +kernel
theorem numZ_inf : numZ 9218868437227405312 = [43, 73, 110, 102] := by decide +kernel
theorem numZ_ninf : numZ 18442240474082181120 = [45, 73, 110, 102] := by decide +kernel
/-- The ways of a number that is kept. -/
def FinZ (z : Nat) : Prop := z < 18446744073709551616 ∧ 1 ≤ z % 9223372036854775808 ∧ z % 9223372036854775808 < 9218868437227405312
theorem kept_ways (x : Nat) (hx : x < 18446744073709551616) : fcanon x = 9221120237041090561 ∨ fcanon x = 0 ∨ fcanon x = 9218868437227405312 ∨ fcanon x = 18442240474082181120 ∨ FinZ (fcanon x) := by
  have e63 : (2 : Nat) ^ 63 = 9223372036854775808 := by decide
  unfold fcanon
  cases hn : fnan x
  · rw [if_neg Bool.false_ne_true]
    unfold fnan at hn
    rw [decide_eq_false_iff_not] at hn
    unfold frung at hn ⊢
    rw [e63] at hn ⊢
    split
    · exact Or.inr (Or.inl rfl)
    · refine Or.inr (Or.inr ?_)
      by_cases hi : x % 9223372036854775808 = 9218868437227405312
      · by_cases hs : x < 9223372036854775808
        · exact Or.inl (by omega)
        · exact Or.inr (Or.inl (by omega))
      · exact Or.inr (Or.inr ⟨hx, by omega, by omega⟩)
  · rw [if_pos rfl]; exact Or.inl rfl
theorem fin_ne {z : Nat} (h : FinZ z) {l : List UInt8} (hl : ¬ NumB l) : numZ z ≠ l := fun e => hl (e ▸ (numZ_fin z _ rfl h.2.1 h.2.2).1)
theorem fin_ne0 {z : Nat} (h : FinZ z) : numZ z ≠ [48, 46, 48] := fun e => by
  obtain ⟨_, body, h2, h3, _⟩ := numZ_fin z _ rfl h.2.1 h.2.2
  have hp := val_pos _ h.2.1 h.2.2
  rw [e] at h2
  have hb : body = [48, 46, 48] := (congrArg Prod.snd h2).symm
  rw [hb, show ([48, 46, 48] : List UInt8) = [48] ++ 46 :: [48] from rfl, textV_p [48] [48] (by decide) (by decide), show dv ([48] ++ [48]) = 0 from rfl, Nat.zero_mul] at h3
  omega
theorem fin_eq {z t : Nat} (hz : FinZ z) (ht : FinZ t) (h : numZ z = numZ t) : z = t := by
  obtain ⟨_, b1, z2, z3, _⟩ := numZ_fin z _ rfl hz.2.1 hz.2.2
  obtain ⟨_, b2, t2, t3, _⟩ := numZ_fin t _ rfl ht.2.1 ht.2.2
  rw [h, t2] at z2
  injection z2 with e1 e2
  have := val_inj _ _ hz.2.1 hz.2.2 ht.2.1 ht.2.2 (by rw [← z3, ← t3, e2])
  have h1 := hz.1
  have h2 := ht.1
  unfold fNeg at e1
  by_cases hs : 9223372036854775808 ≤ z
  · rw [decide_eq_true hs] at e1
    have := of_decide_eq_true e1
    omega
  · rw [decide_eq_false hs] at e1
    have := of_decide_eq_false e1
    omega
/-- Numbers that have one text are kept alike. -/
theorem num_inj (x y : Nat) (hx : x < 18446744073709551616) (hy : y < 18446744073709551616) (h : numL x = numL y) : fcanon x = fcanon y := by
  have h' : numZ (fcanon x) = numZ (fcanon y) := h
  have nI : ¬ NumB [43, 73, 110, 102] := fun h => (h 73 (by decide)).1 rfl
  have nJ : ¬ NumB [45, 73, 110, 102] := fun h => (h 73 (by decide)).1 rfl
  have nN : ¬ NumB [78, 97, 78] := fun h => (h 78 (by decide)).2.1 rfl
  rcases kept_ways x hx with e | e | e | e | e <;> rcases kept_ways y hy with f | f | f | f | f
  all_goals first
    | exact fin_eq e f h'
    | (rw [e, f]; done)
    | (rw [e] at h'; first | rw [numZ_zero] at h' | rw [numZ_nan] at h' | rw [numZ_inf] at h' | rw [numZ_ninf] at h')
    | skip
  all_goals first
    | (rw [f] at h'; first | rw [numZ_zero] at h' | rw [numZ_nan] at h' | rw [numZ_inf] at h' | rw [numZ_ninf] at h')
    | skip
  all_goals first
    | exact absurd h' (by decide)
    | exact absurd h' (fin_ne e nI)
    | exact absurd h' (fin_ne e nJ)
    | exact absurd h' (fin_ne e nN)
    | exact absurd h' (fin_ne0 e)
    | exact absurd h'.symm (fin_ne f nI)
    | exact absurd h'.symm (fin_ne f nJ)
    | exact absurd h'.symm (fin_ne f nN)
    | exact absurd h'.symm (fin_ne0 f)
end Go.Proofs.YtfffmndjgjfflaaGreatDoor
