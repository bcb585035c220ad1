/- strconv.FormatFloat at 'g', -1, 64, in general. -/
import Derived.Test.YtjeippdfgojdnaaGreatDoorEfg0
import Derived.Deep.RegionWith
import Derived.Laws.BitsLemmas
import Derived.Laws.Bits64b
import Derived.Lib.ItoaNum
namespace Go.Proofs.YtjeippdfgojdnaaGreatDoor
open Go.RowKit
set_option maxRecDepth 100000

theorem callBits (x : Nat) (w : World) : (callFunc 124 #[.float .f64 x]).run Tryz.prog w = .ok (.value (.int .u64 x)) w := by
  have h : (callFunc 124 #[.float .f64 x]).run Tryz.prog w = .ok (.value (.int .u64 x)) w := by kernel_rfl
  exact h
attribute [local go_sem] callBits

/-! ### Plainly -/
def fExp (x : Nat) : Nat := x / 4503599627370496 % 2048
def fMan (x : Nat) : Nat := x % 4503599627370496
def fNeg (x : Nat) : Bool := decide (9223372036854775808 ≤ x)
/-- The mantissa with its leading bit, and the exponent. -/
def fM (x : Nat) : Nat := if fExp x = 0 then fMan x else fMan x + 4503599627370496
def fE (x : Nat) : Int := if fExp x = 0 then -1022 else (fExp x : Int) - 1023
/-- The digits, and where the point stands. -/
def fS (x : Nat) : Nat := 64 - Lib.bitLen (fM x)
def fDig (x : Nat) : Nat := (shortD (fM x * 2 ^ fS x) (fE x - fS x - 52)).toNat
def fPt (x : Nat) : Int := shortP (fM x * 2 ^ fS x) (fE x - fS x - 52)
def digD (u : Nat) (j : Nat) : UInt8 := Lib.dg u (nDig u - 1 - j)
/-- A number's text by FormatFloat(x, 'g', -1, 64). -/
def ftoaL (x : Nat) : List UInt8 :=
  if fExp x = 2047 then (if fMan x ≠ 0 then [78, 97, 78] else if fNeg x then [45, 73, 110, 102] else [43, 73, 110, 102])
  else if fM x = 0 then sgnL (fNeg x) ++ [48]
  else gL (fNeg x) (digD (fDig x)) (nzd (fDig x)) (nDig (fDig x) + fPt x)

theorem fM_lt (x : Nat) : fM x < 9007199254740992 := by
  unfold fM fMan; split <;> omega
theorem fE_bd (x : Nat) (h : fExp x ≠ 2047) : -1022 ≤ fE x ∧ fE x ≤ 1023 := by
  have : fExp x < 2048 := by unfold fExp; omega
  unfold fE; split <;> omega
theorem exp_bits (x : Nat) (hx : x < 18446744073709551616) : bits BinOp.and IntKind.i64 ((x : Int) / 4503599627370496) 2047 = ((fExp x : Nat) : Int) := by
  have h := bits_mask .i64 63 (by decide) (fun n h0 h1 => by rw [show (2 : Int) ^ 63 = 9223372036854775808 from rfl] at h1; rw [IntKind.wrap_i64]; omega) 11 (by decide) ((x : Int) / 4503599627370496) (by omega) (by rw [show (2 : Int) ^ 63 = 9223372036854775808 from rfl]; omega)
  rw [show ((2 : Int) ^ 11 - 1) = 2047 from by decide, show ((2 : Int) ^ 11) = 2048 from by decide] at h
  rw [h]; unfold fExp; omega
theorem man_bits (x : Nat) (hx : x < 18446744073709551616) : bits BinOp.and IntKind.u64 (x : Int) 4503599627370495 = ((fMan x : Nat) : Int) := by
  have h := bits_and_u64_nat x 4503599627370495 hx (by decide)
  rw [show ((4503599627370495 : Nat) : Int) = 4503599627370495 from rfl] at h
  rw [h, show (4503599627370495 : Nat) = 2 ^ 52 - 1 from by decide, Nat.and_two_pow_sub_one_eq_mod]; rfl
theorem top_bits (a : Nat) (h : a < 4503599627370496) : bits BinOp.or IntKind.u64 (a : Int) 4503599627370496 = ((a + 4503599627370496 : Nat) : Int) := by
  have h1 := bits_or_u64_nat a 4503599627370496 (by omega) (by decide)
  rw [show ((4503599627370496 : Nat) : Int) = 4503599627370496 from rfl] at h1
  rw [h1]
  have := Nat.two_pow_add_eq_or_of_lt (i := 52) (b := a) h 1
  rw [Nat.mul_one] at this
  rw [Nat.or_comm, show (4503599627370496 : Nat) = 2 ^ 52 from by decide, ← this, Nat.add_comm]
theorem neg_bits (x : Nat) : ((x : Int) / 9223372036854775808 != 0) = fNeg x := by
  unfold fNeg
  by_cases h : 9223372036854775808 ≤ x
  · rw [decide_eq_true h]; simp; omega
  · rw [decide_eq_false h]; simp; omega
theorem bl_bd (M : Nat) (h : M ≠ 0) (h2 : M < 9007199254740992) : 1 ≤ Lib.bitLen M ∧ Lib.bitLen M ≤ 53 ∧ M * 2 ^ (64 - Lib.bitLen M) < 18446744073709551616 := by
  have h1 := Lib.bitLenAux_bounds 64 M (by omega) h
  have h3 : Lib.bitLen M ≤ 53 := Lib.bitLen_le M 53 (by decide) h2
  refine ⟨h1.1, h3, ?_⟩
  have h4 : M < 2 ^ Lib.bitLen M := h1.2.2
  have h5 : 0 < 2 ^ (64 - Lib.bitLen M) := Nat.two_pow_pos _
  have h6 := Nat.mul_lt_mul_of_pos_right h4 h5
  rw [← Nat.pow_add, show Lib.bitLen M + (64 - Lib.bitLen M) = 64 by omega] at h6
  exact h6
theorem shortP_bd (m : Nat) (e : Int) (h1 : -1137 ≤ e) (h2 : e ≤ 960) : -347 ≤ shortP m e ∧ shortP m e ≤ 349 := by
  have := (sfI_lt m e h1 h2).1
  unfold shortP sfP
  split <;> omega
theorem ownBuf_on' {B : Nat} {e : TypeId} {v : Value} {n : Nat} {xs : List Value} {W0 w w' : World} (h : Lib.OwnBuf B e v n xs W0 w) (hb : Below w.heap.size w w') : Lib.OwnBuf B e v n xs W0 w' := by
  obtain ⟨⟨hl, ho⟩, h2, h3⟩ := h
  refine ⟨⟨hl, ?_⟩, h2.trans (hb.mono h3), Nat.le_trans h3 hb.size⟩
  rcases ho with ho | ⟨g, cap, cur, fz, hv, hg, hh, r⟩
  · exact .inl ho
  · refine .inr ⟨g, cap, cur, fz, hv, hg, ?_, r⟩
    have hlt : g < w.heap.size := by
      rcases Nat.lt_or_ge g w.heap.size with h | h
      · exact h
      · rw [Array.getElem?_eq_none h] at hh; cases hh
    rw [hb.block g hlt]; exact hh

set_option maxHeartbeats 8000000 in
theorem ftoa_c (B : Nat) (v : Value) (W0 w : World) (x : Nat) (hx : x < 18446744073709551616) (hT : Tabs w) (hg : 14 < w.heap.size) (hb : Lib.OwnBuf B 5 v 0 [] W0 w) :
    Calls Tryz.prog 112 #[v, .float .f64 x, .int .u8 103, .int .i64 (-1)] w fun e w' =>
      ∃ v', e = .returned v' ∧ Lib.OwnBuf B 5 v' (ftoaL x).length ((ftoaL x).map u8e) W0 w' := by
  obtain ⟨i0, hi, hz0, hz1, hz2⟩ := infoU8'
  have hw : ∀ n : Nat, Tabs ((w.drewN n).alloc (.cells (Array.replicate 32 (.int .u8 0)) 149)) := fun n => (hT.drew n).on ((Below.refl _ _).alloc (Nat.le_refl _) _)
  have e1 := exp_bits x hx
  have e2 := man_bits x hx
  have e3 := neg_bits x
  obtain ⟨ng, hng⟩ : ∃ ng, ng = fNeg x := ⟨_, rfl⟩
  rw [← hng] at e3
  by_cases h47 : fExp x = 2047
  · have hL : ftoaL x = if fMan x ≠ 0 then [78, 97, 78] else if ng then [45, 73, 110, 102] else [43, 73, 110, 102] := by unfold ftoaL; rw [if_pos h47, hng]
    rw [h47] at e1
    rw [show (((2047 : Nat)) : Int) = 2047 from rfl] at e1
    by_cases hm : fMan x = 0
    · rw [hm] at e2
      rw [show (((0 : Nat)) : Int) = 0 from rfl] at e2
      cases ng
      all_goals
        rw [hL, if_neg (by simp [hm])]
        clear hL hng h47 hm
        go_enter Tryz.func112, Tryz.ntmps112
        go_wp2_with fail
        go_quiet (fail)
        have hbq := hb.drewN nq
        go_wp2_with (at_builtin; refine Lib.wpList_append_text rfl _ _ 104 9 rfl B 5 i0 Tryz.underlying104 Tryz.underlying9 hi hz0 hz1 hz2 _ _ _ rfl W0 hbq _ rfl (by decide) ?_; intro v1 w1 hb1)
        go_ret
        exact ⟨_, rfl, hb1⟩
    · have hm2 : ((fMan x : Int) != 0) = true := by simp; omega
      rw [hL, if_pos hm]
      clear hL hng h47 hm
      generalize fMan x = mn at *
      go_enter Tryz.func112, Tryz.ntmps112
      go_wp2_with fail
      go_quiet (fail)
      have hbq := hb.drewN nq
      go_wp2_with (at_builtin; refine Lib.wpList_append_text rfl _ _ 104 9 rfl B 5 i0 Tryz.underlying104 Tryz.underlying9 hi hz0 hz1 hz2 _ _ _ rfl W0 hbq _ rfl (by decide) ?_; intro v1 w1 hb1)
      go_ret
      exact ⟨_, rfl, hb1⟩
  have h47b : (((fExp x : Nat) : Int) == 2047) = false := by simp; omega
  have hE := fE_bd x h47
  have hM := fM_lt x
  have hlt : fMan x < 4503599627370496 := by unfold fMan; omega
  have e4 := top_bits (fMan x) hlt
  have hL : ftoaL x = if fM x = 0 then sgnL ng ++ [48] else gL ng (digD (fDig x)) (nzd (fDig x)) (nDig (fDig x) + fPt x) := by unfold ftoaL; rw [if_neg h47, hng]
  by_cases hM0 : fM x = 0
  · have hx0 : fExp x = 0 := by unfold fM at hM0; split at hM0 <;> omega
    have hm0 : fMan x = 0 := by unfold fM at hM0; rw [if_pos hx0] at hM0; exact hM0
    rw [hL, if_pos hM0]
    rw [hx0, show (((0 : Nat)) : Int) = 0 from rfl] at e1
    rw [hm0, show (((0 : Nat)) : Int) = 0 from rfl] at e2
    clear hL h47 h47b hE hM hlt e4 hM0 hx0 hm0 hng
    go_enter Tryz.func112, Tryz.ntmps112
    go_wp2_with fail
    go_quiet (fail)
    have hbq := hb.drewN nq
    go_wp2_with fail
    refine (efgZero_c B v W0 _ ng hbq).mono ?_
    rintro e w1 ⟨v', rfl, hb1⟩
    go_wp2_with fail
    go_ret
    exact ⟨_, rfl, hb1⟩
  rw [hL, if_neg hM0]
  obtain ⟨b1, b2, b3⟩ := bl_bd (fM x) hM0 hM
  obtain ⟨M, hMd⟩ : ∃ M, M = fM x := ⟨_, rfl⟩
  obtain ⟨bl, hbl⟩ : ∃ bl, bl = Lib.bitLen M := ⟨_, rfl⟩
  have hlen : ∀ W, Calls Tryz.prog 107 #[.int .u64 (M : Int)] W fun e w' => e = .returned (.int .i64 bl) ∧ w' = W := fun W => by
    have := Tryz.bits_Len64 (M : Int) W (by omega) (by omega)
    rw [show (M : Int).toNat = M from rfl, ← hbl] at this
    exact this
  rw [← hMd, ← hbl] at b1 b2 b3
  rw [← hMd] at hM hM0
  have hx0 : (fExp x = 0 ∧ M = fMan x ∧ fE x = -1022) ∨ ((((fExp x : Nat) : Int) == 0) = false ∧ M = fMan x + 4503599627370496 ∧ fE x = (fExp x : Int) - 1023) := by
    rw [hMd]; unfold fM fE
    by_cases h : fExp x = 0
    · exact Or.inl ⟨h, by rw [if_pos h], by rw [if_pos h]⟩
    · exact Or.inr ⟨by simp; omega, by rw [if_neg h], by rw [if_neg h]⟩
  obtain ⟨E, hEd⟩ : ∃ E, E = fE x := ⟨_, rfl⟩
  have hm2 : ((M : Int) == 0) = false := by simp; omega
  have hq1 : fS x = 64 - bl := by unfold fS; rw [← hMd, hbl]
  obtain ⟨sh, hsh⟩ : ∃ sh, sh = 64 - bl := ⟨_, rfl⟩
  have hshz : (64 : Int) - (bl : Int) = (sh : Int) := by omega
  have hs1 : 11 ≤ sh := by omega
  have hs2 : sh ≤ 63 := by omega
  rw [← hsh] at b3 hq1
  obtain ⟨m, hm⟩ : ∃ m, m = M * 2 ^ sh := ⟨_, rfl⟩
  rw [← hm] at b3
  rw [← hEd] at hE hx0
  obtain ⟨d, hd⟩ : ∃ d, d = fDig x := ⟨_, rfl⟩
  obtain ⟨pt, hpt⟩ : ∃ pt, pt = fPt x := ⟨_, rfl⟩
  have hD : shortD m (E - sh - 52) = (d : Int) := by
    have h1 := sfD_bd m (sfMn m (E - sh - 52)) (sfMx m (E - sh - 52)) (sfI m (E - sh - 52)) (sfS m (E - sh - 52)) (sfOd m (E - sh - 52))
    have h2 : d = (shortD m (E - sh - 52)).toNat := by rw [hd]; unfold fDig; rw [hq1, ← hMd, ← hEd, hm]
    unfold shortD at h2 ⊢
    omega
  have hdl : d < 18446744073709551616 := by
    have h1 := sfD_bd m (sfMn m (E - sh - 52)) (sfMx m (E - sh - 52)) (sfI m (E - sh - 52)) (sfS m (E - sh - 52)) (sfOd m (E - sh - 52))
    unfold shortD at hD
    omega
  have hP : shortP m (E - sh - 52) = pt := by rw [hpt]; unfold fPt; rw [hq1, ← hMd, ← hEd, hm]
  have hPb := shortP_bd m (E - sh - 52) (by omega) (by omega)
  rw [hP] at hPb
  have hSF : ∀ W, Tabs W → 14 < W.heap.size → Calls Tryz.prog 134 #[.int .u64 m, .int .i64 (E - sh - 52)] W fun e' w' => e' = .returned (.tuple #[.int .u64 d, .int .i64 pt]) ∧ Below W.heap.size W w' := fun W h1 h2 => by
    have := shortFloat_c m (E - sh - 52) W h1 b3 (by omega) (by omega) h2
    rw [hD, hP] at this
    exact this
  rw [← hd, ← hpt]
  have HLN := Lib.hid hlen
  have HSF := Lib.hid hSF
  have hshl : (M : Int) * 2 ^ sh = (m : Int) := by rw [hm]; simp
  clear hL hlen h47 hng hMd hbl hlt hD hP hq1 hd hpt hSF hM hm hsh b2 hEd
  rcases hx0 with ⟨hx0, hMe, hEe⟩ | ⟨hx0, hMe, hEe⟩
  · rw [hx0, show (((0 : Nat)) : Int) = 0 from rfl] at e1
    rw [← hMe] at e2
    subst hEe
    clear e4 hMe hx0 hM0 h47b
    go_enter Tryz.func112, Tryz.ntmps112
    go_wp2_with fail
    go_quiet (fail)
    go_wp2_with fail
    refine (HLN.out _).mono ?_
    rintro e w' ⟨rfl, rfl⟩
    go_wp2_with fail
    refine (HSF.out _ (hw nq) (by simp; omega)).mono ?_
    rintro e w1 ⟨rfl, hb1⟩
    go_wp2_with fail
    have hz : Sort.Holds u8e w1.drew w.heap.size 0 (Array.replicate (nDig d) 0) := by
      intro j hj
      have hj' : j < 32 := by
        have h20 := nDig_le d hdl
        have : j < nDig d := by simpa using hj
        omega
      have e1 : w1.cell? ⟨w.heap.size, 0 + j, none⟩ = some (.int .u8 0) := by
        rw [hb1.cell (p := ⟨w.heap.size, 0 + j, none⟩) (by simp), show w.heap.size = (w.drewN nq).heap.size from rfl, World.cell?_alloc_new]
        rw [Array.getElem?_eq_getElem (by rw [Array.size_replicate]; omega), Array.getElem_replicate]
      have e2 : w1.frozen? ⟨w.heap.size, 0 + j, none⟩ = false := by
        rw [hb1.frozen (p := ⟨w.heap.size, 0 + j, none⟩) (by simp), show w.heap.size = (w.drewN nq).heap.size from rfl]
        exact World.frozen?_alloc_new _ _ _ _
      refine ⟨?_, e2⟩
      rw [getElem!_pos _ j hj, Array.getElem_replicate]
      exact e1
    have hrow : w1.drew.heap[w.heap.size]? = some (.cells (Array.replicate 32 (.int .u8 0)) 149 (0, 0)) := by
      show w1.heap[w.heap.size]? = _
      rw [hb1.block _ (by simp)]
      show (w.heap.push _)[w.heap.size]? = _
      rw [Array.getElem?_push_size]
    have hT1 : Tabs w1.drew := ((hw nq).on hb1).drew 1
    have cS := setDigits_c w.heap.size d pt hdl (by omega) (by omega) _ hz
    have cN := numDigits_c d hdl _ hT1
    have hB : Below w.heap.size w w1 := ((drewN_below _ w nq).trans ((Below.refl _ _).alloc (Nat.le_refl _) _)).trans (hb1.mono (by simp))
    have CS := Lib.hid cS; have CN := Lib.hid cN; have HB := Lib.hid hB; have H1 := Lib.hid hb1; have HROW := Lib.hid hrow; clear cS cN hB hb1 hz hT1 hw hrow
    have hn20 := nDig_le d hdl
    have hnz : nzd d ≤ nDig d := strip_le _ _ _
    go_region_with (first | (go_at_call 97; refine CN.out.mono ?_; rintro e w' ⟨rfl, rfl⟩) | (go_at_call 129; refine CS.out.mono ?_; rintro e w2 ⟨rfl, hc, hb2, hst⟩))
    go_wp2_with fail
    obtain ⟨cur, hcsz, hcur⟩ := hst _ _ _ HROW.out
    have hE0 : EfgI B w.heap.size cur (0, 0) v [] W0 w2 := ⟨ownBuf_on' hb (HB.out.drew.trans hb2), hcur⟩
    refine (efg_c B w.heap.size cur (0, 0) v W0 w2 ng (digD d) (nzd d) ((nDig d : Int) + pt) hE0 (fun j hj => ?_) (by omega) (by omega) (by omega)).mono ?_
    · rw [← hE0.cell]; exact hc j (by omega)
    rintro e w3 ⟨v', rfl, hb4⟩
    go_wp2_with fail
    go_ret
    have hb5 := hb4.own
    rw [List.length_map] at hb5
    exact ⟨_, rfl, hb5⟩
  · rw [← hMe] at e4
    subst hEe
    clear hMe hM0
    go_enter Tryz.func112, Tryz.ntmps112
    go_wp2_with fail
    go_quiet (fail)
    go_wp2_with fail
    refine (HLN.out _).mono ?_
    rintro e w' ⟨rfl, rfl⟩
    go_wp2_with fail
    refine (HSF.out _ (hw nq) (by simp; omega)).mono ?_
    rintro e w1 ⟨rfl, hb1⟩
    go_wp2_with fail
    have hz : Sort.Holds u8e w1.drew w.heap.size 0 (Array.replicate (nDig d) 0) := by
      intro j hj
      have hj' : j < 32 := by
        have h20 := nDig_le d hdl
        have : j < nDig d := by simpa using hj
        omega
      have e1 : w1.cell? ⟨w.heap.size, 0 + j, none⟩ = some (.int .u8 0) := by
        rw [hb1.cell (p := ⟨w.heap.size, 0 + j, none⟩) (by simp), show w.heap.size = (w.drewN nq).heap.size from rfl, World.cell?_alloc_new]
        rw [Array.getElem?_eq_getElem (by rw [Array.size_replicate]; omega), Array.getElem_replicate]
      have e2 : w1.frozen? ⟨w.heap.size, 0 + j, none⟩ = false := by
        rw [hb1.frozen (p := ⟨w.heap.size, 0 + j, none⟩) (by simp), show w.heap.size = (w.drewN nq).heap.size from rfl]
        exact World.frozen?_alloc_new _ _ _ _
      refine ⟨?_, e2⟩
      rw [getElem!_pos _ j hj, Array.getElem_replicate]
      exact e1
    have hrow : w1.drew.heap[w.heap.size]? = some (.cells (Array.replicate 32 (.int .u8 0)) 149 (0, 0)) := by
      show w1.heap[w.heap.size]? = _
      rw [hb1.block _ (by simp)]
      show (w.heap.push _)[w.heap.size]? = _
      rw [Array.getElem?_push_size]
    have hT1 : Tabs w1.drew := ((hw nq).on hb1).drew 1
    have cS := setDigits_c w.heap.size d pt hdl (by omega) (by omega) _ hz
    have cN := numDigits_c d hdl _ hT1
    have hB : Below w.heap.size w w1 := ((drewN_below _ w nq).trans ((Below.refl _ _).alloc (Nat.le_refl _) _)).trans (hb1.mono (by simp))
    have CS := Lib.hid cS; have CN := Lib.hid cN; have HB := Lib.hid hB; have H1 := Lib.hid hb1; have HROW := Lib.hid hrow; clear cS cN hB hb1 hz hT1 hw hrow
    have hn20 := nDig_le d hdl
    have hnz : nzd d ≤ nDig d := strip_le _ _ _
    go_region_with (first | (go_at_call 97; refine CN.out.mono ?_; rintro e w' ⟨rfl, rfl⟩) | (go_at_call 129; refine CS.out.mono ?_; rintro e w2 ⟨rfl, hc, hb2, hst⟩))
    go_wp2_with fail
    obtain ⟨cur, hcsz, hcur⟩ := hst _ _ _ HROW.out
    have hE0 : EfgI B w.heap.size cur (0, 0) v [] W0 w2 := ⟨ownBuf_on' hb (HB.out.drew.trans hb2), hcur⟩
    refine (efg_c B w.heap.size cur (0, 0) v W0 w2 ng (digD d) (nzd d) ((nDig d : Int) + pt) hE0 (fun j hj => ?_) (by omega) (by omega) (by omega)).mono ?_
    · rw [← hE0.cell]; exact hc j (by omega)
    rintro e w3 ⟨v', rfl, hb4⟩
    go_wp2_with fail
    go_ret
    have hb5 := hb4.own
    rw [List.length_map] at hb5
    exact ⟨_, rfl, hb5⟩
end Go.Proofs.YtjeippdfgojdnaaGreatDoor
