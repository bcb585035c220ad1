/- internal/strconv.shortFloat at float64, the ways through it brought together. -/
import Derived.Test.YthkkdikfbagijaaGreatDoorSf
import Derived.Lib.RabinKarpLaws
import Derived.IntWalk
namespace Go.Proofs.YthkkdikfbagijaaGreatDoor
open Go.RowKit
set_option maxRecDepth 100000

def sfA? (m : Nat) (e : Int) : Bool := ((m : Int) == 9223372036854775808) && decide (-1085 < e)
def sfPow (m : Nat) (e : Int) : Int := if sfA? m e then -skew (e + 11) else if -1085 ≤ e then -lgTen (e + 11) else -lgTen (e + (11 + (-1085 - e)))
def sfI (m : Nat) (e : Int) : Nat := (sfPow m e + 348).toNat
def sfS (m : Nat) (e : Int) : Nat := (-(e + lgTwo (sfPow m e) + 3)).toNat
def sfLo (m : Nat) (e : Int) : Int := if sfA? m e then ↑m - 512 else if -1085 ≤ e then ↑m - 1024 else ↑m - IntKind.u64.wrap (2 ^ ((11 + (-1085 - e)).toNat - 1))
def sfHi (m : Nat) (e : Int) : Int := if sfA? m e then ↑m + 1024 else if -1085 ≤ e then ↑m + 1024 else ↑m + IntKind.u64.wrap (2 ^ ((11 + (-1085 - e)).toNat - 1))
def sfOd (m : Nat) (e : Int) : Nat := if -1085 ≤ e then m / 2048 % 2 else m / 2 ^ (11 + (-1085 - e)).toNat % 2
def sfMn (m : Nat) (e : Int) : Nat := (IntKind.u64.wrap (sfLo m e)).toNat
def sfMx (m : Nat) (e : Int) : Nat := (IntKind.u64.wrap (sfHi m e)).toNat
def shortD (m : Nat) (e : Int) : Int := sfD m (sfMn m e) (sfMx m e) (sfI m e) (sfS m e) (sfOd m e)
def shortP (m : Nat) (e : Int) : Int := sfP (sfMn m e) (sfMx m e) (sfI m e) (sfS m e) (sfOd m e)

theorem sfD_bd (m mn mx i s : Nat) (od : Int) : 0 ≤ sfD m mn mx i s od ∧ sfD m mn mx i s od < 4611686018427387904 := by
  have h1 : 0 ≤ sfMin mn i s od ∧ sfMin mn i s od < 4611686018427387904 := ceilF_bd _
  have h2 : 0 ≤ sfMax mx i s od ∧ sfMax mx i s od < 4611686018427387904 := floorF_bd _
  have h3 : 0 ≤ sfMid m i s ∧ sfMid m i s < 4611686018427387904 := roundF_bd _
  unfold sfD
  split
  · omega
  · split
    · exact h3
    · exact h1
theorem sfPow_bd (m : Nat) (e : Int) (h1 : -1137 ≤ e) (h2 : e ≤ 960) : -348 ≤ sfPow m e ∧ sfPow m e ≤ 347 ∧ 0 ≤ -(e + lgTwo (sfPow m e) + 3) ∧ -(e + lgTwo (sfPow m e) + 3) < 64 := by
  unfold sfPow sfA?
  cases hm : ((m : Int) == 9223372036854775808)
  · simp only [Bool.false_and, Bool.false_eq_true, if_false]
    unfold lgTwo lgTen
    split <;> omega
  · simp only [Bool.true_and, decide_eq_true_eq]
    unfold lgTwo lgTen skew
    split
    · omega
    · split <;> omega
theorem sfI_lt (m : Nat) (e : Int) (h1 : -1137 ≤ e) (h2 : e ≤ 960) : sfI m e < 696 ∧ ((sfI m e : Nat) : Int) - 348 = sfPow m e := by
  have := sfPow_bd m e h1 h2; unfold sfI; omega
theorem sfS_lt (m : Nat) (e : Int) (h1 : -1137 ≤ e) (h2 : e ≤ 960) : sfS m e < 64 ∧ -(e + lgTwo (((sfI m e : Nat) : Int) - 348) + 3) = ((sfS m e : Nat) : Int) := by
  have := sfPow_bd m e h1 h2
  rw [(sfI_lt m e h1 h2).2]; unfold sfS; omega
theorem and_one' (k : Nat) (h : k < 9223372036854775808) : bits BinOp.and IntKind.i64 (wrap64 (k : Int)) 1 = ((k % 2 : Nat) : Int) := by
  rw [show wrap64 (k : Int) = (k : Int) from IntWalk.wrap64_in _ ⟨by omega, by omega⟩]
  exact Go.Proofs.and_one k h

set_option maxHeartbeats 400000 in
theorem shortFloat_c (m : Nat) (e : Int) (w : World) (hT : Tabs w) (hm : m < 18446744073709551616) (h1 : -1137 ≤ e) (h2 : e ≤ 960) (hg : 20 < w.heap.size) :
    Calls Tryz.prog 87 #[.int .u64 m, .int .i64 e] w fun e' w' => e' = .returned (.tuple #[.int .u64 (shortD m e), .int .i64 (shortP m e)]) ∧ Below w.heap.size w w' := by
  obtain ⟨hp1, hp2, _, _⟩ := sfPow_bd m e h1 h2
  obtain ⟨hi, hi'⟩ := sfI_lt m e h1 h2
  obtain ⟨hs, hs'⟩ := sfS_lt m e h1 h2
  have bn := u64_bd (sfLo m e)
  have bx := u64_bd (sfHi m e)
  have hn : IntKind.u64.wrap (sfLo m e) = ((sfMn m e : Nat) : Int) := by unfold sfMn; omega
  have hx : IntKind.u64.wrap (sfHi m e) = ((sfMx m e : Nat) : Int) := by unfold sfMx; omega
  have hnl : sfMn m e < 18446744073709551616 := by unfold sfMn; omega
  have hxl : sfMx m e < 18446744073709551616 := by unfold sfMx; omega
  have ho : (((sfOd m e : Nat) : Int)) ≤ 1 := by unfold sfOd; split <;> omega
  have hw : wrap64 (sfPow m e) = ((sfI m e : Nat) : Int) - 348 := by
    rw [hi']; exact IntWalk.wrap64_in _ ⟨by omega, by omega⟩
  by_cases he : -1085 ≤ e
  · have hod : bits BinOp.and IntKind.i64 (wrap64 ((m : Int) / 2048)) 1 = ((sfOd m e : Nat) : Int) := by
      rw [show (m : Int) / 2048 = ((m / 2048 : Nat) : Int) from by omega, and_one' _ (by omega)]
      unfold sfOd; rw [if_pos he]
    cases h63 : ((m : Int) == 9223372036854775808)
    · have ea : sfA? m e = false := by unfold sfA?; rw [h63, Bool.false_and]
      have e1 : sfPow m e = -lgTen (e + 11) := by unfold sfPow; rw [ea, if_neg Bool.false_ne_true, if_pos he]
      have e2 : sfLo m e = ↑m - 1024 := by unfold sfLo; rw [ea, if_neg Bool.false_ne_true, if_pos he]
      have e3 : sfHi m e = ↑m + 1024 := by unfold sfHi; rw [ea, if_neg Bool.false_ne_true, if_pos he]
      exact sfB m _ _ _ _ e _ w hT hm hnl hxl hi hs h1 h2 h63 he (by rw [← e1]; exact hw) (by rw [← e2]; exact hn) (by rw [← e3]; exact hx) hod (Int.natCast_nonneg _) ho hs' hg
    · by_cases hlt : -1085 < e
      · have ea : sfA? m e = true := by unfold sfA?; rw [h63, decide_eq_true hlt, Bool.true_and]
        have e1 : sfPow m e = -skew (e + 11) := by unfold sfPow; rw [ea, if_pos rfl]
        have e2 : sfLo m e = ↑m - 512 := by unfold sfLo; rw [ea, if_pos rfl]
        have e3 : sfHi m e = ↑m + 1024 := by unfold sfHi; rw [ea, if_pos rfl]
        exact sfA m _ _ _ _ e _ w hT hm hnl hxl hi hs h1 h2 h63 hlt (by rw [← e1]; exact hw) (by rw [← e2]; exact hn) (by rw [← e3]; exact hx) hod (Int.natCast_nonneg _) ho hs' hg
      · have ea : sfA? m e = false := by unfold sfA?; rw [decide_eq_false hlt, Bool.and_false]
        have e1 : sfPow m e = -lgTen (e + 11) := by unfold sfPow; rw [ea, if_neg Bool.false_ne_true, if_pos he]
        have e2 : sfLo m e = ↑m - 1024 := by unfold sfLo; rw [ea, if_neg Bool.false_ne_true, if_pos he]
        have e3 : sfHi m e = ↑m + 1024 := by unfold sfHi; rw [ea, if_neg Bool.false_ne_true, if_pos he]
        exact sfB2 m _ _ _ _ e _ w hT hm hnl hxl hi hs h1 h2 h63 he (decide_eq_false hlt) (by rw [← e1]; exact hw) (by rw [← e2]; exact hn) (by rw [← e3]; exact hx) hod (Int.natCast_nonneg _) ho hs' hg
  · have ea : sfA? m e = false := by unfold sfA?; rw [decide_eq_false (by omega : ¬ -1085 < e), Bool.and_false]
    have e1 : sfPow m e = -lgTen (e + (11 + (-1085 - e))) := by unfold sfPow; rw [ea, if_neg Bool.false_ne_true, if_neg he]
    have e2 : sfLo m e = ↑m - IntKind.u64.wrap (2 ^ ((11 + (-1085 - e)).toNat - 1)) := by unfold sfLo; rw [ea, if_neg Bool.false_ne_true, if_neg he]
    have e3 : sfHi m e = ↑m + IntKind.u64.wrap (2 ^ ((11 + (-1085 - e)).toNat - 1)) := by unfold sfHi; rw [ea, if_neg Bool.false_ne_true, if_neg he]
    have hod : bits BinOp.and IntKind.i64 (wrap64 ((m : Int) / 2 ^ (11 + (-1085 - e)).toNat)) 1 = ((sfOd m e : Nat) : Int) := by
      have hz : m / 2 ^ (11 + (-1085 - e)).toNat < 9223372036854775808 := by
        have h2p : 2 ≤ 2 ^ (11 + (-1085 - e)).toNat := by
          have := Nat.pow_le_pow_right (n := 2) (by decide) (show 1 ≤ (11 + (-1085 - e)).toNat by omega)
          omega
        refine Nat.lt_of_le_of_lt (Nat.div_le_div_left h2p (by decide)) (by omega)
      rw [show (m : Int) / 2 ^ (11 + (-1085 - e)).toNat = ((m / 2 ^ (11 + (-1085 - e)).toNat : Nat) : Int) from by simp, and_one' _ hz]
      unfold sfOd; rw [if_neg he]
    cases h63 : ((m : Int) == 9223372036854775808)
    · exact sfC2 m _ _ _ _ e _ w hT hm hnl hxl hi hs h1 h2 h63 (by omega) (by rw [← e1]; exact hw) (by rw [← e2]; exact hn) (by rw [← e3]; exact hx) hod (Int.natCast_nonneg _) ho hs' hg
    · exact sfC1 m _ _ _ _ e _ w hT hm hnl hxl hi hs h1 h2 h63 (by omega) (by rw [← e1]; exact hw) (by rw [← e2]; exact hn) (by rw [← e3]; exact hx) hod (Int.natCast_nonneg _) ho hs' hg
end Go.Proofs.YthkkdikfbagijaaGreatDoor
