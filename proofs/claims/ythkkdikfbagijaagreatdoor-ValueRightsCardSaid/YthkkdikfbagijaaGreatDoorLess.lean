/- Package order: Less, Same; what keys tell of numbers. -/
import Derived.Test.YthkkdikfbagijaaGreatDoorOrd
import Derived.Deep.QuietTactic
import Derived.BigQuiet
namespace Go.Proofs.YthkkdikfbagijaaGreatDoor
open Go.RowKit

def flt (a b : Nat) : Bool := !fnan a && !fnan b && decide (fpos a < fpos b)

theorem lss_eq (a b : Nat) : (FloatKind.f64.format.order a b == some .lt) = flt a b := by
  unfold flt
  cases ha : fnan a
  · cases hb : fnan b
    · rw [order_num a b ha hb]
      unfold ford
      by_cases h : fpos a < fpos b
      · simp [h]
      · by_cases h2 : fpos a = fpos b <;> simp [h, h2]
    · rw [order_nan a b (.inr hb)]; rfl
  · rw [order_nan a b (.inl ha)]; rfl

set_option maxHeartbeats 400000 in
theorem less_c (a b : Nat) (w : World) : Calls Tryz.prog 9 #[.float .f64 a, .float .f64 b] w fun e w' => e = .returned (.bool (flt a b)) ∧ w = w' := by
  have h := lss_eq a b
  go_enter Tryz.func9, Tryz.ntmps9
  go_wp2
  go_ret
  exact ⟨rfl, rfl⟩

theorem fnan_rung {x : Nat} (h : fnan x = false) : frung x ≤ 9218868437227405312 := by
  simp only [fnan, decide_eq_false_iff_not, Nat.not_lt] at h; exact h
theorem fpos_bd {x : Nat} (h : fnan x = false) : -9218868437227405312 ≤ fpos x ∧ fpos x ≤ 9218868437227405312 := by
  have := fnan_rung h
  unfold fpos; split <;> omega
theorem fkey_num {x : Nat} (h : fnan x = false) : fkey x = if 0 ≤ fpos x then 9223372036854775808 + fpos x else 9223372036854775807 + fpos x := by
  simp [fkey, h]
theorem fkey_nan {x : Nat} (h : fnan x = true) : fkey x = 18446744073709551615 := by
  simp [fkey, h]
theorem fkey_bd (x : Nat) : 0 ≤ fkey x ∧ fkey x ≤ 18446744073709551615 := by
  cases h : fnan x
  · have := fpos_bd h
    rw [fkey_num h]; split <;> omega
  · rw [fkey_nan h]; omega
theorem fkey_top {x : Nat} (h : fnan x = false) : fkey x < 18446744073709551615 := by
  have := fpos_bd h
  rw [fkey_num h]; split <;> omega
theorem fkey_lt {a b : Nat} (ha : fnan a = false) (hb : fnan b = false) : fkey a < fkey b ↔ fpos a < fpos b := by
  rw [fkey_num ha, fkey_num hb]; split <;> split <;> omega
theorem fkey_eq {a b : Nat} (ha : fnan a = false) (hb : fnan b = false) : fkey a = fkey b ↔ fpos a = fpos b := by
  rw [fkey_num ha, fkey_num hb]; split <;> split <;> omega

theorem ford_of_lt {a b : Nat} (ha : fnan a = false) (hb : fnan b = false) (o : Ordering) (h : ford (fpos a) (fpos b) = o) : FloatKind.f64.format.order a b = some o := by
  rw [order_num a b ha hb, h]

end Go.Proofs.YthkkdikfbagijaaGreatDoor
