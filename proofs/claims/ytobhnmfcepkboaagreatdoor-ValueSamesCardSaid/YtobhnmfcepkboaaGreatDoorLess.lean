/- Package order: Less, Same; what keys tell of numbers. -/
import Derived.Test.YtobhnmfcepkboaaGreatDoorGaA
import Derived.Deep.QuietTactic
import Derived.BigQuiet
namespace Go.Proofs.YtobhnmfcepkboaaGreatDoor
open Go.RowKit

def flt (a b : Nat) : Bool := !fnan a && !fnan b && decide (fpos a < fpos b)

theorem lss_eq (a b : Nat) : (FloatKind.f64.format.order a b == some .lt) = flt a b := by
  unfold flt
  cases ha : fnan a
  · cases hb : fnan b
    · rw [order_num a b ha hb]
      unfold ford
      by_cases h : fpos a < fpos b
      · simp [h]
      · by_cases h2 : fpos a = fpos b <;> simp [h, h2]
    · rw [order_nan a b (.inr hb)]; rfl
  · rw [order_nan a b (.inl ha)]; rfl

set_option maxHeartbeats 400000 in
theorem less_c (a b : Nat) (w : World) : Calls Tryz.prog 18 #[.float .f64 a, .float .f64 b] w fun e w' => e = .returned (.bool (flt a b)) ∧ w = w' := by
  have h := lss_eq a b
  go_enter Tryz.func18, Tryz.ntmps18
  go_wp2
  go_ret
  exact ⟨rfl, rfl⟩

end Go.Proofs.YtobhnmfcepkboaaGreatDoor
