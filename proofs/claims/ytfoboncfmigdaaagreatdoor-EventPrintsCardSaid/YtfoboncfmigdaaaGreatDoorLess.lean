/- Package order: Less, Same; what keys tell of numbers. -/
import Derived.Test.YtfoboncfmigdaaaGreatDoorGaA
import Derived.Deep.QuietTactic
import Derived.BigQuiet
namespace Go.Proofs.YtfoboncfmigdaaaGreatDoor
open Go.RowKit

def flt (a b : Nat) : Bool := !fnan a && !fnan b && decide (fpos a < fpos b)

theorem lss_eq (a b : Nat) : (FloatKind.f64.format.order a b == some .lt) = flt a b := by
  unfold flt
  cases ha : fnan a
  · cases hb : fnan b
    · rw [order_num a b ha hb]
      unfold ford
      by_cases h : fpos a < fpos b
      · simp [h]
      · by_cases h2 : fpos a = fpos b <;> simp [h, h2]
    · rw [order_nan a b (.inr hb)]; rfl
  · rw [order_nan a b (.inl ha)]; rfl

end Go.Proofs.YtfoboncfmigdaaaGreatDoor
