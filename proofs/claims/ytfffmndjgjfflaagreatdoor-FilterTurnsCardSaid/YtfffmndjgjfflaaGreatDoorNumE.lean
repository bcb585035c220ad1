/- What is asked of each exponent, by the kernel's own reckoning. -/
import Derived.Test.YtfffmndjgjfflaaGreatDoorNumA
namespace Go.Proofs.YtfffmndjgjfflaaGreatDoor
open Go.RowKit Go.Lib
open Go.Proofs
set_option maxRecDepth 100000

/-! ### Per exponent -/
def iE (E : Nat) : Nat := (348 - lgTen ((E : Int) - 1075)).toNat
def sE (E : Nat) : Nat := (-((E : Int) - 1086 + lgTwo (-lgTen ((E : Int) - 1075)) + 3)).toNat
def chkE (E : Nat) : Bool := decide (1 ≤ sE E) && (decide (sE E ≤ 16) && (decide (9223372036854775808 ≤ powHi (iE E)) && (E == 1075 || decide (2 ^ (55 + sE E) + 2 ≤ powHi (iE E)))))
set_option maxHeartbeats 4000000 in
theorem chkE_all : ((List.range 2046).all fun k => chkE (k + 1)) = true := by decide +kernel
theorem chkE_at (E : Nat) (h1 : 1 ≤ E) (h2 : E ≤ 2046) : (1 ≤ sE E ∧ sE E ≤ 16) ∧ 9223372036854775808 ≤ powHi (iE E) ∧ (E = 1075 ∨ 2 ^ (55 + sE E) + 2 ≤ powHi (iE E)) := by
  have h := List.all_eq_true.1 chkE_all (E - 1) (List.mem_range.2 (by omega))
  rw [show E - 1 + 1 = E by omega] at h
  unfold chkE at h
  simpa [and_assoc] using h
def xm (x : Nat) : Nat := fM x * 2 ^ fS x
def xe (x : Nat) : Int := fE x - fS x - 52
def valX (x : Nat) : Nat := shortV (xm x) (xe x)
def loX (x : Nat) : Nat := loV (xm x) (xe x)
def hiX (x : Nat) : Nat := hiV (xm x) (xe x)
/-- At a power of two: its interval holds its digits, and stands apart from those of its neighbours. -/
def chkS (E : Nat) : Bool := decide (hiX (E * 4503599627370496 - 1) < loX (E * 4503599627370496)) && (decide (loX (E * 4503599627370496) ≤ valX (E * 4503599627370496)) && (decide (valX (E * 4503599627370496) ≤ hiX (E * 4503599627370496)) && decide (hiX (E * 4503599627370496) < loX (E * 4503599627370496 + 1))))
def chkB (j : Nat) : Bool := decide (hiX (2 ^ j - 1) < loX (2 ^ j))
set_option maxHeartbeats 4000000 in
theorem chkB_all : ((List.range 52).all fun k => chkB (k + 1)) = true := by decide +kernel
end Go.Proofs.YtfffmndjgjfflaaGreatDoor
