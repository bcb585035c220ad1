/- cmp.Compare at the types that values are held against one another by; value.Void, Compare and Same, whatever the two values. -/
import Derived.Test.YthkkdikfbagijaaGreatDoorValueKinds
import Derived.Sort.Walk0
namespace Go.Proofs.YthkkdikfbagijaaGreatDoor
open Go.RowKit
set_option maxRecDepth 100000

def sgn (a b : Int) : Int := if a < b then -1 else if b < a then 1 else 0
def sgs (s t : ByteArray) : Int := if Op.bytesLess s.toList t.toList then -1 else if s.toList == t.toList then 0 else 1
def b01 (b : Bool) : Int := if b then 1 else 0
def voidB (k : Int) (x : Nat) : Bool := k == 1 && fnan x
/-- How two values of one kind stand. -/
def cmpV (k n n2 : Int) (x x2 : Nat) (s s2 : ByteArray) (y y2 : Bool) : Int :=
  if k == 0 then sgn n n2 else if k == 1 then sgn (fkey x) (fkey x2) else if k == 2 then sgs s s2 else sgn (b01 y) (b01 y2)
def sameV (k n n2 : Int) (x x2 : Nat) (s s2 : ByteArray) (y y2 : Bool) : Bool :=
  if k == 0 then n == n2 else if k == 1 then fkey x == fkey x2 else if k == 2 then s.toList == s2.toList else y == y2
end Go.Proofs.YthkkdikfbagijaaGreatDoor
