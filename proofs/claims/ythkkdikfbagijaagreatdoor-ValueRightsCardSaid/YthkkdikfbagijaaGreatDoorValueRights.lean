/- A value may be, if its kind is one, and its text not too long. -/
import Derived.Test.YthkkdikfbagijaaGreatDoorRightsA
import Derived.Test.YthkkdikfbagijaaGreatDoorRightsB
import Derived.Test.YthkkdikfbagijaaGreatDoorRightsC
import Derived.Test.YthkkdikfbagijaaGreatDoorRightsD
namespace Go.Proofs.YthkkdikfbagijaaGreatDoor
open Go.RowKit
set_option maxRecDepth 100000

theorem rights_w (k n : Int) (x : Nat) (s : ByteArray) (y : Bool) (i : Int) (w : World) (hT : Tabs w) :
    Calls Tryz.prog 3 #[val k n x s y, .int .i64 i] w fun e w' => e = .returned (.bool true) ∧ Below w.heap.size w w' := by
  obtain ⟨m, hm, hk⟩ := and127 i
  cases l : decide ((300 : Int) < (s.size : Int))
  · cases g4 : decide ((m : Int) ≤ 40) <;> cases g1 : decide (0 ≤ k)
    · exact rights_an k n x s y i m hm hk w hT l g1 g4
    · cases g2 : decide (k ≤ 3)
      · exact rights_bn k n x s y i m hm hk w hT l g1 g2 g4
      · cases g3 : decide ((s.size : Int) ≤ 40)
        · exact rights_cn k n x s y i m hm hk w hT l g1 g2 g3 g4
        · exact rights_dn k n x s y i m hm hk w hT l g1 g2 g3 g4
    · exact rights_ay k n x s y i m hm hk w hT l g1 g4
    · cases g2 : decide (k ≤ 3)
      · exact rights_by k n x s y i m hm hk w hT l g1 g2 g4
      · cases g3 : decide ((s.size : Int) ≤ 40)
        · exact rights_cy k n x s y i m hm hk w hT l g1 g2 g3 g4
        · exact rights_dy k n x s y i m hm hk w hT l g1 g2 g3 g4
  · exact rights_long k n x s y i w hT l
end Go.Proofs.YthkkdikfbagijaaGreatDoor
