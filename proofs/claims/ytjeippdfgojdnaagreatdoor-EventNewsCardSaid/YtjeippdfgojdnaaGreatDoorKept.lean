/- value.Void, value.Right, event.kept of any value. -/
import Derived.Test.YtjeippdfgojdnaaGreatDoorAtP
import Derived.Test.YtjeippdfgojdnaaGreatDoorName
import Derived.Laws.StructEq
import Derived.Laws.IdiomStrings
namespace Go.Proofs.YtjeippdfgojdnaaGreatDoor
open Go.RowKit Go.Shelf
open Go.Proofs
set_option maxRecDepth 100000

theorem run_equalIn_f64 (P : Program) (w : World) (d : Nat) (t : TypeId) (a b : Nat) (k' : FloatKind) (h : P.underlying t = some (.float k')) : (Op.equalIn (d + 1) t (.float .f64 a) (.float .f64 b)).run P w = .ok (FloatKind.f64.format.order a b == some .eq) w := by
  simp [Op.equalIn, run_underlying h, Op.floatEq]

/-- '==' of two numbers with a point. -/
def feq (a b : Nat) : Bool := FloatKind.f64.format.order a b == some .eq
/-- '==' of two values, field by field. -/
def eqV (k k2 n n2 : Int) (x x2 : Nat) (s s2 : ByteArray) (y y2 : Bool) : Bool := k == k2 && n == n2 && feq x x2 && s.toList == s2.toList && y == y2

section
attribute [local go_sem] run_equalIn_f64
set_option maxHeartbeats 2000000 in
theorem run_eqV (k k2 n n2 : Int) (x x2 : Nat) (s s2 : ByteArray) (y y2 : Bool) (w : World) :
    (binOp .eql 24 (val k n x s y) (val k2 n2 x2 s2 y2)).run Tryz.prog w = .ok (.bool (eqV k k2 n n2 x x2 s s2 y y2)) w := by
  unfold eqV feq val
  rw [run_eql_struct]
  cases h1 : (k == k2) <;> cases h2 : (n == n2) <;> cases h3 : (FloatKind.f64.format.order x x2 == some .eq) <;> cases h4 : (s.toList == s2.toList) <;> cases h5 : (y == y2) <;> simp [go_sem, h1, h2, h3, h4, h5]
end

def voidB (k : Int) (x : Nat) : Bool := k == 1 && fnan x
set_option maxHeartbeats 400000 in
theorem void_c (k n : Int) (x : Nat) (s : ByteArray) (y : Bool) (w : World) :
    Calls Tryz.prog 46 #[val k n x s y] w fun e w' => e = .returned (.bool (voidB k x)) ∧ Below w.heap.size w w' := by
  unfold voidB
  cases h : (k == 1)
  · go_enter Tryz.func46, Tryz.ntmps46
    go_wp2
    go_ret
    exact ⟨rfl, (Below.refl _ _).alloc (Nat.le_refl _) _⟩
  · go_enter Tryz.func46, Tryz.ntmps46
    go_wp2_with (go_at_call 75; refine (none_c _ _).mono ?_; rintro e w' ⟨rfl, rfl⟩)
    go_ret
    exact ⟨rfl, (Below.refl _ _).alloc (Nat.le_refl _) _⟩

def vrightB (k : Int) (s : ByteArray) : Bool := decide (0 ≤ k) && decide (k ≤ 3) && decide ((s.size : Int) ≤ 40)
set_option maxHeartbeats 400000 in
theorem vright_c (k n : Int) (x : Nat) (s : ByteArray) (y : Bool) (w : World) :
    Calls Tryz.prog 16 #[val k n x s y] w fun e w' => e = .returned (.bool (vrightB k s)) ∧ Below w.heap.size w w' := by
  unfold vrightB
  cases h1 : decide (0 ≤ k)
  · go_enter Tryz.func16, Tryz.ntmps16
    go_wp2
    go_ret
    exact ⟨rfl, (Below.refl _ _).alloc (Nat.le_refl _) _⟩
  · cases h2 : decide (k ≤ 3)
    · go_enter Tryz.func16, Tryz.ntmps16
      go_wp2
      go_ret
      exact ⟨rfl, (Below.refl _ _).alloc (Nat.le_refl _) _⟩
    · go_enter Tryz.func16, Tryz.ntmps16
      go_wp2
      go_ret
      exact ⟨rfl, (Below.refl _ _).alloc (Nat.le_refl _) _⟩
end Go.Proofs.YtjeippdfgojdnaaGreatDoor
