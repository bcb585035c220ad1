/- A value as the program holds it; a float's store. -/
import Derived.Test.YthkkdikfbagijaaGreatDoorOrd
import Derived.WalkLawsBesides
import Derived.Outline
namespace Go.Proofs.YthkkdikfbagijaaGreatDoor
open Go.RowKit

/-- A value as the program holds it. -/
abbrev vals (k n : Int) (x : Nat) (s : ByteArray) (y : Bool) : Array Value := #[.int .i64 k, .int .i64 n, .float .f64 x, .string s, .bool y]
abbrev val (k n : Int) (x : Nat) (s : ByteArray) (y : Bool) : Value := .agg (vals k n x s y)
@[go_sem] theorem run_store_float {P : Program} {w : World} {a : Addr} {m : Mode} (k : FloatKind) (n : Nat) : (store a (.float k n) m).run P w = stored P w a (.float k n) m := run_store P w a _ m rfl
theorem pos_zero (x : Nat) : fpos x = 0 ↔ frung x = 0 := by
  unfold fpos; split <;> omega
/-- What a number can be, with what follows for its key and the other one's. -/
theorem canon_num {x : Nat} (h : fnan x = false) : fnan (fcanon x) = false ∧ fpos (fcanon x) = fpos x := by
  unfold fcanon
  rw [h]
  by_cases hz : frung x = 0
  · simp only [hz, if_true, Bool.false_eq_true, if_false]
    exact ⟨rfl, by rw [(pos_zero x).2 hz]; decide⟩
  · simp only [hz, Bool.false_eq_true, if_false]
    exact ⟨h, trivial⟩
theorem canon_nan {x : Nat} (h : fnan x = true) : fcanon x = 9221120237041090561 := by simp [fcanon, h]
end Go.Proofs.YthkkdikfbagijaaGreatDoor
