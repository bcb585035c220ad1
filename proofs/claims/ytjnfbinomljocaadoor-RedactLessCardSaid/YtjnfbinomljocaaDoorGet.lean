/- event.Get of any event. -/
import Derived.Test.YtjnfbinomljocaaDoorLight
namespace Go.Proofs.YtjnfbinomljocaaDoor
open Go.RowKit Go.Shelf Go.Sort
open Go.Proofs
set_option maxRecDepth 100000

/-- What event.Get finds. -/
def getA (l : List At) (name : ByteArray) : Option At := l.find? (fun a => a.nm.toList == name.toList)
def getV : Option At → Value
  | some a => .tuple #[val a.k a.n a.x a.s a.y, .bool true]
  | none => .tuple #[val 0 0 0 ⟨#[]⟩ false, .bool false]

/-- Five cells that have been written. -/
theorem five {W : World} {R : Nat} (v0 v1 v2 v3 v4 : Value) {u0 u1 u2 u3 u4 : Value} (h0 : W.cell? ⟨R, 0, none⟩ = some u0) (h1 : W.cell? ⟨R, 1, none⟩ = some u1) (h2 : W.cell? ⟨R, 2, none⟩ = some u2) (h3 : W.cell? ⟨R, 3, none⟩ = some u3) (h4 : W.cell? ⟨R, 4, none⟩ = some u4) :
    let X := ((((W.setCell ⟨R, 0, none⟩ v0).setCell ⟨R, 1, none⟩ v1).setCell ⟨R, 2, none⟩ v2).setCell ⟨R, 3, none⟩ v3).setCell ⟨R, 4, none⟩ v4
    X.cell? ⟨R, 0, none⟩ = some v0 ∧ X.cell? ⟨R, 1, none⟩ = some v1 ∧ X.cell? ⟨R, 2, none⟩ = some v2 ∧ X.cell? ⟨R, 3, none⟩ = some v3 ∧ X.cell? ⟨R, 4, none⟩ = some v4 := by
  refine ⟨?_, ?_, ?_, ?_, ?_⟩
  · rw [oth (by decide), oth (by decide), oth (by decide), oth (by decide)]; exact World.cell?_setCell_same _ _ _ h0
  · rw [oth (by decide), oth (by decide), oth (by decide)]; exact World.cell?_setCell_same _ _ _ (by rw [oth (by decide)]; exact h1)
  · rw [oth (by decide), oth (by decide)]; exact World.cell?_setCell_same _ _ _ (by rw [oth (by decide), oth (by decide)]; exact h2)
  · rw [oth (by decide)]; exact World.cell?_setCell_same _ _ _ (by rw [oth (by decide), oth (by decide), oth (by decide)]; exact h3)
  · exact World.cell?_setCell_same _ _ _ (by rw [oth (by decide), oth (by decide), oth (by decide), oth (by decide)]; exact h4)

end Go.Proofs.YtjnfbinomljocaaDoor
