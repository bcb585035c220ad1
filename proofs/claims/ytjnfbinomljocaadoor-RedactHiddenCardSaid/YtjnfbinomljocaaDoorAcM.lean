/- slices.ContainsFunc over rules; acl's may, MayPublish, MayObserve. -/
import Derived.Test.YtjnfbinomljocaaDoorAcH
namespace Go.Proofs.YtjnfbinomljocaaDoor
open Go.RowKit Go.Shelf
open Go.Proofs
set_option maxRecDepth 100000

/-! ### may -/
/-- What may's closure has captured, in every later world. -/
def CapI (B : Nat) (k tn : Int) (who : ByteArray) (g : Nat) (cb : Array Value) (W : World) : Prop := W.cell? ⟨B, 0, none⟩ = some (.int .i64 k) ∧ W.cell? ⟨B + 1, 0, none⟩ = some (.int .i64 tn) ∧ W.cell? ⟨B + 2, 0, none⟩ = some (.string who) ∧ W.cell? ⟨B + 3, 0, none⟩ = some (.func (.func g) #[] cb)
theorem CapI.below {n B : Nat} {k tn : Int} {who : ByteArray} {g : Nat} {cb : Array Value} {W W' : World} (h : CapI B k tn who g cb W) (hn : B + 3 < n) (hb : Below n W W') : CapI B k tn who g cb W' :=
  ⟨(hb.cell (p := ⟨B, 0, none⟩) (by show B < n; omega)).trans h.1, (hb.cell (p := ⟨B + 1, 0, none⟩) (by show B + 1 < n; omega)).trans h.2.1, (hb.cell (p := ⟨B + 2, 0, none⟩) (by show B + 2 < n; omega)).trans h.2.2.1, (hb.cell (p := ⟨B + 3, 0, none⟩) hn).trans h.2.2.2⟩
end Go.Proofs.YtjnfbinomljocaaDoor
