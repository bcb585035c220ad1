/- The law's own event and rules in later worlds; fewer rules. -/
import Derived.Test.YtjnfbinomljocaaDoorAcW
namespace Go.Proofs.YtjnfbinomljocaaDoor
open Go.RowKit Go.Shelf Go.Sort
open Go.Proofs
set_option maxRecDepth 100000

/-- What behind the law's own store of the event is so in every later world. -/
structure PubW (w w5 : World) (a b : Int) (L : List Ru) (bo : Option Addr) (sE : ByteArray) (eo : Option Addr) (es : List At) (ecap : Nat) (W : World) : Prop where
  i0 : W.cell? ⟨w.heap.size, 0, none⟩ = some (.int .i64 a)
  i1 : W.cell? ⟨w.heap.size, 1, none⟩ = some (.int .i64 b)
  e0 : W.cell? ⟨w.heap.size + 1, 0, none⟩ = some (.string sE)
  e1 : W.cell? ⟨w.heap.size + 1, 1, none⟩ = some (.slice eo es.length ecap)
  below : Below w.heap.size w W
  rules : RulesB W.heap.size W bo L
  attrs : SliceA W eo es
  size : w.heap.size + 2 ≤ W.heap.size
theorem PubW.on {w w5 : World} {a b : Int} {L : List Ru} {bo : Option Addr} {sE : ByteArray} {eo : Option Addr} {es : List At} {ecap : Nat} {W W' : World} (h : PubW w w5 a b L bo sE eo es ecap W) (hb : Below W.heap.size W W') : PubW w w5 a b L bo sE eo es ecap W' := by
  have hs := h.size
  exact ⟨(hb.cell (p := ⟨w.heap.size, 0, none⟩) (by show w.heap.size < _; omega)).trans h.i0, (hb.cell (p := ⟨w.heap.size, 1, none⟩) (by show w.heap.size < _; omega)).trans h.i1, (hb.cell (p := ⟨w.heap.size + 1, 0, none⟩) (by show w.heap.size + 1 < _; omega)).trans h.e0, (hb.cell (p := ⟨w.heap.size + 1, 1, none⟩) (by show w.heap.size + 1 < _; omega)).trans h.e1, h.below.trans (hb.mono h.below.size), h.rules.on hb, h.attrs.under hb, Nat.le_trans hs hb.size⟩
theorem sliceA_set {w : World} {E i : Nat} {ao : Option Addr} {zs : List At} (h : SliceA w ao zs) (hE : ∀ g off, ao = some ⟨g, off, none⟩ → E < g) (v : Value) : SliceA (w.setCell ⟨E, i, none⟩ v) ao zs := by
  rcases h with h | ⟨b, off, h1, h3, h4⟩
  · exact Or.inl h
  · have hb := hE b off h1
    refine Or.inr ⟨b, off, h1, by simpa using h3, fun j hj c u hu => ?_⟩
    have hne : (⟨E, i, none⟩ : Addr) ≠ ⟨b, off + j * 6 + c, none⟩ := fun e => by injection e; omega
    rw [World.cell?_setCell_other _ _ _ _ (by first | exact hne | exact hne.symm)]
    exact h4 j hj c u hu

/-! ### Fewer rules -/
theorem find_filter {α : Type} (l : List α) (p q : α → Bool) (h : ∀ r, q r = true → p r = true) : (l.filter p).find? q = l.find? q := by
  induction l with
  | nil => rfl
  | cons a l ih =>
    by_cases hp : p a = true
    · rw [List.filter_cons_of_pos hp, List.find?_cons, List.find?_cons, ih]
    · rw [List.filter_cons_of_neg hp, List.find?_cons, ih]
      have : q a = false := by
        cases hq : q a
        · rfl
        · exact absurd (h a hq) hp
      rw [this]
theorem any_filter_of {α : Type} (l : List α) (p q : α → Bool) (h : ∀ r, q r = true → p r = true) : (l.filter p).any q = l.any q := by
  induction l with
  | nil => rfl
  | cons a l ih =>
    by_cases hp : p a = true
    · rw [List.filter_cons_of_pos hp, List.any_cons, List.any_cons, ih]
    · rw [List.filter_cons_of_neg hp, List.any_cons, ih]
      have : q a = false := by
        cases hq : q a
        · rfl
        · exact absurd (h a hq) hp
      rw [this, Bool.false_or]
def ownP (tn : Int) (who : ByteArray) (r : Ru) : Bool := (r.tn == tn) && ((r.who.toList == who.toList) && (r.k != 4))
theorem ownP_of {tn : Int} {who : ByteArray} {k : Int} (hk : k ≠ 4) (r : Ru) (h : ofR r k tn who = true) : ownP tn who r = true := by
  unfold ofR at h
  unfold ownP
  simp only [Bool.and_eq_true, beq_iff_eq, bne_iff_ne] at h ⊢
  exact ⟨h.2.1, h.2.2, by rw [h.1]; exact hk⟩
theorem homeR_own (L : List Ru) (tn : Int) (who : ByteArray) : homeR (L.filter (ownP tn who)) tn who = homeR L tn who := by
  unfold homeR
  rw [← List.filter_reverse, find_filter _ _ _ fun r h => ownP_of (by decide) r h]
theorem mayR_own (L : List Ru) (k tn : Int) (who : ByteArray) (q : Ru → Bool) (hk : k ≠ 4) : mayR (L.filter (ownP tn who)) k tn who q = mayR L k tn who q := by
  unfold mayR
  rw [homeR_own, any_filter_of _ _ _ fun r h => ownP_of hk r (by rw [Bool.and_eq_true] at h; exact h.1)]
end Go.Proofs.YtjnfbinomljocaaDoor
