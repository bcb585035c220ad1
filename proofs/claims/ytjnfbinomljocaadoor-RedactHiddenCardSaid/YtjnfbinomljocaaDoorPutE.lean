/- An event's two cells laid into a block that held an event's zero. -/
import Derived.Test.YtjnfbinomljocaaDoorGaI
import Derived.Test.YtjnfbinomljocaaDoorWithout
namespace Go.Proofs.YtjnfbinomljocaaDoor
open Go.RowKit Go.Shelf Go.Sort
open Go.Proofs
set_option maxRecDepth 100000

theorem putE {B : Nat} {w7 X : World} {A9 : Nat} {ro : Option Addr} {rcap : Nat} {ls : List At} {sE : ByteArray} (hA : B ≤ A9) (h1 : X.heap[A9]? = some (.cells #[.string ⟨#[]⟩, .slice none 0 0] 26)) (h2 : SliceA X ro ls) (h3 : Below B w7 X) :
    (((X.setCell ⟨A9, 0, none⟩ (.string sE)).setCell ⟨A9, 1, none⟩ (.slice ro ls.length rcap)).cell? ⟨A9, 0, none⟩ = some (.string sE) ∧ ((X.setCell ⟨A9, 0, none⟩ (.string sE)).setCell ⟨A9, 1, none⟩ (.slice ro ls.length rcap)).cell? ⟨A9, 1, none⟩ = some (.slice ro ls.length rcap) ∧
          SliceA ((X.setCell ⟨A9, 0, none⟩ (.string sE)).setCell ⟨A9, 1, none⟩ (.slice ro ls.length rcap)) ro ls ∧ Below B w7 ((X.setCell ⟨A9, 0, none⟩ (.string sE)).setCell ⟨A9, 1, none⟩ (.slice ro ls.length rcap))) := by
  have r0 : X.cell? ⟨A9, 0, none⟩ = some (.string ⟨#[]⟩) := by simp [World.cell?, h1]
  have r1 : X.cell? ⟨A9, 1, none⟩ = some (.slice none 0 0) := by simp [World.cell?, h1]
  refine ⟨(oth (by decide)).trans (World.cell?_setCell_same _ _ _ r0), World.cell?_setCell_same _ _ _ ((oth (by decide)).trans r1), ?_, (h3.setCell (p := ⟨A9, 0, none⟩) hA _).setCell (p := ⟨A9, 1, none⟩) hA _⟩
  rcases h2 with h | ⟨b, off, rfl, hb, hr⟩
  · exact Or.inl h
  · refine Or.inr ⟨b, off, rfl, by simpa using hb, fun i hi c v hv => ?_⟩
    have hrc := hr i hi c v hv
    have hne : b ≠ A9 := fun e => by
      subst e
      simp only [World.cell?, h1] at hrc
      have h0 := hr i hi 2 _ rfl
      simp only [World.cell?, h1] at h0
      have : off + i * 6 + 2 < 2 ∨ ¬ off + i * 6 + 2 < 2 := Nat.lt_or_ge _ _ |>.imp id Nat.not_lt.2
      rcases this with h | h
      · omega
      · simp at h0
    have hn : ∀ i2 i3, (⟨A9, i2, none⟩ : Addr) ≠ ⟨b, i3, none⟩ := fun i2 i3 e => by injection e with e1; exact hne e1.symm
    rw [World.cell?_setCell_other _ _ _ _ (by first | exact hn _ _ | exact (hn _ _).symm), World.cell?_setCell_other _ _ _ _ (by first | exact hn _ _ | exact (hn _ _).symm)]
    exact hrc
theorem mem_without {l : List At} {ns : List ByteArray} : ∀ a ∈ withoutL l ns, a ∈ l := fun _ ha => (List.mem_filter.1 ha).1
theorem without_len (l : List At) (ns : List ByteArray) : (withoutL l ns).length ≤ l.length := List.length_filter_le _ _
theorem without_twice (l : List At) (ns : List ByteArray) : withoutL (withoutL l ns) ns = withoutL l ns := by
  unfold withoutL
  rw [List.filter_filter]
  simp
end Go.Proofs.YtjnfbinomljocaaDoor
