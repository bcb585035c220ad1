/- What an attribute's type is, and its cells in a block. -/
import Derived.Test.YtjeippdfgojdnaaGreatDoorAtP
import Derived.Maps.AppendAt
import Derived.Laws.IdiomStrings
namespace Go.Proofs.YtjeippdfgojdnaaGreatDoor
open Go.RowKit Go.Shelf Go.Sort
open Go.Proofs
set_option maxRecDepth 100000

theorem attr_info : ∃ i z, Tryz.prog.info? 38 = some i ∧ i.zero = some z ∧ i.size = 6 ∧ i.bytes = 64 ∧ z.cells.size = 6 := by
  obtain ⟨i, hi, h⟩ := Option.bind_eq_some_iff.1 (show (Tryz.prog.info? 38).bind (fun i => i.zero.map fun z => (i.size, i.bytes, z.cells.size)) = some (6, 64, 6) by kernel_rfl)
  obtain ⟨z, hz, h⟩ := Option.map_eq_some_iff.1 h
  simp only [Prod.mk.injEq] at h
  exact ⟨i, z, hi, hz, h.1, h.2.1, h.2.2⟩
theorem row_cells (a : At) (W : World) (ty : TypeId) : ∀ (j : Nat) u, (encA a)[j]? = some u → (W.alloc (.cells (encA a).toArray ty)).cell? ((⟨W.heap.size, 0, none⟩ : Addr).add j) = some u := fun j u h => by
  have : (W.alloc (.cells (encA a).toArray ty)).cell? ⟨W.heap.size, j, none⟩ = some u := by rw [World.cell?_alloc_new]; simpa using h
  by_cases h0 : j = 0
  · subst h0; exact this
  · simpa [Addr.add, h0] using this
end Go.Proofs.YtjeippdfgojdnaaGreatDoor
