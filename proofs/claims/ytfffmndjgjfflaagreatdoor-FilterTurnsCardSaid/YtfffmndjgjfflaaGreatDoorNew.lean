/- event.New: its walk. -/
import Derived.Test.YtfffmndjgjfflaaGreatDoorRound
namespace Go.Proofs.YtfffmndjgjfflaaGreatDoor
open Go.RowKit Go.Shelf Go.Sort
open Go.Proofs
attribute [local go_sem] Oper.semAt_some
attribute [local go_sem ↓] append_pre

theorem keepB_b {n₀ Bs : Nat} {w : World} (hn : n₀ ≤ w.heap.size) (W : World) (l : Nat) (o o' : Obj) (hl : w.heap.size ≤ l) (h : W.heap[l]? = some o) (hc : o.isCells = false) (hw : o.isWalk = false) : KeepB n₀ Bs W (W.putObj l o') :=
  ⟨belowK_b hn W l o o' hl h hc hw, fun v hv => by
    have hne : Bs ≠ l := fun e => by
      subst e
      simp only [World.cell?, h] at hv
      cases o <;> first | (cases hc; done) | (simp at hv; done)
    rw [← hv]
    simp only [World.cell?, World.putObj_heap_other hne]⟩

/-- What event.New hands back. -/
def NewOf (zs res : List At) : Prop := ∃ D : Array At, Good keyA 0 zs.length (zs.reverse.map canonA).toArray D ∧ SortedIn (ltKey keyA) 0 zs.length D ∧ res = dd eqA D zs.length
theorem backs_all (zs : List At) : (backs zs zs.length).map (fun x => canonA x.2) = zs.reverse.map canonA := by
  apply List.ext_getElem
  · simp [backs]
  · intro j h1 h2
    simp only [backs, List.length_map, List.length_range] at h1
    have hlt : zs.length - 1 - j < zs.length := by omega
    simp [backs, hlt]

end Go.Proofs.YtfffmndjgjfflaaGreatDoor
