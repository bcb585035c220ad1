/- Where each name is told once, as many attributes stay as came. (ManyL's part for a seat without event.Right: lay it as <Name>ManyL.) -/
import Derived.Test.YtjeippdfgojdnaaGreatDoorNewOf
import Derived.Test.YtjeippdfgojdnaaGreatDoorFitE
import Derived.Test.YtjeippdfgojdnaaGreatDoorName
import Derived.Test.YtjeippdfgojdnaaGreatDoorKept
namespace Go.Proofs.YtjeippdfgojdnaaGreatDoor
open Go.RowKit Go.Shelf Go.Sort
open Go.Proofs
set_option maxRecDepth 100000

theorem len_of_sub {β : Type} [BEq β] [LawfulBEq β] : ∀ (l r : List β), l.Pairwise (· ≠ ·) → (∀ x ∈ l, x ∈ r) → l.length ≤ r.length
  | [], _, _, _ => Nat.zero_le _
  | x :: l, r, h1, h2 => by
    have hx : x ∈ r := h2 x List.mem_cons_self
    rw [List.pairwise_cons] at h1
    have := len_of_sub l (r.erase x) h1.2 fun y hy => (List.mem_erase_of_ne (fun e => h1.1 y hy e.symm)).2 (h2 y (List.mem_cons_of_mem _ hy))
    rw [List.length_erase_of_mem hx] at this
    have hp : 0 < r.length := List.length_pos_of_mem hx
    simp only [List.length_cons]; omega

/-- Where each name is told once, as many stay as came. -/
theorem NewOf.len_eq {zs res : List At} (h : NewOf zs res) (ha : (zs.map keyA).Pairwise (· ≠ ·)) : res.length = zs.length := by
  refine Nat.le_antisymm h.len ?_
  have := len_of_sub (zs.map keyA) (res.map keyA) ha fun c hc => by
    obtain ⟨z, hz, rfl⟩ := List.mem_map.1 hc
    have hf := h.find (keyA z)
    cases hq : zs.reverse.find? (fun a => keyA a == keyA z) with
    | none =>
      rw [List.find?_eq_none] at hq
      have := hq z (List.mem_reverse.2 hz)
      simp at this
    | some y =>
      rw [hq] at hf
      have hk := List.find?_some hq
      have hm := List.mem_of_find?_eq_some hf
      have : keyA (canonA y) = keyA z := by rw [keyA_canon]; simpa using hk
      rw [← this]; exact List.mem_map_of_mem hm
  simpa using this

end Go.Proofs.YtjeippdfgojdnaaGreatDoor
