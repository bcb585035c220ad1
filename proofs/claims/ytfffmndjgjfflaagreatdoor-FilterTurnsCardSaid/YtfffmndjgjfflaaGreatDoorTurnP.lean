/- Filters whose conditions are turned round, or told twice, plainly: one Norm; they cover one another. -/
import Derived.Test.YtfffmndjgjfflaaGreatDoorFilKy
namespace Go.Proofs.YtfffmndjgjfflaaGreatDoor
open Go.RowKit Go.Shelf Go.Sort
open Go.Proofs
set_option maxRecDepth 100000

theorem turn_mem (cs : List Cn) (t : Nat) (c : Cn) : c ∈ cs.drop t ++ cs.take t ↔ c ∈ cs := by
  rw [List.mem_append]
  constructor
  · rintro (h | h)
    · exact List.mem_of_mem_drop h
    · exact List.mem_of_mem_take h
  · intro h
    rw [← List.take_append_drop t cs, List.mem_append] at h
    exact h.symm
theorem twice_mem (cs : List Cn) (t : Nat) (hne : 0 < cs.length) (c : Cn) : c ∈ (cs.drop t ++ cs.take t) ++ [cs[0]!] ↔ c ∈ cs := by
  rw [List.mem_append, turn_mem, List.mem_singleton]
  constructor
  · rintro (h | rfl)
    · exact h
    · exact memC cs 0 hne
  · exact Or.inl
theorem norm_mem {cs ds : List Cn} (hr : ∀ c ∈ cs, CRight c) (h : ∀ c, c ∈ ds ↔ c ∈ cs) : normL ds = normL cs := by
  refine normL_same (fun c hc => hr c ((h c).1 hc)) hr fun c => ?_
  rw [List.mem_map, List.mem_map]
  constructor
  · rintro ⟨d, hd, rfl⟩; exact ⟨d, (h d).1 hd, rfl⟩
  · rintro ⟨d, hd, rfl⟩; exact ⟨d, (h d).2 hd, rfl⟩
theorem covers_mem {fs : ByteArray} {cs ds : List Cn} (ho : OpsB cs) (h : ∀ c ∈ cs, c ∈ ds) : coversF fs cs fs ds = true := by
  unfold coversF
  rw [under_refl, Bool.true_and, Bool.or_eq_true]
  exact Or.inr (List.all_eq_true.2 fun c hc => List.any_eq_true.2 ⟨c, h c hc, implies_self (ho c hc)⟩)
theorem csOk_mem {cs ds : List Cn} (k : CsOk cs) (h : ∀ c, c ∈ ds ↔ c ∈ cs) (hl : ds.length ≤ 19) : CsOk ds :=
  ⟨hl, fun c hc => k.pr c ((h c).1 hc), fun c hc => k.prc c ((h c).1 hc), fun c hc => k.right c ((h c).1 hc)⟩
end Go.Proofs.YtfffmndjgjfflaaGreatDoor
