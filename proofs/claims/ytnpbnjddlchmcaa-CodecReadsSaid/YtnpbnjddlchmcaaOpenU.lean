/- Numbers of 64 bits that come in as an argument. -/
import Derived.Test.YtnpbnjddlchmcaaOpenB
import Derived.Test.YtnpbnjddlchmcaaReads1
import Derived.Lib.SmallJoins
import Derived.ProofKit
import Derived.OpenShut
import Derived.ShutString
import Derived.Deep.Slices
import Derived.Deep.Fields
import Derived.ChangeSame
import Derived.ChangeMaps5
namespace Go.Proofs.Ytnpbnjddlchmcaa
open Go.ChangeShapes Go.WideShapes Go.ChangeAt Go.RowKit Go.Joins Go.Deep
set_option maxRecDepth 100000

section
variable {H : Type} {enc : TypeId × Value → H} {w : World} {base b0 : Nat} {r : Reach} {sp : Nat → Bool} {held : Bool}
theorem open_longs {v : Value} {d : DataW H} {p : List MemPlace} (hv : Value.okWide Try.prog w r b0 56 v) (h : DataW.Trod enc Try.prog w base sp held 56 v d p) :
    ∃ (ao : Option Addr) (cap : Nat) (l : List Nat), v = .slice ao l.length cap ∧ LongsB w w.heap.size ao l ∧ ∀ x ∈ l, x < 2 ^ 64 := by
  obtain ⟨fuel, hf⟩ := h
  obtain ⟨a, len, cap, rfl⟩ := okWide_slice Try.underlying56 hv
  have c9 : Try.prog.cellsOf 57 = 1 := by kernel_rfl
  rcases open_slice Try.underlying56 hf with ⟨h0, _⟩ | ⟨a', len', cap', m, n, D, Pl, hcs, hb, hl, hm, hmm, hx, hi⟩
  · have : Value.slice a len cap = .slice none 0 0 := by simpa [Value.cells] using h0
    injection this with e1 e2 e3
    subst e1 e2 e3
    exact ⟨none, 0, [], rfl, Or.inl rfl, by simp⟩
  · have : Value.slice a len cap = .slice (some a') len' cap' := by simpa [Value.cells] using hcs
    injection this with e1 e2 e3
    subst e1 e2 e3
    have hsp : a'.spot = none := by
      simp only [Value.okWide, Try.underlying56, Cell.okWide, Cell.ok, World.has] at hv
      exact hv.2.2.2.1
    have hlm : len ≤ m := by rw [hmm]; split <;> omega
    have hex : ∀ i, ∃ c : Nat, c < 2 ^ 64 ∧ (i < len → w.cell? ⟨a'.block, a'.off + i, none⟩ = some (.int .u64 (c : Int))) := fun i => by
      by_cases hlt : i < len
      · obtain ⟨cs', hc, ht'⟩ := hi i (by omega)
        obtain ⟨k, rfl, _, hw⟩ := DataW.trod_int Try.underlying57 ht'
        rw [c9, Nat.mul_one] at hc
        obtain ⟨_, _, hat⟩ := World.cells?_some hc
        have := hat 0 (by decide)
        rw [add_flat2 a' hsp, add_flat2 _ rfl] at this
        have hk : 0 ≤ k ∧ k < 2 ^ 64 := by
          have h1 := hw
          simp only [Lit.wf, Bool.and_eq_true, decide_eq_true_eq] at h1
          rw [show IntKind.u64.min = 0 by decide, show IntKind.u64.max = 2 ^ 64 - 1 by decide] at h1
          omega
        refine ⟨k.toNat, by omega, fun _ => ?_⟩
        rw [Int.toNat_of_nonneg hk.1]
        exact this
      · exact ⟨0, by decide, fun h => absurd h hlt⟩
    obtain ⟨f, hff⟩ := Classical.axiomOfChoice hex
    refine ⟨some a', cap, (List.range len).map f, by simp, ?_, fun x hx => by
      obtain ⟨i, _, rfl⟩ := List.mem_map.1 hx
      exact (hff i).1⟩
    by_cases h0 : len = 0
    · subst h0; exact Or.inl rfl
    · have hbl := World.block_lt_of_cell? w ⟨a'.block, a'.off + 0, none⟩ ((hff 0).2 (by omega))
      refine Or.inr ⟨a'.block, a'.off, ?_, hbl, hbl, fun j hj => ?_⟩
      · obtain ⟨b, o, s⟩ := a'; simp only at hsp; subst hsp; rfl
      · have hj' : j < len := by simpa using hj
        rw [(hff j).2 hj']
        simp [hj']
end
end Go.Proofs.Ytnpbnjddlchmcaa
