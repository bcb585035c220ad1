/- Numbers that come in as an argument; two numbers; pairs. -/
import Derived.Test.YtnkceajhhiidcaaTreeEnds
import Derived.Lib.SmallJoins
import Derived.ProofKit
import Derived.OpenShut
import Derived.ShutString
import Derived.WideShapes
import Derived.Deep.Slices
import Derived.Deep.Fields
import Derived.ChangeSame
import Derived.ChangeMaps5
namespace Go.Proofs.Ytnkceajhhiidcaa
open Go.ChangeShapes Go.WideShapes Go.ChangeAt Go.RowKit Go.Joins Go.Deep
set_option maxRecDepth 100000

theorem add_flat2 (a : Addr) (h : a.spot = none) (k : Nat) : a.add k = ⟨a.block, a.off + k, none⟩ := by
  obtain ⟨b, o, s⟩ := a
  simp only at h
  subst h
  unfold Addr.add
  by_cases h0 : k = 0
  · subst h0; simp
  · simp [h0]

section
variable {H : Type} {enc : TypeId × Value → H} {w : World} {base b0 : Nat} {r : Reach} {sp : Nat → Bool} {held : Bool}
theorem open_ups {v : Value} {d : DataW H} {p : List MemPlace} (hv : Value.okWide Try.prog w r b0 33 v) (h : DataW.Trod enc Try.prog w base sp held 33 v d p) :
    ∃ (ao : Option Addr) (cap : Nat) (l : List Int), v = .slice ao l.length cap ∧ UpsB w ao l := by
  obtain ⟨fuel, hf⟩ := h
  obtain ⟨a, len, cap, rfl⟩ := okWide_slice Try.underlying33 hv
  have c9 : Try.prog.cellsOf 3 = 1 := by kernel_rfl
  rcases open_slice Try.underlying33 hf with ⟨h0, _⟩ | ⟨a', len', cap', m, n, D, Pl, hcs, hb, hl, hm, hmm, hx, hi⟩
  · have : Value.slice a len cap = .slice none 0 0 := by simpa [Value.cells] using h0
    injection this with e1 e2 e3
    subst e1 e2 e3
    exact ⟨none, 0, [], rfl, Or.inl rfl⟩
  · have : Value.slice a len cap = .slice (some a') len' cap' := by simpa [Value.cells] using hcs
    injection this with e1 e2 e3
    subst e1 e2 e3
    have hsp : a'.spot = none := by
      simp only [Value.okWide, Try.underlying33, Cell.okWide, Cell.ok, World.has] at hv
      exact hv.2.2.2.1
    have hlm : len ≤ m := by rw [hmm]; split <;> omega
    have hex : ∀ i, ∃ c : Int, i < len → w.cell? ⟨a'.block, a'.off + i, none⟩ = some (.int .i64 c) := fun i => by
      by_cases hlt : i < len
      · obtain ⟨cs', hc, ht'⟩ := hi i (by omega)
        obtain ⟨k, rfl, _, hw⟩ := DataW.trod_int Try.underlying3 ht'
        rw [c9, Nat.mul_one] at hc
        obtain ⟨_, _, hat⟩ := World.cells?_some hc
        have := hat 0 (by decide)
        rw [add_flat2 a' hsp, add_flat2 _ rfl] at this
        exact ⟨k, fun _ => this⟩
      · exact ⟨0, fun h => absurd h hlt⟩
    obtain ⟨f, hff⟩ := Classical.axiomOfChoice hex
    refine ⟨some a', cap, (List.range len).map f, by simp, ?_⟩
    by_cases h0 : len = 0
    · subst h0; exact Or.inl rfl
    · have hbl := World.block_lt_of_cell? w ⟨a'.block, a'.off + 0, none⟩ (hff 0 (by omega))
      refine Or.inr ⟨a'.block, a'.off, ?_, hbl, fun j hj => ?_⟩
      · obtain ⟨b, o, s⟩ := a'; simp only at hsp; subst hsp; rfl
      · have hj' : j < len := by simpa using hj
        rw [hff j hj']
        simp [hj']
end
end Go.Proofs.Ytnkceajhhiidcaa
