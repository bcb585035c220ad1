/- A list of names that comes in as an argument. -/
import Derived.Test.YtnpbnjddlchmcaaGreatDoorOpenL
import Derived.Test.YtnpbnjddlchmcaaGreatDoorWithout
namespace Go.Proofs.YtnpbnjddlchmcaaGreatDoor
open Go.ChangeShapes Go.WideShapes Go.ChangeAt Go.RowKit Go.Joins Go.Deep
set_option maxRecDepth 100000

section
variable {H : Type} {enc : TypeId × Value → H} {w : World} {base b0 : Nat} {r : Reach} {sp : Nat → Bool} {held : Bool}
theorem open_names {v : Value} {d : DataW H} {p : List MemPlace} (hv : Value.okWide Tryz.prog w r b0 44 v) (h : DataW.Trod enc Tryz.prog w base sp held 44 v d p) :
    ∃ (ao : Option Addr) (cap : Nat) (l : List ByteArray), v = .slice ao l.length cap ∧ StrsA w ao l ∧ l.length ≤ maxLen := by
  obtain ⟨fuel, hf⟩ := h
  obtain ⟨a, len, cap, rfl⟩ := okWide_slice Tryz.underlying44 hv
  have c9 : Tryz.prog.cellsOf 9 = 1 := by kernel_rfl
  rcases open_slice Tryz.underlying44 hf with ⟨h0, _⟩ | ⟨a', len', cap', m, n, D, Pl, hcs, hb, hl, hm, hmm, hx, hi⟩
  · have : Value.slice a len cap = .slice none 0 0 := by simpa [Value.cells] using h0
    injection this with e1 e2 e3
    subst e1 e2 e3
    exact ⟨none, 0, [], rfl, Or.inl rfl, by simp⟩
  · have : Value.slice a len cap = .slice (some a') len' cap' := by simpa [Value.cells] using hcs
    injection this with e1 e2 e3
    subst e1 e2 e3
    have hsp : a'.spot = none := by
      simp only [Value.okWide, Tryz.underlying44, Cell.okWide, Cell.ok, World.has] at hv
      exact hv.2.2.2.1
    have hlm : len ≤ m := by rw [hmm]; split <;> omega
    have hex : ∀ i, ∃ s : ByteArray, i < len → w.cell? ⟨a'.block, a'.off + i, none⟩ = some (.string s) := fun i => by
      by_cases hlt : i < len
      · obtain ⟨cs', hc, ht'⟩ := hi i (by omega)
        obtain ⟨s, rfl, _⟩ := DataW.trod_string Tryz.underlying9 ht'
        rw [c9, Nat.mul_one] at hc
        obtain ⟨_, _, hat⟩ := World.cells?_some hc
        have := hat 0 (by decide)
        rw [add_flat a' hsp, add_flat _ rfl] at this
        exact ⟨s, fun _ => this⟩
      · exact ⟨⟨#[]⟩, fun h => absurd h hlt⟩
    obtain ⟨f, hff⟩ := Classical.axiomOfChoice hex
    refine ⟨some a', cap, (List.range len).map f, by simp, ?_, by simp; omega⟩
    by_cases h0 : len = 0
    · subst h0; exact Or.inl rfl
    · refine Or.inr ⟨a'.block, a'.off, ?_, ?_, fun j hj => ?_⟩
      · obtain ⟨b, o, s⟩ := a'; simp only at hsp; subst hsp; rfl
      · exact World.block_lt_of_cell? w ⟨a'.block, a'.off + 0, none⟩ (hff 0 (by omega))
      · have hj' : j < len := by simpa using hj
        rw [hff j hj']
        simp [hj']
end

theorem withoutL_twice (l : List At) (ns : List ByteArray) : withoutL (withoutL l ns) ns = withoutL l ns := by
  unfold withoutL
  rw [List.filter_filter]
  congr 1
  funext a
  simp
theorem withoutL_nil (l : List At) : withoutL l [] = l := by
  unfold withoutL
  rw [List.filter_eq_self]
  intro a _
  cases hc : Lib.containsS [] a.nm with
  | false => rfl
  | true => rw [Lib.containsS_iff] at hc; simp at hc
end Go.Proofs.YtnpbnjddlchmcaaGreatDoor
