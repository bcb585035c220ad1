/- Pairs of numbers that come in as an argument. -/
import Derived.Test.YtnkceajhhiidcaaOpenI9
namespace Go.Proofs.Ytnkceajhhiidcaa
open Go.ChangeShapes Go.WideShapes Go.ChangeAt Go.RowKit Go.Joins Go.Deep
set_option maxRecDepth 100000

section
variable {H : Type} {enc : TypeId × Value → H} {w : World} {base b0 : Nat} {r : Reach} {sp : Nat → Bool} {held : Bool}
theorem trod_two {n : Nat} {cs : List Value} {z : DataW H × List MemPlace} (h : DataW.trod enc Try.prog w base sp held n 31 cs = some z) : ∃ s t : Int, cs[0]? = some (.int .i64 s) ∧ cs[1]? = some (.int .i64 t) := by
  have cg : Try.prog.cellsOf 3 = 1 := by kernel_rfl
  obtain ⟨xs, m, _, _, _, hxl, hall⟩ := DataW.trod_array Try.underlying31 h
  have get : ∀ i, i < 2 → ∃ s : Int, cs[i]? = some (.int .i64 s) := fun i hi => by
    have h1 := hall i hi
    rw [cg, List.getElem?_eq_getElem (by omega)] at h1
    obtain ⟨s, g, _, _⟩ := DataW.trod_int Try.underlying3 h1
    have := cell_of_take g
    rw [Nat.mul_one] at this
    exact ⟨s, this⟩
  obtain ⟨s, hs⟩ := get 0 (by omega)
  obtain ⟨t, ht⟩ := get 1 (by omega)
  exact ⟨s, t, hs, ht⟩
theorem open_pairs {v : Value} {d : DataW H} {p : List MemPlace} (hv : Value.okWide Try.prog w r b0 22 v) (h : DataW.Trod enc Try.prog w base sp held 22 v d p) :
    ∃ (ao : Option Addr) (cap : Nat) (l : List (Int × Int)), v = .slice ao l.length cap ∧ PairsB w ao l := by
  obtain ⟨fuel, hf⟩ := h
  obtain ⟨a, len, cap, rfl⟩ := okWide_slice Try.underlying22 hv
  have c9 : Try.prog.cellsOf 31 = 2 := by kernel_rfl
  rcases open_slice Try.underlying22 hf with ⟨h0, _⟩ | ⟨a', len', cap', m, n, D, Pl, hcs, hb, hl, hm, hmm, hx, hi⟩
  · have : Value.slice a len cap = .slice none 0 0 := by simpa [Value.cells] using h0
    injection this with e1 e2 e3
    subst e1 e2 e3
    exact ⟨none, 0, [], rfl, Or.inl rfl⟩
  · have : Value.slice a len cap = .slice (some a') len' cap' := by simpa [Value.cells] using hcs
    injection this with e1 e2 e3
    subst e1 e2 e3
    have hsp : a'.spot = none := by
      simp only [Value.okWide, Try.underlying22, Cell.okWide, Cell.ok, World.has] at hv
      exact hv.2.2.2.1
    have hlm : len ≤ m := by rw [hmm]; split <;> omega
    have hex : ∀ i, ∃ c : Int × Int, i < len → w.cell? ⟨a'.block, a'.off + i * 2, none⟩ = some (.int .i64 c.1) ∧ w.cell? ⟨a'.block, a'.off + i * 2 + 1, none⟩ = some (.int .i64 c.2) := fun i => by
      by_cases hlt : i < len
      · obtain ⟨cs', hc, ht'⟩ := hi i (by omega)
        obtain ⟨s, t, hs, ht⟩ := trod_two ht'
        rw [c9] at hc
        obtain ⟨_, _, hat⟩ := World.cells?_some hc
        have q0 := hat 0 (by decide)
        have q1 := hat 1 (by decide)
        rw [add_flat2 a' hsp, add_flat2 _ rfl] at q0 q1
        simp only [Nat.add_zero] at q0
        exact ⟨(s, t), fun _ => ⟨q0.trans hs, q1.trans ht⟩⟩
      · exact ⟨(0, 0), fun h => absurd h hlt⟩
    obtain ⟨f, hff⟩ := Classical.axiomOfChoice hex
    refine ⟨some a', cap, (List.range len).map f, by simp, ?_⟩
    by_cases h0 : len = 0
    · subst h0; exact Or.inl rfl
    · have hbl := World.block_lt_of_cell? w ⟨a'.block, a'.off + 0 * 2, none⟩ (hff 0 (by omega)).1
      refine Or.inr ⟨a'.block, a'.off, ?_, hbl, fun j hj => ?_⟩
      · obtain ⟨b, o, s⟩ := a'; simp only at hsp; subst hsp; rfl
      · have hj' : j < len := by simpa using hj
        have := hff j hj'
        rw [getElem!_pos _ j hj]
        simpa using this
end
end Go.Proofs.Ytnkceajhhiidcaa
