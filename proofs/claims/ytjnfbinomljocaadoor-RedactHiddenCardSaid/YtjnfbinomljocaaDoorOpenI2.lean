/- Two texts in an array that comes in as an argument. -/
import Derived.Test.YtjnfbinomljocaaDoorGaD
import Derived.WideShapes
namespace Go.Proofs.YtjnfbinomljocaaDoor
open Go.ChangeShapes Go.WideShapes Go.ChangeAt Go.RowKit Go.Joins Go.Deep
set_option maxRecDepth 100000
theorem open_ints2 {H : Type} {enc : TypeId × Value → H} {w : World} {base b0 : Nat} {r : Reach} {sp : Nat → Bool} {held : Bool} {v : Value} {d : DataW H} {p : List MemPlace}
    (hv : Value.okWide Tryd.prog w r b0 23 v) (h : DataW.Trod enc Tryd.prog w base sp held 23 v d p) :
    ∃ s t : Int, v = .agg #[.int .i64 s, .int .i64 t] := by
  have hag : ∃ cs, v = .agg cs ∧ cs.size = Tryd.prog.cellsOf 23 := by
    simp only [Value.okWide, Tryd.underlying23] at hv
    obtain ⟨cs, h1, h2, _⟩ := hv
    exact ⟨cs, h1, h2⟩
  obtain ⟨cs, rfl, hsz⟩ := hag
  have c2 : Tryd.prog.cellsOf 23 = 2 := by kernel_rfl
  have cg : Tryd.prog.cellsOf 3 = 1 := by kernel_rfl
  obtain ⟨fuel, hf⟩ := h
  obtain ⟨xs, m, _, _, _, hxl, hall⟩ := DataW.trod_array Tryd.underlying23 hf
  have get : ∀ i, i < 2 → ∃ s : Int, cs.toList[i]? = some (.int .i64 s) := fun i hi => by
    have h1 := hall i hi
    rw [cg, List.getElem?_eq_getElem (by omega)] at h1
    obtain ⟨s, g, _, _⟩ := DataW.trod_int Tryd.underlying3 h1
    have := cell_of_take g
    rw [Nat.mul_one] at this
    exact ⟨s, by simpa [Value.cells] using this⟩
  obtain ⟨s, hs⟩ := get 0 (by omega)
  obtain ⟨t, ht⟩ := get 1 (by omega)
  obtain ⟨cl⟩ := cs
  match cl, hsz.trans c2, hs, ht with
  | [v0, v1], _, hs, ht =>
    simp at hs ht
    subst hs ht
    exact ⟨s, t, rfl⟩
end Go.Proofs.YtjnfbinomljocaaDoor
