/- Arguments of type [2]api.Filter. -/
import Derived.Test.YtcbccioibpjkgaaGreatDoorGaJ
namespace Go.Proofs.YtcbccioibpjkgaaGreatDoor
open Go.RowKit Go.Shelf
open Go.Proofs
set_option maxRecDepth 100000
section
variable {H : Type} {enc : TypeId × Value → H} {w : World} {base b0 : Nat} {r : Reach} {sp : Nat → Bool} {held : Bool}
theorem open_fils2 {v : Value} {d : DataW H} {p : List MemPlace} (hv : Value.okWide Tryz.prog w r b0 43 v) (h : DataW.Trod enc Tryz.prog w base sp held 43 v d p) (M : Nat) (hM : ∀ n ∈ d.weights Tryz.prog 43, n ≤ M) :
    ∃ (sc0 : ByteArray) (ao0 : Option Addr) (cp0 : Nat) (l0 : List Cn) (sc1 : ByteArray) (ao1 : Option Addr) (cp1 : Nat) (l1 : List Cn),
      v = .agg #[.string sc0, .slice ao0 l0.length cp0, .string sc1, .slice ao1 l1.length cp1] ∧ FilIs M w sc0 ao0 l0 ∧ FilIs M w sc1 ao1 l1 := by
  have hct : Tryz.prog.cellTypes Tryz.prog.depth 43 = some [9, 40, 9, 40] := by kernel_rfl
  have cg : Tryz.prog.cellsOf 43 = 4 := by kernel_rfl
  simp only [Value.okWide, Tryz.underlying43] at hv
  obtain ⟨cs, rfl, hsz, ts, h1, h3, h2⟩ := hv
  rw [hct] at h1
  injection h1 with h1
  subst h1
  rw [cg] at hsz
  obtain ⟨fuel, hf⟩ := h
  obtain ⟨cl⟩ := cs
  have hone : ∀ i u, cl[2 * i + 1]? = some u → ∃ a len cap, u = .slice a len cap ∧ ∀ a', a = some a' → a'.spot = none := fun i u hu => by
    have hlt := (List.getElem?_eq_some_iff.1 hu).1
    have hcl : cl.length = 4 := (by simpa using hsz)
    have hi : 2 * i + 1 < 4 := (by omega)
    obtain ⟨t, ht, hk⟩ := h2 (2 * i + 1) u (by simpa using hu)
    obtain rfl : 40 = t := by
      rcases (show i = 0 ∨ i = 1 by omega) with rfl | rfl <;> simpa using ht
    exact slice_cell Tryz.underlying40 hk
  obtain ⟨sc0, ao0, cp0, l0, g0, F0⟩ := fil_at (x := (d, p)) Tryz.underlying43 hf hone M hM 0 (by omega)
  obtain ⟨sc1, ao1, cp1, l1, g1, F1⟩ := fil_at (x := (d, p)) Tryz.underlying43 hf hone M hM 1 (by omega)
  refine ⟨sc0, ao0, cp0, l0, sc1, ao1, cp1, l1, ?_, F0, F1⟩
  match cl, hsz, g0, g1 with
  | [e0, e1, e2, e3], _, k0, k1 =>
    simp at k0 k1
    obtain ⟨rfl, rfl⟩ := k0
    obtain ⟨rfl, rfl⟩ := k1
    rfl
end
end Go.Proofs.YtcbccioibpjkgaaGreatDoor
