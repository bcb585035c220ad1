/- A filter as an argument, with its row's room. -/
import Derived.Test.YtfffmndjgjfflaaGreatDoorGaJ
namespace Go.Proofs.YtfffmndjgjfflaaGreatDoor
open Go.ChangeShapes Go.WideShapes Go.ChangeAt Go.RowKit Go.Joins Go.Deep
set_option maxRecDepth 100000

section
variable {H : Type} {enc : TypeId × Value → H} {w : World} {base b0 : Nat} {r : Reach} {sp : Nat → Bool} {held : Bool}
theorem open_filc {v : Value} {d : DataW H} {p : List MemPlace} (hv : Value.okWide Tryz.prog w r b0 24 v) (h : DataW.Trod enc Tryz.prog w base sp held 24 v d p) (M : Nat) (hM : ∀ n ∈ d.weights Tryz.prog 24, n ≤ M) :
    ∃ (sc : ByteArray) (ao : Option Addr) (cap : Nat) (l : List Cn), v = fil sc ao l.length cap ∧ FilIs M w sc ao l ∧ l.length ≤ cap := by
  obtain ⟨sc, ao, cap, l, rfl, hF⟩ := open_fil hv h M hM
  refine ⟨sc, ao, cap, l, rfl, hF, ?_⟩
  cases ao with
  | none =>
    rcases hF.1 with h | ⟨b, off, h1, _⟩
    · rw [h]; simp
    · cases h1
  | some a =>
    have hct : Tryz.prog.cellTypes Tryz.prog.depth 24 = some [9, 22] := by kernel_rfl
    simp only [Value.okWide, Tryz.underlying24] at hv
    obtain ⟨cs', e1, _, ts, h1, _, h2⟩ := hv
    injection e1 with e1
    subst e1
    rw [hct] at h1
    injection h1 with h1
    subst h1
    obtain ⟨t, ht, hk⟩ := h2 1 (.slice (some a) l.length cap) rfl
    obtain rfl : 22 = t := by simpa using ht
    simp only [Cell.okWide, Tryz.underlying22, Cell.ok, World.has] at hk
    exact hk.1
end
end Go.Proofs.YtfffmndjgjfflaaGreatDoor
