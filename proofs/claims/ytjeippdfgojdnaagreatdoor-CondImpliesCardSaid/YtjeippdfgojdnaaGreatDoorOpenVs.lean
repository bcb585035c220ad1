/- Rows of values; an argument of type []api.Value. -/
import Derived.Test.YtjeippdfgojdnaaGreatDoorAtP
import Derived.Test.YtjeippdfgojdnaaGreatDoorOpenP
import Derived.WideShapes
namespace Go.Proofs.YtjeippdfgojdnaaGreatDoor
open Go.ChangeShapes Go.WideShapes Go.ChangeAt Go.RowKit Go.Joins Go.Deep
set_option maxRecDepth 100000

/-- A value's cells; values that lie one behind the other. -/
def enc5 (a : At) : List Value := [.int .i64 a.k, .int .i64 a.n, .float .f64 a.x, .string a.s, .bool a.y]
theorem enc5_len (a : At) : (enc5 a).length = 5 := rfl
/-- Values one behind the other. -/
def RowV (W : World) (b off : Nat) (zs : List At) : Prop := ∀ j, j < zs.length → ∀ c v, (enc5 zs[j]!)[c]? = some v → W.cell? ⟨b, off + j * 5 + c, none⟩ = some v
/-- Values that lie below block B. -/
def ValsB (W : World) (B : Nat) (ao : Option Addr) (es : List At) : Prop := es = [] ∨ ∃ b off, ao = some ⟨b, off, none⟩ ∧ b < B ∧ b < W.heap.size ∧ RowV W b off es
theorem ValsB.under {W W' : World} {B : Nat} {ao : Option Addr} {es : List At} (h : ValsB W B ao es) (hb : Below B W W') : ValsB W' B ao es := by
  rcases h with h | ⟨b, off, h1, h2, h3, h4⟩
  · exact Or.inl h
  · exact Or.inr ⟨b, off, h1, h2, Nat.lt_of_lt_of_le h3 hb.size, fun j hj c v hv => (hb.cell (p := ⟨b, off + j * 5 + c, none⟩) h2).trans (h4 j hj c v hv)⟩

section
variable {H : Type} {enc : TypeId × Value → H} {w : World} {base b0 : Nat} {r : Reach} {sp : Nat → Bool} {held : Bool}
theorem open_val5 {fuel : Nat} {cs : List Value} {x : DataW H × List MemPlace} (hf : DataW.trod enc Tryz.prog w base sp held fuel 24 cs = some x) :
    ∃ a : At, cs = enc5 a ∧ (AtOk a ∧ -9223372036854775808 ≤ a.n ∧ a.n ≤ 9223372036854775807) := by
  obtain ⟨k, n, x, s, y, hcs, wx, ws, wn⟩ := open_val_csn hf
  refine ⟨⟨⟨#[]⟩, k, n, x, s, y⟩, hcs, ?_, bounds_i64 wn⟩
  show x < _
  simpa [Lit.wf] using wx
theorem open_vals {v : Value} {d : DataW H} {p : List MemPlace} (hv : Value.okWide Tryz.prog w r b0 32 v) (h : DataW.Trod enc Tryz.prog w base sp held 32 v d p) :
    ∃ (ao : Option Addr) (cap : Nat) (l : List At), v = .slice ao l.length cap ∧ ValsB w w.heap.size ao l ∧ (∀ a ∈ l, AtOk a ∧ -9223372036854775808 ≤ a.n ∧ a.n ≤ 9223372036854775807) ∧ l.length ≤ maxLen := by
  obtain ⟨fuel, hf⟩ := h
  obtain ⟨a, len, cap, rfl⟩ := okWide_slice Tryz.underlying32 hv
  have c33 : Tryz.prog.cellsOf 24 = 5 := by kernel_rfl
  rcases open_slice Tryz.underlying32 hf with ⟨h0, _⟩ | ⟨a', len', cap', m, n, D, Pl, hcs, hb, hl, hm, hmm, hx, hi⟩
  · have : Value.slice a len cap = .slice none 0 0 := by simpa [Value.cells] using h0
    injection this with e1 e2 e3
    subst e1 e2 e3
    exact ⟨none, 0, [], rfl, Or.inl rfl, by simp, by simp⟩
  · have : Value.slice a len cap = .slice (some a') len' cap' := by simpa [Value.cells] using hcs
    injection this with e1 e2 e3
    subst e1 e2 e3
    have hsp : a'.spot = none := by
      simp only [Value.okWide, Tryz.underlying32, Cell.okWide, Cell.ok, World.has] at hv
      exact hv.2.2.2.1
    have hlm : len ≤ m := by rw [hmm]; split <;> omega
    have hex : ∀ i, ∃ at' : At, i < len → (w.cells? base (a'.add (i * 5)) 5 = some (enc5 at') ∧ (AtOk at' ∧ -9223372036854775808 ≤ at'.n ∧ at'.n ≤ 9223372036854775807)) := fun i => by
      by_cases hlt : i < len
      · obtain ⟨cs', hc, ht'⟩ := hi i (by omega)
        obtain ⟨at', rfl, hok⟩ := open_val5 ht'
        rw [c33] at hc
        exact ⟨at', fun _ => ⟨hc, hok⟩⟩
      · exact ⟨default, fun h => absurd h hlt⟩
    obtain ⟨f, hff⟩ := Classical.axiomOfChoice hex
    have hcell : ∀ i, i < len → ∀ c v, (enc5 (f i))[c]? = some v → w.cell? ⟨a'.block, a'.off + i * 5 + c, none⟩ = some v := fun i hlt c v hcv => by
      obtain ⟨_, _, hat⟩ := World.cells?_some (hff i hlt).1
      have hc5 : c < 5 := by
        have := (List.getElem?_eq_some_iff.1 hcv).1
        rw [enc5_len] at this; exact this
      have := hat c hc5
      rw [add_flat a' hsp, add_flat _ rfl] at this
      rw [← hcv]; exact this
    refine ⟨some a', cap, (List.range len).map f, by simp, ?_, fun x hx => ?_, by simp; omega⟩
    · by_cases h0 : len = 0
      · subst h0; exact Or.inl rfl
      · have hbl := World.block_lt_of_cell? w ⟨a'.block, a'.off + 0 * 5 + 0, none⟩ (hcell 0 (by omega) 0 _ rfl)
        refine Or.inr ⟨a'.block, a'.off, ?_, hbl, hbl, fun j hj c v hcv => ?_⟩
        · obtain ⟨b, o, s⟩ := a'; simp only at hsp; subst hsp; rfl
        · have hj' : j < len := by simpa using hj
          refine hcell j hj' c v ?_
          rw [← hcv]
          simp [hj']
    · obtain ⟨i, hi2, rfl⟩ := List.mem_map.1 hx
      exact (hff i (List.mem_range.1 hi2)).2
end
end Go.Proofs.YtjeippdfgojdnaaGreatDoor
