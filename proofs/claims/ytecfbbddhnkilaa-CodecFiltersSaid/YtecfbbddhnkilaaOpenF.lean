/- A filter that comes in as an argument: what it is as the program holds it. -/
import Derived.Test.YtecfbbddhnkilaaOpenP
import Derived.Test.YtecfbbddhnkilaaCn
import Derived.WideShapes
namespace Go.Proofs.Ytecfbbddhnkilaa
open Go.ChangeShapes Go.WideShapes Go.ChangeAt Go.RowKit Go.Joins Go.Deep
set_option maxRecDepth 100000

/-- What Go's own memory allows of a condition. -/
def CnOk (c : Cn) : Prop := AtOk c.a ∧ -9223372036854775808 ≤ c.a.n ∧ c.a.n ≤ 9223372036854775807
section
variable {H : Type} {enc : TypeId × Value → H} {w : World} {base b0 : Nat} {r : Reach} {sp : Nat → Bool} {held : Bool}
theorem open_cond_cs {fuel : Nat} {cs : List Value} {x : DataW H × List MemPlace} (hf : DataW.trod enc Try.prog w base sp held fuel 30 cs = some x) : ∃ a : Cn, cs = encC a ∧ CnOk a := by
  obtain ⟨xs, m, _, hx, hl, hxl, hall⟩ := DataW.trod_struct Try.underlying30 hf
  have c33 : Try.prog.cellsOf 30 = 7 := by kernel_rfl
  have c24 : Try.prog.cellsOf 28 = 5 := by kernel_rfl
  have cg : Try.prog.cellsOf 9 = 1 := by kernel_rfl
  have ci : Try.prog.cellsOf 3 = 1 := by kernel_rfl
  obtain ⟨b, e⟩ := one_field hxl hall 0 _ rfl 9 0 rfl rfl cg
  obtain ⟨nm, g0, _, w0⟩ := DataW.trod_string Try.underlying9 e
  have h0 := cell_of_take g0
  obtain ⟨b1, e1⟩ := one_field hxl hall 1 _ rfl 3 1 rfl rfl ci
  obtain ⟨op, g1, _, _⟩ := DataW.trod_int Try.underlying3 e1
  have h1 := cell_of_take g1
  have h2 := hall 2 _ rfl
  have hsz : xs.length = 3 := hxl
  rw [List.getElem?_eq_getElem (by omega)] at h2
  obtain ⟨k, n, x, s, y, hcs, wx, ws, wn⟩ := open_val_csn h2
  refine ⟨⟨⟨nm, k, n, x, s, y⟩, op⟩, ?_, ?_, bounds_i64 wn⟩
  · have hcs2 : (cs.drop 2).take 5 = [.int .i64 k, .int .i64 n, .float .f64 x, .string s, .bool y] := by
      rw [← c24]; exact hcs
    match cs, hl.trans c33, h0, h1, hcs2 with
    | [v0, v1, v2, v3, v4, v5, v6], _, h0, h1, hcs2 =>
      simp at h0 h1 hcs2
      obtain ⟨rfl, rfl, rfl, rfl, rfl⟩ := hcs2
      subst h0 h1
      rfl
  · show x < _
    simpa [Lit.wf] using wx

theorem open_conds_cs {fuel : Nat} {a : Option Addr} {len cap : Nat} {x : DataW H × List MemPlace} (hsp : ∀ a', a = some a' → a'.spot = none) (hf : DataW.trod enc Try.prog w base sp held fuel 22 [.slice a len cap] = some x) :
    ∃ l : List Cn, l.length = len ∧ CondsB w.heap.size w a l ∧ (∀ c ∈ l, CnOk c) ∧ l.length ≤ maxLen := by
  have c33 : Try.prog.cellsOf 30 = 7 := by kernel_rfl
  rcases open_slice Try.underlying22 hf with ⟨h0, _⟩ | ⟨a', len', cap', m, n, D, Pl, hcs, hb, hl, hm, hmm, hx, hi⟩
  · have : Value.slice a len cap = .slice none 0 0 := by simpa using h0
    injection this with e1 e2 e3
    subst e1 e2 e3
    exact ⟨[], rfl, Or.inl rfl, by simp, by simp⟩
  · have : Value.slice a len cap = .slice (some a') len' cap' := by simpa using hcs
    injection this with e1 e2 e3
    subst e1 e2 e3
    have hsp := hsp a' rfl
    have hlm : len ≤ m := by rw [hmm]; split <;> omega
    have hex : ∀ i, ∃ at' : Cn, i < len → (w.cells? base (a'.add (i * 7)) 7 = some (encC at') ∧ CnOk at') := fun i => by
      by_cases hlt : i < len
      · obtain ⟨cs', hc, ht'⟩ := hi i (by omega)
        obtain ⟨at', rfl, hok⟩ := open_cond_cs ht'
        rw [c33] at hc
        exact ⟨at', fun _ => ⟨hc, hok⟩⟩
      · exact ⟨default, fun h => absurd h hlt⟩
    obtain ⟨f, hff⟩ := Classical.axiomOfChoice hex
    have hcell : ∀ i, i < len → ∀ c v, (encC (f i))[c]? = some v → w.cell? ⟨a'.block, a'.off + i * 7 + c, none⟩ = some v := fun i hlt c v hcv => by
      obtain ⟨_, _, hat⟩ := World.cells?_some (hff i hlt).1
      have hc6 : c < 7 := by
        have := (List.getElem?_eq_some_iff.1 hcv).1
        rw [encC_len] at this; exact this
      have := hat c hc6
      rw [add_flat a' hsp, add_flat _ rfl] at this
      rw [← hcv]; exact this
    refine ⟨(List.range len).map f, by simp, ?_, fun x hx => ?_, by simp; omega⟩
    · by_cases h0 : len = 0
      · subst h0; exact Or.inl rfl
      · refine Or.inr ⟨a'.block, a'.off, ?_, ?_, fun j hj c v hcv => ?_⟩
        · obtain ⟨b, o, s⟩ := a'; simp only at hsp; subst hsp; rfl
        · exact World.block_lt_of_cell? w ⟨a'.block, a'.off + 0 * 7 + 0, none⟩ (hcell 0 (by omega) 0 (.string (f 0).a.nm) rfl)
        · have hj' : j < len := by simpa using hj
          refine hcell j hj' c v ?_
          rw [← hcv]
          simp [hj']
    · obtain ⟨i, hi2, rfl⟩ := List.mem_map.1 hx
      exact (hff i (List.mem_range.1 hi2)).2

theorem open_filter {v : Value} {d : DataW H} {p : List MemPlace} (hv : Value.okWide Try.prog w r b0 24 v) (h : DataW.Trod enc Try.prog w base sp held 24 v d p) :
    ∃ (sc : ByteArray) (ao : Option Addr) (cap : Nat) (l : List Cn), v = .agg #[.string sc, .slice ao l.length cap] ∧ CondsB w.heap.size w ao l ∧ (∀ c ∈ l, CnOk c) ∧ l.length ≤ maxLen ∧ sc.size ≤ maxLen := by
  obtain ⟨cs, rfl, hsz⟩ := okWide_struct Try.underlying24 hv
  have hct : Try.prog.cellTypes Try.prog.depth 24 = some [9, 22] := by kernel_rfl
  have hrow : ∀ i u, cs[i]? = some u → ∃ t, ([9, 22] : List TypeId)[i % 2]? = some t ∧ Cell.okWide Try.prog w r b0 t u := by
    simp only [Value.okWide, Try.underlying24] at hv
    obtain ⟨cs', e1, _, ts, h1, _, h2⟩ := hv
    injection e1 with e1
    subst e1
    rw [hct] at h1
    injection h1 with h1
    subst h1
    exact h2
  obtain ⟨fuel, hf⟩ := h
  obtain ⟨xs, m, _, hx, hl, hxl, hall⟩ := DataW.trod_struct Try.underlying24 hf
  have c2 : Try.prog.cellsOf 24 = 2 := by kernel_rfl
  have cg : Try.prog.cellsOf 9 = 1 := by kernel_rfl
  have ch : Try.prog.cellsOf 22 = 1 := by kernel_rfl
  obtain ⟨b, e⟩ := one_field hxl hall 0 _ rfl 9 0 rfl rfl cg
  obtain ⟨sc, g0, _, w0⟩ := DataW.trod_string Try.underlying9 e
  have h0 := cell_of_take g0
  obtain ⟨b1, e1⟩ := one_field hxl hall 1 _ rfl 22 1 rfl rfl ch
  obtain ⟨cl⟩ := cs
  match cl, hsz.trans c2 with
  | [v0, v1], _ =>
    have hr1 := hrow 1 v1 rfl
    obtain ⟨t, ht, hk⟩ := hr1
    obtain rfl : 22 = t := by simpa using ht
    simp only [Value.cells] at h0 e1
    have hv0 : v0 = .string sc := by simpa using h0
    have hok : ∃ a len cap, v1 = .slice a len cap ∧ ∀ a', a = some a' → a'.spot = none := by
      simp only [Cell.okWide, Try.underlying22] at hk
      cases v1 with
      | slice a len cap =>
        refine ⟨a, len, cap, rfl, fun a' ha => ?_⟩
        subst ha
        simp only [Cell.ok, Try.underlying22, World.has] at hk
        exact hk.2.2.2.1
      | _ => simp_all [Cell.ok]
    obtain ⟨a, len, cap, rfl, hsp⟩ := hok
    obtain ⟨l, rfl, h2, h3, h4⟩ := open_conds_cs hsp (by simpa using e1)
    exact ⟨sc, a, cap, l, by rw [hv0], h2, h3, h4, w0⟩
end
end Go.Proofs.Ytecfbbddhnkilaa
