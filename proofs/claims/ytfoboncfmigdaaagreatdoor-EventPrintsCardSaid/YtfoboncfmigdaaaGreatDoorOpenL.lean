/- A list of attributes that comes in as an argument: what it is as the program holds it. -/
import Derived.Test.YtfoboncfmigdaaaGreatDoorAtP
import Derived.Test.YtfoboncfmigdaaaGreatDoorOpenP
import Derived.Lib.SmallJoins
import Derived.ProofKit
import Derived.OpenShut
import Derived.ShutString
import Derived.Deep.Slices
import Derived.Deep.Fields
import Derived.ChangeSame
namespace Go.Proofs.YtfoboncfmigdaaaGreatDoor
open Go.ChangeShapes Go.WideShapes Go.ChangeAt Go.RowKit Go.Joins Go.Deep
set_option maxRecDepth 100000



section
variable {H : Type} {enc : TypeId × Value → H} {w : World} {base b0 : Nat} {r : Reach} {sp : Nat → Bool} {held : Bool}
theorem open_val_cs {fuel : Nat} {cs : List Value} {x : DataW H × List MemPlace} (hf : DataW.trod enc Tryz.prog w base sp held fuel 31 cs = some x) :
    ∃ (k n : Int) (x : Nat) (s : ByteArray) (y : Bool), cs = [.int .i64 k, .int .i64 n, .float .f64 x, .string s, .bool y] ∧ (Lit.float .f64 x).wf = true ∧ s.size ≤ maxLen := by
  obtain ⟨xs, m, _, hx, hl, hxl, hall⟩ := DataW.trod_struct Tryz.underlying31 hf
  have c24 : Tryz.prog.cellsOf 31 = 5 := by kernel_rfl
  have ci : Tryz.prog.cellsOf 3 = 1 := by kernel_rfl
  have cj : Tryz.prog.cellsOf 2 = 1 := by kernel_rfl
  have cf : Tryz.prog.cellsOf 29 = 1 := by kernel_rfl
  have cg : Tryz.prog.cellsOf 9 = 1 := by kernel_rfl
  have cb : Tryz.prog.cellsOf 4 = 1 := by kernel_rfl
  obtain ⟨b, e⟩ := one_field hxl hall 0 _ rfl 3 0 rfl rfl ci
  obtain ⟨b1, e1⟩ := one_field hxl hall 1 _ rfl 2 1 rfl rfl cj
  obtain ⟨b2, e2⟩ := one_field hxl hall 2 _ rfl 29 2 rfl rfl cf
  obtain ⟨b3, e3⟩ := one_field hxl hall 3 _ rfl 9 3 rfl rfl cg
  obtain ⟨b4, e4⟩ := one_field hxl hall 4 _ rfl 4 4 rfl rfl cb
  obtain ⟨k, g0, _, _⟩ := DataW.trod_int Tryz.underlying3 e
  obtain ⟨n, g1, _, _⟩ := DataW.trod_int Tryz.underlying2 e1
  obtain ⟨x, g2, w2⟩ := trod_float_wf Tryz.underlying29 e2
  obtain ⟨s, g3, _, w3⟩ := DataW.trod_string Tryz.underlying9 e3
  obtain ⟨y, g4, _⟩ := DataW.trod_bool Tryz.underlying4 e4
  have h0 := cell_of_take g0
  have h1 := cell_of_take g1
  have h2 := cell_of_take g2
  have h3 := cell_of_take g3
  have h4 := cell_of_take g4
  refine ⟨k, n, x, s, y, ?_, w2, w3⟩
  match cs, hl.trans c24, h0, h1, h2, h3, h4 with
  | [v0, v1, v2, v3, v4], _, h0, h1, h2, h3, h4 =>
    simp at h0 h1 h2 h3 h4
    subst h0 h1 h2 h3 h4
    rfl
theorem open_attr_cs {fuel : Nat} {cs : List Value} {x : DataW H × List MemPlace} (hf : DataW.trod enc Tryz.prog w base sp held fuel 33 cs = some x) :
    ∃ a : At, cs = encA a ∧ AtOk a := by
  obtain ⟨xs, m, _, hx, hl, hxl, hall⟩ := DataW.trod_struct Tryz.underlying33 hf
  have c33 : Tryz.prog.cellsOf 33 = 6 := by kernel_rfl
  have c24 : Tryz.prog.cellsOf 31 = 5 := by kernel_rfl
  have cg : Tryz.prog.cellsOf 9 = 1 := by kernel_rfl
  obtain ⟨b, e⟩ := one_field hxl hall 0 _ rfl 9 0 rfl rfl cg
  obtain ⟨nm, g0, _, w0⟩ := DataW.trod_string Tryz.underlying9 e
  have h0 := cell_of_take g0
  have h1 := hall 1 _ rfl
  have hsz : xs.length = 2 := hxl
  rw [List.getElem?_eq_getElem (by omega)] at h1
  obtain ⟨k, n, x, s, y, hcs, wx, ws⟩ := open_val_cs h1
  refine ⟨⟨nm, k, n, x, s, y⟩, ?_, ?_⟩
  · have hcs2 : (cs.drop 1).take 5 = [.int .i64 k, .int .i64 n, .float .f64 x, .string s, .bool y] := by
      rw [← c24]; exact hcs
    match cs, hl.trans c33, h0, hcs2 with
    | [v0, v1, v2, v3, v4, v5], _, h0, hcs2 =>
      simp at h0 hcs2
      obtain ⟨rfl, rfl, rfl, rfl, rfl⟩ := hcs2
      subst h0
      rfl
  · show x < _
    simpa [Lit.wf] using wx

theorem open_attrs {v : Value} {d : DataW H} {p : List MemPlace} (hv : Value.okWide Tryz.prog w r b0 22 v) (h : DataW.Trod enc Tryz.prog w base sp held 22 v d p) :
    ∃ (ao : Option Addr) (cap : Nat) (l : List At), v = .slice ao l.length cap ∧ SliceA w ao l ∧ (∀ a ∈ l, AtOk a) ∧ l.length ≤ maxLen := by
  obtain ⟨fuel, hf⟩ := h
  obtain ⟨a, len, cap, rfl⟩ := okWide_slice Tryz.underlying22 hv
  have c33 : Tryz.prog.cellsOf 33 = 6 := by kernel_rfl
  rcases open_slice Tryz.underlying22 hf with ⟨h0, _⟩ | ⟨a', len', cap', m, n, D, Pl, hcs, hb, hl, hm, hmm, hx, hi⟩
  · have : Value.slice a len cap = .slice none 0 0 := by simpa [Value.cells] using h0
    injection this with e1 e2 e3
    subst e1 e2 e3
    exact ⟨none, 0, [], rfl, Or.inl rfl, by simp, by simp⟩
  · have : Value.slice a len cap = .slice (some a') len' cap' := by simpa [Value.cells] using hcs
    injection this with e1 e2 e3
    subst e1 e2 e3
    have hsp : a'.spot = none := by
      simp only [Value.okWide, Tryz.underlying22, Cell.okWide, Cell.ok, World.has] at hv
      exact hv.2.2.2.1
    have hlm : len ≤ m := by rw [hmm]; split <;> omega
    have hex : ∀ i, ∃ at' : At, i < len → (w.cells? base (a'.add (i * 6)) 6 = some (encA at') ∧ AtOk at') := fun i => by
      by_cases hlt : i < len
      · obtain ⟨cs', hc, ht'⟩ := hi i (by omega)
        obtain ⟨at', rfl, hok⟩ := open_attr_cs ht'
        rw [c33] at hc
        exact ⟨at', fun _ => ⟨hc, hok⟩⟩
      · exact ⟨default, fun h => absurd h hlt⟩
    obtain ⟨f, hff⟩ := Classical.axiomOfChoice hex
    have hcell : ∀ i, i < len → ∀ c v, (encA (f i))[c]? = some v → w.cell? ⟨a'.block, a'.off + i * 6 + c, none⟩ = some v := fun i hlt c v hcv => by
      obtain ⟨_, _, hat⟩ := World.cells?_some (hff i hlt).1
      have hc6 : c < 6 := by
        have := (List.getElem?_eq_some_iff.1 hcv).1
        rw [encA_len] at this; exact this
      have := hat c hc6
      rw [add_flat a' hsp, add_flat _ rfl] at this
      rw [← hcv]; exact this
    refine ⟨some a', cap, (List.range len).map f, by simp, ?_, fun x hx => ?_, by simp; omega⟩
    · by_cases h0 : len = 0
      · subst h0; exact Or.inl rfl
      · refine Or.inr ⟨a'.block, a'.off, ?_, ?_, fun j hj c v hcv => ?_⟩
        · obtain ⟨b, o, s⟩ := a'; simp only at hsp; subst hsp; rfl
        · exact World.block_lt_of_cell? w ⟨a'.block, a'.off + 0 * 6 + 0, none⟩ (hcell 0 (by omega) 0 (.string (f 0).nm) rfl)
        · have hj' : j < len := by simpa using hj
          refine hcell j hj' c v ?_
          rw [← hcv]
          simp [hj']
    · obtain ⟨i, hi2, rfl⟩ := List.mem_map.1 hx
      exact (hff i (List.mem_range.1 hi2)).2
end
end Go.Proofs.YtfoboncfmigdaaaGreatDoor
