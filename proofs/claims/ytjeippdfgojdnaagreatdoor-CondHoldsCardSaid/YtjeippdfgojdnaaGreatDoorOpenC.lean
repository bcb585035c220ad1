/- A condition that comes in as an argument: what it is as the program holds it. -/
import Derived.Test.YtjeippdfgojdnaaGreatDoorOpenP
import Derived.Test.YtjeippdfgojdnaaGreatDoorCondW
import Derived.WideShapes
import Derived.Lib.SmallJoins
namespace Go.Proofs.YtjeippdfgojdnaaGreatDoor
open Go.ChangeShapes Go.WideShapes Go.ChangeAt Go.RowKit Go.Joins Go.Deep
set_option maxRecDepth 100000

/-- What Go's own memory allows of a condition. -/
def CnOk (c : Cn) : Prop := AtOk c.a ∧ -9223372036854775808 ≤ c.a.n ∧ c.a.n ≤ 9223372036854775807
section
variable {H : Type} {enc : TypeId × Value → H} {w : World} {base b0 : Nat} {r : Reach} {sp : Nat → Bool} {held : Bool}
theorem open_cond_csz {fuel : Nat} {cs : List Value} {x : DataW H × List MemPlace} (hf : DataW.trod enc Tryz.prog w base sp held fuel 26 cs = some x) : ∃ a : Cn, cs = encC a ∧ CnOk a ∧ a.a.nm.size ≤ maxLen ∧ a.a.s.size ≤ maxLen := by
  obtain ⟨xs, m, _, hx, hl, hxl, hall⟩ := DataW.trod_struct Tryz.underlying26 hf
  have c33 : Tryz.prog.cellsOf 26 = 7 := by kernel_rfl
  have c24 : Tryz.prog.cellsOf 24 = 5 := by kernel_rfl
  have cg : Tryz.prog.cellsOf 9 = 1 := by kernel_rfl
  have ci : Tryz.prog.cellsOf 3 = 1 := by kernel_rfl
  obtain ⟨b, e⟩ := one_field hxl hall 0 _ rfl 9 0 rfl rfl cg
  obtain ⟨nm, g0, _, w0⟩ := DataW.trod_string Tryz.underlying9 e
  have h0 := cell_of_take g0
  obtain ⟨b1, e1⟩ := one_field hxl hall 1 _ rfl 3 1 rfl rfl ci
  obtain ⟨op, g1, _, _⟩ := DataW.trod_int Tryz.underlying3 e1
  have h1 := cell_of_take g1
  have h2 := hall 2 _ rfl
  have hsz : xs.length = 3 := hxl
  rw [List.getElem?_eq_getElem (by omega)] at h2
  obtain ⟨k, n, x, s, y, hcs, wx, ws, wn⟩ := open_val_csn h2
  refine ⟨⟨⟨nm, k, n, x, s, y⟩, op⟩, ?_, ⟨?_, bounds_i64 wn⟩, w0, ws⟩
  · have hcs2 : (cs.drop 2).take 5 = [.int .i64 k, .int .i64 n, .float .f64 x, .string s, .bool y] := by
      rw [← c24]; exact hcs
    match cs, hl.trans c33, h0, h1, hcs2 with
    | [v0, v1, v2, v3, v4, v5, v6], _, h0, h1, hcs2 =>
      simp at h0 h1 hcs2
      obtain ⟨rfl, rfl, rfl, rfl, rfl⟩ := hcs2
      subst h0 h1
      rfl
  · show x < _
    simpa [Lit.wf] using wx


theorem open_cond {v : Value} {d : DataW H} {p : List MemPlace} (hv : Value.okWide Tryz.prog w r b0 26 v) (h : DataW.Trod enc Tryz.prog w base sp held 26 v d p) :
    ∃ (nm : ByteArray) (op k n : Int) (x : Nat) (s : ByteArray) (y : Bool), v = cnd nm op k n x s y ∧ x < 18446744073709551616 ∧ (-9223372036854775808 ≤ n ∧ n ≤ 9223372036854775807) ∧ nm.size ≤ maxLen ∧ s.size ≤ maxLen := by
  obtain ⟨cs, rfl, hsz⟩ := okWide_struct Tryz.underlying26 hv
  obtain ⟨fuel, hf⟩ := h
  obtain ⟨⟨⟨nm, k, n, x, s, y⟩, op⟩, hcs, ⟨hx, hn⟩, h1, h2⟩ := open_cond_csz hf
  refine ⟨nm, op, k, n, x, s, y, ?_, hx, hn, h1, h2⟩
  obtain ⟨l⟩ := cs
  have : l = encC ⟨⟨nm, k, n, x, s, y⟩, op⟩ := hcs
  subst this
  rfl
end
end Go.Proofs.YtjeippdfgojdnaaGreatDoor
