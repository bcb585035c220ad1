/- A value that comes in as an argument: what it is, as data and as the program holds it. -/
import Derived.Test.YthkkdikfbagijaaGreatDoorVal
import Derived.Test.YthkkdikfbagijaaGreatDoorOpenP
import Derived.Lib.SmallJoins
import Derived.ProofKit
import Derived.OpenShut
import Derived.ShutString
namespace Go.Proofs.YthkkdikfbagijaaGreatDoor
open Go.ChangeShapes Go.WideShapes Go.ChangeAt Go.RowKit Go.Joins
set_option maxRecDepth 100000


theorem open_val {H : Type} {enc : TypeId × Value → H} {w : World} {base b0 : Nat} {r : Reach} {sp : Nat → Bool} {held : Bool} {v : Value} {d : DataW H} {p : List MemPlace}
    (hv : Value.okWide Tryz.prog w r b0 24 v) (h : DataW.Trod enc Tryz.prog w base sp held 24 v d p) :
    ∃ (k n : Int) (x : Nat) (s : ByteArray) (y : Bool), v = val k n x s y ∧ (Lit.int .i64 k).wf = true ∧ (Lit.int .i64 n).wf = true ∧ (Lit.float .f64 x).wf = true ∧ s.size ≤ maxLen := by
  obtain ⟨cs, rfl, hsz⟩ := okWide_struct Tryz.underlying24 hv
  obtain ⟨fuel, hf⟩ := h
  obtain ⟨xs, m, _, hx, hl, hxl, hall⟩ := DataW.trod_struct Tryz.underlying24 hf
  have c24 : Tryz.prog.cellsOf 24 = 5 := by kernel_rfl
  have ci : Tryz.prog.cellsOf 3 = 1 := by kernel_rfl
  have cj : Tryz.prog.cellsOf 2 = 1 := by kernel_rfl
  have cf : Tryz.prog.cellsOf 22 = 1 := by kernel_rfl
  have cg : Tryz.prog.cellsOf 9 = 1 := by kernel_rfl
  have cb : Tryz.prog.cellsOf 4 = 1 := by kernel_rfl
  obtain ⟨b, e⟩ := one_field hxl hall 0 _ rfl 3 0 rfl rfl ci
  obtain ⟨b1, e1⟩ := one_field hxl hall 1 _ rfl 2 1 rfl rfl cj
  obtain ⟨b2, e2⟩ := one_field hxl hall 2 _ rfl 22 2 rfl rfl cf
  obtain ⟨b3, e3⟩ := one_field hxl hall 3 _ rfl 9 3 rfl rfl cg
  obtain ⟨b4, e4⟩ := one_field hxl hall 4 _ rfl 4 4 rfl rfl cb
  obtain ⟨k, g0, _, w0⟩ := DataW.trod_int Tryz.underlying3 e
  obtain ⟨n, g1, _, w1⟩ := DataW.trod_int Tryz.underlying2 e1
  obtain ⟨x, g2, w2⟩ := trod_float_wf Tryz.underlying22 e2
  obtain ⟨s, g3, _, w3⟩ := DataW.trod_string Tryz.underlying9 e3
  obtain ⟨y, g4, _⟩ := DataW.trod_bool Tryz.underlying4 e4
  have h0 := cell_of_take g0
  have h1 := cell_of_take g1
  have h2 := cell_of_take g2
  have h3 := cell_of_take g3
  have h4 := cell_of_take g4
  refine ⟨k, n, x, s, y, ?_, w0, w1, w2, w3⟩
  obtain ⟨l⟩ := cs
  match l, hsz.trans c24, h0, h1, h2, h3, h4 with
  | [v0, v1, v2, v3, v4], _, h0, h1, h2, h3, h4 =>
    simp [Value.cells] at h0 h1 h2 h3 h4
    subst h0 h1 h2 h3 h4
    rfl
end Go.Proofs.YthkkdikfbagijaaGreatDoor
