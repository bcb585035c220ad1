/- Fields of what comes in as an argument; a value among them. -/
import Derived.Test.YthkkdikfbagijaaGreatDoorV0
import Derived.Lib.SmallJoins
import Derived.ProofKit
import Derived.OpenShut
import Derived.ShutString
import Derived.Deep.Slices
import Derived.Deep.Fields
import Derived.ChangeSame
namespace Go.Proofs.YthkkdikfbagijaaGreatDoor
open Go.ChangeShapes Go.WideShapes Go.ChangeAt Go.RowKit Go.Joins Go.Deep
set_option maxRecDepth 100000

section
variable {H : Type} {enc : TypeId × Value → H} {P : Program} {w : World} {base : Nat} {spare : Nat → Bool} {held : Bool} {fuel : Nat} {t : TypeId} {cs : List Value} {x : DataW H × List MemPlace}
theorem trod_float_wf {k : FloatKind} (ht : P.underlying t = some (.float k)) (h : DataW.trod enc P w base spare held fuel t cs = some x) : ∃ n, cs = [.float k n] ∧ (Lit.float k n).wf = true := by
  cases fuel with
  | zero => simp [DataW.trod] at h
  | succ n =>
    unfold DataW.trod at h
    rw [ht] at h
    split at h <;> simp_all

/-- One field's reading, by its own cell. -/
theorem one_field {fs : Array Field} {xs : List (DataW H × List MemPlace)} {n : Nat} (hxl : xs.length = fs.size)
    (hall : ∀ (i : Nat) (f : Field), fs[i]? = some f → DataW.trod enc P w base spare held n f.type ((cs.drop f.offset).take (P.cellsOf f.type)) = xs[i]?)
    (i : Nat) (f : Field) (hf : fs[i]? = some f) (u : TypeId) (o : Nat) (hu : f.type = u) (ho : f.offset = o) (hc : P.cellsOf u = 1) : ∃ b, DataW.trod enc P w base spare held n u ((cs.drop o).take 1) = some b := by
  subst hu ho
  rw [← hc]
  have hi : i < fs.size := (Array.getElem?_eq_some_iff.1 hf).1
  exact ⟨xs[i]'(by omega), by rw [hall i f hf, List.getElem?_eq_getElem (by omega)]⟩
theorem cell_of_take {o : Nat} {v : Value} (h : (cs.drop o).take 1 = [v]) : cs[o]? = some v := by
  have := congrArg (·[0]?) h
  simpa [List.getElem?_take, List.getElem?_drop] using this
end
theorem add_flat (a : Addr) (h : a.spot = none) (k : Nat) : a.add k = ⟨a.block, a.off + k, none⟩ := by
  obtain ⟨b, o, s⟩ := a
  simp only at h
  subst h
  unfold Addr.add
  by_cases h0 : k = 0
  · subst h0; simp
  · simp [h0]


section
variable {H : Type} {enc : TypeId × Value → H} {w : World} {base b0 : Nat} {r : Reach} {sp : Nat → Bool} {held : Bool}
theorem open_val_csn {fuel : Nat} {cs : List Value} {x : DataW H × List MemPlace} (hf : DataW.trod enc Tryz.prog w base sp held fuel 24 cs = some x) :
    ∃ (k n : Int) (x : Nat) (s : ByteArray) (y : Bool), cs = [.int .i64 k, .int .i64 n, .float .f64 x, .string s, .bool y] ∧ (Lit.float .f64 x).wf = true ∧ s.size ≤ maxLen ∧ (Lit.int .i64 n).wf = true := by
  obtain ⟨xs, m, _, hx, hl, hxl, hall⟩ := DataW.trod_struct Tryz.underlying24 hf
  have c24 : Tryz.prog.cellsOf 24 = 5 := by kernel_rfl
  have ci : Tryz.prog.cellsOf 3 = 1 := by kernel_rfl
  have cj : Tryz.prog.cellsOf 2 = 1 := by kernel_rfl
  have cf : Tryz.prog.cellsOf 22 = 1 := by kernel_rfl
  have cg : Tryz.prog.cellsOf 9 = 1 := by kernel_rfl
  have cb : Tryz.prog.cellsOf 4 = 1 := by kernel_rfl
  obtain ⟨b, e⟩ := one_field hxl hall 0 _ rfl 3 0 rfl rfl ci
  obtain ⟨b1, e1⟩ := one_field hxl hall 1 _ rfl 2 1 rfl rfl cj
  obtain ⟨b2, e2⟩ := one_field hxl hall 2 _ rfl 22 2 rfl rfl cf
  obtain ⟨b3, e3⟩ := one_field hxl hall 3 _ rfl 9 3 rfl rfl cg
  obtain ⟨b4, e4⟩ := one_field hxl hall 4 _ rfl 4 4 rfl rfl cb
  obtain ⟨k, g0, _, _⟩ := DataW.trod_int Tryz.underlying3 e
  obtain ⟨n, g1, _, wn⟩ := DataW.trod_int Tryz.underlying2 e1
  obtain ⟨x, g2, w2⟩ := trod_float_wf Tryz.underlying22 e2
  obtain ⟨s, g3, _, w3⟩ := DataW.trod_string Tryz.underlying9 e3
  obtain ⟨y, g4, _⟩ := DataW.trod_bool Tryz.underlying4 e4
  have h0 := cell_of_take g0
  have h1 := cell_of_take g1
  have h2 := cell_of_take g2
  have h3 := cell_of_take g3
  have h4 := cell_of_take g4
  refine ⟨k, n, x, s, y, ?_, w2, w3, wn⟩
  match cs, hl.trans c24, h0, h1, h2, h3, h4 with
  | [v0, v1, v2, v3, v4], _, h0, h1, h2, h3, h4 =>
    simp at h0 h1 h2 h3 h4
    subst h0 h1 h2 h3 h4
    rfl
end
end Go.Proofs.YthkkdikfbagijaaGreatDoor
