/- What each law of layer 3 begins with: the text of one event; two names. -/
import Derived.Test.YtfoboncfmigdaaaGreatDoorNew
import Derived.Test.YtfoboncfmigdaaaGreatDoorGaN
import Derived.Test.YtfoboncfmigdaaaGreatDoorRunP
import Derived.Deep.RegionWith
namespace Go.Proofs.YtfoboncfmigdaaaGreatDoor
open Go.RowKit Go.Shelf Go.Sort
open Go.Proofs
set_option maxRecDepth 100000

theorem fmtThree_c (w : World) : Calls Tryz.prog 22 #[.int .i64 3, .int .i64 10] w fun e w' => e = .returned (.string ⟨#[51]⟩) ∧ w = w' :=
  calls_run Tryz.f22 (stepsOf 22 #[.int .i64 3, .int .i64 10] w) (endOf 22 #[.int .i64 3, .int .i64 10] w) (fun cs => by kernel_rfl) (by kernel_rfl) (by kernel_rfl) (by kernel_rfl) (by kernel_rfl) Tryz.func22 (by kernel_rfl)
theorem nameYes_c (w : World) : Calls Tryz.prog 12 #[.string ⟨#[97, 49]⟩] w fun e w' => e = .returned (.bool true) ∧ w = w' :=
  calls_run Tryz.f12 (stepsOf 12 #[.string ⟨#[97, 49]⟩] w) (endOf 12 #[.string ⟨#[97, 49]⟩] w) (fun cs => by kernel_rfl) (by kernel_rfl) (by kernel_rfl) (by kernel_rfl) (by kernel_rfl) Tryz.func12 (by kernel_rfl)
theorem nameNo_c (w : World) : Calls Tryz.prog 12 #[.string ⟨#[49, 97]⟩] w fun e w' => e = .returned (.bool false) ∧ w = w' :=
  calls_run Tryz.f12 (stepsOf 12 #[.string ⟨#[49, 97]⟩] w) (endOf 12 #[.string ⟨#[49, 97]⟩] w) (fun cs => by kernel_rfl) (by kernel_rfl) (by kernel_rfl) (by kernel_rfl) (by kernel_rfl) Tryz.func12 (by kernel_rfl)

@[go_sem] theorem ta_int (n : Int) (w : World) : (Instr.typeAssert (.iface 3 (.int .i64 n)) 20 3 true).run Tryz.prog w = .ok (.tuple #[.int .i64 n, .bool true]) w := by kernel_rfl
set_option maxHeartbeats 1000000 in
theorem of_int (n : Int) (w : World) : Calls Tryz.prog 11 #[.iface 3 (.int .i64 n)] w fun e w' => e = .returned (.tuple #[val 0 n 0 ⟨#[]⟩ false, .bool true]) ∧ Below w.heap.size w w' := by
  go_enter Tryz.func11, Tryz.ntmps11
  go_wp2
  refine bodyPost_ret (v := .tuple #[val 0 n 0 ⟨#[]⟩ false, .bool true]) (by simp [results, Tryz.results11, go_sem]) rfl ⟨rfl, ?_⟩
  exact (((Below.refl _ _).alloc (Nat.le_refl _) _))
set_option maxHeartbeats 1000000 in
theorem printThree_c (w : World) : Calls Tryz.prog 8 #[val 0 3 0 ⟨#[]⟩ false] w fun e w' => e = .returned (.string ⟨#[51]⟩) ∧ Below w.heap.size w w' := by
  go_enter Tryz.func8, Tryz.ntmps8
  go_wp2_with (go_at_call 22; refine (fmtThree_c _).mono ?_; rintro e w' ⟨rfl, rfl⟩)
  go_ret
  exact ⟨rfl, ((Below.refl _ _).alloc (Nat.le_refl _) _)⟩

/-- The one attribute of that text. -/
def xA : At := ⟨⟨#[120]⟩, 0, 3, 0, ⟨#[]⟩, false⟩
theorem newOf_one (a : At) (res : List At) (h : NewOf [a] res) : res = [canonA a] := by
  obtain ⟨D, g, _, rfl⟩ := h
  have hs := g.size
  obtain ⟨s, s1, s2, e⟩ := g.mem 0 (Nat.le_refl _) (by simp)
  have : s = 0 := by simp at s2; omega
  subst this
  simp only [List.length_cons, List.length_nil, dd]
  simp only [List.reverse_cons, List.reverse_nil, List.nil_append, List.map_cons, List.map_nil] at e
  simp [e]

theorem builder_on {B b : Nat} {p : Value} {bs : List Value} {w w' : World} (h : BuilderA B b p bs w) (hb : Below w.heap.size w w') : BuilderA B b p bs w' := by
  have hlt := h.lt
  obtain ⟨hB, v, hbk, hown, hne⟩ := h
  refine ⟨hB, v, (hb.block b hlt).trans hbk, hown.kept (row := none) ⟨hb.os, hb.tape, hb.output, hb.size, fun k hk _ => hb.block k hk⟩ ?_, hne⟩
  cases v.ownBlock with
  | none => exact .inl rfl
  | some k => exact .inr (by simp)

theorem cells7 : ([] : List Value) ++ Lib.strCells (⟨#[91]⟩ ++ ⟨#[97]⟩ ++ ⟨#[93]⟩) ++ Lib.strCells (⟨#[32]⟩ ++ ⟨#[120]⟩ ++ ⟨#[61]⟩ ++ ⟨#[51]⟩) = Lib.byteCells [91, 97, 93, 32, 120, 61, 51] := by kernel_rfl

set_option maxHeartbeats 4000000 in
theorem printOne_c (G cap : Nat) (W : World) (hG : G < W.heap.size) (hr : RowAt W G 0 [xA]) :
    Calls Tryz.prog 9 #[.agg #[.string ⟨#[97]⟩, .slice (some ⟨G, 0, none⟩) 1 cap]] W fun e w' => e = .returned (.string ⟨#[91, 97, 93, 32, 120, 61, 51]⟩) ∧ Below W.heap.size W w' := by
  have HR : Aside (RowAt W G 0 [xA]) := hr
  clear hr
  have FB := Lib.fresh_isBuilder 57 5 (W.alloc (.cells #[.string ⟨#[97]⟩, .slice (some ⟨G, 0, none⟩) 1 cap] 26))
  rw [World.size_alloc] at FB
  have FB' : Aside _ := FB
  clear FB
  go_enter Tryz.func9, Tryz.ntmps9
  go_wp2_with fail
  refine (writeString_c (W.heap.size + 1) (W.heap.size + 1) [] _ _ FB'.out (by decide) (by simp)).mono ?_
  rintro e w1 ⟨rfl, B1, hb1⟩
  have hz1 := hb1.size
  simp only [World.size_alloc] at hz1
  have e1 : w1.cell? ⟨W.heap.size, 1, none⟩ = some (.slice (some ⟨G, 0, none⟩) 1 cap) := by
    rw [hb1.cell (p := ⟨W.heap.size, 1, none⟩) (by simp), World.cell?_alloc_lt _ _ _ (by simp), World.cell?_alloc_new]; rfl
  have HB1 : Aside (Below W.heap.size W w1) := (((Below.refl _ W).alloc (Nat.le_refl _) _).alloc (by simp) _).trans (hb1.mono (by omega))
  have BB1 : Aside (BuilderA (W.heap.size + 1) (W.heap.size + 1) (.pointer (some ⟨W.heap.size + 1, 0, none⟩)) ([] ++ Lib.strCells (⟨#[91]⟩ ++ ⟨#[97]⟩ ++ ⟨#[93]⟩)) w1) := B1
  have R1 := RowAt.below HB1.out hG HR.out 0 (by simp)
  have g0 := R1 0 (.string ⟨#[120]⟩) rfl; have g1 := R1 1 (.int .i64 0) rfl; have g2 := R1 2 (.int .i64 3) rfl; have g3 := R1 3 (.float .f64 0) rfl; have g4 := R1 4 (.string ⟨#[]⟩) rfl; have g5 := R1 5 (.bool false) rfl
  simp only [Nat.zero_add, Nat.zero_mul] at g0 g1 g2 g3 g4 g5
  clear B1 hb1 R1 FB'
  have hB : W.heap.size ≤ W.heap.size + 1 := Nat.le_succ _
  generalize W.heap.size + 1 = B at *
  go_wp2_with fail
  refine wp_loop_rounds 2 ?_
  rw [rounds_succ]
  go_wp2_with fail
  have B2 := builder_on BB1.out ((Below.refl w1.heap.size w1).alloc (Nat.le_refl _) (.cells #[.string ⟨#[120]⟩, .int .i64 0, .int .i64 3, .float .f64 0, .string ⟨#[]⟩, .bool false] 33))
  have BB2 : Aside _ := B2
  have HB2 : Aside (Below W.heap.size W (w1.alloc (.cells #[.string ⟨#[120]⟩, .int .i64 0, .int .i64 3, .float .f64 0, .string ⟨#[]⟩, .bool false] 33))) := HB1.out.alloc (by have := HB1.out.size; omega) _
  obtain ⟨A, hA⟩ : ∃ A, A = w1.heap.size := ⟨_, rfl⟩
  obtain ⟨w2, hw2⟩ : ∃ w2, w2 = w1.alloc (.cells #[.string ⟨#[120]⟩, .int .i64 0, .int .i64 3, .float .f64 0, .string ⟨#[]⟩, .bool false] 33) := ⟨_, rfl⟩
  have hA2 : A < w2.heap.size := by rw [hw2, hA]; simp
  have yy : ∀ i, w2.cell? ⟨A, i, none⟩ = (#[Value.string ⟨#[120]⟩, .int .i64 0, .int .i64 3, .float .f64 0, .string ⟨#[]⟩, .bool false])[i]? := fun i => by rw [hw2, hA, World.cell?_alloc_new]
  have y0 := yy 0; have y1 := yy 1; have y2 := yy 2; have y3 := yy 3; have y4 := yy 4; have y5 := yy 5
  simp only [List.getElem?_toArray, List.getElem?_cons_zero, List.getElem?_cons_succ] at y0 y1 y2 y3 y4 y5
  have hz2 : B < w2.heap.size := by rw [hw2]; simp; omega
  rw [← hw2] at BB2 HB2
  rw [← hw2, ← hA]
  clear hA hw2 yy B2 BB1 HB1 e1 g0 g1 g2 g3 g4 g5 hz1
  go_region_with (first
    | (go_at_call 8; refine (printThree_c _).mono ?_; rintro e w3 ⟨rfl, hb3⟩; have BB3 : Aside _ := builder_on BB2.out ⟨hb3.os, hb3.tape, hb3.output, hb3.size, hb3.block⟩; have y03 := (hb3.cell (p := ⟨A, 0, none⟩) hA2).trans y0; have HB3 : Aside (Below W.heap.size W w3) := HB2.out.trans (Below.mono ⟨hb3.os, hb3.tape, hb3.output, hb3.size, hb3.block⟩ HB2.out.size); have hz3 := hb3.size)
    | (go_at_call 25; refine (writeString_c B B _ _ _ (Or.inr BB3.out) (by decide) (by first | exact Nat.le_of_lt (Nat.lt_of_lt_of_le hz2 hz3))).mono ?_; rintro e w4 ⟨rfl, BB4, hb4⟩))
  all_goals (
    go_wp2_with fail
    rw [rounds_succ]
    go_wp2_with fail
    refine (Tryz.Builder_String B B [91, 97, 93, 32, 120, 61, 51] w4 (Or.inr (cells7 ▸ BB4)) (by simp)).mono ?_
    rintro e w5 ⟨rfl, hb5⟩
    go_wp2_with fail
    go_ret
    exact ⟨rfl, (HB3.out.trans (hb4.mono (by first | exact Nat.le_trans hB hz4 | exact hB | omega))).trans (hb5.mono (by first | exact hB | omega))⟩)
end Go.Proofs.YtfoboncfmigdaaaGreatDoor
