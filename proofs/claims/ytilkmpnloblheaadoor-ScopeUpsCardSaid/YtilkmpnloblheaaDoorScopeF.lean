/- Package scope's contracts, carried from the law's first world; what each law of layer 5 begins with. -/
import Derived.Test.YtilkmpnloblheaaDoorParts
namespace Go.Proofs.YtilkmpnloblheaaDoor
open Go.RowKit Go.Shelf
open Go.Proofs
set_option maxRecDepth 100000

/-- The library's own variable holds some number. -/
def MaxI (W : World) : Prop := ∃ m, W.cell? ⟨0, 0, none⟩ = some (.int .i64 m)
theorem maxI_of {W : World} (h : W.ShapedOpen Tryd.prog) : MaxI W := Tryd.laysM219.s1_3 W h
theorem MaxI.below {w W : World} (h : MaxI w) (hb : Below w.heap.size w W) : MaxI W := by
  obtain ⟨m, hm⟩ := h
  exact ⟨m, (hb.cell (p := ⟨0, 0, none⟩) (World.block_lt_of_cell? _ _ hm)).trans hm⟩

theorem rightW (s : ByteArray) {w : World} (hm : MaxI w) (hs : s.size ≤ 1000) : ∀ W, Below w.heap.size w W → Calls Tryd.prog 11 #[.string s] W fun e W' => e = .returned (.bool (scopeOk s)) ∧ Below w.heap.size w W' :=
  fun W hW => (right_c s W hs (hm.below hW)).mono fun _ _ q => ⟨q.1, hW.trans (q.2.mono hW.size)⟩
theorem underW (s t : ByteArray) (w : World) (ht : t.size ≤ 300) : ∀ W, Below w.heap.size w W → Calls Tryd.prog 12 #[.string s, .string t] W fun e W' => e = .returned (.bool (underB s t)) ∧ Below w.heap.size w W' :=
  fun W hW => (under_c s t ht W).mono fun _ _ q => ⟨q.1, q.2 ▸ hW⟩
theorem nameW (s : ByteArray) (w : World) : ∀ W, Below w.heap.size w W → Calls Tryd.prog 10 #[.string s] W fun e W' => e = .returned (.bool (nameOk s)) ∧ Below w.heap.size w W' :=
  fun W hW => (name_c s W).mono fun _ _ q => ⟨q.1, q.2 ▸ hW⟩
def PartsIn (s : ByteArray) (w W : World) (e : Ending) (W' : World) : Prop := ∃ b cap, e = .returned (.slice (some ⟨b, 0, none⟩) (cutB s).length cap) ∧ TextsAt w.heap.size W' b (cutB s) ∧ Below w.heap.size w W' ∧ Below W.heap.size W W'
theorem partsW (s : ByteArray) (w : World) (hs : s.size ≤ 1000) : ∀ W, Below w.heap.size w W → Calls Tryd.prog 9 #[.string s] W (PartsIn s w W) :=
  fun W hW => (parts_c s W hs).mono fun _ _ ⟨b, cap, he, ht, hb⟩ => ⟨b, cap, he, ⟨Nat.le_trans hW.size ht.1, ht.2⟩, hW.trans (hb.mono hW.size), hb⟩

set_option maxHeartbeats 1000000 in
theorem fit5_c {w : World} (hm : MaxI w) : ∀ W, Below w.heap.size w W → Calls Tryd.prog 8 #[] W fun e W' => e = .returned (.bool true) ∧ Below w.heap.size w W' := by
  intro W hW
  have u1 := underW ⟨#[97, 47, 98]⟩ ⟨#[97]⟩ w (by decide)
  have u2 := underW ⟨#[97, 98]⟩ ⟨#[97]⟩ w (by decide)
  have r1 := rightW ⟨#[97, 47, 98]⟩ hm (by decide)
  have r2 := rightW ⟨#[47, 97]⟩ hm (by decide)
  have n1 := nameW ⟨#[97]⟩ w
  rw [show underB ⟨#[97, 47, 98]⟩ ⟨#[97]⟩ = true by decide +kernel] at u1
  rw [show underB ⟨#[97, 98]⟩ ⟨#[97]⟩ = false by decide +kernel] at u2
  rw [show scopeOk ⟨#[97, 47, 98]⟩ = true by decide +kernel] at r1
  rw [show scopeOk ⟨#[47, 97]⟩ = false by decide +kernel] at r2
  rw [show nameOk ⟨#[97]⟩ = true by decide +kernel] at n1
  have U1 := Lib.hid u1
  have U2 := Lib.hid u2
  have R1 := Lib.hid r1
  have R2 := Lib.hid r2
  have N1 := Lib.hid n1
  have HW := Lib.hid hW
  clear u1 u2 r1 r2 n1 hW hm
  go_enter Tryd.func8, Tryd.ntmps8
  go_wp2_with fail
  refine (U1.out _ HW.out).mono ?_
  rintro e w1 ⟨rfl, hb1⟩
  have H1 := Lib.hid hb1
  clear hb1
  go_wp2_with fail
  refine (U2.out _ H1.out).mono ?_
  rintro e w2 ⟨rfl, hb2⟩
  have H2 := Lib.hid hb2
  clear hb2
  go_wp2_with fail
  refine (R1.out _ H2.out).mono ?_
  rintro e w3 ⟨rfl, hb3⟩
  have H3 := Lib.hid hb3
  clear hb3
  go_wp2_with fail
  refine (R2.out _ H3.out).mono ?_
  rintro e w4 ⟨rfl, hb4⟩
  have H4 := Lib.hid hb4
  clear hb4
  go_wp2_with fail
  refine (N1.out _ H4.out).mono ?_
  rintro e w5 ⟨rfl, hb5⟩
  have H5 := Lib.hid hb5
  clear hb5
  go_wp2_with fail
  go_ret
  exact ⟨rfl, H5.out⟩
end Go.Proofs.YtilkmpnloblheaaDoor
