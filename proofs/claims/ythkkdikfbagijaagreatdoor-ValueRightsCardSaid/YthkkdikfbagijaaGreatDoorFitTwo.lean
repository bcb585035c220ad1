/- What the statements of layer 2 begin with: it is true in every world that holds the tables. -/
import Derived.Test.YthkkdikfbagijaaGreatDoorRead
namespace Go.Proofs.YthkkdikfbagijaaGreatDoor
open Go.RowKit
set_option maxRecDepth 100000

set_option maxHeartbeats 1000000 in
theorem guessThree_c (w : World) (hT : Tabs w) :
    Calls Tryz.prog 10 #[.string ⟨#[51, 46, 48]⟩] w fun e w' => e = .returned (.tuple #[val 1 0 4613937818241073152 ⟨#[]⟩ false, .bool true]) ∧ Below w.heap.size w w' := by
  obtain ⟨tp, p, hv⟩ := hT.es
  have B0 : Below w.heap.size w (w.alloc (.cells (vals 0 0 0 ⟨#[]⟩ false) 24)) := (Below.refl _ _).alloc (Nat.le_refl _) _
  have hT1 := hT.on B0
  have hv1 : (w.alloc (.cells (vals 0 0 0 ⟨#[]⟩ false) 24)).var? Tryz.prog "strconv.ErrSyntax" = some #[.iface tp p] := by
    have h1 := World.var?_cell (g := 0) (by kernel_rfl) hv 0
    exact var?_below B0 (g := 0) (by kernel_rfl) (World.block_lt_of_cell? w ⟨0, 0, none⟩ (by simpa using h1)) hv
  have HV := Lib.hid hv1; have HT := Lib.hid hT1; have HB0 := Lib.hid B0; clear hv hT hv1 hT1 B0
  go_enter Tryz.func10, Tryz.ntmps10
  go_wp2_with fail
  refine (unquoteThree_c _ tp p HV.out).mono ?_
  rintro e w1 ⟨rfl, hb1⟩
  have hT1 := HT.out.on hb1
  obtain ⟨tp2, p2, hv2⟩ := hT1.es
  have c2 : w1.cell? ⟨w.heap.size, 0, none⟩ = some (.int .i64 0) := by rw [hb1.cell (p := ⟨w.heap.size, 0, none⟩) (by simp)]; simp
  have HB1 := Lib.hid hb1; have HT1 := Lib.hid hT1; have HV2 := Lib.hid hv2; clear hb1 hT1 hv2 c2
  go_wp2_with fail
  refine (Tryz.strconv_ParseInt_10_at64_syntax_var ⟨#[51, 46, 48]⟩ (by decide) (by decide +kernel) tp2 p2 _ HV2.out).mono ?_
  rintro e w2 ⟨N, rfl, hN, hN2, hb2⟩
  have HB2 := Lib.hid hb2; clear hb2 hN hN2
  go_wp2_with fail
  refine (parseThree_c _ (HT1.out.on HB2.out)).mono ?_
  rintro e w' ⟨rfl, rfl⟩
  go_wp2_with fail
  refine (of_float _ _).mono ?_
  rw [show fcanon 4613937818241073152 = 4613937818241073152 from by decide +kernel]
  rintro e w3 ⟨rfl, hb3⟩
  have hb23 : Below w1.heap.size w1 w3 := HB2.out.trans (hb3.mono HB2.out.size)
  have hb4 : Below (w.heap.size + 1) (w.alloc (.cells (vals 0 0 0 ⟨#[]⟩ false) 24)) w3 := by
    have := HB1.out.trans (hb23.mono HB1.out.size)
    simpa using this
  have hc : ∀ i v, (vals 0 0 0 ⟨#[]⟩ false)[i]? = some v → w3.cell? ⟨w.heap.size, i, none⟩ = some v ∧ w3.frozen? ⟨w.heap.size, i, none⟩ = false := by
    intro i v h
    rw [hb4.cell (p := ⟨w.heap.size, i, none⟩) (by simp), hb4.frozen (p := ⟨w.heap.size, i, none⟩) (by simp)]
    exact ⟨by rw [World.cell?_alloc_new]; exact h, World.frozen?_alloc_new _ _ _ _⟩
  obtain ⟨c0, f0⟩ := hc 0 _ rfl
  obtain ⟨c1, f1⟩ := hc 1 _ rfl
  obtain ⟨c2, f2⟩ := hc 2 _ rfl
  obtain ⟨c3, f3⟩ := hc 3 _ rfl
  obtain ⟨c4, f4⟩ := hc 4 _ rfl
  have HB4 := Lib.hid hb4; have HC := Lib.hid hc; clear hb4 hb23 hb3 hc
  go_wp2
  refine bodyPost_ret (v := .tuple #[val 1 0 4613937818241073152 ⟨#[]⟩ false, .bool true]) (by simp [results, Tryz.results10, go_sem, c0, c1, c2, c3, c4]) rfl ⟨rfl, ?_⟩
  have hB : Below w.heap.size w w3 := HB0.out.trans (HB4.out.mono (by omega))
  repeat (first | exact hB | refine Below.setCell (B := w.heap.size) ?_ (p := ⟨w.heap.size, _, none⟩) (Nat.le_refl _) _)

/-- The cells of a value that a call has laid, in every world in which only what is younger has turned. -/
theorem val_cells {w w' : World} (k n : Int) (x : Nat) (s : ByteArray) (y : Bool) (hb : Below (w.heap.size + 1) (w.alloc (.cells (vals k n x s y) 24)) w') :
    (∀ i v, (vals k n x s y)[i]? = some v → w'.cell? ⟨w.heap.size, i, none⟩ = some v ∧ w'.frozen? ⟨w.heap.size, i, none⟩ = false) := by
  intro i v h
  rw [hb.cell (p := ⟨w.heap.size, i, none⟩) (by simp), hb.frozen (p := ⟨w.heap.size, i, none⟩) (by simp)]
  exact ⟨by rw [World.cell?_alloc_new]; exact h, World.frozen?_alloc_new _ _ _ _⟩

set_option maxHeartbeats 1000000 in
theorem readThree_c (w : World) (hT : Tabs w) (hg : 20 < w.heap.size) :
    Calls Tryz.prog 5 #[.string ⟨#[51, 46, 48]⟩] w fun e w' => e = .returned (.tuple #[val 1 0 4613937818241073152 ⟨#[]⟩ false, .bool true]) ∧ Below w.heap.size w w' := by
  have B0 : Below w.heap.size w (w.alloc (.cells (vals 0 0 0 ⟨#[]⟩ false) 24)) := (Below.refl _ _).alloc (Nat.le_refl _) _
  have HT := Lib.hid (hT.on B0); have HB0 := Lib.hid B0; clear hT B0
  go_enter Tryz.func5, Tryz.ntmps5
  go_wp2_with fail
  refine (guessThree_c _ HT.out).mono ?_
  rintro e w1 ⟨rfl, hb1⟩
  have HT1 := Lib.hid (HT.out.on hb1)
  have z1 : w.heap.size + 1 ≤ w1.heap.size := by have := hb1.size; simpa using this
  have HB1 := Lib.hid hb1; clear hb1
  go_wp2_with fail
  have B1 : Below w1.heap.size w1 (w1.alloc (.cells (vals 1 0 4613937818241073152 ⟨#[]⟩ false) 24)) := (Below.refl _ _).alloc (Nat.le_refl _) _
  refine (right_c 1 0 4613937818241073152 ⟨#[]⟩ false _).mono ?_
  rintro e w2 ⟨rfl, hb2⟩
  rw [show rightB 1 ⟨#[]⟩ = true from by decide]
  have hb2' : Below (w1.heap.size + 1) (w1.alloc (.cells (vals 1 0 4613937818241073152 ⟨#[]⟩ false) 24)) w2 := by simpa using hb2
  have z2 : w1.heap.size + 1 ≤ w2.heap.size := by have := hb2.size; simpa using this
  have hT2 := (HT1.out.on B1).on hb2
  have hv2 := val_cells 1 0 4613937818241073152 ⟨#[]⟩ false hb2'
  obtain ⟨c0, f0⟩ := hv2 0 _ rfl
  obtain ⟨c1, f1⟩ := hv2 1 _ rfl
  obtain ⟨c2, f2⟩ := hv2 2 _ rfl
  obtain ⟨c3, f3⟩ := hv2 3 _ rfl
  obtain ⟨c4, f4⟩ := hv2 4 _ rfl
  have HT2 := Lib.hid hT2; have HB2 := Lib.hid hb2'; have HBL := Lib.hid B1; clear hT2 hb2 hb2' hv2 B1
  go_wp2_with fail
  clear c0 c1 c2 c3 c4 f0 f1 f2 f3 f4
  refine (printThree_c 0 ⟨#[]⟩ false _ HT2.out (by omega)).mono ?_
  rintro e w3 ⟨rfl, hb3⟩
  have hA : Below (w1.heap.size + 1) (w1.alloc (.cells (vals 1 0 4613937818241073152 ⟨#[]⟩ false) 24)) w3 := HB2.out.trans (hb3.mono z2)
  have hR : Below (w.heap.size + 1) (w.alloc (.cells (vals 0 0 0 ⟨#[]⟩ false) 24)) w3 := by
    have h1 := HB1.out
    rw [World.size_alloc] at h1
    exact (h1.trans (HBL.out.mono z1)).trans (hA.mono (by omega))
  have hv3 := val_cells 1 0 4613937818241073152 ⟨#[]⟩ false hA
  obtain ⟨c0, f0⟩ := hv3 0 _ rfl
  obtain ⟨c1, f1⟩ := hv3 1 _ rfl
  obtain ⟨c2, f2⟩ := hv3 2 _ rfl
  obtain ⟨c3, f3⟩ := hv3 3 _ rfl
  obtain ⟨c4, f4⟩ := hv3 4 _ rfl
  have hr3 := val_cells 0 0 0 ⟨#[]⟩ false hR
  obtain ⟨d0, g0⟩ := hr3 0 _ rfl
  obtain ⟨d1, g1⟩ := hr3 1 _ rfl
  obtain ⟨d2, g2⟩ := hr3 2 _ rfl
  obtain ⟨d3, g3⟩ := hr3 3 _ rfl
  obtain ⟨d4, g4⟩ := hr3 4 _ rfl
  have HR := Lib.hid hR; clear hR hr3 hv3 hA hb3
  go_wp2
  refine bodyPost_ret (v := .tuple #[val 1 0 4613937818241073152 ⟨#[]⟩ false, .bool true]) (by simp [results, Tryz.results5, go_sem, d0, d1, d2, d3, d4]) rfl ⟨rfl, ?_⟩
  have hB : Below w.heap.size w w3 := HB0.out.trans (HR.out.mono (by omega))
  repeat (first | exact hB | refine Below.setCell (B := w.heap.size) ?_ (p := ⟨w.heap.size, _, none⟩) (Nat.le_refl _) _)
end Go.Proofs.YthkkdikfbagijaaGreatDoor
