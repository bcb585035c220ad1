/- parse.condition by its contracts: has, and an op with a value. -/
import Derived.Test.YtljmlfeedleodaaGreatDoorPaC
namespace Go.Proofs.YtljmlfeedleodaaGreatDoor
open Go.RowKit Go.Shelf
open Go.Proofs
set_option maxRecDepth 100000

abbrev zc : Array Value := #[.string ⟨#[]⟩, .int .i64 0, .int .i64 0, .int .i64 0, .float .f64 0, .string ⟨#[]⟩, .bool false]
/-- A result's cells, as they are laid. -/
theorem zc_at {w W : World} (hb : Below (w.heap.size + 1) (w.alloc (.cells zc 37)) W) : (∀ i v, (encC default)[i]? = some v → W.cell? ⟨w.heap.size, i, none⟩ = some v) ∧ ∀ i, W.frozen? ⟨w.heap.size, i, none⟩ = false := by
  refine ⟨fun i v h => ?_, fun i => ?_⟩
  · rw [hb.cell (p := ⟨w.heap.size, i, none⟩) (Nat.lt_succ_self _), World.cell?_alloc_new, List.getElem?_toArray]; exact h
  · rw [hb.frozen (p := ⟨w.heap.size, i, none⟩) (Nat.lt_succ_self _)]; exact alloc_frozen _ _ _ _
set_option maxHeartbeats 4000000 in
theorem condHas_c (s nm : ByteArray) (hs : s.size ≤ 100000) (h1 : (stepP (trimS s)).1.toList = [104, 97, 115]) (h2 : (stepP (trimS s)).2 = nm) (h3 : (nm.toList == []) = false) (h4 : decide (0 ≤ Lib.indexByte nm.data.toList 32) = false) (ht : (trimS s).size ≤ 100000) (w : World) (hm : MaxI w) :
    Calls Tryz.prog 19 #[.string s] w fun e w' => e = .returned (.tuple #[cnd nm 7 0 0 0 ⟨#[]⟩ false, .bool true]) ∧ Below w.heap.size w w' := by
  have HT : Aside (∀ W, Calls Tryz.prog 13 #[.string s, .string ⟨#[32]⟩] W fun e w' => e = .returned (.string (trimS s)) ∧ Below W.heap.size W w') := fun W => trim_c s hs W
  have HS : Aside (∀ W, Below w.heap.size w W → Calls Tryz.prog 30 #[.string (trimS s)] W fun e w' => e = .returned (.tuple #[.string (stepP (trimS s)).1, .string nm]) ∧ Below W.heap.size W w') := fun W hW => by
    have := step_c (trimS s) ht W (hm.below hW)
    rw [h2] at this
    exact this
  have HC : Aside (∀ W, Calls Tryz.prog 31 #[.string nm, .string ⟨#[32]⟩] W fun e w' => e = .returned (.bool false) ∧ W = w') := fun W => by
    have := Tryz.strings_Contains_one nm 32 W
    rw [h4] at this
    exact this.mono fun e w' h => ⟨h.1, h.2.symm⟩
  have e1 : ((stepP (trimS s)).1.toList == [104, 97, 115]) = true := by rw [h1]; rfl
  have HB0 : Aside (Below w.heap.size w (w.alloc (.cells zc 37))) := (Below.refl _ _).alloc (Nat.le_refl _) _
  have hz0 : w.heap.size + 1 ≤ (w.alloc (.cells zc 37)).heap.size := by simp
  generalize (stepP (trimS s)).1 = p1 at *
  generalize trimS s = t at *
  clear hs h1 h2 h4 ht hm
  have h3' : ¬ nm.toList = [] := by rwa [beq_eq_false_iff_ne] at h3
  go_enter Tryz.func19, Tryz.ntmps19
  go_wp2_with fail
  have HZ : Aside (∀ W, Below (w.heap.size + 1) (w.alloc (.cells zc 37)) W → (∀ i v, (encC default)[i]? = some v → W.cell? ⟨w.heap.size, i, none⟩ = some v) ∧ ∀ i, W.frozen? ⟨w.heap.size, i, none⟩ = false) := fun W hW => zc_at hW
  generalize (w.alloc (.cells zc 37)) = w0 at *
  refine (HT.out _).mono ?_
  rintro e w1 ⟨rfl, hb1⟩
  have HB1 : Aside (Below (w.heap.size + 1) w0 w1) := hb1.mono hz0
  clear hb1
  go_wp2_with fail
  refine (HS.out _ (HB0.out.trans (HB1.out.mono (by omega)))).mono ?_
  rintro e w2 ⟨rfl, hb2⟩
  have HB2 : Aside (Below (w.heap.size + 1) w0 w2) := HB1.out.trans (hb2.mono (Nat.le_trans hz0 HB1.out.size))
  clear hb2 HT HS
  go_wp2_with fail
  refine (HC.out _).mono ?_
  rintro e w3 ⟨rfl, rfl⟩
  obtain ⟨hc0, hf0⟩ := HZ.out _ HB2.out
  have x0 := hc0 0 _ rfl; have x1 := hc0 1 _ rfl; have x2 := hc0 2 _ rfl; have x3 := hc0 3 _ rfl; have x4 := hc0 4 _ rfl; have x5 := hc0 5 _ rfl; have x6 := hc0 6 _ rfl
  have HC0 := Lib.hid hc0
  have f0 := hf0 0; have f1 := hf0 1; have f2 := hf0 2; have f3 := hf0 3; have f4 := hf0 4; have f5 := hf0 5; have f6 := hf0 6
  clear hc0 hf0
  go_wp2_with fail
  have hset : ((((((w2.setCell ⟨w.heap.size, 0, none⟩ (.string nm)).setCell ⟨w.heap.size, 1, none⟩ (.int .i64 7)).setCell ⟨w.heap.size, 2, none⟩ (.int .i64 0)).setCell ⟨w.heap.size, 3, none⟩ (.int .i64 0)).setCell ⟨w.heap.size, 4, none⟩ (.float .f64 0)).setCell ⟨w.heap.size, 5, none⟩ (.string ⟨#[]⟩)).setCell ⟨w.heap.size, 6, none⟩ (.bool false) = set7 w2 w.heap.size ⟨⟨nm, 0, 0, 0, ⟨#[]⟩, false⟩, 7⟩ := rfl
  rw [hset]
  have D : ∀ i v, (encC ⟨⟨nm, 0, 0, 0, ⟨#[]⟩, false⟩, 7⟩)[i]? = some v → (set7 w2 w.heap.size ⟨⟨nm, 0, 0, 0, ⟨#[]⟩, false⟩, 7⟩).cell? ⟨w.heap.size, i, none⟩ = some v := set7_at w2 w.heap.size _ default HC0.out
  have HBE : Aside (Below w.heap.size w (set7 w2 w.heap.size ⟨⟨nm, 0, 0, 0, ⟨#[]⟩, false⟩, 7⟩)) := set7_below _ (HB0.out.trans (HB2.out.mono (by omega))) (Nat.le_refl _)
  generalize set7 w2 w.heap.size ⟨⟨nm, 0, 0, 0, ⟨#[]⟩, false⟩, 7⟩ = w5 at *
  have d0 := D 0 _ rfl; have d1 := D 1 _ rfl; have d2 := D 2 _ rfl; have d3 := D 3 _ rfl; have d4 := D 4 _ rfl; have d5 := D 5 _ rfl; have d6 := D 6 _ rfl
  refine bodyPost_ret (v := .tuple #[cnd nm 7 0 0 0 ⟨#[]⟩ false, .bool true]) (by simp [results, Tryz.results19, go_sem, d0, d1, d2, d3, d4, d5, d6]) rfl ⟨rfl, HBE.out⟩
set_option maxHeartbeats 4000000 in
theorem condVal_c (s nm r tx : ByteArray) (i : Nat) (hi : i < 7) (k n : Int) (x : Nat) (vs : ByteArray) (y : Bool) (hs : s.size ≤ 100000) (h1 : (stepP (trimS s)).1 = nm) (h2 : (stepP (trimS s)).2 = r) (h3 : (nm.toList == [104, 97, 115]) = false)
    (h4 : stepP r = (wordS i, tx)) (ht : (trimS s).size ≤ 100000) (hr : r.size ≤ 100000) (w : World) (hm : MaxI w) (hw : Wds w)
    (hrd : ∀ W, Below w.heap.size w W → Calls Tryz.prog 33 #[.string tx] W fun e w' => e = .returned (.tuple #[val k n x vs y, .bool true]) ∧ Below W.heap.size W w') :
    Calls Tryz.prog 19 #[.string s] w fun e w' => e = .returned (.tuple #[cnd nm (i : Int) k n x vs y, .bool true]) ∧ Below w.heap.size w w' := by
  have HT : Aside (∀ W, Calls Tryz.prog 13 #[.string s, .string ⟨#[32]⟩] W fun e w' => e = .returned (.string (trimS s)) ∧ Below W.heap.size W w') := fun W => trim_c s hs W
  have HS : Aside (∀ W, Below w.heap.size w W → Calls Tryz.prog 30 #[.string (trimS s)] W fun e w' => e = .returned (.tuple #[.string nm, .string r]) ∧ Below W.heap.size W w') := fun W hW => by
    have := step_c (trimS s) ht W (hm.below hW)
    rw [h1, h2] at this
    exact this
  have HS2 : Aside (∀ W, Below w.heap.size w W → Calls Tryz.prog 30 #[.string r] W fun e w' => e = .returned (.tuple #[.string (wordS i), .string tx]) ∧ Below W.heap.size W w') := fun W hW => by
    have := step_c r hr W (hm.below hW)
    rw [h4] at this
    exact this
  have HO : Aside (∀ W, Below w.heap.size w W → Calls Tryz.prog 32 #[.string (wordS i)] W fun e w' => e = .returned (.tuple #[.int .i64 i, .bool true]) ∧ Below W.heap.size W w') := fun W hW => opOf_c i hi W (hw.on hW)
  have HR := Lib.hid hrd
  have h3' : ¬ nm.toList = [104, 97, 115] := by rwa [beq_eq_false_iff_ne] at h3
  have HB0 : Aside (Below w.heap.size w (w.alloc (.cells zc 37))) := (Below.refl _ _).alloc (Nat.le_refl _) _
  have hz0 : w.heap.size + 1 ≤ (w.alloc (.cells zc 37)).heap.size := by simp
  have HZ : Aside (∀ W, Below (w.heap.size + 1) (w.alloc (.cells zc 37)) W → (∀ i v, (encC default)[i]? = some v → W.cell? ⟨w.heap.size, i, none⟩ = some v) ∧ ∀ i, W.frozen? ⟨w.heap.size, i, none⟩ = false) := fun W hW => zc_at hW
  generalize wordS i = W0 at *
  generalize trimS s = t at *
  clear hs h1 h2 h4 ht hr hm hw hrd
  go_enter Tryz.func19, Tryz.ntmps19
  go_wp2_with fail
  generalize (w.alloc (.cells zc 37)) = w0 at *
  refine (HT.out _).mono ?_
  rintro e w1 ⟨rfl, hb1⟩
  have HB1 : Aside (Below (w.heap.size + 1) w0 w1) := hb1.mono hz0
  clear hb1
  go_wp2_with fail
  refine (HS.out _ (HB0.out.trans (HB1.out.mono (by omega)))).mono ?_
  rintro e w2 ⟨rfl, hb2⟩
  have HB2 : Aside (Below (w.heap.size + 1) w0 w2) := HB1.out.trans (hb2.mono (Nat.le_trans hz0 HB1.out.size))
  clear hb2 HT HS
  go_wp2_with fail
  refine (HS2.out _ (HB0.out.trans (HB2.out.mono (by omega)))).mono ?_
  rintro e w3 ⟨rfl, hb3⟩
  have HB3 : Aside (Below (w.heap.size + 1) w0 w3) := HB2.out.trans (hb3.mono (Nat.le_trans hz0 HB2.out.size))
  clear hb3 HS2
  go_wp2_with fail
  refine (HO.out _ (HB0.out.trans (HB3.out.mono (by omega)))).mono ?_
  rintro e w4 ⟨rfl, hb4⟩
  have HB4 : Aside (Below (w.heap.size + 1) w0 w4) := HB3.out.trans (hb4.mono (Nat.le_trans hz0 HB3.out.size))
  clear hb4 HO
  go_wp2_with fail
  refine (HR.out _ (HB0.out.trans (HB4.out.mono (by omega)))).mono ?_
  rintro e w5 ⟨rfl, hb5⟩
  have HB5 : Aside (Below (w.heap.size + 1) w0 w5) := HB4.out.trans (hb5.mono (Nat.le_trans hz0 HB4.out.size))
  have z5 : w.heap.size < w5.heap.size := Nat.lt_of_lt_of_le hz0 HB5.out.size
  clear hb5 HR
  obtain ⟨hc0, hf0⟩ := HZ.out _ HB5.out
  have x0 := hc0 0 _ rfl; have x1 := hc0 1 _ rfl; have x2 := hc0 2 _ rfl; have x3 := hc0 3 _ rfl; have x4 := hc0 4 _ rfl; have x5 := hc0 5 _ rfl; have x6 := hc0 6 _ rfl
  have f0 := hf0 0; have f1 := hf0 1; have f2 := hf0 2; have f3 := hf0 3; have f4 := hf0 4; have f5 := hf0 5; have f6 := hf0 6
  clear hc0 hf0
  go_wp2_with fail
  have hset : ((((((w5.setCell ⟨w.heap.size, 0, none⟩ (.string nm)).setCell ⟨w.heap.size, 1, none⟩ (.int .i64 (i : Int))).setCell ⟨w.heap.size, 2, none⟩ (.int .i64 k)).setCell ⟨w.heap.size, 3, none⟩ (.int .i64 n)).setCell ⟨w.heap.size, 4, none⟩ (.float .f64 x)).setCell ⟨w.heap.size, 5, none⟩ (.string vs)).setCell ⟨w.heap.size, 6, none⟩ (.bool y) = set7 w5 w.heap.size ⟨⟨nm, k, n, x, vs, y⟩, (i : Int)⟩ := rfl
  rw [hset]
  have D0 : ∀ j v, (encC ⟨⟨nm, k, n, x, vs, y⟩, (i : Int)⟩)[j]? = some v → (set7 w5 w.heap.size ⟨⟨nm, k, n, x, vs, y⟩, (i : Int)⟩).cell? ⟨w.heap.size, j, none⟩ = some v := set7_at w5 w.heap.size _ default (HZ.out _ HB5.out).1
  have hb7 : Below w.heap.size w5 (set7 w5 w.heap.size ⟨⟨nm, k, n, x, vs, y⟩, (i : Int)⟩) := set7_below _ (Below.refl _ _) (Nat.le_refl _)
  have z7 := hb7.size
  have HBE : Aside (Below w.heap.size w ((set7 w5 w.heap.size ⟨⟨nm, k, n, x, vs, y⟩, (i : Int)⟩).alloc (.cells (vals k n x vs y) 35))) := (HB0.out.trans ((HB5.out.mono (by omega)).trans hb7)).alloc (by omega) _
  have D : ∀ j v, (encC ⟨⟨nm, k, n, x, vs, y⟩, (i : Int)⟩)[j]? = some v → ((set7 w5 w.heap.size ⟨⟨nm, k, n, x, vs, y⟩, (i : Int)⟩).alloc (.cells (vals k n x vs y) 35)).cell? ⟨w.heap.size, j, none⟩ = some v := fun j v h =>
    (World.cell?_of_block (w := set7 w5 w.heap.size ⟨⟨nm, k, n, x, vs, y⟩, (i : Int)⟩) (Below.heap_alloc _ _ _ (by show w.heap.size < _; omega))).trans (D0 j v h)
  generalize ((set7 w5 w.heap.size ⟨⟨nm, k, n, x, vs, y⟩, (i : Int)⟩).alloc (.cells (vals k n x vs y) 35)) = w7 at *
  have d0 := D 0 _ rfl; have d1 := D 1 _ rfl; have d2 := D 2 _ rfl; have d3 := D 3 _ rfl; have d4 := D 4 _ rfl; have d5 := D 5 _ rfl; have d6 := D 6 _ rfl
  refine bodyPost_ret (v := .tuple #[cnd nm (i : Int) k n x vs y, .bool true]) (by simp [results, Tryz.results19, go_sem, d0, d1, d2, d3, d4, d5, d6]) rfl ⟨rfl, HBE.out⟩
end Go.Proofs.YtljmlfeedleodaaGreatDoor
