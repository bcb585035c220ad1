/- cond.Canon of any condition. -/
import Derived.Test.YtjeippdfgojdnaaGreatDoorCondW
import Derived.Test.YtjeippdfgojdnaaGreatDoorCondC
import Derived.Deep.RegionWith
namespace Go.Proofs.YtjeippdfgojdnaaGreatDoor
open Go.RowKit Go.Shelf
open Go.Proofs
set_option maxRecDepth 100000

def cndC (c : Cn) : Value := cnd c.a.nm c.op c.a.k c.a.n c.a.x c.a.s c.a.y
/-- A condition's seven cells, set. -/
def set7 (W : World) (g : Nat) (c : Cn) : World := (((((((W.setCell ⟨g, 0, none⟩ (.string c.a.nm)).setCell ⟨g, 1, none⟩ (.int .i64 c.op)).setCell ⟨g, 2, none⟩ (.int .i64 c.a.k)).setCell ⟨g, 3, none⟩ (.int .i64 c.a.n)).setCell ⟨g, 4, none⟩ (.float .f64 c.a.x)).setCell ⟨g, 5, none⟩ (.string c.a.s)).setCell ⟨g, 6, none⟩ (.bool c.a.y))
theorem set7_at (W : World) (g : Nat) (c d : Cn) (h : ∀ i v, (encC d)[i]? = some v → W.cell? ⟨g, i, none⟩ = some v) (i : Nat) (v : Value) (hv : (encC c)[i]? = some v) : (set7 W g c).cell? ⟨g, i, none⟩ = some v := by
  have h0 := h 0 _ rfl; have h1 := h 1 _ rfl; have h2 := h 2 _ rfl; have h3 := h 3 _ rfl; have h4 := h 4 _ rfl; have h5 := h 5 _ rfl; have h6 := h 6 _ rfl
  have hc : i < 7 := by have := (List.getElem?_eq_some_iff.1 hv).1; rw [encC_len] at this; exact this
  have hsame : ∀ (X : World) (i : Nat) (u v : Value), X.cell? ⟨g, i, none⟩ = some u → (X.setCell ⟨g, i, none⟩ v).cell? ⟨g, i, none⟩ = some v := fun X i u v h => World.cell?_setCell_same X ⟨g, i, none⟩ v h
  clear h
  unfold set7
  rcases (show i = 0 ∨ i = 1 ∨ i = 2 ∨ i = 3 ∨ i = 4 ∨ i = 5 ∨ i = 6 by omega) with rfl | rfl | rfl | rfl | rfl | rfl | rfl
  · obtain rfl : _ = v := Option.some.inj hv
    rw [oth (by omega), oth (by omega), oth (by omega), oth (by omega), oth (by omega), oth (by omega)]; exact hsame _ _ _ _ h0
  · obtain rfl : _ = v := Option.some.inj hv
    rw [oth (by omega), oth (by omega), oth (by omega), oth (by omega), oth (by omega)]; exact hsame _ _ _ _ ((oth (by omega)).trans (h1))
  · obtain rfl : _ = v := Option.some.inj hv
    rw [oth (by omega), oth (by omega), oth (by omega), oth (by omega)]; exact hsame _ _ _ _ ((oth (by omega)).trans ((oth (by omega)).trans (h2)))
  · obtain rfl : _ = v := Option.some.inj hv
    rw [oth (by omega), oth (by omega), oth (by omega)]; exact hsame _ _ _ _ ((oth (by omega)).trans ((oth (by omega)).trans ((oth (by omega)).trans (h3))))
  · obtain rfl : _ = v := Option.some.inj hv
    rw [oth (by omega), oth (by omega)]; exact hsame _ _ _ _ ((oth (by omega)).trans ((oth (by omega)).trans ((oth (by omega)).trans ((oth (by omega)).trans (h4)))))
  · obtain rfl : _ = v := Option.some.inj hv
    rw [oth (by omega)]; exact hsame _ _ _ _ ((oth (by omega)).trans ((oth (by omega)).trans ((oth (by omega)).trans ((oth (by omega)).trans ((oth (by omega)).trans (h5))))))
  · obtain rfl : _ = v := Option.some.inj hv
    exact hsame _ _ _ _ ((oth (by omega)).trans ((oth (by omega)).trans ((oth (by omega)).trans ((oth (by omega)).trans ((oth (by omega)).trans ((oth (by omega)).trans (h6)))))))
theorem set7_below {n g : Nat} {A W : World} (c : Cn) (h : Below n A W) (hg : n ≤ g) : Below n A (set7 W g c) :=
  ((((((h.setCell (p := ⟨g, 0, none⟩) hg _).setCell (p := ⟨g, 1, none⟩) hg _).setCell (p := ⟨g, 2, none⟩) hg _).setCell (p := ⟨g, 3, none⟩) hg _).setCell (p := ⟨g, 4, none⟩) hg _).setCell (p := ⟨g, 5, none⟩) hg _).setCell (p := ⟨g, 6, none⟩) hg _
set_option maxHeartbeats 4000000 in
theorem ccanon_c (nm : ByteArray) (op k n : Int) (x : Nat) (s : ByteArray) (y : Bool) (w : World) :
    Calls Tryz.prog 26 #[cnd nm op k n x s y] w fun e w' => e = .returned (cndC (canonC ⟨⟨nm, k, n, x, s, y⟩, op⟩)) ∧ Below w.heap.size w w' := by
  unfold canonC
  simp only []
  cases h7 : (op == 7)
  · have hc := fun W => canonA_c ⟨nm, k, n, x, s, y⟩ W
    have hnm := canonA_nm ⟨nm, k, n, x, s, y⟩
    simp only [] at hc hnm
    simp only [Bool.false_eq_true, if_false, cndC, hnm]
    generalize canonA ⟨nm, k, n, x, s, y⟩ = c at *
    obtain ⟨nm2, k2, n2, x2, s2, y2⟩ := c
    simp only [] at hc hnm ⊢
    have HC := Lib.hid hc; clear hc hnm
    have HKP : Aside (∀ W, Below (w.heap.size + 1) (w.alloc (.cells (cnds nm op k n x s y) 26)) W → (W.cell? ⟨w.heap.size, 0, none⟩ = some (.string nm) ∧ W.cell? ⟨w.heap.size, 1, none⟩ = some (.int .i64 op) ∧ W.cell? ⟨w.heap.size, 2, none⟩ = some (.int .i64 k) ∧ W.cell? ⟨w.heap.size, 3, none⟩ = some (.int .i64 n) ∧ W.cell? ⟨w.heap.size, 4, none⟩ = some (.float .f64 x) ∧ W.cell? ⟨w.heap.size, 5, none⟩ = some (.string s) ∧ W.cell? ⟨w.heap.size, 6, none⟩ = some (.bool y))) :=
      fun W hW => ⟨one_lay hW 0 _ rfl, one_lay hW 1 _ rfl, one_lay hW 2 _ rfl, one_lay hW 3 _ rfl, one_lay hW 4 _ rfl, one_lay hW 5 _ rfl, one_lay hW 6 _ rfl⟩
    go_enter Tryz.func26, Tryz.ntmps26
    go_wp2_with fail
    have hb0 : ∀ W, W = (w.alloc (.cells (cnds nm op k n x s y) 26)).alloc (.cells #[.string ⟨#[]⟩, .int .i64 0, .int .i64 0, .int .i64 0, .float .f64 0, .string ⟨#[]⟩, .bool false] 26) →
        Below (w.heap.size + 1) (w.alloc (.cells (cnds nm op k n x s y) 26)) W ∧ W.heap.size = w.heap.size + 2 ∧ (∀ i v, (encC default)[i]? = some v → W.cell? ⟨w.heap.size + 1, i, none⟩ = some v) ∧ (∀ i, W.frozen? ⟨w.heap.size + 1, i, none⟩ = false) := by
      rintro W rfl
      refine ⟨(Below.refl _ _).alloc (by simp) _, by simp, fun i v h => ?_, fun i => ?_⟩
      · have := World.cell?_alloc_new (w.alloc (.cells (cnds nm op k n x s y) 26)) #[.string ⟨#[]⟩, .int .i64 0, .int .i64 0, .int .i64 0, .float .f64 0, .string ⟨#[]⟩, .bool false] 26 i
        rw [World.size_alloc] at this
        rw [this, List.getElem?_toArray]; exact h
      · have := alloc_frozen (w.alloc (.cells (cnds nm op k n x s y) 26)) #[.string ⟨#[]⟩, .int .i64 0, .int .i64 0, .int .i64 0, .float .f64 0, .string ⟨#[]⟩, .bool false] 26 i
        rw [World.size_alloc] at this
        exact this
    obtain ⟨B0, z0, C0, F0⟩ := hb0 _ rfl
    clear hb0
    generalize (w.alloc (.cells (cnds nm op k n x s y) 26)).alloc (.cells #[.string ⟨#[]⟩, .int .i64 0, .int .i64 0, .int .i64 0, .float .f64 0, .string ⟨#[]⟩, .bool false] 26) = w0 at *
    have HB0 : Aside (Below (w.heap.size + 1) (w.alloc (.cells (cnds nm op k n x s y) 26)) w0) := B0
    have HC0 := Lib.hid C0; have HF0 := Lib.hid F0
    clear C0 F0
    obtain ⟨y0, y1, y2', y3, y4, y5, y6⟩ := HKP.out _ B0
    have HDr : Aside (Below w.heap.size w0 w0.drew) := ⟨rfl, rfl, rfl, Nat.le_refl _, fun _ _ => rfl⟩
    clear B0
    go_region_with (go_at_call 35; refine (HC.out _).mono ?_; rintro e w1 ⟨rfl, hb⟩; have HB := Lib.hid hb; have q0 := (hb.cell (p := ⟨w.heap.size, 0, none⟩) (by show w.heap.size < w0.heap.size; omega)).trans y0; have q1 := (hb.cell (p := ⟨w.heap.size, 1, none⟩) (by show w.heap.size < w0.heap.size; omega)).trans y1; have c0 := (hb.cell (p := ⟨w.heap.size + 1, 0, none⟩) (by show w.heap.size + 1 < w0.heap.size; omega)).trans (HC0.out 0 _ rfl); have c1 := (hb.cell (p := ⟨w.heap.size + 1, 1, none⟩) (by show w.heap.size + 1 < w0.heap.size; omega)).trans (HC0.out 1 _ rfl); have c2 := (hb.cell (p := ⟨w.heap.size + 1, 2, none⟩) (by show w.heap.size + 1 < w0.heap.size; omega)).trans (HC0.out 2 _ rfl); have c3 := (hb.cell (p := ⟨w.heap.size + 1, 3, none⟩) (by show w.heap.size + 1 < w0.heap.size; omega)).trans (HC0.out 3 _ rfl); have c4 := (hb.cell (p := ⟨w.heap.size + 1, 4, none⟩) (by show w.heap.size + 1 < w0.heap.size; omega)).trans (HC0.out 4 _ rfl); have c5 := (hb.cell (p := ⟨w.heap.size + 1, 5, none⟩) (by show w.heap.size + 1 < w0.heap.size; omega)).trans (HC0.out 5 _ rfl); have c6 := (hb.cell (p := ⟨w.heap.size + 1, 6, none⟩) (by show w.heap.size + 1 < w0.heap.size; omega)).trans (HC0.out 6 _ rfl); have f0 := (hb.frozen (p := ⟨w.heap.size + 1, 0, none⟩) (by show w.heap.size + 1 < w0.heap.size; omega)).trans (HF0.out 0); have f1 := (hb.frozen (p := ⟨w.heap.size + 1, 1, none⟩) (by show w.heap.size + 1 < w0.heap.size; omega)).trans (HF0.out 1); have f2 := (hb.frozen (p := ⟨w.heap.size + 1, 2, none⟩) (by show w.heap.size + 1 < w0.heap.size; omega)).trans (HF0.out 2); have f3 := (hb.frozen (p := ⟨w.heap.size + 1, 3, none⟩) (by show w.heap.size + 1 < w0.heap.size; omega)).trans (HF0.out 3); have f4 := (hb.frozen (p := ⟨w.heap.size + 1, 4, none⟩) (by show w.heap.size + 1 < w0.heap.size; omega)).trans (HF0.out 4); have f5 := (hb.frozen (p := ⟨w.heap.size + 1, 5, none⟩) (by show w.heap.size + 1 < w0.heap.size; omega)).trans (HF0.out 5); have f6 := (hb.frozen (p := ⟨w.heap.size + 1, 6, none⟩) (by show w.heap.size + 1 < w0.heap.size; omega)).trans (HF0.out 6); clear hb)
    all_goals
      go_wp2_with fail
      have hset : ((((((w1.setCell ⟨w.heap.size + 1, 0, none⟩ (.string nm)).setCell ⟨w.heap.size + 1, 1, none⟩ (.int .i64 op)).setCell ⟨w.heap.size + 1, 2, none⟩ (.int .i64 k2)).setCell ⟨w.heap.size + 1, 3, none⟩ (.int .i64 n2)).setCell ⟨w.heap.size + 1, 4, none⟩ (.float .f64 x2)).setCell ⟨w.heap.size + 1, 5, none⟩ (.string s2)).setCell ⟨w.heap.size + 1, 6, none⟩ (.bool y2) = set7 w1 (w.heap.size + 1) ⟨⟨nm, k2, n2, x2, s2, y2⟩, op⟩ := rfl
      rw [hset]
      have D : ∀ i v, (encC ⟨⟨nm, k2, n2, x2, s2, y2⟩, op⟩)[i]? = some v → (set7 w1 (w.heap.size + 1) ⟨⟨nm, k2, n2, x2, s2, y2⟩, op⟩).cell? ⟨w.heap.size + 1, i, none⟩ = some v := set7_at w1 (w.heap.size + 1) _ default (fun i v h => (HB.out.cell (p := ⟨w.heap.size + 1, i, none⟩) (by show w.heap.size + 1 < w0.heap.size; omega)).trans (HC0.out i v h))
      have HBE : Aside (Below w.heap.size w (set7 w1 (w.heap.size + 1) ⟨⟨nm, k2, n2, x2, s2, y2⟩, op⟩)) := (((Below.refl _ _).alloc (Nat.le_refl _) _).trans (HB0.out.mono (by omega))).trans (set7_below _ (HDr.out.trans (HB.out.mono (by show w.heap.size ≤ w0.heap.size; omega))) (by omega))
      generalize set7 w1 (w.heap.size + 1) ⟨⟨nm, k2, n2, x2, s2, y2⟩, op⟩ = w5 at *
      have d0 := D 0 _ rfl; have d1 := D 1 _ rfl; have d2 := D 2 _ rfl; have d3 := D 3 _ rfl; have d4 := D 4 _ rfl; have d5 := D 5 _ rfl; have d6 := D 6 _ rfl
      refine bodyPost_ret (v := cnd nm op k2 n2 x2 s2 y2) (by simp [results, Tryz.results26, go_sem, d0, d1, d2, d3, d4, d5, d6]) rfl ⟨rfl, HBE.out⟩
  · have h7' : op = 7 := by simpa using h7
    subst h7'
    go_enter Tryz.func26, Tryz.ntmps26
    go_wp2_with fail
    refine bodyPost_ret (v := cnd nm 7 0 0 0 ⟨#[]⟩ false) (by simp [results, Tryz.results26, go_sem]) rfl ⟨rfl, ?_⟩
    exact ((Below.refl _ _).alloc (Nat.le_refl _) _).alloc (by simp) _
end Go.Proofs.YtjeippdfgojdnaaGreatDoor
