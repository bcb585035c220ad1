/- event.kept of any value. -/
import Derived.Test.YtecfbbddhnkilaaGreatDoorAtP
import Derived.Test.YtecfbbddhnkilaaGreatDoorKept
import Derived.Deep.RegionWith
namespace Go.Proofs.YtecfbbddhnkilaaGreatDoor
open Go.RowKit Go.Shelf
open Go.Proofs
set_option maxRecDepth 100000

theorem run_eqV2 (k k2 n n2 : Int) (x x2 : Nat) (s s2 : ByteArray) (y y2 : Bool) (w : World) :
    (binOp .eql 24 (.agg #[.int .i64 k, .int .i64 n, .float .f64 x, .string s, .bool y]) (val k2 n2 x2 s2 y2)).run Tryz.prog w = .ok (.bool (eqV k k2 n n2 x x2 s s2 y y2)) w := run_eqV k k2 n n2 x x2 s s2 y y2 w
attribute [local go_sem ↓] run_eqV2

/-- What event.kept holds against its Canon: the value, its number laid aside if it is none. -/
def asideX (k : Int) (x : Nat) : Nat := if voidB k x then 0 else x
def keptB (a : At) : Bool :=
  eqV a.k (canonA ⟨a.nm, a.k, a.n, asideX a.k a.x, a.s, a.y⟩).k a.n (canonA ⟨a.nm, a.k, a.n, asideX a.k a.x, a.s, a.y⟩).n (asideX a.k a.x) (canonA ⟨a.nm, a.k, a.n, asideX a.k a.x, a.s, a.y⟩).x a.s (canonA ⟨a.nm, a.k, a.n, asideX a.k a.x, a.s, a.y⟩).s a.y (canonA ⟨a.nm, a.k, a.n, asideX a.k a.x, a.s, a.y⟩).y

set_option maxHeartbeats 2000000 in
theorem kept_c (nm : ByteArray) (k n : Int) (x : Nat) (s : ByteArray) (y : Bool) (w : World) :
    Calls Tryz.prog 46 #[val k n x s y] w fun e w' => e = .returned (.bool (keptB ⟨nm, k, n, x, s, y⟩)) ∧ Below w.heap.size w w' := by
  have hcan : ∀ x' W, Calls Tryz.prog 12 #[.agg #[.int .i64 k, .int .i64 n, .float .f64 x', .string s, .bool y]] W fun e w' => e = .returned (val (canonA ⟨nm, k, n, x', s, y⟩).k (canonA ⟨nm, k, n, x', s, y⟩).n (canonA ⟨nm, k, n, x', s, y⟩).x (canonA ⟨nm, k, n, x', s, y⟩).s (canonA ⟨nm, k, n, x', s, y⟩).y) ∧ Below W.heap.size W w' := fun x' W => canonA_c ⟨nm, k, n, x', s, y⟩ W
  have hv := fun W => void_c k n x s y W
  cases h : voidB k x
  · have hk : keptB ⟨nm, k, n, x, s, y⟩ = eqV k (canonA ⟨nm, k, n, x, s, y⟩).k n (canonA ⟨nm, k, n, x, s, y⟩).n x (canonA ⟨nm, k, n, x, s, y⟩).x s (canonA ⟨nm, k, n, x, s, y⟩).s y (canonA ⟨nm, k, n, x, s, y⟩).y := by
      unfold keptB asideX; rw [h]; rfl
    rw [hk]
    have hcn := hcan x
    generalize canonA ⟨nm, k, n, x, s, y⟩ = c at hcn ⊢
    obtain ⟨nm2, k2, n2, x2, s2, y2⟩ := c
    simp only [] at hcn ⊢
    clear hk hcan
    go_enter Tryz.func46, Tryz.ntmps46
    go_wp2_with fail
    refine (hv _).mono ?_
    rintro e w1 ⟨rfl, hb1⟩
    rw [h]
    have hB : Below w.heap.size w w1 := ((Below.refl w.heap.size w).alloc (Nat.le_refl _) _).trans (hb1.mono (by simp))
    have HB : Aside (Below w.heap.size w w1) := hB
    have hz : w.heap.size < w1.heap.size := by have := hb1.size; simp at this; omega
    have yy : ∀ i, w1.cell? ⟨w.heap.size, i, none⟩ = (#[Value.int .i64 k, .int .i64 n, .float .f64 x, .string s, .bool y])[i]? := fun i => by
      rw [hb1.cell (p := ⟨w.heap.size, i, none⟩) (by simp)]; rw [World.cell?_alloc_new]
    have y0 := yy 0; have y1 := yy 1; have y2' := yy 2; have y3 := yy 3; have y4 := yy 4
    simp only [List.getElem?_toArray, List.getElem?_cons_zero, List.getElem?_cons_succ] at y0 y1 y2' y3 y4
    clear yy hB hb1 hv
    go_wp2_with fail
    go_region_with (go_at_call 12; refine (hcn _).mono ?_; rintro e w2 ⟨rfl, hb2⟩; have c0 := (hb2.cell (p := ⟨w.heap.size, 0, none⟩) hz).trans y0; have c1 := (hb2.cell (p := ⟨w.heap.size, 1, none⟩) hz).trans y1; have c2 := (hb2.cell (p := ⟨w.heap.size, 2, none⟩) hz).trans y2'; have c3 := (hb2.cell (p := ⟨w.heap.size, 3, none⟩) hz).trans y3; have c4 := (hb2.cell (p := ⟨w.heap.size, 4, none⟩) hz).trans y4; have HB2 : Aside (Below w.heap.size w w2) := HB.out.trans (Below.mono ⟨hb2.os, hb2.tape, hb2.output, hb2.size, hb2.block⟩ (Nat.le_of_lt hz)))
    all_goals (go_wp2_with fail; go_ret; exact ⟨rfl, HB2.out⟩)
  · have hk : keptB ⟨nm, k, n, x, s, y⟩ = eqV k (canonA ⟨nm, k, n, 0, s, y⟩).k n (canonA ⟨nm, k, n, 0, s, y⟩).n 0 (canonA ⟨nm, k, n, 0, s, y⟩).x s (canonA ⟨nm, k, n, 0, s, y⟩).s y (canonA ⟨nm, k, n, 0, s, y⟩).y := by
      unfold keptB asideX; rw [h]; rfl
    rw [hk]
    have hcn := hcan 0
    generalize canonA ⟨nm, k, n, 0, s, y⟩ = c at hcn ⊢
    obtain ⟨nm2, k2, n2, x2, s2, y2⟩ := c
    simp only [] at hcn ⊢
    clear hk hcan
    go_enter Tryz.func46, Tryz.ntmps46
    go_wp2_with fail
    refine (hv _).mono ?_
    rintro e w1 ⟨rfl, hb1⟩
    rw [h]
    have hz : w.heap.size < w1.heap.size := by have := hb1.size; simp at this; omega
    have yy : ∀ i, w1.cell? ⟨w.heap.size, i, none⟩ = (#[Value.int .i64 k, .int .i64 n, .float .f64 x, .string s, .bool y])[i]? := fun i => by
      rw [hb1.cell (p := ⟨w.heap.size, i, none⟩) (by simp)]; rw [World.cell?_alloc_new]
    have y0 := yy 0; have y1 := yy 1; have y2' := yy 2; have y3 := yy 3; have y4 := yy 4
    simp only [List.getElem?_toArray, List.getElem?_cons_zero, List.getElem?_cons_succ] at y0 y1 y2' y3 y4
    have hfz : w1.frozen? ⟨w.heap.size, 2, none⟩ = false := by
      have hh := hb1.block w.heap.size (by simp)
      simp only [World.frozen?, hh]
      rw [heap_alloc_new]
      rfl
    have HB1 : Aside _ := hb1
    clear yy hb1 hv
    go_wp2_with fail
    have hB : Below w.heap.size w (w1.setCell ⟨w.heap.size, 2, none⟩ (.float .f64 0)) := (((Below.refl w.heap.size w).alloc (Nat.le_refl _) _).trans (HB1.out.mono (by simp))).setCell (p := ⟨w.heap.size, 2, none⟩) (Nat.le_refl _) _
    have d0 := (World.cell?_setCell_other w1 ⟨w.heap.size, 2, none⟩ ⟨w.heap.size, 0, none⟩ (.float .f64 0) (by simp)).trans y0
    have d1 := (World.cell?_setCell_other w1 ⟨w.heap.size, 2, none⟩ ⟨w.heap.size, 1, none⟩ (.float .f64 0) (by simp)).trans y1
    have d3 := (World.cell?_setCell_other w1 ⟨w.heap.size, 2, none⟩ ⟨w.heap.size, 3, none⟩ (.float .f64 0) (by simp)).trans y3
    have d4 := (World.cell?_setCell_other w1 ⟨w.heap.size, 2, none⟩ ⟨w.heap.size, 4, none⟩ (.float .f64 0) (by simp)).trans y4
    have d2 := World.cell?_setCell_same w1 ⟨w.heap.size, 2, none⟩ (.float .f64 0) y2'
    have HB : Aside (Below w.heap.size w (w1.setCell ⟨w.heap.size, 2, none⟩ (.float .f64 0))) := hB
    have hz3 : w.heap.size < (w1.setCell ⟨w.heap.size, 2, none⟩ (.float .f64 0)).heap.size := by simp; exact hz
    clear hB hfz HB1 y0 y1 y2' y3 y4 hz h
    generalize w1.setCell ⟨w.heap.size, 2, none⟩ (.float .f64 0) = w3 at *
    go_region_with (go_at_call 12; refine (hcn _).mono ?_; rintro e w2 ⟨rfl, hb2⟩; have c0 := (hb2.cell (p := ⟨w.heap.size, 0, none⟩) hz3).trans d0; have c1 := (hb2.cell (p := ⟨w.heap.size, 1, none⟩) hz3).trans d1; have c2 := (hb2.cell (p := ⟨w.heap.size, 2, none⟩) hz3).trans d2; have c3 := (hb2.cell (p := ⟨w.heap.size, 3, none⟩) hz3).trans d3; have c4 := (hb2.cell (p := ⟨w.heap.size, 4, none⟩) hz3).trans d4; have HB2 : Aside (Below w.heap.size w w2) := HB.out.trans (Below.mono ⟨hb2.os, hb2.tape, hb2.output, hb2.size, hb2.block⟩ (Nat.le_of_lt hz3)))
    all_goals (go_wp2_with fail; go_ret; exact ⟨rfl, HB2.out⟩)
end Go.Proofs.YtecfbbddhnkilaaGreatDoor
