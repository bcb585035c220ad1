/- Rows of conditions that a call owns: make, append, and how they are read. -/
import Derived.Test.YtfffmndjgjfflaaGreatDoorFilO
import Derived.Test.YtfffmndjgjfflaaGreatDoorFilSp
namespace Go.Proofs.YtfffmndjgjfflaaGreatDoor
open Go.RowKit Go.Shelf Go.Sort
open Go.Proofs
set_option maxRecDepth 100000

abbrev OwnC (W : World) (B : Nat) (v : Value) (l : List Cn) : Prop := W.ownsRow B 31 7 v l.length (l.flatMap encC)
theorem ownC_below {w W : World} {B : Nat} {v : Value} {l : List Cn} (h : OwnC w B v l) (hb : Below w.heap.size w W) : OwnC W B v l := by
  obtain ⟨h1, h2⟩ := h
  refine ⟨h1, ?_⟩
  rcases h2 with h2 | ⟨g, cap, cur, hv, hbg, hg, hr⟩
  · exact Or.inl h2
  · exact Or.inr ⟨g, cap, cur, hv, hbg, (hb.block g (Array.getElem?_eq_some_iff.1 hg).1).trans hg, hr⟩
/-- Where a row of one element or more lies. -/
theorem ownC_some {w : World} {B : Nat} {v : Value} {l : List Cn} (h : OwnC w B v l) (hne : 0 < l.length) : ∃ g cap, v = .slice (some ⟨g, 0, none⟩) l.length cap ∧ B ≤ g ∧ g < w.heap.size := by
  rcases h.2 with ⟨_, h0⟩ | ⟨g, cap, cur, hv, hbg, hg, _⟩
  · omega
  · exact ⟨g, cap, hv, hbg, (Array.getElem?_eq_some_iff.1 hg).1⟩
theorem ownC_lt {w : World} {B g n cap : Nat} {l : List Cn} (h : OwnC w B (.slice (some ⟨g, 0, none⟩) n cap) l) : B ≤ g ∧ g < w.heap.size := h.lt g rfl
theorem ownC_conds {w : World} {B : Nat} {v : Value} {l : List Cn} (h : OwnC w B v l) : ∃ ao cap, v = .slice ao l.length cap ∧ CondsB w.heap.size w ao l ∧ ∀ g off, ao = some ⟨g, off, none⟩ → B ≤ g := by
  have h' := h
  rcases h.2 with ⟨rfl, h0⟩ | ⟨g, cap, cur, rfl, hbg, hg, hnc, hcm, hcs, htake⟩
  · have : l = [] := List.eq_nil_of_length_eq_zero h0
    subst this
    exact ⟨none, 0, rfl, Or.inl rfl, fun g off e => by cases e⟩
  · refine ⟨_, _, rfl, Or.inr ⟨g, 0, rfl, (Array.getElem?_eq_some_iff.1 hg).1, fun j hj c u hu => ?_⟩, fun g2 off e => by injection e with e; injection e with e1; omega⟩
    have hcell := h'.cells (g := g) rfl (j * 7 + c) u (encC_at l j hj c u hu)
    rw [Nat.zero_add]
    generalize j * 7 + c = q at hcell ⊢
    by_cases h0 : q = 0
    · subst h0; simpa [Addr.add] using hcell
    · simpa [Addr.add, h0] using hcell
theorem ownC_holds {w : World} {B g cap : Nat} {l : List Cn} (h : OwnC w B (.slice (some ⟨g, 0, none⟩) l.length cap) l) : HoldsK encC 7 w g 0 l.toArray := by
  intro t ht
  rw [size_flatK] at ht
  have ht2 : t < l.length * 7 := by simpa using ht
  rw [get_flatK _ _ _ _ ht, Nat.zero_add]
  have hlt : t / 7 < l.length := by omega
  have hm : t % 7 < (encC l[t / 7]!).length := by rw [encC_len]; omega
  have e2 : l.toArray[t / 7]! = l[t / 7]! := by simp [hlt]
  have hu : (encC l[t / 7]!)[t % 7]? = some (encC l[t / 7]!)[t % 7]! := by rw [List.getElem?_eq_getElem hm, getElem!_pos (encC l[t / 7]!) (t % 7) hm]
  have hx := encC_at l (t / 7) hlt (t % 7) _ hu
  rw [show t / 7 * 7 + t % 7 = t by omega] at hx
  rw [e2]
  refine ⟨?_, h.frozenAt t⟩
  show w.cell? ⟨g, t, none⟩ = some _
  rw [h.cellAt t ht2]; exact hx
theorem holds_conds {w : World} {g : Nat} {d : Array Cn} (h : HoldsK encC 7 w g 0 d) (hl : g < w.heap.size) : CondsB w.heap.size w (some ⟨g, 0, none⟩) d.toList := by
  refine Or.inr ⟨g, 0, rfl, hl, fun j hj c u hu => ?_⟩
  have hj2 : j < d.size := by simpa using hj
  have hc : c < 7 := by have := (List.getElem?_eq_some_iff.1 hu).1; rwa [encC_len] at this
  have e : d.toList[j]! = d[j]! := by simp [hj2]
  rw [e] at hu
  rw [(h.cell hj2 hc).1]
  have hc2 : c < (encC d[j]!).length := by rw [encC_len]; exact hc
  rw [getElem!_pos (encC d[j]!) c hc2, ← List.getElem?_eq_getElem hc2]
  exact hu
theorem rowC_cells (a : Cn) (W : World) (ty : TypeId) : ∀ (j : Nat) u, (encC a)[j]? = some u → (W.alloc (.cells (encC a).toArray ty)).cell? ((⟨W.heap.size, 0, none⟩ : Addr).add j) = some u := fun j u h => by
  have : (W.alloc (.cells (encC a).toArray ty)).cell? ⟨W.heap.size, j, none⟩ = some u := by rw [World.cell?_alloc_new]; simpa using h
  by_cases h0 : j = 0
  · subst h0; exact this
  · simpa [Addr.add, h0] using this
/-- make's cells for N conditions. -/
theorem makeC_run (N : Nat) (hz : N ≤ 39) (W : World) : ∃ cur : Array Value, cur.size = N * 7 ∧ Sem.run Tryz.prog (Instr.makeSlice 22 (.int .i64 0) (.int .i64 (N : Int))) W = .ok (.slice (some ⟨W.heap.size, 0, none⟩) 0 N) (W.alloc (.cells cur 31)) := by
  obtain ⟨i0, z0, hi, hz0, hz1, hz2, hz3⟩ := cond_info
  have h := run_makeSlice (P := Tryz.prog) W 22 31 i0 _ Tryz.underlying22 hi hz0 .i64 .i64 0 (N : Int) (Int.le_refl _) (by omega) (by rw [hz1]; omega) (by rw [hz2]; omega) (by omega)
  refine ⟨_, ?_, h⟩
  rw [size_madeCells, hz1]; simp
/-- An element more. -/
theorem appendC_run (B : Nat) (es : List Cn) (a : Cn) (v : Value) (W : World) (hown : OwnC W B v es) (hB : B ≤ W.heap.size) (hl : es.length < 256) :
    ∃ g' cap' w3, Sem.run Tryz.prog (appendS #[22, 22] 22 #[v, .slice (some ⟨W.heap.size, 0, none⟩) 1 1])
        (W.alloc (.cells #[.string a.a.nm, .int .i64 a.op, .int .i64 a.a.k, .int .i64 a.a.n, .float .f64 a.a.x, .string a.a.s, .bool a.a.y] 31)) = .ok (.slice (some ⟨g', 0, none⟩) (es.length + 1) cap') w3 ∧
      Aside (OwnC w3 B (.slice (some ⟨g', 0, none⟩) (es.length + 1) cap') (es ++ [a]) ∧ Below B W w3) := by
  obtain ⟨i0, z0, hi, hz0, hz1, hz2, hz3⟩ := cond_info
  have hown3 : (W.alloc (.cells (encC a).toArray 31)).ownsRow B 31 7 v es.length (es.flatMap encC) := hown.alloc _
  have hrc := rowC_cells a W 31
  obtain ⟨v', w3, hrun, hown4, hg, _⟩ := run_append_own (P := Tryz.prog) (W.alloc (.cells (encC a).toArray 31)) B 22 22 31 i0 z0 7 72 Tryz.underlying22 hi hz0 hz1 hz2 hz3 (by decide) _ _ _ hown3 ⟨W.heap.size, 0, none⟩ 1 1 (encC a) rfl hrc (encC_one a) (by unfold maxLen; omega) (by omega) (by simp; omega)
  have hown5 : OwnC w3 B v' (es ++ [a]) := by
    show w3.ownsRow B _ 7 v' (es ++ [a]).length ((es ++ [a]).flatMap encC)
    rw [List.length_append, List.flatMap_append]
    simpa using hown4
  have hlen : (es ++ [a]).length = es.length + 1 := by simp
  obtain ⟨g', cap', rfl, _⟩ := ownC_some hown5 (by omega)
  rw [hlen] at hrun hown5
  exact ⟨g', cap', w3, hrun, hown5, ((Below.refl B W).alloc hB _).grown hg (by simp; omega) (fun k e => (hown3.lt k e).1)⟩
end Go.Proofs.YtfffmndjgjfflaaGreatDoor
