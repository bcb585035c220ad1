/- Rows of rules that a call owns: append, and how they are read. -/
import Derived.Test.YtjnfbinomljocaaDoorAcR
import Derived.Maps.AppendAt
import Derived.Laws.IdiomStrings
namespace Go.Proofs.YtjnfbinomljocaaDoor
open Go.RowKit Go.Shelf Go.Sort
open Go.Proofs
set_option maxRecDepth 100000

abbrev OwnR (W : World) (B : Nat) (v : Value) (l : List Ru) : Prop := W.ownsRow B 43 8 v l.length (l.flatMap encR)
theorem ownR_below {w W : World} {B : Nat} {v : Value} {l : List Ru} (h : OwnR w B v l) (hb : Below w.heap.size w W) : OwnR W B v l := by
  obtain ⟨h1, h2⟩ := h
  refine ⟨h1, ?_⟩
  rcases h2 with h2 | ⟨g, cap, cur, hv, hbg, hg, hr⟩
  · exact Or.inl h2
  · exact Or.inr ⟨g, cap, cur, hv, hbg, (hb.block g (Array.getElem?_eq_some_iff.1 hg).1).trans hg, hr⟩
/-- Where a row of one element or more lies. -/
theorem ownR_some {w : World} {B : Nat} {v : Value} {l : List Ru} (h : OwnR w B v l) (hne : 0 < l.length) : ∃ g cap, v = .slice (some ⟨g, 0, none⟩) l.length cap ∧ B ≤ g ∧ g < w.heap.size := by
  rcases h.2 with ⟨_, h0⟩ | ⟨g, cap, cur, hv, hbg, hg, _⟩
  · omega
  · exact ⟨g, cap, hv, hbg, (Array.getElem?_eq_some_iff.1 hg).1⟩
theorem ownR_lt {w : World} {B g n cap : Nat} {l : List Ru} (h : OwnR w B (.slice (some ⟨g, 0, none⟩) n cap) l) : B ≤ g ∧ g < w.heap.size := h.lt g rfl
theorem ownR_rows {w : World} {B : Nat} {v : Value} {l : List Ru} (h : OwnR w B v l) : ∃ ao cap, v = .slice ao l.length cap ∧ RowsN B w ao l := by
  have h' := h
  rcases h.2 with ⟨rfl, h0⟩ | ⟨g, cap, cur, rfl, hbg, hg, hnc, hcm, hcs, htake⟩
  · have : l = [] := List.eq_nil_of_length_eq_zero h0
    subst this
    exact ⟨none, 0, rfl, Or.inl rfl⟩
  · refine ⟨_, _, rfl, Or.inr ⟨g, 0, rfl, hbg, (Array.getElem?_eq_some_iff.1 hg).1, fun j hj c u hu => ?_⟩⟩
    have hcell := h'.cells (g := g) rfl (j * 8 + c) u (encR_at l j hj c u hu)
    rw [Nat.zero_add]
    generalize j * 8 + c = q at hcell ⊢
    by_cases h0 : q = 0
    · subst h0; simpa [Addr.add] using hcell
    · have e : (⟨g, 0, none⟩ : Addr).add q = ⟨g, q, none⟩ := by simp [Addr.add, h0]
      rw [e] at hcell; exact hcell
/-- An element more. -/
theorem appendR_run (B : Nat) (es : List Ru) (a : Ru) (v : Value) (W : World) (hown : OwnR W B v es) (hB : B ≤ W.heap.size) (hl : es.length < 256) :
    ∃ g' cap' w3, Sem.run Tryd.prog (appendS #[22, 22] 22 #[v, .slice (some ⟨W.heap.size, 0, none⟩) 1 1])
        (W.alloc (.cells (ruls a.k a.tn a.who a.br a.sc a.co a.cs.length a.cap a.nm a.ix) 43)) = .ok (.slice (some ⟨g', 0, none⟩) (es.length + 1) cap') w3 ∧
      Aside (OwnR w3 B (.slice (some ⟨g', 0, none⟩) (es.length + 1) cap') (es ++ [a]) ∧ Below B W w3) := by
  obtain ⟨i0, z0, hi, hz0, hz1, hz2, hz3⟩ := rule_info
  have hown3 : (W.alloc (.cells (encR a).toArray 43)).ownsRow B 43 8 v es.length (es.flatMap encR) := hown.alloc _
  have hrc := rule_cells a W 43
  obtain ⟨v', w3, hrun, hown4, hg, _⟩ := run_append_own (P := Tryd.prog) (W.alloc (.cells (encR a).toArray 43)) B 22 22 43 i0 z0 8 104 Tryd.underlying22 hi hz0 hz1 hz2 hz3 (by decide) _ _ _ hown3 ⟨W.heap.size, 0, none⟩ 1 1 (encR a) rfl hrc (encR_one a) (by unfold maxLen; omega) (by omega) (by simp; omega)
  have hown5 : OwnR w3 B v' (es ++ [a]) := by
    show w3.ownsRow B _ 8 v' (es ++ [a]).length ((es ++ [a]).flatMap encR)
    rw [List.length_append, List.flatMap_append]
    simpa using hown4
  have hlen : (es ++ [a]).length = es.length + 1 := by simp
  obtain ⟨g', cap', rfl, _⟩ := ownR_some hown5 (by omega)
  rw [hlen] at hrun hown5
  exact ⟨g', cap', w3, hrun, hown5, ((Below.refl B W).alloc hB _).grown hg (by simp; omega) (fun k e => (hown3.lt k e).1)⟩
end Go.Proofs.YtjnfbinomljocaaDoor
