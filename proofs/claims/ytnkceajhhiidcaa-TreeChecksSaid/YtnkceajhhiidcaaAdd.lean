/- tree.add: one more neighbour in a row, sorted. -/
import Derived.Test.YtnkceajhhiidcaaWay
import Derived.Test.YtnkceajhhiidcaaShelf
import Derived.Sort.OwnSortedInts
namespace Go.Proofs.Ytnkceajhhiidcaa
open Go.RowKit Go.Shelf Go.Sort
open Go.Proofs
set_option maxRecDepth 100000
attribute [local go_sem ↓] append_pre

theorem vi_ints (l : List Nat) : vi l = (ints l).map (Value.int .i64) := by simp [vi, ints]
theorem ints_len (l : List Nat) : (ints l).length = l.length := by simp [ints]
set_option maxHeartbeats 1000000 in
theorem sort_own (B g cap L : Nat) (l s : List Nat) (W : World) (h : W.ownsRow B 3 1 (.slice (some ⟨g, 0, none⟩) L cap) L (vi l)) (hL : L = l.length) (hs : (ints l).mergeSort (fun x y => decide (x ≤ y)) = ints s) (h6 : L ≤ 1000) :
    Calls Try.prog 20 #[.slice (some ⟨g, 0, none⟩) L cap] W fun e w' => e = .returned (.tuple #[]) ∧ Aside (w'.ownsRow B 3 1 (.slice (some ⟨g, 0, none⟩) L cap) L (vi s) ∧ W.grownBy w' (some g)) := by
  subst hL
  rcases h.2 with ⟨hnil, _⟩ | ⟨g2, cap2, cur, hv, hbase, hb, h1, h2, h3, h4⟩
  · cases hnil
  · injection hv with e1 e2 e3
    injection e1 with e1
    injection e1 with e1
    subst e1 e3
    have hlen : s.length = l.length := by
      have := congrArg List.length hs
      rw [List.length_mergeSort, ints_len, ints_len] at this
      exact this.symm
    have hH : Holds (Value.int .i64) W g 0 (ints l).toArray := holds_of_blockI hb (by rw [ints_len, ← vi_ints]; simpa using h4)
    have hc := Try.slices_Sort_int g 0 cap (ints l) W hH (Array.getElem?_eq_some_iff.1 hb).1 (by rw [ints_len]; omega)
    rw [ints_len, hs] at hc
    refine hc.mono ?_
    rintro e w' ⟨rfl, nn, os, rfl⟩
    have ho := ownsRow_sortedI (w := W) (n := nn) (os := os) (ss := ints l) (ts := ints s) (by rw [ints_len, ints_len, hlen]) hbase hb (by rw [ints_len]; exact h1) h2 h3
    rw [ints_len, ← vi_ints] at ho
    exact ⟨rfl, ho, grownBy_sortedI _⟩
theorem add_run (B : Nat) (R : List Nat) (b : Nat) (v : Value) (X : World) (G : Nat) (hown : X.ownsRow B 3 1 v R.length (vi R)) (hB : B ≤ X.heap.size) (hl : R.length ≤ 6) (hG : X.cell? ⟨G, 0, none⟩ = some (.int .i64 (b : Int))) :
    ∃ g' cap' L w3, Sem.run Try.prog (appendS #[33, 33] 33 #[v, .slice (some ⟨G, 0, none⟩) 1 1]) X = .ok (.slice (some ⟨g', 0, none⟩) L cap') w3 ∧
      Aside (L = (R ++ [b]).length ∧ w3.ownsRow B 3 1 (.slice (some ⟨g', 0, none⟩) L cap') L (vi (R ++ [b])) ∧ X.grownBy w3 v.ownBlock ∧ (v.ownBlock = some g' ∨ X.heap.size ≤ g')) := by
  obtain ⟨i0, z0, hi, hz0, hz1, hz2, hz3⟩ := int_info
  have hnews : ∀ j u, (vi [b])[j]? = some u → X.cell? ((⟨G, 0, none⟩ : Addr).add j) = some u := fun j u hu => by
    have hj : j < (vi [b]).length := (List.getElem?_eq_some_iff.1 hu).1
    obtain rfl : j = 0 := by simp at hj; omega
    simp at hu
    subst hu
    simpa [Addr.add] using hG
  obtain ⟨v', w3, hrun, hown4, hgr, _⟩ := run_append_own (P := Try.prog) X B 33 33 3 i0 z0 1 8 Try.underlying33 hi hz0 hz1 hz2 hz3 (by decide) _ _ _ hown ⟨G, 0, none⟩ 1 1 (vi [b]) rfl hnews (vi_one _) (by unfold maxLen; omega) (by omega) hB
  have e1 : R.length + 1 = (R ++ [b]).length := by simp
  have e2 : vi R ++ vi [b] = vi (R ++ [b]) := by simp
  rw [e1, e2] at hown4
  have hw : v'.ownBlock = v.ownBlock ∨ v'.ownBlock = some X.heap.size := by
    rcases hown.2 with ⟨rfl, h0⟩ | ⟨g, cap, cur, rfl, hbg, hg, hnc, hcm, hcs, htake⟩
    · have hr := run_append_nil (P := Try.prog) X 33 33 3 i0 z0 Try.underlying33 hi hz0 ⟨G, 0, none⟩ 1 1 (vi [b]) (by rw [hz1]; rfl) hnews (by omega) (by omega) (by rw [hz2]; omega)
      rw [hr] at hrun
      injection hrun with q1 q2
      subst q1
      exact Or.inr rfl
    · by_cases hroom : R.length + 1 ≤ cap
      · have hr := run_append_room (P := Try.prog) X 33 33 3 i0 Try.underlying33 hi g R.length cap cur hg ⟨G, 0, none⟩ 1 1 (vi [b]) (by rw [hz1]; rfl) hnews (vi_one _) hroom (by rw [hz1, hcs]; simp; omega)
        rw [hr] at hrun
        injection hrun with q1 q2
        subst q1
        exact Or.inl rfl
      · have hr := run_append_grow (P := Try.prog) X 33 33 3 i0 z0 Try.underlying33 hi hz0 ⟨g, 0, none⟩ R.length cap (vi R) (by rw [hz1]; simp) (hown.cells rfl) ⟨G, 0, none⟩ 1 1 (vi [b]) (by rw [hz1]; rfl) hnews (by omega) (by omega) (growslice_fits (by omega) (by rw [hz2]; omega))
        rw [hr] at hrun
        injection hrun with q1 q2
        subst q1
        exact Or.inr rfl
  obtain ⟨ao, cap', rfl, hia⟩ := owns_ints hown4
  rcases hia with h | ⟨g', rfl, _, _⟩
  · simp at h
  · refine ⟨g', cap', _, w3, hrun, rfl, hown4, hgr, ?_⟩
    rcases hw with h | h
    · exact Or.inl h.symm
    · have : g' = X.heap.size := by simpa [Value.ownBlock] using h
      exact Or.inr (by omega)
end Go.Proofs.Ytnkceajhhiidcaa
