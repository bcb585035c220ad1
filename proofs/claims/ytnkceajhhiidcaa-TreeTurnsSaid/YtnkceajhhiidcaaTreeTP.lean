/- For TreeTurns: both orders, plainly; rows of pairs put behind, and ahead. -/
import Derived.Test.YtnkceajhhiidcaaTreeEnds
import Derived.Deep.Upon
namespace Go.Proofs.Ytnkceajhhiidcaa
open Go.RowKit Go.Shelf Go.Sort
open Go.Proofs
set_option maxRecDepth 100000
attribute [local go_sem ↓] append_pre

def turnsB (n m : Nat) : Bool := (List.range n).all fun i => wayB (pathP n m 0 i) fun l => wayB (pathP n m i 0) fun l2 => l.length == l2.length
theorem turns_all : allK (fun n k => newB (newP n (prs (fun i => ((i : Nat), (k i : Nat))) n)) fun m => newB (newP n (prsR (fun i => ((k i : Nat), (i : Nat))) n)) fun m2 => m == m2 && turnsB n m) = true := by kernel_rfl
theorem turns_get (n : Nat) (h1 : 1 ≤ n) (h6 : n ≤ 6) (k : Nat → Nat) (hk : ∀ i, 1 ≤ i → k i < i) : ∃ m, newP n (prs (fun i => ((i : Nat), (k i : Nat))) n) = some (.ok m) ∧ newP n (prsR (fun i => ((k i : Nat), (i : Nat))) n) = some (.ok m) ∧
    ∀ i, i < n → ∃ l l2, pathP n m 0 i = some l ∧ pathP n m i 0 = some l2 ∧ l.length = l2.length := by
  have := allK_get turns_all (fun n k k' _ h => by
    have e : prs (fun i => ((i : Nat), (k i : Nat))) n = prs (fun i => ((i : Nat), (k' i : Nat))) n := prs_congr n fun i h1 h2 => by rw [h i h1 h2]
    have e2 : prsR (fun i => ((k i : Nat), (i : Nat))) n = prsR (fun i => ((k' i : Nat), (i : Nat))) n := prsR_congr n fun i h1 h2 => by rw [h i h1 h2]
    rw [e, e2]) n h1 h6 k hk
  obtain ⟨m, hm, hb⟩ := newB_iff this
  obtain ⟨m2, hm2, hb⟩ := newB_iff hb
  rw [Bool.and_eq_true, beq_iff_eq] at hb
  obtain ⟨rfl, hb⟩ := hb
  refine ⟨m, hm, hm2, fun i hi => ?_⟩
  unfold turnsB at hb
  simp only [List.all_eq_true, List.mem_range] at hb
  obtain ⟨l, h1, h2⟩ := wayB_iff (hb i hi)
  obtain ⟨l2, h3, h4⟩ := wayB_iff h2
  exact ⟨l, l2, h1, h3, by simpa using h4⟩
/-- Two rows that lie apart. -/
def apart (a b : Value) : Prop := ∀ g, b.ownBlock = some g → a.ownBlock ≠ some g
/-- A pair more behind, another row beside. -/
theorem pair_run2 (B : Nat) (ps : List (Int × Int)) (a b : Int) (v : Value) (W : World) (hown : OwnP W B v ps) (hB : B ≤ W.heap.size) (hl : ps.length ≤ 100) :
    ∃ ao L cap' w3, Sem.run Try.prog (appendS #[22, 22] 22 #[v, .slice (some ⟨W.heap.size, 0, none⟩) 1 1]) (W.alloc (.cells #[.int .i64 a, .int .i64 b] 31)) = .ok (.slice ao L cap') w3 ∧
      Aside (L = ps.length + 1 ∧ OwnP w3 B (.slice ao L cap') (ps ++ [(a, b)]) ∧ Below B W w3 ∧ W.heap.size ≤ w3.heap.size ∧ ∀ u qs, OwnP W B u qs → apart v u → OwnP w3 B u qs ∧ apart (.slice ao L cap') u) := by
  obtain ⟨i0, z0, hi, hz0, hz1, hz2, hz3⟩ := pair_info
  have hown3 : (W.alloc (.cells #[.int .i64 a, .int .i64 b] 31)).ownsRow B 31 2 v ps.length (ps.flatMap enc2) := hown.alloc _
  have hnews := two_cells a b W
  generalize hX : (W.alloc (.cells #[.int .i64 a, .int .i64 b] 31)) = X at *
  have hXs : X.heap.size = W.heap.size + 1 := by rw [← hX]; simp
  have hXo : ∀ {u qs}, OwnP W B u qs → OwnP X B u qs := fun h => by rw [← hX]; exact h.alloc _
  have hXb : Below B W X := by rw [← hX]; exact (Below.refl _ _).alloc hB _
  obtain ⟨v', w3, hrun, hown4, hg, _⟩ := run_append_own (P := Try.prog) X B 22 22 31 i0 z0 2 16 Try.underlying22 hi hz0 hz1 hz2 hz3 (by decide) _ _ _ hown3 ⟨W.heap.size, 0, none⟩ 1 1 (enc2 (a, b)) rfl hnews (by simp [enc2, Value.oneCell']) (by unfold maxLen; omega) (by omega) (by omega)
  have hw : v'.ownBlock = v.ownBlock ∨ v'.ownBlock = some X.heap.size := by
    rcases hown3.2 with ⟨rfl, h0⟩ | ⟨g, cap, cur, rfl, hbg, hg, hnc, hcm, hcs, htake⟩
    · have hr := run_append_nil (P := Try.prog) X 22 22 31 i0 z0 Try.underlying22 hi hz0 ⟨W.heap.size, 0, none⟩ 1 1 (enc2 (a, b)) (by rw [hz1]; rfl) hnews (by omega) (by omega) (by rw [hz2]; omega)
      rw [hr] at hrun
      injection hrun with q1 q2
      subst q1
      exact Or.inr rfl
    · by_cases hroom : ps.length + 1 ≤ cap
      · have hr := run_append_room (P := Try.prog) X 22 22 31 i0 Try.underlying22 hi g ps.length cap cur hg ⟨W.heap.size, 0, none⟩ 1 1 (enc2 (a, b)) (by rw [hz1]; rfl) hnews (by simp [enc2, Value.oneCell']) hroom (by rw [hz1, hcs]; simp [enc2]; omega)
        rw [hr] at hrun
        injection hrun with q1 q2
        subst q1
        exact Or.inl rfl
      · have hr := run_append_grow (P := Try.prog) X 22 22 31 i0 z0 Try.underlying22 hi hz0 ⟨g, 0, none⟩ ps.length cap (ps.flatMap enc2) (by rw [hz1, enc2_len]) (hown3.cells rfl) ⟨W.heap.size, 0, none⟩ 1 1 (enc2 (a, b)) (by rw [hz1]; rfl) hnews (by omega) (by omega) (growslice_fits (by omega) (by rw [hz2]; omega))
        rw [hr] at hrun
        injection hrun with q1 q2
        subst q1
        exact Or.inr rfl
  have hown5 : OwnP w3 B v' (ps ++ [(a, b)]) := by
    show w3.ownsRow B _ 2 v' (ps ++ [(a, b)]).length ((ps ++ [(a, b)]).flatMap enc2)
    rw [List.length_append, List.flatMap_append]
    simpa using hown4
  obtain ⟨ao, cap', rfl, _⟩ := ownP_pairs hown5
  refine ⟨ao, _, cap', w3, hrun, by simp, hown5, hXb.grown hg (by omega) (fun k e => (hown3.lt k e).1), by have := hg.size; omega, fun u qs hu ha => ⟨(hXo hu).kept hg ?_, fun g hug e => ?_⟩⟩
  · cases hub : u.ownBlock with
    | none => exact Or.inl rfl
    | some g => exact Or.inr fun e => ha g hub e.symm
  · have hul := hu.lt g hug
    rcases hw with h | h
    · exact ha g hug (h ▸ e)
    · rw [h] at e
      injection e with e
      omega
/-- A pair ahead of those that there are. -/
theorem front_run (B : Nat) (ps : List (Int × Int)) (a b : Int) (v : Value) (W : World) (hown : OwnP W B v ps) (hB : B ≤ W.heap.size) (hl : ps.length ≤ 100) :
    ∃ ao L cap' w3, Sem.run Try.prog (appendS #[22, 22] 22 #[.slice (some ⟨W.heap.size, 0, none⟩) 1 1, v]) (W.alloc (.cells #[.int .i64 a, .int .i64 b] 31)) = .ok (.slice ao L cap') w3 ∧
      Aside (L = ps.length + 1 ∧ OwnP w3 B (.slice ao L cap') ((a, b) :: ps) ∧ Below W.heap.size W w3 ∧ ∀ g, (Value.slice ao L cap').ownBlock = some g → W.heap.size ≤ g) := by
  obtain ⟨i0, z0, hi, hz0, hz1, hz2, hz3⟩ := pair_info
  have hlit : OwnP (W.alloc (.cells #[.int .i64 a, .int .i64 b] 31)) W.heap.size (.slice (some ⟨W.heap.size, 0, none⟩) 1 1) [(a, b)] := World.ownsRow_lit W #[.int .i64 a, .int .i64 b] 1 (Nat.le_refl _) (by unfold maxLen; omega) rfl
  have hb1 : Below W.heap.size W (W.alloc (.cells #[.int .i64 a, .int .i64 b] 31)) := (Below.refl _ _).alloc (Nat.le_refl _) _
  have up : ∀ {w3 v' qs}, OwnP w3 W.heap.size v' qs → OwnP w3 B v' qs := fun h => ⟨h.1, by
    rcases h.2 with h | ⟨g, cap, cur, h1, h2, h3⟩
    · exact Or.inl h
    · exact Or.inr ⟨g, cap, cur, h1, by omega, h3⟩⟩
  rcases hown.2 with ⟨rfl, h0⟩ | ⟨g, cap, cur, rfl, hbg, hg, hnc, hcm, hcs, htake⟩
  · have : ps = [] := List.eq_nil_of_length_eq_zero h0
    subst this
    exact ⟨_, 1, 1, _, run_append_nothing _ 22 22 22 31 i0 Try.underlying22 hi _ 1 1 (Nat.le_refl _) _ (Src.ofNil _ Try.underlying22 0), rfl, up hlit, hb1, fun g h => (hlit.lt g h).1⟩
  · have hown3 : OwnP (W.alloc (.cells #[.int .i64 a, .int .i64 b] 31)) B (.slice (some ⟨g, 0, none⟩) ps.length cap) ps := hown.alloc _
    obtain ⟨v', w3, hrun, hown4, hgr, _⟩ := run_append_own (P := Try.prog) (W.alloc (.cells #[.int .i64 a, .int .i64 b] 31)) W.heap.size 22 22 31 i0 z0 2 16 Try.underlying22 hi hz0 hz1 hz2 hz3 (by decide) _ _ _ hlit ⟨g, 0, none⟩ ps.length cap (ps.flatMap enc2) (enc2_len ps) (hown3.cells rfl) (enc2_one ps) (by unfold maxLen; simp; omega) (by simp; omega) (by simp)
    have hown5 : OwnP w3 W.heap.size v' ((a, b) :: ps) := by
      show w3.ownsRow _ _ 2 v' ((a, b) :: ps).length (((a, b) :: ps).flatMap enc2)
      rw [List.length_cons, List.flatMap_cons, Nat.add_comm ps.length 1]
      simpa using hown4
    obtain ⟨ao, cap', rfl, _⟩ := ownP_pairs hown5
    exact ⟨ao, _, cap', w3, hrun, rfl, up hown5, hb1.grown hgr (by simp) (fun k e => (hlit.lt k e).1), fun g h => (hown5.lt g h).1⟩
end Go.Proofs.Ytnkceajhhiidcaa
