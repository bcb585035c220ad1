/- gazettelaw09.fit; rows of pairs that a call owns. -/
import Derived.Test.YtnkceajhhiidcaaTreeQ
namespace Go.Proofs.Ytnkceajhhiidcaa
open Go.RowKit Go.Shelf Go.Sort
open Go.Proofs
set_option maxRecDepth 100000
attribute [local go_sem ↓] append_pre

theorem wayV_some {g cap : Nat} {l : List Nat} (h : l ≠ []) : wayV g cap l = .slice (some ⟨g, 0, none⟩) l.length cap := by unfold wayV; rw [if_neg h]
theorem wayV_nil {g cap : Nat} : wayV g cap [] = .slice none 0 0 := rfl
/-- What Path and Near answer, where there is something. -/
theorem way_some {w w' : World} {e : Ending} {l : List Nat} (hl : l ≠ []) (h : WayIs w l e w') : ∃ g cap, e = .returned (.slice (some ⟨g, 0, none⟩) l.length cap) ∧
    Aside ((∀ j, j < l.length → w'.cell? ⟨g, j, none⟩ = some (.int .i64 ((l[j]! : Nat) : Int))) ∧ g < w'.heap.size ∧ Below w.heap.size w w') := by
  obtain ⟨g, cap, rfl, h1, h2, h3⟩ := h
  exact ⟨g, cap, by rw [wayV_some hl], h1, h2 hl, h3⟩
theorem way_nil {w w' : World} {e : Ending} (h : WayIs w [] e w') : e = .returned (.slice none 0 0) ∧ Below w.heap.size w w' := by
  obtain ⟨g, cap, rfl, h1, h2, h3⟩ := h
  exact ⟨rfl, h3⟩

def mFit : Nat := putE (putE 0 0 1) 2 1
set_option maxHeartbeats 4000000 in
theorem fit9_c (w : World) : Calls Try.prog 7 #[] w fun e w' => e = .returned (.bool true) ∧ Below w.heap.size w w' := by
  have hnp : newP 3 [(0, 1), (2, 1)] = some (.ok mFit) := by kernel_rfl
  have hpp : pathP 3 mFit 0 2 = some [0, 1, 2] := by kernel_rfl
  have HN : Aside (∀ W, (∀ i v, #[Value.int .i64 0, .int .i64 1, .int .i64 2, .int .i64 1][i]? = some v → W.cell? ⟨w.heap.size, i, none⟩ = some v) → w.heap.size < W.heap.size → Calls Try.prog 8 #[.int .i64 3, .slice (some ⟨w.heap.size, 0, none⟩) 2 2] W fun e w' => ∃ T N, e = .returned (.tuple #[tp T, .int .i64 0]) ∧ Aside (Tr w' T N 3 mFit ∧ Sym mFit ∧ W.heap.size ≤ N ∧ Below W.heap.size W w')) := fun W hW hl =>
    new_c 3 (by omega) (by omega) _ _ [(0, 1), (2, 1)] _ hnp (by decide) W (Or.inr ⟨_, 0, rfl, hl, fun i hi => by
      have hi2 : i = 0 ∨ i = 1 := by simp at hi; omega
      rcases hi2 with rfl | rfl
      · exact ⟨hW 0 _ rfl, hW 1 _ rfl⟩
      · exact ⟨hW 2 _ rfl, hW 3 _ rfl⟩⟩)
  have HPA : Aside (∀ T N W, Tr W T N 3 mFit → Calls Try.prog 13 #[tp T, .int .i64 0, .int .i64 2] W fun e w' => ∃ g cap, e = .returned (.slice (some ⟨g, 0, none⟩) 3 cap) ∧
      Aside (w'.cell? ⟨g, 1, none⟩ = some (.int .i64 1) ∧ Below W.heap.size W w')) := fun T N W hT =>
    (path_c T N 3 mFit 0 2 _ hpp W hT).mono fun e w' h => by
      obtain ⟨g, cap, h1, h2⟩ := way_some (by simp) h
      exact ⟨g, cap, h1, h2.1 1 (by decide), h2.2.2⟩
  have HLE : Aside (∀ T N W, Tr W T N 3 mFit → Calls Try.prog 10 #[tp T] W fun e w' => e = .returned (.int .i64 3) ∧ W = w') := fun T N W hT => len_c T N 3 mFit W hT
  have HX : Aside (∀ i v, #[Value.int .i64 0, .int .i64 1, .int .i64 2, .int .i64 1][i]? = some v → (w.alloc (.cells #[Value.int .i64 0, .int .i64 1, .int .i64 2, .int .i64 1] 31)).cell? ⟨w.heap.size, i, none⟩ = some v) := fun i v h => by rw [World.cell?_alloc_new]; exact h
  have HB0 : Aside (Below w.heap.size w (w.alloc (.cells #[Value.int .i64 0, .int .i64 1, .int .i64 2, .int .i64 1] 31))) := (Below.refl _ _).alloc (Nat.le_refl _) _
  have hz : w.heap.size < (w.alloc (.cells #[Value.int .i64 0, .int .i64 1, .int .i64 2, .int .i64 1] 31)).heap.size := by simp
  clear hnp hpp
  go_enter Try.func7, Try.ntmps7
  go_wp2_with fail
  generalize (w.alloc (.cells #[Value.int .i64 0, .int .i64 1, .int .i64 2, .int .i64 1] 31)) = w1 at *
  refine (HN.out _ HX.out hz).mono ?_
  rintro e w2 ⟨T, N, rfl, H2⟩
  obtain ⟨hT2, _, hN2, hb2⟩ := H2.out
  have HT2 := Lib.hid hT2
  have HB2 : Aside (Below w.heap.size w w2) := HB0.out.trans (hb2.mono (by omega))
  have zr : w.heap.size ≤ w2.heap.size := HB2.out.size
  clear HN HX hz hT2 hN2 hb2 H2
  go_wp2_with fail
  refine (HPA.out T N _ HT2.out).mono ?_
  rintro e w3 ⟨g, cap, rfl, H3⟩
  obtain ⟨c1, hb3⟩ := H3.out
  have HT3 := Lib.hid (HT2.out.below hb3)
  have HB3 : Aside (Below w.heap.size w w3) := HB2.out.trans (hb3.mono zr)
  clear HPA hb3 H3
  go_wp2_with fail
  refine (HLE.out T N _ HT3.out).mono ?_
  rintro e w4 ⟨rfl, rfl⟩
  go_wp2_with fail
  go_ret
  exact ⟨rfl, HB3.out⟩

/-! ### Rows of pairs -/
def enc2 (p : Int × Int) : List Value := [.int .i64 p.1, .int .i64 p.2]
abbrev OwnP (W : World) (B : Nat) (v : Value) (ps : List (Int × Int)) : Prop := W.ownsRow B 31 2 v ps.length (ps.flatMap enc2)
theorem enc2_len (ps : List (Int × Int)) : (ps.flatMap enc2).length = ps.length * 2 := by
  induction ps with
  | nil => rfl
  | cons p ps ih => rw [List.flatMap_cons, List.length_append, ih]; simp [enc2]; omega
theorem enc2_one (ps : List (Int × Int)) : ∀ u ∈ ps.flatMap enc2, u.oneCell' = true := fun u hu => by
  obtain ⟨p, _, h⟩ := List.mem_flatMap.1 hu
  unfold enc2 at h
  simp at h
  rcases h with rfl | rfl <;> rfl
theorem enc2_at : ∀ (ps : List (Int × Int)) (i : Nat), i < ps.length → (ps.flatMap enc2)[i * 2]? = some (.int .i64 ps[i]!.1) ∧ (ps.flatMap enc2)[i * 2 + 1]? = some (.int .i64 ps[i]!.2)
  | [], _, h => by simp at h
  | p :: ps, 0, _ => ⟨rfl, rfl⟩
  | p :: ps, i + 1, h => by
    have := enc2_at ps i (by simpa using h)
    rw [List.flatMap_cons, show (i + 1) * 2 = i * 2 + 1 + 1 by omega, show i * 2 + 1 + 1 + 1 = i * 2 + 1 + 1 + 1 by rfl]
    simpa [enc2] using this
theorem ownP_pairs {W : World} {B : Nat} {v : Value} {ps : List (Int × Int)} (h : OwnP W B v ps) : ∃ ao cap, v = .slice ao ps.length cap ∧ PairsB W ao ps ∧ ∀ g off, ao = some ⟨g, off, none⟩ → B ≤ g := by
  have h' := h
  rcases h.2 with ⟨rfl, h0⟩ | ⟨g, cap, cur, rfl, hbg, hg, hnc, hcm, hcs, htake⟩
  · have : ps = [] := List.eq_nil_of_length_eq_zero h0
    subst this
    exact ⟨none, 0, rfl, Or.inl rfl, fun g off e => by cases e⟩
  · refine ⟨_, _, rfl, Or.inr ⟨g, 0, rfl, (Array.getElem?_eq_some_iff.1 hg).1, fun i hi => ?_⟩, fun g2 off e => by injection e with e; injection e with e1; omega⟩
    have e := enc2_at ps i hi
    rw [Nat.zero_add, h'.cellAt (i * 2) (by omega), h'.cellAt (i * 2 + 1) (by omega)]
    exact e
theorem pair_info : ∃ i z, Try.prog.info? 31 = some i ∧ i.zero = some z ∧ i.size = 2 ∧ i.bytes = 16 ∧ z.cells.size = 2 := by
  have h : (Try.prog.info? 31).map (fun i => (i.zero.map (fun z => z.cells.size), i.size, i.bytes)) = some (some 2, 2, 16) := by kernel_rfl
  obtain ⟨i, hi, h⟩ := Option.map_eq_some_iff.1 h
  simp only [Prod.mk.injEq] at h
  obtain ⟨z, hz, h1⟩ := Option.map_eq_some_iff.1 h.1
  exact ⟨i, z, hi, hz, h.2.1, h.2.2, h1⟩
theorem two_cells (a b : Int) (W : World) : ∀ (j : Nat) u, (enc2 (a, b))[j]? = some u → (W.alloc (.cells #[.int .i64 a, .int .i64 b] 31)).cell? ((⟨W.heap.size, 0, none⟩ : Addr).add j) = some u := fun j u h => by
  have h2 : (W.alloc (.cells #[.int .i64 a, .int .i64 b] 31)).cell? ⟨W.heap.size, j, none⟩ = some u := by rw [World.cell?_alloc_new]; simpa [enc2] using h
  by_cases h0 : j = 0
  · subst h0; simpa [Addr.add] using h2
  · simpa [Addr.add, h0] using h2
/-- A pair more behind those that there are. -/
theorem pair_run (B : Nat) (ps : List (Int × Int)) (a b : Int) (v : Value) (W : World) (hown : OwnP W B v ps) (hB : B ≤ W.heap.size) (hl : ps.length ≤ 100) :
    ∃ ao L cap' w3, Sem.run Try.prog (appendS #[22, 22] 22 #[v, .slice (some ⟨W.heap.size, 0, none⟩) 1 1]) (W.alloc (.cells #[.int .i64 a, .int .i64 b] 31)) = .ok (.slice ao L cap') w3 ∧
      Aside (L = ps.length + 1 ∧ OwnP w3 B (.slice ao L cap') (ps ++ [(a, b)]) ∧ Below B W w3) := by
  obtain ⟨i0, z0, hi, hz0, hz1, hz2, hz3⟩ := pair_info
  have hown3 : (W.alloc (.cells #[.int .i64 a, .int .i64 b] 31)).ownsRow B 31 2 v ps.length (ps.flatMap enc2) := hown.alloc _
  obtain ⟨v', w3, hrun, hown4, hg, _⟩ := run_append_own (P := Try.prog) (W.alloc (.cells #[.int .i64 a, .int .i64 b] 31)) B 22 22 31 i0 z0 2 16 Try.underlying22 hi hz0 hz1 hz2 hz3 (by decide) _ _ _ hown3 ⟨W.heap.size, 0, none⟩ 1 1 (enc2 (a, b)) rfl (two_cells a b W) (by simp [enc2, Value.oneCell']) (by unfold maxLen; omega) (by omega) (by simp; omega)
  have hown5 : OwnP w3 B v' (ps ++ [(a, b)]) := by
    show w3.ownsRow B _ 2 v' (ps ++ [(a, b)]).length ((ps ++ [(a, b)]).flatMap enc2)
    rw [List.length_append, List.flatMap_append]
    simpa using hown4
  obtain ⟨ao, cap', rfl, _⟩ := ownP_pairs hown5
  exact ⟨ao, _, cap', w3, hrun, by simp, hown5, ((Below.refl B W).alloc hB _).grown hg (by simp; omega) (fun k e => (hown3.lt k e).1)⟩
end Go.Proofs.Ytnkceajhhiidcaa
