/- tree.add by its contract: the tree with one neighbour more. -/
import Derived.Test.YtnkceajhhiidcaaAdd
import Derived.RegionTactic
namespace Go.Proofs.Ytnkceajhhiidcaa
open Go.RowKit Go.Shelf Go.Sort
open Go.Proofs
set_option maxRecDepth 100000
attribute [local go_sem ↓] append_pre

/-- The tree behind an append, a store, and a sort. -/
theorem tr_put {w X w3 w5 : World} {T N n m b t : Nat} {V : Nat → Value} {g' cap' L : Nat}
    (hn : n ≤ 6) (ord : N < T) (ht : w.rowIs T 43 1 (fun _ => .slice (some ⟨N, 0, none⟩) n n)) (hV : w.rowIs N 33 n V)
    (hr : ∀ i, i < n → w.ownsRow (T + 1) 3 1 (V i) (row m i).length (vi (row m i)))
    (hd : ∀ i j, i < n → j < n → i ≠ j → ∀ g, (V i).ownBlock = some g → (V j).ownBlock ≠ some g)
    (cl : ∀ i, i < n → ∀ x ∈ row m i, x < n) (hb : b < n) (htn : t < n)
    (hX : ∀ k, k < w.heap.size → X.heap[k]? = w.heap[k]?) (hXs : w.heap.size ≤ X.heap.size) (hXo : X.os = w.os ∧ X.tape = w.tape ∧ X.output = w.output)
    (h3 : X.grownBy w3 (V t).ownBlock) (hw : (V t).ownBlock = some g' ∨ X.heap.size ≤ g') (hTg : T + 1 ≤ g')
    (h5 : (w3.setCell ⟨N, t, none⟩ (.slice (some ⟨g', 0, none⟩) L cap')).grownBy w5 (some g'))
    (ho : w5.ownsRow (T + 1) 3 1 (.slice (some ⟨g', 0, none⟩) L cap') L (vi (row (put1 m b t) t))) (hL : L = (row (put1 m b t) t).length) :
    Tr w5 T N n (put1 m b t) ∧ Below N w w5 := by
  have hTl := ht.lt
  have hNl := hV.lt
  have hb6 : b < 6 := by omega
  -- a block of the world that is neither the row's nor N
  have key : ∀ k, k < w.heap.size → some k ≠ (V t).ownBlock → k ≠ g' → k ≠ N → w5.heap[k]? = w.heap[k]? := fun k hk h1 h2 h4 => by
    have e1 := h5.block k (by have := h3.size; simp; omega) (fun e => h2 (by injection e))
    have e2 : (w3.setCell ⟨N, t, none⟩ (.slice (some ⟨g', 0, none⟩) L cap')).heap[k]? = w3.heap[k]? := Below.heap_setCell _ _ _ _ (by simpa using h4)
    exact e1.trans (e2.trans ((h3.block k (by omega) h1).trans (hX k hk)))
  have hgr : ∀ k, k < T + 1 → some k ≠ (V t).ownBlock := fun k hk e => by
    have := ((hr t htn).lt k e.symm).1; omega
  have sz : w.heap.size ≤ w5.heap.size := by
    have h := h5.size
    simp at h
    have := h3.size
    omega
  refine ⟨⟨hn, ord, ht.of_block (key T hTl (hgr T (by omega)) (by omega) (by omega)), ⟨fun i => if i = t then .slice (some ⟨g', 0, none⟩) L cap' else V i, ?_, ?_, ?_⟩, ?_⟩, ?_⟩
  · have e3 : w3.rowIs N 33 n V := hV.of_block ((h3.block N (by omega) (hgr N (by omega))).trans (hX N hNl))
    exact (e3.set t _).of_block (h5.block N (by have := h3.size; simp; omega) (fun e => by injection e; omega))
  · intro i hi
    dsimp only
    by_cases hit : i = t
    · subst hit
      rw [if_pos rfl]
      rw [← hL]; exact ho
    · rw [if_neg hit, row_other hb6 hit]
      refine owns_block (hr i hi) fun g hg => ?_
      have hgl := ((hr i hi).lt g hg)
      refine key g hgl.2 (fun e => hd i t hi htn hit g hg e.symm) ?_ (by omega)
      intro e
      subst e
      rcases hw with h | h
      · exact hd i t hi htn hit _ hg h
      · omega
  · intro i j hi hj hij g hg
    dsimp only at hg ⊢
    by_cases hit : i = t
    · rw [if_pos hit] at hg
      have hjt : j ≠ t := fun e => hij (hit.trans e.symm)
      rw [if_neg hjt]
      simp [Value.ownBlock] at hg
      subst hg
      intro e
      have hgl := (hr j hj).lt _ e
      rcases hw with h | h
      · exact hd j t hj htn hjt _ e h
      · omega
    · rw [if_neg hit] at hg
      by_cases hjt : j = t
      · rw [if_pos hjt]
        intro e
        simp [Value.ownBlock] at e
        subst e
        have hgl := (hr i hi).lt _ hg
        rcases hw with h | h
        · exact hd i t hi htn hit _ hg h
        · omega
      · rw [if_neg hjt]
        exact hd i j hi hj hij g hg
  · intro i hi x hx
    by_cases hit : i = t
    · subst hit
      rcases (mem_put hb6).1 hx with h | rfl
      · exact cl i hi x h
      · exact hb
    · rw [row_other hb6 hit] at hx
      exact cl i hi x hx
  · refine ⟨h5.os.trans (h3.os.trans hXo.1), h5.tape.trans (h3.tape.trans hXo.2.1), h5.output.trans (h3.output.trans hXo.2.2), sz, fun k hk => ?_⟩
    exact key k (by omega) (hgr k (by omega)) (by omega) (by omega)

set_option maxHeartbeats 4000000 in
theorem add_c (T N n m b t : Nat) (hb : b < n) (htn : t < n) (hnew : b ∉ row m t) (w : World) (h : Tr w T N n m) :
    Calls Try.prog 18 #[tp T, .int .i64 b, .int .i64 t] w fun e w' => e = .returned (.tuple #[]) ∧ Aside (Tr w' T N n (put1 m b t) ∧ Below N w w') := by
  obtain ⟨hn, ord, ht, ⟨V, hV, hr, hd⟩, cl⟩ := h
  have hb6 : b < 6 := by omega
  obtain ⟨ao, cap, hVt, _⟩ := owns_ints (hr t htn)
  have hXB : ∀ k, k < w.heap.size → ((w.alloc (.cells #[.int .i64 (b : Int)] 3)).drew).heap[k]? = w.heap[k]? := fun k hk => Below.heap_alloc w _ k hk
  have hown : ((w.alloc (.cells #[.int .i64 (b : Int)] 3)).drew).ownsRow (T + 1) 3 1 (V t) (row m t).length (vi (row m t)) := owns_block (hr t htn) fun g hg => hXB g ((hr t htn).lt g hg).2
  have hlen := row_len m t
  obtain ⟨g', cap', L, w3, hrun, HR⟩ := add_run (T + 1) (row m t) b (V t) ((w.alloc (.cells #[.int .i64 (b : Int)] 3)).drew) w.heap.size hown (by have := ht.lt; simp; omega) hlen (by simp)
  have hsz : ((w.alloc (.cells #[.int .i64 (b : Int)] 3)).drew).heap.size = w.heap.size + 1 := by simp
  obtain ⟨hL, ho3, hg3, hwh⟩ := HR.out
  have hTg : T + 1 ≤ g' := (ho3.lt g' rfl).1
  have hTl := ht.lt
  have hNl := hV.lt
  have cT : w.cell? ⟨T, 0, none⟩ = some (.slice (some ⟨N, 0, none⟩) n n) := ht.cell (by omega)
  have cN : w.cell? ⟨N, t, none⟩ = some (.slice ao (row m t).length cap) := by rw [← hVt]; exact hV.cell htn
  have fN : w.frozen? ⟨N, t, none⟩ = false := hV.frozen t
  have hgr : ∀ k, k < T + 1 → some k ≠ (V t).ownBlock := fun k hk e => by
    have := ((hr t htn).lt k e.symm).1; omega
  have b3 : ∀ k, k < T + 1 → w3.heap[k]? = w.heap[k]? := fun k hk => (hg3.block k (by rw [hsz]; omega) (hgr k hk)).trans (hXB k (by omega))
  have cT3 : w3.cell? ⟨T, 0, none⟩ = some (.slice (some ⟨N, 0, none⟩) n n) := (World.cell?_of_block (w := w) (b3 T (by omega))).trans cT
  have cN3 : w3.cell? ⟨N, t, none⟩ = some (.slice ao (row m t).length cap) := (World.cell?_of_block (w := w) (b3 N (by omega))).trans cN
  have fN3 : w3.frozen? ⟨N, t, none⟩ = false := (World.frozen?_of_block (w := w) (b3 N (by omega))).trans fN
  have HSO : Aside (Calls Try.prog 20 #[.slice (some ⟨g', 0, none⟩) L cap'] (w3.setCell ⟨N, t, none⟩ (.slice (some ⟨g', 0, none⟩) L cap')) fun e w' => e = .returned (.tuple #[]) ∧ Aside (Tr w' T N n (put1 m b t) ∧ Below N w w')) := by
    have ho4 : (w3.setCell ⟨N, t, none⟩ (.slice (some ⟨g', 0, none⟩) L cap')).ownsRow (T + 1) 3 1 (.slice (some ⟨g', 0, none⟩) L cap') L (vi (row m t ++ [b])) := owns_block ho3 fun g hg => by
      simp [Value.ownBlock] at hg
      exact Below.heap_setCell _ _ _ _ (by simp; omega)
    have hsp := sort_put (m := m) hb6 hnew
    refine (sort_own (T + 1) g' cap' L (row m t ++ [b]) (row (put1 m b t) t) _ ho4 hL hsp (by rw [hL]; simp; omega)).mono ?_
    rintro e w5 ⟨rfl, H5⟩
    obtain ⟨o5, g5⟩ := H5.out
    have hL2 : L = (row (put1 m b t) t).length := by
      have := congrArg List.length hsp
      rw [List.length_mergeSort, ints_len, ints_len] at this
      rw [hL]; exact this
    exact ⟨rfl, tr_put hn ord ht hV hr hd cl hb htn hXB (by rw [hsz]; omega) ⟨rfl, rfl, rfl⟩ hg3 (by rcases hwh with h | h; exact Or.inl h; exact Or.inr h) hTg g5 o5 hL2⟩
  rw [hVt] at hrun
  generalize (row m t).length = ln at *
  clear HR hL ho3 hg3 hwh hown hr hd cl ht hV hVt hXB hgr b3 hsz hnew
  have htz : (t : Int) < n := by omega
  go_enter Try.func18, Try.ntmps18
  go_wp2_with fail
  go_region
  all_goals
    go_wp2_with fail
    refine HSO.out.mono ?_
    rintro e w5 ⟨rfl, H5⟩
    go_wp2_with fail
    go_end0
    exact ⟨rfl, H5⟩
end Go.Proofs.Ytnkceajhhiidcaa
