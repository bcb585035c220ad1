/- NewOf, KeptB, RightE, AttrRow, FilE: merged by merge.py. -/
import Derived.Test.YtjnfbinomljocaaDoorNew
import Derived.Test.YtjnfbinomljocaaDoorGaB
import Derived.Deep.RegionWith
import Derived.Sort.Walk0
import Derived.Maps.AppendAt
import Derived.Laws.IdiomStrings
import Derived.Test.YtjnfbinomljocaaDoorGaD
import Derived.Test.YtjnfbinomljocaaDoorGaE
/- What event.New hands back, in plain words: names rise; of each name the last one told. -/
namespace Go.Proofs.YtjnfbinomljocaaDoor
open Go.RowKit Go.Shelf Go.Sort
open Go.Proofs

theorem dd_mem (D : Array At) (t : Nat) (a : At) (h : a ∈ dd eqA D t) : ∃ s, s < t ∧ a = D[s]! := by
  induction t with
  | zero => simp [dd] at h
  | succ t ih =>
    rw [dd] at h
    split at h
    · obtain ⟨s, h1, h2⟩ := ih h; exact ⟨s, by omega, h2⟩
    · rw [List.mem_append] at h
      rcases h with h | h
      · obtain ⟨s, h1, h2⟩ := ih h; exact ⟨s, by omega, h2⟩
      · simp at h; exact ⟨t, by omega, h⟩

theorem dd_len (D : Array At) (t : Nat) : (dd eqA D t).length ≤ t := by
  induction t with
  | zero => simp [dd]
  | succ t ih =>
    rw [dd]
    split
    · omega
    · rw [List.length_append, List.length_singleton]; omega

theorem dd_find (D : Array At) (heq : ∀ p q, eqA p q = true → keyA p = keyA q) (c : List UInt8) (t : Nat) :
    (dd eqA D t).find? (fun a => keyA a == c) = ((List.range t).map (fun i => D[i]!)).find? (fun a => keyA a == c) := by
  induction t with
  | zero => simp [dd]
  | succ t ih =>
    rw [List.range_succ, List.map_append, List.find?_append, ← ih, dd]
    split
    · rename_i h
      obtain ⟨h0, h1⟩ := h
      have hk := heq _ _ h1
      cases hf : (dd eqA D t).find? (fun a => keyA a == c) with
      | some x => simp
      | none =>
        rw [ih, List.find?_eq_none] at hf
        have := hf D[t - 1]! (List.mem_map.2 ⟨t - 1, List.mem_range.2 (by omega), rfl⟩)
        rw [← hk] at this
        simp only [List.map_cons, List.map_nil, List.find?_cons, List.find?_nil]
        split
        · exact absurd ‹_› (by simpa using this)
        · rfl
    · rw [List.find?_append]; rfl

theorem dd_rise (D : Array At) (n : Nat) (hne : ∀ p q, eqA p q = false → keyA p ≠ keyA q) (hs : SortedIn (ltKey keyA) 0 n D) (t : Nat) (ht : t ≤ n) :
    (dd eqA D t).Pairwise (fun a b => ltKey keyA a b = true) := by
  induction t with
  | zero => simp [dd]
  | succ t ih =>
    rw [dd]
    split
    · exact ih (by omega)
    · rename_i h
      rw [List.pairwise_append]
      refine ⟨ih (by omega), by simp, fun a ha b hb => ?_⟩
      simp only [List.mem_singleton] at hb
      subst hb
      obtain ⟨s, h1, rfl⟩ := dd_mem D t a ha
      have ht0 : t ≠ 0 := by omega
      have he : eqA D[t]! D[t - 1]! = false := by
        cases hq : eqA D[t]! D[t - 1]! with
        | false => rfl
        | true => exact absurd ⟨ht0, hq⟩ h
      have hk := hne _ _ he
      have l1 : ltKey keyA D[t]! D[t - 1]! = false := hs.le (by omega) (by omega) (by omega)
      have l2 : ltKey keyA D[t - 1]! D[t]! = true := by
        cases hq : ltKey keyA D[t - 1]! D[t]! with
        | true => rfl
        | false => exact absurd (key_eq l1 hq) hk
      exact lt_of_le_lt (hs.le (by omega) (by omega) (by omega)) l2

theorem eqA_key (p q : At) : eqA p q = (keyA p == keyA q) := by unfold eqA keyA; rw [bytes_toList, bytes_toList]

/-- Of each name the last one that was told. -/
theorem NewOf.find {zs res : List At} (h : NewOf zs res) (c : List UInt8) : res.find? (fun a => keyA a == c) = (zs.reverse.find? (fun a => keyA a == c)).map canonA := by
  obtain ⟨D, g, _, rfl⟩ := h
  have hsz : D.size = zs.length := by rw [g.size]; simp
  rw [dd_find D (fun p q hh => by rw [eqA_key] at hh; simpa using hh), ← hsz]
  have : (List.range D.size).map (fun i => D[i]!) = D.toList := by rw [toList_get D, List.range_eq_range']
  rw [this, ← List.head?_filter, g.stab c, List.head?_filter]
  simp only [List.find?_map, Function.comp_def, keyA_canon]
theorem NewOf.rise {zs res : List At} (h : NewOf zs res) : res.Pairwise (fun a b => ltKey keyA a b = true) := by
  obtain ⟨D, g, s, rfl⟩ := h
  exact dd_rise D _ (fun p q hh => by rw [eqA_key] at hh; simpa using hh) s _ (Nat.le_refl _)
theorem NewOf.len {zs res : List At} (h : NewOf zs res) : res.length ≤ zs.length := by
  obtain ⟨D, g, s, rfl⟩ := h
  exact dd_len D _
/-- Each is one of those told, kept. -/
theorem NewOf.mem {zs res : List At} (h : NewOf zs res) (a : At) (ha : a ∈ res) : ∃ z ∈ zs, a = canonA z := by
  obtain ⟨D, g, s, rfl⟩ := h
  obtain ⟨t, h1, rfl⟩ := dd_mem D _ a ha
  obtain ⟨r, _, h3, h4⟩ := g.mem t (Nat.zero_le _) h1
  rw [h4]
  have : r < (zs.reverse.map canonA).length := by simp; exact h3
  refine ⟨zs.reverse[r]'(by simp; exact h3), by simp, ?_⟩
  simp [h3]

theorem find_key {l : List At} (hr : l.Pairwise (fun a b => ltKey keyA a b = true)) (a : At) (ha : a ∈ l) : l.find? (fun b => keyA b == keyA a) = some a := by
  induction l with
  | nil => cases ha
  | cons x l ih =>
    rw [List.pairwise_cons] at hr
    rw [List.find?_cons]
    rcases List.mem_cons.1 ha with rfl | h
    · simp
    · have : keyA x ≠ keyA a := key_ne (hr.1 a h)
      rw [show (keyA x == keyA a) = false by simpa using this]
      exact ih hr.2 h

/-- Rising names, and alike under each name: the same list. -/
theorem rise_unique : ∀ (l m : List At), l.Pairwise (fun a b => ltKey keyA a b = true) → m.Pairwise (fun a b => ltKey keyA a b = true) →
    (∀ c, l.find? (fun a => keyA a == c) = m.find? (fun a => keyA a == c)) → l = m
  | [], [], _, _, _ => rfl
  | [], y :: m, _, h2, h => by have := h (keyA y); simp at this
  | x :: l, [], h1, _, h => by have := h (keyA x); simp at this
  | x :: l, y :: m, h1, h2, h => by
    have hx : x ∈ y :: m := by
      have := h (keyA x); rw [find_key h1 x (List.mem_cons_self)] at this; exact List.mem_of_find?_eq_some this.symm
    have hy : y ∈ x :: l := by
      have := h (keyA y); rw [find_key h2 y (List.mem_cons_self)] at this; exact List.mem_of_find?_eq_some this
    have hxy : x = y := by
      rcases List.mem_cons.1 hx with e | e
      · exact e
      · rcases List.mem_cons.1 hy with e2 | e2
        · exact e2.symm
        · have a1 := (List.pairwise_cons.1 h2).1 x e
          have a2 := (List.pairwise_cons.1 h1).1 y e2
          have := (swo_key keyA).trans _ _ _ a1 a2
          rw [(swo_key keyA).irrefl] at this; cases this
    subst hxy
    congr 1
    refine rise_unique l m (List.pairwise_cons.1 h1).2 (List.pairwise_cons.1 h2).2 fun c => ?_
    have := h c
    rw [List.find?_cons, List.find?_cons] at this
    by_cases hc : keyA x = c
    · have n1 : ∀ (k : List At), (∀ a ∈ k, ltKey keyA x a = true) → k.find? (fun a => keyA a == c) = none := fun k hk => by
        rw [List.find?_eq_none]
        intro a ha
        have := key_ne (hk a ha)
        rw [hc] at this
        simpa using fun e => this e.symm
      rw [n1 l (List.pairwise_cons.1 h1).1, n1 m (List.pairwise_cons.1 h2).1]
    · rw [show (keyA x == c) = false by simpa using hc] at this
      exact this
end Go.Proofs.YtjnfbinomljocaaDoor

/- event.kept of any value. -/
namespace Go.Proofs.YtjnfbinomljocaaDoor
open Go.RowKit Go.Shelf
open Go.Proofs
set_option maxRecDepth 100000

theorem run_eqV2 (k k2 n n2 : Int) (x x2 : Nat) (s s2 : ByteArray) (y y2 : Bool) (w : World) :
    (binOp .eql 49 (.agg #[.int .i64 k, .int .i64 n, .float .f64 x, .string s, .bool y]) (val k2 n2 x2 s2 y2)).run Tryd.prog w = .ok (.bool (eqV k k2 n n2 x x2 s s2 y y2)) w := run_eqV k k2 n n2 x x2 s s2 y y2 w
attribute [local go_sem ↓] run_eqV2

/-- What event.kept holds against its Canon: the value, its number laid aside if it is none. -/
def asideX (k : Int) (x : Nat) : Nat := if voidB k x then 0 else x
def keptB (a : At) : Bool :=
  eqV a.k (canonA ⟨a.nm, a.k, a.n, asideX a.k a.x, a.s, a.y⟩).k a.n (canonA ⟨a.nm, a.k, a.n, asideX a.k a.x, a.s, a.y⟩).n (asideX a.k a.x) (canonA ⟨a.nm, a.k, a.n, asideX a.k a.x, a.s, a.y⟩).x a.s (canonA ⟨a.nm, a.k, a.n, asideX a.k a.x, a.s, a.y⟩).s a.y (canonA ⟨a.nm, a.k, a.n, asideX a.k a.x, a.s, a.y⟩).y

set_option maxHeartbeats 2000000 in
theorem kept_c (nm : ByteArray) (k n : Int) (x : Nat) (s : ByteArray) (y : Bool) (w : World) :
    Calls Tryd.prog 28 #[val k n x s y] w fun e w' => e = .returned (.bool (keptB ⟨nm, k, n, x, s, y⟩)) ∧ Below w.heap.size w w' := by
  have hcan : ∀ x' W, Calls Tryd.prog 40 #[.agg #[.int .i64 k, .int .i64 n, .float .f64 x', .string s, .bool y]] W fun e w' => e = .returned (val (canonA ⟨nm, k, n, x', s, y⟩).k (canonA ⟨nm, k, n, x', s, y⟩).n (canonA ⟨nm, k, n, x', s, y⟩).x (canonA ⟨nm, k, n, x', s, y⟩).s (canonA ⟨nm, k, n, x', s, y⟩).y) ∧ Below W.heap.size W w' := fun x' W => canonA_c ⟨nm, k, n, x', s, y⟩ W
  have hv := fun W => void_c k n x s y W
  cases h : voidB k x
  · have hk : keptB ⟨nm, k, n, x, s, y⟩ = eqV k (canonA ⟨nm, k, n, x, s, y⟩).k n (canonA ⟨nm, k, n, x, s, y⟩).n x (canonA ⟨nm, k, n, x, s, y⟩).x s (canonA ⟨nm, k, n, x, s, y⟩).s y (canonA ⟨nm, k, n, x, s, y⟩).y := by
      unfold keptB asideX; rw [h]; rfl
    rw [hk]
    have hcn := hcan x
    generalize canonA ⟨nm, k, n, x, s, y⟩ = c at hcn ⊢
    obtain ⟨nm2, k2, n2, x2, s2, y2⟩ := c
    simp only [] at hcn ⊢
    clear hk hcan
    go_enter Tryd.func28, Tryd.ntmps28
    go_wp2_with fail
    refine (hv _).mono ?_
    rintro e w1 ⟨rfl, hb1⟩
    rw [h]
    have hB : Below w.heap.size w w1 := ((Below.refl w.heap.size w).alloc (Nat.le_refl _) _).trans (hb1.mono (by simp))
    have HB : Aside (Below w.heap.size w w1) := hB
    have hz : w.heap.size < w1.heap.size := by have := hb1.size; simp at this; omega
    have yy : ∀ i, w1.cell? ⟨w.heap.size, i, none⟩ = (#[Value.int .i64 k, .int .i64 n, .float .f64 x, .string s, .bool y])[i]? := fun i => by
      rw [hb1.cell (p := ⟨w.heap.size, i, none⟩) (by simp)]; rw [World.cell?_alloc_new]
    have y0 := yy 0; have y1 := yy 1; have y2' := yy 2; have y3 := yy 3; have y4 := yy 4
    simp only [List.getElem?_toArray, List.getElem?_cons_zero, List.getElem?_cons_succ] at y0 y1 y2' y3 y4
    clear yy hB hb1 hv
    go_wp2_with fail
    go_region_with (go_at_call 40; refine (hcn _).mono ?_; rintro e w2 ⟨rfl, hb2⟩; have c0 := (hb2.cell (p := ⟨w.heap.size, 0, none⟩) hz).trans y0; have c1 := (hb2.cell (p := ⟨w.heap.size, 1, none⟩) hz).trans y1; have c2 := (hb2.cell (p := ⟨w.heap.size, 2, none⟩) hz).trans y2'; have c3 := (hb2.cell (p := ⟨w.heap.size, 3, none⟩) hz).trans y3; have c4 := (hb2.cell (p := ⟨w.heap.size, 4, none⟩) hz).trans y4; have HB2 : Aside (Below w.heap.size w w2) := HB.out.trans (Below.mono ⟨hb2.os, hb2.tape, hb2.output, hb2.size, hb2.block⟩ (Nat.le_of_lt hz)))
    all_goals (go_wp2_with fail; go_ret; exact ⟨rfl, HB2.out⟩)
  · have hk : keptB ⟨nm, k, n, x, s, y⟩ = eqV k (canonA ⟨nm, k, n, 0, s, y⟩).k n (canonA ⟨nm, k, n, 0, s, y⟩).n 0 (canonA ⟨nm, k, n, 0, s, y⟩).x s (canonA ⟨nm, k, n, 0, s, y⟩).s y (canonA ⟨nm, k, n, 0, s, y⟩).y := by
      unfold keptB asideX; rw [h]; rfl
    rw [hk]
    have hcn := hcan 0
    generalize canonA ⟨nm, k, n, 0, s, y⟩ = c at hcn ⊢
    obtain ⟨nm2, k2, n2, x2, s2, y2⟩ := c
    simp only [] at hcn ⊢
    clear hk hcan
    go_enter Tryd.func28, Tryd.ntmps28
    go_wp2_with fail
    refine (hv _).mono ?_
    rintro e w1 ⟨rfl, hb1⟩
    rw [h]
    have hz : w.heap.size < w1.heap.size := by have := hb1.size; simp at this; omega
    have yy : ∀ i, w1.cell? ⟨w.heap.size, i, none⟩ = (#[Value.int .i64 k, .int .i64 n, .float .f64 x, .string s, .bool y])[i]? := fun i => by
      rw [hb1.cell (p := ⟨w.heap.size, i, none⟩) (by simp)]; rw [World.cell?_alloc_new]
    have y0 := yy 0; have y1 := yy 1; have y2' := yy 2; have y3 := yy 3; have y4 := yy 4
    simp only [List.getElem?_toArray, List.getElem?_cons_zero, List.getElem?_cons_succ] at y0 y1 y2' y3 y4
    have hfz : w1.frozen? ⟨w.heap.size, 2, none⟩ = false := by
      have hh := hb1.block w.heap.size (by simp)
      simp only [World.frozen?, hh]
      rw [heap_alloc_new]
      rfl
    have HB1 : Aside _ := hb1
    clear yy hb1 hv
    go_wp2_with fail
    have hB : Below w.heap.size w (w1.setCell ⟨w.heap.size, 2, none⟩ (.float .f64 0)) := (((Below.refl w.heap.size w).alloc (Nat.le_refl _) _).trans (HB1.out.mono (by simp))).setCell (p := ⟨w.heap.size, 2, none⟩) (Nat.le_refl _) _
    have d0 := (World.cell?_setCell_other w1 ⟨w.heap.size, 2, none⟩ ⟨w.heap.size, 0, none⟩ (.float .f64 0) (by simp)).trans y0
    have d1 := (World.cell?_setCell_other w1 ⟨w.heap.size, 2, none⟩ ⟨w.heap.size, 1, none⟩ (.float .f64 0) (by simp)).trans y1
    have d3 := (World.cell?_setCell_other w1 ⟨w.heap.size, 2, none⟩ ⟨w.heap.size, 3, none⟩ (.float .f64 0) (by simp)).trans y3
    have d4 := (World.cell?_setCell_other w1 ⟨w.heap.size, 2, none⟩ ⟨w.heap.size, 4, none⟩ (.float .f64 0) (by simp)).trans y4
    have d2 := World.cell?_setCell_same w1 ⟨w.heap.size, 2, none⟩ (.float .f64 0) y2'
    have HB : Aside (Below w.heap.size w (w1.setCell ⟨w.heap.size, 2, none⟩ (.float .f64 0))) := hB
    have hz3 : w.heap.size < (w1.setCell ⟨w.heap.size, 2, none⟩ (.float .f64 0)).heap.size := by simp; exact hz
    clear hB hfz HB1 y0 y1 y2' y3 y4 hz h
    generalize w1.setCell ⟨w.heap.size, 2, none⟩ (.float .f64 0) = w3 at *
    go_region_with (go_at_call 40; refine (hcn _).mono ?_; rintro e w2 ⟨rfl, hb2⟩; have c0 := (hb2.cell (p := ⟨w.heap.size, 0, none⟩) hz3).trans d0; have c1 := (hb2.cell (p := ⟨w.heap.size, 1, none⟩) hz3).trans d1; have c2 := (hb2.cell (p := ⟨w.heap.size, 2, none⟩) hz3).trans d2; have c3 := (hb2.cell (p := ⟨w.heap.size, 3, none⟩) hz3).trans d3; have c4 := (hb2.cell (p := ⟨w.heap.size, 4, none⟩) hz3).trans d4; have HB2 : Aside (Below w.heap.size w w2) := HB.out.trans (Below.mono ⟨hb2.os, hb2.tape, hb2.output, hb2.size, hb2.block⟩ (Nat.le_of_lt hz3)))
    all_goals (go_wp2_with fail; go_ret; exact ⟨rfl, HB2.out⟩)
end Go.Proofs.YtjnfbinomljocaaDoor

/- event.Right of any event. -/
namespace Go.Proofs.YtjnfbinomljocaaDoor
open Go.RowKit Go.Shelf Go.Sort
open Go.Proofs
set_option maxRecDepth 100000

def okAt (l : List At) (i : Nat) : Bool := (decide (i = 0) || ltKey keyA l[i - 1]! l[i]!) && nameOk l[i]!.nm && vrightB l[i]!.k l[i]!.s && keptB l[i]!
/-- What event.Right says. -/
def rightE (l : List At) : Bool := decide (l.length ≤ 8) && (List.range l.length).all (okAt l)

theorem rightE_bad {l : List At} {j : Nat} (hj : j < l.length) (h : okAt l j = false) : rightE l = false := by
  cases hn : rightE l with
  | false => rfl
  | true =>
    simp only [rightE, Bool.and_eq_true, List.all_eq_true, List.mem_range] at hn
    rw [hn.2 j hj] at h; cases h
theorem ok_succ {l : List At} {j : Nat} (h : (List.range j).all (okAt l) = true) (hp : okAt l j = true) : (List.range (j + 1)).all (okAt l) = true := by
  rw [List.range_succ, List.all_append, h]; simp [hp]

theorem less_key (a b : At) : Op.bytesLess a.nm.toList b.nm.toList = ltKey keyA a b := by
  rw [bytes_toList, bytes_toList, bytesLess_eq]; rfl

set_option maxHeartbeats 4000000 in
theorem right_c (scope : ByteArray) (ao : Option Addr) (cap : Nat) (l : List At) (w : World) (hl : SliceA w ao l) :
    Calls Tryd.prog 13 #[.agg #[.string scope, .slice ao l.length cap]] w fun e w' => e = .returned (.bool (rightE l)) ∧ Below w.heap.size w w' := by
  obtain ⟨len, hL⟩ : ∃ len, len = l.length := ⟨_, rfl⟩
  have HLen : Aside (len = l.length) := hL
  rw [← hL]
  by_cases h8 : 8 < len
  · have hr : rightE l = false := by unfold rightE; rw [← hL, show decide (len ≤ 8) = false by simpa using h8]; rfl
    have h8z : (8 : Int) < len := by omega
    rw [hr]
    clear hL h8
    go_enter Tryd.func13, Tryd.ntmps13
    go_wp2
    go_ret
    exact ⟨rfl, ((Below.refl _ _).alloc (Nat.le_refl _) _)⟩
  have h8z : ¬ (8 : Int) < len := by omega
  have h8n : len ≤ 8 := by omega
  have HN : Aside ((List.range len).all (okAt l) = true → rightE l = true) := fun h => by unfold rightE; rw [← HLen.out, h]; simpa using h8n
  have HF : Aside (∀ j, j < len → okAt l j = false → rightE l = false) := fun j h h' => rightE_bad (by rw [← HLen.out]; exact h) h'
  have HS : Aside (SliceA w ao l) := hl
  clear hl hL
  go_enter Tryd.func13, Tryd.ntmps13
  go_wp2_with fail
  go_loopg [12] len (fun kx s12 wr => ∃ j : Nat, s12 = .int .i64 j ∧ j ≤ len ∧ len - j ≤ kx ∧ Aside ((List.range j).all (okAt l) = true) ∧ Aside (Below w.heap.size w wr) ∧ w.heap.size < wr.heap.size ∧ wr.cell? ⟨w.heap.size, 1, none⟩ = some (.slice ao len cap))
  case atStart => exact ⟨0, rfl, Nat.zero_le _, by omega, by simp [Aside], (Below.refl _ _).alloc (Nat.le_refl _) _, by simp, by simp [World.cell?_alloc_new]⟩
  case round =>
    obtain ⟨j, rfl, hj, hjx, hall, HB, hz, he1⟩ := hrel
    by_cases hlt : j < len
    · rcases HS.out with h0 | ⟨b, off, hao, hbs, hrow⟩
      · rw [h0] at HLen; exact absurd HLen.out (by simp; omega)
      subst hao
      have hR := RowAt.below HB.out hbs hrow
      have hrow1 := hR j (by rw [← HLen.out]; exact hlt)
      have HRow : Aside (RowAt w b off l) := hrow
      have HR : Aside (RowAt wr b off l) := hR
      clear hrow hR
      obtain ⟨a, ha⟩ : ∃ a, a = l[j]! := ⟨_, rfl⟩
      have HA : Aside (a = l[j]!) := ha
      rw [← ha] at hrow1
      clear ha
      obtain ⟨nm, k, n, x, s, y⟩ := a
      have c0 := hrow1 0 _ rfl; have c1 := hrow1 1 _ rfl; have c2 := hrow1 2 _ rfl; have c3 := hrow1 3 _ rfl; have c4 := hrow1 4 _ rfl; have c5 := hrow1 5 _ rfl
      simp only [Nat.add_zero] at c0
      clear hrow1
      have hltz : (j : Int) < len := by omega
      have hjz : (0 : Int) ≤ (j : Int) := by omega
      go_wp2_with fail
      have HB2 : Aside (Below w.heap.size w (wr.alloc (.cells #[.string nm, .int .i64 k, .int .i64 n, .float .f64 x, .string s, .bool y] 51))) := HB.out.alloc (Nat.le_of_lt hz) _
      have hA2 : wr.heap.size < (wr.alloc (.cells #[.string nm, .int .i64 k, .int .i64 n, .float .f64 x, .string s, .bool y] 51)).heap.size := by simp
      have yy : ∀ i, (wr.alloc (.cells #[.string nm, .int .i64 k, .int .i64 n, .float .f64 x, .string s, .bool y] 51)).cell? ⟨wr.heap.size, i, none⟩ = (#[Value.string nm, .int .i64 k, .int .i64 n, .float .f64 x, .string s, .bool y])[i]? := fun i => by rw [World.cell?_alloc_new]
      have he2 := (World.cell?_alloc_lt wr (.cells #[.string nm, .int .i64 k, .int .i64 n, .float .f64 x, .string s, .bool y] 51) ⟨w.heap.size, 1, none⟩ hz).trans he1
      have y0 := yy 0; have y1 := yy 1; have y2 := yy 2; have y3 := yy 3; have y4 := yy 4; have y5 := yy 5
      simp only [List.getElem?_toArray, List.getElem?_cons_zero, List.getElem?_cons_succ] at y0 y1 y2 y3 y4 y5
      clear yy c0 c1 c2 c3 c4 c5 he1 HR HB
      generalize (wr.alloc (.cells #[.string nm, .int .i64 k, .int .i64 n, .float .f64 x, .string s, .bool y] 51)) = w2 at *
      have hzA : w.heap.size < wr.heap.size := hz
      generalize wr.heap.size = A at *
      rcases j with _ | q
      · have h0z : ¬ (0 : Int) < ((0 : Nat) : Int) := by decide
        have OK : Aside (okAt l 0 = (nameOk nm && vrightB k s && keptB ⟨nm, k, n, x, s, y⟩)) := by
          unfold okAt; rw [← HA.out]; rfl
        go_region
        have HD : Aside (Below w.heap.size w w2.drew) := ⟨HB2.out.os, HB2.out.tape, HB2.out.output, HB2.out.size, HB2.out.block⟩
        have he3 : w2.drew.cell? ⟨w.heap.size, 1, none⟩ = some (.slice (some ⟨b, off, none⟩) len cap) := he2
        have hA3 : A < w2.drew.heap.size := hA2
        have z0 : w2.drew.cell? ⟨A, 0, none⟩ = some (.string nm) := y0
        have z1 : w2.drew.cell? ⟨A, 1, none⟩ = some (.int .i64 k) := y1
        have z2 : w2.drew.cell? ⟨A, 2, none⟩ = some (.int .i64 n) := y2
        have z3 : w2.drew.cell? ⟨A, 3, none⟩ = some (.float .f64 x) := y3
        have z4 : w2.drew.cell? ⟨A, 4, none⟩ = some (.string s) := y4
        have z5 : w2.drew.cell? ⟨A, 5, none⟩ = some (.bool y) := y5
        clear y0 y1 y2 y3 y4 y5 he2 hA2 HB2
        generalize w2.drew = w3 at *
        cases hn : nameOk nm
        · go_wp2_with (go_at_call 26; refine (name_c _ _).mono ?_; rintro e w4 ⟨rfl, rfl⟩; rw [hn])
          go_ret
          exact ⟨congrArg (fun b => Ending.returned (Value.bool b)) (HF.out 0 hlt (by rw [OK.out, hn]; rfl)).symm, HD.out⟩
        go_wp2_with (go_at_call 26; refine (name_c _ _).mono ?_; rintro e w4 ⟨rfl, rfl⟩; rw [hn])
        refine (vright_c k n x s y _).mono ?_
        rintro e w4 ⟨rfl, hb4⟩
        have HD4 : Aside (Below w.heap.size w w4) := HD.out.trans (hb4.mono HD.out.size)
        have v0 := (hb4.cell (p := ⟨A, 0, none⟩) hA3).trans z0; have v1 := (hb4.cell (p := ⟨A, 1, none⟩) hA3).trans z1; have v2 := (hb4.cell (p := ⟨A, 2, none⟩) hA3).trans z2; have v3 := (hb4.cell (p := ⟨A, 3, none⟩) hA3).trans z3; have v4 := (hb4.cell (p := ⟨A, 4, none⟩) hA3).trans z4; have v5 := (hb4.cell (p := ⟨A, 5, none⟩) hA3).trans z5
        have he4 := (hb4.cell (p := ⟨w.heap.size, 1, none⟩) (Nat.lt_trans hzA hA3)).trans he3
        have hz4 := Nat.lt_of_lt_of_le (Nat.lt_trans hzA hA3) hb4.size
        clear z0 z1 z2 z3 z4 z5 he3 hA3 hb4
        cases hv : vrightB k s
        · go_wp2_with fail
          go_ret
          exact ⟨congrArg (fun b => Ending.returned (Value.bool b)) (HF.out 0 hlt (by rw [OK.out, hn, hv]; rfl)).symm, HD4.out⟩
        go_wp2_with fail
        refine (kept_c nm k n x s y _).mono ?_
        rintro e w5 ⟨rfl, hb5⟩
        have HD5 : Aside (Below w.heap.size w w5) := HD4.out.trans (hb5.mono HD4.out.size)
        have he5 := (hb5.cell (p := ⟨w.heap.size, 1, none⟩) hz4).trans he4
        have hz5 := Nat.lt_of_lt_of_le hz4 hb5.size
        clear v0 v1 v2 v3 v4 v5 he4 hz4 hb5
        cases hk : keptB ⟨nm, k, n, x, s, y⟩
        · go_wp2_with fail
          go_ret
          exact ⟨congrArg (fun b => Ending.returned (Value.bool b)) (HF.out 0 hlt (by rw [OK.out, hn, hv, hk]; rfl)).symm, HD5.out⟩
        have hOK : okAt l (0) = true := by rw [OK.out, hn, hv, hk]; rfl
        go_wp2_with fail
        go_roundg (len - (0 + 1))
        case measure => omega
        case rel => exact ⟨0 + 1, by go_num, hlt, Nat.le_refl _, ok_succ hall.out hOK, HD5, hz5, he5⟩
      · obtain ⟨p, hp⟩ : ∃ p, p = l[q]! := ⟨_, rfl⟩
        have HP : Aside (p = l[q]!) := hp
        have cp := RowAt.below HB2.out hbs HRow.out q (by rw [← HLen.out]; omega)
        rw [← hp] at cp
        have cp0 := cp 0 _ rfl
        simp only [Nat.add_zero] at cp0
        clear cp hp
        have h0z : (0 : Int) < ((q + 1 : Nat) : Int) := by omega
        have e0 : (((q + 1 : Nat) : Int) - 1).toNat = q := by omega
        have e1 : IntKind.i64.wrap (((q + 1 : Nat) : Int) - 1) = (q : Int) := by rw [IntKind.wrap_i64]; omega
        have r1 : (q : Int) < len := by omega
        have r2 : (0 : Int) ≤ q := by omega
        have lk := less_key p ⟨nm, k, n, x, s, y⟩
        simp only [] at lk
        have OK0 : Aside (okAt l (q + 1) = (ltKey keyA p ⟨nm, k, n, x, s, y⟩ && nameOk nm && vrightB k s && keptB ⟨nm, k, n, x, s, y⟩)) := by
          unfold okAt; rw [← HA.out, Nat.add_sub_cancel, ← HP.out, show decide (q + 1 = 0) = false by simp]; rfl
        cases hlk : ltKey keyA p ⟨nm, k, n, x, s, y⟩
        · rw [hlk] at lk
          have HD : Aside (Below w.heap.size w w2.drew) := ⟨HB2.out.os, HB2.out.tape, HB2.out.output, HB2.out.size, HB2.out.block⟩
          go_region
          go_wp2_with fail
          go_ret
          exact ⟨congrArg (fun b => Ending.returned (Value.bool b)) (HF.out (q + 1) hlt (by rw [OK0.out, hlk]; rfl)).symm, HD.out⟩
        have OK : Aside (okAt l (q + 1) = (nameOk nm && vrightB k s && keptB ⟨nm, k, n, x, s, y⟩)) := by rw [OK0.out, hlk]; rfl
        rw [hlk] at lk
        clear OK0 hlk
        go_region
        have HD : Aside (Below w.heap.size w w2.drew) := ⟨HB2.out.os, HB2.out.tape, HB2.out.output, HB2.out.size, HB2.out.block⟩
        have he3 : w2.drew.cell? ⟨w.heap.size, 1, none⟩ = some (.slice (some ⟨b, off, none⟩) len cap) := he2
        have hA3 : A < w2.drew.heap.size := hA2
        have z0 : w2.drew.cell? ⟨A, 0, none⟩ = some (.string nm) := y0
        have z1 : w2.drew.cell? ⟨A, 1, none⟩ = some (.int .i64 k) := y1
        have z2 : w2.drew.cell? ⟨A, 2, none⟩ = some (.int .i64 n) := y2
        have z3 : w2.drew.cell? ⟨A, 3, none⟩ = some (.float .f64 x) := y3
        have z4 : w2.drew.cell? ⟨A, 4, none⟩ = some (.string s) := y4
        have z5 : w2.drew.cell? ⟨A, 5, none⟩ = some (.bool y) := y5
        clear y0 y1 y2 y3 y4 y5 he2 hA2 HB2
        generalize w2.drew = w3 at *
        cases hn : nameOk nm
        · go_wp2_with (go_at_call 26; refine (name_c _ _).mono ?_; rintro e w4 ⟨rfl, rfl⟩; rw [hn])
          go_ret
          exact ⟨congrArg (fun b => Ending.returned (Value.bool b)) (HF.out (q + 1) hlt (by rw [OK.out, hn]; rfl)).symm, HD.out⟩
        go_wp2_with (go_at_call 26; refine (name_c _ _).mono ?_; rintro e w4 ⟨rfl, rfl⟩; rw [hn])
        refine (vright_c k n x s y _).mono ?_
        rintro e w4 ⟨rfl, hb4⟩
        have HD4 : Aside (Below w.heap.size w w4) := HD.out.trans (hb4.mono HD.out.size)
        have v0 := (hb4.cell (p := ⟨A, 0, none⟩) hA3).trans z0; have v1 := (hb4.cell (p := ⟨A, 1, none⟩) hA3).trans z1; have v2 := (hb4.cell (p := ⟨A, 2, none⟩) hA3).trans z2; have v3 := (hb4.cell (p := ⟨A, 3, none⟩) hA3).trans z3; have v4 := (hb4.cell (p := ⟨A, 4, none⟩) hA3).trans z4; have v5 := (hb4.cell (p := ⟨A, 5, none⟩) hA3).trans z5
        have he4 := (hb4.cell (p := ⟨w.heap.size, 1, none⟩) (Nat.lt_trans hzA hA3)).trans he3
        have hz4 := Nat.lt_of_lt_of_le (Nat.lt_trans hzA hA3) hb4.size
        clear z0 z1 z2 z3 z4 z5 he3 hA3 hb4
        cases hv : vrightB k s
        · go_wp2_with fail
          go_ret
          exact ⟨congrArg (fun b => Ending.returned (Value.bool b)) (HF.out (q + 1) hlt (by rw [OK.out, hn, hv]; rfl)).symm, HD4.out⟩
        go_wp2_with fail
        refine (kept_c nm k n x s y _).mono ?_
        rintro e w5 ⟨rfl, hb5⟩
        have HD5 : Aside (Below w.heap.size w w5) := HD4.out.trans (hb5.mono HD4.out.size)
        have he5 := (hb5.cell (p := ⟨w.heap.size, 1, none⟩) hz4).trans he4
        have hz5 := Nat.lt_of_lt_of_le hz4 hb5.size
        clear v0 v1 v2 v3 v4 v5 he4 hz4 hb5
        cases hk : keptB ⟨nm, k, n, x, s, y⟩
        · go_wp2_with fail
          go_ret
          exact ⟨congrArg (fun b => Ending.returned (Value.bool b)) (HF.out (q + 1) hlt (by rw [OK.out, hn, hv, hk]; rfl)).symm, HD5.out⟩
        have hOK : okAt l ((q + 1)) = true := by rw [OK.out, hn, hv, hk]; rfl
        go_wp2_with fail
        go_roundg (len - ((q + 1) + 1))
        case measure => omega
        case rel => exact ⟨(q + 1) + 1, by go_num, hlt, Nat.le_refl _, ok_succ hall.out hOK, HD5, hz5, he5⟩
    · obtain rfl : j = len := by omega
      go_wp2
      go_ret
      exact ⟨congrArg (fun b => Ending.returned (Value.bool b)) (HN.out hall.out).symm, HB.out⟩
end Go.Proofs.YtjnfbinomljocaaDoor

/- What an attribute's type is, and its cells in a block. -/
namespace Go.Proofs.YtjnfbinomljocaaDoor
open Go.RowKit Go.Shelf Go.Sort
open Go.Proofs
set_option maxRecDepth 100000

theorem attr_info : ∃ i z, Tryd.prog.info? 51 = some i ∧ i.zero = some z ∧ i.size = 6 ∧ i.bytes = 64 ∧ z.cells.size = 6 := by
  obtain ⟨i, hi, h⟩ := Option.bind_eq_some_iff.1 (show (Tryd.prog.info? 51).bind (fun i => i.zero.map fun z => (i.size, i.bytes, z.cells.size)) = some (6, 64, 6) by kernel_rfl)
  obtain ⟨z, hz, h⟩ := Option.map_eq_some_iff.1 h
  simp only [Prod.mk.injEq] at h
  exact ⟨i, z, hi, hz, h.1, h.2.1, h.2.2⟩
theorem row_cells (a : At) (W : World) (ty : TypeId) : ∀ (j : Nat) u, (encA a)[j]? = some u → (W.alloc (.cells (encA a).toArray ty)).cell? ((⟨W.heap.size, 0, none⟩ : Addr).add j) = some u := fun j u h => by
  have : (W.alloc (.cells (encA a).toArray ty)).cell? ⟨W.heap.size, j, none⟩ = some u := by rw [World.cell?_alloc_new]; simpa using h
  by_cases h0 : j = 0
  · subst h0; exact this
  · simpa [Addr.add, h0] using this
end Go.Proofs.YtjnfbinomljocaaDoor

/- gazettelaw07's Event: an event that may be, of any attributes. -/
namespace Go.Proofs.YtjnfbinomljocaaDoor
open Go.RowKit Go.Shelf Go.Sort
open Go.Proofs
set_option maxRecDepth 100000

/-- Those that may be, at most eight. -/
def pick8 (l : List At) : List At := (l.filter fun a => rightE [a]).take 8
theorem pick8_snoc (l : List At) (a : At) : pick8 (l ++ [a]) = if (pick8 l).length < 8 then (if rightE [a] then pick8 l ++ [a] else pick8 l) else pick8 l := by
  unfold pick8
  rw [List.filter_append, List.take_append, List.length_take]
  generalize hm : l.filter (fun a => rightE [a]) = m
  by_cases h8 : min 8 m.length < 8
  · rw [if_pos h8]
    have h : m.length < 8 := by omega
    cases hr : rightE [a]
    · rw [List.filter_cons_of_neg (p := fun a => rightE [a]) (by rw [hr]; exact Bool.false_ne_true)]; simp
    · rw [List.filter_cons_of_pos (p := fun a => rightE [a]) hr, List.take_of_length_le (l := a :: _) (by simp; omega), List.take_of_length_le (by omega)]; simp
  · rw [if_neg h8]
    have h : 8 - m.length = 0 := by omega
    rw [h, List.take_zero, List.append_nil]
theorem pick8_sub {l : List At} {a : At} (h : a ∈ pick8 l) : a ∈ l ∧ rightE [a] = true := by
  have := List.mem_of_mem_take h
  simpa using List.mem_filter.1 this
theorem pick8_len (l : List At) : (pick8 l).length ≤ 8 := by unfold pick8; rw [List.length_take]; omega
def scopeE (s : ByteArray) : ByteArray := if scopeOk s then s else ⟨#[]⟩

theorem own_event {w : World} {base : Nat} {e : TypeId} {v : Value} {l : List At} (h : w.ownsRow base e 6 v l.length (l.flatMap encA)) : ∃ ao cap, v = .slice ao l.length cap ∧ (∀ q, v.ownBlock = some q → base ≤ q) ∧ SliceA w ao l := by
  obtain ⟨ao, cap, rfl, hs⟩ := own_slice h
  exact ⟨ao, cap, rfl, fun q hq => (h.lt q hq).1, hs⟩
theorem set_snd {W : World} {O : Nat} {a b v : Value} {t : TypeId} (h : W.heap[O]? = some (.cells #[a, b] t)) : (W.setCell ⟨O, 1, none⟩ v).heap[O]? = some (.cells #[a, v] t) := by
  simp [World.setCell, Array.getElem?_modify, h]
theorem grown_set (W : World) (O i : Nat) (v : Value) : W.grownBy (W.setCell ⟨O, i, none⟩ v) (some O) :=
  ⟨rfl, rfl, rfl, by simp [World.setCell], fun k _ hne => Go.Deep.blk_setCell_other W ⟨O, i, none⟩ v k (fun e => hne (by rw [e]))⟩
/-- What the law's event is, in memory. -/
def EvtIs (w w' : World) (bo : Option Addr) (zs es : List At) : Prop := ∃ res, NewOf zs res ∧ es = pick8 res ∧ SliceA w' bo es ∧ Below w.heap.size w w'

set_option maxHeartbeats 8000000 in
theorem event_cN (s : ByteArray) (ao : Option Addr) (cap : Nat) (zs : List At) (w : World) (hz : zs.length ≤ 39) (hl : SliceA w ao zs) (hs : s.size ≤ 3000) (hm : MaxI w) :
    Calls Tryd.prog 9 #[.string s, .slice ao zs.length cap] w fun e w' => ∃ bo bcap es, e = .returned (.agg #[.string (scopeE s), .slice bo es.length bcap]) ∧ Aside (EvtIs w w' bo zs es) ∧ Aside (∀ g off, bo = some ⟨g, off, none⟩ → w.heap.size ≤ g) := by
  obtain ⟨i0, z0, hi, hz0, hz1, hz2, hz3⟩ := attr_info
  have BA : Below w.heap.size w (w.alloc (.cells #[.string ⟨#[]⟩, .slice none 0 0] 26)) := (Below.refl _ _).alloc (Nat.le_refl _) _
  have HBA := Lib.hid BA
  have HRS : Aside (∀ W, Below w.heap.size w W → Calls Tryd.prog 14 #[.string s] W fun e w' => e = .returned (.bool (scopeOk s)) ∧ Below W.heap.size W w') := fun W hW => scright_c s W hs (hm.below hW)
  have HNW : Aside (∀ (sc : ByteArray) W, Below w.heap.size w W → Calls Tryd.prog 20 #[.string sc, .slice ao zs.length cap] W fun e w' => ∃ (G : Nat) (res : List At), e = .returned (.agg #[.string sc, .slice (some ⟨G, 0, none⟩) res.length zs.length]) ∧
      Aside (W.heap.size ≤ G ∧ G < w'.heap.size ∧ RowAt w' G 0 res ∧ NewOf zs res ∧ Below W.heap.size W w')) := fun sc W hW => new_c sc ao cap zs hz W (hl.under hW)
  have HRE : Aside (∀ (a : At) (W : World) (B : Nat), B < W.heap.size → RowAt W B 0 [a] → Calls Tryd.prog 13 #[.agg #[.string ⟨#[]⟩, .slice (some ⟨B, 0, none⟩) 1 1]] W fun e w' => e = .returned (.bool (rightE [a])) ∧ Below W.heap.size W w') := fun a W B hB hR => right_c ⟨#[]⟩ (some ⟨B, 0, none⟩) 1 [a] W (Or.inr ⟨B, 0, rfl, hB, hR⟩)
  have HSE : Aside (scopeE s = if scopeOk s then s else ⟨#[]⟩) := rfl
  have HZN : Aside (zs.length ≤ 39) := hz
  have hzn : zs.length ≤ 39 := hz
  generalize scopeOk s = so at *
  generalize scopeE s = sc at *
  generalize hN : zs.length = N at *
  have z1 : w.heap.size + 1 ≤ (w.alloc (.cells #[.string ⟨#[]⟩, .slice none 0 0] 26)).heap.size := by simp
  have bS := heap_alloc_new w (.cells #[.string ⟨#[]⟩, .slice none 0 0] 26)
  have BS := Lib.hid bS
  clear hl hs hm BA hz bS
  go_enter Tryd.func9, Tryd.ntmps9
  go_wp2_with fail
  generalize hW0 : (w.alloc (.cells #[.string ⟨#[]⟩, .slice none 0 0] 26)) = w0 at *
  refine (HRS.out _ HBA.out).mono ?_
  rintro e w1 ⟨rfl, hb⟩
  have HA1 : Aside (Below (w.heap.size + 1) w0 w1) := hb.mono z1
  clear hb
  go_upto_if 11 with fail
  go_cut [0] (fun s0 wx => s0 = .string sc ∧ wx = w1)
  case first =>
    cases so
    · have hsc : sc = ⟨#[]⟩ := HSE.out
      go_wp2_with fail
      go_meet
      exact ⟨by rw [hsc], rfl⟩
    · have hsc : sc = s := HSE.out
      go_wp2_with fail
      go_meet
      exact ⟨by rw [hsc], rfl⟩
  case rest =>
    obtain ⟨rfl, rfl⟩ := hcut
    clear HSE HRS
    have hB1 : Below w.heap.size w wc := HBA.out.trans (HA1.out.mono (by omega))
    have HB1 := Lib.hid hB1
    clear hB1
    go_wp2_with fail
    refine (HNW.out sc _ HB1.out).mono ?_
    rintro e w2 ⟨G, res, rfl, hA⟩
    obtain ⟨hG1, hG2, hrow, hno, hb2⟩ := hA.out
    have HNO := Lib.hid hno
    have hrl : res.length ≤ N := by rw [← hN]; exact hno.len
    have HB2 : Aside (Below w.heap.size w w2) := HB1.out.trans (hb2.mono HB1.out.size)
    have hwS : w.heap.size < w2.heap.size := by
      have := hb2.size
      have := HA1.out.size
      omega
    have HBS : Aside (w2.heap[w.heap.size]? = some (.cells #[.string ⟨#[]⟩, .slice none 0 0] 26)) := by
      show _ = _
      rw [(HA1.out.trans (hb2.mono (Nat.le_trans z1 HA1.out.size))).block w.heap.size (by omega)]; exact BS.out
    obtain ⟨n, hn⟩ : ∃ n, n = res.length := ⟨_, rfl⟩
    have HNn : Aside (n = res.length) := hn
    have HROW : Aside (RowAt w2 G 0 res) := hrow
    rw [← hn] at hrl ⊢
    clear hA hrow hno hb2 hn hG1 HNW HB1 HA1 BS z1 HBA
    obtain ⟨O, hO⟩ : ∃ O, O = w2.heap.size + 1 := ⟨_, rfl⟩
    obtain ⟨W0, hW⟩ : ∃ W0, W0 = (w2.alloc (.cells #[.string sc, .slice (some ⟨G, 0, none⟩) n N] 26)).alloc (.cells #[.string sc, .slice none 0 0] 26) := ⟨_, rfl⟩
    have hz00 : W0.heap.size = O + 1 := by rw [hW, hO]; simp
    have BO : Aside (W0.heap[O]? = some (.cells #[.string sc, .slice none 0 0] 26)) := by
      have := heap_alloc_new (w2.alloc (.cells #[.string sc, .slice (some ⟨G, 0, none⟩) n N] 26)) (.cells #[.string sc, .slice none 0 0] 26)
      rw [World.size_alloc] at this
      show _ = _
      rw [hW, hO]; exact this
    have B2W : Below w2.heap.size w2 W0 := by rw [hW]; exact ((Below.refl _ _).alloc (Nat.le_refl _) _).alloc (by simp) _
    have HBW : Aside (Below w.heap.size w W0) := HB2.out.trans (B2W.mono (by omega))
    have HRW : Aside (RowAt W0 G 0 res) := HROW.out.below B2W hG2
    have HBSW : Aside (W0.heap[w.heap.size]? = some (.cells #[.string ⟨#[]⟩, .slice none 0 0] 26)) := by
      show _ = _
      rw [B2W.block w.heap.size hwS]; exact HBS.out
    have hGO : G < O := by omega
    have hSO : w.heap.size < O := by omega
    go_upto_block 0 with fail
    rw [← hW, ← hO]
    clear hW B2W HB2 HBS HROW hG2 hO
    go_wp2_with fail
    go_loopg [20] n (fun kx s20 wr => ∃ (j : Nat) (ro : Option Addr) (rcap : Nat), s20 = .int .i64 j ∧ j ≤ n ∧ n - j ≤ kx ∧ Aside (wr.ownsRow (O + 1) 51 6 (.slice ro (pick8 (res.take j)).length rcap) (pick8 (res.take j)).length ((pick8 (res.take j)).flatMap encA)) ∧ Aside (wr.heap[O]? = some (.cells #[.string sc, .slice ro (pick8 (res.take j)).length rcap] 26)) ∧ Aside (Below O W0 wr))
    case atStart => exact ⟨0, none, 0, rfl, Nat.zero_le _, by omega, World.ownsRow_nil _ _ _ _, BO.out, Below.refl _ _⟩
    case round =>
      obtain ⟨j, ro, rcap, rfl, hj, hjx, hown, hOb, HB⟩ := hrel
      have hsz : O + 1 ≤ wr.heap.size := by have := HB.out.size; omega
      have hL8 := pick8_len (res.take j)
      by_cases hlt : j < n
      · have hjl : j < res.length := by rw [← HNn.out]; exact hlt
        have hrow1 := RowAt.below HB.out hGO HRW.out j hjl
        have hts := take_succ res j hjl
        have hsn := pick8_snoc (res.take j) res[j]!
        rw [← hts] at hsn
        have HSN : Aside _ := hsn
        clear hsn hts
        have HREa := Lib.hid (HRE.out res[j]!)
        obtain ⟨L', hL'⟩ : ∃ L', L' = pick8 (res.take (j + 1)) := ⟨_, rfl⟩
        have HL' : Aside (L' = pick8 (res.take (j + 1))) := hL'
        rw [← hL'] at HSN
        obtain ⟨L, hL⟩ : ∃ L, L = pick8 (res.take j) := ⟨_, rfl⟩
        rw [← hL] at hown hOb hL8 HSN
        clear hL hL'
        have hrc := row_cells res[j]!
        generalize res[j]! = a at hrow1 HSN HREa hrc
        have hrA : ∀ (W : World) (t : TypeId), RowAt (W.alloc (.cells (encA a).toArray t)) W.heap.size 0 [a] := fun W t i hi c v hv => by
          obtain rfl : i = 0 := by simpa using hi
          rw [World.cell?_alloc_new]
          simpa using hv
        generalize hp : rightE [a] = p at *
        obtain ⟨nm, k, nn, x, s', y⟩ := a
        have c0 := hrow1 0 _ rfl; have c1 := hrow1 1 _ rfl; have c2 := hrow1 2 _ rfl; have c3 := hrow1 3 _ rfl; have c4 := hrow1 4 _ rfl; have c5 := hrow1 5 _ rfl
        simp only [Nat.add_zero, Nat.zero_add] at c0 c1 c2 c3 c4 c5
        clear hrow1 hjl hp
        have hltz : (j : Int) < n := by omega
        have hjz : (0 : Int) ≤ (j : Int) := by omega
        go_upto_region 8 with fail
        have vv := World.cell?_alloc_new wr #[.string nm, .int .i64 k, .int .i64 nn, .float .f64 x, .string s', .bool y] 51
        have v0 : (wr.alloc (.cells #[.string nm, .int .i64 k, .int .i64 nn, .float .f64 x, .string s', .bool y] 51)).cell? ⟨wr.heap.size, 0, none⟩ = some (.string nm) := vv 0
        have v1 : (wr.alloc (.cells #[.string nm, .int .i64 k, .int .i64 nn, .float .f64 x, .string s', .bool y] 51)).cell? ⟨wr.heap.size, 1, none⟩ = some (.int .i64 k) := vv 1
        have v2 : (wr.alloc (.cells #[.string nm, .int .i64 k, .int .i64 nn, .float .f64 x, .string s', .bool y] 51)).cell? ⟨wr.heap.size, 2, none⟩ = some (.int .i64 nn) := vv 2
        have v3 : (wr.alloc (.cells #[.string nm, .int .i64 k, .int .i64 nn, .float .f64 x, .string s', .bool y] 51)).cell? ⟨wr.heap.size, 3, none⟩ = some (.float .f64 x) := vv 3
        have v4 : (wr.alloc (.cells #[.string nm, .int .i64 k, .int .i64 nn, .float .f64 x, .string s', .bool y] 51)).cell? ⟨wr.heap.size, 4, none⟩ = some (.string s') := vv 4
        have v5 : (wr.alloc (.cells #[.string nm, .int .i64 k, .int .i64 nn, .float .f64 x, .string s', .bool y] 51)).cell? ⟨wr.heap.size, 5, none⟩ = some (.bool y) := vv 5
        have HB9 : Aside (Below O W0 (wr.alloc (.cells #[.string nm, .int .i64 k, .int .i64 nn, .float .f64 x, .string s', .bool y] 51))) := HB.out.alloc (by omega) _
        have hO9 : (wr.alloc (.cells #[.string nm, .int .i64 k, .int .i64 nn, .float .f64 x, .string s', .bool y] 51)).heap[O]? = some (.cells #[.string sc, .slice ro L.length rcap] 26) := by
          rw [((Below.refl wr.heap.size wr).alloc (Nat.le_refl _) _).block O (by omega)]; exact hOb.out
        have HO9 := Lib.hid hO9
        have HOW := Lib.hid (hown.out.alloc (.cells #[.string nm, .int .i64 k, .int .i64 nn, .float .f64 x, .string s', .bool y] 51))
        have hV : wr.heap.size < (wr.alloc (.cells #[.string nm, .int .i64 k, .int .i64 nn, .float .f64 x, .string s', .bool y] 51)).heap.size := by simp
        clear vv hO9 c0 c1 c2 c3 c4 c5 hown hOb HB
        generalize (wr.alloc (.cells #[.string nm, .int .i64 k, .int .i64 nn, .float .f64 x, .string s', .bool y] 51)) = w9 at *
        generalize wr.heap.size = V at *
        have o0 : w9.cell? ⟨O, 0, none⟩ = some (.string sc) := by simp [World.cell?, HO9.out]
        have o1 : w9.cell? ⟨O, 1, none⟩ = some (.slice ro L.length rcap) := by simp [World.cell?, HO9.out]
        by_cases h8 : L.length < 8
        · have h8z : (L.length : Int) < 8 := by omega
          have hb9 : Below w9.heap.size w9 (w9.alloc (.cells #[.string nm, .int .i64 k, .int .i64 nn, .float .f64 x, .string s', .bool y] 51)) := (Below.refl _ _).alloc (Nat.le_refl _) _
          have HRR := Lib.hid (HREa.out (w9.alloc (.cells #[.string nm, .int .i64 k, .int .i64 nn, .float .f64 x, .string s', .bool y] 51)) w9.heap.size (by simp) (hrA w9 51))
          have HB9' := Lib.hid hb9
          have HRC := Lib.hid hrc
          clear hb9 HREa hrA hrc
          go_wp2_with fail
          refine HRR.out.mono ?_
          rintro e w10 ⟨rfl, hb⟩
          have hbx : Below w9.heap.size w9 w10 := HB9'.out.trans (hb.mono (by simp))
          have hg : w9.grownBy w10 none := ⟨hbx.os, hbx.tape, hbx.output, hbx.size, fun k hk _ => hbx.block k hk⟩
          have HOW10 := Lib.hid (HOW.out.kept hg (Classical.em _))
          have hO9 : O < w9.heap.size := by omega
          have hO10 : w10.heap[O]? = some (.cells #[.string sc, .slice ro L.length rcap] 26) := (hbx.block O hO9).trans HO9.out
          have HB10 : Aside (Below O W0 w10) := HB9.out.trans (hbx.mono (by omega))
          have hz10 : O + 1 < w10.heap.size := by have := hbx.size; omega
          have u0 := (hbx.cell (p := ⟨V, 0, none⟩) hV).trans v0
          have u1 := (hbx.cell (p := ⟨V, 1, none⟩) hV).trans v1
          have u2 := (hbx.cell (p := ⟨V, 2, none⟩) hV).trans v2
          have u3 := (hbx.cell (p := ⟨V, 3, none⟩) hV).trans v3
          have u4 := (hbx.cell (p := ⟨V, 4, none⟩) hV).trans v4
          have u5 := (hbx.cell (p := ⟨V, 5, none⟩) hV).trans v5
          have HO10 := Lib.hid hO10
          have p1 : w10.cell? ⟨O, 1, none⟩ = some (.slice ro L.length rcap) := by simp [World.cell?, hO10]
          clear hb hbx hg hO10 hO9 v0 v1 v2 v3 v4 v5 o0 o1 HO9 HB9 HOW HRR HB9'
          cases p
          · have HLL : Aside (L' = L) := by show L' = L; rw [HSN.out, if_pos h8]; rfl
            go_wp2_with fail
            go_roundg (n - (j + 1))
            case measure => omega
            case rel => exact ⟨j + 1, ro, rcap, by go_num, hlt, Nat.le_refl _, by rw [← HL'.out, HLL.out]; exact HOW10.out, by rw [← HL'.out, HLL.out]; exact HO10.out, HB10.out⟩
          · have HLL : Aside (L' = L ++ [⟨nm, k, nn, x, s', y⟩]) := by show L' = L ++ _; rw [HSN.out, if_pos h8]; rfl
            have HRC10 := Lib.hid (HRC.out w10 51)
            generalize hvv : Value.slice ro L.length rcap = v at *
            clear hvv
            have T1 := Lib.hid (HOW10.out.alloc (.cells #[.string nm, .int .i64 k, .int .i64 nn, .float .f64 x, .string s', .bool y] 51))
            have T2 : Aside (∀ j u, (encA ⟨nm, k, nn, x, s', y⟩)[j]? = some u → (w10.alloc (.cells #[.string nm, .int .i64 k, .int .i64 nn, .float .f64 x, .string s', .bool y] 51)).cell? ((⟨w10.heap.size, 0, none⟩ : Addr).add j) = some u) := HRC10.out
            have T3 : L.length + 1 ≤ maxLen := by unfold maxLen; omega
            have T4 : (L.length + 1) * 64 ≤ 140737488355328 := by omega
            have T5 : O + 1 ≤ (w10.alloc (.cells #[.string nm, .int .i64 k, .int .i64 nn, .float .f64 x, .string s', .bool y] 51)).heap.size := by rw [World.size_alloc]; omega
            have T6 : O < (w10.alloc (.cells #[.string nm, .int .i64 k, .int .i64 nn, .float .f64 x, .string s', .bool y] 51)).heap.size := T5
            have T7 : (w10.alloc (.cells #[.string nm, .int .i64 k, .int .i64 nn, .float .f64 x, .string s', .bool y] 51)).heap[O]? = some (.cells #[.string sc, v] 26) := (((Below.refl w10.heap.size w10).alloc (Nat.le_refl _) _).block O (by omega)).trans HO10.out
            have HT := And.intro (Lib.hid T3) (And.intro (Lib.hid T4) (And.intro (Lib.hid T5) (And.intro (Lib.hid T6) (Lib.hid T7))))
            clear T3 T4 T5 T6 T7
            obtain ⟨T3, T4, T5, T6, T7⟩ := HT
            have APP := fun (ops : Array Oper) (rest : List Oper) (o : Oper) (a : Act) (Q : Exit → Act → World → Prop) (hgd : o.guard = none) (s1 s2 : Operand) (ho : o.op = .call { callee := .builtin .append, args := #[s1, s2], argTypes := #[24, 24] }) (hs : a.eval s1 = v) (hx : a.eval s2 = .slice (some ⟨w10.heap.size, 0, none⟩) 1 1) h => wpList_append_own (P := Tryd.prog) (ops := ops) (rest := rest) (o := o) (a := a) (Q := Q) _ hgd s1 s2 24 ho (O + 1) 51 i0 z0 6 64 Tryd.underlying24 hi hz0 hz1 hz2 hz3 (by decide) v L.length _ hs T1.out ⟨w10.heap.size, 0, none⟩ 1 1 (encA ⟨nm, k, nn, x, s', y⟩) hx rfl T2.out (encA_one _) T3.out T4.out T5.out h
            have HAPP := Lib.hid APP
            clear APP
            go_wp2_with (at_builtin; refine HAPP.out _ _ _ _ _ rfl _ _ rfl rfl rfl ?_; intro v' w12 hown' hgrow hnil; (obtain ⟨ro', rcap', hv', hlo', _⟩ := own_event (l := L ++ [⟨nm, k, nn, x, s', y⟩]) (by simpa using hown')); subst hv'; have hO12 : w12.heap[O]? = some (.cells #[.string sc, v] 26) := (hgrow.block O T6.out (fun e => by have := (HOW10.out.lt O e.symm).1; omega)).trans T7.out; have q1 : w12.cell? ⟨O, 1, none⟩ = some v := (by simp [World.cell?, hO12]); have f1 : w12.frozen? ⟨O, 1, none⟩ = false := (by simp [World.frozen?, hO12]))
            go_roundg (n - (j + 1))
            case measure => omega
            case rel =>
              refine ⟨j + 1, ro', rcap', by go_num, hlt, Nat.le_refl _, ?_, ?_, ?_⟩
              · show World.ownsRow _ _ _ _ _ _ _
                rw [← HL'.out, HLL.out]
                have hk := hown'.kept (grown_set w12 O 1 (.slice ro' (L.length + 1) rcap')) (Or.inr (fun e => by have := (hown'.lt O e).1; omega))
                simpa using hk
              · show _ = _
                rw [← HL'.out, HLL.out, show (L ++ [(⟨nm, k, nn, x, s', y⟩ : At)]).length = L.length + 1 by simp]
                exact set_snd hO12
              · exact ((HB10.out.alloc (by omega) _).grown hgrow (by simp; omega) (fun q hq => Nat.le_of_lt (HOW10.out.lt q hq).1)).setCell (p := ⟨O, 1, none⟩) (Nat.le_refl _) _
        · have h8z : ¬ (L.length : Int) < 8 := by omega
          have HLL : Aside (L' = L) := by show L' = L; rw [HSN.out, if_neg h8]
          go_wp2_with fail
          go_roundg (n - (j + 1))
          case measure => omega
          case rel => exact ⟨j + 1, ro, rcap, by go_num, hlt, Nat.le_refl _, by rw [← HL'.out, HLL.out]; exact HOW.out, by rw [← HL'.out, HLL.out]; exact HO9.out, HB9.out⟩
      · obtain rfl : j = n := by omega
        have hr0 : res.take j = res := by rw [HNn.out, List.take_length]
        rw [hr0] at hown hOb
        obtain ⟨es, hes⟩ : ∃ es, es = pick8 res := ⟨_, rfl⟩
        rw [← hes] at hown hOb
        have HES := Lib.hid hes
        obtain ⟨ro', rcap', hv', hlo, hsl⟩ := own_event hown.out
        have hoS := (HB.out.block w.heap.size hSO).trans HBSW.out
        have o0 : wr.cell? ⟨O, 0, none⟩ = some (.string sc) := by simp [World.cell?, hOb.out]
        have o1 : wr.cell? ⟨O, 1, none⟩ = some (.slice ro es.length rcap) := by simp [World.cell?, hOb.out]
        have r0 : wr.cell? ⟨w.heap.size, 0, none⟩ = some (.string ⟨#[]⟩) := by simp [World.cell?, hoS]
        have r1 : wr.cell? ⟨w.heap.size, 1, none⟩ = some (.slice none 0 0) := by simp [World.cell?, hoS]
        have f0 : wr.frozen? ⟨w.heap.size, 0, none⟩ = false := by simp [World.frozen?, hoS]
        have f1 : wr.frozen? ⟨w.heap.size, 1, none⟩ = false := by simp [World.frozen?, hoS]
        have hv2 : ro' = ro ∧ rcap' = rcap := by injection hv' with e1 e2 e3; exact ⟨e1.symm, e3.symm⟩
        obtain ⟨rfl, rfl⟩ := hv2
        have hX : SliceA ((wr.setCell ⟨w.heap.size, 0, none⟩ (.string sc)).setCell ⟨w.heap.size, 1, none⟩ (.slice ro' es.length rcap')) ro' es := by
          rcases hsl with h | ⟨b, off, h1, h2, h3⟩
          · exact Or.inl h
          · subst h1
            have hbO : O + 1 ≤ b := hlo b rfl
            refine Or.inr ⟨b, off, rfl, by simpa using h2, fun i hi c v hv => ?_⟩
            have hne : ∀ i i2, (⟨w.heap.size, i, none⟩ : Addr) ≠ ⟨b, i2, none⟩ := fun i i2 e => by injection e; omega
            rw [World.cell?_setCell_other _ _ _ _ (by first | exact hne _ _ | exact (hne _ _).symm), World.cell?_setCell_other _ _ _ _ (by first | exact hne _ _ | exact (hne _ _).symm)]
            exact h3 i hi c v hv
        have hBX : Below w.heap.size w ((wr.setCell ⟨w.heap.size, 0, none⟩ (.string sc)).setCell ⟨w.heap.size, 1, none⟩ (.slice ro' es.length rcap')) := ((HBW.out.trans (HB.out.mono (by omega))).setCell (p := ⟨w.heap.size, 0, none⟩) (Nat.le_refl _) _).setCell (p := ⟨w.heap.size, 1, none⟩) (Nat.le_refl _) _
        have x1 := World.cell?_setCell_same (wr.setCell ⟨w.heap.size, 0, none⟩ (.string sc)) ⟨w.heap.size, 1, none⟩ (.slice ro' es.length rcap') ((oth (by decide)).trans r1)
        have x0 := (oth (W := wr.setCell ⟨w.heap.size, 0, none⟩ (.string sc)) (R := w.heap.size) (i := 1) (j := 0) (v := .slice ro' es.length rcap') (by decide)).trans (World.cell?_setCell_same wr ⟨w.heap.size, 0, none⟩ (.string sc) r0)
        have HX : Aside _ := And.intro hX hBX
        have HLO : Aside (∀ g off, ro' = some ⟨g, off, none⟩ → w.heap.size ≤ g) := fun g off e => by
          subst e
          have := hlo g rfl
          omega
        clear hX hBX hoS hsl hlo hown hOb hes hv'
        go_wp2_with fail
        generalize (wr.setCell ⟨w.heap.size, 0, none⟩ (.string sc)).setCell ⟨w.heap.size, 1, none⟩ (.slice ro' es.length rcap') = X at *
        refine bodyPost_ret (v := .agg #[.string sc, .slice ro' es.length rcap']) (by simp [results, Tryd.results9, go_sem, x0, x1]) rfl ⟨ro', rcap', es, rfl, (⟨res, HNO.out, HES.out, HX.out.1, HX.out.2⟩ : EvtIs w X ro' zs es), HLO⟩
theorem event_c (s : ByteArray) (ao : Option Addr) (cap : Nat) (zs : List At) (w : World) (hz : zs.length ≤ 39) (hl : SliceA w ao zs) (hs : s.size ≤ 3000) (hm : MaxI w) :
    Calls Tryd.prog 9 #[.string s, .slice ao zs.length cap] w fun e w' => ∃ bo bcap es, e = .returned (.agg #[.string (scopeE s), .slice bo es.length bcap]) ∧ Aside (EvtIs w w' bo zs es) :=
  (event_cN s ao cap zs w hz hl hs hm).mono fun _ _ ⟨bo, bcap, es, h1, h2, _⟩ => ⟨bo, bcap, es, h1, h2⟩
end Go.Proofs.YtjnfbinomljocaaDoor
