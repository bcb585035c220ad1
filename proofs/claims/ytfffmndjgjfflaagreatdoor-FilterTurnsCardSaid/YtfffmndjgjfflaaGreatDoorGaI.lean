/- NewOf, KeptB, RightE, AttrRow, FilE: merged by merge.py. -/
import Derived.Test.YtfffmndjgjfflaaGreatDoorNew
import Derived.Test.YtfffmndjgjfflaaGreatDoorGaB
import Derived.Deep.RegionWith
import Derived.Sort.Walk0
import Derived.Maps.AppendAt
import Derived.Laws.IdiomStrings
import Derived.Test.YtfffmndjgjfflaaGreatDoorGaD
import Derived.Test.YtfffmndjgjfflaaGreatDoorGaE
/- What event.New hands back, in plain words: names rise; of each name the last one told. -/
namespace Go.Proofs.YtfffmndjgjfflaaGreatDoor
open Go.RowKit Go.Shelf Go.Sort
open Go.Proofs

theorem dd_mem (D : Array At) (t : Nat) (a : At) (h : a ∈ dd eqA D t) : ∃ s, s < t ∧ a = D[s]! := by
  induction t with
  | zero => simp [dd] at h
  | succ t ih =>
    rw [dd] at h
    split at h
    · obtain ⟨s, h1, h2⟩ := ih h; exact ⟨s, by omega, h2⟩
    · rw [List.mem_append] at h
      rcases h with h | h
      · obtain ⟨s, h1, h2⟩ := ih h; exact ⟨s, by omega, h2⟩
      · simp at h; exact ⟨t, by omega, h⟩

theorem dd_len (D : Array At) (t : Nat) : (dd eqA D t).length ≤ t := by
  induction t with
  | zero => simp [dd]
  | succ t ih =>
    rw [dd]
    split
    · omega
    · rw [List.length_append, List.length_singleton]; omega

theorem dd_find (D : Array At) (heq : ∀ p q, eqA p q = true → keyA p = keyA q) (c : List UInt8) (t : Nat) :
    (dd eqA D t).find? (fun a => keyA a == c) = ((List.range t).map (fun i => D[i]!)).find? (fun a => keyA a == c) := by
  induction t with
  | zero => simp [dd]
  | succ t ih =>
    rw [List.range_succ, List.map_append, List.find?_append, ← ih, dd]
    split
    · rename_i h
      obtain ⟨h0, h1⟩ := h
      have hk := heq _ _ h1
      cases hf : (dd eqA D t).find? (fun a => keyA a == c) with
      | some x => simp
      | none =>
        rw [ih, List.find?_eq_none] at hf
        have := hf D[t - 1]! (List.mem_map.2 ⟨t - 1, List.mem_range.2 (by omega), rfl⟩)
        rw [← hk] at this
        simp only [List.map_cons, List.map_nil, List.find?_cons, List.find?_nil]
        split
        · exact absurd ‹_› (by simpa using this)
        · rfl
    · rw [List.find?_append]; rfl

theorem dd_rise (D : Array At) (n : Nat) (hne : ∀ p q, eqA p q = false → keyA p ≠ keyA q) (hs : SortedIn (ltKey keyA) 0 n D) (t : Nat) (ht : t ≤ n) :
    (dd eqA D t).Pairwise (fun a b => ltKey keyA a b = true) := by
  induction t with
  | zero => simp [dd]
  | succ t ih =>
    rw [dd]
    split
    · exact ih (by omega)
    · rename_i h
      rw [List.pairwise_append]
      refine ⟨ih (by omega), by simp, fun a ha b hb => ?_⟩
      simp only [List.mem_singleton] at hb
      subst hb
      obtain ⟨s, h1, rfl⟩ := dd_mem D t a ha
      have ht0 : t ≠ 0 := by omega
      have he : eqA D[t]! D[t - 1]! = false := by
        cases hq : eqA D[t]! D[t - 1]! with
        | false => rfl
        | true => exact absurd ⟨ht0, hq⟩ h
      have hk := hne _ _ he
      have l1 : ltKey keyA D[t]! D[t - 1]! = false := hs.le (by omega) (by omega) (by omega)
      have l2 : ltKey keyA D[t - 1]! D[t]! = true := by
        cases hq : ltKey keyA D[t - 1]! D[t]! with
        | true => rfl
        | false => exact absurd (key_eq l1 hq) hk
      exact lt_of_le_lt (hs.le (by omega) (by omega) (by omega)) l2

theorem eqA_key (p q : At) : eqA p q = (keyA p == keyA q) := by unfold eqA keyA; rw [bytes_toList, bytes_toList]

/-- Of each name the last one that was told. -/
theorem NewOf.find {zs res : List At} (h : NewOf zs res) (c : List UInt8) : res.find? (fun a => keyA a == c) = (zs.reverse.find? (fun a => keyA a == c)).map canonA := by
  obtain ⟨D, g, _, rfl⟩ := h
  have hsz : D.size = zs.length := by rw [g.size]; simp
  rw [dd_find D (fun p q hh => by rw [eqA_key] at hh; simpa using hh), ← hsz]
  have : (List.range D.size).map (fun i => D[i]!) = D.toList := by rw [toList_get D, List.range_eq_range']
  rw [this, ← List.head?_filter, g.stab c, List.head?_filter]
  simp only [List.find?_map, Function.comp_def, keyA_canon]
theorem NewOf.rise {zs res : List At} (h : NewOf zs res) : res.Pairwise (fun a b => ltKey keyA a b = true) := by
  obtain ⟨D, g, s, rfl⟩ := h
  exact dd_rise D _ (fun p q hh => by rw [eqA_key] at hh; simpa using hh) s _ (Nat.le_refl _)
theorem NewOf.len {zs res : List At} (h : NewOf zs res) : res.length ≤ zs.length := by
  obtain ⟨D, g, s, rfl⟩ := h
  exact dd_len D _
/-- Each is one of those told, kept. -/
theorem NewOf.mem {zs res : List At} (h : NewOf zs res) (a : At) (ha : a ∈ res) : ∃ z ∈ zs, a = canonA z := by
  obtain ⟨D, g, s, rfl⟩ := h
  obtain ⟨t, h1, rfl⟩ := dd_mem D _ a ha
  obtain ⟨r, _, h3, h4⟩ := g.mem t (Nat.zero_le _) h1
  rw [h4]
  have : r < (zs.reverse.map canonA).length := by simp; exact h3
  refine ⟨zs.reverse[r]'(by simp; exact h3), by simp, ?_⟩
  simp [h3]

theorem find_key {l : List At} (hr : l.Pairwise (fun a b => ltKey keyA a b = true)) (a : At) (ha : a ∈ l) : l.find? (fun b => keyA b == keyA a) = some a := by
  induction l with
  | nil => cases ha
  | cons x l ih =>
    rw [List.pairwise_cons] at hr
    rw [List.find?_cons]
    rcases List.mem_cons.1 ha with rfl | h
    · simp
    · have : keyA x ≠ keyA a := key_ne (hr.1 a h)
      rw [show (keyA x == keyA a) = false by simpa using this]
      exact ih hr.2 h

/-- Rising names, and alike under each name: the same list. -/
theorem rise_unique : ∀ (l m : List At), l.Pairwise (fun a b => ltKey keyA a b = true) → m.Pairwise (fun a b => ltKey keyA a b = true) →
    (∀ c, l.find? (fun a => keyA a == c) = m.find? (fun a => keyA a == c)) → l = m
  | [], [], _, _, _ => rfl
  | [], y :: m, _, h2, h => by have := h (keyA y); simp at this
  | x :: l, [], h1, _, h => by have := h (keyA x); simp at this
  | x :: l, y :: m, h1, h2, h => by
    have hx : x ∈ y :: m := by
      have := h (keyA x); rw [find_key h1 x (List.mem_cons_self)] at this; exact List.mem_of_find?_eq_some this.symm
    have hy : y ∈ x :: l := by
      have := h (keyA y); rw [find_key h2 y (List.mem_cons_self)] at this; exact List.mem_of_find?_eq_some this
    have hxy : x = y := by
      rcases List.mem_cons.1 hx with e | e
      · exact e
      · rcases List.mem_cons.1 hy with e2 | e2
        · exact e2.symm
        · have a1 := (List.pairwise_cons.1 h2).1 x e
          have a2 := (List.pairwise_cons.1 h1).1 y e2
          have := (swo_key keyA).trans _ _ _ a1 a2
          rw [(swo_key keyA).irrefl] at this; cases this
    subst hxy
    congr 1
    refine rise_unique l m (List.pairwise_cons.1 h1).2 (List.pairwise_cons.1 h2).2 fun c => ?_
    have := h c
    rw [List.find?_cons, List.find?_cons] at this
    by_cases hc : keyA x = c
    · have n1 : ∀ (k : List At), (∀ a ∈ k, ltKey keyA x a = true) → k.find? (fun a => keyA a == c) = none := fun k hk => by
        rw [List.find?_eq_none]
        intro a ha
        have := key_ne (hk a ha)
        rw [hc] at this
        simpa using fun e => this e.symm
      rw [n1 l (List.pairwise_cons.1 h1).1, n1 m (List.pairwise_cons.1 h2).1]
    · rw [show (keyA x == c) = false by simpa using hc] at this
      exact this
end Go.Proofs.YtfffmndjgjfflaaGreatDoor

/- event.kept of any value. -/
namespace Go.Proofs.YtfffmndjgjfflaaGreatDoor
open Go.RowKit Go.Shelf
open Go.Proofs
set_option maxRecDepth 100000

theorem run_eqV2 (k k2 n n2 : Int) (x x2 : Nat) (s s2 : ByteArray) (y y2 : Bool) (w : World) :
    (binOp .eql 29 (.agg #[.int .i64 k, .int .i64 n, .float .f64 x, .string s, .bool y]) (val k2 n2 x2 s2 y2)).run Tryz.prog w = .ok (.bool (eqV k k2 n n2 x x2 s s2 y y2)) w := run_eqV k k2 n n2 x x2 s s2 y y2 w
attribute [local go_sem ↓] run_eqV2

/-- What event.kept holds against its Canon: the value, its number laid aside if it is none. -/
def asideX (k : Int) (x : Nat) : Nat := if voidB k x then 0 else x
def keptB (a : At) : Bool :=
  eqV a.k (canonA ⟨a.nm, a.k, a.n, asideX a.k a.x, a.s, a.y⟩).k a.n (canonA ⟨a.nm, a.k, a.n, asideX a.k a.x, a.s, a.y⟩).n (asideX a.k a.x) (canonA ⟨a.nm, a.k, a.n, asideX a.k a.x, a.s, a.y⟩).x a.s (canonA ⟨a.nm, a.k, a.n, asideX a.k a.x, a.s, a.y⟩).s a.y (canonA ⟨a.nm, a.k, a.n, asideX a.k a.x, a.s, a.y⟩).y

end Go.Proofs.YtfffmndjgjfflaaGreatDoor

/- event.Right of any event. -/
namespace Go.Proofs.YtfffmndjgjfflaaGreatDoor
open Go.RowKit Go.Shelf Go.Sort
open Go.Proofs
set_option maxRecDepth 100000

def okAt (l : List At) (i : Nat) : Bool := (decide (i = 0) || ltKey keyA l[i - 1]! l[i]!) && nameOk l[i]!.nm && vrightB l[i]!.k l[i]!.s && keptB l[i]!
/-- What event.Right says. -/
def rightE (l : List At) : Bool := decide (l.length ≤ 8) && (List.range l.length).all (okAt l)

theorem rightE_bad {l : List At} {j : Nat} (hj : j < l.length) (h : okAt l j = false) : rightE l = false := by
  cases hn : rightE l with
  | false => rfl
  | true =>
    simp only [rightE, Bool.and_eq_true, List.all_eq_true, List.mem_range] at hn
    rw [hn.2 j hj] at h; cases h
theorem ok_succ {l : List At} {j : Nat} (h : (List.range j).all (okAt l) = true) (hp : okAt l j = true) : (List.range (j + 1)).all (okAt l) = true := by
  rw [List.range_succ, List.all_append, h]; simp [hp]

theorem less_key (a b : At) : Op.bytesLess a.nm.toList b.nm.toList = ltKey keyA a b := by
  rw [bytes_toList, bytes_toList, bytesLess_eq]; rfl

end Go.Proofs.YtfffmndjgjfflaaGreatDoor

/- What an attribute's type is, and its cells in a block. -/
namespace Go.Proofs.YtfffmndjgjfflaaGreatDoor
open Go.RowKit Go.Shelf Go.Sort
open Go.Proofs
set_option maxRecDepth 100000

theorem row_cells (a : At) (W : World) (ty : TypeId) : ∀ (j : Nat) u, (encA a)[j]? = some u → (W.alloc (.cells (encA a).toArray ty)).cell? ((⟨W.heap.size, 0, none⟩ : Addr).add j) = some u := fun j u h => by
  have : (W.alloc (.cells (encA a).toArray ty)).cell? ⟨W.heap.size, j, none⟩ = some u := by rw [World.cell?_alloc_new]; simpa using h
  by_cases h0 : j = 0
  · subst h0; exact this
  · simpa [Addr.add, h0] using this
end Go.Proofs.YtfffmndjgjfflaaGreatDoor

/- gazettelaw07's Event: an event that may be, of any attributes. -/
namespace Go.Proofs.YtfffmndjgjfflaaGreatDoor
open Go.RowKit Go.Shelf Go.Sort
open Go.Proofs
set_option maxRecDepth 100000

/-- Those that may be, at most eight. -/
def pick8 (l : List At) : List At := (l.filter fun a => rightE [a]).take 8
theorem pick8_snoc (l : List At) (a : At) : pick8 (l ++ [a]) = if (pick8 l).length < 8 then (if rightE [a] then pick8 l ++ [a] else pick8 l) else pick8 l := by
  unfold pick8
  rw [List.filter_append, List.take_append, List.length_take]
  generalize hm : l.filter (fun a => rightE [a]) = m
  by_cases h8 : min 8 m.length < 8
  · rw [if_pos h8]
    have h : m.length < 8 := by omega
    cases hr : rightE [a]
    · rw [List.filter_cons_of_neg (p := fun a => rightE [a]) (by rw [hr]; exact Bool.false_ne_true)]; simp
    · rw [List.filter_cons_of_pos (p := fun a => rightE [a]) hr, List.take_of_length_le (l := a :: _) (by simp; omega), List.take_of_length_le (by omega)]; simp
  · rw [if_neg h8]
    have h : 8 - m.length = 0 := by omega
    rw [h, List.take_zero, List.append_nil]
theorem pick8_sub {l : List At} {a : At} (h : a ∈ pick8 l) : a ∈ l ∧ rightE [a] = true := by
  have := List.mem_of_mem_take h
  simpa using List.mem_filter.1 this
theorem pick8_len (l : List At) : (pick8 l).length ≤ 8 := by unfold pick8; rw [List.length_take]; omega
def scopeE (s : ByteArray) : ByteArray := if scopeOk s then s else ⟨#[]⟩

theorem own_event {w : World} {base : Nat} {e : TypeId} {v : Value} {l : List At} (h : w.ownsRow base e 6 v l.length (l.flatMap encA)) : ∃ ao cap, v = .slice ao l.length cap ∧ (∀ q, v.ownBlock = some q → base ≤ q) ∧ SliceA w ao l := by
  obtain ⟨ao, cap, rfl, hs⟩ := own_slice h
  exact ⟨ao, cap, rfl, fun q hq => (h.lt q hq).1, hs⟩
theorem set_snd {W : World} {O : Nat} {a b v : Value} {t : TypeId} (h : W.heap[O]? = some (.cells #[a, b] t)) : (W.setCell ⟨O, 1, none⟩ v).heap[O]? = some (.cells #[a, v] t) := by
  simp [World.setCell, Array.getElem?_modify, h]
theorem grown_set (W : World) (O i : Nat) (v : Value) : W.grownBy (W.setCell ⟨O, i, none⟩ v) (some O) :=
  ⟨rfl, rfl, rfl, by simp [World.setCell], fun k _ hne => Go.Deep.blk_setCell_other W ⟨O, i, none⟩ v k (fun e => hne (by rw [e]))⟩
/-- What the law's event is, in memory. -/
def EvtIs (w w' : World) (bo : Option Addr) (zs es : List At) : Prop := ∃ res, NewOf zs res ∧ es = pick8 res ∧ SliceA w' bo es ∧ Below w.heap.size w w'

end Go.Proofs.YtfffmndjgjfflaaGreatDoor
