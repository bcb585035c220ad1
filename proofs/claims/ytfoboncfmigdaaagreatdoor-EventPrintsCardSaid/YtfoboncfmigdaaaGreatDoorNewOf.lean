/- What event.New hands back, in plain words: names rise; of each name the last one told. -/
import Derived.Test.YtfoboncfmigdaaaGreatDoorNew
namespace Go.Proofs.YtfoboncfmigdaaaGreatDoor
open Go.RowKit Go.Shelf Go.Sort
open Go.Proofs

theorem dd_mem (D : Array At) (t : Nat) (a : At) (h : a ∈ dd eqA D t) : ∃ s, s < t ∧ a = D[s]! := by
  induction t with
  | zero => simp [dd] at h
  | succ t ih =>
    rw [dd] at h
    split at h
    · obtain ⟨s, h1, h2⟩ := ih h; exact ⟨s, by omega, h2⟩
    · rw [List.mem_append] at h
      rcases h with h | h
      · obtain ⟨s, h1, h2⟩ := ih h; exact ⟨s, by omega, h2⟩
      · simp at h; exact ⟨t, by omega, h⟩

theorem dd_len (D : Array At) (t : Nat) : (dd eqA D t).length ≤ t := by
  induction t with
  | zero => simp [dd]
  | succ t ih =>
    rw [dd]
    split
    · omega
    · rw [List.length_append, List.length_singleton]; omega

theorem dd_find (D : Array At) (heq : ∀ p q, eqA p q = true → keyA p = keyA q) (c : List UInt8) (t : Nat) :
    (dd eqA D t).find? (fun a => keyA a == c) = ((List.range t).map (fun i => D[i]!)).find? (fun a => keyA a == c) := by
  induction t with
  | zero => simp [dd]
  | succ t ih =>
    rw [List.range_succ, List.map_append, List.find?_append, ← ih, dd]
    split
    · rename_i h
      obtain ⟨h0, h1⟩ := h
      have hk := heq _ _ h1
      cases hf : (dd eqA D t).find? (fun a => keyA a == c) with
      | some x => simp
      | none =>
        rw [ih, List.find?_eq_none] at hf
        have := hf D[t - 1]! (List.mem_map.2 ⟨t - 1, List.mem_range.2 (by omega), rfl⟩)
        rw [← hk] at this
        simp only [List.map_cons, List.map_nil, List.find?_cons, List.find?_nil]
        split
        · exact absurd ‹_› (by simpa using this)
        · rfl
    · rw [List.find?_append]; rfl

theorem dd_rise (D : Array At) (n : Nat) (hne : ∀ p q, eqA p q = false → keyA p ≠ keyA q) (hs : SortedIn (ltKey keyA) 0 n D) (t : Nat) (ht : t ≤ n) :
    (dd eqA D t).Pairwise (fun a b => ltKey keyA a b = true) := by
  induction t with
  | zero => simp [dd]
  | succ t ih =>
    rw [dd]
    split
    · exact ih (by omega)
    · rename_i h
      rw [List.pairwise_append]
      refine ⟨ih (by omega), by simp, fun a ha b hb => ?_⟩
      simp only [List.mem_singleton] at hb
      subst hb
      obtain ⟨s, h1, rfl⟩ := dd_mem D t a ha
      have ht0 : t ≠ 0 := by omega
      have he : eqA D[t]! D[t - 1]! = false := by
        cases hq : eqA D[t]! D[t - 1]! with
        | false => rfl
        | true => exact absurd ⟨ht0, hq⟩ h
      have hk := hne _ _ he
      have l1 : ltKey keyA D[t]! D[t - 1]! = false := hs.le (by omega) (by omega) (by omega)
      have l2 : ltKey keyA D[t - 1]! D[t]! = true := by
        cases hq : ltKey keyA D[t - 1]! D[t]! with
        | true => rfl
        | false => exact absurd (key_eq l1 hq) hk
      exact lt_of_le_lt (hs.le (by omega) (by omega) (by omega)) l2

theorem eqA_key (p q : At) : eqA p q = (keyA p == keyA q) := by unfold eqA keyA; rw [bytes_toList, bytes_toList]

/-- Of each name the last one that was told. -/
theorem NewOf.find {zs res : List At} (h : NewOf zs res) (c : List UInt8) : res.find? (fun a => keyA a == c) = (zs.reverse.find? (fun a => keyA a == c)).map canonA := by
  obtain ⟨D, g, _, rfl⟩ := h
  have hsz : D.size = zs.length := by rw [g.size]; simp
  rw [dd_find D (fun p q hh => by rw [eqA_key] at hh; simpa using hh), ← hsz]
  have : (List.range D.size).map (fun i => D[i]!) = D.toList := by rw [toList_get D, List.range_eq_range']
  rw [this, ← List.head?_filter, g.stab c, List.head?_filter]
  simp only [List.find?_map, Function.comp_def, keyA_canon]
theorem NewOf.rise {zs res : List At} (h : NewOf zs res) : res.Pairwise (fun a b => ltKey keyA a b = true) := by
  obtain ⟨D, g, s, rfl⟩ := h
  exact dd_rise D _ (fun p q hh => by rw [eqA_key] at hh; simpa using hh) s _ (Nat.le_refl _)
theorem NewOf.len {zs res : List At} (h : NewOf zs res) : res.length ≤ zs.length := by
  obtain ⟨D, g, s, rfl⟩ := h
  exact dd_len D _
/-- Each is one of those told, kept. -/
theorem NewOf.mem {zs res : List At} (h : NewOf zs res) (a : At) (ha : a ∈ res) : ∃ z ∈ zs, a = canonA z := by
  obtain ⟨D, g, s, rfl⟩ := h
  obtain ⟨t, h1, rfl⟩ := dd_mem D _ a ha
  obtain ⟨r, _, h3, h4⟩ := g.mem t (Nat.zero_le _) h1
  rw [h4]
  have : r < (zs.reverse.map canonA).length := by simp; exact h3
  refine ⟨zs.reverse[r]'(by simp; exact h3), by simp, ?_⟩
  simp [h3]

theorem find_key {l : List At} (hr : l.Pairwise (fun a b => ltKey keyA a b = true)) (a : At) (ha : a ∈ l) : l.find? (fun b => keyA b == keyA a) = some a := by
  induction l with
  | nil => cases ha
  | cons x l ih =>
    rw [List.pairwise_cons] at hr
    rw [List.find?_cons]
    rcases List.mem_cons.1 ha with rfl | h
    · simp
    · have : keyA x ≠ keyA a := key_ne (hr.1 a h)
      rw [show (keyA x == keyA a) = false by simpa using this]
      exact ih hr.2 h

/-- Rising names, and alike under each name: the same list. -/
theorem rise_unique : ∀ (l m : List At), l.Pairwise (fun a b => ltKey keyA a b = true) → m.Pairwise (fun a b => ltKey keyA a b = true) →
    (∀ c, l.find? (fun a => keyA a == c) = m.find? (fun a => keyA a == c)) → l = m
  | [], [], _, _, _ => rfl
  | [], y :: m, _, h2, h => by have := h (keyA y); simp at this
  | x :: l, [], h1, _, h => by have := h (keyA x); simp at this
  | x :: l, y :: m, h1, h2, h => by
    have hx : x ∈ y :: m := by
      have := h (keyA x); rw [find_key h1 x (List.mem_cons_self)] at this; exact List.mem_of_find?_eq_some this.symm
    have hy : y ∈ x :: l := by
      have := h (keyA y); rw [find_key h2 y (List.mem_cons_self)] at this; exact List.mem_of_find?_eq_some this
    have hxy : x = y := by
      rcases List.mem_cons.1 hx with e | e
      · exact e
      · rcases List.mem_cons.1 hy with e2 | e2
        · exact e2.symm
        · have a1 := (List.pairwise_cons.1 h2).1 x e
          have a2 := (List.pairwise_cons.1 h1).1 y e2
          have := (swo_key keyA).trans _ _ _ a1 a2
          rw [(swo_key keyA).irrefl] at this; cases this
    subst hxy
    congr 1
    refine rise_unique l m (List.pairwise_cons.1 h1).2 (List.pairwise_cons.1 h2).2 fun c => ?_
    have := h c
    rw [List.find?_cons, List.find?_cons] at this
    by_cases hc : keyA x = c
    · have n1 : ∀ (k : List At), (∀ a ∈ k, ltKey keyA x a = true) → k.find? (fun a => keyA a == c) = none := fun k hk => by
        rw [List.find?_eq_none]
        intro a ha
        have := key_ne (hk a ha)
        rw [hc] at this
        simpa using fun e => this e.symm
      rw [n1 l (List.pairwise_cons.1 h1).1, n1 m (List.pairwise_cons.1 h2).1]
    · rw [show (keyA x == c) = false by simpa using hc] at this
      exact this
end Go.Proofs.YtfoboncfmigdaaaGreatDoor
