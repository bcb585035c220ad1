/- Scopes, plainly: what stands between the slashes; below; going up. Over lists: no program. -/
import Derived.Lib.Split
import Derived.Lib.LastIndexLaws
namespace Go.Proofs.YtilkmpnloblheaaDoor.Sc
open Go.Lib

/-- What stands between the slashes. -/
def cutL : List UInt8 → List (List UInt8)
  | [] => [[]]
  | c :: l => if c = 47 then [] :: cutL l else match cutL l with
    | [] => [[c]]
    | h :: t => (c :: h) :: t
def joinL : List (List UInt8) → List UInt8
  | [] => []
  | [p] => p
  | p :: q :: r => p ++ 47 :: joinL (q :: r)
/-- p in front of the first one. -/
def glue (p : List UInt8) : List (List UInt8) → List (List UInt8)
  | [] => [p]
  | h :: t => (p ++ h) :: t

theorem cutL_ne : ∀ l, cutL l ≠ []
  | [] => by simp [cutL]
  | c :: l => by
    unfold cutL
    split
    · simp
    · split <;> simp
theorem cutL_slash (l : List UInt8) : cutL (47 :: l) = [] :: cutL l := by simp [cutL]
theorem cutL_other (c : UInt8) (l : List UInt8) (h : ¬ c = 47) : cutL (c :: l) = glue [c] (cutL l) := by
  rw [cutL, if_neg h]
  cases cutL l <;> rfl
theorem glue_nil : ∀ l, l ≠ [] → glue [] l = l
  | [], h => absurd rfl h
  | _ :: _, _ => rfl
theorem glue_glue (p q : List UInt8) : ∀ l, glue p (glue q l) = glue (p ++ q) l
  | [] => rfl
  | _ :: _ => by simp [glue]
theorem glue_app (p : List UInt8) : ∀ a b, a ≠ [] → glue p (a ++ b) = glue p a ++ b
  | [], _, h => absurd rfl h
  | _ :: _, _, _ => rfl
theorem glue_len (p : List UInt8) : ∀ l, l ≠ [] → (glue p l).length = l.length
  | [], h => absurd rfl h
  | _ :: _, _ => rfl

theorem cutL_no : ∀ l : List UInt8, (47 : UInt8) ∉ l → cutL l = [l]
  | [], _ => rfl
  | c :: l, h => by
    have h1 : ¬ c = 47 := fun e => h (by simp [e])
    rw [cutL_other c l h1, cutL_no l (fun e => h (by simp [e]))]; rfl
theorem cutL_app : ∀ t u : List UInt8, cutL (t ++ 47 :: u) = cutL t ++ cutL u
  | [], u => by simp [cutL]
  | c :: t, u => by
    by_cases h : c = 47
    · subst h; rw [List.cons_append, cutL_slash, cutL_slash, cutL_app t u]; rfl
    · rw [List.cons_append, cutL_other c _ h, cutL_other c _ h, cutL_app t u, glue_app _ _ _ (cutL_ne t)]
theorem joinL_glue (p : List UInt8) : ∀ l, l ≠ [] → joinL (glue p l) = p ++ joinL l
  | [], h => absurd rfl h
  | [a], _ => rfl
  | a :: b :: r, _ => by simp [glue, joinL]
theorem joinL_cons (p : List UInt8) : ∀ l, l ≠ [] → joinL (p :: l) = p ++ 47 :: joinL l
  | [], h => absurd rfl h
  | _ :: _, _ => rfl
theorem joinL_cut : ∀ l, joinL (cutL l) = l
  | [] => rfl
  | c :: l => by
    by_cases h : c = 47
    · subst h; rw [cutL_slash, joinL_cons _ _ (cutL_ne l), joinL_cut l]; rfl
    · rw [cutL_other c l h, joinL_glue _ _ (cutL_ne l), joinL_cut l]; rfl
theorem cutL_mem : ∀ (l p : List UInt8), p ∈ cutL l → (47 : UInt8) ∉ p
  | [], p, h => by simp [cutL] at h; subst h; simp
  | c :: l, p, h => by
    by_cases hc : c = 47
    · subst hc
      rw [cutL_slash, List.mem_cons] at h
      rcases h with rfl | h
      · simp
      · exact cutL_mem l p h
    · rw [cutL_other c l hc] at h
      have ih := fun p => cutL_mem l p
      revert h ih
      cases cutL l with
      | nil => intro h _; simp [glue] at h; subst h; simpa using fun e => hc e.symm
      | cons a t =>
        intro h ih
        simp only [glue, List.mem_cons] at h
        rcases h with rfl | h
        · have := ih a (by simp)
          simp only [List.singleton_append, List.mem_cons, not_or]
          exact ⟨fun e => hc e.symm, this⟩
        · exact ih p (by simp [h])
theorem cutL_joinL : ∀ ps : List (List UInt8), ps ≠ [] → (∀ p ∈ ps, (47 : UInt8) ∉ p) → cutL (joinL ps) = ps
  | [], h, _ => absurd rfl h
  | [p], _, h => cutL_no p (h p (by simp))
  | p :: q :: r, _, h => by
    rw [joinL, cutL_app, cutL_no p (h p (by simp)), cutL_joinL (q :: r) (by simp) (fun x hx => h x (by simp_all))]; rfl
theorem joinL_app : ∀ a b : List (List UInt8), a ≠ [] → b ≠ [] → joinL (a ++ b) = joinL a ++ 47 :: joinL b
  | [], _, h, _ => absurd rfl h
  | [p], b, _, hb => by rw [List.singleton_append, joinL_cons p b hb]; rfl
  | p :: q :: r, b, _, hb => by
    rw [List.cons_append, joinL_cons p _ (by simp), joinL_app (q :: r) b (by simp) hb, joinL_cons p (q :: r) (by simp)]; simp
theorem cutL_le : ∀ l, (cutL l).length ≤ l.length + 1
  | [] => by simp [cutL]
  | c :: l => by
    have ih := cutL_le l
    by_cases h : c = 47
    · subst h; rw [cutL_slash]; simp; omega
    · rw [cutL_other c l h, glue_len _ _ (cutL_ne l)]; simp; omega

/-! ### SplitN's pieces -/
theorem index_slash (c : UInt8) (l : List UInt8) : index (c :: l) [47] = if c = 47 then 0 else if index l [47] == -1 then -1 else index l [47] + 1 := by
  rw [index]
  by_cases h : c = 47
  · subst h; simp
  · rw [if_neg h, if_neg]
    simp [List.isPrefixOf]; exact fun e => h e.symm
theorem index_cut : ∀ l : List UInt8, (index l [47] = -1 ∧ cutL l = [l]) ∨ (∃ i : Nat, i < l.length ∧ index l [47] = i ∧ cutL l = l.take i :: cutL (l.drop (i + 1)))
  | [] => .inl ⟨rfl, rfl⟩
  | c :: l => by
    rw [index_slash]
    by_cases h : c = 47
    · subst h
      exact .inr ⟨0, by simp, by simp, by rw [cutL_slash]; rfl⟩
    · rw [if_neg h, cutL_other c l h]
      rcases index_cut l with ⟨h1, h2⟩ | ⟨i, hi, h1, h2⟩
      · exact .inl ⟨by rw [h1]; rfl, by rw [h2]; rfl⟩
      · refine .inr ⟨i + 1, by simpa using hi, ?_, by rw [h2]; rfl⟩
        rw [h1, if_neg (by simp)]; rfl
theorem splitK_cut : ∀ (k : Nat) (l : List UInt8), (cutL l).length ≤ k + 1 → splitK [47] 0 k l = cutL l
  | 0, l, h => by
    rcases index_cut l with ⟨_, h2⟩ | ⟨i, _, _, h2⟩
    · rw [h2]; rfl
    · rw [h2] at h
      have := cutL_ne (l.drop (i + 1))
      cases hc : cutL (l.drop (i + 1)) with
      | nil => exact absurd hc this
      | cons a t => rw [hc] at h; simp at h
  | k + 1, l, h => by
    rcases index_cut l with ⟨h1, h2⟩ | ⟨i, _, h1, h2⟩
    · rw [splitK, h1, h2]; rfl
    · rw [splitK, h1, if_neg (by simp), h2]
      rw [h2] at h
      simp only [List.length_cons] at h
      rw [show ((i : Int).toNat + 0) = i by omega, show ((i : Int).toNat + [(47 : UInt8)].length) = i + 1 by simp, splitK_cut k _ (by omega)]
theorem splitK_len : ∀ (k : Nat) (l : List UInt8), k + 1 ≤ (cutL l).length → (splitK [47] 0 k l).length = k + 1
  | 0, _, _ => rfl
  | k + 1, l, h => by
    rcases index_cut l with ⟨h1, h2⟩ | ⟨i, _, h1, h2⟩
    · rw [h2] at h; simp at h
    · rw [splitK, h1, if_neg (by simp), show ((i : Int).toNat + [(47 : UInt8)].length) = i + 1 by simp]
      rw [h2] at h
      simp only [List.length_cons] at h ⊢
      rw [splitK_len k _ (by omega)]

/-! ### Below -/
def pieces (l : List UInt8) : List (List UInt8) := if l = [] then [] else cutL l
theorem pieces_nil : pieces [] = [] := rfl
theorem pieces_cut {l : List UInt8} (h : l ≠ []) : pieces l = cutL l := if_neg h
theorem pieces_join (l : List UInt8) : joinL (pieces l) = l := by
  unfold pieces
  split
  · rename_i h; rw [h]; rfl
  · exact joinL_cut l
theorem pieces_mem {l p : List UInt8} (h : p ∈ pieces l) : (47 : UInt8) ∉ p := by
  unfold pieces at h
  split at h
  · simp at h
  · exact cutL_mem l p h
def underL (s t : List UInt8) : Bool := t == [] || s == t || (t ++ [47]).isPrefixOf s
theorem underL_iff (s t : List UInt8) : underL s t = true ↔ pieces t <+: pieces s := by
  unfold underL
  simp only [Bool.or_eq_true, beq_iff_eq, List.isPrefixOf_iff_prefix]
  constructor
  · rintro ((rfl | rfl) | ⟨u, hu⟩)
    · simp [pieces]
    · exact List.prefix_refl _
    · by_cases ht : t = []
      · subst ht; simp [pieces]
      · have hs : s ≠ [] := by rw [← hu]; simp
        rw [pieces_cut ht, pieces_cut hs, ← hu, List.append_assoc, List.singleton_append, cutL_app]
        exact List.prefix_append _ _
  · rintro ⟨r, hr⟩
    by_cases ht : t = []
    · exact .inl (.inl ht)
    · by_cases hn : r = []
      · subst hn
        refine .inl (.inr ?_)
        rw [← pieces_join s, ← pieces_join t, ← hr, List.append_nil]
      · refine .inr ⟨joinL r, ?_⟩
        rw [← pieces_join s, ← hr, joinL_app _ _ (by rw [pieces_cut ht]; exact cutL_ne t) hn, pieces_join]; simp
theorem underL_refl (s : List UInt8) : underL s s = true := by simp [underL]
theorem underL_nil (s : List UInt8) : underL s [] = true := by simp [underL]
theorem underL_trans {a b c : List UInt8} (h : underL a b = true) (h2 : underL b c = true) : underL a c = true := by
  rw [underL_iff] at *
  exact h2.trans h
theorem underL_anti {a b : List UInt8} (h : underL a b = true) (h2 : underL b a = true) : a = b := by
  rw [underL_iff] at *
  have e : pieces a = pieces b := h2.eq_of_length (Nat.le_antisymm h2.length_le h.length_le)
  rw [← pieces_join a, ← pieces_join b, e]

/-! ### Going up -/
def aboveL (l : List UInt8) : List UInt8 := l.take (max (lastIndex l [47]) 0).toNat
theorem occ_at (l : List UInt8) (i : Nat) : occAt l [47] i = (l[i]? == some 47) := by
  unfold occAt
  cases h : l.drop i with
  | nil =>
    have := List.drop_eq_nil_iff.1 h
    rw [List.getElem?_eq_none this]; rfl
  | cons a t =>
    have : l[i]? = some a := by
      have := congrArg (fun x : List UInt8 => x[0]?) h
      simpa using this
    rw [this]
    by_cases e : a = 47
    · subst e; rfl
    · rw [show (some a == some (47 : UInt8)) = false by simpa using e]
      simp only [List.isPrefixOf, Bool.and_true, beq_eq_false_iff_ne]; exact fun q => e q.symm
theorem last_no (l : List UInt8) (h : (47 : UInt8) ∉ l) : lastIndex l [47] = -1 := by
  unfold lastIndex
  split
  · rcases lastOcc_spec l [47] (l.length - [(47 : UInt8)].length + 1) with ⟨e, _⟩ | ⟨i, _, _, ho, _⟩
    · exact e
    · rw [occ_at] at ho
      exact absurd (List.mem_of_getElem? (by simpa using ho)) h
  · rfl
theorem last_app (t u : List UInt8) (h : (47 : UInt8) ∉ u) : lastIndex (t ++ 47 :: u) [47] = t.length := by
  unfold lastIndex
  rw [if_pos (by simp; omega)]
  have hat : occAt (t ++ 47 :: u) [47] t.length = true := by rw [occ_at]; simp
  rcases lastOcc_spec (t ++ 47 :: u) [47] ((t ++ 47 :: u).length - [(47 : UInt8)].length + 1) with ⟨_, hn⟩ | ⟨i, hi, e, ho, hn⟩
  · rw [hn t.length (by simp; omega)] at hat; cases hat
  · rw [e]
    have h1 : ¬ i < t.length := fun hlt => by
      have := hn t.length hlt (by simp; omega)
      rw [this] at hat; cases hat
    have h2 : ¬ t.length < i := fun hlt => by
      rw [occ_at] at ho
      have ho' : (t ++ 47 :: u)[i]? = some 47 := by simpa using ho
      obtain ⟨d, hd⟩ : ∃ d, i = t.length + 1 + d := ⟨i - t.length - 1, by omega⟩
      rw [hd, List.getElem?_append_right (by omega), show t.length + 1 + d - t.length = d + 1 by omega, List.getElem?_cons_succ] at ho'
      exact h (List.mem_of_getElem? ho')
    omega
theorem above_no (l : List UInt8) (h : (47 : UInt8) ∉ l) : aboveL l = [] := by
  unfold aboveL; rw [last_no l h]; rfl
theorem above_app (t u : List UInt8) (h : (47 : UInt8) ∉ u) : aboveL (t ++ 47 :: u) = t := by
  unfold aboveL; rw [last_app t u h, show (max (t.length : Int) 0).toNat = t.length by omega]; simp
theorem above_join (ps : List (List UInt8)) (p : List UInt8) (h : (47 : UInt8) ∉ p) : aboveL (joinL (ps ++ [p])) = joinL ps := by
  by_cases hn : ps = []
  · subst hn; exact above_no p h
  · rw [joinL_app ps [p] hn (by simp)]; exact above_app _ _ h
theorem above_lt (l : List UInt8) (h : l ≠ []) : (aboveL l).length < l.length := by
  unfold aboveL lastIndex
  rw [List.length_take]
  have hp : 0 < l.length := List.length_pos_iff.2 h
  split
  · rcases lastOcc_spec l [47] (l.length - [(47 : UInt8)].length + 1) with ⟨e, _⟩ | ⟨i, hi, e, ho, _⟩
    · rw [e]; simp; omega
    · rw [e]
      rw [occ_at] at ho
      have ho' : l[i]? = some 47 := by simpa using ho
      obtain ⟨hil, _⟩ := List.getElem?_eq_some_iff.1 ho'
      omega
  · simp; omega

/-- All that is told, the nearest first: by rounds. -/
def upF : Nat → List UInt8 → List (List UInt8)
  | 0, l => [l]
  | n + 1, l => if l = [] then [[]] else l :: upF n (aboveL l)
def upL (l : List UInt8) : List (List UInt8) := upF l.length l
theorem upF_eq : ∀ (n m : Nat) (l : List UInt8), l.length ≤ n → l.length ≤ m → upF n l = upF m l
  | 0, m, l, h, _ => by
    have : l = [] := List.length_eq_zero_iff.1 (by omega)
    subst this
    cases m <;> simp [upF]
  | n + 1, 0, l, _, h => by
    have : l = [] := List.length_eq_zero_iff.1 (by omega)
    subst this
    simp [upF]
  | n + 1, m + 1, l, h1, h2 => by
    unfold upF
    split
    · rfl
    · rename_i hl
      have := above_lt l hl
      rw [upF_eq n m (aboveL l) (by omega) (by omega)]
theorem upL_nil : upL [] = [[]] := rfl
theorem upL_cons (l : List UInt8) (h : l ≠ []) : upL l = l :: upL (aboveL l) := by
  unfold upL
  have hp : 0 < l.length := List.length_pos_iff.2 h
  have := above_lt l h
  rw [show l.length = (l.length - 1) + 1 by omega, upF, if_neg h, upF_eq _ (aboveL l).length _ (by omega) (Nat.le_refl _)]

/-- Of pieces that are no blanks: the beginnings, the longest first. -/
theorem upL_join : ∀ (n : Nat) (ps : List (List UInt8)), ps.length = n → (∀ p ∈ ps, p ≠ [] ∧ (47 : UInt8) ∉ p) → upL (joinL ps) = (List.range (n + 1)).map fun k => joinL (ps.take (n - k))
  | 0, ps, h, _ => by
    have : ps = [] := List.length_eq_zero_iff.1 h
    subst this; rfl
  | n + 1, ps, h, hp => by
    obtain ⟨qs, p, rfl⟩ : ∃ qs p, ps = qs ++ [p] := by
      have hne : ps ≠ [] := by intro e; rw [e] at h; simp at h
      exact ⟨ps.dropLast, ps.getLast hne, (List.dropLast_concat_getLast hne).symm⟩
    have hq : qs.length = n := by simpa using h
    have hpp := hp p (by simp)
    have hne : joinL (qs ++ [p]) ≠ [] := by
      by_cases hn : qs = []
      · subst hn; exact hpp.1
      · rw [joinL_app _ _ hn (by simp)]; simp
    rw [upL_cons _ hne, above_join _ _ hpp.2, upL_join n qs hq (fun x hx => hp x (by simp [hx])), List.range_succ_eq_map (n := n + 1), List.map_cons, List.map_map]
    congr 1
    · rw [Nat.sub_zero, List.take_of_length_le (by simp; omega)]
    · apply List.map_congr_left
      intro k hk
      have hk' : k < n + 1 := List.mem_range.1 hk
      show joinL (qs.take (n - k)) = joinL ((qs ++ [p]).take (n + 1 - (k + 1)))
      rw [show n + 1 - (k + 1) = n - k by omega, List.take_append_of_le_length (by omega)]
/-- The same, of a text whose pieces are no blanks. -/
theorem upL_pieces (l : List UInt8) (h : ∀ p ∈ pieces l, p ≠ []) : upL l = (List.range ((pieces l).length + 1)).map fun k => joinL ((pieces l).take ((pieces l).length - k)) := by
  have := upL_join (pieces l).length (pieces l) rfl (fun p hp => ⟨h p hp, pieces_mem hp⟩)
  rwa [pieces_join] at this
theorem joinL_ne (ps : List (List UInt8)) (h : ps ≠ []) (hp : ∀ p ∈ ps, p ≠ []) : joinL ps ≠ [] := by
  cases ps with
  | nil => exact absurd rfl h
  | cons p r =>
    cases r with
    | nil => exact hp p (by simp)
    | cons q r => simp [joinL]
theorem pieces_joinL (ps : List (List UInt8)) (h : ∀ p ∈ ps, p ≠ [] ∧ (47 : UInt8) ∉ p) : pieces (joinL ps) = ps := by
  by_cases hn : ps = []
  · subst hn; rfl
  · rw [pieces_cut (joinL_ne ps hn (fun p hp => (h p hp).1)), cutL_joinL ps hn (fun p hp => (h p hp).2)]
/-- Is it told on the way up? Just if it is above. -/
theorem upL_mem (l t : List UInt8) (h : ∀ p ∈ pieces l, p ≠ []) : t ∈ upL l ↔ underL l t = true := by
  rw [upL_pieces l h, underL_iff]
  simp only [List.mem_map, List.mem_range]
  constructor
  · rintro ⟨k, hk, rfl⟩
    rw [pieces_joinL _ (fun p hp => ⟨h p (List.mem_of_mem_take hp), pieces_mem (List.mem_of_mem_take hp)⟩)]
    exact List.take_prefix _ _
  · intro hp
    refine ⟨(pieces l).length - (pieces t).length, by omega, ?_⟩
    have := hp.length_le
    rw [show (pieces l).length - ((pieces l).length - (pieces t).length) = (pieces t).length by omega, ← List.prefix_iff_eq_take.1 hp, pieces_join]
end Go.Proofs.YtilkmpnloblheaaDoor.Sc
