/- ScopeP, Scope, FilP, OpenP, OpenC, CondK, FilM: merged by merge.py. -/
import Derived.Lib.Split
import Derived.Lib.LastIndexLaws
import Derived.Test.YtjnfbinomljocaaDoorGaB
import Derived.Test.YtjnfbinomljocaaDoorShelf
import Derived.Shelf.Strings.Split
import Derived.Test.YtjnfbinomljocaaDoorGaC
import Derived.Test.YtjnfbinomljocaaDoorGaA
import Derived.Lib.SmallJoins
import Derived.ProofKit
import Derived.OpenShut
import Derived.ShutString
import Derived.Deep.Slices
import Derived.Deep.Fields
import Derived.ChangeSame
import Derived.WideShapes
import Derived.Deep.RegionWith
/- Scopes, plainly: what stands between the slashes; below; going up. Over lists: no program. -/
namespace Go.Proofs.YtjnfbinomljocaaDoor.Sc
open Go.Lib

/-- What stands between the slashes. -/
def cutL : List UInt8 → List (List UInt8)
  | [] => [[]]
  | c :: l => if c = 47 then [] :: cutL l else match cutL l with
    | [] => [[c]]
    | h :: t => (c :: h) :: t
def joinL : List (List UInt8) → List UInt8
  | [] => []
  | [p] => p
  | p :: q :: r => p ++ 47 :: joinL (q :: r)
/-- p in front of the first one. -/
def glue (p : List UInt8) : List (List UInt8) → List (List UInt8)
  | [] => [p]
  | h :: t => (p ++ h) :: t

theorem cutL_ne : ∀ l, cutL l ≠ []
  | [] => by simp [cutL]
  | c :: l => by
    unfold cutL
    split
    · simp
    · split <;> simp
theorem cutL_slash (l : List UInt8) : cutL (47 :: l) = [] :: cutL l := by simp [cutL]
theorem cutL_other (c : UInt8) (l : List UInt8) (h : ¬ c = 47) : cutL (c :: l) = glue [c] (cutL l) := by
  rw [cutL, if_neg h]
  cases cutL l <;> rfl
theorem glue_nil : ∀ l, l ≠ [] → glue [] l = l
  | [], h => absurd rfl h
  | _ :: _, _ => rfl
theorem glue_glue (p q : List UInt8) : ∀ l, glue p (glue q l) = glue (p ++ q) l
  | [] => rfl
  | _ :: _ => by simp [glue]
theorem glue_app (p : List UInt8) : ∀ a b, a ≠ [] → glue p (a ++ b) = glue p a ++ b
  | [], _, h => absurd rfl h
  | _ :: _, _, _ => rfl
theorem glue_len (p : List UInt8) : ∀ l, l ≠ [] → (glue p l).length = l.length
  | [], h => absurd rfl h
  | _ :: _, _ => rfl

theorem cutL_no : ∀ l : List UInt8, (47 : UInt8) ∉ l → cutL l = [l]
  | [], _ => rfl
  | c :: l, h => by
    have h1 : ¬ c = 47 := fun e => h (by simp [e])
    rw [cutL_other c l h1, cutL_no l (fun e => h (by simp [e]))]; rfl
theorem cutL_app : ∀ t u : List UInt8, cutL (t ++ 47 :: u) = cutL t ++ cutL u
  | [], u => by simp [cutL]
  | c :: t, u => by
    by_cases h : c = 47
    · subst h; rw [List.cons_append, cutL_slash, cutL_slash, cutL_app t u]; rfl
    · rw [List.cons_append, cutL_other c _ h, cutL_other c _ h, cutL_app t u, glue_app _ _ _ (cutL_ne t)]
theorem joinL_glue (p : List UInt8) : ∀ l, l ≠ [] → joinL (glue p l) = p ++ joinL l
  | [], h => absurd rfl h
  | [a], _ => rfl
  | a :: b :: r, _ => by simp [glue, joinL]
theorem joinL_cons (p : List UInt8) : ∀ l, l ≠ [] → joinL (p :: l) = p ++ 47 :: joinL l
  | [], h => absurd rfl h
  | _ :: _, _ => rfl
theorem joinL_cut : ∀ l, joinL (cutL l) = l
  | [] => rfl
  | c :: l => by
    by_cases h : c = 47
    · subst h; rw [cutL_slash, joinL_cons _ _ (cutL_ne l), joinL_cut l]; rfl
    · rw [cutL_other c l h, joinL_glue _ _ (cutL_ne l), joinL_cut l]; rfl
theorem cutL_mem : ∀ (l p : List UInt8), p ∈ cutL l → (47 : UInt8) ∉ p
  | [], p, h => by simp [cutL] at h; subst h; simp
  | c :: l, p, h => by
    by_cases hc : c = 47
    · subst hc
      rw [cutL_slash, List.mem_cons] at h
      rcases h with rfl | h
      · simp
      · exact cutL_mem l p h
    · rw [cutL_other c l hc] at h
      have ih := fun p => cutL_mem l p
      revert h ih
      cases cutL l with
      | nil => intro h _; simp [glue] at h; subst h; simpa using fun e => hc e.symm
      | cons a t =>
        intro h ih
        simp only [glue, List.mem_cons] at h
        rcases h with rfl | h
        · have := ih a (by simp)
          simp only [List.singleton_append, List.mem_cons, not_or]
          exact ⟨fun e => hc e.symm, this⟩
        · exact ih p (by simp [h])
theorem cutL_joinL : ∀ ps : List (List UInt8), ps ≠ [] → (∀ p ∈ ps, (47 : UInt8) ∉ p) → cutL (joinL ps) = ps
  | [], h, _ => absurd rfl h
  | [p], _, h => cutL_no p (h p (by simp))
  | p :: q :: r, _, h => by
    rw [joinL, cutL_app, cutL_no p (h p (by simp)), cutL_joinL (q :: r) (by simp) (fun x hx => h x (by simp_all))]; rfl
theorem joinL_app : ∀ a b : List (List UInt8), a ≠ [] → b ≠ [] → joinL (a ++ b) = joinL a ++ 47 :: joinL b
  | [], _, h, _ => absurd rfl h
  | [p], b, _, hb => by rw [List.singleton_append, joinL_cons p b hb]; rfl
  | p :: q :: r, b, _, hb => by
    rw [List.cons_append, joinL_cons p _ (by simp), joinL_app (q :: r) b (by simp) hb, joinL_cons p (q :: r) (by simp)]; simp
theorem cutL_le : ∀ l, (cutL l).length ≤ l.length + 1
  | [] => by simp [cutL]
  | c :: l => by
    have ih := cutL_le l
    by_cases h : c = 47
    · subst h; rw [cutL_slash]; simp; omega
    · rw [cutL_other c l h, glue_len _ _ (cutL_ne l)]; simp; omega

/-! ### SplitN's pieces -/
theorem index_slash (c : UInt8) (l : List UInt8) : index (c :: l) [47] = if c = 47 then 0 else if index l [47] == -1 then -1 else index l [47] + 1 := by
  rw [index]
  by_cases h : c = 47
  · subst h; simp
  · rw [if_neg h, if_neg]
    simp [List.isPrefixOf]; exact fun e => h e.symm
theorem index_cut : ∀ l : List UInt8, (index l [47] = -1 ∧ cutL l = [l]) ∨ (∃ i : Nat, i < l.length ∧ index l [47] = i ∧ cutL l = l.take i :: cutL (l.drop (i + 1)))
  | [] => .inl ⟨rfl, rfl⟩
  | c :: l => by
    rw [index_slash]
    by_cases h : c = 47
    · subst h
      exact .inr ⟨0, by simp, by simp, by rw [cutL_slash]; rfl⟩
    · rw [if_neg h, cutL_other c l h]
      rcases index_cut l with ⟨h1, h2⟩ | ⟨i, hi, h1, h2⟩
      · exact .inl ⟨by rw [h1]; rfl, by rw [h2]; rfl⟩
      · refine .inr ⟨i + 1, by simpa using hi, ?_, by rw [h2]; rfl⟩
        rw [h1, if_neg (by simp)]; rfl
theorem splitK_cut : ∀ (k : Nat) (l : List UInt8), (cutL l).length ≤ k + 1 → splitK [47] 0 k l = cutL l
  | 0, l, h => by
    rcases index_cut l with ⟨_, h2⟩ | ⟨i, _, _, h2⟩
    · rw [h2]; rfl
    · rw [h2] at h
      have := cutL_ne (l.drop (i + 1))
      cases hc : cutL (l.drop (i + 1)) with
      | nil => exact absurd hc this
      | cons a t => rw [hc] at h; simp at h
  | k + 1, l, h => by
    rcases index_cut l with ⟨h1, h2⟩ | ⟨i, _, h1, h2⟩
    · rw [splitK, h1, h2]; rfl
    · rw [splitK, h1, if_neg (by simp), h2]
      rw [h2] at h
      simp only [List.length_cons] at h
      rw [show ((i : Int).toNat + 0) = i by omega, show ((i : Int).toNat + [(47 : UInt8)].length) = i + 1 by simp, splitK_cut k _ (by omega)]
theorem splitK_len : ∀ (k : Nat) (l : List UInt8), k + 1 ≤ (cutL l).length → (splitK [47] 0 k l).length = k + 1
  | 0, _, _ => rfl
  | k + 1, l, h => by
    rcases index_cut l with ⟨h1, h2⟩ | ⟨i, _, h1, h2⟩
    · rw [h2] at h; simp at h
    · rw [splitK, h1, if_neg (by simp), show ((i : Int).toNat + [(47 : UInt8)].length) = i + 1 by simp]
      rw [h2] at h
      simp only [List.length_cons] at h ⊢
      rw [splitK_len k _ (by omega)]

/-! ### Below -/
def pieces (l : List UInt8) : List (List UInt8) := if l = [] then [] else cutL l
theorem pieces_nil : pieces [] = [] := rfl
theorem pieces_cut {l : List UInt8} (h : l ≠ []) : pieces l = cutL l := if_neg h
theorem pieces_join (l : List UInt8) : joinL (pieces l) = l := by
  unfold pieces
  split
  · rename_i h; rw [h]; rfl
  · exact joinL_cut l
theorem pieces_mem {l p : List UInt8} (h : p ∈ pieces l) : (47 : UInt8) ∉ p := by
  unfold pieces at h
  split at h
  · simp at h
  · exact cutL_mem l p h
def underL (s t : List UInt8) : Bool := t == [] || s == t || (t ++ [47]).isPrefixOf s
theorem underL_iff (s t : List UInt8) : underL s t = true ↔ pieces t <+: pieces s := by
  unfold underL
  simp only [Bool.or_eq_true, beq_iff_eq, List.isPrefixOf_iff_prefix]
  constructor
  · rintro ((rfl | rfl) | ⟨u, hu⟩)
    · simp [pieces]
    · exact List.prefix_refl _
    · by_cases ht : t = []
      · subst ht; simp [pieces]
      · have hs : s ≠ [] := by rw [← hu]; simp
        rw [pieces_cut ht, pieces_cut hs, ← hu, List.append_assoc, List.singleton_append, cutL_app]
        exact List.prefix_append _ _
  · rintro ⟨r, hr⟩
    by_cases ht : t = []
    · exact .inl (.inl ht)
    · by_cases hn : r = []
      · subst hn
        refine .inl (.inr ?_)
        rw [← pieces_join s, ← pieces_join t, ← hr, List.append_nil]
      · refine .inr ⟨joinL r, ?_⟩
        rw [← pieces_join s, ← hr, joinL_app _ _ (by rw [pieces_cut ht]; exact cutL_ne t) hn, pieces_join]; simp
theorem underL_refl (s : List UInt8) : underL s s = true := by simp [underL]
theorem underL_nil (s : List UInt8) : underL s [] = true := by simp [underL]
theorem underL_trans {a b c : List UInt8} (h : underL a b = true) (h2 : underL b c = true) : underL a c = true := by
  rw [underL_iff] at *
  exact h2.trans h
theorem underL_anti {a b : List UInt8} (h : underL a b = true) (h2 : underL b a = true) : a = b := by
  rw [underL_iff] at *
  have e : pieces a = pieces b := h2.eq_of_length (Nat.le_antisymm h2.length_le h.length_le)
  rw [← pieces_join a, ← pieces_join b, e]

/-! ### Going up -/
def aboveL (l : List UInt8) : List UInt8 := l.take (max (lastIndex l [47]) 0).toNat
theorem occ_at (l : List UInt8) (i : Nat) : occAt l [47] i = (l[i]? == some 47) := by
  unfold occAt
  cases h : l.drop i with
  | nil =>
    have := List.drop_eq_nil_iff.1 h
    rw [List.getElem?_eq_none this]; rfl
  | cons a t =>
    have : l[i]? = some a := by
      have := congrArg (fun x : List UInt8 => x[0]?) h
      simpa using this
    rw [this]
    by_cases e : a = 47
    · subst e; rfl
    · rw [show (some a == some (47 : UInt8)) = false by simpa using e]
      simp only [List.isPrefixOf, Bool.and_true, beq_eq_false_iff_ne]; exact fun q => e q.symm
theorem last_no (l : List UInt8) (h : (47 : UInt8) ∉ l) : lastIndex l [47] = -1 := by
  unfold lastIndex
  split
  · rcases lastOcc_spec l [47] (l.length - [(47 : UInt8)].length + 1) with ⟨e, _⟩ | ⟨i, _, _, ho, _⟩
    · exact e
    · rw [occ_at] at ho
      exact absurd (List.mem_of_getElem? (by simpa using ho)) h
  · rfl
theorem last_app (t u : List UInt8) (h : (47 : UInt8) ∉ u) : lastIndex (t ++ 47 :: u) [47] = t.length := by
  unfold lastIndex
  rw [if_pos (by simp; omega)]
  have hat : occAt (t ++ 47 :: u) [47] t.length = true := by rw [occ_at]; simp
  rcases lastOcc_spec (t ++ 47 :: u) [47] ((t ++ 47 :: u).length - [(47 : UInt8)].length + 1) with ⟨_, hn⟩ | ⟨i, hi, e, ho, hn⟩
  · rw [hn t.length (by simp; omega)] at hat; cases hat
  · rw [e]
    have h1 : ¬ i < t.length := fun hlt => by
      have := hn t.length hlt (by simp; omega)
      rw [this] at hat; cases hat
    have h2 : ¬ t.length < i := fun hlt => by
      rw [occ_at] at ho
      have ho' : (t ++ 47 :: u)[i]? = some 47 := by simpa using ho
      obtain ⟨d, hd⟩ : ∃ d, i = t.length + 1 + d := ⟨i - t.length - 1, by omega⟩
      rw [hd, List.getElem?_append_right (by omega), show t.length + 1 + d - t.length = d + 1 by omega, List.getElem?_cons_succ] at ho'
      exact h (List.mem_of_getElem? ho')
    omega
theorem above_no (l : List UInt8) (h : (47 : UInt8) ∉ l) : aboveL l = [] := by
  unfold aboveL; rw [last_no l h]; rfl
theorem above_app (t u : List UInt8) (h : (47 : UInt8) ∉ u) : aboveL (t ++ 47 :: u) = t := by
  unfold aboveL; rw [last_app t u h, show (max (t.length : Int) 0).toNat = t.length by omega]; simp
theorem above_join (ps : List (List UInt8)) (p : List UInt8) (h : (47 : UInt8) ∉ p) : aboveL (joinL (ps ++ [p])) = joinL ps := by
  by_cases hn : ps = []
  · subst hn; exact above_no p h
  · rw [joinL_app ps [p] hn (by simp)]; exact above_app _ _ h
theorem above_lt (l : List UInt8) (h : l ≠ []) : (aboveL l).length < l.length := by
  unfold aboveL lastIndex
  rw [List.length_take]
  have hp : 0 < l.length := List.length_pos_iff.2 h
  split
  · rcases lastOcc_spec l [47] (l.length - [(47 : UInt8)].length + 1) with ⟨e, _⟩ | ⟨i, hi, e, ho, _⟩
    · rw [e]; simp; omega
    · rw [e]
      rw [occ_at] at ho
      have ho' : l[i]? = some 47 := by simpa using ho
      obtain ⟨hil, _⟩ := List.getElem?_eq_some_iff.1 ho'
      omega
  · simp; omega

/-- All that is told, the nearest first: by rounds. -/
def upF : Nat → List UInt8 → List (List UInt8)
  | 0, l => [l]
  | n + 1, l => if l = [] then [[]] else l :: upF n (aboveL l)
def upL (l : List UInt8) : List (List UInt8) := upF l.length l
theorem upF_eq : ∀ (n m : Nat) (l : List UInt8), l.length ≤ n → l.length ≤ m → upF n l = upF m l
  | 0, m, l, h, _ => by
    have : l = [] := List.length_eq_zero_iff.1 (by omega)
    subst this
    cases m <;> simp [upF]
  | n + 1, 0, l, _, h => by
    have : l = [] := List.length_eq_zero_iff.1 (by omega)
    subst this
    simp [upF]
  | n + 1, m + 1, l, h1, h2 => by
    unfold upF
    split
    · rfl
    · rename_i hl
      have := above_lt l hl
      rw [upF_eq n m (aboveL l) (by omega) (by omega)]
theorem upL_nil : upL [] = [[]] := rfl
theorem upL_cons (l : List UInt8) (h : l ≠ []) : upL l = l :: upL (aboveL l) := by
  unfold upL
  have hp : 0 < l.length := List.length_pos_iff.2 h
  have := above_lt l h
  rw [show l.length = (l.length - 1) + 1 by omega, upF, if_neg h, upF_eq _ (aboveL l).length _ (by omega) (Nat.le_refl _)]

/-- Of pieces that are no blanks: the beginnings, the longest first. -/
theorem upL_join : ∀ (n : Nat) (ps : List (List UInt8)), ps.length = n → (∀ p ∈ ps, p ≠ [] ∧ (47 : UInt8) ∉ p) → upL (joinL ps) = (List.range (n + 1)).map fun k => joinL (ps.take (n - k))
  | 0, ps, h, _ => by
    have : ps = [] := List.length_eq_zero_iff.1 h
    subst this; rfl
  | n + 1, ps, h, hp => by
    obtain ⟨qs, p, rfl⟩ : ∃ qs p, ps = qs ++ [p] := by
      have hne : ps ≠ [] := by intro e; rw [e] at h; simp at h
      exact ⟨ps.dropLast, ps.getLast hne, (List.dropLast_concat_getLast hne).symm⟩
    have hq : qs.length = n := by simpa using h
    have hpp := hp p (by simp)
    have hne : joinL (qs ++ [p]) ≠ [] := by
      by_cases hn : qs = []
      · subst hn; exact hpp.1
      · rw [joinL_app _ _ hn (by simp)]; simp
    rw [upL_cons _ hne, above_join _ _ hpp.2, upL_join n qs hq (fun x hx => hp x (by simp [hx])), List.range_succ_eq_map (n := n + 1), List.map_cons, List.map_map]
    congr 1
    · rw [Nat.sub_zero, List.take_of_length_le (by simp; omega)]
    · apply List.map_congr_left
      intro k hk
      have hk' : k < n + 1 := List.mem_range.1 hk
      show joinL (qs.take (n - k)) = joinL ((qs ++ [p]).take (n + 1 - (k + 1)))
      rw [show n + 1 - (k + 1) = n - k by omega, List.take_append_of_le_length (by omega)]
/-- The same, of a text whose pieces are no blanks. -/
theorem upL_pieces (l : List UInt8) (h : ∀ p ∈ pieces l, p ≠ []) : upL l = (List.range ((pieces l).length + 1)).map fun k => joinL ((pieces l).take ((pieces l).length - k)) := by
  have := upL_join (pieces l).length (pieces l) rfl (fun p hp => ⟨h p hp, pieces_mem hp⟩)
  rwa [pieces_join] at this
theorem joinL_ne (ps : List (List UInt8)) (h : ps ≠ []) (hp : ∀ p ∈ ps, p ≠ []) : joinL ps ≠ [] := by
  cases ps with
  | nil => exact absurd rfl h
  | cons p r =>
    cases r with
    | nil => exact hp p (by simp)
    | cons q r => simp [joinL]
theorem pieces_joinL (ps : List (List UInt8)) (h : ∀ p ∈ ps, p ≠ [] ∧ (47 : UInt8) ∉ p) : pieces (joinL ps) = ps := by
  by_cases hn : ps = []
  · subst hn; rfl
  · rw [pieces_cut (joinL_ne ps hn (fun p hp => (h p hp).1)), cutL_joinL ps hn (fun p hp => (h p hp).2)]
/-- Is it told on the way up? Just if it is above. -/
theorem upL_mem (l t : List UInt8) (h : ∀ p ∈ pieces l, p ≠ []) : t ∈ upL l ↔ underL l t = true := by
  rw [upL_pieces l h, underL_iff]
  simp only [List.mem_map, List.mem_range]
  constructor
  · rintro ⟨k, hk, rfl⟩
    rw [pieces_joinL _ (fun p hp => ⟨h p (List.mem_of_mem_take hp), pieces_mem (List.mem_of_mem_take hp)⟩)]
    exact List.take_prefix _ _
  · intro hp
    refine ⟨(pieces l).length - (pieces t).length, by omega, ?_⟩
    have := hp.length_le
    rw [show (pieces l).length - ((pieces l).length - (pieces t).length) = (pieces t).length by omega, ← List.prefix_iff_eq_take.1 hp, pieces_join]
end Go.Proofs.YtjnfbinomljocaaDoor.Sc

/- Package scope: Right, Under, above. -/
namespace Go.Proofs.YtjnfbinomljocaaDoor
open Go.RowKit Go.Shelf
open Go.Proofs
set_option maxRecDepth 100000

/-- Is it that scope, or below it? -/
def underB (s t : ByteArray) : Bool := Sc.underL s.data.toList t.data.toList
set_option maxHeartbeats 1000000 in
theorem under_c (s t : ByteArray) (ht : t.size ≤ 300) (w : World) : Calls Tryd.prog 16 #[.string s, .string t] w fun e w' => e = .returned (.bool (underB s t)) ∧ w = w' := by
  have h1 : t.toList = t.data.toList := bytes_toList t
  have h2 : s.toList = s.data.toList := bytes_toList s
  have h3 : (t ++ ⟨#[47]⟩ : ByteArray).data.toList = t.data.toList ++ [47] := by simp
  cases ha : (t.toList == [])
  · cases hb : (s.toList == t.toList)
    · have hc := fun w => Tryd.strings_HasPrefix s (t ++ ⟨#[47]⟩) w
      have hu : underB s t = Lib.hasPrefix s.data.toList (t ++ ⟨#[47]⟩ : ByteArray).data.toList := by
        rw [h3]
        rw [h1] at ha
        rw [h1, h2] at hb
        unfold underB Sc.underL Lib.hasPrefix
        rw [ha, hb]; rfl
      rw [hu]
      have HC := Lib.hid hc
      clear hc h1 h2 h3 hu
      go_enter Tryd.func16, Tryd.ntmps16
      go_wp2_with fail
      refine (HC.out _).mono ?_
      rintro e w' ⟨rfl, rfl⟩
      go_wp2_with fail
      go_ret
      exact ⟨rfl, rfl⟩
    · have hu : underB s t = true := by
        rw [h1, h2] at hb
        unfold underB Sc.underL
        rw [hb]; simp
      rw [hu]
      clear h1 h2 h3 hu
      go_enter Tryd.func16, Tryd.ntmps16
      go_wp2_with fail
      go_ret
      exact ⟨rfl, rfl⟩
  · have hu : underB s t = true := by
      rw [h1] at ha
      unfold underB Sc.underL
      rw [ha]; simp
    rw [hu]
    clear h1 h2 h3 hu
    go_enter Tryd.func16, Tryd.ntmps16
    go_wp2_with fail
    go_ret
    exact ⟨rfl, rfl⟩

/-- A text of a list of letters. -/
def bsOf (l : List UInt8) : ByteArray := ⟨l.toArray⟩
theorem bsOf_data (s : ByteArray) : bsOf s.data.toList = s := by
  cases s; simp [bsOf]
theorem data_bsOf (l : List UInt8) : (bsOf l).data.toList = l := by simp [bsOf]
/-- What stands between the slashes. -/
def cutB (s : ByteArray) : List ByteArray := (Sc.cutL s.data.toList).map bsOf
/-- May it be a scope? -/
def scopeOk (s : ByteArray) : Bool := s.size == 0 || (decide ((cutB s).length ≤ 4) && (cutB s).all nameOk)
theorem splitB_bs (k : Nat) (s : ByteArray) : Lib.splitB ⟨#[47]⟩ 0 k s = (Lib.splitK [47] 0 k s.data.toList).map bsOf := by
  have h := Lib.splitB_data ⟨#[47]⟩ 0 k s
  rw [show (⟨#[47]⟩ : ByteArray).data.toList = [47] from rfl] at h
  rw [← h, List.map_map]
  conv => lhs; rw [← List.map_id (Lib.splitB ⟨#[47]⟩ 0 k s)]
  apply List.map_congr_left
  intro x _
  exact (bsOf_data x).symm
/-- SplitN's pieces, where they are few: all of them. -/
theorem split_few (s : ByteArray) (h : (Lib.splitB ⟨#[47]⟩ 0 (min 5 (s.size + 1) - 1) s).length ≤ 4) : Lib.splitB ⟨#[47]⟩ 0 (min 5 (s.size + 1) - 1) s = cutB s := by
  rw [splitB_bs] at h ⊢
  unfold cutB
  rw [List.length_map] at h
  have hle := Sc.cutL_le s.data.toList
  have hsz : s.data.toList.length = s.size := Array.length_toList
  by_cases hc : (Sc.cutL s.data.toList).length ≤ min 5 (s.size + 1) - 1 + 1
  · rw [Sc.splitK_cut _ _ hc]
  · have := Sc.splitK_len (min 5 (s.size + 1) - 1) s.data.toList (by omega)
    omega
theorem split_many (s : ByteArray) (h : 4 < (Lib.splitB ⟨#[47]⟩ 0 (min 5 (s.size + 1) - 1) s).length) : 4 < (cutB s).length := by
  rw [splitB_bs, List.length_map] at h
  unfold cutB
  rw [List.length_map]
  have hle := Sc.cutL_le s.data.toList
  have hsz : s.data.toList.length = s.size := Array.length_toList
  by_cases hc : (Sc.cutL s.data.toList).length ≤ min 5 (s.size + 1) - 1 + 1
  · rw [Sc.splitK_cut _ _ hc] at h; exact h
  · omega
theorem cellsOf_get (P : List ByteArray) (N j : Nat) (h : j < P.length) : (Lib.cellsOf P N)[j]? = some (.string P[j]!) := by
  unfold Lib.cellsOf
  rw [List.getElem?_toArray, List.getElem?_append_left (by simpa using h), List.getElem?_map, List.getElem?_eq_getElem h, getElem!_pos P j h]; rfl
theorem all_take_succ (P : List ByteArray) (f : ByteArray → Bool) (j : Nat) (hj : j < P.length) (h : (P.take j).all f = true) (hf : f P[j]! = true) : (P.take (j + 1)).all f = true := by
  rw [List.take_add_one, List.getElem?_eq_getElem hj, List.all_append, h, ← getElem!_pos P j hj]; simpa using hf
theorem all_false_at (P : List ByteArray) (f : ByteArray → Bool) (j : Nat) (hj : j < P.length) (hf : f P[j]! = false) : P.all f = false := by
  cases h : P.all f
  · rfl
  · rw [List.all_eq_true] at h
    have := h P[j]! (by rw [getElem!_pos P j hj]; exact List.getElem_mem hj)
    rw [hf] at this; cases this

set_option maxHeartbeats 1000000 in
theorem scright_c (s : ByteArray) (w : World) (hs : s.size ≤ 3000) (hm : ∃ m, w.cell? ⟨0, 0, none⟩ = some (.int .i64 m)) :
    Calls Tryd.prog 14 #[.string s] w fun e w' => e = .returned (.bool (scopeOk s)) ∧ Below w.heap.size w w' := by
  by_cases h0 : s.size = 0
  · have : s = ⟨#[]⟩ := by
      cases s with | mk d => simp [ByteArray.size] at h0; rw [h0]
    subst this
    have hk : scopeOk ⟨#[]⟩ = true := rfl
    rw [hk]
    clear hk hs hm h0
    go_enter Tryd.func14, Tryd.ntmps14
    go_wp2
    go_ret
    exact ⟨rfl, Below.refl _ _⟩
  have hne : ¬ s.toList = [] := fun e => h0 (by rw [bytes_toList] at e; have := congrArg List.length e; simpa using this)
  have hne2 : s.toList.isEmpty = false := by simpa using hne
  obtain ⟨m, hm⟩ := hm
  have hc := Tryd.strings_SplitN s ⟨#[47]⟩ 5 m w (by omega) hm (by decide) (by decide) (by decide)
  obtain ⟨P, hP⟩ : ∃ P, P = Lib.splitB ⟨#[47]⟩ 0 (min 5 (s.size + 1) - 1) s := ⟨_, rfl⟩
  obtain ⟨N, hN⟩ : ∃ N, N = min 5 (s.size + 1) := ⟨_, rfl⟩
  rw [← hP, ← hN] at hc
  have HC := Lib.hid hc
  have hsz : (s.size == 0) = false := by simpa using h0
  have HK : Aside (4 < P.length → scopeOk s = false) := fun h => by
    unfold scopeOk
    rw [hsz, decide_eq_false (Nat.not_le.2 (split_many s (by rw [← hP]; exact h)))]; rfl
  have HK2 : Aside (¬ 4 < P.length → scopeOk s = P.all nameOk) := fun h => by
    have e := split_few s (by rw [← hP]; omega)
    rw [← hP] at e
    unfold scopeOk
    rw [hsz, ← e, decide_eq_true (Nat.not_lt.1 h)]; rfl
  have HP5 : P.length ≤ 5 := by
    have := Lib.splitB_length_le ⟨#[47]⟩ 0 (min 5 (s.size + 1) - 1) s
    rw [← hP] at this; omega
  clear hc hP hN hm hsz h0 hs
  generalize scopeOk s = R at *
  go_enter Tryd.func14, Tryd.ntmps14
  go_wp2_with fail
  refine HC.out.mono ?_
  rintro e w1 ⟨rfl, hw1⟩
  have HB : Aside (Below w.heap.size w w1) := by rw [hw1]; exact (Below.refl _ _).alloc (Nat.le_refl _) _
  have HCell : Aside (∀ j, j < P.length → w1.cell? ⟨w.heap.size, j, none⟩ = some (.string P[j]!)) := fun j hj => by
    rw [hw1, World.cell?_alloc_new]; exact cellsOf_get P N j hj
  clear hw1 HC
  by_cases h4 : 4 < P.length
  · have h4' : (4 : Int) < (P.length : Int) := by omega
    have hr := HK.out h4
    subst hr
    go_wp2_with fail
    go_ret
    exact ⟨rfl, HB.out⟩
  · have h4' : (P.length : Int) ≤ 4 := by omega
    have h4d : decide ((4 : Int) < (P.length : Int)) = false := by simp; omega
    have HR := Lib.hid (HK2.out h4)
    clear h4 HK HK2
    obtain ⟨L, hL⟩ : ∃ L, L = P.length := ⟨_, rfl⟩
    have HL := Lib.hid hL
    rw [← hL] at HCell h4' h4d HP5 ⊢
    clear hL
    go_wp2_with fail
    go_loop [15] (fun k => ∃ j : Nat, j ≤ L ∧ k = .int .i64 j ∧ Aside ((P.take j).all nameOk = true)) (fun k => L - (RowKit.intOf k).toNat)
    case atStart => exact ⟨0, Nat.zero_le _, rfl, by simp [Aside]⟩
    case round =>
      obtain ⟨j, hj, rfl, hall⟩ := hrel
      by_cases hlt : j < L
      · have hcell := HCell.out j hlt
        have hjz : (j : Int) < (L : Int) := by omega
        obtain ⟨p, hp⟩ : ∃ p, p = P[j]! := ⟨_, rfl⟩
        rw [← hp] at hcell
        have HP := Lib.hid hp
        clear hp
        have hn := name_c p
        cases hk : nameOk p
        · rw [hk] at hn
          have HNm := Lib.hid hn
          have HX : Hid (R = false) := Lib.hid (by rw [HR.out]; exact all_false_at P nameOk j (by rw [← HL.out]; exact hlt) (by rw [← HP.out]; exact hk))
          clear hn hk
          go_wp2_with fail
          refine (HNm.out _).mono ?_
          rintro e w' ⟨rfl, rfl⟩
          go_wp2_with fail
          go_ret
          exact ⟨by rw [HX.out]; rfl, HB.out⟩
        · rw [hk] at hn
          have HNm := Lib.hid hn
          have HX : Hid ((P.take (j + 1)).all nameOk = true) := Lib.hid (all_take_succ P nameOk j (by rw [← HL.out]; exact hlt) hall.out (by rw [← HP.out]; exact hk))
          clear hn hk
          go_wp2_with fail
          refine (HNm.out _).mono ?_
          rintro e w' ⟨rfl, rfl⟩
          go_wp2_with fail
          go_round
          case rel => exact ⟨j + 1, by omega, by go_num, HX.out⟩
          case measure => simp only [RowKit.intOf]; omega
      · obtain rfl : j = L := by omega
        have HX : Hid (R = true) := Lib.hid (by rw [HR.out, ← hall.out, HL.out, List.take_length])
        clear hlt
        go_wp2_with fail
        go_ret
        exact ⟨by rw [HX.out]; rfl, HB.out⟩
end Go.Proofs.YtjnfbinomljocaaDoor

/- Filters, plainly: when an event does, when one covers another one; what follows. -/
namespace Go.Proofs.YtjnfbinomljocaaDoor
open Go.RowKit Go.Shelf
open Go.Proofs
set_option maxRecDepth 100000

def OpsB (cs : List Cn) : Prop := ∀ c ∈ cs, OpB c
/-- Does an event in scope es, of attributes l, do for a filter of scope fs, of conditions cs? -/
def matchF (fs : ByteArray) (cs : List Cn) (es : ByteArray) (l : List At) : Bool := underB es fs && cs.all fun c => matchB c l
def voidF (cs : List Cn) : Bool := cs.any cvoidB
def impliedF (ds : List Cn) (c : Cn) : Bool := ds.any fun a => impliesB a c
def coversF (fs : ByteArray) (cs : List Cn) (gs : ByteArray) (ds : List Cn) : Bool := voidF ds || (underB gs fs && cs.all fun c => impliedF ds c)
def rightF (fs : ByteArray) (cs : List Cn) : Bool := decide (cs.length ≤ 6) && (scopeOk fs && cs.all crightB)

theorem opB_right {c : Cn} (h : crightB c = true) : OpB c := by
  unfold crightB at h
  simp only [Bool.and_eq_true, decide_eq_true_eq] at h
  exact ⟨h.2.1.1, by omega⟩
theorem rightF_ops {fs : ByteArray} {cs : List Cn} (h : rightF fs cs = true) : OpsB cs := fun c hc => by
  unfold rightF at h
  simp only [Bool.and_eq_true, List.all_eq_true] at h
  exact opB_right (h.2.2 c hc)
theorem rightF_len {fs : ByteArray} {cs : List Cn} (h : rightF fs cs = true) : cs.length ≤ 6 := by
  unfold rightF at h
  simp only [Bool.and_eq_true, decide_eq_true_eq] at h
  exact h.1
theorem under_trans {a b c : ByteArray} (h : underB a b = true) (h2 : underB b c = true) : underB a c = true := Sc.underL_trans h h2
theorem under_refl (a : ByteArray) : underB a a = true := Sc.underL_refl _

theorem void_match {c : Cn} (h : cvoidB c = true) (l : List At) : matchB c l = false := by
  rw [Bool.eq_false_iff]
  intro hm
  obtain ⟨a, _, ha⟩ := List.any_eq_true.1 hm
  unfold mat1 at ha
  rw [void_no a h] at ha
  simp at ha
theorem voidF_match {cs : List Cn} (h : voidF cs = true) (fs es : ByteArray) (l : List At) : matchF fs cs es l = false := by
  obtain ⟨c, hc, hv⟩ := List.any_eq_true.1 h
  unfold matchF
  rw [Bool.and_eq_false_iff]
  refine Or.inr ?_
  rw [List.all_eq_false]
  exact ⟨c, hc, by rw [void_match hv]; simp⟩
theorem implies_match {a b : Cn} (ha : OpB a) (hb : OpB b) (h : impliesB a b = true) {l : List At} (hm : matchB a l = true) : matchB b l = true := by
  obtain ⟨v, hv, h1⟩ := List.any_eq_true.1 hm
  unfold mat1 at h1
  simp only [Bool.and_eq_true, beq_iff_eq] at h1
  refine List.any_eq_true.2 ⟨v, hv, ?_⟩
  unfold mat1
  rw [implies_sound v ha hb h h1.2, h1.1, ((impliesB_iff a b).1 h).1]
  simp
/-- Whatever event the one has, one that covers it has. -/
theorem covers_match {fs gs es : ByteArray} {cs ds : List Cn} {l : List At} (hc : OpsB cs) (hd : OpsB ds) (h : coversF fs cs gs ds = true) (hm : matchF gs ds es l = true) : matchF fs cs es l = true := by
  unfold coversF at h
  cases hv : voidF ds
  · rw [hv, Bool.false_or, Bool.and_eq_true, List.all_eq_true] at h
    unfold matchF at hm ⊢
    rw [Bool.and_eq_true, List.all_eq_true] at hm ⊢
    refine ⟨under_trans hm.1 h.1, fun c hcc => ?_⟩
    obtain ⟨a, ha, hi⟩ := List.any_eq_true.1 (h.2 c hcc)
    exact implies_match (hd a ha) (hc c hcc) hi (hm.2 a ha)
  · rw [voidF_match hv] at hm; cases hm
theorem covers_self {fs : ByteArray} {cs : List Cn} (hc : OpsB cs) : coversF fs cs fs cs = true := by
  unfold coversF
  rw [under_refl, Bool.true_and, Bool.or_eq_true]
  refine Or.inr ?_
  rw [List.all_eq_true]
  exact fun c h => List.any_eq_true.2 ⟨c, h, implies_self (hc c h)⟩
/-- What implies a void one is void, or it is Has's. -/
theorem implies_void_of {a b : Cn} (h : impliesB a b = true) (hv : cvoidB b = true) : cvoidB a = true := by
  rcases ((impliesB_iff a b).1 h).2 with h1 | h1 | h1
  · exact h1
  · unfold cvoidB at hv; rw [h1] at hv; simp at hv
  · rw [hv] at h1; simp at h1
theorem covers_void {fs gs : ByteArray} {cs ds : List Cn} (h : coversF fs cs gs ds = true) (hv : voidF cs = true) : voidF ds = true := by
  unfold coversF at h
  rw [Bool.or_eq_true] at h
  rcases h with h | h
  · exact h
  · rw [Bool.and_eq_true, List.all_eq_true] at h
    obtain ⟨c, hc, hcv⟩ := List.any_eq_true.1 hv
    obtain ⟨a, ha, hi⟩ := List.any_eq_true.1 (h.2 c hc)
    exact List.any_eq_true.2 ⟨a, ha, implies_void_of hi hcv⟩
theorem covers_trans {fs gs hs : ByteArray} {cs ds es : List Cn} (hc : OpsB cs) (hd : OpsB ds) (he : OpsB es) (h : coversF fs cs gs ds = true) (h2 : coversF gs ds hs es = true) : coversF fs cs hs es = true := by
  cases hv : voidF es
  · have hv2 : voidF ds = false := by
      rw [Bool.eq_false_iff]; intro hh
      rw [covers_void h2 hh] at hv; cases hv
    unfold coversF at *
    rw [hv] at h2 ⊢
    rw [hv2] at h
    simp only [Bool.false_or, Bool.and_eq_true, List.all_eq_true] at *
    refine ⟨under_trans h2.1 h.1, fun c hcc => ?_⟩
    obtain ⟨a, ha, hi⟩ := List.any_eq_true.1 (h.2 c hcc)
    obtain ⟨b, hb, hj⟩ := List.any_eq_true.1 (h2.2 a ha)
    exact List.any_eq_true.2 ⟨b, hb, implies_trans (he b hb) (hd a ha) (hc c hcc) hj hi⟩
  · unfold coversF; rw [hv]; rfl
theorem covers_both {fs gs es : ByteArray} {cs ds : List Cn} {l : List At} (hc : OpsB cs) (hd : OpsB ds) (h : coversF fs cs gs ds = true) (h2 : coversF gs ds fs cs = true) : matchF fs cs es l = matchF gs ds es l := by
  rw [Bool.eq_iff_iff]
  exact ⟨covers_match hd hc h2, covers_match hc hd h⟩
theorem match_more {fs es : ByteArray} {cs : List Cn} {l m : List At} (hs : ∀ a ∈ l, a ∈ m) (h : matchF fs cs es l = true) : matchF fs cs es m = true := by
  unfold matchF at *
  simp only [Bool.and_eq_true, List.all_eq_true] at *
  refine ⟨h.1, fun c hc => ?_⟩
  obtain ⟨a, ha, h1⟩ := List.any_eq_true.1 (h.2 c hc)
  exact List.any_eq_true.2 ⟨a, hs a ha, h1⟩
theorem rightF_all {fs : ByteArray} {cs : List Cn} (h : rightF fs cs = true) : ∀ c ∈ cs, crightB c = true := by
  unfold rightF at h
  simp only [Bool.and_eq_true, List.all_eq_true] at h
  exact h.2.2
end Go.Proofs.YtjnfbinomljocaaDoor

/- Fields of what comes in as an argument; a value among them. -/
namespace Go.Proofs.YtjnfbinomljocaaDoor
open Go.ChangeShapes Go.WideShapes Go.ChangeAt Go.RowKit Go.Joins Go.Deep
set_option maxRecDepth 100000

section
variable {H : Type} {enc : TypeId × Value → H} {P : Program} {w : World} {base : Nat} {spare : Nat → Bool} {held : Bool} {fuel : Nat} {t : TypeId} {cs : List Value} {x : DataW H × List MemPlace}
theorem trod_float_wf {k : FloatKind} (ht : P.underlying t = some (.float k)) (h : DataW.trod enc P w base spare held fuel t cs = some x) : ∃ n, cs = [.float k n] ∧ (Lit.float k n).wf = true := by
  cases fuel with
  | zero => simp [DataW.trod] at h
  | succ n =>
    unfold DataW.trod at h
    rw [ht] at h
    split at h <;> simp_all

/-- One field's reading, by its own cell. -/
theorem one_field {fs : Array Field} {xs : List (DataW H × List MemPlace)} {n : Nat} (hxl : xs.length = fs.size)
    (hall : ∀ (i : Nat) (f : Field), fs[i]? = some f → DataW.trod enc P w base spare held n f.type ((cs.drop f.offset).take (P.cellsOf f.type)) = xs[i]?)
    (i : Nat) (f : Field) (hf : fs[i]? = some f) (u : TypeId) (o : Nat) (hu : f.type = u) (ho : f.offset = o) (hc : P.cellsOf u = 1) : ∃ b, DataW.trod enc P w base spare held n u ((cs.drop o).take 1) = some b := by
  subst hu ho
  rw [← hc]
  have hi : i < fs.size := (Array.getElem?_eq_some_iff.1 hf).1
  exact ⟨xs[i]'(by omega), by rw [hall i f hf, List.getElem?_eq_getElem (by omega)]⟩
theorem cell_of_take {o : Nat} {v : Value} (h : (cs.drop o).take 1 = [v]) : cs[o]? = some v := by
  have := congrArg (·[0]?) h
  simpa [List.getElem?_take, List.getElem?_drop] using this
end
theorem add_flat (a : Addr) (h : a.spot = none) (k : Nat) : a.add k = ⟨a.block, a.off + k, none⟩ := by
  obtain ⟨b, o, s⟩ := a
  simp only at h
  subst h
  unfold Addr.add
  by_cases h0 : k = 0
  · subst h0; simp
  · simp [h0]


section
variable {H : Type} {enc : TypeId × Value → H} {w : World} {base b0 : Nat} {r : Reach} {sp : Nat → Bool} {held : Bool}
theorem open_val_csn {fuel : Nat} {cs : List Value} {x : DataW H × List MemPlace} (hf : DataW.trod enc Tryd.prog w base sp held fuel 49 cs = some x) :
    ∃ (k n : Int) (x : Nat) (s : ByteArray) (y : Bool), cs = [.int .i64 k, .int .i64 n, .float .f64 x, .string s, .bool y] ∧ (Lit.float .f64 x).wf = true ∧ s.size ≤ maxLen ∧ (Lit.int .i64 n).wf = true := by
  obtain ⟨xs, m, _, hx, hl, hxl, hall⟩ := DataW.trod_struct Tryd.underlying49 hf
  have c24 : Tryd.prog.cellsOf 49 = 5 := by kernel_rfl
  have ci : Tryd.prog.cellsOf 3 = 1 := by kernel_rfl
  have cj : Tryd.prog.cellsOf 2 = 1 := by kernel_rfl
  have cf : Tryd.prog.cellsOf 47 = 1 := by kernel_rfl
  have cg : Tryd.prog.cellsOf 9 = 1 := by kernel_rfl
  have cb : Tryd.prog.cellsOf 4 = 1 := by kernel_rfl
  obtain ⟨b, e⟩ := one_field hxl hall 0 _ rfl 3 0 rfl rfl ci
  obtain ⟨b1, e1⟩ := one_field hxl hall 1 _ rfl 2 1 rfl rfl cj
  obtain ⟨b2, e2⟩ := one_field hxl hall 2 _ rfl 47 2 rfl rfl cf
  obtain ⟨b3, e3⟩ := one_field hxl hall 3 _ rfl 9 3 rfl rfl cg
  obtain ⟨b4, e4⟩ := one_field hxl hall 4 _ rfl 4 4 rfl rfl cb
  obtain ⟨k, g0, _, _⟩ := DataW.trod_int Tryd.underlying3 e
  obtain ⟨n, g1, _, wn⟩ := DataW.trod_int Tryd.underlying2 e1
  obtain ⟨x, g2, w2⟩ := trod_float_wf Tryd.underlying47 e2
  obtain ⟨s, g3, _, w3⟩ := DataW.trod_string Tryd.underlying9 e3
  obtain ⟨y, g4, _⟩ := DataW.trod_bool Tryd.underlying4 e4
  have h0 := cell_of_take g0
  have h1 := cell_of_take g1
  have h2 := cell_of_take g2
  have h3 := cell_of_take g3
  have h4 := cell_of_take g4
  refine ⟨k, n, x, s, y, ?_, w2, w3, wn⟩
  match cs, hl.trans c24, h0, h1, h2, h3, h4 with
  | [v0, v1, v2, v3, v4], _, h0, h1, h2, h3, h4 =>
    simp at h0 h1 h2 h3 h4
    subst h0 h1 h2 h3 h4
    rfl
end
end Go.Proofs.YtjnfbinomljocaaDoor

/- A condition that comes in as an argument: what it is as the program holds it. -/
namespace Go.Proofs.YtjnfbinomljocaaDoor
open Go.ChangeShapes Go.WideShapes Go.ChangeAt Go.RowKit Go.Joins Go.Deep
set_option maxRecDepth 100000

/-- What Go's own memory allows of a condition. -/
def CnOk (c : Cn) : Prop := AtOk c.a ∧ -9223372036854775808 ≤ c.a.n ∧ c.a.n ≤ 9223372036854775807
section
variable {H : Type} {enc : TypeId × Value → H} {w : World} {base b0 : Nat} {r : Reach} {sp : Nat → Bool} {held : Bool}
theorem open_cond_csz {fuel : Nat} {cs : List Value} {x : DataW H × List MemPlace} (hf : DataW.trod enc Tryd.prog w base sp held fuel 66 cs = some x) : ∃ a : Cn, cs = encC a ∧ CnOk a ∧ a.a.nm.size ≤ maxLen ∧ a.a.s.size ≤ maxLen := by
  obtain ⟨xs, m, _, hx, hl, hxl, hall⟩ := DataW.trod_struct Tryd.underlying66 hf
  have c33 : Tryd.prog.cellsOf 66 = 7 := by kernel_rfl
  have c24 : Tryd.prog.cellsOf 49 = 5 := by kernel_rfl
  have cg : Tryd.prog.cellsOf 9 = 1 := by kernel_rfl
  have ci : Tryd.prog.cellsOf 3 = 1 := by kernel_rfl
  obtain ⟨b, e⟩ := one_field hxl hall 0 _ rfl 9 0 rfl rfl cg
  obtain ⟨nm, g0, _, w0⟩ := DataW.trod_string Tryd.underlying9 e
  have h0 := cell_of_take g0
  obtain ⟨b1, e1⟩ := one_field hxl hall 1 _ rfl 3 1 rfl rfl ci
  obtain ⟨op, g1, _, _⟩ := DataW.trod_int Tryd.underlying3 e1
  have h1 := cell_of_take g1
  have h2 := hall 2 _ rfl
  have hsz : xs.length = 3 := hxl
  rw [List.getElem?_eq_getElem (by omega)] at h2
  obtain ⟨k, n, x, s, y, hcs, wx, ws, wn⟩ := open_val_csn h2
  refine ⟨⟨⟨nm, k, n, x, s, y⟩, op⟩, ?_, ⟨?_, bounds_i64 wn⟩, w0, ws⟩
  · have hcs2 : (cs.drop 2).take 5 = [.int .i64 k, .int .i64 n, .float .f64 x, .string s, .bool y] := by
      rw [← c24]; exact hcs
    match cs, hl.trans c33, h0, h1, hcs2 with
    | [v0, v1, v2, v3, v4, v5, v6], _, h0, h1, hcs2 =>
      simp at h0 h1 hcs2
      obtain ⟨rfl, rfl, rfl, rfl, rfl⟩ := hcs2
      subst h0 h1
      rfl
  · show x < _
    simpa [Lit.wf] using wx


theorem open_cond {v : Value} {d : DataW H} {p : List MemPlace} (hv : Value.okWide Tryd.prog w r b0 66 v) (h : DataW.Trod enc Tryd.prog w base sp held 66 v d p) :
    ∃ (nm : ByteArray) (op k n : Int) (x : Nat) (s : ByteArray) (y : Bool), v = cnd nm op k n x s y ∧ x < 18446744073709551616 ∧ (-9223372036854775808 ≤ n ∧ n ≤ 9223372036854775807) ∧ nm.size ≤ maxLen ∧ s.size ≤ maxLen := by
  obtain ⟨cs, rfl, hsz⟩ := okWide_struct Tryd.underlying66 hv
  obtain ⟨fuel, hf⟩ := h
  obtain ⟨⟨⟨nm, k, n, x, s, y⟩, op⟩, hcs, ⟨hx, hn⟩, h1, h2⟩ := open_cond_csz hf
  refine ⟨nm, op, k, n, x, s, y, ?_, hx, hn, h1, h2⟩
  obtain ⟨l⟩ := cs
  have : l = encC ⟨⟨nm, k, n, x, s, y⟩, op⟩ := hcs
  subst this
  rfl
end
end Go.Proofs.YtjnfbinomljocaaDoor

/- cond.Canon of any condition. -/
namespace Go.Proofs.YtjnfbinomljocaaDoor
open Go.RowKit Go.Shelf
open Go.Proofs
set_option maxRecDepth 100000

def cndC (c : Cn) : Value := cnd c.a.nm c.op c.a.k c.a.n c.a.x c.a.s c.a.y
/-- A condition's seven cells, set. -/
def set7 (W : World) (g : Nat) (c : Cn) : World := (((((((W.setCell ⟨g, 0, none⟩ (.string c.a.nm)).setCell ⟨g, 1, none⟩ (.int .i64 c.op)).setCell ⟨g, 2, none⟩ (.int .i64 c.a.k)).setCell ⟨g, 3, none⟩ (.int .i64 c.a.n)).setCell ⟨g, 4, none⟩ (.float .f64 c.a.x)).setCell ⟨g, 5, none⟩ (.string c.a.s)).setCell ⟨g, 6, none⟩ (.bool c.a.y))
theorem set7_at (W : World) (g : Nat) (c d : Cn) (h : ∀ i v, (encC d)[i]? = some v → W.cell? ⟨g, i, none⟩ = some v) (i : Nat) (v : Value) (hv : (encC c)[i]? = some v) : (set7 W g c).cell? ⟨g, i, none⟩ = some v := by
  have h0 := h 0 _ rfl; have h1 := h 1 _ rfl; have h2 := h 2 _ rfl; have h3 := h 3 _ rfl; have h4 := h 4 _ rfl; have h5 := h 5 _ rfl; have h6 := h 6 _ rfl
  have hc : i < 7 := by have := (List.getElem?_eq_some_iff.1 hv).1; rw [encC_len] at this; exact this
  have hsame : ∀ (X : World) (i : Nat) (u v : Value), X.cell? ⟨g, i, none⟩ = some u → (X.setCell ⟨g, i, none⟩ v).cell? ⟨g, i, none⟩ = some v := fun X i u v h => World.cell?_setCell_same X ⟨g, i, none⟩ v h
  clear h
  unfold set7
  rcases (show i = 0 ∨ i = 1 ∨ i = 2 ∨ i = 3 ∨ i = 4 ∨ i = 5 ∨ i = 6 by omega) with rfl | rfl | rfl | rfl | rfl | rfl | rfl
  · obtain rfl : _ = v := Option.some.inj hv
    rw [oth (by omega), oth (by omega), oth (by omega), oth (by omega), oth (by omega), oth (by omega)]; exact hsame _ _ _ _ h0
  · obtain rfl : _ = v := Option.some.inj hv
    rw [oth (by omega), oth (by omega), oth (by omega), oth (by omega), oth (by omega)]; exact hsame _ _ _ _ ((oth (by omega)).trans (h1))
  · obtain rfl : _ = v := Option.some.inj hv
    rw [oth (by omega), oth (by omega), oth (by omega), oth (by omega)]; exact hsame _ _ _ _ ((oth (by omega)).trans ((oth (by omega)).trans (h2)))
  · obtain rfl : _ = v := Option.some.inj hv
    rw [oth (by omega), oth (by omega), oth (by omega)]; exact hsame _ _ _ _ ((oth (by omega)).trans ((oth (by omega)).trans ((oth (by omega)).trans (h3))))
  · obtain rfl : _ = v := Option.some.inj hv
    rw [oth (by omega), oth (by omega)]; exact hsame _ _ _ _ ((oth (by omega)).trans ((oth (by omega)).trans ((oth (by omega)).trans ((oth (by omega)).trans (h4)))))
  · obtain rfl : _ = v := Option.some.inj hv
    rw [oth (by omega)]; exact hsame _ _ _ _ ((oth (by omega)).trans ((oth (by omega)).trans ((oth (by omega)).trans ((oth (by omega)).trans ((oth (by omega)).trans (h5))))))
  · obtain rfl : _ = v := Option.some.inj hv
    exact hsame _ _ _ _ ((oth (by omega)).trans ((oth (by omega)).trans ((oth (by omega)).trans ((oth (by omega)).trans ((oth (by omega)).trans ((oth (by omega)).trans (h6)))))))
theorem set7_below {n g : Nat} {A W : World} (c : Cn) (h : Below n A W) (hg : n ≤ g) : Below n A (set7 W g c) :=
  ((((((h.setCell (p := ⟨g, 0, none⟩) hg _).setCell (p := ⟨g, 1, none⟩) hg _).setCell (p := ⟨g, 2, none⟩) hg _).setCell (p := ⟨g, 3, none⟩) hg _).setCell (p := ⟨g, 4, none⟩) hg _).setCell (p := ⟨g, 5, none⟩) hg _).setCell (p := ⟨g, 6, none⟩) hg _
end Go.Proofs.YtjnfbinomljocaaDoor

/- filter.Match of any filter and any event. -/
namespace Go.Proofs.YtjnfbinomljocaaDoor
open Go.RowKit Go.Shelf
open Go.Proofs
set_option maxRecDepth 100000

theorem CondsB.on {w W : World} {co : Option Addr} {cs : List Cn} (h : CondsB w.heap.size w co cs) (hb : Below w.heap.size w W) : CondsB W.heap.size W co cs := by
  rcases h with h | ⟨b, off, h1, h2, h3⟩
  · exact Or.inl h
  · exact Or.inr ⟨b, off, h1, Nat.lt_of_lt_of_le h2 hb.size, RowC.below hb h2 h3⟩
abbrev fil (fs : ByteArray) (co : Option Addr) (n cap : Nat) : Value := .agg #[.string fs, .slice co n cap]
abbrev evt (es : ByteArray) (ao : Option Addr) (n cap : Nat) : Value := .agg #[.string es, .slice ao n cap]
theorem all_false_take {α : Type} [Inhabited α] (P : List α) (f : α → Bool) (j : Nat) (hj : j < P.length) (hf : f P[j]! = false) : P.all f = false := by
  rw [List.all_eq_false]
  refine ⟨P[j]!, ?_, by rw [hf]; exact Bool.false_ne_true⟩
  rw [getElem!_pos P j hj]; exact List.getElem_mem _
theorem all_take_snoc {α : Type} [Inhabited α] (P : List α) (f : α → Bool) (j : Nat) (hj : j < P.length) (h : (P.take j).all f = true) (hf : f P[j]! = true) : (P.take (j + 1)).all f = true := by
  rw [List.take_add_one, List.getElem?_eq_getElem hj, List.all_append, h]
  rw [getElem!_pos P j hj] at hf
  simp [hf]

end Go.Proofs.YtjnfbinomljocaaDoor
