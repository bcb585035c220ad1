/- ParseScopes: the blanks about a scope don't count. -/
import Derived.Test.YtljmlfeedleodaaGreatDoorPaG
namespace Go.Proofs.YtljmlfeedleodaaGreatDoor
open Go.RowKit Go.Shelf
open Go.Proofs
set_option maxRecDepth 100000

theorem trimR_cons (a : UInt8) (l : List UInt8) : Lib.trimRightB (a :: l) 32 = if Lib.trimRightB l 32 = [] then (if a == 32 then [] else [a]) else a :: Lib.trimRightB l 32 := by
  unfold Lib.trimRightB
  rw [List.reverse_cons, List.dropWhile_append]
  cases h : l.reverse.dropWhile (· == (32 : UInt8)) with
  | nil =>
    simp only [List.isEmpty_nil, if_true, List.reverse_nil]
    cases h2 : (a == (32 : UInt8)) <;> simp [List.dropWhile, h2]
  | cons b t => simp
theorem trim_comm : ∀ l : List UInt8, Lib.trimRightB (Lib.trimLeftB l 32) 32 = Lib.trimB l 32
  | [] => rfl
  | a :: l => by
    have IH := trim_comm l
    unfold Lib.trimB at IH ⊢
    rw [trimR_cons]
    cases h2 : (a == (32 : UInt8))
    · have e1 : Lib.trimLeftB (a :: l) 32 = a :: l := by unfold Lib.trimLeftB; simp only [List.dropWhile, h2]
      rw [e1, trimR_cons]
      split <;> simp [Lib.trimLeftB, List.dropWhile, h2]
    · have e1 : Lib.trimLeftB (a :: l) 32 = Lib.trimLeftB l 32 := by unfold Lib.trimLeftB; simp only [List.dropWhile, h2]
      rw [e1, IH]
      split
      · rename_i h; rw [h]; rfl
      · simp only [Lib.trimLeftB, List.dropWhile, h2]
theorem left_step {t : ByteArray} (h : 0 < t.size) (h2 : t[0] = 32) : Lib.trimLeftB (t.extract 1 t.size).data.toList 32 = Lib.trimLeftB t.data.toList 32 := by
  rw [Lib.extract_from]
  have hl : 0 < t.data.toList.length := by simpa using h
  have e : t.data.toList[0] = 32 := h2
  show Lib.trimLeftB (t.data.toList.drop 1) 32 = _
  generalize t.data.toList = l at *
  match l, hl, e with
  | a :: l, _, e =>
    have : a = 32 := e
    subst this; rfl
theorem left_stop1 {t : ByteArray} (h : 0 < t.size) (h2 : ¬ t[0] = 32) : Lib.trimLeftB t.data.toList 32 = t.data.toList := by
  have hl : 0 < t.data.toList.length := by simpa using h
  have e : ¬ t.data.toList[0] = 32 := h2
  generalize t.data.toList = l at *
  match l, hl, e with
  | a :: l, _, e =>
    have : (a == 32) = false := by simpa using e
    simp [Lib.trimLeftB, List.dropWhile, this]
theorem last_at {t : ByteArray} (h : 0 < t.size) : ∃ hl : t.data.toList ≠ [], t.data.toList.getLast hl = t[t.size - 1] ∧ t.data.toList.length = t.size := by
  have hsz : t.data.toList.length = t.size := Array.length_toList
  have hl : t.data.toList ≠ [] := fun e => by rw [e, List.length_nil] at hsz; omega
  refine ⟨hl, ?_, hsz⟩
  rw [List.getLast_eq_getElem]
  have e : t.data.toList[t.size - 1]'(by omega) = t[t.size - 1] := rfl
  rw [← e]
  congr 1
theorem right_step1 {t : ByteArray} (h : 0 < t.size) (h2 : t[t.size - 1] = 32) : Lib.trimRightB (t.extract 0 (t.size - 1)).data.toList 32 = Lib.trimRightB t.data.toList 32 := by
  rw [Lib.extract_upto]
  obtain ⟨hl, e2, hsz⟩ := last_at h
  rw [h2] at e2
  rw [← hsz]
  clear hsz h2 h
  generalize t.data.toList = l at *
  show Lib.trimRightB (l.take (l.length - 1)) 32 = _
  rw [← List.dropLast_eq_take]
  conv => rhs; rw [← List.dropLast_concat_getLast hl, e2]
  unfold Lib.trimRightB
  rw [List.reverse_append]; rfl
theorem right_stop1 {t : ByteArray} (h : 0 < t.size) (h2 : ¬ t[t.size - 1] = 32) : Lib.trimRightB t.data.toList 32 = t.data.toList := by
  obtain ⟨hl, e2, hsz⟩ := last_at h
  rw [← e2] at h2
  clear hsz e2 h
  generalize t.data.toList = l at *
  have e3 : (l.getLast hl == 32) = false := by simpa using h2
  conv => lhs; rw [← List.dropLast_concat_getLast hl]
  unfold Lib.trimRightB
  rw [List.reverse_append]
  have e4 : ([l.getLast hl].reverse ++ l.dropLast.reverse).dropWhile (· == (32 : UInt8)) = [l.getLast hl].reverse ++ l.dropLast.reverse := by simp [e3]
  rw [e4, ← List.reverse_append, List.reverse_reverse, List.dropLast_concat_getLast]
theorem index_colon : ∀ (l x : List UInt8), 58 ∉ l → Lib.indexByte (l ++ 58 :: x) 58 = l.length
  | [], x, _ => by simp [Lib.indexByte]
  | a :: l, x, h => by
    have := index_colon l x (fun hm => h (List.mem_cons_of_mem _ hm))
    have ha : ¬ a = 58 := fun e => h (by rw [e]; exact List.mem_cons_self)
    have ha2 : (a == 58) = false := by simpa using ha
    simp only [List.cons_append, Lib.indexByte, ha2, this]
    simp
theorem cb_colon (s : ByteArray) (x : List UInt8) (h : 58 ∉ s.data.toList) : cb (s ++ ⟨(58 :: x).toArray⟩) 58 = (s, ⟨x.toArray⟩, true) := by
  have e : (s ++ (⟨(58 :: x).toArray⟩ : ByteArray)).data.toList = s.data.toList ++ 58 :: x := by simp [ByteArray.data_append]
  have hi := index_colon s.data.toList x h
  unfold cb Lib.cut
  rw [e, Lib.index_one, hi]
  have h0 : (0 : Int) ≤ (s.data.toList.length : Int) := by omega
  simp only [h0, if_true]
  have e3 : ((s.data.toList.length : Int)).toNat = s.data.toList.length := by omega
  rw [e3, List.take_left]
  have e5 : (s.data.toList ++ 58 :: x).drop (s.data.toList.length + [(58 : UInt8)].length) = x := by rw [List.drop_append]; simp
  rw [e5]
/-- The text that is asked of every scope. -/
def askT : ByteArray := ⟨#[32, 104, 97, 115, 32, 97]⟩
def hasA : Cn := ⟨⟨⟨#[97]⟩, 0, 0, 0, ⟨#[]⟩, false⟩, 7⟩
def askS (j : Nat) : ByteArray := if j = 0 then ⟨#[104, 97, 115, 32, 97]⟩ else ⟨#[]⟩
theorem ask_trim : trimS askT = askS 0 := by decide +kernel
theorem ask_cut : ∀ j, j < 1 → cutP (askS j) = (askS 0, askS (j + 1), decide (j + 1 < 1)) := by decide +kernel
theorem ask_conds (w : World) (hm : MaxI w) : Calls Tryz.prog 12 #[.string (askS 0)] w (AskedR 1 [hasA] w) :=
  conditions_c 1 askS (fun _ => askS 0) (fun _ => hasA) (by omega) (by decide +kernel) (by decide +kernel) ask_cut w (fun _ _ W hW => condHas_c (askS 0) ⟨#[97]⟩ (by decide) (by decide +kernel) (by decide +kernel) (by decide +kernel) (by decide +kernel) (by decide +kernel) W (hm.below hW))
theorem right_has (ts : ByteArray) : rightF ts [hasA] = scopeOk ts := by
  have e : crightB hasA = true := by decide +kernel
  unfold rightF
  simp [e]
theorem right_nil (ts : ByteArray) : rightF ts [] = scopeOk ts := by
  unfold rightF
  simp
theorem ask_ok (s : ByteArray) (hs : s.size ≤ 200) (h : 58 ∉ s.data.toList) (hr : scopeOk (trimS s) = true) (hts : (trimS s).size ≤ 3000) (w : World) (hm : MaxI w) :
    Calls Tryz.prog 6 #[.string (s ++ ⟨#[58, 32, 104, 97, 115, 32, 97]⟩)] w (FilterR (trimS s) 1 [hasA] w) :=
  filter_ok _ s askT 1 [hasA] (by rw [ByteArray.size_append]; show s.size + 7 ≤ _; omega) (cb_colon s _ h) (by decide) (by omega) hts (by omega) rfl (by rw [right_has]; exact hr) w hm (fun W hW => by
    rw [ask_trim]
    exact ask_conds W (hm.below hW))
theorem ask_no (s : ByteArray) (hs : s.size ≤ 200) (h : 58 ∉ s.data.toList) (hr : scopeOk (trimS s) = false) (hts : (trimS s).size ≤ 3000) (w : World) (hm : MaxI w) :
    Calls Tryz.prog 6 #[.string (s ++ ⟨#[58, 32, 104, 97, 115, 32, 97]⟩)] w fun e w' => e = .returned (.tuple #[fil ⟨#[]⟩ none 0 0, .int .i64 1]) ∧ Below w.heap.size w w' :=
  filter_no _ s askT 1 [hasA] (by rw [ByteArray.size_append]; show s.size + 7 ≤ _; omega) (cb_colon s _ h) (by decide) (by omega) hts (by omega) rfl (by rw [right_has]; exact hr) w hm (fun W hW => by
    rw [ask_trim]
    exact ask_conds W (hm.below hW))
theorem rightT_c (t : ByteArray) (w : World) (hts : t.size ≤ 3000) (hm : MaxI w) : Calls Tryz.prog 7 #[fil t none 0 0] w fun e w' => e = .returned (.bool (scopeOk t)) ∧ Below w.heap.size w w' := by
  have := fright_c t none 0 [] w (Or.inl rfl) (by decide) hts hm
  rw [right_nil] at this
  exact this
theorem trimS_size (s : ByteArray) : (trimS s).size ≤ s.size := by
  unfold trimS Lib.trimB Lib.trimLeftB Lib.trimRightB
  show (List.toArray _).size ≤ _
  rw [List.size_toArray]
  refine Nat.le_trans (List.dropWhile_sublist _).length_le ?_
  rw [List.length_reverse]
  refine Nat.le_trans (List.dropWhile_sublist _).length_le ?_
  rw [List.length_reverse]
  exact Nat.le_of_eq Array.length_toList
end Go.Proofs.YtljmlfeedleodaaGreatDoor
