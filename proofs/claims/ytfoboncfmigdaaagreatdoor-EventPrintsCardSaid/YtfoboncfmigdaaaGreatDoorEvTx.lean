/- Events' texts, plainly: events that may be, in one scope, are the same just if they have one text. -/
import Derived.Test.YtfoboncfmigdaaaGreatDoorEvPr
import Derived.Test.YtfoboncfmigdaaaGreatDoorSameT
import Derived.Test.YtfoboncfmigdaaaGreatDoorGaQ
import Derived.Test.YtfoboncfmigdaaaGreatDoorGaP
import Derived.Lib.QuoteLoop
import Derived.Lib.ItoaLen
namespace Go.Proofs.YtfoboncfmigdaaaGreatDoor
open Go.RowKit Go.Shelf Go.Sort
open Go.Proofs
set_option maxRecDepth 100000

theorem printE_size (k n : Int) (x : Nat) (s : ByteArray) (y : Bool) (h0 : -9223372036854775808 ≤ n) (h1 : n ≤ 9223372036854775807) : (printT k n x s y).size ≤ 10 * s.size + 70 := by
  unfold printT
  split
  · have := Lib.itoa_length_le n h0 h1
    show (Lib.itoa n).toArray.size ≤ _
    simp; omega
  · split
    · have := (ftoaL_ok (fcanon x)).2
      show (numL x).toArray.size ≤ _
      unfold numL
      split
      · simp; omega
      · simp; omega
    · split
      · rw [strOfNums_size]
        have := Lib.quoteZ_length_le Lib.goPrintTabs s
        omega
      · split
        · show (3 : Nat) ≤ _; omega
        · show (2 : Nat) ≤ _; omega
theorem nameE_letters {s : ByteArray} (h : nameOk s = true) : (∀ b ∈ s.data.toList, (97 ≤ b.toNat ∧ b.toNat ≤ 122) ∨ (48 ≤ b.toNat ∧ b.toNat ≤ 57)) ∧ ∃ b l, s.data.toList = b :: l ∧ 97 ≤ b.toNat ∧ b.toNat ≤ 122 := by
  unfold nameOk at h
  simp only [Bool.and_eq_true, decide_eq_true_eq, List.all_eq_true] at h
  obtain ⟨⟨⟨h1, h2⟩, h3⟩, h4⟩ := h
  constructor
  · intro b hb
    obtain ⟨i, hi, rfl⟩ := List.getElem_of_mem hb
    have hi2 : i < s.size := by simpa using hi
    have h5 := h4 i (List.mem_range.2 hi2)
    unfold partB letB digB byt at h5
    rw [getElem!_pos s.data i hi2] at h5
    simp only [Bool.or_eq_true, Bool.and_eq_true, decide_eq_true_eq] at h5
    rw [Array.getElem_toList]
    omega
  · unfold letB byt at h3
    simp only [Bool.and_eq_true, decide_eq_true_eq] at h3
    have h1' : 0 < s.data.size := h1
    rw [getElem!_pos s.data 0 h1'] at h3
    cases hl : s.data.toList with
    | nil => have : s.data.toList.length = 0 := by rw [hl]; rfl
             rw [Array.length_toList] at this
             omega
    | cons b l =>
      have e : s.data[0] = b := by
        have : s.data.toList[0]'(by rw [hl]; exact Nat.zero_lt_succ _) = b := by simp [hl]
        rw [← this, Array.getElem_toList]
      rw [e] at h3
      exact ⟨b, l, rfl, by omega, by omega⟩
theorem canonE_kept {a b : At} (ha : 0 ≤ a.k ∧ a.k ≤ 3) (hn : a.nm = b.nm) (h : KeptE a.k a.n a.x a.s a.y b.k b.n b.x b.s b.y) : canonA a = canonA b := by
  obtain ⟨nm, k, n, x, s, y⟩ := a
  obtain ⟨nm2, k2, n2, x2, s2, y2⟩ := b
  have h0 := ha.1; have h3 := ha.2
  simp only at *
  obtain ⟨rfl, e0, e1, e2, e3⟩ := h
  subst hn
  rcases (show k = 0 ∨ k = 1 ∨ k = 2 ∨ k = 3 by omega) with rfl | rfl | rfl | rfl
  · rw [e0 rfl]; rfl
  · show (⟨nm, 1, 0, fcanon x, ⟨#[]⟩, false⟩ : At) = ⟨nm, 1, 0, fcanon x2, ⟨#[]⟩, false⟩
    rw [e1 rfl]
  · rw [e2 rfl]; rfl
  · rw [e3 rfl]; rfl
/-- An attribute of an event that may be. -/
structure EOk (a : At) : Prop where
  nm : nameOk a.nm = true
  kd : 0 ≤ a.k ∧ a.k ≤ 3
  sz : a.s.size ≤ 40
  x : a.x < 18446744073709551616
  n : -9223372036854775808 ≤ a.n ∧ a.n ≤ 9223372036854775807
  can : canonA a = a
theorem nameE_size {s : ByteArray} (h : nameOk s = true) : s.size ≤ 12 := by
  unfold nameOk at h
  simp only [Bool.and_eq_true, decide_eq_true_eq] at h
  exact h.1.1.2
theorem right_ok {l res : List At} (h : NewOf l res) (ho : ∀ a ∈ l, a.x < 18446744073709551616 ∧ -9223372036854775808 ≤ a.n ∧ a.n ≤ 9223372036854775807) (hr : rightE res = true) : ∀ a ∈ res, EOk a := fun a ha => by
  obtain ⟨z, hz, e⟩ := h.mem a ha
  obtain ⟨b1, b2, b3⟩ := canonA_bd z (ho z hz).1 (ho z hz).2.1 (ho z hz).2.2
  unfold rightE at hr
  simp only [Bool.and_eq_true, List.all_eq_true, List.mem_range] at hr
  obtain ⟨i, hi, e2⟩ := List.getElem_of_mem ha
  have hk := hr.2 i hi
  unfold okAt at hk
  rw [getElem!_pos res i hi, e2] at hk
  simp only [Bool.and_eq_true] at hk
  obtain ⟨⟨⟨_, h1⟩, h2⟩, _⟩ := hk
  unfold vrightB at h2
  simp only [Bool.and_eq_true, decide_eq_true_eq] at h2
  exact ⟨h1, ⟨h2.1.1, h2.1.2⟩, by omega, by rw [e]; exact b1, by rw [e]; exact ⟨b2, b3⟩, by rw [e]; exact canonA_idem z⟩
theorem TA_size {a : At} (h : EOk a) : (TA a).size ≤ 1000 := by
  have h1 := printE_size a.k a.n a.x a.s a.y h.n.1 h.n.2
  have h2 := nameE_size h.nm
  have h3 := h.sz
  have e1 : (⟨#[32]⟩ : ByteArray).size = 1 := rfl
  have e2 : (⟨#[61]⟩ : ByteArray).size = 1 := rfl
  unfold TA
  simp only [ByteArray.size_append]
  omega
def tailE : List At → List UInt8
  | [] => []
  | a :: l => 32 :: (a.nm.data.toList ++ 61 :: ((printT a.k a.n a.x a.s a.y).data.toList ++ tailE l))
theorem tailE_del (l : List At) : Del (tailE l) := by cases l; exact del_nil; exact del_cons _
theorem TA_data (a : At) : (TA a).data.toList = 32 :: (a.nm.data.toList ++ 61 :: (printT a.k a.n a.x a.s a.y).data.toList) := by
  unfold TA; simp
theorem tailE_snoc (a : At) : ∀ l : List At, tailE (l ++ [a]) = tailE l ++ (TA a).data.toList
  | [] => by rw [TA_data]; simp [tailE]
  | b :: l => by simp [tailE, tailE_snoc a l]
theorem accE_tail (sc : ByteArray) (l : List At) : ∀ j, j ≤ l.length → accE sc l j = [91] ++ sc.data.toList ++ [93] ++ tailE (l.take j)
  | 0, _ => by simp [accE, tailE]
  | j + 1, h => by
    rw [accE, accE_tail sc l j (by omega), take_succ l j (by omega), tailE_snoc, List.append_assoc]
theorem textE_tail (sc : ByteArray) (l : List At) : (textE sc l).data.toList = [91] ++ sc.data.toList ++ [93] ++ tailE l := by
  have := accE_tail sc l l.length (Nat.le_refl _)
  rw [List.take_length] at this
  unfold textE
  simpa using this
theorem tailE_inj : ∀ (l m : List At), (∀ a ∈ l, EOk a) → (∀ a ∈ m, EOk a) → tailE l = tailE m → l = m
  | [], [], _, _, _ => rfl
  | [], b :: m, _, _, h => by simp [tailE] at h
  | a :: l, [], _, _, h => by simp [tailE] at h
  | a :: l, b :: m, hl, hm, h => by
    have ka := hl a List.mem_cons_self
    have kb := hm b List.mem_cons_self
    unfold tailE at h
    injection h with _ h
    have h61 : ∀ (c : At), EOk c → ∀ x ∈ c.nm.data.toList, x ≠ 61 := fun c hc x hx e => by
      subst e
      rcases (nameE_letters hc.nm).1 _ hx with h | h <;> exact absurd h (by decide)
    have c1 := cutT_at 61 a.nm.data.toList ((printT a.k a.n a.x a.s a.y).data.toList ++ tailE l) (h61 a ka)
    have c2 := cutT_at 61 b.nm.data.toList ((printT b.k b.n b.x b.s b.y).data.toList ++ tailE m) (h61 b kb)
    rw [h, c2] at c1
    injection c1 with e1 e2
    have en : a.nm = b.nm := ByteArray.ext (Array.ext' e1.symm)
    obtain ⟨hk, ht⟩ := print_text _ _ _ _ _ _ _ _ _ _ _ _ ka.kd.1 ka.kd.2 kb.kd.1 kb.kd.2 ka.x kb.x (tailE_del l) (tailE_del m) e2.symm
    have ec := canonE_kept ka.kd en hk
    rw [ka.can, kb.can] at ec
    rw [ec, tailE_inj l m (fun x hx => hl x (List.mem_cons_of_mem _ hx)) (fun x hx => hm x (List.mem_cons_of_mem _ hx)) ht]
theorem sameA_eq {a b : At} (ka : EOk a) (kb : EOk b) : sameA a b = true ↔ a = b := by
  unfold sameA
  rw [Bool.and_eq_true, text_eq]
  unfold vsame
  rw [same_text a.k a.n a.x a.s a.y b.k b.n b.x b.s b.y ka.kd.1 ka.kd.2 kb.kd.1 kb.kd.2 ka.x kb.x, text_eq]
  constructor
  · rintro ⟨h1, h2⟩
    have hk := (print_text a.k a.n a.x a.s a.y b.k b.n b.x b.s b.y [] [] ka.kd.1 ka.kd.2 kb.kd.1 kb.kd.2 ka.x kb.x del_nil del_nil (by rw [h2])).1
    have ec := canonE_kept ka.kd h1 hk
    rwa [ka.can, kb.can] at ec
  · rintro rfl; exact ⟨rfl, rfl⟩
theorem sameL_eq {l m : List At} (hl : ∀ a ∈ l, EOk a) (hm : ∀ a ∈ m, EOk a) : sameL l m = true ↔ l = m := by
  unfold sameL
  simp only [Bool.and_eq_true, decide_eq_true_eq, List.all_eq_true, List.mem_range]
  constructor
  · rintro ⟨h1, h2⟩
    refine List.ext_getElem h1 fun i hi hj => ?_
    have := h2 i hi
    rw [getElem!_pos l i hi, getElem!_pos m i hj] at this
    exact (sameA_eq (hl _ (List.getElem_mem hi)) (hm _ (List.getElem_mem hj))).1 this
  · rintro rfl
    exact ⟨rfl, fun i hi => (sameA_eq (hl _ (memA l i hi)) (hl _ (memA l i hi))).2 rfl⟩
/-- Events that may be, in one scope: they are the same just if they have one text. -/
theorem texts_same (sc : ByteArray) {l m : List At} (hl : ∀ a ∈ l, EOk a) (hm : ∀ a ∈ m, EOk a) : ((textE sc l).toList == (textE sc m).toList) = (sc.toList == sc.toList && sameL l m) := by
  rw [Bool.eq_iff_iff, text_eq, Bool.and_eq_true, sameL_eq hl hm]
  constructor
  · intro h
    have h2 : [91] ++ sc.data.toList ++ [93] ++ tailE l = [91] ++ sc.data.toList ++ [93] ++ tailE m := by rw [← textE_tail, ← textE_tail, h]
    exact ⟨by simp, tailE_inj l m hl hm (List.append_cancel_left h2)⟩
  · rintro ⟨_, rfl⟩; rfl
end Go.Proofs.YtfoboncfmigdaaaGreatDoor
