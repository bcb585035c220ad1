/- A filter's conditions brought to their Norm, as a plain function, which hangs on what conditions there are alone; a filter's text tells its scope and conditions. -/
import Derived.Test.YtfffmndjgjfflaaGreatDoorFilCK
import Derived.Test.YtfffmndjgjfflaaGreatDoorValI
namespace Go.Proofs.YtfffmndjgjfflaaGreatDoor
open Go.RowKit Go.Shelf Go.Sort
open Go.Proofs
set_option maxRecDepth 100000

/-! ### Texts of conditions -/
/-- A condition that may be, its number a word. -/
def CRight (c : Cn) : Prop := crightB c = true ∧ c.a.x < 18446744073709551616
theorem app_data (a b : ByteArray) : (a ++ b).data.toList = a.data.toList ++ b.data.toList := by simp
theorem name_letters {s : ByteArray} (h : nameOk s = true) : (∀ b ∈ s.data.toList, (97 ≤ b.toNat ∧ b.toNat ≤ 122) ∨ (48 ≤ b.toNat ∧ b.toNat ≤ 57)) ∧ ∃ b l, s.data.toList = b :: l ∧ 97 ≤ b.toNat ∧ b.toNat ≤ 122 := by
  unfold nameOk at h
  simp only [Bool.and_eq_true, decide_eq_true_eq, List.all_eq_true] at h
  obtain ⟨⟨⟨h1, h2⟩, h3⟩, h4⟩ := h
  constructor
  · intro b hb
    obtain ⟨i, hi, rfl⟩ := List.getElem_of_mem hb
    have hi2 : i < s.size := by simpa using hi
    have h5 := h4 i (List.mem_range.2 hi2)
    unfold partB letB digB byt at h5
    rw [getElem!_pos s.data i hi2] at h5
    simp only [Bool.or_eq_true, Bool.and_eq_true, decide_eq_true_eq] at h5
    rw [Array.getElem_toList]
    omega
  · unfold letB byt at h3
    simp only [Bool.and_eq_true, decide_eq_true_eq] at h3
    have h1' : 0 < s.data.size := h1
    rw [getElem!_pos s.data 0 h1'] at h3
    cases hl : s.data.toList with
    | nil => have : s.data.toList.length = 0 := by rw [hl]; rfl
             rw [Array.length_toList] at this
             omega
    | cons b l =>
      have e : s.data[0] = b := by
        have : s.data.toList[0]'(by rw [hl]; exact Nat.zero_lt_succ _) = b := by simp [hl]
        rw [← this, Array.getElem_toList]
      rw [e] at h3
      exact ⟨b, l, rfl, by omega, by omega⟩
theorem name_blank {s : ByteArray} (h : nameOk s = true) : ∀ b ∈ s.data.toList, b ≠ 32 := fun b hb e => by
  subst e
  rcases (name_letters h).1 _ hb with h | h <;> exact absurd h (by decide)
def wordL (i : Nat) : List UInt8 := (wordS i).data.toList
theorem word_blank (i : Nat) (h : i < 8) : ∀ b ∈ wordL i, b ≠ 32 := by
  have : ∀ i : Fin 8, ∀ b ∈ wordL i.1, b ≠ 32 := by decide
  exact this ⟨i, h⟩
theorem word_head (i : Nat) (h : i < 7) : ∃ b l, wordL i = b :: l ∧ ¬ 97 ≤ b.toNat ∨ wordL i = b :: l ∧ b = 94 := by
  match i, h with
  | 0, _ => exact ⟨_, _, Or.inl ⟨rfl, by decide⟩⟩
  | 1, _ => exact ⟨_, _, Or.inl ⟨rfl, by decide⟩⟩
  | 2, _ => exact ⟨_, _, Or.inl ⟨rfl, by decide⟩⟩
  | 3, _ => exact ⟨_, _, Or.inl ⟨rfl, by decide⟩⟩
  | 4, _ => exact ⟨_, _, Or.inl ⟨rfl, by decide⟩⟩
  | 5, _ => exact ⟨_, _, Or.inl ⟨rfl, by decide⟩⟩
  | 6, _ => exact ⟨_, _, Or.inr ⟨rfl, rfl⟩⟩
theorem word_inj (i j : Nat) (hi : i < 8) (hj : j < 8) (h : wordL i = wordL j) : i = j := by
  have : ∀ i j : Fin 8, wordL i.1 = wordL j.1 → i.1 = j.1 := by decide
  exact this ⟨i, hi⟩ ⟨j, hj⟩ h
theorem keyX_has (c : Cn) (h : c.op = 7) : keyX c = wordL 7 ++ 32 :: c.a.nm.data.toList := by
  unfold keyX TX cprintS
  rw [h, if_pos (by decide), app_data, app_data, List.append_assoc]
  rfl
theorem keyX_op (c : Cn) (h : c.op.toNat ≠ 7) : keyX c = c.a.nm.data.toList ++ 32 :: (wordL c.op.toNat ++ 32 :: (printT c.a.k c.a.n c.a.x c.a.s c.a.y).data.toList) := by
  unfold keyX TX cprintS
  rw [if_neg h, app_data, app_data, app_data, app_data]
  simp only [List.append_assoc]
  rfl
theorem canonC_7 {c : Cn} (h : c.op = 7) : canonC c = ⟨⟨c.a.nm, 0, 0, 0, ⟨#[]⟩, false⟩, 7⟩ := by
  unfold canonC; rw [if_pos (by rw [h]; rfl), h]
theorem canonA_kept {a b : At} (ha : KindB a) (hn : a.nm = b.nm) (h : KeptE a.k a.n a.x a.s a.y b.k b.n b.x b.s b.y) : canonA a = canonA b := by
  obtain ⟨nm, k, n, x, s, y⟩ := a
  obtain ⟨nm2, k2, n2, x2, s2, y2⟩ := b
  have h0 := ha.1; have h3 := ha.2
  simp only at *
  obtain ⟨rfl, e0, e1, e2, e3⟩ := h
  subst hn
  rcases (show k = 0 ∨ k = 1 ∨ k = 2 ∨ k = 3 by omega) with rfl | rfl | rfl | rfl
  · rw [e0 rfl]; rfl
  · show (⟨nm, 1, 0, fcanon x, ⟨#[]⟩, false⟩ : At) = ⟨nm, 1, 0, fcanon x2, ⟨#[]⟩, false⟩
    rw [e1 rfl]
  · rw [e2 rfl]; rfl
  · rw [e3 rfl]; rfl
theorem cright_parts {c : Cn} (h : crightB c = true) : nameOk c.a.nm = true ∧ 0 ≤ c.op ∧ c.op < 8 := by
  unfold crightB at h
  simp only [Bool.and_eq_true, decide_eq_true_eq] at h
  exact ⟨h.1, h.2.1.1, h.2.1.2⟩
/-- A condition's text, with a blank behind it or nothing, tells the condition as it is kept, and what stands behind. -/
theorem cond_text (c d : Cn) (X Y : List UInt8) (hc : CRight c) (hd : CRight d) (hX : Del X) (hY : Del Y) (h : keyX c ++ X = keyX d ++ Y) : canonC c = canonC d ∧ X = Y := by
  obtain ⟨nc, c0, c8⟩ := cright_parts hc.1
  obtain ⟨nd, d0, d8⟩ := cright_parts hd.1
  have kc := right_kind hc.1
  have kd := right_kind hd.1
  have w7 := word_blank 7 (by decide)
  have bad : ∀ (c d : Cn) (X Y : List UInt8), nameOk c.a.nm = true → nameOk d.a.nm = true → c.op = 7 → d.op.toNat < 7 → Del X → keyX c ++ X = keyX d ++ Y → False := fun c d X Y nc nd h7 hd7 hX h => by
    rw [keyX_has c h7, keyX_op d (by omega), List.append_assoc, List.append_assoc, List.cons_append, List.cons_append] at h
    obtain ⟨_, h⟩ := word_split _ _ _ _ w7 (name_blank nd) (del_cons _) (del_cons _) h
    injection h with _ h
    rw [List.append_assoc, List.cons_append] at h
    obtain ⟨h, _⟩ := word_split _ _ _ _ (name_blank nc) (word_blank _ (by omega)) hX (del_cons _) h
    obtain ⟨b, l, hb⟩ := word_head d.op.toNat hd7
    obtain ⟨u, m, hu, hu1, hu2⟩ := (name_letters nc).2
    rcases hb with ⟨e, hb⟩ | ⟨e, hb⟩
    · rw [hu, e] at h
      injection h with h1 _
      subst h1
      omega
    · rw [hu, e] at h
      injection h with h1 _
      subst h1
      subst hb
      exact absurd hu1 (by decide)
  by_cases h7 : c.op = 7
  · by_cases g7 : d.op = 7
    · rw [keyX_has c h7, keyX_has d g7, List.append_assoc, List.append_assoc, List.cons_append, List.cons_append] at h
      have h := List.append_cancel_left h
      injection h with _ h
      obtain ⟨e, h⟩ := word_split _ _ _ _ (name_blank nc) (name_blank nd) hX hY h
      have en : c.a.nm = d.a.nm := ByteArray.ext (Array.ext' e)
      refine ⟨?_, h⟩
      rw [canonC_7 h7, canonC_7 g7, en]
    · exact absurd h (fun h => bad c d X Y nc nd h7 (by omega) hX h)
  · by_cases g7 : d.op = 7
    · exact absurd h.symm (fun h => bad d c Y X nd nc g7 (by omega) hY h)
    · rw [keyX_op c (by omega), keyX_op d (by omega), List.append_assoc, List.append_assoc, List.cons_append, List.cons_append] at h
      obtain ⟨e, h⟩ := word_split _ _ _ _ (name_blank nc) (name_blank nd) (del_cons _) (del_cons _) h
      have en : c.a.nm = d.a.nm := ByteArray.ext (Array.ext' e)
      injection h with _ h
      rw [List.append_assoc, List.append_assoc, List.cons_append, List.cons_append] at h
      obtain ⟨e2, h⟩ := word_split _ _ _ _ (word_blank _ (by omega)) (word_blank _ (by omega)) (del_cons _) (del_cons _) h
      have eo : c.op = d.op := by
        have := word_inj _ _ (by omega) (by omega) e2
        omega
      injection h with _ h
      obtain ⟨hk, h⟩ := print_text _ _ _ _ _ _ _ _ _ _ X Y kc.1 kc.2 kd.1 kd.2 hc.2 hd.2 hX hY h
      refine ⟨?_, h⟩
      rw [canonC_not7 h7, canonC_not7 g7, canonA_kept kc en hk, eo]
theorem key_inj {c d : Cn} (hc : CRight c) (hd : CRight d) (h : keyX c = keyX d) : canonC c = canonC d := (cond_text c d [] [] hc hd del_nil del_nil (by rw [h])).1
theorem canonC_idem (c : Cn) : canonC (canonC c) = canonC c := by
  by_cases h7 : c.op = 7
  · have e : canonC c = ⟨⟨c.a.nm, 0, 0, 0, ⟨#[]⟩, false⟩, c.op⟩ := by unfold canonC; rw [if_pos (by rw [h7]; rfl)]
    rw [e]
    unfold canonC
    rw [if_pos (by show (c.op == 7) = true; rw [h7]; rfl)]
  · rw [canonC_not7 h7, canonC_not7 (c := ⟨canonA c.a, c.op⟩) h7]
    rw [canonA_idem]
theorem canonC_right {c : Cn} (h : CRight c) : CRight (canonC c) := by
  refine ⟨canon_right h.1, ?_⟩
  unfold canonC
  split
  · show (0 : Nat) < _; decide
  · exact canon_x c.a h.2

/-! ### What a Norm hangs on -/
theorem rise_eq {key : Cn → List UInt8} : ∀ (l m : List Cn), l.Pairwise (fun a b => ltKey key a b = true) → m.Pairwise (fun a b => ltKey key a b = true) → (∀ c, c ∈ l ↔ c ∈ m) → l = m
  | [], [], _, _, _ => rfl
  | [], b :: m, _, _, h => absurd ((h b).2 List.mem_cons_self) (by simp)
  | a :: l, [], _, _, h => absurd ((h a).1 List.mem_cons_self) (by simp)
  | a :: l, b :: m, hl, hm, h => by
    obtain ⟨l1, l2⟩ := List.pairwise_cons.1 hl
    obtain ⟨m1, m2⟩ := List.pairwise_cons.1 hm
    have irr : ∀ x, ltKey key x x = false := fun x => (swo_key key).irrefl x
    have e : a = b := by
      rcases List.mem_cons.1 ((h a).1 List.mem_cons_self) with e | ha
      · exact e
      · rcases List.mem_cons.1 ((h b).2 List.mem_cons_self) with e | hb
        · exact e.symm
        · have := (swo_key key).trans _ _ _ (l1 b hb) (m1 a ha)
          rw [irr] at this; cases this
    subst e
    congr 1
    refine rise_eq l m l2 m2 fun c => ⟨fun hc => ?_, fun hc => ?_⟩
    · rcases List.mem_cons.1 ((h c).1 (List.mem_cons_of_mem _ hc)) with rfl | h2
      · have := l1 c hc; rw [irr] at this; cases this
      · exact h2
    · rcases List.mem_cons.1 ((h c).2 (List.mem_cons_of_mem _ hc)) with rfl | h2
      · have := m1 c hc; rw [irr] at this; cases this
      · exact h2
theorem at_mem {L : List Cn} {c : Cn} (h : c ∈ L) : ∃ i, i < L.length ∧ L[i]! = c := by
  obtain ⟨i, hi, e⟩ := List.getElem_of_mem h
  exact ⟨i, hi, by rw [getElem!_pos L i hi]; exact e⟩
/-- What is kept of a sorted list: by what there is alone. -/
structure SortX (L : List Cn) : Prop where
  le : ∀ i j, i < j → j < L.length → ltKey keyX L[j]! L[i]! = false
  ops : OpsB L
  inj : ∀ c ∈ L, ∀ d ∈ L, keyX c = keyX d → c = d
theorem SortX.lt {L : List Cn} (h : SortX L) {i j : Nat} (hij : i < j) (hj : j < L.length) (hne : L[i]! ≠ L[j]!) : ltKey keyX L[i]! L[j]! = true := by
  cases h2 : ltKey keyX L[i]! L[j]!
  · exact absurd (h.inj _ (memC L i (by omega)) _ (memC L j hj) (key_eq h2 (h.le i j hij hj))) hne
  · rfl
def KeepX (L : List Cn) (c : Cn) : Prop := ∀ d ∈ L, d ≠ c → impliesB d c = true → impliesB c d = true ∧ ltKey keyX c d = true
theorem kept_char {L : List Cn} (h : SortX L) (c : Cn) : c ∈ keptL L ↔ c ∈ L ∧ KeepX L c := by
  constructor
  · intro hc
    obtain ⟨i, hi, hs, rfl⟩ := keptL_mem hc
    refine ⟨memC L i hi, fun d hd hne himp => ?_⟩
    obtain ⟨k, hk, rfl⟩ := at_mem hd
    have hki : k ≠ i := fun e => hne (by rw [e])
    have hb : betterB L k i = false := by
      unfold spareB at hs
      rw [List.any_eq_false] at hs
      have := hs k (List.mem_range.2 hk)
      simpa using this
    have hnb : ¬ (k < i ∨ impliesB L[i]! L[k]! = false) := fun e => by
      rw [(better_iff L k i).2 ⟨hki, himp, e⟩] at hb; cases hb
    have h1 : ¬ k < i := fun e => hnb (Or.inl e)
    have h2 : impliesB L[i]! L[k]! = true := by
      cases e : impliesB L[i]! L[k]!
      · exact absurd (Or.inr e) hnb
      · rfl
    exact ⟨h2, h.lt (by omega) hk (fun e => hne e.symm)⟩
  · rintro ⟨hc, hk⟩
    -- the first place
    have hex : ∃ n, ∃ i, i ≤ n ∧ i < L.length ∧ L[i]! = c := by
      obtain ⟨i, hi, e⟩ := at_mem hc
      exact ⟨i, i, Nat.le_refl _, hi, e⟩
    have hfirst : ∀ n, (∃ i, i ≤ n ∧ i < L.length ∧ L[i]! = c) → ∃ i, i < L.length ∧ L[i]! = c ∧ ∀ k, k < i → L[k]! ≠ c := by
      intro n
      induction n using Nat.strongRecOn with
      | _ n ih =>
        rintro ⟨i, hin, hi, e⟩
        by_cases hk : ∃ k, k < i ∧ L[k]! = c
        · obtain ⟨k, h1, h2⟩ := hk
          exact ih k (by omega) ⟨k, Nat.le_refl _, by omega, h2⟩
        · exact ⟨i, hi, e, fun k h1 h2 => hk ⟨k, h1, h2⟩⟩
    obtain ⟨n, hn⟩ := hex
    obtain ⟨i, hi, rfl, hmin⟩ := hfirst n hn
    refine mem_keptL hi ?_
    unfold spareB
    rw [List.any_eq_false]
    intro k hkm hb
    have hkl := List.mem_range.1 hkm
    obtain ⟨h1, h2, h3⟩ := (better_iff L k i).1 hb
    by_cases he : L[k]! = L[i]!
    · rcases h3 with h3 | h3
      · exact hmin k h3 he
      · rw [he, implies_self (h.ops _ (memC L i hi))] at h3; cases h3
    · obtain ⟨g1, g2⟩ := hk _ (memC L k hkl) he h2
      rcases h3 with h3 | h3
      · rw [h.le k i h3 hi] at g2; cases g2
      · rw [g1] at h3; cases h3
theorem kept_rise {L : List Cn} (h : SortX L) : (keptL L).Pairwise (fun a b => ltKey keyX a b = true) := by
  unfold keptL keptN
  rw [List.pairwise_map]
  refine List.Pairwise.imp_of_mem ?_ (List.Pairwise.filter _ List.pairwise_lt_range)
  intro i j hi hj hij
  obtain ⟨hi1, hi2⟩ := List.mem_filter.1 hi
  obtain ⟨hj1, hj2⟩ := List.mem_filter.1 hj
  have hil := List.mem_range.1 hi1
  have hjl := List.mem_range.1 hj1
  refine h.lt hij hjl fun e => ?_
  have hb : betterB L i j = true := (better_iff L i j).2 ⟨by omega, by rw [e]; exact implies_self (h.ops _ (memC L j hjl)), Or.inl hij⟩
  have : spareB L j = true := List.any_eq_true.2 ⟨i, hi1, hb⟩
  rw [this] at hj2
  cases hj2
theorem kept_same {L M : List Cn} (h : SortX L) (k : SortX M) (hm : ∀ c, c ∈ L ↔ c ∈ M) : keptL L = keptL M := by
  refine rise_eq _ _ (kept_rise h) (kept_rise k) fun c => ?_
  rw [kept_char h, kept_char k, hm]
  unfold KeepX
  constructor
  · rintro ⟨a, b⟩; exact ⟨a, fun d hd => b d ((hm d).2 hd)⟩
  · rintro ⟨a, b⟩; exact ⟨a, fun d hd => b d ((hm d).1 hd)⟩
theorem sortX_of {cs L : List Cn} (h : Sorted (cs.map canonC).toArray L.toArray) (hr : ∀ c ∈ cs, CRight c) : SortX L := by
  obtain ⟨⟨n1, n2⟩, hlen⟩ := sorted_norm h
  have hR : ∀ c ∈ L, CRight c ∧ canonC c = c := fun c hc => by
    obtain ⟨d, hd, rfl⟩ := n1 c hc
    exact ⟨canonC_right (hr d hd), canonC_idem d⟩
  refine ⟨fun i j hij hj => ?_, fun c hc => opB_right (hR c hc).1.1, fun c hc d hd he => ?_⟩
  · have := h.sorted i j (Nat.zero_le _) hij (by simp; omega)
    simpa using this
  · have := key_inj (hR c hc).1 (hR d hd).1 he
    rwa [(hR c hc).2, (hR d hd).2] at this
theorem sorted_mem {cs L : List Cn} (h : Sorted (cs.map canonC).toArray L.toArray) (c : Cn) : c ∈ L ↔ c ∈ cs.map canonC := by
  obtain ⟨⟨n1, n2⟩, _⟩ := sorted_norm h
  constructor
  · intro hc
    obtain ⟨d, hd, rfl⟩ := n1 c hc
    exact List.mem_map.2 ⟨d, hd, rfl⟩
  · intro hc
    obtain ⟨d, hd, rfl⟩ := List.mem_map.1 hc
    exact n2 d hd
/-- A filter's conditions brought to their Norm. -/
def sortN (cs : List Cn) : List Cn := (insertionSort (ltKey keyX) (cs.map canonC).toArray 0 cs.length).toList
def normL (cs : List Cn) : List Cn := keptL (sortN cs)
theorem sortN_sorted (cs : List Cn) : Sorted (cs.map canonC).toArray (sortN cs).toArray := by
  obtain ⟨h1, h2⟩ := insertion_good keyX 0 cs.length (cs.map canonC).toArray (Nat.zero_le _) (by simp)
  unfold sortN
  have e : (cs.map canonC).toArray.size = cs.length := by simp
  exact ⟨by rw [e]; exact h1, by rw [e]; exact h2⟩
theorem norm_eq {cs L : List Cn} (h : Sorted (cs.map canonC).toArray L.toArray) (hr : ∀ c ∈ cs, CRight c) : keptL L = normL cs :=
  kept_same (sortX_of h hr) (sortX_of (sortN_sorted cs) hr) fun c => by rw [sorted_mem h, sorted_mem (sortN_sorted cs)]
theorem normL_same {cs ds : List Cn} (hc : ∀ c ∈ cs, CRight c) (hd : ∀ c ∈ ds, CRight c) (h : ∀ c, c ∈ cs.map canonC ↔ c ∈ ds.map canonC) : normL cs = normL ds :=
  kept_same (sortX_of (sortN_sorted cs) hc) (sortX_of (sortN_sorted ds) hd) fun c => by rw [sorted_mem (sortN_sorted cs), sorted_mem (sortN_sorted ds), h]
theorem normL_of (cs : List Cn) : NormOf cs (sortN cs) := (sorted_norm (sortN_sorted cs)).1
theorem normL_mem {cs : List Cn} (hr : ∀ c ∈ cs, CRight c) : ∀ c ∈ normL cs, CRight c ∧ canonC c = c := fun c hc => by
  obtain ⟨d, hd, rfl⟩ := (normL_of cs).1 c (keptL_sub hc)
  exact ⟨canonC_right (hr d hd), canonC_idem d⟩
theorem normL_len (cs : List Cn) : (normL cs).length ≤ cs.length := by
  have h1 := keptN_len (sortN cs) (sortN cs).length
  have h2 := (sorted_norm (sortN_sorted cs)).2
  show (keptN (sortN cs) (sortN cs).length).length ≤ _
  omega
theorem normL_rise {cs : List Cn} (hr : ∀ c ∈ cs, CRight c) : (normL cs).Pairwise (fun a b => ltKey keyX a b = true) := kept_rise (sortX_of (sortN_sorted cs) hr)
/-- What is kept is kept once more. -/
theorem normL_idem {cs : List Cn} (hr : ∀ c ∈ cs, CRight c) : normL (normL cs) = normL cs := by
  have hS := sortX_of (sortN_sorted cs) hr
  have hm := normL_mem hr
  have hT := sortX_of (sortN_sorted (normL cs)) fun c hc => (hm c hc).1
  have hid : (normL cs).map canonC = normL cs := by
    conv => rhs; rw [← List.map_id (normL cs)]
    exact List.map_congr_left fun c hc => (hm c hc).2
  have hmem : ∀ c, c ∈ sortN (normL cs) ↔ c ∈ normL cs := fun c => by rw [sorted_mem (sortN_sorted (normL cs)), hid]
  refine rise_eq _ _ (kept_rise hT) (kept_rise hS) fun c => ?_
  show c ∈ keptL (sortN (normL cs)) ↔ c ∈ normL cs
  rw [kept_char hT, hmem]
  constructor
  · exact fun h => h.1
  · intro hc
    refine ⟨hc, fun d hd => ?_⟩
    exact ((kept_char hS c).1 hc).2 d (keptL_sub ((hmem d).1 hd))
/-- None of those kept implies another one. -/
theorem normL_free {cs : List Cn} (hr : ∀ c ∈ cs, CRight c) {c d : Cn} (hc : c ∈ normL cs) (hd : d ∈ normL cs) (hne : d ≠ c) : impliesB d c = false := by
  have hS := sortX_of (sortN_sorted cs) hr
  cases h : impliesB d c
  · rfl
  · have k1 := (kept_char hS c).1 hc
    have k2 := (kept_char hS d).1 hd
    obtain ⟨h1, h2⟩ := k1.2 d k2.1 hne h
    obtain ⟨h3, h4⟩ := k2.2 c k1.1 (Ne.symm hne) h1
    have := (swo_key keyX).trans _ _ _ h2 h4
    rw [(swo_key keyX).irrefl] at this
    cases this
theorem void_implied {c d : Cn} (hc : cvoidB c = true) (h : impliesB d c = true) : cvoidB d = true := by
  obtain ⟨_, h⟩ := (impliesB_iff d c).1 h
  rcases h with h | h | h
  · exact h
  · unfold cvoidB at hc
    rw [h] at hc
    simp at hc
  · rw [hc] at h
    exact absurd h.2.2.2.1 (by decide)
theorem normL_void {cs : List Cn} (hr : ∀ c ∈ cs, CRight c) : voidF (normL cs) = voidF cs := by
  have hL := norm_right (normL_of cs) fun c hc => (hr c hc).1
  have hoL : OpsB (sortN cs) := fun c hc => opB_right (hL c hc)
  unfold voidF
  rw [Bool.eq_iff_iff, List.any_eq_true, List.any_eq_true]
  constructor
  · rintro ⟨c, hc, hv⟩
    obtain ⟨d, hd, rfl⟩ := (normL_of cs).1 c (keptL_sub hc)
    exact ⟨d, hd, by rw [← cvoid_canon d (right_kind (hr d hd).1)]; exact hv⟩
  · rintro ⟨d, hd, hv⟩
    obtain ⟨i, hi, e⟩ := at_mem ((normL_of cs).2 d hd)
    obtain ⟨c, hc, himp⟩ := kept_cov hoL _ i (Nat.le_refl _) hi
    rw [e] at himp
    exact ⟨c, hc, void_implied (by rw [cvoid_canon d (right_kind (hr d hd).1)]; exact hv) himp⟩

/-! ### Texts of filters -/
def restT : List Cn → List UInt8
  | [] => []
  | c :: cs => 32 :: 38 :: 32 :: (keyX c ++ restT cs)
def tailT : List Cn → List UInt8
  | [] => []
  | c :: cs => 32 :: (keyX c ++ restT cs)
theorem rest_del (cs : List Cn) : Del (restT cs) := by cases cs; exact del_nil; exact del_cons _
theorem rest_snoc (c : Cn) : ∀ cs : List Cn, restT (cs ++ [c]) = restT cs ++ 32 :: 38 :: 32 :: keyX c
  | [] => by simp [restT]
  | d :: cs => by simp [restT, rest_snoc c cs]
theorem tail_snoc (c : Cn) (cs : List Cn) : tailT (cs ++ [c]) = tailT cs ++ (if cs.length = 0 then [] else [32, 38]) ++ ([32] ++ keyX c) := by
  cases cs with
  | nil => simp [tailT, restT]
  | cons d cs => simp [tailT, rest_snoc c cs]
theorem accT_tail (fs : ByteArray) (cs : List Cn) : ∀ j, j ≤ cs.length → accT fs TX cs j = fs.data.toList ++ 58 :: tailT (cs.take j)
  | 0, _ => by simp [accT, tailT]
  | j + 1, h => by
    have hl : (cs.take j).length = j := by rw [List.length_take]; omega
    rw [accT, accT_tail fs cs j (by omega), takeC cs j (by omega), tail_snoc, hl]
    simp only [List.append_assoc, List.cons_append]
    rfl
theorem textF_tail (fs : ByteArray) (cs : List Cn) : (textF fs TX cs).data.toList = fs.data.toList ++ 58 :: tailT cs := by
  have := accT_tail fs cs cs.length (Nat.le_refl _)
  rw [List.take_length] at this
  unfold textF
  simpa using this
theorem rest_inj : ∀ (cs ds : List Cn), (∀ c ∈ cs, CRight c) → (∀ c ∈ ds, CRight c) → restT cs = restT ds → cs.map canonC = ds.map canonC
  | [], [], _, _, _ => rfl
  | [], d :: ds, _, _, h => by simp [restT] at h
  | c :: cs, [], _, _, h => by simp [restT] at h
  | c :: cs, d :: ds, hc, hd, h => by
    unfold restT at h
    injection h with _ h; injection h with _ h; injection h with _ h
    obtain ⟨e1, e2⟩ := cond_text c d _ _ (hc c List.mem_cons_self) (hd d List.mem_cons_self) (rest_del cs) (rest_del ds) h
    rw [List.map_cons, List.map_cons, e1, rest_inj cs ds (fun x hx => hc x (List.mem_cons_of_mem _ hx)) (fun x hx => hd x (List.mem_cons_of_mem _ hx)) e2]
theorem tail_inj (cs ds : List Cn) (hc : ∀ c ∈ cs, CRight c) (hd : ∀ c ∈ ds, CRight c) (h : tailT cs = tailT ds) : cs.map canonC = ds.map canonC := by
  cases cs with
  | nil => cases ds with
    | nil => rfl
    | cons d ds => simp [tailT] at h
  | cons c cs => cases ds with
    | nil => simp [tailT] at h
    | cons d ds =>
      unfold tailT at h
      injection h with _ h
      obtain ⟨e1, e2⟩ := cond_text c d _ _ (hc c List.mem_cons_self) (hd d List.mem_cons_self) (rest_del cs) (rest_del ds) h
      rw [List.map_cons, List.map_cons, e1, rest_inj cs ds (fun x hx => hc x (List.mem_cons_of_mem _ hx)) (fun x hx => hd x (List.mem_cons_of_mem _ hx)) e2]
theorem join_colon : ∀ (l : List (List UInt8)), (∀ p ∈ l, ∀ b ∈ p, b ≠ 58) → ∀ b ∈ Sc.joinL l, b ≠ 58
  | [], _ => fun b hb => by simp [Sc.joinL] at hb
  | [p], h => fun b hb => h p List.mem_cons_self b (by simpa [Sc.joinL] using hb)
  | p :: q :: r, h => fun b hb => by
    simp only [Sc.joinL, List.mem_append, List.mem_cons] at hb
    rcases hb with hb | rfl | hb
    · exact h p List.mem_cons_self b hb
    · decide
    · exact join_colon (q :: r) (fun x hx => h x (List.mem_cons_of_mem _ hx)) b hb
theorem scope_colon {s : ByteArray} (h : scopeOk s = true) : ∀ b ∈ s.data.toList, b ≠ 58 := by
  unfold scopeOk at h
  rw [Bool.or_eq_true] at h
  rcases h with h | h
  · have h0 : s.size = 0 := by simpa using h
    have : s.data.toList = [] := by
      apply List.eq_nil_of_length_eq_zero
      rw [Array.length_toList]; exact h0
    rw [this]; intro b hb; simp at hb
  · simp only [Bool.and_eq_true, List.all_eq_true] at h
    rw [← Sc.joinL_cut s.data.toList]
    refine join_colon _ fun p hp b hb e => ?_
    have hn := h.2 (bsOf p) (List.mem_map.2 ⟨p, hp, rfl⟩)
    have := (name_letters hn).1 b (by rw [data_bsOf]; exact hb)
    subst e
    rcases this with h | h <;> exact absurd h (by decide)
/-- Filters that may be, of one text: one scope, the same conditions. -/
theorem text_inj {fs gs : ByteArray} {cs ds : List Cn} (hf : scopeOk fs = true) (hg : scopeOk gs = true) (hc : ∀ c ∈ cs, CRight c) (hd : ∀ c ∈ ds, CRight c) (h : textF fs TX cs = textF gs TX ds) : fs = gs ∧ cs.map canonC = ds.map canonC := by
  have h2 : fs.data.toList ++ 58 :: tailT cs = gs.data.toList ++ 58 :: tailT ds := by rw [← textF_tail, ← textF_tail, h]
  have c1 := cutT_at 58 fs.data.toList (tailT cs) (scope_colon hf)
  have c2 := cutT_at 58 gs.data.toList (tailT ds) (scope_colon hg)
  rw [h2, c2] at c1
  injection c1 with e1 e2
  exact ⟨ByteArray.ext (Array.ext' e1.symm), tail_inj cs ds hc hd e2.symm⟩
end Go.Proofs.YtfffmndjgjfflaaGreatDoor
