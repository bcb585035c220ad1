/- A value's text, with a blank behind it or nothing, tells the value as it is kept, and what stands behind. -/
import Derived.Test.YtfffmndjgjfflaaGreatDoorNumI
import Derived.Test.YtfffmndjgjfflaaGreatDoorQuoI
namespace Go.Proofs.YtfffmndjgjfflaaGreatDoor
open Go.RowKit Go.Lib
open Go.Proofs
set_option maxRecDepth 100000

/-! ### Texts with a blank behind them, or nothing -/
def Del (X : List UInt8) : Prop := X = [] ∨ ∃ Y, X = 32 :: Y
theorem del_nil : Del [] := Or.inl rfl
theorem del_cons (Y : List UInt8) : Del (32 :: Y) := Or.inr ⟨Y, rfl⟩
theorem word_split (a b X Y : List UInt8) (ha : ∀ x ∈ a, x ≠ 32) (hb : ∀ x ∈ b, x ≠ 32) (hX : Del X) (hY : Del Y) (h : a ++ X = b ++ Y) : a = b ∧ X = Y := by
  have hc : ∀ (a X : List UInt8), (∀ x ∈ a, x ≠ 32) → Del X → (cutT 32 (a ++ X)).1 = a := fun a X ha hX => by
    rcases hX with rfl | ⟨Z, rfl⟩
    · rw [List.append_nil, cutT_none 32 a ha]
    · rw [cutT_at 32 a Z ha]
  have e : a = b := by rw [← hc a X ha hX, ← hc b Y hb hY, h]
  subst e
  exact ⟨rfl, List.append_cancel_left h⟩

/-! ### Whole numbers -/
theorem dec_dig : ∀ (u : Nat), DigL (decDigits u) ∧ dv (decDigits u) = u ∧ decDigits u ≠ [] := by
  intro u
  induction u using Nat.strongRecOn with
  | _ u ih =>
    have hd : ∀ n : Nat, n < 10 → DigL [UInt8.ofNat (48 + n)] ∧ dv [UInt8.ofNat (48 + n)] = n := fun n hn => by
      have e : (UInt8.ofNat (48 + n)).toNat = 48 + n := UInt8.toNat_ofNat_of_lt' (by simp [UInt8.size]; omega)
      refine ⟨fun x hx => ?_, ?_⟩
      · rw [List.mem_singleton.1 hx, e]; omega
      · rw [dv_one, e]; omega
    rw [decDigits]
    split
    · rename_i h
      exact ⟨(hd u h).1, (hd u h).2, by simp⟩
    · rename_i h
      obtain ⟨i1, i2, _⟩ := ih (u / 10) (by omega)
      have hm : u % 10 < 10 := Nat.mod_lt _ (by decide)
      refine ⟨i1.app (hd _ hm).1, ?_, by simp⟩
      rw [dv_app, i2, (hd _ hm).2]
      show u / 10 * 10 ^ 1 + u % 10 = u
      omega
theorem itoa_shape (n : Int) : (∀ b ∈ Lib.itoa n, b = 45 ∨ (48 ≤ b.toNat ∧ b.toNat ≤ 57)) ∧ ∃ b l, Lib.itoa n = b :: l := by
  unfold Lib.itoa
  split
  · refine ⟨fun b hb => ?_, _, _, rfl⟩
    rcases List.mem_cons.1 hb with rfl | hb
    · exact Or.inl rfl
    · exact Or.inr ((dec_dig _).1 b hb)
  · refine ⟨fun b hb => Or.inr ((dec_dig _).1 b hb), ?_⟩
    have h := (dec_dig n.toNat).2.2
    cases hl : decDigits n.toNat with
    | nil => exact absurd hl h
    | cons b l => exact ⟨b, l, rfl⟩
theorem itoa_inj (n m : Int) (h : Lib.itoa n = Lib.itoa m) : n = m := by
  have hh : ∀ (u v : Nat), 45 :: decDigits u ≠ decDigits v := fun u v e => by
    have := (dec_dig v).1 45 (by rw [← e]; exact List.mem_cons_self)
    exact absurd this (by decide)
  unfold Lib.itoa at h
  by_cases hn : n < 0
  · by_cases hm : m < 0
    · rw [if_pos hn, if_pos hm] at h
      injection h with _ h
      have := congrArg dv h
      rw [(dec_dig _).2.1, (dec_dig _).2.1] at this
      omega
    · rw [if_pos hn, if_neg hm] at h; exact absurd h (hh _ _)
  · by_cases hm : m < 0
    · rw [if_neg hn, if_pos hm] at h; exact absurd h.symm (hh _ _)
    · rw [if_neg hn, if_neg hm] at h
      have := congrArg dv h
      rw [(dec_dig _).2.1, (dec_dig _).2.1] at this
      omega

/-! ### Numbers -/
theorem containsAny_yes {l : List UInt8} (h : Lib.containsAny l [46, 101, 73, 78] = true) : ∃ x ∈ l, x = 46 ∨ x = 101 ∨ x = 73 ∨ x = 78 := by
  induction l with
  | nil => simp [Lib.containsAny, Lib.indexAny] at h
  | cons b l ih =>
    cases hb : ([46, 101, 73, 78] : List UInt8).contains b
    · unfold Lib.containsAny Lib.indexAny at h
      rw [hb, if_neg Bool.false_ne_true, decide_eq_true_eq] at h
      have hl : Lib.containsAny l [46, 101, 73, 78] = true := by
        unfold Lib.containsAny
        rw [decide_eq_true_eq]
        by_cases he : (Lib.indexAny l [46, 101, 73, 78] == -1) = true
        · rw [if_pos he] at h; omega
        · rw [if_neg he] at h
          rw [beq_iff_eq] at he
          have := Lib.indexAny_ge [46, 101, 73, 78] l
          omega
      obtain ⟨x, hx, h2⟩ := ih hl
      exact ⟨x, List.mem_cons_of_mem _ hx, h2⟩
    · exact ⟨b, List.mem_cons_self, by simpa using hb⟩
theorem num_shape (x : Nat) (hx : x < 18446744073709551616) : (∀ b ∈ numL x, b ≠ 32) ∧ (∃ b ∈ numL x, b = 46 ∨ b = 101 ∨ b = 73 ∨ b = 78) ∧ ∃ b l, numL x = b :: l ∧ (b = 43 ∨ b = 45 ∨ b = 78 ∨ (48 ≤ b.toNat ∧ b.toNat ≤ 57)) := by
  have e : numL x = numZ (fcanon x) := rfl
  refine ⟨?_, ?_, ?_⟩
  · rw [e]
    rcases kept_ways x hx with h | h | h | h | h
    · rw [h, numZ_nan]; decide
    · rw [h, numZ_zero]; decide
    · rw [h, numZ_inf]; decide
    · rw [h, numZ_ninf]; decide
    · exact fun b hb => ((numZ_fin _ _ rfl h.2.1 h.2.2).1 b hb).2.2
  · unfold numL
    cases hc : Lib.containsAny (ftoaL (fcanon x)) [46, 101, 73, 78]
    · rw [if_neg Bool.false_ne_true]
      exact ⟨46, List.mem_append.2 (Or.inr List.mem_cons_self), Or.inl rfl⟩
    · rw [if_pos rfl]; exact containsAny_yes hc
  · rw [e]
    rcases kept_ways x hx with h | h | h | h | h
    · rw [h, numZ_nan]; exact ⟨_, _, rfl, by decide⟩
    · rw [h, numZ_zero]; exact ⟨_, _, rfl, by decide⟩
    · rw [h, numZ_inf]; exact ⟨_, _, rfl, by decide⟩
    · rw [h, numZ_ninf]; exact ⟨_, _, rfl, by decide⟩
    · obtain ⟨_, _, _, _, b, l, h1, h2⟩ := numZ_fin _ _ rfl h.2.1 h.2.2
      exact ⟨b, l, h1, by rcases h2 with h2 | h2; exact Or.inr (Or.inl h2); exact Or.inr (Or.inr (Or.inr h2))⟩

/-! ### Values -/
def yesL (y : Bool) : List UInt8 := if y then [121, 101, 115] else [110, 111]
/-- Two values are kept alike. -/
def KeptE (k n : Int) (x : Nat) (s : ByteArray) (y : Bool) (k2 n2 : Int) (x2 : Nat) (s2 : ByteArray) (y2 : Bool) : Prop :=
  k = k2 ∧ (k = 0 → n = n2) ∧ (k = 1 → fcanon x = fcanon x2) ∧ (k = 2 → s = s2) ∧ (k = 3 → y = y2)
theorem printT_ways (k n : Int) (x : Nat) (s : ByteArray) (y : Bool) (h0 : 0 ≤ k) (h3 : k ≤ 3) :
    (k = 0 ∧ (printT k n x s y).data.toList = Lib.itoa n) ∨ (k = 1 ∧ (printT k n x s y).data.toList = numL x) ∨ (k = 2 ∧ (printT k n x s y).data.toList = (strOfNums (Lib.quoteZ Lib.goPrintTabs s)).data.toList) ∨ (k = 3 ∧ (printT k n x s y).data.toList = yesL y) := by
  rcases (show k = 0 ∨ k = 1 ∨ k = 2 ∨ k = 3 by omega) with rfl | rfl | rfl | rfl
  · exact Or.inl ⟨rfl, rfl⟩
  · exact Or.inr (Or.inl ⟨rfl, rfl⟩)
  · exact Or.inr (Or.inr (Or.inl ⟨rfl, rfl⟩))
  · exact Or.inr (Or.inr (Or.inr ⟨rfl, by cases y <;> rfl⟩))
theorem quote_head (s : ByteArray) : ∃ l, (strOfNums (Lib.quoteZ Lib.goPrintTabs s)).data.toList = 34 :: l := by
  rw [strOfNums_data]; exact ⟨_, rfl⟩
/-- A value's text, with a blank behind it or nothing, tells the value as it is kept, and what stands behind. -/
theorem print_text (k n : Int) (x : Nat) (s : ByteArray) (y : Bool) (k2 n2 : Int) (x2 : Nat) (s2 : ByteArray) (y2 : Bool) (X Y : List UInt8) (h0 : 0 ≤ k) (h3 : k ≤ 3) (g0 : 0 ≤ k2) (g3 : k2 ≤ 3) (hx : x < 18446744073709551616) (hx2 : x2 < 18446744073709551616) (hX : Del X) (hY : Del Y)
    (h : (printT k n x s y).data.toList ++ X = (printT k2 n2 x2 s2 y2).data.toList ++ Y) : KeptE k n x s y k2 n2 x2 s2 y2 ∧ X = Y := by
  have yn : ∀ y, ∀ b ∈ yesL y, b ≠ 32 := fun y => by cases y <;> decide
  have inb : ∀ n, ∀ b ∈ Lib.itoa n, b ≠ 32 := fun n b hb e => by
    subst e
    rcases (itoa_shape n).1 _ hb with h | h
    · exact absurd h (by decide)
    · exact absurd h (by decide)
  have qh := quote_head
  -- heads
  have hd : ∀ {a b : List UInt8} {u v : UInt8} {l m : List UInt8}, a = u :: l → b = v :: m → a ++ X = b ++ Y → u = v := fun ha hb he => by
    rw [ha, hb, List.cons_append, List.cons_append] at he
    injection he
  rcases printT_ways k n x s y h0 h3 with ⟨rfl, e⟩ | ⟨rfl, e⟩ | ⟨rfl, e⟩ | ⟨rfl, e⟩ <;> rcases printT_ways k2 n2 x2 s2 y2 g0 g3 with ⟨rfl, f⟩ | ⟨rfl, f⟩ | ⟨rfl, f⟩ | ⟨rfl, f⟩ <;> rw [e, f] at h <;> clear e f
  · obtain ⟨a, b⟩ := word_split _ _ _ _ (inb n) (inb n2) hX hY h
    exact ⟨⟨rfl, fun _ => itoa_inj _ _ a, fun h => absurd h (by decide), fun h => absurd h (by decide), fun h => absurd h (by decide)⟩, b⟩
  · exfalso
    obtain ⟨m1, ⟨b, m2, m3⟩, _⟩ := num_shape x2 hx2
    obtain ⟨a, _⟩ := word_split _ _ _ _ (inb n) m1 hX hY h
    rw [← a] at m2
    rcases (itoa_shape n).1 _ m2 with h | h
    · subst h; exact absurd m3 (by decide)
    · rcases m3 with rfl | rfl | rfl | rfl <;> exact absurd h (by decide)
  · exfalso
    obtain ⟨m1, u, l, hl⟩ := itoa_shape n
    obtain ⟨m, hm⟩ := qh s2
    have := hd hl hm h
    subst this
    exact absurd (m1 34 (by rw [hl]; exact List.mem_cons_self)) (by decide)
  · exfalso
    obtain ⟨m1, u, l, hl⟩ := itoa_shape n
    have hu := m1 u (by rw [hl]; exact List.mem_cons_self)
    cases y2
    · have := hd hl (show yesL false = 110 :: [111] from rfl) h; subst this; exact absurd hu (by decide)
    · have := hd hl (show yesL true = 121 :: [101, 115] from rfl) h; subst this; exact absurd hu (by decide)
  · exfalso
    obtain ⟨m1, ⟨b, m2, m3⟩, _⟩ := num_shape x hx
    obtain ⟨a, _⟩ := word_split _ _ _ _ m1 (inb n2) hX hY h
    rw [a] at m2
    rcases (itoa_shape n2).1 _ m2 with h | h
    · subst h; exact absurd m3 (by decide)
    · rcases m3 with rfl | rfl | rfl | rfl <;> exact absurd h (by decide)
  · obtain ⟨m1, _, _⟩ := num_shape x hx
    obtain ⟨m2, _, _⟩ := num_shape x2 hx2
    obtain ⟨a, b⟩ := word_split _ _ _ _ m1 m2 hX hY h
    exact ⟨⟨rfl, fun h => absurd h (by decide), fun _ => num_inj _ _ hx hx2 a, fun h => absurd h (by decide), fun h => absurd h (by decide)⟩, b⟩
  · exfalso
    obtain ⟨_, _, u, l, hl, hu⟩ := num_shape x hx
    obtain ⟨m, hm⟩ := qh s2
    have := hd hl hm h
    subst this
    exact absurd hu (by decide)
  · exfalso
    obtain ⟨_, _, u, l, hl, hu⟩ := num_shape x hx
    cases y2
    · have := hd hl (show yesL false = 110 :: [111] from rfl) h; subst this; exact absurd hu (by decide)
    · have := hd hl (show yesL true = 121 :: [101, 115] from rfl) h; subst this; exact absurd hu (by decide)
  · exfalso
    obtain ⟨m1, u, l, hl⟩ := itoa_shape n2
    obtain ⟨m, hm⟩ := qh s
    have := hd hm hl h
    subst this
    exact absurd (m1 34 (by rw [hl]; exact List.mem_cons_self)) (by decide)
  · exfalso
    obtain ⟨_, _, u, l, hl, hu⟩ := num_shape x2 hx2
    obtain ⟨m, hm⟩ := qh s
    have := hd hm hl h
    subst this
    exact absurd hu (by decide)
  · obtain ⟨a, b⟩ := quote_text _ _ _ _ _ h
    exact ⟨⟨rfl, fun h => absurd h (by decide), fun h => absurd h (by decide), fun _ => a, fun h => absurd h (by decide)⟩, b⟩
  · exfalso
    obtain ⟨m, hm⟩ := qh s
    cases y2
    · exact absurd (hd hm (show yesL false = 110 :: [111] from rfl) h) (by decide)
    · exact absurd (hd hm (show yesL true = 121 :: [101, 115] from rfl) h) (by decide)
  · exfalso
    obtain ⟨m1, u, l, hl⟩ := itoa_shape n2
    have hu := m1 u (by rw [hl]; exact List.mem_cons_self)
    cases y
    · have := hd (show yesL false = 110 :: [111] from rfl) hl h; subst this; exact absurd hu (by decide)
    · have := hd (show yesL true = 121 :: [101, 115] from rfl) hl h; subst this; exact absurd hu (by decide)
  · exfalso
    obtain ⟨_, _, u, l, hl, hu⟩ := num_shape x2 hx2
    cases y
    · have := hd (show yesL false = 110 :: [111] from rfl) hl h; subst this; exact absurd hu (by decide)
    · have := hd (show yesL true = 121 :: [101, 115] from rfl) hl h; subst this; exact absurd hu (by decide)
  · exfalso
    obtain ⟨m, hm⟩ := qh s2
    cases y
    · exact absurd (hd (show yesL false = 110 :: [111] from rfl) hm h) (by decide)
    · exact absurd (hd (show yesL true = 121 :: [101, 115] from rfl) hm h) (by decide)
  · obtain ⟨a, b⟩ := word_split _ _ _ _ (yn y) (yn y2) hX hY h
    exact ⟨⟨rfl, fun h => absurd h (by decide), fun h => absurd h (by decide), fun h => absurd h (by decide), fun _ => by cases y <;> cases y2 <;> first | rfl | exact absurd a (by decide)⟩, b⟩
end Go.Proofs.YtfffmndjgjfflaaGreatDoor
