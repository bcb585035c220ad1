/- Quoted texts tell what they quote, whatever stands behind. -/
import Derived.Lib.QuoteLoop
import Derived.Lib.MapLaws
import Derived.Lib.TrimUEq
import Derived.Laws.BytesArg
import Derived.Test.YtfffmndjgjfflaaGreatDoorProg
namespace Go.Proofs.YtfffmndjgjfflaaGreatDoor
open Go.Lib
open Go.Proofs
set_option maxRecDepth 100000

/-! ### Quoted texts, read -/
def unhex (x : Int) : Nat := if x < 58 then (x - 48).toNat else (x - 87).toNat
theorem unhex_digit (n : Nat) (h : n < 16) : unhex (hexDigit n) = n := by
  unfold unhex hexDigit
  split <;> split <;> omega
def hexv (l : List Int) : Nat := l.foldl (fun a b => a * 16 + unhex b) 0
theorem hexv_from (r : Nat) : ∀ n a, (hexDigits r n).foldl (fun a b => a * 16 + unhex b) a = a * 16 ^ n + r % 16 ^ n
  | 0, a => by simp [hexDigits, Nat.mod_one]
  | n + 1, a => by
    unfold hexDigits
    rw [List.foldl_cons, hexv_from r n, unhex_digit _ (Nat.mod_lt _ (by decide)), Nat.pow_succ, Nat.add_mul, Nat.mul_assoc, Nat.mul_comm 16, Nat.add_assoc]
    congr 1
    rw [Nat.mod_mul, Nat.mul_comm, Nat.add_comm]
theorem hexv_digits (r n : Nat) : hexv (hexDigits r n) = r % 16 ^ n := by
  unfold hexv; rw [hexv_from]; omega
theorem hexDigits_len (r : Nat) : ∀ n, (hexDigits r n).length = n
  | 0 => rfl
  | n + 1 => by unfold hexDigits; rw [List.length_cons, hexDigits_len r n]
def byteI (x : Int) : UInt8 := x.toNat.toUInt8
/-- One piece of a quoted text: its bytes, and what stands behind. -/
def uqOne : List Int → List UInt8 × List Int
  | [] => ([], [])
  | f :: A =>
    if f = 92 then
      match A with
      | [] => ([], [])
      | g :: B =>
        if g = 120 then ([byteI (hexv (B.take 2))], B.drop 2)
        else if g = 117 then (encodeRune (hexv (B.take 4)), B.drop 4)
        else if g = 85 then (encodeRune (hexv (B.take 8)), B.drop 8)
        else if g = 97 then ([7], B) else if g = 98 then ([8], B) else if g = 102 then ([12], B) else if g = 110 then ([10], B)
        else if g = 114 then ([13], B) else if g = 116 then ([9], B) else if g = 118 then ([11], B)
        else ([byteI g], B)
    else if f < 128 then (((f :: A).take 1).map byteI, (f :: A).drop 1)
    else if f < 224 then (((f :: A).take 2).map byteI, (f :: A).drop 2)
    else if f < 240 then (((f :: A).take 3).map byteI, (f :: A).drop 3)
    else (((f :: A).take 4).map byteI, (f :: A).drop 4)
theorem uqOne_f (f : Int) (A : List Int) (h : f ≠ 92) : uqOne (f :: A) = if f < 128 then (((f :: A).take 1).map byteI, (f :: A).drop 1)
    else if f < 224 then (((f :: A).take 2).map byteI, (f :: A).drop 2)
    else if f < 240 then (((f :: A).take 3).map byteI, (f :: A).drop 3)
    else (((f :: A).take 4).map byteI, (f :: A).drop 4) := by
  show (if f = 92 then _ else _) = _
  rw [if_neg h]
theorem uq_lead (c X : List Int) (f : Int) (A : List Int) (hc : c = f :: A) (h92 : f ≠ 92)
    (hk : (f < 128 ∧ c.length = 1) ∨ (128 ≤ f ∧ f < 224 ∧ c.length = 2) ∨ (224 ≤ f ∧ f < 240 ∧ c.length = 3) ∨ (240 ≤ f ∧ c.length = 4)) : uqOne (c ++ X) = (c.map byteI, X) := by
  have ht : ∀ k, c.length = k → (c ++ X).take k = c ∧ (c ++ X).drop k = X := fun k h => by
    subst h; exact ⟨by simp, by simp⟩
  rcases hk with ⟨h1, h2⟩ | ⟨h0, h1, h2⟩ | ⟨h0, h1, h2⟩ | ⟨h0, h2⟩
  · obtain ⟨t1, t2⟩ := ht _ h2
    subst hc
    rw [List.cons_append] at t1 t2 ⊢
    rw [uqOne_f _ _ h92, if_pos h1, t1, t2]
  · obtain ⟨t1, t2⟩ := ht _ h2
    subst hc
    rw [List.cons_append] at t1 t2 ⊢
    rw [uqOne_f _ _ h92, if_neg (by omega), if_pos h1, t1, t2]
  · obtain ⟨t1, t2⟩ := ht _ h2
    subst hc
    rw [List.cons_append] at t1 t2 ⊢
    rw [uqOne_f _ _ h92, if_neg (by omega), if_neg (by omega), if_pos h1, t1, t2]
  · obtain ⟨t1, t2⟩ := ht _ h2
    subst hc
    rw [List.cons_append] at t1 t2 ⊢
    rw [uqOne_f _ _ h92, if_neg (by omega), if_neg (by omega), if_neg (by omega), t1, t2]
theorem uq_enc (r : Int) (X : List Int) (h0 : 0 ≤ r) (hv : r < 55296 ∨ (57343 < r ∧ r ≤ 1114111)) (h92 : r ≠ 92) : uqOne (encodeRuneZ r ++ X) = (encodeRune r, X) := by
  unfold encodeRune
  have hb : (fun x : Int => x.toNat.toUInt8) = byteI := rfl
  rw [hb]
  by_cases h1 : r ≤ 127
  · rw [encodeRuneZ_one h0 h1]
    exact uq_lead [r] X r [] rfl h92 (Or.inl ⟨by omega, rfl⟩)
  · by_cases h2 : r ≤ 2047
    · rw [encodeRuneZ_two (by omega) h2]
      exact uq_lead _ X _ _ rfl (by omega) (Or.inr (Or.inl ⟨by omega, by omega, rfl⟩))
    · by_cases h3 : r ≤ 65535
      · rw [encodeRuneZ_three (by omega)]
        exact uq_lead _ X _ _ rfl (by omega) (Or.inr (Or.inr (Or.inl ⟨by omega, by omega, rfl⟩)))
      · rw [encodeRuneZ_four (by omega) (by omega)]
        exact uq_lead _ X _ _ rfl (by omega) (Or.inr (Or.inr (Or.inr ⟨by omega, rfl⟩)))
theorem uq_hex2 (n : Nat) (h : n < 256) (X : List Int) : uqOne ([92, 120, hexDigit (n / 16), hexDigit (n % 16)] ++ X) = ([byteI n], X) := by
  have : hexv [hexDigit (n / 16), hexDigit (n % 16)] = n := by
    unfold hexv
    rw [List.foldl_cons, List.foldl_cons, List.foldl_nil, unhex_digit _ (by omega), unhex_digit _ (by omega)]
    omega
  show (([byteI (hexv [hexDigit (n / 16), hexDigit (n % 16)])] : List UInt8), X) = _
  rw [this]
theorem uq_hex4 (r : Nat) (h : r < 65536) (X : List Int) : uqOne (92 :: 117 :: hexDigits r 4 ++ X) = (encodeRune r, X) := by
  have ht : (hexDigits r 4 ++ X).take 4 = hexDigits r 4 ∧ (hexDigits r 4 ++ X).drop 4 = X := by
    have := hexDigits_len r 4
    constructor
    · rw [List.take_append_of_le_length (by omega), List.take_of_length_le (by omega)]
    · rw [List.drop_append_of_le_length (by omega), List.drop_of_length_le (by omega), List.nil_append]
  show (encodeRune (hexv ((hexDigits r 4 ++ X).take 4)), (hexDigits r 4 ++ X).drop 4) = _
  rw [ht.1, ht.2, hexv_digits, Nat.mod_eq_of_lt (by omega)]
theorem uq_hex8 (r : Nat) (h : r < 4294967296) (X : List Int) : uqOne (92 :: 85 :: hexDigits r 8 ++ X) = (encodeRune r, X) := by
  have ht : (hexDigits r 8 ++ X).take 8 = hexDigits r 8 ∧ (hexDigits r 8 ++ X).drop 8 = X := by
    have := hexDigits_len r 8
    constructor
    · rw [List.take_append_of_le_length (by omega), List.take_of_length_le (by omega)]
    · rw [List.drop_append_of_le_length (by omega), List.drop_of_length_le (by omega), List.nil_append]
  show (encodeRune (hexv ((hexDigits r 8 ++ X).take 8)), (hexDigits r 8 ++ X).drop 8) = _
  rw [ht.1, ht.2, hexv_digits, Nat.mod_eq_of_lt (by omega)]
theorem enc_one {r : Int} (h0 : 0 ≤ r) (h1 : r ≤ 127) : encodeRune r = [byteI r] := by unfold encodeRune; rw [encodeRuneZ_one h0 h1]; rfl
theorem uq_esc (T : PrintTabs) (r : Int) (X : List Int) (h0 : 0 ≤ r) (hv : r < 55296 ∨ (57343 < r ∧ r ≤ 1114111)) : uqOne (escRune T r ++ X) = (encodeRune r, X) := by
  unfold escRune
  by_cases c0 : r = 34 ∨ r = 92
  · rw [if_pos c0]
    rcases c0 with rfl | rfl
    · rw [enc_one (by omega) (by omega)]; rfl
    · rw [enc_one (by omega) (by omega)]; rfl
  rw [if_neg c0]
  by_cases c1 : isPrintR T r = true
  · rw [if_pos c1]; exact uq_enc r X h0 hv (by omega)
  rw [if_neg c1]
  by_cases c2 : r = 7
  · subst c2; rw [if_pos rfl, enc_one (by omega) (by omega)]; rfl
  rw [if_neg c2]
  by_cases c3 : r = 8
  · subst c3; rw [if_pos rfl, enc_one (by omega) (by omega)]; rfl
  rw [if_neg c3]
  by_cases c4 : r = 12
  · subst c4; rw [if_pos rfl, enc_one (by omega) (by omega)]; rfl
  rw [if_neg c4]
  by_cases c5 : r = 10
  · subst c5; rw [if_pos rfl, enc_one (by omega) (by omega)]; rfl
  rw [if_neg c5]
  by_cases c6 : r = 13
  · subst c6; rw [if_pos rfl, enc_one (by omega) (by omega)]; rfl
  rw [if_neg c6]
  by_cases c7 : r = 9
  · subst c7; rw [if_pos rfl, enc_one (by omega) (by omega)]; rfl
  rw [if_neg c7]
  by_cases c8 : r = 11
  · subst c8; rw [if_pos rfl, enc_one (by omega) (by omega)]; rfl
  rw [if_neg c8]
  by_cases c9 : r < 32 ∨ r = 127
  · rw [if_pos c9, uq_hex2 r.toNat (by omega), enc_one h0 (by omega), show ((r.toNat : Nat) : Int) = r by omega]
  rw [if_neg c9]
  by_cases c10 : validRune r = false
  · exfalso
    simp only [validRune, decide_eq_false_iff_not] at c10
    omega
  rw [if_neg c10]
  by_cases c11 : r < 65536
  · rw [if_pos c11]
    have := uq_hex4 r.toNat (by omega) X
    rwa [show ((r.toNat : Nat) : Int) = r by omega] at this
  rw [if_neg c11]
  have := uq_hex8 r.toNat (by omega) X
  rwa [show ((r.toNat : Nat) : Int) = r by omega] at this
theorem rune_bd (s : ByteArray) : (Utf8.decode s 0).1 < 55296 ∨ (57343 < (Utf8.decode s 0).1 ∧ (Utf8.decode s 0).1 ≤ 1114111) := by
  rw [decode_at]; exact decodeN_valid _ _ _ _ _ (UInt8.toNat_lt _)
theorem uq_step (T : PrintTabs) (s : ByteArray) (h : 0 < s.size) (X : List Int) : uqOne (quoteStep T s ++ X) = (s.data.toList.take (Utf8.decode s 0).2, X) := by
  have hne : s.data.toList ≠ [] := by
    intro e
    have : s.data.toList.length = 0 := by rw [e]; rfl
    rw [Array.length_toList] at this
    have : s.size = 0 := this
    omega
  have hd : decodeL s.data.toList = Utf8.decode s 0 := by
    have := decodeL_drop s 0
    rwa [List.drop_zero] at this
  unfold quoteStep
  by_cases hb : (Utf8.decode s 0).2 = 1 ∧ (Utf8.decode s 0).1 = 65533
  · rw [if_pos hb, uq_hex2 _ (UInt8.toNat_lt _), hb.1]
    cases hl : s.data.toList with
    | nil => exact absurd hl hne
    | cons b l =>
      have e : s.get! 0 = b := by
        cases s with
        | mk d =>
          show d[0]! = b
          rw [← Array.getElem!_toList, hl]; rfl
      rw [e]
      show ([byteI _], X) = ([b], X)
      unfold byteI
      simp
  · rw [if_neg hb]
    have hr := rune_bd s
    rw [uq_esc T _ X (by omega) (by omega)]
    have he := encode_decode s.data.toList hne (by rw [hd]; exact fun h => hb ⟨h.2, h.1⟩)
    rw [hd] at he
    rw [he]
theorem enc_head (r : Int) (h0 : 0 ≤ r) (h34 : r ≠ 34) : ∃ f A, encodeRuneZ r = f :: A ∧ f ≠ 34 := by
  unfold encodeRuneZ
  split
  · exact ⟨_, _, rfl, h34⟩
  · split
    · exact ⟨_, _, rfl, by omega⟩
    · split
      · exact ⟨_, _, rfl, by omega⟩
      · split
        · exact ⟨_, _, rfl, by omega⟩
        · exact ⟨_, _, rfl, by omega⟩
theorem esc_head (T : PrintTabs) (r : Int) (h0 : 0 ≤ r) : ∃ f A, escRune T r = f :: A ∧ f ≠ 34 := by
  unfold escRune
  by_cases c0 : r = 34 ∨ r = 92
  · rw [if_pos c0]; exact ⟨_, _, rfl, by decide⟩
  rw [if_neg c0]
  by_cases c1 : isPrintR T r = true
  · rw [if_pos c1]; exact enc_head r h0 (by omega)
  rw [if_neg c1]
  by_cases c2 : r = 7
  · rw [if_pos c2]; exact ⟨_, _, rfl, by decide⟩
  rw [if_neg c2]
  by_cases c3 : r = 8
  · rw [if_pos c3]; exact ⟨_, _, rfl, by decide⟩
  rw [if_neg c3]
  by_cases c4 : r = 12
  · rw [if_pos c4]; exact ⟨_, _, rfl, by decide⟩
  rw [if_neg c4]
  by_cases c5 : r = 10
  · rw [if_pos c5]; exact ⟨_, _, rfl, by decide⟩
  rw [if_neg c5]
  by_cases c6 : r = 13
  · rw [if_pos c6]; exact ⟨_, _, rfl, by decide⟩
  rw [if_neg c6]
  by_cases c7 : r = 9
  · rw [if_pos c7]; exact ⟨_, _, rfl, by decide⟩
  rw [if_neg c7]
  by_cases c8 : r = 11
  · rw [if_pos c8]; exact ⟨_, _, rfl, by decide⟩
  rw [if_neg c8]
  by_cases c9 : r < 32 ∨ r = 127
  · rw [if_pos c9]; exact ⟨_, _, rfl, by decide⟩
  rw [if_neg c9]
  by_cases c10 : validRune r = false
  · rw [if_pos c10]; exact ⟨_, _, rfl, by decide⟩
  rw [if_neg c10]
  by_cases c11 : r < 65536
  · rw [if_pos c11]; exact ⟨_, _, rfl, by decide⟩
  rw [if_neg c11]
  exact ⟨_, _, rfl, by decide⟩
theorem step_head (T : PrintTabs) (s : ByteArray) : ∃ f A, quoteStep T s = f :: A ∧ f ≠ 34 := by
  unfold quoteStep
  split
  · exact ⟨_, _, rfl, by decide⟩
  · exact esc_head T _ (by omega)
/-- A quoted text up to the quote that ends it. -/
def uqAll : Nat → List Int → List UInt8 × List Int
  | 0, l => ([], l)
  | _ + 1, [] => ([], [])
  | n + 1, f :: A => if f = 34 then ([], A) else ((uqOne (f :: A)).1 ++ (uqAll n (uqOne (f :: A)).2).1, (uqAll n (uqOne (f :: A)).2).2)
theorem uq_all (T : PrintTabs) (X : List Int) : ∀ (n : Nat) (s : ByteArray) (f : Nat), s.size ≤ n → s.size ≤ f → uqAll (n + 1) (quoteFrom T f s ++ 34 :: X) = (s.data.toList, X)
  | 0, s, f, hn, _ => by
    rw [quoteFrom_end T f s (by omega)]
    have : s.data.toList = [] := by
      apply List.eq_nil_of_length_eq_zero
      rw [Array.length_toList]
      show s.size = 0
      omega
    rw [this]; rfl
  | n + 1, s, f, hn, hf => by
    by_cases h0 : 0 < s.size
    · rw [quoteFrom_step T f s h0 hf, List.append_assoc]
      obtain ⟨g, A, hg, hg34⟩ := step_head T s
      have hu := uq_step T s h0 (quoteFrom T (f - 1) (s.extract (Utf8.decode s 0).2 s.size) ++ 34 :: X)
      rw [hg, List.cons_append] at hu ⊢
      have hw : 1 ≤ (Utf8.decode s 0).2 := width_pos s 0
      have hsz : (s.extract (Utf8.decode s 0).2 s.size).size = s.size - (Utf8.decode s 0).2 := size_rest _ _
      rw [uqAll, if_neg hg34, hu, uq_all T X n _ _ (by omega) (by omega)]
      have he : (s.extract (Utf8.decode s 0).2 s.size).data.toList = s.data.toList.drop (Utf8.decode s 0).2 := by
        rw [ByteArray.data_extract, Array.toList_extract]
        show List.extract _ _ s.data.size = _
        rw [List.extract_eq_take_drop, ← Array.length_toList, List.take_of_length_le (by simp)]
      rw [he, List.take_append_drop]
    · rw [quoteFrom_end T f s (by omega)]
      have : s.data.toList = [] := by
        apply List.eq_nil_of_length_eq_zero
        rw [Array.length_toList]
        show s.size = 0
        omega
      rw [this]; rfl
theorem uqOne_nil : uqOne [] = ([], []) := rfl
theorem quote_split (T : PrintTabs) (s t : ByteArray) (X Y : List Int) (h : quoteZ T s ++ X = quoteZ T t ++ Y) : s = t ∧ X = Y := by
  unfold quoteZ at h
  rw [List.cons_append, List.cons_append] at h
  injection h with _ h
  rw [List.append_assoc, List.append_assoc, List.singleton_append, List.singleton_append] at h
  have e1 := uq_all T X (s.size + t.size) s s.size (by omega) (Nat.le_refl _)
  have e2 := uq_all T Y (s.size + t.size) t t.size (by omega) (Nat.le_refl _)
  rw [h, e2] at e1
  injection e1 with a b
  refine ⟨?_, b.symm⟩
  apply ByteArray.ext
  apply Array.ext'
  exact a.symm
/-- What is written are bytes. -/
def ByteL (l : List Int) : Prop := ∀ x ∈ l, 0 ≤ x ∧ x < 256
theorem hexDigit_b (n : Nat) (h : n < 16) : 0 ≤ hexDigit n ∧ hexDigit n < 256 := by unfold hexDigit; split <;> omega
theorem hexDigits_b (r : Nat) : ∀ n, ByteL (hexDigits r n)
  | 0 => fun x hx => by simp [hexDigits] at hx
  | n + 1 => fun x hx => by
    unfold hexDigits at hx
    rcases List.mem_cons.1 hx with rfl | hx
    · exact hexDigit_b _ (Nat.mod_lt _ (by decide))
    · exact hexDigits_b r n x hx
theorem ByteL.cons {x : Int} {l : List Int} (h : 0 ≤ x ∧ x < 256) (k : ByteL l) : ByteL (x :: l) := fun y hy => by
  rcases List.mem_cons.1 hy with rfl | hy
  · exact h
  · exact k y hy
theorem byteL_nil : ByteL [] := fun x hx => by simp at hx
theorem ByteL.app {a b : List Int} (h : ByteL a) (k : ByteL b) : ByteL (a ++ b) := fun x hx => (List.mem_append.1 hx).elim (h x) (k x)
theorem esc_b (T : PrintTabs) (r : Int) (h0 : 0 ≤ r) : ByteL (escRune T r) := by
  unfold escRune
  by_cases c0 : r = 34 ∨ r = 92
  · rw [if_pos c0]; exact ByteL.cons (by decide) (ByteL.cons (by omega) byteL_nil)
  rw [if_neg c0]
  by_cases c1 : isPrintR T r = true
  · rw [if_pos c1]; exact encodeRuneZ_byte r
  rw [if_neg c1]
  by_cases c2 : r = 7
  · rw [if_pos c2]; exact ByteL.cons (by decide) (ByteL.cons (by decide) byteL_nil)
  rw [if_neg c2]
  by_cases c3 : r = 8
  · rw [if_pos c3]; exact ByteL.cons (by decide) (ByteL.cons (by decide) byteL_nil)
  rw [if_neg c3]
  by_cases c4 : r = 12
  · rw [if_pos c4]; exact ByteL.cons (by decide) (ByteL.cons (by decide) byteL_nil)
  rw [if_neg c4]
  by_cases c5 : r = 10
  · rw [if_pos c5]; exact ByteL.cons (by decide) (ByteL.cons (by decide) byteL_nil)
  rw [if_neg c5]
  by_cases c6 : r = 13
  · rw [if_pos c6]; exact ByteL.cons (by decide) (ByteL.cons (by decide) byteL_nil)
  rw [if_neg c6]
  by_cases c7 : r = 9
  · rw [if_pos c7]; exact ByteL.cons (by decide) (ByteL.cons (by decide) byteL_nil)
  rw [if_neg c7]
  by_cases c8 : r = 11
  · rw [if_pos c8]; exact ByteL.cons (by decide) (ByteL.cons (by decide) byteL_nil)
  rw [if_neg c8]
  by_cases c9 : r < 32 ∨ r = 127
  · rw [if_pos c9]; exact ByteL.cons (by decide) (ByteL.cons (by decide) (ByteL.cons (hexDigit_b _ (by omega)) (ByteL.cons (hexDigit_b _ (by omega)) byteL_nil)))
  rw [if_neg c9]
  by_cases c10 : validRune r = false
  · rw [if_pos c10]; exact ByteL.cons (by decide) (ByteL.cons (by decide) (hexDigits_b _ _))
  rw [if_neg c10]
  by_cases c11 : r < 65536
  · rw [if_pos c11]; exact ByteL.cons (by decide) (ByteL.cons (by decide) (hexDigits_b _ _))
  rw [if_neg c11]
  exact ByteL.cons (by decide) (ByteL.cons (by decide) (hexDigits_b _ _))
theorem step_b (T : PrintTabs) (s : ByteArray) : ByteL (quoteStep T s) := by
  unfold quoteStep
  split
  · have := UInt8.toNat_lt (s.get! 0)
    exact ByteL.cons (by decide) (ByteL.cons (by decide) (ByteL.cons (hexDigit_b _ (by omega)) (ByteL.cons (hexDigit_b _ (by omega)) byteL_nil)))
  · exact esc_b T _ (by omega)
theorem from_b (T : PrintTabs) : ∀ (f : Nat) (s : ByteArray), ByteL (quoteFrom T f s)
  | 0, _ => byteL_nil
  | f + 1, s => by
    unfold quoteFrom
    split
    · exact (step_b T s).app (from_b T f _)
    · exact byteL_nil
theorem quote_b (T : PrintTabs) (s : ByteArray) : ByteL (quoteZ T s) := ByteL.cons (by decide) ((from_b T _ _).app (ByteL.cons (by decide) byteL_nil))
theorem back_b (l : List Int) (h : ByteL l) : (l.map fun n => UInt8.ofNat n.toNat).map (fun b => (b.toNat : Int)) = l := by
  rw [List.map_map]
  conv => rhs; rw [← List.map_id l]
  refine List.map_congr_left fun x hx => ?_
  have := h x hx
  show ((UInt8.ofNat x.toNat).toNat : Int) = x
  rw [UInt8.toNat_ofNat_of_lt' (by simp [UInt8.size]; omega)]
  omega
/-- Quoted texts, whatever stands behind: the texts are one, and so is what stands behind. -/
theorem quote_text (T : PrintTabs) (s t : ByteArray) (X Y : List UInt8) (h : (strOfNums (quoteZ T s)).data.toList ++ X = (strOfNums (quoteZ T t)).data.toList ++ Y) : s = t ∧ X = Y := by
  rw [strOfNums_data, strOfNums_data] at h
  have h2 := congrArg (List.map fun b : UInt8 => (b.toNat : Int)) h
  rw [List.map_append, List.map_append, back_b _ (quote_b T s), back_b _ (quote_b T t)] at h2
  obtain ⟨e1, e2⟩ := quote_split T s t _ _ h2
  refine ⟨e1, ?_⟩
  subst e1
  exact List.append_cancel_left h
end Go.Proofs.YtfffmndjgjfflaaGreatDoor
