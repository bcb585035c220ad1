/- Plain facts on bytes: what is laid is read again; what is read was laid. -/
import Derived.Test.YtecfbbddhnkilaaWr5
namespace Go.Proofs.Ytecfbbddhnkilaa
open Go.RowKit Go.Shelf Go.Sort
open Go.Proofs
set_option maxRecDepth 100000

theorem u8_ofNat_toNat (c : UInt8) : UInt8.ofNat c.toNat = c := by simp
theorem encL_be (m : List UInt8) (h : m.length = 8) : encL (be m) = m := by
  rcases m with _ | ⟨a, _ | ⟨b, _ | ⟨c, _ | ⟨d, _ | ⟨e, _ | ⟨f, _ | ⟨g, _ | ⟨i, _ | ⟨j, m⟩⟩⟩⟩⟩⟩⟩⟩⟩ <;> simp at h
  have ha := a.toNat_lt; have hb := b.toNat_lt; have hc := c.toNat_lt; have hd := d.toNat_lt; have he := e.toNat_lt; have hf := f.toNat_lt; have hg := g.toNat_lt; have hi := i.toNat_lt
  have e0 : be [a, b, c, d, e, f, g, i] = ((((((a.toNat * 256 + b.toNat) * 256 + c.toNat) * 256 + d.toNat) * 256 + e.toNat) * 256 + f.toNat) * 256 + g.toNat) * 256 + i.toNat := by simp [be]
  have key : ∀ (x : Nat) (u : UInt8), x % 256 = u.toNat → UInt8.ofNat x = u := fun x u h => by
    apply UInt8.toNat_inj.1
    rw [UInt8.toNat_ofNat', h]
  unfold encL
  rw [e0]
  congr 1
  · exact key _ _ (by omega)
  congr 1
  · exact key _ _ (by omega)
  congr 1
  · exact key _ _ (by omega)
  congr 1
  · exact key _ _ (by omega)
  congr 1
  · exact key _ _ (by omega)
  congr 1
  · exact key _ _ (by omega)
  congr 1
  · exact key _ _ (by omega)
  congr 1
  exact key _ _ (by omega)
theorem be_encL (x : Nat) (h : x < 2 ^ 64) : be (encL x) = x := by
  have e0 : be (encL x) = (((((((x / 2 ^ 56 % 256) * 256 + x / 2 ^ 48 % 256) * 256 + x / 2 ^ 40 % 256) * 256 + x / 2 ^ 32 % 256) * 256 + x / 2 ^ 24 % 256) * 256 + x / 2 ^ 16 % 256) * 256 + x / 2 ^ 8 % 256) * 256 + x % 256 := by
    simp [be, encL, UInt8.toNat_ofNat']
  rw [e0]; omega
theorem encL_length (x : Nat) : (encL x).length = 8 := rfl
theorem rLong_enc (x : Nat) (h : x < 2 ^ 64) (t : List UInt8) : rLong (encL x ++ t) = some ((x : Int), t) := by
  unfold rLong
  rw [if_pos (by rw [List.length_append, encL_length]; omega), List.take_left' (encL_length x), List.drop_left' (encL_length x), be_encL x h]
theorem rLong_inv {l t : List UInt8} {k : Int} (h : rLong l = some (k, t)) : ∃ x : Nat, k = x ∧ x < 2 ^ 64 ∧ l = encL x ++ t := by
  obtain ⟨h8, hk, ht, h0, h1⟩ := rLong_some h
  refine ⟨be (l.take 8), hk, by omega, ?_⟩
  rw [encL_be _ (by rw [List.length_take]; omega), ht, List.take_append_drop]
theorem rText_enc (s : ByteArray) (h : s.size ≤ 255) (t : List UInt8) : rText (encT s ++ t) = some (s, t) := by
  have hs : (UInt8.ofNat s.size).toNat = s.size := by rw [UInt8.toNat_ofNat']; omega
  have hl : s.data.toList.length = s.size := by simp
  simp only [encT, List.cons_append, rText, hs]
  rw [if_pos (by rw [List.length_append, hl]; omega), List.take_left' hl, List.drop_left' hl]
  simp [bstr]
theorem rText_inv {l t : List UInt8} {s : ByteArray} (h : rText l = some (s, t)) : s.size ≤ 255 ∧ l = encT s ++ t := by
  cases l with
  | nil => cases h
  | cons c l =>
    simp only [rText] at h
    by_cases hc : c.toNat ≤ l.length
    · rw [if_pos hc] at h
      simp only [Option.some.injEq, Prod.mk.injEq] at h
      obtain ⟨rfl, rfl⟩ := h
      have hsz : (bstr (l.take c.toNat)).size = c.toNat := by simp [bstr, ByteArray.size, hc]
      have := c.toNat_lt
      refine ⟨by omega, ?_⟩
      unfold encT
      rw [hsz, u8_ofNat_toNat]
      simp [bstr]
    · rw [if_neg hc] at h; cases h

theorem ofInt_wrap (x : Nat) (h : x < 2 ^ 64) : (BitVec.ofInt 64 (wrap64 (x : Int))).toNat = x := by
  rw [BitVec.toNat_ofInt]
  unfold wrap64
  omega
theorem wrap_ofInt (n : Int) (h0 : -9223372036854775808 ≤ n) (h1 : n ≤ 9223372036854775807) : wrap64 ((BitVec.ofInt 64 n).toNat : Int) = n := by
  rw [BitVec.toNat_ofInt]
  unfold wrap64
  omega

theorem encV0 (nm : ByteArray) (n : Int) (x : Nat) (s : ByteArray) (y : Bool) : encV ⟨nm, 0, n, x, s, y⟩ = 0 :: encL (BitVec.ofInt 64 n).toNat := by simp [encV]
theorem encV1 (nm : ByteArray) (n : Int) (x : Nat) (s : ByteArray) (y : Bool) : encV ⟨nm, 1, n, x, s, y⟩ = 1 :: encL (fkey x).toNat := by simp [encV]
theorem encV2 (nm : ByteArray) (n : Int) (x : Nat) (s : ByteArray) (y : Bool) : encV ⟨nm, 2, n, x, s, y⟩ = 2 :: encT s := by simp [encV]
theorem encV3 (nm : ByteArray) (n : Int) (x : Nat) (s : ByteArray) (y : Bool) : encV ⟨nm, 3, n, x, s, y⟩ = [3, if y then 1 else 0] := by simp [encV]
theorem zero_lt64 : (0 : Nat) < 18446744073709551616 := by decide
theorem byte_is {c : UInt8} {n : Nat} (h : c.toNat = n) : c = UInt8.ofNat n := by rw [← h]; simp
/-- What is read was laid: a value. -/
theorem rValue_inv {nm : ByteArray} {l t : List UInt8} {a : At} (h : rValue nm l = some (a, t)) : l = encV a ++ t ∧ tellsV a.k a.s = true ∧ a.x < 18446744073709551616 ∧ a.nm = nm := by
  refine ⟨?_, ?_, ?_, rValue_nm h⟩ <;> (cases l with
  | nil => cases h
  | cons c l =>
    simp only [rValue] at h
    split at h
    · rename_i hk
      obtain ⟨⟨m, t2⟩, hm, he⟩ := Option.map_eq_some_iff.1 h
      simp only [Prod.mk.injEq] at he
      obtain ⟨rfl, rfl⟩ := he
      obtain ⟨x, rfl, hx, rfl⟩ := rLong_inv hm
      first
        | (rw [encV0, ofInt_wrap x hx, byte_is hk]; rfl)
        | rfl
        | exact zero_lt64
    · split at h
      · rename_i hk
        obtain ⟨⟨m, t2⟩, hm, he⟩ := Option.map_eq_some_iff.1 h
        simp only [Prod.mk.injEq] at he
        obtain ⟨rfl, rfl⟩ := he
        simp only [rNum] at hm
        cases hl : rLong l with
        | none => rw [hl] at hm; cases hm
        | some p =>
          obtain ⟨k, t3⟩ := p
          rw [hl] at hm
          simp only [] at hm
          obtain ⟨x, rfl, hx, rfl⟩ := rLong_inv hl
          by_cases hb : (fback (x : Int)).2 = true
          · rw [if_pos hb] at hm
            simp only [Option.some.injEq, Prod.mk.injEq] at hm
            obtain ⟨rfl, rfl⟩ := hm
            have hfb := fback_lt (x : Int) (by omega)
            have hkey : fkey (fback (x : Int)).1 = x := by
              unfold fback at hb ⊢
              by_cases hq : fkey (fbk (x : Int)) = x
              · rw [if_pos hq]; exact hq
              · rw [if_neg hq] at hb; cases hb
            first
              | (rw [encV1, hkey, Int.toNat_natCast, byte_is hk]; rfl)
              | rfl
              | exact hfb
          · rw [if_neg hb] at hm; cases hm
      · split at h
        · rename_i hk
          obtain ⟨⟨m, t2⟩, hm, he⟩ := Option.map_eq_some_iff.1 h
          simp only [Prod.mk.injEq] at he
          obtain ⟨rfl, rfl⟩ := he
          simp only [rShort] at hm
          cases hl : rText l with
          | none => rw [hl] at hm; cases hm
          | some p =>
            obtain ⟨s2, t3⟩ := p
            rw [hl] at hm
            simp only [] at hm
            obtain ⟨hs, rfl⟩ := rText_inv hl
            by_cases hb : (s2.size : Int) ≤ 40
            · rw [if_pos hb] at hm
              simp only [Option.some.injEq, Prod.mk.injEq] at hm
              obtain ⟨rfl, rfl⟩ := hm
              first
                | (rw [encV2, byte_is hk]; rfl)
                | exact zero_lt64
                | (simp [tellsV]; omega)
            · rw [if_neg hb] at hm; cases hm
        · split at h
          · rename_i hk
            obtain ⟨⟨m, t2⟩, hm, he⟩ := Option.map_eq_some_iff.1 h
            simp only [Prod.mk.injEq] at he
            obtain ⟨rfl, rfl⟩ := he
            cases l with
            | nil => cases hm
            | cons d l =>
              simp only [rYes, rByte] at hm
              by_cases hb : (d.toNat : Int) ≤ 1
              · rw [if_pos hb] at hm
                simp only [Option.some.injEq, Prod.mk.injEq] at hm
                obtain ⟨rfl, rfl⟩ := hm
                first
                  | (rw [encV3, byte_is hk]
                     rcases (show d.toNat = 0 ∨ d.toNat = 1 by omega) with e | e <;> rw [byte_is e] <;> rfl)
                  | rfl
                  | exact zero_lt64
              · rw [if_neg hb] at hm; cases hm
          · cases h)
end Go.Proofs.Ytecfbbddhnkilaa
