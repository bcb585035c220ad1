/- Plain facts on bytes: what is laid of an event that may be is read again; what is cut, or has more behind it, is none. -/
import Derived.Test.YtecfbbddhnkilaaEnc2
namespace Go.Proofs.Ytecfbbddhnkilaa
open Go.RowKit Go.Shelf Go.Sort
open Go.Proofs
set_option maxRecDepth 100000

/-- A value that is kept as it is, and may be. -/
structure CanA (a : At) : Prop where
  can : canonA a = a
  n0 : -9223372036854775808 ≤ a.n
  n1 : a.n ≤ 9223372036854775807
  x : a.x < 18446744073709551616
  v : vrightB a.k a.s = true

theorem rValue_enc (a : At) (h : CanA a) (t : List UInt8) : rValue a.nm (encV a ++ t) = some (a, t) := by
  obtain ⟨nm, k, n, x, s, y⟩ := a
  obtain ⟨hc, h0, h1, hx, hv⟩ := h
  simp only [vrightB, Bool.and_eq_true, decide_eq_true_eq] at hv
  simp only [] at h0 h1 hx hv ⊢
  rcases (show k = 0 ∨ k = 1 ∨ k = 2 ∨ k = 3 by omega) with rfl | rfl | rfl | rfl
  · simp [canonA] at hc
    obtain ⟨rfl, rfl, rfl⟩ := hc
    rw [encV0]
    have := rLong_enc (BitVec.ofInt 64 n).toNat (BitVec.ofInt 64 n).isLt t
    simp only [List.cons_append, rValue]
    rw [if_pos (by decide), this, Option.map_some, wrap_ofInt n h0 h1]
  · simp [canonA] at hc
    obtain ⟨rfl, hfx, rfl, rfl⟩ := hc
    have hbd := fkey_bd x
    rw [encV1]
    have := rLong_enc (fkey x).toNat (by omega) t
    have hb := back_key x hx
    simp only [List.cons_append, rValue, rNum]
    rw [if_neg (by decide), if_pos (by decide), this]
    simp only []
    rw [Int.toNat_of_nonneg hbd.1, hb, if_pos rfl]
    simp only [Option.map_some]
    rw [hfx]
  · simp [canonA] at hc
    obtain ⟨rfl, rfl, rfl⟩ := hc
    rw [encV2]
    have := rText_enc s (by omega) t
    simp only [List.cons_append, rValue, rShort]
    rw [if_neg (by decide), if_neg (by decide), if_pos (by decide), this]
    simp only []
    rw [if_pos hv.2]
    rfl
  · simp [canonA] at hc
    obtain ⟨rfl, rfl, rfl⟩ := hc
    rw [encV3]
    simp only [List.cons_append, rValue, rYes, rByte]
    rw [if_neg (by decide), if_neg (by decide), if_neg (by decide), if_pos (by decide)]
    cases y <;> rfl

theorem rAttrs_enc : ∀ (es : List At) (_ : ∀ a ∈ es, CanA a ∧ a.nm.size ≤ 255) (t : List UInt8), rAttrs es.length (es.flatMap encAt ++ t) = some (es, t)
  | [], _, t => rfl
  | a :: es, h, t => by
    have h1 := h a List.mem_cons_self
    have h2 := rAttrs_enc es (fun b hb => h b (List.mem_cons_of_mem _ hb)) t
    have ha : rAttr (encAt a ++ (es.flatMap encAt ++ t)) = some (a, es.flatMap encAt ++ t) := by
      unfold rAttr encAt
      rw [List.append_assoc, rText_enc a.nm h1.2]
      exact rValue_enc a h1.1 _
    rw [List.length_cons, List.flatMap_cons, List.append_assoc]
    simp only [rAttrs, ha, h2, Option.map_some]
theorem rEvent_enc (sc : ByteArray) (es : List At) (t : List UInt8) (hs : sc.size ≤ 255) (hl : es.length ≤ 255) (h : ∀ a ∈ es, CanA a ∧ a.nm.size ≤ 255) (hr : rightE es = true) : rEvent (encE sc es ++ t) = some ((sc, es), t) := by
  unfold rEvent encE
  rw [List.append_assoc, rText_enc sc hs]
  have hn : (UInt8.ofNat es.length).toNat = es.length := by rw [UInt8.toNat_ofNat']; omega
  simp only [List.cons_append, hn, rAttrs_enc es h t, hr, if_true]
theorem evOf_enc (sc : ByteArray) (es : List At) (hs : sc.size ≤ 255) (hl : es.length ≤ 255) (h : ∀ a ∈ es, CanA a ∧ a.nm.size ≤ 255) (hr : rightE es = true) : evOf (encE sc es) = some (sc, es) := by
  have := rEvent_enc sc es [] hs hl h hr
  rw [List.append_nil] at this
  unfold evOf; rw [this]
theorem evOf_more (sc : ByteArray) (es : List At) (c : UInt8) (hs : sc.size ≤ 255) (hl : es.length ≤ 255) (h : ∀ a ∈ es, CanA a ∧ a.nm.size ≤ 255) (hr : rightE es = true) : evOf (encE sc es ++ [c]) = none := by
  have := rEvent_enc sc es [c] hs hl h hr
  unfold evOf; rw [this]

theorem rText_more {l t : List UInt8} {s : ByteArray} (h : rText l = some (s, t)) (r : List UInt8) : rText (l ++ r) = some (s, t ++ r) := by
  obtain ⟨hs, rfl⟩ := rText_inv h
  rw [List.append_assoc]; exact rText_enc s hs _
theorem rLong_more {l t : List UInt8} {k : Int} (h : rLong l = some (k, t)) (r : List UInt8) : rLong (l ++ r) = some (k, t ++ r) := by
  obtain ⟨x, rfl, hx, rfl⟩ := rLong_inv h
  rw [List.append_assoc]; exact rLong_enc x hx _
theorem rValue_more {nm : ByteArray} {l t : List UInt8} {a : At} (h : rValue nm l = some (a, t)) (r : List UInt8) : rValue nm (l ++ r) = some (a, t ++ r) := by
  cases l with
  | nil => cases h
  | cons c l =>
    simp only [List.cons_append, rValue] at h ⊢
    split at h
    · rename_i hk
      rw [if_pos hk]
      obtain ⟨⟨m, t2⟩, hm, he⟩ := Option.map_eq_some_iff.1 h
      rw [rLong_more hm r, Option.map_some]
      simp only [Prod.mk.injEq] at he
      rw [he.1, he.2]
    · rename_i hk
      rw [if_neg hk]
      split at h
      · rename_i hk
        rw [if_pos hk]
        obtain ⟨⟨m, t2⟩, hm, he⟩ := Option.map_eq_some_iff.1 h
        simp only [Prod.mk.injEq] at he
        have : rNum (l ++ r) = some (m, t2 ++ r) := by
          simp only [rNum] at hm ⊢
          cases hl : rLong l with
          | none => rw [hl] at hm; cases hm
          | some p =>
            obtain ⟨k, t3⟩ := p
            rw [hl] at hm
            rw [rLong_more hl r]
            simp only [] at hm ⊢
            by_cases hb : (fback k).2 = true
            · rw [if_pos hb] at hm ⊢
              simp only [Option.some.injEq, Prod.mk.injEq] at hm
              rw [hm.1, hm.2]
            · rw [if_neg hb] at hm; cases hm
        rw [this, Option.map_some, he.1, he.2]
      · rename_i hk
        rw [if_neg hk]
        split at h
        · rename_i hk
          rw [if_pos hk]
          obtain ⟨⟨m, t2⟩, hm, he⟩ := Option.map_eq_some_iff.1 h
          simp only [Prod.mk.injEq] at he
          have : rShort (l ++ r) = some (m, t2 ++ r) := by
            simp only [rShort] at hm ⊢
            cases hl : rText l with
            | none => rw [hl] at hm; cases hm
            | some p =>
              obtain ⟨k, t3⟩ := p
              rw [hl] at hm
              rw [rText_more hl r]
              simp only [] at hm ⊢
              by_cases hb : (k.size : Int) ≤ 40
              · rw [if_pos hb] at hm ⊢
                simp only [Option.some.injEq, Prod.mk.injEq] at hm
                rw [hm.1, hm.2]
              · rw [if_neg hb] at hm; cases hm
          rw [this, Option.map_some, he.1, he.2]
        · rename_i hk
          rw [if_neg hk]
          split at h
          · rename_i hk
            rw [if_pos hk]
            obtain ⟨⟨m, t2⟩, hm, he⟩ := Option.map_eq_some_iff.1 h
            simp only [Prod.mk.injEq] at he
            have : rYes (l ++ r) = some (m, t2 ++ r) := by
              cases l with
              | nil => cases hm
              | cons d l =>
                simp only [rYes, rByte, List.cons_append] at hm ⊢
                by_cases hb : (d.toNat : Int) ≤ 1
                · rw [if_pos hb] at hm ⊢
                  simp only [Option.some.injEq, Prod.mk.injEq] at hm
                  rw [hm.1, hm.2]
                · rw [if_neg hb] at hm; cases hm
            rw [this, Option.map_some, he.1, he.2]
          · cases h
theorem rAttrs_more : ∀ (n : Nat) {l t : List UInt8} {es : List At} (_ : rAttrs n l = some (es, t)) (r : List UInt8), rAttrs n (l ++ r) = some (es, t ++ r)
  | 0, l, t, es, h, r => by
    simp only [rAttrs, Option.some.injEq, Prod.mk.injEq] at h ⊢
    exact ⟨h.1, by rw [h.2]⟩
  | n + 1, l, t, es, h, r => by
    simp only [rAttrs] at h ⊢
    cases ha : rAttr l with
    | none => rw [ha] at h; cases h
    | some p =>
      obtain ⟨a, t1⟩ := p
      rw [ha] at h
      obtain ⟨⟨es2, t2⟩, h2, he⟩ := Option.map_eq_some_iff.1 h
      simp only [Prod.mk.injEq] at he
      have ha2 : rAttr (l ++ r) = some (a, t1 ++ r) := by
        unfold rAttr at ha ⊢
        cases ht : rText l with
        | none => rw [ht] at ha; cases ha
        | some q =>
          obtain ⟨nm, t0⟩ := q
          rw [ht] at ha
          rw [rText_more ht r]
          exact rValue_more ha r
      rw [ha2]
      simp only []
      rw [rAttrs_more n h2 r, Option.map_some, he.1, he.2]
theorem rEvent_more {l t : List UInt8} {p : ByteArray × List At} (h : rEvent l = some (p, t)) (r : List UInt8) : rEvent (l ++ r) = some (p, t ++ r) := by
  unfold rEvent at h ⊢
  cases ht : rText l with
  | none => rw [ht] at h; cases h
  | some q =>
    obtain ⟨sc, t1⟩ := q
    rw [ht] at h
    rw [rText_more ht r]
    cases t1 with
    | nil => cases h
    | cons c t1 =>
      simp only [List.cons_append] at h ⊢
      cases ha : rAttrs c.toNat t1 with
      | none => rw [ha] at h; cases h
      | some q =>
        obtain ⟨es, t3⟩ := q
        rw [ha] at h
        rw [rAttrs_more _ ha r]
        simp only [] at h ⊢
        by_cases hr : rightE es = true
        · rw [if_pos hr] at h ⊢
          simp only [Option.some.injEq, Prod.mk.injEq] at h ⊢
          exact ⟨h.1, by rw [h.2]⟩
        · rw [if_neg hr] at h; cases h
theorem evOf_less (sc : ByteArray) (es : List At) (n : Nat) (hn : n < (encE sc es).length) (hs : sc.size ≤ 255) (hl : es.length ≤ 255) (h : ∀ a ∈ es, CanA a ∧ a.nm.size ≤ 255) (hr : rightE es = true) : evOf ((encE sc es).take n) = none := by
  have h1 := rEvent_enc sc es [] hs hl h hr
  rw [List.append_nil] at h1
  unfold evOf
  cases hq : rEvent ((encE sc es).take n) with
  | none => rfl
  | some q =>
    obtain ⟨p, t⟩ := q
    have := rEvent_more hq ((encE sc es).drop n)
    rw [List.take_append_drop, h1] at this
    simp only [Option.some.injEq, Prod.mk.injEq] at this
    have h2 : (t ++ (encE sc es).drop n).length = 0 := by rw [← this.2]; rfl
    rw [List.length_append, List.length_drop] at h2
    omega
end Go.Proofs.Ytecfbbddhnkilaa
