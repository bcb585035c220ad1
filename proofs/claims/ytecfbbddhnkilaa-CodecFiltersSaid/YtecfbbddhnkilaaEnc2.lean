/- Plain facts on bytes: events. -/
import Derived.Test.YtecfbbddhnkilaaEnc
namespace Go.Proofs.Ytecfbbddhnkilaa
open Go.RowKit Go.Shelf Go.Sort
open Go.Proofs
set_option maxRecDepth 100000

theorem rAttrs_inv : ∀ (n : Nat) (l t : List UInt8) (es : List At), rAttrs n l = some (es, t) → l = es.flatMap encAt ++ t ∧ (∀ a ∈ es, TellA a) ∧ es.length = n
  | 0, l, t, es, h => by
    simp only [rAttrs, Option.some.injEq, Prod.mk.injEq] at h
    obtain ⟨rfl, rfl⟩ := h
    exact ⟨rfl, by simp, rfl⟩
  | n + 1, l, t, es, h => by
    simp only [rAttrs] at h
    cases ha : rAttr l with
    | none => rw [ha] at h; cases h
    | some p =>
      obtain ⟨a, t1⟩ := p
      rw [ha] at h
      obtain ⟨⟨es2, t2⟩, h2, he⟩ := Option.map_eq_some_iff.1 h
      simp only [Prod.mk.injEq] at he
      obtain ⟨rfl, rfl⟩ := he
      obtain ⟨h3, h4, h5⟩ := rAttrs_inv n t1 t2 es2 h2
      unfold rAttr at ha
      cases ht : rText l with
      | none => rw [ht] at ha; cases ha
      | some q =>
        obtain ⟨nm, t0⟩ := q
        rw [ht] at ha
        obtain ⟨hs, rfl⟩ := rText_inv ht
        obtain ⟨hv1, hv2, hv3, hv4⟩ := rValue_inv ha
        refine ⟨?_, ?_, by simp [h5]⟩
        · rw [hv1, h3, List.flatMap_cons, encAt, hv4]; simp
        · intro b hb
          rcases List.mem_cons.1 hb with rfl | hb
          · exact ⟨by rw [hv4]; exact hs, hv2, hv3⟩
          · exact h4 b hb
theorem rEvent_inv {l t : List UInt8} {sc : ByteArray} {es : List At} (h : rEvent l = some ((sc, es), t)) :
    l = encE sc es ++ t ∧ (∀ a ∈ es, TellA a) ∧ sc.size ≤ 255 ∧ es.length ≤ 255 ∧ rightE es = true := by
  unfold rEvent at h
  cases ht : rText l with
  | none => rw [ht] at h; cases h
  | some p =>
    obtain ⟨sc2, t1⟩ := p
    rw [ht] at h
    cases t1 with
    | nil => cases h
    | cons c t1 =>
      simp only [] at h
      cases ha : rAttrs c.toNat t1 with
      | none => rw [ha] at h; cases h
      | some q =>
        obtain ⟨es2, t3⟩ := q
        rw [ha] at h
        simp only [] at h
        by_cases hr : rightE es2 = true
        · rw [if_pos hr] at h
          simp only [Option.some.injEq, Prod.mk.injEq] at h
          obtain ⟨⟨rfl, rfl⟩, rfl⟩ := h
          obtain ⟨hs, rfl⟩ := rText_inv ht
          obtain ⟨h1, h2, h3⟩ := rAttrs_inv _ _ _ _ ha
          have := c.toNat_lt
          refine ⟨?_, h2, hs, by omega, hr⟩
          rw [h1, encE, h3, u8_ofNat_toNat]; simp
        · rw [if_neg hr] at h; cases h
theorem evOf_inv {l : List UInt8} {sc : ByteArray} {es : List At} (h : evOf l = some (sc, es)) :
    l = encE sc es ∧ (∀ a ∈ es, TellA a) ∧ sc.size ≤ 255 ∧ es.length ≤ 255 ∧ rightE es = true := by
  unfold evOf at h
  cases hr : rEvent l with
  | none => rw [hr] at h; cases h
  | some p =>
    obtain ⟨⟨sc2, es2⟩, t⟩ := p
    rw [hr] at h
    cases t with
    | cons c t => cases h
    | nil =>
      injection h with h
      injection h with h1 h2
      subst h1 h2
      obtain ⟨h1, h2⟩ := rEvent_inv hr
      exact ⟨by simpa using h1, h2⟩
end Go.Proofs.Ytecfbbddhnkilaa
