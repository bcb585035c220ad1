/- What event.New hands back, for the laws of layer 4. -/
import Derived.Test.YtnpbnjddlchmcaaCodecAny
import Derived.Test.YtnpbnjddlchmcaaEnc3
import Derived.Test.YtnpbnjddlchmcaaSameE
namespace Go.Proofs.Ytnpbnjddlchmcaa
open Go.RowKit Go.Shelf Go.Sort
open Go.Proofs
set_option maxRecDepth 100000

theorem SliceA.under {w w' : World} {ao : Option Addr} {l : List At} (h : SliceA w ao l) (hb : Below w.heap.size w w') : SliceA w' ao l := by
  rcases h with h | ⟨b, off, h1, h2, h3⟩
  · exact Or.inl h
  · exact Or.inr ⟨b, off, h1, Nat.lt_of_lt_of_le h2 hb.size, RowAt.below hb h2 h3⟩
theorem fcanon_idem (x : Nat) : fcanon (fcanon x) = fcanon x := by
  cases h : fnan x
  · by_cases hz : frung x = 0
    · have : fcanon x = 0 := by unfold fcanon; rw [h, if_neg Bool.false_ne_true, if_pos hz]
      rw [this]; decide +kernel
    · have : fcanon x = x := by unfold fcanon; rw [h, if_neg Bool.false_ne_true, if_neg hz]
      rw [this, this]
  · rw [canon_nan h]; decide +kernel
theorem canonA_idem (a : At) : canonA (canonA a) = canonA a := by
  obtain ⟨nm, k, n, x, s, y⟩ := a
  unfold canonA
  simp only []
  by_cases h0 : (k == 0) = true
  · rw [if_pos h0]; rfl
  · rw [if_neg h0]
    by_cases h1 : (k == 1) = true
    · rw [if_pos h1]; simp [fcanon_idem]
    · rw [if_neg h1]
      by_cases h2 : (k == 2) = true
      · rw [if_pos h2]; rfl
      · rw [if_neg h2]
        by_cases h3 : (k == 3) = true
        · rw [if_pos h3]; rfl
        · rw [if_neg h3]; rfl
theorem canonA_bd (a : At) (hx : a.x < 18446744073709551616) (h0 : -9223372036854775808 ≤ a.n) (h1 : a.n ≤ 9223372036854775807) : (canonA a).x < 18446744073709551616 ∧ -9223372036854775808 ≤ (canonA a).n ∧ (canonA a).n ≤ 9223372036854775807 := by
  have hf := fcanon_lt a.x hx
  unfold canonA
  repeat' split
  all_goals simp only []
  all_goals omega

/-- What the laws know of an event that New made, and that may be. -/
structure Good4 (res : List At) : Prop where
  can : ∀ a ∈ res, CanA a ∧ a.nm.size ≤ 255
  tell : ∀ a ∈ res, TellA a
  len : res.length ≤ 255
theorem rightE_at {res : List At} (hr : rightE res = true) : res.length ≤ 8 ∧ ∀ a ∈ res, nameOk a.nm = true ∧ vrightB a.k a.s = true := by
  simp only [rightE, Bool.and_eq_true, decide_eq_true_eq, List.all_eq_true, List.mem_range] at hr
  refine ⟨hr.1, fun a ha => ?_⟩
  obtain ⟨i, hi, rfl⟩ := List.getElem_of_mem ha
  have h2 := hr.2 i hi
  simp only [okAt, Bool.and_eq_true] at h2
  rw [getElem!_pos res i hi] at h2
  exact ⟨h2.1.1.2, h2.1.2⟩
theorem nameOk_len {s : ByteArray} (h : nameOk s = true) : s.size ≤ 12 := by
  simp only [nameOk, Bool.and_eq_true, decide_eq_true_eq] at h
  exact h.1.1.2
theorem good_new {l res : List At} (hn : NewOf l res) (hl : ∀ a ∈ l, AtOk a ∧ -9223372036854775808 ≤ a.n ∧ a.n ≤ 9223372036854775807) (hr : rightE res = true) : Good4 res := by
  obtain ⟨h8, hat⟩ := rightE_at hr
  have hcan : ∀ a ∈ res, CanA a ∧ a.nm.size ≤ 255 := fun a ha => by
    obtain ⟨z, hz, rfl⟩ := hn.mem a ha
    obtain ⟨h1, h2, h3⟩ := hl z hz
    obtain ⟨b1, b2, b3⟩ := canonA_bd z h1 h2 h3
    have := nameOk_len (hat _ ha).1
    exact ⟨⟨canonA_idem z, b2, b3, b1, (hat _ ha).2⟩, by omega⟩
  refine ⟨hcan, fun a ha => ?_, by omega⟩
  obtain ⟨hc, hs⟩ := hcan a ha
  have hv := hc.v
  simp only [vrightB, Bool.and_eq_true, decide_eq_true_eq] at hv
  refine ⟨hs, ?_, hc.x⟩
  simp only [tellsV, Bool.and_eq_true, Bool.or_eq_true, decide_eq_true_eq]
  omega
theorem light_len4 {l : List At} (h : lightB l = true) : l.length ≤ 30 := by
  simp only [lightB, Bool.and_eq_true, decide_eq_true_eq] at h
  exact h.2
theorem vsame_refl4 (a : At) : vsame a a = true := by
  unfold vsame sameV; simp
theorem sameL_refl4 (l : List At) : sameL l l = true := by
  unfold sameL sameA
  simp [vsame_refl4]
end Go.Proofs.Ytnpbnjddlchmcaa
