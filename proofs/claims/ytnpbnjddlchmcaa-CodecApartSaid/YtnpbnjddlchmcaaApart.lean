/- Plain facts: unlike events that may be have unlike bytes. -/
import Derived.Test.YtnpbnjddlchmcaaNewC
namespace Go.Proofs.Ytnpbnjddlchmcaa
open Go.RowKit Go.Shelf Go.Sort
open Go.Proofs
set_option maxRecDepth 100000

theorem bytes_eq {s t : ByteArray} (h : (s.toList == t.toList) = true) : s = t := by
  rw [beq_iff_eq, bytes_toList, bytes_toList] at h
  apply ByteArray.ext
  exact Array.toList_inj.1 h
theorem can_eq {p q : At} (hp : CanA p) (hq : CanA q) (h : sameA p q = true) : p = q := by
  obtain ⟨nm, k, n, x, s, y⟩ := p
  obtain ⟨nm2, k2, n2, x2, s2, y2⟩ := q
  simp only [sameA, vsame, Bool.and_eq_true] at h
  obtain ⟨hnm, hk, hv⟩ := h
  obtain rfl := bytes_eq hnm
  obtain rfl : k = k2 := by simpa using hk
  have h1 := hp.can; have h2 := hq.can
  have hx := hp.x; have hx2 := hq.x
  have hvr := hp.v
  simp only [vrightB, Bool.and_eq_true, decide_eq_true_eq] at hvr
  simp only [] at hx hx2 hvr
  rcases (show k = 0 ∨ k = 1 ∨ k = 2 ∨ k = 3 by omega) with rfl | rfl | rfl | rfl
  · simp [canonA] at h1 h2
    simp [sameV] at hv
    obtain ⟨rfl, rfl, rfl⟩ := h1
    obtain ⟨rfl, rfl, rfl⟩ := h2
    rw [hv]
  · simp [canonA] at h1 h2
    simp [sameV] at hv
    obtain ⟨rfl, e1, rfl, rfl⟩ := h1
    obtain ⟨rfl, e2, rfl, rfl⟩ := h2
    have b1 := back_key x hx
    have b2 := back_key x2 hx2
    rw [hv, b2] at b1
    injection b1 with b1 _
    rw [e1, e2] at b1
    rw [b1]
  · simp [canonA] at h1 h2
    have hv' : (s.toList == s2.toList) = true := by simpa [sameV] using hv
    obtain ⟨rfl, rfl, rfl⟩ := h1
    obtain ⟨rfl, rfl, rfl⟩ := h2
    obtain rfl := bytes_eq hv'
    rfl
  · simp [canonA] at h1 h2
    simp [sameV] at hv
    obtain ⟨rfl, rfl, rfl⟩ := h1
    obtain ⟨rfl, rfl, rfl⟩ := h2
    rw [hv]
theorem sameL_eq {r1 r2 : List At} (h1 : ∀ a ∈ r1, CanA a) (h2 : ∀ a ∈ r2, CanA a) (h : sameL r1 r2 = true) : r1 = r2 := by
  simp only [sameL, Bool.and_eq_true, decide_eq_true_eq, List.all_eq_true, List.mem_range] at h
  refine List.ext_getElem h.1 fun i hi1 hi2 => ?_
  have := h.2 i hi1
  rw [getElem!_pos r1 i hi1, getElem!_pos r2 i hi2] at this
  exact can_eq (h1 _ (List.getElem_mem hi1)) (h2 _ (List.getElem_mem hi2)) this
theorem bstr_inj {l m : List UInt8} (h : bstr l = bstr m) : l = m := by
  have := congrArg (fun b => b.data.toList) h
  simpa [bstr] using this
theorem apart_eq (s : ByteArray) (r1 r2 : List At) (hs : s.size ≤ 255) (g1 : Good4 r1) (g2 : Good4 r2) (h1 : rightE r1 = true) (h2 : rightE r2 = true) :
    ((bstr (encE s r1)).toList == (bstr (encE s r2)).toList) = sameL r1 r2 := by
  cases h : sameL r1 r2 with
  | true =>
    obtain rfl := sameL_eq (fun a ha => (g1.can a ha).1) (fun a ha => (g2.can a ha).1) h
    simp
  | false =>
    cases hb : ((bstr (encE s r1)).toList == (bstr (encE s r2)).toList) with
    | false => rfl
    | true =>
      have e := bstr_inj (bytes_eq hb)
      have d1 := evOf_enc s r1 hs g1.len g1.can h1
      have d2 := evOf_enc s r2 hs g2.len g2.can h2
      rw [e, d2] at d1
      injection d1 with d1
      injection d1 with _ d1
      rw [d1, sameL_refl4] at h
      cases h
end Go.Proofs.Ytnpbnjddlchmcaa
