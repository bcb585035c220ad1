/- Conditions as they are kept: they hold, and are void, as they were. -/
import Derived.Test.YtjeippdfgojdnaaGreatDoorCondP
import Derived.Test.YtjeippdfgojdnaaGreatDoorCanP
namespace Go.Proofs.YtjeippdfgojdnaaGreatDoor
open Go.RowKit Go.Shelf
open Go.Proofs

/-- A condition as it is kept. -/
def canonC (c : Cn) : Cn := if c.op == 7 then ⟨⟨c.a.nm, 0, 0, 0, ⟨#[]⟩, false⟩, c.op⟩ else ⟨canonA c.a, c.op⟩
theorem canonC_nm (c : Cn) : (canonC c).a.nm = c.a.nm := by
  unfold canonC; split
  · rfl
  · exact canonA_nm c.a
theorem canonC_op (c : Cn) : (canonC c).op = c.op := by unfold canonC; split <;> rfl
/-- A kind that is one. -/
def KindB (a : At) : Prop := 0 ≤ a.k ∧ a.k ≤ 3
theorem canonA_k {a : At} (h : KindB a) : (canonA a).k = a.k := by
  obtain ⟨nm, k, n, x, s, y⟩ := a
  have h0 := h.1; have h1 := h.2
  simp only [] at h0 h1
  rcases (show k = 0 ∨ k = 1 ∨ k = 2 ∨ k = 3 by omega) with rfl | rfl | rfl | rfl <;> rfl
theorem fnan_canon (x : Nat) : fnan (fcanon x) = fnan x := by
  cases h : fnan x
  · exact (canon_num h).1
  · rw [canon_nan h]; decide +kernel
theorem voidB_canon (a : At) (h : KindB a) : voidB (canonA a).k (canonA a).x = voidB a.k a.x := by
  obtain ⟨nm, k, n, x, s, y⟩ := a
  have h0 := h.1; have h1 := h.2
  simp only [] at h0 h1
  rcases (show k = 0 ∨ k = 1 ∨ k = 2 ∨ k = 3 by omega) with rfl | rfl | rfl | rfl
  · rfl
  · show ((1 : Int) == 1 && fnan (fcanon x)) = ((1 : Int) == 1 && fnan x)
    rw [fnan_canon]
  · rfl
  · rfl
theorem cmpA_canon (v a : At) (h : KindB a) (hk : v.k = a.k) : cmpA v (canonA a) = cmpA v a := by
  obtain ⟨nm, k, n, x, s, y⟩ := a
  obtain ⟨nm2, k2, n2, x2, s2, y2⟩ := v
  have h0 := h.1; have h1 := h.2
  simp only [] at h0 h1 hk
  subst hk
  rcases (show k2 = 0 ∨ k2 = 1 ∨ k2 = 2 ∨ k2 = 3 by omega) with rfl | rfl | rfl | rfl
  · rfl
  · show sgn (fkey x2) (fkey (fcanon x)) = sgn (fkey x2) (fkey x)
    rw [fkey_canon]
  · rfl
  · rfl
theorem holds_canon (c : Cn) (v : At) (h : KindB c.a) : holdsB (canonC c) v = holdsB c v := by
  unfold canonC
  by_cases h7 : (c.op == 7) = true
  · rw [if_pos h7]; unfold holdsB; rw [if_pos h7, if_pos h7]
  · rw [if_neg h7]
    unfold holdsB
    rw [if_neg h7, if_neg h7]
    simp only []
    rw [canonA_k h]
    by_cases h6 : (c.op == 6) = true
    · rw [if_pos h6, if_pos h6]
      by_cases hk : c.a.k = 2
      · have : (canonA c.a).s = c.a.s := by
          unfold canonA; rw [hk]; rfl
        rw [this]
      · have : (c.a.k == 2) = false := by simpa using hk
        rw [this]; rfl
    · rw [if_neg h6, if_neg h6]
      have hok : okA v (canonA c.a) = okA v c.a := by
        unfold okA cmpOk
        rw [canonA_k h]
        have := voidB_canon c.a h
        rw [canonA_k h] at this
        rw [this]
      rw [hok]
      cases ho : okA v c.a
      · rfl
      · rw [cmpA_canon v c.a h (okA_k ho).1]
theorem cvoid_canon (c : Cn) (h : KindB c.a) : cvoidB (canonC c) = cvoidB c := by
  unfold canonC
  by_cases h7 : (c.op == 7) = true
  · rw [if_pos h7]; unfold cvoidB; rw [if_pos h7, if_pos h7]
  · rw [if_neg h7]
    unfold cvoidB
    rw [if_neg h7, if_neg h7]
    simp only []
    have hv := voidB_canon c.a h
    rw [canonA_k h] at hv ⊢
    rw [hv]
end Go.Proofs.YtjeippdfgojdnaaGreatDoor
