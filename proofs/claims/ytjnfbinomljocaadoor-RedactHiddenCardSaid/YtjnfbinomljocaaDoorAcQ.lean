/- gazetteref10's Home, MayPublish, MayObserve. -/
import Derived.Test.YtjnfbinomljocaaDoorAcH
import Derived.Test.YtjnfbinomljocaaDoorFilRM
import Derived.Test.YtjnfbinomljocaaDoorGaJ
import Derived.Test.YtjnfbinomljocaaDoorBwV
namespace Go.Proofs.YtjnfbinomljocaaDoor
open Go.RowKit Go.Shelf
open Go.Proofs
set_option maxRecDepth 100000
attribute [local irreducible] wpQuiet

def rhomeI (rs : List Ru) (tn : Int) (who : ByteArray) : Int := rs.foldl (fun a r => if ofR r 0 tn who then r.br else a) (-1)
theorem rhomeI_snoc (rs : List Ru) (tn : Int) (who : ByteArray) (r : Ru) : rhomeI (rs ++ [r]) tn who = if ofR r 0 tn who then r.br else rhomeI rs tn who := by
  unfold rhomeI; rw [List.foldl_append]; rfl
theorem homeR_snoc (rs : List Ru) (tn : Int) (who : ByteArray) (r : Ru) : homeR (rs ++ [r]) tn who = if ofR r 0 tn who then some r.br else homeR rs tn who := by
  unfold homeR
  rw [List.reverse_append]
  show Option.map _ (List.find? _ (r :: rs.reverse)) = _
  rw [List.find?_cons]
  cases h : ofR r 0 tn who <;> simp
theorem rhomeI_home (tn : Int) (who : ByteArray) : ∀ (n : Nat) (rs : List Ru), rs.length = n → rhomeI rs tn who = (homeR rs tn who).getD (-1)
  | 0, rs, h => by rw [List.eq_nil_of_length_eq_zero h]; rfl
  | n + 1, rs, h => by
    rcases List.eq_nil_or_concat rs with rfl | ⟨l, r, rfl⟩
    · simp at h
    · simp only [List.concat_eq_append] at h ⊢
      rw [rhomeI_snoc, homeR_snoc, rhomeI_home tn who n l (by simpa using h)]
      cases ofR r 0 tn who <;> simp
/-- Of rules that may be no home is below 0. -/
theorem homeR_nonneg {rs : List Ru} {tn : Int} {who : ByteArray} (h : ∀ r ∈ rs, rrightB r = true) (b : Int) (hb : homeR rs tn who = some b) : 0 ≤ b := by
  unfold homeR at hb
  obtain ⟨r, hr, rfl⟩ := Option.map_eq_some_iff.1 hb
  have hm := List.mem_of_find?_eq_some hr
  have hp := List.find?_some hr
  have h1 := h r (by simpa using hm)
  unfold ofR at hp
  simp only [Bool.and_eq_true, beq_iff_eq] at hp
  unfold rrightB at h1
  rw [if_pos hp.1] at h1
  simp only [Bool.and_eq_true, decide_eq_true_eq] at h1
  exact h1.2.1
theorem rhome_sign {rs : List Ru} {tn : Int} {who : ByteArray} (h : ∀ r ∈ rs, rrightB r = true) : decide (rhomeI rs tn who < 0) = !homeB rs tn who := by
  rw [rhomeI_home tn who _ rs rfl]
  unfold homeB
  cases hr : homeR rs tn who with
  | none => rfl
  | some b =>
    have := homeR_nonneg h b hr
    simp; omega
theorem row_of {w W : World} {ao : Option Addr} {rs : List Ru} (h : RulesB w.heap.size w ao rs) (hW : Below w.heap.size w W) (hlt : 0 < rs.length) : ∃ b off, ao = some ⟨b, off, none⟩ ∧ b < w.heap.size ∧ RowR W b off rs := by
  rcases h.1 with h | ⟨b, off, h1, h2, h3⟩
  · rw [h] at hlt; simp at hlt
  · exact ⟨b, off, h1, h2, RowR.below hW h2 h3⟩
theorem ofR_ways (rk rt : Int) (rw1 : ByteArray) (k tn : Int) (who : ByteArray) : ((rk == k) = false ∨ (rk == k) = true ∧ (rt == tn) = false ∨ (rk == k) = true ∧ (rt == tn) = true ∧ (rw1.toList == who.toList) = false) ∨ ((rk == k) = true ∧ (rt == tn) = true ∧ (rw1.toList == who.toList) = true) := by
  cases (rk == k) <;> cases (rt == tn) <;> cases (rw1.toList == who.toList) <;> simp

end Go.Proofs.YtjnfbinomljocaaDoor
