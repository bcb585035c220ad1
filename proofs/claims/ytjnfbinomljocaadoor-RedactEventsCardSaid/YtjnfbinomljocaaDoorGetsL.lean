/- Plain facts for the laws that call event.New, Get. -/
import Derived.Test.YtjnfbinomljocaaDoorGaC
import Derived.Test.YtjnfbinomljocaaDoorSameE
import Derived.Test.YtjnfbinomljocaaDoorGet
namespace Go.Proofs.YtjnfbinomljocaaDoor
open Go.RowKit Go.Shelf Go.Sort
open Go.Proofs
set_option maxRecDepth 100000

theorem SliceA.below {w w' : World} {ao : Option Addr} {l : List At} (h : SliceA w ao l) (hb : Below w.heap.size w w') : SliceA w' ao l := by
  rcases h with h | ⟨b, off, h1, h2, h3⟩
  · exact Or.inl h
  · exact Or.inr ⟨b, off, h1, Nat.lt_of_lt_of_le h2 hb.size, RowAt.below hb h2 h3⟩
theorem vsame_refl (a : At) : vsame a a = true := by
  unfold vsame sameV; simp
theorem sameL_refl (l : List At) : sameL l l = true := by
  unfold sameL sameA
  simp [vsame_refl]
theorem getA_key (l : List At) (name : ByteArray) : getA l name = l.find? (fun a => keyA a == name.data.toList) := by
  unfold getA keyA
  congr 1
  funext a
  rw [bytes_toList, bytes_toList]
theorem get_new {l res : List At} (h : NewOf l res) (name : ByteArray) : getA res name = (getA l.reverse name).map canonA := by
  rw [getA_key, getA_key, h.find]
theorem light_len {l : List At} (h : lightB l = true) : l.length ≤ 30 := by
  simp only [lightB, Bool.and_eq_true, decide_eq_true_eq] at h
  exact h.2
theorem rev_get (l : List At) (q : Nat) (h : q < l.length) : l.reverse = (l.drop (q + 1)).reverse ++ (l[q]! :: (l.take q).reverse) := by
  have h1 := List.take_append_drop q l
  rw [List.drop_eq_getElem_cons h, ← getElem!_pos l q h] at h1
  conv => lhs; rw [← h1]
  rw [List.reverse_append, List.reverse_cons, List.append_assoc]
  rfl
theorem drop_get (l : List At) (q : Nat) (h : q < l.length) (name : ByteArray) (hn : getA (l.drop (q + 1)).reverse name = none) (hf : (l[q]!.nm.toList == name.toList) = false) : getA (l.drop q).reverse name = none := by
  rw [List.drop_eq_getElem_cons h, ← getElem!_pos l q h, List.reverse_cons]
  unfold getA at hn ⊢
  rw [List.find?_append, hn, List.find?_cons, hf]; rfl
end Go.Proofs.YtjnfbinomljocaaDoor
