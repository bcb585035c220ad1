/- The document's own answers for conditions (gazetteref06): they are what package cond's are. (Written by gen_condr.py.) -/
import Derived.Test.YtliobglhppejiaaGreatDoorCondI
import Derived.Deep.RegionWith
namespace Go.Proofs.YtliobglhppejiaaGreatDoor
open Go.RowKit Go.Shelf
open Go.Proofs
set_option maxRecDepth 100000

/-! ### Texts -/
theorem len_data (a : ByteArray) : a.data.toList.length = a.size := Array.length_toList
theorem byt_at (a : ByteArray) (j : Nat) (h : j < a.data.toList.length) : byt a j = ((a.data.toList[j]'h).toNat : Int) := by
  have h2 : j < a.data.size := by simpa using h
  unfold byt
  rw [getElem!_pos a.data j h2]
  simp
theorem sgs_at (a b : ByteArray) (j : Nat) (ha : j < a.size) (hb : j < b.size) (he : ∀ i, i < j → byt a i = byt b i) (h : byt a j < byt b j) : sgs a b = -1 := by
  have ha' : j < a.data.toList.length := by rw [len_data]; exact ha
  have hb' : j < b.data.toList.length := by rw [len_data]; exact hb
  have hlt : a.toList < b.toList := by
    rw [bytes_toList, bytes_toList, List.lt_iff_exists]
    refine Or.inr ⟨j, ha', hb', fun i hi => ?_, ?_⟩
    · have e := he i hi
      rw [byt_at a i (by omega), byt_at b i (by omega)] at e
      exact UInt8.toNat_inj.1 (by omega)
    · rw [byt_at a j ha', byt_at b j hb'] at h
      exact UInt8.lt_iff_toNat_lt.2 (by omega)
  rw [sgs_eq, if_pos hlt]
theorem sgs_short (a b : ByteArray) (he : ∀ i, i < a.size → byt a i = byt b i) (h : a.size < b.size) : sgs a b = -1 := by
  have hlt : a.toList < b.toList := by
    rw [bytes_toList, bytes_toList, List.lt_iff_exists]
    have la := len_data a
    have lb := len_data b
    refine Or.inl ⟨?_, by omega⟩
    apply List.ext_getElem
    · rw [List.length_take]; omega
    · intro i h1 h2
      have e := he i (by omega)
      rw [byt_at a i h1, byt_at b i (by omega)] at e
      rw [List.getElem_take]
      exact UInt8.toNat_inj.1 (by omega)
  rw [sgs_eq, if_pos hlt]
theorem sgs_same (a b : ByteArray) (he : ∀ i, i < a.size → byt a i = byt b i) (h : a.size = b.size) : sgs a b = 0 := by
  have la := len_data a
  have lb := len_data b
  have : a.toList = b.toList := by
    rw [bytes_toList, bytes_toList]
    apply List.ext_getElem
    · omega
    · intro i h1 h2
      have e := he i (by omega)
      rw [byt_at a i h1, byt_at b i h2] at e
      exact UInt8.toNat_inj.1 (by omega)
  rw [sgs_eq, this, if_neg (List.lt_irrefl _), if_pos rfl]
theorem fl_tri2 (x x2 : Nat) (h1 : fnan x = false) (h2 : fnan x2 = false) : (sgn (fkey x) (fkey x2) = -1 ∧ (FloatKind.f64.format.order x x2 == some .lt) = true ∧ (FloatKind.f64.format.order x x2 == some .gt) = false) ∨
    (sgn (fkey x) (fkey x2) = 0 ∧ (FloatKind.f64.format.order x x2 == some .lt) = false ∧ (FloatKind.f64.format.order x x2 == some .gt) = false) ∨
    (sgn (fkey x) (fkey x2) = 1 ∧ (FloatKind.f64.format.order x x2 == some .lt) = false ∧ (FloatKind.f64.format.order x x2 == some .gt) = true) := by
  have k1 := @fkey_lt x x2 h1 h2
  have k2 := @fkey_lt x2 x h2 h1
  unfold sgn
  rcases (by omega : fpos x < fpos x2 ∨ fpos x = fpos x2 ∨ fpos x2 < fpos x) with h | h | h
  · have o := ford_of_lt h1 h2 _ (ford_lt h)
    rw [o]
    exact .inl ⟨if_pos (k1.2 h), rfl, rfl⟩
  · have o := ford_of_lt h1 h2 _ (ford_eq h)
    rw [o]
    exact .inr (.inl ⟨by rw [if_neg (by omega), if_neg (by omega)], rfl, rfl⟩)
  · have o := ford_of_lt h1 h2 _ (ford_gt h)
    rw [o]
    exact .inr (.inr ⟨by rw [if_neg (by omega), if_pos (k2.2 h)], rfl, rfl⟩)

end Go.Proofs.YtliobglhppejiaaGreatDoor
