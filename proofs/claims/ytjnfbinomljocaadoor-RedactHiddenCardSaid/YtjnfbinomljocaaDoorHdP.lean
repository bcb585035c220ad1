/- What rules hide, plainly: the names, rising, each once. -/
import Derived.Test.YtjnfbinomljocaaDoorAcW
import Derived.Test.YtjnfbinomljocaaDoorWithout
import Derived.Sort.Walk0
import Derived.Lib.SlicesCompact
import Derived.Lib.RowBridge
namespace Go.Lib
open Go.Sort
theorem compact_mem {α : Type} [Inhabited α] [DecidableEq α] (zs : List α) (x : α) : x ∈ compact zs ↔ x ∈ zs := by
  have h1 : ∀ i, i < zs.length → zs.toArray[i]! ∈ compact zs := by
    intro i
    induction i with
    | zero => intro hi; exact List.mem_map.2 ⟨0, List.mem_filter.2 ⟨List.mem_range.2 hi, by simp [keeps]⟩, rfl⟩
    | succ i ih =>
      intro hi
      by_cases h : zs.toArray[i + 1]! = zs.toArray[i]!
      · rw [h]; exact ih (by omega)
      · exact List.mem_map.2 ⟨i + 1, List.mem_filter.2 ⟨List.mem_range.2 hi, keeps_pos (by simpa using h)⟩, rfl⟩
  constructor
  · intro h
    obtain ⟨i, hi, rfl⟩ := List.mem_map.1 h
    have hl := List.mem_range.1 (List.mem_filter.1 hi).1
    have : zs.toArray[i]! = zs[i] := by rw [getElem!_pos zs.toArray i (by simpa using hl)]; simp
    rw [this]; exact List.getElem_mem _
  · intro h
    obtain ⟨i, hi, rfl⟩ := List.getElem_of_mem h
    have := h1 i hi
    rwa [show zs.toArray[i]! = zs[i] by rw [getElem!_pos zs.toArray i (by simpa using hi)]; simp] at this
theorem compact_rise (zs : List (List UInt8)) (h : zs.Pairwise (fun a b => a ≤ b)) : (compact zs).Pairwise (fun a b => a < b) := by
  unfold compact compactUpTo
  rw [List.pairwise_map]
  refine List.Pairwise.imp_of_mem ?_ ((List.pairwise_lt_range (n := zs.length)).filter _)
  intro i j hi hj hij
  have hjl := List.mem_range.1 (List.mem_filter.1 hj).1
  have hk := (List.mem_filter.1 hj).2
  have e : ∀ k, k < zs.length → zs.toArray[k]! = zs[k]! := fun k hk => by
    rw [getElem!_pos zs.toArray k (by simpa using hk), getElem!_pos zs k hk]; simp
  have hne : zs[j]! ≠ zs[j - 1]! := by
    unfold keeps at hk
    have := of_decide_eq_true hk
    rcases this with h0 | h0
    · omega
    · rwa [e j hjl, e (j - 1) (by omega)] at h0
  have hle : ∀ a b, a < b → b < zs.length → zs[a]! ≤ zs[b]! := fun a b hab hb => by
    rw [getElem!_pos zs a (by omega), getElem!_pos zs b hb]
    exact List.pairwise_iff_getElem.1 h a b (by omega) hb hab
  rw [e i (by omega), e j hjl]
  have h2 : zs[j - 1]! < zs[j]! := by
    have h3 := hle (j - 1) j (by omega) hjl
    refine List.not_le.1 fun h4 => hne ?_
    exact List.le_antisymm h4 h3
  by_cases h5 : i = j - 1
  · rw [h5]; exact h2
  · have h6 := hle i (j - 1) (by omega) (by omega)
    exact List.lt_of_le_of_lt h6 h2
theorem sort_le (zs : List (List UInt8)) : (zs.mergeSort fun x y => decide (x ≤ y)).Pairwise (fun a b => a ≤ b) := by
  have := List.pairwise_mergeSort (le := fun x y : List UInt8 => decide (x ≤ y)) (fun a b c h1 h2 => by simp only [decide_eq_true_eq] at *; exact List.le_trans h1 h2) (fun a b => by simp only [Bool.or_eq_true, decide_eq_true_eq]; exact List.le_total a b) zs
  exact this.imp (fun h => of_decide_eq_true h)
end Go.Lib
namespace Go.Proofs.YtjnfbinomljocaaDoor
open Go.RowKit Go.Shelf Go.Sort
open Go.Proofs
set_option maxRecDepth 100000

def hideB (tn : Int) (who s : ByteArray) (r : Ru) : Bool := ofR r 3 tn who && underB s r.sc
/-- The names as they are told. -/
def hidL (rs : List Ru) (tn : Int) (who s : ByteArray) : List (List UInt8) := (rs.filter (hideB tn who s)).map (·.nm.data.toList)
abbrev sortL (l : List (List UInt8)) : List (List UInt8) := l.mergeSort fun x y => decide (x ≤ y)
def hidN (rs : List Ru) (tn : Int) (who s : ByteArray) : List ByteArray := (Lib.compact (sortL (hidL rs tn who s))).map bsOf
theorem bsOf_inj {a b : List UInt8} (h : bsOf a = bsOf b) : a = b := by
  have := congrArg (fun x : ByteArray => x.data.toList) h
  simpa [data_bsOf] using this
theorem hidN_mem (rs : List Ru) (tn : Int) (who s n : ByteArray) : n ∈ hidN rs tn who s ↔ ∃ r ∈ rs, hideB tn who s r = true ∧ r.nm = n := by
  unfold hidN
  rw [List.mem_map]
  constructor
  · rintro ⟨x, hx, rfl⟩
    rw [Lib.compact_mem, List.mem_mergeSort] at hx
    obtain ⟨r, hr, rfl⟩ := List.mem_map.1 hx
    obtain ⟨h1, h2⟩ := List.mem_filter.1 hr
    exact ⟨r, h1, h2, (bsOf_data r.nm).symm⟩
  · rintro ⟨r, h1, h2, rfl⟩
    refine ⟨r.nm.data.toList, ?_, bsOf_data r.nm⟩
    rw [Lib.compact_mem, List.mem_mergeSort]
    exact List.mem_map.2 ⟨r, List.mem_filter.2 ⟨h1, h2⟩, rfl⟩
theorem hidN_has (rs : List Ru) (tn : Int) (who s n : ByteArray) : Lib.containsS (hidN rs tn who s) n = rs.any fun r => hideB tn who s r && (r.nm.toList == n.toList) := by
  rw [Bool.eq_iff_iff, Lib.containsS_iff, hidN_mem, List.any_eq_true]
  constructor
  · rintro ⟨r, h1, h2, rfl⟩; exact ⟨r, h1, by simp [h2]⟩
  · rintro ⟨r, h1, h2⟩
    simp only [Bool.and_eq_true, beq_iff_eq] at h2
    refine ⟨r, h1, h2.1, ?_⟩
    have := h2.2
    rw [bytes_toList, bytes_toList] at this
    rw [← bsOf_data r.nm, this, bsOf_data]
theorem hidN_rise (rs : List Ru) (tn : Int) (who s : ByteArray) : (hidN rs tn who s).Pairwise (fun a b => Op.bytesLess a.toList b.toList = true) := by
  unfold hidN
  rw [List.pairwise_map]
  refine (Lib.compact_rise _ (Lib.sort_le _)).imp (fun {a b} h => ?_)
  rw [bytesLess_eq, bytes_toList, bytes_toList, data_bsOf, data_bsOf]
  exact decide_eq_true h
theorem hidN_len (rs : List Ru) (tn : Int) (who s : ByteArray) : (hidN rs tn who s).length ≤ rs.length := by
  unfold hidN
  rw [List.length_map]
  refine Nat.le_trans (Lib.compact_length_le _) ?_
  rw [List.length_mergeSort]
  unfold hidL
  rw [List.length_map]
  exact List.length_filter_le _ _
end Go.Proofs.YtjnfbinomljocaaDoor
