/- Compact, CompactW, Backward: merged by merge.py. -/
import Derived.Test.YtfffmndjgjfflaaGreatDoorGaG
import Derived.Deep.DeepCutAuto
import Derived.RangeFuncNested
import Derived.RangeFuncBound
import Derived.RangeFuncCalls
import Derived.RangeFuncLeaves
import Derived.Shelf.Abstract
import Derived.Shelf.RegionOpen
import Derived.WalkKit
import Derived.OwnWalkIn
import Derived.TacticsInMore
import Derived.LoopNIn
import Derived.LoopIn
/- slices.CompactFunc at the attributes of an event, over whatever program bears its body: of neighbours that are alike the first stays. -/
namespace Go.Proofs.YtfffmndjgjfflaaGreatDoor
open Go.Shelf Go.RowKit Go.Lib Go.Sort
open Go.Proofs
variable {P : Program} {α : Type} [Inhabited α]

/-! ### Plain -/
/-- Of the first t those stay that are not like the one ahead. -/
def dd (eq : α → α → Bool) (d : Array α) : Nat → List α
  | 0 => []
  | t + 1 => if t ≠ 0 ∧ eq d[t]! d[t - 1]! = true then dd eq d t else dd eq d t ++ [d[t]!]
structure CI (eq : α → α → Bool) (d : Array α) (t m : Nat) (e : Array α) : Prop where
  size : e.size = d.size
  len : (dd eq d t).length = m
  lo : ∀ j, j < m → e[j]! = (dd eq d t)[j]!
  hi : ∀ j, t ≤ j + 1 → e[j]! = d[j]!
  lt : m < t
/-- None of the first t is like the one ahead. -/
def Whole (eq : α → α → Bool) (d : Array α) (t : Nat) : Prop := (dd eq d t).length = t ∧ ∀ j, j < t → (dd eq d t)[j]! = d[j]!
theorem Whole.one (eq : α → α → Bool) (d : Array α) : Whole eq d 1 := by
  refine ⟨by simp [dd], fun j hj => ?_⟩
  obtain rfl : j = 0 := by omega
  simp [dd]
theorem Whole.zero (eq : α → α → Bool) (d : Array α) : Whole eq d 0 := ⟨rfl, fun _ h => absurd h (Nat.not_lt_zero _)⟩
theorem get_snoc (l : List α) (x : α) (j : Nat) : (l ++ [x])[j]! = if j < l.length then l[j]! else if j = l.length then x else default := by
  simp only [getElem!_def]
  by_cases h : j < l.length
  · simp [h, List.getElem?_append_left h]
  · by_cases h2 : j = l.length
    · subst h2; simp
    · rw [if_neg h, if_neg h2, List.getElem?_eq_none (by simp; omega)]
theorem Whole.next {eq : α → α → Bool} {d : Array α} {t : Nat} (h : Whole eq d t) (ht : t ≠ 0) (he : eq d[t]! d[t - 1]! = false) : Whole eq d (t + 1) := by
  have e : dd eq d (t + 1) = dd eq d t ++ [d[t]!] := by rw [dd, if_neg (by rw [he]; simp)]
  refine ⟨by rw [e]; simp [h.1], fun j hj => ?_⟩
  rw [e, get_snoc, h.1]
  by_cases h1 : j < t
  · rw [if_pos h1]; exact h.2 j h1
  · have : j = t := by omega
    subst this; simp
theorem CI.start {eq : α → α → Bool} {d : Array α} {t : Nat} (h : Whole eq d t) (ht : t ≠ 0) (he : eq d[t]! d[t - 1]! = true) : CI eq d (t + 1) t d := by
  have e : dd eq d (t + 1) = dd eq d t := by rw [dd, if_pos ⟨ht, he⟩]
  exact ⟨rfl, by rw [e]; exact h.1, fun j hj => by rw [e]; exact (h.2 j hj).symm, fun _ _ => rfl, by omega⟩
theorem CI.skip {eq : α → α → Bool} {d e : Array α} {t m : Nat} (h : CI eq d t m e) (he : eq d[t]! d[t - 1]! = true) : CI eq d (t + 1) m e := by
  have e1 : dd eq d (t + 1) = dd eq d t := by rw [dd, if_pos ⟨by have := h.lt; omega, he⟩]
  exact ⟨h.size, by rw [e1]; exact h.len, fun j hj => by rw [e1]; exact h.lo j hj, fun j hj => h.hi j (by omega), by have := h.lt; omega⟩
theorem set_get (e : Array α) (i j : Nat) (x : α) (hi : i < e.size) : (e.setIfInBounds i x)[j]! = if j = i then x else e[j]! := by
  simp only [getElem!_def, Array.getElem?_setIfInBounds]
  by_cases h : i = j
  · subst h; simp [hi]
  · simp [h, Ne.symm h]
theorem CI.keep {eq : α → α → Bool} {d e : Array α} {t m : Nat} (h : CI eq d t m e) (ht : t < d.size) (he : eq d[t]! d[t - 1]! = false) : CI eq d (t + 1) (m + 1) (e.setIfInBounds m d[t]!) := by
  have hm := h.lt
  have e1 : dd eq d (t + 1) = dd eq d t ++ [d[t]!] := by rw [dd, if_neg (by rw [he]; simp)]
  have hs := h.size
  refine ⟨by simp [hs], by rw [e1]; simp [h.len], fun j hj => ?_, fun j hj => ?_, by omega⟩
  · rw [set_get _ _ _ _ (by omega), e1, get_snoc, h.len]
    by_cases h1 : j = m
    · subst h1; simp
    · rw [if_neg h1, if_pos (by omega)]; exact h.lo j (by omega)
  · rw [set_get _ _ _ _ (by omega), if_neg (by omega)]; exact h.hi j (by omega)

/-! ### Worlds -/
/-- All but one old block is as it was. -/
structure Apart (blk : Nat) (w w' : World) : Prop where
  os : w'.os = w.os
  tape : w'.tape = w.tape
  output : w'.output = w.output
  size : w.heap.size ≤ w'.heap.size
  block : ∀ k, k < w.heap.size → k ≠ blk → w'.heap[k]? = w.heap[k]?
theorem Apart.refl (blk : Nat) (w : World) : Apart blk w w := ⟨rfl, rfl, rfl, Nat.le_refl _, fun _ _ _ => rfl⟩
theorem Apart.trans {blk : Nat} {a b c : World} (h : Apart blk a b) (h2 : Apart blk b c) : Apart blk a c :=
  ⟨h2.os.trans h.os, h2.tape.trans h.tape, h2.output.trans h.output, Nat.le_trans h.size h2.size, fun k hk hne => (h2.block k (Nat.lt_of_lt_of_le hk h.size) hne).trans (h.block k hk hne)⟩
theorem Apart.below {blk n : Nat} {w w' : World} (h : Apart blk w w') (hn : n ≤ blk) (hw : n ≤ w.heap.size) : Below n w w' :=
  ⟨h.os, h.tape, h.output, h.size, fun k hk => h.block k (by omega) (by omega)⟩
theorem Apart.cell {blk : Nat} {w w' : World} (h : Apart blk w w') {p : Addr} (hp : p.block < w.heap.size) (hne : p.block ≠ blk) : w'.cell? p = w.cell? p := by
  simp only [World.cell?, h.block _ hp hne]
theorem Apart.frozen {blk : Nat} {w w' : World} (h : Apart blk w w') {p : Addr} (hp : p.block < w.heap.size) (hne : p.block ≠ blk) : w'.frozen? p = w.frozen? p := by
  simp only [World.frozen?, h.block _ hp hne]
theorem Apart.ofSort {enc : α → List Value} {k : Nat} {w0 W : World} {blk off : Nat} {dk : Array α} (h : SWK enc k w0 blk off dk W) : Apart blk w0 W := by
  obtain ⟨n, os, rfl⟩ := h
  unfold sortWorldK grow putRowK putRow mapBlock Sort.ahead
  refine ⟨rfl, rfl, rfl, by simp, fun k hk hne => ?_⟩
  simp only []
  rw [Array.getElem?_append_left (by simpa using hk), Array.getElem?_modify]
  simp [Ne.symm hne]
theorem Apart.setCells (blk : Nat) : ∀ (vs : List Value) (o : Nat) (w : World), Apart blk w (w.setCells blk o vs)
  | [], _, w => Apart.refl _ _
  | v :: r, o, w => by
    rw [World.setCells]
    refine Apart.trans ?_ (Apart.setCells blk r (o + 1) _)
    have hb : ∀ k, k < w.heap.size → k ≠ blk → (w.setCell ⟨blk, o, none⟩ v).heap[k]? = w.heap[k]? := fun k hk hne => by
      rw [setCell_eq]
      simp only [mapBlock, Array.getElem?_modify, Ne.symm hne, if_false]
    exact ⟨rfl, rfl, rfl, by simp, hb⟩

/-- One element of the row is laid anew. -/
theorem setMany_one (enc : α → List Value) (k : Nat) (hk : ∀ x, (enc x).length = k) (d : Array α) (i : Nat) (y : α) (hi : i < d.size) :
    setMany (flatK enc k d) (i * k) (enc y) = flatK enc k (d.setIfInBounds i y) := by
  refine ext_get! (by simp) fun t ht => ?_
  have ht' : t < d.size * k := by simpa using ht
  have k0 : 0 < k := by rcases Nat.eq_zero_or_pos k with h | h; · subst h; simp at ht'
                        · exact h
  rw [get_setMany _ _ _ t (by simpa using ht'), get_flatK _ _ _ t ht', get_flatK _ _ _ t (by simpa using ht'), hk, set_get _ _ _ _ hi]
  have m : ∀ q, t / k = q → t - q * k = t % k := fun q h => by subst h; rw [Nat.mod_eq_sub_div_mul]
  by_cases a : t / k = i
  · rw [if_pos ((blk_iff k i t k0).2 a), m i a]; simp [a]
  · rw [if_neg (fun h => a ((blk_iff k i t k0).1 h))]; simp [a]
theorem stored (enc : α → List Value) (k : Nat) {w0 W : World} {blk off : Nat} {dk d0 : Array α} (R : RowK enc k w0 blk off d0) (h : SWK enc k w0 blk off dk W) (i : Nat) (y : α) (hi : i < dk.size) :
    SWK enc k w0 blk off (dk.setIfInBounds i y) (W.setCells blk (off + i * k) (enc y)) := by
  obtain ⟨n, os, rfl⟩ := h
  refine ⟨n, os, ?_⟩
  have b : i * k + k ≤ dk.size * k := by
    have := Nat.mul_le_mul_right k (show i + 1 ≤ dk.size from hi); rwa [Nat.add_mul, Nat.one_mul] at this
  unfold sortWorldK
  rw [setCells_grow os blk _ _ _ (by rw [size_putRowK]; exact R.hblk)]
  congr 1
  unfold putRowK
  rw [setCells_putRow _ _ _ _ _ _ (by rw [R.hk, size_flatK]; exact b), setMany_one enc k R.hk dk i y hi]
theorem st0 (enc : α → List Value) (k : Nat) {w0 W : World} {blk off : Nat} {dk d0 : Array α} (R : RowK enc k w0 blk off d0) (h : SWK enc k w0 blk off dk W) (hs : dk.size = d0.size) (P : Program) (i : Nat) (y : α) (hi : i < dk.size) :
    Sem.run P (storeCells ⟨blk, off + i * k, none⟩ (enc y) 0) W = .ok () (W.setCells blk (off + i * k) (enc y)) :=
  stores_of_holds P (h.holds R.hblk R.hH hs) (i * k) _ (by rw [R.hk, size_flatK]; exact rowK_bnd dk k i hi) (R.h1 _)

/-- The row's first elements. -/
def RowE (enc : α → List Value) (k : Nat) (W : World) (blk off : Nat) (xs : List α) : Prop := ∀ j, j < xs.length → ∀ c v, (enc xs[j]!)[c]? = some v → W.cell? ⟨blk, off + j * k + c, none⟩ = some v
theorem RowE.ofSort {enc : α → List Value} {k : Nat} {w0 W : World} {blk off : Nat} {dk d0 : Array α} (R : RowK enc k w0 blk off d0) (h : SWK enc k w0 blk off dk W) (hs : dk.size = d0.size) (xs : List α) (hx : xs.length ≤ dk.size)
    (he : ∀ j, j < xs.length → dk[j]! = xs[j]!) : RowE enc k W blk off xs := fun j hj c v hv => by
  have hH := h.holds R.hblk R.hH hs
  have hc : c < k := by rw [← R.hk xs[j]!]; exact (List.getElem?_eq_some_iff.1 hv).1
  have := (HoldsK.cell hH (i := j) (c := c) (by omega) hc).1
  rw [he j hj] at this
  rw [this, getElem!_def, hv]
theorem RowE.beyond {enc : α → List Value} {k : Nat} {W : World} {blk off : Nat} {xs : List α} (h : RowE enc k W blk off xs) (hk : ∀ x, (enc x).length = k) (vs : List Value) (o : Nat) (ho : off + xs.length * k ≤ o) : RowE enc k (W.setCells blk o vs) blk off xs := fun j hj c v hv => by
  have hc : c < k := by rw [← hk xs[j]!]; exact (List.getElem?_eq_some_iff.1 hv).1
  have hb : j * k + k ≤ xs.length * k := by
    have := Nat.mul_le_mul_right k (show j + 1 ≤ xs.length from hj); rwa [Nat.add_mul, Nat.one_mul] at this
  rw [World.cell?_setCells_out blk _ _ _ _ (fun _ _ => Or.inl (by simp only []; omega))]
  exact h j hj c v hv
end Go.Proofs.YtfffmndjgjfflaaGreatDoor

/- slices.CompactFunc at the attributes of an event, over whatever program bears its body: its walk. -/
namespace Go.Proofs.YtfffmndjgjfflaaGreatDoor
open Go.Shelf Go.RowKit Go.Lib Go.Sort
open Go.Proofs
variable {P : Program} {α : Type} [Inhabited α]

/-- 'clear(s)' at elements of k cells. -/
theorem run_clearK {enc : α → List Value} {k : Nat} {w0 W : World} {blk off : Nat} {dk d0 : Array α} (R : RowK enc k w0 blk off d0) (h : SWK enc k w0 blk off dk W) (hs : dk.size = d0.size) (t e ty : TypeId) (z : Value)
    (ht : P.underlying t = some (.slice e)) (hv : ∀ w, (zeroValue e).run P w = .ok z w) (hz : z.cells.size = k) (h1 : ∀ v ∈ z.cells.toList, v.oneCell' = true) (m c : Nat) (hm : m < dk.size) :
    (Builtin.clear_ #[t] ty #[.slice (some ⟨blk, off + m * k, none⟩) (dk.size - m) c]).run P W = .ok (.tuple #[]) (W.setCells blk (off + m * k) (Builtin.zeroCells z.cells (dk.size - m)).toList) := by
  have hH := h.holds R.hblk R.hH hs
  have hl : (Builtin.zeroCells z.cells (dk.size - m)).toList.length = (dk.size - m) * k := by rw [Array.length_toList, size_zeroCells, hz]
  have hle : m * k + (dk.size - m) * k = dk.size * k := by rw [← Nat.add_mul]; congr 1; omega
  have hst := run_storeCells_cells (P := P) blk (off + m * k) (Builtin.zeroCells z.cells (dk.size - m)).toList 0 W
    (fun j hj => by
      have := (hH (m * k + j) (by rw [size_flatK]; omega)).1
      rw [show off + m * k + 0 + j = off + (m * k + j) by omega, this]; rfl)
    (fun j hj => by
      have := (hH (m * k + j) (by rw [size_flatK]; omega)).2
      rw [show off + m * k + 0 + j = off + (m * k + j) by omega]; exact this)
    (fun v hv' => by
      simp only [Builtin.zeroCells, Array.toList_map, List.mem_map] at hv'
      obtain ⟨i, hi, rfl⟩ := hv'
      have h0 : 0 < z.cells.size := by
        rcases Nat.eq_zero_or_pos z.cells.size with h0 | h0
        · rw [h0] at hi; simp at hi
        · exact h0
      refine h1 _ ?_
      have hlt : i % z.cells.size < z.cells.size := Nat.mod_lt _ h0
      rw [getElem!_pos z.cells _ hlt]
      simp)
  simp only [Nat.add_zero] at hst
  obtain ⟨q, hq⟩ : ∃ q, dk.size - m = q + 1 := ⟨dk.size - m - 1, by omega⟩
  rw [hq] at hst ⊢
  simp [Builtin.clear_, run_underlying ht, hv, hst]

end Go.Proofs.YtfffmndjgjfflaaGreatDoor

/- slices.Backward over a row of attributes, as an iterator: it hands them out from the last one to the first. -/
namespace Go.Proofs.YtfffmndjgjfflaaGreatDoor
open Go.RowKit Go.Shelf
open Go.Proofs
attribute [local go_sem] Oper.semAt_some

/-- What has come when k rounds are over, the last one first. -/
def backs (zs : List At) (k : Nat) : List (Nat × At) := (List.range k).map fun j => (zs.length - 1 - j, zs[zs.length - 1 - j]!)
theorem backs_succ (zs : List At) (k : Nat) : backs zs (k + 1) = backs zs k ++ [(zs.length - 1 - k, zs[zs.length - 1 - k]!)] := by simp [backs, List.range_succ]
theorem backs_length (zs : List At) (k : Nat) : (backs zs k).length = k := by simp [backs]

/-- What a round of the loop's body keeps: all that lay below n₀, and the box of the slice that is gone over. -/
def KeepB (n₀ Bs : Nat) (W W' : World) : Prop := Below n₀ W W' ∧ ∀ v, W.cell? ⟨Bs, 0, none⟩ = some v → W'.cell? ⟨Bs, 0, none⟩ = some v
theorem KeepB.refl (n₀ Bs : Nat) (W : World) : KeepB n₀ Bs W W := ⟨Below.refl _ _, fun _ h => h⟩
theorem KeepB.trans {n₀ Bs : Nat} {A B C : World} (h : KeepB n₀ Bs A B) (h2 : KeepB n₀ Bs B C) : KeepB n₀ Bs A C := ⟨h.1.trans h2.1, fun v hv => h2.2 v (h.2 v hv)⟩

end Go.Proofs.YtfffmndjgjfflaaGreatDoor
