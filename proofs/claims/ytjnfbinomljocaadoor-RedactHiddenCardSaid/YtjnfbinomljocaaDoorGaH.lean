/- Compact, CompactW, Backward: merged by merge.py. -/
import Derived.Test.YtjnfbinomljocaaDoorGaG
import Derived.Deep.DeepCutAuto
import Derived.RangeFuncNested
import Derived.RangeFuncBound
import Derived.RangeFuncCalls
import Derived.RangeFuncLeaves
import Derived.Shelf.Abstract
import Derived.Shelf.RegionOpen
import Derived.WalkKit
import Derived.OwnWalkIn
import Derived.TacticsInMore
import Derived.LoopNIn
import Derived.LoopIn
/- slices.CompactFunc at the attributes of an event, over whatever program bears its body: of neighbours that are alike the first stays. -/
namespace Go.Proofs.YtjnfbinomljocaaDoor
open Go.Shelf Go.RowKit Go.Lib Go.Sort
open Go.Proofs
variable {P : Program} {α : Type} [Inhabited α]

/-! ### Plain -/
/-- Of the first t those stay that are not like the one ahead. -/
def dd (eq : α → α → Bool) (d : Array α) : Nat → List α
  | 0 => []
  | t + 1 => if t ≠ 0 ∧ eq d[t]! d[t - 1]! = true then dd eq d t else dd eq d t ++ [d[t]!]
structure CI (eq : α → α → Bool) (d : Array α) (t m : Nat) (e : Array α) : Prop where
  size : e.size = d.size
  len : (dd eq d t).length = m
  lo : ∀ j, j < m → e[j]! = (dd eq d t)[j]!
  hi : ∀ j, t ≤ j + 1 → e[j]! = d[j]!
  lt : m < t
/-- None of the first t is like the one ahead. -/
def Whole (eq : α → α → Bool) (d : Array α) (t : Nat) : Prop := (dd eq d t).length = t ∧ ∀ j, j < t → (dd eq d t)[j]! = d[j]!
theorem Whole.one (eq : α → α → Bool) (d : Array α) : Whole eq d 1 := by
  refine ⟨by simp [dd], fun j hj => ?_⟩
  obtain rfl : j = 0 := by omega
  simp [dd]
theorem Whole.zero (eq : α → α → Bool) (d : Array α) : Whole eq d 0 := ⟨rfl, fun _ h => absurd h (Nat.not_lt_zero _)⟩
theorem get_snoc (l : List α) (x : α) (j : Nat) : (l ++ [x])[j]! = if j < l.length then l[j]! else if j = l.length then x else default := by
  simp only [getElem!_def]
  by_cases h : j < l.length
  · simp [h, List.getElem?_append_left h]
  · by_cases h2 : j = l.length
    · subst h2; simp
    · rw [if_neg h, if_neg h2, List.getElem?_eq_none (by simp; omega)]
theorem Whole.next {eq : α → α → Bool} {d : Array α} {t : Nat} (h : Whole eq d t) (ht : t ≠ 0) (he : eq d[t]! d[t - 1]! = false) : Whole eq d (t + 1) := by
  have e : dd eq d (t + 1) = dd eq d t ++ [d[t]!] := by rw [dd, if_neg (by rw [he]; simp)]
  refine ⟨by rw [e]; simp [h.1], fun j hj => ?_⟩
  rw [e, get_snoc, h.1]
  by_cases h1 : j < t
  · rw [if_pos h1]; exact h.2 j h1
  · have : j = t := by omega
    subst this; simp
theorem CI.start {eq : α → α → Bool} {d : Array α} {t : Nat} (h : Whole eq d t) (ht : t ≠ 0) (he : eq d[t]! d[t - 1]! = true) : CI eq d (t + 1) t d := by
  have e : dd eq d (t + 1) = dd eq d t := by rw [dd, if_pos ⟨ht, he⟩]
  exact ⟨rfl, by rw [e]; exact h.1, fun j hj => by rw [e]; exact (h.2 j hj).symm, fun _ _ => rfl, by omega⟩
theorem CI.skip {eq : α → α → Bool} {d e : Array α} {t m : Nat} (h : CI eq d t m e) (he : eq d[t]! d[t - 1]! = true) : CI eq d (t + 1) m e := by
  have e1 : dd eq d (t + 1) = dd eq d t := by rw [dd, if_pos ⟨by have := h.lt; omega, he⟩]
  exact ⟨h.size, by rw [e1]; exact h.len, fun j hj => by rw [e1]; exact h.lo j hj, fun j hj => h.hi j (by omega), by have := h.lt; omega⟩
theorem set_get (e : Array α) (i j : Nat) (x : α) (hi : i < e.size) : (e.setIfInBounds i x)[j]! = if j = i then x else e[j]! := by
  simp only [getElem!_def, Array.getElem?_setIfInBounds]
  by_cases h : i = j
  · subst h; simp [hi]
  · simp [h, Ne.symm h]
theorem CI.keep {eq : α → α → Bool} {d e : Array α} {t m : Nat} (h : CI eq d t m e) (ht : t < d.size) (he : eq d[t]! d[t - 1]! = false) : CI eq d (t + 1) (m + 1) (e.setIfInBounds m d[t]!) := by
  have hm := h.lt
  have e1 : dd eq d (t + 1) = dd eq d t ++ [d[t]!] := by rw [dd, if_neg (by rw [he]; simp)]
  have hs := h.size
  refine ⟨by simp [hs], by rw [e1]; simp [h.len], fun j hj => ?_, fun j hj => ?_, by omega⟩
  · rw [set_get _ _ _ _ (by omega), e1, get_snoc, h.len]
    by_cases h1 : j = m
    · subst h1; simp
    · rw [if_neg h1, if_pos (by omega)]; exact h.lo j (by omega)
  · rw [set_get _ _ _ _ (by omega), if_neg (by omega)]; exact h.hi j (by omega)

/-! ### Worlds -/
/-- All but one old block is as it was. -/
structure Apart (blk : Nat) (w w' : World) : Prop where
  os : w'.os = w.os
  tape : w'.tape = w.tape
  output : w'.output = w.output
  size : w.heap.size ≤ w'.heap.size
  block : ∀ k, k < w.heap.size → k ≠ blk → w'.heap[k]? = w.heap[k]?
theorem Apart.refl (blk : Nat) (w : World) : Apart blk w w := ⟨rfl, rfl, rfl, Nat.le_refl _, fun _ _ _ => rfl⟩
theorem Apart.trans {blk : Nat} {a b c : World} (h : Apart blk a b) (h2 : Apart blk b c) : Apart blk a c :=
  ⟨h2.os.trans h.os, h2.tape.trans h.tape, h2.output.trans h.output, Nat.le_trans h.size h2.size, fun k hk hne => (h2.block k (Nat.lt_of_lt_of_le hk h.size) hne).trans (h.block k hk hne)⟩
theorem Apart.below {blk n : Nat} {w w' : World} (h : Apart blk w w') (hn : n ≤ blk) (hw : n ≤ w.heap.size) : Below n w w' :=
  ⟨h.os, h.tape, h.output, h.size, fun k hk => h.block k (by omega) (by omega)⟩
theorem Apart.cell {blk : Nat} {w w' : World} (h : Apart blk w w') {p : Addr} (hp : p.block < w.heap.size) (hne : p.block ≠ blk) : w'.cell? p = w.cell? p := by
  simp only [World.cell?, h.block _ hp hne]
theorem Apart.frozen {blk : Nat} {w w' : World} (h : Apart blk w w') {p : Addr} (hp : p.block < w.heap.size) (hne : p.block ≠ blk) : w'.frozen? p = w.frozen? p := by
  simp only [World.frozen?, h.block _ hp hne]
theorem Apart.ofSort {enc : α → List Value} {k : Nat} {w0 W : World} {blk off : Nat} {dk : Array α} (h : SWK enc k w0 blk off dk W) : Apart blk w0 W := by
  obtain ⟨n, os, rfl⟩ := h
  unfold sortWorldK grow putRowK putRow mapBlock Sort.ahead
  refine ⟨rfl, rfl, rfl, by simp, fun k hk hne => ?_⟩
  simp only []
  rw [Array.getElem?_append_left (by simpa using hk), Array.getElem?_modify]
  simp [Ne.symm hne]
theorem Apart.setCells (blk : Nat) : ∀ (vs : List Value) (o : Nat) (w : World), Apart blk w (w.setCells blk o vs)
  | [], _, w => Apart.refl _ _
  | v :: r, o, w => by
    rw [World.setCells]
    refine Apart.trans ?_ (Apart.setCells blk r (o + 1) _)
    have hb : ∀ k, k < w.heap.size → k ≠ blk → (w.setCell ⟨blk, o, none⟩ v).heap[k]? = w.heap[k]? := fun k hk hne => by
      rw [setCell_eq]
      simp only [mapBlock, Array.getElem?_modify, Ne.symm hne, if_false]
    exact ⟨rfl, rfl, rfl, by simp, hb⟩

/-- One element of the row is laid anew. -/
theorem setMany_one (enc : α → List Value) (k : Nat) (hk : ∀ x, (enc x).length = k) (d : Array α) (i : Nat) (y : α) (hi : i < d.size) :
    setMany (flatK enc k d) (i * k) (enc y) = flatK enc k (d.setIfInBounds i y) := by
  refine ext_get! (by simp) fun t ht => ?_
  have ht' : t < d.size * k := by simpa using ht
  have k0 : 0 < k := by rcases Nat.eq_zero_or_pos k with h | h; · subst h; simp at ht'
                        · exact h
  rw [get_setMany _ _ _ t (by simpa using ht'), get_flatK _ _ _ t ht', get_flatK _ _ _ t (by simpa using ht'), hk, set_get _ _ _ _ hi]
  have m : ∀ q, t / k = q → t - q * k = t % k := fun q h => by subst h; rw [Nat.mod_eq_sub_div_mul]
  by_cases a : t / k = i
  · rw [if_pos ((blk_iff k i t k0).2 a), m i a]; simp [a]
  · rw [if_neg (fun h => a ((blk_iff k i t k0).1 h))]; simp [a]
theorem stored (enc : α → List Value) (k : Nat) {w0 W : World} {blk off : Nat} {dk d0 : Array α} (R : RowK enc k w0 blk off d0) (h : SWK enc k w0 blk off dk W) (i : Nat) (y : α) (hi : i < dk.size) :
    SWK enc k w0 blk off (dk.setIfInBounds i y) (W.setCells blk (off + i * k) (enc y)) := by
  obtain ⟨n, os, rfl⟩ := h
  refine ⟨n, os, ?_⟩
  have b : i * k + k ≤ dk.size * k := by
    have := Nat.mul_le_mul_right k (show i + 1 ≤ dk.size from hi); rwa [Nat.add_mul, Nat.one_mul] at this
  unfold sortWorldK
  rw [setCells_grow os blk _ _ _ (by rw [size_putRowK]; exact R.hblk)]
  congr 1
  unfold putRowK
  rw [setCells_putRow _ _ _ _ _ _ (by rw [R.hk, size_flatK]; exact b), setMany_one enc k R.hk dk i y hi]
theorem st0 (enc : α → List Value) (k : Nat) {w0 W : World} {blk off : Nat} {dk d0 : Array α} (R : RowK enc k w0 blk off d0) (h : SWK enc k w0 blk off dk W) (hs : dk.size = d0.size) (P : Program) (i : Nat) (y : α) (hi : i < dk.size) :
    Sem.run P (storeCells ⟨blk, off + i * k, none⟩ (enc y) 0) W = .ok () (W.setCells blk (off + i * k) (enc y)) :=
  stores_of_holds P (h.holds R.hblk R.hH hs) (i * k) _ (by rw [R.hk, size_flatK]; exact rowK_bnd dk k i hi) (R.h1 _)

/-- The row's first elements. -/
def RowE (enc : α → List Value) (k : Nat) (W : World) (blk off : Nat) (xs : List α) : Prop := ∀ j, j < xs.length → ∀ c v, (enc xs[j]!)[c]? = some v → W.cell? ⟨blk, off + j * k + c, none⟩ = some v
theorem RowE.ofSort {enc : α → List Value} {k : Nat} {w0 W : World} {blk off : Nat} {dk d0 : Array α} (R : RowK enc k w0 blk off d0) (h : SWK enc k w0 blk off dk W) (hs : dk.size = d0.size) (xs : List α) (hx : xs.length ≤ dk.size)
    (he : ∀ j, j < xs.length → dk[j]! = xs[j]!) : RowE enc k W blk off xs := fun j hj c v hv => by
  have hH := h.holds R.hblk R.hH hs
  have hc : c < k := by rw [← R.hk xs[j]!]; exact (List.getElem?_eq_some_iff.1 hv).1
  have := (HoldsK.cell hH (i := j) (c := c) (by omega) hc).1
  rw [he j hj] at this
  rw [this, getElem!_def, hv]
theorem RowE.beyond {enc : α → List Value} {k : Nat} {W : World} {blk off : Nat} {xs : List α} (h : RowE enc k W blk off xs) (hk : ∀ x, (enc x).length = k) (vs : List Value) (o : Nat) (ho : off + xs.length * k ≤ o) : RowE enc k (W.setCells blk o vs) blk off xs := fun j hj c v hv => by
  have hc : c < k := by rw [← hk xs[j]!]; exact (List.getElem?_eq_some_iff.1 hv).1
  have hb : j * k + k ≤ xs.length * k := by
    have := Nat.mul_le_mul_right k (show j + 1 ≤ xs.length from hj); rwa [Nat.add_mul, Nat.one_mul] at this
  rw [World.cell?_setCells_out blk _ _ _ _ (fun _ _ => Or.inl (by simp only []; omega))]
  exact h j hj c v hv
end Go.Proofs.YtjnfbinomljocaaDoor

/- slices.CompactFunc at the attributes of an event, over whatever program bears its body: its walk. -/
namespace Go.Proofs.YtjnfbinomljocaaDoor
open Go.Shelf Go.RowKit Go.Lib Go.Sort
open Go.Proofs
variable {P : Program} {α : Type} [Inhabited α]

/-- What is asked of the program. -/
structure CompP (P : Program) : Prop where
  mixed : P.follows .mixedOrders = true
  body : P.funcs[(44 : Nat)]? = some Tryd.f44
  t0 : P.underlying 0 = some (TypeDesc.tuple #[])
  a0 : ∀ w, (isAgg 0).run P w = .ok false w
  z0 : ∀ w, (Go.sizeOf 0).run P w = .ok 1 w
  v0 : ∀ w, (zeroValue 0).run P w = .ok (Value.tuple #[]) w
  t3 : P.underlying 3 = some (TypeDesc.int IntKind.i64)
  a3 : ∀ w, (isAgg 3).run P w = .ok false w
  z3 : ∀ w, (Go.sizeOf 3).run P w = .ok 1 w
  v3 : ∀ w, (zeroValue 3).run P w = .ok (Value.int IntKind.i64 0) w
  t4 : P.underlying 4 = some (TypeDesc.bool)
  a4 : ∀ w, (isAgg 4).run P w = .ok false w
  z4 : ∀ w, (Go.sizeOf 4).run P w = .ok 1 w
  v4 : ∀ w, (zeroValue 4).run P w = .ok (Value.bool false) w
  t22 : P.underlying 24 = some (TypeDesc.slice 51)
  a22 : ∀ w, (isAgg 24).run P w = .ok false w
  z22 : ∀ w, (Go.sizeOf 24).run P w = .ok 1 w
  v22 : ∀ w, (zeroValue 24).run P w = .ok (Value.slice none 0 0) w
  t25 : P.underlying 59 = some (TypeDesc.func #[51, 51] #[4] false)
  a25 : ∀ w, (isAgg 59).run P w = .ok false w
  z25 : ∀ w, (Go.sizeOf 59).run P w = .ok 1 w
  v25 : ∀ w, (zeroValue 59).run P w = .ok (Value.nilFunc) w

/-- 'clear(s)' at elements of k cells. -/
theorem run_clearK {enc : α → List Value} {k : Nat} {w0 W : World} {blk off : Nat} {dk d0 : Array α} (R : RowK enc k w0 blk off d0) (h : SWK enc k w0 blk off dk W) (hs : dk.size = d0.size) (t e ty : TypeId) (z : Value)
    (ht : P.underlying t = some (.slice e)) (hv : ∀ w, (zeroValue e).run P w = .ok z w) (hz : z.cells.size = k) (h1 : ∀ v ∈ z.cells.toList, v.oneCell' = true) (m c : Nat) (hm : m < dk.size) :
    (Builtin.clear_ #[t] ty #[.slice (some ⟨blk, off + m * k, none⟩) (dk.size - m) c]).run P W = .ok (.tuple #[]) (W.setCells blk (off + m * k) (Builtin.zeroCells z.cells (dk.size - m)).toList) := by
  have hH := h.holds R.hblk R.hH hs
  have hl : (Builtin.zeroCells z.cells (dk.size - m)).toList.length = (dk.size - m) * k := by rw [Array.length_toList, size_zeroCells, hz]
  have hle : m * k + (dk.size - m) * k = dk.size * k := by rw [← Nat.add_mul]; congr 1; omega
  have hst := run_storeCells_cells (P := P) blk (off + m * k) (Builtin.zeroCells z.cells (dk.size - m)).toList 0 W
    (fun j hj => by
      have := (hH (m * k + j) (by rw [size_flatK]; omega)).1
      rw [show off + m * k + 0 + j = off + (m * k + j) by omega, this]; rfl)
    (fun j hj => by
      have := (hH (m * k + j) (by rw [size_flatK]; omega)).2
      rw [show off + m * k + 0 + j = off + (m * k + j) by omega]; exact this)
    (fun v hv' => by
      simp only [Builtin.zeroCells, Array.toList_map, List.mem_map] at hv'
      obtain ⟨i, hi, rfl⟩ := hv'
      have h0 : 0 < z.cells.size := by
        rcases Nat.eq_zero_or_pos z.cells.size with h0 | h0
        · rw [h0] at hi; simp at hi
        · exact h0
      refine h1 _ ?_
      have hlt : i % z.cells.size < z.cells.size := Nat.mod_lt _ h0
      rw [getElem!_pos z.cells _ hlt]
      simp)
  simp only [Nat.add_zero] at hst
  obtain ⟨q, hq⟩ : ∃ q, dk.size - m = q + 1 := ⟨dk.size - m - 1, by omega⟩
  rw [hq] at hst ⊢
  simp [Builtin.clear_, run_underlying ht, hv, hst]

set_option maxHeartbeats 8000000 in
set_option maxRecDepth 1000000 in
theorem compact_c (L : CompP P) (k : Nat) (aE : ∀ w, (isAgg 51).run P w = .ok true w) (zE : ∀ w, (Go.sizeOf 51).run P w = .ok k w) (z : Value) (hz : ∀ w, (zeroValue 51).run P w = .ok z w) (hzk : z.cells.size = k) (hz1 : ∀ v ∈ z.cells.toList, v.oneCell' = true)
    (enc : α → List Value) (eq : α → α → Bool) (g : Nat) (cb : Array Value) (blk off cap N : Nat) (d : Array α) (w0 : World) (eg : ∀ args w, (callFunc g args).run P w = .ok (.enter g args) w)
    (heq : ∀ x y W, Calls P g (#[.agg (enc x).toArray, .agg (enc y).toArray] ++ cb) W fun e w' => e = .returned (.bool (eq x y)) ∧ ∃ q os', w' = grow (W.drewN q) os') (R : RowK enc k w0 blk off d) (hN : d.size = N) (hcap : N ≤ cap) (hsz : cap < 4611686018427387904) :
    Calls P 44 #[.slice (some ⟨blk, off, none⟩) N cap, .func (.func g) #[] cb] w0 fun e w' =>
      e = .returned (.slice (some ⟨blk, off, none⟩) (dd eq d N).length cap) ∧ Aside (RowE enc k w' blk off (dd eq d N)) ∧ Aside (Apart blk w0 w') := by
  have mixed := L.mixed; have t0 := L.t0; have a0 := L.a0; have z0 := L.z0; have v0 := L.v0; have t3 := L.t3; have a3 := L.a3; have z3 := L.z3; have v3 := L.v3; have t4 := L.t4; have a4 := L.a4; have z4 := L.z4; have v4 := L.v4; have t22 := L.t22; have a22 := L.a22; have z22 := L.z22; have v22 := L.v22; have t25 := L.t25; have a25 := L.a25; have z25 := L.z25; have v25 := L.v25
  have FG := L.body
  have HE : Aside _ := heq
  have HZ : Aside _ := hz
  have HZ1 : Aside _ := hz1
  have S0 : Aside (SWK enc k w0 blk off d w0) := SWK.start R.hH
  have HD : Aside (d.size = N) := hN
  have hd1 : d.size ≤ N := by omega
  have hd2 : N ≤ d.size := by omega
  -- where nothing is left out
  have DONE : Aside (∀ W, SWK enc k w0 blk off d W → Whole eq d N → (dd eq d N).length = N ∧ Aside (RowE enc k W blk off (dd eq d N)) ∧ Aside (Apart blk w0 W)) := fun W hS hW =>
    ⟨hW.1, RowE.ofSort R hS rfl _ (by rw [hW.1]; omega) (fun j hj => (hW.2 j (by rw [← hW.1]; exact hj)).symm), Apart.ofSort hS⟩
  clear heq hz hz1 hN L
  by_cases h2 : N < 2
  · have h2z : (N : Int) < 2 := by omega
    have W2 : Whole eq d N := by
      rcases (show N = 0 ∨ N = 1 by omega) with rfl | rfl
      · exact Whole.zero eq d
      · exact Whole.one eq d
    have WW : Aside (Whole eq d N) := W2
    clear W2
    go_enter FG, Tryd.ntmps44
    go_wp2_with fail
    go_ret
    obtain ⟨e1, e2, e3⟩ := DONE.out w0 S0.out WW.out
    rw [e1]
    exact ⟨rfl, e2, e3⟩
  · have h2z : ¬ (N : Int) < 2 := by omega
    go_enter FG, Tryd.ntmps44
    go_wp2_with fail
    go_loopg [5] N (fun kx s5 wr => ∃ (jp : Nat), s5 = .int .i64 ((jp + 1 : Nat) : Int) ∧ jp + 1 ≤ N ∧ N - (jp + 1) ≤ kx ∧ Aside (SWK enc k w0 blk off d wr) ∧ Aside (Whole eq d (jp + 1)))
    case atStart => exact ⟨0, rfl, by omega, by omega, S0, Whole.one eq d⟩
    case round =>
      clear S0
      obtain ⟨jp, rfl, hk, hkx, S1, A⟩ := hrel
      by_cases hlt : jp + 1 < N
      · have hltz : (jp : Int) + 1 < (N : Int) := by omega
        obtain ⟨x1, hx1⟩ : ∃ x, x = d[jp + 1]! := ⟨_, rfl⟩
        obtain ⟨y1, hy1⟩ : ∃ x, x = d[jp]! := ⟨_, rfl⟩
        have l1a := S1.out.ld R rfl P (jp + 1) (by omega)
        have l1b := S1.out.ld R rfl P jp (by omega)
        rw [← hx1] at l1a
        rw [← hy1] at l1b
        have p0 : (0 : Int) ≤ (jp : Int) + 1 := by omega
        have p1 : (0 : Int) ≤ (jp : Int) := by omega
        have p2 : (jp : Int) < (N : Int) := by omega
        have e0 : ((jp : Int) + 1).toNat = jp + 1 := by omega
        have r0 : IntKind.i64.wrap ((jp : Int) + 1) = (jp : Int) + 1 := by rw [IntKind.wrap_i64]; omega
        have r1 : IntKind.i64.wrap (jp : Int) = (jp : Int) := by rw [IntKind.wrap_i64]; omega
        cases hq : eq d[jp + 1]! d[jp]! with
        | false =>
          have hq1 : eq x1 y1 = false := by rw [hx1, hy1]; exact hq
          have hc1 : ∀ n' os', Calls P g (#[.agg (enc x1).toArray, .agg (enc y1).toArray] ++ cb) (grow (wr.drewN n') os') fun e w' => e = .returned (.bool false) ∧ ∃ q os'', w' = grow ((grow (wr.drewN n') os').drewN q) os'' := fun n' os' => by
            have h := HE.out x1 y1 (grow (wr.drewN n') os')
            rw [hq1] at h; exact h
          have A2 : Aside (Whole eq d (jp + 1 + 1)) := A.out.next (by omega) (by simpa using hq)
          clear hx1 hy1 hq hq1
          go_wp2_with fail
          go_quiet_grown (first | (go_at_fn g; refine Calls.grown_of (hc1 _ _)))
          have S2 : Aside (SWK enc k w0 blk off d (grow (wr.drewN nq) osq)) := S1.out.grown nq osq
          clear l1a l1b hc1 S1
          generalize grow (wr.drewN nq) osq = w2 at S2 ⊢
          clear nq osq
          go_wp2_with fail
          go_roundg (N - (jp + 1 + 1))
          case measure => omega
          case rel => exact ⟨jp + 1, by go_num, by omega, Nat.le_refl _, S2, A2⟩
        | true =>
          have hq1 : eq x1 y1 = true := by rw [hx1, hy1]; exact hq
          have hc1 : ∀ n' os', Calls P g (#[.agg (enc x1).toArray, .agg (enc y1).toArray] ++ cb) (grow (wr.drewN n') os') fun e w' => e = .returned (.bool true) ∧ ∃ q os'', w' = grow ((grow (wr.drewN n') os').drewN q) os'' := fun n' os' => by
            have h := HE.out x1 y1 (grow (wr.drewN n') os')
            rw [hq1] at h; exact h
          have A2 : Aside (CI eq d (jp + 1 + 1) (jp + 1) d) := CI.start A.out (by omega) (by simpa using hq)
          have capz : (jp : Int) + 1 ≤ (cap : Int) := by omega
          have capz2 : (jp : Int) + 1 < (cap : Int) := by omega
          have capn : jp + 1 < cap := by omega
          clear hx1 hy1 hq hq1
          go_wp2_with fail
          go_quiet_grown (first | (go_at_fn g; refine Calls.grown_of (hc1 _ _)))
          have S2 : Aside (SWK enc k w0 blk off d (grow (wr.drewN nq) osq)) := S1.out.grown nq osq
          clear l1a l1b hc1 S1
          generalize grow (wr.drewN nq) osq = w2 at S2 ⊢
          clear nq osq
          go_wp2_with fail
          go_loopg [5, 7] N (fun ky s5 s7 wr => ∃ (m k2p : Nat) (dk : Array α), s5 = .int .i64 m ∧ s7 = .int .i64 ((k2p + 1 : Nat) : Int) ∧ jp + 1 + (k2p + 1) ≤ N ∧ N - (jp + 1 + (k2p + 1)) ≤ ky ∧ m < N ∧ dk.size = N ∧ Aside (CI eq d (jp + 1 + (k2p + 1)) m dk) ∧ Aside (SWK enc k w0 blk off dk wr))
          case atStart => exact ⟨jp + 1, 0, d, by go_num, rfl, by omega, by omega, by omega, HD.out, A2, S2⟩
          case round =>
            clear S2 A2
            obtain ⟨m, k2p, dk, rfl, rfl, hle, hky, hmN, hds, C, S2⟩ := hrel
            have hmt := C.out.lt
            have mz : (m : Int) ≤ (N : Int) := by omega
            have mz2 : (m : Int) < (N : Int) := by omega
            have mc : (m : Int) ≤ (cap : Int) := by omega
            by_cases hlt2 : jp + 1 + (k2p + 1) < N
            · have hl2 : k2p + 1 < N - (jp + 1) := by omega
              have hl2z : (k2p : Int) + 1 < ((N - (jp + 1) : Nat) : Int) := by omega
              have hl3z : (k2p : Int) < ((N - (jp + 1) : Nat) : Int) := by omega
              obtain ⟨x2, hx2⟩ : ∃ x, x = d[jp + 1 + (k2p + 1)]! := ⟨_, rfl⟩
              obtain ⟨y2, hy2⟩ : ∃ x, x = d[jp + 1 + k2p]! := ⟨_, rfl⟩
              have l2a := S2.out.ld R (by omega) P (jp + 1 + (k2p + 1)) (by omega)
              have l2b := S2.out.ld R (by omega) P (jp + 1 + k2p) (by omega)
              rw [C.out.hi _ (by omega), ← hx2, show off + (jp + 1 + (k2p + 1)) * k = off + (jp + 1) * k + (k2p + 1) * k by rw [Nat.add_mul (jp + 1)]; omega] at l2a
              rw [C.out.hi _ (by omega), ← hy2, show off + (jp + 1 + k2p) * k = off + (jp + 1) * k + k2p * k by rw [Nat.add_mul (jp + 1)]; omega] at l2b
              have q0 : (0 : Int) ≤ (k2p : Int) + 1 := by omega
              have q1 : (0 : Int) ≤ (k2p : Int) := by omega
              have qe : ((k2p : Int) + 1).toNat = k2p + 1 := by omega
              have qr : IntKind.i64.wrap ((k2p : Int) + 1) = (k2p : Int) + 1 := by rw [IntKind.wrap_i64]; omega
              have qr1 : IntKind.i64.wrap (k2p : Int) = (k2p : Int) := by rw [IntKind.wrap_i64]; omega
              cases hq : eq d[jp + 1 + (k2p + 1)]! d[jp + 1 + k2p]! with
              | true =>
                have hq1 : eq x2 y2 = true := by rw [hx2, hy2]; exact hq
                have hc2 : ∀ n' os', Calls P g (#[.agg (enc x2).toArray, .agg (enc y2).toArray] ++ cb) (grow (wr.drewN n') os') fun e w' => e = .returned (.bool true) ∧ ∃ q os'', w' = grow ((grow (wr.drewN n') os').drewN q) os'' := fun n' os' => by
                  have h := HE.out x2 y2 (grow (wr.drewN n') os')
                  rw [hq1] at h; exact h
                have C2 : Aside (CI eq d (jp + 1 + (k2p + 1 + 1)) m dk) := C.out.skip (by simpa using hq)
                clear hx2 hy2 hq hq1
                go_wp2_with fail
                go_quiet_grown (first | (go_at_fn g; refine Calls.grown_of (hc2 _ _)))
                have S3 : Aside (SWK enc k w0 blk off dk (grow (wr.drewN nq) osq)) := S2.out.grown nq osq
                clear l2a l2b hc2 S2
                generalize grow (wr.drewN nq) osq = w3 at S3 ⊢
                clear nq osq
                go_wp2_with fail
                go_roundg (N - (jp + 1 + (k2p + 1 + 1)))
                case measure => omega
                case rel => exact ⟨m, k2p + 1, dk, rfl, by go_num, by omega, Nat.le_refl _, hmN, hds, C2, S3⟩
              | false =>
                have hq1 : eq x2 y2 = false := by rw [hx2, hy2]; exact hq
                have hc2 : ∀ n' os', Calls P g (#[.agg (enc x2).toArray, .agg (enc y2).toArray] ++ cb) (grow (wr.drewN n') os') fun e w' => e = .returned (.bool false) ∧ ∃ q os'', w' = grow ((grow (wr.drewN n') os').drewN q) os'' := fun n' os' => by
                  have h := HE.out x2 y2 (grow (wr.drewN n') os')
                  rw [hq1] at h; exact h
                have C2 : Aside (CI eq d (jp + 1 + (k2p + 1 + 1)) (m + 1) (dk.setIfInBounds m x2)) := by rw [hx2]; exact C.out.keep (by omega) (by simpa using hq)
                have hx3 : Aside (x2 = dk[jp + 1 + (k2p + 1)]!) := by rw [hx2]; exact (C.out.hi _ (by omega)).symm
                clear hx2 hy2 hq hq1
                go_wp2_with fail
                go_quiet_grown (first | (go_at_fn g; refine Calls.grown_of (hc2 _ _)))
                have S3 : Aside (SWK enc k w0 blk off dk (grow (wr.drewN nq) osq)) := S2.out.grown nq osq
                clear l2a l2b hc2 S2
                generalize grow (wr.drewN nq) osq = w3 at S3 ⊢
                clear nq osq
                have l3 := S3.out.load R (by omega) P (jp + 1 + (k2p + 1)) (by omega)
                have s3 := st0 enc k R S3.out (by omega) P m x2 (by omega)
                rw [← hx3.out, show off + (jp + 1 + (k2p + 1)) * k = off + (jp + 1) * k + (k2p + 1) * k by rw [Nat.add_mul (jp + 1)]; omega] at l3
                have n3 : (enc x2).length = k := R.hk _
                have S4 : Aside (SWK enc k w0 blk off (dk.setIfInBounds m x2) (w3.setCells blk (off + m * k) (enc x2))) := stored enc k R S3.out m x2 (by omega)
                have m0 : (0 : Int) ≤ (m : Int) := by omega
                have me : ((m : Int)).toNat = m := by omega
                generalize enc x2 = c2 at l3 s3 n3 S4
                clear S3
                go_wp2_with fail
                clear l3 s3
                generalize w3.setCells blk (off + m * k) c2 = w4 at S4 ⊢
                go_wp2_with fail
                go_roundg (N - (jp + 1 + (k2p + 1 + 1)))
                case measure => omega
                case rel => exact ⟨m + 1, k2p + 1, _, by go_num, by go_num, by omega, Nat.le_refl _, by omega, by simpa using hds, C2, S4⟩
            · have hend : jp + 1 + (k2p + 1) = N := by omega
              have hl2z : ¬ (k2p : Int) + 1 < ((N - (jp + 1) : Nat) : Int) := by omega
              have hcl : ∀ ty, (Builtin.clear_ #[24] ty #[.slice (some ⟨blk, off + m * k, none⟩) (N - m) (cap - m)]).run P wr = .ok (.tuple #[]) (wr.setCells blk (off + m * k) (Builtin.zeroCells z.cells (N - m)).toList) := fun ty => by
                have h := run_clearK R S2.out (hds.trans HD.out.symm) 24 51 ty z t22 HZ.out hzk HZ1.out m (cap - m) (by omega)
                rw [hds] at h; exact h
              have CC : Aside (CI eq d N m dk) := by rw [← hend]; exact C
              have m0 : (0 : Int) ≤ (m : Int) := by omega
              have me : ((m : Int)).toNat = m := by omega
              clear C hend
              have mcap : m < cap := by omega
              have mcap2 : ¬ cap = m := by omega
              have RE : Aside (RowE enc k wr blk off (dd eq d N)) := RowE.ofSort R S2.out (hds.trans HD.out.symm) _ (by rw [CC.out.len]; omega) (fun j hj => CC.out.lo j (by rw [← CC.out.len]; exact hj))
              go_wp2_with fail
              all_goals
                go_ret
                refine ⟨by rw [CC.out.len]; rfl, ?_, ?_⟩
                · show RowE _ _ _ _ _ _
                  first
                    | exact RE.out
                    | exact RowE.beyond RE.out R.hk _ _ (by rw [CC.out.len]; exact Nat.le_refl _)
                · first
                    | exact Apart.ofSort S2.out
                    | exact (Apart.ofSort S2.out).trans (Apart.setCells _ _ _ _)
      · have hltz : ¬ (jp : Int) + 1 < (N : Int) := by omega
        obtain hj : jp + 1 = N := by omega
        have WW : Aside (Whole eq d N) := by rw [← hj]; exact A
        clear hj A
        go_wp2_with fail
        go_ret
        obtain ⟨e1, e2, e3⟩ := DONE.out _ S1.out WW.out
        rw [e1]
        exact ⟨rfl, e2, e3⟩
end Go.Proofs.YtjnfbinomljocaaDoor

/- slices.Backward over a row of attributes, as an iterator: it hands them out from the last one to the first. -/
namespace Go.Proofs.YtjnfbinomljocaaDoor
open Go.RowKit Go.Shelf
open Go.Proofs
attribute [local go_sem] Oper.semAt_some

/-- What has come when k rounds are over, the last one first. -/
def backs (zs : List At) (k : Nat) : List (Nat × At) := (List.range k).map fun j => (zs.length - 1 - j, zs[zs.length - 1 - j]!)
theorem backs_succ (zs : List At) (k : Nat) : backs zs (k + 1) = backs zs k ++ [(zs.length - 1 - k, zs[zs.length - 1 - k]!)] := by simp [backs, List.range_succ]
theorem backs_length (zs : List At) (k : Nat) : (backs zs k).length = k := by simp [backs]

/-- What a round of the loop's body keeps: all that lay below n₀, and the box of the slice that is gone over. -/
def KeepB (n₀ Bs : Nat) (W W' : World) : Prop := Below n₀ W W' ∧ ∀ v, W.cell? ⟨Bs, 0, none⟩ = some v → W'.cell? ⟨Bs, 0, none⟩ = some v
theorem KeepB.refl (n₀ Bs : Nat) (W : World) : KeepB n₀ Bs W W := ⟨Below.refl _ _, fun _ h => h⟩
theorem KeepB.trans {n₀ Bs : Nat} {A B C : World} (h : KeepB n₀ Bs A B) (h2 : KeepB n₀ Bs B C) : KeepB n₀ Bs A C := ⟨h.1.trans h2.1, fun v hv => h2.2 v (h.2 v hv)⟩

set_option maxRecDepth 100000 in
set_option maxHeartbeats 2000000 in
theorem backward1_in (F : Fence) (n : Nat) (h7 : F.fn 58) (hro : F.round = none) (hn : 1 ≤ n) (l Bs n₀ b off cap : Nat) (zs : List At) (hreach : zs.length * 8 ≤ 140737488351232) (hb : b < n₀) (J Jx : List (Nat × At) → World → Prop)
    (hY : ∀ pre x W, J pre W → pre.length < zs.length → YieldAt F (n - 1) Tryd.prog l #[.int .i64 (x.1 : Int), .agg (encA x.2).toArray] W fun e W' =>
      (e = .returned (.bool true) ∧ J (pre ++ [x]) W' ∧ KeepB n₀ Bs W W') ∨ (e = .returned (.bool false) ∧ Jx (pre ++ [x]) W'))
    (W : World) (hBs : W.cell? ⟨Bs, 0, none⟩ = some (.slice (some ⟨b, off, none⟩) zs.length cap)) (hc : RowAt W b off zs) (h0 : J [] W) :
    CallsIn F n Tryd.prog 58 #[.func (.yield l) #[] #[], .pointer (some ⟨Bs, 0, none⟩)] W fun e W' => (∃ v, e = .returned v) ∧
      ((∃ ys, ys = backs zs zs.length ∧ J ys W') ∨ (∃ pre, (∃ k, k ≤ zs.length ∧ pre = backs zs k) ∧ Jx pre W')) := by
  refine callsIn_of_wp Tryd.func58 rfl h7 ?_ hro
  simp only [Tryd.ntmps58, List.size_toArray, List.length_cons, List.length_nil, Nat.reduceAdd, Nat.reduceSub, Array.replicate_succ, Array.replicate_zero, List.push_toArray, List.append_toArray, List.nil_append, List.cons_append]
  generalize hL : zs.length = len at *
  have HL : Aside (zs.length = len) := hL
  have HC : Aside (RowAt W b off zs) := hc
  have HY : Aside _ := hY
  have HBS : Aside (W.cell? ⟨Bs, 0, none⟩ = some (.slice (some ⟨b, off, none⟩) len cap)) := hBs
  clear hL hc hY
  gi_wp2
  gi_loopw [3] (fun i wr => ∃ (q : Nat) (z : Int), i = .int .i64 z ∧ z = (q : Int) - 1 ∧ q ≤ len ∧ J (backs zs (len - q)) wr ∧ Aside (KeepB n₀ Bs W wr))
    (fun i _ => (intOf i + 1).toNat)
  case atStart => exact ⟨len, _, rfl, rfl, Nat.le_refl _, by rw [Nat.sub_self]; exact h0, KeepB.refl _ _ _⟩
  case round =>
    obtain ⟨q, z, rfl, hz, hq, hJs, hnx⟩ := hrel
    rcases q with _ | q
    · have hz0 : ¬ ((0 : Int) ≤ z) := by omega
      have hz1 : decide ((0 : Int) ≤ z) = false := decide_eq_false hz0
      clear hz
      gi_wp2
      go_end0
      exact ⟨⟨_, rfl⟩, .inl (by simpa using hJs)⟩
    · obtain rfl : z = (q : Int) := by omega
      have hrow := RowAt.below hnx.out.1 hb HC.out q (by rw [HL.out]; omega)
      have hbs := hnx.out.2 _ HBS.out
      have hyy := HY.out (backs zs (len - (q + 1))) (q, zs[q]!) wr hJs (by rw [backs_length]; omega)
      have EB : Aside (backs zs (len - q) = backs zs (len - (q + 1)) ++ [(q, zs[q]!)]) := by
        show backs zs (len - q) = _
        rw [show len - q = (len - (q + 1)) + 1 by omega, backs_succ, HL.out, show len - 1 - (len - (q + 1)) = q by omega]
      obtain ⟨a, ha⟩ : ∃ a, a = zs[q]! := ⟨_, rfl⟩
      rw [← ha] at hrow hyy
      have EB2 : Aside (backs zs (len - q) = backs zs (len - (q + 1)) ++ [(q, a)]) := by rw [ha]; exact EB
      clear EB ha
      obtain ⟨nm, k, nn, xx, s, y⟩ := a
      have c0 := hrow 0 _ rfl; have c1 := hrow 1 _ rfl; have c2 := hrow 2 _ rfl; have c3 := hrow 3 _ rfl; have c4 := hrow 4 _ rfl; have c5 := hrow 5 _ rfl
      simp only [Nat.add_zero] at c0
      have qz : (q : Int) < (len : Int) := by omega
      have qz0 : (0 : Int) ≤ (q : Int) := by omega
      clear hrow hz
      obtain ⟨fn, tmps, assign, body, hy, hR⟩ := hyy
      simp only [encA] at hy
      gi_wp2
      refine hR.mono ?_
      rintro e W3 (⟨rfl, hJ3, hk3⟩ | ⟨rfl, hJx3⟩)
      · gi_wp2
        go_roundw
        case rel => exact ⟨q, _, rfl, rfl, by omega, by rw [EB2.out]; exact hJ3, hnx.out.trans hk3⟩
        case measure => simp [intOf]
      · gi_wp2
        refine bodyPost_ret (results_none rfl _ _ _) rfl ?_
        exact ⟨⟨_, rfl⟩, .inr ⟨_, ⟨len - q, by omega, EB2.out.symm⟩, hJx3⟩⟩

set_option maxRecDepth 100000 in
set_option maxHeartbeats 2000000 in
/-- .. where there is none. -/
theorem backward0_in (F : Fence) (n : Nat) (h7 : F.fn 58) (hro : F.round = none) (l Bs cap : Nat) (ao : Option Addr) (J : List (Nat × At) → World → Prop)
    (W : World) (hBs : W.cell? ⟨Bs, 0, none⟩ = some (.slice ao 0 cap)) (h0 : J [] W) :
    CallsIn F n Tryd.prog 58 #[.func (.yield l) #[] #[], .pointer (some ⟨Bs, 0, none⟩)] W fun e W' => (∃ v, e = .returned v) ∧ J [] W' := by
  refine callsIn_of_wp Tryd.func58 rfl h7 ?_ hro
  simp only [Tryd.ntmps58, List.size_toArray, List.length_cons, List.length_nil, Nat.reduceAdd, Nat.reduceSub, Array.replicate_succ, Array.replicate_zero, List.push_toArray, List.append_toArray, List.nil_append, List.cons_append]
  gi_wp2
  gi_loopw [3] (fun i wr => ∃ z : Int, i = .int .i64 z ∧ z < 0 ∧ J [] wr) (fun _ _ => 0)
  case atStart => exact ⟨_, rfl, by decide, h0⟩
  case round =>
    obtain ⟨z, rfl, hz, hJs⟩ := hrel
    have hz0 : ¬ ((0 : Int) ≤ z) := by omega
    have hz1 : decide ((0 : Int) ≤ z) = false := decide_eq_false hz0
    clear hz
    gi_wp2
    go_end0
    exact ⟨⟨_, rfl⟩, hJs⟩
end Go.Proofs.YtjnfbinomljocaaDoor
