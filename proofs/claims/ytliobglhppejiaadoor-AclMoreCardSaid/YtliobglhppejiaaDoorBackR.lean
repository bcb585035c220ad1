/- slices.Backward over a row of rules, as an iterator: it hands them out from the last one to the first. -/
import Derived.RangeFuncNested
import Derived.RangeFuncBound
import Derived.RangeFuncCalls
import Derived.RangeFuncLeaves
import Derived.Shelf.Abstract
import Derived.Shelf.RegionOpen
import Derived.WalkKit
import Derived.OwnWalkIn
import Derived.TacticsInMore
import Derived.LoopNIn
import Derived.LoopIn
import Derived.Test.YtliobglhppejiaaDoorRuP
namespace Go.Proofs.YtliobglhppejiaaDoor
open Go.RowKit Go.Shelf
open Go.Proofs
attribute [local go_sem] Oper.semAt_some

/-- What has come when k rounds are over, the last one first. -/
def backsR (zs : List Ru) (k : Nat) : List (Nat × Ru) := (List.range k).map fun j => (zs.length - 1 - j, zs[zs.length - 1 - j]!)
theorem backsR_succ (zs : List Ru) (k : Nat) : backsR zs (k + 1) = backsR zs k ++ [(zs.length - 1 - k, zs[zs.length - 1 - k]!)] := by simp [backsR, List.range_succ]
theorem backsR_length (zs : List Ru) (k : Nat) : (backsR zs k).length = k := by simp [backsR]

/-- What a round of the loop's body keeps: all that lay below n₀, and the box of the slice that is gone over. -/
def KeepR (n₀ Bs : Nat) (W W' : World) : Prop := Below n₀ W W' ∧ ∀ v, W.cell? ⟨Bs, 0, none⟩ = some v → W'.cell? ⟨Bs, 0, none⟩ = some v
theorem KeepR.refl (n₀ Bs : Nat) (W : World) : KeepR n₀ Bs W W := ⟨Below.refl _ _, fun _ h => h⟩
theorem KeepR.trans {n₀ Bs : Nat} {A B C : World} (h : KeepR n₀ Bs A B) (h2 : KeepR n₀ Bs B C) : KeepR n₀ Bs A C := ⟨h.1.trans h2.1, fun v hv => h2.2 v (h.2 v hv)⟩

set_option maxRecDepth 100000 in
set_option maxHeartbeats 2000000 in
theorem backwardR1_in (F : Fence) (n : Nat) (h7 : F.fn 54) (hro : F.round = none) (hn : 1 ≤ n) (l Bs n₀ b off cap : Nat) (zs : List Ru) (hreach : zs.length * 8 ≤ 140737488351232) (hb : b < n₀) (J Jx : List (Nat × Ru) → World → Prop)
    (hY : ∀ pre x W, J pre W → pre.length < zs.length → YieldAt F (n - 1) Tryd.prog l #[.int .i64 (x.1 : Int), .agg (encR x.2).toArray] W fun e W' =>
      (e = .returned (.bool true) ∧ J (pre ++ [x]) W' ∧ KeepR n₀ Bs W W') ∨ (e = .returned (.bool false) ∧ Jx (pre ++ [x]) W'))
    (W : World) (hBs : W.cell? ⟨Bs, 0, none⟩ = some (.slice (some ⟨b, off, none⟩) zs.length cap)) (hc : RowR W b off zs) (h0 : J [] W) :
    CallsIn F n Tryd.prog 54 #[.func (.yield l) #[] #[], .pointer (some ⟨Bs, 0, none⟩)] W fun e W' => (∃ v, e = .returned v) ∧
      ((∃ ys, ys = backsR zs zs.length ∧ J ys W') ∨ (∃ pre, (∃ k, k ≤ zs.length ∧ pre = backsR zs k) ∧ Jx pre W')) := by
  refine callsIn_of_wp Tryd.func54 rfl h7 ?_ hro
  simp only [Tryd.ntmps54, List.size_toArray, List.length_cons, List.length_nil, Nat.reduceAdd, Nat.reduceSub, Array.replicate_succ, Array.replicate_zero, List.push_toArray, List.append_toArray, List.nil_append, List.cons_append]
  generalize hL : zs.length = len at *
  have HL : Aside (zs.length = len) := hL
  have HC : Aside (RowR W b off zs) := hc
  have HY : Aside _ := hY
  have HBS : Aside (W.cell? ⟨Bs, 0, none⟩ = some (.slice (some ⟨b, off, none⟩) len cap)) := hBs
  clear hL hc hY
  gi_wp2
  gi_loopw [3] (fun i wr => ∃ (q : Nat) (z : Int), i = .int .i64 z ∧ z = (q : Int) - 1 ∧ q ≤ len ∧ J (backsR zs (len - q)) wr ∧ Aside (KeepR n₀ Bs W wr))
    (fun i _ => (intOf i + 1).toNat)
  case atStart => exact ⟨len, _, rfl, rfl, Nat.le_refl _, by rw [Nat.sub_self]; exact h0, KeepR.refl _ _ _⟩
  case round =>
    obtain ⟨q, z, rfl, hz, hq, hJs, hnx⟩ := hrel
    rcases q with _ | q
    · have hz0 : ¬ ((0 : Int) ≤ z) := by omega
      have hz1 : decide ((0 : Int) ≤ z) = false := decide_eq_false hz0
      clear hz
      gi_wp2
      go_end0
      exact ⟨⟨_, rfl⟩, .inl (by simpa using hJs)⟩
    · obtain rfl : z = (q : Int) := by omega
      have hrow := RowR.below hnx.out.1 hb HC.out q (by rw [HL.out]; omega)
      have hbs := hnx.out.2 _ HBS.out
      have hyy := HY.out (backsR zs (len - (q + 1))) (q, zs[q]!) wr hJs (by rw [backsR_length]; omega)
      have EB : Aside (backsR zs (len - q) = backsR zs (len - (q + 1)) ++ [(q, zs[q]!)]) := by
        show backsR zs (len - q) = _
        rw [show len - q = (len - (q + 1)) + 1 by omega, backsR_succ, HL.out, show len - 1 - (len - (q + 1)) = q by omega]
      obtain ⟨a, ha⟩ : ∃ a, a = zs[q]! := ⟨_, rfl⟩
      rw [← ha] at hrow hyy
      have EB2 : Aside (backsR zs (len - q) = backsR zs (len - (q + 1)) ++ [(q, a)]) := by rw [ha]; exact EB
      clear EB ha
      obtain ⟨rk, rt, rw1, rb, rsc, rco, rcap, rcs, rn, rix⟩ := a
      have c0 := hrow 0 _ rfl; have c1 := hrow 1 _ rfl; have c2 := hrow 2 _ rfl; have c3 := hrow 3 _ rfl; have c4 := hrow 4 _ rfl; have c5 := hrow 5 _ rfl; have c6 := hrow 6 _ rfl; have c7 := hrow 7 _ rfl
      simp only [Nat.add_zero] at c0
      have qz : (q : Int) < (len : Int) := by omega
      have qz0 : (0 : Int) ≤ (q : Int) := by omega
      clear hrow hz
      obtain ⟨fn, tmps, assign, body, hy, hR⟩ := hyy
      simp only [encR] at hy
      gi_wp2
      refine hR.mono ?_
      rintro e W3 (⟨rfl, hJ3, hk3⟩ | ⟨rfl, hJx3⟩)
      · gi_wp2
        go_roundw
        case rel => exact ⟨q, _, rfl, rfl, by omega, by rw [EB2.out]; exact hJ3, hnx.out.trans hk3⟩
        case measure => simp [intOf]
      · gi_wp2
        refine bodyPost_ret (results_none rfl _ _ _) rfl ?_
        exact ⟨⟨_, rfl⟩, .inr ⟨_, ⟨len - q, by omega, EB2.out.symm⟩, hJx3⟩⟩

set_option maxRecDepth 100000 in
set_option maxHeartbeats 2000000 in
/-- .. where there is none. -/
theorem backwardR0_in (F : Fence) (n : Nat) (h7 : F.fn 54) (hro : F.round = none) (l Bs cap : Nat) (ao : Option Addr) (J : List (Nat × Ru) → World → Prop)
    (W : World) (hBs : W.cell? ⟨Bs, 0, none⟩ = some (.slice ao 0 cap)) (h0 : J [] W) :
    CallsIn F n Tryd.prog 54 #[.func (.yield l) #[] #[], .pointer (some ⟨Bs, 0, none⟩)] W fun e W' => (∃ v, e = .returned v) ∧ J [] W' := by
  refine callsIn_of_wp Tryd.func54 rfl h7 ?_ hro
  simp only [Tryd.ntmps54, List.size_toArray, List.length_cons, List.length_nil, Nat.reduceAdd, Nat.reduceSub, Array.replicate_succ, Array.replicate_zero, List.push_toArray, List.append_toArray, List.nil_append, List.cons_append]
  gi_wp2
  gi_loopw [3] (fun i wr => ∃ z : Int, i = .int .i64 z ∧ z < 0 ∧ J [] wr) (fun _ _ => 0)
  case atStart => exact ⟨_, rfl, by decide, h0⟩
  case round =>
    obtain ⟨z, rfl, hz, hJs⟩ := hrel
    have hz0 : ¬ ((0 : Int) ≤ z) := by omega
    have hz1 : decide ((0 : Int) ≤ z) = false := decide_eq_false hz0
    clear hz
    gi_wp2
    go_end0
    exact ⟨⟨_, rfl⟩, hJs⟩
end Go.Proofs.YtliobglhppejiaaDoor
