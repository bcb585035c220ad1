/- Package scope: Up, as an iterator; above. -/
import Derived.Test.YtilkmpnloblheaaDoorScopeF
import Derived.RangeFuncNested
import Derived.RangeFuncBound
import Derived.RangeFuncCalls
import Derived.RangeFuncLeaves
import Derived.RangeFuncWrites
import Derived.RangeFuncBox
import Derived.Shelf.Abstract
import Derived.Shelf.RegionOpen
import Derived.WalkKit
import Derived.OwnWalkIn
import Derived.TacticsInMore
import Derived.LoopNIn
import Derived.LoopIn
namespace Go.Proofs.YtilkmpnloblheaaDoor
open Go.RowKit Go.Shelf
open Go.Proofs
set_option maxRecDepth 100000
attribute [local go_sem] Oper.semAt_some

/-- A scope without its last name. -/
def aboveB (s : ByteArray) : ByteArray := bsOf (Sc.aboveL s.data.toList)
/-- All that is told on the way up. -/
def upsB (s : ByteArray) : List ByteArray := (Sc.upL s.data.toList).map bsOf
theorem upsB_nil (s : ByteArray) (h : s.data.toList = []) : upsB s = [s] := by
  unfold upsB; rw [h, Sc.upL_nil]
  show [bsOf []] = [s]
  rw [← h, bsOf_data]
theorem upsB_cons (s : ByteArray) (h : s.data.toList ≠ []) : upsB s = s :: upsB (aboveB s) := by
  unfold upsB aboveB
  rw [Sc.upL_cons _ h, List.map_cons, bsOf_data, data_bsOf]
theorem upsB_ne (s : ByteArray) : upsB s ≠ [] := by
  by_cases h : s.data.toList = []
  · rw [upsB_nil s h]; simp
  · rw [upsB_cons s h]; simp
theorem aboveB_le (s : ByteArray) : (aboveB s).size ≤ s.size := by
  show (Sc.aboveL s.data.toList).toArray.size ≤ s.data.size
  unfold Sc.aboveL
  simp
  omega
theorem aboveB_lt (s : ByteArray) (h : s.data.toList ≠ []) : (aboveB s).size < s.size := by
  have := Sc.above_lt _ h
  show (Sc.aboveL s.data.toList).toArray.size < s.data.size
  simpa using this

set_option maxHeartbeats 1000000 in
theorem above_c (s : ByteArray) (w : World) (hs : s.size ≤ 4611686018427387903) : Calls Tryd.prog 19 #[.string s] w fun e w' => e = .returned (.string (aboveB s)) ∧ w = w' := by
  have hc := Tryd.strings_LastIndex s ⟨#[47]⟩ (by omega) w
  have hle : Lib.lastIndex s.data.toList [47] ≤ s.size ∧ -1 ≤ Lib.lastIndex s.data.toList [47] := by
    unfold Lib.lastIndex
    have hz : s.data.toList.length = s.size := Array.length_toList
    split
    · rcases Lib.lastOcc_spec s.data.toList [47] (s.data.toList.length - [(47 : UInt8)].length + 1) with ⟨e, _⟩ | ⟨i, hi, e, _, _⟩
      · rw [e]; omega
      · rw [e]; simp at hi ⊢; omega
    · omega
  have hx : aboveB s = s.extract 0 (max (Lib.lastIndex s.data.toList [47]) 0).toNat := by
    rw [← bsOf_data (s.extract 0 _)]
    unfold aboveB Sc.aboveL
    congr 1
    simp
  rw [show (⟨#[47]⟩ : ByteArray).data.toList = [47] from rfl] at hc
  obtain ⟨q, hq⟩ : ∃ q, q = Lib.lastIndex s.data.toList [47] := ⟨_, rfl⟩
  rw [← hq] at hc hle hx
  have HC := Lib.hid hc
  rw [hx]
  have g0 : (0 : Int) ≤ max q 0 := by omega
  have g1 : max q 0 ≤ (s.size : Int) := by omega
  clear hq hc hx
  go_enter Tryd.func19, Tryd.ntmps19
  go_wp2_with fail
  refine HC.out.mono ?_
  rintro e w' ⟨rfl, rfl⟩
  go_wp2_with fail
  go_ret
  exact ⟨rfl, rfl⟩

theorem up_c (s : ByteArray) (w : World) : Calls Tryd.prog 13 #[.string s] w fun e w' => e = .returned (.func (.func 18) #[] #[.pointer (some ⟨w.heap.size, 0, none⟩)]) ∧ w' = w.alloc (.cells #[.string s] 9) := by
  go_enter Tryd.func13, Tryd.ntmps13
  go_wp2
  go_ret
  exact ⟨rfl, rfl⟩

/-- A text that is not too long. -/
abbrev Tx (m : Nat) := { x : ByteArray // x.size ≤ m }

set_option maxHeartbeats 2000000 in
theorem up1_in (n : Nat) (hn : 1 ≤ n) (l Bs n₀ m : Nat) (s : ByteArray) (hsm : s.size ≤ m) (hm : m ≤ 4611686018427387903) (J Jx : List (Tx m) → World → Prop)
    (hY : ∀ pre x W, J pre W → pre.length < (upsB s).length → YieldAt Fence.wide (n - 1) Tryd.prog l #[.string x.1] W fun e W' =>
      (e = .returned (.bool true) ∧ J (pre ++ [x]) W' ∧ Below n₀ W W') ∨ (e = .returned (.bool false) ∧ Jx (pre ++ [x]) W'))
    (W : World) (hBs : W.cell? ⟨Bs, 0, none⟩ = some (.string s)) (h0 : J [] W) :
    CallsIn Fence.wide n Tryd.prog 18 #[.func (.yield l) #[] #[], .pointer (some ⟨Bs, 0, none⟩)] W fun e W' => (∃ v, e = .returned v) ∧
      ((∃ ys : List (Tx m), ys.map Subtype.val = upsB s ∧ J ys W') ∨ (∃ pre : List (Tx m), pre.map Subtype.val <+: upsB s ∧ Jx pre W')) := by
  refine callsIn_of_wp Tryd.func18 rfl trivial ?_ rfl
  simp only [Tryd.ntmps18, List.size_toArray, List.length_cons, List.length_nil, Nat.reduceAdd, Nat.reduceSub, Array.replicate_succ, Array.replicate_zero, List.push_toArray, List.append_toArray, List.nil_append, List.cons_append]
  have HY : Aside _ := hY
  clear hY
  have hnil : ∀ W, Sem.run Tryd.prog (binOp BinOp.eql 25 (Value.func (Fn.yield l) #[] #[]) Value.nilFunc) W = .ok (.bool false) W := fun W => rfl
  gi_wp2
  gi_loopw [3] (fun p wr => ∃ (pre : List (Tx m)) (top : ByteArray), p = .string top ∧ top.size ≤ m ∧ Aside (pre.map Subtype.val ++ upsB top = upsB s) ∧ J pre wr)
    (fun p _ => match p with | .string t => t.size | _ => 0)
  case atStart => exact ⟨[], s, rfl, hsm, rfl, h0⟩
  case round =>
    obtain ⟨pre, top, rfl, htm, HE, hJ⟩ := hrel
    have hlen : pre.length < (upsB s).length := by
      rw [← HE.out, List.length_append, List.length_map]
      have := List.length_pos_iff.2 (upsB_ne top)
      omega
    obtain ⟨fn, tmps, assign, body, hy, hR⟩ := HY.out pre ⟨top, htm⟩ wr hJ hlen
    have hab := above_c top
    cases hE : (top.toList == [])
    · have hE1 : ¬ top.toList = [] := by simpa using hE
      have hE2 : top.toList.isEmpty = false := by simpa using hE1
      have hE3 : top.data.toList ≠ [] := by rw [← bytes_toList]; exact hE1
      have hlt := aboveB_lt top hE3
      have HN : Aside ((pre ++ [(⟨top, htm⟩ : Tx m)]).map Subtype.val ++ upsB (aboveB top) = upsB s) := by
        show _ = _
        rw [← HE.out, upsB_cons top hE3]; simp
      have HAB := Lib.hid hab
      clear hab hE3
      gi_wp2
      refine hR.mono ?_
      rintro e W3 (⟨rfl, hJ3, hk3⟩ | ⟨rfl, hJx3⟩)
      · gi_wp2_with (refine ⟨trivial, ?_⟩; gi_at_call 19; refine (callsIn_wide.2 (HAB.out _ (by omega))).mono ?_; rintro e w' ⟨rfl, rfl⟩)
        go_roundw
        case rel => exact ⟨pre ++ [⟨top, htm⟩], aboveB top, rfl, by omega, HN, hJ3⟩
        case measure => exact hlt
      · gi_wp2
        go_end0
        exact ⟨⟨_, rfl⟩, .inr ⟨pre ++ [⟨top, htm⟩], ⟨upsB (aboveB top), HN.out⟩, hJx3⟩⟩
    · have hE1 : top.toList = [] := by simpa using hE
      have hE2 : top.toList.isEmpty = true := by rw [hE1]; rfl
      have hE3 : top.data.toList = [] := by rw [← bytes_toList]; exact hE1
      have HN : Aside ((pre ++ [(⟨top, htm⟩ : Tx m)]).map Subtype.val = upsB s) := by
        show _ = _
        rw [← HE.out, upsB_nil top hE3]; simp
      clear hab hE3
      gi_wp2
      refine hR.mono ?_
      rintro e W3 (⟨rfl, hJ3, hk3⟩ | ⟨rfl, hJx3⟩)
      · gi_wp2
        go_end0
        exact ⟨⟨_, rfl⟩, .inl ⟨pre ++ [⟨top, htm⟩], HN.out, hJ3⟩⟩
      · gi_wp2
        go_end0
        exact ⟨⟨_, rfl⟩, .inr ⟨pre ++ [⟨top, htm⟩], ⟨[], by rw [List.append_nil]; exact HN.out⟩, hJx3⟩⟩
/-- Up's closure, as a loop takes it. -/
theorem up_stops (n : Nat) (hn : 1 ≤ n) (Bs n₀ m : Nat) (s : ByteArray) (hsm : s.size ≤ m) (hm : m ≤ 4611686018427387903) (w0 : World) (hBs : w0.cell? ⟨Bs, 0, none⟩ = some (.string s)) (hlt : Bs < w0.heap.size) :
    SeqStopsK Fence.wide n Tryd.prog 18 #[.pointer (some ⟨Bs, 0, none⟩)] (fun x : Tx m => #[.string x.1]) (Below n₀) (fun ys => ys.map Subtype.val = upsB s) (fun pre => pre.map Subtype.val <+: upsB s) (upsB s).length w0 :=
  fun l J Jx W hW _ _ hY h0 => up1_in n hn l Bs n₀ m s hsm hm J Jx hY W ((hW.cell (p := ⟨Bs, 0, none⟩) hlt).trans hBs) h0
end Go.Proofs.YtilkmpnloblheaaDoor
