/- internal/strconv.fmtEFG at the digits of 3.0. -/
import Derived.Test.YthkkdikfbagijaaGreatDoorDig
import Derived.Lib.BufSteps
import Derived.LoopN
namespace Go.Proofs.YthkkdikfbagijaaGreatDoor
open Go.RowKit
set_option maxRecDepth 100000

theorem infoU8 : ∃ i, Tryz.prog.info? 5 = some i ∧ i.zero = some (.int .u8 0) ∧ i.size = 1 ∧ i.bytes = 1 := by
  have h : (Tryz.prog.info? 5).map (fun i => (i.zero, i.size, i.bytes)) = some (some (.int .u8 0), 1, 1) := by kernel_rfl
  cases hi : Tryz.prog.info? 5 with
  | none => rw [hi] at h; cases h
  | some i =>
    rw [hi] at h
    simp only [Option.map_some, Option.some.injEq, Prod.mk.injEq] at h
    exact ⟨i, rfl, h.1, h.2.1, h.2.2⟩

set_option maxHeartbeats 1000000 in
theorem efgThree_c (B R : Nat) (v : Value) (W0 w : World) (hb : Lib.OwnBuf B 5 v 0 [] W0 w) (c0 : w.cell? ⟨R, 0, none⟩ = some (.int .u8 51)) :
    Calls Tryz.prog 80 #[v, .bool false, .slice (some ⟨R, 0, none⟩) 32 32, .int .i64 1, .int .i64 1, .int .i64 1, .int .u8 103, .bool true] w fun e w' =>
      ∃ v', e = .returned v' ∧ Lib.OwnBuf B 5 v' 1 [.int .u8 51] W0 w' := by
  obtain ⟨i0, hi, hz0, hz1, hz2⟩ := infoU8
  go_enter Tryz.func80, Tryz.ntmps80
  go_wp2
  refine wp_loop_rounds 2 ?_
  rw [rounds_succ]
  go_wp2_with (at_builtin; refine Lib.wpList_append_byte rfl _ _ 58 rfl B 5 i0 Tryz.underlying58 hi hz0 hz1 hz2 _ _ _ rfl W0 _ _ (by assumption) rfl (by first | omega | simp) ?_; intro v1 w1 hb1)
  rw [rounds_succ]
  go_wp2
  refine wp_loop_rounds 1 ?_
  rw [rounds_succ]
  go_wp2
  go_ret
  exact ⟨_, rfl, by assumption⟩
end Go.Proofs.YthkkdikfbagijaaGreatDoor
