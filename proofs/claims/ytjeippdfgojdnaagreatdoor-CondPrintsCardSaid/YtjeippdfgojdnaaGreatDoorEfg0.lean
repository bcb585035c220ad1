/- internal/strconv.fmtEFG of no digits, and of nought. -/
import Derived.Test.YtjeippdfgojdnaaGreatDoorEfgF
namespace Go.Proofs.YtjeippdfgojdnaaGreatDoor
open Go.RowKit
set_option maxRecDepth 100000

/-- What fmtEFG writes of no digits. -/
def zL (neg : Bool) (dp : Int) : List UInt8 :=
  if dp - 1 < -4 ∨ 6 ≤ dp - 1 then sgnL neg ++ [48, 101, 43, 48, 48]
  else if 0 < dp then sgnL neg ++ List.replicate dp.toNat 48
  else if dp = 0 then sgnL neg ++ [48] else sgnL neg ++ [48, 46] ++ List.replicate (-dp).toNat 48
theorem zL_e (neg : Bool) (dp : Int) (h : dp - 1 < -4 ∨ 6 ≤ dp - 1) : (zL neg dp).map u8e = (sgnL neg).map u8e ++ [Value.int .u8 48, Value.int .u8 101, Value.int .u8 43, Value.int .u8 48, Value.int .u8 48] := by
  unfold zL
  rw [if_pos h, List.map_append]; rfl
theorem zL_p (neg : Bool) (q : Nat) (h : 0 < q) (h6 : q ≤ 6) : (zL neg (q : Int)).map u8e = (sgnL neg).map u8e ++ List.replicate q (u8e 48) := by
  unfold zL
  rw [if_neg (by omega), if_pos (by omega), Int.toNat_natCast, List.map_append, List.map_replicate]
theorem zL_n (neg : Bool) (q : Nat) (h : 0 < q) (h6 : q ≤ 3) : (zL neg (-(q : Int))).map u8e = (sgnL neg).map u8e ++ [Value.int .u8 48, Value.int .u8 46] ++ List.replicate q (u8e 48) := by
  unfold zL
  rw [if_neg (by omega), if_neg (by omega), if_neg (by omega), Int.neg_neg, Int.toNat_natCast, List.map_append, List.map_append, List.map_replicate]; rfl
theorem zL_0 (neg : Bool) : (zL neg 0).map u8e = (sgnL neg).map u8e ++ [Value.int .u8 48] := by
  unfold zL
  rw [if_neg (by omega), if_neg (by omega), if_pos rfl, List.map_append]; rfl

set_option maxHeartbeats 8000000 in
theorem efg0_c (B R : Nat) (cur : Array Value) (fz : Nat × Nat) (v : Value) (W0 w : World) (neg : Bool) (dp : Int) (hI : EfgI B R cur fz v [] W0 w) (hb : -400 ≤ dp) (hb2 : dp ≤ 400) :
    Calls Tryz.prog 127 #[v, .bool neg, .slice (some ⟨R, 0, none⟩) 32 32, .int .i64 dp, .int .i64 0, .int .i64 0, .int .u8 103, .bool true] w fun e w' =>
      ∃ v', e = .returned v' ∧ EfgI B R cur fz v' ((zL neg dp).map u8e) W0 w' := by
  rcases (show (dp - 1 < -4) ∨ (6 ≤ dp - 1 ∧ ¬ dp - 1 < -4) ∨ (∃ q : Nat, dp = q ∧ 0 < q ∧ q ≤ 6) ∨ (∃ q : Nat, dp = -(q : Int) ∧ 0 < q ∧ q ≤ 3) ∨ dp = 0 by
    by_cases h1 : dp - 1 < -4
    · exact Or.inl h1
    · by_cases h2 : 6 ≤ dp - 1
      · exact Or.inr (Or.inl ⟨h2, h1⟩)
      · by_cases h : 0 < dp
        · exact Or.inr (Or.inr (Or.inl ⟨dp.toNat, by omega, by omega, by omega⟩))
        · by_cases h0 : dp = 0
          · exact Or.inr (Or.inr (Or.inr (Or.inr h0)))
          · exact Or.inr (Or.inr (Or.inr (Or.inl ⟨(-dp).toNat, by omega, by omega, by omega⟩)))) with t1 | ⟨t1, t2⟩ | ⟨q, rfl, q0, q6⟩ | ⟨q, rfl, q0, q3⟩ | rfl
  · cases neg
    · rw [zL_e false dp (by omega)]
      go_enter Tryz.func127, Tryz.ntmps127
      go_wp2_with (at_builtin; refine wpList_append_new rfl _ _ rfl B R cur fz W0 _ _ rfl (by assumption) _ rfl (by simp [Value.oneCell']) (by first | (simp; done) | (simp; omega)) ?_; intro v1 w1 I1)
      go_ret
      refine ⟨_, rfl, cast (congrArg (fun l => EfgI B R cur fz _ l W0 _) ?_) I1⟩
      first | (simp [sgnL]; done) | (simp [sgnL, u8e]; done)
    · rw [zL_e true dp (by omega)]
      go_enter Tryz.func127, Tryz.ntmps127
      go_wp2_with (at_builtin; refine wpList_append_new rfl _ _ rfl B R cur fz W0 _ _ rfl (by assumption) _ rfl (by simp [Value.oneCell']) (by first | (simp; done) | (simp; omega)) ?_; intro v1 w1 I1)
      go_ret
      refine ⟨_, rfl, cast (congrArg (fun l => EfgI B R cur fz _ l W0 _) ?_) I1⟩
      first | (simp [sgnL]; done) | (simp [sgnL, u8e]; done)
  · cases neg
    · rw [zL_e false dp (by omega)]
      go_enter Tryz.func127, Tryz.ntmps127
      go_wp2_with (at_builtin; refine wpList_append_new rfl _ _ rfl B R cur fz W0 _ _ rfl (by assumption) _ rfl (by simp [Value.oneCell']) (by first | (simp; done) | (simp; omega)) ?_; intro v1 w1 I1)
      go_ret
      refine ⟨_, rfl, cast (congrArg (fun l => EfgI B R cur fz _ l W0 _) ?_) I1⟩
      first | (simp [sgnL]; done) | (simp [sgnL, u8e]; done)
    · rw [zL_e true dp (by omega)]
      go_enter Tryz.func127, Tryz.ntmps127
      go_wp2_with (at_builtin; refine wpList_append_new rfl _ _ rfl B R cur fz W0 _ _ rfl (by assumption) _ rfl (by simp [Value.oneCell']) (by first | (simp; done) | (simp; omega)) ?_; intro v1 w1 I1)
      go_ret
      refine ⟨_, rfl, cast (congrArg (fun l => EfgI B R cur fz _ l W0 _) ?_) I1⟩
      first | (simp [sgnL]; done) | (simp [sgnL, u8e]; done)
  · cases neg
    · have t1 : ¬ (q : Int) - 1 < -4 := by omega
      have t2 : ¬ (6 : Int) ≤ (q : Int) - 1 := by omega
      have t12 : (q : Int) - 1 < 6 := by omega
      have s1 : (0 : Int) < (q : Int) := by omega
      have s0 : ¬ (q : Int) < 0 := by omega
      have s2 : max (-(q : Int)) 0 = 0 := by omega
      have s3 : min (0 : Int) (q : Int) = 0 := by omega
      rw [zL_p false q q0 q6]
      go_enter Tryz.func127, Tryz.ntmps127
      go_wp2_with (at_builtin; refine wpList_append_new rfl _ _ rfl B R cur fz W0 _ _ rfl (by assumption) _ rfl (by simp [Value.oneCell']) (by first | (simp; done) | (simp; omega)) ?_; intro v1 w1 I1)
      refine wp_loop_rounds 1 ?_
      rw [rounds_succ]
      go_wp2_with fail
      go_loopg [0, 203] (q) (fun kx v0 vj wr => ∃ j : Nat, vj = .int .i64 j ∧ j ≤ q ∧ q - j ≤ kx ∧ EfgI B R cur fz v0 ([] ++ List.replicate j (u8e 48)) W0 wr)
      case atStart => exact ⟨0, rfl, Nat.zero_le _, by omega, by simpa using hI⟩
      case round =>
        obtain ⟨j, rfl, hj, hjx, I⟩ := hrel
        by_cases hlt : j < q
        · have hz : (j : Int) < q := by omega
          have es := zer_succ j
          go_wp2_with (at_builtin; refine wpList_append_new rfl _ _ rfl B R cur fz W0 _ _ rfl (by assumption) _ rfl (by simp [Value.oneCell']) (by first | (simp; done) | (simp; omega)) ?_; intro v1 w1 I1)
          go_roundg (q - (j + 1))
          case measure => omega
          case rel => exact ⟨j + 1, by go_num, hlt, Nat.le_refl _, by rw [es]; simpa using I1⟩
        · obtain rfl : q = j := by omega
          go_wp2_with fail
          go_ret
          refine ⟨_, rfl, cast (congrArg (fun l => EfgI B R cur fz _ l W0 _) ?_) I⟩
          first | (simp [sgnL]; done) | (simp [sgnL, u8e]; done)
    · have t1 : ¬ (q : Int) - 1 < -4 := by omega
      have t2 : ¬ (6 : Int) ≤ (q : Int) - 1 := by omega
      have t12 : (q : Int) - 1 < 6 := by omega
      have s1 : (0 : Int) < (q : Int) := by omega
      have s0 : ¬ (q : Int) < 0 := by omega
      have s2 : max (-(q : Int)) 0 = 0 := by omega
      have s3 : min (0 : Int) (q : Int) = 0 := by omega
      rw [zL_p true q q0 q6]
      go_enter Tryz.func127, Tryz.ntmps127
      go_wp2_with (at_builtin; refine wpList_append_new rfl _ _ rfl B R cur fz W0 _ _ rfl (by assumption) _ rfl (by simp [Value.oneCell']) (by first | (simp; done) | (simp; omega)) ?_; intro v1 w1 I1)
      refine wp_loop_rounds 1 ?_
      rw [rounds_succ]
      go_wp2_with fail
      go_loopg [0, 203] (q) (fun kx v0 vj wr => ∃ j : Nat, vj = .int .i64 j ∧ j ≤ q ∧ q - j ≤ kx ∧ EfgI B R cur fz v0 ([Value.int .u8 45] ++ List.replicate j (u8e 48)) W0 wr)
      case atStart => exact ⟨0, rfl, Nat.zero_le _, by omega, by simpa using I1⟩
      case round =>
        obtain ⟨j, rfl, hj, hjx, I⟩ := hrel
        by_cases hlt : j < q
        · have hz : (j : Int) < q := by omega
          have es := zer_succ j
          go_wp2_with (at_builtin; refine wpList_append_new rfl _ _ rfl B R cur fz W0 _ _ rfl (by assumption) _ rfl (by simp [Value.oneCell']) (by first | (simp; done) | (simp; omega)) ?_; intro v1 w1 I1)
          go_roundg (q - (j + 1))
          case measure => omega
          case rel => exact ⟨j + 1, by go_num, hlt, Nat.le_refl _, by rw [es]; simpa using I1⟩
        · obtain rfl : q = j := by omega
          go_wp2_with fail
          go_ret
          refine ⟨_, rfl, cast (congrArg (fun l => EfgI B R cur fz _ l W0 _) ?_) I⟩
          first | (simp [sgnL]; done) | (simp [sgnL, u8e]; done)
  · cases neg
    · have t1 : ¬ -(q : Int) - 1 < -4 := by omega
      have t2 : ¬ (6 : Int) ≤ -(q : Int) - 1 := by omega
      have t12 : -(q : Int) - 1 < 6 := by omega
      have s1 : ¬ (0 : Int) < -(q : Int) := by omega
      have s0 : (0 : Int) < (q : Int) := by omega
      have s2 : max (q : Int) 0 = q := by omega
      have s6 : max (0 : Int) (q : Int) = q := by omega
      have s7 : min (q : Int) (q : Int) = q := by omega
      have s9 : -(q : Int) + (q : Int) = 0 := by omega
      rw [zL_n false q q0 q3]
      go_enter Tryz.func127, Tryz.ntmps127
      go_wp2_with (at_builtin; refine wpList_append_new rfl _ _ rfl B R cur fz W0 _ _ rfl (by assumption) _ rfl (by simp [Value.oneCell']) (by first | (simp; done) | (simp; omega)) ?_; intro v1 w1 I1)
      go_loopg [0, 240] (q) (fun kx v0 vj wr => ∃ j : Nat, vj = .int .i64 j ∧ j ≤ q ∧ q - j ≤ kx ∧ EfgI B R cur fz v0 ([] ++ [Value.int .u8 48, Value.int .u8 46] ++ List.replicate j (u8e 48)) W0 wr)
      case atStart => exact ⟨0, rfl, Nat.zero_le _, by omega, by simpa using I1⟩
      case round =>
        obtain ⟨j, rfl, hj, hjx, I⟩ := hrel
        by_cases hlt : j < q
        · have hz : (j : Int) < q := by omega
          have es := zer_succ j
          go_wp2_with (at_builtin; refine wpList_append_new rfl _ _ rfl B R cur fz W0 _ _ rfl (by assumption) _ rfl (by simp [Value.oneCell']) (by first | (simp; done) | (simp; omega)) ?_; intro v1 w1 I1)
          go_roundg (q - (j + 1))
          case measure => omega
          case rel => exact ⟨j + 1, by go_num, hlt, Nat.le_refl _, by rw [es]; simpa using I1⟩
        · obtain rfl : q = j := by omega
          go_wp2_with fail
          refine wp_loop_rounds 1 ?_
          rw [rounds_succ]
          go_wp2_with fail
          refine wp_loop_rounds 1 ?_
          rw [rounds_succ]
          go_wp2_with fail
          go_ret
          refine ⟨_, rfl, cast (congrArg (fun l => EfgI B R cur fz _ l W0 _) ?_) I⟩
          first | (simp [sgnL]; done) | (simp [sgnL, u8e]; done)
    · have t1 : ¬ -(q : Int) - 1 < -4 := by omega
      have t2 : ¬ (6 : Int) ≤ -(q : Int) - 1 := by omega
      have t12 : -(q : Int) - 1 < 6 := by omega
      have s1 : ¬ (0 : Int) < -(q : Int) := by omega
      have s0 : (0 : Int) < (q : Int) := by omega
      have s2 : max (q : Int) 0 = q := by omega
      have s6 : max (0 : Int) (q : Int) = q := by omega
      have s7 : min (q : Int) (q : Int) = q := by omega
      have s9 : -(q : Int) + (q : Int) = 0 := by omega
      rw [zL_n true q q0 q3]
      go_enter Tryz.func127, Tryz.ntmps127
      go_wp2_with (at_builtin; refine wpList_append_new rfl _ _ rfl B R cur fz W0 _ _ rfl (by assumption) _ rfl (by simp [Value.oneCell']) (by first | (simp; done) | (simp; omega)) ?_; intro v1 w1 I1)
      go_loopg [0, 240] (q) (fun kx v0 vj wr => ∃ j : Nat, vj = .int .i64 j ∧ j ≤ q ∧ q - j ≤ kx ∧ EfgI B R cur fz v0 ([Value.int .u8 45] ++ [Value.int .u8 48, Value.int .u8 46] ++ List.replicate j (u8e 48)) W0 wr)
      case atStart => exact ⟨0, rfl, Nat.zero_le _, by omega, by simpa using I1⟩
      case round =>
        obtain ⟨j, rfl, hj, hjx, I⟩ := hrel
        by_cases hlt : j < q
        · have hz : (j : Int) < q := by omega
          have es := zer_succ j
          go_wp2_with (at_builtin; refine wpList_append_new rfl _ _ rfl B R cur fz W0 _ _ rfl (by assumption) _ rfl (by simp [Value.oneCell']) (by first | (simp; done) | (simp; omega)) ?_; intro v1 w1 I1)
          go_roundg (q - (j + 1))
          case measure => omega
          case rel => exact ⟨j + 1, by go_num, hlt, Nat.le_refl _, by rw [es]; simpa using I1⟩
        · obtain rfl : q = j := by omega
          go_wp2_with fail
          refine wp_loop_rounds 1 ?_
          rw [rounds_succ]
          go_wp2_with fail
          refine wp_loop_rounds 1 ?_
          rw [rounds_succ]
          go_wp2_with fail
          go_ret
          refine ⟨_, rfl, cast (congrArg (fun l => EfgI B R cur fz _ l W0 _) ?_) I⟩
          first | (simp [sgnL]; done) | (simp [sgnL, u8e]; done)
  · cases neg
    · rw [zL_0]
      go_enter Tryz.func127, Tryz.ntmps127
      go_wp2_with (at_builtin; refine wpList_append_new rfl _ _ rfl B R cur fz W0 _ _ rfl (by assumption) _ rfl (by simp [Value.oneCell']) (by first | (simp; done) | (simp; omega)) ?_; intro v1 w1 I1)
      go_ret
      refine ⟨_, rfl, cast (congrArg (fun l => EfgI B R cur fz _ l W0 _) ?_) I1⟩
      first | (simp [sgnL]; done) | (simp [sgnL, u8e]; done)
    · rw [zL_0]
      go_enter Tryz.func127, Tryz.ntmps127
      go_wp2_with (at_builtin; refine wpList_append_new rfl _ _ rfl B R cur fz W0 _ _ rfl (by assumption) _ rfl (by simp [Value.oneCell']) (by first | (simp; done) | (simp; omega)) ?_; intro v1 w1 I1)
      go_ret
      refine ⟨_, rfl, cast (congrArg (fun l => EfgI B R cur fz _ l W0 _) ?_) I1⟩
      first | (simp [sgnL]; done) | (simp [sgnL, u8e]; done)

set_option maxHeartbeats 4000000 in
/-- Of nought. -/
theorem efgZero_c (B : Nat) (v : Value) (W0 w : World) (neg : Bool) (hI : Lib.OwnBuf B 5 v 0 [] W0 w) :
    Calls Tryz.prog 127 #[v, .bool neg, .slice none 0 0, .int .i64 0, .int .i64 0, .int .i64 (-1), .int .u8 103, .bool true] w fun e w' =>
      ∃ v', e = .returned v' ∧ Lib.OwnBuf B 5 v' (sgnL neg ++ [48]).length ((sgnL neg ++ [48]).map u8e) W0 w' := by
  obtain ⟨i0, hi, hz0, hz1, hz2⟩ := infoU8'
  cases neg
  · go_enter Tryz.func127, Tryz.ntmps127
    go_wp2_with (at_builtin; refine Lib.wpList_append_byte rfl _ _ 104 rfl B 5 i0 Tryz.underlying104 hi hz0 hz1 hz2 _ _ _ rfl W0 _ _ (by assumption) rfl (by first | omega | simp) ?_; intro v1 w1 hb1)
    go_ret
    exact ⟨_, rfl, by assumption⟩
  · go_enter Tryz.func127, Tryz.ntmps127
    go_wp2_with (at_builtin; refine Lib.wpList_append_byte rfl _ _ 104 rfl B 5 i0 Tryz.underlying104 hi hz0 hz1 hz2 _ _ _ rfl W0 _ _ (by assumption) rfl (by first | omega | simp) ?_; intro v1 w1 hb1)
    go_ret
    exact ⟨_, rfl, by assumption⟩

/-- What fmtEFG writes. -/
def gL (neg : Bool) (D : Nat → UInt8) (nd : Nat) (dp : Int) : List UInt8 := if nd = 0 then zL neg dp else efgL neg D nd dp
theorem efg_c (B R : Nat) (cur : Array Value) (fz : Nat × Nat) (v : Value) (W0 w : World) (neg : Bool) (D : Nat → UInt8) (nd : Nat) (dp : Int) (hI : EfgI B R cur fz v [] W0 w) (hc : ∀ j, j < nd → cur[j]? = some (u8e (D j))) (h2 : nd ≤ 20) (hb : -399 ≤ dp) (hb2 : dp ≤ 400) :
    Calls Tryz.prog 127 #[v, .bool neg, .slice (some ⟨R, 0, none⟩) 32 32, .int .i64 dp, .int .i64 nd, .int .i64 nd, .int .u8 103, .bool true] w fun e w' =>
      ∃ v', e = .returned v' ∧ EfgI B R cur fz v' ((gL neg D nd dp).map u8e) W0 w' := by
  unfold gL
  by_cases h0 : nd = 0
  · subst h0
    rw [if_pos rfl]
    exact efg0_c B R cur fz v W0 w neg dp hI (by omega) (by omega)
  · rw [if_neg h0]
    unfold efgL
    by_cases he : dp - 1 < -4 ∨ 6 ≤ dp - 1
    · rw [if_pos he]
      exact efgE_c B R cur fz v W0 w neg D nd dp (dp - 1).natAbs hI hc (by omega) h2 (by omega) (by omega)
    · rw [if_neg he]
      exact efgF_c B R cur fz v W0 w neg D nd dp hI hc (by omega) h2 (by omega) (by omega)
end Go.Proofs.YtjeippdfgojdnaaGreatDoor
