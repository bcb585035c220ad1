/- Efg0, Ftoa, Print: merged by merge.py. -/
import Derived.Test.YtfffmndjgjfflaaGreatDoorGaL
import Derived.Deep.RegionWith
import Derived.Laws.BitsLemmas
import Derived.Laws.Bits64b
import Derived.Lib.ItoaNum
import Derived.Test.YtfffmndjgjfflaaGreatDoorGaA
import Derived.Lib.AppendIntMem
/- internal/strconv.fmtEFG of no digits, and of nought. -/
namespace Go.Proofs.YtfffmndjgjfflaaGreatDoor
open Go.RowKit
set_option maxRecDepth 100000

/-- What fmtEFG writes of no digits. -/
def zL (neg : Bool) (dp : Int) : List UInt8 :=
  if dp - 1 < -4 ∨ 6 ≤ dp - 1 then sgnL neg ++ [48, 101, 43, 48, 48]
  else if 0 < dp then sgnL neg ++ List.replicate dp.toNat 48
  else if dp = 0 then sgnL neg ++ [48] else sgnL neg ++ [48, 46] ++ List.replicate (-dp).toNat 48
theorem zL_e (neg : Bool) (dp : Int) (h : dp - 1 < -4 ∨ 6 ≤ dp - 1) : (zL neg dp).map u8e = (sgnL neg).map u8e ++ [Value.int .u8 48, Value.int .u8 101, Value.int .u8 43, Value.int .u8 48, Value.int .u8 48] := by
  unfold zL
  rw [if_pos h, List.map_append]; rfl
theorem zL_p (neg : Bool) (q : Nat) (h : 0 < q) (h6 : q ≤ 6) : (zL neg (q : Int)).map u8e = (sgnL neg).map u8e ++ List.replicate q (u8e 48) := by
  unfold zL
  rw [if_neg (by omega), if_pos (by omega), Int.toNat_natCast, List.map_append, List.map_replicate]
theorem zL_n (neg : Bool) (q : Nat) (h : 0 < q) (h6 : q ≤ 3) : (zL neg (-(q : Int))).map u8e = (sgnL neg).map u8e ++ [Value.int .u8 48, Value.int .u8 46] ++ List.replicate q (u8e 48) := by
  unfold zL
  rw [if_neg (by omega), if_neg (by omega), if_neg (by omega), Int.neg_neg, Int.toNat_natCast, List.map_append, List.map_append, List.map_replicate]; rfl
theorem zL_0 (neg : Bool) : (zL neg 0).map u8e = (sgnL neg).map u8e ++ [Value.int .u8 48] := by
  unfold zL
  rw [if_neg (by omega), if_neg (by omega), if_pos rfl, List.map_append]; rfl

set_option maxHeartbeats 8000000 in
theorem efg0_c (B R : Nat) (cur : Array Value) (fz : Nat × Nat) (v : Value) (W0 w : World) (neg : Bool) (dp : Int) (hI : EfgI B R cur fz v [] W0 w) (hb : -400 ≤ dp) (hb2 : dp ≤ 400) :
    Calls Tryz.prog 122 #[v, .bool neg, .slice (some ⟨R, 0, none⟩) 32 32, .int .i64 dp, .int .i64 0, .int .i64 0, .int .u8 103, .bool true] w fun e w' =>
      ∃ v', e = .returned v' ∧ EfgI B R cur fz v' ((zL neg dp).map u8e) W0 w' := by
  rcases (show (dp - 1 < -4) ∨ (6 ≤ dp - 1 ∧ ¬ dp - 1 < -4) ∨ (∃ q : Nat, dp = q ∧ 0 < q ∧ q ≤ 6) ∨ (∃ q : Nat, dp = -(q : Int) ∧ 0 < q ∧ q ≤ 3) ∨ dp = 0 by
    by_cases h1 : dp - 1 < -4
    · exact Or.inl h1
    · by_cases h2 : 6 ≤ dp - 1
      · exact Or.inr (Or.inl ⟨h2, h1⟩)
      · by_cases h : 0 < dp
        · exact Or.inr (Or.inr (Or.inl ⟨dp.toNat, by omega, by omega, by omega⟩))
        · by_cases h0 : dp = 0
          · exact Or.inr (Or.inr (Or.inr (Or.inr h0)))
          · exact Or.inr (Or.inr (Or.inr (Or.inl ⟨(-dp).toNat, by omega, by omega, by omega⟩)))) with t1 | ⟨t1, t2⟩ | ⟨q, rfl, q0, q6⟩ | ⟨q, rfl, q0, q3⟩ | rfl
  · cases neg
    · rw [zL_e false dp (by omega)]
      go_enter Tryz.func122, Tryz.ntmps122
      go_wp2_with (at_builtin; refine wpList_append_new rfl _ _ rfl B R cur fz W0 _ _ rfl (by assumption) _ rfl (by simp [Value.oneCell']) (by first | (simp; done) | (simp; omega)) ?_; intro v1 w1 I1)
      go_ret
      refine ⟨_, rfl, cast (congrArg (fun l => EfgI B R cur fz _ l W0 _) ?_) I1⟩
      first | (simp [sgnL]; done) | (simp [sgnL, u8e]; done)
    · rw [zL_e true dp (by omega)]
      go_enter Tryz.func122, Tryz.ntmps122
      go_wp2_with (at_builtin; refine wpList_append_new rfl _ _ rfl B R cur fz W0 _ _ rfl (by assumption) _ rfl (by simp [Value.oneCell']) (by first | (simp; done) | (simp; omega)) ?_; intro v1 w1 I1)
      go_ret
      refine ⟨_, rfl, cast (congrArg (fun l => EfgI B R cur fz _ l W0 _) ?_) I1⟩
      first | (simp [sgnL]; done) | (simp [sgnL, u8e]; done)
  · cases neg
    · rw [zL_e false dp (by omega)]
      go_enter Tryz.func122, Tryz.ntmps122
      go_wp2_with (at_builtin; refine wpList_append_new rfl _ _ rfl B R cur fz W0 _ _ rfl (by assumption) _ rfl (by simp [Value.oneCell']) (by first | (simp; done) | (simp; omega)) ?_; intro v1 w1 I1)
      go_ret
      refine ⟨_, rfl, cast (congrArg (fun l => EfgI B R cur fz _ l W0 _) ?_) I1⟩
      first | (simp [sgnL]; done) | (simp [sgnL, u8e]; done)
    · rw [zL_e true dp (by omega)]
      go_enter Tryz.func122, Tryz.ntmps122
      go_wp2_with (at_builtin; refine wpList_append_new rfl _ _ rfl B R cur fz W0 _ _ rfl (by assumption) _ rfl (by simp [Value.oneCell']) (by first | (simp; done) | (simp; omega)) ?_; intro v1 w1 I1)
      go_ret
      refine ⟨_, rfl, cast (congrArg (fun l => EfgI B R cur fz _ l W0 _) ?_) I1⟩
      first | (simp [sgnL]; done) | (simp [sgnL, u8e]; done)
  · cases neg
    · have t1 : ¬ (q : Int) - 1 < -4 := by omega
      have t2 : ¬ (6 : Int) ≤ (q : Int) - 1 := by omega
      have t12 : (q : Int) - 1 < 6 := by omega
      have s1 : (0 : Int) < (q : Int) := by omega
      have s0 : ¬ (q : Int) < 0 := by omega
      have s2 : max (-(q : Int)) 0 = 0 := by omega
      have s3 : min (0 : Int) (q : Int) = 0 := by omega
      rw [zL_p false q q0 q6]
      go_enter Tryz.func122, Tryz.ntmps122
      go_wp2_with (at_builtin; refine wpList_append_new rfl _ _ rfl B R cur fz W0 _ _ rfl (by assumption) _ rfl (by simp [Value.oneCell']) (by first | (simp; done) | (simp; omega)) ?_; intro v1 w1 I1)
      refine wp_loop_rounds 1 ?_
      rw [rounds_succ]
      go_wp2_with fail
      go_loopg [0, 203] (q) (fun kx v0 vj wr => ∃ j : Nat, vj = .int .i64 j ∧ j ≤ q ∧ q - j ≤ kx ∧ EfgI B R cur fz v0 ([] ++ List.replicate j (u8e 48)) W0 wr)
      case atStart => exact ⟨0, rfl, Nat.zero_le _, by omega, by simpa using hI⟩
      case round =>
        obtain ⟨j, rfl, hj, hjx, I⟩ := hrel
        by_cases hlt : j < q
        · have hz : (j : Int) < q := by omega
          have es := zer_succ j
          go_wp2_with (at_builtin; refine wpList_append_new rfl _ _ rfl B R cur fz W0 _ _ rfl (by assumption) _ rfl (by simp [Value.oneCell']) (by first | (simp; done) | (simp; omega)) ?_; intro v1 w1 I1)
          go_roundg (q - (j + 1))
          case measure => omega
          case rel => exact ⟨j + 1, by go_num, hlt, Nat.le_refl _, by rw [es]; simpa using I1⟩
        · obtain rfl : q = j := by omega
          go_wp2_with fail
          go_ret
          refine ⟨_, rfl, cast (congrArg (fun l => EfgI B R cur fz _ l W0 _) ?_) I⟩
          first | (simp [sgnL]; done) | (simp [sgnL, u8e]; done)
    · have t1 : ¬ (q : Int) - 1 < -4 := by omega
      have t2 : ¬ (6 : Int) ≤ (q : Int) - 1 := by omega
      have t12 : (q : Int) - 1 < 6 := by omega
      have s1 : (0 : Int) < (q : Int) := by omega
      have s0 : ¬ (q : Int) < 0 := by omega
      have s2 : max (-(q : Int)) 0 = 0 := by omega
      have s3 : min (0 : Int) (q : Int) = 0 := by omega
      rw [zL_p true q q0 q6]
      go_enter Tryz.func122, Tryz.ntmps122
      go_wp2_with (at_builtin; refine wpList_append_new rfl _ _ rfl B R cur fz W0 _ _ rfl (by assumption) _ rfl (by simp [Value.oneCell']) (by first | (simp; done) | (simp; omega)) ?_; intro v1 w1 I1)
      refine wp_loop_rounds 1 ?_
      rw [rounds_succ]
      go_wp2_with fail
      go_loopg [0, 203] (q) (fun kx v0 vj wr => ∃ j : Nat, vj = .int .i64 j ∧ j ≤ q ∧ q - j ≤ kx ∧ EfgI B R cur fz v0 ([Value.int .u8 45] ++ List.replicate j (u8e 48)) W0 wr)
      case atStart => exact ⟨0, rfl, Nat.zero_le _, by omega, by simpa using I1⟩
      case round =>
        obtain ⟨j, rfl, hj, hjx, I⟩ := hrel
        by_cases hlt : j < q
        · have hz : (j : Int) < q := by omega
          have es := zer_succ j
          go_wp2_with (at_builtin; refine wpList_append_new rfl _ _ rfl B R cur fz W0 _ _ rfl (by assumption) _ rfl (by simp [Value.oneCell']) (by first | (simp; done) | (simp; omega)) ?_; intro v1 w1 I1)
          go_roundg (q - (j + 1))
          case measure => omega
          case rel => exact ⟨j + 1, by go_num, hlt, Nat.le_refl _, by rw [es]; simpa using I1⟩
        · obtain rfl : q = j := by omega
          go_wp2_with fail
          go_ret
          refine ⟨_, rfl, cast (congrArg (fun l => EfgI B R cur fz _ l W0 _) ?_) I⟩
          first | (simp [sgnL]; done) | (simp [sgnL, u8e]; done)
  · cases neg
    · have t1 : ¬ -(q : Int) - 1 < -4 := by omega
      have t2 : ¬ (6 : Int) ≤ -(q : Int) - 1 := by omega
      have t12 : -(q : Int) - 1 < 6 := by omega
      have s1 : ¬ (0 : Int) < -(q : Int) := by omega
      have s0 : (0 : Int) < (q : Int) := by omega
      have s2 : max (q : Int) 0 = q := by omega
      have s6 : max (0 : Int) (q : Int) = q := by omega
      have s7 : min (q : Int) (q : Int) = q := by omega
      have s9 : -(q : Int) + (q : Int) = 0 := by omega
      rw [zL_n false q q0 q3]
      go_enter Tryz.func122, Tryz.ntmps122
      go_wp2_with (at_builtin; refine wpList_append_new rfl _ _ rfl B R cur fz W0 _ _ rfl (by assumption) _ rfl (by simp [Value.oneCell']) (by first | (simp; done) | (simp; omega)) ?_; intro v1 w1 I1)
      go_loopg [0, 240] (q) (fun kx v0 vj wr => ∃ j : Nat, vj = .int .i64 j ∧ j ≤ q ∧ q - j ≤ kx ∧ EfgI B R cur fz v0 ([] ++ [Value.int .u8 48, Value.int .u8 46] ++ List.replicate j (u8e 48)) W0 wr)
      case atStart => exact ⟨0, rfl, Nat.zero_le _, by omega, by simpa using I1⟩
      case round =>
        obtain ⟨j, rfl, hj, hjx, I⟩ := hrel
        by_cases hlt : j < q
        · have hz : (j : Int) < q := by omega
          have es := zer_succ j
          go_wp2_with (at_builtin; refine wpList_append_new rfl _ _ rfl B R cur fz W0 _ _ rfl (by assumption) _ rfl (by simp [Value.oneCell']) (by first | (simp; done) | (simp; omega)) ?_; intro v1 w1 I1)
          go_roundg (q - (j + 1))
          case measure => omega
          case rel => exact ⟨j + 1, by go_num, hlt, Nat.le_refl _, by rw [es]; simpa using I1⟩
        · obtain rfl : q = j := by omega
          go_wp2_with fail
          refine wp_loop_rounds 1 ?_
          rw [rounds_succ]
          go_wp2_with fail
          refine wp_loop_rounds 1 ?_
          rw [rounds_succ]
          go_wp2_with fail
          go_ret
          refine ⟨_, rfl, cast (congrArg (fun l => EfgI B R cur fz _ l W0 _) ?_) I⟩
          first | (simp [sgnL]; done) | (simp [sgnL, u8e]; done)
    · have t1 : ¬ -(q : Int) - 1 < -4 := by omega
      have t2 : ¬ (6 : Int) ≤ -(q : Int) - 1 := by omega
      have t12 : -(q : Int) - 1 < 6 := by omega
      have s1 : ¬ (0 : Int) < -(q : Int) := by omega
      have s0 : (0 : Int) < (q : Int) := by omega
      have s2 : max (q : Int) 0 = q := by omega
      have s6 : max (0 : Int) (q : Int) = q := by omega
      have s7 : min (q : Int) (q : Int) = q := by omega
      have s9 : -(q : Int) + (q : Int) = 0 := by omega
      rw [zL_n true q q0 q3]
      go_enter Tryz.func122, Tryz.ntmps122
      go_wp2_with (at_builtin; refine wpList_append_new rfl _ _ rfl B R cur fz W0 _ _ rfl (by assumption) _ rfl (by simp [Value.oneCell']) (by first | (simp; done) | (simp; omega)) ?_; intro v1 w1 I1)
      go_loopg [0, 240] (q) (fun kx v0 vj wr => ∃ j : Nat, vj = .int .i64 j ∧ j ≤ q ∧ q - j ≤ kx ∧ EfgI B R cur fz v0 ([Value.int .u8 45] ++ [Value.int .u8 48, Value.int .u8 46] ++ List.replicate j (u8e 48)) W0 wr)
      case atStart => exact ⟨0, rfl, Nat.zero_le _, by omega, by simpa using I1⟩
      case round =>
        obtain ⟨j, rfl, hj, hjx, I⟩ := hrel
        by_cases hlt : j < q
        · have hz : (j : Int) < q := by omega
          have es := zer_succ j
          go_wp2_with (at_builtin; refine wpList_append_new rfl _ _ rfl B R cur fz W0 _ _ rfl (by assumption) _ rfl (by simp [Value.oneCell']) (by first | (simp; done) | (simp; omega)) ?_; intro v1 w1 I1)
          go_roundg (q - (j + 1))
          case measure => omega
          case rel => exact ⟨j + 1, by go_num, hlt, Nat.le_refl _, by rw [es]; simpa using I1⟩
        · obtain rfl : q = j := by omega
          go_wp2_with fail
          refine wp_loop_rounds 1 ?_
          rw [rounds_succ]
          go_wp2_with fail
          refine wp_loop_rounds 1 ?_
          rw [rounds_succ]
          go_wp2_with fail
          go_ret
          refine ⟨_, rfl, cast (congrArg (fun l => EfgI B R cur fz _ l W0 _) ?_) I⟩
          first | (simp [sgnL]; done) | (simp [sgnL, u8e]; done)
  · cases neg
    · rw [zL_0]
      go_enter Tryz.func122, Tryz.ntmps122
      go_wp2_with (at_builtin; refine wpList_append_new rfl _ _ rfl B R cur fz W0 _ _ rfl (by assumption) _ rfl (by simp [Value.oneCell']) (by first | (simp; done) | (simp; omega)) ?_; intro v1 w1 I1)
      go_ret
      refine ⟨_, rfl, cast (congrArg (fun l => EfgI B R cur fz _ l W0 _) ?_) I1⟩
      first | (simp [sgnL]; done) | (simp [sgnL, u8e]; done)
    · rw [zL_0]
      go_enter Tryz.func122, Tryz.ntmps122
      go_wp2_with (at_builtin; refine wpList_append_new rfl _ _ rfl B R cur fz W0 _ _ rfl (by assumption) _ rfl (by simp [Value.oneCell']) (by first | (simp; done) | (simp; omega)) ?_; intro v1 w1 I1)
      go_ret
      refine ⟨_, rfl, cast (congrArg (fun l => EfgI B R cur fz _ l W0 _) ?_) I1⟩
      first | (simp [sgnL]; done) | (simp [sgnL, u8e]; done)

set_option maxHeartbeats 4000000 in
/-- Of nought. -/
theorem efgZero_c (B : Nat) (v : Value) (W0 w : World) (neg : Bool) (hI : Lib.OwnBuf B 5 v 0 [] W0 w) :
    Calls Tryz.prog 122 #[v, .bool neg, .slice none 0 0, .int .i64 0, .int .i64 0, .int .i64 (-1), .int .u8 103, .bool true] w fun e w' =>
      ∃ v', e = .returned v' ∧ Lib.OwnBuf B 5 v' (sgnL neg ++ [48]).length ((sgnL neg ++ [48]).map u8e) W0 w' := by
  obtain ⟨i0, hi, hz0, hz1, hz2⟩ := infoU8'
  cases neg
  · go_enter Tryz.func122, Tryz.ntmps122
    go_wp2_with (at_builtin; refine Lib.wpList_append_byte rfl _ _ 43 rfl B 5 i0 Tryz.underlying43 hi hz0 hz1 hz2 _ _ _ rfl W0 _ _ (by assumption) rfl (by first | omega | simp) ?_; intro v1 w1 hb1)
    go_ret
    exact ⟨_, rfl, by assumption⟩
  · go_enter Tryz.func122, Tryz.ntmps122
    go_wp2_with (at_builtin; refine Lib.wpList_append_byte rfl _ _ 43 rfl B 5 i0 Tryz.underlying43 hi hz0 hz1 hz2 _ _ _ rfl W0 _ _ (by assumption) rfl (by first | omega | simp) ?_; intro v1 w1 hb1)
    go_ret
    exact ⟨_, rfl, by assumption⟩

/-- What fmtEFG writes. -/
def gL (neg : Bool) (D : Nat → UInt8) (nd : Nat) (dp : Int) : List UInt8 := if nd = 0 then zL neg dp else efgL neg D nd dp
theorem efg_c (B R : Nat) (cur : Array Value) (fz : Nat × Nat) (v : Value) (W0 w : World) (neg : Bool) (D : Nat → UInt8) (nd : Nat) (dp : Int) (hI : EfgI B R cur fz v [] W0 w) (hc : ∀ j, j < nd → cur[j]? = some (u8e (D j))) (h2 : nd ≤ 20) (hb : -399 ≤ dp) (hb2 : dp ≤ 400) :
    Calls Tryz.prog 122 #[v, .bool neg, .slice (some ⟨R, 0, none⟩) 32 32, .int .i64 dp, .int .i64 nd, .int .i64 nd, .int .u8 103, .bool true] w fun e w' =>
      ∃ v', e = .returned v' ∧ EfgI B R cur fz v' ((gL neg D nd dp).map u8e) W0 w' := by
  unfold gL
  by_cases h0 : nd = 0
  · subst h0
    rw [if_pos rfl]
    exact efg0_c B R cur fz v W0 w neg dp hI (by omega) (by omega)
  · rw [if_neg h0]
    unfold efgL
    by_cases he : dp - 1 < -4 ∨ 6 ≤ dp - 1
    · rw [if_pos he]
      exact efgE_c B R cur fz v W0 w neg D nd dp (dp - 1).natAbs hI hc (by omega) h2 (by omega) (by omega)
    · rw [if_neg he]
      exact efgF_c B R cur fz v W0 w neg D nd dp hI hc (by omega) h2 (by omega) (by omega)
end Go.Proofs.YtfffmndjgjfflaaGreatDoor

/- strconv.FormatFloat at 'g', -1, 64, in general. -/
namespace Go.Proofs.YtfffmndjgjfflaaGreatDoor
open Go.RowKit
set_option maxRecDepth 100000

theorem callBits (x : Nat) (w : World) : (callFunc 119 #[.float .f64 x]).run Tryz.prog w = .ok (.value (.int .u64 x)) w := by
  have h : (callFunc 119 #[.float .f64 x]).run Tryz.prog w = .ok (.value (.int .u64 x)) w := by kernel_rfl
  exact h
attribute [local go_sem] callBits

/-! ### Plainly -/
def fExp (x : Nat) : Nat := x / 4503599627370496 % 2048
def fMan (x : Nat) : Nat := x % 4503599627370496
def fNeg (x : Nat) : Bool := decide (9223372036854775808 ≤ x)
/-- The mantissa with its leading bit, and the exponent. -/
def fM (x : Nat) : Nat := if fExp x = 0 then fMan x else fMan x + 4503599627370496
def fE (x : Nat) : Int := if fExp x = 0 then -1022 else (fExp x : Int) - 1023
/-- The digits, and where the point stands. -/
def fS (x : Nat) : Nat := 64 - Lib.bitLen (fM x)
def fDig (x : Nat) : Nat := (shortD (fM x * 2 ^ fS x) (fE x - fS x - 52)).toNat
def fPt (x : Nat) : Int := shortP (fM x * 2 ^ fS x) (fE x - fS x - 52)
def digD (u : Nat) (j : Nat) : UInt8 := Lib.dg u (nDig u - 1 - j)
/-- A number's text by FormatFloat(x, 'g', -1, 64). -/
def ftoaL (x : Nat) : List UInt8 :=
  if fExp x = 2047 then (if fMan x ≠ 0 then [78, 97, 78] else if fNeg x then [45, 73, 110, 102] else [43, 73, 110, 102])
  else if fM x = 0 then sgnL (fNeg x) ++ [48]
  else gL (fNeg x) (digD (fDig x)) (nzd (fDig x)) (nDig (fDig x) + fPt x)

theorem fM_lt (x : Nat) : fM x < 9007199254740992 := by
  unfold fM fMan; split <;> omega
theorem fE_bd (x : Nat) (h : fExp x ≠ 2047) : -1022 ≤ fE x ∧ fE x ≤ 1023 := by
  have : fExp x < 2048 := by unfold fExp; omega
  unfold fE; split <;> omega
theorem exp_bits (x : Nat) (hx : x < 18446744073709551616) : bits BinOp.and IntKind.i64 ((x : Int) / 4503599627370496) 2047 = ((fExp x : Nat) : Int) := by
  have h := bits_mask .i64 63 (by decide) (fun n h0 h1 => by rw [show (2 : Int) ^ 63 = 9223372036854775808 from rfl] at h1; rw [IntKind.wrap_i64]; omega) 11 (by decide) ((x : Int) / 4503599627370496) (by omega) (by rw [show (2 : Int) ^ 63 = 9223372036854775808 from rfl]; omega)
  rw [show ((2 : Int) ^ 11 - 1) = 2047 from by decide, show ((2 : Int) ^ 11) = 2048 from by decide] at h
  rw [h]; unfold fExp; omega
theorem man_bits (x : Nat) (hx : x < 18446744073709551616) : bits BinOp.and IntKind.u64 (x : Int) 4503599627370495 = ((fMan x : Nat) : Int) := by
  have h := bits_and_u64_nat x 4503599627370495 hx (by decide)
  rw [show ((4503599627370495 : Nat) : Int) = 4503599627370495 from rfl] at h
  rw [h, show (4503599627370495 : Nat) = 2 ^ 52 - 1 from by decide, Nat.and_two_pow_sub_one_eq_mod]; rfl
theorem top_bits (a : Nat) (h : a < 4503599627370496) : bits BinOp.or IntKind.u64 (a : Int) 4503599627370496 = ((a + 4503599627370496 : Nat) : Int) := by
  have h1 := bits_or_u64_nat a 4503599627370496 (by omega) (by decide)
  rw [show ((4503599627370496 : Nat) : Int) = 4503599627370496 from rfl] at h1
  rw [h1]
  have := Nat.two_pow_add_eq_or_of_lt (i := 52) (b := a) h 1
  rw [Nat.mul_one] at this
  rw [Nat.or_comm, show (4503599627370496 : Nat) = 2 ^ 52 from by decide, ← this, Nat.add_comm]
theorem neg_bits (x : Nat) : ((x : Int) / 9223372036854775808 != 0) = fNeg x := by
  unfold fNeg
  by_cases h : 9223372036854775808 ≤ x
  · rw [decide_eq_true h]; simp; omega
  · rw [decide_eq_false h]; simp; omega
theorem bl_bd (M : Nat) (h : M ≠ 0) (h2 : M < 9007199254740992) : 1 ≤ Lib.bitLen M ∧ Lib.bitLen M ≤ 53 ∧ M * 2 ^ (64 - Lib.bitLen M) < 18446744073709551616 := by
  have h1 := Lib.bitLenAux_bounds 64 M (by omega) h
  have h3 : Lib.bitLen M ≤ 53 := Lib.bitLen_le M 53 (by decide) h2
  refine ⟨h1.1, h3, ?_⟩
  have h4 : M < 2 ^ Lib.bitLen M := h1.2.2
  have h5 : 0 < 2 ^ (64 - Lib.bitLen M) := Nat.two_pow_pos _
  have h6 := Nat.mul_lt_mul_of_pos_right h4 h5
  rw [← Nat.pow_add, show Lib.bitLen M + (64 - Lib.bitLen M) = 64 by omega] at h6
  exact h6
theorem shortP_bd (m : Nat) (e : Int) (h1 : -1137 ≤ e) (h2 : e ≤ 960) : -347 ≤ shortP m e ∧ shortP m e ≤ 349 := by
  have := (sfI_lt m e h1 h2).1
  unfold shortP sfP
  split <;> omega
theorem ownBuf_on' {B : Nat} {e : TypeId} {v : Value} {n : Nat} {xs : List Value} {W0 w w' : World} (h : Lib.OwnBuf B e v n xs W0 w) (hb : Below w.heap.size w w') : Lib.OwnBuf B e v n xs W0 w' := by
  obtain ⟨⟨hl, ho⟩, h2, h3⟩ := h
  refine ⟨⟨hl, ?_⟩, h2.trans (hb.mono h3), Nat.le_trans h3 hb.size⟩
  rcases ho with ho | ⟨g, cap, cur, fz, hv, hg, hh, r⟩
  · exact .inl ho
  · refine .inr ⟨g, cap, cur, fz, hv, hg, ?_, r⟩
    have hlt : g < w.heap.size := by
      rcases Nat.lt_or_ge g w.heap.size with h | h
      · exact h
      · rw [Array.getElem?_eq_none h] at hh; cases hh
    rw [hb.block g hlt]; exact hh

set_option maxHeartbeats 8000000 in
theorem ftoa_c (B : Nat) (v : Value) (W0 w : World) (x : Nat) (hx : x < 18446744073709551616) (hT : Tabs w) (hg : 14 < w.heap.size) (hb : Lib.OwnBuf B 5 v 0 [] W0 w) :
    Calls Tryz.prog 106 #[v, .float .f64 x, .int .u8 103, .int .i64 (-1)] w fun e w' =>
      ∃ v', e = .returned v' ∧ Lib.OwnBuf B 5 v' (ftoaL x).length ((ftoaL x).map u8e) W0 w' := by
  obtain ⟨i0, hi, hz0, hz1, hz2⟩ := infoU8'
  have hw : ∀ n : Nat, Tabs ((w.drewN n).alloc (.cells (Array.replicate 32 (.int .u8 0)) 138)) := fun n => (hT.drew n).on ((Below.refl _ _).alloc (Nat.le_refl _) _)
  have e1 := exp_bits x hx
  have e2 := man_bits x hx
  have e3 := neg_bits x
  obtain ⟨ng, hng⟩ : ∃ ng, ng = fNeg x := ⟨_, rfl⟩
  rw [← hng] at e3
  by_cases h47 : fExp x = 2047
  · have hL : ftoaL x = if fMan x ≠ 0 then [78, 97, 78] else if ng then [45, 73, 110, 102] else [43, 73, 110, 102] := by unfold ftoaL; rw [if_pos h47, hng]
    rw [h47] at e1
    rw [show (((2047 : Nat)) : Int) = 2047 from rfl] at e1
    by_cases hm : fMan x = 0
    · rw [hm] at e2
      rw [show (((0 : Nat)) : Int) = 0 from rfl] at e2
      cases ng
      all_goals
        rw [hL, if_neg (by simp [hm])]
        clear hL hng h47 hm
        go_enter Tryz.func106, Tryz.ntmps106
        go_wp2_with fail
        go_quiet (fail)
        have hbq := hb.drewN nq
        go_wp2_with (at_builtin; refine Lib.wpList_append_text rfl _ _ 43 9 rfl B 5 i0 Tryz.underlying43 Tryz.underlying9 hi hz0 hz1 hz2 _ _ _ rfl W0 hbq _ rfl (by decide) ?_; intro v1 w1 hb1)
        go_ret
        exact ⟨_, rfl, hb1⟩
    · have hm2 : ((fMan x : Int) != 0) = true := by simp; omega
      rw [hL, if_pos hm]
      clear hL hng h47 hm
      generalize fMan x = mn at *
      go_enter Tryz.func106, Tryz.ntmps106
      go_wp2_with fail
      go_quiet (fail)
      have hbq := hb.drewN nq
      go_wp2_with (at_builtin; refine Lib.wpList_append_text rfl _ _ 43 9 rfl B 5 i0 Tryz.underlying43 Tryz.underlying9 hi hz0 hz1 hz2 _ _ _ rfl W0 hbq _ rfl (by decide) ?_; intro v1 w1 hb1)
      go_ret
      exact ⟨_, rfl, hb1⟩
  have h47b : (((fExp x : Nat) : Int) == 2047) = false := by simp; omega
  have hE := fE_bd x h47
  have hM := fM_lt x
  have hlt : fMan x < 4503599627370496 := by unfold fMan; omega
  have e4 := top_bits (fMan x) hlt
  have hL : ftoaL x = if fM x = 0 then sgnL ng ++ [48] else gL ng (digD (fDig x)) (nzd (fDig x)) (nDig (fDig x) + fPt x) := by unfold ftoaL; rw [if_neg h47, hng]
  by_cases hM0 : fM x = 0
  · have hx0 : fExp x = 0 := by unfold fM at hM0; split at hM0 <;> omega
    have hm0 : fMan x = 0 := by unfold fM at hM0; rw [if_pos hx0] at hM0; exact hM0
    rw [hL, if_pos hM0]
    rw [hx0, show (((0 : Nat)) : Int) = 0 from rfl] at e1
    rw [hm0, show (((0 : Nat)) : Int) = 0 from rfl] at e2
    clear hL h47 h47b hE hM hlt e4 hM0 hx0 hm0 hng
    go_enter Tryz.func106, Tryz.ntmps106
    go_wp2_with fail
    go_quiet (fail)
    have hbq := hb.drewN nq
    go_wp2_with fail
    refine (efgZero_c B v W0 _ ng hbq).mono ?_
    rintro e w1 ⟨v', rfl, hb1⟩
    go_wp2_with fail
    go_ret
    exact ⟨_, rfl, hb1⟩
  rw [hL, if_neg hM0]
  obtain ⟨b1, b2, b3⟩ := bl_bd (fM x) hM0 hM
  obtain ⟨M, hMd⟩ : ∃ M, M = fM x := ⟨_, rfl⟩
  obtain ⟨bl, hbl⟩ : ∃ bl, bl = Lib.bitLen M := ⟨_, rfl⟩
  have hlen : ∀ W, Calls Tryz.prog 101 #[.int .u64 (M : Int)] W fun e w' => e = .returned (.int .i64 bl) ∧ w' = W := fun W => by
    have := Tryz.bits_Len64 (M : Int) W (by omega) (by omega)
    rw [show (M : Int).toNat = M from rfl, ← hbl] at this
    exact this
  rw [← hMd, ← hbl] at b1 b2 b3
  rw [← hMd] at hM hM0
  have hx0 : (fExp x = 0 ∧ M = fMan x ∧ fE x = -1022) ∨ ((((fExp x : Nat) : Int) == 0) = false ∧ M = fMan x + 4503599627370496 ∧ fE x = (fExp x : Int) - 1023) := by
    rw [hMd]; unfold fM fE
    by_cases h : fExp x = 0
    · exact Or.inl ⟨h, by rw [if_pos h], by rw [if_pos h]⟩
    · exact Or.inr ⟨by simp; omega, by rw [if_neg h], by rw [if_neg h]⟩
  obtain ⟨E, hEd⟩ : ∃ E, E = fE x := ⟨_, rfl⟩
  have hm2 : ((M : Int) == 0) = false := by simp; omega
  have hq1 : fS x = 64 - bl := by unfold fS; rw [← hMd, hbl]
  obtain ⟨sh, hsh⟩ : ∃ sh, sh = 64 - bl := ⟨_, rfl⟩
  have hshz : (64 : Int) - (bl : Int) = (sh : Int) := by omega
  have hs1 : 11 ≤ sh := by omega
  have hs2 : sh ≤ 63 := by omega
  rw [← hsh] at b3 hq1
  obtain ⟨m, hm⟩ : ∃ m, m = M * 2 ^ sh := ⟨_, rfl⟩
  rw [← hm] at b3
  rw [← hEd] at hE hx0
  obtain ⟨d, hd⟩ : ∃ d, d = fDig x := ⟨_, rfl⟩
  obtain ⟨pt, hpt⟩ : ∃ pt, pt = fPt x := ⟨_, rfl⟩
  have hD : shortD m (E - sh - 52) = (d : Int) := by
    have h1 := sfD_bd m (sfMn m (E - sh - 52)) (sfMx m (E - sh - 52)) (sfI m (E - sh - 52)) (sfS m (E - sh - 52)) (sfOd m (E - sh - 52))
    have h2 : d = (shortD m (E - sh - 52)).toNat := by rw [hd]; unfold fDig; rw [hq1, ← hMd, ← hEd, hm]
    unfold shortD at h2 ⊢
    omega
  have hdl : d < 18446744073709551616 := by
    have h1 := sfD_bd m (sfMn m (E - sh - 52)) (sfMx m (E - sh - 52)) (sfI m (E - sh - 52)) (sfS m (E - sh - 52)) (sfOd m (E - sh - 52))
    unfold shortD at hD
    omega
  have hP : shortP m (E - sh - 52) = pt := by rw [hpt]; unfold fPt; rw [hq1, ← hMd, ← hEd, hm]
  have hPb := shortP_bd m (E - sh - 52) (by omega) (by omega)
  rw [hP] at hPb
  have hSF : ∀ W, Tabs W → 14 < W.heap.size → Calls Tryz.prog 129 #[.int .u64 m, .int .i64 (E - sh - 52)] W fun e' w' => e' = .returned (.tuple #[.int .u64 d, .int .i64 pt]) ∧ Below W.heap.size W w' := fun W h1 h2 => by
    have := shortFloat_c m (E - sh - 52) W h1 b3 (by omega) (by omega) h2
    rw [hD, hP] at this
    exact this
  rw [← hd, ← hpt]
  have HLN := Lib.hid hlen
  have HSF := Lib.hid hSF
  have hshl : (M : Int) * 2 ^ sh = (m : Int) := by rw [hm]; simp
  clear hL hlen h47 hng hMd hbl hlt hD hP hq1 hd hpt hSF hM hm hsh b2 hEd
  rcases hx0 with ⟨hx0, hMe, hEe⟩ | ⟨hx0, hMe, hEe⟩
  · rw [hx0, show (((0 : Nat)) : Int) = 0 from rfl] at e1
    rw [← hMe] at e2
    subst hEe
    clear e4 hMe hx0 hM0 h47b
    go_enter Tryz.func106, Tryz.ntmps106
    go_wp2_with fail
    go_quiet (fail)
    go_wp2_with fail
    refine (HLN.out _).mono ?_
    rintro e w' ⟨rfl, rfl⟩
    go_wp2_with fail
    refine (HSF.out _ (hw nq) (by simp; omega)).mono ?_
    rintro e w1 ⟨rfl, hb1⟩
    go_wp2_with fail
    have hz : Sort.Holds u8e w1.drew w.heap.size 0 (Array.replicate (nDig d) 0) := by
      intro j hj
      have hj' : j < 32 := by
        have h20 := nDig_le d hdl
        have : j < nDig d := by simpa using hj
        omega
      have e1 : w1.cell? ⟨w.heap.size, 0 + j, none⟩ = some (.int .u8 0) := by
        rw [hb1.cell (p := ⟨w.heap.size, 0 + j, none⟩) (by simp), show w.heap.size = (w.drewN nq).heap.size from rfl, World.cell?_alloc_new]
        rw [Array.getElem?_eq_getElem (by rw [Array.size_replicate]; omega), Array.getElem_replicate]
      have e2 : w1.frozen? ⟨w.heap.size, 0 + j, none⟩ = false := by
        rw [hb1.frozen (p := ⟨w.heap.size, 0 + j, none⟩) (by simp), show w.heap.size = (w.drewN nq).heap.size from rfl]
        exact World.frozen?_alloc_new _ _ _ _
      refine ⟨?_, e2⟩
      rw [getElem!_pos _ j hj, Array.getElem_replicate]
      exact e1
    have hrow : w1.drew.heap[w.heap.size]? = some (.cells (Array.replicate 32 (.int .u8 0)) 138 (0, 0)) := by
      show w1.heap[w.heap.size]? = _
      rw [hb1.block _ (by simp)]
      show (w.heap.push _)[w.heap.size]? = _
      rw [Array.getElem?_push_size]
    have hT1 : Tabs w1.drew := ((hw nq).on hb1).drew 1
    have cS := setDigits_c w.heap.size d pt hdl (by omega) (by omega) _ hz
    have cN := numDigits_c d hdl _ hT1
    have hB : Below w.heap.size w w1 := ((drewN_below _ w nq).trans ((Below.refl _ _).alloc (Nat.le_refl _) _)).trans (hb1.mono (by simp))
    have CS := Lib.hid cS; have CN := Lib.hid cN; have HB := Lib.hid hB; have H1 := Lib.hid hb1; have HROW := Lib.hid hrow; clear cS cN hB hb1 hz hT1 hw hrow
    have hn20 := nDig_le d hdl
    have hnz : nzd d ≤ nDig d := strip_le _ _ _
    go_region_with (first | (go_at_call 82; refine CN.out.mono ?_; rintro e w' ⟨rfl, rfl⟩) | (go_at_call 124; refine CS.out.mono ?_; rintro e w2 ⟨rfl, hc, hb2, hst⟩))
    go_wp2_with fail
    obtain ⟨cur, hcsz, hcur⟩ := hst _ _ _ HROW.out
    have hE0 : EfgI B w.heap.size cur (0, 0) v [] W0 w2 := ⟨ownBuf_on' hb (HB.out.drew.trans hb2), hcur⟩
    refine (efg_c B w.heap.size cur (0, 0) v W0 w2 ng (digD d) (nzd d) ((nDig d : Int) + pt) hE0 (fun j hj => ?_) (by omega) (by omega) (by omega)).mono ?_
    · rw [← hE0.cell]; exact hc j (by omega)
    rintro e w3 ⟨v', rfl, hb4⟩
    go_wp2_with fail
    go_ret
    have hb5 := hb4.own
    rw [List.length_map] at hb5
    exact ⟨_, rfl, hb5⟩
  · rw [← hMe] at e4
    subst hEe
    clear hMe hM0
    go_enter Tryz.func106, Tryz.ntmps106
    go_wp2_with fail
    go_quiet (fail)
    go_wp2_with fail
    refine (HLN.out _).mono ?_
    rintro e w' ⟨rfl, rfl⟩
    go_wp2_with fail
    refine (HSF.out _ (hw nq) (by simp; omega)).mono ?_
    rintro e w1 ⟨rfl, hb1⟩
    go_wp2_with fail
    have hz : Sort.Holds u8e w1.drew w.heap.size 0 (Array.replicate (nDig d) 0) := by
      intro j hj
      have hj' : j < 32 := by
        have h20 := nDig_le d hdl
        have : j < nDig d := by simpa using hj
        omega
      have e1 : w1.cell? ⟨w.heap.size, 0 + j, none⟩ = some (.int .u8 0) := by
        rw [hb1.cell (p := ⟨w.heap.size, 0 + j, none⟩) (by simp), show w.heap.size = (w.drewN nq).heap.size from rfl, World.cell?_alloc_new]
        rw [Array.getElem?_eq_getElem (by rw [Array.size_replicate]; omega), Array.getElem_replicate]
      have e2 : w1.frozen? ⟨w.heap.size, 0 + j, none⟩ = false := by
        rw [hb1.frozen (p := ⟨w.heap.size, 0 + j, none⟩) (by simp), show w.heap.size = (w.drewN nq).heap.size from rfl]
        exact World.frozen?_alloc_new _ _ _ _
      refine ⟨?_, e2⟩
      rw [getElem!_pos _ j hj, Array.getElem_replicate]
      exact e1
    have hrow : w1.drew.heap[w.heap.size]? = some (.cells (Array.replicate 32 (.int .u8 0)) 138 (0, 0)) := by
      show w1.heap[w.heap.size]? = _
      rw [hb1.block _ (by simp)]
      show (w.heap.push _)[w.heap.size]? = _
      rw [Array.getElem?_push_size]
    have hT1 : Tabs w1.drew := ((hw nq).on hb1).drew 1
    have cS := setDigits_c w.heap.size d pt hdl (by omega) (by omega) _ hz
    have cN := numDigits_c d hdl _ hT1
    have hB : Below w.heap.size w w1 := ((drewN_below _ w nq).trans ((Below.refl _ _).alloc (Nat.le_refl _) _)).trans (hb1.mono (by simp))
    have CS := Lib.hid cS; have CN := Lib.hid cN; have HB := Lib.hid hB; have H1 := Lib.hid hb1; have HROW := Lib.hid hrow; clear cS cN hB hb1 hz hT1 hw hrow
    have hn20 := nDig_le d hdl
    have hnz : nzd d ≤ nDig d := strip_le _ _ _
    go_region_with (first | (go_at_call 82; refine CN.out.mono ?_; rintro e w' ⟨rfl, rfl⟩) | (go_at_call 124; refine CS.out.mono ?_; rintro e w2 ⟨rfl, hc, hb2, hst⟩))
    go_wp2_with fail
    obtain ⟨cur, hcsz, hcur⟩ := hst _ _ _ HROW.out
    have hE0 : EfgI B w.heap.size cur (0, 0) v [] W0 w2 := ⟨ownBuf_on' hb (HB.out.drew.trans hb2), hcur⟩
    refine (efg_c B w.heap.size cur (0, 0) v W0 w2 ng (digD d) (nzd d) ((nDig d : Int) + pt) hE0 (fun j hj => ?_) (by omega) (by omega) (by omega)).mono ?_
    · rw [← hE0.cell]; exact hc j (by omega)
    rintro e w3 ⟨v', rfl, hb4⟩
    go_wp2_with fail
    go_ret
    have hb5 := hb4.own
    rw [List.length_map] at hb5
    exact ⟨_, rfl, hb5⟩
end Go.Proofs.YtfffmndjgjfflaaGreatDoor

/- value.Print of any value. -/
namespace Go.Proofs.YtfffmndjgjfflaaGreatDoor
open Go.RowKit
set_option maxRecDepth 100000

/-! ### Plainly -/
theorem ftoaL_ne (x : Nat) : 0 < (ftoaL x).length := by
  unfold ftoaL
  split
  · split
    · decide
    · split <;> decide
  · split
    · simp
    · unfold gL
      split
      · unfold zL
        split
        · simp
        · split
          · simp; omega
          · split
            · simp
            · simp; omega
      · unfold efgL
        split
        · unfold eL; simp; omega
        · unfold fL
          split
          · simp; omega
          · simp; omega
def asciiL (l : List UInt8) : Prop := ∀ b ∈ l, b.toNat < 128
theorem asciiL_app {a b : List UInt8} (h : asciiL a) (k : asciiL b) : asciiL (a ++ b) := fun x hx => (List.mem_append.1 hx).elim (h x) (k x)
theorem asciiL_rep (n : Nat) : asciiL (List.replicate n 48) := fun x hx => by rw [(List.mem_replicate.1 hx).2]; decide
theorem dg_ascii (u j : Nat) : (Lib.dg u j).toNat < 128 := by
  unfold Lib.dg
  simp only [UInt8.toNat_ofNat']
  omega
theorem map_ascii (f : Nat → UInt8) (h : ∀ j, (f j).toNat < 128) (n : Nat) : asciiL ((List.range n).map f) := fun x hx => by
  obtain ⟨j, _, rfl⟩ := List.mem_map.1 hx
  exact h j
theorem sgn_ascii (neg : Bool) : asciiL (sgnL neg) := by cases neg <;> intro x hx <;> simp [sgnL] at hx; subst hx; decide
theorem lit_ascii (l : List UInt8) (h : l.all (fun b => decide (b.toNat < 128)) = true) : asciiL l := fun x hx => by
  have := List.all_eq_true.1 h x hx
  simpa using this
theorem exp_ascii (x : Nat) (h : x ≤ 400) : asciiL (expL x) := by
  unfold expL
  split
  · intro b hb
    simp only [List.mem_cons, List.mem_nil_iff, or_false] at hb
    rcases hb with rfl | rfl
    · decide
    · simp only [UInt8.toNat_ofNat']; omega
  · split
    · intro b hb
      simp only [List.mem_cons, List.mem_nil_iff, or_false] at hb
      rcases hb with rfl | rfl <;> (simp only [UInt8.toNat_ofNat']; omega)
    · intro b hb
      simp only [List.mem_cons, List.mem_nil_iff, or_false] at hb
      rcases hb with rfl | rfl | rfl <;> (simp only [UInt8.toNat_ofNat']; omega)
theorem gL_ascii (neg : Bool) (D : Nat → UInt8) (hD : ∀ j, (D j).toNat < 128) (nd : Nat) (dp : Int) (h1 : -399 ≤ dp) (h2 : dp ≤ 400) : asciiL (gL neg D nd dp) := by
  unfold gL
  split
  · unfold zL
    split
    · exact asciiL_app (sgn_ascii _) (lit_ascii _ (by decide))
    · split
      · exact asciiL_app (sgn_ascii _) (asciiL_rep _)
      · split
        · exact asciiL_app (sgn_ascii _) (lit_ascii _ (by decide))
        · exact asciiL_app (asciiL_app (sgn_ascii _) (lit_ascii _ (by decide))) (asciiL_rep _)
  · unfold efgL
    split
    · unfold eL
      refine asciiL_app (asciiL_app (asciiL_app (asciiL_app (asciiL_app (sgn_ascii _) ?_) ?_) (lit_ascii _ (by decide))) ?_) (exp_ascii _ (by omega))
      · intro b hb; simp at hb; subst hb; exact hD 0
      · split
        · exact lit_ascii _ (by decide)
        · intro b hb
          rcases List.mem_cons.1 hb with rfl | hb
          · decide
          · exact map_ascii _ (fun j => hD (1 + j)) _ b hb
      · intro b hb; simp at hb; subst hb; split <;> decide
    · unfold fL
      split
      · refine asciiL_app (asciiL_app (asciiL_app (sgn_ascii _) (map_ascii _ hD _)) (asciiL_rep _)) ?_
        split
        · intro b hb
          rcases List.mem_cons.1 hb with rfl | hb
          · decide
          · exact map_ascii _ (fun j => hD _) _ b hb
        · exact lit_ascii _ (by decide)
      · exact asciiL_app (asciiL_app (asciiL_app (sgn_ascii _) (lit_ascii _ (by decide))) (asciiL_rep _)) (map_ascii _ hD _)
theorem sgn_len (neg : Bool) : (sgnL neg).length ≤ 1 := by cases neg <;> decide
theorem exp_len (x : Nat) : (expL x).length ≤ 3 := by unfold expL; split; · simp
                                                      split <;> simp
theorem gL_len (neg : Bool) (D : Nat → UInt8) (nd : Nat) (dp : Int) (h : nd ≤ 20) : (gL neg D nd dp).length ≤ 60 := by
  have hs := sgn_len neg
  unfold gL
  split
  · unfold zL
    split
    · simp; omega
    · split
      · simp; omega
      · split
        · simp; omega
        · simp; omega
  · unfold efgL
    split
    · unfold eL
      have := exp_len (dp - 1).natAbs
      split <;> simp <;> omega
    · unfold fL
      split
      · split <;> simp <;> omega
      · simp; omega
/-- What is known of a number's digits. -/
theorem fPt_bd (x : Nat) (h : fExp x ≠ 2047) (hM : fM x ≠ 0) : -347 ≤ fPt x ∧ fPt x ≤ 349 ∧ nDig (fDig x) ≤ 20 := by
  have hE := fE_bd x h
  obtain ⟨b1, b2, b3⟩ := bl_bd (fM x) hM (fM_lt x)
  have e1 : -1137 ≤ fE x - fS x - 52 ∧ fE x - fS x - 52 ≤ 960 := by unfold fS; omega
  have hp := shortP_bd (fM x * 2 ^ fS x) (fE x - fS x - 52) e1.1 e1.2
  have hd := sfD_bd (fM x * 2 ^ fS x) (sfMn (fM x * 2 ^ fS x) (fE x - fS x - 52)) (sfMx (fM x * 2 ^ fS x) (fE x - fS x - 52)) (sfI (fM x * 2 ^ fS x) (fE x - fS x - 52)) (sfS (fM x * 2 ^ fS x) (fE x - fS x - 52)) (sfOd (fM x * 2 ^ fS x) (fE x - fS x - 52))
  refine ⟨hp.1, hp.2, nDig_le _ ?_⟩
  unfold fDig shortD
  omega
theorem ftoaL_ok (x : Nat) : asciiL (ftoaL x) ∧ (ftoaL x).length ≤ 60 := by
  unfold ftoaL
  split
  · split
    · exact ⟨lit_ascii _ (by decide), by decide⟩
    · split
      · exact ⟨lit_ascii _ (by decide), by decide⟩
      · exact ⟨lit_ascii _ (by decide), by decide⟩
  · rename_i h
    split
    · have hs := sgn_len (fNeg x)
      exact ⟨asciiL_app (sgn_ascii _) (lit_ascii _ (by decide)), by simp; omega⟩
    · rename_i hM
      obtain ⟨h1, h2, h3⟩ := fPt_bd x h hM
      exact ⟨gL_ascii _ _ (fun j => dg_ascii _ _) _ _ (by omega) (by omega), gL_len _ _ _ _ (Nat.le_trans (strip_le _ _ _) h3)⟩
/-- A number's text. -/
def numL (x : Nat) : List UInt8 := if Lib.containsAny (ftoaL (fcanon x)) [46, 101, 73, 78] then ftoaL (fcanon x) else ftoaL (fcanon x) ++ [46, 48]
def numT (x : Nat) : ByteArray := ⟨(numL x).toArray⟩
/-- A value's text. -/
def printT (k n : Int) (x : Nat) (s : ByteArray) (y : Bool) : ByteArray :=
  if k == 0 then ⟨(Lib.itoa n).toArray⟩ else if k == 1 then numT x else if k == 2 then strOfNums (Lib.quoteZ Lib.goPrintTabs s) else if y then ⟨#[121, 101, 115]⟩ else ⟨#[110, 111]⟩

/-! ### The program -/
theorem bufNew (w : World) : Lib.OwnBuf w.heap.size 5 (.slice (some ⟨w.heap.size, 0, none⟩) 0 24) 0 [] w (w.alloc (.cells (Array.replicate 24 (.int .u8 0)) 5)) := by
  refine ⟨⟨rfl, .inr ⟨w.heap.size, 24, Array.replicate 24 (.int .u8 0), (0, 0), rfl, Nat.le_refl _, ?_, by decide, by decide, by decide, by simp, by simp⟩⟩, (Below.refl _ _).alloc (Nat.le_refl _) _, by simp⟩
  show (w.heap.push _)[w.heap.size]? = _
  simp
theorem bufText {B n : Nat} {v : Value} {xs : List Value} {W0 w : World} (h : Lib.OwnBuf B 5 v n xs W0 w) (l : List UInt8) (hl : xs = l.map u8e) (hn : 0 < n) :
    (convert 43 9 v).run Tryz.prog w = .ok (.string ⟨l.toArray⟩) w := by
  obtain ⟨⟨hlen, ho⟩, h2, h3⟩ := h
  rcases ho with ⟨_, ho⟩ | ⟨g, cap, cur, fz, rfl, hg, hh, hfz, hnc, hcm, hcur, hx⟩
  · omega
  · have hln : l.length = n := by rw [hl] at hlen; simpa using hlen
    have := run_convert_bytes_back (P := Tryz.prog) w 43 9 5 ⟨g, 0, none⟩ cap l Tryz.underlying43 Tryz.underlying5 Tryz.underlying9 (fun j hj => by
      have e1 : (xs)[j]? = some (u8e l[j]) := by rw [hl]; simp [hj]
      rw [Lib.add_plain]
      have hc : w.cell? ⟨g, 0 + j, none⟩ = cur[0 + j]? := by simp [World.cell?, hh]
      rw [hc, Nat.zero_add, ← Array.getElem?_toList]
      rw [← hx, List.getElem?_take_of_lt (by omega)] at e1
      exact e1)
    rw [hln] at this
    exact this

set_option maxHeartbeats 1000000 in
theorem formatIn64_c (x : Nat) (hx : x < 18446744073709551616) (w : World) (hT : Tabs w) (hg : 14 < w.heap.size) :
    Calls Tryz.prog 85 #[.float .f64 x, .int .u8 103, .int .i64 (-1), .int .i64 64] w fun e w' => e = .returned (.string ⟨(ftoaL x).toArray⟩) ∧ Below w.heap.size w w' := by
  have hmk : ∀ w, (Instr.makeSlice 43 (.int .i64 0) (.int .i64 24)).run Tryz.prog w = .ok (.slice (some ⟨w.heap.size, 0, none⟩) 0 24) (w.alloc (.cells (Array.replicate 24 (.int .u8 0)) 5)) := fun _ => by kernel_rfl
  have hmx : max (3 : Int) 24 = 24 := by decide
  have hT1 : Tabs (w.alloc (.cells (Array.replicate 24 (.int .u8 0)) 5)) := hT.on ((Below.refl _ _).alloc (Nat.le_refl _) _)
  have hb := bufNew w
  have cF := ftoa_c w.heap.size _ w _ x hx hT1 (by simp; omega) hb
  have hne := ftoaL_ne x
  have CF := Lib.hid cF; have HNE := Lib.hid hne; clear cF hT1 hb hne
  generalize ftoaL x = l at *
  go_enter Tryz.func85, Tryz.ntmps85
  go_wp2_with fail
  refine CF.out.mono ?_
  rintro e w1 ⟨v, rfl, hb1⟩
  have hcv := bufText hb1 l rfl HNE.out
  have HB := Lib.hid hb1; clear hb1
  go_wp2
  go_ret
  exact ⟨rfl, HB.out.2.1⟩

set_option maxHeartbeats 1000000 in
theorem format64_c (x : Nat) (hx : x < 18446744073709551616) (w : World) (hT : Tabs w) (hg : 14 < w.heap.size) :
    Calls Tryz.prog 63 #[.float .f64 x, .int .u8 103, .int .i64 (-1), .int .i64 64] w fun e w' => e = .returned (.string ⟨(ftoaL x).toArray⟩) ∧ Below w.heap.size w w' := by
  have hF := formatIn64_c x hx w hT hg
  have HF := Lib.hid hF; clear hF
  generalize ftoaL x = l at *
  go_enter Tryz.func63, Tryz.ntmps63
  go_wp2_with fail
  refine HF.out.mono ?_
  rintro e w1 ⟨rfl, hb⟩
  have HB := Lib.hid hb; clear hb
  go_wp2
  go_ret
  exact ⟨rfl, HB.out⟩

set_option maxHeartbeats 1000000 in
theorem printNum_c (x : Nat) (hx : x < 18446744073709551616) (w : World) (hT : Tabs w) (hg : 14 < w.heap.size) :
    Calls Tryz.prog 50 #[.float .f64 x] w fun e w' => e = .returned (.string (numT x)) ∧ Below w.heap.size w w' := by
  have hF := format64_c (fcanon x) (fcanon_lt x hx) w hT hg
  obtain ⟨has, hlen⟩ := ftoaL_ok (fcanon x)
  have hCA := fun W => Tryz.strings_ContainsAny_laid ⟨(ftoaL (fcanon x)).toArray⟩ ⟨#[46, 101, 73, 78]⟩ W (by show (ftoaL (fcanon x)).toArray.size < _; simp; omega) (by decide) (by
    intro j b h
    exact has b (List.mem_of_getElem? (by simpa using h))) (by intro j b h; match j, h with
    | 0, h => simp at h; subst h; decide
    | 1, h => simp at h; subst h; decide
    | 2, h => simp at h; subst h; decide
    | 3, h => simp at h; subst h; decide)
  have hc : ∀ W, Calls Tryz.prog 64 #[.float .f64 x] W fun e w' => e = .returned (.float .f64 (fcanon x)) ∧ W = w' := fun W => canon_c x W
  have e1 : (⟨(ftoaL (fcanon x)).toArray⟩ : ByteArray).data.toList = ftoaL (fcanon x) := by simp
  have e2 : (⟨#[46, 101, 73, 78]⟩ : ByteArray).data.toList = [46, 101, 73, 78] := rfl
  rw [e1, e2] at hCA
  have hR : numT x = if Lib.containsAny (ftoaL (fcanon x)) [46, 101, 73, 78] then ⟨(ftoaL (fcanon x)).toArray⟩ else ⟨(ftoaL (fcanon x)).toArray⟩ ++ ⟨#[46, 48]⟩ := by
    unfold numT numL
    split
    · rfl
    · apply ByteArray.ext; simp
  rw [hR]
  obtain ⟨b, hb⟩ : ∃ b, b = Lib.containsAny (ftoaL (fcanon x)) [46, 101, 73, 78] := ⟨_, rfl⟩
  rw [← hb] at hCA ⊢
  obtain ⟨l, hl⟩ : ∃ l : ByteArray, l = ⟨(ftoaL (fcanon x)).toArray⟩ := ⟨_, rfl⟩
  have hl2 : ¬ 9223372036854775807 < l.size + 2 := by rw [hl]; show ¬ _ < (ftoaL (fcanon x)).toArray.size + 2; simp; omega
  rw [← hl] at hCA hF ⊢
  have HF := Lib.hid hF; have HCA := Lib.hid hCA; have HC := Lib.hid hc
  clear hF hCA hc e1 e2 hR hb hl has hlen
  cases b
  all_goals
    go_enter Tryz.func50, Tryz.ntmps50
    go_wp2_with fail
    refine (HC.out _).mono ?_; rintro e w' ⟨rfl, rfl⟩
    go_wp2_with fail
    refine HF.out.mono ?_
    rintro e w1 ⟨rfl, hb⟩
    have HB := Lib.hid hb; clear hb
    go_wp2_with fail
    refine (HCA.out _).mono ?_
    rintro e w2 ⟨rfl, hb2⟩
    have HB2 := Lib.hid hb2; clear hb2
    go_wp2
    go_ret
    exact ⟨rfl, HB.out.trans (HB2.out.mono HB.out.size)⟩
set_option maxHeartbeats 1000000 in
theorem formatInt_c (n : Int) (h0 : -9223372036854775808 ≤ n) (h1 : n ≤ 9223372036854775807) (w : World) (hT : Tabs w) :
    Calls Tryz.prog 49 #[.int .i64 n, .int .i64 10] w fun e w' => e = .returned (.string ⟨(Lib.itoa n).toArray⟩) ∧ Below w.heap.size w w' := by
  have hI := Tryz.internal_strconv_FormatInt_10 n h0 h1 w hT.p10
  have HI := Lib.hid hI
  clear hI hT
  generalize (⟨(Lib.itoa n).toArray⟩ : ByteArray) = q at *
  go_enter Tryz.func49, Tryz.ntmps49
  go_wp2_with fail
  refine HI.out.mono ?_
  rintro e w1 ⟨rfl, k, os, rfl⟩
  go_wp2
  go_ret
  exact ⟨rfl, Lib.below_grow _ w (Nat.le_refl _) k os⟩

set_option maxHeartbeats 1000000 in
theorem print_c (k n : Int) (x : Nat) (s : ByteArray) (y : Bool) (hx : x < 18446744073709551616) (hn0 : -9223372036854775808 ≤ n) (hn1 : n ≤ 9223372036854775807) (hs : 10 * s.size + 12 ≤ 140737488355328) (w : World) (hT : Tabs w) (hg : 14 < w.heap.size) :
    Calls Tryz.prog 33 #[val k n x s y] w fun e w' => e = .returned (.string (printT k n x s y)) ∧ Below w.heap.size w w' := by
  have hT1 : Tabs (w.alloc (.cells (vals k n x s y) 29)) := hT.on ((Below.refl _ _).alloc (Nat.le_refl _) _)
  have HT := Lib.hid hT1; clear hT hT1
  unfold printT
  cases h0 : (k == 0)
  · cases h1 : (k == 1)
    · cases h2 : (k == 2)
      · cases y
        all_goals
          go_enter Tryz.func33, Tryz.ntmps33
          go_wp2
          go_ret
          exact ⟨rfl, (Below.refl _ _).alloc (Nat.le_refl _) _⟩
      · obtain rfl : k = 2 := by simpa using h2
        have hQ := Tryz.strconv_Quote Lib.goPrintTabs s _ hs HT.out.pr HT.out.u8
        have HQ := Lib.hid hQ
        clear hQ
        generalize strOfNums (Lib.quoteZ Lib.goPrintTabs s) = q at *
        go_enter Tryz.func33, Tryz.ntmps33
        go_wp2_with fail
        refine HQ.out.mono ?_
        rintro e w1 ⟨rfl, hb⟩
        have HB := Lib.hid hb; clear hb
        go_wp2
        go_ret
        exact ⟨rfl, ((Below.refl _ _).alloc (Nat.le_refl _) _).trans (HB.out.mono (by simp))⟩
    · obtain rfl : k = 1 := by simpa using h1
      have hN := printNum_c x hx _ HT.out (by simp; omega)
      have HN := Lib.hid hN; clear hN
      generalize numT x = q at *
      go_enter Tryz.func33, Tryz.ntmps33
      go_wp2_with fail
      refine HN.out.mono ?_
      rintro e w1 ⟨rfl, hb⟩
      have HB := Lib.hid hb; clear hb
      go_wp2
      go_ret
      exact ⟨rfl, ((Below.refl _ _).alloc (Nat.le_refl _) _).trans (HB.out.mono (by simp))⟩
  · obtain rfl : k = 0 := by simpa using h0
    have hI := formatInt_c n hn0 hn1 _ HT.out
    have HI := Lib.hid hI; clear hI
    generalize (⟨(Lib.itoa n).toArray⟩ : ByteArray) = q at *
    go_enter Tryz.func33, Tryz.ntmps33
    go_wp2_with fail
    refine HI.out.mono ?_
    rintro e w1 ⟨rfl, hb⟩
    have HB := Lib.hid hb; clear hb
    go_wp2
    go_ret
    exact ⟨rfl, ((Below.refl _ _).alloc (Nat.le_refl _) _).trans (HB.out.mono (by simp))⟩
end Go.Proofs.YtfffmndjgjfflaaGreatDoor
