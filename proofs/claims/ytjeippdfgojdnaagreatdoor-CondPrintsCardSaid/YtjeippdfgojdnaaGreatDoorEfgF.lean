/- internal/strconv.fmtEFG: digits without an exponent. -/
import Derived.Test.YtjeippdfgojdnaaGreatDoorEfgE
namespace Go.Proofs.YtjeippdfgojdnaaGreatDoor
open Go.RowKit
set_option maxRecDepth 100000

theorem seg_succ (D : Nat → UInt8) (o j : Nat) : seg D o (j + 1) = seg D o j ++ [u8e (D (o + j))] := by
  simp [seg, List.range_succ]
theorem zer_succ (k : Nat) : List.replicate (k + 1) (u8e 48) = List.replicate k (u8e 48) ++ [Value.int .u8 48] := by
  rw [List.replicate_succ']; rfl
theorem fL_a (neg : Bool) (D : Nat → UInt8) (nd q : Nat) (h : 0 < q) (hn : nd ≤ q) : (fL neg D nd (q : Int)).map u8e = (sgnL neg).map u8e ++ seg D 0 nd ++ List.replicate (q - nd) (u8e 48) := by
  unfold fL
  rw [if_pos (by omega), Int.toNat_natCast, Nat.min_eq_left hn, if_neg (by omega)]
  unfold seg; simp
theorem fL_b (neg : Bool) (D : Nat → UInt8) (nd q : Nat) (h : 0 < q) (hn : q < nd) : (fL neg D nd (q : Int)).map u8e = (sgnL neg).map u8e ++ seg D 0 q ++ [u8e 46] ++ seg D q (nd - q) := by
  unfold fL
  rw [if_pos (by omega), Int.toNat_natCast, Nat.min_eq_right (by omega), if_pos hn, Nat.sub_eq_zero_of_le (by omega)]
  unfold seg; simp [Function.comp_def]
theorem fL_c (neg : Bool) (D : Nat → UInt8) (nd q : Nat) : (fL neg D nd (-(q : Int))).map u8e = (sgnL neg).map u8e ++ [Value.int .u8 48, Value.int .u8 46] ++ List.replicate q (u8e 48) ++ seg D 0 nd := by
  unfold fL
  rw [if_neg (by omega), Int.neg_neg, Int.toNat_natCast]
  unfold seg; simp

set_option maxHeartbeats 16000000 in
theorem efgF_c (B R : Nat) (cur : Array Value) (fz : Nat × Nat) (v : Value) (W0 w : World) (neg : Bool) (D : Nat → UInt8) (nd : Nat) (dp : Int) (hI : EfgI B R cur fz v [] W0 w) (hc : ∀ j, j < nd → cur[j]? = some (u8e (D j)))
    (h1 : 1 ≤ nd) (h2 : nd ≤ 20) (hd1 : -3 ≤ dp) (hd2 : dp ≤ 6) :
    Calls Tryz.prog 127 #[v, .bool neg, .slice (some ⟨R, 0, none⟩) 32 32, .int .i64 dp, .int .i64 nd, .int .i64 nd, .int .u8 103, .bool true] w fun e w' =>
      ∃ v', e = .returned v' ∧ EfgI B R cur fz v' ((fL neg D nd dp).map u8e) W0 w' := by
  have HC := Lib.hid hc
  clear hc
  have t1 : ¬ dp - 1 < -4 := by omega
  have t2 : ¬ (6 : Int) ≤ dp - 1 := by omega
  have t12 : dp - 1 < 6 := by omega
  rcases (show (∃ q : Nat, dp = q ∧ 0 < q ∧ nd ≤ q ∧ q ≤ 6) ∨ (∃ q : Nat, dp = q ∧ 0 < q ∧ q < nd ∧ q ≤ 6) ∨ (∃ q : Nat, dp = -(q : Int) ∧ q ≤ 3) by
    by_cases h : 0 < dp
    · by_cases h3 : (nd : Int) ≤ dp
      · exact Or.inl ⟨dp.toNat, by omega, by omega, by omega, by omega⟩
      · exact Or.inr (Or.inl ⟨dp.toNat, by omega, by omega, by omega, by omega⟩)
    · exact Or.inr (Or.inr ⟨(-dp).toNat, by omega, by omega⟩)) with ⟨q, rfl, q0, qn, q6⟩ | ⟨q, rfl, q0, qn, q6⟩ | ⟨q, rfl, q3⟩
  · cases neg
    · have s1 : ¬ (q : Int) < (nd : Int) := by omega
      have s2 : max ((nd : Int) - (q : Int)) 0 = 0 := by omega
      have s3 : min (nd : Int) (q : Int) = nd := by omega
      have s4 : (0 : Int) < (q : Int) := by omega
      rw [fL_a false D nd q q0 qn]
      go_enter Tryz.func127, Tryz.ntmps127
      go_wp2_with (at_builtin; refine wpList_append_new rfl _ _ rfl B R cur fz W0 _ _ rfl (by assumption) _ rfl (by first | (simp [Value.oneCell']; done) | (simp [Value.oneCell', u8e]; done)) (by first | (simp; done) | (simp; omega) | (simp [seg_len]; done) | (simp [seg_len]; omega)) ?_; intro v1 w1 I1)
      go_loopg [0, 191] (nd) (fun kx v0 vj wr => ∃ j : Nat, vj = .int .i64 j ∧ j ≤ nd ∧ nd - j ≤ kx ∧ EfgI B R cur fz v0 ([] ++ seg D 0 j) W0 wr)
      case atStart => exact ⟨0, rfl, Nat.zero_le _, by omega, by simpa [seg] using hI⟩
      case round =>
        obtain ⟨j, rfl, hj, hjx, I⟩ := hrel
        by_cases hlt : j < nd
        · have hz : (j : Int) < nd := by omega
          have cc := (I.cell (j)).trans (HC.out (j) (by omega))
          have es := seg_succ D 0 j
          rw [Nat.zero_add] at es
          go_wp2_with (at_builtin; refine wpList_append_new rfl _ _ rfl B R cur fz W0 _ _ rfl (by assumption) _ rfl (by first | (simp [Value.oneCell']; done) | (simp [Value.oneCell', u8e]; done)) (by first | (simp; done) | (simp; omega) | (simp [seg_len]; done) | (simp [seg_len]; omega)) ?_; intro v1 w1 I1)
          go_roundg (nd - (j + 1))
          case measure => omega
          case rel => exact ⟨j + 1, by go_num, hlt, Nat.le_refl _, by rw [es]; simpa using I1⟩
        · obtain rfl : nd = j := by omega
          have hz : ¬ ((nd : Nat) : Int) < nd := by omega
          go_wp2_with fail
          go_loopg [0, 203] (q - nd) (fun kx v0 vj wr => ∃ j : Nat, vj = .int .i64 j ∧ j ≤ q - nd ∧ q - nd - j ≤ kx ∧ EfgI B R cur fz v0 ([] ++ seg D 0 nd ++ List.replicate j (u8e 48)) W0 wr)
          case atStart => exact ⟨0, rfl, Nat.zero_le _, by omega, by simpa using I⟩
          case round =>
            obtain ⟨j, rfl, hj, hjx, I⟩ := hrel
            by_cases hlt : j < q - nd
            · have hz : (j : Int) < (q : Int) - (nd : Int) := by omega
              have es := zer_succ j
              go_wp2_with (at_builtin; refine wpList_append_new rfl _ _ rfl B R cur fz W0 _ _ rfl (by assumption) _ rfl (by first | (simp [Value.oneCell']; done) | (simp [Value.oneCell', u8e]; done)) (by first | (simp; done) | (simp; omega) | (simp [seg_len]; done) | (simp [seg_len]; omega)) ?_; intro v1 w1 I1)
              go_roundg (q - nd - (j + 1))
              case measure => omega
              case rel => exact ⟨j + 1, by go_num, hlt, Nat.le_refl _, by rw [es]; simpa using I1⟩
            · obtain rfl : j = q - nd := by omega
              have hz : ¬ ((q - nd : Nat) : Int) < (q : Int) - (nd : Int) := by omega
              go_wp2_with fail
              go_ret
              refine ⟨_, rfl, cast (congrArg (fun l => EfgI B R cur fz _ l W0 _) ?_) I⟩
              first | (simp [sgnL, u8e]; done) | (simp [sgnL]; done)
    · have s1 : ¬ (q : Int) < (nd : Int) := by omega
      have s2 : max ((nd : Int) - (q : Int)) 0 = 0 := by omega
      have s3 : min (nd : Int) (q : Int) = nd := by omega
      have s4 : (0 : Int) < (q : Int) := by omega
      rw [fL_a true D nd q q0 qn]
      go_enter Tryz.func127, Tryz.ntmps127
      go_wp2_with (at_builtin; refine wpList_append_new rfl _ _ rfl B R cur fz W0 _ _ rfl (by assumption) _ rfl (by first | (simp [Value.oneCell']; done) | (simp [Value.oneCell', u8e]; done)) (by first | (simp; done) | (simp; omega) | (simp [seg_len]; done) | (simp [seg_len]; omega)) ?_; intro v1 w1 I1)
      go_loopg [0, 191] (nd) (fun kx v0 vj wr => ∃ j : Nat, vj = .int .i64 j ∧ j ≤ nd ∧ nd - j ≤ kx ∧ EfgI B R cur fz v0 ([Value.int .u8 45] ++ seg D 0 j) W0 wr)
      case atStart => exact ⟨0, rfl, Nat.zero_le _, by omega, by simpa [seg] using I1⟩
      case round =>
        obtain ⟨j, rfl, hj, hjx, I⟩ := hrel
        by_cases hlt : j < nd
        · have hz : (j : Int) < nd := by omega
          have cc := (I.cell (j)).trans (HC.out (j) (by omega))
          have es := seg_succ D 0 j
          rw [Nat.zero_add] at es
          go_wp2_with (at_builtin; refine wpList_append_new rfl _ _ rfl B R cur fz W0 _ _ rfl (by assumption) _ rfl (by first | (simp [Value.oneCell']; done) | (simp [Value.oneCell', u8e]; done)) (by first | (simp; done) | (simp; omega) | (simp [seg_len]; done) | (simp [seg_len]; omega)) ?_; intro v1 w1 I1)
          go_roundg (nd - (j + 1))
          case measure => omega
          case rel => exact ⟨j + 1, by go_num, hlt, Nat.le_refl _, by rw [es]; simpa using I1⟩
        · obtain rfl : nd = j := by omega
          have hz : ¬ ((nd : Nat) : Int) < nd := by omega
          go_wp2_with fail
          go_loopg [0, 203] (q - nd) (fun kx v0 vj wr => ∃ j : Nat, vj = .int .i64 j ∧ j ≤ q - nd ∧ q - nd - j ≤ kx ∧ EfgI B R cur fz v0 ([Value.int .u8 45] ++ seg D 0 nd ++ List.replicate j (u8e 48)) W0 wr)
          case atStart => exact ⟨0, rfl, Nat.zero_le _, by omega, by simpa using I⟩
          case round =>
            obtain ⟨j, rfl, hj, hjx, I⟩ := hrel
            by_cases hlt : j < q - nd
            · have hz : (j : Int) < (q : Int) - (nd : Int) := by omega
              have es := zer_succ j
              go_wp2_with (at_builtin; refine wpList_append_new rfl _ _ rfl B R cur fz W0 _ _ rfl (by assumption) _ rfl (by first | (simp [Value.oneCell']; done) | (simp [Value.oneCell', u8e]; done)) (by first | (simp; done) | (simp; omega) | (simp [seg_len]; done) | (simp [seg_len]; omega)) ?_; intro v1 w1 I1)
              go_roundg (q - nd - (j + 1))
              case measure => omega
              case rel => exact ⟨j + 1, by go_num, hlt, Nat.le_refl _, by rw [es]; simpa using I1⟩
            · obtain rfl : j = q - nd := by omega
              have hz : ¬ ((q - nd : Nat) : Int) < (q : Int) - (nd : Int) := by omega
              go_wp2_with fail
              go_ret
              refine ⟨_, rfl, cast (congrArg (fun l => EfgI B R cur fz _ l W0 _) ?_) I⟩
              first | (simp [sgnL, u8e]; done) | (simp [sgnL]; done)
  · cases neg
    · have s1 : (q : Int) < (nd : Int) := by omega
      have s2 : max ((nd : Int) - (q : Int)) 0 = (nd : Int) - (q : Int) := by omega
      have s3 : min (nd : Int) (q : Int) = q := by omega
      have s4 : (0 : Int) < (q : Int) := by omega
      have s5 : (0 : Int) < (nd : Int) - (q : Int) := by omega
      have s6 : max (0 : Int) (-(q : Int)) = 0 := by omega
      have s7 : min ((nd : Int) - (q : Int)) 0 = 0 := by omega
      have s8 : max (0 : Int) ((nd : Int) - (q : Int)) = (nd : Int) - (q : Int) := by omega
      have s9 : (q : Int) ≤ 32 := by omega
      rw [fL_b false D nd q q0 qn]
      go_enter Tryz.func127, Tryz.ntmps127
      go_wp2_with (at_builtin; refine wpList_append_new rfl _ _ rfl B R cur fz W0 _ _ rfl (by assumption) _ rfl (by first | (simp [Value.oneCell']; done) | (simp [Value.oneCell', u8e]; done)) (by first | (simp; done) | (simp; omega) | (simp [seg_len]; done) | (simp [seg_len]; omega)) ?_; intro v1 w1 I1)
      go_loopg [0, 191] (q) (fun kx v0 vj wr => ∃ j : Nat, vj = .int .i64 j ∧ j ≤ q ∧ q - j ≤ kx ∧ EfgI B R cur fz v0 ([] ++ seg D 0 j) W0 wr)
      case atStart => exact ⟨0, rfl, Nat.zero_le _, by omega, by simpa [seg] using hI⟩
      case round =>
        obtain ⟨j, rfl, hj, hjx, I⟩ := hrel
        by_cases hlt : j < q
        · have hz : (j : Int) < q := by omega
          have cc := (I.cell (j)).trans (HC.out (j) (by omega))
          have es := seg_succ D 0 j
          rw [Nat.zero_add] at es
          go_wp2_with (at_builtin; refine wpList_append_new rfl _ _ rfl B R cur fz W0 _ _ rfl (by assumption) _ rfl (by first | (simp [Value.oneCell']; done) | (simp [Value.oneCell', u8e]; done)) (by first | (simp; done) | (simp; omega) | (simp [seg_len]; done) | (simp [seg_len]; omega)) ?_; intro v1 w1 I1)
          go_roundg (q - (j + 1))
          case measure => omega
          case rel => exact ⟨j + 1, by go_num, hlt, Nat.le_refl _, by rw [es]; simpa using I1⟩
        · obtain rfl : q = j := by omega
          have hz : ¬ ((q : Nat) : Int) < q := by omega
          go_wp2_with fail
          refine wp_loop_rounds 1 ?_
          rw [rounds_succ]
          go_wp2_with (at_builtin; refine wpList_append_new rfl _ _ rfl B R cur fz W0 _ _ rfl (by assumption) _ rfl (by first | (simp [Value.oneCell']; done) | (simp [Value.oneCell', u8e]; done)) (by first | (simp; done) | (simp; omega) | (simp [seg_len]; done) | (simp [seg_len]; omega)) ?_; intro v1 w1 I1)
          refine wp_loop_rounds 1 ?_
          rw [rounds_succ]
          go_wp2_with fail
          go_loopg [0, 247] (nd - q) (fun kx v0 vj wr => ∃ j : Nat, vj = .int .i64 j ∧ j ≤ nd - q ∧ nd - q - j ≤ kx ∧ EfgI B R cur fz v0 ([] ++ seg D 0 q ++ [Value.int .u8 46] ++ seg D q j) W0 wr)
          case atStart => exact ⟨0, rfl, Nat.zero_le _, by omega, by simpa [seg] using I1⟩
          case round =>
            obtain ⟨j, rfl, hj, hjx, I⟩ := hrel
            by_cases hlt : j < nd - q
            · have hz : (j : Int) < (nd : Int) - (q : Int) := by omega
              have cc := (I.cell (q + j)).trans (HC.out (q + j) (by omega))
              have es := seg_succ D q j
              go_wp2_with (at_builtin; refine wpList_append_new rfl _ _ rfl B R cur fz W0 _ _ rfl (by assumption) _ rfl (by first | (simp [Value.oneCell']; done) | (simp [Value.oneCell', u8e]; done)) (by first | (simp; done) | (simp; omega) | (simp [seg_len]; done) | (simp [seg_len]; omega)) ?_; intro v1 w1 I1)
              go_roundg (nd - q - (j + 1))
              case measure => omega
              case rel => exact ⟨j + 1, by go_num, hlt, Nat.le_refl _, by rw [es]; simpa using I1⟩
            · obtain rfl : j = nd - q := by omega
              have hz : ¬ ((nd - q : Nat) : Int) < (nd : Int) - (q : Int) := by omega
              go_wp2_with fail
              refine wp_loop_rounds 1 ?_
              rw [rounds_succ]
              go_wp2_with fail
              go_ret
              refine ⟨_, rfl, cast (congrArg (fun l => EfgI B R cur fz _ l W0 _) ?_) I⟩
              first | (simp [sgnL, u8e]; done) | (simp [sgnL]; done)
    · have s1 : (q : Int) < (nd : Int) := by omega
      have s2 : max ((nd : Int) - (q : Int)) 0 = (nd : Int) - (q : Int) := by omega
      have s3 : min (nd : Int) (q : Int) = q := by omega
      have s4 : (0 : Int) < (q : Int) := by omega
      have s5 : (0 : Int) < (nd : Int) - (q : Int) := by omega
      have s6 : max (0 : Int) (-(q : Int)) = 0 := by omega
      have s7 : min ((nd : Int) - (q : Int)) 0 = 0 := by omega
      have s8 : max (0 : Int) ((nd : Int) - (q : Int)) = (nd : Int) - (q : Int) := by omega
      have s9 : (q : Int) ≤ 32 := by omega
      rw [fL_b true D nd q q0 qn]
      go_enter Tryz.func127, Tryz.ntmps127
      go_wp2_with (at_builtin; refine wpList_append_new rfl _ _ rfl B R cur fz W0 _ _ rfl (by assumption) _ rfl (by first | (simp [Value.oneCell']; done) | (simp [Value.oneCell', u8e]; done)) (by first | (simp; done) | (simp; omega) | (simp [seg_len]; done) | (simp [seg_len]; omega)) ?_; intro v1 w1 I1)
      go_loopg [0, 191] (q) (fun kx v0 vj wr => ∃ j : Nat, vj = .int .i64 j ∧ j ≤ q ∧ q - j ≤ kx ∧ EfgI B R cur fz v0 ([Value.int .u8 45] ++ seg D 0 j) W0 wr)
      case atStart => exact ⟨0, rfl, Nat.zero_le _, by omega, by simpa [seg] using I1⟩
      case round =>
        obtain ⟨j, rfl, hj, hjx, I⟩ := hrel
        by_cases hlt : j < q
        · have hz : (j : Int) < q := by omega
          have cc := (I.cell (j)).trans (HC.out (j) (by omega))
          have es := seg_succ D 0 j
          rw [Nat.zero_add] at es
          go_wp2_with (at_builtin; refine wpList_append_new rfl _ _ rfl B R cur fz W0 _ _ rfl (by assumption) _ rfl (by first | (simp [Value.oneCell']; done) | (simp [Value.oneCell', u8e]; done)) (by first | (simp; done) | (simp; omega) | (simp [seg_len]; done) | (simp [seg_len]; omega)) ?_; intro v1 w1 I1)
          go_roundg (q - (j + 1))
          case measure => omega
          case rel => exact ⟨j + 1, by go_num, hlt, Nat.le_refl _, by rw [es]; simpa using I1⟩
        · obtain rfl : q = j := by omega
          have hz : ¬ ((q : Nat) : Int) < q := by omega
          go_wp2_with fail
          refine wp_loop_rounds 1 ?_
          rw [rounds_succ]
          go_wp2_with (at_builtin; refine wpList_append_new rfl _ _ rfl B R cur fz W0 _ _ rfl (by assumption) _ rfl (by first | (simp [Value.oneCell']; done) | (simp [Value.oneCell', u8e]; done)) (by first | (simp; done) | (simp; omega) | (simp [seg_len]; done) | (simp [seg_len]; omega)) ?_; intro v1 w1 I1)
          refine wp_loop_rounds 1 ?_
          rw [rounds_succ]
          go_wp2_with fail
          go_loopg [0, 247] (nd - q) (fun kx v0 vj wr => ∃ j : Nat, vj = .int .i64 j ∧ j ≤ nd - q ∧ nd - q - j ≤ kx ∧ EfgI B R cur fz v0 ([Value.int .u8 45] ++ seg D 0 q ++ [Value.int .u8 46] ++ seg D q j) W0 wr)
          case atStart => exact ⟨0, rfl, Nat.zero_le _, by omega, by simpa [seg] using I1⟩
          case round =>
            obtain ⟨j, rfl, hj, hjx, I⟩ := hrel
            by_cases hlt : j < nd - q
            · have hz : (j : Int) < (nd : Int) - (q : Int) := by omega
              have cc := (I.cell (q + j)).trans (HC.out (q + j) (by omega))
              have es := seg_succ D q j
              go_wp2_with (at_builtin; refine wpList_append_new rfl _ _ rfl B R cur fz W0 _ _ rfl (by assumption) _ rfl (by first | (simp [Value.oneCell']; done) | (simp [Value.oneCell', u8e]; done)) (by first | (simp; done) | (simp; omega) | (simp [seg_len]; done) | (simp [seg_len]; omega)) ?_; intro v1 w1 I1)
              go_roundg (nd - q - (j + 1))
              case measure => omega
              case rel => exact ⟨j + 1, by go_num, hlt, Nat.le_refl _, by rw [es]; simpa using I1⟩
            · obtain rfl : j = nd - q := by omega
              have hz : ¬ ((nd - q : Nat) : Int) < (nd : Int) - (q : Int) := by omega
              go_wp2_with fail
              refine wp_loop_rounds 1 ?_
              rw [rounds_succ]
              go_wp2_with fail
              go_ret
              refine ⟨_, rfl, cast (congrArg (fun l => EfgI B R cur fz _ l W0 _) ?_) I⟩
              first | (simp [sgnL, u8e]; done) | (simp [sgnL]; done)
  · cases neg
    · have s1 : -(q : Int) < (nd : Int) := by omega
      have s2 : max ((nd : Int) - -(q : Int)) 0 = (nd : Int) + (q : Int) := by omega
      have s2' : max ((nd : Int) + (q : Int)) 0 = (nd : Int) + (q : Int) := by omega
      have s4 : ¬ (0 : Int) < -(q : Int) := by omega
      have s5 : (0 : Int) < (nd : Int) + (q : Int) := by omega
      have s6 : max (0 : Int) (q : Int) = q := by omega
      have s7 : min ((nd : Int) + (q : Int)) (q : Int) = q := by omega
      have s8 : max (0 : Int) (nd : Int) = nd := by omega
      have s9 : -(q : Int) + (q : Int) = 0 := by omega
      rw [fL_c false D nd q]
      go_enter Tryz.func127, Tryz.ntmps127
      go_wp2_with (at_builtin; refine wpList_append_new rfl _ _ rfl B R cur fz W0 _ _ rfl (by assumption) _ rfl (by first | (simp [Value.oneCell']; done) | (simp [Value.oneCell', u8e]; done)) (by first | (simp; done) | (simp; omega) | (simp [seg_len]; done) | (simp [seg_len]; omega)) ?_; intro v1 w1 I1)
      go_loopg [0, 240] (q) (fun kx v0 vj wr => ∃ j : Nat, vj = .int .i64 j ∧ j ≤ q ∧ q - j ≤ kx ∧ EfgI B R cur fz v0 ([] ++ [Value.int .u8 48, Value.int .u8 46] ++ List.replicate j (u8e 48)) W0 wr)
      case atStart => exact ⟨0, rfl, Nat.zero_le _, by omega, by simpa using I1⟩
      case round =>
        obtain ⟨j, rfl, hj, hjx, I⟩ := hrel
        by_cases hlt : j < q
        · have hz : (j : Int) < q := by omega
          have es := zer_succ j
          go_wp2_with (at_builtin; refine wpList_append_new rfl _ _ rfl B R cur fz W0 _ _ rfl (by assumption) _ rfl (by first | (simp [Value.oneCell']; done) | (simp [Value.oneCell', u8e]; done)) (by first | (simp; done) | (simp; omega) | (simp [seg_len]; done) | (simp [seg_len]; omega)) ?_; intro v1 w1 I1)
          go_roundg (q - (j + 1))
          case measure => omega
          case rel => exact ⟨j + 1, by go_num, hlt, Nat.le_refl _, by rw [es]; simpa using I1⟩
        · obtain rfl : q = j := by omega
          have hz : ¬ ((q : Nat) : Int) < q := by omega
          go_wp2_with fail
          go_loopg [0, 247] (nd) (fun kx v0 vj wr => ∃ j : Nat, vj = .int .i64 j ∧ j ≤ nd ∧ nd - j ≤ kx ∧ EfgI B R cur fz v0 ([] ++ [Value.int .u8 48, Value.int .u8 46] ++ List.replicate q (u8e 48) ++ seg D 0 j) W0 wr)
          case atStart => exact ⟨0, rfl, Nat.zero_le _, by omega, by simpa [seg] using I⟩
          case round =>
            obtain ⟨j, rfl, hj, hjx, I⟩ := hrel
            by_cases hlt : j < nd
            · have hz : (j : Int) < nd := by omega
              have cc := (I.cell (j)).trans (HC.out (j) (by omega))
              have es := seg_succ D 0 j
              rw [Nat.zero_add] at es
              go_wp2_with (at_builtin; refine wpList_append_new rfl _ _ rfl B R cur fz W0 _ _ rfl (by assumption) _ rfl (by first | (simp [Value.oneCell']; done) | (simp [Value.oneCell', u8e]; done)) (by first | (simp; done) | (simp; omega) | (simp [seg_len]; done) | (simp [seg_len]; omega)) ?_; intro v1 w1 I1)
              go_roundg (nd - (j + 1))
              case measure => omega
              case rel => exact ⟨j + 1, by go_num, hlt, Nat.le_refl _, by rw [es]; simpa using I1⟩
            · obtain rfl : nd = j := by omega
              have hz : ¬ ((nd : Nat) : Int) < nd := by omega
              go_wp2_with fail
              refine wp_loop_rounds 1 ?_
              rw [rounds_succ]
              go_wp2_with fail
              go_ret
              refine ⟨_, rfl, cast (congrArg (fun l => EfgI B R cur fz _ l W0 _) ?_) I⟩
              first | (simp [sgnL, u8e]; done) | (simp [sgnL]; done)
    · have s1 : -(q : Int) < (nd : Int) := by omega
      have s2 : max ((nd : Int) - -(q : Int)) 0 = (nd : Int) + (q : Int) := by omega
      have s2' : max ((nd : Int) + (q : Int)) 0 = (nd : Int) + (q : Int) := by omega
      have s4 : ¬ (0 : Int) < -(q : Int) := by omega
      have s5 : (0 : Int) < (nd : Int) + (q : Int) := by omega
      have s6 : max (0 : Int) (q : Int) = q := by omega
      have s7 : min ((nd : Int) + (q : Int)) (q : Int) = q := by omega
      have s8 : max (0 : Int) (nd : Int) = nd := by omega
      have s9 : -(q : Int) + (q : Int) = 0 := by omega
      rw [fL_c true D nd q]
      go_enter Tryz.func127, Tryz.ntmps127
      go_wp2_with (at_builtin; refine wpList_append_new rfl _ _ rfl B R cur fz W0 _ _ rfl (by assumption) _ rfl (by first | (simp [Value.oneCell']; done) | (simp [Value.oneCell', u8e]; done)) (by first | (simp; done) | (simp; omega) | (simp [seg_len]; done) | (simp [seg_len]; omega)) ?_; intro v1 w1 I1)
      go_loopg [0, 240] (q) (fun kx v0 vj wr => ∃ j : Nat, vj = .int .i64 j ∧ j ≤ q ∧ q - j ≤ kx ∧ EfgI B R cur fz v0 ([Value.int .u8 45] ++ [Value.int .u8 48, Value.int .u8 46] ++ List.replicate j (u8e 48)) W0 wr)
      case atStart => exact ⟨0, rfl, Nat.zero_le _, by omega, by simpa using I1⟩
      case round =>
        obtain ⟨j, rfl, hj, hjx, I⟩ := hrel
        by_cases hlt : j < q
        · have hz : (j : Int) < q := by omega
          have es := zer_succ j
          go_wp2_with (at_builtin; refine wpList_append_new rfl _ _ rfl B R cur fz W0 _ _ rfl (by assumption) _ rfl (by first | (simp [Value.oneCell']; done) | (simp [Value.oneCell', u8e]; done)) (by first | (simp; done) | (simp; omega) | (simp [seg_len]; done) | (simp [seg_len]; omega)) ?_; intro v1 w1 I1)
          go_roundg (q - (j + 1))
          case measure => omega
          case rel => exact ⟨j + 1, by go_num, hlt, Nat.le_refl _, by rw [es]; simpa using I1⟩
        · obtain rfl : q = j := by omega
          have hz : ¬ ((q : Nat) : Int) < q := by omega
          go_wp2_with fail
          go_loopg [0, 247] (nd) (fun kx v0 vj wr => ∃ j : Nat, vj = .int .i64 j ∧ j ≤ nd ∧ nd - j ≤ kx ∧ EfgI B R cur fz v0 ([Value.int .u8 45] ++ [Value.int .u8 48, Value.int .u8 46] ++ List.replicate q (u8e 48) ++ seg D 0 j) W0 wr)
          case atStart => exact ⟨0, rfl, Nat.zero_le _, by omega, by simpa [seg] using I⟩
          case round =>
            obtain ⟨j, rfl, hj, hjx, I⟩ := hrel
            by_cases hlt : j < nd
            · have hz : (j : Int) < nd := by omega
              have cc := (I.cell (j)).trans (HC.out (j) (by omega))
              have es := seg_succ D 0 j
              rw [Nat.zero_add] at es
              go_wp2_with (at_builtin; refine wpList_append_new rfl _ _ rfl B R cur fz W0 _ _ rfl (by assumption) _ rfl (by first | (simp [Value.oneCell']; done) | (simp [Value.oneCell', u8e]; done)) (by first | (simp; done) | (simp; omega) | (simp [seg_len]; done) | (simp [seg_len]; omega)) ?_; intro v1 w1 I1)
              go_roundg (nd - (j + 1))
              case measure => omega
              case rel => exact ⟨j + 1, by go_num, hlt, Nat.le_refl _, by rw [es]; simpa using I1⟩
            · obtain rfl : nd = j := by omega
              have hz : ¬ ((nd : Nat) : Int) < nd := by omega
              go_wp2_with fail
              refine wp_loop_rounds 1 ?_
              rw [rounds_succ]
              go_wp2_with fail
              go_ret
              refine ⟨_, rfl, cast (congrArg (fun l => EfgI B R cur fz _ l W0 _) ?_) I⟩
              first | (simp [sgnL, u8e]; done) | (simp [sgnL]; done)
end Go.Proofs.YtjeippdfgojdnaaGreatDoor
