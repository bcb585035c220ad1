/- internal/strconv.fmtEFG: digits with an exponent. -/
import Derived.Test.YtjeippdfgojdnaaGreatDoorEfg
namespace Go.Proofs.YtjeippdfgojdnaaGreatDoor
open Go.RowKit
set_option maxRecDepth 100000

theorem u8v (z : Int) (n : Nat) (h : z = (n : Int)) (hn : n < 256) : Value.int .u8 z = u8e (UInt8.ofNat n) := by
  subst h
  unfold u8e
  have : (UInt8.ofNat n).toNat = n := by simp [UInt8.toNat_ofNat']; omega
  rw [this]
theorem exp_a (x : Nat) (h : (x : Int) < 10) : [Value.int .u8 48, Value.int .u8 ((x : Int) + 48)] = (expL x).map u8e := by
  unfold expL
  rw [if_pos (by omega)]
  rw [u8v ((x : Int) + 48) (x + 48) (by omega) (by omega)]; rfl
theorem exp_b (x : Nat) (h0 : (10 : Int) ≤ x) (h : (x : Int) < 100) : [Value.int .u8 ((x : Int) / 10 + 48), Value.int .u8 ((x : Int) % 10 + 48)] = (expL x).map u8e := by
  unfold expL
  rw [if_neg (by omega), if_pos (by omega)]
  rw [u8v ((x : Int) / 10 + 48) (x / 10 + 48) (by omega) (by omega), u8v ((x : Int) % 10 + 48) (x % 10 + 48) (by omega) (by omega)]; rfl
theorem exp_c (x : Nat) (h : (100 : Int) ≤ x) (h2 : x ≤ 400) : [Value.int .u8 ((x : Int) / 100 + 48), Value.int .u8 ((x : Int) / 10 % 10 + 48), Value.int .u8 ((x : Int) % 10 + 48)] = (expL x).map u8e := by
  unfold expL
  rw [if_neg (by omega), if_neg (by omega)]
  rw [u8v ((x : Int) / 100 + 48) (x / 100 + 48) (by omega) (by omega), u8v ((x : Int) / 10 % 10 + 48) (x / 10 % 10 + 48) (by omega) (by omega), u8v ((x : Int) % 10 + 48) (x % 10 + 48) (by omega) (by omega)]; rfl

set_option maxHeartbeats 8000000 in
theorem efgE_c (B R : Nat) (cur : Array Value) (fz : Nat × Nat) (v : Value) (W0 w : World) (neg : Bool) (D : Nat → UInt8) (nd : Nat) (dp : Int) (x : Nat) (hI : EfgI B R cur fz v [] W0 w) (hc : ∀ j, j < nd → cur[j]? = some (u8e (D j)))
    (h1 : 1 ≤ nd) (h2 : nd ≤ 20) (hx : dp - 1 = -(x : Int) ∧ 5 ≤ x ∨ dp - 1 = (x : Int) ∧ 6 ≤ x) (hb : x ≤ 400) :
    Calls Tryz.prog 127 #[v, .bool neg, .slice (some ⟨R, 0, none⟩) 32 32, .int .i64 dp, .int .i64 nd, .int .i64 nd, .int .u8 103, .bool true] w fun e w' =>
      ∃ v', e = .returned v' ∧ EfgI B R cur fz v' ((eL neg D nd dp).map u8e) W0 w' := by
  have c0 := hc 0 (by omega)
  have HC := Lib.hid hc
  clear hc
  have hxn : (dp - 1).natAbs = x := by omega
  have HX := Lib.hid hxn
  clear hxn
  cases neg
  · by_cases hn : nd = 1
    · subst hn
      rcases hx with ⟨hx, hx5⟩ | ⟨hx, hx5⟩
      · have t1 : -(x : Int) < -4 := by omega
        have t2 : -(x : Int) < 0 := by omega
        have hs : (eL false D 1 dp).map u8e = (([D 0, 101, 45] : List UInt8) ++ expL x).map u8e := by
          unfold eL sgnL; rw [HX.out, if_pos rfl, if_pos (show dp - 1 < 0 by omega)]; simp
        rw [hs]
        clear hs
        go_enter Tryz.func127, Tryz.ntmps127
        have cc := (hI.cell 0).trans c0
        go_wp2_with (at_builtin; refine wpList_append_new rfl _ _ rfl B R cur fz W0 _ _ rfl (by assumption) _ rfl (by first | (simp [Value.oneCell']; done) | (simp [Value.oneCell', u8e]; done)) (by simp) ?_; intro v1 w1 I1; have cc1 := (I1.cell 0).trans c0)
        all_goals
          go_ret
          refine ⟨_, rfl, ?_⟩
          first
            | (have hq := exp_a x (by assumption); refine cast (congrArg (fun l => EfgI B R cur fz _ l W0 _) ?_) I1; rw [hq]; first | (simp [u8e]; done) | (simp [seg, u8e]; done))
            | (have hq := exp_b x (by assumption) (by assumption); refine cast (congrArg (fun l => EfgI B R cur fz _ l W0 _) ?_) I1; rw [hq]; first | (simp [u8e]; done) | (simp [seg, u8e]; done))
            | (have hq := exp_c x (by assumption) hb; refine cast (congrArg (fun l => EfgI B R cur fz _ l W0 _) ?_) I1; rw [hq]; first | (simp [u8e]; done) | (simp [seg, u8e]; done))
      · have t1 : (6 : Int) ≤ (x : Int) := by omega
        have t0 : ¬ (x : Int) < -4 := by omega
        have t2 : ¬ (x : Int) < 0 := by omega
        have hs : (eL false D 1 dp).map u8e = (([D 0, 101, 43] : List UInt8) ++ expL x).map u8e := by
          unfold eL sgnL; rw [HX.out, if_pos rfl, if_neg (show ¬ dp - 1 < 0 by omega)]; simp
        rw [hs]
        clear hs
        go_enter Tryz.func127, Tryz.ntmps127
        have cc := (hI.cell 0).trans c0
        go_wp2_with (at_builtin; refine wpList_append_new rfl _ _ rfl B R cur fz W0 _ _ rfl (by assumption) _ rfl (by first | (simp [Value.oneCell']; done) | (simp [Value.oneCell', u8e]; done)) (by simp) ?_; intro v1 w1 I1; have cc1 := (I1.cell 0).trans c0)
        all_goals
          go_ret
          refine ⟨_, rfl, ?_⟩
          first
            | (have hq := exp_a x (by assumption); refine cast (congrArg (fun l => EfgI B R cur fz _ l W0 _) ?_) I1; rw [hq]; first | (simp [u8e]; done) | (simp [seg, u8e]; done))
            | (have hq := exp_b x (by assumption) (by assumption); refine cast (congrArg (fun l => EfgI B R cur fz _ l W0 _) ?_) I1; rw [hq]; first | (simp [u8e]; done) | (simp [seg, u8e]; done))
            | (have hq := exp_c x (by assumption) hb; refine cast (congrArg (fun l => EfgI B R cur fz _ l W0 _) ?_) I1; rw [hq]; first | (simp [u8e]; done) | (simp [seg, u8e]; done))
    · have hn1 : (1 : Int) < nd := by omega
      rcases hx with ⟨hx, hx5⟩ | ⟨hx, hx5⟩
      · have t1 : -(x : Int) < -4 := by omega
        have t2 : -(x : Int) < 0 := by omega
        have t3 : (0 : Int) < (nd : Int) - 1 := by omega
        have t4 : min (nd : Int) ((nd : Int) - 1 + 1) = nd := by omega
        have hs : (eL false D nd dp).map u8e = ((([D 0, 46] : List UInt8) ++ (List.range (nd - 1)).map (fun j => D (1 + j))) ++ [101, 45] ++ expL x).map u8e := by
          unfold eL sgnL; rw [HX.out, if_neg hn, if_pos (show dp - 1 < 0 by omega)]; simp
        rw [hs]
        clear hs
        go_enter Tryz.func127, Tryz.ntmps127
        have cc := (hI.cell 0).trans c0
        go_wp2_with (first
          | (at_builtin; refine wpList_append_new rfl _ _ rfl B R cur fz W0 _ _ rfl (by assumption) _ rfl (by first | (simp [Value.oneCell']; done) | (simp [Value.oneCell', u8e]; done)) (by first | (simp; done) | (simp [seg_len]; done) | (simp [seg_len]; omega)) ?_; intro v1 w1 I1; have cc1 := (I1.cell 0).trans c0)
          | (at_builtin; refine wpList_append_cells rfl _ _ rfl B R cur fz W0 _ _ rfl (by assumption) ⟨R, 1, none⟩ (nd - 1) _ (seg D 1 (nd - 1)) rfl (seg_len _ _ _) (EfgI.seg (by assumption) HC.out 1 (nd - 1) (by omega)) (seg_one _ _ _) (by simp; omega) ?_; intro v1 w1 I1; have cc1 := (I1.cell 0).trans c0))
        refine wp_loop_rounds 1 ?_
        rw [rounds_succ]
        go_wp2_with (at_builtin; refine wpList_append_new rfl _ _ rfl B R cur fz W0 _ _ rfl (by assumption) _ rfl (by first | (simp [Value.oneCell']; done) | (simp [Value.oneCell', u8e]; done)) (by first | (simp; done) | (simp [seg_len]; done) | (simp [seg_len]; omega)) ?_; intro v1 w1 I1; have cc1 := (I1.cell 0).trans c0)
        all_goals
          go_ret
          refine ⟨_, rfl, ?_⟩
          first
            | (have hq := exp_a x (by assumption); refine cast (congrArg (fun l => EfgI B R cur fz _ l W0 _) ?_) I1; rw [hq]; first | (simp [u8e]; done) | (simp [seg, u8e]; done))
            | (have hq := exp_b x (by assumption) (by assumption); refine cast (congrArg (fun l => EfgI B R cur fz _ l W0 _) ?_) I1; rw [hq]; first | (simp [u8e]; done) | (simp [seg, u8e]; done))
            | (have hq := exp_c x (by assumption) hb; refine cast (congrArg (fun l => EfgI B R cur fz _ l W0 _) ?_) I1; rw [hq]; first | (simp [u8e]; done) | (simp [seg, u8e]; done))
      · have t1 : (6 : Int) ≤ (x : Int) := by omega
        have t0 : ¬ (x : Int) < -4 := by omega
        have t2 : ¬ (x : Int) < 0 := by omega
        have t3 : (0 : Int) < (nd : Int) - 1 := by omega
        have t4 : min (nd : Int) ((nd : Int) - 1 + 1) = nd := by omega
        have hs : (eL false D nd dp).map u8e = ((([D 0, 46] : List UInt8) ++ (List.range (nd - 1)).map (fun j => D (1 + j))) ++ [101, 43] ++ expL x).map u8e := by
          unfold eL sgnL; rw [HX.out, if_neg hn, if_neg (show ¬ dp - 1 < 0 by omega)]; simp
        rw [hs]
        clear hs
        go_enter Tryz.func127, Tryz.ntmps127
        have cc := (hI.cell 0).trans c0
        go_wp2_with (first
          | (at_builtin; refine wpList_append_new rfl _ _ rfl B R cur fz W0 _ _ rfl (by assumption) _ rfl (by first | (simp [Value.oneCell']; done) | (simp [Value.oneCell', u8e]; done)) (by first | (simp; done) | (simp [seg_len]; done) | (simp [seg_len]; omega)) ?_; intro v1 w1 I1; have cc1 := (I1.cell 0).trans c0)
          | (at_builtin; refine wpList_append_cells rfl _ _ rfl B R cur fz W0 _ _ rfl (by assumption) ⟨R, 1, none⟩ (nd - 1) _ (seg D 1 (nd - 1)) rfl (seg_len _ _ _) (EfgI.seg (by assumption) HC.out 1 (nd - 1) (by omega)) (seg_one _ _ _) (by simp; omega) ?_; intro v1 w1 I1; have cc1 := (I1.cell 0).trans c0))
        refine wp_loop_rounds 1 ?_
        rw [rounds_succ]
        go_wp2_with (at_builtin; refine wpList_append_new rfl _ _ rfl B R cur fz W0 _ _ rfl (by assumption) _ rfl (by first | (simp [Value.oneCell']; done) | (simp [Value.oneCell', u8e]; done)) (by first | (simp; done) | (simp [seg_len]; done) | (simp [seg_len]; omega)) ?_; intro v1 w1 I1; have cc1 := (I1.cell 0).trans c0)
        all_goals
          go_ret
          refine ⟨_, rfl, ?_⟩
          first
            | (have hq := exp_a x (by assumption); refine cast (congrArg (fun l => EfgI B R cur fz _ l W0 _) ?_) I1; rw [hq]; first | (simp [u8e]; done) | (simp [seg, u8e]; done))
            | (have hq := exp_b x (by assumption) (by assumption); refine cast (congrArg (fun l => EfgI B R cur fz _ l W0 _) ?_) I1; rw [hq]; first | (simp [u8e]; done) | (simp [seg, u8e]; done))
            | (have hq := exp_c x (by assumption) hb; refine cast (congrArg (fun l => EfgI B R cur fz _ l W0 _) ?_) I1; rw [hq]; first | (simp [u8e]; done) | (simp [seg, u8e]; done))
  · by_cases hn : nd = 1
    · subst hn
      rcases hx with ⟨hx, hx5⟩ | ⟨hx, hx5⟩
      · have t1 : -(x : Int) < -4 := by omega
        have t2 : -(x : Int) < 0 := by omega
        have hs : (eL true D 1 dp).map u8e = (([45, D 0, 101, 45] : List UInt8) ++ expL x).map u8e := by
          unfold eL sgnL; rw [HX.out, if_pos rfl, if_pos (show dp - 1 < 0 by omega)]; simp
        rw [hs]
        clear hs
        go_enter Tryz.func127, Tryz.ntmps127
        have cc := (hI.cell 0).trans c0
        go_wp2_with (at_builtin; refine wpList_append_new rfl _ _ rfl B R cur fz W0 _ _ rfl (by assumption) _ rfl (by first | (simp [Value.oneCell']; done) | (simp [Value.oneCell', u8e]; done)) (by simp) ?_; intro v1 w1 I1; have cc1 := (I1.cell 0).trans c0)
        all_goals
          go_ret
          refine ⟨_, rfl, ?_⟩
          first
            | (have hq := exp_a x (by assumption); refine cast (congrArg (fun l => EfgI B R cur fz _ l W0 _) ?_) I1; rw [hq]; first | (simp [u8e]; done) | (simp [seg, u8e]; done))
            | (have hq := exp_b x (by assumption) (by assumption); refine cast (congrArg (fun l => EfgI B R cur fz _ l W0 _) ?_) I1; rw [hq]; first | (simp [u8e]; done) | (simp [seg, u8e]; done))
            | (have hq := exp_c x (by assumption) hb; refine cast (congrArg (fun l => EfgI B R cur fz _ l W0 _) ?_) I1; rw [hq]; first | (simp [u8e]; done) | (simp [seg, u8e]; done))
      · have t1 : (6 : Int) ≤ (x : Int) := by omega
        have t0 : ¬ (x : Int) < -4 := by omega
        have t2 : ¬ (x : Int) < 0 := by omega
        have hs : (eL true D 1 dp).map u8e = (([45, D 0, 101, 43] : List UInt8) ++ expL x).map u8e := by
          unfold eL sgnL; rw [HX.out, if_pos rfl, if_neg (show ¬ dp - 1 < 0 by omega)]; simp
        rw [hs]
        clear hs
        go_enter Tryz.func127, Tryz.ntmps127
        have cc := (hI.cell 0).trans c0
        go_wp2_with (at_builtin; refine wpList_append_new rfl _ _ rfl B R cur fz W0 _ _ rfl (by assumption) _ rfl (by first | (simp [Value.oneCell']; done) | (simp [Value.oneCell', u8e]; done)) (by simp) ?_; intro v1 w1 I1; have cc1 := (I1.cell 0).trans c0)
        all_goals
          go_ret
          refine ⟨_, rfl, ?_⟩
          first
            | (have hq := exp_a x (by assumption); refine cast (congrArg (fun l => EfgI B R cur fz _ l W0 _) ?_) I1; rw [hq]; first | (simp [u8e]; done) | (simp [seg, u8e]; done))
            | (have hq := exp_b x (by assumption) (by assumption); refine cast (congrArg (fun l => EfgI B R cur fz _ l W0 _) ?_) I1; rw [hq]; first | (simp [u8e]; done) | (simp [seg, u8e]; done))
            | (have hq := exp_c x (by assumption) hb; refine cast (congrArg (fun l => EfgI B R cur fz _ l W0 _) ?_) I1; rw [hq]; first | (simp [u8e]; done) | (simp [seg, u8e]; done))
    · have hn1 : (1 : Int) < nd := by omega
      rcases hx with ⟨hx, hx5⟩ | ⟨hx, hx5⟩
      · have t1 : -(x : Int) < -4 := by omega
        have t2 : -(x : Int) < 0 := by omega
        have t3 : (0 : Int) < (nd : Int) - 1 := by omega
        have t4 : min (nd : Int) ((nd : Int) - 1 + 1) = nd := by omega
        have hs : (eL true D nd dp).map u8e = ((([45, D 0, 46] : List UInt8) ++ (List.range (nd - 1)).map (fun j => D (1 + j))) ++ [101, 45] ++ expL x).map u8e := by
          unfold eL sgnL; rw [HX.out, if_neg hn, if_pos (show dp - 1 < 0 by omega)]; simp
        rw [hs]
        clear hs
        go_enter Tryz.func127, Tryz.ntmps127
        have cc := (hI.cell 0).trans c0
        go_wp2_with (first
          | (at_builtin; refine wpList_append_new rfl _ _ rfl B R cur fz W0 _ _ rfl (by assumption) _ rfl (by first | (simp [Value.oneCell']; done) | (simp [Value.oneCell', u8e]; done)) (by first | (simp; done) | (simp [seg_len]; done) | (simp [seg_len]; omega)) ?_; intro v1 w1 I1; have cc1 := (I1.cell 0).trans c0)
          | (at_builtin; refine wpList_append_cells rfl _ _ rfl B R cur fz W0 _ _ rfl (by assumption) ⟨R, 1, none⟩ (nd - 1) _ (seg D 1 (nd - 1)) rfl (seg_len _ _ _) (EfgI.seg (by assumption) HC.out 1 (nd - 1) (by omega)) (seg_one _ _ _) (by simp; omega) ?_; intro v1 w1 I1; have cc1 := (I1.cell 0).trans c0))
        refine wp_loop_rounds 1 ?_
        rw [rounds_succ]
        go_wp2_with (at_builtin; refine wpList_append_new rfl _ _ rfl B R cur fz W0 _ _ rfl (by assumption) _ rfl (by first | (simp [Value.oneCell']; done) | (simp [Value.oneCell', u8e]; done)) (by first | (simp; done) | (simp [seg_len]; done) | (simp [seg_len]; omega)) ?_; intro v1 w1 I1; have cc1 := (I1.cell 0).trans c0)
        all_goals
          go_ret
          refine ⟨_, rfl, ?_⟩
          first
            | (have hq := exp_a x (by assumption); refine cast (congrArg (fun l => EfgI B R cur fz _ l W0 _) ?_) I1; rw [hq]; first | (simp [u8e]; done) | (simp [seg, u8e]; done))
            | (have hq := exp_b x (by assumption) (by assumption); refine cast (congrArg (fun l => EfgI B R cur fz _ l W0 _) ?_) I1; rw [hq]; first | (simp [u8e]; done) | (simp [seg, u8e]; done))
            | (have hq := exp_c x (by assumption) hb; refine cast (congrArg (fun l => EfgI B R cur fz _ l W0 _) ?_) I1; rw [hq]; first | (simp [u8e]; done) | (simp [seg, u8e]; done))
      · have t1 : (6 : Int) ≤ (x : Int) := by omega
        have t0 : ¬ (x : Int) < -4 := by omega
        have t2 : ¬ (x : Int) < 0 := by omega
        have t3 : (0 : Int) < (nd : Int) - 1 := by omega
        have t4 : min (nd : Int) ((nd : Int) - 1 + 1) = nd := by omega
        have hs : (eL true D nd dp).map u8e = ((([45, D 0, 46] : List UInt8) ++ (List.range (nd - 1)).map (fun j => D (1 + j))) ++ [101, 43] ++ expL x).map u8e := by
          unfold eL sgnL; rw [HX.out, if_neg hn, if_neg (show ¬ dp - 1 < 0 by omega)]; simp
        rw [hs]
        clear hs
        go_enter Tryz.func127, Tryz.ntmps127
        have cc := (hI.cell 0).trans c0
        go_wp2_with (first
          | (at_builtin; refine wpList_append_new rfl _ _ rfl B R cur fz W0 _ _ rfl (by assumption) _ rfl (by first | (simp [Value.oneCell']; done) | (simp [Value.oneCell', u8e]; done)) (by first | (simp; done) | (simp [seg_len]; done) | (simp [seg_len]; omega)) ?_; intro v1 w1 I1; have cc1 := (I1.cell 0).trans c0)
          | (at_builtin; refine wpList_append_cells rfl _ _ rfl B R cur fz W0 _ _ rfl (by assumption) ⟨R, 1, none⟩ (nd - 1) _ (seg D 1 (nd - 1)) rfl (seg_len _ _ _) (EfgI.seg (by assumption) HC.out 1 (nd - 1) (by omega)) (seg_one _ _ _) (by simp; omega) ?_; intro v1 w1 I1; have cc1 := (I1.cell 0).trans c0))
        refine wp_loop_rounds 1 ?_
        rw [rounds_succ]
        go_wp2_with (at_builtin; refine wpList_append_new rfl _ _ rfl B R cur fz W0 _ _ rfl (by assumption) _ rfl (by first | (simp [Value.oneCell']; done) | (simp [Value.oneCell', u8e]; done)) (by first | (simp; done) | (simp [seg_len]; done) | (simp [seg_len]; omega)) ?_; intro v1 w1 I1; have cc1 := (I1.cell 0).trans c0)
        all_goals
          go_ret
          refine ⟨_, rfl, ?_⟩
          first
            | (have hq := exp_a x (by assumption); refine cast (congrArg (fun l => EfgI B R cur fz _ l W0 _) ?_) I1; rw [hq]; first | (simp [u8e]; done) | (simp [seg, u8e]; done))
            | (have hq := exp_b x (by assumption) (by assumption); refine cast (congrArg (fun l => EfgI B R cur fz _ l W0 _) ?_) I1; rw [hq]; first | (simp [u8e]; done) | (simp [seg, u8e]; done))
            | (have hq := exp_c x (by assumption) hb; refine cast (congrArg (fun l => EfgI B R cur fz _ l W0 _) ?_) I1; rw [hq]; first | (simp [u8e]; done) | (simp [seg, u8e]; done))
end Go.Proofs.YtjeippdfgojdnaaGreatDoor
