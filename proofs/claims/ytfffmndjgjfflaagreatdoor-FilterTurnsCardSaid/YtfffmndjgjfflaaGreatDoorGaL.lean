/- Efg, EfgE, EfgF: merged by merge.py. -/
import Derived.Test.YtfffmndjgjfflaaGreatDoorGaK
import Derived.Lib.BufSteps
import Derived.LoopN
import Derived.Deep.LoopGhost
/- internal/strconv.fmtEFG in general: a number's digits as a text. -/
namespace Go.Proofs.YtfffmndjgjfflaaGreatDoor
open Go.RowKit
set_option maxRecDepth 100000

theorem infoU8' : ∃ i, Tryz.prog.info? 5 = some i ∧ i.zero = some (.int .u8 0) ∧ i.size = 1 ∧ i.bytes = 1 := by
  have h : (Tryz.prog.info? 5).map (fun i => (i.zero, i.size, i.bytes)) = some (some (.int .u8 0), 1, 1) := by kernel_rfl
  cases hi : Tryz.prog.info? 5 with
  | none => rw [hi] at h; cases h
  | some i =>
    rw [hi] at h
    simp only [Option.map_some, Option.some.injEq, Prod.mk.injEq] at h
    exact ⟨i, rfl, h.1, h.2.1, h.2.2⟩

/-- A buffer that the call owns, and the digits' row beside it. -/
structure EfgI (B R : Nat) (cur : Array Value) (fz : Nat × Nat) (v : Value) (xs : List Value) (W0 w : World) : Prop where
  own : Lib.OwnBuf B 5 v xs.length xs W0 w
  row : w.heap[R]? = some (.cells cur 138 fz)
theorem EfgI.alloc {B R : Nat} {cur : Array Value} {fz : Nat × Nat} {v : Value} {xs : List Value} {W0 w : World} (h : EfgI B R cur fz v xs W0 w) (o : Obj) : EfgI B R cur fz v xs W0 (w.alloc o) :=
  ⟨h.own.alloc o, (Lib.alloc_old w o R (Array.getElem?_eq_some_iff.1 h.row).1).trans h.row⟩
theorem EfgI.cell {B R : Nat} {cur : Array Value} {fz : Nat × Nat} {v : Value} {xs : List Value} {W0 w : World} (h : EfgI B R cur fz v xs W0 w) (j : Nat) : w.cell? ⟨R, j, none⟩ = cur[j]? := by
  simp [World.cell?, h.row]
theorem EfgI.grown {B R : Nat} {cur : Array Value} {fz : Nat × Nat} {v v' : Value} {xs xs' : List Value} {W0 w w' : World} (h : EfgI B R cur fz v xs W0 w) (ho : w'.ownsRowF B 5 1 v' xs'.length xs') (hg : w.grownBy w' v.ownBlock) : EfgI B R cur fz v' xs' W0 w' := by
  refine ⟨h.own.grown ho hg, (hg.block R (Array.getElem?_eq_some_iff.1 h.row).1 (fun e => ?_)).trans h.row⟩
  rcases h.own.1.2 with ⟨rfl, _⟩ | ⟨g, cap, c, f, rfl, _, hgb, _⟩
  · simp [Value.ownBlock] at e
  · obtain rfl : R = g := by simpa [Value.ownBlock] using e
    have := h.row.symm.trans hgb
    have e3 : (138 : TypeId) = 5 := by injection this with h1; injection h1
    exact absurd e3 (by decide)

/-- append of cells that lie somewhere. -/
theorem wpList_append_cells {ops : Array Oper} {rest : List Oper} {o : Oper} {a : Act} {Q : Exit → Act → World → Prop} {w : World} (hgd : o.guard = none) (s x : Operand)
    (ho : o.op = .call { callee := .builtin .append, args := #[s, x], argTypes := #[43, 43] })
    (B R : Nat) (cur : Array Value) (fz : Nat × Nat) (W0 : World) (v : Value) (xs : List Value) (hs : a.eval s = v) (hI : EfgI B R cur fz v xs W0 w)
    (src : Addr) (k cap : Nat) (cs : List Value) (hx : a.eval x = .slice (some src) k cap) (hk : cs.length = k) (hc : ∀ j c, cs[j]? = some c → w.cell? (src.add j) = some c) (h1 : ∀ u ∈ cs, u.oneCell' = true) (hlen : xs.length + k ≤ 1000)
    (h : ∀ v' w', EfgI B R cur fz v' (xs ++ cs) W0 w' → wpList Tryz.prog ops Q rest (a.put o.dst v') w') : wpList Tryz.prog ops Q (o :: rest) a w := by
  obtain ⟨i0, hi, hz0, hz1, hz2⟩ := infoU8'
  refine wpList_append_ownF _ hgd s x 43 ho B 5 i0 (.int .u8 0) 1 1 Tryz.underlying43 hi hz0 hz1 hz2 rfl (by decide) v xs.length xs hs hI.own.1 src k cap cs hx (by simp [hk]) hc h1 (by unfold maxLen; omega) (by omega) hI.own.2.2 ?_
  intro v' w' ho' hg _
  have e : xs.length + k = (xs ++ cs).length := by simp [hk]
  rw [e] at ho'
  exact h v' w' (hI.grown ho' hg)
/-- Some of the digits, as cells. -/
def seg (D : Nat → UInt8) (o k : Nat) : List Value := (List.range k).map fun j => u8e (D (o + j))
theorem seg_len (D : Nat → UInt8) (o k : Nat) : (seg D o k).length = k := by simp [seg]
theorem seg_one (D : Nat → UInt8) (o k : Nat) : ∀ u ∈ seg D o k, u.oneCell' = true := by
  intro u hu
  obtain ⟨c, _, rfl⟩ := List.mem_map.1 hu
  rfl
theorem EfgI.seg {B R : Nat} {cur : Array Value} {fz : Nat × Nat} {v : Value} {xs : List Value} {W0 w : World} (h : EfgI B R cur fz v xs W0 w) {D : Nat → UInt8} {nd : Nat} (hc : ∀ j, j < nd → cur[j]? = some (u8e (D j))) (o k : Nat) (hk : o + k ≤ nd) :
    ∀ j c, (YtfffmndjgjfflaaGreatDoor.seg D o k)[j]? = some c → w.cell? ((⟨R, o, none⟩ : Addr).add j) = some c := by
  intro j c hj
  unfold YtfffmndjgjfflaaGreatDoor.seg at hj
  rw [List.getElem?_map] at hj
  obtain ⟨i, hi, rfl⟩ := Option.map_eq_some_iff.1 hj
  obtain ⟨hlt, rfl⟩ := List.getElem?_eq_some_iff.1 hi
  rw [List.length_range] at hlt
  rw [Addr.add_lit, h.cell, hc _ (by omega), List.getElem_range]
/-- append of bytes that the statement has just laid. -/
theorem wpList_append_new {ops : Array Oper} {rest : List Oper} {o : Oper} {a : Act} {Q : Exit → Act → World → Prop} {w0 : World} (hgd : o.guard = none) (s x : Operand)
    (ho : o.op = .call { callee := .builtin .append, args := #[s, x], argTypes := #[43, 43] })
    (B R : Nat) (cur : Array Value) (fz : Nat × Nat) (W0 : World) (v : Value) (xs : List Value) (hs : a.eval s = v) (hI : EfgI B R cur fz v xs W0 w0)
    (arr : Array Value) (hx : a.eval x = .slice (some ⟨w0.heap.size, 0, none⟩) arr.size arr.size) (h1 : ∀ u ∈ arr.toList, u.oneCell' = true) (hlen : xs.length + arr.size ≤ 1000)
    (h : ∀ v' w', EfgI B R cur fz v' (xs ++ arr.toList) W0 w' → wpList Tryz.prog ops Q rest (a.put o.dst v') w') : wpList Tryz.prog ops Q (o :: rest) a (w0.alloc (.cells arr 5)) := by
  refine wpList_append_cells hgd s x ho B R cur fz W0 v xs hs (hI.alloc _) ⟨w0.heap.size, 0, none⟩ arr.size arr.size arr.toList hx (by simp) ?_ h1 hlen h
  intro j c hj
  rw [Addr.add_lit, Nat.zero_add, World.cell?_alloc_new, ← hj]; simp

/-! ### Plainly -/
def sgnL (neg : Bool) : List UInt8 := if neg then [45] else []
/-- An exponent's digits: two, or three. -/
def expL (x : Nat) : List UInt8 := if x < 10 then [48, UInt8.ofNat (x + 48)] else if x < 100 then [UInt8.ofNat (x / 10 + 48), UInt8.ofNat (x % 10 + 48)] else [UInt8.ofNat (x / 100 + 48), UInt8.ofNat (x / 10 % 10 + 48), UInt8.ofNat (x % 10 + 48)]
/-- Digits with an exponent. -/
def eL (neg : Bool) (D : Nat → UInt8) (nd : Nat) (dp : Int) : List UInt8 :=
  sgnL neg ++ [D 0] ++ (if nd = 1 then [] else 46 :: (List.range (nd - 1)).map fun j => D (1 + j)) ++ [101] ++ [if dp - 1 < 0 then 45 else 43] ++ expL (dp - 1).natAbs
/-- Digits without one. -/
def fL (neg : Bool) (D : Nat → UInt8) (nd : Nat) (dp : Int) : List UInt8 :=
  if 0 < dp then sgnL neg ++ (List.range (min nd dp.toNat)).map D ++ List.replicate (dp.toNat - nd) 48 ++ (if dp.toNat < nd then 46 :: (List.range (nd - dp.toNat)).map fun j => D (dp.toNat + j) else [])
  else sgnL neg ++ [48, 46] ++ List.replicate (-dp).toNat 48 ++ (List.range nd).map D
/-- What fmtEFG writes of nd digits D, the point standing behind dp of them. -/
def efgL (neg : Bool) (D : Nat → UInt8) (nd : Nat) (dp : Int) : List UInt8 := if dp - 1 < -4 ∨ 6 ≤ dp - 1 then eL neg D nd dp else fL neg D nd dp
end Go.Proofs.YtfffmndjgjfflaaGreatDoor

/- internal/strconv.fmtEFG: digits with an exponent. -/
namespace Go.Proofs.YtfffmndjgjfflaaGreatDoor
open Go.RowKit
set_option maxRecDepth 100000

theorem u8v (z : Int) (n : Nat) (h : z = (n : Int)) (hn : n < 256) : Value.int .u8 z = u8e (UInt8.ofNat n) := by
  subst h
  unfold u8e
  have : (UInt8.ofNat n).toNat = n := by simp [UInt8.toNat_ofNat']; omega
  rw [this]
theorem exp_a (x : Nat) (h : (x : Int) < 10) : [Value.int .u8 48, Value.int .u8 ((x : Int) + 48)] = (expL x).map u8e := by
  unfold expL
  rw [if_pos (by omega)]
  rw [u8v ((x : Int) + 48) (x + 48) (by omega) (by omega)]; rfl
theorem exp_b (x : Nat) (h0 : (10 : Int) ≤ x) (h : (x : Int) < 100) : [Value.int .u8 ((x : Int) / 10 + 48), Value.int .u8 ((x : Int) % 10 + 48)] = (expL x).map u8e := by
  unfold expL
  rw [if_neg (by omega), if_pos (by omega)]
  rw [u8v ((x : Int) / 10 + 48) (x / 10 + 48) (by omega) (by omega), u8v ((x : Int) % 10 + 48) (x % 10 + 48) (by omega) (by omega)]; rfl
theorem exp_c (x : Nat) (h : (100 : Int) ≤ x) (h2 : x ≤ 400) : [Value.int .u8 ((x : Int) / 100 + 48), Value.int .u8 ((x : Int) / 10 % 10 + 48), Value.int .u8 ((x : Int) % 10 + 48)] = (expL x).map u8e := by
  unfold expL
  rw [if_neg (by omega), if_neg (by omega)]
  rw [u8v ((x : Int) / 100 + 48) (x / 100 + 48) (by omega) (by omega), u8v ((x : Int) / 10 % 10 + 48) (x / 10 % 10 + 48) (by omega) (by omega), u8v ((x : Int) % 10 + 48) (x % 10 + 48) (by omega) (by omega)]; rfl

set_option maxHeartbeats 8000000 in
theorem efgE_c (B R : Nat) (cur : Array Value) (fz : Nat × Nat) (v : Value) (W0 w : World) (neg : Bool) (D : Nat → UInt8) (nd : Nat) (dp : Int) (x : Nat) (hI : EfgI B R cur fz v [] W0 w) (hc : ∀ j, j < nd → cur[j]? = some (u8e (D j)))
    (h1 : 1 ≤ nd) (h2 : nd ≤ 20) (hx : dp - 1 = -(x : Int) ∧ 5 ≤ x ∨ dp - 1 = (x : Int) ∧ 6 ≤ x) (hb : x ≤ 400) :
    Calls Tryz.prog 122 #[v, .bool neg, .slice (some ⟨R, 0, none⟩) 32 32, .int .i64 dp, .int .i64 nd, .int .i64 nd, .int .u8 103, .bool true] w fun e w' =>
      ∃ v', e = .returned v' ∧ EfgI B R cur fz v' ((eL neg D nd dp).map u8e) W0 w' := by
  have c0 := hc 0 (by omega)
  have HC := Lib.hid hc
  clear hc
  have hxn : (dp - 1).natAbs = x := by omega
  have HX := Lib.hid hxn
  clear hxn
  cases neg
  · by_cases hn : nd = 1
    · subst hn
      rcases hx with ⟨hx, hx5⟩ | ⟨hx, hx5⟩
      · have t1 : -(x : Int) < -4 := by omega
        have t2 : -(x : Int) < 0 := by omega
        have hs : (eL false D 1 dp).map u8e = (([D 0, 101, 45] : List UInt8) ++ expL x).map u8e := by
          unfold eL sgnL; rw [HX.out, if_pos rfl, if_pos (show dp - 1 < 0 by omega)]; simp
        rw [hs]
        clear hs
        go_enter Tryz.func122, Tryz.ntmps122
        have cc := (hI.cell 0).trans c0
        go_wp2_with (at_builtin; refine wpList_append_new rfl _ _ rfl B R cur fz W0 _ _ rfl (by assumption) _ rfl (by first | (simp [Value.oneCell']; done) | (simp [Value.oneCell', u8e]; done)) (by simp) ?_; intro v1 w1 I1; have cc1 := (I1.cell 0).trans c0)
        all_goals
          go_ret
          refine ⟨_, rfl, ?_⟩
          first
            | (have hq := exp_a x (by assumption); refine cast (congrArg (fun l => EfgI B R cur fz _ l W0 _) ?_) I1; rw [hq]; first | (simp [u8e]; done) | (simp [seg, u8e]; done))
            | (have hq := exp_b x (by assumption) (by assumption); refine cast (congrArg (fun l => EfgI B R cur fz _ l W0 _) ?_) I1; rw [hq]; first | (simp [u8e]; done) | (simp [seg, u8e]; done))
            | (have hq := exp_c x (by assumption) hb; refine cast (congrArg (fun l => EfgI B R cur fz _ l W0 _) ?_) I1; rw [hq]; first | (simp [u8e]; done) | (simp [seg, u8e]; done))
      · have t1 : (6 : Int) ≤ (x : Int) := by omega
        have t0 : ¬ (x : Int) < -4 := by omega
        have t2 : ¬ (x : Int) < 0 := by omega
        have hs : (eL false D 1 dp).map u8e = (([D 0, 101, 43] : List UInt8) ++ expL x).map u8e := by
          unfold eL sgnL; rw [HX.out, if_pos rfl, if_neg (show ¬ dp - 1 < 0 by omega)]; simp
        rw [hs]
        clear hs
        go_enter Tryz.func122, Tryz.ntmps122
        have cc := (hI.cell 0).trans c0
        go_wp2_with (at_builtin; refine wpList_append_new rfl _ _ rfl B R cur fz W0 _ _ rfl (by assumption) _ rfl (by first | (simp [Value.oneCell']; done) | (simp [Value.oneCell', u8e]; done)) (by simp) ?_; intro v1 w1 I1; have cc1 := (I1.cell 0).trans c0)
        all_goals
          go_ret
          refine ⟨_, rfl, ?_⟩
          first
            | (have hq := exp_a x (by assumption); refine cast (congrArg (fun l => EfgI B R cur fz _ l W0 _) ?_) I1; rw [hq]; first | (simp [u8e]; done) | (simp [seg, u8e]; done))
            | (have hq := exp_b x (by assumption) (by assumption); refine cast (congrArg (fun l => EfgI B R cur fz _ l W0 _) ?_) I1; rw [hq]; first | (simp [u8e]; done) | (simp [seg, u8e]; done))
            | (have hq := exp_c x (by assumption) hb; refine cast (congrArg (fun l => EfgI B R cur fz _ l W0 _) ?_) I1; rw [hq]; first | (simp [u8e]; done) | (simp [seg, u8e]; done))
    · have hn1 : (1 : Int) < nd := by omega
      rcases hx with ⟨hx, hx5⟩ | ⟨hx, hx5⟩
      · have t1 : -(x : Int) < -4 := by omega
        have t2 : -(x : Int) < 0 := by omega
        have t3 : (0 : Int) < (nd : Int) - 1 := by omega
        have t4 : min (nd : Int) ((nd : Int) - 1 + 1) = nd := by omega
        have hs : (eL false D nd dp).map u8e = ((([D 0, 46] : List UInt8) ++ (List.range (nd - 1)).map (fun j => D (1 + j))) ++ [101, 45] ++ expL x).map u8e := by
          unfold eL sgnL; rw [HX.out, if_neg hn, if_pos (show dp - 1 < 0 by omega)]; simp
        rw [hs]
        clear hs
        go_enter Tryz.func122, Tryz.ntmps122
        have cc := (hI.cell 0).trans c0
        go_wp2_with (first
          | (at_builtin; refine wpList_append_new rfl _ _ rfl B R cur fz W0 _ _ rfl (by assumption) _ rfl (by first | (simp [Value.oneCell']; done) | (simp [Value.oneCell', u8e]; done)) (by first | (simp; done) | (simp [seg_len]; done) | (simp [seg_len]; omega)) ?_; intro v1 w1 I1; have cc1 := (I1.cell 0).trans c0)
          | (at_builtin; refine wpList_append_cells rfl _ _ rfl B R cur fz W0 _ _ rfl (by assumption) ⟨R, 1, none⟩ (nd - 1) _ (seg D 1 (nd - 1)) rfl (seg_len _ _ _) (EfgI.seg (by assumption) HC.out 1 (nd - 1) (by omega)) (seg_one _ _ _) (by simp; omega) ?_; intro v1 w1 I1; have cc1 := (I1.cell 0).trans c0))
        refine wp_loop_rounds 1 ?_
        rw [rounds_succ]
        go_wp2_with (at_builtin; refine wpList_append_new rfl _ _ rfl B R cur fz W0 _ _ rfl (by assumption) _ rfl (by first | (simp [Value.oneCell']; done) | (simp [Value.oneCell', u8e]; done)) (by first | (simp; done) | (simp [seg_len]; done) | (simp [seg_len]; omega)) ?_; intro v1 w1 I1; have cc1 := (I1.cell 0).trans c0)
        all_goals
          go_ret
          refine ⟨_, rfl, ?_⟩
          first
            | (have hq := exp_a x (by assumption); refine cast (congrArg (fun l => EfgI B R cur fz _ l W0 _) ?_) I1; rw [hq]; first | (simp [u8e]; done) | (simp [seg, u8e]; done))
            | (have hq := exp_b x (by assumption) (by assumption); refine cast (congrArg (fun l => EfgI B R cur fz _ l W0 _) ?_) I1; rw [hq]; first | (simp [u8e]; done) | (simp [seg, u8e]; done))
            | (have hq := exp_c x (by assumption) hb; refine cast (congrArg (fun l => EfgI B R cur fz _ l W0 _) ?_) I1; rw [hq]; first | (simp [u8e]; done) | (simp [seg, u8e]; done))
      · have t1 : (6 : Int) ≤ (x : Int) := by omega
        have t0 : ¬ (x : Int) < -4 := by omega
        have t2 : ¬ (x : Int) < 0 := by omega
        have t3 : (0 : Int) < (nd : Int) - 1 := by omega
        have t4 : min (nd : Int) ((nd : Int) - 1 + 1) = nd := by omega
        have hs : (eL false D nd dp).map u8e = ((([D 0, 46] : List UInt8) ++ (List.range (nd - 1)).map (fun j => D (1 + j))) ++ [101, 43] ++ expL x).map u8e := by
          unfold eL sgnL; rw [HX.out, if_neg hn, if_neg (show ¬ dp - 1 < 0 by omega)]; simp
        rw [hs]
        clear hs
        go_enter Tryz.func122, Tryz.ntmps122
        have cc := (hI.cell 0).trans c0
        go_wp2_with (first
          | (at_builtin; refine wpList_append_new rfl _ _ rfl B R cur fz W0 _ _ rfl (by assumption) _ rfl (by first | (simp [Value.oneCell']; done) | (simp [Value.oneCell', u8e]; done)) (by first | (simp; done) | (simp [seg_len]; done) | (simp [seg_len]; omega)) ?_; intro v1 w1 I1; have cc1 := (I1.cell 0).trans c0)
          | (at_builtin; refine wpList_append_cells rfl _ _ rfl B R cur fz W0 _ _ rfl (by assumption) ⟨R, 1, none⟩ (nd - 1) _ (seg D 1 (nd - 1)) rfl (seg_len _ _ _) (EfgI.seg (by assumption) HC.out 1 (nd - 1) (by omega)) (seg_one _ _ _) (by simp; omega) ?_; intro v1 w1 I1; have cc1 := (I1.cell 0).trans c0))
        refine wp_loop_rounds 1 ?_
        rw [rounds_succ]
        go_wp2_with (at_builtin; refine wpList_append_new rfl _ _ rfl B R cur fz W0 _ _ rfl (by assumption) _ rfl (by first | (simp [Value.oneCell']; done) | (simp [Value.oneCell', u8e]; done)) (by first | (simp; done) | (simp [seg_len]; done) | (simp [seg_len]; omega)) ?_; intro v1 w1 I1; have cc1 := (I1.cell 0).trans c0)
        all_goals
          go_ret
          refine ⟨_, rfl, ?_⟩
          first
            | (have hq := exp_a x (by assumption); refine cast (congrArg (fun l => EfgI B R cur fz _ l W0 _) ?_) I1; rw [hq]; first | (simp [u8e]; done) | (simp [seg, u8e]; done))
            | (have hq := exp_b x (by assumption) (by assumption); refine cast (congrArg (fun l => EfgI B R cur fz _ l W0 _) ?_) I1; rw [hq]; first | (simp [u8e]; done) | (simp [seg, u8e]; done))
            | (have hq := exp_c x (by assumption) hb; refine cast (congrArg (fun l => EfgI B R cur fz _ l W0 _) ?_) I1; rw [hq]; first | (simp [u8e]; done) | (simp [seg, u8e]; done))
  · by_cases hn : nd = 1
    · subst hn
      rcases hx with ⟨hx, hx5⟩ | ⟨hx, hx5⟩
      · have t1 : -(x : Int) < -4 := by omega
        have t2 : -(x : Int) < 0 := by omega
        have hs : (eL true D 1 dp).map u8e = (([45, D 0, 101, 45] : List UInt8) ++ expL x).map u8e := by
          unfold eL sgnL; rw [HX.out, if_pos rfl, if_pos (show dp - 1 < 0 by omega)]; simp
        rw [hs]
        clear hs
        go_enter Tryz.func122, Tryz.ntmps122
        have cc := (hI.cell 0).trans c0
        go_wp2_with (at_builtin; refine wpList_append_new rfl _ _ rfl B R cur fz W0 _ _ rfl (by assumption) _ rfl (by first | (simp [Value.oneCell']; done) | (simp [Value.oneCell', u8e]; done)) (by simp) ?_; intro v1 w1 I1; have cc1 := (I1.cell 0).trans c0)
        all_goals
          go_ret
          refine ⟨_, rfl, ?_⟩
          first
            | (have hq := exp_a x (by assumption); refine cast (congrArg (fun l => EfgI B R cur fz _ l W0 _) ?_) I1; rw [hq]; first | (simp [u8e]; done) | (simp [seg, u8e]; done))
            | (have hq := exp_b x (by assumption) (by assumption); refine cast (congrArg (fun l => EfgI B R cur fz _ l W0 _) ?_) I1; rw [hq]; first | (simp [u8e]; done) | (simp [seg, u8e]; done))
            | (have hq := exp_c x (by assumption) hb; refine cast (congrArg (fun l => EfgI B R cur fz _ l W0 _) ?_) I1; rw [hq]; first | (simp [u8e]; done) | (simp [seg, u8e]; done))
      · have t1 : (6 : Int) ≤ (x : Int) := by omega
        have t0 : ¬ (x : Int) < -4 := by omega
        have t2 : ¬ (x : Int) < 0 := by omega
        have hs : (eL true D 1 dp).map u8e = (([45, D 0, 101, 43] : List UInt8) ++ expL x).map u8e := by
          unfold eL sgnL; rw [HX.out, if_pos rfl, if_neg (show ¬ dp - 1 < 0 by omega)]; simp
        rw [hs]
        clear hs
        go_enter Tryz.func122, Tryz.ntmps122
        have cc := (hI.cell 0).trans c0
        go_wp2_with (at_builtin; refine wpList_append_new rfl _ _ rfl B R cur fz W0 _ _ rfl (by assumption) _ rfl (by first | (simp [Value.oneCell']; done) | (simp [Value.oneCell', u8e]; done)) (by simp) ?_; intro v1 w1 I1; have cc1 := (I1.cell 0).trans c0)
        all_goals
          go_ret
          refine ⟨_, rfl, ?_⟩
          first
            | (have hq := exp_a x (by assumption); refine cast (congrArg (fun l => EfgI B R cur fz _ l W0 _) ?_) I1; rw [hq]; first | (simp [u8e]; done) | (simp [seg, u8e]; done))
            | (have hq := exp_b x (by assumption) (by assumption); refine cast (congrArg (fun l => EfgI B R cur fz _ l W0 _) ?_) I1; rw [hq]; first | (simp [u8e]; done) | (simp [seg, u8e]; done))
            | (have hq := exp_c x (by assumption) hb; refine cast (congrArg (fun l => EfgI B R cur fz _ l W0 _) ?_) I1; rw [hq]; first | (simp [u8e]; done) | (simp [seg, u8e]; done))
    · have hn1 : (1 : Int) < nd := by omega
      rcases hx with ⟨hx, hx5⟩ | ⟨hx, hx5⟩
      · have t1 : -(x : Int) < -4 := by omega
        have t2 : -(x : Int) < 0 := by omega
        have t3 : (0 : Int) < (nd : Int) - 1 := by omega
        have t4 : min (nd : Int) ((nd : Int) - 1 + 1) = nd := by omega
        have hs : (eL true D nd dp).map u8e = ((([45, D 0, 46] : List UInt8) ++ (List.range (nd - 1)).map (fun j => D (1 + j))) ++ [101, 45] ++ expL x).map u8e := by
          unfold eL sgnL; rw [HX.out, if_neg hn, if_pos (show dp - 1 < 0 by omega)]; simp
        rw [hs]
        clear hs
        go_enter Tryz.func122, Tryz.ntmps122
        have cc := (hI.cell 0).trans c0
        go_wp2_with (first
          | (at_builtin; refine wpList_append_new rfl _ _ rfl B R cur fz W0 _ _ rfl (by assumption) _ rfl (by first | (simp [Value.oneCell']; done) | (simp [Value.oneCell', u8e]; done)) (by first | (simp; done) | (simp [seg_len]; done) | (simp [seg_len]; omega)) ?_; intro v1 w1 I1; have cc1 := (I1.cell 0).trans c0)
          | (at_builtin; refine wpList_append_cells rfl _ _ rfl B R cur fz W0 _ _ rfl (by assumption) ⟨R, 1, none⟩ (nd - 1) _ (seg D 1 (nd - 1)) rfl (seg_len _ _ _) (EfgI.seg (by assumption) HC.out 1 (nd - 1) (by omega)) (seg_one _ _ _) (by simp; omega) ?_; intro v1 w1 I1; have cc1 := (I1.cell 0).trans c0))
        refine wp_loop_rounds 1 ?_
        rw [rounds_succ]
        go_wp2_with (at_builtin; refine wpList_append_new rfl _ _ rfl B R cur fz W0 _ _ rfl (by assumption) _ rfl (by first | (simp [Value.oneCell']; done) | (simp [Value.oneCell', u8e]; done)) (by first | (simp; done) | (simp [seg_len]; done) | (simp [seg_len]; omega)) ?_; intro v1 w1 I1; have cc1 := (I1.cell 0).trans c0)
        all_goals
          go_ret
          refine ⟨_, rfl, ?_⟩
          first
            | (have hq := exp_a x (by assumption); refine cast (congrArg (fun l => EfgI B R cur fz _ l W0 _) ?_) I1; rw [hq]; first | (simp [u8e]; done) | (simp [seg, u8e]; done))
            | (have hq := exp_b x (by assumption) (by assumption); refine cast (congrArg (fun l => EfgI B R cur fz _ l W0 _) ?_) I1; rw [hq]; first | (simp [u8e]; done) | (simp [seg, u8e]; done))
            | (have hq := exp_c x (by assumption) hb; refine cast (congrArg (fun l => EfgI B R cur fz _ l W0 _) ?_) I1; rw [hq]; first | (simp [u8e]; done) | (simp [seg, u8e]; done))
      · have t1 : (6 : Int) ≤ (x : Int) := by omega
        have t0 : ¬ (x : Int) < -4 := by omega
        have t2 : ¬ (x : Int) < 0 := by omega
        have t3 : (0 : Int) < (nd : Int) - 1 := by omega
        have t4 : min (nd : Int) ((nd : Int) - 1 + 1) = nd := by omega
        have hs : (eL true D nd dp).map u8e = ((([45, D 0, 46] : List UInt8) ++ (List.range (nd - 1)).map (fun j => D (1 + j))) ++ [101, 43] ++ expL x).map u8e := by
          unfold eL sgnL; rw [HX.out, if_neg hn, if_neg (show ¬ dp - 1 < 0 by omega)]; simp
        rw [hs]
        clear hs
        go_enter Tryz.func122, Tryz.ntmps122
        have cc := (hI.cell 0).trans c0
        go_wp2_with (first
          | (at_builtin; refine wpList_append_new rfl _ _ rfl B R cur fz W0 _ _ rfl (by assumption) _ rfl (by first | (simp [Value.oneCell']; done) | (simp [Value.oneCell', u8e]; done)) (by first | (simp; done) | (simp [seg_len]; done) | (simp [seg_len]; omega)) ?_; intro v1 w1 I1; have cc1 := (I1.cell 0).trans c0)
          | (at_builtin; refine wpList_append_cells rfl _ _ rfl B R cur fz W0 _ _ rfl (by assumption) ⟨R, 1, none⟩ (nd - 1) _ (seg D 1 (nd - 1)) rfl (seg_len _ _ _) (EfgI.seg (by assumption) HC.out 1 (nd - 1) (by omega)) (seg_one _ _ _) (by simp; omega) ?_; intro v1 w1 I1; have cc1 := (I1.cell 0).trans c0))
        refine wp_loop_rounds 1 ?_
        rw [rounds_succ]
        go_wp2_with (at_builtin; refine wpList_append_new rfl _ _ rfl B R cur fz W0 _ _ rfl (by assumption) _ rfl (by first | (simp [Value.oneCell']; done) | (simp [Value.oneCell', u8e]; done)) (by first | (simp; done) | (simp [seg_len]; done) | (simp [seg_len]; omega)) ?_; intro v1 w1 I1; have cc1 := (I1.cell 0).trans c0)
        all_goals
          go_ret
          refine ⟨_, rfl, ?_⟩
          first
            | (have hq := exp_a x (by assumption); refine cast (congrArg (fun l => EfgI B R cur fz _ l W0 _) ?_) I1; rw [hq]; first | (simp [u8e]; done) | (simp [seg, u8e]; done))
            | (have hq := exp_b x (by assumption) (by assumption); refine cast (congrArg (fun l => EfgI B R cur fz _ l W0 _) ?_) I1; rw [hq]; first | (simp [u8e]; done) | (simp [seg, u8e]; done))
            | (have hq := exp_c x (by assumption) hb; refine cast (congrArg (fun l => EfgI B R cur fz _ l W0 _) ?_) I1; rw [hq]; first | (simp [u8e]; done) | (simp [seg, u8e]; done))
end Go.Proofs.YtfffmndjgjfflaaGreatDoor

/- internal/strconv.fmtEFG: digits without an exponent. -/
namespace Go.Proofs.YtfffmndjgjfflaaGreatDoor
open Go.RowKit
set_option maxRecDepth 100000

theorem seg_succ (D : Nat → UInt8) (o j : Nat) : seg D o (j + 1) = seg D o j ++ [u8e (D (o + j))] := by
  simp [seg, List.range_succ]
theorem zer_succ (k : Nat) : List.replicate (k + 1) (u8e 48) = List.replicate k (u8e 48) ++ [Value.int .u8 48] := by
  rw [List.replicate_succ']; rfl
theorem fL_a (neg : Bool) (D : Nat → UInt8) (nd q : Nat) (h : 0 < q) (hn : nd ≤ q) : (fL neg D nd (q : Int)).map u8e = (sgnL neg).map u8e ++ seg D 0 nd ++ List.replicate (q - nd) (u8e 48) := by
  unfold fL
  rw [if_pos (by omega), Int.toNat_natCast, Nat.min_eq_left hn, if_neg (by omega)]
  unfold seg; simp
theorem fL_b (neg : Bool) (D : Nat → UInt8) (nd q : Nat) (h : 0 < q) (hn : q < nd) : (fL neg D nd (q : Int)).map u8e = (sgnL neg).map u8e ++ seg D 0 q ++ [u8e 46] ++ seg D q (nd - q) := by
  unfold fL
  rw [if_pos (by omega), Int.toNat_natCast, Nat.min_eq_right (by omega), if_pos hn, Nat.sub_eq_zero_of_le (by omega)]
  unfold seg; simp [Function.comp_def]
theorem fL_c (neg : Bool) (D : Nat → UInt8) (nd q : Nat) : (fL neg D nd (-(q : Int))).map u8e = (sgnL neg).map u8e ++ [Value.int .u8 48, Value.int .u8 46] ++ List.replicate q (u8e 48) ++ seg D 0 nd := by
  unfold fL
  rw [if_neg (by omega), Int.neg_neg, Int.toNat_natCast]
  unfold seg; simp

set_option maxHeartbeats 16000000 in
theorem efgF_c (B R : Nat) (cur : Array Value) (fz : Nat × Nat) (v : Value) (W0 w : World) (neg : Bool) (D : Nat → UInt8) (nd : Nat) (dp : Int) (hI : EfgI B R cur fz v [] W0 w) (hc : ∀ j, j < nd → cur[j]? = some (u8e (D j)))
    (h1 : 1 ≤ nd) (h2 : nd ≤ 20) (hd1 : -3 ≤ dp) (hd2 : dp ≤ 6) :
    Calls Tryz.prog 122 #[v, .bool neg, .slice (some ⟨R, 0, none⟩) 32 32, .int .i64 dp, .int .i64 nd, .int .i64 nd, .int .u8 103, .bool true] w fun e w' =>
      ∃ v', e = .returned v' ∧ EfgI B R cur fz v' ((fL neg D nd dp).map u8e) W0 w' := by
  have HC := Lib.hid hc
  clear hc
  have t1 : ¬ dp - 1 < -4 := by omega
  have t2 : ¬ (6 : Int) ≤ dp - 1 := by omega
  have t12 : dp - 1 < 6 := by omega
  rcases (show (∃ q : Nat, dp = q ∧ 0 < q ∧ nd ≤ q ∧ q ≤ 6) ∨ (∃ q : Nat, dp = q ∧ 0 < q ∧ q < nd ∧ q ≤ 6) ∨ (∃ q : Nat, dp = -(q : Int) ∧ q ≤ 3) by
    by_cases h : 0 < dp
    · by_cases h3 : (nd : Int) ≤ dp
      · exact Or.inl ⟨dp.toNat, by omega, by omega, by omega, by omega⟩
      · exact Or.inr (Or.inl ⟨dp.toNat, by omega, by omega, by omega, by omega⟩)
    · exact Or.inr (Or.inr ⟨(-dp).toNat, by omega, by omega⟩)) with ⟨q, rfl, q0, qn, q6⟩ | ⟨q, rfl, q0, qn, q6⟩ | ⟨q, rfl, q3⟩
  · cases neg
    · have s1 : ¬ (q : Int) < (nd : Int) := by omega
      have s2 : max ((nd : Int) - (q : Int)) 0 = 0 := by omega
      have s3 : min (nd : Int) (q : Int) = nd := by omega
      have s4 : (0 : Int) < (q : Int) := by omega
      rw [fL_a false D nd q q0 qn]
      go_enter Tryz.func122, Tryz.ntmps122
      go_wp2_with (at_builtin; refine wpList_append_new rfl _ _ rfl B R cur fz W0 _ _ rfl (by assumption) _ rfl (by first | (simp [Value.oneCell']; done) | (simp [Value.oneCell', u8e]; done)) (by first | (simp; done) | (simp; omega) | (simp [seg_len]; done) | (simp [seg_len]; omega)) ?_; intro v1 w1 I1)
      go_loopg [0, 191] (nd) (fun kx v0 vj wr => ∃ j : Nat, vj = .int .i64 j ∧ j ≤ nd ∧ nd - j ≤ kx ∧ EfgI B R cur fz v0 ([] ++ seg D 0 j) W0 wr)
      case atStart => exact ⟨0, rfl, Nat.zero_le _, by omega, by simpa [seg] using hI⟩
      case round =>
        obtain ⟨j, rfl, hj, hjx, I⟩ := hrel
        by_cases hlt : j < nd
        · have hz : (j : Int) < nd := by omega
          have cc := (I.cell (j)).trans (HC.out (j) (by omega))
          have es := seg_succ D 0 j
          rw [Nat.zero_add] at es
          go_wp2_with (at_builtin; refine wpList_append_new rfl _ _ rfl B R cur fz W0 _ _ rfl (by assumption) _ rfl (by first | (simp [Value.oneCell']; done) | (simp [Value.oneCell', u8e]; done)) (by first | (simp; done) | (simp; omega) | (simp [seg_len]; done) | (simp [seg_len]; omega)) ?_; intro v1 w1 I1)
          go_roundg (nd - (j + 1))
          case measure => omega
          case rel => exact ⟨j + 1, by go_num, hlt, Nat.le_refl _, by rw [es]; simpa using I1⟩
        · obtain rfl : nd = j := by omega
          have hz : ¬ ((nd : Nat) : Int) < nd := by omega
          go_wp2_with fail
          go_loopg [0, 203] (q - nd) (fun kx v0 vj wr => ∃ j : Nat, vj = .int .i64 j ∧ j ≤ q - nd ∧ q - nd - j ≤ kx ∧ EfgI B R cur fz v0 ([] ++ seg D 0 nd ++ List.replicate j (u8e 48)) W0 wr)
          case atStart => exact ⟨0, rfl, Nat.zero_le _, by omega, by simpa using I⟩
          case round =>
            obtain ⟨j, rfl, hj, hjx, I⟩ := hrel
            by_cases hlt : j < q - nd
            · have hz : (j : Int) < (q : Int) - (nd : Int) := by omega
              have es := zer_succ j
              go_wp2_with (at_builtin; refine wpList_append_new rfl _ _ rfl B R cur fz W0 _ _ rfl (by assumption) _ rfl (by first | (simp [Value.oneCell']; done) | (simp [Value.oneCell', u8e]; done)) (by first | (simp; done) | (simp; omega) | (simp [seg_len]; done) | (simp [seg_len]; omega)) ?_; intro v1 w1 I1)
              go_roundg (q - nd - (j + 1))
              case measure => omega
              case rel => exact ⟨j + 1, by go_num, hlt, Nat.le_refl _, by rw [es]; simpa using I1⟩
            · obtain rfl : j = q - nd := by omega
              have hz : ¬ ((q - nd : Nat) : Int) < (q : Int) - (nd : Int) := by omega
              go_wp2_with fail
              go_ret
              refine ⟨_, rfl, cast (congrArg (fun l => EfgI B R cur fz _ l W0 _) ?_) I⟩
              first | (simp [sgnL, u8e]; done) | (simp [sgnL]; done)
    · have s1 : ¬ (q : Int) < (nd : Int) := by omega
      have s2 : max ((nd : Int) - (q : Int)) 0 = 0 := by omega
      have s3 : min (nd : Int) (q : Int) = nd := by omega
      have s4 : (0 : Int) < (q : Int) := by omega
      rw [fL_a true D nd q q0 qn]
      go_enter Tryz.func122, Tryz.ntmps122
      go_wp2_with (at_builtin; refine wpList_append_new rfl _ _ rfl B R cur fz W0 _ _ rfl (by assumption) _ rfl (by first | (simp [Value.oneCell']; done) | (simp [Value.oneCell', u8e]; done)) (by first | (simp; done) | (simp; omega) | (simp [seg_len]; done) | (simp [seg_len]; omega)) ?_; intro v1 w1 I1)
      go_loopg [0, 191] (nd) (fun kx v0 vj wr => ∃ j : Nat, vj = .int .i64 j ∧ j ≤ nd ∧ nd - j ≤ kx ∧ EfgI B R cur fz v0 ([Value.int .u8 45] ++ seg D 0 j) W0 wr)
      case atStart => exact ⟨0, rfl, Nat.zero_le _, by omega, by simpa [seg] using I1⟩
      case round =>
        obtain ⟨j, rfl, hj, hjx, I⟩ := hrel
        by_cases hlt : j < nd
        · have hz : (j : Int) < nd := by omega
          have cc := (I.cell (j)).trans (HC.out (j) (by omega))
          have es := seg_succ D 0 j
          rw [Nat.zero_add] at es
          go_wp2_with (at_builtin; refine wpList_append_new rfl _ _ rfl B R cur fz W0 _ _ rfl (by assumption) _ rfl (by first | (simp [Value.oneCell']; done) | (simp [Value.oneCell', u8e]; done)) (by first | (simp; done) | (simp; omega) | (simp [seg_len]; done) | (simp [seg_len]; omega)) ?_; intro v1 w1 I1)
          go_roundg (nd - (j + 1))
          case measure => omega
          case rel => exact ⟨j + 1, by go_num, hlt, Nat.le_refl _, by rw [es]; simpa using I1⟩
        · obtain rfl : nd = j := by omega
          have hz : ¬ ((nd : Nat) : Int) < nd := by omega
          go_wp2_with fail
          go_loopg [0, 203] (q - nd) (fun kx v0 vj wr => ∃ j : Nat, vj = .int .i64 j ∧ j ≤ q - nd ∧ q - nd - j ≤ kx ∧ EfgI B R cur fz v0 ([Value.int .u8 45] ++ seg D 0 nd ++ List.replicate j (u8e 48)) W0 wr)
          case atStart => exact ⟨0, rfl, Nat.zero_le _, by omega, by simpa using I⟩
          case round =>
            obtain ⟨j, rfl, hj, hjx, I⟩ := hrel
            by_cases hlt : j < q - nd
            · have hz : (j : Int) < (q : Int) - (nd : Int) := by omega
              have es := zer_succ j
              go_wp2_with (at_builtin; refine wpList_append_new rfl _ _ rfl B R cur fz W0 _ _ rfl (by assumption) _ rfl (by first | (simp [Value.oneCell']; done) | (simp [Value.oneCell', u8e]; done)) (by first | (simp; done) | (simp; omega) | (simp [seg_len]; done) | (simp [seg_len]; omega)) ?_; intro v1 w1 I1)
              go_roundg (q - nd - (j + 1))
              case measure => omega
              case rel => exact ⟨j + 1, by go_num, hlt, Nat.le_refl _, by rw [es]; simpa using I1⟩
            · obtain rfl : j = q - nd := by omega
              have hz : ¬ ((q - nd : Nat) : Int) < (q : Int) - (nd : Int) := by omega
              go_wp2_with fail
              go_ret
              refine ⟨_, rfl, cast (congrArg (fun l => EfgI B R cur fz _ l W0 _) ?_) I⟩
              first | (simp [sgnL, u8e]; done) | (simp [sgnL]; done)
  · cases neg
    · have s1 : (q : Int) < (nd : Int) := by omega
      have s2 : max ((nd : Int) - (q : Int)) 0 = (nd : Int) - (q : Int) := by omega
      have s3 : min (nd : Int) (q : Int) = q := by omega
      have s4 : (0 : Int) < (q : Int) := by omega
      have s5 : (0 : Int) < (nd : Int) - (q : Int) := by omega
      have s6 : max (0 : Int) (-(q : Int)) = 0 := by omega
      have s7 : min ((nd : Int) - (q : Int)) 0 = 0 := by omega
      have s8 : max (0 : Int) ((nd : Int) - (q : Int)) = (nd : Int) - (q : Int) := by omega
      have s9 : (q : Int) ≤ 32 := by omega
      rw [fL_b false D nd q q0 qn]
      go_enter Tryz.func122, Tryz.ntmps122
      go_wp2_with (at_builtin; refine wpList_append_new rfl _ _ rfl B R cur fz W0 _ _ rfl (by assumption) _ rfl (by first | (simp [Value.oneCell']; done) | (simp [Value.oneCell', u8e]; done)) (by first | (simp; done) | (simp; omega) | (simp [seg_len]; done) | (simp [seg_len]; omega)) ?_; intro v1 w1 I1)
      go_loopg [0, 191] (q) (fun kx v0 vj wr => ∃ j : Nat, vj = .int .i64 j ∧ j ≤ q ∧ q - j ≤ kx ∧ EfgI B R cur fz v0 ([] ++ seg D 0 j) W0 wr)
      case atStart => exact ⟨0, rfl, Nat.zero_le _, by omega, by simpa [seg] using hI⟩
      case round =>
        obtain ⟨j, rfl, hj, hjx, I⟩ := hrel
        by_cases hlt : j < q
        · have hz : (j : Int) < q := by omega
          have cc := (I.cell (j)).trans (HC.out (j) (by omega))
          have es := seg_succ D 0 j
          rw [Nat.zero_add] at es
          go_wp2_with (at_builtin; refine wpList_append_new rfl _ _ rfl B R cur fz W0 _ _ rfl (by assumption) _ rfl (by first | (simp [Value.oneCell']; done) | (simp [Value.oneCell', u8e]; done)) (by first | (simp; done) | (simp; omega) | (simp [seg_len]; done) | (simp [seg_len]; omega)) ?_; intro v1 w1 I1)
          go_roundg (q - (j + 1))
          case measure => omega
          case rel => exact ⟨j + 1, by go_num, hlt, Nat.le_refl _, by rw [es]; simpa using I1⟩
        · obtain rfl : q = j := by omega
          have hz : ¬ ((q : Nat) : Int) < q := by omega
          go_wp2_with fail
          refine wp_loop_rounds 1 ?_
          rw [rounds_succ]
          go_wp2_with (at_builtin; refine wpList_append_new rfl _ _ rfl B R cur fz W0 _ _ rfl (by assumption) _ rfl (by first | (simp [Value.oneCell']; done) | (simp [Value.oneCell', u8e]; done)) (by first | (simp; done) | (simp; omega) | (simp [seg_len]; done) | (simp [seg_len]; omega)) ?_; intro v1 w1 I1)
          refine wp_loop_rounds 1 ?_
          rw [rounds_succ]
          go_wp2_with fail
          go_loopg [0, 247] (nd - q) (fun kx v0 vj wr => ∃ j : Nat, vj = .int .i64 j ∧ j ≤ nd - q ∧ nd - q - j ≤ kx ∧ EfgI B R cur fz v0 ([] ++ seg D 0 q ++ [Value.int .u8 46] ++ seg D q j) W0 wr)
          case atStart => exact ⟨0, rfl, Nat.zero_le _, by omega, by simpa [seg] using I1⟩
          case round =>
            obtain ⟨j, rfl, hj, hjx, I⟩ := hrel
            by_cases hlt : j < nd - q
            · have hz : (j : Int) < (nd : Int) - (q : Int) := by omega
              have cc := (I.cell (q + j)).trans (HC.out (q + j) (by omega))
              have es := seg_succ D q j
              go_wp2_with (at_builtin; refine wpList_append_new rfl _ _ rfl B R cur fz W0 _ _ rfl (by assumption) _ rfl (by first | (simp [Value.oneCell']; done) | (simp [Value.oneCell', u8e]; done)) (by first | (simp; done) | (simp; omega) | (simp [seg_len]; done) | (simp [seg_len]; omega)) ?_; intro v1 w1 I1)
              go_roundg (nd - q - (j + 1))
              case measure => omega
              case rel => exact ⟨j + 1, by go_num, hlt, Nat.le_refl _, by rw [es]; simpa using I1⟩
            · obtain rfl : j = nd - q := by omega
              have hz : ¬ ((nd - q : Nat) : Int) < (nd : Int) - (q : Int) := by omega
              go_wp2_with fail
              refine wp_loop_rounds 1 ?_
              rw [rounds_succ]
              go_wp2_with fail
              go_ret
              refine ⟨_, rfl, cast (congrArg (fun l => EfgI B R cur fz _ l W0 _) ?_) I⟩
              first | (simp [sgnL, u8e]; done) | (simp [sgnL]; done)
    · have s1 : (q : Int) < (nd : Int) := by omega
      have s2 : max ((nd : Int) - (q : Int)) 0 = (nd : Int) - (q : Int) := by omega
      have s3 : min (nd : Int) (q : Int) = q := by omega
      have s4 : (0 : Int) < (q : Int) := by omega
      have s5 : (0 : Int) < (nd : Int) - (q : Int) := by omega
      have s6 : max (0 : Int) (-(q : Int)) = 0 := by omega
      have s7 : min ((nd : Int) - (q : Int)) 0 = 0 := by omega
      have s8 : max (0 : Int) ((nd : Int) - (q : Int)) = (nd : Int) - (q : Int) := by omega
      have s9 : (q : Int) ≤ 32 := by omega
      rw [fL_b true D nd q q0 qn]
      go_enter Tryz.func122, Tryz.ntmps122
      go_wp2_with (at_builtin; refine wpList_append_new rfl _ _ rfl B R cur fz W0 _ _ rfl (by assumption) _ rfl (by first | (simp [Value.oneCell']; done) | (simp [Value.oneCell', u8e]; done)) (by first | (simp; done) | (simp; omega) | (simp [seg_len]; done) | (simp [seg_len]; omega)) ?_; intro v1 w1 I1)
      go_loopg [0, 191] (q) (fun kx v0 vj wr => ∃ j : Nat, vj = .int .i64 j ∧ j ≤ q ∧ q - j ≤ kx ∧ EfgI B R cur fz v0 ([Value.int .u8 45] ++ seg D 0 j) W0 wr)
      case atStart => exact ⟨0, rfl, Nat.zero_le _, by omega, by simpa [seg] using I1⟩
      case round =>
        obtain ⟨j, rfl, hj, hjx, I⟩ := hrel
        by_cases hlt : j < q
        · have hz : (j : Int) < q := by omega
          have cc := (I.cell (j)).trans (HC.out (j) (by omega))
          have es := seg_succ D 0 j
          rw [Nat.zero_add] at es
          go_wp2_with (at_builtin; refine wpList_append_new rfl _ _ rfl B R cur fz W0 _ _ rfl (by assumption) _ rfl (by first | (simp [Value.oneCell']; done) | (simp [Value.oneCell', u8e]; done)) (by first | (simp; done) | (simp; omega) | (simp [seg_len]; done) | (simp [seg_len]; omega)) ?_; intro v1 w1 I1)
          go_roundg (q - (j + 1))
          case measure => omega
          case rel => exact ⟨j + 1, by go_num, hlt, Nat.le_refl _, by rw [es]; simpa using I1⟩
        · obtain rfl : q = j := by omega
          have hz : ¬ ((q : Nat) : Int) < q := by omega
          go_wp2_with fail
          refine wp_loop_rounds 1 ?_
          rw [rounds_succ]
          go_wp2_with (at_builtin; refine wpList_append_new rfl _ _ rfl B R cur fz W0 _ _ rfl (by assumption) _ rfl (by first | (simp [Value.oneCell']; done) | (simp [Value.oneCell', u8e]; done)) (by first | (simp; done) | (simp; omega) | (simp [seg_len]; done) | (simp [seg_len]; omega)) ?_; intro v1 w1 I1)
          refine wp_loop_rounds 1 ?_
          rw [rounds_succ]
          go_wp2_with fail
          go_loopg [0, 247] (nd - q) (fun kx v0 vj wr => ∃ j : Nat, vj = .int .i64 j ∧ j ≤ nd - q ∧ nd - q - j ≤ kx ∧ EfgI B R cur fz v0 ([Value.int .u8 45] ++ seg D 0 q ++ [Value.int .u8 46] ++ seg D q j) W0 wr)
          case atStart => exact ⟨0, rfl, Nat.zero_le _, by omega, by simpa [seg] using I1⟩
          case round =>
            obtain ⟨j, rfl, hj, hjx, I⟩ := hrel
            by_cases hlt : j < nd - q
            · have hz : (j : Int) < (nd : Int) - (q : Int) := by omega
              have cc := (I.cell (q + j)).trans (HC.out (q + j) (by omega))
              have es := seg_succ D q j
              go_wp2_with (at_builtin; refine wpList_append_new rfl _ _ rfl B R cur fz W0 _ _ rfl (by assumption) _ rfl (by first | (simp [Value.oneCell']; done) | (simp [Value.oneCell', u8e]; done)) (by first | (simp; done) | (simp; omega) | (simp [seg_len]; done) | (simp [seg_len]; omega)) ?_; intro v1 w1 I1)
              go_roundg (nd - q - (j + 1))
              case measure => omega
              case rel => exact ⟨j + 1, by go_num, hlt, Nat.le_refl _, by rw [es]; simpa using I1⟩
            · obtain rfl : j = nd - q := by omega
              have hz : ¬ ((nd - q : Nat) : Int) < (nd : Int) - (q : Int) := by omega
              go_wp2_with fail
              refine wp_loop_rounds 1 ?_
              rw [rounds_succ]
              go_wp2_with fail
              go_ret
              refine ⟨_, rfl, cast (congrArg (fun l => EfgI B R cur fz _ l W0 _) ?_) I⟩
              first | (simp [sgnL, u8e]; done) | (simp [sgnL]; done)
  · cases neg
    · have s1 : -(q : Int) < (nd : Int) := by omega
      have s2 : max ((nd : Int) - -(q : Int)) 0 = (nd : Int) + (q : Int) := by omega
      have s2' : max ((nd : Int) + (q : Int)) 0 = (nd : Int) + (q : Int) := by omega
      have s4 : ¬ (0 : Int) < -(q : Int) := by omega
      have s5 : (0 : Int) < (nd : Int) + (q : Int) := by omega
      have s6 : max (0 : Int) (q : Int) = q := by omega
      have s7 : min ((nd : Int) + (q : Int)) (q : Int) = q := by omega
      have s8 : max (0 : Int) (nd : Int) = nd := by omega
      have s9 : -(q : Int) + (q : Int) = 0 := by omega
      rw [fL_c false D nd q]
      go_enter Tryz.func122, Tryz.ntmps122
      go_wp2_with (at_builtin; refine wpList_append_new rfl _ _ rfl B R cur fz W0 _ _ rfl (by assumption) _ rfl (by first | (simp [Value.oneCell']; done) | (simp [Value.oneCell', u8e]; done)) (by first | (simp; done) | (simp; omega) | (simp [seg_len]; done) | (simp [seg_len]; omega)) ?_; intro v1 w1 I1)
      go_loopg [0, 240] (q) (fun kx v0 vj wr => ∃ j : Nat, vj = .int .i64 j ∧ j ≤ q ∧ q - j ≤ kx ∧ EfgI B R cur fz v0 ([] ++ [Value.int .u8 48, Value.int .u8 46] ++ List.replicate j (u8e 48)) W0 wr)
      case atStart => exact ⟨0, rfl, Nat.zero_le _, by omega, by simpa using I1⟩
      case round =>
        obtain ⟨j, rfl, hj, hjx, I⟩ := hrel
        by_cases hlt : j < q
        · have hz : (j : Int) < q := by omega
          have es := zer_succ j
          go_wp2_with (at_builtin; refine wpList_append_new rfl _ _ rfl B R cur fz W0 _ _ rfl (by assumption) _ rfl (by first | (simp [Value.oneCell']; done) | (simp [Value.oneCell', u8e]; done)) (by first | (simp; done) | (simp; omega) | (simp [seg_len]; done) | (simp [seg_len]; omega)) ?_; intro v1 w1 I1)
          go_roundg (q - (j + 1))
          case measure => omega
          case rel => exact ⟨j + 1, by go_num, hlt, Nat.le_refl _, by rw [es]; simpa using I1⟩
        · obtain rfl : q = j := by omega
          have hz : ¬ ((q : Nat) : Int) < q := by omega
          go_wp2_with fail
          go_loopg [0, 247] (nd) (fun kx v0 vj wr => ∃ j : Nat, vj = .int .i64 j ∧ j ≤ nd ∧ nd - j ≤ kx ∧ EfgI B R cur fz v0 ([] ++ [Value.int .u8 48, Value.int .u8 46] ++ List.replicate q (u8e 48) ++ seg D 0 j) W0 wr)
          case atStart => exact ⟨0, rfl, Nat.zero_le _, by omega, by simpa [seg] using I⟩
          case round =>
            obtain ⟨j, rfl, hj, hjx, I⟩ := hrel
            by_cases hlt : j < nd
            · have hz : (j : Int) < nd := by omega
              have cc := (I.cell (j)).trans (HC.out (j) (by omega))
              have es := seg_succ D 0 j
              rw [Nat.zero_add] at es
              go_wp2_with (at_builtin; refine wpList_append_new rfl _ _ rfl B R cur fz W0 _ _ rfl (by assumption) _ rfl (by first | (simp [Value.oneCell']; done) | (simp [Value.oneCell', u8e]; done)) (by first | (simp; done) | (simp; omega) | (simp [seg_len]; done) | (simp [seg_len]; omega)) ?_; intro v1 w1 I1)
              go_roundg (nd - (j + 1))
              case measure => omega
              case rel => exact ⟨j + 1, by go_num, hlt, Nat.le_refl _, by rw [es]; simpa using I1⟩
            · obtain rfl : nd = j := by omega
              have hz : ¬ ((nd : Nat) : Int) < nd := by omega
              go_wp2_with fail
              refine wp_loop_rounds 1 ?_
              rw [rounds_succ]
              go_wp2_with fail
              go_ret
              refine ⟨_, rfl, cast (congrArg (fun l => EfgI B R cur fz _ l W0 _) ?_) I⟩
              first | (simp [sgnL, u8e]; done) | (simp [sgnL]; done)
    · have s1 : -(q : Int) < (nd : Int) := by omega
      have s2 : max ((nd : Int) - -(q : Int)) 0 = (nd : Int) + (q : Int) := by omega
      have s2' : max ((nd : Int) + (q : Int)) 0 = (nd : Int) + (q : Int) := by omega
      have s4 : ¬ (0 : Int) < -(q : Int) := by omega
      have s5 : (0 : Int) < (nd : Int) + (q : Int) := by omega
      have s6 : max (0 : Int) (q : Int) = q := by omega
      have s7 : min ((nd : Int) + (q : Int)) (q : Int) = q := by omega
      have s8 : max (0 : Int) (nd : Int) = nd := by omega
      have s9 : -(q : Int) + (q : Int) = 0 := by omega
      rw [fL_c true D nd q]
      go_enter Tryz.func122, Tryz.ntmps122
      go_wp2_with (at_builtin; refine wpList_append_new rfl _ _ rfl B R cur fz W0 _ _ rfl (by assumption) _ rfl (by first | (simp [Value.oneCell']; done) | (simp [Value.oneCell', u8e]; done)) (by first | (simp; done) | (simp; omega) | (simp [seg_len]; done) | (simp [seg_len]; omega)) ?_; intro v1 w1 I1)
      go_loopg [0, 240] (q) (fun kx v0 vj wr => ∃ j : Nat, vj = .int .i64 j ∧ j ≤ q ∧ q - j ≤ kx ∧ EfgI B R cur fz v0 ([Value.int .u8 45] ++ [Value.int .u8 48, Value.int .u8 46] ++ List.replicate j (u8e 48)) W0 wr)
      case atStart => exact ⟨0, rfl, Nat.zero_le _, by omega, by simpa using I1⟩
      case round =>
        obtain ⟨j, rfl, hj, hjx, I⟩ := hrel
        by_cases hlt : j < q
        · have hz : (j : Int) < q := by omega
          have es := zer_succ j
          go_wp2_with (at_builtin; refine wpList_append_new rfl _ _ rfl B R cur fz W0 _ _ rfl (by assumption) _ rfl (by first | (simp [Value.oneCell']; done) | (simp [Value.oneCell', u8e]; done)) (by first | (simp; done) | (simp; omega) | (simp [seg_len]; done) | (simp [seg_len]; omega)) ?_; intro v1 w1 I1)
          go_roundg (q - (j + 1))
          case measure => omega
          case rel => exact ⟨j + 1, by go_num, hlt, Nat.le_refl _, by rw [es]; simpa using I1⟩
        · obtain rfl : q = j := by omega
          have hz : ¬ ((q : Nat) : Int) < q := by omega
          go_wp2_with fail
          go_loopg [0, 247] (nd) (fun kx v0 vj wr => ∃ j : Nat, vj = .int .i64 j ∧ j ≤ nd ∧ nd - j ≤ kx ∧ EfgI B R cur fz v0 ([Value.int .u8 45] ++ [Value.int .u8 48, Value.int .u8 46] ++ List.replicate q (u8e 48) ++ seg D 0 j) W0 wr)
          case atStart => exact ⟨0, rfl, Nat.zero_le _, by omega, by simpa [seg] using I⟩
          case round =>
            obtain ⟨j, rfl, hj, hjx, I⟩ := hrel
            by_cases hlt : j < nd
            · have hz : (j : Int) < nd := by omega
              have cc := (I.cell (j)).trans (HC.out (j) (by omega))
              have es := seg_succ D 0 j
              rw [Nat.zero_add] at es
              go_wp2_with (at_builtin; refine wpList_append_new rfl _ _ rfl B R cur fz W0 _ _ rfl (by assumption) _ rfl (by first | (simp [Value.oneCell']; done) | (simp [Value.oneCell', u8e]; done)) (by first | (simp; done) | (simp; omega) | (simp [seg_len]; done) | (simp [seg_len]; omega)) ?_; intro v1 w1 I1)
              go_roundg (nd - (j + 1))
              case measure => omega
              case rel => exact ⟨j + 1, by go_num, hlt, Nat.le_refl _, by rw [es]; simpa using I1⟩
            · obtain rfl : nd = j := by omega
              have hz : ¬ ((nd : Nat) : Int) < nd := by omega
              go_wp2_with fail
              refine wp_loop_rounds 1 ?_
              rw [rounds_succ]
              go_wp2_with fail
              go_ret
              refine ⟨_, rfl, cast (congrArg (fun l => EfgI B R cur fz _ l W0 _) ?_) I⟩
              first | (simp [sgnL, u8e]; done) | (simp [sgnL]; done)
end Go.Proofs.YtfffmndjgjfflaaGreatDoor
