/- CondW, CondM, CanP, CondC, Tabs, TabsC, RunP, CondT: merged by merge.py. -/
import Derived.Deep.Cut
import Derived.Deep.LoopGhost
import Derived.Test.YtliobglhppejiaaDoorGaB
import Derived.Test.YtliobglhppejiaaDoorShelf
import Derived.Test.YtliobglhppejiaaDoorRows
import Derived.PinnedBridge
import Derived.MakeChecks
import Derived.OpenShut
import Derived.ProofKit
import Derived.WalkSmall
import Derived.Lib.LaidTab
import Derived.Lib.LaidPrint
import Derived.Lib.LaidU8
import Derived.Stop.LaidErr
import Derived.Below
import Derived.KernelRfl
import Derived.WalkKit
import Derived.Tactics2
import Derived.Deep.RegionWith
import Derived.Deep.RegionHeld3
/- Package cond's contracts: stands, Void, Holds, Implies, Right, Canon. (Written by gen_condw.py.) -/
namespace Go.Proofs.YtliobglhppejiaaDoor
open Go.RowKit Go.Shelf
open Go.Proofs
set_option maxRecDepth 100000

/-- A condition as the program holds it. -/
abbrev cnds (nm : ByteArray) (op k n : Int) (x : Nat) (s : ByteArray) (y : Bool) : Array Value := #[.string nm, .int .i64 op, .int .i64 k, .int .i64 n, .float .f64 x, .string s, .bool y]
abbrev cnd (nm : ByteArray) (op k n : Int) (x : Nat) (s : ByteArray) (y : Bool) : Value := .agg (cnds nm op k n x s y)
/-- One block, two blocks laid behind all others: what they hold in every world in which only what is younger has turned. -/
theorem one_lay {w w' : World} {cs : Array Value} {t : TypeId} (hb : Below (w.heap.size + 1) (w.alloc (.cells cs t)) w') (i : Nat) (v : Value) (h : cs[i]? = some v) : w'.cell? ⟨w.heap.size, i, none⟩ = some v := by
  rw [hb.cell (p := ⟨w.heap.size, i, none⟩) (by simp), World.cell?_alloc_new]; exact h
theorem two_lay {w w' : World} {cs ds : Array Value} {t u : TypeId} (hb : Below (w.heap.size + 2) ((w.alloc (.cells cs t)).alloc (.cells ds u)) w') :
    (∀ i v, cs[i]? = some v → w'.cell? ⟨w.heap.size, i, none⟩ = some v) ∧ (∀ i v, ds[i]? = some v → w'.cell? ⟨w.heap.size + 1, i, none⟩ = some v) := by
  refine ⟨fun i v h => ?_, fun i v h => ?_⟩
  · rw [hb.cell (p := ⟨w.heap.size, i, none⟩) (by simp), World.cell?_alloc_lt _ _ _ (by simp), World.cell?_alloc_new]; exact h
  · rw [hb.cell (p := ⟨w.heap.size + 1, i, none⟩) (by simp)]
    have := World.cell?_alloc_new (w.alloc (.cells cs t)) ds u i
    rw [World.size_alloc] at this
    rw [this]; exact h

set_option maxHeartbeats 1000000 in
theorem stands_c (op r : Int) (w : World) : Calls Tryd.prog 93 #[.int .i64 op, .int .i64 r] w fun e w' => e = .returned (.bool (standsB op r)) ∧ w = w' := by
  unfold standsB
  cases h0 : (op == 0)
  · skip
    cases h1 : (op == 1)
    · skip
      cases h2 : (op == 2)
      · skip
        cases h3 : (op == 3)
        · skip
          cases h4 : (op == 4)
          · skip
            cases h5 : (op == 5)
            · skip
              go_enter Tryd.func93, Tryd.ntmps93
              go_wp2
              go_ret
              exact ⟨rfl, rfl⟩
            · skip
              go_enter Tryd.func93, Tryd.ntmps93
              go_wp2
              go_ret
              exact ⟨rfl, rfl⟩
          · skip
            go_enter Tryd.func93, Tryd.ntmps93
            go_wp2
            go_ret
            exact ⟨rfl, rfl⟩
        · skip
          go_enter Tryd.func93, Tryd.ntmps93
          go_wp2
          go_ret
          exact ⟨rfl, rfl⟩
      · skip
        go_enter Tryd.func93, Tryd.ntmps93
        go_wp2
        go_ret
        exact ⟨rfl, rfl⟩
    · skip
      go_enter Tryd.func93, Tryd.ntmps93
      go_wp2
      go_ret
      exact ⟨rfl, rfl⟩
  · skip
    go_enter Tryd.func93, Tryd.ntmps93
    go_wp2
    go_ret
    exact ⟨rfl, rfl⟩

set_option maxHeartbeats 1000000 in
theorem cvoid_c (nm : ByteArray) (op k n : Int) (x : Nat) (s : ByteArray) (y : Bool) (w : World) :
    Calls Tryd.prog 78 #[cnd nm op k n x s y] w fun e w' => e = .returned (.bool (cvoidB ⟨⟨nm, k, n, x, s, y⟩, op⟩)) ∧ Below w.heap.size w w' := by
  have hv := fun W => void_c k n x s y W
  unfold cvoidB
  simp only []
  generalize voidB k x = b at *
  have HV := Lib.hid hv; clear hv
  cases h7 : (op == 7)
  · cases h6 : (op == 6)
    · go_enter Tryd.func78, Tryd.ntmps78
      go_wp2_with fail
      refine (HV.out _).mono ?_
      rintro e w1 ⟨rfl, hb⟩
      have HB := Lib.hid hb; clear hb
      go_wp2
      go_ret
      exact ⟨rfl, ((Below.refl _ _).alloc (Nat.le_refl _) _).trans (HB.out.mono (by simp))⟩
    · go_enter Tryd.func78, Tryd.ntmps78
      go_wp2
      go_ret
      exact ⟨rfl, (Below.refl _ _).alloc (Nat.le_refl _) _⟩
  · go_enter Tryd.func78, Tryd.ntmps78
    go_wp2
    go_ret
    exact ⟨rfl, (Below.refl _ _).alloc (Nat.le_refl _) _⟩

set_option maxHeartbeats 2000000 in
theorem holds_c (nm : ByteArray) (op k n : Int) (x : Nat) (s : ByteArray) (y : Bool) (nm2 : ByteArray) (k2 n2 : Int) (x2 : Nat) (s2 : ByteArray) (y2 : Bool) (hx : x < 18446744073709551616) (hx2 : x2 < 18446744073709551616) (w : World) :
    Calls Tryd.prog 76 #[cnd nm op k n x s y, val k2 n2 x2 s2 y2] w fun e w' => e = .returned (.bool (holdsB ⟨⟨nm, k, n, x, s, y⟩, op⟩ ⟨nm2, k2, n2, x2, s2, y2⟩)) ∧ Below w.heap.size w w' := by
  have B0 : Below w.heap.size w ((w.alloc (.cells (cnds nm op k n x s y) 55)).alloc (.cells (vals k2 n2 x2 s2 y2) 53)) := ((Below.refl _ _).alloc (Nat.le_refl _) _).alloc (by simp) _
  have HB0 := Lib.hid B0; clear B0
  have hc := fun W => compare_any k2 n2 k n x2 x s2 s y2 y W hx2 hx
  have hp := fun W => Tryd.strings_HasPrefix s2 s W
  have hst := fun r W => stands_c op r W
  unfold holdsB okA cmpA preB
  simp only []
  have hcv : cmpOk k2 x2 k x = true → cmpR k2 n2 x2 s2 y2 k n x s y = cmpV k2 n2 n x2 x s2 s y2 y := fun h => by unfold cmpR; rw [h]; rfl
  generalize cmpR k2 n2 x2 s2 y2 k n x s y = r at *
  generalize cmpV k2 n2 n x2 x s2 s y2 y = r2 at *
  generalize cmpOk k2 x2 k x = b at *
  generalize Lib.hasPrefix s2.data.toList s.data.toList = p at *
  have HC := Lib.hid hc; have HP := Lib.hid hp; have HST := Lib.hid hst; have HCV := Lib.hid hcv
  clear hc hp hst hcv hx hx2
  cases h7 : (op == 7)
  · cases h6 : (op == 6)
    · cases b
      · go_enter Tryd.func76, Tryd.ntmps76
        go_wp2_with fail
        refine (HC.out _).mono ?_
        rintro e w1 ⟨rfl, hb⟩
        have hA1 : Below (w.heap.size + 2) ((w.alloc (.cells (cnds nm op k n x s y) 55)).alloc (.cells (vals k2 n2 x2 s2 y2) 53)) w1 := by simpa using hb
        have HA1 := Lib.hid hA1; clear hb hA1
        go_wp2_with fail
        go_ret
        exact ⟨rfl, HB0.out.trans (HA1.out.mono (by omega))⟩
      · have e2 := HCV.out rfl
        subst e2
        generalize hS : standsB op r = q at *
        go_enter Tryd.func76, Tryd.ntmps76
        go_wp2_with fail
        refine (HC.out _).mono ?_
        rintro e w1 ⟨rfl, hb⟩
        have hA1 : Below (w.heap.size + 2) ((w.alloc (.cells (cnds nm op k n x s y) 55)).alloc (.cells (vals k2 n2 x2 s2 y2) 53)) w1 := by simpa using hb
        have c1 := (two_lay hA1).1 1 _ rfl
        have HA1 := Lib.hid hA1; clear hb hA1
        go_wp2_with fail
        refine (HST.out _ _).mono ?_
        rintro e w2 ⟨rfl, rfl⟩
        go_wp2_with fail
        go_ret
        exact ⟨by first | rfl | rw [hS] | (rw [hS]; rfl), HB0.out.trans (HA1.out.mono (by omega))⟩
    · cases hk : (k == 2)
      · go_enter Tryd.func76, Tryd.ntmps76
        go_wp2
        go_ret
        exact ⟨rfl, HB0.out⟩
      · cases hk2 : (k2 == 2)
        · go_enter Tryd.func76, Tryd.ntmps76
          go_wp2
          go_ret
          exact ⟨rfl, HB0.out⟩
        · go_enter Tryd.func76, Tryd.ntmps76
          go_wp2_with fail
          refine (HP.out _).mono ?_
          rintro e w1 ⟨rfl, rfl⟩
          go_wp2_with fail
          go_ret
          exact ⟨rfl, HB0.out⟩
  · go_enter Tryd.func76, Tryd.ntmps76
    go_wp2
    go_ret
    exact ⟨rfl, HB0.out⟩

end Go.Proofs.YtliobglhppejiaaDoor

/- cond.Match of any condition and any attributes. -/
namespace Go.Proofs.YtliobglhppejiaaDoor
open Go.RowKit Go.Shelf
open Go.Proofs
set_option maxRecDepth 100000

/-- Has an event an attribute of that name whose value does? -/
def mat1 (c : Cn) (a : At) : Bool := a.nm.toList == c.a.nm.toList && holdsB c a
def matchB (c : Cn) (l : List At) : Bool := l.any (mat1 c)
set_option maxHeartbeats 4000000 in
theorem cmatch_c (nm : ByteArray) (op k n : Int) (x : Nat) (s : ByteArray) (y : Bool) (scope : ByteArray) (ao : Option Addr) (cap : Nat) (l : List At) (hx : x < 18446744073709551616) (w : World) (hl : SliceA w ao l) (ho : ∀ a ∈ l, AtOk a) (hlen : l.length ≤ 4611686018427387904) :
    Calls Tryd.prog 58 #[cnd nm op k n x s y, .agg #[.string scope, .slice ao l.length cap]] w fun e w' => e = .returned (.bool (matchB ⟨⟨nm, k, n, x, s, y⟩, op⟩ l)) ∧ Below w.heap.size w w' := by
  obtain ⟨len, hL⟩ : ∃ len, len = l.length := ⟨_, rfl⟩
  have HLen : Aside (len = l.length) := hL
  rw [← hL] at hlen ⊢
  obtain ⟨r, hr⟩ : ∃ r, r = matchB ⟨⟨nm, k, n, x, s, y⟩, op⟩ l := ⟨_, rfl⟩
  have HR : Aside (r = matchB ⟨⟨nm, k, n, x, s, y⟩, op⟩ l) := hr
  rw [← hr]
  have B0 : Below w.heap.size w ((w.alloc (.cells (cnds nm op k n x s y) 55)).alloc (.cells #[.string scope, .slice ao len cap] 36)) := ((Below.refl _ _).alloc (Nat.le_refl _) _).alloc (by simp) _
  have HB0 := Lib.hid B0
  have HH : Aside (∀ a ∈ l, ∀ W, Calls Tryd.prog 76 #[cnd nm op k n x s y, val a.k a.n a.x a.s a.y] W fun e w' => e = .returned (.bool (holdsB ⟨⟨nm, k, n, x, s, y⟩, op⟩ a)) ∧ Below W.heap.size W w') := fun a ha W => holds_c nm op k n x s y a.nm a.k a.n a.x a.s a.y hx (ho a ha) W
  have HSL : Aside (∀ W, Below (w.heap.size + 2) ((w.alloc (.cells (cnds nm op k n x s y) 55)).alloc (.cells #[.string scope, .slice ao len cap] 36)) W → l = [] ∨ ∃ b off, ao = some ⟨b, off, none⟩ ∧ b < w.heap.size ∧ RowAt W b off l) := fun W hW => by
    rcases hl with h | ⟨b, off, h1, h2, h3⟩
    · exact Or.inl h
    · exact Or.inr ⟨b, off, h1, h2, RowAt.below (B0.trans (hW.mono (by omega))) h2 h3⟩
  have HKP : Aside (∀ W, Below (w.heap.size + 2) ((w.alloc (.cells (cnds nm op k n x s y) 55)).alloc (.cells #[.string scope, .slice ao len cap] 36)) W → W.cell? ⟨w.heap.size, 0, none⟩ = some (.string nm) ∧ W.cell? ⟨w.heap.size, 1, none⟩ = some (.int .i64 op) ∧ W.cell? ⟨w.heap.size, 2, none⟩ = some (.int .i64 k) ∧ W.cell? ⟨w.heap.size, 3, none⟩ = some (.int .i64 n) ∧ W.cell? ⟨w.heap.size, 4, none⟩ = some (.float .f64 x) ∧ W.cell? ⟨w.heap.size, 5, none⟩ = some (.string s) ∧ W.cell? ⟨w.heap.size, 6, none⟩ = some (.bool y)) := fun W hW => by
    obtain ⟨va, _⟩ := two_lay hW
    exact ⟨va 0 _ rfl, va 1 _ rfl, va 2 _ rfl, va 3 _ rfl, va 4 _ rfl, va 5 _ rfl, va 6 _ rfl⟩
  have HM1 : Aside (∀ a, mat1 ⟨⟨nm, k, n, x, s, y⟩, op⟩ a = (a.nm.toList == nm.toList && holdsB ⟨⟨nm, k, n, x, s, y⟩, op⟩ a)) := fun a => rfl
  have HMB : Aside (matchB ⟨⟨nm, k, n, x, s, y⟩, op⟩ l = l.any (mat1 ⟨⟨nm, k, n, x, s, y⟩, op⟩)) := rfl
  generalize matchB ⟨⟨nm, k, n, x, s, y⟩, op⟩ l = mb at *
  generalize mat1 ⟨⟨nm, k, n, x, s, y⟩, op⟩ = m1 at *
  generalize holdsB ⟨⟨nm, k, n, x, s, y⟩, op⟩ = hh at *
  clear hx hl ho hL hr
  have HBR : Aside (Below (w.heap.size + 2) ((w.alloc (.cells (cnds nm op k n x s y) 55)).alloc (.cells #[.string scope, .slice ao len cap] 36)) ((w.alloc (.cells (cnds nm op k n x s y) 55)).alloc (.cells #[.string scope, .slice ao len cap] 36))) := Below.refl _ _
  clear B0
  go_enter Tryd.func58, Tryd.ntmps58
  go_wp2_with fail
  go_loopg [10] len (fun kx s10 wr => ∃ j : Nat, s10 = .int .i64 j ∧ j ≤ len ∧ len - j ≤ kx ∧ Aside ((l.take j).any m1 = false) ∧ Aside (Below (w.heap.size + 2) ((w.alloc (.cells (cnds nm op k n x s y) 55)).alloc (.cells #[.string scope, .slice ao len cap] 36)) wr))
  case atStart => exact ⟨0, rfl, Nat.zero_le _, by omega, by simp [Aside], HBR.out⟩
  case round =>
    obtain ⟨j, rfl, hj, hjx, HN, HA⟩ := hrel
    have zr : w.heap.size + 2 ≤ wr.heap.size := by have := HA.out.size; simpa using this
    by_cases hlt : j < len
    · rcases HSL.out _ HA.out with h0 | ⟨b, off, hao, hbs, hrow⟩
      · rw [h0] at HLen; exact absurd HLen.out (by simp; omega)
      subst hao
      have hjl : j < l.length := by rw [← HLen.out]; exact hlt
      have hrow1 := hrow j hjl
      have HHj := Lib.hid (HH.out _ (get_mem l j hjl))
      have HT : Aside ((l.take (j + 1)).any m1 = (m1 l[j]!)) := by
        show _ = _
        rw [take_succ l j hjl, List.any_append, HN.out]; simp
      have HY : Aside (m1 l[j]! = true → r = true) := fun h => by
        rw [HR.out, HMB.out]
        exact List.any_eq_true.2 ⟨_, get_mem l j hjl, h⟩
      have HMj := HM1.out l[j]!
      generalize m1 l[j]! = q at HT HY HMj
      generalize hh l[j]! = p at HHj HMj
      generalize l[j]! = a at hrow1 HHj HMj
      obtain ⟨nma, ka, na, xa, sa, ya⟩ := a
      have c0 := hrow1 0 _ rfl; have c1 := hrow1 1 _ rfl; have c2 := hrow1 2 _ rfl; have c3 := hrow1 3 _ rfl; have c4 := hrow1 4 _ rfl; have c5 := hrow1 5 _ rfl
      simp only [Nat.add_zero] at c0
      clear hrow1 hrow HSL HH HM1 HMB hjl
      have hltz : (j : Int) < len := by omega
      have hjz : (0 : Int) ≤ (j : Int) := by omega
      go_upto_region 4 with fail
      have hA9 : Below (w.heap.size + 2) ((w.alloc (.cells (cnds nm op k n x s y) 55)).alloc (.cells #[.string scope, .slice (some ⟨b, off, none⟩) len cap] 36)) (wr.alloc (.cells #[.string nma, .int .i64 ka, .int .i64 na, .float .f64 xa, .string sa, .bool ya] 60)) := HA.out.alloc (by omega) _
      have vv := World.cell?_alloc_new wr #[.string nma, .int .i64 ka, .int .i64 na, .float .f64 xa, .string sa, .bool ya] 60
      have v0 := vv 0; have v1 := vv 1; have v2 := vv 2; have v3 := vv 3; have v4 := vv 4; have v5 := vv 5
      simp only [List.getElem?_toArray, List.getElem?_cons_zero, List.getElem?_cons_succ] at v0 v1 v2 v3 v4 v5
      have z9 : w.heap.size + 2 ≤ (wr.alloc (.cells #[.string nma, .int .i64 ka, .int .i64 na, .float .f64 xa, .string sa, .bool ya] 60)).heap.size := by simp; omega
      have HA9 := Lib.hid hA9
      clear hA9 vv c0 c1 c2 c3 c4 c5
      generalize (wr.alloc (.cells #[.string nma, .int .i64 ka, .int .i64 na, .float .f64 xa, .string sa, .bool ya] 60)) = w9 at *
      generalize wr.heap.size = V at *
      obtain ⟨a0, a1, a2, a3, a4, a5, a6⟩ := HKP.out _ HA9.out
      have HMJ := Lib.hid HMj
      clear HMj
      cases hn : (nma.toList == nm.toList)
      · have hq : q = false := by rw [HMJ.out]; simp only [hn, Bool.false_and]
        go_wp2_with fail
        go_roundg (len - (j + 1))
        case measure => omega
        case rel => exact ⟨j + 1, by go_num, hlt, Nat.le_refl _, HT.out.trans hq, HA9.out⟩
      · have hq : q = p := by rw [HMJ.out]; simp only [hn, Bool.true_and]
        have HQ := Lib.hid hq
        clear hq
        go_wp2_with fail
        clear a0 a1 a2 a3 a4 a5 a6 v0 v1 v2 v3 v4 v5
        refine (HHj.out _).mono ?_
        rintro e w10 ⟨rfl, hb⟩
        have HA10 := Lib.hid (HA9.out.trans (hb.mono z9)); clear hb
        cases p
        · go_wp2_with fail
          go_roundg (len - (j + 1))
          case measure => omega
          case rel => exact ⟨j + 1, by go_num, hlt, Nat.le_refl _, HT.out.trans HQ.out, HA10.out⟩
        · have hrt : r = true := HY.out HQ.out
          subst hrt
          go_wp2_with fail
          go_ret
          exact ⟨rfl, HB0.out.trans (HA10.out.mono (by omega))⟩
    · obtain rfl : j = len := by omega
      have hrf : r = false := by
        rw [HR.out, HMB.out]
        have := HN.out
        rw [HLen.out, List.take_length] at this
        exact this
      subst hrf
      go_wp2_with fail
      go_ret
      exact ⟨rfl, HB0.out.trans (HA.out.mono (by omega))⟩
end Go.Proofs.YtliobglhppejiaaDoor

/- What is kept, kept once more; its bounds. -/
namespace Go.Proofs.YtliobglhppejiaaDoor
open Go.RowKit Go.Shelf Go.Sort
open Go.Proofs
set_option maxRecDepth 100000

theorem fcanon_idem (x : Nat) : fcanon (fcanon x) = fcanon x := by
  cases h : fnan x
  · by_cases hz : frung x = 0
    · have : fcanon x = 0 := by unfold fcanon; rw [h, if_neg Bool.false_ne_true, if_pos hz]
      rw [this]; decide +kernel
    · have : fcanon x = x := by unfold fcanon; rw [h, if_neg Bool.false_ne_true, if_neg hz]
      rw [this, this]
  · rw [canon_nan h]; decide +kernel
theorem canonA_idem (a : At) : canonA (canonA a) = canonA a := by
  obtain ⟨nm, k, n, x, s, y⟩ := a
  unfold canonA
  simp only []
  by_cases h0 : (k == 0) = true
  · rw [if_pos h0]; rfl
  · rw [if_neg h0]
    by_cases h1 : (k == 1) = true
    · rw [if_pos h1]; simp [fcanon_idem]
    · rw [if_neg h1]
      by_cases h2 : (k == 2) = true
      · rw [if_pos h2]; rfl
      · rw [if_neg h2]
        by_cases h3 : (k == 3) = true
        · rw [if_pos h3]; rfl
        · rw [if_neg h3]; rfl
theorem canonA_bd (a : At) (hx : a.x < 18446744073709551616) (h0 : -9223372036854775808 ≤ a.n) (h1 : a.n ≤ 9223372036854775807) : (canonA a).x < 18446744073709551616 ∧ -9223372036854775808 ≤ (canonA a).n ∧ (canonA a).n ≤ 9223372036854775807 := by
  have hf := fcanon_lt a.x hx
  unfold canonA
  repeat' split
  all_goals simp only []
  all_goals omega
theorem canon_x (a : At) (h : AtOk a) : (canonA a).x < 18446744073709551616 := by
  unfold canonA
  repeat' split
  all_goals first | (show (0 : Nat) < _; decide) | skip
  show fcanon a.x < _
  unfold fcanon
  repeat' split
  · decide
  · decide
  · exact h
end Go.Proofs.YtliobglhppejiaaDoor

/- Conditions as they are kept: they hold, and are void, as they were. -/
namespace Go.Proofs.YtliobglhppejiaaDoor
open Go.RowKit Go.Shelf
open Go.Proofs

/-- A condition as it is kept. -/
def canonC (c : Cn) : Cn := if c.op == 7 then ⟨⟨c.a.nm, 0, 0, 0, ⟨#[]⟩, false⟩, c.op⟩ else ⟨canonA c.a, c.op⟩
theorem canonC_nm (c : Cn) : (canonC c).a.nm = c.a.nm := by
  unfold canonC; split
  · rfl
  · exact canonA_nm c.a
theorem canonC_op (c : Cn) : (canonC c).op = c.op := by unfold canonC; split <;> rfl
/-- A kind that is one. -/
def KindB (a : At) : Prop := 0 ≤ a.k ∧ a.k ≤ 3
theorem canonA_k {a : At} (h : KindB a) : (canonA a).k = a.k := by
  obtain ⟨nm, k, n, x, s, y⟩ := a
  have h0 := h.1; have h1 := h.2
  simp only [] at h0 h1
  rcases (show k = 0 ∨ k = 1 ∨ k = 2 ∨ k = 3 by omega) with rfl | rfl | rfl | rfl <;> rfl
theorem fnan_canon (x : Nat) : fnan (fcanon x) = fnan x := by
  cases h : fnan x
  · exact (canon_num h).1
  · rw [canon_nan h]; decide +kernel
theorem voidB_canon (a : At) (h : KindB a) : voidB (canonA a).k (canonA a).x = voidB a.k a.x := by
  obtain ⟨nm, k, n, x, s, y⟩ := a
  have h0 := h.1; have h1 := h.2
  simp only [] at h0 h1
  rcases (show k = 0 ∨ k = 1 ∨ k = 2 ∨ k = 3 by omega) with rfl | rfl | rfl | rfl
  · rfl
  · show ((1 : Int) == 1 && fnan (fcanon x)) = ((1 : Int) == 1 && fnan x)
    rw [fnan_canon]
  · rfl
  · rfl
theorem cmpA_canon (v a : At) (h : KindB a) (hk : v.k = a.k) : cmpA v (canonA a) = cmpA v a := by
  obtain ⟨nm, k, n, x, s, y⟩ := a
  obtain ⟨nm2, k2, n2, x2, s2, y2⟩ := v
  have h0 := h.1; have h1 := h.2
  simp only [] at h0 h1 hk
  subst hk
  rcases (show k2 = 0 ∨ k2 = 1 ∨ k2 = 2 ∨ k2 = 3 by omega) with rfl | rfl | rfl | rfl
  · rfl
  · show sgn (fkey x2) (fkey (fcanon x)) = sgn (fkey x2) (fkey x)
    rw [fkey_canon]
  · rfl
  · rfl
theorem holds_canon (c : Cn) (v : At) (h : KindB c.a) : holdsB (canonC c) v = holdsB c v := by
  unfold canonC
  by_cases h7 : (c.op == 7) = true
  · rw [if_pos h7]; unfold holdsB; rw [if_pos h7, if_pos h7]
  · rw [if_neg h7]
    unfold holdsB
    rw [if_neg h7, if_neg h7]
    simp only []
    rw [canonA_k h]
    by_cases h6 : (c.op == 6) = true
    · rw [if_pos h6, if_pos h6]
      by_cases hk : c.a.k = 2
      · have : (canonA c.a).s = c.a.s := by
          unfold canonA; rw [hk]; rfl
        rw [this]
      · have : (c.a.k == 2) = false := by simpa using hk
        rw [this]; rfl
    · rw [if_neg h6, if_neg h6]
      have hok : okA v (canonA c.a) = okA v c.a := by
        unfold okA cmpOk
        rw [canonA_k h]
        have := voidB_canon c.a h
        rw [canonA_k h] at this
        rw [this]
      rw [hok]
      cases ho : okA v c.a
      · rfl
      · rw [cmpA_canon v c.a h (okA_k ho).1]
theorem cvoid_canon (c : Cn) (h : KindB c.a) : cvoidB (canonC c) = cvoidB c := by
  unfold canonC
  by_cases h7 : (c.op == 7) = true
  · rw [if_pos h7]; unfold cvoidB; rw [if_pos h7, if_pos h7]
  · rw [if_neg h7]
    unfold cvoidB
    rw [if_neg h7, if_neg h7]
    simp only []
    have hv := voidB_canon c.a h
    rw [canonA_k h] at hv ⊢
    rw [hv]
end Go.Proofs.YtliobglhppejiaaDoor

/- What the listed package-level variables hold, cell by cell, in every world in which nothing that stood when the call began has turned. -/
namespace Go.Proofs.YtliobglhppejiaaDoor
open Go.RowKit Go.Lib

section
variable {H : Type} {enc : TypeId × Value → H} {P : Program} {w : World} {base : Nat} {spare : Nat → Bool} {held : Bool} {fuel : Nat} {t : TypeId} {cs : List Value} {x : DataW H × List MemPlace}
theorem trod_float {k : FloatKind} (ht : P.underlying t = some (.float k)) (h : DataW.trod enc P w base spare held fuel t cs = some x) : ∃ n, cs = [.float k n] ∧ x = (.lit (.float k n), []) := by
  cases fuel with
  | zero => simp [DataW.trod] at h
  | succ n =>
    unfold DataW.trod at h
    rw [ht] at h
    split at h <;> simp_all
end

def fpow10 : List Nat := [4607182418800017408, 4621819117588971520, 4636737291354636288, 4652007308841189376, 4666723172467343360, 4681608360884174848, 4696837146684686336, 4711630319722168320, 4726483295884279808, 4741671816366391296, 4756540486875873280, 4771362005757984768, 4786511204640096256, 4801453603149578240, 4816244402031689728, 4831355200913801216, 4846369599423283200, 4861130398305394688, 4876203697187506176, 4891288408196988160, 4906019910204099648, 4921056587992461136, 4936209963552724370]
def powHi (i : Nat) : Nat := (Go.Pinned.pow10Rows.getD i (0, 0)).1
def powLo (i : Nat) : Nat := (Go.Pinned.pow10Rows.getD i (0, 0)).2

/-- What stood still stands. -/
theorem cell_on {w w' : World} (hb : Below w.heap.size w w') {p : Addr} {v : Value} (h : w.cell? p = some v) : w'.cell? p = some v := by
  rw [hb.cell (World.block_lt_of_cell? w _ h)]; exact h
theorem slice_on {w w' : World} (hb : Below w.heap.size w w') {g : Nat} {k : IntKind} {t : List Nat} (h : TabSlice g k t w) : TabSlice g k t w' := by
  obtain ⟨R, o, c, h1, h2⟩ := h
  exact ⟨R, o, c, cell_on hb h1, fun j hj => cell_on hb (h2 j hj)⟩
end Go.Proofs.YtliobglhppejiaaDoor

/- (For the seat of package cond.) From a row's list of package-level variables to what the walks ask of them. -/
namespace Go.Proofs.YtliobglhppejiaaDoor
open Go.RowKit Go.Lib
set_option maxRecDepth 100000

section
variable {H : Type} {enc : TypeId × Value → H} {P : Program} {w : World} {base : Nat} {spare : Nat → Bool} {held : Bool} {fuel : Nat} {t : TypeId} {cs : List Value}
/-- A struct's field that is an integer. -/
theorem field_int {fs : Array Field} {ds : List (DataW H)} {p : List MemPlace} (ht : P.underlying t = some (.struct fs)) (h : DataW.trod enc P w base spare held fuel t cs = some (.agg ds, p)) (i : Nat) (f : Field) (k : IntKind) (z : Int)
    (hf : fs[i]? = some f) (hu : P.underlying f.type = some (.int k)) (hc : P.cellsOf f.type = 1) (hd : ds[i]? = some (.lit (.int k z))) : cs[f.offset]? = some (.int k z) := by
  obtain ⟨xs, n, rfl, hx, hl, hxl, hall⟩ := DataW.trod_struct ht h
  have hxs : xs.map (·.1) = ds := by
    have := congrArg Prod.fst hx
    simpa using this.symm
  have h1 := hall i f hf
  rw [← hxs, List.getElem?_map] at hd
  obtain ⟨b, hb, hb1⟩ := Option.map_eq_some_iff.1 hd
  rw [hb, hc] at h1
  obtain ⟨z', hcz, rfl, _⟩ := DataW.trod_int hu h1
  simp only [DataW.lit.injEq, Lit.int.injEq, true_and] at hb1
  subst hb1
  have := congrArg (·[0]?) hcz
  simpa [List.getElem?_take, List.getElem?_drop] using this

/-- A slice of floats. -/
theorem floats_at {e : TypeId} {k : FloatKind} {l : List Nat} {p : List MemPlace} (ht : P.underlying t = some (.slice e)) (he : P.underlying e = some (.float k)) (hc : P.cellsOf e = 1) (hl : 0 < l.length)
    (h : DataW.trod enc P w base spare held fuel t cs = some (.slice (l.map fun x => .lit (.float k x)) [], p)) :
    ∃ R o c, cs = [.slice (some ⟨R, o, none⟩) l.length c] ∧ ∀ j, j < l.length → w.cell? ⟨R, o + j, none⟩ = some (.float k (l.getD j 0)) := by
  rcases DataW.trod_slice ht h with ⟨_, hx⟩ | ⟨a, len, cap, el, rs, m, rfl, hcs, hx, _, hlc, _, hel, helem, hsp, _⟩
  · cases hx
  have e0 := congrArg Prod.fst hx
  simp only [DataW.slice.injEq] at e0
  obtain ⟨eE, eR⟩ := e0
  have hlen : len = l.length := by
    have := congrArg List.length eE
    simp at this
    omega
  have hcell : ∀ i, i < l.length → w.cell? (a.add i) = some (.float k (l.getD i 0)) := by
    intro i hi
    have h1 := helem i (by omega)
    rw [hc] at h1
    obtain ⟨b, hb⟩ : ∃ b, el[i]? = some b := ⟨el[i]'(by omega), List.getElem?_eq_getElem (by omega)⟩
    rw [hb] at h1
    obtain ⟨ce, hce, hte⟩ := Option.bind_eq_some_iff.1 h1
    obtain ⟨z, hz, hbz⟩ := trod_float he hte
    have hb1 : b.1 = .lit (.float k (l.getD i 0)) := by
      have := congrArg (·[i]?) eE
      simp [hb, hi] at this
      have e2 : l.getD i 0 = l[i] := by simp [List.getD, List.getElem?_eq_getElem hi]
      rw [e2]
      exact this.symm
    rw [hbz] at hb1
    simp only [DataW.lit.injEq, Lit.float.injEq, true_and] at hb1
    obtain ⟨_, _, hcc⟩ := World.cells?_some hce
    have := hcc 0 (by omega)
    rw [hz] at this
    simp only [Nat.mul_one] at this
    have e1 : (a.add i).add 0 = a.add i := by simp [Addr.add]
    rw [e1] at this
    rw [this, ← hb1]
    rfl
  obtain ⟨R, o, sR⟩ := a
  obtain rfl : sR = none := by
    have h00 := hcell 0 hl
    have : (Addr.add ⟨R, o, sR⟩ 0) = ⟨R, o, sR⟩ := by simp [Addr.add]
    rw [this] at h00
    exact Go.Proofs.cell_spot h00
  refine ⟨R, o, cap, by rw [hcs, hlen], fun j hj => ?_⟩
  have := hcell j hj
  rwa [Addr.add_lit] at this
end

theorem reads_of (n : String) (g t : Nat) (h : Tryd.prog.globalNamed n = some g) (k : (Tryd.prog.globals[g]?).map (·.type) = some t) {w : World} {d : DataW Unit} (hr : VarReads Tryd.prog w n d) :
    ∃ cs fuel p, w.var? Tryd.prog n = some cs ∧ DataW.trod (fun _ => ()) Tryd.prog w 0 (fun _ => true) false fuel t cs.toList = some (d, p) ∧ ∀ i, w.cell? ⟨g, i, none⟩ = cs.toList[i]? := by
  obtain ⟨g', t', cs, fuel, p, hg, hty, hvar, hd⟩ := hr
  obtain rfl := Option.some.inj (h.symm.trans hg)
  obtain rfl := Option.some.inj (k.symm.trans hty)
  exact ⟨cs, fuel, p, hvar, hd, fun i => by rw [World.var?_cell hg hvar i, ← Array.getElem?_toList]⟩

theorem ld_drop {P : Program} {W : World} : ∀ (n : Nat) {l : List (String × DataW Unit)}, laidMet P l W → laidMet P (l.drop n) W
  | 0, _, h => h
  | _ + 1, [], h => h
  | n + 1, _ :: r, h => ld_drop n (l := r) h.tail

/-- The ops' words, as package cond's own variable holds them. -/
def wordS (i : Nat) : ByteArray := ⟨(([[61], [33, 61], [60], [60, 61], [62], [62, 61], [94], [104, 97, 115]] : List (List UInt8)).getD i []).toArray⟩
end Go.Proofs.YtliobglhppejiaaDoor

/- A call that touches no memory, on arguments that are written out, by the kernel's own run of the model, in whatever world it is made. -/
namespace Go.Proofs.YtliobglhppejiaaDoor
open Go.RowKit
set_option maxRecDepth 100000

/-- The frame in which a lone machine stands. -/
def frameOf (m : Stepped) : Frame := match m with
  | .next m => match m.gs[0]? with | some g => g.frame | none => default
  | _ => default
/-- How many steps till the first frame is about to leave, none above it. -/
def goTo (P : Program) : Nat → Machine → Nat
  | 0, _ => 0
  | n + 1, m => match m.gs[0]? with
    | some g => match g.frame.mode, g.callers with
      | .returning, [] => 0
      | _, _ => match step P m with
        | .next m' => goTo P n m' + 1
        | _ => 0
    | none => 0
theorem calls_run {P : Program} {f : FuncId} {args : Array Value} {v : Value} {w : World} (fn : Func) (N : Nat) (fr : Frame)
    (h : ∀ cs, runN P N (lone (Frame.enter P f args .normal) cs w) = .next (lone fr cs w))
    (hm : fr.mode = .returning) (hd : fr.defers = []) (hk : fr.kind = .normal) (hf : fr.fn = f) (hfn : P.funcs[f]? = some fn) (hr : (results fn fr.tmps).run P w = .ok v w) :
    Calls P f args w fun e w' => e = .returned v ∧ w = w' := by
  intro cs
  refine ⟨.returned v, w, fr, ⟨rfl, rfl⟩, ⟨N, h cs⟩, hf, hm, hd, hk, fn, ?_, hr⟩
  rw [hf]; exact hfn
noncomputable def stepsOf (f : FuncId) (args : Array Value) (w : World) : Nat := goTo Tryd.prog 20000 (lone (Frame.enter Tryd.prog f args .normal) [] w)
noncomputable def endOf (f : FuncId) (args : Array Value) (w : World) : Frame := frameOf (runN Tryd.prog (stepsOf f args w) (lone (Frame.enter Tryd.prog f args .normal) [] w))
end Go.Proofs.YtliobglhppejiaaDoor

/- cond.known, Word, Right, Print of any condition; what each law of layer 6 begins with. -/
namespace Go.Proofs.YtliobglhppejiaaDoor
open Go.RowKit Go.Shelf
open Go.Proofs
set_option maxRecDepth 100000

set_option maxHeartbeats 1000000 in
theorem known_c (op : Int) (w : World) : Calls Tryd.prog 45 #[.int .i64 op] w fun e w' => e = .returned (.bool (decide (0 ≤ op) && decide (op < 8))) ∧ w = w' := by
  cases h1 : decide (0 ≤ op)
  · go_enter Tryd.func45, Tryd.ntmps45
    go_wp2
    go_ret
    exact ⟨rfl, rfl⟩
  · go_enter Tryd.func45, Tryd.ntmps45
    go_wp2
    go_ret
    exact ⟨rfl, rfl⟩
/-- May a condition be? -/
def crightB (c : Cn) : Bool := nameOk c.a.nm && ((decide (0 ≤ c.op) && decide (c.op < 8)) && vrightB c.a.k c.a.s)
set_option maxHeartbeats 1000000 in
theorem cright_c (nm : ByteArray) (op k n : Int) (x : Nat) (s : ByteArray) (y : Bool) (w : World) :
    Calls Tryd.prog 26 #[cnd nm op k n x s y] w fun e w' => e = .returned (.bool (crightB ⟨⟨nm, k, n, x, s, y⟩, op⟩)) ∧ Below w.heap.size w w' := by
  have hn := fun W => name_c nm W
  have hk := fun W => known_c op W
  have hv := fun W => vright_c k n x s y W
  unfold crightB
  simp only []
  generalize vrightB k s = v at *
  generalize (decide (0 ≤ op) && decide (op < 8)) = q at *
  generalize nameOk nm = p at *
  have HN := Lib.hid hn; have HK := Lib.hid hk; have HV := Lib.hid hv
  clear hn hk hv
  cases p
  · go_enter Tryd.func26, Tryd.ntmps26
    go_wp2_with fail
    refine (HN.out _).mono ?_
    rintro e w1 ⟨rfl, rfl⟩
    go_wp2_with fail
    go_ret
    exact ⟨rfl, (Below.refl _ _).alloc (Nat.le_refl _) _⟩
  · cases q
    · go_enter Tryd.func26, Tryd.ntmps26
      go_wp2_with fail
      refine (HN.out _).mono ?_
      rintro e w1 ⟨rfl, rfl⟩
      go_wp2_with fail
      refine (HK.out _).mono ?_
      rintro e w1 ⟨rfl, rfl⟩
      go_wp2_with fail
      go_ret
      exact ⟨rfl, (Below.refl _ _).alloc (Nat.le_refl _) _⟩
    · go_enter Tryd.func26, Tryd.ntmps26
      go_wp2_with fail
      refine (HN.out _).mono ?_
      rintro e w1 ⟨rfl, rfl⟩
      go_wp2_with fail
      refine (HK.out _).mono ?_
      rintro e w1 ⟨rfl, rfl⟩
      go_wp2_with fail
      refine (HV.out _).mono ?_
      rintro e w1 ⟨rfl, hb⟩
      have HB := Lib.hid hb; clear hb
      go_wp2_with fail
      go_ret
      exact ⟨rfl, ((Below.refl _ _).alloc (Nat.le_refl _) _).trans (HB.out.mono (by simp))⟩


/-- A condition's text. -/
def cprintS (nm : ByteArray) (i : Nat) (T : ByteArray) : ByteArray := if i = 7 then wordS 7 ++ ⟨#[32]⟩ ++ nm else nm ++ ⟨#[32]⟩ ++ wordS i ++ ⟨#[32]⟩ ++ T
theorem wordS_size (i : Nat) (h : i < 8) : (wordS i).size ≤ 3 := by
  match i, h with
  | 0, _ => decide
  | 1, _ => decide
  | 2, _ => decide
  | 3, _ => decide
  | 4, _ => decide
  | 5, _ => decide
  | 6, _ => decide
  | 7, _ => decide
def clightB (nm s : ByteArray) : Bool := decide (wrap64 ((nm.size : Int) + (s.size : Int)) ≤ 300)
/-- What Go's memory allows, and the law's own bound. -/
theorem clight_size {nm s : ByteArray} (h : clightB nm s = true) (hn : nm.size ≤ 140737488355328) (hs : s.size ≤ 140737488355328) : nm.size ≤ 300 ∧ s.size ≤ 300 := by
  unfold clightB at h
  have := of_decide_eq_true h
  unfold wrap64 at this
  omega
end Go.Proofs.YtliobglhppejiaaDoor
