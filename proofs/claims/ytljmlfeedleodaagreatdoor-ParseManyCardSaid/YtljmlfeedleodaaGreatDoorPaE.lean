/- parse.conditions by its contract: part by part. -/
import Derived.Test.YtljmlfeedleodaaGreatDoorPaD
import Derived.Laws.AppendOwn
namespace Go.Proofs.YtljmlfeedleodaaGreatDoor
open Go.RowKit Go.Shelf
open Go.Proofs
set_option maxRecDepth 100000

abbrev OwnC (W : World) (B : Nat) (v : Value) (l : List Cn) : Prop := W.ownsRow B 37 7 v l.length (l.flatMap encC)
theorem ownC_below {w W : World} {B : Nat} {v : Value} {l : List Cn} (h : OwnC w B v l) (hb : Below w.heap.size w W) : OwnC W B v l := by
  obtain ⟨h1, h2⟩ := h
  refine ⟨h1, ?_⟩
  rcases h2 with h2 | ⟨g, cap, cur, hv, hbg, hg, hr⟩
  · exact Or.inl h2
  · exact Or.inr ⟨g, cap, cur, hv, hbg, (hb.block g (Array.getElem?_eq_some_iff.1 hg).1).trans hg, hr⟩
/-- Where a row of one element or more lies. -/
theorem ownC_some {w : World} {B : Nat} {v : Value} {l : List Cn} (h : OwnC w B v l) (hne : 0 < l.length) : ∃ g cap, v = .slice (some ⟨g, 0, none⟩) l.length cap ∧ B ≤ g ∧ g < w.heap.size := by
  rcases h.2 with ⟨_, h0⟩ | ⟨g, cap, cur, hv, hbg, hg, _⟩
  · omega
  · exact ⟨g, cap, hv, hbg, (Array.getElem?_eq_some_iff.1 hg).1⟩
theorem ownC_lt {w : World} {B g n cap : Nat} {l : List Cn} (h : OwnC w B (.slice (some ⟨g, 0, none⟩) n cap) l) : B ≤ g ∧ g < w.heap.size := h.lt g rfl
theorem ownC_conds {w : World} {B : Nat} {v : Value} {l : List Cn} (h : OwnC w B v l) : ∃ ao cap, v = .slice ao l.length cap ∧ CondsB w.heap.size w ao l ∧ ∀ g off, ao = some ⟨g, off, none⟩ → B ≤ g := by
  have h' := h
  rcases h.2 with ⟨rfl, h0⟩ | ⟨g, cap, cur, rfl, hbg, hg, hnc, hcm, hcs, htake⟩
  · have : l = [] := List.eq_nil_of_length_eq_zero h0
    subst this
    exact ⟨none, 0, rfl, Or.inl rfl, fun g off e => by cases e⟩
  · refine ⟨_, _, rfl, Or.inr ⟨g, 0, rfl, (Array.getElem?_eq_some_iff.1 hg).1, fun j hj c u hu => ?_⟩, fun g2 off e => by injection e with e; injection e with e1; omega⟩
    have hcell := h'.cells (g := g) rfl (j * 7 + c) u (encC_at l j hj c u hu)
    rw [Nat.zero_add]
    generalize j * 7 + c = q at hcell ⊢
    by_cases h0 : q = 0
    · subst h0; simpa [Addr.add] using hcell
    · simpa [Addr.add, h0] using hcell
theorem rowC_cells (a : Cn) (W : World) (ty : TypeId) : ∀ (j : Nat) u, (encC a)[j]? = some u → (W.alloc (.cells (encC a).toArray ty)).cell? ((⟨W.heap.size, 0, none⟩ : Addr).add j) = some u := fun j u h => by
  have : (W.alloc (.cells (encC a).toArray ty)).cell? ⟨W.heap.size, j, none⟩ = some u := by rw [World.cell?_alloc_new]; simpa using h
  by_cases h0 : j = 0
  · subst h0; exact this
  · simpa [Addr.add, h0] using this
/-- An element more. -/
theorem appendC_run (B : Nat) (es : List Cn) (a : Cn) (v : Value) (W : World) (hown : OwnC W B v es) (hB : B ≤ W.heap.size) (hl : es.length < 256) :
    ∃ g' cap' w3, Sem.run Tryz.prog (appendS #[24, 24] 24 #[v, .slice (some ⟨W.heap.size, 0, none⟩) 1 1])
        (W.alloc (.cells #[.string a.a.nm, .int .i64 a.op, .int .i64 a.a.k, .int .i64 a.a.n, .float .f64 a.a.x, .string a.a.s, .bool a.a.y] 37)) = .ok (.slice (some ⟨g', 0, none⟩) (es.length + 1) cap') w3 ∧
      Aside (OwnC w3 B (.slice (some ⟨g', 0, none⟩) (es.length + 1) cap') (es ++ [a]) ∧ Below B W w3) := by
  obtain ⟨i0, z0, hi, hz0, hz1, hz2, hz3⟩ := cond_info
  have hown3 : (W.alloc (.cells (encC a).toArray 37)).ownsRow B 37 7 v es.length (es.flatMap encC) := hown.alloc _
  have hrc := rowC_cells a W 37
  obtain ⟨v', w3, hrun, hown4, hg, _⟩ := run_append_own (P := Tryz.prog) (W.alloc (.cells (encC a).toArray 37)) B 24 24 37 i0 z0 7 72 Tryz.underlying24 hi hz0 hz1 hz2 hz3 (by decide) _ _ _ hown3 ⟨W.heap.size, 0, none⟩ 1 1 (encC a) rfl hrc (encC_one a) (by unfold maxLen; omega) (by omega) (by simp; omega)
  have hown5 : OwnC w3 B v' (es ++ [a]) := by
    show w3.ownsRow B _ 7 v' (es ++ [a]).length ((es ++ [a]).flatMap encC)
    rw [List.length_append, List.flatMap_append]
    simpa using hown4
  have hlen : (es ++ [a]).length = es.length + 1 := by simp
  obtain ⟨g', cap', rfl, _⟩ := ownC_some hown5 (by omega)
  rw [hlen] at hrun hown5
  exact ⟨g', cap', w3, hrun, hown5, ((Below.refl B W).alloc hB _).grown hg (by simp; omega) (fun k e => (hown3.lt k e).1)⟩
attribute [local go_sem ↓] append_pre
/-- The first k conditions. -/
def firstC (C : Nat → Cn) (k : Nat) : List Cn := (List.range k).map C
theorem firstC_len (C : Nat → Cn) (k : Nat) : (firstC C k).length = k := by simp [firstC]
theorem firstC_succ (C : Nat → Cn) (k : Nat) : firstC C (k + 1) = firstC C k ++ [C k] := by simp [firstC, List.range_succ]
/-- What conditions answers. -/
def CondsR (n : Nat) (C : Nat → Cn) (w : World) (e : Ending) (w' : World) : Prop := ∃ ro rcap, e = .returned (.tuple #[.slice ro (min n 7) rcap, .bool true]) ∧ Aside (CondsB w'.heap.size w' ro (firstC C (min n 7)) ∧ Below w.heap.size w w' ∧ ∀ b off, ro = some ⟨b, off, none⟩ → w.heap.size ≤ b)
set_option maxHeartbeats 4000000 in
theorem conditions_c (n : Nat) (S P : Nat → ByteArray) (C : Nat → Cn) (hn : 0 < n) (hne : ((S 0).toList == []) = false) (hsz : ∀ j, j < n → (S j).size ≤ 100000) (hcut : ∀ j, j < n → cutP (S j) = (P j, S (j + 1), decide (j + 1 < n))) (w : World)
    (hcond : ∀ j, j < n → ∀ W, Below w.heap.size w W → Calls Tryz.prog 19 #[.string (P j)] W fun e w' => e = .returned (.tuple #[cndC (C j), .bool true]) ∧ Below W.heap.size W w') :
    Calls Tryz.prog 12 #[.string (S 0)] w (CondsR n C w) := by
  have HCU : Aside (∀ j, j < n → ∀ W, Calls Tryz.prog 18 #[.string (S j)] W fun e w' => e = .returned (.tuple #[.string (P j), .string (S (j + 1)), .bool (decide (j + 1 < n))]) ∧ Below W.heap.size W w') := fun j hj W => by
    have := cut_c (S j) (hsz j hj) W
    rw [hcut j hj] at this
    exact this
  have HCO := Lib.hid hcond
  have hne' : ¬ (S 0).toList = [] := by rwa [beq_eq_false_iff_ne] at hne
  clear hsz hcut hcond
  go_enter Tryz.func12, Tryz.ntmps12
  go_wp2_with fail
  clear hne hne'
  go_loopg [0, 4, 5] n (fun kx s0 s4 s5 wr => ∃ (j q cap : Nat) (ro : Option Addr), s0 = .string (S j) ∧ s4 = .slice ro q cap ∧ s5 = .bool (decide (j < n)) ∧ j ≤ n ∧ n - j ≤ kx ∧ q = min j 7 ∧ Aside (OwnC wr w.heap.size (.slice ro q cap) (firstC C q)) ∧ Aside (Below w.heap.size w wr))
  case atStart => exact ⟨0, 0, 0, none, rfl, rfl, by rw [decide_eq_true hn], Nat.zero_le _, by omega, by omega, World.ownsRow_nil _ _ _ _, Below.refl _ _⟩
  case round =>
    obtain ⟨j, q, cap, ro, rfl, rfl, rfl, hj, hjx, hq, HO, HA⟩ := hrel
    have zr : w.heap.size ≤ wr.heap.size := HA.out.size
    by_cases hlt : j < n
    · rw [decide_eq_true hlt]
      have HCj := Lib.hid (HCU.out j hlt)
      have HDj := Lib.hid (HCO.out j hlt)
      obtain ⟨more, hmore⟩ : ∃ more, more = decide (j + 1 < n) := ⟨_, rfl⟩
      have HM := Lib.hid hmore
      rw [← hmore] at HCj
      clear hmore HCU HCO
      have HQ := Lib.hid hq
      clear hq
      have HFC : Aside (firstC C (q + 1) = firstC C q ++ [C q]) := firstC_succ C q
      have HFL : Aside ((firstC C q).length = q) := firstC_len C q
      have HCQ : Aside (q ≤ 6 → q = j) := fun h => by have := HQ.out; omega
      have HSJ : Aside (S (j + 1) = S (j + 1)) := rfl
      obtain ⟨S1, hS1⟩ : ∃ S1, S1 = S (j + 1) := ⟨_, rfl⟩
      have HS1 := Lib.hid hS1
      rw [← hS1] at HCj
      clear hS1 HSJ
      have hq7 : (q : Int) ≤ 7 := by have := HQ.out; omega
      have hq0 : (0 : Int) ≤ (q : Int) := by omega
      go_wp2_with fail
      refine (HCj.out _).mono ?_
      rintro e w1 ⟨rfl, hb1⟩
      have HA1 : Aside (Below w.heap.size w w1) := HA.out.trans (hb1.mono zr)
      have HO1 : Aside (OwnC w1 w.heap.size (.slice ro q cap) (firstC C q)) := ownC_below HO.out hb1
      have z1 : w.heap.size ≤ w1.heap.size := HA1.out.size
      clear hb1 HCj HO HA zr
      go_wp2_with fail
      refine (HDj.out _ HA1.out).mono ?_
      rintro e w2 ⟨rfl, hb2⟩
      have HA2 : Aside (Below w.heap.size w w2) := HA1.out.trans (hb2.mono z1)
      have HO2 : Aside (OwnC w2 w.heap.size (.slice ro q cap) (firstC C q)) := ownC_below HO1.out hb2
      have z2 : w.heap.size ≤ w2.heap.size := HA2.out.size
      clear hb2 HDj HO1 HA1 z1
      obtain ⟨c, hc⟩ : ∃ c, c = C j := ⟨_, rfl⟩
      have HCc := Lib.hid hc
      rw [← hc]
      clear hc
      obtain ⟨⟨nm, k, n', x, s, y⟩, op⟩ := c
      unfold cndC
      simp only
      have HA3 : Aside (Below w.heap.size w (w2.alloc (.cells (cnds nm op k n' x s y) 37))) := HA2.out.alloc z2 _
      have HO3 : Aside (OwnC (w2.alloc (.cells (cnds nm op k n' x s y) 37)) w.heap.size (.slice ro q cap) (firstC C q)) := HO2.out.alloc _
      have z3 : w.heap.size ≤ (w2.alloc (.cells (cnds nm op k n' x s y) 37)).heap.size := HA3.out.size
      by_cases hq6 : q ≤ 6
      · have hq6z : (q : Int) ≤ 6 := by omega
        obtain ⟨g', cap', w4, hrun, HR⟩ := appendC_run w.heap.size (firstC C q) ⟨⟨nm, k, n', x, s, y⟩, op⟩ (.slice ro q cap) (w2.alloc (.cells (cnds nm op k n' x s y) 37)) HO3.out z3 (by rw [HFL.out]; omega)
        rw [HFL.out] at hrun HR
        have HX : Aside (OwnC w4 w.heap.size (.slice (some ⟨g', 0, none⟩) (q + 1) cap') (firstC C (q + 1)) ∧ Below w.heap.size w w4) := by
          refine ⟨?_, HA3.out.trans HR.out.2⟩
          rw [HFC.out, HCQ.out hq6]
          have := HR.out.1
          rw [HCc.out, HCQ.out hq6] at this
          exact this
        have HQN : Aside (q + 1 = min (j + 1) 7) := by have := HCQ.out hq6; show _ = _; omega
        simp only [World.size_alloc] at hrun
        clear HR HO2 HO3 HA2 HA3 z2 z3 hq6
        go_wp2_with fail
        go_roundg (n - (j + 1))
        case measure => omega
        case rel => exact ⟨j + 1, q + 1, cap', some ⟨g', 0, none⟩, by rw [HS1.out], by go_num, by rw [HM.out], hlt, Nat.le_refl _, HQN.out, HX.out.1, HX.out.2⟩
      · have hq6z : ¬ (q : Int) ≤ 6 := by omega
        have HQN : Aside (q = min (j + 1) 7) := by have := HQ.out; show _ = _; omega
        clear HO2 HA2 z2 z3 hq6
        go_wp2_with fail
        go_roundg (n - (j + 1))
        case measure => omega
        case rel => exact ⟨j + 1, q, cap, ro, by rw [HS1.out], rfl, by rw [HM.out], hlt, Nat.le_refl _, HQN.out, HO3.out, HA3.out⟩
    · obtain rfl : j = n := by omega
      rw [decide_eq_false hlt]
      subst hq
      obtain ⟨ro2, cap2, hv, hcs, hge⟩ := ownC_conds HO.out
      rw [firstC_len] at hv
      injection hv with e1 e2 e3
      subst e1 e3
      have HCS := Lib.hid hcs
      have HGE := Lib.hid hge
      clear hcs hge HO
      go_wp2_with fail
      go_ret2
      exact ⟨_, _, rfl, HCS.out, HA.out, HGE.out⟩
end Go.Proofs.YtljmlfeedleodaaGreatDoor
