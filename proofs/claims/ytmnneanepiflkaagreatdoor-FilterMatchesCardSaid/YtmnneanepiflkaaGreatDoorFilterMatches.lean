/- FilterMatches: an event does for a filter, if it is in its scope, or below, and each condition matches. -/
import Derived.Test.YtmnneanepiflkaaGreatDoorGaJ
import Derived.Deep.RegionWith
import Derived.Deep.RegionHeld3
namespace Go.Proofs.YtmnneanepiflkaaGreatDoor
open Go.RowKit Go.Shelf
open Go.Proofs
set_option maxRecDepth 100000

theorem rightF_turn (fs : ByteArray) (cs : List Cn) : rightF fs cs = ((scopeOk fs && decide (cs.length ≤ 6)) && cs.all crightB) := by
  unfold rightF
  cases scopeOk fs <;> cases decide (cs.length ≤ 6) <;> simp
set_option maxHeartbeats 8000000 in
theorem filterMatches_c (sc : ByteArray) (co : Option Addr) (ccap : Nat) (cs : List Cn) (s : ByteArray) (ao : Option Addr) (cap : Nat) (l : List At) (w : World) (hm : MaxI w) (hw : Wds w) (hF : FilIs MB w sc co cs) (hl : SliceA w ao l) (hal : ∀ a ∈ l, AtW MB a) (hln : l.length * 64 ≤ MB) :
    Calls Tryz.prog 4 #[fil sc co cs.length ccap, .string s, .slice ao l.length cap] w fun e w' => e = .returned (.bool true) ∧ Below w.heap.size w w' := by
  have hlc : cs.length ≤ 4611686018427387904 := by have := hF.2.2.1; unfold MB at this; omega
  have hll : l.length ≤ 4611686018427387904 := by unfold MB at hln; omega
  have HFT : Aside (∀ W, Below w.heap.size w W → Calls Tryz.prog 20 #[] W fun e w' => e = .returned (.bool true) ∧ Below W.heap.size W w') := fun W hW => fit7_c W (hw.on hW) (hm.below hW)
  have HLT : Aside (∀ W, Below w.heap.size w W → Calls Tryz.prog 21 #[fil sc co cs.length ccap] W fun e w' => e = .returned (.bool (lightF sc cs)) ∧ Below W.heap.size W w') := fun W hW => flight_c sc co ccap cs W (hF.1.on hW) hlc
  have HFW : Aside (∀ W, Below w.heap.size w W → Calls Tryz.prog 22 #[.slice ao l.length cap] W fun e w' => e = .returned (.bool (fewA l)) ∧ Below W.heap.size W w') := fun W hW => few_c ao cap l W (hl.under hW) hll
  have HSR : Aside (lightF sc cs = true → ∀ W, Below w.heap.size w W → Calls Tryz.prog 23 #[.string sc] W fun e w' => e = .returned (.bool (scopeOk sc)) ∧ Below W.heap.size W w') := fun h W hW => scright_c sc W (Nat.le_trans (light_all (by decide) h hF).1 (by decide)) (hm.below hW)
  have HFR : Aside (lightF sc cs = true → ∀ W, Below w.heap.size w W → Calls Tryz.prog 24 #[fil sc co cs.length ccap] W fun e w' => e = .returned (.bool (rightF sc cs)) ∧ Below W.heap.size W w') := fun h W hW => fright_c sc co ccap cs W (hF.1.on hW) hlc (Nat.le_trans (light_all (by decide) h hF).1 (by decide)) (hm.below hW)
  have HEV : Aside (fewA l = true → s.size ≤ 100 → ∀ W, Below w.heap.size w W → Calls Tryz.prog 25 #[.string s, .slice ao l.length cap] W fun e w' => ∃ bo bcap es, e = .returned (.agg #[.string (scopeE s), .slice bo es.length bcap]) ∧ Aside (EvtIs W w' bo l es)) := fun h h2 W hW =>
    event_c s ao cap l W (Nat.le_trans (few_all (by decide) h hal) (by decide)) (hl.under hW) (by omega) (hm.below hW)
  have HMT : Aside (rightF sc cs = true → ∀ (bo : Option Addr) (bcap : Nat) (es : List At) (W0 W1 W : World), EvtIs W0 W1 bo l es → Below w.heap.size w W → Below W1.heap.size W1 W → Calls Tryz.prog 26 #[fil sc co cs.length ccap, evt (scopeE s) bo es.length bcap] W fun e w' => e = .returned (.bool (matchF sc cs (scopeE s) es)) ∧ Below W.heap.size W w') := fun h bo bcap es W0 W1 W hE hW hW1 =>
    fmatch_c sc co ccap cs (scopeE s) bo bcap es W (hF.1.on hW) (fun c hc => (hF.2.1 c hc).1) hlc (SliceA.under (by obtain ⟨_, _, _, h3, _⟩ := hE; exact h3) hW1) (fun a ha => (evt_ok hE hal a ha).1) (by have := evt_len hE; omega) (Nat.le_trans (rightF_size h) (by decide))
  have HRM : Aside (∀ (bo : Option Addr) (bcap : Nat) (es : List At) (W0 W1 W : World), EvtIs W0 W1 bo l es → Below w.heap.size w W → Below W1.heap.size W1 W → Calls Tryz.prog 27 #[fil sc co cs.length ccap, evt (scopeE s) bo es.length bcap] W fun e w' => e = .returned (.bool (matchF sc cs (scopeE s) es)) ∧ Below W.heap.size W w') := fun bo bcap es W0 W1 W hE hW hW1 =>
    rmatch_c sc co ccap cs (scopeE s) bo bcap es W (hF.1.on hW) (fun c hc => ⟨(hF.2.1 c hc).1, Nat.le_trans (hF.2.1 c hc).2.2.2 (by decide)⟩) hlc (SliceA.under (by obtain ⟨_, _, _, h3, _⟩ := hE; exact h3) hW1) (fun a ha => ⟨(evt_ok hE hal a ha).1, Nat.le_trans (evt_ok hE hal a ha).2 (by decide)⟩) (by have := evt_len hE; omega)
  have HCR : Aside (∀ (c : Cn) W, Calls Tryz.prog 14 #[cndC c] W fun e w' => e = .returned (.bool (crightB c)) ∧ Below W.heap.size W w') := fun c W => cright_c c.a.nm c.op c.a.k c.a.n c.a.x c.a.s c.a.y W
  have HSL : Aside (∀ W, Below w.heap.size w W → cs = [] ∨ ∃ b off, co = some ⟨b, off, none⟩ ∧ b < w.heap.size ∧ RowC W b off cs) := fun W hW => by
    rcases hF.1 with h | ⟨b, off, h1, h2, h3⟩
    · exact Or.inl h
    · exact Or.inr ⟨b, off, h1, h2, RowC.below hW h2 h3⟩
  have HRT := Lib.hid (rightF_turn sc cs)
  have HEB : Aside (∀ (W0 W1 : World) (bo : Option Addr) (es : List At), EvtIs W0 W1 bo l es → Below W0.heap.size W0 W1) := fun W0 W1 bo es h => by obtain ⟨_, _, _, _, h4⟩ := h; exact h4
  generalize rightF sc cs = rt at *
  generalize lightF sc cs = lt at *
  generalize fewA l = fw at *
  generalize scopeOk sc = so at *
  generalize crightB = m1 at *
  generalize scopeE s = sE at *
  obtain ⟨mt, hmt⟩ : ∃ mt : List At → Bool, ∀ es, mt es = matchF sc cs sE es := ⟨_, fun _ => rfl⟩
  simp only [← hmt] at HMT HRM
  obtain ⟨len, hL⟩ : ∃ len, len = cs.length := ⟨_, rfl⟩
  have HLen : Aside (len = cs.length) := hL
  rw [← hL] at HLT HFR HMT HRM HRT hlc ⊢
  obtain ⟨n, hN⟩ : ∃ n, n = l.length := ⟨_, rfl⟩
  rw [← hN] at HFW HEV ⊢
  have z1 : w.heap.size + 1 ≤ (w.alloc (.cells #[.string sc, .slice co len ccap] 42)).heap.size := by simp
  have HB0 : Aside (Below w.heap.size w (w.alloc (.cells #[.string sc, .slice co len ccap] 42))) := (Below.refl _ _).alloc (Nat.le_refl _) _
  have HKP : Aside (∀ W, Below (w.heap.size + 1) (w.alloc (.cells #[.string sc, .slice co len ccap] 42)) W → W.cell? ⟨w.heap.size, 0, none⟩ = some (.string sc) ∧ W.cell? ⟨w.heap.size, 1, none⟩ = some (.slice co len ccap)) := fil_cells
  clear hm hw hF hl hal hln hll hmt hL hN
  go_enter Tryz.func4, Tryz.ntmps4
  go_wp2_with fail
  generalize hW0 : w.alloc (.cells #[.string sc, .slice co len ccap] 42) = w0 at *
  refine (HFT.out _ HB0.out).mono ?_
  rintro e w1 ⟨rfl, hb⟩
  have HA1 : Aside (Below (w.heap.size + 1) w0 w1) := hb.mono z1
  clear hb
  obtain ⟨a0, a1⟩ := HKP.out _ HA1.out
  go_wp2_with fail
  refine (HLT.out _ (HB0.out.trans (HA1.out.mono (by omega)))).mono ?_
  rintro e w2 ⟨rfl, hb⟩
  have HA2 : Aside (Below (w.heap.size + 1) w0 w2) := HA1.out.trans (hb.mono (Nat.le_trans z1 HA1.out.size))
  clear hb a0 a1 HA1 HLT HFT
  cases lt
  · go_wp2_with fail
    go_ret
    exact ⟨rfl, HB0.out.trans (HA2.out.mono (by omega))⟩
  go_wp2_with fail
  refine (HFW.out _ (HB0.out.trans (HA2.out.mono (by omega)))).mono ?_
  rintro e w3 ⟨rfl, hb⟩
  have HA3 : Aside (Below (w.heap.size + 1) w0 w3) := HA2.out.trans (hb.mono (Nat.le_trans z1 HA2.out.size))
  clear hb HA2 HFW
  cases fw
  · go_wp2_with fail
    go_ret
    exact ⟨rfl, HB0.out.trans (HA3.out.mono (by omega))⟩
  by_cases h100 : s.size ≤ 100
  rotate_left
  · have h100z : (100 : Int) < (s.size : Int) := by omega
    go_wp2_with fail
    go_ret
    exact ⟨rfl, HB0.out.trans (HA3.out.mono (by omega))⟩
  have h100z : ¬ (100 : Int) < (s.size : Int) := by omega
  have HEV' := Lib.hid (HEV.out (by first | trivial | rfl) h100)
  have HSR' := Lib.hid (HSR.out (by first | trivial | rfl))
  have HFR' := Lib.hid (HFR.out (by first | trivial | rfl))
  clear HEV HSR HFR h100
  obtain ⟨a0, a1⟩ := HKP.out _ HA3.out
  obtain ⟨r0, hr0⟩ : ∃ r0, r0 = (so && decide (len ≤ 6)) := ⟨_, rfl⟩
  have HR0 : Aside (r0 = (so && decide (len ≤ 6))) := hr0
  have HRT' : Aside (rt = (r0 && cs.all m1)) := by
    show rt = _
    rw [HRT.out, hr0]
  clear hr0 HRT
  go_upto_region 5 with fail
  clear h100z
  go_cut [7] (fun s7 wx => s7 = .bool r0 ∧ Aside (Below (w.heap.size + 1) w0 wx))
  case first =>
    go_wp2_with fail
    refine (HSR'.out _ (HB0.out.trans (HA3.out.mono (by omega)))).mono ?_
    rintro e w4 ⟨rfl, hb⟩
    have HA4 : Aside (Below (w.heap.size + 1) w0 w4) := HA3.out.trans (hb.mono (Nat.le_trans z1 HA3.out.size))
    clear hb a0 a1
    obtain ⟨a0, a1⟩ := HKP.out _ HA4.out
    cases so
    · have e0 : r0 = false := by rw [HR0.out]; rfl
      subst e0
      go_wp2_with fail
      go_meet
      exact ⟨rfl, HA4.out⟩
    · have e0 : r0 = decide ((len : Int) ≤ 6) := by
        rw [HR0.out, Bool.true_and]
        by_cases h6 : len ≤ 6
        · rw [decide_eq_true h6, decide_eq_true (by omega)]
        · rw [decide_eq_false h6, decide_eq_false (by omega)]
      subst e0
      go_wp2_with fail
      go_meet
      exact ⟨rfl, HA4.out⟩
  case rest =>
    obtain ⟨rfl, HA4⟩ := hcut
    clear HR0 a0 a1 HSR'
    obtain ⟨a0, a1⟩ := HKP.out _ HA4.out
    go_wp2_with fail
    clear a0 a1
    go_loopg [7, 38] len (fun kx s7 s38 wr => ∃ j : Nat, s38 = .int .i64 j ∧ j ≤ len ∧ len - j ≤ kx ∧ s7 = .bool (r0 && (cs.take j).all m1) ∧ Aside (Below (w.heap.size + 1) w0 wr))
    case atStart => exact ⟨0, rfl, Nat.zero_le _, by omega, by simp, HA4.out⟩
    case round =>
      clear HA4
      obtain ⟨j, rfl, hj, hjx, rfl, HA⟩ := hrel
      have hBw : Below w.heap.size w wr := HB0.out.trans (HA.out.mono (by omega))
      have zr : w.heap.size + 1 ≤ wr.heap.size := Nat.le_trans z1 HA.out.size
      by_cases hlt : j < len
      · have hjl : j < cs.length := by rw [← HLen.out]; exact hlt
        rcases HSL.out _ hBw with h0 | ⟨b, off, hao, hbs, hrow⟩
        · rw [h0] at hjl; simp at hjl
        subst hao
        have hrow1 := hrow j hjl
        have HCRj := Lib.hid (HCR.out cs[j]!)
        have HST : Aside ((cs.take (j + 1)).all m1 = ((cs.take j).all m1 && m1 cs[j]!)) := by
          show _ = _
          rw [takeC cs j hjl, List.all_append]; simp
        generalize m1 cs[j]! = q at HST HCRj
        generalize cs[j]! = c at HCRj hrow1
        obtain ⟨acc, hacc⟩ : ∃ acc, acc = (r0 && (cs.take j).all m1) := ⟨_, rfl⟩
        have HST' : Aside ((r0 && (cs.take (j + 1)).all m1) = (acc && q)) := by
          show _ = _
          rw [HST.out, hacc, Bool.and_assoc]
        rw [← hacc]
        clear hacc HST
        obtain ⟨⟨nm, k, n', x, s', y⟩, op⟩ := c
        have c0 := hrow1 0 _ rfl; have c1 := hrow1 1 _ rfl; have c2 := hrow1 2 _ rfl; have c3 := hrow1 3 _ rfl; have c4 := hrow1 4 _ rfl; have c5 := hrow1 5 _ rfl; have c6 := hrow1 6 _ rfl
        simp only [Nat.add_zero] at c0
        clear hrow1 hrow HSL hjl HCR hBw
        have hltz : (j : Int) < len := by omega
        have hjz : (0 : Int) ≤ (j : Int) := by omega
        go_upto_region 9 with fail
        have hA9 : Below (w.heap.size + 1) w0 (wr.alloc (.cells (cnds nm op k n' x s' y) 26)) := HA.out.alloc (by omega) _
        have vv := World.cell?_alloc_new wr (cnds nm op k n' x s' y) 26
        have v0 := vv 0; have v1 := vv 1; have v2 := vv 2; have v3 := vv 3; have v4 := vv 4; have v5 := vv 5; have v6 := vv 6
        simp only [List.getElem?_toArray, List.getElem?_cons_zero, List.getElem?_cons_succ] at v0 v1 v2 v3 v4 v5 v6
        have z9 : w.heap.size + 1 ≤ (wr.alloc (.cells (cnds nm op k n' x s' y) 26)).heap.size := by simp; omega
        have HA9 := Lib.hid hA9
        clear hA9 vv c0 c1 c2 c3 c4 c5 c6
        generalize (wr.alloc (.cells (cnds nm op k n' x s' y) 26)) = w9 at *
        generalize wr.heap.size = V at *
        cases acc
        · go_wp2_with fail
          go_roundg (len - (j + 1))
          case measure => omega
          case rel => exact ⟨j + 1, by go_num, hlt, Nat.le_refl _, by rw [HST'.out]; rfl, HA9.out⟩
        · go_wp2_with fail
          clear v0 v1 v2 v3 v4 v5 v6
          refine (HCRj.out _).mono ?_
          rintro e w10 ⟨rfl, hb⟩
          have HA10 := Lib.hid (HA9.out.trans (hb.mono z9)); clear hb
          go_wp2_with fail
          go_roundg (len - (j + 1))
          case measure => omega
          case rel => exact ⟨j + 1, by go_num, hlt, Nat.le_refl _, by rw [HST'.out]; rfl, HA10.out⟩
      · obtain rfl : j = len := by omega
        have hrt : (r0 && (cs.take j).all m1) = rt := by rw [HRT'.out, HLen.out, List.take_length]
        rw [hrt]
        clear hrt HRT' HSL HCR hjx hj hlt hBw
        obtain ⟨a0, a1⟩ := HKP.out _ HA.out
        go_wp2_with fail
        clear a0 a1
        refine (HFR'.out _ (HB0.out.trans (HA.out.mono (by omega)))).mono ?_
        rintro e w5 ⟨rfl, hb⟩
        have HA5 : Aside (Below (w.heap.size + 1) w0 w5) := HA.out.trans (hb.mono zr)
        have z5 : w.heap.size + 1 ≤ w5.heap.size := Nat.le_trans z1 HA5.out.size
        clear hb HA HFR' zr
        have hrr : (rt != rt) = false := by simp
        go_wp2_with fail
        refine (HEV'.out _ (HB0.out.trans (HA5.out.mono (by omega)))).mono ?_
        rintro e w6 ⟨bo, bcap, es, rfl, hE⟩
        have HE := Lib.hid hE.out
        have hb := HEB.out _ _ _ _ hE.out
        have HA6 : Aside (Below (w.heap.size + 1) w0 w6) := HA5.out.trans (hb.mono z5)
        have z6 : w.heap.size + 1 ≤ w6.heap.size := Nat.le_trans z5 hb.size
        have hbw6 : Below w6.heap.size w6 (w6.alloc (.cells #[.string sE, .slice bo es.length bcap] 33)) := (Below.refl _ _).alloc (Nat.le_refl _) _
        have hA7 : Below (w.heap.size + 1) w0 (w6.alloc (.cells #[.string sE, .slice bo es.length bcap] 33)) := HA6.out.trans (hbw6.mono z6)
        have hz7 : w6.heap.size < (w6.alloc (.cells #[.string sE, .slice bo es.length bcap] 33)).heap.size := by simp
        have vv := World.cell?_alloc_new w6 #[.string sE, .slice bo es.length bcap] 33
        have v0 := vv 0; have v1 := vv 1
        simp only [List.getElem?_toArray, List.getElem?_cons_zero, List.getElem?_cons_succ] at v0 v1
        have HA7 := Lib.hid hA7
        have HW6 := Lib.hid hbw6
        clear hE hb HEV' vv hA7 hbw6
        go_upto_region 14 with fail
        clear hrr
        generalize (w6.alloc (.cells #[.string sE, .slice bo es.length bcap] 33)) = w7 at *
        generalize hV : w6.heap.size = V at *
        have HK : Aside (∀ W, Below w7.heap.size w7 W → W.cell? ⟨w.heap.size, 0, none⟩ = some (.string sc) ∧ W.cell? ⟨w.heap.size, 1, none⟩ = some (.slice co j ccap) ∧ W.cell? ⟨V, 0, none⟩ = some (.string sE) ∧ W.cell? ⟨V, 1, none⟩ = some (.slice bo es.length bcap)) := fun W hW => by
          obtain ⟨g0, g1⟩ := HKP.out W (HA7.out.trans (hW.mono (by omega)))
          exact ⟨g0, g1, (hW.cell (p := ⟨V, 0, none⟩) hz7).trans v0, (hW.cell (p := ⟨V, 1, none⟩) hz7).trans v1⟩
        have HD : Aside (Below w7.heap.size w7 w7.drew) := below_drew1 w7
        have HQ : Aside (∀ W, Below w7.heap.size w7 W → Below w.heap.size w W ∧ Below w6.heap.size w6 W) := fun W hW => ⟨HB0.out.trans ((HA7.out.trans (hW.mono (by omega))).mono (by omega)), by rw [hV]; exact HW6.out.trans (hW.mono (by omega))⟩
        cases rt
        · obtain ⟨g0, g1, g2, g3⟩ := HK.out _ (Below.refl _ _)
          clear v0 v1
          first
          | go_region
          | fail "region"
          all_goals
            go_wp2_with fail
            go_ret
            exact ⟨rfl, (HQ.out _ HD.out).1⟩
        · have HMT' : Aside (∀ W, Below w7.heap.size w7 W → Calls Tryz.prog 26 #[fil sc co j ccap, evt sE bo es.length bcap] W fun e w' => e = .returned (.bool (mt es)) ∧ Below W.heap.size W w') := fun W hW => HMT.out (by first | trivial | rfl) bo bcap es _ _ W HE.out (HQ.out W hW).1 (HQ.out W hW).2
          have HRM' : Aside (∀ W, Below w7.heap.size w7 W → Calls Tryz.prog 27 #[fil sc co j ccap, evt sE bo es.length bcap] W fun e w' => e = .returned (.bool (mt es)) ∧ Below W.heap.size W w') := fun W hW => HRM.out bo bcap es _ _ W HE.out (HQ.out W hW).1 (HQ.out W hW).2
          have HTR : Aside (∀ W W', Below w7.heap.size w7 W → Below W.heap.size W W' → Below w7.heap.size w7 W') := fun W W' h h2 => h.trans (h2.mono h.size)
          clear HMT HRM v0 v1
          generalize mt es = q at *
          generalize es.length = en at *
          first
          | go_region_held (fun W => Below w7.heap.size w7 W ∧ W.cell? ⟨w.heap.size, 0, none⟩ = some (.string sc) ∧ W.cell? ⟨w.heap.size, 1, none⟩ = some (.slice co j ccap) ∧ W.cell? ⟨V, 0, none⟩ = some (.string sE) ∧ W.cell? ⟨V, 1, none⟩ = some (.slice bo en bcap))
              (first | exact ⟨HX2.out, HK.out _ HX2.out⟩ | exact ⟨HX1.out, HK.out _ HX1.out⟩ | exact ⟨HD.out, HK.out _ HD.out⟩)
              (first
                | (go_at_call 26; (first | refine (HMT'.out _ HX1.out).mono ?_; rintro e wn ⟨rfl, hb⟩; have HX2 : Aside (Below w7.heap.size w7 wn) := HTR.out _ _ HX1.out hb; clear hb | refine (HMT'.out _ HD.out).mono ?_; rintro e wn ⟨rfl, hb⟩; have HX1 : Aside (Below w7.heap.size w7 wn) := HTR.out _ _ HD.out hb; clear hb))
                | (go_at_call 27; (first | refine (HRM'.out _ HX1.out).mono ?_; rintro e wn ⟨rfl, hb⟩; have HX2 : Aside (Below w7.heap.size w7 wn) := HTR.out _ _ HX1.out hb; clear hb | refine (HRM'.out _ HD.out).mono ?_; rintro e wn ⟨rfl, hb⟩; have HX1 : Aside (Below w7.heap.size w7 wn) := HTR.out _ _ HD.out hb; clear hb)))
          | fail "region"
          all_goals
            have hqq : (q == q) = true := by simp
            go_wp2_with fail
            go_ret
            exact ⟨by first | rfl | (rw [hqq]) | (rw [hqq]; rfl), (HQ.out _ HX2.out).1⟩
end Go.Proofs.YtmnneanepiflkaaGreatDoor
