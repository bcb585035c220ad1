/- AclObserves: who is there may subscribe to what one of its rules covers, and nothing else. -/
import Derived.Test.YtliobglhppejiaaDoorAcW
namespace Go.Proofs.YtliobglhppejiaaDoor
open Go.RowKit Go.Shelf
open Go.Proofs
set_option maxRecDepth 100000
attribute [local irreducible] wpQuiet

set_option maxHeartbeats 16000000 in
theorem aclObserves_c (ao : Option Addr) (cap : Nat) (rs : List Ru) (a b : Int) (sc : ByteArray) (co : Option Addr) (ccap : Nat) (cs : List Cn) (w : World) (hm : MaxI w) (hR : RulesB w.heap.size w ao rs) (hI : ∀ q ∈ rs, RuIs MB w q) (hb : rs.length * 104 ≤ MB) (hF : FilIs MB w sc co cs) :
    Calls Tryd.prog 5 #[.slice ao rs.length cap, .agg #[.int .i64 a, .int .i64 b], fil sc co cs.length ccap] w fun e w' => e = .returned (.bool true) ∧ Below w.heap.size w w' := by
  have hlc : cs.length ≤ 4611686018427387904 := by have := hF.2.2.1; unfold MB at this; omega
  have hlr : rs.length ≤ 4611686018427387904 := by unfold MB at hb; omega
  have HFT : Aside (∀ W, Below w.heap.size w W → Calls Tryd.prog 7 #[] W fun e w' => e = .returned (.bool true) ∧ Below W.heap.size W w') := fun W hW => fit10_c W (hm.below hW)
  have HLT : Aside (∀ W, Below w.heap.size w W → Calls Tryd.prog 8 #[.slice ao rs.length cap] W fun e w' => e = .returned (.bool (lightR rs)) ∧ Below W.heap.size W w') := fun W hW => light10_c ao cap rs W (hR.on hW) hlr (fun r hr => (ruIs_ok2 (hI r hr)).2)
  have HLF : Aside (∀ W, Below w.heap.size w W → Calls Tryd.prog 19 #[fil sc co cs.length ccap] W fun e w' => e = .returned (.bool (lightF sc cs)) ∧ Below W.heap.size W w') := fun W hW => flight_c sc co ccap cs W (hF.1.on hW) hlc
  have HFR : Aside (lightF sc cs = true → ∀ W, Below w.heap.size w W → Calls Tryd.prog 10 #[fil sc co cs.length ccap] W fun e w' => e = .returned (.bool (rightF sc cs)) ∧ Below W.heap.size W w') := fun h W hW => fright_c sc co ccap cs W (hF.1.on hW) hlc (Nat.le_trans (light_all (by decide) h hF).1 (by decide)) (hm.below hW)
  have HRS : Aside (lightR rs = true → ∀ W, Below w.heap.size w W → Calls Tryd.prog 13 #[.slice ao rs.length cap] W fun e w' => ∃ bo bcap, e = .returned (.slice bo (rs.filter rrightB).length bcap) ∧ Aside (RowsN W.heap.size w' bo (rs.filter rrightB) ∧ Below W.heap.size W w')) := fun h W hW => by
    obtain ⟨h1, h2⟩ := lightR_all h hI
    exact rights_c ao cap rs W (hR.on hW) (by omega) (fun r hr => ⟨(ruIs_ok2 (hI r hr)).2, Nat.le_trans (h2 r hr).1 (by decide)⟩) (hm.below hW)
  obtain ⟨L, hL⟩ : ∃ L, L = rs.filter rrightB := ⟨_, rfl⟩
  have hLm : ∀ r ∈ L, r ∈ rs ∧ rrightB r = true := fun r hr => by rw [hL] at hr; exact List.mem_filter.1 hr
  have hLn : lightR rs = true → L.length ≤ 80 := fun h => by
    rw [hL]; exact Nat.le_trans (List.length_filter_le _ _) (lightR_all h hI).1
  have HLN := Lib.hid hLn
  have HRL : Aside (∀ (bo : Option Addr) (W1 W : World), RowsN 0 W1 bo L → Below w.heap.size w W1 → Below W1.heap.size W1 W → RulesB W.heap.size W bo L) := fun bo W1 W h h1 h2 =>
    (h.on h2).rules fun r hr => (hR.2 r (hLm r hr).1).on (h1.trans (h2.mono h1.size))
  have HMO : Aside (lightR rs = true → ∀ (bo : Option Addr) (bcap : Nat) (W : World) (tn : Int) (who : ByteArray), Below w.heap.size w W → RulesB W.heap.size W bo L → Calls Tryd.prog 20 #[.slice bo L.length bcap, .int .i64 tn, .string who, fil sc co cs.length ccap] W fun e w' => e = .returned (.bool (mayObs L tn who sc cs)) ∧ Below W.heap.size W w') := fun h bo bcap W tn who hW hRW =>
    mayObserve_c bo bcap L tn who sc co ccap cs W hRW (by have := hLn h; omega) (fun r hr hk => ruIs_ok (hI r (hLm r hr).1) (hLm r hr).2 (Or.inr hk)) (hF.1.on hW) (fun c hc => (hF.2.1 c hc).1) hlc
  have HRO : Aside (lightR rs = true → rightF sc cs = true → ∀ (bo : Option Addr) (bcap : Nat) (W : World) (tn : Int) (who : ByteArray), Below w.heap.size w W → RulesB W.heap.size W bo L → Calls Tryd.prog 21 #[.slice bo L.length bcap, .int .i64 tn, .string who, fil sc co cs.length ccap] W fun e w' => e = .returned (.bool (mayObs L tn who sc cs)) ∧ Below W.heap.size W w') := fun h hrf bo bcap W tn who hW hRW => by
    have h2 := rMayObserve_c bo bcap L tn who sc co ccap cs W hRW (by have := hLn h; omega) (fun r hr => ruIs_ok2 (hI r (hLm r hr).1)) (hF.1.on hW) (fun c hc => ⟨(hF.2.1 c hc).1, Nat.le_trans (hF.2.1 c hc).2.2.2 (by decide)⟩) hlc (rightF_ops hrf)
    rw [mayObs_ref (fun r hr => (hLm r hr).2)] at h2
    exact h2
  have HRC : Aside (rightF sc cs = true → ∀ r ∈ L, ∀ W, Below w.heap.size w W → Calls Tryd.prog 22 #[fil r.sc r.co r.cs.length r.cap, fil sc co cs.length ccap] W fun e w' => e = .returned (.bool (coversF r.sc r.cs sc cs)) ∧ Below W.heap.size W w') := fun hrf r hr W hW =>
    rcovers_c r.sc r.co r.cap r.cs sc co ccap cs W ((hR.2 r (hLm r hr).1).on hW) (ruIs_ok2 (hI r (hLm r hr).1)).1 (ruIs_ok2 (hI r (hLm r hr).1)).2 (hF.1.on hW) (fun c hc => ⟨(hF.2.1 c hc).1, Nat.le_trans (hF.2.1 c hc).2.2.2 (by decide)⟩) hlc (rightF_ops hrf)
  rw [← hL] at HRS
  have HMA : Aside (∀ tn who, mayObs L tn who sc cs = true → (L.any fun r => ofR r 2 tn who && coversF r.sc r.cs sc cs) = true) := fun tn who h => by
    unfold mayObs mayR at h
    rw [Bool.and_eq_true] at h
    exact h.2
  obtain ⟨mm, hmm⟩ : ∃ mm : Int → ByteArray → Bool, ∀ tn who, mm tn who = mayObs L tn who sc cs := ⟨_, fun _ _ => rfl⟩
  obtain ⟨cv, hcv⟩ : ∃ cv : Ru → Bool, ∀ r, cv r = coversF r.sc r.cs sc cs := ⟨_, fun _ => rfl⟩
  simp only [← hmm, ← hcv] at HMO HRO HRC HMA
  generalize lightR rs = lt at *
  generalize lightF sc cs = lf at *
  generalize rightF sc cs = rf at *
  obtain ⟨N, hN⟩ : ∃ N, N = L.length := ⟨_, rfl⟩
  have HN : Aside (N = L.length) := hN
  rw [← hN] at HRS HMO HRO HLN
  generalize cs.length = n at *
  generalize rs.length = nr at *
  have z2 : w.heap.size + 2 ≤ ((w.alloc (.cells #[.int .i64 a, .int .i64 b] 33)).alloc (.cells #[.string sc, .slice co n ccap] 24)).heap.size := by simp
  have HB0 : Aside (Below w.heap.size w ((w.alloc (.cells #[.int .i64 a, .int .i64 b] 33)).alloc (.cells #[.string sc, .slice co n ccap] 24))) := ((Below.refl _ _).alloc (Nat.le_refl _) _).alloc (by simp) _
  have HKP : Aside (∀ W, Below (w.heap.size + 2) ((w.alloc (.cells #[.int .i64 a, .int .i64 b] 33)).alloc (.cells #[.string sc, .slice co n ccap] 24)) W → (W.cell? ⟨w.heap.size, 0, none⟩ = some (.int .i64 a) ∧ W.cell? ⟨w.heap.size, 1, none⟩ = some (.int .i64 b)) ∧ W.cell? ⟨w.heap.size + 1, 0, none⟩ = some (.string sc) ∧ W.cell? ⟨w.heap.size + 1, 1, none⟩ = some (.slice co n ccap)) := fun W hW => by
    obtain ⟨va, vb⟩ := two_lay hW
    exact ⟨⟨va 0 _ rfl, va 1 _ rfl⟩, vb 0 _ rfl, vb 1 _ rfl⟩
  clear hm hR hI hb hF hlc hlr hLm hLn hL hmm hcv hN
  go_enter Tryd.func5, Tryd.ntmps5
  go_wp2_with fail
  generalize hW0 : ((w.alloc (.cells #[.int .i64 a, .int .i64 b] 33)).alloc (.cells #[.string sc, .slice co n ccap] 24)) = w0 at *
  refine (HFT.out _ HB0.out).mono ?_
  rintro e w1 ⟨rfl, hb⟩
  have HA1 : Aside (Below (w.heap.size + 2) w0 w1) := hb.mono z2
  clear hb HFT
  obtain ⟨⟨y0, y1⟩, x0, x1⟩ := HKP.out _ HA1.out
  go_wp2_with fail
  refine (HLT.out _ (HB0.out.trans (HA1.out.mono (by omega)))).mono ?_
  rintro e w2 ⟨rfl, hb⟩
  have HA2 : Aside (Below (w.heap.size + 2) w0 w2) := HA1.out.trans (hb.mono (Nat.le_trans z2 HA1.out.size))
  clear hb HLT HA1 y0 y1 x0 x1
  cases lt
  · go_wp2_with fail
    go_ret
    exact ⟨rfl, HB0.out.trans (HA2.out.mono (by omega))⟩
  obtain ⟨⟨y0, y1⟩, x0, x1⟩ := HKP.out _ HA2.out
  go_wp2_with fail
  refine (HLF.out _ (HB0.out.trans (HA2.out.mono (by omega)))).mono ?_
  rintro e w3 ⟨rfl, hb⟩
  have HA3 : Aside (Below (w.heap.size + 2) w0 w3) := HA2.out.trans (hb.mono (Nat.le_trans z2 HA2.out.size))
  clear hb HLF HA2 y0 y1 x0 x1
  cases lf
  · go_wp2_with fail
    go_ret
    exact ⟨rfl, HB0.out.trans (HA3.out.mono (by omega))⟩
  obtain ⟨⟨y0, y1⟩, x0, x1⟩ := HKP.out _ HA3.out
  have HFR' := Lib.hid (HFR.out (by first | trivial | rfl))
  clear HFR
  go_wp2_with fail
  refine (HFR'.out _ (HB0.out.trans (HA3.out.mono (by omega)))).mono ?_
  rintro e w4 ⟨rfl, hb⟩
  have HA4 : Aside (Below (w.heap.size + 2) w0 w4) := HA3.out.trans (hb.mono (Nat.le_trans z2 HA3.out.size))
  clear hb HFR' HA3 y0 y1 x0 x1
  cases rf
  · go_wp2_with fail
    go_ret
    exact ⟨rfl, HB0.out.trans (HA4.out.mono (by omega))⟩
  have HRS' := Lib.hid (HRS.out (by first | trivial | rfl))
  have HMO' := Lib.hid (HMO.out (by first | trivial | rfl))
  have HRO' := Lib.hid (HRO.out (by first | trivial | rfl) (by first | trivial | rfl))
  have HRC' := Lib.hid (HRC.out (by first | trivial | rfl))
  have HLN' := Lib.hid (HLN.out (by first | trivial | rfl))
  clear HRS HMO HRO HRC HLN
  go_wp2_with fail
  refine (HRS'.out _ (HB0.out.trans (HA4.out.mono (by omega)))).mono ?_
  rintro e w5 ⟨bo, bcap, rfl, HN5⟩
  have HA5 : Aside (Below (w.heap.size + 2) w0 w5) := HA4.out.trans (HN5.out.2.mono (Nat.le_trans z2 HA4.out.size))
  have HR5 : Aside (∀ W, Below (w.heap.size + 2) w0 W → Below w5.heap.size w5 W → RulesB W.heap.size W bo L) := fun W hW h2 => HRL.out bo w5 W (HN5.out.1.down (Nat.zero_le _)) (HB0.out.trans (HA5.out.mono (by omega))) h2
  clear HRS' HA4 HN5 HRL
  obtain ⟨⟨y0, y1⟩, x0, x1⟩ := HKP.out _ HA5.out
  go_upto_region 6 with fail
  go_cut [7, 8] (fun s7 s8 wx => s7 = .int .i64 (bits .and .i64 a 1) ∧ s8 = .string (who4 b) ∧ Aside (Below w5.heap.size w5 wx))
  case first =>
    have HD : Aside (∀ o : Obj, Below w5.heap.size w5 (w5.alloc o) ∧ Below w5.heap.size w5 (w5.drew.alloc o) ∧ Below w5.heap.size w5 (w5.alloc o).drew) := fun o => ⟨(Below.refl _ _).alloc (Nat.le_refl _) _, (below_drew1 w5).alloc (Nat.le_refl _) _, ((Below.refl _ _).alloc (Nat.le_refl _) _).trans ((below_drew1 (w5.alloc o)).mono (show w5.heap.size ≤ (w5.alloc o).heap.size by simp))⟩
    have hW4 : Aside (who4 b = if bits .and .i64 b 3 = 0 then ⟨#[97]⟩ else if bits .and .i64 b 3 = 1 then ⟨#[98]⟩ else if bits .and .i64 b 3 = 2 then ⟨#[99]⟩ else ⟨#[100]⟩) := rfl
    generalize who4 b = wh at *
    have c4 := World.cell?_alloc_new w5 #[.string ⟨#[97]⟩, .string ⟨#[98]⟩, .string ⟨#[99]⟩, .string ⟨#[100]⟩] 9
    have g0 := c4 0; have g1 := c4 1; have g2 := c4 2; have g3 := c4 3
    simp only [List.getElem?_toArray, List.getElem?_cons_zero, List.getElem?_cons_succ] at g0 g1 g2 g3
    have y0a := fun o => Lib.cell?_alloc_some (W := w5) o y0
    have y1a := fun o => Lib.cell?_alloc_some (W := w5) o y1
    clear c4 x0 x1
    rcases and4 b with h4 | h4 | h4 | h4
    all_goals
      rw [h4] at hW4
      have hw4 := hW4.out
      simp only [reduceIte, Int.reduceEq] at hw4
      subst hw4
      clear hW4
      go_region
      all_goals
        go_wp2_with fail
        go_meet
        first | exact ⟨rfl, rfl, (HD.out _).2.2⟩ | exact ⟨rfl, rfl, (HD.out _).1⟩ | exact ⟨rfl, rfl, (HD.out _).2.1⟩
  case rest =>
    obtain ⟨rfl, rfl, HB6⟩ := hcut
    have HA6 : Aside (Below (w.heap.size + 2) w0 wc) := HA5.out.trans (HB6.out.mono (Nat.le_trans z2 HA5.out.size))
    have HR6 : Aside (∀ W, Below wc.heap.size wc W → RulesB W.heap.size W bo L) := fun W hW => HR5.out W (HA6.out.trans (hW.mono (Nat.le_trans z2 HA6.out.size))) (HB6.out.trans (hW.mono HB6.out.size))
    have hB6 : Below w.heap.size w wc := HB0.out.trans (HA6.out.mono (by omega))
    have HBW := Lib.hid hB6
    have HKC : Aside (∀ W, Below wc.heap.size wc W → W.cell? ⟨w.heap.size + 1, 0, none⟩ = some (.string sc) ∧ W.cell? ⟨w.heap.size + 1, 1, none⟩ = some (.slice co n ccap)) := fun W hW => (HKP.out W (HA6.out.trans (hW.mono (Nat.le_trans z2 HA6.out.size)))).2
    generalize bits .and .i64 a 1 = tn at *
    generalize who4 b = who at *
    have HM7 := Lib.hid (fun W hW => HMO'.out bo bcap W tn who (HBW.out.trans (RowKit.Below.mono hW hB6.size)) (HR6.out W hW))
    have HM8 := Lib.hid (fun W hW => HRO'.out bo bcap W tn who (HBW.out.trans (RowKit.Below.mono hW hB6.size)) (HR6.out W hW))
    have HMA' := Lib.hid (HMA.out tn who)
    have HRC6 : Aside (∀ r ∈ L, ∀ W, Below wc.heap.size wc W → Calls Tryd.prog 22 #[fil r.sc r.co r.cs.length r.cap, fil sc co n ccap] W fun e w' => e = .returned (.bool (cv r)) ∧ Below W.heap.size W w') := fun r hr W hW => HRC'.out r hr W (HBW.out.trans (hW.mono HBW.out.size))
    generalize mm tn who = ok at *
    clear HMO' HRO' HRC' HMA HR5 HA5 HA6 HB6 HKP hB6 y0 y1 x0 x1 HB0 hW0
    have HC0 : Aside (Below wc.heap.size wc wc) := Below.refl _ _
    obtain ⟨x0, x1⟩ := HKC.out _ HC0.out
    go_wp2_with fail
    refine (HM7.out _ HC0.out).mono ?_
    rintro e w7 ⟨rfl, hb⟩
    have HC7 : Aside (Below wc.heap.size wc w7) := hb
    clear hb HM7 x0 x1
    obtain ⟨x0, x1⟩ := HKC.out _ HC7.out
    go_wp2_with fail
    refine (HM8.out _ HC7.out).mono ?_
    rintro e w8 ⟨rfl, hb⟩
    have HC8 : Aside (Below wc.heap.size wc w8) := HC7.out.trans (hb.mono HC7.out.size)
    clear hb HM8 x0 x1
    have hoo : (ok != ok) = false := by simp
    cases ok
    · go_wp2_with fail
      go_ret
      exact ⟨rfl, HBW.out.trans (HC8.out.mono HBW.out.size)⟩
    have HANY := Lib.hid (HMA'.out (by first | trivial | rfl))
    clear HMA'
    obtain ⟨f, hf⟩ : ∃ f : Ru → Bool, ∀ r, f r = (ofR r 2 tn who && cv r) := ⟨_, fun _ => rfl⟩
    simp only [← hf] at HANY
    have HF : Aside (∀ r, f r = (ofR r 2 tn who && cv r)) := hf
    have HSL : Aside (∀ W, Below wc.heap.size wc W → 0 < L.length → ∃ b off, bo = some ⟨b, off, none⟩ ∧ b < W.heap.size ∧ RowR W b off L) := fun W hW h => row_of (HR6.out W hW) (Below.refl _ _) h
    have hN80 : N ≤ 80 := HLN'.out
    clear hf HLN' hoo HR6
    go_wp2_with fail
    go_loopg [54] N (fun kx s9 wr => ∃ j : Nat, s9 = .int .i64 j ∧ j ≤ N ∧ N - j ≤ kx ∧ Aside ((L.take j).any f = false) ∧ Aside (Below wc.heap.size wc wr))
    case atStart => exact ⟨0, rfl, Nat.zero_le _, by omega, by simp [Aside], HC8.out⟩
    case round =>
      obtain ⟨j, rfl, hj, hjx, HNo, HA⟩ := hrel
      by_cases hlt : j < N
      · have hjl : j < L.length := by rw [← HN.out]; exact hlt
        obtain ⟨b, off, rfl, hbs, hrow⟩ := HSL.out _ HA.out (by omega)
        have hrow1 := hrow j hjl
        have HMj := Lib.hid (HRC6.out _ (memR L j hjl))
        have HFF : Aside (f L[j]! = false → (L.take (j + 1)).any f = false) := fun h => any_take_snoc L f j hjl HNo.out h
        have HQ : Aside (f L[j]! = (ofR L[j]! 2 tn who && cv L[j]!)) := HF.out _
        generalize f L[j]! = fj at HFF HQ
        generalize cv L[j]! = mj at HMj HQ
        generalize L[j]! = c at hrow1 HMj HQ
        obtain ⟨rk, rt, rw1, rb, rsc, rco, rcap, rcs, rn, rix⟩ := c
        have HQ' : Aside (fj = (((rk == 2) && ((rt == tn) && (rw1.toList == who.toList))) && mj)) := HQ.out
        dsimp only at HMj
        have c0 := hrow1 0 _ rfl; have c1 := hrow1 1 _ rfl; have c2 := hrow1 2 _ rfl; have c3 := hrow1 3 _ rfl; have c4 := hrow1 4 _ rfl; have c5 := hrow1 5 _ rfl; have c6 := hrow1 6 _ rfl; have c7 := hrow1 7 _ rfl
        simp only [Nat.add_zero] at c0
        dsimp only at c0 c1 c2 c3 c4 c5 c6 c7
        generalize rcs.length = rcn at *
        clear hrow1 hrow HSL hjl HQ HF HRC6 HNo
        have hltz : (j : Int) < N := by omega
        have hjz : (0 : Int) ≤ (j : Int) := by omega
        go_upto_region 15 with fail
        clear c0 c1 c2 c3 c4 c5 c6 c7
        have zr : wc.heap.size ≤ wr.heap.size := HA.out.size
        have HA9 : Aside (Below wc.heap.size wc (wr.alloc (.cells (ruls rk rt rw1 rb rsc rco rcn rcap rn rix) 26))) := HA.out.alloc zr _
        obtain ⟨r0, r1, r2, r3, r4, r5, r6, r7⟩ := rul_lay (w := wr) (Below.refl (wr.heap.size + 1) (wr.alloc (.cells (ruls rk rt rw1 rb rsc rco rcn rcap rn rix) 26)))
        generalize (wr.alloc (.cells (ruls rk rt rw1 rb rsc rco rcn rcap rn rix) 26)) = w9 at *
        generalize wr.heap.size = V at *
        obtain ⟨x0, x1⟩ := HKC.out _ HA9.out
        rcases ofR_ways rk rt rw1 2 tn who with (e1 | ⟨e1, e2⟩ | ⟨e1, e2, e3⟩) | ⟨e1, e2, e3⟩
        rotate_left 3
        · have HQ2 : Aside (fj = mj) := by show _ = _; rw [HQ'.out, e1, e2, e3]; rfl
          clear HQ'
          go_wp2_with fail
          clear r0 r1 r2 r3 r4 r5 r6 r7 x0 x1
          refine (HMj.out _ HA9.out).mono ?_
          rintro e w10 ⟨rfl, hb⟩
          have HA10 : Aside (Below wc.heap.size wc w10) := HA9.out.trans (hb.mono HA9.out.size)
          clear hb
          cases mj
          · go_wp2_with fail
            go_roundg (N - (j + 1))
            case measure => omega
            case rel => exact ⟨j + 1, by go_num, hlt, Nat.le_refl _, HFF.out HQ2.out, HA10.out⟩
          · go_wp2_with fail
            go_ret
            exact ⟨rfl, HBW.out.trans (HA10.out.mono HBW.out.size)⟩
        all_goals
          have HQ2 : Aside (fj = false) := by show _ = _; rw [HQ'.out]; first | (simp [e1]; done) | (simp [e1, e2]; done) | (simp [e1, e2, e3]; done)
          clear HQ'
          go_wp2_with fail
          go_roundg (N - (j + 1))
          case measure => omega
          case rel => exact ⟨j + 1, by go_num, hlt, Nat.le_refl _, HFF.out HQ2.out, HA9.out⟩
      · obtain rfl : j = N := by omega
        have hrf : L.any f = false := by
          have := HNo.out
          rw [HN.out, List.take_length] at this
          exact this
        rw [HANY.out] at hrf
        cases hrf
end Go.Proofs.YtliobglhppejiaaDoor
