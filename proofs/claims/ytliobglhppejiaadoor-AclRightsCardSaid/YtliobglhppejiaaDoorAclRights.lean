/- AclRights: a rule may be just as the document says. -/
import Derived.Test.YtliobglhppejiaaDoorAcL
import Derived.Test.YtliobglhppejiaaDoorOpenRu
import Derived.Test.YtliobglhppejiaaDoorGaJ
namespace Go.Proofs.YtliobglhppejiaaDoor
open Go.RowKit Go.Shelf
open Go.Proofs
set_option maxRecDepth 100000

theorem lightR_one {q : Ru} {w : World} (h : lightR [q] = true) (hq : RuIs MB w q) : q.sc.size ≤ 2000 ∧ q.cs.length ≤ 20 := by
  unfold lightR at h
  simp only [Bool.and_eq_true, List.all_cons] at h
  have h1 := h.1.1
  unfold light1 at h1
  rw [Bool.and_eq_true] at h1
  have := light_all (by decide) h1.2 hq.1
  exact ⟨this.1, this.2.1⟩
set_option maxHeartbeats 16000000 in
theorem aclRights_c (q : Ru) (w : World) (hm : MaxI w) (hq : RuIs MB w q) :
    Calls Tryd.prog 3 #[rulR q] w fun e w' => e = .returned (.bool true) ∧ Below w.heap.size w w' := by
  have HFT : Aside (∀ W, Below w.heap.size w W → Calls Tryd.prog 7 #[] W fun e w' => e = .returned (.bool true) ∧ Below W.heap.size W w') := fun W hW => fit10_c W (hm.below hW)
  have hlc : q.cs.length ≤ 4611686018427387904 := by have := hq.1.2.2.1; unfold MB at this; omega
  have HLT : Aside (∀ W, Below w.heap.size w W → Calls Tryd.prog 8 #[.slice (some ⟨W.heap.size, 0, none⟩) 1 1] (W.alloc (.cells (ruls q.k q.tn q.who q.br q.sc q.co q.cs.length q.cap q.nm q.ix) 26)) fun e w' => e = .returned (.bool (lightR [q])) ∧ Below (W.heap.size + 1) (W.alloc (.cells (ruls q.k q.tn q.who q.br q.sc q.co q.cs.length q.cap q.nm q.ix) 26)) w') := fun W hW => by
    have hB := (Below.refl W.heap.size W).alloc (Nat.le_refl _) (.cells (ruls q.k q.tn q.who q.br q.sc q.co q.cs.length q.cap q.nm q.ix) 26)
    have h := light10_c (some ⟨W.heap.size, 0, none⟩) 1 [q] (W.alloc (.cells (ruls q.k q.tn q.who q.br q.sc q.co q.cs.length q.cap q.nm q.ix) 26)) ⟨Or.inr ⟨_, _, rfl, by simp, fun j hj c v hv => by
      obtain rfl : j = 0 := by simpa using hj
      simp only [Nat.zero_mul, Nat.zero_add]
      rw [World.cell?_alloc_new, show ruls q.k q.tn q.who q.br q.sc q.co q.cs.length q.cap q.nm q.ix = (encR q).toArray from rfl, List.getElem?_toArray]
      exact hv⟩, fun r hr => by rw [List.mem_singleton.1 hr]; exact hq.1.1.on (hW.trans (hB.mono hW.size))⟩ (by simp) (fun r hr => by rw [List.mem_singleton.1 hr]; exact hlc)
    exact h.mono fun _ _ x => ⟨x.1, x.2.mono (by simp)⟩
  have HSZ : Aside (lightR [q] = true → q.sc.size ≤ 2000 ∧ q.cs.length ≤ 20) := fun h => lightR_one h hq
  have HSR : Aside (q.sc.size ≤ 2000 → ∀ W, Below w.heap.size w W → Calls Tryd.prog 11 #[.string q.sc] W fun e w' => e = .returned (.bool (scopeOk q.sc)) ∧ Below W.heap.size W w') := fun h W hW => scright_c q.sc W (Nat.le_trans h (by decide)) (hm.below hW)
  have HFR : Aside (q.sc.size ≤ 2000 → ∀ W, Below w.heap.size w W → Calls Tryd.prog 10 #[fil q.sc q.co q.cs.length q.cap] W fun e w' => e = .returned (.bool (rightF q.sc q.cs)) ∧ Below W.heap.size W w') := fun h W hW => fright_c q.sc q.co q.cap q.cs W (hq.1.1.on hW) hlc (Nat.le_trans h (by decide)) (hm.below hW)
  have HAR : Aside (q.sc.size ≤ 2000 → ∀ W, Below w.heap.size w W → Calls Tryd.prog 12 #[rul q.k q.tn q.who q.br q.sc q.co q.cs.length q.cap q.nm q.ix] W fun e w' => e = .returned (.bool (rrightB q)) ∧ Below W.heap.size W w') := fun h W hW => aright_c q.k q.tn q.who q.br q.sc q.co q.cap q.cs q.nm q.ix W (hq.1.1.on hW) hlc (Nat.le_trans h (by decide)) (hm.below hW)
  have HNW := Lib.hid (name_c q.who)
  have HNN := Lib.hid (name_c q.nm)
  have HRB : Aside (rrightB q = if q.k = 0 then ((decide (0 ≤ q.tn) && decide (q.tn < 4)) && nameOk q.who) && (decide (0 ≤ q.br) && decide (q.br < 6))
    else if q.k = 1 ∨ q.k = 2 then ((decide (0 ≤ q.tn) && decide (q.tn < 4)) && nameOk q.who) && rightF q.sc q.cs
    else if q.k = 3 then ((decide (0 ≤ q.tn) && decide (q.tn < 4)) && nameOk q.who) && (nameOk q.nm && scopeOk q.sc)
    else if q.k = 4 then decide (0 ≤ q.ix) else false) := rfl
  generalize rrightB q = rr at *
  generalize lightR [q] = lt at *
  obtain ⟨k, tn, who, br, sc, co, cap, cs, nm, ix⟩ := q
  dsimp only at *
  show Calls _ _ #[rul k tn who br sc co cs.length cap nm ix] w _
  obtain ⟨wk, hwk⟩ : ∃ wk, wk = nameOk who := ⟨_, rfl⟩
  rw [← hwk] at HNW HRB
  generalize rightF sc cs = rf at *
  generalize nameOk nm = no at *
  generalize scopeOk sc = sk at *
  generalize cs.length = n at *
  clear hm hq hlc hwk
  obtain ⟨so, hso⟩ : ∃ so, so = ((decide (0 ≤ tn) && decide (tn < 4)) && wk) := ⟨_, rfl⟩
  rw [← hso] at HRB
  have HSO : Aside (so = ((decide (0 ≤ tn) && decide (tn < 4)) && wk)) := hso
  clear hso
  have z1 : w.heap.size + 1 ≤ (w.alloc (.cells (ruls k tn who br sc co n cap nm ix) 26)).heap.size := by simp
  have HB0 : Aside (Below w.heap.size w (w.alloc (.cells (ruls k tn who br sc co n cap nm ix) 26))) := (Below.refl _ _).alloc (Nat.le_refl _) _
  have HKP : Aside (∀ W, Below (w.heap.size + 1) (w.alloc (.cells (ruls k tn who br sc co n cap nm ix) 26)) W → _) := fun W hW => rul_lay hW
  by_cases h0 : k = 0
  · subst h0
    go_enter Tryd.func3, Tryd.ntmps3
    go_wp2_with fail
    generalize hW0 : (w.alloc (.cells (ruls 0 tn who br sc co n cap nm ix) 26)) = w0 at *
    refine (HFT.out _ HB0.out).mono ?_
    rintro e w1 ⟨rfl, hb⟩
    have HA1 : Aside (Below (w.heap.size + 1) w0 w1) := hb.mono z1
    clear hb HFT
    obtain ⟨x0, x1, x2, x3, x4, x5, x6, x7⟩ := HKP.out _ HA1.out
    have HL1 := Lib.hid (HLT.out w1 (HB0.out.trans (HA1.out.mono (by omega))))
    have HAL := Lib.hid ((Below.refl w1.heap.size w1).alloc (Nat.le_refl _) (.cells (ruls 0 tn who br sc co n cap nm ix) 26))
    clear HLT
    go_wp2_with fail
    clear x0 x1 x2 x3 x4 x5 x6 x7
    refine HL1.out.mono ?_
    rintro e w2 ⟨rfl, hb⟩
    have HA2 : Aside (Below (w.heap.size + 1) w0 w2) := HA1.out.trans ((HAL.out.trans (hb.mono (by omega))).mono (Nat.le_trans z1 HA1.out.size))
    clear hb HL1 HAL HA1
    cases lt
    · go_wp2_with fail
      go_ret
      exact ⟨rfl, HB0.out.trans (HA2.out.mono (by omega))⟩
    obtain ⟨hz1, hz2⟩ := HSZ.out (by first | trivial | rfl)
    have HSR' := Lib.hid (HSR.out hz1)
    have HFR' := Lib.hid (HFR.out hz1)
    have HAR' := Lib.hid (HAR.out hz1)
    clear HSR HFR HAR HSZ hz1 hz2
    obtain ⟨x0, x1, x2, x3, x4, x5, x6, x7⟩ := HKP.out _ HA2.out
    go_upto_region 5 with fail
    go_cut [3] (fun s3 wx => s3 = .bool so ∧ wx = w2)
    case first =>
      by_cases h0 : 0 ≤ tn
      rotate_left
      · have hd : decide ((0 : Int) ≤ tn) = false := decide_eq_false h0
        have hs : so = false := by rw [HSO.out, hd]; rfl
        subst hs
        go_wp2_with fail
        go_meet
        exact ⟨rfl, rfl⟩
      have hd : decide ((0 : Int) ≤ tn) = true := decide_eq_true h0
      by_cases h4 : tn < 4
      rotate_left
      · have hd2 : decide (tn < 4) = false := decide_eq_false h4
        have hs : so = false := by rw [HSO.out, hd2]; simp
        subst hs
        go_wp2_with fail
        go_meet
        exact ⟨rfl, rfl⟩
      have hd2 : decide (tn < 4) = true := decide_eq_true h4
      have hs : so = wk := by rw [HSO.out, hd, hd2]; rfl
      subst hs
      go_wp2_with fail
      refine (HNW.out _).mono ?_
      rintro e w3 ⟨rfl, rfl⟩
      go_wp2_with fail
      go_meet
      exact ⟨rfl, rfl⟩
    case rest =>
      obtain ⟨rfl, rfl⟩ := hcut
      clear HSO HNW
      cases so
      · have hr : rr = false := by rw [HRB.out]; simp
        subst hr
        go_wp2_with fail
        refine (HAR'.out _ (HB0.out.trans (HA2.out.mono (by omega)))).mono ?_
        rintro e w9 ⟨rfl, hb⟩
        have HA9 : Aside (Below (w.heap.size + 1) w0 w9) := HA2.out.trans (hb.mono (Nat.le_trans z1 HA2.out.size))
        clear hb
        go_wp2_with fail
        go_ret
        exact ⟨rfl, HB0.out.trans (HA9.out.mono (by omega))⟩
      by_cases hb0 : 0 ≤ br
      rotate_left
      · have hd : decide ((0 : Int) ≤ br) = false := decide_eq_false hb0
        have hr : rr = false := by rw [HRB.out]; simp [hb0]
        subst hr
        go_wp2_with fail
        refine (HAR'.out _ (HB0.out.trans (HA2.out.mono (by omega)))).mono ?_
        rintro e w9 ⟨rfl, hb⟩
        have HA9 : Aside (Below (w.heap.size + 1) w0 w9) := HA2.out.trans (hb.mono (Nat.le_trans z1 HA2.out.size))
        clear hb
        go_wp2_with fail
        go_ret
        exact ⟨rfl, HB0.out.trans (HA9.out.mono (by omega))⟩
      have hd : decide ((0 : Int) ≤ br) = true := decide_eq_true hb0
      by_cases hb6 : br < 6
      · have hd2 : decide (br < 6) = true := decide_eq_true hb6
        have hr : rr = true := by rw [HRB.out]; simp [hb0, hb6]
        subst hr
        go_wp2_with fail
        refine (HAR'.out _ (HB0.out.trans (HA2.out.mono (by omega)))).mono ?_
        rintro e w9 ⟨rfl, hb⟩
        have HA9 : Aside (Below (w.heap.size + 1) w0 w9) := HA2.out.trans (hb.mono (Nat.le_trans z1 HA2.out.size))
        clear hb
        go_wp2_with fail
        go_ret
        exact ⟨rfl, HB0.out.trans (HA9.out.mono (by omega))⟩
      · have hd2 : decide (br < 6) = false := decide_eq_false hb6
        have hr : rr = false := by rw [HRB.out]; simp [hb6]
        subst hr
        go_wp2_with fail
        refine (HAR'.out _ (HB0.out.trans (HA2.out.mono (by omega)))).mono ?_
        rintro e w9 ⟨rfl, hb⟩
        have HA9 : Aside (Below (w.heap.size + 1) w0 w9) := HA2.out.trans (hb.mono (Nat.le_trans z1 HA2.out.size))
        clear hb
        go_wp2_with fail
        go_ret
        exact ⟨rfl, HB0.out.trans (HA9.out.mono (by omega))⟩
  have e0 : (k == 0) = false := by simpa using h0
  by_cases h1 : k = 1
  · subst h1
    go_enter Tryd.func3, Tryd.ntmps3
    go_wp2_with fail
    generalize hW0 : (w.alloc (.cells (ruls 1 tn who br sc co n cap nm ix) 26)) = w0 at *
    refine (HFT.out _ HB0.out).mono ?_
    rintro e w1 ⟨rfl, hb⟩
    have HA1 : Aside (Below (w.heap.size + 1) w0 w1) := hb.mono z1
    clear hb HFT
    obtain ⟨x0, x1, x2, x3, x4, x5, x6, x7⟩ := HKP.out _ HA1.out
    have HL1 := Lib.hid (HLT.out w1 (HB0.out.trans (HA1.out.mono (by omega))))
    have HAL := Lib.hid ((Below.refl w1.heap.size w1).alloc (Nat.le_refl _) (.cells (ruls 1 tn who br sc co n cap nm ix) 26))
    clear HLT
    go_wp2_with fail
    clear x0 x1 x2 x3 x4 x5 x6 x7
    refine HL1.out.mono ?_
    rintro e w2 ⟨rfl, hb⟩
    have HA2 : Aside (Below (w.heap.size + 1) w0 w2) := HA1.out.trans ((HAL.out.trans (hb.mono (by omega))).mono (Nat.le_trans z1 HA1.out.size))
    clear hb HL1 HAL HA1
    cases lt
    · go_wp2_with fail
      go_ret
      exact ⟨rfl, HB0.out.trans (HA2.out.mono (by omega))⟩
    obtain ⟨hz1, hz2⟩ := HSZ.out (by first | trivial | rfl)
    have HSR' := Lib.hid (HSR.out hz1)
    have HFR' := Lib.hid (HFR.out hz1)
    have HAR' := Lib.hid (HAR.out hz1)
    clear HSR HFR HAR HSZ hz1 hz2
    obtain ⟨x0, x1, x2, x3, x4, x5, x6, x7⟩ := HKP.out _ HA2.out
    go_upto_region 5 with fail
    go_cut [3] (fun s3 wx => s3 = .bool so ∧ wx = w2)
    case first =>
      by_cases h0 : 0 ≤ tn
      rotate_left
      · have hd : decide ((0 : Int) ≤ tn) = false := decide_eq_false h0
        have hs : so = false := by rw [HSO.out, hd]; rfl
        subst hs
        go_wp2_with fail
        go_meet
        exact ⟨rfl, rfl⟩
      have hd : decide ((0 : Int) ≤ tn) = true := decide_eq_true h0
      by_cases h4 : tn < 4
      rotate_left
      · have hd2 : decide (tn < 4) = false := decide_eq_false h4
        have hs : so = false := by rw [HSO.out, hd2]; simp
        subst hs
        go_wp2_with fail
        go_meet
        exact ⟨rfl, rfl⟩
      have hd2 : decide (tn < 4) = true := decide_eq_true h4
      have hs : so = wk := by rw [HSO.out, hd, hd2]; rfl
      subst hs
      go_wp2_with fail
      refine (HNW.out _).mono ?_
      rintro e w3 ⟨rfl, rfl⟩
      go_wp2_with fail
      go_meet
      exact ⟨rfl, rfl⟩
    case rest =>
      obtain ⟨rfl, rfl⟩ := hcut
      clear HSO HNW
      cases so
      · have hr : rr = false := by rw [HRB.out]; simp
        subst hr
        go_wp2_with fail
        refine (HAR'.out _ (HB0.out.trans (HA2.out.mono (by omega)))).mono ?_
        rintro e w9 ⟨rfl, hb⟩
        have HA9 : Aside (Below (w.heap.size + 1) w0 w9) := HA2.out.trans (hb.mono (Nat.le_trans z1 HA2.out.size))
        clear hb
        go_wp2_with fail
        go_ret
        exact ⟨rfl, HB0.out.trans (HA9.out.mono (by omega))⟩
      go_wp2_with fail
      refine (HFR'.out _ (HB0.out.trans (HA2.out.mono (by omega)))).mono ?_
      rintro e w3 ⟨rfl, hb⟩
      have HA3 : Aside (Below (w.heap.size + 1) w0 w3) := HA2.out.trans (hb.mono (Nat.le_trans z1 HA2.out.size))
      clear hb x0 x1 x2 x3 x4 x5 x6 x7
      obtain ⟨x0, x1, x2, x3, x4, x5, x6, x7⟩ := HKP.out _ HA3.out
      cases rf
      · have hr : rr = false := by rw [HRB.out]; simp
        subst hr
        go_wp2_with fail
        refine (HAR'.out _ (HB0.out.trans (HA3.out.mono (by omega)))).mono ?_
        rintro e w9 ⟨rfl, hb⟩
        have HA9 : Aside (Below (w.heap.size + 1) w0 w9) := HA3.out.trans (hb.mono (Nat.le_trans z1 HA3.out.size))
        clear hb
        go_wp2_with fail
        go_ret
        exact ⟨rfl, HB0.out.trans (HA9.out.mono (by omega))⟩
      · have hr : rr = true := by rw [HRB.out]; simp
        subst hr
        go_wp2_with fail
        refine (HAR'.out _ (HB0.out.trans (HA3.out.mono (by omega)))).mono ?_
        rintro e w9 ⟨rfl, hb⟩
        have HA9 : Aside (Below (w.heap.size + 1) w0 w9) := HA3.out.trans (hb.mono (Nat.le_trans z1 HA3.out.size))
        clear hb
        go_wp2_with fail
        go_ret
        exact ⟨rfl, HB0.out.trans (HA9.out.mono (by omega))⟩
  have e1 : (k == 1) = false := by simpa using h1
  by_cases h2 : k = 2
  · subst h2
    go_enter Tryd.func3, Tryd.ntmps3
    go_wp2_with fail
    generalize hW0 : (w.alloc (.cells (ruls 2 tn who br sc co n cap nm ix) 26)) = w0 at *
    refine (HFT.out _ HB0.out).mono ?_
    rintro e w1 ⟨rfl, hb⟩
    have HA1 : Aside (Below (w.heap.size + 1) w0 w1) := hb.mono z1
    clear hb HFT
    obtain ⟨x0, x1, x2, x3, x4, x5, x6, x7⟩ := HKP.out _ HA1.out
    have HL1 := Lib.hid (HLT.out w1 (HB0.out.trans (HA1.out.mono (by omega))))
    have HAL := Lib.hid ((Below.refl w1.heap.size w1).alloc (Nat.le_refl _) (.cells (ruls 2 tn who br sc co n cap nm ix) 26))
    clear HLT
    go_wp2_with fail
    clear x0 x1 x2 x3 x4 x5 x6 x7
    refine HL1.out.mono ?_
    rintro e w2 ⟨rfl, hb⟩
    have HA2 : Aside (Below (w.heap.size + 1) w0 w2) := HA1.out.trans ((HAL.out.trans (hb.mono (by omega))).mono (Nat.le_trans z1 HA1.out.size))
    clear hb HL1 HAL HA1
    cases lt
    · go_wp2_with fail
      go_ret
      exact ⟨rfl, HB0.out.trans (HA2.out.mono (by omega))⟩
    obtain ⟨hz1, hz2⟩ := HSZ.out (by first | trivial | rfl)
    have HSR' := Lib.hid (HSR.out hz1)
    have HFR' := Lib.hid (HFR.out hz1)
    have HAR' := Lib.hid (HAR.out hz1)
    clear HSR HFR HAR HSZ hz1 hz2
    obtain ⟨x0, x1, x2, x3, x4, x5, x6, x7⟩ := HKP.out _ HA2.out
    go_upto_region 5 with fail
    go_cut [3] (fun s3 wx => s3 = .bool so ∧ wx = w2)
    case first =>
      by_cases h0 : 0 ≤ tn
      rotate_left
      · have hd : decide ((0 : Int) ≤ tn) = false := decide_eq_false h0
        have hs : so = false := by rw [HSO.out, hd]; rfl
        subst hs
        go_wp2_with fail
        go_meet
        exact ⟨rfl, rfl⟩
      have hd : decide ((0 : Int) ≤ tn) = true := decide_eq_true h0
      by_cases h4 : tn < 4
      rotate_left
      · have hd2 : decide (tn < 4) = false := decide_eq_false h4
        have hs : so = false := by rw [HSO.out, hd2]; simp
        subst hs
        go_wp2_with fail
        go_meet
        exact ⟨rfl, rfl⟩
      have hd2 : decide (tn < 4) = true := decide_eq_true h4
      have hs : so = wk := by rw [HSO.out, hd, hd2]; rfl
      subst hs
      go_wp2_with fail
      refine (HNW.out _).mono ?_
      rintro e w3 ⟨rfl, rfl⟩
      go_wp2_with fail
      go_meet
      exact ⟨rfl, rfl⟩
    case rest =>
      obtain ⟨rfl, rfl⟩ := hcut
      clear HSO HNW
      cases so
      · have hr : rr = false := by rw [HRB.out]; simp
        subst hr
        go_wp2_with fail
        refine (HAR'.out _ (HB0.out.trans (HA2.out.mono (by omega)))).mono ?_
        rintro e w9 ⟨rfl, hb⟩
        have HA9 : Aside (Below (w.heap.size + 1) w0 w9) := HA2.out.trans (hb.mono (Nat.le_trans z1 HA2.out.size))
        clear hb
        go_wp2_with fail
        go_ret
        exact ⟨rfl, HB0.out.trans (HA9.out.mono (by omega))⟩
      go_wp2_with fail
      refine (HFR'.out _ (HB0.out.trans (HA2.out.mono (by omega)))).mono ?_
      rintro e w3 ⟨rfl, hb⟩
      have HA3 : Aside (Below (w.heap.size + 1) w0 w3) := HA2.out.trans (hb.mono (Nat.le_trans z1 HA2.out.size))
      clear hb x0 x1 x2 x3 x4 x5 x6 x7
      obtain ⟨x0, x1, x2, x3, x4, x5, x6, x7⟩ := HKP.out _ HA3.out
      cases rf
      · have hr : rr = false := by rw [HRB.out]; simp
        subst hr
        go_wp2_with fail
        refine (HAR'.out _ (HB0.out.trans (HA3.out.mono (by omega)))).mono ?_
        rintro e w9 ⟨rfl, hb⟩
        have HA9 : Aside (Below (w.heap.size + 1) w0 w9) := HA3.out.trans (hb.mono (Nat.le_trans z1 HA3.out.size))
        clear hb
        go_wp2_with fail
        go_ret
        exact ⟨rfl, HB0.out.trans (HA9.out.mono (by omega))⟩
      · have hr : rr = true := by rw [HRB.out]; simp
        subst hr
        go_wp2_with fail
        refine (HAR'.out _ (HB0.out.trans (HA3.out.mono (by omega)))).mono ?_
        rintro e w9 ⟨rfl, hb⟩
        have HA9 : Aside (Below (w.heap.size + 1) w0 w9) := HA3.out.trans (hb.mono (Nat.le_trans z1 HA3.out.size))
        clear hb
        go_wp2_with fail
        go_ret
        exact ⟨rfl, HB0.out.trans (HA9.out.mono (by omega))⟩
  have e2 : (k == 2) = false := by simpa using h2
  by_cases h3 : k = 3
  · subst h3
    go_enter Tryd.func3, Tryd.ntmps3
    go_wp2_with fail
    generalize hW0 : (w.alloc (.cells (ruls 3 tn who br sc co n cap nm ix) 26)) = w0 at *
    refine (HFT.out _ HB0.out).mono ?_
    rintro e w1 ⟨rfl, hb⟩
    have HA1 : Aside (Below (w.heap.size + 1) w0 w1) := hb.mono z1
    clear hb HFT
    obtain ⟨x0, x1, x2, x3, x4, x5, x6, x7⟩ := HKP.out _ HA1.out
    have HL1 := Lib.hid (HLT.out w1 (HB0.out.trans (HA1.out.mono (by omega))))
    have HAL := Lib.hid ((Below.refl w1.heap.size w1).alloc (Nat.le_refl _) (.cells (ruls 3 tn who br sc co n cap nm ix) 26))
    clear HLT
    go_wp2_with fail
    clear x0 x1 x2 x3 x4 x5 x6 x7
    refine HL1.out.mono ?_
    rintro e w2 ⟨rfl, hb⟩
    have HA2 : Aside (Below (w.heap.size + 1) w0 w2) := HA1.out.trans ((HAL.out.trans (hb.mono (by omega))).mono (Nat.le_trans z1 HA1.out.size))
    clear hb HL1 HAL HA1
    cases lt
    · go_wp2_with fail
      go_ret
      exact ⟨rfl, HB0.out.trans (HA2.out.mono (by omega))⟩
    obtain ⟨hz1, hz2⟩ := HSZ.out (by first | trivial | rfl)
    have HSR' := Lib.hid (HSR.out hz1)
    have HFR' := Lib.hid (HFR.out hz1)
    have HAR' := Lib.hid (HAR.out hz1)
    clear HSR HFR HAR HSZ hz1 hz2
    obtain ⟨x0, x1, x2, x3, x4, x5, x6, x7⟩ := HKP.out _ HA2.out
    go_upto_region 5 with fail
    go_cut [3] (fun s3 wx => s3 = .bool so ∧ wx = w2)
    case first =>
      by_cases h0 : 0 ≤ tn
      rotate_left
      · have hd : decide ((0 : Int) ≤ tn) = false := decide_eq_false h0
        have hs : so = false := by rw [HSO.out, hd]; rfl
        subst hs
        go_wp2_with fail
        go_meet
        exact ⟨rfl, rfl⟩
      have hd : decide ((0 : Int) ≤ tn) = true := decide_eq_true h0
      by_cases h4 : tn < 4
      rotate_left
      · have hd2 : decide (tn < 4) = false := decide_eq_false h4
        have hs : so = false := by rw [HSO.out, hd2]; simp
        subst hs
        go_wp2_with fail
        go_meet
        exact ⟨rfl, rfl⟩
      have hd2 : decide (tn < 4) = true := decide_eq_true h4
      have hs : so = wk := by rw [HSO.out, hd, hd2]; rfl
      subst hs
      go_wp2_with fail
      refine (HNW.out _).mono ?_
      rintro e w3 ⟨rfl, rfl⟩
      go_wp2_with fail
      go_meet
      exact ⟨rfl, rfl⟩
    case rest =>
      obtain ⟨rfl, rfl⟩ := hcut
      clear HSO HNW
      cases so
      · have hr : rr = false := by rw [HRB.out]; simp
        subst hr
        go_wp2_with fail
        refine (HAR'.out _ (HB0.out.trans (HA2.out.mono (by omega)))).mono ?_
        rintro e w9 ⟨rfl, hb⟩
        have HA9 : Aside (Below (w.heap.size + 1) w0 w9) := HA2.out.trans (hb.mono (Nat.le_trans z1 HA2.out.size))
        clear hb
        go_wp2_with fail
        go_ret
        exact ⟨rfl, HB0.out.trans (HA9.out.mono (by omega))⟩
      go_wp2_with fail
      refine (HNN.out _).mono ?_
      rintro e w8 ⟨rfl, rfl⟩
      cases no
      · have hr : rr = false := by rw [HRB.out]; simp
        subst hr
        go_wp2_with fail
        refine (HAR'.out _ (HB0.out.trans (HA2.out.mono (by omega)))).mono ?_
        rintro e w9 ⟨rfl, hb⟩
        have HA9 : Aside (Below (w.heap.size + 1) w0 w9) := HA2.out.trans (hb.mono (Nat.le_trans z1 HA2.out.size))
        clear hb
        go_wp2_with fail
        go_ret
        exact ⟨rfl, HB0.out.trans (HA9.out.mono (by omega))⟩
      go_wp2_with fail
      refine (HSR'.out _ (HB0.out.trans (HA2.out.mono (by omega)))).mono ?_
      rintro e w3 ⟨rfl, hb⟩
      have HA3 : Aside (Below (w.heap.size + 1) w0 w3) := HA2.out.trans (hb.mono (Nat.le_trans z1 HA2.out.size))
      clear hb x0 x1 x2 x3 x4 x5 x6 x7
      obtain ⟨x0, x1, x2, x3, x4, x5, x6, x7⟩ := HKP.out _ HA3.out
      cases sk
      · have hr : rr = false := by rw [HRB.out]; simp
        subst hr
        go_wp2_with fail
        refine (HAR'.out _ (HB0.out.trans (HA3.out.mono (by omega)))).mono ?_
        rintro e w9 ⟨rfl, hb⟩
        have HA9 : Aside (Below (w.heap.size + 1) w0 w9) := HA3.out.trans (hb.mono (Nat.le_trans z1 HA3.out.size))
        clear hb
        go_wp2_with fail
        go_ret
        exact ⟨rfl, HB0.out.trans (HA9.out.mono (by omega))⟩
      · have hr : rr = true := by rw [HRB.out]; simp
        subst hr
        go_wp2_with fail
        refine (HAR'.out _ (HB0.out.trans (HA3.out.mono (by omega)))).mono ?_
        rintro e w9 ⟨rfl, hb⟩
        have HA9 : Aside (Below (w.heap.size + 1) w0 w9) := HA3.out.trans (hb.mono (Nat.le_trans z1 HA3.out.size))
        clear hb
        go_wp2_with fail
        go_ret
        exact ⟨rfl, HB0.out.trans (HA9.out.mono (by omega))⟩
  have e3 : (k == 3) = false := by simpa using h3
  by_cases h4 : k = 4
  · subst h4
    go_enter Tryd.func3, Tryd.ntmps3
    go_wp2_with fail
    generalize hW0 : (w.alloc (.cells (ruls 4 tn who br sc co n cap nm ix) 26)) = w0 at *
    refine (HFT.out _ HB0.out).mono ?_
    rintro e w1 ⟨rfl, hb⟩
    have HA1 : Aside (Below (w.heap.size + 1) w0 w1) := hb.mono z1
    clear hb HFT
    obtain ⟨x0, x1, x2, x3, x4, x5, x6, x7⟩ := HKP.out _ HA1.out
    have HL1 := Lib.hid (HLT.out w1 (HB0.out.trans (HA1.out.mono (by omega))))
    have HAL := Lib.hid ((Below.refl w1.heap.size w1).alloc (Nat.le_refl _) (.cells (ruls 4 tn who br sc co n cap nm ix) 26))
    clear HLT
    go_wp2_with fail
    clear x0 x1 x2 x3 x4 x5 x6 x7
    refine HL1.out.mono ?_
    rintro e w2 ⟨rfl, hb⟩
    have HA2 : Aside (Below (w.heap.size + 1) w0 w2) := HA1.out.trans ((HAL.out.trans (hb.mono (by omega))).mono (Nat.le_trans z1 HA1.out.size))
    clear hb HL1 HAL HA1
    cases lt
    · go_wp2_with fail
      go_ret
      exact ⟨rfl, HB0.out.trans (HA2.out.mono (by omega))⟩
    obtain ⟨hz1, hz2⟩ := HSZ.out (by first | trivial | rfl)
    have HSR' := Lib.hid (HSR.out hz1)
    have HFR' := Lib.hid (HFR.out hz1)
    have HAR' := Lib.hid (HAR.out hz1)
    clear HSR HFR HAR HSZ hz1 hz2
    obtain ⟨x0, x1, x2, x3, x4, x5, x6, x7⟩ := HKP.out _ HA2.out
    go_upto_region 5 with fail
    go_cut [3] (fun s3 wx => s3 = .bool so ∧ wx = w2)
    case first =>
      by_cases h0 : 0 ≤ tn
      rotate_left
      · have hd : decide ((0 : Int) ≤ tn) = false := decide_eq_false h0
        have hs : so = false := by rw [HSO.out, hd]; rfl
        subst hs
        go_wp2_with fail
        go_meet
        exact ⟨rfl, rfl⟩
      have hd : decide ((0 : Int) ≤ tn) = true := decide_eq_true h0
      by_cases h4 : tn < 4
      rotate_left
      · have hd2 : decide (tn < 4) = false := decide_eq_false h4
        have hs : so = false := by rw [HSO.out, hd2]; simp
        subst hs
        go_wp2_with fail
        go_meet
        exact ⟨rfl, rfl⟩
      have hd2 : decide (tn < 4) = true := decide_eq_true h4
      have hs : so = wk := by rw [HSO.out, hd, hd2]; rfl
      subst hs
      go_wp2_with fail
      refine (HNW.out _).mono ?_
      rintro e w3 ⟨rfl, rfl⟩
      go_wp2_with fail
      go_meet
      exact ⟨rfl, rfl⟩
    case rest =>
      obtain ⟨rfl, rfl⟩ := hcut
      clear HSO HNW
      have hr : rr = decide (0 ≤ ix) := by rw [HRB.out]; simp
      subst hr
      have hself : (decide (0 ≤ ix) == decide (0 ≤ ix)) = true := by simp
      go_wp2_with fail
      refine (HAR'.out _ (HB0.out.trans (HA2.out.mono (by omega)))).mono ?_
      rintro e w9 ⟨rfl, hb⟩
      have HA9 : Aside (Below (w.heap.size + 1) w0 w9) := HA2.out.trans (hb.mono (Nat.le_trans z1 HA2.out.size))
      clear hb
      go_wp2_with fail
      go_ret
      exact ⟨by first | rfl | (rw [hself]) | simp, HB0.out.trans (HA9.out.mono (by omega))⟩
  have e4 : (k == 4) = false := by simpa using h4
  go_enter Tryd.func3, Tryd.ntmps3
  go_wp2_with fail
  generalize hW0 : (w.alloc (.cells (ruls k tn who br sc co n cap nm ix) 26)) = w0 at *
  refine (HFT.out _ HB0.out).mono ?_
  rintro e w1 ⟨rfl, hb⟩
  have HA1 : Aside (Below (w.heap.size + 1) w0 w1) := hb.mono z1
  clear hb HFT
  obtain ⟨x0, x1, x2, x3, x4, x5, x6, x7⟩ := HKP.out _ HA1.out
  have HL1 := Lib.hid (HLT.out w1 (HB0.out.trans (HA1.out.mono (by omega))))
  have HAL := Lib.hid ((Below.refl w1.heap.size w1).alloc (Nat.le_refl _) (.cells (ruls k tn who br sc co n cap nm ix) 26))
  clear HLT
  go_wp2_with fail
  clear x0 x1 x2 x3 x4 x5 x6 x7
  refine HL1.out.mono ?_
  rintro e w2 ⟨rfl, hb⟩
  have HA2 : Aside (Below (w.heap.size + 1) w0 w2) := HA1.out.trans ((HAL.out.trans (hb.mono (by omega))).mono (Nat.le_trans z1 HA1.out.size))
  clear hb HL1 HAL HA1
  cases lt
  · go_wp2_with fail
    go_ret
    exact ⟨rfl, HB0.out.trans (HA2.out.mono (by omega))⟩
  obtain ⟨hz1, hz2⟩ := HSZ.out (by first | trivial | rfl)
  have HSR' := Lib.hid (HSR.out hz1)
  have HFR' := Lib.hid (HFR.out hz1)
  have HAR' := Lib.hid (HAR.out hz1)
  clear HSR HFR HAR HSZ hz1 hz2
  obtain ⟨x0, x1, x2, x3, x4, x5, x6, x7⟩ := HKP.out _ HA2.out
  go_upto_region 5 with fail
  go_cut [3] (fun s3 wx => s3 = .bool so ∧ wx = w2)
  case first =>
    by_cases h0 : 0 ≤ tn
    rotate_left
    · have hd : decide ((0 : Int) ≤ tn) = false := decide_eq_false h0
      have hs : so = false := by rw [HSO.out, hd]; rfl
      subst hs
      go_wp2_with fail
      go_meet
      exact ⟨rfl, rfl⟩
    have hd : decide ((0 : Int) ≤ tn) = true := decide_eq_true h0
    by_cases h4 : tn < 4
    rotate_left
    · have hd2 : decide (tn < 4) = false := decide_eq_false h4
      have hs : so = false := by rw [HSO.out, hd2]; simp
      subst hs
      go_wp2_with fail
      go_meet
      exact ⟨rfl, rfl⟩
    have hd2 : decide (tn < 4) = true := decide_eq_true h4
    have hs : so = wk := by rw [HSO.out, hd, hd2]; rfl
    subst hs
    go_wp2_with fail
    refine (HNW.out _).mono ?_
    rintro e w3 ⟨rfl, rfl⟩
    go_wp2_with fail
    go_meet
    exact ⟨rfl, rfl⟩
  case rest =>
    obtain ⟨rfl, rfl⟩ := hcut
    clear HSO HNW
    have hr : rr = false := by rw [HRB.out]; simp [h0, h1, h2, h3, h4]
    subst hr
    go_wp2_with fail
    refine (HAR'.out _ (HB0.out.trans (HA2.out.mono (by omega)))).mono ?_
    rintro e w9 ⟨rfl, hb⟩
    have HA9 : Aside (Below (w.heap.size + 1) w0 w9) := HA2.out.trans (hb.mono (Nat.le_trans z1 HA2.out.size))
    clear hb
    go_wp2_with fail
    go_ret
    exact ⟨rfl, HB0.out.trans (HA9.out.mono (by omega))⟩
end Go.Proofs.YtliobglhppejiaaDoor
