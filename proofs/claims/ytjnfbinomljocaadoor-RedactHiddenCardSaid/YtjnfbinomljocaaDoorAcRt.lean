/- acl's Right, of any rule. -/
import Derived.Test.YtjnfbinomljocaaDoorAcR
namespace Go.Proofs.YtjnfbinomljocaaDoor
open Go.RowKit Go.Shelf
open Go.Proofs
set_option maxRecDepth 100000

set_option maxHeartbeats 8000000 in
theorem aright_c (k tn : Int) (who : ByteArray) (br : Int) (sc : ByteArray) (co : Option Addr) (cap : Nat) (cs : List Cn) (nm : ByteArray) (ix : Int) (w : World) (hc : CondsB w.heap.size w co cs) (hlc : cs.length ≤ 4611686018427387904) (hs : sc.size ≤ 3000) (hm : MaxI w) :
    Calls Tryd.prog 19 #[rul k tn who br sc co cs.length cap nm ix] w fun e w' => e = .returned (.bool (rrightB ⟨k, tn, who, br, sc, co, cap, cs, nm, ix⟩)) ∧ Below w.heap.size w w' := by
  have z1 : w.heap.size + 1 ≤ (w.alloc (.cells (ruls k tn who br sc co cs.length cap nm ix) 43)).heap.size := by simp
  have hB0 : Below w.heap.size w (w.alloc (.cells (ruls k tn who br sc co cs.length cap nm ix) 43)) := (Below.refl _ _).alloc (Nat.le_refl _) _
  have HKP : Aside (∀ W, Below (w.heap.size + 1) (w.alloc (.cells (ruls k tn who br sc co cs.length cap nm ix) 43)) W → _) := fun W hW => rul_lay hW
  have HBR : Aside (Below (w.heap.size + 1) (w.alloc (.cells (ruls k tn who br sc co cs.length cap nm ix) 43)) (w.alloc (.cells (ruls k tn who br sc co cs.length cap nm ix) 43))) := Below.refl _ _
  have HSO := Lib.hid (someone_c k tn who br sc co cs.length cap nm ix (w.alloc (.cells (ruls k tn who br sc co cs.length cap nm ix) 43)) (hm.below hB0))
  have HFR : Aside (∀ W, Below w.heap.size w W → Calls Tryd.prog 36 #[fil sc co cs.length cap] W fun e w' => e = .returned (.bool (rightF sc cs)) ∧ Below W.heap.size W w') := fun W hW => fright_c sc co cap cs W (hc.on hW) hlc hs (hm.below hW)
  have HNM : Aside (∀ W, Below w.heap.size w W → Calls Tryd.prog 37 #[.string nm] W fun e w' => e = .returned (.bool (nameOk nm)) ∧ Below W.heap.size W w') := fun W hW => aname_c nm W (hm.below hW)
  have HSC : Aside (∀ W, Below w.heap.size w W → Calls Tryd.prog 38 #[fil sc co cs.length cap] W fun e w' => e = .returned (.bool (scopeOk sc)) ∧ Below W.heap.size W w') := fun W hW => ainscope_c sc co cs.length cap W hs (hm.below hW)
  have HB0 := Lib.hid hB0
  have HRB : Aside (rrightB ⟨k, tn, who, br, sc, co, cap, cs, nm, ix⟩ = if k = 0 then ((decide (0 ≤ tn) && decide (tn < 4)) && nameOk who) && (decide (0 ≤ br) && decide (br < 6))
    else if k = 1 ∨ k = 2 then ((decide (0 ≤ tn) && decide (tn < 4)) && nameOk who) && rightF sc cs
    else if k = 3 then ((decide (0 ≤ tn) && decide (tn < 4)) && nameOk who) && (nameOk nm && scopeOk sc)
    else if k = 4 then decide (0 ≤ ix) else false) := rfl
  generalize rrightB ⟨k, tn, who, br, sc, co, cap, cs, nm, ix⟩ = rr at *
  generalize ((decide (0 ≤ tn) && decide (tn < 4)) && nameOk who) = so at *
  generalize rightF sc cs = rf at *
  generalize nameOk nm = no at *
  generalize scopeOk sc = sk at *
  generalize cs.length = n at *
  obtain ⟨x0, x1, x2, x3, x4, x5, x6, x7⟩ := HKP.out _ HBR.out
  clear hB0 hc hlc hs hm
  by_cases h0 : k = 0
  · subst h0
    go_enter Tryd.func19, Tryd.ntmps19
    go_wp2_with fail
    generalize hW0 : (w.alloc (.cells (ruls 0 tn who br sc co n cap nm ix) 43)) = w0 at *
    refine HSO.out.mono ?_
    rintro e w1 ⟨rfl, hb⟩
    have HA1 : Aside (Below (w.heap.size + 1) w0 w1) := hb.mono z1
    clear hb x0 x1 x2 x3 x4 x5 x6 x7
    cases so
    · have hr : rr = false := by rw [HRB.out]; simp
      subst hr
      go_wp2_with fail
      go_ret
      exact ⟨rfl, HB0.out.trans (HA1.out.mono (by omega))⟩
    obtain ⟨x0, x1, x2, x3, x4, x5, x6, x7⟩ := HKP.out _ HA1.out
    by_cases hb0 : 0 ≤ br
    rotate_left
    · have hr : rr = false := by rw [HRB.out]; simp [hb0]
      have hd : decide ((0 : Int) ≤ br) = false := decide_eq_false hb0
      subst hr
      go_wp2_with fail
      go_ret
      exact ⟨rfl, HB0.out.trans (HA1.out.mono (by omega))⟩
    have hd : decide ((0 : Int) ≤ br) = true := decide_eq_true hb0
    by_cases hb6 : br < 6
    · have hr : rr = true := by rw [HRB.out]; simp [hb0, hb6]
      have hd2 : decide (br < 6) = true := decide_eq_true hb6
      subst hr
      go_wp2_with fail
      go_ret
      exact ⟨rfl, HB0.out.trans (HA1.out.mono (by omega))⟩
    · have hr : rr = false := by rw [HRB.out]; simp [hb6]
      have hd2 : decide (br < 6) = false := decide_eq_false hb6
      subst hr
      go_wp2_with fail
      go_ret
      exact ⟨rfl, HB0.out.trans (HA1.out.mono (by omega))⟩
  have e0 : (k == 0) = false := by simpa using h0
  by_cases h1 : k = 1
  · subst h1
    go_enter Tryd.func19, Tryd.ntmps19
    go_wp2_with fail
    generalize hW0 : (w.alloc (.cells (ruls 1 tn who br sc co n cap nm ix) 43)) = w0 at *
    refine HSO.out.mono ?_
    rintro e w1 ⟨rfl, hb⟩
    have HA1 : Aside (Below (w.heap.size + 1) w0 w1) := hb.mono z1
    clear hb x0 x1 x2 x3 x4 x5 x6 x7
    cases so
    · have hr : rr = false := by rw [HRB.out]; simp
      subst hr
      go_wp2_with fail
      go_ret
      exact ⟨rfl, HB0.out.trans (HA1.out.mono (by omega))⟩
    obtain ⟨x0, x1, x2, x3, x4, x5, x6, x7⟩ := HKP.out _ HA1.out
    go_wp2_with fail
    refine (HFR.out _ (HB0.out.trans (HA1.out.mono (by omega)))).mono ?_
    rintro e w2 ⟨rfl, hb⟩
    have HA2 : Aside (Below (w.heap.size + 1) w0 w2) := HA1.out.trans (hb.mono (Nat.le_trans z1 HA1.out.size))
    clear hb x0 x1 x2 x3 x4 x5 x6 x7
    obtain ⟨x0, x1, x2, x3, x4, x5, x6, x7⟩ := HKP.out _ HA2.out
    cases rf
    · have hr : rr = false := by rw [HRB.out]; simp
      subst hr
      go_wp2_with fail
      go_ret
      exact ⟨rfl, HB0.out.trans (HA2.out.mono (by omega))⟩
    · have hr : rr = true := by rw [HRB.out]; simp
      subst hr
      go_wp2_with fail
      go_ret
      exact ⟨rfl, HB0.out.trans (HA2.out.mono (by omega))⟩
  have e1 : (k == 1) = false := by simpa using h1
  by_cases h2 : k = 2
  · subst h2
    go_enter Tryd.func19, Tryd.ntmps19
    go_wp2_with fail
    generalize hW0 : (w.alloc (.cells (ruls 2 tn who br sc co n cap nm ix) 43)) = w0 at *
    refine HSO.out.mono ?_
    rintro e w1 ⟨rfl, hb⟩
    have HA1 : Aside (Below (w.heap.size + 1) w0 w1) := hb.mono z1
    clear hb x0 x1 x2 x3 x4 x5 x6 x7
    cases so
    · have hr : rr = false := by rw [HRB.out]; simp
      subst hr
      go_wp2_with fail
      go_ret
      exact ⟨rfl, HB0.out.trans (HA1.out.mono (by omega))⟩
    obtain ⟨x0, x1, x2, x3, x4, x5, x6, x7⟩ := HKP.out _ HA1.out
    go_wp2_with fail
    refine (HFR.out _ (HB0.out.trans (HA1.out.mono (by omega)))).mono ?_
    rintro e w2 ⟨rfl, hb⟩
    have HA2 : Aside (Below (w.heap.size + 1) w0 w2) := HA1.out.trans (hb.mono (Nat.le_trans z1 HA1.out.size))
    clear hb x0 x1 x2 x3 x4 x5 x6 x7
    obtain ⟨x0, x1, x2, x3, x4, x5, x6, x7⟩ := HKP.out _ HA2.out
    cases rf
    · have hr : rr = false := by rw [HRB.out]; simp
      subst hr
      go_wp2_with fail
      go_ret
      exact ⟨rfl, HB0.out.trans (HA2.out.mono (by omega))⟩
    · have hr : rr = true := by rw [HRB.out]; simp
      subst hr
      go_wp2_with fail
      go_ret
      exact ⟨rfl, HB0.out.trans (HA2.out.mono (by omega))⟩
  have e2 : (k == 2) = false := by simpa using h2
  by_cases h3 : k = 3
  · subst h3
    go_enter Tryd.func19, Tryd.ntmps19
    go_wp2_with fail
    generalize hW0 : (w.alloc (.cells (ruls 3 tn who br sc co n cap nm ix) 43)) = w0 at *
    refine HSO.out.mono ?_
    rintro e w1 ⟨rfl, hb⟩
    have HA1 : Aside (Below (w.heap.size + 1) w0 w1) := hb.mono z1
    clear hb x0 x1 x2 x3 x4 x5 x6 x7
    cases so
    · have hr : rr = false := by rw [HRB.out]; simp
      subst hr
      go_wp2_with fail
      go_ret
      exact ⟨rfl, HB0.out.trans (HA1.out.mono (by omega))⟩
    obtain ⟨x0, x1, x2, x3, x4, x5, x6, x7⟩ := HKP.out _ HA1.out
    go_wp2_with fail
    refine (HNM.out _ (HB0.out.trans (HA1.out.mono (by omega)))).mono ?_
    rintro e w2 ⟨rfl, hb⟩
    have HA2 : Aside (Below (w.heap.size + 1) w0 w2) := HA1.out.trans (hb.mono (Nat.le_trans z1 HA1.out.size))
    clear hb x0 x1 x2 x3 x4 x5 x6 x7
    obtain ⟨x0, x1, x2, x3, x4, x5, x6, x7⟩ := HKP.out _ HA2.out
    cases no
    · have hr : rr = false := by rw [HRB.out]; simp
      subst hr
      go_wp2_with fail
      go_ret
      exact ⟨rfl, HB0.out.trans (HA2.out.mono (by omega))⟩
    go_wp2_with fail
    refine (HSC.out _ (HB0.out.trans (HA2.out.mono (by omega)))).mono ?_
    rintro e w3 ⟨rfl, hb⟩
    have HA3 : Aside (Below (w.heap.size + 1) w0 w3) := HA2.out.trans (hb.mono (Nat.le_trans z1 HA2.out.size))
    clear hb x0 x1 x2 x3 x4 x5 x6 x7
    obtain ⟨x0, x1, x2, x3, x4, x5, x6, x7⟩ := HKP.out _ HA3.out
    cases sk
    · have hr : rr = false := by rw [HRB.out]; simp
      subst hr
      go_wp2_with fail
      go_ret
      exact ⟨rfl, HB0.out.trans (HA3.out.mono (by omega))⟩
    · have hr : rr = true := by rw [HRB.out]; simp
      subst hr
      go_wp2_with fail
      go_ret
      exact ⟨rfl, HB0.out.trans (HA3.out.mono (by omega))⟩
  have e3 : (k == 3) = false := by simpa using h3
  by_cases h4 : k = 4
  · subst h4
    have hr : rr = decide (0 ≤ ix) := by rw [HRB.out]; simp
    subst hr
    go_enter Tryd.func19, Tryd.ntmps19
    go_wp2_with fail
    go_ret
    exact ⟨rfl, HB0.out⟩
  have e4 : (k == 4) = false := by simpa using h4
  have hr : rr = false := by rw [HRB.out]; simp [h0, h1, h2, h3, h4]
  subst hr
  go_enter Tryd.func19, Tryd.ntmps19
  go_wp2_with fail
  go_ret
  exact ⟨rfl, HB0.out⟩
end Go.Proofs.YtjnfbinomljocaaDoor
