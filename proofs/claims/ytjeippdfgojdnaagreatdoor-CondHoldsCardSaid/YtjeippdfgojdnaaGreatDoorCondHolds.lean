/- CondHolds: conditions hold for values as the document says; those that may not be are told. (Written by gen_holdslaw.py.) -/
import Derived.Test.YtjeippdfgojdnaaGreatDoorCondT
import Derived.Test.YtjeippdfgojdnaaGreatDoorCondR2
import Derived.Deep.RegionHeld
import Derived.Deep.DeepCutAuto
namespace Go.Proofs.YtjeippdfgojdnaaGreatDoor
open Go.RowKit Go.Shelf
open Go.Proofs
set_option maxRecDepth 100000

set_option maxHeartbeats 16000000 in
theorem condHolds_c (nm : ByteArray) (op k n : Int) (x : Nat) (s : ByteArray) (y : Bool) (k2 n2 : Int) (x2 : Nat) (s2 : ByteArray) (y2 : Bool) (hx : x < 18446744073709551616) (hx2 : x2 < 18446744073709551616) (hs : s.size ≤ 9223372036854775807) (hs2 : s2.size ≤ 9223372036854775807) (w : World) (hw : Wds w) :
    Calls Tryz.prog 3 #[cnd nm op k n x s y, val k2 n2 x2 s2 y2] w fun e w' => e = .returned (.bool true) ∧ Below w.heap.size w w' := by
  have B0 : Below w.heap.size w ((w.alloc (.cells (cnds nm op k n x s y) 26)).alloc (.cells (vals k2 n2 x2 s2 y2) 24)) := ((Below.refl _ _).alloc (Nat.le_refl _) _).alloc (by simp) _
  have HB0 := Lib.hid B0; clear B0
  have HF : Aside (∀ W, Below w.heap.size w W → Calls Tryz.prog 13 #[] W fun e w' => e = .returned (.bool true) ∧ Below W.heap.size W w') := fun W hW => fit6_c W (hw.on hW)
  have HL := Lib.hid (fun W => clight_c nm op k n x s y W)
  have HN := Lib.hid (fun W => name_c nm W)
  have HVR := Lib.hid (fun W => vright_c k n x s y W)
  have HR := Lib.hid (fun W => cright_c nm op k n x s y W)
  have HH := Lib.hid (fun W => holds_c nm op k n x s y ⟨#[]⟩ k2 n2 x2 s2 y2 hx hx2 W)
  have HRH := Lib.hid (fun W => rholds_c nm op k n x s y ⟨#[]⟩ k2 n2 x2 s2 y2 hx hx2 hs hs2 W)
  have HV := Lib.hid (fun W => cvoid_c nm op k n x s y W)
  have HRV := Lib.hid (fun W => rcvoid_c nm op k n x s y W)
  have HNO : Aside (cvoidB ⟨⟨nm, k, n, x, s, y⟩, op⟩ = true → holdsB ⟨⟨nm, k, n, x, s, y⟩, op⟩ ⟨⟨#[]⟩, k2, n2, x2, s2, y2⟩ = false) := fun h => void_no _ h
  have HKP : Aside (∀ W, Below (w.heap.size + 2) ((w.alloc (.cells (cnds nm op k n x s y) 26)).alloc (.cells (vals k2 n2 x2 s2 y2) 24)) W → W.cell? ⟨w.heap.size, 0, none⟩ = some (.string nm) ∧ W.cell? ⟨w.heap.size, 1, none⟩ = some (.int .i64 op) ∧ W.cell? ⟨w.heap.size, 2, none⟩ = some (.int .i64 k) ∧ W.cell? ⟨w.heap.size, 3, none⟩ = some (.int .i64 n) ∧ W.cell? ⟨w.heap.size, 4, none⟩ = some (.float .f64 x) ∧ W.cell? ⟨w.heap.size, 5, none⟩ = some (.string s) ∧ W.cell? ⟨w.heap.size, 6, none⟩ = some (.bool y) ∧ W.cell? ⟨w.heap.size + 1, 0, none⟩ = some (.int .i64 k2) ∧ W.cell? ⟨w.heap.size + 1, 1, none⟩ = some (.int .i64 n2) ∧ W.cell? ⟨w.heap.size + 1, 2, none⟩ = some (.float .f64 x2) ∧ W.cell? ⟨w.heap.size + 1, 3, none⟩ = some (.string s2) ∧ W.cell? ⟨w.heap.size + 1, 4, none⟩ = some (.bool y2)) := fun W hW => by
    obtain ⟨va, vb⟩ := two_lay hW
    exact ⟨va 0 _ rfl, va 1 _ rfl, va 2 _ rfl, va 3 _ rfl, va 4 _ rfl, va 5 _ rfl, va 6 _ rfl, vb 0 _ rfl, vb 1 _ rfl, vb 2 _ rfl, vb 3 _ rfl, vb 4 _ rfl⟩
  have hcr : crightB ⟨⟨nm, k, n, x, s, y⟩, op⟩ = (nameOk nm && ((decide (0 ≤ op) && decide (op ≤ 7)) && vrightB k s)) := by
    unfold crightB
    have : decide (op < 8) = decide (op ≤ 7) := decide_eq_decide.2 (by omega)
    simp only [this]
  generalize clightB nm s = l1 at *
  generalize crightB ⟨⟨nm, k, n, x, s, y⟩, op⟩ = r1 at *
  generalize nameOk nm = p1 at *
  generalize vrightB k s = p2 at *
  generalize holdsB ⟨⟨nm, k, n, x, s, y⟩, op⟩ ⟨⟨#[]⟩, k2, n2, x2, s2, y2⟩ = h1 at *
  generalize cvoidB ⟨⟨nm, k, n, x, s, y⟩, op⟩ = v1 at *
  have HCR : Aside (r1 = (p1 && ((decide (0 ≤ op) && decide (op ≤ 7)) && p2))) := hcr
  clear hw hx hx2 hs hs2 hcr
  go_enter Tryz.func3, Tryz.ntmps3
  go_wp2_with fail
  refine (HF.out _ HB0.out).mono ?_
  rintro e w1 ⟨rfl, hb⟩
  have hA1 : Below (w.heap.size + 2) ((w.alloc (.cells (cnds nm op k n x s y) 26)).alloc (.cells (vals k2 n2 x2 s2 y2) 24)) w1 := by simpa using hb
  have z1 : w.heap.size + 2 ≤ w1.heap.size := by have := hA1.size; simpa using this
  have HA1 := Lib.hid hA1; clear hb hA1
  obtain ⟨a0, a1, a2, a3, a4, a5, a6, b0, b1, b2, b3, b4⟩ := HKP.out _ HA1.out
  go_wp2_with fail
  clear a0 a1 a2 a3 a4 a5 a6 b0 b1 b2 b3 b4
  refine (HL.out _).mono ?_
  rintro e w2 ⟨rfl, hb⟩
  have hA2 := HA1.out.trans (hb.mono z1)
  have z2 : w.heap.size + 2 ≤ w2.heap.size := by have := hA2.size; simpa using this
  have HA2 := Lib.hid hA2; clear hb hA2
  obtain ⟨a0, a1, a2, a3, a4, a5, a6, b0, b1, b2, b3, b4⟩ := HKP.out _ HA2.out
  cases l1
  · go_wp2_with fail
    go_ret
    exact ⟨rfl, HB0.out.trans (HA2.out.mono (by omega))⟩
  by_cases h300 : (300 : Int) < (s2.size : Int)
  · go_wp2_with fail
    go_ret
    exact ⟨rfl, HB0.out.trans (HA2.out.mono (by omega))⟩
  clear HF HL
  go_upto_region 5 with fail
  go_cut [5] (fun s5 wx => s5 = .bool r1 ∧ Aside (Below (w.heap.size + 2) ((w.alloc (.cells (cnds nm op k n x s y) 26)).alloc (.cells (vals k2 n2 x2 s2 y2) 24)) wx))
  case first =>
    clear HR HH HRH HV HRV HNO
    cases p1
    · have hr : r1 = false := HCR.out
      subst hr
      go_wp2_with fail
      refine (HN.out _).mono ?_
      rintro e w3 ⟨rfl, rfl⟩
      go_wp2_with fail
      go_meet
      exact ⟨rfl, HA2.out⟩
    · by_cases o0 : 0 ≤ op
      · by_cases o7 : op ≤ 7
        · have hr : r1 = p2 := by rw [HCR.out, decide_eq_true o0, decide_eq_true o7]; rfl
          subst hr
          go_wp2_with fail
          refine (HN.out _).mono ?_
          rintro e w3 ⟨rfl, rfl⟩
          go_wp2_with fail
          clear a0 a1 a2 a3 a4 a5 a6 b0 b1 b2 b3 b4
          refine (HVR.out _).mono ?_
          rintro e w4 ⟨rfl, hb⟩
          have HA4 := Lib.hid (HA2.out.trans (hb.mono z2)); clear hb
          go_wp2_with fail
          go_meet
          exact ⟨rfl, HA4.out⟩
        · have hr : r1 = false := by rw [HCR.out, decide_eq_true o0, decide_eq_false o7]; rfl
          subst hr
          go_wp2_with fail
          refine (HN.out _).mono ?_
          rintro e w3 ⟨rfl, rfl⟩
          go_wp2_with fail
          go_meet
          exact ⟨rfl, HA2.out⟩
      · have hr : r1 = false := by rw [HCR.out, decide_eq_false o0]; rfl
        subst hr
        go_wp2_with fail
        refine (HN.out _).mono ?_
        rintro e w3 ⟨rfl, rfl⟩
        go_wp2_with fail
        go_meet
        exact ⟨rfl, HA2.out⟩
  case rest =>
  obtain ⟨rfl, hcA⟩ := hcut
  have HA3 := Lib.hid hcA.out
  clear hcA HN HVR HCR HA1 HA2 z1 z2 a0 a1 a2 a3 a4 a5 a6 b0 b1 b2 b3 b4
  have z3 : w.heap.size + 2 ≤ wc.heap.size := by have := HA3.out.size; simpa using this
  obtain ⟨a0, a1, a2, a3, a4, a5, a6, b0, b1, b2, b3, b4⟩ := HKP.out _ HA3.out
  have hrr : (r1 != r1) = false := by simp
  go_wp2_with fail
  clear a0 a1 a2 a3 a4 a5 a6 b0 b1 b2 b3 b4
  refine (HR.out _).mono ?_
  rintro e w5 ⟨rfl, hb⟩
  have hA5 := HA3.out.trans (hb.mono z3)
  have z5 : w.heap.size + 2 ≤ w5.heap.size := by have := hA5.size; simpa using this
  have HA5 := Lib.hid hA5; clear hb hA5
  obtain ⟨a0, a1, a2, a3, a4, a5, a6, b0, b1, b2, b3, b4⟩ := HKP.out _ HA5.out
  clear HR
  by_cases q1 : k2 < 0
  · go_wp2_with fail
    go_ret
    exact ⟨rfl, HB0.out.trans (HA5.out.mono (by omega))⟩
  have eq1 : (k2 < 0) = False := eq_false q1
  by_cases q2 : 3 < k2
  · go_wp2_with fail
    go_ret
    exact ⟨rfl, HB0.out.trans (HA5.out.mono (by omega))⟩
  have eq2 : (3 < k2) = False := eq_false q2
  by_cases q3 : k < 0
  · go_wp2_with fail
    go_ret
    exact ⟨rfl, HB0.out.trans (HA5.out.mono (by omega))⟩
  have eq3 : (k < 0) = False := eq_false q3
  by_cases q4 : 3 < k
  · go_wp2_with fail
    go_ret
    exact ⟨rfl, HB0.out.trans (HA5.out.mono (by omega))⟩
  have eq4 : (3 < k) = False := eq_false q4
  go_upto_region 10 with fail
  clear a0 a1 a2 a3 a4 a5 a6 b0 b1 b2 b3 b4 q1 q2 q3 q4 eq1 eq2 eq3 eq4 hrr h300 z5 HA3
  have HD : Aside (Below (w.heap.size + 2) ((w.alloc (.cells (cnds nm op k n x s y) 26)).alloc (.cells (vals k2 n2 x2 s2 y2) 24)) w5.drew) := HA5.out.trans ⟨rfl, rfl, rfl, Nat.le_refl _, fun _ _ => rfl⟩
  have hhe : (h1 == h1) = true := by simp
  cases v1
  · refine wp_region_held_drew (S := (fun w' => Below (w.heap.size + 2) ((w.alloc (.cells (cnds nm op k n x s y) 26)).alloc (.cells (vals k2 n2 x2 s2 y2) 24)) w' ∧ w'.cell? ⟨w.heap.size, 0, none⟩ = some (.string nm) ∧ w'.cell? ⟨w.heap.size, 1, none⟩ = some (.int .i64 op) ∧ w'.cell? ⟨w.heap.size, 2, none⟩ = some (.int .i64 k) ∧ w'.cell? ⟨w.heap.size, 3, none⟩ = some (.int .i64 n) ∧ w'.cell? ⟨w.heap.size, 4, none⟩ = some (.float .f64 x) ∧ w'.cell? ⟨w.heap.size, 5, none⟩ = some (.string s) ∧ w'.cell? ⟨w.heap.size, 6, none⟩ = some (.bool y) ∧ w'.cell? ⟨w.heap.size + 1, 0, none⟩ = some (.int .i64 k2) ∧ w'.cell? ⟨w.heap.size + 1, 1, none⟩ = some (.int .i64 n2) ∧ w'.cell? ⟨w.heap.size + 1, 2, none⟩ = some (.float .f64 x2) ∧ w'.cell? ⟨w.heap.size + 1, 3, none⟩ = some (.string s2) ∧ w'.cell? ⟨w.heap.size + 1, 4, none⟩ = some (.bool y2))) (by kernel_rfl) ⟨HD.out, HKP.out _ HD.out⟩ (fun hHeld => ?_)
    refine wpAnyH_take (i := 0) (v := ?v1) rfl (by kernel_rfl) (by kernel_rfl) (by kernel_rfl) (fun _ _ _ h => h) (Or.inl ⟨by rfl, ?hy1⟩) (by assumption) ?_
    case hy1 => (intro w hSw; (try dsimp only at hSw); go_simp; first | done | with_reducible rfl)
    refine wpAnyH_take (i := 1) (v := ?v2) rfl (by kernel_rfl) (by kernel_rfl) (by kernel_rfl) (fun _ _ _ h => h) (Or.inl ⟨by rfl, ?hy2⟩) (by assumption) ?_
    case hy2 => (intro w hSw; (try dsimp only at hSw); go_simp; first | done | with_reducible rfl)
    refine wpAnyH_take (i := 3) (v := ?v3) rfl (by kernel_rfl) (by kernel_rfl) (by kernel_rfl) (fun _ _ _ h => h) (Or.inl ⟨by rfl, ?hy3⟩) (by assumption) ?_
    case hy3 => (intro w hSw; (try dsimp only at hSw); go_simp; first | done | with_reducible rfl)
    refine wpAnyH_take (i := 4) (v := ?v4) rfl (by kernel_rfl) (by kernel_rfl) (by kernel_rfl) (fun _ _ _ h => h) (Or.inl ⟨by rfl, ?hy4⟩) (by assumption) ?_
    case hy4 => (intro w hSw; (try dsimp only at hSw); go_simp; first | done | with_reducible rfl)
    refine wpAnyH_ready (rs := [2]) (by kernel_rfl) (by simp) ?_
    refine AllReadyH.cons rfl (fun K hK => ?_) AllReadyH.nil
    go_simp
    refine (HH.out _).mono ?_
    rintro e w'' ⟨rfl, hb⟩
    have HE1 : Aside (Below (w.heap.size + 2) ((w.alloc (.cells (cnds nm op k n x s y) 26)).alloc (.cells (vals k2 n2 x2 s2 y2) 24)) w'') := HD.out.trans (hb.mono (by have := HD.out.size; simpa using this))
    clear hb
    try dsimp only
    refine hK.out _ _ ⟨HE1.out, HKP.out _ HE1.out⟩ (fun hHeld => ?_)
    clear hK K
    refine wpAnyH_ready (rs := [5]) (by kernel_rfl) (by simp) ?_
    refine AllReadyH.cons rfl (fun K hK => ?_) AllReadyH.nil
    go_simp
    refine (HRH.out _).mono ?_
    rintro e w'' ⟨rfl, hb⟩
    have HE2 : Aside (Below (w.heap.size + 2) ((w.alloc (.cells (cnds nm op k n x s y) 26)).alloc (.cells (vals k2 n2 x2 s2 y2) 24)) w'') := HE1.out.trans (hb.mono (by have := HE1.out.size; simpa using this))
    clear hb
    try dsimp only
    refine hK.out _ _ ⟨HE2.out, HKP.out _ HE2.out⟩ (fun hHeld => ?_)
    clear hK K
    refine wpAnyH_take (i := 6) (v := ?v5) rfl (by kernel_rfl) (by kernel_rfl) (by kernel_rfl) (fun _ _ _ h => h) (Or.inl ⟨by rfl, ?hy5⟩) (by assumption) ?_
    case hy5 => (intro w hSw; (try dsimp only at hSw); go_simp; first | done | with_reducible rfl)
    refine wpAnyH_take (i := 7) (v := ?v6) rfl (by kernel_rfl) (by kernel_rfl) (by kernel_rfl) (fun _ _ _ h => h) (Or.inl ⟨by rfl, ?hy6⟩) (by assumption) ?_
    case hy6 => (intro w hSw; (try dsimp only at hSw); go_simp; first | done | with_reducible rfl)
    refine wpAnyH_take (i := 8) (v := ?v7) rfl (by kernel_rfl) (by kernel_rfl) (by kernel_rfl) (fun _ _ _ h => h) (Or.inl ⟨by rfl, ?hy7⟩) (by assumption) ?_
    case hy7 => (intro w hSw; (try dsimp only at hSw); go_simp; first | done | with_reducible rfl)
    refine wpAnyH_take (i := 10) (v := ?v8) rfl (by kernel_rfl) (by kernel_rfl) (by kernel_rfl) (fun _ _ _ h => h) (Or.inl ⟨by rfl, ?hy8⟩) (by assumption) ?_
    case hy8 => (intro w hSw; (try dsimp only at hSw); go_simp; first | done | with_reducible rfl)
    refine wpAnyH_ready (rs := [9]) (by kernel_rfl) (by simp) ?_
    refine AllReadyH.cons rfl (fun K hK => ?_) AllReadyH.nil
    go_simp
    refine (HV.out _).mono ?_
    rintro e w'' ⟨rfl, hb⟩
    have HE3 : Aside (Below (w.heap.size + 2) ((w.alloc (.cells (cnds nm op k n x s y) 26)).alloc (.cells (vals k2 n2 x2 s2 y2) 24)) w'') := HE2.out.trans (hb.mono (by have := HE2.out.size; simpa using this))
    clear hb
    try dsimp only
    refine hK.out _ _ ⟨HE3.out, HKP.out _ HE3.out⟩ (fun hHeld => ?_)
    clear hK K
    refine wpAnyH_ready (rs := [11]) (by kernel_rfl) (by simp) ?_
    refine AllReadyH.cons rfl (fun K hK => ?_) AllReadyH.nil
    go_simp
    refine (HRV.out _).mono ?_
    rintro e w'' ⟨rfl, hb⟩
    have HE4 : Aside (Below (w.heap.size + 2) ((w.alloc (.cells (cnds nm op k n x s y) 26)).alloc (.cells (vals k2 n2 x2 s2 y2) 24)) w'') := HE3.out.trans (hb.mono (by have := HE3.out.size; simpa using this))
    clear hb
    try dsimp only
    refine hK.out _ _ ⟨HE4.out, HKP.out _ HE4.out⟩ (fun hHeld => ?_)
    clear hK K
    refine wpAnyH_take (i := 12) (v := ?v9) rfl (by kernel_rfl) (by kernel_rfl) (by kernel_rfl) (fun _ _ _ h => h) (Or.inl ⟨by rfl, ?hy9⟩) (by assumption) ?_
    case hy9 => (intro w hSw; (try dsimp only at hSw); go_simp; first | done | with_reducible rfl)
    refine wpAnyH_take (i := 13) (v := ?v10) rfl (by kernel_rfl) (by kernel_rfl) (by kernel_rfl) (fun _ _ _ h => h) (Or.inl ⟨by rfl, ?hy10⟩) (by assumption) ?_
    case hy10 => (intro w hSw; (try dsimp only at hSw); go_simp; first | done | with_reducible rfl)
    refine wpAnyH_take (i := 14) (v := ?v11) rfl (by kernel_rfl) (by kernel_rfl) (by kernel_rfl) (fun _ _ _ h => h) (Or.inl ⟨by rfl, ?hy11⟩) (by assumption) ?_
    case hy11 => (intro w hSw; (try dsimp only at hSw); go_simp; first | done | with_reducible rfl)
    refine wpAnyH_take (i := 15) (v := ?v12) rfl (by kernel_rfl) (by kernel_rfl) (by kernel_rfl) (fun _ _ _ h => h) (Or.inl ⟨by rfl, ?hy12⟩) (by assumption) ?_
    case hy12 => (intro w hSw; (try dsimp only at hSw); go_simp; first | done | with_reducible rfl)
    refine wpAnyH_ready (rs := [16]) (by kernel_rfl) (by simp) ?_
    refine AllReadyH.cons rfl (fun K hK => ?_) AllReadyH.nil
    go_simp
    refine (HV.out _).mono ?_
    rintro e w'' ⟨rfl, hb⟩
    have HE5 : Aside (Below (w.heap.size + 2) ((w.alloc (.cells (cnds nm op k n x s y) 26)).alloc (.cells (vals k2 n2 x2 s2 y2) 24)) w'') := HE4.out.trans (hb.mono (by have := HE4.out.size; simpa using this))
    clear hb
    try dsimp only
    refine hK.out _ _ ⟨HE5.out, HKP.out _ HE5.out⟩ (fun hHeld => ?_)
    clear hK K
    refine wpAnyH_take (i := 17) (v := ?v13) rfl (by kernel_rfl) (by kernel_rfl) (by kernel_rfl) (fun _ _ _ h => h) (Or.inl ⟨by rfl, ?hy13⟩) (by assumption) ?_
    case hy13 => (intro w hSw; (try dsimp only at hSw); go_simp; first | done | with_reducible rfl)
    refine wpAnyH_take (i := 18) (v := ?v14) rfl (by kernel_rfl) (by kernel_rfl) (by kernel_rfl) (fun _ _ _ h => h) (Or.inl ⟨by rfl, ?hy14⟩) (by assumption) ?_
    case hy14 => (intro w hSw; (try dsimp only at hSw); go_simp; first | done | with_reducible rfl)
    refine wpAnyH_take (i := 19) (v := undef) rfl (by kernel_rfl) (by kernel_rfl) (by kernel_rfl) (fun _ _ _ h => h) (Or.inr ⟨by rfl, rfl⟩) (by assumption) ?_
    refine wpAnyH_take (i := 20) (v := undef) rfl (by kernel_rfl) (by kernel_rfl) (by kernel_rfl) (fun _ _ _ h => h) (Or.inr ⟨by rfl, rfl⟩) (by assumption) ?_
    refine wpAnyH_take (i := 21) (v := undef) rfl (by kernel_rfl) (by kernel_rfl) (by kernel_rfl) (fun _ _ _ h => h) (Or.inr ⟨by rfl, rfl⟩) (by assumption) ?_
    refine wpAnyH_take (i := 22) (v := undef) rfl (by kernel_rfl) (by kernel_rfl) (by kernel_rfl) (fun _ _ _ h => h) (Or.inr ⟨by rfl, rfl⟩) (by assumption) ?_
    refine wpAnyH_take (i := 23) (v := ?v15) rfl (by kernel_rfl) (by kernel_rfl) (by kernel_rfl) (fun _ _ _ h => h) (Or.inl ⟨by rfl, ?hy15⟩) (by assumption) ?_
    case hy15 => (intro w hSw; (try dsimp only at hSw); go_simp; first | done | with_reducible rfl)
    refine wpAnyH_take (i := 24) (v := ?v16) rfl (by kernel_rfl) (by kernel_rfl) (by kernel_rfl) (fun _ _ _ h => h) (Or.inl ⟨by rfl, ?hy16⟩) (by assumption) ?_
    case hy16 => (intro w hSw; (try dsimp only at hSw); go_simp; first | done | with_reducible rfl)
    refine wpAnyH_take (i := 25) (v := ?v17) rfl (by kernel_rfl) (by kernel_rfl) (by kernel_rfl) (fun _ _ _ h => h) (Or.inl ⟨by rfl, ?hy17⟩) (by assumption) ?_
    case hy17 => (intro w hSw; (try dsimp only at hSw); go_simp; first | done | with_reducible rfl)
    refine wpAnyH_done (by kernel_rfl) ?_ _
    simp only [Act.put, List.getElem_toArray, List.getElem_cons_zero, List.getElem_cons_succ, List.setIfInBounds_toArray, List.set_cons_zero, List.set_cons_succ]
    go_wp2_with fail
    go_ret
    exact ⟨rfl, HB0.out.trans (HE5.out.mono (by omega))⟩
  · obtain rfl : h1 = false := by have := HNO.out; simpa using this
    first
    | go_region_held (fun w' => Below (w.heap.size + 2) ((w.alloc (.cells (cnds nm op k n x s y) 26)).alloc (.cells (vals k2 n2 x2 s2 y2) 24)) w' ∧ w'.cell? ⟨w.heap.size, 0, none⟩ = some (.string nm) ∧ w'.cell? ⟨w.heap.size, 1, none⟩ = some (.int .i64 op) ∧ w'.cell? ⟨w.heap.size, 2, none⟩ = some (.int .i64 k) ∧ w'.cell? ⟨w.heap.size, 3, none⟩ = some (.int .i64 n) ∧ w'.cell? ⟨w.heap.size, 4, none⟩ = some (.float .f64 x) ∧ w'.cell? ⟨w.heap.size, 5, none⟩ = some (.string s) ∧ w'.cell? ⟨w.heap.size, 6, none⟩ = some (.bool y) ∧ w'.cell? ⟨w.heap.size + 1, 0, none⟩ = some (.int .i64 k2) ∧ w'.cell? ⟨w.heap.size + 1, 1, none⟩ = some (.int .i64 n2) ∧ w'.cell? ⟨w.heap.size + 1, 2, none⟩ = some (.float .f64 x2) ∧ w'.cell? ⟨w.heap.size + 1, 3, none⟩ = some (.string s2) ∧ w'.cell? ⟨w.heap.size + 1, 4, none⟩ = some (.bool y2))
        (first | exact ⟨HE6.out, HKP.out _ HE6.out⟩ | exact ⟨HE5.out, HKP.out _ HE5.out⟩ | exact ⟨HE4.out, HKP.out _ HE4.out⟩ | exact ⟨HE3.out, HKP.out _ HE3.out⟩ | exact ⟨HE2.out, HKP.out _ HE2.out⟩ | exact ⟨HE1.out, HKP.out _ HE1.out⟩ | exact ⟨HD.out, HKP.out _ HD.out⟩)
        (first
          | (go_at_call 19; refine (HRH.out _).mono ?_; rintro e w'' ⟨rfl, hb⟩; (first | have HE6 : Aside (Below (w.heap.size + 2) ((w.alloc (.cells (cnds nm op k n x s y) 26)).alloc (.cells (vals k2 n2 x2 s2 y2) 24)) w'') := HE5.out.trans (hb.mono (by have := HE5.out.size; simpa using this)) | have HE5 : Aside (Below (w.heap.size + 2) ((w.alloc (.cells (cnds nm op k n x s y) 26)).alloc (.cells (vals k2 n2 x2 s2 y2) 24)) w'') := HE4.out.trans (hb.mono (by have := HE4.out.size; simpa using this)) | have HE4 : Aside (Below (w.heap.size + 2) ((w.alloc (.cells (cnds nm op k n x s y) 26)).alloc (.cells (vals k2 n2 x2 s2 y2) 24)) w'') := HE3.out.trans (hb.mono (by have := HE3.out.size; simpa using this)) | have HE3 : Aside (Below (w.heap.size + 2) ((w.alloc (.cells (cnds nm op k n x s y) 26)).alloc (.cells (vals k2 n2 x2 s2 y2) 24)) w'') := HE2.out.trans (hb.mono (by have := HE2.out.size; simpa using this)) | have HE2 : Aside (Below (w.heap.size + 2) ((w.alloc (.cells (cnds nm op k n x s y) 26)).alloc (.cells (vals k2 n2 x2 s2 y2) 24)) w'') := HE1.out.trans (hb.mono (by have := HE1.out.size; simpa using this)) | have HE1 : Aside (Below (w.heap.size + 2) ((w.alloc (.cells (cnds nm op k n x s y) 26)).alloc (.cells (vals k2 n2 x2 s2 y2) 24)) w'') := HD.out.trans (hb.mono (by have := HD.out.size; simpa using this))); clear hb)
          | (go_at_call 21; refine (HRV.out _).mono ?_; rintro e w'' ⟨rfl, hb⟩; (first | have HE6 : Aside (Below (w.heap.size + 2) ((w.alloc (.cells (cnds nm op k n x s y) 26)).alloc (.cells (vals k2 n2 x2 s2 y2) 24)) w'') := HE5.out.trans (hb.mono (by have := HE5.out.size; simpa using this)) | have HE5 : Aside (Below (w.heap.size + 2) ((w.alloc (.cells (cnds nm op k n x s y) 26)).alloc (.cells (vals k2 n2 x2 s2 y2) 24)) w'') := HE4.out.trans (hb.mono (by have := HE4.out.size; simpa using this)) | have HE4 : Aside (Below (w.heap.size + 2) ((w.alloc (.cells (cnds nm op k n x s y) 26)).alloc (.cells (vals k2 n2 x2 s2 y2) 24)) w'') := HE3.out.trans (hb.mono (by have := HE3.out.size; simpa using this)) | have HE3 : Aside (Below (w.heap.size + 2) ((w.alloc (.cells (cnds nm op k n x s y) 26)).alloc (.cells (vals k2 n2 x2 s2 y2) 24)) w'') := HE2.out.trans (hb.mono (by have := HE2.out.size; simpa using this)) | have HE2 : Aside (Below (w.heap.size + 2) ((w.alloc (.cells (cnds nm op k n x s y) 26)).alloc (.cells (vals k2 n2 x2 s2 y2) 24)) w'') := HE1.out.trans (hb.mono (by have := HE1.out.size; simpa using this)) | have HE1 : Aside (Below (w.heap.size + 2) ((w.alloc (.cells (cnds nm op k n x s y) 26)).alloc (.cells (vals k2 n2 x2 s2 y2) 24)) w'') := HD.out.trans (hb.mono (by have := HD.out.size; simpa using this))); clear hb)
          | (go_at_call 18; refine (HH.out _).mono ?_; rintro e w'' ⟨rfl, hb⟩; (first | have HE6 : Aside (Below (w.heap.size + 2) ((w.alloc (.cells (cnds nm op k n x s y) 26)).alloc (.cells (vals k2 n2 x2 s2 y2) 24)) w'') := HE5.out.trans (hb.mono (by have := HE5.out.size; simpa using this)) | have HE5 : Aside (Below (w.heap.size + 2) ((w.alloc (.cells (cnds nm op k n x s y) 26)).alloc (.cells (vals k2 n2 x2 s2 y2) 24)) w'') := HE4.out.trans (hb.mono (by have := HE4.out.size; simpa using this)) | have HE4 : Aside (Below (w.heap.size + 2) ((w.alloc (.cells (cnds nm op k n x s y) 26)).alloc (.cells (vals k2 n2 x2 s2 y2) 24)) w'') := HE3.out.trans (hb.mono (by have := HE3.out.size; simpa using this)) | have HE3 : Aside (Below (w.heap.size + 2) ((w.alloc (.cells (cnds nm op k n x s y) 26)).alloc (.cells (vals k2 n2 x2 s2 y2) 24)) w'') := HE2.out.trans (hb.mono (by have := HE2.out.size; simpa using this)) | have HE2 : Aside (Below (w.heap.size + 2) ((w.alloc (.cells (cnds nm op k n x s y) 26)).alloc (.cells (vals k2 n2 x2 s2 y2) 24)) w'') := HE1.out.trans (hb.mono (by have := HE1.out.size; simpa using this)) | have HE1 : Aside (Below (w.heap.size + 2) ((w.alloc (.cells (cnds nm op k n x s y) 26)).alloc (.cells (vals k2 n2 x2 s2 y2) 24)) w'') := HD.out.trans (hb.mono (by have := HD.out.size; simpa using this))); clear hb)
          | (go_at_call 20; refine (HV.out _).mono ?_; rintro e w'' ⟨rfl, hb⟩; (first | have HE6 : Aside (Below (w.heap.size + 2) ((w.alloc (.cells (cnds nm op k n x s y) 26)).alloc (.cells (vals k2 n2 x2 s2 y2) 24)) w'') := HE5.out.trans (hb.mono (by have := HE5.out.size; simpa using this)) | have HE5 : Aside (Below (w.heap.size + 2) ((w.alloc (.cells (cnds nm op k n x s y) 26)).alloc (.cells (vals k2 n2 x2 s2 y2) 24)) w'') := HE4.out.trans (hb.mono (by have := HE4.out.size; simpa using this)) | have HE4 : Aside (Below (w.heap.size + 2) ((w.alloc (.cells (cnds nm op k n x s y) 26)).alloc (.cells (vals k2 n2 x2 s2 y2) 24)) w'') := HE3.out.trans (hb.mono (by have := HE3.out.size; simpa using this)) | have HE3 : Aside (Below (w.heap.size + 2) ((w.alloc (.cells (cnds nm op k n x s y) 26)).alloc (.cells (vals k2 n2 x2 s2 y2) 24)) w'') := HE2.out.trans (hb.mono (by have := HE2.out.size; simpa using this)) | have HE2 : Aside (Below (w.heap.size + 2) ((w.alloc (.cells (cnds nm op k n x s y) 26)).alloc (.cells (vals k2 n2 x2 s2 y2) 24)) w'') := HE1.out.trans (hb.mono (by have := HE1.out.size; simpa using this)) | have HE1 : Aside (Below (w.heap.size + 2) ((w.alloc (.cells (cnds nm op k n x s y) 26)).alloc (.cells (vals k2 n2 x2 s2 y2) 24)) w'') := HD.out.trans (hb.mono (by have := HD.out.size; simpa using this))); clear hb))
    | fail "region"
    all_goals
      go_wp2_with fail
      go_ret
      exact ⟨rfl, HB0.out.trans (HE6.out.mono (by omega))⟩
end Go.Proofs.YtjeippdfgojdnaaGreatDoor
