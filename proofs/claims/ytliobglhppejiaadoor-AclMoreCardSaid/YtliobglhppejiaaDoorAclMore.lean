/- AclMore: more rules let a principal do no less. -/
import Derived.Test.YtliobglhppejiaaDoorAcW
import Derived.Test.YtliobglhppejiaaDoorAcS
namespace Go.Proofs.YtliobglhppejiaaDoor
open Go.RowKit Go.Shelf
open Go.Proofs
set_option maxRecDepth 100000
attribute [local go_sem ↓] append_pre

theorem homeB_more (L M : List Ru) (tn : Int) (who : ByteArray) (h : homeB L tn who = true) : homeB (L ++ M) tn who = true := by
  unfold homeB homeR at *
  rw [List.reverse_append, List.find?_append]
  cases hf : M.reverse.find? (fun r => ofR r 0 tn who) with
  | some r => rfl
  | none => simpa using h
theorem mayR_more (L M : List Ru) (k tn : Int) (who : ByteArray) (q : Ru → Bool) (h : mayR L k tn who q = true) : mayR (L ++ M) k tn who q = true := by
  unfold mayR at *
  rw [Bool.and_eq_true] at h ⊢
  exact ⟨homeB_more L M tn who h.1, by rw [List.any_append, h.2]; rfl⟩
theorem light_len {rs : List Ru} (h : lightR rs = true) : rs.length ≤ 80 := by
  unfold lightR at h
  simp only [Bool.and_eq_true, decide_eq_true_eq] at h
  exact h.2

set_option maxHeartbeats 16000000 in
theorem aclMore_c (ao : Option Addr) (cap : Nat) (rs : List Ru) (ao2 : Option Addr) (cap2 : Nat) (rs2 : List Ru) (sc : ByteArray) (co : Option Addr) (ccap : Nat) (cs : List Cn) (w : World) (hm : MaxI w) (hR : RulesB w.heap.size w ao rs) (hI : ∀ q ∈ rs, RuIs MB w q) (hb : rs.length * 104 ≤ MB) (hR2 : RulesB w.heap.size w ao2 rs2) (hI2 : ∀ q ∈ rs2, RuIs MB w q) (hb2 : rs2.length * 104 ≤ MB) (hF : FilIs MB w sc co cs) :
    Calls Tryd.prog 6 #[.slice ao rs.length cap, .slice ao2 rs2.length cap2, fil sc co cs.length ccap] w fun e w' => e = .returned (.bool true) ∧ Below w.heap.size w w' := by
  have hlc : cs.length ≤ 4611686018427387904 := by have := hF.2.2.1; unfold MB at this; omega
  have hlr : rs.length ≤ 4611686018427387904 := by unfold MB at hb; omega
  have hlr2 : rs2.length ≤ 4611686018427387904 := by unfold MB at hb2; omega
  have HFT : Aside (∀ W, Below w.heap.size w W → Calls Tryd.prog 7 #[] W fun e w' => e = .returned (.bool true) ∧ Below W.heap.size W w') := fun W hW => fit10_c W (hm.below hW)
  have HLT : Aside (∀ W, Below w.heap.size w W → Calls Tryd.prog 8 #[.slice ao rs.length cap] W fun e w' => e = .returned (.bool (lightR rs)) ∧ Below W.heap.size W w') := fun W hW => light10_c ao cap rs W (hR.on hW) hlr (fun r hr => (ruIs_ok2 (hI r hr)).2)
  have HLT2 : Aside (∀ W, Below w.heap.size w W → Calls Tryd.prog 8 #[.slice ao2 rs2.length cap2] W fun e w' => e = .returned (.bool (lightR rs2)) ∧ Below W.heap.size W w') := fun W hW => light10_c ao2 cap2 rs2 W (hR2.on hW) hlr2 (fun r hr => (ruIs_ok2 (hI2 r hr)).2)
  have HLF : Aside (∀ W, Below w.heap.size w W → Calls Tryd.prog 19 #[fil sc co cs.length ccap] W fun e w' => e = .returned (.bool (lightF sc cs)) ∧ Below W.heap.size W w') := fun W hW => flight_c sc co ccap cs W (hF.1.on hW) hlc
  have HFR : Aside (lightF sc cs = true → ∀ W, Below w.heap.size w W → Calls Tryd.prog 10 #[fil sc co cs.length ccap] W fun e w' => e = .returned (.bool (rightF sc cs)) ∧ Below W.heap.size W w') := fun h W hW => fright_c sc co ccap cs W (hF.1.on hW) hlc (Nat.le_trans (light_all (by decide) h hF).1 (by decide)) (hm.below hW)
  have HRS : Aside (lightR rs = true → ∀ W, Below w.heap.size w W → Calls Tryd.prog 13 #[.slice ao rs.length cap] W fun e w' => ∃ bo bcap, e = .returned (.slice bo (rs.filter rrightB).length bcap) ∧ Aside (RowsN W.heap.size w' bo (rs.filter rrightB) ∧ Below W.heap.size W w')) := fun h W hW => by
    obtain ⟨h1, h2⟩ := lightR_all h hI
    exact rights_c ao cap rs W (hR.on hW) (by omega) (fun r hr => ⟨(ruIs_ok2 (hI r hr)).2, Nat.le_trans (h2 r hr).1 (by decide)⟩) (hm.below hW)
  have HRS2 : Aside (lightR rs2 = true → ∀ W, Below w.heap.size w W → Calls Tryd.prog 13 #[.slice ao2 rs2.length cap2] W fun e w' => ∃ bo bcap, e = .returned (.slice bo (rs2.filter rrightB).length bcap) ∧ Aside (RowsN W.heap.size w' bo (rs2.filter rrightB) ∧ Below W.heap.size W w')) := fun h W hW => by
    obtain ⟨h1, h2⟩ := lightR_all h hI2
    exact rights_c ao2 cap2 rs2 W (hR2.on hW) (by omega) (fun r hr => ⟨(ruIs_ok2 (hI2 r hr)).2, Nat.le_trans (h2 r hr).1 (by decide)⟩) (hm.below hW)
  obtain ⟨L, hL⟩ : ∃ L, L = rs.filter rrightB := ⟨_, rfl⟩
  obtain ⟨M, hM⟩ : ∃ M, M = rs2.filter rrightB := ⟨_, rfl⟩
  have hLm : ∀ r ∈ L, r ∈ rs ∧ rrightB r = true := fun r hr => by rw [hL] at hr; exact List.mem_filter.1 hr
  have hMm : ∀ r ∈ M, r ∈ rs2 ∧ rrightB r = true := fun r hr => by rw [hM] at hr; exact List.mem_filter.1 hr
  have hAm : ∀ r ∈ L ++ M, RuIs MB w r ∧ rrightB r = true ∧ CondsB w.heap.size w r.co r.cs := fun r hr => by
    rcases List.mem_append.1 hr with h | h
    · exact ⟨hI r (hLm r h).1, (hLm r h).2, hR.2 r (hLm r h).1⟩
    · exact ⟨hI2 r (hMm r h).1, (hMm r h).2, hR2.2 r (hMm r h).1⟩
  have HLN : Aside (lightR rs = true → lightR rs2 = true → L.length ≤ 80 ∧ M.length ≤ 80) := fun h h2 => by
    rw [hL, hM]; exact ⟨Nat.le_trans (List.length_filter_le _ _) (light_len h), Nat.le_trans (List.length_filter_le _ _) (light_len h2)⟩
  have HCA : Aside (∀ W, Below w.heap.size w W → ∀ r ∈ L ++ M, CondsB W.heap.size W r.co r.cs) := fun W h r hr => (hAm r hr).2.2.on h
  have HMO : Aside (∀ (K : List Ru), (∀ r ∈ K, r ∈ L ++ M) → K.length ≤ 200 → ∀ (bo : Option Addr) (bcap : Nat) (W : World) (who : ByteArray), Below w.heap.size w W → RulesB W.heap.size W bo K → Calls Tryd.prog 20 #[.slice bo K.length bcap, .int .i64 0, .string who, fil sc co cs.length ccap] W fun e w' => e = .returned (.bool (mayObs K 0 who sc cs)) ∧ Below W.heap.size W w') := fun K hK hKn bo bcap W who hW hRW =>
    mayObserve_c bo bcap K 0 who sc co ccap cs W hRW (by omega) (fun r hr hk => ruIs_ok (hAm r (hK r hr)).1 (hAm r (hK r hr)).2.1 (Or.inr hk)) (hF.1.on hW) (fun c hc => (hF.2.1 c hc).1) hlc
  have HMP : Aside (∀ (K : List Ru), (∀ r ∈ K, r ∈ L ++ M) → K.length ≤ 200 → ∀ (bo : Option Addr) (bcap : Nat) (W : World) (who : ByteArray), Below w.heap.size w W → RulesB W.heap.size W bo K → Calls Tryd.prog 17 #[.slice bo K.length bcap, .int .i64 0, .string who, evt sc none 0 0] W fun e w' => e = .returned (.bool (mayPub K 0 who sc [])) ∧ Below W.heap.size W w') := fun K hK hKn bo bcap W who hW hRW =>
    mayPublish_c bo bcap K 0 who sc none 0 [] W hRW (by omega) (fun r hr hk => ruIs_ok (hAm r (hK r hr)).1 (hAm r (hK r hr)).2.1 (Or.inl hk)) (Or.inl rfl) (by simp) (by simp)
  have HGO : Aside (∀ who, mayObs L 0 who sc cs = true → mayObs (L ++ M) 0 who sc cs = true) := fun who h => mayR_more L M 2 0 who _ h
  have HGP : Aside (∀ who, mayPub L 0 who sc [] = true → mayPub (L ++ M) 0 who sc [] = true) := fun who h => mayR_more L M 1 0 who _ h
  rw [← hL] at HRS
  rw [← hM] at HRS2
  obtain ⟨mo, hmo⟩ : ∃ mo : List Ru → ByteArray → Bool, ∀ K who, mo K who = mayObs K 0 who sc cs := ⟨_, fun _ _ => rfl⟩
  obtain ⟨mp, hmp⟩ : ∃ mp : List Ru → ByteArray → Bool, ∀ K who, mp K who = mayPub K 0 who sc [] := ⟨_, fun _ _ => rfl⟩
  simp only [← hmo, ← hmp] at HMO HMP HGO HGP
  generalize lightR rs = lt at *
  generalize lightR rs2 = lt2 at *
  generalize lightF sc cs = lf at *
  generalize rightF sc cs = rf at *
  generalize cs.length = n at *
  generalize rs.length = nr at *
  generalize rs2.length = nr2 at *
  have z2 : w.heap.size + 1 ≤ (w.alloc (.cells #[.string sc, .slice co n ccap] 24)).heap.size := by simp
  have HB0 : Aside (Below w.heap.size w (w.alloc (.cells #[.string sc, .slice co n ccap] 24))) := (Below.refl _ _).alloc (Nat.le_refl _) _
  have HKP : Aside (∀ W, Below (w.heap.size + 1) (w.alloc (.cells #[.string sc, .slice co n ccap] 24)) W → W.cell? ⟨w.heap.size, 0, none⟩ = some (.string sc) ∧ W.cell? ⟨w.heap.size, 1, none⟩ = some (.slice co n ccap)) := fun W hW => ⟨one_lay hW 0 _ rfl, one_lay hW 1 _ rfl⟩
  clear hm hR hI hb hR2 hI2 hb2 hF hlc hlr hlr2 hLm hMm hAm hL hM hmo hmp
  go_enter Tryd.func6, Tryd.ntmps6
  go_wp2_with fail
  generalize hW0 : (w.alloc (.cells #[.string sc, .slice co n ccap] 24)) = w0 at *
  refine (HFT.out _ HB0.out).mono ?_
  rintro e w1 ⟨rfl, hb⟩
  have HA1 : Aside (Below (w.heap.size + 1) w0 w1) := hb.mono z2
  clear hb HFT
  go_wp2_with fail
  refine (HLT.out _ (HB0.out.trans (HA1.out.mono (by omega)))).mono ?_
  rintro e w2 ⟨rfl, hb⟩
  have HA2 : Aside (Below (w.heap.size + 1) w0 w2) := HA1.out.trans (hb.mono (Nat.le_trans z2 HA1.out.size))
  clear hb
  cases lt
  · go_wp2_with fail
    go_ret
    exact ⟨rfl, HB0.out.trans (HA2.out.mono (by omega))⟩
  go_wp2_with fail
  refine (HLT2.out _ (HB0.out.trans (HA2.out.mono (by omega)))).mono ?_
  rintro e w3 ⟨rfl, hb⟩
  have HA3 : Aside (Below (w.heap.size + 1) w0 w3) := HA2.out.trans (hb.mono (Nat.le_trans z2 HA2.out.size))
  clear hb
  cases lt2
  · go_wp2_with fail
    go_ret
    exact ⟨rfl, HB0.out.trans (HA3.out.mono (by omega))⟩
  obtain ⟨x0, x1⟩ := HKP.out _ HA3.out
  go_wp2_with fail
  clear x0 x1
  refine (HLF.out _ (HB0.out.trans (HA3.out.mono (by omega)))).mono ?_
  rintro e w4 ⟨rfl, hb⟩
  have HA4 : Aside (Below (w.heap.size + 1) w0 w4) := HA3.out.trans (hb.mono (Nat.le_trans z2 HA3.out.size))
  clear hb
  cases lf
  · go_wp2_with fail
    go_ret
    exact ⟨rfl, HB0.out.trans (HA4.out.mono (by omega))⟩
  obtain ⟨x0, x1⟩ := HKP.out _ HA4.out
  have HFR' := Lib.hid (HFR.out (by first | trivial | rfl))
  clear HFR
  go_wp2_with fail
  clear x0 x1
  refine (HFR'.out _ (HB0.out.trans (HA4.out.mono (by omega)))).mono ?_
  rintro e w5 ⟨rfl, hb⟩
  have HA5 : Aside (Below (w.heap.size + 1) w0 w5) := HA4.out.trans (hb.mono (Nat.le_trans z2 HA4.out.size))
  clear hb
  cases rf
  · go_wp2_with fail
    go_ret
    exact ⟨rfl, HB0.out.trans (HA5.out.mono (by omega))⟩
  have HRS' := Lib.hid (HRS.out (by first | trivial | rfl))
  have HRS2' := Lib.hid (HRS2.out (by first | trivial | rfl))
  have HLN' := Lib.hid (HLN.out (by first | trivial | rfl) (by first | trivial | rfl))
  clear HRS HRS2 HLN HLT HLT2 HLF HFR' HA1 HA2 HA3 HA4
  go_wp2_with fail
  refine (HRS'.out _ (HB0.out.trans (HA5.out.mono (by omega)))).mono ?_
  rintro e w6 ⟨bo, bcap, rfl, HN6⟩
  have HA6 : Aside (Below (w.heap.size + 1) w0 w6) := HA5.out.trans (HN6.out.2.mono (Nat.le_trans z2 HA5.out.size))
  have HR6 : Aside (RowsN 0 w6 bo L) := HN6.out.1.down (Nat.zero_le _)
  clear HN6 HA5 HRS'
  go_wp2_with fail
  refine (HRS2'.out _ (HB0.out.trans (HA6.out.mono (by omega)))).mono ?_
  rintro e w7 ⟨bo2, bcap2, rfl, HN7⟩
  have HA7 : Aside (Below (w.heap.size + 1) w0 w7) := HA6.out.trans (HN7.out.2.mono (Nat.le_trans z2 HA6.out.size))
  have HR7 : Aside (RowsN 0 w7 bo L) := HR6.out.on HN7.out.2
  have HS7 : Aside (RowsN 0 w7 bo2 M) := HN7.out.1.down (Nat.zero_le _)
  clear HN7 HR6 HA6 HRS2'
  have hbw7 : Below w.heap.size w w7 := HB0.out.trans (HA7.out.mono (by omega))
  have HBW7 := Lib.hid hbw7
  have HLN2 := Lib.hid HLN'.out
  obtain ⟨ao3, cap3, w8, hrun8, HX8⟩ := appendRs_run w7.heap.size [] L none 0 bo bcap w7 (World.ownsRow_nil _ _ _ _) (Nat.le_refl _) (Nat.le_refl _) (HR7.out.rules fun r hr => HCA.out _ hbw7 r (List.mem_append.2 (Or.inl hr))) (by simp) (by have := HLN'.out.1; omega)
  have hb78 : Below w7.heap.size w7 w8 := HX8.out.2.1
  obtain ⟨ao4, cap4, w9, hrun9, HX9⟩ := appendRs_run w7.heap.size L M ao3 cap3 bo2 bcap2 w8 (by have := HX8.out.1; simpa using this) (by have := HX8.out.2.2; simpa using this) hb78.size ((HS7.out.on hb78).rules fun r hr => HCA.out _ (hbw7.trans (hb78.mono hbw7.size)) r (List.mem_append.2 (Or.inr hr))) (by have := HLN'.out.1; omega) (by have := HLN'.out.2; omega)
  have hb79 : Below w7.heap.size w7 w9 := hb78.trans HX9.out.2.1
  have HR9 : Aside (RowsN 0 w9 bo L) := HR7.out.on hb79
  have HS9 : Aside (RowsN 0 w9 ao4 (L ++ M)) := by
    obtain ⟨ao', cap', hv, h⟩ := ownR_rows HX9.out.1
    injection hv with q1 q2 q3
    subst q1
    exact h.down (Nat.zero_le _)
  have HA9 : Aside (Below (w.heap.size + 1) w0 w9) := HA7.out.trans (hb79.mono (Nat.le_trans z2 HA7.out.size))
  simp only [List.length_nil, Nat.zero_add] at hrun8
  obtain ⟨N, hN⟩ : ∃ N, N = L.length := ⟨_, rfl⟩
  obtain ⟨N2, hN2⟩ : ∃ N2, N2 = M.length := ⟨_, rfl⟩
  have HN := Lib.hid hN
  have HN2 := Lib.hid hN2
  rw [← hN] at hrun8 hrun9 ⊢
  rw [← hN2] at hrun9 ⊢
  clear HX8 HX9 hb78 hb79 hbw7 HBW7 HLN2 HR7 HS7 HA7 hN hN2
  go_wp2_with fail
  generalize hS : (w9.alloc (.cells #[.string ⟨#[97]⟩, .string ⟨#[98]⟩] 9)) = wS at *
  have hb9 : Below w9.heap.size w9 wS := by rw [← hS]; exact (Below.refl _ _).alloc (Nat.le_refl _) _
  have hzS : w9.heap.size < wS.heap.size := by rw [← hS]; simp
  have hc0 : wS.cell? ⟨w9.heap.size, 0, none⟩ = some (.string ⟨#[97]⟩) := by rw [← hS]; exact World.cell?_alloc_new _ _ _ 0
  have hc1 : wS.cell? ⟨w9.heap.size, 1, none⟩ = some (.string ⟨#[98]⟩) := by rw [← hS]; exact World.cell?_alloc_new _ _ _ 1
  have HCS : Aside (∀ j, j < 2 → ∃ wh, ∀ W, Below wS.heap.size wS W → W.cell? ⟨w9.heap.size, j, none⟩ = some (.string wh)) := fun j hj => by
    rcases (show j = 0 ∨ j = 1 by omega) with rfl | rfl
    · exact ⟨_, fun W hW => (hW.cell (p := ⟨w9.heap.size, 0, none⟩) hzS).trans hc0⟩
    · exact ⟨_, fun W hW => (hW.cell (p := ⟨w9.heap.size, 1, none⟩) hzS).trans hc1⟩
  have HAS : Aside (Below (w.heap.size + 1) w0 wS) := HA9.out.trans (hb9.mono (Nat.le_trans z2 HA9.out.size))
  have HKS : Aside (∀ W, Below wS.heap.size wS W → W.cell? ⟨w.heap.size, 0, none⟩ = some (.string sc) ∧ W.cell? ⟨w.heap.size, 1, none⟩ = some (.slice co n ccap)) := fun W hW => HKP.out W (HAS.out.trans (hW.mono (Nat.le_trans z2 HAS.out.size)))
  have HBS : Aside (∀ W, Below wS.heap.size wS W → Below w.heap.size w W) := fun W hW => HB0.out.trans ((HAS.out.trans (hW.mono (Nat.le_trans z2 HAS.out.size))).mono (by omega))
  have HRL : Aside (∀ W, Below wS.heap.size wS W → RulesB W.heap.size W bo L) := fun W hW => (HR9.out.on (hb9.trans (hW.mono hb9.size))).rules fun r hr => HCA.out W (HBS.out W hW) r (List.mem_append.2 (Or.inl hr))
  have HRA : Aside (∀ W, Below wS.heap.size wS W → RulesB W.heap.size W ao4 (L ++ M)) := fun W hW => (HS9.out.on (hb9.trans (hW.mono hb9.size))).rules fun r hr => HCA.out W (HBS.out W hW) r hr
  have HLA : Aside ((L ++ M).length = N + N2) := by show _ = _; rw [List.length_append, HN.out, HN2.out]
  have HO1 := Lib.hid (fun wh W hW => HMO.out L (fun r hr => List.mem_append.2 (Or.inl hr)) (by have := HLN'.out.1; omega) bo bcap W wh (HBS.out W hW) (HRL.out W hW))
  have HO2 := Lib.hid (fun wh W hW => HMO.out (L ++ M) (fun r hr => hr) (by have := HLN'.out; rw [List.length_append]; omega) ao4 cap4 W wh (HBS.out W hW) (HRA.out W hW))
  have HP1 := Lib.hid (fun wh W hW => HMP.out L (fun r hr => List.mem_append.2 (Or.inl hr)) (by have := HLN'.out.1; omega) bo bcap W wh (HBS.out W hW) (HRL.out W hW))
  have HP2 := Lib.hid (fun wh W hW => HMP.out (L ++ M) (fun r hr => hr) (by have := HLN'.out; rw [List.length_append]; omega) ao4 cap4 W wh (HBS.out W hW) (HRA.out W hW))
  rw [← HN.out] at HO1 HP1
  rw [HLA.out] at HO2 HP2
  have HSS : Aside (Below wS.heap.size wS wS) := Below.refl _ _
  generalize w9.heap.size = V9 at *
  clear hb9 hzS hc0 hc1 hS HMO HMP HCA HKP HR9 HS9 HRL HRA HLA HN HN2 HLN' hrun8 hrun9
  go_loopg [40] 2 (fun kx s40 wr => ∃ j : Nat, s40 = .int .i64 j ∧ j ≤ 2 ∧ 2 - j ≤ kx ∧ Aside (Below wS.heap.size wS wr))
  case atStart => exact ⟨0, rfl, Nat.zero_le _, by omega, HSS.out⟩
  case round =>
    obtain ⟨j, rfl, hj, hjx, HA⟩ := hrel
    by_cases hlt : j < 2
    · obtain ⟨wh, hwh⟩ := HCS.out j hlt
      have cw := hwh _ HA.out
      have hltz : (j : Int) < 2 := by omega
      have hjz : (0 : Int) ≤ (j : Int) := by omega
      clear hwh HCS
      go_upto_region 10 with fail
      clear cw
      go_cut [54] (fun sx wx => sx = .bool false ∧ Aside (Below wS.heap.size wS wx))
      case first =>
        obtain ⟨x0, x1⟩ := HKS.out _ HA.out
        have HQ1 := Lib.hid (HO1.out wh _ HA.out)
        have HQ2 := Lib.hid (HO2.out wh)
        have HQG := Lib.hid (HGO.out wh)
        generalize mo L wh = q1 at *
        generalize mo (L ++ M) wh = q2 at *
        go_wp2_with fail
        refine HQ1.out.mono ?_
        rintro e wa ⟨rfl, hb⟩
        have HAa : Aside (Below wS.heap.size wS wa) := HA.out.trans (hb.mono HA.out.size)
        clear hb HQ1 x0 x1
        cases q1
        · go_wp2_with fail
          go_meet
          exact ⟨rfl, HAa.out⟩
        · obtain rfl : q2 = true := HQG.out (by first | trivial | rfl)
          obtain ⟨x0, x1⟩ := HKS.out _ HAa.out
          go_wp2_with fail
          refine (HQ2.out _ HAa.out).mono ?_
          rintro e wb ⟨rfl, hb⟩
          have HAb : Aside (Below wS.heap.size wS wb) := HAa.out.trans (hb.mono HAa.out.size)
          clear hb HQ2 x0 x1
          go_wp2_with fail
          go_meet
          exact ⟨rfl, HAb.out⟩
      case rest =>
        obtain ⟨rfl, HC54⟩ := hcut
        go_upto_region 12 with fail
        go_cut [69] (fun sx wx => sx = .bool false ∧ Aside (Below wS.heap.size wS wx))
        case first =>
          obtain ⟨x0, x1⟩ := HKS.out _ HC54.out
          have HQ1 := Lib.hid (HP1.out wh _ HC54.out)
          have HQ2 := Lib.hid (HP2.out wh)
          have HQG := Lib.hid (HGP.out wh)
          generalize mp L wh = q1 at *
          generalize mp (L ++ M) wh = q2 at *
          go_wp2_with fail
          refine HQ1.out.mono ?_
          rintro e wa ⟨rfl, hb⟩
          have HAa : Aside (Below wS.heap.size wS wa) := HC54.out.trans (hb.mono HC54.out.size)
          clear hb HQ1 x0 x1
          cases q1
          · go_wp2_with fail
            go_meet
            exact ⟨rfl, HAa.out⟩
          · obtain rfl : q2 = true := HQG.out (by first | trivial | rfl)
            obtain ⟨x0, x1⟩ := HKS.out _ HAa.out
            go_wp2_with fail
            refine (HQ2.out _ HAa.out).mono ?_
            rintro e wb ⟨rfl, hb⟩
            have HAb : Aside (Below wS.heap.size wS wb) := HAa.out.trans (hb.mono HAa.out.size)
            clear hb HQ2 x0 x1
            go_wp2_with fail
            go_meet
            exact ⟨rfl, HAb.out⟩
        case rest =>
          obtain ⟨rfl, HC69⟩ := hcut
          go_wp2_with fail
          go_roundg (2 - (j + 1))
          case measure => omega
          case rel => exact ⟨j + 1, by go_num, hlt, Nat.le_refl _, HC69.out⟩
    · obtain rfl : j = 2 := by omega
      go_wp2_with fail
      go_ret
      exact ⟨rfl, HBS.out _ HA.out⟩
end Go.Proofs.YtliobglhppejiaaDoor
