/- FilterTurns: the order of conditions, and doubles, play no part in a filter's key. -/
import Derived.Test.YtfffmndjgjfflaaGreatDoorTurnK
import Derived.Test.YtfffmndjgjfflaaGreatDoorFilA
import Derived.Deep.RegionWith
import Derived.Deep.RegionHeld3
import Derived.Deep.DeepCutAuto
namespace Go.Proofs.YtfffmndjgjfflaaGreatDoor
open Go.RowKit Go.Shelf Go.Sort
open Go.Proofs
set_option maxRecDepth 100000

theorem and65535 (n : Int) : ∃ m : Nat, m < 65536 ∧ bits .and .i64 n 65535 = m := by
  have h : ∃ m : Nat, m < 65536 ∧ bits .and .i64 n 65535 = IntKind.i64.wrap m := by
    refine ⟨((BitVec.ofInt 64 n) &&& (BitVec.ofInt 64 65535)).toNat, ?_, rfl⟩
    rw [BitVec.toNat_and, show (BitVec.ofInt 64 65535).toNat = 2 ^ 16 - 1 from by decide, Nat.and_two_pow_sub_one_eq_mod]
    omega
  obtain ⟨m, hm, h⟩ := h
  exact ⟨m, hm, by rw [h, IntKind.wrap_i64]; omega⟩

attribute [local irreducible] wpQuiet
attribute [local go_sem ↓] append_pre
set_option maxHeartbeats 8000000 in
theorem filterTurns_c (sc : ByteArray) (co : Option Addr) (ccap : Nat) (cs : List Cn) (turn : Int) (w : World) (hm : MaxI w) (hw : Wds w) (hT : Tabs w) (hF : FilIs MB w sc co cs) (hcap : cs.length ≤ ccap) :
    Calls Tryz.prog 3 #[fil sc co cs.length ccap, .int .i64 turn] w fun e w' => e = .returned (.bool true) ∧ Below w.heap.size w w' := by
  have hlc : cs.length ≤ 4611686018427387904 := by have := hF.2.2.1; unfold MB at this; omega
  have HFT : Aside (∀ W, Below w.heap.size w W → Calls Tryz.prog 4 #[] W fun e w' => e = .returned (.bool true) ∧ Below W.heap.size W w') := fun W hW => fit7_c W (hw.on hW) (hm.below hW)
  have HLT : Aside (∀ W, Below w.heap.size w W → Calls Tryz.prog 5 #[fil sc co cs.length ccap] W fun e w' => e = .returned (.bool (lightF sc cs)) ∧ Below W.heap.size W w') := fun W hW => flight_c sc co ccap cs W (hF.1.on hW) hlc
  have HFR : Aside (lightF sc cs = true → ∀ W, Below w.heap.size w W → Calls Tryz.prog 6 #[fil sc co cs.length ccap] W fun e w' => e = .returned (.bool (rightF sc cs)) ∧ Below W.heap.size W w') := fun h W hW => fright_c sc co ccap cs W (hF.1.on hW) hlc (Nat.le_trans (light_all (by decide) h hF).1 (by decide)) (hm.below hW)
  have HRL : Aside (rightF sc cs = true → cs.length ≤ 6) := rightF_len
  have HCS : Aside (∀ W, Below w.heap.size w W → CondsB W.heap.size W co cs) := fun W hW => hF.1.on hW
  have HTK : Aside (rightF sc cs = true → TurnK w sc cs (textF sc TX (normL cs))) := fun h => turnK w sc co cs hw hT hF h
  generalize textF sc TX (normL cs) = K at *
  generalize rightF sc cs = rt at *
  generalize lightF sc cs = lt at *
  obtain ⟨len, hL⟩ : ∃ len, len = cs.length := ⟨_, rfl⟩
  rw [← hL] at HLT HFR HRL hcap ⊢
  have HLen : Aside (len = cs.length) := hL
  have z1 : w.heap.size + 1 ≤ (w.alloc (.cells #[.string sc, .slice co len ccap] 24)).heap.size := by simp
  have HB0 : Aside (Below w.heap.size w (w.alloc (.cells #[.string sc, .slice co len ccap] 24))) := (Below.refl _ _).alloc (Nat.le_refl _) _
  have HKP : Aside (∀ W, Below (w.heap.size + 1) (w.alloc (.cells #[.string sc, .slice co len ccap] 24)) W → W.cell? ⟨w.heap.size, 0, none⟩ = some (.string sc) ∧ W.cell? ⟨w.heap.size, 1, none⟩ = some (.slice co len ccap)) := fil_cells
  clear hm hw hT hF hL hlc
  go_enter Tryz.func3, Tryz.ntmps3
  go_wp2_with fail
  generalize hW0 : w.alloc (.cells #[.string sc, .slice co len ccap] 24) = w0 at *
  refine (HFT.out _ HB0.out).mono ?_
  rintro e w1 ⟨rfl, hb⟩
  have HA1 : Aside (Below (w.heap.size + 1) w0 w1) := hb.mono z1
  clear hb
  obtain ⟨a0, a1⟩ := HKP.out _ HA1.out
  go_wp2_with fail
  refine (HLT.out _ (HB0.out.trans (HA1.out.mono (by omega)))).mono ?_
  rintro e w2 ⟨rfl, hb⟩
  have HA2 : Aside (Below (w.heap.size + 1) w0 w2) := HA1.out.trans (hb.mono (Nat.le_trans z1 HA1.out.size))
  clear hb a0 a1 HA1 HLT HFT
  cases lt
  · go_wp2_with fail
    go_ret
    exact ⟨rfl, HB0.out.trans (HA2.out.mono (by omega))⟩
  have HFR' := Lib.hid (HFR.out (by first | trivial | rfl))
  clear HFR
  obtain ⟨a0, a1⟩ := HKP.out _ HA2.out
  go_wp2_with fail
  refine (HFR'.out _ (HB0.out.trans (HA2.out.mono (by omega)))).mono ?_
  rintro e w4 ⟨rfl, hb⟩
  have HA4 : Aside (Below (w.heap.size + 1) w0 w4) := HA2.out.trans (hb.mono (Nat.le_trans z1 HA2.out.size))
  clear hb HA2 HFR' a0 a1
  cases rt
  · go_wp2_with fail
    go_ret
    exact ⟨rfl, HB0.out.trans (HA4.out.mono (by omega))⟩
  obtain ⟨a0, a1⟩ := HKP.out _ HA4.out
  have h6 := HRL.out (by first | trivial | rfl)
  have H6 : Aside (len ≤ 6) := h6
  have HTK' := Lib.hid (HTK.out (by first | trivial | rfl))
  clear HTK
  by_cases hl0 : len = 0
  · subst hl0
    go_wp2_with fail
    go_ret
    exact ⟨rfl, HB0.out.trans (HA4.out.mono (by omega))⟩
  have hN0 : 0 < len := by omega
  have hNz : ((len : Int) == 0) = false := by rw [beq_eq_false_iff_ne]; omega
  obtain ⟨p, hp, hpe⟩ := and65535 turn
  obtain ⟨b, off, rfl, hbw, hrow⟩ : ∃ b off, co = some ⟨b, off, none⟩ ∧ b < w.heap.size ∧ ∀ W, Below w.heap.size w W → RowC W b off cs := by
    rcases HCS.out _ (Below.refl _ _) with h | ⟨b, off, h1, h2, h3⟩
    · rw [HLen.out, h] at hN0; simp at hN0
    · exact ⟨b, off, h1, h2, fun W hW => h3.below hW h2⟩
  have HROW := Lib.hid hrow
  clear HRL hrow
  go_upto_region 6 with fail
  obtain ⟨tv, htv⟩ : ∃ tv, tv = p % len := ⟨_, rfl⟩
  have htl : tv < len := by rw [htv]; exact Nat.mod_lt _ hN0
  rw [show ((p : Int) % (len : Int)) = ((tv : Nat) : Int) by rw [htv]; simp]
  have hcF : (ccap = tv) = False := eq_false (by omega)
  have hcF2 : (tv = ccap) = False := eq_false (by omega)
  have t0 : (0 : Int) ≤ (tv : Int) := by omega
  have t1 : (tv : Int) ≤ (len : Int) := by omega
  have t2 : (tv : Int) ≤ (ccap : Int) := by omega
  have t3 : (len : Int) ≤ (ccap : Int) := by omega
  have h256 : len < 200 := by omega
  clear htv hp hpe hNz h6
  have z4 : w.heap.size + 1 ≤ w4.heap.size := Nat.le_trans z1 HA4.out.size
  have hr4 : ∀ W, Below w4.heap.size w4 W → RowC W b (off + tv * 7) (cs.drop tv) ∧ RowC W b off (cs.take tv) := fun W hW =>
    have hh := HROW.out W (HB0.out.trans ((HA4.out.mono (by omega)).trans (hW.mono (by omega))))
    ⟨rowC_drop hh tv, rowC_take hh tv⟩
  have lm : (cs.drop tv).length = len - tv := by rw [List.length_drop, ← HLen.out]
  have lt : (cs.take tv).length = tv := by rw [List.length_take, ← HLen.out]; omega
  have ln : (cs.drop tv ++ cs.take tv).length = len := by rw [List.length_append, lm, lt]; omega
  have zz : w4.drew.heap.size = w4.heap.size := rfl
  -- the alloc behind both, or between
  obtain ⟨roA, rcA, wA, hrunA, HRA⟩ := appendN_run w4.heap.size [] (cs.drop tv) (.slice none 0 0) w4.drew b (off + tv * 7) (ccap - tv) (len - tv) (len - tv) (ownC_nil _ _) (hr4 _ (Below.refl _ _).drew).1 lm lm (Nat.le_refl _) (by omega)
  have HWA : Aside (Below w4.heap.size w4 wA) := (Below.refl w4.heap.size w4).drew.trans HRA.out.2.1
  have OA : OwnC wA w4.heap.size (.slice roA (len - tv) rcA) (cs.drop tv) := HRA.out.1
  obtain ⟨roA2, rcA2, wA2, hrunA2, HRA2⟩ := appendN_run w4.heap.size (cs.drop tv) (cs.take tv) (.slice roA (len - tv) rcA) wA b off ccap tv len OA (hr4 _ HWA.out).2 lt ln HWA.out.size (by omega)
  have OAm := OA.alloc (.cells #[.string ⟨#[]⟩, .slice none 0 0] 24)
  have HWAm : Aside (Below w4.heap.size w4 (wA.alloc (.cells #[.string ⟨#[]⟩, .slice none 0 0] 24))) := HWA.out.alloc HWA.out.size _
  obtain ⟨roA3, rcA3, wA3, hrunA3, HRA3⟩ := appendN_run w4.heap.size (cs.drop tv) (cs.take tv) (.slice roA (len - tv) rcA) (wA.alloc (.cells #[.string ⟨#[]⟩, .slice none 0 0] 24)) b off ccap tv len OAm (hr4 _ HWAm.out).2 lt ln HWAm.out.size (by omega)
  -- the alloc ahead of both
  have HD : Aside (Below w4.heap.size w4 (w4.alloc (.cells #[.string ⟨#[]⟩, .slice none 0 0] 24)).drew) := ((Below.refl _ _).alloc (Nat.le_refl _) _).drew
  obtain ⟨roB, rcB, wB, hrunB, HRB⟩ := appendN_run (w4.heap.size + 1) [] (cs.drop tv) (.slice none 0 0) (w4.alloc (.cells #[.string ⟨#[]⟩, .slice none 0 0] 24)).drew b (off + tv * 7) (ccap - tv) (len - tv) (len - tv) (ownC_nil _ _) (hr4 _ HD.out).1 lm lm (by simp) (by omega)
  have HWB : Aside (Below w4.heap.size w4 wB) := HD.out.trans (HRB.out.2.1.mono (by omega))
  obtain ⟨roB2, rcB2, wB2, hrunB2, HRB2⟩ := appendN_run (w4.heap.size + 1) (cs.drop tv) (cs.take tv) (.slice roB (len - tv) rcB) wB b off ccap tv len HRB.out.1 (hr4 _ HWB.out).2 lt ln (Nat.le_trans (by simp) HRB.out.2.1.size) (by omega)
  -- f's cells in every world there
  have hk : ∀ W, Below w4.heap.size w4 W → W.cell? ⟨w.heap.size, 0, none⟩ = some (.string sc) ∧ W.cell? ⟨w.heap.size, 1, none⟩ = some (.slice (some ⟨b, off, none⟩) len ccap) := fun W hW => HKP.out W (HA4.out.trans (hW.mono z4))
  obtain ⟨c1, c2⟩ := hk _ (Below.refl _ _).drew
  obtain ⟨c3, c4⟩ := hk _ HD.out
  obtain ⟨c5, c6⟩ := hk _ HWA.out
  obtain ⟨c7, c8⟩ := hk _ HWAm.out
  obtain ⟨c9, c10⟩ := hk _ HWB.out
  have HWA2 : Aside (Below w4.heap.size w4 wA2) := HWA.out.trans HRA2.out.2.1
  have HWA2m : Aside (Below w4.heap.size w4 (wA2.alloc (.cells #[.string ⟨#[]⟩, .slice none 0 0] 24))) := HWA2.out.alloc HWA2.out.size _
  have HWA3 : Aside (Below w4.heap.size w4 wA3) := HWAm.out.trans HRA3.out.2.1
  have HWB2 : Aside (Below w4.heap.size w4 wB2) := HWB.out.trans (HRB2.out.2.1.mono (by omega))
  obtain ⟨c11, c12⟩ := hk _ HWA2.out
  obtain ⟨c13, c14⟩ := hk _ HWA2m.out
  obtain ⟨c15, c16⟩ := hk _ HWA3.out
  obtain ⟨c17, c18⟩ := hk _ HWB2.out
  -- g's cells
  have d1 : (wA2.alloc (.cells #[.string ⟨#[]⟩, .slice none 0 0] 24)).cell? ⟨wA2.heap.size, 0, none⟩ = some (.string ⟨#[]⟩) := one_lay (Below.refl _ _) 0 _ rfl
  have d2 : (wA2.alloc (.cells #[.string ⟨#[]⟩, .slice none 0 0] 24)).cell? ⟨wA2.heap.size, 1, none⟩ = some (.slice none 0 0) := one_lay (Below.refl _ _) 1 _ rfl
  have d3 : (wA2.alloc (.cells #[.string ⟨#[]⟩, .slice none 0 0] 24)).frozen? ⟨wA2.heap.size, 0, none⟩ = false := alloc_frozen _ _ _ _
  have d4 : (wA2.alloc (.cells #[.string ⟨#[]⟩, .slice none 0 0] 24)).frozen? ⟨wA2.heap.size, 1, none⟩ = false := alloc_frozen _ _ _ _
  have zA : wA.heap.size < (wA.alloc (.cells #[.string ⟨#[]⟩, .slice none 0 0] 24)).heap.size := by simp
  have nA : ∀ k, (Value.slice roA (len - tv) rcA).ownBlock = some k → k ≠ wA.heap.size := fun k e => by have := (OA.lt k e).2; omega
  have d5 : wA3.cell? ⟨wA.heap.size, 0, none⟩ = some (.string ⟨#[]⟩) := grown_at HRA3.out.2.2.1 zA nA (one_lay (Below.refl _ _) 0 _ rfl)
  have d6 : wA3.cell? ⟨wA.heap.size, 1, none⟩ = some (.slice none 0 0) := grown_at HRA3.out.2.2.1 zA nA (one_lay (Below.refl _ _) 1 _ rfl)
  have d7 : wA3.frozen? ⟨wA.heap.size, 0, none⟩ = false := grown_fr HRA3.out.2.2.1 zA nA (alloc_frozen _ _ _ _)
  have d8 : wA3.frozen? ⟨wA.heap.size, 1, none⟩ = false := grown_fr HRA3.out.2.2.1 zA nA (alloc_frozen _ _ _ _)
  have hB2 : Below (w4.heap.size + 1) (w4.alloc (.cells #[.string ⟨#[]⟩, .slice none 0 0] 24)) wB2 := (Below.refl _ _).drew.trans (HRB.out.2.1.trans HRB2.out.2.1)
  have d9 : wB2.cell? ⟨w4.heap.size, 0, none⟩ = some (.string ⟨#[]⟩) := one_lay hB2 0 _ rfl
  have d10 : wB2.cell? ⟨w4.heap.size, 1, none⟩ = some (.slice none 0 0) := one_lay hB2 1 _ rfl
  have d11 : wB2.frozen? ⟨w4.heap.size, 0, none⟩ = false := by rw [hB2.frozen (p := ⟨w4.heap.size, 0, none⟩) (Nat.lt_succ_self _)]; exact alloc_frozen _ _ _ _
  have d12 : wB2.frozen? ⟨w4.heap.size, 1, none⟩ = false := by rw [hB2.frozen (p := ⟨w4.heap.size, 1, none⟩) (Nat.lt_succ_self _)]; exact alloc_frozen _ _ _ _
  have OA3 : Aside (∀ k, (Value.slice roA3 len rcA3).ownBlock = some k → k ≠ wA.heap.size) := fun k e => by
    rcases HRA3.out.2.2.2 with h | h
    · exact nA k (h.symm.trans e)
    · rw [h] at e; injection e with e; have := zA; omega
  have OB2 : Aside (∀ k, (Value.slice roB2 len rcB2).ownBlock = some k → k ≠ w4.heap.size) := fun k e => by have := (HRB2.out.1.lt k e).1; omega
  have PA3 : Aside (wA.heap.size < wA3.heap.size) := Nat.lt_of_lt_of_le zA HRA3.out.2.1.size
  have PB2 : Aside (w4.heap.size < wB2.heap.size) := Nat.lt_of_lt_of_le (by simp) hB2.size
  have HBA := HB0.out.trans (HA4.out.mono (by omega))
  have HLow := Lib.hid HBA
  have Z4 : Aside (w.heap.size + 1 ≤ w4.heap.size) := z4
  clear hk hr4 lm lt ln OA OAm zz hB2 zA nA z4 HBA
  go_cut [5] (fun s5 wx => ∃ (G : Nat) (ro : Option Addr) (rcap : Nat), s5 = .pointer (some ⟨G, 0, none⟩) ∧ Aside (Below w4.heap.size w4 wx ∧ LaidF wx w4.heap.size G sc ro len rcap (cs.drop tv ++ cs.take tv)))
  case first =>
    go_region
    all_goals
      go_wp2_with fail
      go_meet
    · exact ⟨_, _, _, rfl, HWA2.out.alloc HWA2.out.size _, laidF_new _ HRA2.out.1 HWA2.out.size⟩
    · exact ⟨_, _, _, rfl, (HWA3.out.setCell HWA.out.size _).setCell HWA.out.size _, laidF_put HRA3.out.1 HWA.out.size PA3.out OA3.out d5 d6⟩
    · exact ⟨_, _, _, rfl, (HWB2.out.setCell (Nat.le_refl _) _).setCell (Nat.le_refl _) _, laidF_put HRB2.out.1 (Nat.le_refl _) PB2.out OB2.out d9 d10⟩
  case rest =>
    clear c1 c2 c3 c4 c5 c6 c7 c8 c9 c10 c11 c12 c13 c14 c15 c16 c17 c18 d1 d2 d3 d4 d5 d6 d7 d8 d9 d10 d11 d12
    clear hrunA hrunA2 hrunA3 hrunB hrunB2 HRA HRA2 HRA3 HRB HRB2 HWA HWA2 HWA2m HWA3 HWAm HWB HWB2 OA3 OB2 PA3 PB2 HD
    obtain ⟨wd, rfl⟩ : ∃ wd, wd = wc := ⟨wc, rfl⟩
    obtain ⟨G, ro, rcap, rfl, HG⟩ := hcut
    obtain ⟨L, hL⟩ : ∃ L, L = cs.drop tv ++ cs.take tv := ⟨_, rfl⟩
    have HLL : Aside (L = cs.drop tv ++ cs.take tv) := hL
    have lL : L.length = len := by rw [hL, List.length_append, List.length_drop, List.length_take, ← HLen.out]; omega
    rw [← hL] at HG
    clear hL
    have hWc : ∀ W, Below wd.heap.size wd W → Below w4.heap.size w4 W := fun W h => HG.out.1.trans (h.mono HG.out.1.size)
    have hf : ∀ W, Below wd.heap.size wd W → W.cell? ⟨w.heap.size, 0, none⟩ = some (.string sc) ∧ W.cell? ⟨w.heap.size, 1, none⟩ = some (.slice (some ⟨b, off, none⟩) len ccap) := fun W h => HKP.out W (HA4.out.trans ((hWc W h).mono Z4.out))
    have k0 : ∀ W, Below wd.heap.size wd W → W.cell? ⟨w.heap.size, 0, none⟩ = some (.string sc) := fun W h => (hf W h).1
    have k1 : ∀ W, Below wd.heap.size wd W → W.cell? ⟨w.heap.size, 1, none⟩ = some (.slice (some ⟨b, off, none⟩) len ccap) := fun W h => (hf W h).2
    obtain ⟨gb, go, rfl, hgb, hgr0⟩ : ∃ gb go, ro = some ⟨gb, go, none⟩ ∧ gb < wd.heap.size ∧ RowC wd gb go L := by
      rcases HG.out.2.2.2.2 with h | ⟨b2, o2, h1, h2, h3⟩
      · rw [h] at lL; simp at lL; omega
      · exact ⟨b2, o2, h1, h2, h3⟩
    have hgr : ∀ W, Below wd.heap.size wd W → RowC W gb go L := fun W h => hgr0.below h hgb
    have kg : ∀ W, Below wd.heap.size wd W → W.cell? ⟨G, 1, none⟩ = some (.slice (some ⟨gb, go, none⟩) len rcap) := fun W h => (h.cell (p := ⟨G, 1, none⟩) HG.out.2.2.1).trans HG.out.2.2.2.1.2
    obtain ⟨c0, hc0⟩ : ∃ c, c = cs[0]! := ⟨_, rfl⟩
    have HC0 : Aside (c0 = cs[0]!) := hc0
    have hc : ∀ W, Below wd.heap.size wd W → ∀ i v, (encC c0)[i]? = some v → W.cell? ⟨b, off + 0 * 7 + i, none⟩ = some v := fun W h i v hv => HROW.out W (HLow.out.trans ((hWc W h).mono (by have := HLow.out.size; omega))) 0 (by rw [← HLen.out]; exact hN0) i v (by rw [← hc0]; exact hv)
    clear hc0
    obtain ⟨⟨nm, kd, n', x, s, y⟩, op⟩ := c0
    have kc0 : ∀ W, Below wd.heap.size wd W → W.cell? ⟨b, off, none⟩ = some (.string nm) := fun W h => hc W h 0 _ rfl
    have kc1 : ∀ W, Below wd.heap.size wd W → W.cell? ⟨b, off + 1, none⟩ = some (.int .i64 op) := fun W h => by simpa using hc W h 1 _ rfl
    have kc2 : ∀ W, Below wd.heap.size wd W → W.cell? ⟨b, off + 2, none⟩ = some (.int .i64 kd) := fun W h => by simpa using hc W h 2 _ rfl
    have kc3 : ∀ W, Below wd.heap.size wd W → W.cell? ⟨b, off + 3, none⟩ = some (.int .i64 n') := fun W h => by simpa using hc W h 3 _ rfl
    have kc4 : ∀ W, Below wd.heap.size wd W → W.cell? ⟨b, off + 4, none⟩ = some (.float .f64 x) := fun W h => by simpa using hc W h 4 _ rfl
    have kc5 : ∀ W, Below wd.heap.size wd W → W.cell? ⟨b, off + 5, none⟩ = some (.string s) := fun W h => by simpa using hc W h 5 _ rfl
    have kc6 : ∀ W, Below wd.heap.size wd W → W.cell? ⟨b, off + 6, none⟩ = some (.bool y) := fun W h => by simpa using hc W h 6 _ rfl
    have lL1 : (L ++ [(⟨⟨nm, kd, n', x, s, y⟩, op⟩ : Cn)]).length = len + 1 := by rw [List.length_append, lL]; rfl
    have hlen0 : (0 : Int) < (len : Int) := by omega
    have b1 : Below wd.heap.size wd wd.drew := (Below.refl wd.heap.size wd).drew
    obtain ⟨r1, c1, v1, ha1, H1⟩ := appendN_run wd.drew.heap.size [] L (.slice none 0 0) wd.drew gb go rcap len len (ownC_nil _ _) (hgr _ b1) lL lL (Nat.le_refl _) (by omega)
    have bv1 : Below wd.heap.size wd v1 := b1.trans (H1.out.2.1.mono b1.size)
    have hv1 : ∀ k, (Value.slice r1 len c1).ownBlock = some k → k < v1.heap.size := fun k e => (H1.out.1.lt k e).2
    have b2 : Below wd.heap.size wd (wd.alloc (.cells #[.string nm, .int .i64 op, .int .i64 kd, .int .i64 n', .float .f64 x, .string s, .bool y] 31)).drew := ((Below.refl wd.heap.size wd).alloc (Nat.le_refl _) _).drew
    obtain ⟨r2, c2, v2, ha2, H2⟩ := appendN_run (wd.alloc (.cells #[.string nm, .int .i64 op, .int .i64 kd, .int .i64 n', .float .f64 x, .string s, .bool y] 31)).drew.heap.size [] L (.slice none 0 0) (wd.alloc (.cells #[.string nm, .int .i64 op, .int .i64 kd, .int .i64 n', .float .f64 x, .string s, .bool y] 31)).drew gb go rcap len len (ownC_nil _ _) (hgr _ b2) lL lL (Nat.le_refl _) (by omega)
    have bv2 : Below wd.heap.size wd v2 := b2.trans (H2.out.2.1.mono b2.size)
    have hv2 : ∀ k, (Value.slice r2 len c2).ownBlock = some k → k < v2.heap.size := fun k e => (H2.out.1.lt k e).2
    have b3 : Below wd.heap.size wd (wd.alloc (.cells #[.string ⟨#[]⟩, .slice none 0 0] 24)).drew := ((Below.refl wd.heap.size wd).alloc (Nat.le_refl _) _).drew
    obtain ⟨r3, c3, v3, ha3, H3⟩ := appendN_run (wd.alloc (.cells #[.string ⟨#[]⟩, .slice none 0 0] 24)).drew.heap.size [] L (.slice none 0 0) (wd.alloc (.cells #[.string ⟨#[]⟩, .slice none 0 0] 24)).drew gb go rcap len len (ownC_nil _ _) (hgr _ b3) lL lL (Nat.le_refl _) (by omega)
    have bv3 : Below wd.heap.size wd v3 := b3.trans (H3.out.2.1.mono b3.size)
    have hv3 : ∀ k, (Value.slice r3 len c3).ownBlock = some k → k < v3.heap.size := fun k e => (H3.out.1.lt k e).2
    have b4 : Below wd.heap.size wd ((wd.alloc (.cells #[.string nm, .int .i64 op, .int .i64 kd, .int .i64 n', .float .f64 x, .string s, .bool y] 31)).alloc (.cells #[.string ⟨#[]⟩, .slice none 0 0] 24)).drew := (((Below.refl wd.heap.size wd).alloc (Nat.le_refl _) _).alloc (by simp) _).drew
    obtain ⟨r4, c4, v4, ha4, H4⟩ := appendN_run ((wd.alloc (.cells #[.string nm, .int .i64 op, .int .i64 kd, .int .i64 n', .float .f64 x, .string s, .bool y] 31)).alloc (.cells #[.string ⟨#[]⟩, .slice none 0 0] 24)).drew.heap.size [] L (.slice none 0 0) ((wd.alloc (.cells #[.string nm, .int .i64 op, .int .i64 kd, .int .i64 n', .float .f64 x, .string s, .bool y] 31)).alloc (.cells #[.string ⟨#[]⟩, .slice none 0 0] 24)).drew gb go rcap len len (ownC_nil _ _) (hgr _ b4) lL lL (Nat.le_refl _) (by omega)
    have bv4 : Below wd.heap.size wd v4 := b4.trans (H4.out.2.1.mono b4.size)
    have hv4 : ∀ k, (Value.slice r4 len c4).ownBlock = some k → k < v4.heap.size := fun k e => (H4.out.1.lt k e).2
    have b5 : Below wd.heap.size wd ((wd.alloc (.cells #[.string ⟨#[]⟩, .slice none 0 0] 24)).alloc (.cells #[.string nm, .int .i64 op, .int .i64 kd, .int .i64 n', .float .f64 x, .string s, .bool y] 31)).drew := (((Below.refl wd.heap.size wd).alloc (Nat.le_refl _) _).alloc (by simp) _).drew
    obtain ⟨r5, c5, v5, ha5, H5⟩ := appendN_run ((wd.alloc (.cells #[.string ⟨#[]⟩, .slice none 0 0] 24)).alloc (.cells #[.string nm, .int .i64 op, .int .i64 kd, .int .i64 n', .float .f64 x, .string s, .bool y] 31)).drew.heap.size [] L (.slice none 0 0) ((wd.alloc (.cells #[.string ⟨#[]⟩, .slice none 0 0] 24)).alloc (.cells #[.string nm, .int .i64 op, .int .i64 kd, .int .i64 n', .float .f64 x, .string s, .bool y] 31)).drew gb go rcap len len (ownC_nil _ _) (hgr _ b5) lL lL (Nat.le_refl _) (by omega)
    have bv5 : Below wd.heap.size wd v5 := b5.trans (H5.out.2.1.mono b5.size)
    have hv5 : ∀ k, (Value.slice r5 len c5).ownBlock = some k → k < v5.heap.size := fun k e => (H5.out.1.lt k e).2
    have b1a_0 : Below wd.heap.size wd (v1.alloc (.cells #[.string nm, .int .i64 op, .int .i64 kd, .int .i64 n', .float .f64 x, .string s, .bool y] 31)) := bv1.alloc bv1.size _
    obtain ⟨q1a, e1a, zw1a, hb1a, K1a⟩ := appendN_run wd.drew.heap.size L [⟨⟨nm, kd, n', x, s, y⟩, op⟩] (.slice r1 len c1) (v1.alloc (.cells #[.string nm, .int .i64 op, .int .i64 kd, .int .i64 n', .float .f64 x, .string s, .bool y] 31)) v1.heap.size 0 1 1 (len + 1) (H1.out.1.alloc (.cells #[.string nm, .int .i64 op, .int .i64 kd, .int .i64 n', .float .f64 x, .string s, .bool y] 31)) (rowX ⟨⟨nm, kd, n', x, s, y⟩, op⟩ v1 _) rfl lL1 (Nat.le_trans H1.out.2.1.size (by simp <;> omega)) (by omega)
    have bw1a : Below wd.heap.size wd zw1a := b1a_0.trans (K1a.out.2.1.mono b1.size)
    have bz1a : Below wd.heap.size wd (zw1a.alloc (.cells #[.string ⟨#[]⟩, .slice none 0 0] 24)) := bw1a.alloc bw1a.size _
    have z1a_0 : (zw1a.alloc (.cells #[.string ⟨#[]⟩, .slice none 0 0] 24)).cell? ⟨zw1a.heap.size, 0, none⟩ = some (.string ⟨#[]⟩) := one_lay (Below.refl _ _) 0 _ rfl
    have f1a_0 : (zw1a.alloc (.cells #[.string ⟨#[]⟩, .slice none 0 0] 24)).frozen? ⟨zw1a.heap.size, 0, none⟩ = false := alloc_frozen _ _ _ _
    have z1a_1 : (zw1a.alloc (.cells #[.string ⟨#[]⟩, .slice none 0 0] 24)).cell? ⟨zw1a.heap.size, 1, none⟩ = some (.slice none 0 0) := one_lay (Below.refl _ _) 1 _ rfl
    have f1a_1 : (zw1a.alloc (.cells #[.string ⟨#[]⟩, .slice none 0 0] 24)).frozen? ⟨zw1a.heap.size, 1, none⟩ = false := alloc_frozen _ _ _ _
    have b1b_0 : Below wd.heap.size wd (v1.alloc (.cells #[.string nm, .int .i64 op, .int .i64 kd, .int .i64 n', .float .f64 x, .string s, .bool y] 31)) := bv1.alloc bv1.size _
    have b1b_1 : Below wd.heap.size wd ((v1.alloc (.cells #[.string nm, .int .i64 op, .int .i64 kd, .int .i64 n', .float .f64 x, .string s, .bool y] 31)).alloc (.cells #[.string ⟨#[]⟩, .slice none 0 0] 24)) := b1b_0.alloc b1b_0.size _
    obtain ⟨q1b, e1b, zw1b, hb1b, K1b⟩ := appendN_run wd.drew.heap.size L [⟨⟨nm, kd, n', x, s, y⟩, op⟩] (.slice r1 len c1) ((v1.alloc (.cells #[.string nm, .int .i64 op, .int .i64 kd, .int .i64 n', .float .f64 x, .string s, .bool y] 31)).alloc (.cells #[.string ⟨#[]⟩, .slice none 0 0] 24)) v1.heap.size 0 1 1 (len + 1) ((H1.out.1.alloc (.cells #[.string nm, .int .i64 op, .int .i64 kd, .int .i64 n', .float .f64 x, .string s, .bool y] 31)).alloc (.cells #[.string ⟨#[]⟩, .slice none 0 0] 24)) ((rowX ⟨⟨nm, kd, n', x, s, y⟩, op⟩ v1 31).below ((Below.refl _ _).alloc (Nat.le_refl _) _) (by simp)) rfl lL1 (Nat.le_trans H1.out.2.1.size (by simp <;> omega)) (by omega)
    have bw1b : Below wd.heap.size wd zw1b := b1b_1.trans (K1b.out.2.1.mono b1.size)
    have y1b : v1.heap.size + 1 < ((v1.alloc (.cells #[.string nm, .int .i64 op, .int .i64 kd, .int .i64 n', .float .f64 x, .string s, .bool y] 31)).alloc (.cells #[.string ⟨#[]⟩, .slice none 0 0] 24)).heap.size := by simp <;> omega
    have n1b : ∀ k, (Value.slice r1 len c1).ownBlock = some k → k ≠ v1.heap.size + 1 := fun k e => by have := hv1 k e; omega
    have zz1b_0 : ((v1.alloc (.cells #[.string nm, .int .i64 op, .int .i64 kd, .int .i64 n', .float .f64 x, .string s, .bool y] 31)).alloc (.cells #[.string ⟨#[]⟩, .slice none 0 0] 24)).cell? ⟨v1.heap.size + 1, 0, none⟩ = some (.string ⟨#[]⟩) := lay_at _ _ 0 _ rfl (by simp)
    have ff1b_0 : ((v1.alloc (.cells #[.string nm, .int .i64 op, .int .i64 kd, .int .i64 n', .float .f64 x, .string s, .bool y] 31)).alloc (.cells #[.string ⟨#[]⟩, .slice none 0 0] 24)).frozen? ⟨v1.heap.size + 1, 0, none⟩ = false := fr_at _ _ 0 (by simp)
    have z1b_0 : zw1b.cell? ⟨v1.heap.size + 1, 0, none⟩ = some (.string ⟨#[]⟩) := grown_at K1b.out.2.2.1 y1b n1b zz1b_0
    have f1b_0 : zw1b.frozen? ⟨v1.heap.size + 1, 0, none⟩ = false := grown_fr K1b.out.2.2.1 y1b n1b ff1b_0
    have zz1b_1 : ((v1.alloc (.cells #[.string nm, .int .i64 op, .int .i64 kd, .int .i64 n', .float .f64 x, .string s, .bool y] 31)).alloc (.cells #[.string ⟨#[]⟩, .slice none 0 0] 24)).cell? ⟨v1.heap.size + 1, 1, none⟩ = some (.slice none 0 0) := lay_at _ _ 1 _ rfl (by simp)
    have ff1b_1 : ((v1.alloc (.cells #[.string nm, .int .i64 op, .int .i64 kd, .int .i64 n', .float .f64 x, .string s, .bool y] 31)).alloc (.cells #[.string ⟨#[]⟩, .slice none 0 0] 24)).frozen? ⟨v1.heap.size + 1, 1, none⟩ = false := fr_at _ _ 1 (by simp)
    have z1b_1 : zw1b.cell? ⟨v1.heap.size + 1, 1, none⟩ = some (.slice none 0 0) := grown_at K1b.out.2.2.1 y1b n1b zz1b_1
    have f1b_1 : zw1b.frozen? ⟨v1.heap.size + 1, 1, none⟩ = false := grown_fr K1b.out.2.2.1 y1b n1b ff1b_1
    have o1b : Aside (∀ k, (Value.slice q1b (len + 1) e1b).ownBlock = some k → k ≠ v1.heap.size + 1) := fun k e => by
      rcases K1b.out.2.2.2 with h | h
      · exact n1b k (h.symm.trans e)
      · rw [h] at e; injection e with e; have := y1b; omega
    have p1b : Aside (v1.heap.size + 1 < zw1b.heap.size) := Nat.lt_of_lt_of_le y1b K1b.out.2.1.size
    clear n1b
    have l1b : Aside (wd.heap.size ≤ v1.heap.size + 1) := (Nat.le_succ_of_le bv1.size)
    clear zz1b_0 zz1b_1 ff1b_0 ff1b_1 y1b
    have b1c_0 : Below wd.heap.size wd (v1.alloc (.cells #[.string ⟨#[]⟩, .slice none 0 0] 24)) := bv1.alloc bv1.size _
    have b1c_1 : Below wd.heap.size wd ((v1.alloc (.cells #[.string ⟨#[]⟩, .slice none 0 0] 24)).alloc (.cells #[.string nm, .int .i64 op, .int .i64 kd, .int .i64 n', .float .f64 x, .string s, .bool y] 31)) := b1c_0.alloc b1c_0.size _
    obtain ⟨q1c, e1c, zw1c, hb1c, K1c⟩ := appendN_run wd.drew.heap.size L [⟨⟨nm, kd, n', x, s, y⟩, op⟩] (.slice r1 len c1) ((v1.alloc (.cells #[.string ⟨#[]⟩, .slice none 0 0] 24)).alloc (.cells #[.string nm, .int .i64 op, .int .i64 kd, .int .i64 n', .float .f64 x, .string s, .bool y] 31)) (v1.heap.size + 1) 0 1 1 (len + 1) ((H1.out.1.alloc (.cells #[.string ⟨#[]⟩, .slice none 0 0] 24)).alloc (.cells #[.string nm, .int .i64 op, .int .i64 kd, .int .i64 n', .float .f64 x, .string s, .bool y] 31)) (by have := rowX ⟨⟨nm, kd, n', x, s, y⟩, op⟩ (v1.alloc (.cells #[.string ⟨#[]⟩, .slice none 0 0] 24)) 31; simpa using this) rfl lL1 (Nat.le_trans H1.out.2.1.size (by simp <;> omega)) (by omega)
    have bw1c : Below wd.heap.size wd zw1c := b1c_1.trans (K1c.out.2.1.mono b1.size)
    have y1c : v1.heap.size < ((v1.alloc (.cells #[.string ⟨#[]⟩, .slice none 0 0] 24)).alloc (.cells #[.string nm, .int .i64 op, .int .i64 kd, .int .i64 n', .float .f64 x, .string s, .bool y] 31)).heap.size := by simp <;> omega
    have n1c : ∀ k, (Value.slice r1 len c1).ownBlock = some k → k ≠ v1.heap.size := fun k e => by have := hv1 k e; omega
    have zz1c_0 : ((v1.alloc (.cells #[.string ⟨#[]⟩, .slice none 0 0] 24)).alloc (.cells #[.string nm, .int .i64 op, .int .i64 kd, .int .i64 n', .float .f64 x, .string s, .bool y] 31)).cell? ⟨v1.heap.size, 0, none⟩ = some (.string ⟨#[]⟩) := lay_at2 _ _ 0 _ rfl
    have ff1c_0 : ((v1.alloc (.cells #[.string ⟨#[]⟩, .slice none 0 0] 24)).alloc (.cells #[.string nm, .int .i64 op, .int .i64 kd, .int .i64 n', .float .f64 x, .string s, .bool y] 31)).frozen? ⟨v1.heap.size, 0, none⟩ = false := fr_at2 _ _ 0
    have z1c_0 : zw1c.cell? ⟨v1.heap.size, 0, none⟩ = some (.string ⟨#[]⟩) := grown_at K1c.out.2.2.1 y1c n1c zz1c_0
    have f1c_0 : zw1c.frozen? ⟨v1.heap.size, 0, none⟩ = false := grown_fr K1c.out.2.2.1 y1c n1c ff1c_0
    have zz1c_1 : ((v1.alloc (.cells #[.string ⟨#[]⟩, .slice none 0 0] 24)).alloc (.cells #[.string nm, .int .i64 op, .int .i64 kd, .int .i64 n', .float .f64 x, .string s, .bool y] 31)).cell? ⟨v1.heap.size, 1, none⟩ = some (.slice none 0 0) := lay_at2 _ _ 1 _ rfl
    have ff1c_1 : ((v1.alloc (.cells #[.string ⟨#[]⟩, .slice none 0 0] 24)).alloc (.cells #[.string nm, .int .i64 op, .int .i64 kd, .int .i64 n', .float .f64 x, .string s, .bool y] 31)).frozen? ⟨v1.heap.size, 1, none⟩ = false := fr_at2 _ _ 1
    have z1c_1 : zw1c.cell? ⟨v1.heap.size, 1, none⟩ = some (.slice none 0 0) := grown_at K1c.out.2.2.1 y1c n1c zz1c_1
    have f1c_1 : zw1c.frozen? ⟨v1.heap.size, 1, none⟩ = false := grown_fr K1c.out.2.2.1 y1c n1c ff1c_1
    have o1c : Aside (∀ k, (Value.slice q1c (len + 1) e1c).ownBlock = some k → k ≠ v1.heap.size) := fun k e => by
      rcases K1c.out.2.2.2 with h | h
      · exact n1c k (h.symm.trans e)
      · rw [h] at e; injection e with e; have := y1c; omega
    have p1c : Aside (v1.heap.size < zw1c.heap.size) := Nat.lt_of_lt_of_le y1c K1c.out.2.1.size
    clear n1c
    have l1c : Aside (wd.heap.size ≤ v1.heap.size) := bv1.size
    clear zz1c_0 zz1c_1 ff1c_0 ff1c_1 y1c
    obtain ⟨q2a, e2a, zw2a, hb2a, K2a⟩ := appendN_run (wd.alloc (.cells #[.string nm, .int .i64 op, .int .i64 kd, .int .i64 n', .float .f64 x, .string s, .bool y] 31)).drew.heap.size L [⟨⟨nm, kd, n', x, s, y⟩, op⟩] (.slice r2 len c2) v2 wd.heap.size 0 1 1 (len + 1) H2.out.1 ((rowX ⟨⟨nm, kd, n', x, s, y⟩, op⟩ wd 31).below ((Below.refl _ _).drew.trans H2.out.2.1) (by simp)) rfl lL1 (Nat.le_trans H2.out.2.1.size (by simp <;> omega)) (by omega)
    have bw2a : Below wd.heap.size wd zw2a := bv2.trans (K2a.out.2.1.mono b2.size)
    have bz2a : Below wd.heap.size wd (zw2a.alloc (.cells #[.string ⟨#[]⟩, .slice none 0 0] 24)) := bw2a.alloc bw2a.size _
    have z2a_0 : (zw2a.alloc (.cells #[.string ⟨#[]⟩, .slice none 0 0] 24)).cell? ⟨zw2a.heap.size, 0, none⟩ = some (.string ⟨#[]⟩) := one_lay (Below.refl _ _) 0 _ rfl
    have f2a_0 : (zw2a.alloc (.cells #[.string ⟨#[]⟩, .slice none 0 0] 24)).frozen? ⟨zw2a.heap.size, 0, none⟩ = false := alloc_frozen _ _ _ _
    have z2a_1 : (zw2a.alloc (.cells #[.string ⟨#[]⟩, .slice none 0 0] 24)).cell? ⟨zw2a.heap.size, 1, none⟩ = some (.slice none 0 0) := one_lay (Below.refl _ _) 1 _ rfl
    have f2a_1 : (zw2a.alloc (.cells #[.string ⟨#[]⟩, .slice none 0 0] 24)).frozen? ⟨zw2a.heap.size, 1, none⟩ = false := alloc_frozen _ _ _ _
    have b2b_0 : Below wd.heap.size wd (v2.alloc (.cells #[.string ⟨#[]⟩, .slice none 0 0] 24)) := bv2.alloc bv2.size _
    obtain ⟨q2b, e2b, zw2b, hb2b, K2b⟩ := appendN_run (wd.alloc (.cells #[.string nm, .int .i64 op, .int .i64 kd, .int .i64 n', .float .f64 x, .string s, .bool y] 31)).drew.heap.size L [⟨⟨nm, kd, n', x, s, y⟩, op⟩] (.slice r2 len c2) (v2.alloc (.cells #[.string ⟨#[]⟩, .slice none 0 0] 24)) wd.heap.size 0 1 1 (len + 1) (H2.out.1.alloc (.cells #[.string ⟨#[]⟩, .slice none 0 0] 24)) ((rowX ⟨⟨nm, kd, n', x, s, y⟩, op⟩ wd 31).below (((Below.refl _ _).drew.trans H2.out.2.1).alloc H2.out.2.1.size _) (by simp)) rfl lL1 (Nat.le_trans H2.out.2.1.size (by simp <;> omega)) (by omega)
    have bw2b : Below wd.heap.size wd zw2b := b2b_0.trans (K2b.out.2.1.mono b2.size)
    have y2b : v2.heap.size < (v2.alloc (.cells #[.string ⟨#[]⟩, .slice none 0 0] 24)).heap.size := by simp <;> omega
    have n2b : ∀ k, (Value.slice r2 len c2).ownBlock = some k → k ≠ v2.heap.size := fun k e => by have := hv2 k e; omega
    have zz2b_0 : (v2.alloc (.cells #[.string ⟨#[]⟩, .slice none 0 0] 24)).cell? ⟨v2.heap.size, 0, none⟩ = some (.string ⟨#[]⟩) := lay_at _ _ 0 _ rfl (by simp)
    have ff2b_0 : (v2.alloc (.cells #[.string ⟨#[]⟩, .slice none 0 0] 24)).frozen? ⟨v2.heap.size, 0, none⟩ = false := fr_at _ _ 0 (by simp)
    have z2b_0 : zw2b.cell? ⟨v2.heap.size, 0, none⟩ = some (.string ⟨#[]⟩) := grown_at K2b.out.2.2.1 y2b n2b zz2b_0
    have f2b_0 : zw2b.frozen? ⟨v2.heap.size, 0, none⟩ = false := grown_fr K2b.out.2.2.1 y2b n2b ff2b_0
    have zz2b_1 : (v2.alloc (.cells #[.string ⟨#[]⟩, .slice none 0 0] 24)).cell? ⟨v2.heap.size, 1, none⟩ = some (.slice none 0 0) := lay_at _ _ 1 _ rfl (by simp)
    have ff2b_1 : (v2.alloc (.cells #[.string ⟨#[]⟩, .slice none 0 0] 24)).frozen? ⟨v2.heap.size, 1, none⟩ = false := fr_at _ _ 1 (by simp)
    have z2b_1 : zw2b.cell? ⟨v2.heap.size, 1, none⟩ = some (.slice none 0 0) := grown_at K2b.out.2.2.1 y2b n2b zz2b_1
    have f2b_1 : zw2b.frozen? ⟨v2.heap.size, 1, none⟩ = false := grown_fr K2b.out.2.2.1 y2b n2b ff2b_1
    have o2b : Aside (∀ k, (Value.slice q2b (len + 1) e2b).ownBlock = some k → k ≠ v2.heap.size) := fun k e => by
      rcases K2b.out.2.2.2 with h | h
      · exact n2b k (h.symm.trans e)
      · rw [h] at e; injection e with e; have := y2b; omega
    have p2b : Aside (v2.heap.size < zw2b.heap.size) := Nat.lt_of_lt_of_le y2b K2b.out.2.1.size
    clear n2b
    have l2b : Aside (wd.heap.size ≤ v2.heap.size) := bv2.size
    clear zz2b_0 zz2b_1 ff2b_0 ff2b_1 y2b
    have b3_0 : Below wd.heap.size wd (v3.alloc (.cells #[.string nm, .int .i64 op, .int .i64 kd, .int .i64 n', .float .f64 x, .string s, .bool y] 31)) := bv3.alloc bv3.size _
    obtain ⟨q3, e3, zw3, hb3, K3⟩ := appendN_run (wd.alloc (.cells #[.string ⟨#[]⟩, .slice none 0 0] 24)).drew.heap.size L [⟨⟨nm, kd, n', x, s, y⟩, op⟩] (.slice r3 len c3) (v3.alloc (.cells #[.string nm, .int .i64 op, .int .i64 kd, .int .i64 n', .float .f64 x, .string s, .bool y] 31)) v3.heap.size 0 1 1 (len + 1) (H3.out.1.alloc (.cells #[.string nm, .int .i64 op, .int .i64 kd, .int .i64 n', .float .f64 x, .string s, .bool y] 31)) (rowX ⟨⟨nm, kd, n', x, s, y⟩, op⟩ v3 _) rfl lL1 (Nat.le_trans H3.out.2.1.size (by simp <;> omega)) (by omega)
    have bw3 : Below wd.heap.size wd zw3 := b3_0.trans (K3.out.2.1.mono b3.size)
    have y3 : wd.heap.size < (wd.alloc (.cells #[.string ⟨#[]⟩, .slice none 0 0] 24)).heap.size := by simp <;> omega
    have t3 : Below (wd.alloc (.cells #[.string ⟨#[]⟩, .slice none 0 0] 24)).heap.size (wd.alloc (.cells #[.string ⟨#[]⟩, .slice none 0 0] 24)) zw3 := (Below.refl _ _).drew.trans (H3.out.2.1.trans (((Below.refl _ _).alloc H3.out.2.1.size _).trans K3.out.2.1))
    have zz3_0 : (wd.alloc (.cells #[.string ⟨#[]⟩, .slice none 0 0] 24)).cell? ⟨wd.heap.size, 0, none⟩ = some (.string ⟨#[]⟩) := lay_at _ _ 0 _ rfl (by simp)
    have ff3_0 : (wd.alloc (.cells #[.string ⟨#[]⟩, .slice none 0 0] 24)).frozen? ⟨wd.heap.size, 0, none⟩ = false := fr_at _ _ 0 (by simp)
    have z3_0 : zw3.cell? ⟨wd.heap.size, 0, none⟩ = some (.string ⟨#[]⟩) := (t3.cell (p := ⟨wd.heap.size, 0, none⟩) y3).trans zz3_0
    have f3_0 : zw3.frozen? ⟨wd.heap.size, 0, none⟩ = false := (t3.frozen (p := ⟨wd.heap.size, 0, none⟩) y3).trans ff3_0
    have zz3_1 : (wd.alloc (.cells #[.string ⟨#[]⟩, .slice none 0 0] 24)).cell? ⟨wd.heap.size, 1, none⟩ = some (.slice none 0 0) := lay_at _ _ 1 _ rfl (by simp)
    have ff3_1 : (wd.alloc (.cells #[.string ⟨#[]⟩, .slice none 0 0] 24)).frozen? ⟨wd.heap.size, 1, none⟩ = false := fr_at _ _ 1 (by simp)
    have z3_1 : zw3.cell? ⟨wd.heap.size, 1, none⟩ = some (.slice none 0 0) := (t3.cell (p := ⟨wd.heap.size, 1, none⟩) y3).trans zz3_1
    have f3_1 : zw3.frozen? ⟨wd.heap.size, 1, none⟩ = false := (t3.frozen (p := ⟨wd.heap.size, 1, none⟩) y3).trans ff3_1
    have o3 : Aside (∀ k, (Value.slice q3 (len + 1) e3).ownBlock = some k → k ≠ wd.heap.size) := fun k e => by
      have h1 : (wd.alloc (.cells #[.string ⟨#[]⟩, .slice none 0 0] 24)).heap.size ≤ k := (K3.out.1.lt k e).1
      have := y3
      omega
    have p3 : Aside (wd.heap.size < zw3.heap.size) := Nat.lt_of_lt_of_le y3 t3.size
    clear t3
    have l3 : Aside (wd.heap.size ≤ wd.heap.size) := (Nat.le_refl _)
    clear zz3_0 zz3_1 ff3_0 ff3_1 y3
    obtain ⟨q4, e4, zw4, hb4, K4⟩ := appendN_run ((wd.alloc (.cells #[.string nm, .int .i64 op, .int .i64 kd, .int .i64 n', .float .f64 x, .string s, .bool y] 31)).alloc (.cells #[.string ⟨#[]⟩, .slice none 0 0] 24)).drew.heap.size L [⟨⟨nm, kd, n', x, s, y⟩, op⟩] (.slice r4 len c4) v4 wd.heap.size 0 1 1 (len + 1) H4.out.1 (((rowX ⟨⟨nm, kd, n', x, s, y⟩, op⟩ wd 31).below ((Below.refl _ _).alloc (Nat.le_refl _) (.cells #[.string ⟨#[]⟩, .slice none 0 0] 24)) (by simp)).below ((Below.refl _ _).drew.trans H4.out.2.1) (by simp; omega)) rfl lL1 (Nat.le_trans H4.out.2.1.size (by simp <;> omega)) (by omega)
    have bw4 : Below wd.heap.size wd zw4 := bv4.trans (K4.out.2.1.mono b4.size)
    have y4 : wd.heap.size + 1 < ((wd.alloc (.cells #[.string nm, .int .i64 op, .int .i64 kd, .int .i64 n', .float .f64 x, .string s, .bool y] 31)).alloc (.cells #[.string ⟨#[]⟩, .slice none 0 0] 24)).heap.size := by simp <;> omega
    have t4 : Below ((wd.alloc (.cells #[.string nm, .int .i64 op, .int .i64 kd, .int .i64 n', .float .f64 x, .string s, .bool y] 31)).alloc (.cells #[.string ⟨#[]⟩, .slice none 0 0] 24)).heap.size ((wd.alloc (.cells #[.string nm, .int .i64 op, .int .i64 kd, .int .i64 n', .float .f64 x, .string s, .bool y] 31)).alloc (.cells #[.string ⟨#[]⟩, .slice none 0 0] 24)) zw4 := (Below.refl _ _).drew.trans (H4.out.2.1.trans K4.out.2.1)
    have zz4_0 : ((wd.alloc (.cells #[.string nm, .int .i64 op, .int .i64 kd, .int .i64 n', .float .f64 x, .string s, .bool y] 31)).alloc (.cells #[.string ⟨#[]⟩, .slice none 0 0] 24)).cell? ⟨wd.heap.size + 1, 0, none⟩ = some (.string ⟨#[]⟩) := lay_at _ _ 0 _ rfl (by simp)
    have ff4_0 : ((wd.alloc (.cells #[.string nm, .int .i64 op, .int .i64 kd, .int .i64 n', .float .f64 x, .string s, .bool y] 31)).alloc (.cells #[.string ⟨#[]⟩, .slice none 0 0] 24)).frozen? ⟨wd.heap.size + 1, 0, none⟩ = false := fr_at _ _ 0 (by simp)
    have z4_0 : zw4.cell? ⟨wd.heap.size + 1, 0, none⟩ = some (.string ⟨#[]⟩) := (t4.cell (p := ⟨wd.heap.size + 1, 0, none⟩) y4).trans zz4_0
    have f4_0 : zw4.frozen? ⟨wd.heap.size + 1, 0, none⟩ = false := (t4.frozen (p := ⟨wd.heap.size + 1, 0, none⟩) y4).trans ff4_0
    have zz4_1 : ((wd.alloc (.cells #[.string nm, .int .i64 op, .int .i64 kd, .int .i64 n', .float .f64 x, .string s, .bool y] 31)).alloc (.cells #[.string ⟨#[]⟩, .slice none 0 0] 24)).cell? ⟨wd.heap.size + 1, 1, none⟩ = some (.slice none 0 0) := lay_at _ _ 1 _ rfl (by simp)
    have ff4_1 : ((wd.alloc (.cells #[.string nm, .int .i64 op, .int .i64 kd, .int .i64 n', .float .f64 x, .string s, .bool y] 31)).alloc (.cells #[.string ⟨#[]⟩, .slice none 0 0] 24)).frozen? ⟨wd.heap.size + 1, 1, none⟩ = false := fr_at _ _ 1 (by simp)
    have z4_1 : zw4.cell? ⟨wd.heap.size + 1, 1, none⟩ = some (.slice none 0 0) := (t4.cell (p := ⟨wd.heap.size + 1, 1, none⟩) y4).trans zz4_1
    have f4_1 : zw4.frozen? ⟨wd.heap.size + 1, 1, none⟩ = false := (t4.frozen (p := ⟨wd.heap.size + 1, 1, none⟩) y4).trans ff4_1
    have o4 : Aside (∀ k, (Value.slice q4 (len + 1) e4).ownBlock = some k → k ≠ wd.heap.size + 1) := fun k e => by
      have h1 : ((wd.alloc (.cells #[.string nm, .int .i64 op, .int .i64 kd, .int .i64 n', .float .f64 x, .string s, .bool y] 31)).alloc (.cells #[.string ⟨#[]⟩, .slice none 0 0] 24)).heap.size ≤ k := (K4.out.1.lt k e).1
      have := y4
      omega
    have p4 : Aside (wd.heap.size + 1 < zw4.heap.size) := Nat.lt_of_lt_of_le y4 t4.size
    clear t4
    have l4 : Aside (wd.heap.size ≤ wd.heap.size + 1) := (Nat.le_succ _)
    clear zz4_0 zz4_1 ff4_0 ff4_1 y4
    obtain ⟨q5, e5, zw5, hb5, K5⟩ := appendN_run ((wd.alloc (.cells #[.string ⟨#[]⟩, .slice none 0 0] 24)).alloc (.cells #[.string nm, .int .i64 op, .int .i64 kd, .int .i64 n', .float .f64 x, .string s, .bool y] 31)).drew.heap.size L [⟨⟨nm, kd, n', x, s, y⟩, op⟩] (.slice r5 len c5) v5 (wd.heap.size + 1) 0 1 1 (len + 1) H5.out.1 (by have := (rowX ⟨⟨nm, kd, n', x, s, y⟩, op⟩ (wd.alloc (.cells #[.string ⟨#[]⟩, .slice none 0 0] 24)) 31).below ((Below.refl _ _).drew.trans H5.out.2.1) (by simp); simpa using this) rfl lL1 (Nat.le_trans H5.out.2.1.size (by simp <;> omega)) (by omega)
    have bw5 : Below wd.heap.size wd zw5 := bv5.trans (K5.out.2.1.mono b5.size)
    have y5 : wd.heap.size < ((wd.alloc (.cells #[.string ⟨#[]⟩, .slice none 0 0] 24)).alloc (.cells #[.string nm, .int .i64 op, .int .i64 kd, .int .i64 n', .float .f64 x, .string s, .bool y] 31)).heap.size := by simp <;> omega
    have t5 : Below ((wd.alloc (.cells #[.string ⟨#[]⟩, .slice none 0 0] 24)).alloc (.cells #[.string nm, .int .i64 op, .int .i64 kd, .int .i64 n', .float .f64 x, .string s, .bool y] 31)).heap.size ((wd.alloc (.cells #[.string ⟨#[]⟩, .slice none 0 0] 24)).alloc (.cells #[.string nm, .int .i64 op, .int .i64 kd, .int .i64 n', .float .f64 x, .string s, .bool y] 31)) zw5 := (Below.refl _ _).drew.trans (H5.out.2.1.trans K5.out.2.1)
    have zz5_0 : ((wd.alloc (.cells #[.string ⟨#[]⟩, .slice none 0 0] 24)).alloc (.cells #[.string nm, .int .i64 op, .int .i64 kd, .int .i64 n', .float .f64 x, .string s, .bool y] 31)).cell? ⟨wd.heap.size, 0, none⟩ = some (.string ⟨#[]⟩) := lay_at2 _ _ 0 _ rfl
    have ff5_0 : ((wd.alloc (.cells #[.string ⟨#[]⟩, .slice none 0 0] 24)).alloc (.cells #[.string nm, .int .i64 op, .int .i64 kd, .int .i64 n', .float .f64 x, .string s, .bool y] 31)).frozen? ⟨wd.heap.size, 0, none⟩ = false := fr_at2 _ _ 0
    have z5_0 : zw5.cell? ⟨wd.heap.size, 0, none⟩ = some (.string ⟨#[]⟩) := (t5.cell (p := ⟨wd.heap.size, 0, none⟩) y5).trans zz5_0
    have f5_0 : zw5.frozen? ⟨wd.heap.size, 0, none⟩ = false := (t5.frozen (p := ⟨wd.heap.size, 0, none⟩) y5).trans ff5_0
    have zz5_1 : ((wd.alloc (.cells #[.string ⟨#[]⟩, .slice none 0 0] 24)).alloc (.cells #[.string nm, .int .i64 op, .int .i64 kd, .int .i64 n', .float .f64 x, .string s, .bool y] 31)).cell? ⟨wd.heap.size, 1, none⟩ = some (.slice none 0 0) := lay_at2 _ _ 1 _ rfl
    have ff5_1 : ((wd.alloc (.cells #[.string ⟨#[]⟩, .slice none 0 0] 24)).alloc (.cells #[.string nm, .int .i64 op, .int .i64 kd, .int .i64 n', .float .f64 x, .string s, .bool y] 31)).frozen? ⟨wd.heap.size, 1, none⟩ = false := fr_at2 _ _ 1
    have z5_1 : zw5.cell? ⟨wd.heap.size, 1, none⟩ = some (.slice none 0 0) := (t5.cell (p := ⟨wd.heap.size, 1, none⟩) y5).trans zz5_1
    have f5_1 : zw5.frozen? ⟨wd.heap.size, 1, none⟩ = false := (t5.frozen (p := ⟨wd.heap.size, 1, none⟩) y5).trans ff5_1
    have o5 : Aside (∀ k, (Value.slice q5 (len + 1) e5).ownBlock = some k → k ≠ wd.heap.size) := fun k e => by
      have h1 : ((wd.alloc (.cells #[.string ⟨#[]⟩, .slice none 0 0] 24)).alloc (.cells #[.string nm, .int .i64 op, .int .i64 kd, .int .i64 n', .float .f64 x, .string s, .bool y] 31)).heap.size ≤ k := (K5.out.1.lt k e).1
      have := y5
      omega
    have p5 : Aside (wd.heap.size < zw5.heap.size) := Nat.lt_of_lt_of_le y5 t5.size
    clear t5
    have l5 : Aside (wd.heap.size ≤ wd.heap.size) := (Nat.le_refl _)
    clear zz5_0 zz5_1 ff5_0 ff5_1 y5
    clear hWc hf hgr0 hc hgr lL lL1 hv1 hv2 hv3 hv4 hv5
    go_upto_region 7 with fail
    go_cut [6] (fun s6 wx => ∃ (Hh : Nat) (qo : Option Addr) (qc : Nat), s6 = .pointer (some ⟨Hh, 0, none⟩) ∧ Aside (Below wd.heap.size wd wx ∧ LaidF wx wd.heap.size Hh sc qo (len + 1) qc (L ++ [⟨⟨nm, kd, n', x, s, y⟩, op⟩])))
    case first =>
      go_region
      all_goals
        go_wp2_with fail
        go_meet
      all_goals clear k0 k1 kg kc0 kc1 kc2 kc3 kc4 kc5 kc6
      · exact ⟨_, _, _, rfl, bw1a.alloc bw1a.size _, laidF_new _ K1a.out.1 bw1a.size⟩
      · exact ⟨_, _, _, rfl, (bw1b.setCell l1b.out _).setCell l1b.out _, laidF_put K1b.out.1 l1b.out p1b.out o1b.out z1b_0 z1b_1⟩
      · exact ⟨_, _, _, rfl, (bw1c.setCell l1c.out _).setCell l1c.out _, laidF_put K1c.out.1 l1c.out p1c.out o1c.out z1c_0 z1c_1⟩
      · exact ⟨_, _, _, rfl, bw2a.alloc bw2a.size _, laidF_new _ K2a.out.1 bw2a.size⟩
      · exact ⟨_, _, _, rfl, (bw2b.setCell l2b.out _).setCell l2b.out _, laidF_put K2b.out.1 l2b.out p2b.out o2b.out z2b_0 z2b_1⟩
      · exact ⟨_, _, _, rfl, (bw4.setCell l4.out _).setCell l4.out _, laidF_put K4.out.1 l4.out p4.out o4.out z4_0 z4_1⟩
      · exact ⟨_, _, _, rfl, (bw3.setCell l3.out _).setCell l3.out _, laidF_put K3.out.1 l3.out p3.out o3.out z3_0 z3_1⟩
      · exact ⟨_, _, _, rfl, (bw5.setCell l5.out _).setCell l5.out _, laidF_put K5.out.1 l5.out p5.out o5.out z5_0 z5_1⟩
    case rest =>
      clear b1 bv1 b2 bv2 b3 bv3 b4 bv4 b5 bv5 b1a_0 bw1a bz1a z1a_0 f1a_0 z1a_1 f1a_1 b1b_0 b1b_1 bw1b z1b_0 f1b_0 z1b_1 f1b_1 o1b p1b l1b b1c_0 b1c_1 bw1c z1c_0 f1c_0 z1c_1 f1c_1 o1c p1c l1c bw2a bz2a z2a_0 f2a_0 z2a_1 f2a_1 b2b_0 bw2b z2b_0 f2b_0 z2b_1 f2b_1 o2b p2b l2b b3_0 bw3 z3_0 f3_0 z3_1 f3_1 o3 p3 l3 bw4 z4_0 f4_0 z4_1 f4_1 o4 p4 l4 bw5 z5_0 f5_0 z5_1 f5_1 o5 p5 l5 ha1 H1 ha2 H2 ha3 H3 ha4 H4 ha5 H5 hb1a K1a hb1b K1b hb1c K1c hb2a K2a hb2b K2b hb3 K3 hb4 K4 hb5 K5
      obtain ⟨Hh, qo, qc, rfl, HH⟩ := hcut
      obtain ⟨m, hm⟩ : ∃ m, m = len + 1 := ⟨_, rfl⟩
      have HM : Aside (m = len + 1) := hm
      rw [← hm] at HH
      clear hm
      have HWc : Aside (∀ W, Below wc.heap.size wc W → Below w4.heap.size w4 W ∧ Below w.heap.size w W ∧ Below wd.heap.size wd W) := fun W h =>
        have h1 := HH.out.1.trans (h.mono HH.out.1.size)
        have h2 := HG.out.1.trans (h1.mono HG.out.1.size)
        ⟨h2, HLow.out.trans (h2.mono (by have := HLow.out.size; omega)), h1⟩
      have ML : Aside (∀ c, c ∈ L ↔ c ∈ cs) := fun c => by rw [HLL.out]; exact turn_mem cs tv c
      have MH : Aside (∀ c, c ∈ L ++ [⟨⟨nm, kd, n', x, s, y⟩, op⟩] ↔ c ∈ cs) := fun c => by rw [HLL.out, HC0.out]; exact twice_mem cs tv (by rw [← HLen.out]; exact hN0) c
      have LL : Aside (L.length = len) := by show L.length = len; rw [HLL.out, List.length_append, List.length_drop, List.length_take, ← HLen.out]; omega
      have LH : Aside ((L ++ [(⟨⟨nm, kd, n', x, s, y⟩, op⟩ : Cn)]).length = m) := by rw [List.length_append, LL.out, HM.out]; rfl
      generalize (L ++ [(⟨⟨nm, kd, n', x, s, y⟩, op⟩ : Cn)]) = M at *
      have MF : Aside (∀ c, c ∈ cs ↔ c ∈ cs) := fun c => Iff.rfl
      have h19 := H6.out
      have KK := fun p : BW wc => HWc.out p.W p.h
      have x0 : ∀ p : BW wc, p.W.cell? ⟨w.heap.size, 0, none⟩ = some (.string sc) := fun p => (HKP.out p.W (HA4.out.trans ((KK p).1.mono Z4.out))).1
      have x1 : ∀ p : BW wc, p.W.cell? ⟨w.heap.size, 1, none⟩ = some (.slice (some ⟨b, off, none⟩) len ccap) := fun p => (HKP.out p.W (HA4.out.trans ((KK p).1.mono Z4.out))).2
      have y0 : ∀ p : BW wc, p.W.cell? ⟨G, 0, none⟩ = some (.string sc) := fun p => ((KK p).2.2.cell (p := ⟨G, 0, none⟩) HG.out.2.2.1).trans HG.out.2.2.2.1.1
      have y1 : ∀ p : BW wc, p.W.cell? ⟨G, 1, none⟩ = some (.slice (some ⟨gb, go, none⟩) len rcap) := fun p => ((KK p).2.2.cell (p := ⟨G, 1, none⟩) HG.out.2.2.1).trans HG.out.2.2.2.1.2
      have e0 : ∀ p : BW wc, p.W.cell? ⟨Hh, 0, none⟩ = some (.string sc) := fun p => (p.h.cell (p := ⟨Hh, 0, none⟩) HH.out.2.2.1).trans HH.out.2.2.2.1.1
      have e1 : ∀ p : BW wc, p.W.cell? ⟨Hh, 1, none⟩ = some (.slice qo m qc) := fun p => (p.h.cell (p := ⟨Hh, 1, none⟩) HH.out.2.2.1).trans HH.out.2.2.2.1.2
      have cF := fun p : BW wc => HCS.out p.W (KK p).2.1
      have cG := fun p : BW wc => HG.out.2.2.2.2.on (KK p).2.2
      have cH := fun p : BW wc => HH.out.2.2.2.2.on p.h
      have hKF : ∀ p : BW wc, Calls Tryz.prog 7 #[fil sc (some ⟨b, off, none⟩) len ccap] p.W fun e w'' => e = .returned (.string K) ∧ ∃ q : BW wc, w'' = q.W := fun p => (HTK'.out.key cs MF.out (by rw [← HLen.out]; omega) len HLen.out.symm _ ccap p.W (KK p).2.1 (cF p)).mono fun _ _ q => ⟨q.1, ⟨⟨_, p.h.trans (q.2.mono p.h.size)⟩, rfl⟩⟩
      have hKG : ∀ p : BW wc, Calls Tryz.prog 7 #[fil sc (some ⟨gb, go, none⟩) len rcap] p.W fun e w'' => e = .returned (.string K) ∧ ∃ q : BW wc, w'' = q.W := fun p => (HTK'.out.key L ML.out (by rw [LL.out]; omega) len LL.out _ rcap p.W (KK p).2.1 (cG p)).mono fun _ _ q => ⟨q.1, ⟨⟨_, p.h.trans (q.2.mono p.h.size)⟩, rfl⟩⟩
      have hKH : ∀ p : BW wc, Calls Tryz.prog 7 #[fil sc qo m qc] p.W fun e w'' => e = .returned (.string K) ∧ ∃ q : BW wc, w'' = q.W := fun p => (HTK'.out.key M MH.out (by rw [LH.out, HM.out]; omega) m LH.out _ qc p.W (KK p).2.1 (cH p)).mono fun _ _ q => ⟨q.1, ⟨⟨_, p.h.trans (q.2.mono p.h.size)⟩, rfl⟩⟩
      have hCF : ∀ p : BW wc, Calls Tryz.prog 8 #[fil sc (some ⟨b, off, none⟩) len ccap, fil sc (some ⟨gb, go, none⟩) len rcap] p.W fun e w'' => e = .returned (.bool true) ∧ ∃ q : BW wc, w'' = q.W := fun p => (HTK'.out.cov cs L MF.out ML.out (by rw [← HLen.out]; omega) (by rw [LL.out]; omega) len len HLen.out.symm LL.out _ ccap _ rcap p.W (cF p) (cG p)).mono fun _ _ q => ⟨q.1, ⟨⟨_, p.h.trans (q.2.mono p.h.size)⟩, rfl⟩⟩
      have hCG : ∀ p : BW wc, Calls Tryz.prog 8 #[fil sc (some ⟨gb, go, none⟩) len rcap, fil sc (some ⟨b, off, none⟩) len ccap] p.W fun e w'' => e = .returned (.bool true) ∧ ∃ q : BW wc, w'' = q.W := fun p => (HTK'.out.cov L cs ML.out MF.out (by rw [LL.out]; omega) (by rw [← HLen.out]; omega) len len LL.out HLen.out.symm _ rcap _ ccap p.W (cG p) (cF p)).mono fun _ _ q => ⟨q.1, ⟨⟨_, p.h.trans (q.2.mono p.h.size)⟩, rfl⟩⟩
      have hk2 : (K.toList == K.toList) = true := by simp
      have HEND : Aside (∀ p : BW wc, Below w.heap.size w p.W) := fun p => (KK p).2.1
      clear cF cG cH KK HWc ML MH MF LL LH HM HTK' HG HH HLow HCS HKP HA4 HROW HB0 HLL HC0 HLen h19 H6 Z4 hN0 hl0 hlen0 hgb
      by_cases h7 : 6 < m
      · have h7z : (6 : Int) < (m : Int) := by omega
        go_upto_region 8 with fail
        refine wp_region_bw (by kernel_rfl) (by kernel_rfl) ?_
        repeat (quiet_step (first | (go_at_call 7; first | (with_reducible exact hKF _) | (with_reducible exact hKG _) | (with_reducible exact hKH _)) | (go_at_call 8; first | (with_reducible exact hCF _) | (with_reducible exact hCG _))))
        refine wpQuiet_nil ?_
        intro w2' hw'
        obtain ⟨pw, hw2⟩ := hw'
        have HX2 : Aside (Below w.heap.size w w2') := by rw [hw2]; exact HEND.out pw
        clear x0 x1 y0 y1 e0 e1 hKF hKG hKH hCF hCG hw2 pw
        go_wp2_with fail
        go_ret
        exact ⟨rfl, HX2.out⟩
      · have h7z : (m : Int) ≤ 6 := by omega
        go_upto_region 8 with fail
        refine wp_region_bw (by kernel_rfl) (by kernel_rfl) ?_
        repeat (quiet_step (first | (go_at_call 7; first | (with_reducible exact hKF _) | (with_reducible exact hKG _) | (with_reducible exact hKH _)) | (go_at_call 8; first | (with_reducible exact hCF _) | (with_reducible exact hCG _))))
        refine wpQuiet_nil ?_
        intro w2' hw'
        obtain ⟨pw, hw2⟩ := hw'
        have HX2 : Aside (Below w.heap.size w w2') := by rw [hw2]; exact HEND.out pw
        clear x0 x1 y0 y1 e0 e1 hKF hKG hKH hCF hCG hw2 pw
        go_wp2_with fail
        go_ret
        exact ⟨rfl, HX2.out⟩
end Go.Proofs.YtfffmndjgjfflaaGreatDoor
