/- FilterChains: what covers what covers a third one covers that; two that cover one another match the same. (Written by gen_chains7.py.) -/
import Derived.Test.YtmnneanepiflkaaGreatDoorGaJ
import Derived.Test.YtmnneanepiflkaaGreatDoorFilS
import Derived.Deep.RegionWith
import Derived.Deep.RegionHeld3
import Derived.Deep.DeepCutAuto
namespace Go.Proofs.YtmnneanepiflkaaGreatDoor
open Go.RowKit Go.Shelf
open Go.Proofs
set_option maxRecDepth 100000


@[local go_sem] theorem idx_0 (sc0 sc1 sc2 : ByteArray) (co0 co1 co2 : Option Addr) (n0 n1 n2 cp0 cp1 cp2 : Nat) (w : World) : (Instr.index 57 (.agg #[.string sc0, .slice co0 n0 cp0, .string sc1, .slice co1 n1 cp1, .string sc2, .slice co2 n2 cp2]) (.int .i64 0)).run Tryz.prog w = .ok (.agg #[.string sc0, .slice co0 n0 cp0]) w := by kernel_rfl
@[local go_sem] theorem idx_1 (sc0 sc1 sc2 : ByteArray) (co0 co1 co2 : Option Addr) (n0 n1 n2 cp0 cp1 cp2 : Nat) (w : World) : (Instr.index 57 (.agg #[.string sc0, .slice co0 n0 cp0, .string sc1, .slice co1 n1 cp1, .string sc2, .slice co2 n2 cp2]) (.int .i64 1)).run Tryz.prog w = .ok (.agg #[.string sc1, .slice co1 n1 cp1]) w := by kernel_rfl
@[local go_sem] theorem idx_2 (sc0 sc1 sc2 : ByteArray) (co0 co1 co2 : Option Addr) (n0 n1 n2 cp0 cp1 cp2 : Nat) (w : World) : (Instr.index 57 (.agg #[.string sc0, .slice co0 n0 cp0, .string sc1, .slice co1 n1 cp1, .string sc2, .slice co2 n2 cp2]) (.int .i64 2)).run Tryz.prog w = .ok (.agg #[.string sc2, .slice co2 n2 cp2]) w := by kernel_rfl
/-- Two cells, in every world in which the older blocks lie as they lay. -/
def Lies (wx : World) (A : Nat) (s0 : ByteArray) (c0 : Option Addr) (n0 p0 : Nat) : Prop := ∀ W, Below wx.heap.size wx W → W.cell? ⟨A, 0, none⟩ = some (.string s0) ∧ W.cell? ⟨A, 1, none⟩ = some (.slice c0 n0 p0)
theorem three_new {w1 : World} {s0 : ByteArray} {c0 : Option Addr} {n0 p0 : Nat} {s1 : ByteArray} {c1 : Option Addr} {n1 p1 : Nat} {s2 : ByteArray} {c2 : Option Addr} {n2 p2 : Nat} :
    Below w1.heap.size w1 (((w1.alloc (.cells #[.string s0, .slice c0 n0 p0] 42)).alloc (.cells #[.string s1, .slice c1 n1 p1] 42)).alloc (.cells #[.string s2, .slice c2 n2 p2] 42)).drew ∧
    Lies (((w1.alloc (.cells #[.string s0, .slice c0 n0 p0] 42)).alloc (.cells #[.string s1, .slice c1 n1 p1] 42)).alloc (.cells #[.string s2, .slice c2 n2 p2] 42)).drew w1.heap.size s0 c0 n0 p0 ∧
    Lies (((w1.alloc (.cells #[.string s0, .slice c0 n0 p0] 42)).alloc (.cells #[.string s1, .slice c1 n1 p1] 42)).alloc (.cells #[.string s2, .slice c2 n2 p2] 42)).drew (w1.heap.size + 1) s1 c1 n1 p1 ∧
    Lies (((w1.alloc (.cells #[.string s0, .slice c0 n0 p0] 42)).alloc (.cells #[.string s1, .slice c1 n1 p1] 42)).alloc (.cells #[.string s2, .slice c2 n2 p2] 42)).drew (w1.heap.size + 1 + 1) s2 c2 n2 p2 := by
  have h := fun W (hW : Below (((w1.alloc (.cells #[.string s0, .slice c0 n0 p0] 42)).alloc (.cells #[.string s1, .slice c1 n1 p1] 42)).alloc (.cells #[.string s2, .slice c2 n2 p2] 42)).drew.heap.size (((w1.alloc (.cells #[.string s0, .slice c0 n0 p0] 42)).alloc (.cells #[.string s1, .slice c1 n1 p1] 42)).alloc (.cells #[.string s2, .slice c2 n2 p2] 42)).drew W) => lay3 ((below_drew1 _).trans (hW.mono (by simp)))
  exact ⟨((((Below.refl _ _).alloc' _).alloc' _).alloc' _).trans (below_drew1 _), fun W hW => ⟨(h W hW).1 0 _ rfl, (h W hW).1 1 _ rfl⟩, fun W hW => ⟨(h W hW).2.1 0 _ rfl, (h W hW).2.1 1 _ rfl⟩, fun W hW => ⟨(h W hW).2.2 0 _ rfl, (h W hW).2.2 1 _ rfl⟩⟩
set_option maxHeartbeats 16000000 in
theorem filterChains_c (sc0 : ByteArray) (co0 : Option Addr) (cp0 : Nat) (cs0 : List Cn) (sc1 : ByteArray) (co1 : Option Addr) (cp1 : Nat) (cs1 : List Cn) (sc2 : ByteArray) (co2 : Option Addr) (cp2 : Nat) (cs2 : List Cn) (s : ByteArray) (ao : Option Addr) (cap : Nat) (l : List At) (w : World) (hm : MaxI w) (hw : Wds w) (hF0 : FilIs MB w sc0 co0 cs0) (hF1 : FilIs MB w sc1 co1 cs1) (hF2 : FilIs MB w sc2 co2 cs2) (hl : SliceA w ao l) (hal : ∀ a ∈ l, AtW MB a) (hln : l.length * 64 ≤ MB) :
    Calls Tryz.prog 8 #[.agg #[.string sc0, .slice co0 cs0.length cp0, .string sc1, .slice co1 cs1.length cp1, .string sc2, .slice co2 cs2.length cp2], .string s, .slice ao l.length cap] w fun e w' => e = .returned (.bool true) ∧ Below w.heap.size w w' := by
  have hll : l.length ≤ 4611686018427387904 := by unfold MB at hln; omega
  have HFT : Aside (∀ W, Below w.heap.size w W → Calls Tryz.prog 20 #[] W fun e w' => e = .returned (.bool true) ∧ Below W.heap.size W w') := fun W hW => fit7_c W (hw.on hW) (hm.below hW)
  have HFW : Aside (∀ W, Below w.heap.size w W → Calls Tryz.prog 22 #[.slice ao l.length cap] W fun e w' => e = .returned (.bool (fewA l)) ∧ Below W.heap.size W w') := fun W hW => few_c ao cap l W (hl.under hW) hll
  have HEV : Aside (fewA l = true → s.size ≤ 100 → ∀ W, Below w.heap.size w W → Calls Tryz.prog 25 #[.string s, .slice ao l.length cap] W fun e w' => ∃ bo bcap es, e = .returned (.agg #[.string (scopeE s), .slice bo es.length bcap]) ∧ Aside (EvtIs W w' bo l es)) := fun h h2 W hW =>
    event_c s ao cap l W (Nat.le_trans (few_all (by decide) h hal) (by decide)) (hl.under hW) (by omega) (hm.below hW)
  have HEB : Aside (∀ (W0 W1 : World) (bo : Option Addr) (es : List At), EvtIs W0 W1 bo l es → Below W0.heap.size W0 W1 ∧ SliceA W1 bo es ∧ es.length ≤ 8 ∧ ∀ a ∈ es, AtOk a) := fun W0 W1 bo es h => ⟨by obtain ⟨_, _, _, _, h4⟩ := h; exact h4, by obtain ⟨_, _, _, h4, _⟩ := h; exact h4, evt_len h, fun a ha => (evt_ok h hal a ha).1⟩
  have hlc0 : cs0.length ≤ 4611686018427387904 := by have := hF0.2.2.1; unfold MB at this; omega
  have HLT0 : Aside (∀ W, Below w.heap.size w W → Calls Tryz.prog 21 #[fil sc0 co0 cs0.length cp0] W fun e w' => e = .returned (.bool (lightF sc0 cs0)) ∧ Below W.heap.size W w') := fun W hW => flight_c sc0 co0 cp0 cs0 W (hF0.1.on hW) hlc0
  have HFR0 : Aside (lightF sc0 cs0 = true → ∀ W, Below w.heap.size w W → Calls Tryz.prog 24 #[fil sc0 co0 cs0.length cp0] W fun e w' => e = .returned (.bool (rightF sc0 cs0)) ∧ Below W.heap.size W w') := fun h W hW => fright_c sc0 co0 cp0 cs0 W (hF0.1.on hW) hlc0 (Nat.le_trans (light_all (by decide) h hF0).1 (by decide)) (hm.below hW)
  have hlc1 : cs1.length ≤ 4611686018427387904 := by have := hF1.2.2.1; unfold MB at this; omega
  have HLT1 : Aside (∀ W, Below w.heap.size w W → Calls Tryz.prog 21 #[fil sc1 co1 cs1.length cp1] W fun e w' => e = .returned (.bool (lightF sc1 cs1)) ∧ Below W.heap.size W w') := fun W hW => flight_c sc1 co1 cp1 cs1 W (hF1.1.on hW) hlc1
  have HFR1 : Aside (lightF sc1 cs1 = true → ∀ W, Below w.heap.size w W → Calls Tryz.prog 24 #[fil sc1 co1 cs1.length cp1] W fun e w' => e = .returned (.bool (rightF sc1 cs1)) ∧ Below W.heap.size W w') := fun h W hW => fright_c sc1 co1 cp1 cs1 W (hF1.1.on hW) hlc1 (Nat.le_trans (light_all (by decide) h hF1).1 (by decide)) (hm.below hW)
  have hlc2 : cs2.length ≤ 4611686018427387904 := by have := hF2.2.2.1; unfold MB at this; omega
  have HLT2 : Aside (∀ W, Below w.heap.size w W → Calls Tryz.prog 21 #[fil sc2 co2 cs2.length cp2] W fun e w' => e = .returned (.bool (lightF sc2 cs2)) ∧ Below W.heap.size W w') := fun W hW => flight_c sc2 co2 cp2 cs2 W (hF2.1.on hW) hlc2
  have HFR2 : Aside (lightF sc2 cs2 = true → ∀ W, Below w.heap.size w W → Calls Tryz.prog 24 #[fil sc2 co2 cs2.length cp2] W fun e w' => e = .returned (.bool (rightF sc2 cs2)) ∧ Below W.heap.size W w') := fun h W hW => fright_c sc2 co2 cp2 cs2 W (hF2.1.on hW) hlc2 (Nat.le_trans (light_all (by decide) h hF2).1 (by decide)) (hm.below hW)
  have HCV01 : Aside (rightF sc0 cs0 = true → ∀ W, Below w.heap.size w W → Calls Tryz.prog 28 #[fil sc0 co0 cs0.length cp0, fil sc1 co1 cs1.length cp1] W fun e w' => e = .returned (.bool (coversF sc0 cs0 sc1 cs1)) ∧ Below W.heap.size W w') := fun h W hW => fcovers_c sc0 co0 cp0 cs0 sc1 co1 cp1 cs1 W (hF0.1.on hW) (fun c hc => (hF0.2.1 c hc).1) hlc0 (hF1.1.on hW) (fun c hc => (hF1.2.1 c hc).1) hlc1 (Nat.le_trans (rightF_size h) (by decide))
  have HCV12 : Aside (rightF sc1 cs1 = true → ∀ W, Below w.heap.size w W → Calls Tryz.prog 28 #[fil sc1 co1 cs1.length cp1, fil sc2 co2 cs2.length cp2] W fun e w' => e = .returned (.bool (coversF sc1 cs1 sc2 cs2)) ∧ Below W.heap.size W w') := fun h W hW => fcovers_c sc1 co1 cp1 cs1 sc2 co2 cp2 cs2 W (hF1.1.on hW) (fun c hc => (hF1.2.1 c hc).1) hlc1 (hF2.1.on hW) (fun c hc => (hF2.2.1 c hc).1) hlc2 (Nat.le_trans (rightF_size h) (by decide))
  have HCV02 : Aside (rightF sc0 cs0 = true → ∀ W, Below w.heap.size w W → Calls Tryz.prog 28 #[fil sc0 co0 cs0.length cp0, fil sc2 co2 cs2.length cp2] W fun e w' => e = .returned (.bool (coversF sc0 cs0 sc2 cs2)) ∧ Below W.heap.size W w') := fun h W hW => fcovers_c sc0 co0 cp0 cs0 sc2 co2 cp2 cs2 W (hF0.1.on hW) (fun c hc => (hF0.2.1 c hc).1) hlc0 (hF2.1.on hW) (fun c hc => (hF2.2.1 c hc).1) hlc2 (Nat.le_trans (rightF_size h) (by decide))
  have HCV10 : Aside (rightF sc1 cs1 = true → ∀ W, Below w.heap.size w W → Calls Tryz.prog 28 #[fil sc1 co1 cs1.length cp1, fil sc0 co0 cs0.length cp0] W fun e w' => e = .returned (.bool (coversF sc1 cs1 sc0 cs0)) ∧ Below W.heap.size W w') := fun h W hW => fcovers_c sc1 co1 cp1 cs1 sc0 co0 cp0 cs0 W (hF1.1.on hW) (fun c hc => (hF1.2.1 c hc).1) hlc1 (hF0.1.on hW) (fun c hc => (hF0.2.1 c hc).1) hlc0 (Nat.le_trans (rightF_size h) (by decide))
  have HMT0 : Aside (rightF sc0 cs0 = true → ∀ (bo : Option Addr) (bcap : Nat) (es : List At) (W : World), SliceA W bo es → es.length ≤ 8 → (∀ a ∈ es, AtOk a) → Below w.heap.size w W → Calls Tryz.prog 26 #[fil sc0 co0 cs0.length cp0, evt (scopeE s) bo es.length bcap] W fun e w' => e = .returned (.bool (matchF sc0 cs0 (scopeE s) es)) ∧ Below W.heap.size W w') := fun h bo bcap es W hE h8 hok hW =>
    fmatch_c sc0 co0 cp0 cs0 (scopeE s) bo bcap es W (hF0.1.on hW) (fun c hc => (hF0.2.1 c hc).1) hlc0 hE hok (by omega) (Nat.le_trans (rightF_size h) (by decide))
  have HMT1 : Aside (rightF sc1 cs1 = true → ∀ (bo : Option Addr) (bcap : Nat) (es : List At) (W : World), SliceA W bo es → es.length ≤ 8 → (∀ a ∈ es, AtOk a) → Below w.heap.size w W → Calls Tryz.prog 26 #[fil sc1 co1 cs1.length cp1, evt (scopeE s) bo es.length bcap] W fun e w' => e = .returned (.bool (matchF sc1 cs1 (scopeE s) es)) ∧ Below W.heap.size W w') := fun h bo bcap es W hE h8 hok hW =>
    fmatch_c sc1 co1 cp1 cs1 (scopeE s) bo bcap es W (hF1.1.on hW) (fun c hc => (hF1.2.1 c hc).1) hlc1 hE hok (by omega) (Nat.le_trans (rightF_size h) (by decide))
  have HTRN : Aside (rightF sc0 cs0 = true → rightF sc1 cs1 = true → rightF sc2 cs2 = true → coversF sc0 cs0 sc1 cs1 = true → coversF sc1 cs1 sc2 cs2 = true → coversF sc0 cs0 sc2 cs2 = true) := fun r0 r1 r2 h h2 => covers_trans (rightF_ops r0) (rightF_ops r1) (rightF_ops r2) h h2
  have HBTH : Aside (rightF sc0 cs0 = true → rightF sc1 cs1 = true → coversF sc0 cs0 sc1 cs1 = true → coversF sc1 cs1 sc0 cs0 = true → ∀ es, matchF sc0 cs0 (scopeE s) es = matchF sc1 cs1 (scopeE s) es) := fun r0 r1 h h2 es => covers_both (rightF_ops r0) (rightF_ops r1) h h2
  generalize rightF sc0 cs0 = rt0 at *
  generalize lightF sc0 cs0 = lt0 at *
  generalize rightF sc1 cs1 = rt1 at *
  generalize lightF sc1 cs1 = lt1 at *
  generalize rightF sc2 cs2 = rt2 at *
  generalize lightF sc2 cs2 = lt2 at *
  generalize fewA l = fw at *
  generalize scopeE s = sE at *
  generalize coversF sc0 cs0 sc1 cs1 = cv01 at *
  generalize coversF sc1 cs1 sc2 cs2 = cv12 at *
  generalize coversF sc0 cs0 sc2 cs2 = cv02 at *
  generalize coversF sc1 cs1 sc0 cs0 = cv10 at *
  obtain ⟨mt0, hmt0⟩ : ∃ mt : List At → Bool, ∀ es, mt es = matchF sc0 cs0 sE es := ⟨_, fun _ => rfl⟩
  simp only [← hmt0] at HMT0 HBTH
  obtain ⟨mt1, hmt1⟩ : ∃ mt : List At → Bool, ∀ es, mt es = matchF sc1 cs1 sE es := ⟨_, fun _ => rfl⟩
  simp only [← hmt1] at HMT1 HBTH
  obtain ⟨n0, hL0⟩ : ∃ n, n = cs0.length := ⟨_, rfl⟩
  obtain ⟨n1, hL1⟩ : ∃ n, n = cs1.length := ⟨_, rfl⟩
  obtain ⟨n2, hL2⟩ : ∃ n, n = cs2.length := ⟨_, rfl⟩
  rw [← hL0] at HLT0 HFR0 HCV01 HCV02 HCV10 HMT0 hlc0 ⊢
  rw [← hL1] at HLT1 HFR1 HCV01 HCV12 HCV10 HMT1 hlc1 ⊢
  rw [← hL2] at HLT2 HFR2 HCV12 HCV02 hlc2 ⊢
  obtain ⟨n, hN⟩ : ∃ n, n = l.length := ⟨_, rfl⟩
  rw [← hN] at HFW HEV ⊢
  have z1 : w.heap.size + 1 ≤ (w.alloc (.cells #[.string sc0, .slice co0 n0 cp0, .string sc1, .slice co1 n1 cp1, .string sc2, .slice co2 n2 cp2] 57)).heap.size := by simp
  have HB0 : Aside (Below w.heap.size w (w.alloc (.cells #[.string sc0, .slice co0 n0 cp0, .string sc1, .slice co1 n1 cp1, .string sc2, .slice co2 n2 cp2] 57))) := (Below.refl _ _).alloc (Nat.le_refl _) _
  have HKP : Aside (∀ W, Below (w.heap.size + 1) (w.alloc (.cells #[.string sc0, .slice co0 n0 cp0, .string sc1, .slice co1 n1 cp1, .string sc2, .slice co2 n2 cp2] 57)) W → W.cell? ⟨w.heap.size, 0, none⟩ = some (.string sc0) ∧ W.cell? ⟨w.heap.size, 1, none⟩ = some (.slice co0 n0 cp0) ∧ W.cell? ⟨w.heap.size, 2, none⟩ = some (.string sc1) ∧ W.cell? ⟨w.heap.size, 3, none⟩ = some (.slice co1 n1 cp1) ∧ W.cell? ⟨w.heap.size, 4, none⟩ = some (.string sc2) ∧ W.cell? ⟨w.heap.size, 5, none⟩ = some (.slice co2 n2 cp2)) := fun _ hW => ⟨one_lay hW 0 _ rfl, one_lay hW 1 _ rfl, one_lay hW 2 _ rfl, one_lay hW 3 _ rfl, one_lay hW 4 _ rfl, one_lay hW 5 _ rfl⟩
  clear hm hw hF0 hF1 hF2 hl hal hln hll hmt0 hmt1 hL0 hL1 hL2 hN
  go_enter Tryz.func8, Tryz.ntmps8
  go_wp2_with fail
  generalize hW0 : w.alloc (.cells #[.string sc0, .slice co0 n0 cp0, .string sc1, .slice co1 n1 cp1, .string sc2, .slice co2 n2 cp2] 57) = w0 at *
  refine (HFT.out _ HB0.out).mono ?_
  rintro e w1 ⟨rfl, hb⟩
  have HA1 : Aside (Below (w.heap.size + 1) w0 w1) := hb.mono z1
  clear hb HFT
  obtain ⟨a0, a1, a2, a3, a4, a5⟩ := HKP.out _ HA1.out
  go_wp2_with fail
  clear a0 a1 a2 a3 a4 a5
  refine wp_loop_rounds 4 ?_
  rw [rounds_succ]
  have hbC : Below w1.heap.size w1 (w1.alloc (.cells #[.string sc0, .slice co0 n0 cp0] 42)) := (Below.refl _ _).alloc (Nat.le_refl _) _
  have HAL0 : Aside (Below (w.heap.size + 1) w0 (w1.alloc (.cells #[.string sc0, .slice co0 n0 cp0] 42))) := HA1.out.trans (hbC.mono (Nat.le_trans z1 HA1.out.size))
  have HV0 : Aside (∀ W, Below (w1.heap.size + 1) (w1.alloc (.cells #[.string sc0, .slice co0 n0 cp0] 42)) W → W.cell? ⟨w1.heap.size, 0, none⟩ = some (.string sc0) ∧ W.cell? ⟨w1.heap.size, 1, none⟩ = some (.slice co0 n0 cp0)) := fil_cells
  have hsz0 : w1.heap.size + 1 ≤ (w1.alloc (.cells #[.string sc0, .slice co0 n0 cp0] 42)).heap.size := by simp
  clear hbC
  go_upto_region 6 with fail
  generalize (w1.alloc (.cells #[.string sc0, .slice co0 n0 cp0] 42)) = wl0 at *
  generalize w1.heap.size = V0 at *
  obtain ⟨v0, v1⟩ := HV0.out _ (Below.refl _ _)
  go_wp2_with fail
  refine (HLT0.out _ (HB0.out.trans (HAL0.out.mono (by omega)))).mono ?_
  rintro e wm0 ⟨rfl, hb⟩
  have HAM0 : Aside (Below (w.heap.size + 1) w0 wm0) := HAL0.out.trans (hb.mono (Nat.le_trans z1 HAL0.out.size))
  clear v0 v1
  obtain ⟨v0, v1⟩ := HV0.out _ (hb.mono hsz0)
  clear hb HAL0 HLT0 hsz0 HV0
  cases lt0
  · go_wp2_with fail
    go_ret
    exact ⟨rfl, HB0.out.trans (HAM0.out.mono (by omega))⟩
  have HFR0' := Lib.hid (HFR0.out (by first | trivial | rfl))
  clear HFR0
  go_wp2_with fail
  refine (HFR0'.out _ (HB0.out.trans (HAM0.out.mono (by omega)))).mono ?_
  rintro e wn0 ⟨rfl, hb⟩
  have HAN0 : Aside (Below (w.heap.size + 1) w0 wn0) := HAM0.out.trans (hb.mono (Nat.le_trans z1 HAM0.out.size))
  clear hb v0 v1 HAM0 HFR0'
  cases rt0
  · go_wp2_with fail
    go_ret
    exact ⟨rfl, HB0.out.trans (HAN0.out.mono (by omega))⟩
  go_wp2_with fail
  rw [rounds_succ]
  have hbC : Below wn0.heap.size wn0 (wn0.alloc (.cells #[.string sc1, .slice co1 n1 cp1] 42)) := (Below.refl _ _).alloc (Nat.le_refl _) _
  have HAL1 : Aside (Below (w.heap.size + 1) w0 (wn0.alloc (.cells #[.string sc1, .slice co1 n1 cp1] 42))) := HAN0.out.trans (hbC.mono (Nat.le_trans z1 HAN0.out.size))
  have HV1 : Aside (∀ W, Below (wn0.heap.size + 1) (wn0.alloc (.cells #[.string sc1, .slice co1 n1 cp1] 42)) W → W.cell? ⟨wn0.heap.size, 0, none⟩ = some (.string sc1) ∧ W.cell? ⟨wn0.heap.size, 1, none⟩ = some (.slice co1 n1 cp1)) := fil_cells
  have hsz1 : wn0.heap.size + 1 ≤ (wn0.alloc (.cells #[.string sc1, .slice co1 n1 cp1] 42)).heap.size := by simp
  clear hbC
  go_upto_region 6 with fail
  generalize (wn0.alloc (.cells #[.string sc1, .slice co1 n1 cp1] 42)) = wl1 at *
  generalize wn0.heap.size = V1 at *
  obtain ⟨v0, v1⟩ := HV1.out _ (Below.refl _ _)
  go_wp2_with fail
  refine (HLT1.out _ (HB0.out.trans (HAL1.out.mono (by omega)))).mono ?_
  rintro e wm1 ⟨rfl, hb⟩
  have HAM1 : Aside (Below (w.heap.size + 1) w0 wm1) := HAL1.out.trans (hb.mono (Nat.le_trans z1 HAL1.out.size))
  clear v0 v1
  obtain ⟨v0, v1⟩ := HV1.out _ (hb.mono hsz1)
  clear hb HAL1 HLT1 hsz1 HV1
  cases lt1
  · go_wp2_with fail
    go_ret
    exact ⟨rfl, HB0.out.trans (HAM1.out.mono (by omega))⟩
  have HFR1' := Lib.hid (HFR1.out (by first | trivial | rfl))
  clear HFR1
  go_wp2_with fail
  refine (HFR1'.out _ (HB0.out.trans (HAM1.out.mono (by omega)))).mono ?_
  rintro e wn1 ⟨rfl, hb⟩
  have HAN1 : Aside (Below (w.heap.size + 1) w0 wn1) := HAM1.out.trans (hb.mono (Nat.le_trans z1 HAM1.out.size))
  clear hb v0 v1 HAM1 HFR1'
  cases rt1
  · go_wp2_with fail
    go_ret
    exact ⟨rfl, HB0.out.trans (HAN1.out.mono (by omega))⟩
  go_wp2_with fail
  rw [rounds_succ]
  have hbC : Below wn1.heap.size wn1 (wn1.alloc (.cells #[.string sc2, .slice co2 n2 cp2] 42)) := (Below.refl _ _).alloc (Nat.le_refl _) _
  have HAL2 : Aside (Below (w.heap.size + 1) w0 (wn1.alloc (.cells #[.string sc2, .slice co2 n2 cp2] 42))) := HAN1.out.trans (hbC.mono (Nat.le_trans z1 HAN1.out.size))
  have HV2 : Aside (∀ W, Below (wn1.heap.size + 1) (wn1.alloc (.cells #[.string sc2, .slice co2 n2 cp2] 42)) W → W.cell? ⟨wn1.heap.size, 0, none⟩ = some (.string sc2) ∧ W.cell? ⟨wn1.heap.size, 1, none⟩ = some (.slice co2 n2 cp2)) := fil_cells
  have hsz2 : wn1.heap.size + 1 ≤ (wn1.alloc (.cells #[.string sc2, .slice co2 n2 cp2] 42)).heap.size := by simp
  clear hbC
  go_upto_region 6 with fail
  generalize (wn1.alloc (.cells #[.string sc2, .slice co2 n2 cp2] 42)) = wl2 at *
  generalize wn1.heap.size = V2 at *
  obtain ⟨v0, v1⟩ := HV2.out _ (Below.refl _ _)
  go_wp2_with fail
  refine (HLT2.out _ (HB0.out.trans (HAL2.out.mono (by omega)))).mono ?_
  rintro e wm2 ⟨rfl, hb⟩
  have HAM2 : Aside (Below (w.heap.size + 1) w0 wm2) := HAL2.out.trans (hb.mono (Nat.le_trans z1 HAL2.out.size))
  clear v0 v1
  obtain ⟨v0, v1⟩ := HV2.out _ (hb.mono hsz2)
  clear hb HAL2 HLT2 hsz2 HV2
  cases lt2
  · go_wp2_with fail
    go_ret
    exact ⟨rfl, HB0.out.trans (HAM2.out.mono (by omega))⟩
  have HFR2' := Lib.hid (HFR2.out (by first | trivial | rfl))
  clear HFR2
  go_wp2_with fail
  refine (HFR2'.out _ (HB0.out.trans (HAM2.out.mono (by omega)))).mono ?_
  rintro e wn2 ⟨rfl, hb⟩
  have HAN2 : Aside (Below (w.heap.size + 1) w0 wn2) := HAM2.out.trans (hb.mono (Nat.le_trans z1 HAM2.out.size))
  clear hb v0 v1 HAM2 HFR2'
  cases rt2
  · go_wp2_with fail
    go_ret
    exact ⟨rfl, HB0.out.trans (HAN2.out.mono (by omega))⟩
  go_wp2_with fail
  rw [rounds_succ]
  have HCVA := Lib.hid (HCV01.out (by first | trivial | rfl))
  have HCVB := Lib.hid (HCV12.out (by first | trivial | rfl))
  have HCVC := Lib.hid (HCV02.out (by first | trivial | rfl))
  have HCVD := Lib.hid (HCV10.out (by first | trivial | rfl))
  have HMTA := Lib.hid (HMT0.out (by first | trivial | rfl))
  have HMTB := Lib.hid (HMT1.out (by first | trivial | rfl))
  have HTR3 := Lib.hid (HTRN.out (by first | trivial | rfl) (by first | trivial | rfl) (by first | trivial | rfl))
  have HBT2 := Lib.hid (HBTH.out (by first | trivial | rfl) (by first | trivial | rfl))
  clear HCV01 HCV12 HCV02 HCV10 HMT0 HMT1 HTRN HBTH
  go_wp2_with fail
  refine (HFW.out _ (HB0.out.trans (HAN2.out.mono (by omega)))).mono ?_
  rintro e w5 ⟨rfl, hb⟩
  have HA5 : Aside (Below (w.heap.size + 1) w0 w5) := HAN2.out.trans (hb.mono (Nat.le_trans z1 HAN2.out.size))
  clear hb HAN2 HFW
  cases fw
  · go_wp2_with fail
    go_ret
    exact ⟨rfl, HB0.out.trans (HA5.out.mono (by omega))⟩
  by_cases h100 : s.size ≤ 100
  rotate_left
  · have h100z : (100 : Int) < (s.size : Int) := by omega
    go_wp2_with fail
    go_ret
    exact ⟨rfl, HB0.out.trans (HA5.out.mono (by omega))⟩
  have h100z : ¬ (100 : Int) < (s.size : Int) := by omega
  have HEV' := Lib.hid (HEV.out (by first | trivial | rfl) h100)
  clear HEV h100
  go_wp2_with fail
  clear h100z
  refine (HEV'.out _ (HB0.out.trans (HA5.out.mono (by omega)))).mono ?_
  rintro e w6 ⟨bo, bcap, es, rfl, hE⟩
  obtain ⟨hb, hS6, h8, hok⟩ := HEB.out _ _ _ _ hE.out
  have hz5 : w.heap.size + 1 ≤ w5.heap.size := Nat.le_trans z1 HA5.out.size
  have HA6 : Aside (Below (w.heap.size + 1) w0 w6) := HA5.out.trans (hb.mono hz5)
  have z6 : w.heap.size + 1 ≤ w6.heap.size := Nat.le_trans hz5 hb.size
  have hbw6 : Below w6.heap.size w6 (w6.alloc (.cells #[.string sE, .slice bo es.length bcap] 33)) := (Below.refl _ _).alloc (Nat.le_refl _) _
  have HA7 : Aside (Below (w.heap.size + 1) w0 (w6.alloc (.cells #[.string sE, .slice bo es.length bcap] 33))) := HA6.out.trans (hbw6.mono z6)
  have HS7 : Aside (SliceA (w6.alloc (.cells #[.string sE, .slice bo es.length bcap] 33)) bo es) := hS6.under hbw6
  have HV7 : Aside (∀ W, Below (w6.heap.size + 1) (w6.alloc (.cells #[.string sE, .slice bo es.length bcap] 33)) W → W.cell? ⟨w6.heap.size, 0, none⟩ = some (.string sE) ∧ W.cell? ⟨w6.heap.size, 1, none⟩ = some (.slice bo es.length bcap)) := fil_cells
  have hsz7 : w6.heap.size + 1 ≤ (w6.alloc (.cells #[.string sE, .slice bo es.length bcap] 33)).heap.size := by simp
  have HOK := Lib.hid hok
  clear hE hb HEV' HEB hbw6 HA5 HA6 hS6 hok hz5
  go_upto_region 12 with fail
  generalize (w6.alloc (.cells #[.string sE, .slice bo es.length bcap] 33)) = w7 at *
  generalize w6.heap.size = V at *
  obtain ⟨a0, a1, a2, a3, a4, a5⟩ := HKP.out _ HA7.out
  have hA7 : w.heap.size < w7.heap.size := by have := HA7.out.size; omega
  have hA8 : w.heap.size < w7.heap.size + 1 := by omega
  have hA9 : w.heap.size < w7.heap.size + 1 + 1 := by omega
  go_cut [10, 11, 12] (fun s10 s11 s12 wx => ∃ (x y z : Nat), s10 = .pointer (some ⟨x, 0, none⟩) ∧ s11 = .pointer (some ⟨y, 0, none⟩) ∧ s12 = .pointer (some ⟨z, 0, none⟩) ∧ Aside (Below w7.heap.size w7 wx ∧ Lies wx x sc0 co0 n0 cp0 ∧ Lies wx y sc1 co1 n1 cp1 ∧ Lies wx z sc2 co2 n2 cp2))
  case first =>
    go_region
    all_goals
      go_wp2_with fail
      go_meet
      first
      | exact ⟨_, _, _, rfl, rfl, rfl, three_new.1, three_new.2.1, three_new.2.2.1, three_new.2.2.2⟩
      | exact ⟨_, _, _, rfl, rfl, rfl, three_new.1, three_new.2.1, three_new.2.2.2, three_new.2.2.1⟩
      | exact ⟨_, _, _, rfl, rfl, rfl, three_new.1, three_new.2.2.1, three_new.2.1, three_new.2.2.2⟩
      | exact ⟨_, _, _, rfl, rfl, rfl, three_new.1, three_new.2.2.1, three_new.2.2.2, three_new.2.1⟩
      | exact ⟨_, _, _, rfl, rfl, rfl, three_new.1, three_new.2.2.2, three_new.2.1, three_new.2.2.1⟩
      | exact ⟨_, _, _, rfl, rfl, rfl, three_new.1, three_new.2.2.2, three_new.2.2.1, three_new.2.1⟩
  case rest =>
    clear a0 a1 a2 a3 a4 a5 hA7 hA8 hA9
    obtain ⟨x, y, z, rfl, rfl, rfl, H⟩ := hcut
    obtain ⟨wb, rfl⟩ : ∃ wb, wb = wc := ⟨wc, rfl⟩
    have HL : Aside (∀ W, Below wb.heap.size wb W → (W.cell? ⟨x, 0, none⟩ = some (.string sc0) ∧ W.cell? ⟨x, 1, none⟩ = some (.slice co0 n0 cp0)) ∧ (W.cell? ⟨y, 0, none⟩ = some (.string sc1) ∧ W.cell? ⟨y, 1, none⟩ = some (.slice co1 n1 cp1)) ∧ (W.cell? ⟨z, 0, none⟩ = some (.string sc2) ∧ W.cell? ⟨z, 1, none⟩ = some (.slice co2 n2 cp2)) ∧
        (W.cell? ⟨V, 0, none⟩ = some (.string sE) ∧ W.cell? ⟨V, 1, none⟩ = some (.slice bo es.length bcap)) ∧ SliceA W bo es ∧ Below w.heap.size w W) := fun W hW => by
      obtain ⟨hb, l0, l1, l2⟩ := H.out
      have hbW : Below w7.heap.size w7 W := hb.trans (hW.mono hb.size)
      have hz7 : w.heap.size + 1 ≤ w7.heap.size := Nat.le_trans z1 HA7.out.size
      exact ⟨l0 W hW, l1 W hW, l2 W hW, HV7.out W (hbW.mono hsz7), HS7.out.under hbW, HB0.out.trans ((HA7.out.trans (hbW.mono hz7)).mono (by omega))⟩
    have HMA : Aside (∀ W, Below wb.heap.size wb W → Calls Tryz.prog 26 #[fil sc0 co0 n0 cp0, evt sE bo es.length bcap] W fun e w' => e = .returned (.bool (mt0 es)) ∧ Below W.heap.size W w') := fun W hW => HMTA.out bo bcap es W (HL.out W hW).2.2.2.2.1 h8 (fun a ha => HOK.out a ha) (HL.out W hW).2.2.2.2.2
    have HMB : Aside (∀ W, Below wb.heap.size wb W → Calls Tryz.prog 26 #[fil sc1 co1 n1 cp1, evt sE bo es.length bcap] W fun e w' => e = .returned (.bool (mt1 es)) ∧ Below W.heap.size W w') := fun W hW => HMTB.out bo bcap es W (HL.out W hW).2.2.2.2.1 h8 (fun a ha => HOK.out a ha) (HL.out W hW).2.2.2.2.2
    have HBE : Aside (cv01 = true → cv10 = true → mt0 es = mt1 es) := fun h h2 => HBT2.out h h2 es
    clear HMTA HMTB HBT2 H HV7 HS7 HA7 HB0 hsz7 h8 HOK
    generalize mt0 es = q0 at *
    generalize mt1 es = q1 at *
    generalize es.length = en at *
    have HD0 : Aside (Below wb.heap.size wb wb) := Below.refl _ _
    go_upto_region 13 with fail
    go_cut [58] (fun s58 wy => s58 = .bool false ∧ Aside (Below wb.heap.size wb wy))
    case first =>
      obtain ⟨⟨x0, x1⟩, ⟨y0, y1⟩, ⟨t0, t1⟩, _⟩ := HL.out wb HD0.out
      go_wp2_with fail
      clear x0 x1 y0 y1 t0 t1
      refine (HCVA.out _ (HL.out _ HD0.out).2.2.2.2.2).mono ?_
      rintro e wn ⟨rfl, hb⟩
      have HD1 := Lib.hid hb
      clear hb
      cases cv01
      · go_wp2_with fail
        go_meet
        exact ⟨rfl, HD1.out⟩
      · obtain ⟨⟨x0, x1⟩, ⟨y0, y1⟩, ⟨t0, t1⟩, _⟩ := HL.out wn HD1.out
        go_wp2_with fail
        clear x0 x1 y0 y1 t0 t1
        refine (HCVB.out _ (HL.out _ HD1.out).2.2.2.2.2).mono ?_
        rintro e wn2 ⟨rfl, hb⟩
        have HD2 := Lib.hid (HD1.out.trans (hb.mono HD1.out.size))
        clear hb
        cases cv12
        · go_wp2_with fail
          go_meet
          exact ⟨rfl, HD2.out⟩
        · obtain rfl : cv02 = true := HTR3.out (by first | trivial | rfl) (by first | trivial | rfl)
          obtain ⟨⟨x0, x1⟩, ⟨y0, y1⟩, ⟨t0, t1⟩, _⟩ := HL.out wn2 HD2.out
          go_wp2_with fail
          clear x0 x1 y0 y1 t0 t1
          refine (HCVC.out _ (HL.out _ HD2.out).2.2.2.2.2).mono ?_
          rintro e wn3 ⟨rfl, hb⟩
          have HD3 := Lib.hid (HD2.out.trans (hb.mono HD2.out.size))
          clear hb
          go_wp2_with fail
          go_meet
          exact ⟨rfl, HD3.out⟩
    case rest =>
      obtain ⟨rfl, HDy⟩ := hcut
      clear HD0 HCVB HCVC HTR3
      obtain ⟨wz, rfl⟩ : ∃ wz, wz = wc := ⟨wc, rfl⟩
      go_upto_region 15 with fail
      have TR : ∀ p : BW wz, Below wb.heap.size wb p.W := fun p => HDy.out.trans (p.h.mono HDy.out.size)
      have KK := fun p : BW wz => HL.out p.W (TR p)
      have x0 : ∀ p : BW wz, p.W.cell? ⟨x, 0, none⟩ = some (.string sc0) := fun p => (KK p).1.1
      have x1 : ∀ p : BW wz, p.W.cell? ⟨x, 1, none⟩ = some (.slice co0 n0 cp0) := fun p => (KK p).1.2
      have y0 : ∀ p : BW wz, p.W.cell? ⟨y, 0, none⟩ = some (.string sc1) := fun p => (KK p).2.1.1
      have y1 : ∀ p : BW wz, p.W.cell? ⟨y, 1, none⟩ = some (.slice co1 n1 cp1) := fun p => (KK p).2.1.2
      have e0 : ∀ p : BW wz, p.W.cell? ⟨V, 0, none⟩ = some (.string sE) := fun p => (KK p).2.2.2.1.1
      have e1 : ∀ p : BW wz, p.W.cell? ⟨V, 1, none⟩ = some (.slice bo en bcap) := fun p => (KK p).2.2.2.1.2
      have hA : ∀ p : BW wz, Calls Tryz.prog 28 #[fil sc0 co0 n0 cp0, fil sc1 co1 n1 cp1] p.W fun e w'' => e = .returned (.bool cv01) ∧ ∃ q : BW wz, w'' = q.W := fun p => (HCVA.out p.W (KK p).2.2.2.2.2).mono fun _ _ q => ⟨q.1, ⟨⟨_, p.h.trans (q.2.mono p.h.size)⟩, rfl⟩⟩
      have hB : ∀ p : BW wz, Calls Tryz.prog 28 #[fil sc1 co1 n1 cp1, fil sc0 co0 n0 cp0] p.W fun e w'' => e = .returned (.bool cv10) ∧ ∃ q : BW wz, w'' = q.W := fun p => (HCVD.out p.W (KK p).2.2.2.2.2).mono fun _ _ q => ⟨q.1, ⟨⟨_, p.h.trans (q.2.mono p.h.size)⟩, rfl⟩⟩
      have hC : ∀ p : BW wz, Calls Tryz.prog 26 #[fil sc0 co0 n0 cp0, evt sE bo en bcap] p.W fun e w'' => e = .returned (.bool q0) ∧ ∃ q : BW wz, w'' = q.W := fun p => (HMA.out p.W (TR p)).mono fun _ _ q => ⟨q.1, ⟨⟨_, p.h.trans (q.2.mono p.h.size)⟩, rfl⟩⟩
      have hD : ∀ p : BW wz, Calls Tryz.prog 26 #[fil sc1 co1 n1 cp1, evt sE bo en bcap] p.W fun e w'' => e = .returned (.bool q1) ∧ ∃ q : BW wz, w'' = q.W := fun p => (HMB.out p.W (TR p)).mono fun _ _ q => ⟨q.1, ⟨⟨_, p.h.trans (q.2.mono p.h.size)⟩, rfl⟩⟩
      have HFIN := Lib.hid (fun p : BW wz => (KK p).2.2.2.2.2)
      clear KK TR HL HCVA HCVD HMA HMB HDy
      have hcase : (cv01 = false ∨ cv01 = true ∧ cv10 = false) ∨ cv01 = true ∧ cv10 = true := by cases cv01 <;> cases cv10 <;> simp
      rcases hcase with (rfl | ⟨rfl, rfl⟩) | ⟨rfl, rfl⟩
      rotate_left 2
      · obtain rfl : q0 = q1 := HBE.out (by first | trivial | rfl) (by first | trivial | rfl)
        clear HBE
        have hqq : (q0 == q0) = true := by simp
        refine wp_region_bw (by kernel_rfl) (by kernel_rfl) ?_
        repeat (quiet_step (first | (go_at_call 28; first | (with_reducible exact hA _) | (with_reducible exact hB _)) | (go_at_call 26; first | (with_reducible exact hC _) | (with_reducible exact hD _))))
        refine wpQuiet_nil ?_
        intro w2 hw'
        obtain ⟨pw, hw2⟩ := hw'
        have hX := HFIN.out pw
        rw [← hw2] at hX
        have HX := Lib.hid hX
        clear x0 x1 y0 y1 e0 e1 hA hB hC hD hX hw2 pw HFIN
        go_wp2_with fail
        go_ret
        exact ⟨by first | rfl | (rw [hqq]) | simp, HX.out⟩
      all_goals
        clear HBE
        refine wp_region_bw (by kernel_rfl) (by kernel_rfl) ?_
        repeat (quiet_step (first | (go_at_call 28; first | (with_reducible exact hA _) | (with_reducible exact hB _)) | (go_at_call 26; first | (with_reducible exact hC _) | (with_reducible exact hD _))))
        refine wpQuiet_nil ?_
        intro w2 hw'
        obtain ⟨pw, hw2⟩ := hw'
        have hX := HFIN.out pw
        rw [← hw2] at hX
        have HX := Lib.hid hX
        clear x0 x1 y0 y1 e0 e1 hA hB hC hD hX hw2 pw HFIN
        go_wp2_with fail
        go_ret
        exact ⟨by first | rfl | (rw [hqq]) | simp, HX.out⟩
end Go.Proofs.YtmnneanepiflkaaGreatDoor
