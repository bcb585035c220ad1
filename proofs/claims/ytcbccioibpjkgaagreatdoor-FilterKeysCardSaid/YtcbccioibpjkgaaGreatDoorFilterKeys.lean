/- FilterKeys: two filters of one key match the same; the key is read as a text of its scope and conditions. (Written by gen_keys7.py.) -/
import Derived.Test.YtcbccioibpjkgaaGreatDoorFilKy
import Derived.Test.YtcbccioibpjkgaaGreatDoorFilTwo
import Derived.Deep.RegionWith
import Derived.Deep.RegionHeld3
import Derived.Deep.DeepCutAuto
namespace Go.Proofs.YtcbccioibpjkgaaGreatDoor
open Go.RowKit Go.Shelf
open Go.Proofs
set_option maxRecDepth 100000

/-- The law's calls behind the test that both are right. -/
structure KeysK (w : World) (sc0 : ByteArray) (co0 : Option Addr) (cp0 n0 : Nat) (sc1 : ByteArray) (co1 : Option Addr) (cp1 n1 : Nat) (sE : ByteArray) (K0 K1 : ByteArray) (m0 m1 : List At → Bool) : Prop where
  key0 : ∀ W, Below w.heap.size w W → Calls Tryz.prog 25 #[fil sc0 co0 n0 cp0] W fun e w' => e = .returned (.string K0) ∧ Below W.heap.size W w'
  key1 : ∀ W, Below w.heap.size w W → Calls Tryz.prog 25 #[fil sc1 co1 n1 cp1] W fun e w' => e = .returned (.string K1) ∧ Below W.heap.size W w'
  mat0 : ∀ (bo : Option Addr) (bcap : Nat) (es : List At) (W : World), SliceA W bo es → es.length ≤ 8 → (∀ a ∈ es, AtOk a) → Below w.heap.size w W → Calls Tryz.prog 23 #[fil sc0 co0 n0 cp0, evt sE bo es.length bcap] W fun e w' => e = .returned (.bool (m0 es)) ∧ Below W.heap.size W w'
  mat1 : ∀ (bo : Option Addr) (bcap : Nat) (es : List At) (W : World), SliceA W bo es → es.length ≤ 8 → (∀ a ∈ es, AtOk a) → Below w.heap.size w W → Calls Tryz.prog 23 #[fil sc1 co1 n1 cp1, evt sE bo es.length bcap] W fun e w' => e = .returned (.bool (m1 es)) ∧ Below W.heap.size W w'
  same : K0 = K1 → ∀ es, m0 es = m1 es
  cv01 : K0 = K1 → ∀ W, Below w.heap.size w W → Calls Tryz.prog 20 #[fil sc0 co0 n0 cp0, fil sc1 co1 n1 cp1] W fun e w' => e = .returned (.bool true) ∧ Below W.heap.size W w'
  cv10 : K0 = K1 → ∀ W, Below w.heap.size w W → Calls Tryz.prog 20 #[fil sc1 co1 n1 cp1, fil sc0 co0 n0 cp0] W fun e w' => e = .returned (.bool true) ∧ Below W.heap.size W w'
  sz : sc0.size < K0.size
  ext : (K0.extract 0 sc0.size).toList = sc0.toList
  colon : ∀ h, K0[sc0.size]'h = 58
theorem key_shape (sc : ByteArray) (L : List Cn) : sc.size < (textF sc TX L).size ∧ ((textF sc TX L).extract 0 sc.size).toList = sc.toList ∧ ∀ h, (textF sc TX L)[sc.size]'h = 58 := by
  have h := textF_tail sc L
  have hlen : sc.data.toList.length = sc.size := by simp
  have hsz : (textF sc TX L).size = sc.size + 1 + (tailT L).length := by
    have := congrArg List.length h
    rw [List.length_append, List.length_cons, hlen] at this
    have e : (textF sc TX L).data.toList.length = (textF sc TX L).size := by simp
    omega
  refine ⟨by omega, ?_, fun h2 => ?_⟩
  · rw [bytes_toList, bytes_toList, ByteArray.data_extract, Array.toList_extract, List.extract_eq_take_drop, List.drop_zero, Nat.sub_zero, h, List.take_append_of_le_length (by omega), List.take_of_length_le (by omega)]
  · have e : (textF sc TX L)[sc.size]'h2 = (textF sc TX L).data.toList[sc.size]'(by simpa using h2) := by rw [Array.getElem_toList]; rfl
    rw [e]
    simp only [h]
    rw [List.getElem_append_right (by omega)]
    simp [hlen]
theorem keysK (w : World) (sc0 : ByteArray) (co0 : Option Addr) (cp0 : Nat) (cs0 : List Cn) (sc1 : ByteArray) (co1 : Option Addr) (cp1 : Nat) (cs1 : List Cn) (sE : ByteArray) (hw : Wds w) (hT : Tabs w) (hF0 : FilIs MB w sc0 co0 cs0) (hF1 : FilIs MB w sc1 co1 cs1) (hr0 : rightF sc0 cs0 = true) (hr1 : rightF sc1 cs1 = true) :
    KeysK w sc0 co0 cp0 cs0.length sc1 co1 cp1 cs1.length sE (textF sc0 TX (normL cs0)) (textF sc1 TX (normL cs1)) (fun es => matchF sc0 cs0 sE es) (fun es => matchF sc1 cs1 sE es) := by
  have k0 := csOk_right hF0 hr0
  have k1 := csOk_right hF1 hr1
  have m0 := normL_mem k0.right
  have m1 := normL_mem k1.right
  have hid : ∀ L : List Cn, (∀ c ∈ L, CRight c ∧ canonC c = c) → L.map canonC = L := fun L h => by
    conv => rhs; rw [← List.map_id L]
    exact List.map_congr_left fun c hc => (h c hc).2
  have hcv : textF sc0 TX (normL cs0) = textF sc1 TX (normL cs1) → coversF sc0 cs0 sc1 cs1 = true ∧ coversF sc1 cs1 sc0 cs0 = true := fun h => by
    obtain ⟨e1, e2⟩ := text_inj (rightF_scope hr0) (rightF_scope hr1) (fun c hc => (m0 c hc).1) (fun c hc => (m1 c hc).1) h
    rw [hid _ m0, hid _ m1] at e2
    subst e1
    have o0 := rightF_ops hr0
    have o1 := rightF_ops hr1
    have oN : OpsB (normL cs0) := fun c hc => opB_right (m0 c hc).1.1
    have a1 := norm_covers (fs := sc0) (normL_of cs0) (rightF_all hr0)
    have a2 := covers_norm (fs := sc0) (normL_of cs0) (rightF_all hr0)
    have b1 := norm_covers (fs := sc0) (normL_of cs1) (rightF_all hr1)
    have b2 := covers_norm (fs := sc0) (normL_of cs1) (rightF_all hr1)
    have e3 : keptL (sortN cs0) = keptL (sortN cs1) := e2
    rw [← e3] at b1 b2
    exact ⟨covers_trans o0 oN o1 a2 b1, covers_trans o1 oN o0 b2 a1⟩
  obtain ⟨s1, s2, s3⟩ := key_shape sc0 (normL cs0)
  exact {
    key0 := fun W hW => keyN_c sc0 co0 cp0 cs0 W (hF0.1.on hW) k0 (rightF_size hr0) (hw.on hW) (hT.on hW)
    key1 := fun W hW => keyN_c sc1 co1 cp1 cs1 W (hF1.1.on hW) k1 (rightF_size hr1) (hw.on hW) (hT.on hW)
    mat0 := fun bo bcap es W hE h8 hok hW => fmatch_c sc0 co0 cp0 cs0 sE bo bcap es W (hF0.1.on hW) (fun c hc => (hF0.2.1 c hc).1) (by have := rightF_len hr0; omega) hE hok (by omega) (Nat.le_trans (rightF_size hr0) (by decide))
    mat1 := fun bo bcap es W hE h8 hok hW => fmatch_c sc1 co1 cp1 cs1 sE bo bcap es W (hF1.1.on hW) (fun c hc => (hF1.2.1 c hc).1) (by have := rightF_len hr1; omega) hE hok (by omega) (Nat.le_trans (rightF_size hr1) (by decide))
    same := fun h es => covers_both (rightF_ops hr0) (rightF_ops hr1) (hcv h).1 (hcv h).2
    cv01 := fun h W hW => coversK_c sc0 co0 cp0 cs0 sc1 co1 cp1 cs1 _ (hcv h).1 (fun c hc => (hF0.2.1 c hc).1) (by have := rightF_len hr0; omega) (fun c hc => (hF1.2.1 c hc).1) (by have := rightF_len hr1; omega) (rightF_size hr0) W (hF0.1.on hW) (hF1.1.on hW)
    cv10 := fun h W hW => coversK_c sc1 co1 cp1 cs1 sc0 co0 cp0 cs0 _ (hcv h).2 (fun c hc => (hF1.2.1 c hc).1) (by have := rightF_len hr1; omega) (fun c hc => (hF0.2.1 c hc).1) (by have := rightF_len hr0; omega) (rightF_size hr1) W (hF1.1.on hW) (hF0.1.on hW)
    sz := s1
    ext := s2
    colon := s3 }

attribute [local irreducible] wpQuiet
set_option maxHeartbeats 16000000 in
theorem filterKeys_c (sc0 : ByteArray) (co0 : Option Addr) (cp0 : Nat) (cs0 : List Cn) (sc1 : ByteArray) (co1 : Option Addr) (cp1 : Nat) (cs1 : List Cn) (s : ByteArray) (ao : Option Addr) (cap : Nat) (l : List At) (w : World) (hm : MaxI w) (hw : Wds w) (hT : Tabs w) (hF0 : FilIs MB w sc0 co0 cs0) (hF1 : FilIs MB w sc1 co1 cs1) (hl : SliceA w ao l) (hal : ∀ a ∈ l, AtW MB a) (hln : l.length * 64 ≤ MB) :
    Calls Tryz.prog 7 #[.agg #[.string sc0, .slice co0 cs0.length cp0, .string sc1, .slice co1 cs1.length cp1], .string s, .slice ao l.length cap] w fun e w' => e = .returned (.bool true) ∧ Below w.heap.size w w' := by
  have hll : l.length ≤ 4611686018427387904 := by unfold MB at hln; omega
  have HFT : Aside (∀ W, Below w.heap.size w W → Calls Tryz.prog 16 #[] W fun e w' => e = .returned (.bool true) ∧ Below W.heap.size W w') := fun W hW => fit7_c W (hw.on hW) (hm.below hW)
  have HFW : Aside (∀ W, Below w.heap.size w W → Calls Tryz.prog 18 #[.slice ao l.length cap] W fun e w' => e = .returned (.bool (fewA l)) ∧ Below W.heap.size W w') := fun W hW => few_c ao cap l W (hl.under hW) hll
  have HEV : Aside (fewA l = true → s.size ≤ 100 → ∀ W, Below w.heap.size w W → Calls Tryz.prog 21 #[.string s, .slice ao l.length cap] W fun e w' => ∃ bo bcap es, e = .returned (.agg #[.string (scopeE s), .slice bo es.length bcap]) ∧ Aside (EvtIs W w' bo l es)) := fun h h2 W hW =>
    event_c s ao cap l W (Nat.le_trans (few_all (by decide) h hal) (by decide)) (hl.under hW) (by omega) (hm.below hW)
  have HEB : Aside (∀ (W0 W1 : World) (bo : Option Addr) (es : List At), EvtIs W0 W1 bo l es → Below W0.heap.size W0 W1 ∧ SliceA W1 bo es ∧ es.length ≤ 8 ∧ ∀ a ∈ es, AtOk a) := fun W0 W1 bo es h => ⟨by obtain ⟨_, _, _, _, h4⟩ := h; exact h4, by obtain ⟨_, _, _, h4, _⟩ := h; exact h4, evt_len h, fun a ha => (evt_ok h hal a ha).1⟩
  have hlc0 : cs0.length ≤ 4611686018427387904 := by have := hF0.2.2.1; unfold MB at this; omega
  have hlc1 : cs1.length ≤ 4611686018427387904 := by have := hF1.2.2.1; unfold MB at this; omega
  have HLT0 : Aside (∀ W, Below w.heap.size w W → Calls Tryz.prog 17 #[fil sc0 co0 cs0.length cp0] W fun e w' => e = .returned (.bool (lightF sc0 cs0)) ∧ Below W.heap.size W w') := fun W hW => flight_c sc0 co0 cp0 cs0 W (hF0.1.on hW) hlc0
  have HLT1 : Aside (∀ W, Below w.heap.size w W → Calls Tryz.prog 17 #[fil sc1 co1 cs1.length cp1] W fun e w' => e = .returned (.bool (lightF sc1 cs1)) ∧ Below W.heap.size W w') := fun W hW => flight_c sc1 co1 cp1 cs1 W (hF1.1.on hW) hlc1
  have HFR0 : Aside (lightF sc0 cs0 = true → ∀ W, Below w.heap.size w W → Calls Tryz.prog 19 #[fil sc0 co0 cs0.length cp0] W fun e w' => e = .returned (.bool (rightF sc0 cs0)) ∧ Below W.heap.size W w') := fun h W hW => fright_c sc0 co0 cp0 cs0 W (hF0.1.on hW) hlc0 (Nat.le_trans (light_all (by decide) h hF0).1 (by decide)) (hm.below hW)
  have HFR1 : Aside (lightF sc1 cs1 = true → ∀ W, Below w.heap.size w W → Calls Tryz.prog 19 #[fil sc1 co1 cs1.length cp1] W fun e w' => e = .returned (.bool (rightF sc1 cs1)) ∧ Below W.heap.size W w') := fun h W hW => fright_c sc1 co1 cp1 cs1 W (hF1.1.on hW) hlc1 (Nat.le_trans (light_all (by decide) h hF1).1 (by decide)) (hm.below hW)
  have HCK : Aside (rightF sc0 cs0 = true → rightF sc1 cs1 = true → ∃ K0 K1 m0 m1, KeysK w sc0 co0 cp0 cs0.length sc1 co1 cp1 cs1.length (scopeE s) K0 K1 m0 m1) := fun h0 h1 => ⟨_, _, _, _, keysK w sc0 co0 cp0 cs0 sc1 co1 cp1 cs1 (scopeE s) hw hT hF0 hF1 h0 h1⟩
  generalize rightF sc0 cs0 = rt0 at *
  generalize lightF sc0 cs0 = lt0 at *
  generalize rightF sc1 cs1 = rt1 at *
  generalize lightF sc1 cs1 = lt1 at *
  generalize fewA l = fw at *
  generalize scopeE s = sE at *
  obtain ⟨n0, hL0⟩ : ∃ n, n = cs0.length := ⟨_, rfl⟩
  obtain ⟨n1, hL1⟩ : ∃ n, n = cs1.length := ⟨_, rfl⟩
  rw [← hL0] at HLT0 HFR0 HCK ⊢
  rw [← hL1] at HLT1 HFR1 HCK ⊢
  obtain ⟨n, hN⟩ : ∃ n, n = l.length := ⟨_, rfl⟩
  rw [← hN] at HFW HEV ⊢
  have HB0 : Aside (Below w.heap.size w (w.alloc (.cells #[.string sc0, .slice co0 n0 cp0, .string sc1, .slice co1 n1 cp1] 43))) := (Below.refl _ _).alloc (Nat.le_refl _) _
  have HKP : Aside (∀ W, Below (w.heap.size + 1) (w.alloc (.cells #[.string sc0, .slice co0 n0 cp0, .string sc1, .slice co1 n1 cp1] 43)) W → W.cell? ⟨w.heap.size, 0, none⟩ = some (.string sc0) ∧ W.cell? ⟨w.heap.size, 1, none⟩ = some (.slice co0 n0 cp0) ∧ W.cell? ⟨w.heap.size, 2, none⟩ = some (.string sc1) ∧ W.cell? ⟨w.heap.size, 3, none⟩ = some (.slice co1 n1 cp1)) := fun W hW => ⟨one_lay hW 0 _ rfl, one_lay hW 1 _ rfl, one_lay hW 2 _ rfl, one_lay hW 3 _ rfl⟩
  have z1 : w.heap.size + 1 ≤ (w.alloc (.cells #[.string sc0, .slice co0 n0 cp0, .string sc1, .slice co1 n1 cp1] 43)).heap.size := by simp
  clear hm hw hT hF0 hF1 hl hal hln hll hL0 hL1 hN hlc0 hlc1
  go_enter Tryz.func7, Tryz.ntmps7
  go_wp2_with fail
  generalize hW0 : w.alloc (.cells #[.string sc0, .slice co0 n0 cp0, .string sc1, .slice co1 n1 cp1] 43) = w0 at *
  refine (HFT.out _ HB0.out).mono ?_
  rintro e w1 ⟨rfl, hb⟩
  have HA1 : Aside (Below w.heap.size w w1) := HB0.out.trans (hb.mono (by omega))
  obtain ⟨a0, a1, a2, a3⟩ := HKP.out _ (hb.mono z1)
  have hFl : w.heap.size < w1.heap.size := Nat.lt_of_lt_of_le z1 hb.size
  have al : ∀ (o : Obj) (W : World) (i : Nat) (v : Value), W.cell? ⟨w.heap.size, i, none⟩ = some v → w.heap.size < W.heap.size → (W.alloc o).cell? ⟨w.heap.size, i, none⟩ = some v := fun o W i v h1 h2 => (World.cell?_alloc_lt _ _ _ h2).trans h1
  have hF2 : ∀ o, w.heap.size < (w1.alloc o).heap.size := fun o => by simp; omega
  have b0 := fun o => al o w1 0 _ a0 hFl
  have b1 := fun o => al o w1 1 _ a1 hFl
  have b2 := fun o => al o w1 2 _ a2 hFl
  have b3 := fun o => al o w1 3 _ a3 hFl
  have c0 := fun o o2 => al o2 (w1.alloc o) 0 _ (b0 o) (hF2 o)
  have c1 := fun o o2 => al o2 (w1.alloc o) 1 _ (b1 o) (hF2 o)
  have c2 := fun o o2 => al o2 (w1.alloc o) 2 _ (b2 o) (hF2 o)
  have c3 := fun o o2 => al o2 (w1.alloc o) 3 _ (b3 o) (hF2 o)
  clear hb HFT HKP HB0 al hF2
  go_upto_region 3 with fail
  go_cut [7, 8] (fun s7 s8 wx => ∃ A B : Nat, s7 = .pointer (some ⟨A, 0, none⟩) ∧ s8 = .pointer (some ⟨B, 0, none⟩) ∧ Aside (Below w.heap.size w wx) ∧ Aside (Two wx A B sc0 co0 n0 cp0 sc1 co1 n1 cp1))
  case first =>
    go_region
    all_goals
      go_wp2_with fail
      go_meet
    all_goals clear b0 b1 b2 b3 c0 c1 c2 c3 a0 a1 a2 a3
    · exact ⟨_, _, rfl, rfl, below_two HA1.out _ _, (two_new _ _ _ _ _ _ _ _ _).1⟩
    · exact ⟨_, _, rfl, rfl, below_two HA1.out _ _, (two_new _ _ _ _ _ _ _ _ _).2⟩
  case rest =>
    clear b0 b1 b2 b3 c0 c1 c2 c3 a0 a1 a2 a3 HA1 hFl
    obtain ⟨A, B, rfl, rfl, HA, HT⟩ := hcut
    obtain ⟨⟨v0, v1⟩, u0, u1⟩ := HT.out _ (Below.refl _ _)
    go_wp2_with fail
    clear v0 v1 u0 u1
    refine (HLT0.out _ HA.out).mono ?_
    rintro e wn ⟨rfl, hb⟩
    replace HT := Lib.hid (HT.out.on hb)
    replace HA := Lib.hid (HA.out.trans (hb.mono HA.out.size))
    clear hb HLT0
    cases lt0
    · go_wp2_with fail
      go_ret
      exact ⟨rfl, HA.out⟩
    replace HFR0 := Lib.hid (HFR0.out (by first | trivial | rfl))
    obtain ⟨⟨v0, v1⟩, u0, u1⟩ := HT.out _ (Below.refl _ _)
    go_wp2_with fail
    clear v0 v1 u0 u1
    refine (HLT1.out _ HA.out).mono ?_
    rintro e wn ⟨rfl, hb⟩
    replace HT := Lib.hid (HT.out.on hb)
    replace HA := Lib.hid (HA.out.trans (hb.mono HA.out.size))
    clear hb HLT1
    cases lt1
    · go_wp2_with fail
      go_ret
      exact ⟨rfl, HA.out⟩
    replace HFR1 := Lib.hid (HFR1.out (by first | trivial | rfl))
    obtain ⟨⟨v0, v1⟩, u0, u1⟩ := HT.out _ (Below.refl _ _)
    go_wp2_with fail
    clear v0 v1 u0 u1
    refine (HFW.out _ HA.out).mono ?_
    rintro e wn ⟨rfl, hb⟩
    replace HT := Lib.hid (HT.out.on hb)
    replace HA := Lib.hid (HA.out.trans (hb.mono HA.out.size))
    clear hb HFW
    cases fw
    · go_wp2_with fail
      go_ret
      exact ⟨rfl, HA.out⟩
    by_cases h100 : s.size ≤ 100
    rotate_left
    · have h100z : (100 : Int) < (s.size : Int) := by omega
      go_wp2_with fail
      go_ret
      exact ⟨rfl, HA.out⟩
    have h100z : ¬ (100 : Int) < (s.size : Int) := by omega
    replace HEV := Lib.hid (HEV.out (by first | trivial | rfl) h100)
    clear h100
    obtain ⟨⟨v0, v1⟩, u0, u1⟩ := HT.out _ (Below.refl _ _)
    go_wp2_with fail
    clear v0 v1 u0 u1
    refine (HFR0.out _ HA.out).mono ?_
    rintro e wn ⟨rfl, hb⟩
    replace HT := Lib.hid (HT.out.on hb)
    replace HA := Lib.hid (HA.out.trans (hb.mono HA.out.size))
    clear hb HFR0 h100z
    cases rt0
    · go_wp2_with fail
      go_ret
      exact ⟨rfl, HA.out⟩
    obtain ⟨⟨v0, v1⟩, u0, u1⟩ := HT.out _ (Below.refl _ _)
    go_wp2_with fail
    clear v0 v1 u0 u1
    refine (HFR1.out _ HA.out).mono ?_
    rintro e wn ⟨rfl, hb⟩
    replace HT := Lib.hid (HT.out.on hb)
    replace HA := Lib.hid (HA.out.trans (hb.mono HA.out.size))
    clear hb HFR1
    cases rt1
    · go_wp2_with fail
      go_ret
      exact ⟨rfl, HA.out⟩
    obtain ⟨K0, K1, m0, m1, K⟩ := HCK.out (by first | trivial | rfl) (by first | trivial | rfl)
    have HK := Lib.hid K
    clear K HCK
    go_wp2_with fail
    refine (HEV.out _ HA.out).mono ?_
    rintro e wn ⟨bo, bcap, es, rfl, hE⟩
    obtain ⟨hb, hS, h8, hok⟩ := HEB.out _ _ _ _ hE.out
    replace HT := Lib.hid (HT.out.on hb)
    replace HA := Lib.hid (HA.out.trans (hb.mono HA.out.size))
    have HSE := Lib.hid hS
    have HOK := Lib.hid (And.intro h8 hok)
    clear hE hb hS h8 hok HEV HEB
    have hsE : Below wn.heap.size wn (wn.alloc (.cells #[.string sE, .slice bo es.length bcap] 33)) := (Below.refl _ _).alloc (Nat.le_refl _) _
    have HEL : Aside (∀ W, Below (wn.heap.size + 1) (wn.alloc (.cells #[.string sE, .slice bo es.length bcap] 33)) W → (W.cell? ⟨wn.heap.size, 0, none⟩ = some (.string sE) ∧ W.cell? ⟨wn.heap.size, 1, none⟩ = some (.slice bo es.length bcap)) ∧ SliceA W bo es) := fun W hW => ⟨⟨one_lay hW 0 _ rfl, one_lay hW 1 _ rfl⟩, HSE.out.under (hsE.trans (hW.mono (by omega)))⟩
    have HZE : Aside ((wn.alloc (.cells #[.string sE, .slice bo es.length bcap] 33)).heap.size = wn.heap.size + 1) := by simp [Aside]
    replace HT := Lib.hid (HT.out.on hsE)
    replace HA := Lib.hid (HA.out.trans (hsE.mono HA.out.size))
    clear hsE HSE
    obtain ⟨⟨v0, v1⟩, u0, u1⟩ := HT.out _ (Below.refl _ _)
    go_wp2_with fail
    clear v0 v1 u0 u1
    refine (HK.out.key0 _ HA.out).mono ?_
    rintro e w3 ⟨rfl, hb⟩
    have HB3 := Lib.hid hb
    clear hb
    go_upto_region 8 with fail
    have HX : Aside (∀ W, Below w3.heap.size w3 W → ((W.cell? ⟨A, 0, none⟩ = some (.string sc0) ∧ W.cell? ⟨A, 1, none⟩ = some (.slice co0 n0 cp0)) ∧ W.cell? ⟨B, 0, none⟩ = some (.string sc1) ∧ W.cell? ⟨B, 1, none⟩ = some (.slice co1 n1 cp1)) ∧ ((W.cell? ⟨wn.heap.size, 0, none⟩ = some (.string sE) ∧ W.cell? ⟨wn.heap.size, 1, none⟩ = some (.slice bo es.length bcap)) ∧ SliceA W bo es) ∧ Below w.heap.size w W) := fun W hW => by
      have h1 := HB3.out.trans (hW.mono HB3.out.size)
      exact ⟨HT.out W h1, HEL.out W (by rw [← HZE.out]; exact h1), HA.out.trans (h1.mono HA.out.size)⟩
    generalize wn.heap.size = V at *
    have TR : ∀ p : BW w3, Below w3.heap.size w3 p.W := fun p => p.h
    have KK := fun p : BW w3 => HX.out p.W p.h
    have x0 : ∀ p : BW w3, p.W.cell? ⟨A, 0, none⟩ = some (.string sc0) := fun p => (KK p).1.1.1
    have x1 : ∀ p : BW w3, p.W.cell? ⟨A, 1, none⟩ = some (.slice co0 n0 cp0) := fun p => (KK p).1.1.2
    have y0 : ∀ p : BW w3, p.W.cell? ⟨B, 0, none⟩ = some (.string sc1) := fun p => (KK p).1.2.1
    have y1 : ∀ p : BW w3, p.W.cell? ⟨B, 1, none⟩ = some (.slice co1 n1 cp1) := fun p => (KK p).1.2.2
    have e0 : ∀ p : BW w3, p.W.cell? ⟨V, 0, none⟩ = some (.string sE) := fun p => (KK p).2.1.1.1
    have e1 : ∀ p : BW w3, p.W.cell? ⟨V, 1, none⟩ = some (.slice bo es.length bcap) := fun p => (KK p).2.1.1.2
    have hN : ∀ p : BW w3, Calls Tryz.prog 25 #[fil sc1 co1 n1 cp1] p.W fun e w'' => e = .returned (.string K1) ∧ ∃ q : BW w3, w'' = q.W := fun p => (HK.out.key1 p.W (KK p).2.2).mono fun _ _ q => ⟨q.1, ⟨⟨_, p.h.trans (q.2.mono p.h.size)⟩, rfl⟩⟩
    have hC : ∀ p : BW w3, Calls Tryz.prog 23 #[fil sc0 co0 n0 cp0, evt sE bo es.length bcap] p.W fun e w'' => e = .returned (.bool (m0 es)) ∧ ∃ q : BW w3, w'' = q.W := fun p => (HK.out.mat0 bo bcap es p.W (KK p).2.1.2 HOK.out.1 HOK.out.2 (KK p).2.2).mono fun _ _ q => ⟨q.1, ⟨⟨_, p.h.trans (q.2.mono p.h.size)⟩, rfl⟩⟩
    have hD : ∀ p : BW w3, Calls Tryz.prog 23 #[fil sc1 co1 n1 cp1, evt sE bo es.length bcap] p.W fun e w'' => e = .returned (.bool (m1 es)) ∧ ∃ q : BW w3, w'' = q.W := fun p => (HK.out.mat1 bo bcap es p.W (KK p).2.1.2 HOK.out.1 HOK.out.2 (KK p).2.2).mono fun _ _ q => ⟨q.1, ⟨⟨_, p.h.trans (q.2.mono p.h.size)⟩, rfl⟩⟩
    have HXX : Aside (∀ p : BW w3, Below w.heap.size w p.W) := fun p => (KK p).2.2
    have hsz := HK.out.sz
    have hz : (sc0.size : Int) < (K0.size : Int) := by omega
    have hzl : (sc0.size : Int) ≤ (K0.size : Int) := by omega
    have hz0 : (0 : Int) ≤ (sc0.size : Int) := by omega
    have hext : ((K0.extract 0 sc0.size).toList == sc0.toList) = true := by rw [HK.out.ext]; simp
    have hcol : (((K0[sc0.size]'hsz).toNat : Int) == 58) = true := by rw [HK.out.colon]; rfl
    by_cases hkk : K0 = K1
    · have hsm := HK.out.same hkk es
      have hA : ∀ p : BW w3, Calls Tryz.prog 20 #[fil sc0 co0 n0 cp0, fil sc1 co1 n1 cp1] p.W fun e w'' => e = .returned (.bool true) ∧ ∃ q : BW w3, w'' = q.W := fun p => (HK.out.cv01 hkk p.W (KK p).2.2).mono fun _ _ q => ⟨q.1, ⟨⟨_, p.h.trans (q.2.mono p.h.size)⟩, rfl⟩⟩
      have hB : ∀ p : BW w3, Calls Tryz.prog 20 #[fil sc1 co1 n1 cp1, fil sc0 co0 n0 cp0] p.W fun e w'' => e = .returned (.bool true) ∧ ∃ q : BW w3, w'' = q.W := fun p => (HK.out.cv10 hkk p.W (KK p).2.2).mono fun _ _ q => ⟨q.1, ⟨⟨_, p.h.trans (q.2.mono p.h.size)⟩, rfl⟩⟩
      rw [← hsm] at hD
      generalize m0 es = q0 at hC hD
      have hqq : (q0 == q0) = true := by simp
      have hke : (K0.toList == K0.toList) = true := by simp
      have hkn : (K0.toList != K0.toList) = false := by simp
      subst hkk
      clear HK KK HX HOK HEL HZE HT HA HB3 TR hsm
      generalize es.length = en at *
      refine wp_region_bw (by kernel_rfl) (by kernel_rfl) ?_
      repeat (quiet_step (first | (go_at_call 20; first | (with_reducible exact hA _) | (with_reducible exact hB _)) | (go_at_call 23; first | (with_reducible exact hC _) | (with_reducible exact hD _)) | (go_at_call 25; exact hN _)))
      refine wpQuiet_nil ?_
      intro w2 hw'
      obtain ⟨pw, hw2⟩ := hw'
      have HX2 := Lib.hid (HXX.out pw)
      rw [← hw2] at HX2
      clear x0 x1 y0 y1 e0 e1 hA hB hC hD hN hw2 HXX pw
      go_wp2_with fail
      go_ret
      exact ⟨rfl, HX2.out⟩
    · have hl : K0.toList ≠ K1.toList := fun e => hkk (by rw [bytes_toList, bytes_toList] at e; exact ByteArray.ext (Array.ext' e))
      have hke : (K0.toList == K1.toList) = false := by rw [beq_eq_false_iff_ne]; exact hl
      have hkn : (K0.toList != K1.toList) = true := by rw [bne_iff_ne]; exact hl
      clear HK KK HX HOK HEL HZE HT HA HB3 TR hkk hl hC hD
      generalize es.length = en at *
      refine wp_region_bw (by kernel_rfl) (by kernel_rfl) ?_
      repeat (quiet_step (first | (go_at_call 25; exact hN _)))
      refine wpQuiet_nil ?_
      intro w2 hw'
      obtain ⟨pw, hw2⟩ := hw'
      have HX2 := Lib.hid (HXX.out pw)
      rw [← hw2] at HX2
      clear x0 x1 y0 y1 e0 e1 hN hw2 HXX pw
      go_wp2_with fail
      go_ret
      exact ⟨rfl, HX2.out⟩
end Go.Proofs.YtcbccioibpjkgaaGreatDoor
