/- FilterNorms: what a filter is brought to has the same events, no more conditions, each once, and is brought to itself. -/
import Derived.Test.YtcbccioibpjkgaaGreatDoorFilKy
import Derived.Deep.RegionWith
import Derived.Deep.RegionHeld3
import Derived.Deep.DeepCutAuto
namespace Go.Proofs.YtcbccioibpjkgaaGreatDoor
open Go.RowKit Go.Shelf Go.Sort
open Go.Proofs
set_option maxRecDepth 100000

/-- The law's calls behind the test that the filter is right. -/
structure NormsK (w : World) (sc : ByteArray) (co : Option Addr) (cp n : Nat) (sE : ByteArray) (m : List At → Bool) (K : ByteArray) (v : Bool) (L : List Cn) : Prop where
  norm : ∀ W, Below w.heap.size w W → Calls Tryz.prog 24 #[fil sc co n cp] W fun e w' => ∃ ro rcap, e = .returned (fil sc ro L.length rcap) ∧ Aside (CondsB w'.heap.size w' ro L ∧ Below W.heap.size W w')
  matF : ∀ (bo : Option Addr) (bcap : Nat) (es : List At) (W : World), SliceA W bo es → es.length ≤ 8 → (∀ a ∈ es, AtOk a) → Below w.heap.size w W → Calls Tryz.prog 23 #[fil sc co n cp, evt sE bo es.length bcap] W fun e w' => e = .returned (.bool (m es)) ∧ Below W.heap.size W w'
  matN : ∀ (ro : Option Addr) (rcap : Nat) (bo : Option Addr) (bcap : Nat) (es : List At) (W : World), CondsB W.heap.size W ro L → SliceA W bo es → es.length ≤ 8 → (∀ a ∈ es, AtOk a) → Calls Tryz.prog 23 #[fil sc ro L.length rcap, evt sE bo es.length bcap] W fun e w' => e = .returned (.bool (m es)) ∧ Below W.heap.size W w'
  rightN : ∀ (ro : Option Addr) (rcap : Nat) (W : World), CondsB W.heap.size W ro L → Below w.heap.size w W → Calls Tryz.prog 19 #[fil sc ro L.length rcap] W fun e w' => e = .returned (.bool true) ∧ Below W.heap.size W w'
  keyN : ∀ (ro : Option Addr) (rcap : Nat) (W : World), CondsB W.heap.size W ro L → Below w.heap.size w W → Calls Tryz.prog 25 #[fil sc ro L.length rcap] W fun e w' => e = .returned (.string K) ∧ Below W.heap.size W w'
  prN : ∀ (ro : Option Addr) (rcap : Nat) (W : World), CondsB W.heap.size W ro L → Below w.heap.size w W → Calls Tryz.prog 26 #[fil sc ro L.length rcap] W fun e w' => e = .returned (.string K) ∧ Below W.heap.size W w'
  voidN : ∀ (ro : Option Addr) (rcap : Nat) (W : World), CondsB W.heap.size W ro L → Calls Tryz.prog 27 #[fil sc ro L.length rcap] W fun e w' => e = .returned (.bool v) ∧ Below W.heap.size W w'
  keyF : ∀ W, Below w.heap.size w W → Calls Tryz.prog 25 #[fil sc co n cp] W fun e w' => e = .returned (.string K) ∧ Below W.heap.size W w'
  voidF : ∀ W, Below w.heap.size w W → Calls Tryz.prog 27 #[fil sc co n cp] W fun e w' => e = .returned (.bool v) ∧ Below W.heap.size W w'
  len : L.length ≤ n
  small : L.length ≤ 19
  pr : ∀ j, j < L.length → ∀ W, Below w.heap.size w W → Calls Tryz.prog 28 #[cndC L[j]!] W fun e w' => e = .returned (.string (TX L[j]!)) ∧ Below W.heap.size W w'
  rise : ∀ j, j + 1 < L.length → Op.bytesLess (TX L[j]!).toList (TX L[j + 1]!).toList = true
  imp : ∀ i j, i < L.length → j < L.length → j ≠ i → ∀ W, Calls Tryz.prog 29 #[cndC L[j]!, cndC L[i]!] W fun e w' => e = .returned (.bool false) ∧ Below W.heap.size W w'
theorem normsK (w : World) (sc : ByteArray) (co : Option Addr) (cp : Nat) (cs : List Cn) (sE : ByteArray) (hm : MaxI w) (hw : Wds w) (hT : Tabs w) (hF : FilIs MB w sc co cs) (hr : rightF sc cs = true) :
    NormsK w sc co cp cs.length sE (fun es => matchF sc cs sE es) (textF sc TX (normL cs)) (voidF cs) (normL cs) := by
  have k := csOk_right hF hr
  have kN := k.norm
  have mN := normL_mem k.right
  have hsc := rightF_size hr
  have hlen := normL_len cs
  have h6 := rightF_len hr
  have hok : ∀ c ∈ normL cs, AtOk c.a := fun c hc => (mN c hc).1.2
  have o0 := rightF_ops hr
  have oN : OpsB (normL cs) := fun c hc => opB_right (mN c hc).1.1
  have hrN : rightF sc (normL cs) = true := by
    unfold rightF
    rw [rightF_scope hr, Bool.true_and, Bool.and_eq_true]
    exact ⟨decide_eq_true (by omega), List.all_eq_true.2 fun c hc => (mN c hc).1.1⟩
  have hmm : ∀ es, matchF sc (normL cs) sE es = matchF sc cs sE es := fun es => covers_both oN o0 (norm_covers (normL_of cs) (rightF_all hr)) (covers_norm (normL_of cs) (rightF_all hr))
  have hrise := List.pairwise_iff_getElem.1 (normL_rise k.right)
  exact {
    norm := fun W hW => normN_c sc co cp cs W (hF.1.on hW) k (hw.on hW) (hT.on hW)
    matF := fun bo bcap es W hE h8 hoks hW => fmatch_c sc co cp cs sE bo bcap es W (hF.1.on hW) (fun c hc => (hF.2.1 c hc).1) (by omega) hE hoks (by omega) (by omega)
    matN := fun ro rcap bo bcap es W hc hE h8 hoks => by
      have := fmatch_c sc ro rcap (normL cs) sE bo bcap es W hc hok (by omega) hE hoks (by omega) (by omega)
      rwa [hmm] at this
    rightN := fun ro rcap W hc hW => by
      have := fright_c sc ro rcap (normL cs) W hc (by omega) (by omega) (hm.below hW)
      rwa [hrN] at this
    keyN := fun ro rcap W hc hW => by
      have := keyN_c sc ro rcap (normL cs) W hc kN hsc (hw.on hW) (hT.on hW)
      rwa [normL_idem k.right] at this
    prN := fun ro rcap W hc hW => fprintN_c sc ro rcap (normL cs) W hc kN hsc (hw.on hW) (hT.on hW)
    voidN := fun ro rcap W hc => by
      have := fvoid_c sc ro rcap (normL cs) W hc (by omega)
      rwa [normL_void k.right] at this
    keyF := fun W hW => keyN_c sc co cp cs W (hF.1.on hW) k hsc (hw.on hW) (hT.on hW)
    voidF := fun W hW => fvoid_c sc co cp cs W (hF.1.on hW) (by omega)
    len := hlen
    small := kN.len
    pr := fun j hj W hW => cprintX_c _ (kN.pr _ (memC _ j hj)) W (hw.on hW) (hT.on hW)
    rise := fun j hj => by
      have := hrise j (j + 1) (by omega) hj (by omega)
      rw [getElem!_pos _ j (by omega), getElem!_pos _ (j + 1) hj, bytes_toList, bytes_toList, bytesLess_eq]
      exact this
    imp := fun i j hi hj hne W => by
      have hnc : (normL cs)[j]! ≠ (normL cs)[i]! := fun e => by
        rcases Nat.lt_or_gt_of_ne hne with h | h
        · have := hrise j i hj hi h
          rw [← getElem!_pos _ j hj, ← getElem!_pos _ i hi, e, (swo_key keyX).irrefl] at this
          cases this
        · have := hrise i j hi hj h
          rw [← getElem!_pos _ j hj, ← getElem!_pos _ i hi, e, (swo_key keyX).irrefl] at this
          cases this
      have hf := normL_free k.right (memC _ i hi) (memC _ j hj) hnc
      have xi := (mN _ (memC _ i hi)).1.2
      have xj := (mN _ (memC _ j hj)).1.2
      generalize (normL cs)[i]! = c at *
      generalize (normL cs)[j]! = d at *
      have := implies_c d.a.nm d.op d.a.k d.a.n d.a.x d.a.s d.a.y c.a.nm c.op c.a.k c.a.n c.a.x c.a.s c.a.y xj xi W
      rw [← hf]
      exact this }

attribute [local irreducible] wpQuiet
set_option maxHeartbeats 16000000 in
theorem filterNorms_c (sc : ByteArray) (co : Option Addr) (ccap : Nat) (cs : List Cn) (s : ByteArray) (ao : Option Addr) (cap : Nat) (l : List At) (w : World) (hm : MaxI w) (hw : Wds w) (hT : Tabs w) (hF : FilIs MB w sc co cs) (hl : SliceA w ao l) (hal : ∀ a ∈ l, AtW MB a) (hln : l.length * 64 ≤ MB) :
    Calls Tryz.prog 5 #[fil sc co cs.length ccap, .string s, .slice ao l.length cap] w fun e w' => e = .returned (.bool true) ∧ Below w.heap.size w w' := by
  have hlc : cs.length ≤ 4611686018427387904 := by have := hF.2.2.1; unfold MB at this; omega
  have hll : l.length ≤ 4611686018427387904 := by unfold MB at hln; omega
  have HFT : Aside (∀ W, Below w.heap.size w W → Calls Tryz.prog 16 #[] W fun e w' => e = .returned (.bool true) ∧ Below W.heap.size W w') := fun W hW => fit7_c W (hw.on hW) (hm.below hW)
  have HLT : Aside (∀ W, Below w.heap.size w W → Calls Tryz.prog 17 #[fil sc co cs.length ccap] W fun e w' => e = .returned (.bool (lightF sc cs)) ∧ Below W.heap.size W w') := fun W hW => flight_c sc co ccap cs W (hF.1.on hW) hlc
  have HFW : Aside (∀ W, Below w.heap.size w W → Calls Tryz.prog 18 #[.slice ao l.length cap] W fun e w' => e = .returned (.bool (fewA l)) ∧ Below W.heap.size W w') := fun W hW => few_c ao cap l W (hl.under hW) hll
  have HFR : Aside (lightF sc cs = true → ∀ W, Below w.heap.size w W → Calls Tryz.prog 19 #[fil sc co cs.length ccap] W fun e w' => e = .returned (.bool (rightF sc cs)) ∧ Below W.heap.size W w') := fun h W hW => fright_c sc co ccap cs W (hF.1.on hW) hlc (Nat.le_trans (light_all (by decide) h hF).1 (by decide)) (hm.below hW)
  have HEV : Aside (fewA l = true → s.size ≤ 100 → ∀ W, Below w.heap.size w W → Calls Tryz.prog 21 #[.string s, .slice ao l.length cap] W fun e w' => ∃ bo bcap es, e = .returned (.agg #[.string (scopeE s), .slice bo es.length bcap]) ∧ Aside (EvtIs W w' bo l es)) := fun h h2 W hW =>
    event_c s ao cap l W (Nat.le_trans (few_all (by decide) h hal) (by decide)) (hl.under hW) (by omega) (hm.below hW)
  have HEB : Aside (∀ (W0 W1 : World) (bo : Option Addr) (es : List At), EvtIs W0 W1 bo l es → Below W0.heap.size W0 W1 ∧ SliceA W1 bo es ∧ es.length ≤ 8 ∧ ∀ a ∈ es, AtOk a) := fun W0 W1 bo es h => ⟨by obtain ⟨_, _, _, _, h4⟩ := h; exact h4, by obtain ⟨_, _, _, h4, _⟩ := h; exact h4, evt_len h, fun a ha => (evt_ok h hal a ha).1⟩
  have HNK : Aside (rightF sc cs = true → ∃ m K v L, NormsK w sc co ccap cs.length (scopeE s) m K v L) := fun h => ⟨_, _, _, _, normsK w sc co ccap cs (scopeE s) hm hw hT hF h⟩
  generalize rightF sc cs = rt at *
  generalize lightF sc cs = lt at *
  generalize fewA l = fw at *
  generalize scopeE s = sE at *
  obtain ⟨len, hL⟩ : ∃ len, len = cs.length := ⟨_, rfl⟩
  rw [← hL] at HLT HFR HNK hlc ⊢
  obtain ⟨n, hN⟩ : ∃ n, n = l.length := ⟨_, rfl⟩
  rw [← hN] at HFW HEV ⊢
  have z1 : w.heap.size + 1 ≤ (w.alloc (.cells #[.string sc, .slice co len ccap] 42)).heap.size := by simp
  have HB0 : Aside (Below w.heap.size w (w.alloc (.cells #[.string sc, .slice co len ccap] 42))) := (Below.refl _ _).alloc (Nat.le_refl _) _
  have HKP : Aside (∀ W, Below (w.heap.size + 1) (w.alloc (.cells #[.string sc, .slice co len ccap] 42)) W → W.cell? ⟨w.heap.size, 0, none⟩ = some (.string sc) ∧ W.cell? ⟨w.heap.size, 1, none⟩ = some (.slice co len ccap)) := fil_cells
  clear hm hw hT hF hl hal hln hll hL hN hlc
  go_enter Tryz.func5, Tryz.ntmps5
  go_wp2_with fail
  generalize hW0 : w.alloc (.cells #[.string sc, .slice co len ccap] 42) = w0 at *
  refine (HFT.out _ HB0.out).mono ?_
  rintro e w1 ⟨rfl, hb⟩
  have HA1 : Aside (Below (w.heap.size + 1) w0 w1) := hb.mono z1
  clear hb
  obtain ⟨a0, a1⟩ := HKP.out _ HA1.out
  go_wp2_with fail
  refine (HLT.out _ (HB0.out.trans (HA1.out.mono (by omega)))).mono ?_
  rintro e w2 ⟨rfl, hb⟩
  have HA2 : Aside (Below (w.heap.size + 1) w0 w2) := HA1.out.trans (hb.mono (Nat.le_trans z1 HA1.out.size))
  clear hb a0 a1 HA1 HLT HFT
  cases lt
  · go_wp2_with fail
    go_ret
    exact ⟨rfl, HB0.out.trans (HA2.out.mono (by omega))⟩
  have HFR' := Lib.hid (HFR.out (by first | trivial | rfl))
  clear HFR
  go_wp2_with fail
  refine (HFW.out _ (HB0.out.trans (HA2.out.mono (by omega)))).mono ?_
  rintro e w3 ⟨rfl, hb⟩
  have HA3 : Aside (Below (w.heap.size + 1) w0 w3) := HA2.out.trans (hb.mono (Nat.le_trans z1 HA2.out.size))
  clear hb HA2 HFW
  cases fw
  · go_wp2_with fail
    go_ret
    exact ⟨rfl, HB0.out.trans (HA3.out.mono (by omega))⟩
  by_cases h100 : s.size ≤ 100
  rotate_left
  · have h100z : (100 : Int) < (s.size : Int) := by omega
    go_wp2_with fail
    go_ret
    exact ⟨rfl, HB0.out.trans (HA3.out.mono (by omega))⟩
  have h100z : ¬ (100 : Int) < (s.size : Int) := by omega
  have HEV' := Lib.hid (HEV.out (by first | trivial | rfl) h100)
  clear HEV h100
  obtain ⟨a0, a1⟩ := HKP.out _ HA3.out
  go_wp2_with fail
  refine (HFR'.out _ (HB0.out.trans (HA3.out.mono (by omega)))).mono ?_
  rintro e w4 ⟨rfl, hb⟩
  have HA4 : Aside (Below (w.heap.size + 1) w0 w4) := HA3.out.trans (hb.mono (Nat.le_trans z1 HA3.out.size))
  clear hb HA3 HFR' a0 a1 h100z
  cases rt
  · go_wp2_with fail
    go_ret
    exact ⟨rfl, HB0.out.trans (HA4.out.mono (by omega))⟩
  obtain ⟨m, K, v, L, hNK⟩ := HNK.out (by first | trivial | rfl)
  have HK := Lib.hid hNK
  clear hNK HNK
  obtain ⟨a0, a1⟩ := HKP.out _ HA4.out
  go_wp2_with fail
  refine (HK.out.norm _ (HB0.out.trans (HA4.out.mono (by omega)))).mono ?_
  rintro e w5 ⟨ro, rcap, rfl, H5⟩
  have hz4 : w.heap.size + 1 ≤ w4.heap.size := Nat.le_trans z1 HA4.out.size
  have HA5 : Aside (Below (w.heap.size + 1) w0 w5) := HA4.out.trans (H5.out.2.mono hz4)
  have HC5 := Lib.hid H5.out.1
  have hz5 : w.heap.size + 1 ≤ w5.heap.size := Nat.le_trans hz4 H5.out.2.size
  clear a0 a1 H5 HA4 hz4
  have hb6 : Below w5.heap.size w5 (w5.alloc (.cells #[.string sc, .slice ro L.length rcap] 42)) := (Below.refl _ _).alloc (Nat.le_refl _) _
  have HA6 : Aside (Below (w.heap.size + 1) w0 (w5.alloc (.cells #[.string sc, .slice ro L.length rcap] 42))) := HA5.out.trans (hb6.mono hz5)
  have HN6 : Aside (∀ W, Below (w5.heap.size + 1) (w5.alloc (.cells #[.string sc, .slice ro L.length rcap] 42)) W → W.cell? ⟨w5.heap.size, 0, none⟩ = some (.string sc) ∧ W.cell? ⟨w5.heap.size, 1, none⟩ = some (.slice ro L.length rcap)) := fil_cells
  have HC6 : Aside (∀ W, Below (w5.heap.size + 1) (w5.alloc (.cells #[.string sc, .slice ro L.length rcap] 42)) W → CondsB W.heap.size W ro L) := fun W hW => HC5.out.on (hb6.trans (hW.mono (by omega)))
  have hz6 : (w5.alloc (.cells #[.string sc, .slice ro L.length rcap] 42)).heap.size = w5.heap.size + 1 := by simp
  clear hb6 HC5 HA5
  go_wp2_with fail
  generalize (w5.alloc (.cells #[.string sc, .slice ro L.length rcap] 42)) = w6 at *
  refine (HEV'.out _ (HB0.out.trans (HA6.out.mono (by omega)))).mono ?_
  rintro e w7 ⟨bo, bcap, es, rfl, hE⟩
  obtain ⟨hb, hS7, h8, hok⟩ := HEB.out _ _ _ _ hE.out
  have HD7 : Aside (Below (w5.heap.size + 1) w6 w7) := hb.mono (by omega)
  have HA7 : Aside (Below (w.heap.size + 1) w0 w7) := HA6.out.trans (hb.mono (by omega))
  have hz7 : w5.heap.size + 1 ≤ w7.heap.size := by have := hb.size; omega
  have hb8 : Below w7.heap.size w7 (w7.alloc (.cells #[.string sE, .slice bo es.length bcap] 33)) := (Below.refl _ _).alloc (Nat.le_refl _) _
  have HD8 : Aside (Below (w5.heap.size + 1) w6 (w7.alloc (.cells #[.string sE, .slice bo es.length bcap] 33))) := HD7.out.trans (hb8.mono hz7)
  have HA8 : Aside (Below (w.heap.size + 1) w0 (w7.alloc (.cells #[.string sE, .slice bo es.length bcap] 33))) := HA7.out.trans (hb8.mono (by omega))
  have HE8 : Aside (∀ W, Below (w7.heap.size + 1) (w7.alloc (.cells #[.string sE, .slice bo es.length bcap] 33)) W → (W.cell? ⟨w7.heap.size, 0, none⟩ = some (.string sE) ∧ W.cell? ⟨w7.heap.size, 1, none⟩ = some (.slice bo es.length bcap)) ∧ SliceA W bo es) := fun W hW => ⟨⟨one_lay hW 0 _ rfl, one_lay hW 1 _ rfl⟩, hS7.under (hb8.trans (hW.mono (by omega)))⟩
  have hz8 : (w7.alloc (.cells #[.string sE, .slice bo es.length bcap] 33)).heap.size = w7.heap.size + 1 := by simp
  have HOK := Lib.hid (And.intro h8 hok)
  clear hE hb HEV' HEB HA6 HA7 HD7 hS7 h8 hok hb8
  go_upto_region 7 with fail
  generalize (w7.alloc (.cells #[.string sE, .slice bo es.length bcap] 33)) = w8 at *
  -- all that is laid, in every later world
  have HX : Aside (∀ W, Below w8.heap.size w8 W → ((W.cell? ⟨w.heap.size, 0, none⟩ = some (.string sc) ∧ W.cell? ⟨w.heap.size, 1, none⟩ = some (.slice co len ccap)) ∧ (W.cell? ⟨w5.heap.size, 0, none⟩ = some (.string sc) ∧ W.cell? ⟨w5.heap.size, 1, none⟩ = some (.slice ro L.length rcap)) ∧ W.cell? ⟨w7.heap.size, 0, none⟩ = some (.string sE) ∧ W.cell? ⟨w7.heap.size, 1, none⟩ = some (.slice bo es.length bcap)) ∧ CondsB W.heap.size W ro L ∧ SliceA W bo es ∧ Below w.heap.size w W) := fun W hW => by
    have h1 := HA8.out.trans (hW.mono (by omega))
    have h2 := HD8.out.trans (hW.mono (by omega))
    have h3 := HE8.out W (hW.mono (by omega))
    exact ⟨⟨HKP.out W h1, HN6.out W h2, h3.1⟩, HC6.out W h2, h3.2, HB0.out.trans (h1.mono (by omega))⟩
  generalize w5.heap.size = B at *
  generalize w7.heap.size = V at *
  go_cut [86] (fun s86 wy => s86 = .bool false ∧ Aside (Below w8.heap.size w8 wy))
  case first =>
    have KK := fun p : BW w8 => HX.out p.W p.h
    have x0 : ∀ p : BW w8, p.W.cell? ⟨w.heap.size, 0, none⟩ = some (.string sc) := fun p => (KK p).1.1.1
    have x1 : ∀ p : BW w8, p.W.cell? ⟨w.heap.size, 1, none⟩ = some (.slice co len ccap) := fun p => (KK p).1.1.2
    have y0 : ∀ p : BW w8, p.W.cell? ⟨B, 0, none⟩ = some (.string sc) := fun p => (KK p).1.2.1.1
    have y1 : ∀ p : BW w8, p.W.cell? ⟨B, 1, none⟩ = some (.slice ro L.length rcap) := fun p => (KK p).1.2.1.2
    have e0 : ∀ p : BW w8, p.W.cell? ⟨V, 0, none⟩ = some (.string sE) := fun p => (KK p).1.2.2.1
    have e1 : ∀ p : BW w8, p.W.cell? ⟨V, 1, none⟩ = some (.slice bo es.length bcap) := fun p => (KK p).1.2.2.2
    have hMN : ∀ p : BW w8, Calls Tryz.prog 23 #[fil sc ro L.length rcap, evt sE bo es.length bcap] p.W fun e w'' => e = .returned (.bool (m es)) ∧ ∃ q : BW w8, w'' = q.W := fun p => (HK.out.matN ro rcap bo bcap es p.W (KK p).2.1 (KK p).2.2.1 HOK.out.1 HOK.out.2).mono fun _ _ q => ⟨q.1, ⟨⟨_, p.h.trans (q.2.mono p.h.size)⟩, rfl⟩⟩
    have hMF : ∀ p : BW w8, Calls Tryz.prog 23 #[fil sc co len ccap, evt sE bo es.length bcap] p.W fun e w'' => e = .returned (.bool (m es)) ∧ ∃ q : BW w8, w'' = q.W := fun p => (HK.out.matF bo bcap es p.W (KK p).2.2.1 HOK.out.1 HOK.out.2 (KK p).2.2.2).mono fun _ _ q => ⟨q.1, ⟨⟨_, p.h.trans (q.2.mono p.h.size)⟩, rfl⟩⟩
    have hRN : ∀ p : BW w8, Calls Tryz.prog 19 #[fil sc ro L.length rcap] p.W fun e w'' => e = .returned (.bool true) ∧ ∃ q : BW w8, w'' = q.W := fun p => (HK.out.rightN ro rcap p.W (KK p).2.1 (KK p).2.2.2).mono fun _ _ q => ⟨q.1, ⟨⟨_, p.h.trans (q.2.mono p.h.size)⟩, rfl⟩⟩
    have hKN : ∀ p : BW w8, Calls Tryz.prog 25 #[fil sc ro L.length rcap] p.W fun e w'' => e = .returned (.string K) ∧ ∃ q : BW w8, w'' = q.W := fun p => (HK.out.keyN ro rcap p.W (KK p).2.1 (KK p).2.2.2).mono fun _ _ q => ⟨q.1, ⟨⟨_, p.h.trans (q.2.mono p.h.size)⟩, rfl⟩⟩
    have hKF : ∀ p : BW w8, Calls Tryz.prog 25 #[fil sc co len ccap] p.W fun e w'' => e = .returned (.string K) ∧ ∃ q : BW w8, w'' = q.W := fun p => (HK.out.keyF p.W (KK p).2.2.2).mono fun _ _ q => ⟨q.1, ⟨⟨_, p.h.trans (q.2.mono p.h.size)⟩, rfl⟩⟩
    have hPN : ∀ p : BW w8, Calls Tryz.prog 26 #[fil sc ro L.length rcap] p.W fun e w'' => e = .returned (.string K) ∧ ∃ q : BW w8, w'' = q.W := fun p => (HK.out.prN ro rcap p.W (KK p).2.1 (KK p).2.2.2).mono fun _ _ q => ⟨q.1, ⟨⟨_, p.h.trans (q.2.mono p.h.size)⟩, rfl⟩⟩
    have hVN : ∀ p : BW w8, Calls Tryz.prog 27 #[fil sc ro L.length rcap] p.W fun e w'' => e = .returned (.bool v) ∧ ∃ q : BW w8, w'' = q.W := fun p => (HK.out.voidN ro rcap p.W (KK p).2.1).mono fun _ _ q => ⟨q.1, ⟨⟨_, p.h.trans (q.2.mono p.h.size)⟩, rfl⟩⟩
    have hVF : ∀ p : BW w8, Calls Tryz.prog 27 #[fil sc co len ccap] p.W fun e w'' => e = .returned (.bool v) ∧ ∃ q : BW w8, w'' = q.W := fun p => (HK.out.voidF p.W (KK p).2.2.2).mono fun _ _ q => ⟨q.1, ⟨⟨_, p.h.trans (q.2.mono p.h.size)⟩, rfl⟩⟩
    have hlen := HK.out.len
    have hlz : ¬ (len : Int) < (L.length : Int) := by omega
    have hm1 : (m es != m es) = false := by simp
    have hv1 : (v != v) = false := by simp
    have hk1 : (K.toList != K.toList) = false := by simp
    have hs1 : (sc.toList != sc.toList) = false := by simp
    have hk2 : (K.toList == K.toList) = true := by simp
    have hs2 : (sc.toList == sc.toList) = true := by simp
    generalize m es = q0 at *
    generalize es.length = en at *
    generalize L.length = ln at *
    clear HK KK HX HOK HE8 HD8 HA8 HC6 HN6 HKP HB0
    refine wp_region_bw (by kernel_rfl) (by kernel_rfl) ?_
    repeat (quiet_step (first | (go_at_call 23; first | (with_reducible exact hMN _) | (with_reducible exact hMF _)) | (go_at_call 19; exact hRN _) | (go_at_call 25; first | (with_reducible exact hKN _) | (with_reducible exact hKF _)) | (go_at_call 26; exact hPN _) | (go_at_call 27; first | (with_reducible exact hVN _) | (with_reducible exact hVF _))))
    refine wpQuiet_nil ?_
    intro w2' hw'
    obtain ⟨pw, hw2⟩ := hw'
    have HX2 : Aside (Below w8.heap.size w8 w2') := by rw [hw2]; exact pw.h
    clear x0 x1 y0 y1 e0 e1 hMN hMF hRN hKN hKF hPN hVN hVF hw2 pw
    go_wp2_with fail
    go_meet
    exact ⟨rfl, HX2.out⟩
  case rest =>
    obtain ⟨rfl, HDy⟩ := hcut
    obtain ⟨wy, rfl⟩ : ∃ wy, wy = wc := ⟨wc, rfl⟩
    have HY : Aside (∀ W, Below wy.heap.size wy W → (W.cell? ⟨B, 1, none⟩ = some (.slice ro L.length rcap)) ∧ CondsB W.heap.size W ro L ∧ Below w.heap.size w W) := fun W hW => by
      have h := HX.out W (HDy.out.trans (hW.mono HDy.out.size))
      exact ⟨h.1.2.1.2, h.2.1, h.2.2.2⟩
    have HROW : Aside (0 < L.length → ∃ b off, ro = some ⟨b, off, none⟩ ∧ ∀ W, Below wy.heap.size wy W → ∀ i, i < L.length → ∀ c v, (encC L[i]!)[c]? = some v → W.cell? ⟨b, off + i * 7 + c, none⟩ = some v) := fun h => row_at (HY.out wy (Below.refl _ _)).2.1 h
    have HPR : Aside (∀ j, j < L.length → ∀ W, Below wy.heap.size wy W → Calls Tryz.prog 28 #[cndC L[j]!] W fun e w' => e = .returned (.string (TX L[j]!)) ∧ Below W.heap.size W w') := fun j hj W hW => HK.out.pr j hj W (HY.out W hW).2.2
    have HRS : Aside (∀ j, j + 1 < L.length → Op.bytesLess (TX L[j]!).toList (TX L[j + 1]!).toList = true) := HK.out.rise
    have HIM : Aside (∀ i j, i < L.length → j < L.length → j ≠ i → ∀ W, Calls Tryz.prog 29 #[cndC L[j]!, cndC L[i]!] W fun e w' => e = .returned (.bool false) ∧ Below W.heap.size W w') := HK.out.imp
    have HSM : Aside (L.length ≤ 19) := HK.out.small
    have HYB : Aside (∀ W, Below wy.heap.size wy W → W.cell? ⟨B, 1, none⟩ = some (.slice ro L.length rcap)) := fun W hW => (HY.out W hW).1
    have HYA : Aside (∀ W, Below wy.heap.size wy W → Below w.heap.size w W) := fun W hW => (HY.out W hW).2.2
    clear HX HE8 HD8 HA8 HC6 HN6 HKP HB0 HOK HK HY HDy
    obtain ⟨ln, hln⟩ : ∃ ln, ln = L.length := ⟨_, rfl⟩
    rw [← hln] at HROW HPR HRS HIM HSM HYB
    have hsm := HSM.out
    clear hln HSM
    have y1 := HYB.out wy (Below.refl _ _)
    go_wp2_with fail
    clear y1
    go_loopg [90] ln (fun kx s90 wr => ∃ j : Nat, s90 = .int .i64 j ∧ j ≤ ln ∧ ln - j ≤ kx ∧ Aside (Below wy.heap.size wy wr))
    case atStart => exact ⟨0, rfl, Nat.zero_le _, by omega, Below.refl _ _⟩
    case round =>
      obtain ⟨j, rfl, hj, hjx, HA⟩ := hrel
      by_cases hlt : j < ln
      · obtain ⟨b, off, rfl, hrow⟩ := HROW.out (by omega)
        have HRW := Lib.hid hrow
        have c_ := fun c v h => hrow wr HA.out j hlt c v h
        have HPj := Lib.hid (HPR.out j hlt)
        have HIj : Aside (∀ k, k < ln → k ≠ j → ∀ W, Calls Tryz.prog 29 #[cndC L[k]!, cndC L[j]!] W fun e w' => e = .returned (.bool false) ∧ Below W.heap.size W w') := fun k hk hne => HIM.out j k hlt hk hne
        have HRj : Aside (∀ jp, j = jp + 1 → Op.bytesLess (TX L[jp]!).toList (TX L[j]!).toList = true) := fun jp e => by subst e; exact HRS.out jp hlt
        generalize TX L[j]! = tc at HPj HRj
        generalize L[j]! = c at c_ HPj HIj
        obtain ⟨⟨nm, k, n', x, s, y⟩, op⟩ := c
        have c0 := c_ 0 _ rfl; have c1 := c_ 1 _ rfl; have c2 := c_ 2 _ rfl; have c3 := c_ 3 _ rfl; have c4 := c_ 4 _ rfl; have c5 := c_ 5 _ rfl; have c6 := c_ 6 _ rfl
        simp only [Nat.add_zero] at c0
        clear c_ hrow HROW HIM HRS
        have zr : wy.heap.size ≤ wr.heap.size := HA.out.size
        have hltz : (j : Int) < ln := by omega
        have hjz : (0 : Int) ≤ (j : Int) := by omega
        go_upto_region 12 with fail
        clear c0 c1 c2 c3 c4 c5 c6
        have HX := Lib.hid ((Below.refl wr.heap.size wr).alloc (Nat.le_refl _) (.cells (cnds nm op k n' x s y) 26))
        have HV : Aside (∀ W, Below (wr.heap.size + 1) (wr.alloc (.cells (cnds nm op k n' x s y) 26)) W → W.cell? ⟨wr.heap.size, 0, none⟩ = some (.string nm) ∧ W.cell? ⟨wr.heap.size, 1, none⟩ = some (.int .i64 op) ∧ W.cell? ⟨wr.heap.size, 2, none⟩ = some (.int .i64 k) ∧ W.cell? ⟨wr.heap.size, 3, none⟩ = some (.int .i64 n') ∧ W.cell? ⟨wr.heap.size, 4, none⟩ = some (.float .f64 x) ∧ W.cell? ⟨wr.heap.size, 5, none⟩ = some (.string s) ∧ W.cell? ⟨wr.heap.size, 6, none⟩ = some (.bool y)) := fun W hW => ⟨one_lay hW 0 _ rfl, one_lay hW 1 _ rfl, one_lay hW 2 _ rfl, one_lay hW 3 _ rfl, one_lay hW 4 _ rfl, one_lay hW 5 _ rfl, one_lay hW 6 _ rfl⟩
        have hzx : (wr.alloc (.cells (cnds nm op k n' x s y) 26)).heap.size = wr.heap.size + 1 := by simp
        generalize (wr.alloc (.cells (cnds nm op k n' x s y) 26)) = wx at *
        have HAX : Aside (∀ W, Below wx.heap.size wx W → Below wy.heap.size wy W) := fun W hW => (HA.out.trans (HX.out.mono zr)).trans (hW.mono (by omega))
        have HVX : Aside (∀ W, Below wx.heap.size wx W → W.cell? ⟨wr.heap.size, 0, none⟩ = some (.string nm) ∧ W.cell? ⟨wr.heap.size, 1, none⟩ = some (.int .i64 op) ∧ W.cell? ⟨wr.heap.size, 2, none⟩ = some (.int .i64 k) ∧ W.cell? ⟨wr.heap.size, 3, none⟩ = some (.int .i64 n') ∧ W.cell? ⟨wr.heap.size, 4, none⟩ = some (.float .f64 x) ∧ W.cell? ⟨wr.heap.size, 5, none⟩ = some (.string s) ∧ W.cell? ⟨wr.heap.size, 6, none⟩ = some (.bool y)) := fun W hW => HV.out W (by rw [← hzx]; exact hW)
        clear HX HV hzx zr HA
        generalize wr.heap.size = D at *
        go_cut [108] (fun s108 wz => s108 = .bool false ∧ Aside (Below wx.heap.size wx wz))
        case first =>
          have VV := fun p : BW wx => HVX.out p.W p.h
          have v0 : ∀ p : BW wx, p.W.cell? ⟨D, 0, none⟩ = some (.string nm) := fun p => (VV p).1
          have v1 : ∀ p : BW wx, p.W.cell? ⟨D, 1, none⟩ = some (.int .i64 op) := fun p => (VV p).2.1
          have v2 : ∀ p : BW wx, p.W.cell? ⟨D, 2, none⟩ = some (.int .i64 k) := fun p => (VV p).2.2.1
          have v3 : ∀ p : BW wx, p.W.cell? ⟨D, 3, none⟩ = some (.int .i64 n') := fun p => (VV p).2.2.2.1
          have v4 : ∀ p : BW wx, p.W.cell? ⟨D, 4, none⟩ = some (.float .f64 x) := fun p => (VV p).2.2.2.2.1
          have v5 : ∀ p : BW wx, p.W.cell? ⟨D, 5, none⟩ = some (.string s) := fun p => (VV p).2.2.2.2.2.1
          have v6 : ∀ p : BW wx, p.W.cell? ⟨D, 6, none⟩ = some (.bool y) := fun p => (VV p).2.2.2.2.2.2
          have y1 : ∀ p : BW wx, p.W.cell? ⟨B, 1, none⟩ = some (.slice (some ⟨b, off, none⟩) ln rcap) := fun p => HYB.out p.W (HAX.out p.W p.h)
          have hPc : ∀ p : BW wx, Calls Tryz.prog 28 #[cnd nm op k n' x s y] p.W fun e w'' => e = .returned (.string tc) ∧ ∃ q : BW wx, w'' = q.W := fun p => (HPj.out p.W (HAX.out p.W p.h)).mono fun _ _ q => ⟨q.1, ⟨⟨_, p.h.trans (q.2.mono p.h.size)⟩, rfl⟩⟩
          by_cases hj0 : j = 0
          · subst hj0
            clear HPj HIj HRj HVX HAX HYB HYA HPR HRW VV
            refine wp_region_bw (by kernel_rfl) (by kernel_rfl) ?_
            repeat (quiet_step (first | (go_at_call 28; exact hPc _)))
            refine wpQuiet_nil ?_
            intro w2' hw'
            obtain ⟨pw, hw2⟩ := hw'
            have HX2 : Aside (Below wx.heap.size wx w2') := by rw [hw2]; exact pw.h
            clear v0 v1 v2 v3 v4 v5 v6 y1 hPc hw2 pw
            go_wp2_with fail
            go_meet
            exact ⟨rfl, HX2.out⟩
          · obtain ⟨jp, hjp⟩ : ∃ jp, j = jp + 1 := ⟨j - 1, by omega⟩
            have hlp : jp < ln := by omega
            have HPp := Lib.hid (HPR.out jp hlp)
            have hbl := HRj.out jp hjp
            have d_ := fun (p : BW wx) c v h => HRW.out p.W (HAX.out p.W p.h) jp hlp c v h
            generalize TX L[jp]! = tp at HPp hbl
            generalize L[jp]! = d at d_ HPp
            obtain ⟨⟨nm2, k2, n2, x2, s2, y2⟩, op2⟩ := d
            have d0 : ∀ p : BW wx, p.W.cell? ⟨b, off + jp * 7, none⟩ = some (.string nm2) := fun p => d_ p 0 _ rfl
            have d1 : ∀ p : BW wx, p.W.cell? ⟨b, off + jp * 7 + 1, none⟩ = some (.int .i64 op2) := fun p => d_ p 1 _ rfl
            have d2 : ∀ p : BW wx, p.W.cell? ⟨b, off + jp * 7 + 2, none⟩ = some (.int .i64 k2) := fun p => d_ p 2 _ rfl
            have d3 : ∀ p : BW wx, p.W.cell? ⟨b, off + jp * 7 + 3, none⟩ = some (.int .i64 n2) := fun p => d_ p 3 _ rfl
            have d4 : ∀ p : BW wx, p.W.cell? ⟨b, off + jp * 7 + 4, none⟩ = some (.float .f64 x2) := fun p => d_ p 4 _ rfl
            have d5 : ∀ p : BW wx, p.W.cell? ⟨b, off + jp * 7 + 5, none⟩ = some (.string s2) := fun p => d_ p 5 _ rfl
            have d6 : ∀ p : BW wx, p.W.cell? ⟨b, off + jp * 7 + 6, none⟩ = some (.bool y2) := fun p => d_ p 6 _ rfl
            have hPp : ∀ p : BW wx, Calls Tryz.prog 28 #[cnd nm2 op2 k2 n2 x2 s2 y2] p.W fun e w'' => e = .returned (.string tp) ∧ ∃ q : BW wx, w'' = q.W := fun p => (HPp.out p.W (HAX.out p.W p.h)).mono fun _ _ q => ⟨q.1, ⟨⟨_, p.h.trans (q.2.mono p.h.size)⟩, rfl⟩⟩
            have hwp : wrap64 ((j : Int) - 1) = (jp : Int) := by unfold wrap64; omega
            have hwp2 : IntKind.i64.wrap ((j : Int) - 1) = (jp : Int) := by rw [IntKind.wrap_i64]; omega
            have hp0 : (0 : Int) ≤ (jp : Int) := by omega
            have hpz : (jp : Int) < (ln : Int) := by omega
            have hj1 : (0 : Int) < (j : Int) := by omega
            have hj2 : 0 < j := by omega
            clear HPp HPj HIj HRj HVX HAX HYB HYA HPR HRW VV d_ hj0 hjp
            refine wp_region_bw (by kernel_rfl) (by kernel_rfl) ?_
            repeat (quiet_step (first | (go_at_call 28; first | (with_reducible exact hPp _) | (with_reducible exact hPc _))))
            refine wpQuiet_nil ?_
            intro w2' hw'
            obtain ⟨pw, hw2⟩ := hw'
            have HX2 : Aside (Below wx.heap.size wx w2') := by rw [hw2]; exact pw.h
            clear v0 v1 v2 v3 v4 v5 v6 y1 hPc hPp d0 d1 d2 d3 d4 d5 d6 hw2 pw
            go_wp2_with fail
            go_meet
            exact ⟨rfl, HX2.out⟩
        case rest =>
          obtain ⟨rfl, HZ⟩ := hcut
          obtain ⟨wz, rfl⟩ : ∃ wz, wz = wc := ⟨wc, rfl⟩
          have y1 := HYB.out wz (HAX.out _ HZ.out)
          clear HPj HRj HPR
          go_wp2_with fail
          clear y1
          go_loopg [112] ln (fun kx s112 wr2 => ∃ i : Nat, s112 = .int .i64 i ∧ i ≤ ln ∧ ln - i ≤ kx ∧ Aside (Below wx.heap.size wx wr2))
          case atStart => exact ⟨0, rfl, Nat.zero_le _, by omega, HZ.out⟩
          case round =>
            obtain ⟨i, rfl, hi, hix, HR⟩ := hrel
            by_cases hlt2 : i < ln
            · have d_ := fun c v h => HRW.out wr (HAX.out wr HR.out) i hlt2 c v h
              have hltz2 : (i : Int) < ln := by omega
              have hiz : (0 : Int) ≤ (i : Int) := by omega
              have zr2 : wx.heap.size ≤ wr.heap.size := HR.out.size
              by_cases hij : i = j
              · have hijz : ((i : Int) != (j : Int)) = false := by rw [hij]; simp
                have hije : ((i : Int) == (j : Int)) = true := by rw [hij]; simp
                generalize L[i]! = d at d_
                obtain ⟨⟨nm2, k2, n2, x2, s2, y2⟩, op2⟩ := d
                have d0 := d_ 0 _ rfl; have d1 := d_ 1 _ rfl; have d2 := d_ 2 _ rfl; have d3 := d_ 3 _ rfl; have d4 := d_ 4 _ rfl; have d5 := d_ 5 _ rfl; have d6 := d_ 6 _ rfl
                simp only [Nat.add_zero] at d0
                have HR3 : Aside (Below wx.heap.size wx (wr.alloc (.cells (cnds nm2 op2 k2 n2 x2 s2 y2) 26))) := HR.out.alloc zr2 _
                clear d_ HR zr2 hij HRW HIj HVX
                go_wp2_with fail
                go_roundg (ln - (i + 1))
                case measure => omega
                case rel => exact ⟨i + 1, by go_num, hlt2, Nat.le_refl _, HR3.out⟩
              · have hijz : ((i : Int) != (j : Int)) = true := by rw [bne_iff_ne]; omega
                have hije : ((i : Int) == (j : Int)) = false := by rw [beq_eq_false_iff_ne]; omega
                have HIi := Lib.hid (HIj.out i hlt2 hij)
                generalize L[i]! = d at d_ HIi
                obtain ⟨⟨nm2, k2, n2, x2, s2, y2⟩, op2⟩ := d
                have d0 := d_ 0 _ rfl; have d1 := d_ 1 _ rfl; have d2 := d_ 2 _ rfl; have d3 := d_ 3 _ rfl; have d4 := d_ 4 _ rfl; have d5 := d_ 5 _ rfl; have d6 := d_ 6 _ rfl
                simp only [Nat.add_zero] at d0
                have HR3 : Aside (Below wx.heap.size wx (wr.alloc (.cells (cnds nm2 op2 k2 n2 x2 s2 y2) 26))) := HR.out.alloc zr2 _
                obtain ⟨v0, v1, v2, v3, v4, v5, v6⟩ := HVX.out _ HR3.out
                clear d_ HR zr2 hij HRW HIj HVX
                go_wp2_with fail
                clear v0 v1 v2 v3 v4 v5 v6 d0 d1 d2 d3 d4 d5 d6
                refine (HIi.out _).mono ?_
                rintro e w9 ⟨rfl, hb9⟩
                have HR4 : Aside (Below wx.heap.size wx w9) := HR3.out.trans (hb9.mono HR3.out.size)
                clear hb9 HR3 HIi
                go_wp2_with fail
                go_roundg (ln - (i + 1))
                case measure => omega
                case rel => exact ⟨i + 1, by go_num, hlt2, Nat.le_refl _, HR4.out⟩
            · obtain rfl : i = ln := by omega
              have HE := Lib.hid (HAX.out _ HR.out)
              clear HR HAX HVX HRW HIj HZ
              go_wp2_with fail
              go_roundg (i - (j + 1))
              case measure => omega
              case rel => exact ⟨j + 1, by go_num, hlt, Nat.le_refl _, HE.out⟩
      · obtain rfl : j = ln := by omega
        go_wp2_with fail
        go_ret
        exact ⟨rfl, HYA.out _ HA.out⟩
end Go.Proofs.YtcbccioibpjkgaaGreatDoor
