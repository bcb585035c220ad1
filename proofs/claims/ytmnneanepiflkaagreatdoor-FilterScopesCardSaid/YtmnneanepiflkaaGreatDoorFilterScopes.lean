/- FilterScopes: a filter without conditions has all events in its scope, and below; a void one has none. -/
import Derived.Test.YtmnneanepiflkaaGreatDoorGaJ
import Derived.Deep.RegionWith
import Derived.Deep.RegionHeld3
namespace Go.Proofs.YtmnneanepiflkaaGreatDoor
open Go.RowKit Go.Shelf
open Go.Proofs
set_option maxRecDepth 100000

/-- The law's own condition: a beginning that is no text. -/
def ca : Cn := ⟨⟨⟨#[97]⟩, 0, 0, 0, ⟨#[]⟩, false⟩, 6⟩
theorem ca_void : voidF [ca] = true := by decide +kernel
set_option maxHeartbeats 8000000 in
theorem filterScopes_c (a b : ByteArray) (ao : Option Addr) (cap : Nat) (l : List At) (w : World) (hm : MaxI w) (hw : Wds w) (ha : a.size ≤ MB) (hb : b.size ≤ MB) (hl : SliceA w ao l) (hal : ∀ a ∈ l, AtW MB a) (hln : l.length * 64 ≤ MB) :
    Calls Tryz.prog 10 #[.string a, .string b, .slice ao l.length cap] w fun e w' => e = .returned (.bool true) ∧ Below w.heap.size w w' := by
  have hll : l.length ≤ 4611686018427387904 := by unfold MB at hln; omega
  have HFT : Aside (∀ W, Below w.heap.size w W → Calls Tryz.prog 20 #[] W fun e w' => e = .returned (.bool true) ∧ Below W.heap.size W w') := fun W hW => fit7_c W (hw.on hW) (hm.below hW)
  have HFW : Aside (∀ W, Below w.heap.size w W → Calls Tryz.prog 22 #[.slice ao l.length cap] W fun e w' => e = .returned (.bool (fewA l)) ∧ Below W.heap.size W w') := fun W hW => few_c ao cap l W (hl.under hW) hll
  have HSR : Aside (∀ (s : ByteArray) W, s.size ≤ 200 → Below w.heap.size w W → Calls Tryz.prog 23 #[.string s] W fun e w' => e = .returned (.bool (scopeOk s)) ∧ Below W.heap.size W w') := fun s W h hW => scright_c s W (by omega) (hm.below hW)
  have HEV : Aside (fewA l = true → b.size ≤ 200 → ∀ W, Below w.heap.size w W → Calls Tryz.prog 25 #[.string b, .slice ao l.length cap] W fun e w' => ∃ bo bcap es, e = .returned (.agg #[.string (scopeE b), .slice bo es.length bcap]) ∧ Aside (EvtIs W w' bo l es)) := fun h h2 W hW =>
    event_c b ao cap l W (Nat.le_trans (few_all (by decide) h hal) (by decide)) (hl.under hW) (by omega) (hm.below hW)
  have HEB : Aside (∀ (W0 W1 : World) (bo : Option Addr) (es : List At), EvtIs W0 W1 bo l es → Below W0.heap.size W0 W1 ∧ SliceA W1 bo es ∧ es.length ≤ 8 ∧ ∀ a ∈ es, AtOk a) := fun W0 W1 bo es h => ⟨by obtain ⟨_, _, _, _, h4⟩ := h; exact h4, by obtain ⟨_, _, _, h4, _⟩ := h; exact h4, evt_len h, fun a ha => (evt_ok h hal a ha).1⟩
  have HSE : Aside (scopeE b = if scopeOk b then b else ⟨#[]⟩) := rfl
  obtain ⟨n, hN⟩ : ∃ n, n = l.length := ⟨_, rfl⟩
  rw [← hN] at HFW HEV ⊢
  generalize fewA l = fw at *
  generalize scopeE b = sE at *
  have HMB : Aside (a.size ≤ MB ∧ b.size ≤ MB) := ⟨ha, hb⟩
  clear hm hw hl hal hln hll hN ha hb
  go_enter Tryz.func10, Tryz.ntmps10
  go_wp2_with fail
  refine (HFT.out _ (Below.refl _ _)).mono ?_
  rintro e w1 ⟨rfl, hb1⟩
  have HA1 := Lib.hid hb1
  clear hb1 HFT
  by_cases h200 : (200 : Int) < wrap64 ((a.size : Int) + (b.size : Int))
  · go_wp2_with fail
    go_ret
    exact ⟨rfl, HA1.out⟩
  have hsz : a.size + b.size ≤ 200 := by
    obtain ⟨h1, h2⟩ := HMB.out
    unfold MB at h1 h2
    unfold wrap64 at h200
    omega
  have HSZ : Aside (a.size ≤ 200 ∧ b.size ≤ 200) := ⟨by omega, by omega⟩
  clear hsz HMB
  have HSA := Lib.hid (HSR.out a · HSZ.out.1)
  have HSB := Lib.hid (HSR.out b · HSZ.out.2)
  clear HSR
  generalize scopeOk a = sa at *
  generalize scopeOk b = sb at *
  go_wp2_with fail
  refine (HSA.out _ HA1.out).mono ?_
  rintro e w2 ⟨rfl, hb⟩
  have HA2 : Aside (Below w.heap.size w w2) := HA1.out.trans (hb.mono HA1.out.size)
  clear hb HA1 HSA
  cases sa
  · go_wp2_with fail
    go_ret
    exact ⟨rfl, HA2.out⟩
  go_wp2_with fail
  refine (HSB.out _ HA2.out).mono ?_
  rintro e w3 ⟨rfl, hb⟩
  have HA3 : Aside (Below w.heap.size w w3) := HA2.out.trans (hb.mono HA2.out.size)
  clear hb HA2 HSB
  cases sb
  · go_wp2_with fail
    go_ret
    exact ⟨rfl, HA3.out⟩
  have hse : b = sE := HSE.out.symm
  subst hse
  go_wp2_with fail
  refine (HFW.out _ HA3.out).mono ?_
  rintro e w5 ⟨rfl, hb⟩
  have HA5 : Aside (Below w.heap.size w w5) := HA3.out.trans (hb.mono HA3.out.size)
  clear hb HA3 HFW HSE
  cases fw
  · go_wp2_with fail
    go_ret
    exact ⟨rfl, HA5.out⟩
  have HEV' := Lib.hid (HEV.out (by first | trivial | rfl) HSZ.out.2)
  clear HEV
  have hK5 : ∀ W, Below ((((w5.alloc (.cells (cnds ⟨#[97]⟩ 6 0 0 0 ⟨#[]⟩ false) 26)).alloc (.cells #[.string a, .slice none 0 0] 42)).alloc (.cells #[.string a, .slice (some ⟨w5.heap.size, 0, none⟩) 1 1] 42))).heap.size ((((w5.alloc (.cells (cnds ⟨#[97]⟩ 6 0 0 0 ⟨#[]⟩ false) 26)).alloc (.cells #[.string a, .slice none 0 0] 42)).alloc (.cells #[.string a, .slice (some ⟨w5.heap.size, 0, none⟩) 1 1] 42))) W → (Below w.heap.size w W ∧ w5.heap.size + 3 ≤ W.heap.size) ∧ (W.cell? ⟨w5.heap.size + 1, 0, none⟩ = some (.string a) ∧ W.cell? ⟨w5.heap.size + 1, 1, none⟩ = some (.slice none 0 0) ∧ W.cell? ⟨w5.heap.size + 2, 0, none⟩ = some (.string a) ∧ W.cell? ⟨w5.heap.size + 2, 1, none⟩ = some (.slice (some ⟨w5.heap.size, 0, none⟩) 1 1)) ∧ RowC W w5.heap.size 0 [ca] := fun W hW => by
    have hbw : Below (w5.heap.size + 3) ((((w5.alloc (.cells (cnds ⟨#[97]⟩ 6 0 0 0 ⟨#[]⟩ false) 26)).alloc (.cells #[.string a, .slice none 0 0] 42)).alloc (.cells #[.string a, .slice (some ⟨w5.heap.size, 0, none⟩) 1 1] 42))) W := by simpa using hW
    obtain ⟨va, vb, vd⟩ := lay3 hbw
    refine ⟨⟨((HA5.out.alloc' _).alloc' _).alloc' _ |>.trans (hbw.mono (by have := HA5.out.size; omega)), by have := hbw.size; simp at this; omega⟩, ⟨vb 0 _ rfl, vb 1 _ rfl, vd 0 _ rfl, vd 1 _ rfl⟩, fun i hi c v hv => ?_⟩
    obtain rfl : i = 0 := by simpa using hi
    simp only [Nat.zero_mul, Nat.zero_add]
    exact va c v (by simpa [encC, ca] using hv)
  have HK5 := Lib.hid hK5
  clear hK5
  go_upto_region 6 with fail
  generalize (((w5.alloc (.cells (cnds ⟨#[97]⟩ 6 0 0 0 ⟨#[]⟩ false) 26)).alloc (.cells #[.string a, .slice none 0 0] 42)).alloc (.cells #[.string a, .slice (some ⟨w5.heap.size, 0, none⟩) 1 1] 42)) = w5' at *
  generalize w5.heap.size = S at *
  have HA5' : Aside (Below w.heap.size w w5') := (HK5.out _ (Below.refl _ _)).1.1
  have hz5 : S + 3 ≤ w5'.heap.size := (HK5.out _ (Below.refl _ _)).1.2
  clear HA5
  go_wp2_with fail
  refine (HEV'.out _ HA5'.out).mono ?_
  rintro e w6 ⟨bo, bcap, es, rfl, hE⟩
  obtain ⟨hb, hS6, h8, hok⟩ := HEB.out _ _ _ _ hE.out
  clear hE HEB HEV' HA5'
  have HB56 := Lib.hid hb
  have h6z := hb.size
  have hbw6 : Below w6.heap.size w6 (((w6.alloc (.cells #[.string b, .slice bo es.length bcap] 33)).alloc (.cells #[.string b, .slice none 0 0] 42))) := ((Below.refl _ _).alloc (Nat.le_refl _) _).alloc (by simp) _
  have HK6 : Aside (∀ W, Below (((w6.alloc (.cells #[.string b, .slice bo es.length bcap] 33)).alloc (.cells #[.string b, .slice none 0 0] 42))).heap.size (((w6.alloc (.cells #[.string b, .slice bo es.length bcap] 33)).alloc (.cells #[.string b, .slice none 0 0] 42))) W → Below w5'.heap.size w5' W ∧ SliceA W bo es ∧ W.cell? ⟨w6.heap.size, 0, none⟩ = some (.string b) ∧ W.cell? ⟨w6.heap.size, 1, none⟩ = some (.slice bo es.length bcap) ∧ W.cell? ⟨w6.heap.size + 1, 0, none⟩ = some (.string b) ∧ W.cell? ⟨w6.heap.size + 1, 1, none⟩ = some (.slice none 0 0)) := fun W hW => by
    have hbw : Below (w6.heap.size + 2) (((w6.alloc (.cells #[.string b, .slice bo es.length bcap] 33)).alloc (.cells #[.string b, .slice none 0 0] 42))) W := by simpa using hW
    obtain ⟨va, vb⟩ := two_lay hbw
    have h6 : Below w6.heap.size w6 W := hbw6.trans (hbw.mono (by omega))
    exact ⟨HB56.out.trans (h6.mono h6z), hS6.under h6, va 0 _ rfl, va 1 _ rfl, vb 0 _ rfl, vb 1 _ rfl⟩
  clear hb hS6 hbw6
  go_upto_region 8 with fail
  generalize ((w6.alloc (.cells #[.string b, .slice bo es.length bcap] 33)).alloc (.cells #[.string b, .slice none 0 0] 42)) = w7 at *
  generalize w6.heap.size = V at *
  have HK : Aside (∀ W, Below w7.heap.size w7 W → Below w.heap.size w W ∧ SliceA W bo es ∧ CondsB W.heap.size W (some ⟨S, 0, none⟩) [ca] ∧ W.cell? ⟨S + 1, 0, none⟩ = some (.string a) ∧ W.cell? ⟨S + 1, 1, none⟩ = some (.slice none 0 0) ∧ W.cell? ⟨S + 2, 0, none⟩ = some (.string a) ∧ W.cell? ⟨S + 2, 1, none⟩ = some (.slice (some ⟨S, 0, none⟩) 1 1) ∧ W.cell? ⟨V, 0, none⟩ = some (.string b) ∧ W.cell? ⟨V, 1, none⟩ = some (.slice bo es.length bcap) ∧ W.cell? ⟨V + 1, 0, none⟩ = some (.string b) ∧ W.cell? ⟨V + 1, 1, none⟩ = some (.slice none 0 0)) := fun W hW => by
    obtain ⟨g0, g1, g2, g3, g4, g5⟩ := HK6.out W hW
    obtain ⟨⟨q0, q1⟩, ⟨q2, q3, q4, q5⟩, q6⟩ := HK5.out W g0
    exact ⟨q0, g1, Or.inr ⟨S, 0, rfl, by omega, q6⟩, q2, q3, q4, q5, g2, g3, g4, g5⟩
  have hcaok : ∀ c ∈ [ca], AtOk c.a := fun c hc => by rw [List.mem_singleton.1 hc]; show (0 : Nat) < _; decide
  have hnil : ∀ c ∈ ([] : List Cn), AtOk c.a := fun c hc => by simp at hc
  have HU := Lib.hid (fun W => under_c b a (by have := HSZ.out.1; omega) W)
  have HM1 : Aside (∀ W, Below w7.heap.size w7 W → Calls Tryz.prog 26 #[fil a none 0 0, evt b bo es.length bcap] W fun e w' => e = .returned (.bool (underB b a)) ∧ Below W.heap.size W w') := fun W hW => by
    obtain ⟨_, g1, _⟩ := HK.out W hW
    have h := fmatch_c a none 0 [] b bo bcap es W (Or.inl rfl) hnil (by simp) g1 hok (by omega) (by have := HSZ.out.1; omega)
    rw [show matchF a [] b es = underB b a by unfold matchF; simp] at h
    exact h
  have HM2 : Aside (∀ W, Below w7.heap.size w7 W → Calls Tryz.prog 26 #[fil a (some ⟨S, 0, none⟩) 1 1, evt b bo es.length bcap] W fun e w' => e = .returned (.bool false) ∧ Below W.heap.size W w') := fun W hW => by
    obtain ⟨_, g1, g2, _⟩ := HK.out W hW
    have h := fmatch_c a (some ⟨S, 0, none⟩) 1 [ca] b bo bcap es W g2 hcaok (by simp) g1 hok (by omega) (by have := HSZ.out.1; omega)
    rw [voidF_match ca_void] at h
    exact h
  have HV2 : Aside (∀ W, Below w7.heap.size w7 W → Calls Tryz.prog 33 #[fil a (some ⟨S, 0, none⟩) 1 1] W fun e w' => e = .returned (.bool true) ∧ Below W.heap.size W w') := fun W hW => by
    obtain ⟨_, _, g2, _⟩ := HK.out W hW
    have h := fvoid_c a (some ⟨S, 0, none⟩) 1 [ca] W g2 (by simp)
    rw [ca_void] at h
    exact h
  have HV1 : Aside (∀ W, Calls Tryz.prog 33 #[fil a none 0 0] W fun e w' => e = .returned (.bool false) ∧ Below W.heap.size W w') := fun W => fvoid_c a none 0 [] W (Or.inl rfl) (by simp)
  have HC1 : Aside (∀ W, Calls Tryz.prog 28 #[fil a none 0 0, fil b none 0 0] W fun e w' => e = .returned (.bool (underB b a)) ∧ Below W.heap.size W w') := fun W => by
    have h := fcovers_c a none 0 [] b none 0 [] W (Or.inl rfl) hnil (by simp) (Or.inl rfl) hnil (by simp) (by have := HSZ.out.1; omega)
    rw [show coversF a [] b [] = underB b a by unfold coversF voidF; simp] at h
    exact h
  have HC2 : Aside (∀ W, Below w7.heap.size w7 W → Calls Tryz.prog 28 #[fil b none 0 0, fil a (some ⟨S, 0, none⟩) 1 1] W fun e w' => e = .returned (.bool true) ∧ Below W.heap.size W w') := fun W hW => by
    obtain ⟨_, _, g2, _⟩ := HK.out W hW
    have h := fcovers_c b none 0 [] a (some ⟨S, 0, none⟩) 1 [ca] W (Or.inl rfl) hnil (by simp) g2 hcaok (by simp) (by have := HSZ.out.2; omega)
    rw [show coversF b [] a [ca] = true by unfold coversF; rw [ca_void]; rfl] at h
    exact h
  have HC3 : Aside (∀ W, Below w7.heap.size w7 W → Calls Tryz.prog 28 #[fil a (some ⟨S, 0, none⟩) 1 1, fil b none 0 0] W fun e w' => e = .returned (.bool false) ∧ Below W.heap.size W w') := fun W hW => by
    obtain ⟨_, _, g2, _⟩ := HK.out W hW
    have h := fcovers_c a (some ⟨S, 0, none⟩) 1 [ca] b none 0 [] W g2 hcaok (by simp) (Or.inl rfl) hnil (by simp) (by have := HSZ.out.1; omega)
    rw [show coversF a [ca] b [] = false by unfold coversF voidF impliedF; simp] at h
    exact h
  have HTR : Aside (∀ W W', Below w7.heap.size w7 W → Below W.heap.size W W' → Below w7.heap.size w7 W') := fun W W' h h2 => h.trans (h2.mono h.size)
  generalize underB b a = u at *
  generalize es.length = en at *
  have huu : (u == u) = true := by simp
  clear HK5 HK6 HB56 hok hcaok hnil HSZ h6z hz5 h8
  have HX0 : Aside (Below w7.heap.size w7 w7) := Below.refl _ _
  obtain ⟨_, _, _, a0, a1, a2, a3, a4, a5, a6, a7⟩ := HK.out _ HX0.out
  go_wp2_with fail
  refine (HM1.out _ HX0.out).mono ?_
  rintro e x1 ⟨rfl, hb⟩
  have HX1 := Lib.hid (HTR.out _ _ HX0.out hb)
  clear hb a0 a1 a2 a3 a4 a5 a6 a7
  go_wp2_with fail
  refine (HU.out _).mono ?_
  rintro e x2 ⟨rfl, rfl⟩
  obtain ⟨_, _, _, a0, a1, a2, a3, a4, a5, a6, a7⟩ := HK.out _ HX1.out
  go_wp2_with fail
  refine (HM2.out _ HX1.out).mono ?_
  rintro e x3 ⟨rfl, hb⟩
  have HX3 := Lib.hid (HTR.out _ _ HX1.out hb)
  clear hb a0 a1 a2 a3 a4 a5 a6 a7
  obtain ⟨_, _, _, a0, a1, a2, a3, a4, a5, a6, a7⟩ := HK.out _ HX3.out
  go_wp2_with fail
  refine (HV2.out _ HX3.out).mono ?_
  rintro e x4 ⟨rfl, hb⟩
  have HX4 := Lib.hid (HTR.out _ _ HX3.out hb)
  clear hb a0 a1 a2 a3 a4 a5 a6 a7
  obtain ⟨_, _, _, a0, a1, a2, a3, a4, a5, a6, a7⟩ := HK.out _ HX4.out
  go_wp2_with fail
  refine (HV1.out _).mono ?_
  rintro e x5 ⟨rfl, hb⟩
  have HX5 := Lib.hid (HTR.out _ _ HX4.out hb)
  clear hb a0 a1 a2 a3 a4 a5 a6 a7
  obtain ⟨_, _, _, a0, a1, a2, a3, a4, a5, a6, a7⟩ := HK.out _ HX5.out
  go_wp2_with fail
  refine (HC1.out _).mono ?_
  rintro e x6 ⟨rfl, hb⟩
  have HX6 := Lib.hid (HTR.out _ _ HX5.out hb)
  clear hb a0 a1 a2 a3 a4 a5 a6 a7
  go_wp2_with fail
  refine (HU.out _).mono ?_
  rintro e x7 ⟨rfl, rfl⟩
  obtain ⟨_, _, _, a0, a1, a2, a3, a4, a5, a6, a7⟩ := HK.out _ HX6.out
  go_wp2_with fail
  refine (HC2.out _ HX6.out).mono ?_
  rintro e x8 ⟨rfl, hb⟩
  have HX8 := Lib.hid (HTR.out _ _ HX6.out hb)
  clear hb a0 a1 a2 a3 a4 a5 a6 a7
  obtain ⟨_, _, _, a0, a1, a2, a3, a4, a5, a6, a7⟩ := HK.out _ HX8.out
  go_wp2_with fail
  refine (HC3.out _ HX8.out).mono ?_
  rintro e x9 ⟨rfl, hb⟩
  have HX9 := Lib.hid (HTR.out _ _ HX8.out hb)
  clear hb a0 a1 a2 a3 a4 a5 a6 a7
  go_wp2_with fail
  go_ret
  exact ⟨rfl, (HK.out _ HX9.out).1⟩
end Go.Proofs.YtmnneanepiflkaaGreatDoor
