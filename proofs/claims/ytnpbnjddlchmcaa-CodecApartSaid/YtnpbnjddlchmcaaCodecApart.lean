/- CodecApart: unlike events that may be have unlike bytes. -/
import Derived.Test.YtnpbnjddlchmcaaApart
import Derived.Test.YtnpbnjddlchmcaaOpenN
import Derived.Deep.RegionHeld
namespace Go.Proofs.Ytnpbnjddlchmcaa
open Go.RowKit Go.Shelf Go.Sort
open Go.Proofs
set_option maxRecDepth 100000

set_option maxHeartbeats 8000000 in
theorem codecApart_c (ao : Option Addr) (cap : Nat) (l : List At) (bo : Option Addr) (cap2 : Nat) (m : List At) (s : ByteArray) (w : World) (hl : SliceA w ao l) (ho : ∀ a ∈ l, AtOk a ∧ -9223372036854775808 ≤ a.n ∧ a.n ≤ 9223372036854775807) (hlen : l.length ≤ 9223372036854775807)
    (hm : SliceA w bo m) (hom : ∀ a ∈ m, AtOk a ∧ -9223372036854775808 ≤ a.n ∧ a.n ≤ 9223372036854775807) (hlenm : m.length ≤ 9223372036854775807) :
    Calls Try.prog 10 #[.slice ao l.length cap, .slice bo m.length cap2, .string s] w fun e w' => e = .returned (.bool true) ∧ Below w.heap.size w w' := by
  have HS : Aside (SliceA w ao l) := hl
  have HS2 : Aside (SliceA w bo m) := hm
  have HO : Aside (∀ a ∈ l, AtOk a ∧ -9223372036854775808 ≤ a.n ∧ a.n ≤ 9223372036854775807) := ho
  have HO2 : Aside (∀ a ∈ m, AtOk a ∧ -9223372036854775808 ≤ a.n ∧ a.n ≤ 9223372036854775807) := hom
  have HLI : Aside (∀ W, SliceA W ao l → Calls Try.prog 12 #[.slice ao l.length cap] W fun e w' => e = .returned (.bool (lightB l)) ∧ Below W.heap.size W w') := fun W h => light_c ao cap l W h hlen
  have HLJ : Aside (∀ W, SliceA W bo m → Calls Try.prog 12 #[.slice bo m.length cap2] W fun e w' => e = .returned (.bool (lightB m)) ∧ Below W.heap.size W w') := fun W h => light_c bo cap2 m W h hlenm
  have HNW : Aside (∀ W, SliceA W ao l → l.length ≤ 39 → Calls Try.prog 13 #[.string s, .slice ao l.length cap] W fun e w' => ∃ (G : Nat) (res : List At), e = .returned (.agg #[.string s, .slice (some ⟨G, 0, none⟩) res.length l.length]) ∧
      Aside (W.heap.size ≤ G ∧ G < w'.heap.size ∧ RowAt w' G 0 res ∧ NewOf l res ∧ Below W.heap.size W w')) := fun W h h2 => new_c s ao cap l h2 W h
  have HNV : Aside (∀ W, SliceA W bo m → m.length ≤ 39 → Calls Try.prog 13 #[.string s, .slice bo m.length cap2] W fun e w' => ∃ (G : Nat) (res : List At), e = .returned (.agg #[.string s, .slice (some ⟨G, 0, none⟩) res.length m.length]) ∧
      Aside (W.heap.size ≤ G ∧ G < w'.heap.size ∧ RowAt w' G 0 res ∧ NewOf m res ∧ Below W.heap.size W w')) := fun W h h2 => new_c s bo cap2 m h2 W h
  clear hl ho hm hom
  obtain ⟨len, hL⟩ : ∃ len, len = l.length := ⟨_, rfl⟩
  obtain ⟨lem, hM⟩ : ∃ len, len = m.length := ⟨_, rfl⟩
  have HLen : Aside (len = l.length) := hL
  have HLem : Aside (lem = m.length) := hM
  rw [← hL] at HLI HNW hlen ⊢
  rw [← hM] at HLJ HNV hlenm ⊢
  clear hL hM
  go_enter Try.func10, Try.ntmps10
  go_wp2_with fail
  refine (fit4_c w).mono ?_
  rintro e w1 ⟨rfl, hb1⟩
  have HB1 : Aside (Below w.heap.size w w1) := hb1
  clear hb1
  go_wp2_with fail
  refine (HLI.out w1 (HS.out.under HB1.out)).mono ?_
  rintro e w2 ⟨rfl, hb2⟩
  have HB2 : Aside (Below w.heap.size w w2) := HB1.out.trans (hb2.mono HB1.out.size)
  clear hb2 HB1 HLI
  cases hli : lightB l
  · go_wp2_with fail
    go_ret
    exact ⟨rfl, HB2.out⟩
  go_wp2_with fail
  refine (HLJ.out w2 (HS2.out.under HB2.out)).mono ?_
  rintro e w3 ⟨rfl, hb3⟩
  have HB3 : Aside (Below w.heap.size w w3) := HB2.out.trans (hb3.mono HB2.out.size)
  clear hb3 HB2 HLJ
  cases hlj : lightB m
  · go_wp2_with fail
    go_ret
    exact ⟨rfl, HB3.out⟩
  have hl30 : len ≤ 30 := by rw [HLen.out]; exact light_len4 hli
  have hm30 : lem ≤ 30 := by rw [HLem.out]; exact light_len4 hlj
  by_cases hnm : (200 : Int) < (s.size : Int)
  · go_wp2_with fail
    go_ret
    exact ⟨rfl, HB3.out⟩
  have hs255 : s.size ≤ 255 := by omega
  have HS255 := Lib.hid hs255
  go_wp2_with fail
  refine (HNW.out w3 (HS.out.under HB3.out) (by omega)).mono ?_
  rintro e w4 ⟨G, r1, rfl, hA⟩
  obtain ⟨hG1, hG2, hrow, hno, hb4⟩ := hA.out
  have HB4 : Aside (Below w.heap.size w w4) := HB3.out.trans (hb4.mono HB3.out.size)
  have hGd : rightE r1 = true → Good4 r1 := fun h => good_new hno HO.out h
  have HGd := Lib.hid hGd
  have HRow : Aside (RowAt w4 G 0 r1) := hrow
  clear hrow hno hb4 hA HNW hnm hG1 HB3 hGd hs255 hli hlj
  obtain ⟨n1, hn1⟩ : ∃ rl, rl = r1.length := ⟨_, rfl⟩
  have HN1 : Aside (n1 = r1.length) := hn1
  rw [← hn1]
  clear hn1
  go_wp2_with fail
  refine (HNV.out w4 (HS2.out.under HB4.out) (by omega)).mono ?_
  rintro e w5 ⟨G2, r2, rfl, hA⟩
  obtain ⟨hG3, hG4, hrow, hno, hb5⟩ := hA.out
  have HB5 : Aside (Below w.heap.size w w5) := HB4.out.trans (hb5.mono HB4.out.size)
  have hGd2 : rightE r2 = true → Good4 r2 := fun h => good_new hno HO2.out h
  have HGd2 := Lib.hid hGd2
  have HRow2 : Aside (RowAt w5 G2 0 r2) := hrow
  have HRow1 : Aside (RowAt w5 G 0 r1) := RowAt.below hb5 hG2 HRow.out
  have hG5 : G < w5.heap.size := Nat.lt_of_lt_of_le hG2 hb5.size
  clear hrow hno hb5 hA HNV hG3 hG2 HB4 hGd2 HRow
  obtain ⟨n2, hn2⟩ : ∃ rl, rl = r2.length := ⟨_, rfl⟩
  have HN2 : Aside (n2 = r2.length) := hn2
  rw [← hn2]
  clear hn2
  go_wp2_with fail
  have hb56 : Below w5.heap.size w5 ((w5.alloc (.cells #[.string s, .slice (some ⟨G, 0, none⟩) n1 len] 26)).alloc (.cells #[.string s, .slice (some ⟨G2, 0, none⟩) n2 lem] 26)) := ((Below.refl _ _).alloc (Nat.le_refl _) _).alloc (by simp) _
  have HB6 : Aside (Below w.heap.size w ((w5.alloc (.cells #[.string s, .slice (some ⟨G, 0, none⟩) n1 len] 26)).alloc (.cells #[.string s, .slice (some ⟨G2, 0, none⟩) n2 lem] 26))) := HB5.out.trans (hb56.mono HB5.out.size)
  have hz : (w5.alloc (.cells #[.string s, .slice (some ⟨G, 0, none⟩) n1 len] 26)).heap.size = w5.heap.size + 1 := by simp
  have e0 : ((w5.alloc (.cells #[.string s, .slice (some ⟨G, 0, none⟩) n1 len] 26)).alloc (.cells #[.string s, .slice (some ⟨G2, 0, none⟩) n2 lem] 26)).cell? ⟨w5.heap.size, 0, none⟩ = some (.string s) := (World.cell?_alloc_lt _ _ ⟨w5.heap.size, 0, none⟩ (by rw [hz]; exact Nat.lt_succ_self _)).trans (World.cell?_alloc_new w5 _ _ 0)
  have e1 : ((w5.alloc (.cells #[.string s, .slice (some ⟨G, 0, none⟩) n1 len] 26)).alloc (.cells #[.string s, .slice (some ⟨G2, 0, none⟩) n2 lem] 26)).cell? ⟨w5.heap.size, 1, none⟩ = some (.slice (some ⟨G, 0, none⟩) n1 len) := (World.cell?_alloc_lt _ _ ⟨w5.heap.size, 1, none⟩ (by rw [hz]; exact Nat.lt_succ_self _)).trans (World.cell?_alloc_new w5 _ _ 1)
  have f0 : ((w5.alloc (.cells #[.string s, .slice (some ⟨G, 0, none⟩) n1 len] 26)).alloc (.cells #[.string s, .slice (some ⟨G2, 0, none⟩) n2 lem] 26)).cell? ⟨w5.heap.size + 1, 0, none⟩ = some (.string s) := by rw [← hz]; exact World.cell?_alloc_new _ _ _ 0
  have f1 : ((w5.alloc (.cells #[.string s, .slice (some ⟨G, 0, none⟩) n1 len] 26)).alloc (.cells #[.string s, .slice (some ⟨G2, 0, none⟩) n2 lem] 26)).cell? ⟨w5.heap.size + 1, 1, none⟩ = some (.slice (some ⟨G2, 0, none⟩) n2 lem) := by rw [← hz]; exact World.cell?_alloc_new _ _ _ 1
  have hz6 : w5.heap.size + 1 < ((w5.alloc (.cells #[.string s, .slice (some ⟨G, 0, none⟩) n1 len] 26)).alloc (.cells #[.string s, .slice (some ⟨G2, 0, none⟩) n2 lem] 26)).heap.size := by simp
  have HSL : Aside (∀ W, Below ((w5.alloc (.cells #[.string s, .slice (some ⟨G, 0, none⟩) n1 len] 26)).alloc (.cells #[.string s, .slice (some ⟨G2, 0, none⟩) n2 lem] 26)).heap.size ((w5.alloc (.cells #[.string s, .slice (some ⟨G, 0, none⟩) n1 len] 26)).alloc (.cells #[.string s, .slice (some ⟨G2, 0, none⟩) n2 lem] 26)) W → (G < W.heap.size ∧ RowAt W G 0 r1) ∧ (G2 < W.heap.size ∧ RowAt W G2 0 r2)) := fun W hW => by
    have hbW : Below w5.heap.size w5 W := hb56.trans (hW.mono hb56.size)
    exact ⟨⟨Nat.lt_of_lt_of_le hG5 hbW.size, RowAt.below hbW hG5 HRow1.out⟩, ⟨Nat.lt_of_lt_of_le hG4 hbW.size, RowAt.below hbW hG4 HRow2.out⟩⟩
  clear hb56 hz HRow1 HRow2 hG4 hG5 HB5
  generalize ((w5.alloc (.cells #[.string s, .slice (some ⟨G, 0, none⟩) n1 len] 26)).alloc (.cells #[.string s, .slice (some ⟨G2, 0, none⟩) n2 lem] 26)) = w6 at *
  generalize w5.heap.size = E at *
  have hR := right_c s (some ⟨G, 0, none⟩) len r1 w6 (Or.inr ⟨G, 0, rfl, (HSL.out w6 (Below.refl _ _)).1.1, (HSL.out w6 (Below.refl _ _)).1.2⟩)
  rw [← HN1.out] at hR
  refine hR.mono ?_
  rintro e w7 ⟨rfl, hb7⟩
  have HB7 : Aside (Below w.heap.size w w7) := HB6.out.trans (hb7.mono HB6.out.size)
  have H67 : Aside (Below w6.heap.size w6 w7) := hb7
  have e0 := (hb7.cell (p := ⟨E, 0, none⟩) (by show E < _; omega)).trans e0
  have e1 := (hb7.cell (p := ⟨E, 1, none⟩) (by show E < _; omega)).trans e1
  have f0 := (hb7.cell (p := ⟨E + 1, 0, none⟩) hz6).trans f0
  have f1 := (hb7.cell (p := ⟨E + 1, 1, none⟩) hz6).trans f1
  have hz7 : E + 1 < w7.heap.size := Nat.lt_of_lt_of_le hz6 hb7.size
  clear hR hb7
  cases hr1 : rightE r1
  · go_wp2_with fail
    go_ret
    exact ⟨rfl, HB7.out⟩
  go_wp2_with fail
  have hR2 := right_c s (some ⟨G2, 0, none⟩) lem r2 w7 (Or.inr ⟨G2, 0, rfl, (HSL.out w7 H67.out).2.1, (HSL.out w7 H67.out).2.2⟩)
  rw [← HN2.out] at hR2
  refine hR2.mono ?_
  rintro e w8 ⟨rfl, hb8⟩
  have HB8 : Aside (Below w.heap.size w w8) := HB7.out.trans (hb8.mono HB7.out.size)
  have H68 : Aside (Below w6.heap.size w6 w8) := H67.out.trans (hb8.mono H67.out.size)
  have e0 := (hb8.cell (p := ⟨E, 0, none⟩) (by show E < _; omega)).trans e0
  have e1 := (hb8.cell (p := ⟨E, 1, none⟩) (by show E < _; omega)).trans e1
  have f0 := (hb8.cell (p := ⟨E + 1, 0, none⟩) hz7).trans f0
  have f1 := (hb8.cell (p := ⟨E + 1, 1, none⟩) hz7).trans f1
  have hz8 : E + 1 < w8.heap.size := Nat.lt_of_lt_of_le hz7 hb8.size
  clear hR2 hb8 HB7 H67
  cases hr2 : rightE r2
  · go_wp2_with fail
    go_ret
    exact ⟨rfl, HB8.out⟩
  have g1 := HGd.out hr1
  have g2 := HGd2.out hr2
  have hap := apart_eq s r1 r2 HS255.out g1 g2 hr1 hr2
  have HE1 : Aside (∀ W, Below w8.heap.size w8 W → Calls Try.prog 15 #[.agg #[.string s, .slice (some ⟨G, 0, none⟩) n1 len]] W fun e w' => ∃ ao' cap', e = .returned (.slice ao' (encE s r1).length cap') ∧ Aside (w'.ownsRow W.heap.size 5 1 (.slice ao' (encE s r1).length cap') (encE s r1).length ((encE s r1).map encB) ∧ Below W.heap.size W w')) := fun W hW => by
    have hq := HSL.out W (H68.out.trans (hW.mono H68.out.size))
    have := codecEvent_c s (some ⟨G, 0, none⟩) len r1 W (Or.inr ⟨G, 0, rfl, hq.1.1, hq.1.2⟩) g1.tell HS255.out g1.len
    rw [← HN1.out] at this; exact this
  have HE2 : Aside (∀ W, Below w8.heap.size w8 W → Calls Try.prog 15 #[.agg #[.string s, .slice (some ⟨G2, 0, none⟩) n2 lem]] W fun e w' => ∃ ao' cap', e = .returned (.slice ao' (encE s r2).length cap') ∧ Aside (w'.ownsRow W.heap.size 5 1 (.slice ao' (encE s r2).length cap') (encE s r2).length ((encE s r2).map encB) ∧ Below W.heap.size W w')) := fun W hW => by
    have hq := HSL.out W (H68.out.trans (hW.mono H68.out.size))
    have := codecEvent_c s (some ⟨G2, 0, none⟩) lem r2 W (Or.inr ⟨G2, 0, rfl, hq.2.1, hq.2.2⟩) g2.tell HS255.out g2.len
    rw [← HN2.out] at this; exact this
  have HSM : Aside (∀ W, Below w8.heap.size w8 W → Calls Try.prog 17 #[.agg #[.string s, .slice (some ⟨G, 0, none⟩) n1 len], .agg #[.string s, .slice (some ⟨G2, 0, none⟩) n2 lem]] W fun e w' => e = .returned (.bool (sameL r1 r2)) ∧ Below W.heap.size W w') := fun W hW => by
    have hq := HSL.out W (H68.out.trans (hW.mono H68.out.size))
    have := sameE_c s s (some ⟨G, 0, none⟩) (some ⟨G2, 0, none⟩) len lem r1 r2 W (Or.inr ⟨G, 0, rfl, hq.1.1, hq.1.2⟩) (Or.inr ⟨G2, 0, rfl, hq.2.1, hq.2.2⟩) (fun a ha => (g1.can a ha).1.x) (fun a ha => (g2.can a ha).1.x) (by have := g1.len; omega) (by have := g2.len; omega)
    rw [show (s.toList == s.toList) = true by simp, Bool.true_and, ← HN1.out, ← HN2.out] at this
    exact this
  clear g1 g2 HGd HGd2 hr1 hr2
  generalize sameL r1 r2 = sm at *
  generalize encE s r1 = x1 at *
  generalize encE s r2 = x2 at *
  obtain ⟨t1, ht1⟩ : ∃ t1, t1 = bstr x1 := ⟨_, rfl⟩
  obtain ⟨t2, ht2⟩ : ∃ t2, t2 = bstr x2 := ⟨_, rfl⟩
  rw [← ht1, ← ht2] at hap
  have HT1 : Aside (t1 = bstr x1) := ht1
  have HT2 : Aside (t2 = bstr x2) := ht2
  obtain ⟨L1, hL1⟩ : ∃ L, L = x1.length := ⟨_, rfl⟩
  obtain ⟨L2, hL2⟩ : ∃ L, L = x2.length := ⟨_, rfl⟩
  have HL1 : Aside (L1 = x1.length) := hL1
  have HL2 : Aside (L2 = x2.length) := hL2
  rw [← hL1] at HE1
  rw [← hL2] at HE2
  clear ht1 ht2 hL1 hL2
  have hrefl : ∀ b : Bool, (b == b) = true := by decide
  have hkeep : ∀ W, Below w8.heap.size w8 W → (W.cell? ⟨E, 0, none⟩ = some (.string s) ∧ W.cell? ⟨E, 1, none⟩ = some (.slice (some ⟨G, 0, none⟩) n1 len) ∧ W.cell? ⟨E + 1, 0, none⟩ = some (.string s) ∧ W.cell? ⟨E + 1, 1, none⟩ = some (.slice (some ⟨G2, 0, none⟩) n2 lem)) := fun W hW =>
    ⟨(hW.cell (p := ⟨E, 0, none⟩) (by show E < _; omega)).trans e0, (hW.cell (p := ⟨E, 1, none⟩) (by show E < _; omega)).trans e1, (hW.cell (p := ⟨E + 1, 0, none⟩) hz8).trans f0, (hW.cell (p := ⟨E + 1, 1, none⟩) hz8).trans f1⟩
  have HKP := Lib.hid hkeep
  have hcv1 : ∀ (W W' : World) (ao : Option Addr) (cap : Nat), W'.ownsRow W.heap.size 5 1 (.slice ao L1 cap) L1 (x1.map encB) → ∀ W'', Below W'.heap.size W' W'' → (convert 29 9 (.slice ao L1 cap)).run Try.prog W'' = .ok (.string t1) W'' := fun W W' ao cap h W'' hb => by
    rw [HL1.out] at h ⊢; rw [HT1.out]
    exact ((own1_bytes h).1.under hb).string cap
  have hcv2 : ∀ (W W' : World) (ao : Option Addr) (cap : Nat), W'.ownsRow W.heap.size 5 1 (.slice ao L2 cap) L2 (x2.map encB) → ∀ W'', Below W'.heap.size W' W'' → (convert 29 9 (.slice ao L2 cap)).run Try.prog W'' = .ok (.string t2) W'' := fun W W' ao cap h W'' hb => by
    rw [HL2.out] at h ⊢; rw [HT2.out]
    exact ((own1_bytes h).1.under hb).string cap
  have HCV1 := Lib.hid hcv1
  have HCV2 := Lib.hid hcv2
  have hap2 : ((t1.toList == t2.toList) == sm) = true := by rw [hap]; exact hrefl sm
  have HD8 : Aside (Below w8.heap.size w8 w8.drew) := (Below.refl _ _).drew
  clear hkeep hcv1 hcv2 hrefl e0 e1 f0 f1 hz6 hz7 H68 HSL
  go_wp2_with fail
  first
  | go_region_held (fun w' => Below w8.heap.size w8 w' ∧ w'.cell? ⟨E, 0, none⟩ = some (.string s) ∧ w'.cell? ⟨E, 1, none⟩ = some (.slice (some ⟨G, 0, none⟩) n1 len) ∧ w'.cell? ⟨E + 1, 0, none⟩ = some (.string s) ∧ w'.cell? ⟨E + 1, 1, none⟩ = some (.slice (some ⟨G2, 0, none⟩) n2 lem))
    (first | exact ⟨HBZ.out, HKP.out _ HBZ.out⟩ | exact ⟨HBY.out, HKP.out _ HBY.out⟩ | exact ⟨HBX.out, HKP.out _ HBX.out⟩ | exact ⟨HD8.out, HKP.out _ HD8.out⟩)
    (first
      | (go_at_call_of 17 n2; refine (HSM.out _ HBY.out).mono ?_; rintro e w11 ⟨rfl, hb⟩; have HBZ : Aside (Below w8.heap.size w8 w11) := HBY.out.trans (hb.mono HBY.out.size); have hx11 := HCV1.out _ _ _ _ HX.out.1 w11 (HXY.out.trans (hb.mono HXY.out.size)); have hy11 := HCV2.out _ _ _ _ HY.out.1 w11 hb; clear hb)
      | (go_at_call_of 15 lem; refine (HE2.out _ HBX.out).mono ?_; rintro e w10 ⟨aoY, capY, rfl, HY⟩; have HBY : Aside (Below w8.heap.size w8 w10) := HBX.out.trans (HY.out.2.mono HBX.out.size); have HXY := Lib.hid HY.out.2; have hx10 := HCV1.out _ _ _ _ HX.out.1 w10 HY.out.2; have hy10 := HCV2.out _ _ _ _ HY.out.1 w10 (Below.refl _ _))
      | (go_at_call_of 15 len; refine (HE1.out _ HD8.out).mono ?_; rintro e w9 ⟨aoX, capX, rfl, HX⟩; have HBX : Aside (Below w8.heap.size w8 w9) := HD8.out.trans (HX.out.2.mono HD8.out.size); have hx9 := HCV1.out _ _ _ _ HX.out.1 w9 (Below.refl _ _)))
  | fail "the region"
  all_goals (go_wp2_with fail; go_ret; exact ⟨rfl, HB8.out.trans (HBZ.out.mono HB8.out.size)⟩)
end Go.Proofs.Ytnpbnjddlchmcaa
