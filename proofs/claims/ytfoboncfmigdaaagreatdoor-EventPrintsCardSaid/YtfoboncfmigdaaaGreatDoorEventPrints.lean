/- EventPrints: events that are unlike have unlike texts; those that are the same have one. -/
import Derived.Test.YtfoboncfmigdaaaGreatDoorEvTx
import Derived.Test.YtfoboncfmigdaaaGreatDoorFitE
import Derived.Test.YtfoboncfmigdaaaGreatDoorBwV
import Derived.Test.YtfoboncfmigdaaaGreatDoorOpenZ
namespace Go.Proofs.YtfoboncfmigdaaaGreatDoor
open Go.RowKit Go.Shelf Go.Sort
open Go.Proofs
set_option maxRecDepth 100000

theorem two_layE {w w' : World} {cs ds : Array Value} {t u : TypeId} (hb : Below (w.heap.size + 2) ((w.alloc (.cells cs t)).alloc (.cells ds u)) w') :
    (∀ i v, cs[i]? = some v → w'.cell? ⟨w.heap.size, i, none⟩ = some v) ∧ (∀ i v, ds[i]? = some v → w'.cell? ⟨w.heap.size + 1, i, none⟩ = some v) := by
  refine ⟨fun i v h => ?_, fun i v h => ?_⟩
  · rw [hb.cell (p := ⟨w.heap.size, i, none⟩) (by simp), World.cell?_alloc_lt _ _ _ (by simp), World.cell?_alloc_new]; exact h
  · rw [hb.cell (p := ⟨w.heap.size + 1, i, none⟩) (by simp)]
    have := World.cell?_alloc_new (w.alloc (.cells cs t)) ds u i
    rw [World.size_alloc] at this
    rw [this]; exact h
theorem light_lenE {l : List At} (h : lightB l = true) : l.length ≤ 30 := by
  simp only [lightB, Bool.and_eq_true, decide_eq_true_eq] at h
  exact h.2
/-- What New leaves. -/
def NewE (W W' : World) (G : Nat) (l res : List At) : Prop := SliceA W' (some ⟨G, 0, none⟩) res ∧ NewOf l res ∧ Below W.heap.size W W'
/-- The law's calls behind the test that both events are right. -/
structure PrintsK (w6 : World) (s : ByteArray) (G1 c1 n1 G2 c2 n2 : Nat) (res1 : List At) (T U : ByteArray) (q : Bool) : Prop where
  p1 : ∀ W, Below w6.heap.size w6 W → Calls Tryz.prog 9 #[.agg #[.string s, .slice (some ⟨G1, 0, none⟩) n1 c1]] W fun e w' => e = .returned (.string T) ∧ Below W.heap.size W w'
  p2 : ∀ W, Below w6.heap.size w6 W → Calls Tryz.prog 9 #[.agg #[.string s, .slice (some ⟨G2, 0, none⟩) n2 c2]] W fun e w' => e = .returned (.string U) ∧ Below W.heap.size W w'
  same : ∀ W, Below w6.heap.size w6 W → Calls Tryz.prog 10 #[.agg #[.string s, .slice (some ⟨G1, 0, none⟩) n1 c1], .agg #[.string s, .slice (some ⟨G2, 0, none⟩) n2 c2]] W fun e w' => e = .returned (.bool q) ∧ Below W.heap.size W w'
  pv : ∀ a ∈ res1, ∀ W, Below w6.heap.size w6 W → Calls Tryz.prog 8 #[val a.k a.n a.x a.s a.y] W fun e w' => e = .returned (.string (printT a.k a.n a.x a.s a.y)) ∧ Below W.heap.size W w'
  sz : ∀ a ∈ res1, (TA a).size ≤ 1000
  tx : T = textE s res1
  eq : (T.toList == U.toList) = q
theorem printsK (w w6 : World) (s : ByteArray) (G1 c1 G2 c2 : Nat) (res1 res2 : List At) (hT : Tabs w) (hb : Below w.heap.size w w6) (hs : s.size ≤ 100) (h1 : SliceA w6 (some ⟨G1, 0, none⟩) res1) (h2 : SliceA w6 (some ⟨G2, 0, none⟩) res2) (l1 : res1.length ≤ 30) (l2 : res2.length ≤ 30) (k1 : ∀ a ∈ res1, EOk a) (k2 : ∀ a ∈ res2, EOk a) :
    PrintsK w6 s G1 c1 res1.length G2 c2 res2.length res1 (textE s res1) (textE s res2) (s.toList == s.toList && sameL res1 res2) := by
  have hg : 13 < w.heap.size := World.block_lt_of_cell? w ⟨13, _, none⟩ (hT.pow 0 (by decide)).1
  have hpv : ∀ (a : At), EOk a → ∀ W, Below w.heap.size w W → Calls Tryz.prog 8 #[val a.k a.n a.x a.s a.y] W fun e w' => e = .returned (.string (printT a.k a.n a.x a.s a.y)) ∧ Below W.heap.size W w' := fun a ka W hW =>
    print_c a.k a.n a.x a.s a.y ka.x ka.n.1 ka.n.2 (by have := ka.sz; omega) W (hT.on hW) (Nat.lt_of_lt_of_le hg hW.size)
  have hup : ∀ W, Below w6.heap.size w6 W → Below w.heap.size w W := fun W hW => hb.trans (hW.mono hb.size)
  exact {
    p1 := fun W hW => eprint_c s (some ⟨G1, 0, none⟩) c1 res1 W (h1.under hW) (by omega) (by omega) (fun a ha => Nat.le_trans (TA_size (k1 a ha)) (by decide)) fun a ha W' hW' => hpv a (k1 a ha) W' ((hup W hW).trans (hW'.mono (hup W hW).size))
    p2 := fun W hW => eprint_c s (some ⟨G2, 0, none⟩) c2 res2 W (h2.under hW) (by omega) (by omega) (fun a ha => Nat.le_trans (TA_size (k2 a ha)) (by decide)) fun a ha W' hW' => hpv a (k2 a ha) W' ((hup W hW).trans (hW'.mono (hup W hW).size))
    same := fun W hW => sameE_c s s (some ⟨G1, 0, none⟩) (some ⟨G2, 0, none⟩) c1 c2 res1 res2 W (h1.under hW) (h2.under hW) (fun a ha => (k1 a ha).x) (fun a ha => (k2 a ha).x) (by omega) (by omega)
    pv := fun a ha W hW => hpv a (k1 a ha) W (hup W hW)
    sz := fun a ha => TA_size (k1 a ha)
    tx := rfl
    eq := texts_same s k1 k2 }

attribute [local irreducible] wpQuiet
set_option maxHeartbeats 8000000 in
theorem eventPrints_c (ao : Option Addr) (cap : Nat) (l : List At) (bo : Option Addr) (cap2 : Nat) (m : List At) (s : ByteArray) (w : World) (hT : Tabs w) (hl : SliceA w ao l) (hal : ∀ a ∈ l, AtAll a) (hln : l.length ≤ 9223372036854775807) (hm : SliceA w bo m) (ham : ∀ a ∈ m, AtAll a) (hmn : m.length ≤ 9223372036854775807) :
    Calls Tryz.prog 3 #[.slice ao l.length cap, .slice bo m.length cap2, .string s] w fun e w' => e = .returned (.bool true) ∧ Below w.heap.size w w' := by
  have HL1 : Aside (∀ W, Below w.heap.size w W → Calls Tryz.prog 5 #[.slice ao l.length cap] W fun e w' => e = .returned (.bool (lightB l)) ∧ Below W.heap.size W w') := fun W hW => light_c ao cap l W (hl.under hW) hln
  have HL2 : Aside (∀ W, Below w.heap.size w W → Calls Tryz.prog 5 #[.slice bo m.length cap2] W fun e w' => e = .returned (.bool (lightB m)) ∧ Below W.heap.size W w') := fun W hW => light_c bo cap2 m W (hm.under hW) hmn
  have hnew : ∀ (o : Option Addr) (c : Nat) (z : List At), SliceA w o z → lightB z = true → ∀ W, Below w.heap.size w W → Calls Tryz.prog 6 #[.string s, .slice o z.length c] W fun e w' => ∃ (G : Nat) (res : List At), e = .returned (.agg #[.string s, .slice (some ⟨G, 0, none⟩) res.length z.length]) ∧ Aside (NewE W w' G z res) := fun o c z hz h W hW => by
    refine (new_c s o c z (by have := light_lenE h; omega) W (hz.under hW)).mono ?_
    rintro e w' ⟨G, res, rfl, H⟩
    obtain ⟨a1, a2, a3, a4, a5⟩ := H.out
    exact ⟨G, res, rfl, (⟨Or.inr ⟨G, 0, rfl, a2, a3⟩, a4, a5⟩ : NewE _ _ _ _ _)⟩
  have HN1 : Aside (lightB l = true → ∀ W, Below w.heap.size w W → Calls Tryz.prog 6 #[.string s, .slice ao l.length cap] W fun e w' => ∃ (G : Nat) (res : List At), e = .returned (.agg #[.string s, .slice (some ⟨G, 0, none⟩) res.length l.length]) ∧ Aside (NewE W w' G l res)) := hnew ao cap l hl
  have HN2 : Aside (lightB m = true → ∀ W, Below w.heap.size w W → Calls Tryz.prog 6 #[.string s, .slice bo m.length cap2] W fun e w' => ∃ (G : Nat) (res : List At), e = .returned (.agg #[.string s, .slice (some ⟨G, 0, none⟩) res.length m.length]) ∧ Aside (NewE W w' G m res)) := hnew bo cap2 m hm
  have HE1 : Aside (∀ res, NewOf l res → rightE res = true → ∀ a ∈ res, EOk a) := fun res h hr => right_ok h (fun a ha => ⟨(hal a ha).1.1, (hal a ha).1.2⟩) hr
  have HE2 : Aside (∀ res, NewOf m res → rightE res = true → ∀ a ∈ res, EOk a) := fun res h hr => right_ok h (fun a ha => ⟨(ham a ha).1.1, (ham a ha).1.2⟩) hr
  have HLN : Aside (lightB l = true → l.length ≤ 30) := light_lenE
  have HMN : Aside (lightB m = true → m.length ≤ 30) := light_lenE
  have HT := Lib.hid hT
  clear hl hal hm ham hnew hT hln hmn
  generalize lightB l = b1 at *
  generalize lightB m = b2 at *
  obtain ⟨n1, hn1⟩ : ∃ n, n = l.length := ⟨_, rfl⟩
  obtain ⟨n2, hn2⟩ : ∃ n, n = m.length := ⟨_, rfl⟩
  rw [← hn1] at HL1 HN1 HLN ⊢
  rw [← hn2] at HL2 HN2 HMN ⊢
  have HQ1 : Aside (n1 = l.length) := hn1
  have HQ2 : Aside (n2 = m.length) := hn2
  clear hn1 hn2
  go_enter Tryz.func3, Tryz.ntmps3
  go_wp2_with fail
  refine (fit_c w).mono ?_
  rintro e w1 ⟨rfl, hb⟩
  have HA1 : Aside (Below w.heap.size w w1) := hb
  clear hb
  go_wp2_with fail
  refine (HL1.out _ HA1.out).mono ?_
  rintro e w2 ⟨rfl, hb⟩
  have HA2 : Aside (Below w.heap.size w w2) := HA1.out.trans (hb.mono HA1.out.size)
  clear hb HA1 HL1
  cases b1
  · go_wp2_with fail
    go_ret
    exact ⟨rfl, HA2.out⟩
  replace HN1 := Lib.hid (HN1.out (by first | trivial | rfl))
  replace HLN := Lib.hid (HLN.out (by first | trivial | rfl))
  go_wp2_with fail
  refine (HL2.out _ HA2.out).mono ?_
  rintro e w3 ⟨rfl, hb⟩
  have HA3 : Aside (Below w.heap.size w w3) := HA2.out.trans (hb.mono HA2.out.size)
  clear hb HA2 HL2
  cases b2
  · go_wp2_with fail
    go_ret
    exact ⟨rfl, HA3.out⟩
  replace HN2 := Lib.hid (HN2.out (by first | trivial | rfl))
  replace HMN := Lib.hid (HMN.out (by first | trivial | rfl))
  by_cases h100 : (100 : Int) < (s.size : Int)
  · go_wp2_with fail
    go_ret
    exact ⟨rfl, HA3.out⟩
  have F100 : ((100 : Int) < (s.size : Int)) = False := eq_false h100
  have HS : Aside (s.size ≤ 100) := by show _ ≤ _; omega
  clear h100
  go_wp2_with fail
  refine (HN1.out _ HA3.out).mono ?_
  rintro e w4 ⟨G1, res1, rfl, X1⟩
  have HA4 : Aside (Below w.heap.size w w4) := HA3.out.trans (X1.out.2.2.mono HA3.out.size)
  go_wp2_with fail
  refine (HN2.out _ HA4.out).mono ?_
  rintro e w5 ⟨G2, res2, rfl, X2⟩
  have HA5 : Aside (Below w.heap.size w w5) := HA4.out.trans (X2.out.2.2.mono HA4.out.size)
  have HS1 : Aside (SliceA w5 (some ⟨G1, 0, none⟩) res1) := X1.out.1.under X2.out.2.2
  have HS2 : Aside (SliceA w5 (some ⟨G2, 0, none⟩) res2) := X2.out.1
  have HO1 := Lib.hid (HE1.out _ X1.out.2.1)
  have HO2 := Lib.hid (HE2.out _ X2.out.2.1)
  have HR1 : Aside (res1.length ≤ 30) := by
    have a := X1.out.2.1.len; have b := HQ1.out; have c := HLN.out
    show _ ≤ _; omega
  have HR2 : Aside (res2.length ≤ 30) := by
    have a := X2.out.2.1.len; have b := HQ2.out; have c := HMN.out
    show _ ≤ _; omega
  clear X1 X2 HE1 HE2 HN1 HN2 HA3 HA4 HQ1 HQ2 HLN HMN F100
  have HB6 : Aside (Below w5.heap.size w5 ((w5.alloc (.cells #[.string s, .slice (some ⟨G1, 0, none⟩) res1.length n1] 26)).alloc (.cells #[.string s, .slice (some ⟨G2, 0, none⟩) res2.length n2] 26))) := ((Below.refl _ _).alloc (Nat.le_refl _) _).alloc (by simp) _
  have HK6 : Aside (∀ W, Below (w5.heap.size + 2) ((w5.alloc (.cells #[.string s, .slice (some ⟨G1, 0, none⟩) res1.length n1] 26)).alloc (.cells #[.string s, .slice (some ⟨G2, 0, none⟩) res2.length n2] 26)) W → (W.cell? ⟨w5.heap.size, 0, none⟩ = some (.string s) ∧ W.cell? ⟨w5.heap.size, 1, none⟩ = some (.slice (some ⟨G1, 0, none⟩) res1.length n1)) ∧ W.cell? ⟨w5.heap.size + 1, 0, none⟩ = some (.string s) ∧ W.cell? ⟨w5.heap.size + 1, 1, none⟩ = some (.slice (some ⟨G2, 0, none⟩) res2.length n2)) := fun W hW => by
    obtain ⟨va, vb⟩ := two_layE hW
    exact ⟨⟨va 0 _ rfl, va 1 _ rfl⟩, vb 0 _ rfl, vb 1 _ rfl⟩
  have z6 : ((w5.alloc (.cells #[.string s, .slice (some ⟨G1, 0, none⟩) res1.length n1] 26)).alloc (.cells #[.string s, .slice (some ⟨G2, 0, none⟩) res2.length n2] 26)).heap.size = w5.heap.size + 2 := by simp
  go_upto_region 6 with fail
  generalize ((w5.alloc (.cells #[.string s, .slice (some ⟨G1, 0, none⟩) res1.length n1] 26)).alloc (.cells #[.string s, .slice (some ⟨G2, 0, none⟩) res2.length n2] 26)) = w6 at *
  obtain ⟨r1, hr1⟩ : ∃ r, r = res1.length := ⟨_, rfl⟩
  obtain ⟨r2, hr2⟩ : ∃ r, r = res2.length := ⟨_, rfl⟩
  rw [← hr1] at HR1 HK6 ⊢
  rw [← hr2] at HR2 HK6 ⊢
  have HX : Aside (∀ W, Below w6.heap.size w6 W → (W.cell? ⟨w5.heap.size, 0, none⟩ = some (.string s) ∧ W.cell? ⟨w5.heap.size, 1, none⟩ = some (.slice (some ⟨G1, 0, none⟩) r1 n1)) ∧ W.cell? ⟨w5.heap.size + 1, 0, none⟩ = some (.string s) ∧ W.cell? ⟨w5.heap.size + 1, 1, none⟩ = some (.slice (some ⟨G2, 0, none⟩) r2 n2)) := fun W hW => HK6.out W (by rw [← z6]; exact hW)
  have HA6 : Aside (Below w.heap.size w w6) := HA5.out.trans (HB6.out.mono HA5.out.size)
  have HY : Aside (∀ W, Below w6.heap.size w6 W → Below w.heap.size w W) := fun W hW => HA6.out.trans (hW.mono HA6.out.size)
  have HS61 : Aside (SliceA w6 (some ⟨G1, 0, none⟩) res1) := HS1.out.under HB6.out
  have HS62 : Aside (SliceA w6 (some ⟨G2, 0, none⟩) res2) := HS2.out.under HB6.out
  have HRT1 : Aside (∀ W, Below w6.heap.size w6 W → Calls Tryz.prog 7 #[.agg #[.string s, .slice (some ⟨G1, 0, none⟩) r1 n1]] W fun e w' => e = .returned (.bool (rightE res1)) ∧ Below W.heap.size W w') := fun W hW => by
    rw [hr1]; exact right_c s (some ⟨G1, 0, none⟩) n1 res1 W (HS61.out.under hW)
  have HRT2 : Aside (∀ W, Below w6.heap.size w6 W → Calls Tryz.prog 7 #[.agg #[.string s, .slice (some ⟨G2, 0, none⟩) r2 n2]] W fun e w' => e = .returned (.bool (rightE res2)) ∧ Below W.heap.size W w') := fun W hW => by
    rw [hr2]; exact right_c s (some ⟨G2, 0, none⟩) n2 res2 W (HS62.out.under hW)
  have HPK : Aside (rightE res1 = true → rightE res2 = true → ∃ T U q, PrintsK w6 s G1 n1 r1 G2 n2 r2 res1 T U q) := fun e1 e2 => by
    have h := printsK w w6 s G1 n1 G2 n2 res1 res2 HT.out HA6.out HS.out HS61.out HS62.out (by rw [← hr1]; exact HR1.out) (by rw [← hr2]; exact HR2.out) (HO1.out e1) (HO2.out e2)
    rw [← hr1, ← hr2] at h
    exact ⟨_, _, _, h⟩
  have HROW : Aside (∀ j, j < r1 → ∀ W, Below w6.heap.size w6 W → ∀ c v, (encA res1[j]!)[c]? = some v → W.cell? ⟨G1, j * 6 + c, none⟩ = some v) := fun j hj W hW c v hv => by
    rcases HS61.out.under hW with h | ⟨b, off, h1, h2, h3⟩
    · rw [hr1, h] at hj; simp at hj
    · injection h1 with h1
      injection h1 with e1 e2
      subst e1; subst e2
      have := h3 j (by rw [← hr1]; exact hj) c v hv
      rwa [Nat.zero_add] at this
  have HRE : Aside (r1 = res1.length) := hr1
  have h30 := HR1.out
  generalize hEE : w5.heap.size = E at *
  generalize rightE res1 = q1 at *
  generalize rightE res2 = q2 at *
  clear HK6 HB6 HA5 HS1 HS2 HS61 HS62 HO1 HO2 HR1 HR2 hr1 hr2 z6 hEE HT HA6
  obtain ⟨⟨x0, x1⟩, y0, y1⟩ := HX.out _ (Below.refl _ _)
  go_wp2_with fail
  clear x0 x1 y0 y1
  refine (HRT1.out _ (Below.refl _ _)).mono ?_
  rintro e w7 ⟨rfl, hb7⟩
  have HD7 := Lib.hid hb7
  clear hb7 HRT1
  cases q1
  · go_wp2_with fail
    go_ret
    exact ⟨rfl, HY.out _ HD7.out⟩
  obtain ⟨⟨x0, x1⟩, y0, y1⟩ := HX.out _ HD7.out
  go_wp2_with fail
  clear x0 x1 y0 y1
  refine (HRT2.out _ HD7.out).mono ?_
  rintro e w8 ⟨rfl, hb⟩
  have HD8 := Lib.hid (HD7.out.trans (hb.mono HD7.out.size))
  clear hb HRT2 HD7
  cases q2
  · go_wp2_with fail
    go_ret
    exact ⟨rfl, HY.out _ HD8.out⟩
  obtain ⟨T, U, q, hK⟩ := HPK.out (by first | trivial | rfl) (by first | trivial | rfl)
  have HK := Lib.hid hK
  have heq := hK.eq
  clear hK HPK
  have HLT : Aside (∀ j, j ≤ r1 → (accE s res1 j).length ≤ 3002 + j * 100000) := fun j hj => accE_len (fun a ha => Nat.le_trans (HK.out.sz a ha) (by decide)) (by have := HS.out; omega) j (by rw [← HRE.out]; exact hj)
  have HST : Aside (∀ j, (⟨(accE s res1 (j + 1)).toArray⟩ : ByteArray) = ⟨(accE s res1 j).toArray⟩ ++ TA res1[j]!) := fun j => by
    apply ByteArray.ext
    simp [accE]
  have HS0 : Aside ((⟨(accE s res1 0).toArray⟩ : ByteArray) = ⟨#[91]⟩ ++ s ++ ⟨#[93]⟩) := by
    show _ = _
    apply ByteArray.ext
    simp [accE]
  have HSZ : Aside (∀ j, j ≤ r1 → (⟨(accE s res1 j).toArray⟩ : ByteArray).size ≤ 3002 + j * 100000) := fun j hj => by
    have := HLT.out j hj
    simpa [ByteArray.size] using this
  have HTX : Aside (T = ⟨(accE s res1 r1).toArray⟩) := by
    show _ = _
    rw [HK.out.tx, HRE.out]; rfl
  obtain ⟨EA, hEA⟩ : ∃ EA : Nat → ByteArray, ∀ j, EA j = ⟨(accE s res1 j).toArray⟩ := ⟨_, fun _ => rfl⟩
  simp only [← hEA] at HST HS0 HSZ HTX
  have u1 : ¬ 9223372036854775807 < 1 + s.size := by have := HS.out; omega
  have u2 : ¬ 9223372036854775807 < 1 + s.size + 1 := by have := HS.out; omega
  clear hEA HLT
  obtain ⟨⟨x0, x1⟩, y0, y1⟩ := HX.out _ HD8.out
  go_wp2_with fail
  rw [← HS0.out]
  clear x0 x1 y0 y1 u1 u2
  go_loopg [9, 47] r1 (fun kx s9 s47 wr => ∃ j : Nat, s9 = .string (EA j) ∧ s47 = .int .i64 j ∧ j ≤ r1 ∧ r1 - j ≤ kx ∧ Aside (Below w6.heap.size w6 wr))
  case atStart => exact ⟨0, rfl, rfl, Nat.zero_le _, by omega, HD8.out⟩
  case round =>
    clear HD8 HS0
    obtain ⟨j, rfl, rfl, hj, hjx, HA⟩ := hrel
    by_cases hlt : j < r1
    · have c_ := fun c v h => HROW.out j hlt wr HA.out c v h
      have hjl : j < res1.length := by rw [← HRE.out]; exact hlt
      have HPj := Lib.hid (HK.out.pv _ (memA res1 j hjl))
      have HTz := Lib.hid (HK.out.sz _ (memA res1 j hjl))
      have HSj := Lib.hid (HST.out j)
      have HZj := Lib.hid (HSZ.out j hj)
      generalize res1[j]! = c at c_ HPj HTz HSj
      obtain ⟨nm, k, n', x, sx, y⟩ := c
      have HTA : Aside (TA ⟨nm, k, n', x, sx, y⟩ = ⟨#[32]⟩ ++ nm ++ ⟨#[61]⟩ ++ printT k n' x sx y) := rfl
      simp only at HPj
      generalize printT k n' x sx y = tx at HPj HTA
      have c0 := c_ 0 _ rfl; have c1 := c_ 1 _ rfl; have c2 := c_ 2 _ rfl; have c3 := c_ 3 _ rfl; have c4 := c_ 4 _ rfl; have c5 := c_ 5 _ rfl
      simp only [Nat.add_zero] at c0
      have HTn : Aside (1 + nm.size + 1 + tx.size ≤ 1000) := by
        have := HTz.out
        rw [HTA.out] at this
        simp only [ByteArray.size_append] at this
        have e1 : (⟨#[32]⟩ : ByteArray).size = 1 := rfl
        have e2 : (⟨#[61]⟩ : ByteArray).size = 1 := rfl
        show _ ≤ _
        omega
      have HNX : Aside (EA (j + 1) = EA j ++ (⟨#[32]⟩ ++ nm ++ ⟨#[61]⟩ ++ tx)) := by show _ = _; rw [HSj.out, HTA.out]
      generalize EA j = st at HNX HZj ⊢
      have q1 : ¬ 9223372036854775807 < 1 + nm.size := by have := HTn.out; omega
      have q2 : ¬ 9223372036854775807 < 1 + nm.size + 1 := by have := HTn.out; omega
      have q3 : ¬ 9223372036854775807 < 1 + nm.size + 1 + tx.size := by have := HTn.out; omega
      have q4 : ¬ 9223372036854775807 < st.size + (1 + nm.size + 1 + tx.size) := by have := HTn.out; have := HZj.out; omega
      have zr : w6.heap.size ≤ wr.heap.size := HA.out.size
      have hltz : (j : Int) < r1 := by omega
      have hjz : (0 : Int) ≤ (j : Int) := by omega
      clear c_ hjl HTz HSj HTA HTn HZj
      go_upto_region 12 with fail
      clear c0 c1 c2 c3 c4 c5
      have hbw : Below wr.heap.size wr (wr.alloc (.cells #[.string nm, .int .i64 k, .int .i64 n', .float .f64 x, .string sx, .bool y] 33)) := (Below.refl _ _).alloc (Nat.le_refl _) _
      have HA9 : Aside (Below w6.heap.size w6 (wr.alloc (.cells #[.string nm, .int .i64 k, .int .i64 n', .float .f64 x, .string sx, .bool y] 33))) := HA.out.trans (hbw.mono zr)
      have hz9 : (wr.alloc (.cells #[.string nm, .int .i64 k, .int .i64 n', .float .f64 x, .string sx, .bool y] 33)).heap.size = wr.heap.size + 1 := by simp
      have HV : Aside (∀ W, Below (wr.heap.size + 1) (wr.alloc (.cells #[.string nm, .int .i64 k, .int .i64 n', .float .f64 x, .string sx, .bool y] 33)) W → ∀ i v, (#[.string nm, .int .i64 k, .int .i64 n', .float .f64 x, .string sx, .bool y] : Array Value)[i]? = some v → W.cell? ⟨wr.heap.size, i, none⟩ = some v) := fun W hW i v h => e_lay hW i v h
      clear hbw HA
      generalize (wr.alloc (.cells #[.string nm, .int .i64 k, .int .i64 n', .float .f64 x, .string sx, .bool y] 33)) = w9 at *
      have HVX : Aside (∀ W, Below w9.heap.size w9 W → ∀ i v, (#[.string nm, .int .i64 k, .int .i64 n', .float .f64 x, .string sx, .bool y] : Array Value)[i]? = some v → W.cell? ⟨wr.heap.size, i, none⟩ = some v) := fun W hW => HV.out W (by rw [← hz9]; exact hW)
      generalize wr.heap.size = D at *
      have v0 : ∀ p : BW w9, p.W.cell? ⟨D, 0, none⟩ = some (.string nm) := fun p => HVX.out p.W p.h 0 _ rfl
      have v1 : ∀ p : BW w9, p.W.cell? ⟨D, 1, none⟩ = some (.int .i64 k) := fun p => HVX.out p.W p.h 1 _ rfl
      have v2 : ∀ p : BW w9, p.W.cell? ⟨D, 2, none⟩ = some (.int .i64 n') := fun p => HVX.out p.W p.h 2 _ rfl
      have v3 : ∀ p : BW w9, p.W.cell? ⟨D, 3, none⟩ = some (.float .f64 x) := fun p => HVX.out p.W p.h 3 _ rfl
      have v4 : ∀ p : BW w9, p.W.cell? ⟨D, 4, none⟩ = some (.string sx) := fun p => HVX.out p.W p.h 4 _ rfl
      have v5 : ∀ p : BW w9, p.W.cell? ⟨D, 5, none⟩ = some (.bool y) := fun p => HVX.out p.W p.h 5 _ rfl
      have hP : ∀ p : BW w9, Calls Tryz.prog 8 #[val k n' x sx y] p.W fun e w'' => e = .returned (.string tx) ∧ ∃ q : BW w9, w'' = q.W := fun p => (HPj.out p.W (HA9.out.trans (p.h.mono HA9.out.size))).mono fun _ _ q => ⟨q.1, ⟨⟨_, p.h.trans (q.2.mono p.h.size)⟩, rfl⟩⟩
      clear HVX HV hz9 HPj
      refine wp_region_bw (by kernel_rfl) (by kernel_rfl) ?_
      repeat (quiet_step (first | (go_at_call 8; exact hP _)))
      refine wpQuiet_nil ?_
      intro w2' hw'
      obtain ⟨pw, hw2⟩ := hw'
      have HX2 : Aside (Below w6.heap.size w6 w2') := by rw [hw2]; exact HA9.out.trans (pw.h.mono HA9.out.size)
      clear v0 v1 v2 v3 v4 v5 hP hw2 pw q1 q2 q3 q4 HA9
      go_wp2_with fail
      go_roundg (r1 - (j + 1))
      case measure => omega
      case rel => exact ⟨j + 1, congrArg Value.string HNX.out.symm, by go_num, hlt, Nat.le_refl _, HX2.out⟩
    · obtain rfl : j = r1 := by omega
      rw [← HTX.out]
      have KK := fun p : BW wr => HX.out p.W (HA.out.trans (p.h.mono HA.out.size))
      have x0 : ∀ p : BW wr, p.W.cell? ⟨E, 0, none⟩ = some (.string s) := fun p => (KK p).1.1
      have x1 : ∀ p : BW wr, p.W.cell? ⟨E, 1, none⟩ = some (.slice (some ⟨G1, 0, none⟩) j n1) := fun p => (KK p).1.2
      have y0 : ∀ p : BW wr, p.W.cell? ⟨E + 1, 0, none⟩ = some (.string s) := fun p => (KK p).2.1
      have y1 : ∀ p : BW wr, p.W.cell? ⟨E + 1, 1, none⟩ = some (.slice (some ⟨G2, 0, none⟩) r2 n2) := fun p => (KK p).2.2
      have hA : ∀ p : BW wr, Calls Tryz.prog 9 #[.agg #[.string s, .slice (some ⟨G1, 0, none⟩) j n1]] p.W fun e w'' => e = .returned (.string T) ∧ ∃ q : BW wr, w'' = q.W := fun p => (HK.out.p1 p.W (HA.out.trans (p.h.mono HA.out.size))).mono fun _ _ q => ⟨q.1, ⟨⟨_, p.h.trans (q.2.mono p.h.size)⟩, rfl⟩⟩
      have hB : ∀ p : BW wr, Calls Tryz.prog 9 #[.agg #[.string s, .slice (some ⟨G2, 0, none⟩) r2 n2]] p.W fun e w'' => e = .returned (.string U) ∧ ∃ q : BW wr, w'' = q.W := fun p => (HK.out.p2 p.W (HA.out.trans (p.h.mono HA.out.size))).mono fun _ _ q => ⟨q.1, ⟨⟨_, p.h.trans (q.2.mono p.h.size)⟩, rfl⟩⟩
      have hC : ∀ p : BW wr, Calls Tryz.prog 10 #[.agg #[.string s, .slice (some ⟨G1, 0, none⟩) j n1], .agg #[.string s, .slice (some ⟨G2, 0, none⟩) r2 n2]] p.W fun e w'' => e = .returned (.bool q) ∧ ∃ q : BW wr, w'' = q.W := fun p => (HK.out.same p.W (HA.out.trans (p.h.mono HA.out.size))).mono fun _ _ q => ⟨q.1, ⟨⟨_, p.h.trans (q.2.mono p.h.size)⟩, rfl⟩⟩
      have HXX : Aside (∀ p : BW wr, Below w.heap.size w p.W) := fun p => HY.out p.W (HA.out.trans (p.h.mono HA.out.size))
      have hqq : (q == q) = true := by simp
      have hTT : (T.toList == T.toList) = true := by simp
      clear HK KK HX HY HROW HST HSZ HTX HRE HS HA hjx hj hlt
      go_upto_region 14 with fail
      refine wp_region_bw (by kernel_rfl) (by kernel_rfl) ?_
      repeat (quiet_step (first | (go_at_call 9; first | (with_reducible exact hA _) | (with_reducible exact hB _)) | (go_at_call 10; exact hC _)))
      refine wpQuiet_nil ?_
      intro w2' hw'
      obtain ⟨pw, hw2⟩ := hw'
      have HX2 := Lib.hid (HXX.out pw)
      rw [← hw2] at HX2
      clear x0 x1 y0 y1 hA hB hC hw2 HXX pw
      go_wp2_with fail
      go_ret
      exact ⟨rfl, HX2.out⟩
end Go.Proofs.YtfoboncfmigdaaaGreatDoor
