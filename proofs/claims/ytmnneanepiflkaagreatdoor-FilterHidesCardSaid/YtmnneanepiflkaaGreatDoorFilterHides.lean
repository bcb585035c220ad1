/- FilterHides: what an event with fewer attributes does for the whole event does for. -/
import Derived.Test.YtmnneanepiflkaaGreatDoorGaJ
import Derived.Test.YtmnneanepiflkaaGreatDoorWithout
import Derived.Deep.RegionWith
import Derived.Deep.RegionHeld3
namespace Go.Proofs.YtmnneanepiflkaaGreatDoor
open Go.RowKit Go.Shelf
open Go.Proofs
set_option maxRecDepth 100000

/-- An event's two cells laid into a fresh block. -/
theorem put_event {w7 X : World} {A9 : Nat} {ro : Option Addr} {rcap : Nat} {ls : List At} {sE : ByteArray} (hA : w7.heap.size ≤ A9) (h1 : X.heap[A9]? = some (.cells #[.string ⟨#[]⟩, .slice none 0 0] 33)) (h2 : SliceA X ro ls) (h3 : Below w7.heap.size w7 X) :
    (((X.setCell ⟨A9, 0, none⟩ (.string sE)).setCell ⟨A9, 1, none⟩ (.slice ro ls.length rcap)).cell? ⟨A9, 0, none⟩ = some (.string sE) ∧ ((X.setCell ⟨A9, 0, none⟩ (.string sE)).setCell ⟨A9, 1, none⟩ (.slice ro ls.length rcap)).cell? ⟨A9, 1, none⟩ = some (.slice ro ls.length rcap) ∧
          SliceA ((X.setCell ⟨A9, 0, none⟩ (.string sE)).setCell ⟨A9, 1, none⟩ (.slice ro ls.length rcap)) ro ls ∧ Below w7.heap.size w7 ((X.setCell ⟨A9, 0, none⟩ (.string sE)).setCell ⟨A9, 1, none⟩ (.slice ro ls.length rcap))) := by
  have r0 : X.cell? ⟨A9, 0, none⟩ = some (.string ⟨#[]⟩) := by simp [World.cell?, h1]
  have r1 : X.cell? ⟨A9, 1, none⟩ = some (.slice none 0 0) := by simp [World.cell?, h1]
  refine ⟨(oth (by decide)).trans (World.cell?_setCell_same _ _ _ r0), World.cell?_setCell_same _ _ _ ((oth (by decide)).trans r1), ?_, (h3.setCell (p := ⟨A9, 0, none⟩) hA _).setCell (p := ⟨A9, 1, none⟩) hA _⟩
  rcases h2 with h | ⟨b, off, rfl, hb, hr⟩
  · exact Or.inl h
  · refine Or.inr ⟨b, off, rfl, by simpa using hb, fun i hi c v hv => ?_⟩
    have hrc := hr i hi c v hv
    have hne : b ≠ A9 := fun e => by
      subst e
      simp only [World.cell?, h1] at hrc
      have h0 := hr i hi 2 _ rfl
      simp only [World.cell?, h1] at h0
      have : off + i * 6 + 2 < 2 ∨ ¬ off + i * 6 + 2 < 2 := Nat.lt_or_ge _ _ |>.imp id Nat.not_lt.2
      rcases this with h | h
      · omega
      · simp at h0
    have hn : ∀ i2 i3, (⟨A9, i2, none⟩ : Addr) ≠ ⟨b, i3, none⟩ := fun i2 i3 e => by injection e with e1; exact hne e1.symm
    rw [World.cell?_setCell_other _ _ _ _ (by first | exact hn _ _ | exact (hn _ _).symm), World.cell?_setCell_other _ _ _ _ (by first | exact hn _ _ | exact (hn _ _).symm)]
    exact hrc
theorem without_sub {l : List At} {ns : List ByteArray} : ∀ a ∈ withoutL l ns, a ∈ l := fun _ ha => (List.mem_filter.1 ha).1
set_option maxHeartbeats 8000000 in
theorem filterHides_c (sc : ByteArray) (co : Option Addr) (ccap : Nat) (cs : List Cn) (s : ByteArray) (ao : Option Addr) (cap : Nat) (l : List At) (w : World) (hm : MaxI w) (hw : Wds w) (hF : FilIs MB w sc co cs) (hl : SliceA w ao l) (hal : ∀ a ∈ l, AtW MB a) (hln : l.length * 64 ≤ MB) :
    Calls Tryz.prog 9 #[fil sc co cs.length ccap, .string s, .slice ao l.length cap] w fun e w' => e = .returned (.bool true) ∧ Below w.heap.size w w' := by
  have hlc : cs.length ≤ 4611686018427387904 := by have := hF.2.2.1; unfold MB at this; omega
  have hll : l.length ≤ 4611686018427387904 := by unfold MB at hln; omega
  have HFT : Aside (∀ W, Below w.heap.size w W → Calls Tryz.prog 20 #[] W fun e w' => e = .returned (.bool true) ∧ Below W.heap.size W w') := fun W hW => fit7_c W (hw.on hW) (hm.below hW)
  have HLT : Aside (∀ W, Below w.heap.size w W → Calls Tryz.prog 21 #[fil sc co cs.length ccap] W fun e w' => e = .returned (.bool (lightF sc cs)) ∧ Below W.heap.size W w') := fun W hW => flight_c sc co ccap cs W (hF.1.on hW) hlc
  have HFW : Aside (∀ W, Below w.heap.size w W → Calls Tryz.prog 22 #[.slice ao l.length cap] W fun e w' => e = .returned (.bool (fewA l)) ∧ Below W.heap.size W w') := fun W hW => few_c ao cap l W (hl.under hW) hll
  have HFR : Aside (lightF sc cs = true → ∀ W, Below w.heap.size w W → Calls Tryz.prog 24 #[fil sc co cs.length ccap] W fun e w' => e = .returned (.bool (rightF sc cs)) ∧ Below W.heap.size W w') := fun h W hW => fright_c sc co ccap cs W (hF.1.on hW) hlc (Nat.le_trans (light_all (by decide) h hF).1 (by decide)) (hm.below hW)
  have HEV : Aside (fewA l = true → s.size ≤ 100 → ∀ W, Below w.heap.size w W → Calls Tryz.prog 25 #[.string s, .slice ao l.length cap] W fun e w' => ∃ bo bcap es, e = .returned (.agg #[.string (scopeE s), .slice bo es.length bcap]) ∧ Aside (EvtIs W w' bo l es)) := fun h h2 W hW =>
    event_c s ao cap l W (Nat.le_trans (few_all (by decide) h hal) (by decide)) (hl.under hW) (by omega) (hm.below hW)
  have HMT : Aside (rightF sc cs = true → ∀ (bo : Option Addr) (bcap : Nat) (es : List At) (W : World), SliceA W bo es → es.length ≤ 8 → (∀ a ∈ es, AtOk a) → Below w.heap.size w W → Calls Tryz.prog 26 #[fil sc co cs.length ccap, evt (scopeE s) bo es.length bcap] W fun e w' => e = .returned (.bool (matchF sc cs (scopeE s) es)) ∧ Below W.heap.size W w') := fun h bo bcap es W hE h8 hok hW =>
    fmatch_c sc co ccap cs (scopeE s) bo bcap es W (hF.1.on hW) (fun c hc => (hF.2.1 c hc).1) hlc hE hok (by omega) (Nat.le_trans (rightF_size h) (by decide))
  have HEB : Aside (∀ (W0 W1 : World) (bo : Option Addr) (es : List At), EvtIs W0 W1 bo l es → Below W0.heap.size W0 W1 ∧ SliceA W1 bo es ∧ es.length ≤ 8 ∧ ∀ a ∈ es, AtOk a) := fun W0 W1 bo es h => ⟨by obtain ⟨_, _, _, _, h4⟩ := h; exact h4, by obtain ⟨_, _, _, h4, _⟩ := h; exact h4, evt_len h, fun a ha => (evt_ok h hal a ha).1⟩
  have HMORE : Aside (∀ (es fs : List At), (∀ a ∈ es, a ∈ fs) → matchF sc cs (scopeE s) es = true → matchF sc cs (scopeE s) fs = true) := fun es fs h1 h2 => match_more h1 h2
  generalize rightF sc cs = rt at *
  generalize lightF sc cs = lt at *
  generalize fewA l = fw at *
  generalize scopeE s = sE at *
  obtain ⟨mt, hmt⟩ : ∃ mt : List At → Bool, ∀ es, mt es = matchF sc cs sE es := ⟨_, fun _ => rfl⟩
  simp only [← hmt] at HMT HMORE
  obtain ⟨len, hL⟩ : ∃ len, len = cs.length := ⟨_, rfl⟩
  rw [← hL] at HLT HFR HMT hlc ⊢
  obtain ⟨n, hN⟩ : ∃ n, n = l.length := ⟨_, rfl⟩
  rw [← hN] at HFW HEV ⊢
  have z1 : w.heap.size + 1 ≤ (w.alloc (.cells #[.string sc, .slice co len ccap] 42)).heap.size := by simp
  have HB0 : Aside (Below w.heap.size w (w.alloc (.cells #[.string sc, .slice co len ccap] 42))) := (Below.refl _ _).alloc (Nat.le_refl _) _
  have HKP : Aside (∀ W, Below (w.heap.size + 1) (w.alloc (.cells #[.string sc, .slice co len ccap] 42)) W → W.cell? ⟨w.heap.size, 0, none⟩ = some (.string sc) ∧ W.cell? ⟨w.heap.size, 1, none⟩ = some (.slice co len ccap)) := fil_cells
  clear hm hw hF hl hal hln hll hmt hL hN
  go_enter Tryz.func9, Tryz.ntmps9
  go_wp2_with fail
  generalize hW0 : w.alloc (.cells #[.string sc, .slice co len ccap] 42) = w0 at *
  refine (HFT.out _ HB0.out).mono ?_
  rintro e w1 ⟨rfl, hb⟩
  have HA1 : Aside (Below (w.heap.size + 1) w0 w1) := hb.mono z1
  clear hb
  obtain ⟨a0, a1⟩ := HKP.out _ HA1.out
  go_wp2_with fail
  refine (HLT.out _ (HB0.out.trans (HA1.out.mono (by omega)))).mono ?_
  rintro e w2 ⟨rfl, hb⟩
  have HA2 : Aside (Below (w.heap.size + 1) w0 w2) := HA1.out.trans (hb.mono (Nat.le_trans z1 HA1.out.size))
  clear hb a0 a1 HA1 HLT HFT
  cases lt
  · go_wp2_with fail
    go_ret
    exact ⟨rfl, HB0.out.trans (HA2.out.mono (by omega))⟩
  have HFR' := Lib.hid (HFR.out (by first | trivial | rfl))
  clear HFR
  obtain ⟨a0, a1⟩ := HKP.out _ HA2.out
  go_wp2_with fail
  refine (HFR'.out _ (HB0.out.trans (HA2.out.mono (by omega)))).mono ?_
  rintro e w3 ⟨rfl, hb⟩
  have HA3 : Aside (Below (w.heap.size + 1) w0 w3) := HA2.out.trans (hb.mono (Nat.le_trans z1 HA2.out.size))
  clear hb HA2 HFR' a0 a1
  cases rt
  · go_wp2_with fail
    go_ret
    exact ⟨rfl, HB0.out.trans (HA3.out.mono (by omega))⟩
  have HMT' := Lib.hid (HMT.out (by first | trivial | rfl))
  clear HMT
  go_wp2_with fail
  refine (HFW.out _ (HB0.out.trans (HA3.out.mono (by omega)))).mono ?_
  rintro e w4 ⟨rfl, hb⟩
  have HA4 : Aside (Below (w.heap.size + 1) w0 w4) := HA3.out.trans (hb.mono (Nat.le_trans z1 HA3.out.size))
  clear hb HA3 HFW
  cases fw
  · go_wp2_with fail
    go_ret
    exact ⟨rfl, HB0.out.trans (HA4.out.mono (by omega))⟩
  by_cases h100 : s.size ≤ 100
  rotate_left
  · have h100z : (100 : Int) < (s.size : Int) := by omega
    go_wp2_with fail
    go_ret
    exact ⟨rfl, HB0.out.trans (HA4.out.mono (by omega))⟩
  have h100z : ¬ (100 : Int) < (s.size : Int) := by omega
  have HEV' := Lib.hid (HEV.out (by first | trivial | rfl) h100)
  clear HEV h100
  go_wp2_with fail
  clear h100z
  refine (HEV'.out _ (HB0.out.trans (HA4.out.mono (by omega)))).mono ?_
  rintro e w6 ⟨bo, bcap, es, rfl, hE⟩
  obtain ⟨hb, hS6, h8, hok⟩ := HEB.out _ _ _ _ hE.out
  have hz4 : w.heap.size + 1 ≤ w4.heap.size := Nat.le_trans z1 HA4.out.size
  have HA6 : Aside (Below (w.heap.size + 1) w0 w6) := HA4.out.trans (hb.mono hz4)
  have z6 : w.heap.size + 1 ≤ w6.heap.size := Nat.le_trans hz4 hb.size
  have hbw6 : Below w6.heap.size w6 (w6.alloc (.cells #[.string sE, .slice bo es.length bcap] 33)) := (Below.refl _ _).alloc (Nat.le_refl _) _
  have HA7 : Aside (Below (w.heap.size + 1) w0 (w6.alloc (.cells #[.string sE, .slice bo es.length bcap] 33))) := HA6.out.trans (hbw6.mono z6)
  have hz7 : w6.heap.size < (w6.alloc (.cells #[.string sE, .slice bo es.length bcap] 33)).heap.size := by simp
  have HS7 : Aside (SliceA (w6.alloc (.cells #[.string sE, .slice bo es.length bcap] 33)) bo es) := hS6.under hbw6
  have vv := World.cell?_alloc_new w6 #[.string sE, .slice bo es.length bcap] 33
  have v0 := vv 0; have v1 := vv 1
  simp only [List.getElem?_toArray, List.getElem?_cons_zero, List.getElem?_cons_succ] at v0 v1
  have HOK := Lib.hid hok
  clear hE hb HEV' HEB vv hbw6 HA4 HA6 hS6 hok hz4
  go_upto_region 6 with fail
  generalize (w6.alloc (.cells #[.string sE, .slice bo es.length bcap] 33)) = w7 at *
  obtain ⟨en, hen⟩ : ∃ en, en = es.length := ⟨_, rfl⟩
  have HEN := Lib.hid hen
  rw [← hen] at h8 v1 ⊢
  generalize w6.heap.size = V at *
  have HK : Aside (∀ W, Below w7.heap.size w7 W → W.cell? ⟨w.heap.size, 0, none⟩ = some (.string sc) ∧ W.cell? ⟨w.heap.size, 1, none⟩ = some (.slice co len ccap) ∧ W.cell? ⟨V, 0, none⟩ = some (.string sE) ∧ W.cell? ⟨V, 1, none⟩ = some (.slice bo en bcap)) := fun W hW => by
    obtain ⟨g0, g1⟩ := HKP.out W (HA7.out.trans (hW.mono (by omega)))
    exact ⟨g0, g1, (hW.cell (p := ⟨V, 0, none⟩) hz7).trans v0, (hW.cell (p := ⟨V, 1, none⟩) hz7).trans v1⟩
  have HQ : Aside (∀ W, Below w7.heap.size w7 W → Below w.heap.size w W) := fun W hW => HB0.out.trans ((HA7.out.trans (hW.mono (by omega))).mono (by omega))
  have HME : Aside (∀ W, Below w7.heap.size w7 W → Calls Tryz.prog 26 #[fil sc co len ccap, evt sE bo en bcap] W fun e w' => e = .returned (.bool (mt es)) ∧ Below W.heap.size W w') := fun W hW => by
    rw [hen]; exact HMT'.out bo bcap es W (HS7.out.under hW) (by omega) HOK.out (HQ.out W hW)
  have HML : Aside (∀ W (ro : Option Addr) (rcap : Nat) (nm : ByteArray), Below w7.heap.size w7 W → SliceA W ro (withoutL es [nm]) → Calls Tryz.prog 26 #[fil sc co len ccap, evt sE ro (withoutL es [nm]).length rcap] W fun e w' => e = .returned (.bool (mt (withoutL es [nm]))) ∧ Below W.heap.size W w') := fun W ro rcap nm hW hS =>
    HMT'.out ro rcap (withoutL es [nm]) W hS (by have : (withoutL es [nm]).length ≤ es.length := List.length_filter_le _ _; omega) (fun a ha => HOK.out a (without_sub a ha)) (HQ.out W hW)
  have HWO : Aside (∀ W (bk : Nat) (nm : ByteArray), Below w7.heap.size w7 W → W.cell? ⟨bk, 0, none⟩ = some (.string nm) → bk < W.heap.size → Calls Tryz.prog 19 #[evt sE bo en bcap, .slice (some ⟨bk, 0, none⟩) 1 1] W fun e w' => ∃ ro rcap, e = .returned (.agg #[.string sE, .slice ro (withoutL es [nm]).length rcap]) ∧ Aside (SliceA w' ro (withoutL es [nm]) ∧ Below W.heap.size W w')) := fun W bk nm hW hc hbk => by
    rw [hen]
    exact without_c sE bo (some ⟨bk, 0, none⟩) bcap 1 es [nm] W (HS7.out.under hW) (Or.inr ⟨bk, 0, rfl, hbk, fun j hj => by
      obtain rfl : j = 0 := by simpa using hj
      exact hc⟩) (by omega) (by simp)
  have HTR : Aside (∀ W W', Below w7.heap.size w7 W → Below W.heap.size W W' → Below w7.heap.size w7 W') := fun W W' h h2 => h.trans (h2.mono h.size)
  have HMR : Aside (∀ nm, mt (withoutL es [nm]) = true → mt es = true) := fun nm h => HMORE.out _ _ without_sub h
  have HRW : Aside (∀ W, Below w7.heap.size w7 W → es = [] ∨ ∃ b off, bo = some ⟨b, off, none⟩ ∧ b < w7.heap.size ∧ RowAt W b off es) := fun W hW => by
    rcases HS7.out with h | ⟨b, off, h1, h2, h3⟩
    · exact Or.inl h
    · exact Or.inr ⟨b, off, h1, h2, RowAt.below hW h2 h3⟩
  clear HMT' HMORE hen HOK HS7 hz7 HA7 HKP
  obtain ⟨a0, a1, b0, b1⟩ := HK.out _ (Below.refl _ _)
  clear v0 v1
  go_wp2_with fail
  clear a0 a1 b0 b1
  go_loopg [36] en (fun kx s36 wr => ∃ j : Nat, s36 = .int .i64 j ∧ j ≤ en ∧ en - j ≤ kx ∧ Aside (Below w7.heap.size w7 wr))
  case atStart => exact ⟨0, rfl, Nat.zero_le _, by omega, Below.refl _ _⟩
  case round =>
    obtain ⟨j, rfl, hj, hjx, HA⟩ := hrel
    by_cases hlt : j < en
    · have hjl : j < es.length := by rw [← HEN.out]; exact hlt
      rcases HRW.out _ HA.out with h0 | ⟨b, off, hao, hbs, hrow⟩
      · rw [h0] at hjl; simp at hjl
      subst hao
      have HNM : Aside (∀ W, Below w7.heap.size w7 W → W.cell? ⟨b, off + j * 6, none⟩ = some (.string es[j]!.nm)) := fun W hW => by
        rcases HRW.out _ hW with h0 | ⟨b2, off2, hao2, hbs2, hrow2⟩
        · rw [h0] at hjl; simp at hjl
        · injection hao2 with e1
          injection e1 with e2 e3
          subst e2 e3
          exact hrow2 j hjl 0 _ rfl
      generalize es[j]!.nm = nm at HNM
      clear hrow hjl HRW
      have hltz : (j : Int) < en := by omega
      have hjz : (0 : Int) ≤ (j : Int) := by omega
      have HWN := Lib.hid (fun W bk => HWO.out W bk nm)
      have HMN := Lib.hid (fun W ro rcap => HML.out W ro rcap nm)
      have HMRn := Lib.hid (HMR.out nm)
      generalize mt (withoutL es [nm]) = p at HMN HMRn
      generalize mt es = q at *
      generalize withoutL es [nm] = ls at *
      clear HWO HML HMR HEN
      go_upto_region 9 with fail
      have HD : Aside (Below w7.heap.size w7 wr.drew) := HA.out.trans (below_drew1 wr)
      have KP : Aside (∀ W, Below w7.heap.size w7 W → Below w7.heap.size w7 W ∧ W.cell? ⟨V, 0, none⟩ = some (.string sE) ∧ W.cell? ⟨V, 1, none⟩ = some (.slice (some ⟨b, off, none⟩) en bcap) ∧ W.cell? ⟨b, off + j * 6, none⟩ = some (.string nm)) := fun W hW => ⟨hW, (HK.out _ hW).2.2.1, (HK.out _ hW).2.2.2, HNM.out _ hW⟩
      obtain ⟨R, hR⟩ : ∃ R, R = wr.heap.size := ⟨_, rfl⟩
      have zR : w7.heap.size ≤ R := by rw [hR]; exact HA.out.size
      have DA : Aside (Below w7.heap.size w7 (wr.alloc (.cells #[.string nm] 9)).drew) := (HA.out.alloc' _).trans (below_drew1 _)
      have DE : Aside (Below w7.heap.size w7 (wr.alloc (.cells #[.string ⟨#[]⟩, .slice none 0 0] 33)).drew) := (HA.out.alloc' _).trans (below_drew1 _)
      have DC : Aside (Below w7.heap.size w7 ((wr.alloc (.cells #[.string nm] 9)).alloc (.cells #[.string ⟨#[]⟩, .slice none 0 0] 33)).drew) := ((HA.out.alloc' _).alloc' _).trans (below_drew1 _)
      have DB : Aside (Below w7.heap.size w7 ((wr.alloc (.cells #[.string ⟨#[]⟩, .slice none 0 0] 33)).alloc (.cells #[.string nm] 9)).drew) := ((HA.out.alloc' _).alloc' _).trans (below_drew1 _)
      have CA : Aside ((wr.alloc (.cells #[.string nm] 9)).drew.cell? ⟨R, 0, none⟩ = some (.string nm)) := by
        show (wr.alloc (.cells #[.string nm] 9)).cell? _ = _
        rw [hR]; exact World.cell?_alloc_new wr _ _ 0
      have CC : Aside (((wr.alloc (.cells #[.string nm] 9)).alloc (.cells #[.string ⟨#[]⟩, .slice none 0 0] 33)).drew.cell? ⟨R, 0, none⟩ = some (.string nm)) := by
        show ((wr.alloc (.cells #[.string nm] 9)).alloc (.cells #[.string ⟨#[]⟩, .slice none 0 0] 33)).cell? _ = _
        rw [World.cell?_alloc_lt _ _ _ (by simp [hR]), hR]; exact World.cell?_alloc_new wr _ _ 0
      have CB : Aside (((wr.alloc (.cells #[.string ⟨#[]⟩, .slice none 0 0] 33)).alloc (.cells #[.string nm] 9)).drew.cell? ⟨R + 1, 0, none⟩ = some (.string nm)) := by
        show ((wr.alloc (.cells #[.string ⟨#[]⟩, .slice none 0 0] 33)).alloc (.cells #[.string nm] 9)).cell? _ = _
        have h := World.cell?_alloc_new (wr.alloc (.cells #[.string ⟨#[]⟩, .slice none 0 0] 33)) #[.string nm] 9 0
        rw [World.size_alloc] at h
        rw [hR]; exact h
      have EC : Aside (((wr.alloc (.cells #[.string nm] 9)).alloc (.cells #[.string ⟨#[]⟩, .slice none 0 0] 33)).drew.heap[R + 1]? = some (.cells #[.string ⟨#[]⟩, .slice none 0 0] 33)) := by
        have h := heap_alloc_new (wr.alloc (.cells #[.string nm] 9)) (.cells #[.string ⟨#[]⟩, .slice none 0 0] 33)
        rw [World.size_alloc] at h
        show _ = _
        rw [hR]; exact h
      have EB : Aside (((wr.alloc (.cells #[.string ⟨#[]⟩, .slice none 0 0] 33)).alloc (.cells #[.string nm] 9)).drew.heap[R]? = some (.cells #[.string ⟨#[]⟩, .slice none 0 0] 33)) := by
        have h := heap_alloc_new wr (.cells #[.string ⟨#[]⟩, .slice none 0 0] 33)
        have h2 := ((Below.refl (wr.alloc (.cells #[.string ⟨#[]⟩, .slice none 0 0] 33)).heap.size (wr.alloc (.cells #[.string ⟨#[]⟩, .slice none 0 0] 33))).alloc (Nat.le_refl _) (.cells #[.string nm] 9)).block R (by simp [hR])
        show ((wr.alloc (.cells #[.string ⟨#[]⟩, .slice none 0 0] 33)).alloc (.cells #[.string nm] 9)).heap[R]? = _
        rw [h2, hR]; exact h
      have LA : Aside (R < (wr.alloc (.cells #[.string nm] 9)).drew.heap.size) := by show R < (wr.alloc (.cells #[.string nm] 9)).heap.size; rw [World.size_alloc]; omega
      have LC : Aside (R + 1 < ((wr.alloc (.cells #[.string nm] 9)).alloc (.cells #[.string ⟨#[]⟩, .slice none 0 0] 33)).drew.heap.size) := by show R + 1 < ((wr.alloc (.cells #[.string nm] 9)).alloc (.cells #[.string ⟨#[]⟩, .slice none 0 0] 33)).heap.size; rw [World.size_alloc, World.size_alloc]; omega
      have LB : Aside (R + 1 < ((wr.alloc (.cells #[.string ⟨#[]⟩, .slice none 0 0] 33)).alloc (.cells #[.string nm] 9)).drew.heap.size) := by show R + 1 < ((wr.alloc (.cells #[.string ⟨#[]⟩, .slice none 0 0] 33)).alloc (.cells #[.string nm] 9)).heap.size; rw [World.size_alloc, World.size_alloc]; omega
      have PUT : Aside (∀ (X : World) (A9 : Nat) (ro : Option Addr) (rcap : Nat), w7.heap.size ≤ A9 → X.heap[A9]? = some (.cells #[.string ⟨#[]⟩, .slice none 0 0] 33) → SliceA X ro ls → Below w7.heap.size w7 X →
          (((X.setCell ⟨A9, 0, none⟩ (.string sE)).setCell ⟨A9, 1, none⟩ (.slice ro ls.length rcap)).cell? ⟨A9, 0, none⟩ = some (.string sE) ∧ ((X.setCell ⟨A9, 0, none⟩ (.string sE)).setCell ⟨A9, 1, none⟩ (.slice ro ls.length rcap)).cell? ⟨A9, 1, none⟩ = some (.slice ro ls.length rcap) ∧
          SliceA ((X.setCell ⟨A9, 0, none⟩ (.string sE)).setCell ⟨A9, 1, none⟩ (.slice ro ls.length rcap)) ro ls ∧ Below w7.heap.size w7 ((X.setCell ⟨A9, 0, none⟩ (.string sE)).setCell ⟨A9, 1, none⟩ (.slice ro ls.length rcap)))) := fun X A9 ro rcap hA h1 h2 h3 => put_event hA h1 h2 h3
      subst hR
      go_cut [9] (fun s9 wx => ∃ (A9 : Nat) (ro : Option Addr) (rcap : Nat), s9 = .pointer (some ⟨A9, 0, none⟩) ∧ Aside (wx.cell? ⟨A9, 0, none⟩ = some (.string sE) ∧ wx.cell? ⟨A9, 1, none⟩ = some (.slice ro ls.length rcap) ∧ SliceA wx ro ls ∧ Below w7.heap.size w7 wx))
      case first =>
        go_region_held3 (fun W => Below w7.heap.size w7 W ∧ W.cell? ⟨V, 0, none⟩ = some (.string sE) ∧ W.cell? ⟨V, 1, none⟩ = some (.slice (some ⟨b, off, none⟩) en bcap) ∧ W.cell? ⟨b, off + j * 6, none⟩ = some (.string nm))
          (first | exact KP.out _ HPB.out.2.2.2 | exact KP.out _ HX1.out | exact KP.out _ (HX1.out.alloc' _) | exact KP.out _ HD.out | exact KP.out _ DA.out | exact KP.out _ DE.out | exact KP.out _ DB.out | exact KP.out _ DC.out)
          (first
            | (go_at_call 19; (with_reducible refine (HWN.out _ _ DA.out CA.out LA.out).mono ?_); rintro e w1 ⟨ro, rcap, rfl, hx⟩; have HX1 : Aside (Below w7.heap.size w7 w1) := HTR.out _ _ DA.out hx.out.2; have HSX : Aside (SliceA w1 ro ls) := hx.out.1; clear hx)
            | (go_at_call 19; (with_reducible refine (HWN.out _ _ DB.out CB.out LB.out).mono ?_); rintro e w1 ⟨ro, rcap, rfl, hx⟩; have HX1 : Aside (Below w7.heap.size w7 w1) := HTR.out _ _ DB.out hx.out.2; have HSX : Aside (SliceA w1 ro ls) := hx.out.1; have hE1 : w1.heap[wr.heap.size]? = some (.cells #[.string ⟨#[]⟩, .slice none 0 0] 33) := (hx.out.2.block _ (by have := LB.out; omega)).trans EB.out; have y0 : w1.cell? ⟨wr.heap.size, 0, none⟩ = some (.string ⟨#[]⟩) := (by simp [World.cell?, hE1]); have y1 : w1.cell? ⟨wr.heap.size, 1, none⟩ = some (.slice none 0 0) := (by simp [World.cell?, hE1]); have f0 : w1.frozen? ⟨wr.heap.size, 0, none⟩ = false := (by simp [World.frozen?, hE1]); have f1 : w1.frozen? ⟨wr.heap.size, 1, none⟩ = false := (by simp [World.frozen?, hE1]); have HPB := Lib.hid (PUT.out w1 wr.heap.size ro rcap zR hE1 HSX.out HX1.out); clear hx)
            | (go_at_call 19; (with_reducible refine (HWN.out _ _ DC.out CC.out (by have := LC.out; omega)).mono ?_); rintro e w1 ⟨ro, rcap, rfl, hx⟩; have HX1 : Aside (Below w7.heap.size w7 w1) := HTR.out _ _ DC.out hx.out.2; have HSX : Aside (SliceA w1 ro ls) := hx.out.1; have hE1 : w1.heap[wr.heap.size + 1]? = some (.cells #[.string ⟨#[]⟩, .slice none 0 0] 33) := (hx.out.2.block _ (by have := LC.out; omega)).trans EC.out; have y0 : w1.cell? ⟨wr.heap.size + 1, 0, none⟩ = some (.string ⟨#[]⟩) := (by simp [World.cell?, hE1]); have y1 : w1.cell? ⟨wr.heap.size + 1, 1, none⟩ = some (.slice none 0 0) := (by simp [World.cell?, hE1]); have f0 : w1.frozen? ⟨wr.heap.size + 1, 0, none⟩ = false := (by simp [World.frozen?, hE1]); have f1 : w1.frozen? ⟨wr.heap.size + 1, 1, none⟩ = false := (by simp [World.frozen?, hE1]); have HPB := Lib.hid (PUT.out w1 (wr.heap.size + 1) ro rcap (by omega) hE1 HSX.out HX1.out); clear hx))
        all_goals
          go_wp2_with fail
          go_meet
          first
          | exact ⟨_, ro, rcap, rfl, HPB.out⟩
          | (have hbx : Below w1.heap.size w1 (w1.alloc (.cells #[.string sE, .slice ro ls.length rcap] 33)) := (Below.refl _ _).alloc (Nat.le_refl _) _
             exact ⟨_, ro, rcap, rfl, (⟨World.cell?_alloc_new w1 _ _ 0, World.cell?_alloc_new w1 _ _ 1, HSX.out.under hbx, HX1.out.alloc' _⟩ : _ ∧ _ ∧ _ ∧ _)⟩)
      case rest =>
        obtain ⟨A9, ro, rcap, rfl, hX⟩ := hcut
        obtain ⟨y0, y1, hS9, hB9⟩ := hX.out
        have HML9 := Lib.hid (HMN.out wc ro rcap hB9 hS9)
        have HB9 := Lib.hid hB9
        obtain ⟨a0, a1, b0, b1⟩ := HK.out _ hB9
        clear hX hS9 hB9 HWN HMN KP DA DB DC DE CA CB CC EB EC LA LB LC PUT HD zR
        go_wp2_with fail
        refine HML9.out.mono ?_
        rintro e w2 ⟨rfl, hb⟩
        have HX2 : Aside (Below w7.heap.size w7 w2) := HTR.out _ _ HB9.out hb
        clear hb a0 a1 b0 b1 y0 y1 HML9
        cases p
        · go_wp2_with fail
          go_roundg (en - (j + 1))
          case measure => omega
          case rel => exact ⟨j + 1, by go_num, hlt, Nat.le_refl _, HX2.out⟩
        · have hq : q = true := HMRn.out (by first | trivial | rfl)
          subst hq
          obtain ⟨a0, a1, b0, b1⟩ := HK.out _ HX2.out
          go_wp2_with fail
          clear a0 a1 b0 b1
          refine (HME.out _ HX2.out).mono ?_
          rintro e w5 ⟨rfl, hb⟩
          have HX5 : Aside (Below w7.heap.size w7 w5) := HTR.out _ _ HX2.out hb
          clear hb
          go_wp2_with fail
          go_roundg (en - (j + 1))
          case measure => omega
          case rel => exact ⟨j + 1, by go_num, hlt, Nat.le_refl _, HX5.out⟩
    · obtain rfl : j = en := by omega
      go_wp2_with fail
      go_ret
      exact ⟨rfl, HQ.out _ HA.out⟩
end Go.Proofs.YtmnneanepiflkaaGreatDoor
