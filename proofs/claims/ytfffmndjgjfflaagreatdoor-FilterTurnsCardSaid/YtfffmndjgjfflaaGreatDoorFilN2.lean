/- filter.Norm. -/
import Derived.Test.YtfffmndjgjfflaaGreatDoorFilN
namespace Go.Proofs.YtfffmndjgjfflaaGreatDoor
open Go.RowKit Go.Shelf Go.Sort
open Go.Proofs
set_option maxRecDepth 100000
attribute [local go_sem ↓] append_pre

theorem sorted_norm {cs L : List Cn} (h : Sorted (cs.map canonC).toArray L.toArray) : NormOf cs L ∧ L.length = cs.length := by
  have hs : L.length = cs.length := by simpa using h.good.size
  refine ⟨⟨fun c hc => ?_, fun d hd => ?_⟩, hs⟩
  · obtain ⟨t, ht, rfl⟩ := List.mem_iff_getElem.1 hc
    obtain ⟨s, _, hs2, e⟩ := h.good.mem t (Nat.zero_le _) (by simp; omega)
    have hs3 : s < cs.length := by simpa using hs2
    refine ⟨cs[s]!, memC cs s hs3, ?_⟩
    have e1 : L.toArray[t]! = L[t] := by simp [ht]
    have e2 : (cs.map canonC).toArray[s]! = canonC cs[s]! := by simp [hs3]
    rw [← e1, e, e2]
  · have hm : canonC d ∈ (cs.map canonC).toArray.toList.filter (fun x => keyX x == keyX (canonC d)) := List.mem_filter.2 ⟨by simpa using ⟨d, hd, rfl⟩, by simp⟩
    rw [← h.good.stab (keyX (canonC d))] at hm
    simpa using (List.mem_filter.1 hm).1

set_option maxHeartbeats 8000000 in
theorem norm_c (sc : ByteArray) (co : Option Addr) (ccap : Nat) (cs : List Cn) (w : World) (hcs : CondsB w.heap.size w co cs) (hn : cs.length ≤ 19) (hpr : ∀ c ∈ cs, PrOk (canonC c)) (hw : Wds w) (hT : Tabs w) :
    Calls Tryz.prog 14 #[fil sc co cs.length ccap] w fun e w' => ∃ ro rcap, ∃ L : List Cn, e = .returned (fil sc ro (keptL L).length rcap) ∧ Aside (Sorted (cs.map canonC).toArray L.toArray ∧ CondsB w'.heap.size w' ro (keptL L) ∧ Below w.heap.size w w') := by
  have B0 : Below w.heap.size w ((w.alloc (.cells #[.string sc, .slice co cs.length ccap] 24)).alloc (.cells #[.string ⟨#[]⟩, .slice none 0 0] 24)) := ((Below.refl _ _).alloc (Nat.le_refl _) _).alloc (by simp) _
  have HB0 := Lib.hid B0
  have HOR : Aside (∀ W, Below w.heap.size w W → Calls Tryz.prog 25 #[.slice co cs.length ccap] W fun e w' => ∃ ro rcap, ∃ L : List Cn, e = .returned (.slice ro cs.length rcap) ∧ Aside (Sorted (cs.map canonC).toArray L.toArray ∧ CondsB w'.heap.size w' ro L ∧ Below W.heap.size W w')) := fun W hW => ordered_c co ccap cs W (hcs.on hW) hn hpr (hw.on hW) (hT.on hW)
  have HLX : Aside (∀ L : List Cn, Sorted (cs.map canonC).toArray L.toArray → L.length = cs.length ∧ ∀ c ∈ L, AtOk c.a) := fun L hL => by
    obtain ⟨h1, h2⟩ := sorted_norm hL
    refine ⟨h2, fun c hc => ?_⟩
    obtain ⟨d, hd, rfl⟩ := h1.1 c hc
    exact (hpr d hd).2.2.2.1
  obtain ⟨n, hN⟩ : ∃ n, n = cs.length := ⟨_, rfl⟩
  rw [← hN] at HOR HLX hn HB0 ⊢
  have HKP : Aside (∀ W, Below (w.heap.size + 2) ((w.alloc (.cells #[.string sc, .slice co n ccap] 24)).alloc (.cells #[.string ⟨#[]⟩, .slice none 0 0] 24)) W → W.cell? ⟨w.heap.size, 0, none⟩ = some (.string sc) ∧ W.cell? ⟨w.heap.size, 1, none⟩ = some (.slice co n ccap) ∧ W.heap[w.heap.size + 1]? = some (.cells #[.string ⟨#[]⟩, .slice none 0 0] 24)) := fun W hW => by
    obtain ⟨va, _⟩ := two_lay hW
    refine ⟨va 0 _ rfl, va 1 _ rfl, (hW.block (w.heap.size + 1) (by omega)).trans ?_⟩
    rw [show w.heap.size + 1 = (w.alloc (.cells #[.string sc, .slice co n ccap] 24)).heap.size by simp]
    exact Array.getElem?_push_size
  have z2 : w.heap.size + 2 ≤ ((w.alloc (.cells #[.string sc, .slice co n ccap] 24)).alloc (.cells #[.string ⟨#[]⟩, .slice none 0 0] 24)).heap.size := by simp
  have HBR : Aside (Below (w.heap.size + 2) ((w.alloc (.cells #[.string sc, .slice co n ccap] 24)).alloc (.cells #[.string ⟨#[]⟩, .slice none 0 0] 24)) ((w.alloc (.cells #[.string sc, .slice co n ccap] 24)).alloc (.cells #[.string ⟨#[]⟩, .slice none 0 0] 24))) := Below.refl _ _
  obtain ⟨a0, a1, _⟩ := HKP.out _ HBR.out
  have HNn := Lib.hid hN
  clear B0 hcs hpr hw hT hN
  go_enter Tryz.func14, Tryz.ntmps14
  go_wp2_with fail
  generalize hW0 : ((w.alloc (.cells #[.string sc, .slice co n ccap] 24)).alloc (.cells #[.string ⟨#[]⟩, .slice none 0 0] 24)) = w0 at *
  refine (HOR.out _ HB0.out).mono ?_
  rintro e w1 ⟨ro, rcap, L, rfl, HL⟩
  have hso := HL.out.1
  have HBW1 : Aside (Below (w.heap.size + 2) w0 w1) := HL.out.2.2.mono z2
  have z1 : w.heap.size + 2 ≤ w1.heap.size := Nat.le_trans z2 HBW1.out.size
  obtain ⟨hlen, hok⟩ := HLX.out L hso
  have HLC : Aside (∀ W, Below w1.heap.size w1 W → CondsB W.heap.size W ro L) := fun W hW => HL.out.2.1.on hW
  have HROW : Aside (0 < L.length → ∃ b off, ro = some ⟨b, off, none⟩ ∧ ∀ W, Below w1.heap.size w1 W → ∀ i, i < L.length → ∀ c v, (encC L[i]!)[c]? = some v → W.cell? ⟨b, off + i * 7 + c, none⟩ = some v) := fun h => row_at HL.out.2.1 h
  have HSP : Aside (∀ j, j < n → ∀ W, Below w1.heap.size w1 W → Calls Tryz.prog 26 #[.slice ro n rcap, .int .i64 j] W fun e w' => e = .returned (.bool (spareB L j)) ∧ Below W.heap.size W w') := fun j hj W hW => by
    have h := spare_c ro rcap L j W (HLC.out W hW) hok (by omega) (by omega)
    rw [hlen] at h
    exact h
  have HS := Lib.hid hso
  have HLn := Lib.hid hlen
  clear HL hso hlen hok HOR HLX a0 a1 HLC
  go_wp2_with fail
  go_loopg [4, 12] n (fun kx s4 s12 wr => ∃ (j m cap : Nat) (ao : Option Addr), s4 = .slice ao m cap ∧ s12 = .int .i64 j ∧ j ≤ n ∧ n - j ≤ kx ∧ Aside ((keptN L j).length = m) ∧ Aside (OwnC wr w1.heap.size (.slice ao m cap) (keptN L j)) ∧ Aside (Below w1.heap.size w1 wr))
  case atStart => exact ⟨0, 0, 0, none, rfl, rfl, Nat.zero_le _, by omega, rfl, World.ownsRow_nil _ _ _ _, Below.refl _ _⟩
  case round =>
    obtain ⟨j, m, cap, ao, rfl, rfl, hj, hjx, HM, HO, HA⟩ := hrel
    have zr : w1.heap.size ≤ wr.heap.size := HA.out.size
    by_cases hlt : j < n
    · have hjl : j < L.length := by rw [HLn.out]; exact hlt
      obtain ⟨b, off, rfl, hrow⟩ := HROW.out (by omega)
      have c_ := fun c v h => hrow wr HA.out j hjl c v h
      have HKN : Aside (keptN L (j + 1) = if spareB L j then keptN L j else keptN L j ++ [L[j]!]) := keptN_succ L j
      have HSPj := Lib.hid (HSP.out j hlt)
      have HML : Aside (m ≤ j) := by have := keptN_len L j; rw [HM.out] at this; exact this
      generalize spareB L j = sp at HKN HSPj
      generalize L[j]! = c at c_ HKN
      obtain ⟨⟨nm, k, n', x, s, y⟩, op⟩ := c
      have c0 := c_ 0 _ rfl; have c1 := c_ 1 _ rfl; have c2 := c_ 2 _ rfl; have c3 := c_ 3 _ rfl; have c4 := c_ 4 _ rfl; have c5 := c_ 5 _ rfl; have c6 := c_ 6 _ rfl
      simp only [Nat.add_zero] at c0
      clear c_ hjl hrow HROW HSP
      have hltz : (j : Int) < n := by omega
      have hjz : (0 : Int) ≤ (j : Int) := by omega
      go_upto_region 6 with fail
      clear c0 c1 c2 c3 c4 c5 c6
      have HX := Lib.hid ((Below.refl wr.heap.size wr).alloc (Nat.le_refl _) (.cells (cnds nm op k n' x s y) 31))
      have HV : Aside (∀ W, Below (wr.heap.size + 1) (wr.alloc (.cells (cnds nm op k n' x s y) 31)) W → W.cell? ⟨wr.heap.size, 0, none⟩ = some (.string nm) ∧ W.cell? ⟨wr.heap.size, 1, none⟩ = some (.int .i64 op) ∧ W.cell? ⟨wr.heap.size, 2, none⟩ = some (.int .i64 k) ∧ W.cell? ⟨wr.heap.size, 3, none⟩ = some (.int .i64 n') ∧ W.cell? ⟨wr.heap.size, 4, none⟩ = some (.float .f64 x) ∧ W.cell? ⟨wr.heap.size, 5, none⟩ = some (.string s) ∧ W.cell? ⟨wr.heap.size, 6, none⟩ = some (.bool y)) := fun W hW => ⟨one_lay hW 0 _ rfl, one_lay hW 1 _ rfl, one_lay hW 2 _ rfl, one_lay hW 3 _ rfl, one_lay hW 4 _ rfl, one_lay hW 5 _ rfl, one_lay hW 6 _ rfl⟩
      have HZX : Aside ((wr.alloc (.cells (cnds nm op k n' x s y) 31)).heap.size = wr.heap.size + 1) := by simp [Aside]
      generalize (wr.alloc (.cells (cnds nm op k n' x s y) 31)) = wx at *
      have HAX : Aside (Below w1.heap.size w1 wx) := HA.out.trans (HX.out.mono zr)
      have HAP : Aside (∀ W, Below wr.heap.size wr W → ∃ g' cap' w3, Sem.run Tryz.prog (appendS #[22, 22] 22 #[.slice ao m cap, .slice (some ⟨W.heap.size, 0, none⟩) 1 1])
        (W.alloc (.cells #[.string nm, .int .i64 op, .int .i64 k, .int .i64 n', .float .f64 x, .string s, .bool y] 31)) = .ok (.slice (some ⟨g', 0, none⟩) (m + 1) cap') w3 ∧
          Aside (OwnC w3 w1.heap.size (.slice (some ⟨g', 0, none⟩) (m + 1) cap') (keptN L j ++ [⟨⟨nm, k, n', x, s, y⟩, op⟩]) ∧ Below w1.heap.size w1 w3)) := fun W hW => by
        obtain ⟨g', cap', w3, h1, h2⟩ := appendC_run w1.heap.size (keptN L j) ⟨⟨nm, k, n', x, s, y⟩, op⟩ (.slice ao m cap) W (ownC_below HO.out hW) (Nat.le_trans zr hW.size) (by have := HML.out; rw [HM.out]; omega)
        rw [HM.out] at h1 h2
        exact ⟨g', cap', w3, h1, h2.out.1, (HA.out.trans (hW.mono zr)).trans h2.out.2⟩
      have HOX : Aside (∀ W, Below wr.heap.size wr W → OwnC W w1.heap.size (.slice ao m cap) (keptN L j)) := fun W hW => ownC_below HO.out hW
      clear HO HML
      generalize wr.heap.size = V at *
      go_wp2_with fail
      refine (HSPj.out _ HAX.out).mono ?_
      rintro e w5 ⟨rfl, hb5⟩
      have hX5 : Below V wr w5 := HX.out.trans (hb5.mono (by have := HZX.out; omega))
      have hb6 : Below (V + 1) wx w5 := hb5.mono (by have := HZX.out; omega)
      have HB5 : Aside (Below w1.heap.size w1 w5) := HA.out.trans (hX5.mono zr)
      cases sp
      · have HK2 : Aside (keptN L (j + 1) = keptN L j ++ [⟨⟨nm, k, n', x, s, y⟩, op⟩]) := HKN.out
        obtain ⟨g', cap', w6, hrun, HR6⟩ := HAP.out w5 hX5
        obtain ⟨v0, v1, v2, v3, v4, v5, v6⟩ := HV.out w5 hb6
        clear HAP HKN HOX HV HX HZX HAX hb5 hX5 hb6 HSPj
        go_wp2_with fail
        go_roundg (n - (j + 1))
        case measure => omega
        case rel => exact ⟨j + 1, m + 1, cap', some ⟨g', 0, none⟩, by go_num, by go_num, hlt, Nat.le_refl _, by rw [HK2.out]; simp [Aside, HM.out], by rw [HK2.out]; exact HR6.out.1, HR6.out.2⟩
      · have HK2 : Aside (keptN L (j + 1) = keptN L j) := HKN.out
        have HO5 := Lib.hid (HOX.out w5 hX5)
        clear HAP HKN HOX HV HX HZX HAX hb5 hX5 hb6 HSPj
        go_wp2_with fail
        go_roundg (n - (j + 1))
        case measure => omega
        case rel => exact ⟨j + 1, m, cap, ao, rfl, by go_num, hlt, Nat.le_refl _, by rw [HK2.out]; exact HM.out, by rw [HK2.out]; exact HO5.out, HB5.out⟩
    · obtain rfl : j = n := by omega
      have HBr : Aside (Below (w.heap.size + 2) w0 wr) := HBW1.out.trans (HA.out.mono z1)
      obtain ⟨a0, a1, hoS⟩ := HKP.out _ HBr.out
      have r0 : wr.cell? ⟨w.heap.size + 1, 0, none⟩ = some (.string ⟨#[]⟩) := by simp [World.cell?, hoS]
      have r1 : wr.cell? ⟨w.heap.size + 1, 1, none⟩ = some (.slice none 0 0) := by simp [World.cell?, hoS]
      have f0 : wr.frozen? ⟨w.heap.size + 1, 0, none⟩ = false := by simp [World.frozen?, hoS]
      have f1 : wr.frozen? ⟨w.heap.size + 1, 1, none⟩ = false := by simp [World.frozen?, hoS]
      have hX : CondsB ((wr.setCell ⟨w.heap.size + 1, 0, none⟩ (.string sc)).setCell ⟨w.heap.size + 1, 1, none⟩ (.slice ao m cap)).heap.size ((wr.setCell ⟨w.heap.size + 1, 0, none⟩ (.string sc)).setCell ⟨w.heap.size + 1, 1, none⟩ (.slice ao m cap)) ao (keptN L j) := by
        obtain ⟨ao', cap', hv, hcd, hg⟩ := ownC_conds HO.out
        injection hv with e1 e2 e3
        subst e1
        rcases hcd with h | ⟨b, off, rfl, hb, hr⟩
        · exact Or.inl h
        · have hbg := hg b off rfl
          refine Or.inr ⟨b, off, rfl, by simpa using hb, fun i hi c v hv => ?_⟩
          have hne : ∀ i i2, (⟨w.heap.size + 1, i, none⟩ : Addr) ≠ ⟨b, i2, none⟩ := fun i i2 e => by injection e; omega
          rw [World.cell?_setCell_other _ _ _ _ (by first | exact hne _ _ | exact (hne _ _).symm), World.cell?_setCell_other _ _ _ _ (by first | exact hne _ _ | exact (hne _ _).symm)]
          exact hr i hi c v hv
      have hBX : Below w.heap.size w ((wr.setCell ⟨w.heap.size + 1, 0, none⟩ (.string sc)).setCell ⟨w.heap.size + 1, 1, none⟩ (.slice ao m cap)) := ((HB0.out.trans (HBr.out.mono (by omega))).setCell (p := ⟨w.heap.size + 1, 0, none⟩) (Nat.le_succ _) _).setCell (p := ⟨w.heap.size + 1, 1, none⟩) (Nat.le_succ _) _
      have x1 := World.cell?_setCell_same (wr.setCell ⟨w.heap.size + 1, 0, none⟩ (.string sc)) ⟨w.heap.size + 1, 1, none⟩ (.slice ao m cap) ((oth (by decide)).trans r1)
      have x0 := (oth (W := wr.setCell ⟨w.heap.size + 1, 0, none⟩ (.string sc)) (R := w.heap.size + 1) (i := 1) (j := 0) (v := .slice ao m cap) (by decide)).trans (World.cell?_setCell_same wr ⟨w.heap.size + 1, 0, none⟩ (.string sc) r0)
      have HKL : Aside (keptL L = keptN L j) := by show keptN L L.length = _; rw [HLn.out]
      have HX : Aside _ := And.intro hX hBX
      clear hX hBX hoS HO
      go_wp2_with fail
      generalize (wr.setCell ⟨w.heap.size + 1, 0, none⟩ (.string sc)).setCell ⟨w.heap.size + 1, 1, none⟩ (.slice ao m cap) = X at *
      refine bodyPost_ret (v := fil sc ao m cap) (by simp [results, Tryz.results14, go_sem, x0, x1]) rfl ⟨ao, cap, L, by rw [HKL.out, HM.out], ⟨HS.out, by rw [HKL.out]; exact HX.out.1, HX.out.2⟩⟩
end Go.Proofs.YtfffmndjgjfflaaGreatDoor
