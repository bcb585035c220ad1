/- EventRights: an event may be just as the document says. -/
import Derived.Test.YtecfbbddhnkilaaGreatDoorReg20
import Derived.Test.YtecfbbddhnkilaaGreatDoorLight
import Derived.Test.YtecfbbddhnkilaaGreatDoorGetsL
import Derived.Deep.DeepCutAuto
import Derived.Deep.RegionWith
namespace Go.Proofs.YtecfbbddhnkilaaGreatDoor
open Go.RowKit Go.Shelf Go.Sort
open Go.Proofs
set_option maxRecDepth 100000

/-- What Go's own memory allows of an attribute, its name's length among it. -/
def AtOkN (a : At) : Prop := AtOk a ∧ a.nm.size ≤ 9223372036854775807
theorem newOf_ok {l res : List At} (h : NewOf l res) (ho : ∀ a ∈ l, AtOkN a) : ∀ a ∈ res, AtOkN a := fun a ha => by
  obtain ⟨z, hz, rfl⟩ := h.mem a ha
  exact ⟨canon_x z (ho z hz).1, by rw [canonA_nm]; exact (ho z hz).2⟩
/-- What stands when the event is made: a box, a row. -/
structure Made (w : World) (E : Nat) (W : World) (bo : Option Addr) (bc : Nat) (L : List At) : Prop where
  c0 : W.cell? ⟨E, 0, none⟩ = some (.string ⟨#[]⟩)
  c1 : W.cell? ⟨E, 1, none⟩ = some (.slice bo L.length bc)
  row : SliceA W bo L
  ok : ∀ a ∈ L, AtOkN a
  len : L.length ≤ 39
  below : Below w.heap.size w W
theorem okAt_parts (L : List At) (j : Nat) (a : At) (h : a = L[j]!) : okAt L j = (nameOk a.nm && vrightB a.k a.s && (decide (j = 0) || ltKey keyA L[j - 1]! a) && fieldsB a) := by
  unfold okAt
  rw [← h]
  cases hv : vrightB a.k a.s
  · simp
  · rw [kept_fields a hv]
    cases (decide (j = 0) || ltKey keyA L[j - 1]! a) <;> cases nameOk a.nm <;> cases fieldsB a <;> rfl

set_option maxHeartbeats 8000000 in
theorem eventRights_c (ao : Option Addr) (cap : Nat) (l : List At) (srt : Bool) (w : World) (hl : SliceA w ao l) (ho : ∀ a ∈ l, AtOkN a) (hlen : l.length ≤ 9223372036854775807) :
    Calls Tryz.prog 7 #[.slice ao l.length cap, .bool srt] w fun e w' => e = .returned (.bool true) ∧ Below w.heap.size w w' := by
  have HS : Aside (SliceA w ao l) := hl
  have HO : Aside (∀ a ∈ l, AtOkN a) := ho
  have HLI : Aside (∀ W, SliceA W ao l → Calls Tryz.prog 19 #[.slice ao l.length cap] W fun e w' => e = .returned (.bool (lightB l)) ∧ Below W.heap.size W w') := fun W h => light_c ao cap l W h hlen
  have HNW : Aside (∀ W, SliceA W ao l → l.length ≤ 39 → Calls Tryz.prog 20 #[.string ⟨#[]⟩, .slice ao l.length cap] W fun e w' => ∃ (G : Nat) (res : List At), e = .returned (.agg #[.string ⟨#[]⟩, .slice (some ⟨G, 0, none⟩) res.length l.length]) ∧
      Aside (W.heap.size ≤ G ∧ G < w'.heap.size ∧ RowAt w' G 0 res ∧ NewOf l res ∧ Below W.heap.size W w')) := fun W h h2 => new_c ⟨#[]⟩ ao cap l h2 W h
  clear hl ho
  obtain ⟨len, hL⟩ : ∃ len, len = l.length := ⟨_, rfl⟩
  have HLen : Aside (len = l.length) := hL
  rw [← hL] at HLI HNW hlen ⊢
  clear hL
  go_enter Tryz.func7, Tryz.ntmps7
  go_wp2_with fail
  refine (fit_c w).mono ?_
  rintro e w1 ⟨rfl, hb1⟩
  have HB1 : Aside (Below w.heap.size w w1) := hb1
  clear hb1
  go_wp2_with fail
  refine (HLI.out w1 (HS.out.below HB1.out)).mono ?_
  rintro e w2 ⟨rfl, hb2⟩
  have HB2 : Aside (Below w.heap.size w w2) := HB1.out.trans (hb2.mono HB1.out.size)
  clear hb2 HB1 HLI
  cases hli : lightB l
  · go_wp2_with fail
    go_ret
    exact ⟨rfl, HB2.out⟩
  have hl30 : len ≤ 30 := by rw [HLen.out]; exact light_len hli
  go_upto_if 20 with fail
  have c0 := World.cell?_alloc_new w2 #[.string ⟨#[]⟩, .slice ao len cap] 36 0
  have c1 := World.cell?_alloc_new w2 #[.string ⟨#[]⟩, .slice ao len cap] 36 1
  have f0 := alloc_frozen w2 #[.string ⟨#[]⟩, .slice ao len cap] 36 0
  have f1 := alloc_frozen w2 #[.string ⟨#[]⟩, .slice ao len cap] 36 1
  simp only [List.getElem?_toArray, List.getElem?_cons_zero, List.getElem?_cons_succ] at c0 c1
  have hb3 : Below w2.heap.size w2 (w2.alloc (.cells #[.string ⟨#[]⟩, .slice ao len cap] 36)) := (Below.refl _ _).alloc (Nat.le_refl _) _
  have hz3 : w2.heap.size < (w2.alloc (.cells #[.string ⟨#[]⟩, .slice ao len cap] 36)).heap.size := by simp
  have HB3 : Aside (Below w.heap.size w (w2.alloc (.cells #[.string ⟨#[]⟩, .slice ao len cap] 36))) := HB2.out.trans (hb3.mono HB2.out.size)
  have hwE : w.heap.size ≤ w2.heap.size := HB2.out.size
  clear hb3 HB2
  generalize (w2.alloc (.cells #[.string ⟨#[]⟩, .slice ao len cap] 36)) = w3 at *
  generalize w2.heap.size = E at *
  go_cut [22] (fun _ wx => Aside (∃ bo bc L, Made w E wx bo bc L))
  case first =>
    cases srt
    · go_wp2_with fail
      go_meet
      exact ⟨ao, cap, l, c0, by rw [← HLen.out]; exact c1, HS.out.below HB3.out, HO.out, by rw [← HLen.out]; omega, HB3.out⟩
    · go_wp2_with fail
      refine (HNW.out w3 (HS.out.below HB3.out) (by omega)).mono ?_
      rintro e w4 ⟨G, res, rfl, hA⟩
      obtain ⟨hG1, hG2, hrow, hno, hb4⟩ := hA.out
      have d0 := (hb4.cell (p := ⟨E, 0, none⟩) hz3).trans c0
      have d1 := (hb4.cell (p := ⟨E, 1, none⟩) hz3).trans c1
      have g0 := (hb4.frozen (p := ⟨E, 0, none⟩) hz3).trans f0
      have g1 := (hb4.frozen (p := ⟨E, 1, none⟩) hz3).trans f1
      have HR : Aside (RowAt w4 G 0 res) := hrow
      have HOr : Aside (∀ a ∈ res, AtOkN a) := newOf_ok hno HO.out
      have hrl : res.length ≤ len := by rw [HLen.out]; exact hno.len
      have HB4 : Aside (Below w.heap.size w w4) := HB3.out.trans (hb4.mono HB3.out.size)
      obtain ⟨rl, hrle⟩ : ∃ rl, rl = res.length := ⟨_, rfl⟩
      have HRL : Aside (rl = res.length) := hrle
      rw [← hrle] at hrl ⊢
      clear hA hrow hno hb4 hrle c0 c1 f0 f1
      go_wp2_with fail
      go_meet
      have x0 : ((w4.setCell ⟨E, 0, none⟩ (.string ⟨#[]⟩)).setCell ⟨E, 1, none⟩ (.slice (some ⟨G, 0, none⟩) rl len)).cell? ⟨E, 0, none⟩ = some (.string ⟨#[]⟩) := by
        rw [oth (by decide)]; exact World.cell?_setCell_same _ _ _ d0
      have x1 : ((w4.setCell ⟨E, 0, none⟩ (.string ⟨#[]⟩)).setCell ⟨E, 1, none⟩ (.slice (some ⟨G, 0, none⟩) rl len)).cell? ⟨E, 1, none⟩ = some (.slice (some ⟨G, 0, none⟩) rl len) :=
        World.cell?_setCell_same _ _ _ (by rw [oth (by decide)]; exact d1)
      have hb5 : Below E w4 ((w4.setCell ⟨E, 0, none⟩ (.string ⟨#[]⟩)).setCell ⟨E, 1, none⟩ (.slice (some ⟨G, 0, none⟩) rl len)) := ((Below.refl E w4).setCell (p := ⟨E, 0, none⟩) (Nat.le_refl _) _).setCell (p := ⟨E, 1, none⟩) (Nat.le_refl _) _
      have hGE : G ≠ E := by omega
      refine ⟨some ⟨G, 0, none⟩, len, res, x0, by rw [← HRL.out]; exact x1, Or.inr ⟨G, 0, rfl, Nat.lt_of_lt_of_le hG2 hb5.size, fun i hi c v hv => ?_⟩, HOr.out, by rw [← HRL.out]; omega, HB4.out.trans (hb5.mono hwE)⟩
      rw [World.cell?_setCell_other _ ⟨E, 1, none⟩ ⟨G, 0 + i * 6 + c, none⟩ _ (by intro e; injection e; omega), World.cell?_setCell_other _ ⟨E, 0, none⟩ ⟨G, 0 + i * 6 + c, none⟩ _ (by intro e; injection e; omega)]
      exact HR.out i hi c v hv
  case rest =>
    obtain ⟨bo, bc, L, hM⟩ := hcut.out
    obtain ⟨n, hn⟩ : ∃ n, n = L.length := ⟨_, rfl⟩
    have HN : Aside (n = L.length) := hn
    have c0 := hM.c0
    have c1 := hM.c1
    rw [← hn] at c1
    have hEw : E < wc.heap.size := World.block_lt_of_cell? wc _ c0
    have HM : Aside (Made w E wc bo bc L) := hM
    have hn39 : n ≤ 39 := by rw [hn]; exact hM.len
    clear hM hn hcut HNW HS HO HLen f0 f1 hz3 HB3
    generalize wc = w0 at *
    obtain ⟨b8, hb8⟩ : ∃ b8, b8 = decide ((n : Int) ≤ 8) := ⟨_, rfl⟩
    have HB8 : Aside (b8 = decide ((n : Int) ≤ 8)) := hb8
    go_wp2_with fail
    rw [← hb8]
    clear hb8
    go_loopg [30, 6] n (fun kx s30 s6 wr => ∃ j : Nat, s30 = .int .i64 j ∧ j ≤ n ∧ n - j ≤ kx ∧ s6 = .bool (b8 && (List.range j).all (okAt L)) ∧ Aside (Below w0.heap.size w0 wr))
    case atStart => exact ⟨0, rfl, Nat.zero_le _, by omega, by simp, Below.refl _ _⟩
    case round =>
      obtain ⟨j, rfl, hj, hjx, rfl, HB⟩ := hrel
      have e0 := (HB.out.cell (p := ⟨E, 0, none⟩) hEw).trans c0
      have e1 := (HB.out.cell (p := ⟨E, 1, none⟩) hEw).trans c1
      have hEr : E < wr.heap.size := Nat.lt_of_lt_of_le hEw HB.out.size
      by_cases hlt : j < n
      · have hjl : j < L.length := by rw [← HN.out]; exact hlt
        obtain ⟨bz, hbz⟩ : ∃ bz, bz = (b8 && (List.range (j + 1)).all (okAt L)) := ⟨_, rfl⟩
        have HBZ : Aside (bz = (b8 && (List.range (j + 1)).all (okAt L))) := hbz
        have HSn0 : Aside (bz = ((b8 && (List.range j).all (okAt L)) && okAt L j)) := by
          show _ = _; rw [hbz, all_snoc, Bool.and_assoc]
        clear hbz
        generalize (b8 && (List.range j).all (okAt L)) = bw at *
        rcases HM.out.row with h0 | ⟨b, off, hbo, hbs, hrow⟩
        · rw [h0] at hjl; cases hjl
        subst hbo
        have hR := RowAt.below HB.out hbs hrow
        have hrow1 := hR j hjl
        have HR : Aside (RowAt wr b off L) := hR
        have hok := HM.out.ok _ (get_mem L j hjl)
        have hbr : b < wr.heap.size := Nat.lt_of_lt_of_le hbs HB.out.size
        obtain ⟨a, ha⟩ : ∃ a, a = L[j]! := ⟨_, rfl⟩
        have HP := Lib.hid (okAt_parts L j a ha)
        have HAj : Aside (a = L[j]!) := ha
        rw [← ha] at hrow1 hok
        clear hR hrow ha hjl
        obtain ⟨nm, k, nn, x, s, y⟩ := a
        have hnmz : nm.size ≤ 9223372036854775807 := hok.2
        have r0 := hrow1 0 _ rfl; have r1 := hrow1 1 _ rfl; have r2 := hrow1 2 _ rfl; have r3 := hrow1 3 _ rfl; have r4 := hrow1 4 _ rfl; have r5 := hrow1 5 _ rfl
        simp only [Nat.add_zero] at r0
        have hjz : (j : Int) < (n : Int) := by omega
        have hj0 : (0 : Int) ≤ (j : Int) := by omega
        clear hrow1 hok
        go_upto_region 12 with fail
        have yy := World.cell?_alloc_new wr #[.string nm, .int .i64 k, .int .i64 nn, .float .f64 x, .string s, .bool y] 40
        have y0 := yy 0; have y1 := yy 1; have y2 := yy 2; have y3 := yy 3; have y4 := yy 4; have y5 := yy 5
        simp only [List.getElem?_toArray, List.getElem?_cons_zero, List.getElem?_cons_succ] at y0 y1 y2 y3 y4 y5
        have hba : Below wr.heap.size wr (wr.alloc (.cells #[.string nm, .int .i64 k, .int .i64 nn, .float .f64 x, .string s, .bool y] 40)) := (Below.refl _ _).alloc (Nat.le_refl _) _
        have g1 := (hba.cell (p := ⟨E, 1, none⟩) hEr).trans e1
        have HRa : Aside (RowAt (wr.alloc (.cells #[.string nm, .int .i64 k, .int .i64 nn, .float .f64 x, .string s, .bool y] 40)) b off L) := RowAt.below hba hbr HR.out
        have HBa : Aside (Below w0.heap.size w0 (wr.alloc (.cells #[.string nm, .int .i64 k, .int .i64 nn, .float .f64 x, .string s, .bool y] 40))) := HB.out.trans (hba.mono HB.out.size)
        have hAz : wr.heap.size < (wr.alloc (.cells #[.string nm, .int .i64 k, .int .i64 nn, .float .f64 x, .string s, .bool y] 40)).heap.size := by simp
        clear yy hba r0 r1 r2 r3 r4 r5 HR HB e0 e1
        generalize (wr.alloc (.cells #[.string nm, .int .i64 k, .int .i64 nn, .float .f64 x, .string s, .bool y] 40)) = w2 at *
        generalize wr.heap.size = A at *
        have hbz : b < w2.heap.size := by omega
        have hEz : E < w2.heap.size := by omega
        obtain ⟨b1, hb1⟩ : ∃ b1, b1 = (decide (1 ≤ (nm.size : Int)) && decide ((nm.size : Int) ≤ 12) && decide (97 ≤ byt nm 0)) := ⟨_, rfl⟩
        have HB1 : Aside (b1 = (decide (1 ≤ (nm.size : Int)) && decide ((nm.size : Int) ≤ 12) && decide (97 ≤ byt nm 0))) := hb1
        clear hb1
        go_cut [9] (fun s9 wx => s9 = .bool b1 ∧ wx = w2)
        case first =>
          by_cases h1 : (1 : Int) ≤ (nm.size : Int)
          · by_cases h12 : (nm.size : Int) ≤ 12
            · have h0p : 0 < nm.size := by omega
              have q1 : decide ((1 : Int) ≤ (nm.size : Int)) = true := decide_eq_true h1
              have q2 : decide ((nm.size : Int) ≤ 12) = true := decide_eq_true h12
              have HF : Aside (b1 = decide (97 ≤ byt nm 0)) := by show _ = _; rw [HB1.out, q1, q2]; rfl
              go_wp2_with fail
              go_meet
              exact ⟨by first | exact congrArg Value.bool HF.out.symm | (rw [byt_eq nm 0 h0p]; exact congrArg Value.bool HF.out.symm), rfl⟩
            · have q1 : decide ((1 : Int) ≤ (nm.size : Int)) = true := decide_eq_true h1
              have q2 : decide ((nm.size : Int) ≤ 12) = false := decide_eq_false h12
              have HF : Aside (b1 = false) := by show _ = _; rw [HB1.out, q1, q2]; rfl
              go_wp2_with fail
              go_meet
              exact ⟨congrArg Value.bool HF.out.symm, rfl⟩
          · have q1 : decide ((1 : Int) ≤ (nm.size : Int)) = false := decide_eq_false h1
            have HF : Aside (b1 = false) := by show _ = _; rw [HB1.out, q1]; rfl
            go_wp2_with fail
            go_meet
            exact ⟨congrArg Value.bool HF.out.symm, rfl⟩
        case rest =>
          obtain ⟨rfl, hwc⟩ := hcut
          rw [hwc]
          clear hwc wc
          obtain ⟨bcap, w3, hcv, hA3⟩ := bytes_run nm w2
          obtain ⟨m, hm⟩ : ∃ m, m = nm.size := ⟨_, rfl⟩
          have HMn : Aside (m = nm.size) := hm
          rw [← hm] at hcv hnmz
          have hb3 := hA3.out.1
          have HC3 : Aside (∀ i, i < nm.size → w3.cell? ⟨w2.heap.size, i, none⟩ = some (.int .u8 (byt nm i))) := hA3.out.2.2
          have z1 := (hb3.cell (p := ⟨A, 1, none⟩) hAz).trans y1; have z2 := (hb3.cell (p := ⟨A, 2, none⟩) hAz).trans y2; have z3 := (hb3.cell (p := ⟨A, 3, none⟩) hAz).trans y3; have z4 := (hb3.cell (p := ⟨A, 4, none⟩) hAz).trans y4; have z5 := (hb3.cell (p := ⟨A, 5, none⟩) hAz).trans y5
          have z0 := (hb3.cell (p := ⟨A, 0, none⟩) hAz).trans y0
          have k1 := (hb3.cell (p := ⟨E, 1, none⟩) hEz).trans g1
          have HR3 : Aside (RowAt w3 b off L) := RowAt.below hb3 hbz HRa.out
          have HBw3 : Aside (Below w0.heap.size w0 w3) := HBa.out.trans (hb3.mono HBa.out.size)
          have hA3z : A < w3.heap.size := Nat.lt_of_lt_of_le hAz hb3.size
          have hE3z : E < w3.heap.size := Nat.lt_of_lt_of_le hEz hb3.size
          have hb3z : b < w3.heap.size := Nat.lt_of_lt_of_le hbz hb3.size
          have HNL : Aside ((b1 && (List.range m).all (partB nm)) = nameOk nm) := by show _ = _; rw [HB1.out, HMn.out]; exact nameL nm
          clear hA3 hb3 hm HRa HBa HB1
          go_wp2_with fail
          clear hcv y0 y1 y2 y3 y4 y5 g1
          generalize w2.heap.size = Q at *
          go_loopg [55, 9] m (fun kx s55 s9 wr3 => ∃ i : Nat, s55 = .int .i64 i ∧ i ≤ m ∧ m - i ≤ kx ∧ wr3 = w3 ∧ s9 = .bool (b1 && (List.range i).all (partB nm)))
          case atStart => exact ⟨0, rfl, Nat.zero_le _, by omega, rfl, by simp⟩
          case round =>
            obtain ⟨i, rfl, hi, hix, rfl, rfl⟩ := hrel
            by_cases hil : i < m
            · have hc := HC3.out i (by rw [← HMn.out]; exact hil)
              have hiz : (i : Int) < (m : Int) := by omega
              have hi0 : (0 : Int) ≤ (i : Int) := by omega
              have HSi : Aside ((b1 && (List.range (i + 1)).all (partB nm)) = ((b1 && (List.range i).all (partB nm)) && partB nm i)) := by
                show _ = _; rw [all_snoc, Bool.and_assoc]
              have HPi : Aside (partB nm i = ((decide (97 ≤ byt nm i) && decide (byt nm i ≤ 122)) || (decide (48 ≤ byt nm i) && decide (byt nm i ≤ 57)))) := by
                show _ = _
                unfold partB letB digB; rfl
              generalize (b1 && (List.range i).all (partB nm)) = oo at *
              generalize byt nm i = c at *
              cases oo
              · have HRr : Aside ((b1 && (List.range (i + 1)).all (partB nm)) = false) := by
                  show _ = _; rw [HSi.out]; simp
                go_wp2_with fail
                go_roundg (m - (i + 1))
                case measure => omega
                case rel => exact ⟨i + 1, by go_num, hil, Nat.le_refl _, rfl, congrArg Value.bool HRr.out.symm⟩
              have ways : (decide (97 ≤ c) = true ∧ decide (c ≤ 122) = true) ∨ (decide (97 ≤ c) = false ∧ decide (48 ≤ c) = false)
                ∨ (decide (97 ≤ c) = false ∧ decide (48 ≤ c) = true ∧ decide (c ≤ 57) = false) ∨ (decide (97 ≤ c) = false ∧ decide (48 ≤ c) = true ∧ decide (c ≤ 57) = true)
                ∨ (decide (97 ≤ c) = true ∧ decide (c ≤ 122) = false ∧ decide (48 ≤ c) = true ∧ decide (c ≤ 57) = false) := by
                simp only [decide_eq_true_eq, decide_eq_false_iff_not]; omega
              rcases ways with ⟨h1, h2⟩ | ⟨h1, h4⟩ | ⟨h1, h4, h5⟩ | ⟨h1, h4, h5⟩ | ⟨h1, h2, h4, h5⟩
              · have HRr : Aside ((b1 && (List.range (i + 1)).all (partB nm)) = true) := by
                  show _ = _; rw [HSi.out, HPi.out, h1, h2]; rfl
                go_wp2_with fail
                go_roundg (m - (i + 1))
                case measure => omega
                case rel => exact ⟨i + 1, by go_num, hil, Nat.le_refl _, rfl, congrArg Value.bool (by first | exact HRr.out.symm | (rw [HRr.out]; assumption))⟩
              · have HRr : Aside ((b1 && (List.range (i + 1)).all (partB nm)) = false) := by
                  show _ = _; rw [HSi.out, HPi.out, h1, h4]; rfl
                go_wp2_with fail
                go_roundg (m - (i + 1))
                case measure => omega
                case rel => exact ⟨i + 1, by go_num, hil, Nat.le_refl _, rfl, congrArg Value.bool (by first | exact HRr.out.symm | (rw [HRr.out]; assumption))⟩
              · have HRr : Aside ((b1 && (List.range (i + 1)).all (partB nm)) = false) := by
                  show _ = _; rw [HSi.out, HPi.out, h1, h4, h5]; rfl
                go_wp2_with fail
                go_roundg (m - (i + 1))
                case measure => omega
                case rel => exact ⟨i + 1, by go_num, hil, Nat.le_refl _, rfl, congrArg Value.bool (by first | exact HRr.out.symm | (rw [HRr.out]; assumption))⟩
              · have HRr : Aside ((b1 && (List.range (i + 1)).all (partB nm)) = true) := by
                  show _ = _; rw [HSi.out, HPi.out, h1, h4, h5]; rfl
                go_wp2_with fail
                go_roundg (m - (i + 1))
                case measure => omega
                case rel => exact ⟨i + 1, by go_num, hil, Nat.le_refl _, rfl, congrArg Value.bool (by first | exact HRr.out.symm | (rw [HRr.out]; assumption))⟩
              · have HRr : Aside ((b1 && (List.range (i + 1)).all (partB nm)) = false) := by
                  show _ = _; rw [HSi.out, HPi.out, h1, h2, h4, h5]; rfl
                go_wp2_with fail
                go_roundg (m - (i + 1))
                case measure => omega
                case rel => exact ⟨i + 1, by go_num, hil, Nat.le_refl _, rfl, congrArg Value.bool (by first | exact HRr.out.symm | (rw [HRr.out]; assumption))⟩
            · obtain rfl : i = m := by omega
              rw [HNL.out]
              clear hil hi hix HNL HC3
              obtain ⟨o1, ho1⟩ : ∃ o1, o1 = nameOk nm := ⟨_, rfl⟩
              have HO1 : Aside (o1 = nameOk nm) := ho1
              rw [← ho1]
              clear ho1
              go_upto_region 19 with fail
              have vv := World.cell?_alloc_new wr #[.int .i64 k, .int .i64 nn, .float .f64 x, .string s, .bool y] 24
              have v0 := vv 0; have v1 := vv 1; have v2 := vv 2; have v3 := vv 3; have v4 := vv 4
              simp only [List.getElem?_toArray, List.getElem?_cons_zero, List.getElem?_cons_succ] at v0 v1 v2 v3 v4
              have hbv : Below wr.heap.size wr (wr.alloc (.cells #[.int .i64 k, .int .i64 nn, .float .f64 x, .string s, .bool y] 24)) := (Below.refl _ _).alloc (Nat.le_refl _) _
              have t0 := (hbv.cell (p := ⟨A, 0, none⟩) hA3z).trans z0
              have l1 := (hbv.cell (p := ⟨E, 1, none⟩) hE3z).trans k1
              have HR4 : Aside (RowAt (wr.alloc (.cells #[.int .i64 k, .int .i64 nn, .float .f64 x, .string s, .bool y] 24)) b off L) := RowAt.below hbv hb3z HR3.out
              have HBw4 : Aside (Below w0.heap.size w0 (wr.alloc (.cells #[.int .i64 k, .int .i64 nn, .float .f64 x, .string s, .bool y] 24))) := HBw3.out.trans (hbv.mono HBw3.out.size)
              have hV4 : wr.heap.size < (wr.alloc (.cells #[.int .i64 k, .int .i64 nn, .float .f64 x, .string s, .bool y] 24)).heap.size := by simp
              have hA4 : A < (wr.alloc (.cells #[.int .i64 k, .int .i64 nn, .float .f64 x, .string s, .bool y] 24)).heap.size := by omega
              clear vv hbv z0 z1 z2 z3 z4 z5 k1 HR3 HBw3 hb3z hE3z hA3z
              generalize (wr.alloc (.cells #[.int .i64 k, .int .i64 nn, .float .f64 x, .string s, .bool y] 24)) = w4 at *
              generalize wr.heap.size = V at *
              obtain ⟨b3, hb3⟩ : ∃ b3, b3 = (o1 && vrightB k s && (decide (j = 0) || ltKey keyA L[j - 1]! ⟨nm, k, nn, x, s, y⟩)) := ⟨_, rfl⟩
              have HB3 : Aside (b3 = (o1 && vrightB k s && (decide (j = 0) || ltKey keyA L[j - 1]! ⟨nm, k, nn, x, s, y⟩))) := hb3
              have HOkj : Aside (okAt L j = (b3 && fieldsB ⟨nm, k, nn, x, s, y⟩)) := by show _ = _; rw [hb3, HO1.out]; exact HP.out
              clear hb3 HP
              go_cut [9] (fun s9 wx => s9 = .bool b3 ∧ wx = w4.drew)
              case first =>
                clear HOkj
                cases o1
                · have HF : Aside (b3 = false) := by show _ = _; rw [HB3.out]; simp
                  go_region
                  go_wp2_with fail
                  go_meet
                  exact ⟨congrArg Value.bool HF.out.symm, rfl⟩
                by_cases hk0 : (0 : Int) ≤ k
                · have p0 : decide ((0 : Int) ≤ k) = true := decide_eq_true hk0
                  by_cases hk3 : k ≤ 3
                  · have p1 : decide (k ≤ 3) = true := decide_eq_true hk3
                    by_cases hsz : (s.size : Int) ≤ 40
                    · have p2 : decide ((s.size : Int) ≤ 40) = true := decide_eq_true hsz
                      have HF : Aside (b3 = (decide (j = 0) || ltKey keyA L[j - 1]! ⟨nm, k, nn, x, s, y⟩)) := by
                        show _ = _; rw [HB3.out]; unfold vrightB; rw [p0, p1, p2]; rfl
                      by_cases hje : j = 0
                      · have p3 : ((j : Int) == 0) = true := by simp; omega
                        have hjz0 : (j : Int) = 0 := by omega
                        have HF2 : Aside (b3 = true) := by show _ = _; rw [HF.out, show decide (j = 0) = true by simpa using hje]; rfl
                        clear HF
                        go_region
                        go_wp2_with fail
                        go_meet
                        exact ⟨congrArg Value.bool HF2.out.symm, rfl⟩
                      · obtain ⟨q, hq⟩ : ∃ q, q = j - 1 := ⟨_, rfl⟩
                        obtain ⟨p, hp⟩ : ∃ p, p = L[q]! := ⟨_, rfl⟩
                        have cp := HR4.out q (by rw [← HN.out]; omega)
                        rw [← hp] at cp
                        have cp0 := cp 0 _ rfl
                        simp only [Nat.add_zero] at cp0
                        have HF2 : Aside (b3 = ltKey keyA p ⟨nm, k, nn, x, s, y⟩) := by
                          show _ = _; rw [HF.out, ← hq, ← hp, show decide (j = 0) = false by simpa using hje]; rfl
                        clear cp hp
                        have p3 : ((j : Int) == 0) = false := by simp; omega
                        have hjz0 : ¬ (j : Int) = 0 := by omega
                        have e0 : ((j : Int) - 1).toNat = q := by omega
                        have e1 : IntKind.i64.wrap ((j : Int) - 1) = (q : Int) := by rw [IntKind.wrap_i64]; omega
                        have e2 : wrap64 ((j : Int) - 1) = (q : Int) := by unfold wrap64; omega
                        have q1 : (q : Int) < n := by omega
                        have q2 : (0 : Int) ≤ q := by omega
                        have lk := less_key p ⟨nm, k, nn, x, s, y⟩
                        simp only [] at lk
                        rw [← HF2.out] at lk
                        clear HF HF2 hq
                        go_region
                        go_wp2_with fail
                        go_meet
                        exact ⟨by first | exact congrArg Value.bool lk | rfl, rfl⟩
                    · have p2 : decide ((s.size : Int) ≤ 40) = false := decide_eq_false hsz
                      have HF : Aside (b3 = false) := by show _ = _; rw [HB3.out]; unfold vrightB; rw [p2]; simp
                      go_region
                      go_wp2_with fail
                      go_meet
                      exact ⟨congrArg Value.bool HF.out.symm, rfl⟩
                  · have p1 : decide (k ≤ 3) = false := decide_eq_false hk3
                    have HF : Aside (b3 = false) := by show _ = _; rw [HB3.out]; unfold vrightB; rw [p1]; simp
                    go_region
                    go_wp2_with fail
                    go_meet
                    exact ⟨congrArg Value.bool HF.out.symm, rfl⟩
                · have p0 : decide ((0 : Int) ≤ k) = false := decide_eq_false hk0
                  have HF : Aside (b3 = false) := by show _ = _; rw [HB3.out]; unfold vrightB; rw [p0]; simp
                  go_region
                  go_wp2_with fail
                  go_meet
                  exact ⟨congrArg Value.bool HF.out.symm, rfl⟩
              case rest =>
                obtain ⟨rfl, hwc⟩ := hcut
                rw [hwc]
                clear hwc wc HR4 l1
                have x0 : w4.drew.cell? ⟨V, 0, none⟩ = some (.int .i64 k) := v0
                have x1 : w4.drew.cell? ⟨V, 1, none⟩ = some (.int .i64 nn) := v1
                have x2 : w4.drew.cell? ⟨V, 2, none⟩ = some (.float .f64 x) := v2
                have x3 : w4.drew.cell? ⟨V, 3, none⟩ = some (.string s) := v3
                have x4 : w4.drew.cell? ⟨V, 4, none⟩ = some (.bool y) := v4
                have a0 : w4.drew.cell? ⟨A, 0, none⟩ = some (.string nm) := t0
                have HBw5 : Aside (Below w0.heap.size w0 w4.drew) := ⟨HBw4.out.os, HBw4.out.tape, HBw4.out.output, HBw4.out.size, HBw4.out.block⟩
                have hA5 : A < w4.drew.heap.size := hA4
                clear v0 v1 v2 v3 v4 t0 HBw4 hA4 hV4
                generalize w4.drew = w5 at *
                obtain ⟨b4, hb4⟩ : ∃ b4, b4 = (b3 && fieldsB ⟨nm, k, nn, x, s, y⟩) := ⟨_, rfl⟩
                have HB4 : Aside (b4 = (b3 && fieldsB ⟨nm, k, nn, x, s, y⟩)) := hb4
                rw [← hb4] at HOkj
                clear hb4
                go_upto_region 20 with fail
                go_cut [9] (fun s9 wx => s9 = .bool b4 ∧ wx = w5)
                case first =>
                  cases b3
                  · refine reg20_F V b4 nm k nn x s y w5 _ _ HB4.out ?_
                    intro y112 y113 y114 y115 y116 y117 y118 y119 y120 y121 y122 y123 y124 y125 y126 y127 y128 y129 y130 y131 y132 y133 y134 y135 y136 y137 y138 y139 y140 y141 y142 y143 y144 y145 y146 y147 y148 y149 y150 y151 y152
                    go_wp2_with fail
                    go_meet
                    exact ⟨rfl, rfl⟩
                  have hkk : 0 ≤ k ∧ k ≤ 3 := by
                    have h := HB3.out.symm
                    simp only [Bool.and_eq_true, vrightB, decide_eq_true_eq] at h
                    omega
                  rcases (show k = 0 ∨ k = 1 ∨ k = 2 ∨ k = 3 by omega) with rfl | rfl | rfl | rfl
                  · refine reg20_0 V b4 nm nn x s y w5 _ _ HB4.out x0 x2 x3 x4 ?_
                    intro y112 y113 y114 y115 y116 y117 y118 y119 y120 y121 y122 y123 y124 y125 y126 y127 y128 y129 y130 y131 y132 y133 y134 y135 y136 y137 y138 y139 y140 y141 y142 y143 y144 y145 y146 y147 y148 y149 y150 y151 y152
                    go_wp2_with fail
                    go_meet
                    exact ⟨rfl, rfl⟩
                  · refine reg20_1 V b4 nm nn x s y w5 _ _ HB4.out x0 x1 x3 x4 ?_
                    intro y112 y113 y114 y115 y116 y117 y118 y119 y120 y121 y122 y123 y124 y125 y126 y127 y128 y129 y130 y131 y132 y133 y134 y135 y136 y137 y138 y139 y140 y141 y142 y143 y144 y145 y146 y147 y148 y149 y150 y151 y152
                    go_wp2_with fail
                    go_meet
                    exact ⟨rfl, rfl⟩
                  · refine reg20_2 V b4 nm nn x s y w5 _ _ HB4.out x0 x1 x2 x4 ?_
                    intro y112 y113 y114 y115 y116 y117 y118 y119 y120 y121 y122 y123 y124 y125 y126 y127 y128 y129 y130 y131 y132 y133 y134 y135 y136 y137 y138 y139 y140 y141 y142 y143 y144 y145 y146 y147 y148 y149 y150 y151 y152
                    go_wp2_with fail
                    go_meet
                    exact ⟨rfl, rfl⟩
                  · refine reg20_3 V b4 nm nn x s y w5 _ _ HB4.out x0 x1 x2 x3 ?_
                    intro y112 y113 y114 y115 y116 y117 y118 y119 y120 y121 y122 y123 y124 y125 y126 y127 y128 y129 y130 y131 y132 y133 y134 y135 y136 y137 y138 y139 y140 y141 y142 y143 y144 y145 y146 y147 y148 y149 y150 y151 y152
                    go_wp2_with fail
                    go_meet
                    exact ⟨rfl, rfl⟩
                case rest =>
                  obtain ⟨rfl, hwc⟩ := hcut
                  rw [hwc]
                  clear hwc wc x0 x1 x2 x3 x4 HB4 HB3
                  have HSn : Aside (bz = (bw && b4)) := by
                    show _ = _; rw [HSn0.out, HOkj.out]
                  clear HOkj HSn0
                  go_upto_region 21 with fail
                  go_cut [6] (fun s6 wx => s6 = .bool (bw && b4) ∧ wx = w5)
                  case first =>
                    cases bw
                    · go_wp2_with fail
                      go_meet
                      exact ⟨rfl, rfl⟩
                    · go_wp2_with fail
                      go_meet
                      exact ⟨rfl, rfl⟩
                  case rest =>
                    obtain ⟨rfl, hwc⟩ := hcut
                    rw [hwc]
                    clear hwc wc
                    rw [← HSn.out]
                    have HNA : Aside (∀ W, Calls Tryz.prog 23 #[.string nm] W fun e w' => e = .returned (.bool o1) ∧ W = w') := fun W => by rw [HO1.out]; exact name_c nm W
                    have HNR : Aside (∀ W, Calls Tryz.prog 24 #[.string nm] W fun e w' => e = .returned (.bool o1) ∧ Below W.heap.size W w') := fun W => by rw [HO1.out]; exact nameRight_c nm W (by rw [← HMn.out]; exact hnmz)
                    have hoo : (o1 != o1) = false := by simp
                    have ad : w5.drew.cell? ⟨A, 0, none⟩ = some (.string nm) := a0
                    have HBd : Aside (Below w0.heap.size w0 w5.drew) := ⟨HBw5.out.os, HBw5.out.tape, HBw5.out.output, HBw5.out.size, HBw5.out.block⟩
                    clear HO1 HMn HBw5
                    go_upto_region 22 with fail
                    go_region_with (first
                      | (go_at_call 23; refine (HNA.out _).mono ?_; rintro e w6 ⟨rfl, rfl⟩)
                      | (go_at_call 24; refine (HNR.out _).mono ?_; rintro e w7 ⟨rfl, hb7⟩; have HB7 : Aside (Below w0.heap.size w0 w7) := HBd.out.trans (hb7.mono HBd.out.size)))
                    all_goals
                      go_wp2_with fail
                      go_roundg (n - (j + 1))
                      case measure => omega
                      case rel => exact ⟨j + 1, by go_num, hlt, Nat.le_refl _, congrArg Value.bool HBZ.out, HB7⟩
      · obtain rfl : j = n := by omega
        have HZ : Aside ((b8 && (List.range j).all (okAt L)) = rightE L) := by
          show _ = _; rw [HB8.out]; unfold rightE; rw [← HN.out]; congr 1; exact decide_eq_decide.2 (by omega)
        rw [HZ.out]
        have hrt := right_c ⟨#[]⟩ bo bc L wr (HM.out.row.below HB.out)
        rw [← HN.out] at hrt
        have HRt := Lib.hid hrt
        have hwz : w.heap.size ≤ w0.heap.size := HM.out.below.size
        have HBe : Aside (Below w.heap.size w wr) := HM.out.below.trans (HB.out.mono hwz)
        have hrr : (rightE L == rightE L) = true := by simp
        generalize rightE L = rr at *
        clear hrt hlt hj hjx HB HM HZ HB8
        go_wp2_with fail
        refine HRt.out.mono ?_
        rintro e w6 ⟨rfl, hb6⟩
        have HB6 : Aside (Below w.heap.size w w6) := HBe.out.trans (hb6.mono HBe.out.size)
        clear hb6
        go_wp2_with fail
        go_ret
        exact ⟨rfl, HB6.out⟩
end Go.Proofs.YtecfbbddhnkilaaGreatDoor
