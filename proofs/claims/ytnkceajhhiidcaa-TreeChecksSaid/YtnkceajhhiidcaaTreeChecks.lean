/- TreeChecks: pairs are a tree just if they join all brokers without going round. -/
import Derived.Test.YtnkceajhhiidcaaTreeCP
import Derived.Deep.QuietTactic
import Derived.BigQuiet
namespace Go.Proofs.Ytnkceajhhiidcaa
open Go.RowKit Go.Shelf Go.Sort
open Go.Proofs
set_option maxRecDepth 100000

set_option maxHeartbeats 16000000 in
theorem treeChecks_c (n0 : Int) (ao : Option Addr) (pcap : Nat) (ps : List (Int × Int)) (w : World) (hp : PairsB w ao ps) :
    Calls Try.prog 3 #[.int .i64 n0, .slice ao ps.length pcap] w fun e w' => e = .returned (.bool true) ∧ Below w.heap.size w w' := by
  have HFT : Aside (∀ W, Calls Try.prog 7 #[] W fun e w' => e = .returned (.bool true) ∧ Below W.heap.size W w') := fun W => fit9_c W
  obtain ⟨L, hL⟩ : ∃ L, L = ps.length := ⟨_, rfl⟩
  have HL := Lib.hid hL
  have HP := Lib.hid hp
  have HNO : Aside (∀ n : Int, (n < 1 ∨ 6 < n) → ∀ W, Calls Try.prog 8 #[.int .i64 n, .slice ao L pcap] W fun e w' => e = .returned (.tuple #[.pointer none, .int .i64 3]) ∧ W = w') := fun n hn W => new_no n ao pcap L hn W
  have HNW : Aside (∀ n : Nat, 1 ≤ n → n ≤ 6 → L ≤ 30 → ∀ r, newP n ps = some r → ∀ W, Below w.heap.size w W → Calls Try.prog 8 #[.int .i64 n, .slice ao L pcap] W (NewIs n r W)) := fun n h1 h6 hl r hr W hW => by
    rw [hL]
    exact new_c n h1 h6 ao pcap ps r hr (by omega) W (hp.below hW)
  rw [← hL]
  clear hp hL
  by_cases h30 : L ≤ 30
  · have h30z : (L : Int) ≤ 30 := by omega
    have hL0 : (0 : Int) ≤ (L : Int) := by omega
    by_cases hn : n0 < 1 ∨ 6 < n0
    · have HN := Lib.hid (HNO.out n0 hn)
      have hn2 : n0 < 1 ∨ (¬ n0 < 1 ∧ 6 < n0) := by omega
      clear hn HNO HNW
      go_enter Try.func3, Try.ntmps3
      go_wp2_with fail
      refine (HFT.out _).mono ?_
      rintro e w1 ⟨rfl, hb1⟩
      have HB1 := Lib.hid hb1
      clear hb1 HFT
      go_wp2_with fail
      refine (HN.out _).mono ?_
      rintro e w2 ⟨rfl, rfl⟩
      rcases hn2 with h | ⟨h, h2⟩
      all_goals
        go_wp2_with fail
        go_ret
        exact ⟨rfl, HB1.out⟩
    · obtain ⟨n, rfl⟩ := Int.eq_ofNat_of_zero_le (show 0 ≤ n0 by omega)
      have h1 : 1 ≤ n := by omega
      have h6 : n ≤ 6 := by omega
      obtain ⟨r, hr⟩ := newP_total h6 ps
      have HN := Lib.hid (HNW.out n h1 h6 h30 r hr)
      have HR : Aside (newP n ps = some r) := hr
      have h1z : (1 : Int) ≤ n := by omega
      have h6z : (n : Int) ≤ 6 := by omega
      have d30 : decide ((30 : Int) < (L : Int)) = false := by simp; omega
      have dn1 : decide ((n : Int) < 1) = false := by simp; omega
      have dn6 : decide ((6 : Int) < (n : Int)) = false := by simp; omega
      clear hn HNO HNW hr
      go_enter Try.func3, Try.ntmps3
      go_wp2_with fail
      refine (HFT.out _).mono ?_
      rintro e w1 ⟨rfl, hb1⟩
      have HB1 := Lib.hid hb1
      clear hb1 HFT
      go_wp2_with fail
      have HN2 : Aside (Calls Try.prog 8 #[.int .i64 n, .slice ao L pcap] w1 fun e w' => ∃ tv, ∃ c : Nat, e = .returned (.tuple #[tv, .int .i64 c]) ∧
          Aside (((∃ c', r = .error c' ∧ c = c' ∧ tv = .pointer none) ∨ ∃ m T N, r = .ok m ∧ c = 0 ∧ tv = tp T ∧ Tr w' T N n m) ∧ Below w.heap.size w w')) :=
        (HN.out w1 HB1.out).mono fun e w' h => by
          cases r with
          | error c => exact ⟨_, c, h.1, Or.inl ⟨c, rfl, rfl, rfl⟩, HB1.out.trans (h.2.2.mono HB1.out.size)⟩
          | ok m =>
            obtain ⟨T, N, q1, q2⟩ := h
            exact ⟨_, 0, q1, Or.inr ⟨m, T, N, rfl, rfl, rfl, q2.1⟩, HB1.out.trans (q2.2.2.2.mono HB1.out.size)⟩
      clear HN
      refine HN2.out.mono ?_
      rintro e w2 ⟨tv, c, rfl, H2⟩
      have HRV := Lib.hid H2.out.1
      have HB2 := Lib.hid H2.out.2
      clear HN2 HB1 H2
      go_wp2_with fail
      clear d30 dn1 dn6
      generalize hW3 : (w2.alloc (.cells #[.bool false, .bool false, .bool false, .bool false, .bool false, .bool false, .bool false, .bool false, .bool false, .bool false, .bool false, .bool false, .bool false, .bool false, .bool false, .bool false, .bool false, .bool false, .bool false, .bool false, .bool false, .bool false, .bool false, .bool false, .bool false, .bool false, .bool false, .bool false, .bool false, .bool false, .bool false, .bool false, .bool false, .bool false, .bool false, .bool false] 29)) = w3
      obtain ⟨A, hA⟩ : ∃ A, A = w2.heap.size := ⟨_, rfl⟩
      have HA0 := Lib.hid hA
      have HBZ : Aside (BitsAt w3 A 29 36 0) := by
        rw [← hW3, hA]
        have h := World.rowIs_alloc w2 (Array.replicate 36 (Value.bool false)) 29 (fun k => .bool ((0 : Nat).testBit k)) (fun i hi => by
          rw [Array.getElem?_replicate, if_pos (by simpa using hi), Nat.zero_testBit])
        rw [Array.size_replicate] at h
        exact h
      have HB3 : Aside (Below A w2 w3) := by rw [← hW3, hA]; exact (Below.refl _ _).alloc (Nat.le_refl _) _
      rw [← hA]
      clear hW3 hA
      have hzA : A + 1 ≤ w3.heap.size := HBZ.out.lt
      obtain ⟨R, hR⟩ : ∃ R, R = allP n 0 ps := ⟨_, rfl⟩
      have HRR : Aside ((∀ c', R = some (.error c') → r = .error c') ∧ (∀ m, R = some (.ok m) → r = if (L : Int) ≠ (n : Int) - 1 then .error 1 else .ok m)) := by
        have h := HR.out
        unfold newP at h
        rw [← hR, ← HL.out] at h
        refine ⟨fun c' e => ?_, fun m e => ?_⟩
        · rw [e] at h; injection h with h; exact h.symm
        · rw [e] at h
          simp only at h
          split at h
          · rename_i hl; injection h with h; rw [if_pos hl]; exact h.symm
          · rename_i hl; injection h with h; rw [if_neg hl]; exact h.symm
      have HD0 : Aside (allP n 0 (ps.drop 0) = R) := by rw [List.drop_zero]; exact hR.symm
      have HD : Aside (∀ j m, j < L → allP n m (ps.drop j) = match stepP n m ps[j]! with
        | none => none
        | some (.error e) => some (.error e)
        | some (.ok m') => allP n m' (ps.drop (j + 1))) := fun j m hj => allP_drop (by rw [← HL.out]; exact hj)
      have HE : Aside (∀ m, allP n m (ps.drop L) = some (.ok m)) := fun m => by rw [HL.out, List.drop_length]; rfl
      have HPC : Aside (∀ W, Below A w2 W → ∀ j, j < L → ∃ b off, ao = some ⟨b, off, none⟩ ∧ W.cell? ⟨b, off + j * 2, none⟩ = some (.int .i64 ps[j]!.1) ∧ W.cell? ⟨b, off + j * 2 + 1, none⟩ = some (.int .i64 ps[j]!.2)) := fun W hW j hj => by
        rw [HA0.out] at hW
        have hW2 := HB2.out.trans (hW.mono HB2.out.size)
        rcases HP.out.below hW2 with h | ⟨b, off, h1, _, h3⟩
        · have := HL.out; rw [h] at this; simp at this; omega
        · exact ⟨b, off, h1, h3 j (by rw [← HL.out]; exact hj)⟩
      have HEND : Aside (∀ W, Below A w2 W → Below w.heap.size w W) := fun W hW => by
        rw [HA0.out] at hW
        exact HB2.out.trans (hW.mono HB2.out.size)
      clear HR HL HP hR
      go_loopg [42] L (fun kx s42 wr => ∃ j m : Nat, s42 = .int .i64 j ∧ j ≤ L ∧ L - j ≤ kx ∧ Aside (allP n m (ps.drop j) = R ∧ Fo m) ∧ Aside (BitsAt wr A 29 36 m) ∧ Aside (Below A w2 wr ∧ A + 1 ≤ wr.heap.size))
      case atStart => exact ⟨0, 0, rfl, Nat.zero_le _, by omega, ⟨HD0.out, fo_zero⟩, HBZ.out, HB3.out, hzA⟩
      case round =>
        clear HD0 HBZ HB3 hzA
        obtain ⟨j, m, rfl, hj, hjx, HJ, HN, HA⟩ := hrel
        by_cases hlt : j < L
        · obtain ⟨pb, po, rfl, c0, c1⟩ := HPC.out _ HA.out.1 j hlt
          have hd := HD.out j m hlt
          rw [HJ.out.1] at hd
          have hF := HJ.out.2
          clear HPC HD HE HJ
          generalize ps[j]! = p at c0 c1 hd
          obtain ⟨a, b⟩ := p
          simp only at c0 c1
          have hltz : (j : Int) < L := by omega
          have hjz : (0 : Int) ≤ (j : Int) := by omega
          rcases step_cases hF h6 a b with ⟨hbad, hs⟩ | ⟨x, y, rfl, rfl, hx, hy, hxy, ⟨hre, hs⟩ | ⟨hre, hs, hF2⟩⟩
          · rw [hs] at hd
            have hrc := HRR.out.1 3 hd
            obtain ⟨rfl, rfl⟩ : c = 3 ∧ tv = .pointer none := by
              rcases HRV.out with ⟨c', q1, q2, q3⟩ | ⟨m, T, N, q1, _⟩
              · rw [hrc] at q1
                injection q1 with q1
                exact ⟨q2.trans q1.symm, q3⟩
              · rw [hrc] at q1; cases q1
            have HBX : Aside (Below w.heap.size w (wr.alloc (.cells #[.int .i64 a, .int .i64 b] 31))) := HEND.out _ (HA.out.1.alloc (by have := HA.out.2; omega) _)
            have hb5 : a < 0 ∨ (¬ a < 0 ∧ b < 0) ∨ (¬ a < 0 ∧ ¬ b < 0 ∧ (n : Int) ≤ a) ∨ (¬ a < 0 ∧ ¬ b < 0 ∧ ¬ (n : Int) ≤ a ∧ (n : Int) ≤ b) ∨ (¬ a < 0 ∧ ¬ b < 0 ∧ ¬ (n : Int) ≤ a ∧ ¬ (n : Int) ≤ b ∧ (a == b) = true) := by
              rw [beq_iff_eq]; unfold badP at hbad; omega
            clear hs hd hbad hF HRR HRV hrc
            rcases hb5 with q1 | ⟨q1, q2⟩ | ⟨q1, q2, q3⟩ | ⟨q1, q2, q3, q4⟩ | ⟨q1, q2, q3, q4, q5⟩
            all_goals
              go_wp2_with fail
              go_ret
              exact ⟨rfl, HBX.out⟩
          all_goals
            have hxz : (x : Int) < n := by omega
            have hyz : (y : Int) < n := by omega
            have hx0 : (0 : Int) ≤ (x : Int) := by omega
            have hy0 : (0 : Int) ≤ (y : Int) := by omega
            have hx6 : (x : Int) < 6 := by omega
            have hy6 : (y : Int) < 6 := by omega
            have hxq : ((x : Int) == (y : Int)) = false := by rw [beq_eq_false_iff_ne]; omega
            have hblt : A < wr.heap.size := HN.out.lt
            have hbal : Below wr.heap.size wr (wr.alloc (.cells #[.int .i64 (x : Int), .int .i64 (y : Int)] 31)) := (Below.refl _ _).alloc (Nat.le_refl _) _
            have hN4 : BitsAt (wr.alloc (.cells #[.int .i64 (x : Int), .int .i64 (y : Int)] 31)) A 29 36 m := HN.out.alloc _
            have HRC := Lib.hid (reach_c A 29 m x y (by omega) (by omega) _ hN4)
            rw [hre] at HRC
          · rw [hs] at hd
            have hrc := HRR.out.1 1 hd
            obtain ⟨rfl, rfl⟩ : c = 1 ∧ tv = .pointer none := by
              rcases HRV.out with ⟨c', q1, q2, q3⟩ | ⟨m, T, N, q1, _⟩
              · rw [hrc] at q1
                injection q1 with q1
                exact ⟨q2.trans q1.symm, q3⟩
              · rw [hrc] at q1; cases q1
            have HBX : Aside (Below A w2 (wr.alloc (.cells #[.int .i64 (x : Int), .int .i64 (y : Int)] 31))) := HA.out.1.alloc (by omega) _
            have hzx : A ≤ (wr.alloc (.cells #[.int .i64 (x : Int), .int .i64 (y : Int)] 31)).heap.size := by simp; omega
            clear hs hd hF HRR HRV hrc hbal hN4 hblt hx hy hxy HN HA hre
            go_wp2_with fail
            refine HRC.out.mono ?_
            rintro e w5 ⟨rfl, hb5⟩
            have HBY := Lib.hid (HEND.out _ (HBX.out.trans (hb5.mono hzx)))
            clear hb5 HBX HEND hzx HRC
            go_wp2_with fail
            go_ret
            exact ⟨rfl, HBY.out⟩
          · rw [hs] at hd
            have HDN := Lib.hid hd.symm
            have HF2 := Lib.hid hF2
            have HBX : Aside (Below A w2 (wr.alloc (.cells #[.int .i64 (x : Int), .int .i64 (y : Int)] 31))) := HA.out.1.alloc (by omega) _
            have hzx : A ≤ (wr.alloc (.cells #[.int .i64 (x : Int), .int .i64 (y : Int)] 31)).heap.size := by simp; omega
            have hpc : (wr.alloc (.cells #[.int .i64 (x : Int), .int .i64 (y : Int)] 31)).cell? ⟨wr.heap.size, 0, none⟩ = some (.int .i64 (x : Int)) ∧ (wr.alloc (.cells #[.int .i64 (x : Int), .int .i64 (y : Int)] 31)).cell? ⟨wr.heap.size, 1, none⟩ = some (.int .i64 (y : Int)) := ⟨by rw [World.cell?_alloc_new]; rfl, by rw [World.cell?_alloc_new]; rfl⟩
            have HPC2 := Lib.hid hpc
            have HN4 := Lib.hid hN4
            have HXY : Aside (x < 6 ∧ y < 6 ∧ x ≠ y ∧ A < wr.heap.size) := ⟨by omega, by omega, hxy, hblt⟩
            clear hs hd hF HRR HRV hbal hN4 hblt hx hy hxy HN HA hre hF2 hpc
            go_wp2_with fail
            refine HRC.out.mono ?_
            rintro e w5 ⟨rfl, hb5⟩
            have hN5 : BitsAt w5 A 29 36 m := HN4.out.of_block (hb5.block A HN4.out.lt)
            have p0 : w5.cell? ⟨wr.heap.size, 0, none⟩ = some (.int .i64 (x : Int)) := (hb5.cell (p := ⟨wr.heap.size, 0, none⟩) (by simp)).trans HPC2.out.1
            have p1 : w5.cell? ⟨wr.heap.size, 1, none⟩ = some (.int .i64 (y : Int)) := (hb5.cell (p := ⟨wr.heap.size, 1, none⟩) (by simp)).trans HPC2.out.2
            have cxy := hN5.cell (i := x * 6 + y) (by have := HXY.out; omega)
            have cyx := hN5.cell (i := y * 6 + x) (by have := HXY.out; omega)
            have fxy := hN5.frozen (x * 6 + y)
            have fyx := hN5.frozen (y * 6 + x)
            have hne1 : (x * 6 + y = y * 6 + x) = False := eq_false (by have := HXY.out; omega)
            have hne2 : (y * 6 + x = x * 6 + y) = False := eq_false (by have := HXY.out; omega)
            have HBY : Aside (Below A w2 w5) := HBX.out.trans (hb5.mono hzx)
            have HZ : Aside (A + 1 ≤ w5.heap.size) := hN5.lt
            have HX1 := Lib.hid (bits_put (x := x) (y := y) hN5)
            have HX2 : Aside (BitsAt ((w5.setCell ⟨A, y * 6 + x, none⟩ (.bool true)).setCell ⟨A, x * 6 + y, none⟩ (.bool true)) A 29 36 (putE m x y)) := by
              rw [putE_swap]; exact bits_put hN5
            have hPA : wr.heap.size ≠ A := by have := HXY.out; omega
            have s0 : ∀ o, (w5.setCell ⟨A, o, none⟩ (.bool true)).cell? ⟨wr.heap.size, 0, none⟩ = some (.int .i64 (x : Int)) := fun o => (World.cell?_of_block (w := w5) (Below.heap_setCell _ _ _ _ hPA)).trans p0
            have s1 : ∀ o, (w5.setCell ⟨A, o, none⟩ (.bool true)).cell? ⟨wr.heap.size, 1, none⟩ = some (.int .i64 (y : Int)) := fun o => (World.cell?_of_block (w := w5) (Below.heap_setCell _ _ _ _ hPA)).trans p1
            have s0x := s0 (x * 6 + y); have s0y := s0 (y * 6 + x); have s1x := s1 (x * 6 + y); have s1y := s1 (y * 6 + x)
            clear hb5 HBX hzx HRC HPC2 HN4 hN5 s0 s1 hPA
            generalize wr.heap.size = P at *
            go_wp2_with fail
            go_region
            all_goals
              go_wp2_with fail
              go_roundg (L - (j + 1))
              case measure => omega
              case rel => exact ⟨j + 1, putE m x y, by go_num, by omega, Nat.le_refl _, ⟨HDN.out, HF2.out⟩, by first | exact HX1.out | exact HX2.out, ((HBY.out.setCell (Nat.le_refl A) _).setCell (Nat.le_refl A) _).drew, by simpa using HZ.out⟩
        · obtain rfl : j = L := by omega
          have hrm := HRR.out.2 m (HJ.out.1.symm.trans (HE.out m))
          clear HD HE HPC HJ HRR
          by_cases hl : (j : Int) ≠ (n : Int) - 1
          · rw [if_pos hl] at hrm
            obtain ⟨rfl, rfl⟩ : c = 1 ∧ tv = .pointer none := by
              rcases HRV.out with ⟨c', q1, q2, q3⟩ | ⟨m, T, N, q1, _⟩
              · rw [hrm] at q1
                injection q1 with q1
                exact ⟨q2.trans q1.symm, q3⟩
              · rw [hrm] at q1; cases q1
            have hq : ((j : Int) == (n : Int) - 1) = false := by rw [beq_eq_false_iff_ne]; exact hl
            clear hrm HRV hl
            go_wp2_with fail
            go_ret
            exact ⟨rfl, HEND.out _ HA.out.1⟩
          · rw [if_neg hl] at hrm
            obtain ⟨T, N, rfl, rfl, HT⟩ : ∃ T N, c = 0 ∧ tv = tp T ∧ Aside (Tr w2 T N n m) := by
              rcases HRV.out with ⟨c', q1, q2, q3⟩ | ⟨m', T, N, q1, q2, q3, q4⟩
              · rw [hrm] at q1; cases q1
              · rw [hrm] at q1
                injection q1 with q1
                subst q1
                exact ⟨T, N, q2, q3, q4⟩
            have hq : ((j : Int) == (n : Int) - 1) = true := by rw [beq_iff_eq]; omega
            have HTW : Aside (∀ W, Below A w2 W → Tr W T N n m) := fun W hW => HT.out.below (by rw [HA0.out] at hW; exact hW)
            have HRN : Aside (∀ i, i < n → ∀ x ∈ row m i, x < n) := HT.out.cl
            clear hrm HRV hl HT
            have HLN := Lib.hid (fun W hW => len_c T N n m W (HTW.out W hW))
            go_wp2_with fail
            refine (HLN.out _ HA.out.1).mono ?_
            rintro e w5 ⟨rfl, rfl⟩
            clear HLN hq
            go_wp2_with fail
            have HNE : Aside (∀ t, t < n → ∀ W, Below A w2 W → Calls Try.prog 11 #[tp T, .int .i64 t] W fun e w' => ∃ ao cap, e = .returned (.slice ao (row m t).length cap) ∧ Aside (IntsAt w' ao (row m t) ∧ Below W.heap.size W w')) := fun t ht W hW =>
              (near_c T N n m t W (HTW.out W hW)).mono fun e w' h => by rw [nearP_nat ht] at h; exact way_any h
            have HNZ : Aside (∀ t : Int, hasB n t = false → ∀ W, Below A w2 W → Calls Try.prog 11 #[tp T, .int .i64 t] W fun e w' => e = .returned (.slice none 0 0) ∧ Below W.heap.size W w') := fun t ht W hW =>
              (near_c T N n m t W (HTW.out W hW)).mono fun e w' h => by
                have e1 : nearP n m t = [] := by unfold nearP; rw [ht]; rfl
                rw [e1] at h
                exact way_nil h
            have HLK : Aside (∀ t u : Nat, t < n → u < n → ∀ W, Below A w2 W → Calls Try.prog 12 #[tp T, .int .i64 t, .int .i64 u] W fun e w' => e = .returned (.bool (m.testBit (6 * t + u))) ∧ W = w') := fun t u ht hu W hW => by
              have := linked_c T N n m t u W (HTW.out W hW)
              rw [linked_bit h6 ht hu] at this
              exact this
            have HLZ : Aside (∀ W, Below A w2 W → Calls Try.prog 12 #[tp T, .int .i64 (-1), .int .i64 0] W fun e w' => e = .returned (.bool false) ∧ W = w') := fun W hW =>
              linked_c T N n m (-1) 0 W (HTW.out W hW)
            have HBI : Aside (∀ W, Below wr.heap.size wr W → ∀ t u, t < n → u < n → W.cell? ⟨A, t * 6 + u, none⟩ = some (.bool (m.testBit (6 * t + u)))) := fun W hW t u ht hu => by
              rw [hW.cell (p := ⟨A, t * 6 + u, none⟩) HN.out.lt, HN.out.cell (by omega), Nat.mul_comm]
            have HAw : Aside (∀ W, Below wr.heap.size wr W → Below A w2 W) := fun W hW => HA.out.1.trans (hW.mono (by have := HA.out.2; omega))
            have HRS : Aside (∀ i k, k + 1 < (row m i).length → (row m i)[k]! < (row m i)[k + 1]!) := fun i k h => row_rises h
            have HCR : Aside (∀ i, i < n → cntP m i n = (row m i).length) := fun i hi => cnt_row h6 (HRN.out i hi)
            have HRL : Aside (∀ i, (row m i).length ≤ 6) := row_len m
            clear HTW HRN HN
            obtain ⟨rw_, hrw⟩ : ∃ rw_ : Nat → List Nat, rw_ = row m := ⟨_, rfl⟩
            rw [← hrw] at HNE HRS HCR HRL
            clear hrw
            generalize hw6 : wr = w6 at *
            clear hw6
            have hbq : ∀ (W : World) k, Below W.heap.size W (W.drewN k) := fun W k => ⟨rfl, rfl, rfl, Nat.le_refl _, fun _ _ => rfl⟩
            have HBQ := Lib.hid hbq
            clear hbq HA0
            go_loopg [128] n (fun kx s128 wr => ∃ i : Nat, s128 = .int .i64 i ∧ i ≤ n ∧ n - i ≤ kx ∧ Aside (Below w6.heap.size w6 wr))
            case atStart => exact ⟨0, rfl, Nat.zero_le _, by omega, Below.refl _ _⟩
            case round =>
              obtain ⟨i, rfl, hi, hix, HAi⟩ := hrel
              have zi : w6.heap.size ≤ wr.heap.size := HAi.out.size
              by_cases hil : i < n
              · have hilz : (i : Int) < n := by omega
                have hi0 : (0 : Int) ≤ (i : Int) := by omega
                have HNi := Lib.hid (HNE.out i hil)
                have HLi := Lib.hid (fun u hu => HLK.out i u hil hu)
                have HBi := Lib.hid (fun W hW u hu => HBI.out W hW i u hil hu)
                have HCi := Lib.hid (HCR.out i hil)
                have HRi := Lib.hid (HRS.out i)
                have hrl := HRL.out i
                clear HNE HLK HBI HCR HRS HRL HNZ HLZ
                generalize rw_ i = Ro at *
                obtain ⟨d, hd⟩ : ∃ d, d = Ro.length := ⟨_, rfl⟩
                rw [← hd] at HNi HCi hrl HRi
                have HDD := Lib.hid hd
                clear hd
                have hd0 : (0 : Int) ≤ (d : Int) := by omega
                have hd6 : (d : Int) ≤ 6 := by omega
                go_wp2_with fail
                refine (HNi.out _ (HAw.out _ HAi.out)).mono ?_
                rintro e w7 ⟨ao7, cap7, rfl, H7⟩
                have HI7 := Lib.hid H7.out.1
                have HA7 : Aside (Below w6.heap.size w6 w7) := HAi.out.trans (H7.out.2.mono zi)
                have z7 : w6.heap.size ≤ w7.heap.size := HA7.out.size
                clear H7 HNi
                go_wp2_with fail
                go_loopg [13] d (fun kx s13 wr => ∃ k : Nat, s13 = .int .i64 k ∧ 1 ≤ k ∧ d - k ≤ kx ∧ k ≤ 7 ∧ Aside (Below w7.heap.size w7 wr))
                case atStart => exact ⟨1, rfl, Nat.le_refl _, by omega, by omega, Below.refl _ _⟩
                case round =>
                  obtain ⟨k, rfl, hk1, hkx, hk7, HAk⟩ := hrel
                  by_cases hkl : k < d
                  · have hklz : (k : Int) < d := by omega
                    have hk0 : (0 : Int) ≤ (k : Int) := by omega
                    obtain ⟨r, hr⟩ : ∃ r, r = k - 1 := ⟨_, rfl⟩
                    have hkR : k < Ro.length := by rw [← HDD.out]; exact hkl
                    obtain ⟨G, rfl, hc, hc2⟩ : ∃ G, ao7 = some ⟨G, 0, none⟩ ∧ wr.cell? ⟨G, k, none⟩ = some (.int .i64 ((Ro[k]! : Nat) : Int)) ∧ wr.cell? ⟨G, r, none⟩ = some (.int .i64 ((Ro[r]! : Nat) : Int)) := by
                      rcases HI7.out.below HAk.out with h | ⟨G, h1, _, h3⟩
                      · rw [h] at hkR; simp at hkR
                      · exact ⟨G, h1, h3 k hkR, h3 r (by omega)⟩
                    have hlt2 := HRi.out r (by omega)
                    rw [show r + 1 = k by omega] at hlt2
                    have hidx : (k : Int) - 1 = (r : Int) := by omega
                    have hr0 : (0 : Int) ≤ (r : Int) := by omega
                    have hrd : (r : Int) < d := by omega
                    generalize Ro[k]! = v at *
                    generalize Ro[r]! = u at *
                    have huv : (u : Int) < (v : Int) := by omega
                    have HXk : Aside (∀ q, Below w7.heap.size w7 (wr.drewN q)) := fun q => HAk.out.trans ((HBQ.out wr q).mono HAk.out.size)
                    clear hr hkR HI7 HRi hlt2 HDD
                    go_wp2_with fail
                    go_quiet (fail)
                    go_wp2_with fail
                    go_roundg (d - (k + 1))
                    case measure => omega
                    case rel => exact ⟨k + 1, by go_num, by omega, Nat.le_refl _, by omega, HXk.out _⟩
                  · have hklz : ¬ (k : Int) < d := by omega
                    have HA8 : Aside (Below w6.heap.size w6 wr) := HA7.out.trans (HAk.out.mono z7)
                    have z8 : w6.heap.size ≤ wr.heap.size := HA8.out.size
                    clear HI7 HRi HDD
                    go_wp2_with fail
                    have HCL : Aside (∀ j, cntP m i j ≤ j) := cnt_le m i
                    have HC0 : Aside (cntP m i 0 = 0) := rfl
                    have HCS : Aside (∀ j, cntP m i (j + 1) = cntP m i j + if m.testBit (6 * i + j) then 1 else 0) := fun _ => rfl
                    generalize cntP m i = cn at *
                    generalize hwk : wr = w8 at *
                    clear hwk
                    go_loopg [14, 151] n (fun kx s14 s151 wr => ∃ j : Nat, s14 = .int .i64 (cn j : Nat) ∧ s151 = .int .i64 j ∧ j ≤ n ∧ n - j ≤ kx ∧ Aside (Below w8.heap.size w8 wr))
                    case atStart => exact ⟨0, by rw [HC0.out]; rfl, rfl, Nat.zero_le _, by omega, Below.refl _ _⟩
                    case round =>
                      clear HC0
                      obtain ⟨u, rfl, rfl, hu, hux, HAu⟩ := hrel
                      have HA9 : Aside (Below w6.heap.size w6 wr) := HA8.out.trans (HAu.out.mono z8)
                      by_cases hul : u < n
                      · have hulz : (u : Int) < n := by omega
                        have hu0 : (0 : Int) ≤ (u : Int) := by omega
                        have hi6 : (i : Int) < 6 := by omega
                        have hu6 : (u : Int) < 6 := by omega
                        have hcb := HBi.out wr HA9.out u hul
                        have HLq : Aside (∀ q, Calls Try.prog 12 #[tp T, .int .i64 i, .int .i64 u] (wr.drewN q) fun e w' => e = .returned (.bool (m.testBit (6 * i + u))) ∧ w' = wr.drewN q) := fun q => (HLi.out u hul _ (HAw.out _ (HA9.out.trans ((HBQ.out wr q).mono HA9.out.size)))).mono fun e w' h => ⟨h.1, h.2.symm⟩
                        have hs := HCS.out u
                        have hcl := HCL.out u
                        have HXu : Aside (∀ q, Below w8.heap.size w8 (wr.drewN q)) := fun q => HAu.out.trans ((HBQ.out wr q).mono HAu.out.size)
                        generalize m.testBit (6 * i + u) = bt at *
                        have HS := Lib.hid hs
                        obtain ⟨cu, hcu⟩ : ∃ cu, cu = cn u := ⟨_, rfl⟩
                        rw [← hcu] at HS hcl ⊢
                        clear hs hcu HLi HBi HCS HCL HA9
                        have hc0 : (0 : Int) ≤ (cu : Int) := by omega
                        have hc6 : (cu : Int) ≤ 6 := by omega
                        go_wp2_with fail
                        go_quiet ((go_at_call 12; exact Calls.quiet_of_same (HLq.out _)))
                        have HXq := Lib.hid (HXu.out nq)
                        have hcb2 : (wr.drewN nq).cell? ⟨A, i * 6 + u, none⟩ = some (.bool bt) := hcb
                        clear hcb HXu HLq
                        generalize wr.drewN nq = w9 at *
                        cases bt
                        · have HS2 : Aside (cn (u + 1) = cu) := HS.out
                          clear HS
                          go_wp2_with fail
                          go_roundg (n - (u + 1))
                          case measure => omega
                          case rel => exact ⟨u + 1, by rw [HS2.out], by go_num, hul, Nat.le_refl _, HXq.out⟩
                        · have HS2 : Aside (cn (u + 1) = cu + 1) := HS.out
                          clear HS
                          go_wp2_with fail
                          go_roundg (n - (u + 1))
                          case measure => omega
                          case rel => exact ⟨u + 1, by rw [HS2.out]; go_num, by go_num, hul, Nat.le_refl _, HXq.out⟩
                      · obtain rfl : u = n := by omega
                        have hcn := HCi.out
                        have HA9' : Aside (Below w6.heap.size w6 wr) := HA9.out
                        rw [hcn]
                        clear hcn HBi HLi HCS HCL HCi
                        go_wp2_with fail
                        go_roundg (u - (i + 1))
                        case measure => omega
                        case rel => exact ⟨i + 1, by go_num, hil, Nat.le_refl _, HA9'.out⟩
              · obtain rfl : i = n := by omega
                have HZ1 : Aside (∀ W, Below w6.heap.size w6 W → Calls Try.prog 11 #[tp T, .int .i64 i] W fun e w' => e = .returned (.slice none 0 0) ∧ Below W.heap.size W w') := fun W hW => HNZ.out i (by
                  cases hh : hasB i (i : Int)
                  · rfl
                  · have := (hasB_iff.1 hh).2; omega) W (HAw.out W hW)
                have HZ2 : Aside (∀ W, Below w6.heap.size w6 W → Calls Try.prog 11 #[tp T, .int .i64 (-1)] W fun e w' => e = .returned (.slice none 0 0) ∧ Below W.heap.size W w') := fun W hW => HNZ.out (-1) (by
                  cases hh : hasB i (-1)
                  · rfl
                  · have := (hasB_iff.1 hh).1; omega) W (HAw.out W hW)
                have HZ3 : Aside (∀ W, Below w6.heap.size w6 W → Calls Try.prog 12 #[tp T, .int .i64 (-1), .int .i64 0] W fun e w' => e = .returned (.bool false) ∧ W = w') := fun W hW => HLZ.out W (HAw.out W hW)
                clear HNE HLK HBI HCR HRS HRL HNZ HLZ
                go_wp2_with fail
                refine (HZ1.out _ HAi.out).mono ?_
                rintro e w7 ⟨rfl, hb7⟩
                have HA7 : Aside (Below w6.heap.size w6 w7) := HAi.out.trans (hb7.mono zi)
                have z7 : w6.heap.size ≤ w7.heap.size := HA7.out.size
                clear hb7 HZ1
                go_wp2_with fail
                refine (HZ2.out _ HA7.out).mono ?_
                rintro e w8 ⟨rfl, hb8⟩
                have HA8 : Aside (Below w6.heap.size w6 w8) := HA7.out.trans (hb8.mono z7)
                clear hb8 HZ2
                go_wp2_with fail
                refine (HZ3.out _ HA8.out).mono ?_
                rintro e w9 ⟨rfl, rfl⟩
                go_wp2_with fail
                go_ret
                exact ⟨rfl, HEND.out _ (HAw.out _ HA8.out)⟩
  · have h30z : (30 : Int) < (L : Int) := by omega
    clear HNO HNW
    go_enter Try.func3, Try.ntmps3
    go_wp2_with fail
    refine (HFT.out _).mono ?_
    rintro e w1 ⟨rfl, hb1⟩
    have HB1 := Lib.hid hb1
    clear hb1 HFT
    go_wp2_with fail
    go_ret
    exact ⟨rfl, HB1.out⟩
end Go.Proofs.Ytnkceajhhiidcaa
