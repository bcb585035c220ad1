/- TreeTurns: the order of pairs, and of both in one, plays no part. -/
import Derived.Test.YtnkceajhhiidcaaTreeTP
import Derived.Deep.QuietTactic
import Derived.BigQuiet
namespace Go.Proofs.Ytnkceajhhiidcaa
open Go.RowKit Go.Shelf Go.Sort
open Go.Proofs
set_option maxRecDepth 100000
attribute [local go_sem ↓] append_pre

set_option maxHeartbeats 8000000 in
theorem treeTurns_c (n0 : Int) (ao : Option Addr) (ucap : Nat) (up : List Int) (turn : Int) (w : World) (hup : UpsB w ao up) :
    Calls Try.prog 6 #[.int .i64 n0, .slice ao up.length ucap, .int .i64 turn] w fun e w' => e = .returned (.bool true) ∧ Below w.heap.size w w' := by
  have HFT : Aside (∀ W, Calls Try.prog 7 #[] W fun e w' => e = .returned (.bool true) ∧ Below W.heap.size W w') := fun W => fit9_c W
  obtain ⟨q, hq, hqe⟩ := and7 n0
  obtain ⟨f, hf⟩ := Classical.axiomOfChoice and65535
  have HF := Lib.hid hf
  obtain ⟨n, hn⟩ : ∃ n, n = q % 6 + 1 := ⟨_, rfl⟩
  have h1 : 1 ≤ n := by omega
  have h6 : n ≤ 6 := by omega
  have HQ := Lib.hid hn
  obtain ⟨len, hL⟩ : ∃ len, len = up.length := ⟨_, rfl⟩
  have HL := Lib.hid hL
  rw [← hL]
  have HUP := Lib.hid hup
  obtain ⟨m, hm, hm2, hE1⟩ := turns_get n h1 h6 (kUp f up) (fun i hi => kUp_lt f up i hi)
  have HN : Aside (newP n (prs (fun i => ((i : Nat), (kUp f up i : Nat))) n) = some (.ok m)) := hm
  have HN2 : Aside (newP n (prsR (fun i => ((kUp f up i : Nat), (i : Nat))) n) = some (.ok m)) := hm2
  have HE1 := Lib.hid hE1
  obtain ⟨g, hg⟩ : ∃ g : Nat → Int × Int, g = fun i => (((i : Nat) : Int), ((kUp f up i : Nat) : Int)) := ⟨_, rfl⟩
  obtain ⟨h, hh⟩ : ∃ h : Nat → Int × Int, h = fun i => (((kUp f up i : Nat) : Int), ((i : Nat) : Int)) := ⟨_, rfl⟩
  rw [← hg] at HN
  rw [← hh] at HN2
  have HK : Aside (∀ i, 1 ≤ i → i < len → f up[i]! % i = kUp f up i) := fun i _ hi => by unfold kUp; rw [if_pos (by rw [← HL.out]; exact hi)]
  have HK0 : Aside (∀ i, ¬ i < len → kUp f up i = 0) := fun i hi => by unfold kUp; rw [if_neg (by rw [← HL.out]; exact hi)]
  have HG : Aside (∀ i : Nat, g i = (((i : Nat) : Int), ((kUp f up i : Nat) : Int))) := fun i => by rw [hg]
  have HH : Aside (∀ i : Nat, h i = (((kUp f up i : Nat) : Int), ((i : Nat) : Int))) := fun i => by rw [hh]
  clear hf hn hL hup hm hm2 hE1 hg hh
  go_enter Try.func6, Try.ntmps6
  go_wp2_with fail
  refine (HFT.out _).mono ?_
  rintro e w1 ⟨rfl, hb1⟩
  have HB1 := Lib.hid hb1
  clear hb1 HFT
  go_wp2_with fail
  rw [show ((q : Int) % 6 + 1) = (n : Int) by rw [HQ.out]; simp]
  have h1z : (1 : Int) ≤ n := by omega
  have h6z : (n : Int) ≤ 6 := by omega
  clear hq hqe
  go_loopg [7, 8, 9] n (fun kx s7 s8 s9 wr => ∃ (i L cap L' cap' : Nat) (po po' : Option Addr), s7 = .slice po L cap ∧ s8 = .slice po' L' cap' ∧ s9 = .int .i64 i ∧ 1 ≤ i ∧ i ≤ n ∧ n - i ≤ kx ∧
    Aside (L + 1 = i ∧ L' + 1 = i ∧ OwnP wr w.heap.size (.slice po L cap) (prs g i) ∧ OwnP wr w.heap.size (.slice po' L' cap') (prsR h i) ∧ apart (.slice po L cap) (.slice po' L' cap')) ∧ Aside (Below w.heap.size w wr))
  case atStart => exact ⟨1, 0, 0, 0, 0, none, none, rfl, rfl, rfl, Nat.le_refl _, h1, by omega, ⟨rfl, rfl, World.ownsRow_nil _ _ _ _, World.ownsRow_nil _ _ _ _, fun g h => by cases h⟩, HB1.out⟩
  case round =>
    clear HB1
    obtain ⟨i, L, cap, L', cap', po, po', rfl, rfl, rfl, hi1, hi, hix, HO, HA⟩ := hrel
    have zr : w.heap.size ≤ wr.heap.size := HA.out.size
    by_cases hlt : i < n
    · have hltz : (i : Int) < n := by omega
      have hi1z : (1 : Int) ≤ i := by omega
      have hi0z : (0 : Int) < i := by omega
      have hpl := prs_len g (i - 1)
      have hpl2 := prsR_len h (i - 1)
      rw [show i - 1 + 1 = i by omega] at hpl hpl2
      obtain ⟨hl1, hl2, o1, o2, ap⟩ := HO.out
      obtain ⟨po2, L2, cap2, w3, hrun, HR⟩ := pair_run2 w.heap.size (prs g i) i (kUp f up i) (.slice po L cap) wr o1 zr (by omega)
      obtain ⟨r1, r2, r3, r4, r5⟩ := HR.out
      obtain ⟨o3, ap3⟩ := r5 _ _ o2 ap
      obtain ⟨po3, L3, cap3, w4, hrun2, HR2⟩ := front_run w.heap.size (prsR h i) (kUp f up i) i (.slice po' L' cap') w3 o3 (by omega) (by omega)
      obtain ⟨s1, s2, s3, s4⟩ := HR2.out
      have HP : Aside (prs g (i + 1) = prs g i ++ [(((i : Nat) : Int), ((kUp f up i : Nat) : Int))]) := by
        show _ = _
        rw [prs_succ g hi1, HG.out i]
      have HP2 : Aside (prsR h (i + 1) = (((kUp f up i : Nat) : Int), ((i : Nat) : Int)) :: prsR h i) := by
        show _ = _
        rw [prsR_succ h hi1, HH.out i]
      have HNX : Aside (L2 + 1 = i + 1 ∧ L3 + 1 = i + 1 ∧ OwnP w4 w.heap.size (.slice po2 L2 cap2) (prs g (i + 1)) ∧ OwnP w4 w.heap.size (.slice po3 L3 cap3) (prsR h (i + 1)) ∧ apart (.slice po2 L2 cap2) (.slice po3 L3 cap3)) := by
        refine ⟨by omega, by omega, ?_, ?_, fun gg hgg e => ?_⟩
        · rw [HP.out]
          exact owns_block r2 fun gg hgg => s3.block gg (r2.lt gg hgg).2
        · rw [HP2.out]; exact s2
        · have a1 := s4 gg hgg
          have a2 := (r2.lt gg e).2
          omega
      have HBX : Aside (Below w.heap.size w w4) := HA.out.trans (r3.trans (s3.mono (by omega)))
      clear hpl hpl2 HP HP2 HO HR HR2 r1 r2 r3 r4 r5 o1 o2 o3 ap ap3 s1 s2 s3 s4 hl1 hl2
      by_cases hil : i < len
      · obtain ⟨b, off, rfl, hc⟩ : ∃ b off, ao = some ⟨b, off, none⟩ ∧ wr.cell? ⟨b, off + i, none⟩ = some (.int .i64 up[i]!) := by
          rcases HUP.out.below HA.out with h | ⟨b, off, h1, _, h3⟩
          · have := HL.out; rw [h] at this; simp at this; omega
          · exact ⟨b, off, h1, h3 i (by rw [← HL.out]; exact hil)⟩
        obtain ⟨hf1, hf2⟩ := HF.out up[i]!
        have hk := HK.out i hi1 hil
        generalize up[i]! = u at hc hf1 hf2 hk
        generalize f u = a at hf1 hf2 hk
        generalize kUp f up i = k at hrun hrun2 hk
        have hmod : (a : Int) % (i : Int) = (k : Int) := by rw [← hk]; simp
        have ha0 : (0 : Int) ≤ (a : Int) := by omega
        have hilz : (i : Int) < len := by omega
        clear hk hf1
        go_wp2_with fail
        go_roundg (n - (i + 1))
        case measure => omega
        case rel => exact ⟨i + 1, L2, cap2, L3, cap3, po2, po3, rfl, rfl, by go_num, by omega, hlt, Nat.le_refl _, HNX.out, HBX.out⟩
      · have hk := HK0.out i hil
        rw [hk, show ((0 : Nat) : Int) = 0 from rfl] at hrun hrun2
        have hilz : ¬ (i : Int) < len := by omega
        clear hk
        go_wp2_with fail
        go_roundg (n - (i + 1))
        case measure => omega
        case rel => exact ⟨i + 1, L2, cap2, L3, cap3, po2, po3, rfl, rfl, by go_num, by omega, hlt, Nat.le_refl _, HNX.out, HBX.out⟩
    · obtain rfl : i = n := by omega
      have hNew : ∀ (ps : List (Int × Int)) (po : Option Addr) (L cap : Nat), newP i ps = some (.ok m) → L = ps.length → ∀ W0, OwnP W0 w.heap.size (.slice po L cap) ps → ∀ W, Below W0.heap.size W0 W → Below w.heap.size w W →
          Calls Try.prog 8 #[.int .i64 i, .slice po L cap] W fun e w' => ∃ T N, e = .returned (.tuple #[tp T, .int .i64 0]) ∧ Aside (Tr w' T N i m ∧ Below W.heap.size W w' ∧ Below w.heap.size w w') := fun ps po L cap hnp hl W0 ho W hW hWw => by
        obtain ⟨ao2, cap2, hv, hp2, _⟩ := ownP_pairs ho
        injection hv with e1 e2 e3
        subst e1 e3 hl
        exact (new_c i h1 h6 po cap ps _ hnp (by
          have := (newP_ok hnp).2
          omega) W (hp2.below hW)).mono fun e w' ⟨T, N, q1, q2⟩ => ⟨T, N, q1, q2.1, q2.2.2.2, hWw.trans (q2.2.2.2.mono hWw.size)⟩
      have hpl := prs_len g (i - 1)
      have hpl2 := prsR_len h (i - 1)
      rw [show i - 1 + 1 = i by omega] at hpl hpl2
      have H1 := Lib.hid (hNew _ po L cap HN.out (by have := HO.out.1; omega) wr HO.out.2.2.1)
      have H2 := Lib.hid (hNew _ po' L' cap' HN2.out (by have := HO.out.2.1; omega) wr HO.out.2.2.2.1)
      clear hNew hpl hpl2 HO HN HN2 HK HK0 HG HH HUP HF hix hi hi1 hlt
      go_wp2_with fail
      refine (H1.out _ (Below.refl _ _) HA.out).mono ?_
      rintro e w2 ⟨T, N, rfl, HR1⟩
      have H2b := Lib.hid (H2.out _ HR1.out.2.1 HR1.out.2.2)
      clear H1 H2 HA zr
      go_wp2_with fail
      refine H2b.out.mono ?_
      rintro e w3 ⟨T2, N2, rfl, HR2⟩
      have HT := Lib.hid (HR1.out.1.below HR2.out.2.1)
      have HT2 := Lib.hid HR2.out.1
      have HB3 := Lib.hid HR2.out.2.2
      clear H2b HR1 HR2
      go_wp2_with fail
      have HNE : Aside (∀ t, t < i → ∀ U, (U = T ∨ U = T2) → ∀ W, Below w3.heap.size w3 W → Calls Try.prog 11 #[tp U, .int .i64 t] W fun e w' => ∃ ao cap, e = .returned (.slice ao (row m t).length cap) ∧ Aside (IntsAt w' ao (row m t) ∧ Below W.heap.size W w')) := fun t ht U hU W hW => by
        rcases hU with rfl | rfl
        · exact (near_c U N i m t W (HT.out.below hW)).mono fun e w' h => by rw [nearP_nat ht] at h; exact way_any h
        · exact (near_c U N2 i m t W (HT2.out.below hW)).mono fun e w' h => by rw [nearP_nat ht] at h; exact way_any h
      have HPA : Aside (∀ t, t < i → ∃ d : Nat, (∀ W, Below w3.heap.size w3 W → Calls Try.prog 13 #[tp T, .int .i64 0, .int .i64 t] W fun e w' => ∃ ao cap, e = .returned (.slice ao d cap) ∧ Below W.heap.size W w') ∧
          (∀ W, Below w3.heap.size w3 W → Calls Try.prog 13 #[tp T2, .int .i64 t, .int .i64 0] W fun e w' => ∃ ao cap, e = .returned (.slice ao d cap) ∧ Below W.heap.size W w')) := fun t ht => by
        obtain ⟨l, l2, h1, h2, h3⟩ := HE1.out t ht
        refine ⟨l.length, fun W hW => ?_, fun W hW => ?_⟩
        · exact (path_c T N i m 0 t l h1 W (HT.out.below hW)).mono fun e w' h => by
            obtain ⟨ao, cap, q1, q2⟩ := way_any h
            exact ⟨ao, cap, q1, q2.2⟩
        · exact (path_c T2 N2 i m t 0 l2 h2 W (HT2.out.below hW)).mono fun e w' h => by
            obtain ⟨ao, cap, q1, q2⟩ := way_any h
            rw [← h3] at q1
            exact ⟨ao, cap, q1, q2.2⟩
      have HRL : Aside (∀ t, (row m t).length ≤ 6) := row_len m
      clear HE1 HQ HT HT2
      obtain ⟨rw_, hrw⟩ : ∃ rw_ : Nat → List Nat, rw_ = row m := ⟨_, rfl⟩
      rw [← hrw] at HNE HRL
      clear hrw
      go_loopg [80] i (fun kx s80 wr => ∃ t : Nat, s80 = .int .i64 t ∧ t ≤ i ∧ i - t ≤ kx ∧ Aside (Below w3.heap.size w3 wr))
      case atStart => exact ⟨0, rfl, Nat.zero_le _, by omega, Below.refl _ _⟩
      case round =>
        obtain ⟨t, rfl, ht, htx, HA⟩ := hrel
        have zr : w3.heap.size ≤ wr.heap.size := HA.out.size
        by_cases hlt : t < i
        · have hltz : (t : Int) < i := by omega
          have ht0 : (0 : Int) ≤ (t : Int) := by omega
          have HNt := Lib.hid (HNE.out t hlt)
          obtain ⟨dp, hp1, hp2⟩ := HPA.out t hlt
          have HP1 := Lib.hid hp1
          have HP2 := Lib.hid hp2
          have hdl := HRL.out t
          clear HNE HPA HRL hp1 hp2
          generalize rw_ t = R at *
          obtain ⟨d, hd⟩ : ∃ d, d = R.length := ⟨_, rfl⟩
          rw [← hd] at hdl HNt
          have HD := Lib.hid hd
          clear hd
          have hd0 : (0 : Int) ≤ (d : Int) := by omega
          have hd1 : (d : Int) ≤ 6 := by omega
          go_wp2_with fail
          refine (HNt.out T (Or.inl rfl) _ HA.out).mono ?_
          rintro e w4 ⟨ao4, cap4, rfl, H4⟩
          have HA4 : Aside (Below w3.heap.size w3 w4) := HA.out.trans (H4.out.2.mono zr)
          have HI4 := Lib.hid H4.out.1
          have z4 : w3.heap.size ≤ w4.heap.size := HA4.out.size
          clear H4
          go_wp2_with fail
          refine (HNt.out T2 (Or.inr rfl) _ HA4.out).mono ?_
          rintro e w5 ⟨ao5, cap5, rfl, H5⟩
          have HA5 : Aside (Below w3.heap.size w3 w5) := HA4.out.trans (H5.out.2.mono z4)
          have HI5 := Lib.hid H5.out.1
          have HI4b := Lib.hid (HI4.out.below H5.out.2)
          have z5 : w3.heap.size ≤ w5.heap.size := HA5.out.size
          clear H5 HI4 HNt
          go_wp2_with fail
          go_loopg [96] d (fun kx s96 wr => ∃ j : Nat, s96 = .int .i64 j ∧ j ≤ d ∧ d - j ≤ kx ∧ Aside (Below w5.heap.size w5 wr))
          case atStart => exact ⟨0, rfl, Nat.zero_le _, by omega, Below.refl _ _⟩
          case round =>
            obtain ⟨j, rfl, hj, hjx, HAq⟩ := hrel
            by_cases hjl : j < d
            · have hjlz : (j : Int) < d := by omega
              have hj0 : (0 : Int) ≤ (j : Int) := by omega
              have hjR : j < R.length := by rw [← HD.out]; exact hjl
              obtain ⟨G, rfl, hc⟩ : ∃ G, ao4 = some ⟨G, 0, none⟩ ∧ wr.cell? ⟨G, j, none⟩ = some (.int .i64 ((R[j]! : Nat) : Int)) := by
                rcases HI4b.out.below HAq.out with h | ⟨G, h1, _, h3⟩
                · rw [h] at hjR; simp at hjR
                · exact ⟨G, h1, h3 j hjR⟩
              obtain ⟨G2, rfl, hc2⟩ : ∃ G, ao5 = some ⟨G, 0, none⟩ ∧ wr.cell? ⟨G, j, none⟩ = some (.int .i64 ((R[j]! : Nat) : Int)) := by
                rcases HI5.out.below HAq.out with h | ⟨G, h1, _, h3⟩
                · rw [h] at hjR; simp at hjR
                · exact ⟨G, h1, h3 j hjR⟩
              have HX : Aside (∀ n, Below w5.heap.size w5 (wr.drewN n)) := fun n => HAq.out.trans ⟨rfl, rfl, rfl, Nat.le_refl _, fun _ _ => rfl⟩
              generalize R[j]! = y at *
              clear hjR HI4b HI5 HD
              go_wp2_with fail
              go_quiet (fail)
              go_wp2_with fail
              go_roundg (d - (j + 1))
              case measure => omega
              case rel => exact ⟨j + 1, by go_num, hjl, Nat.le_refl _, HX.out _⟩
            · obtain rfl : j = d := by omega
              have HB6 : Aside (Below w3.heap.size w3 wr) := HA5.out.trans (HAq.out.mono z5)
              have z6 : w3.heap.size ≤ wr.heap.size := HB6.out.size
              go_wp2_with fail
              refine (HP1.out _ HB6.out).mono ?_
              rintro e w8 ⟨ao8, cap8, rfl, hb8⟩
              have HB8 : Aside (Below w3.heap.size w3 w8) := HB6.out.trans (hb8.mono z6)
              have z8 : w3.heap.size ≤ w8.heap.size := HB8.out.size
              clear hb8
              go_wp2_with fail
              refine (HP2.out _ HB8.out).mono ?_
              rintro e w9 ⟨ao9, cap9, rfl, hb9⟩
              have HB9 : Aside (Below w3.heap.size w3 w9) := HB8.out.trans (hb9.mono z8)
              clear hb9
              go_wp2_with fail
              go_roundg (i - (t + 1))
              case measure => omega
              case rel => exact ⟨t + 1, by go_num, hlt, Nat.le_refl _, HB9.out⟩
        · obtain rfl : t = i := by omega
          go_wp2_with fail
          go_ret
          exact ⟨rfl, HB3.out.trans (HA.out.mono HB3.out.size)⟩
end Go.Proofs.Ytnkceajhhiidcaa
