/- TreeEnds: of a tree each broker but one has a way to the first one; the ways of neighbours are two long. -/
import Derived.Test.YtnkceajhhiidcaaTreeE
namespace Go.Proofs.Ytnkceajhhiidcaa
open Go.RowKit Go.Shelf Go.Sort
open Go.Proofs
set_option maxRecDepth 100000
attribute [local go_sem ↓] append_pre

/-- Numbers that came in. -/
def UpsB (W : World) (ao : Option Addr) (l : List Int) : Prop := l = [] ∨ ∃ b off, ao = some ⟨b, off, none⟩ ∧ b < W.heap.size ∧ ∀ j, j < l.length → W.cell? ⟨b, off + j, none⟩ = some (.int .i64 l[j]!)
theorem UpsB.below {w W : World} {ao : Option Addr} {l : List Int} (h : UpsB w ao l) (hb : Below w.heap.size w W) : UpsB W ao l := by
  rcases h with h | ⟨b, off, h1, h2, h3⟩
  · exact Or.inl h
  · exact Or.inr ⟨b, off, h1, Nat.lt_of_lt_of_le h2 hb.size, fun j hj => (hb.cell (p := ⟨b, off + j, none⟩) h2).trans (h3 j hj)⟩
theorem and_mask (n : Int) (c : Nat) (hc : c ≤ 16) : ∃ m : Nat, m < 2 ^ c ∧ bits .and .i64 n ((2 ^ c - 1 : Nat) : Int) = m := by
  have h : ∃ m : Nat, m < 2 ^ c ∧ bits .and .i64 n ((2 ^ c - 1 : Nat) : Int) = IntKind.i64.wrap m := by
    refine ⟨((BitVec.ofInt 64 n) &&& (BitVec.ofInt 64 ((2 ^ c - 1 : Nat) : Int))).toNat, ?_, rfl⟩
    have h16 : 2 ^ c ≤ 2 ^ 16 := Nat.pow_le_pow_right (by decide) hc
    have hpos : 0 < 2 ^ c := Nat.pow_pos (by decide)
    rw [BitVec.toNat_and, BitVec.ofInt_natCast, BitVec.toNat_ofNat, Nat.mod_eq_of_lt (by omega : 2 ^ c - 1 < 2 ^ 64), Nat.and_two_pow_sub_one_eq_mod]
    exact Nat.mod_lt _ hpos
  obtain ⟨m, hm, h⟩ := h
  have h16 : 2 ^ c ≤ 2 ^ 16 := Nat.pow_le_pow_right (by decide) hc
  exact ⟨m, hm, by rw [h, IntKind.wrap_i64]; omega⟩
theorem and65535 (n : Int) : ∃ m : Nat, m < 65536 ∧ bits .and .i64 n 65535 = m := and_mask n 16 (by decide)
theorem and7 (n : Int) : ∃ m : Nat, m < 8 ∧ bits .and .i64 n 7 = m := and_mask n 3 (by decide)
/-- What Path and Near answer, whatever it is. -/
theorem way_any {w w' : World} {e : Ending} {l : List Nat} (h : WayIs w l e w') : ∃ ao cap, e = .returned (.slice ao l.length cap) ∧ Aside (IntsAt w' ao l ∧ Below w.heap.size w w') := by
  obtain ⟨g, cap, rfl, h1, h2, h3⟩ := h
  by_cases hl : l = []
  · subst hl
    exact ⟨none, 0, rfl, Or.inl rfl, h3⟩
  · exact ⟨_, _, by rw [wayV_some hl], Or.inr ⟨g, rfl, h2 hl, h1⟩, h3⟩
theorem sumP_le (m : Nat) : ∀ t, sumP m t ≤ 6 * t
  | 0 => Nat.le_refl _
  | t + 1 => by
    have := sumP_le m t
    have := row_len m t
    simp only [sumP]; omega
theorem hasB_nat {n t : Nat} (h : t < n) : hasB n (t : Int) = true := hasB_iff.2 ⟨by omega, by omega⟩
theorem nearP_nat {n t m : Nat} (h : t < n) : nearP n m (t : Int) = row m t := by unfold nearP; rw [hasB_nat h, if_pos rfl, Int.toNat_natCast]
/-- Which one each hangs on. -/
def kUp (f : Int → Nat) (up : List Int) (i : Nat) : Nat := if i < up.length then f up[i]! % i else 0
theorem kUp_lt (f : Int → Nat) (up : List Int) (i : Nat) (h : 1 ≤ i) : kUp f up i < i := by
  unfold kUp
  split
  · exact Nat.mod_lt _ (by omega)
  · omega

set_option maxHeartbeats 8000000 in
theorem treeEnds_c (n0 : Int) (ao : Option Addr) (ucap : Nat) (up : List Int) (w : World) (hup : UpsB w ao up) :
    Calls Try.prog 5 #[.int .i64 n0, .slice ao up.length ucap] w fun e w' => e = .returned (.bool true) ∧ Below w.heap.size w w' := by
  have HFT : Aside (∀ W, Calls Try.prog 7 #[] W fun e w' => e = .returned (.bool true) ∧ Below W.heap.size W w') := fun W => fit9_c W
  obtain ⟨q, hq, hqe⟩ := and7 n0
  obtain ⟨f, hf⟩ := Classical.axiomOfChoice and65535
  have HF := Lib.hid hf
  obtain ⟨n, hn⟩ : ∃ n, n = q % 6 + 1 := ⟨_, rfl⟩
  have h1 : 1 ≤ n := by omega
  have h6 : n ≤ 6 := by omega
  have HQ := Lib.hid hn
  obtain ⟨len, hL⟩ : ∃ len, len = up.length := ⟨_, rfl⟩
  have HL := Lib.hid hL
  rw [← hL]
  have HUP := Lib.hid hup
  obtain ⟨m, hm, hE1, hE2, hE3⟩ := ends_get n h1 h6 (kUp f up) (fun i hi => kUp_lt f up i hi)
  have HN : Aside (newP n (prs (fun i => ((kUp f up i : Nat), (i : Nat))) n) = some (.ok m)) := hm
  have HE1 := Lib.hid hE1
  have HE2 := Lib.hid hE2
  have HE3 := Lib.hid hE3
  obtain ⟨g, hg⟩ : ∃ g : Nat → Int × Int, g = fun i => (((kUp f up i : Nat) : Int), ((i : Nat) : Int)) := ⟨_, rfl⟩
  rw [← hg] at HN
  have HK : Aside (∀ i, 1 ≤ i → i < len → f up[i]! % i = kUp f up i) := fun i _ hi => by unfold kUp; rw [if_pos (by rw [← HL.out]; exact hi)]
  have HK0 : Aside (∀ i, ¬ i < len → kUp f up i = 0) := fun i hi => by unfold kUp; rw [if_neg (by rw [← HL.out]; exact hi)]
  have HG : Aside (∀ i : Nat, g i = (((kUp f up i : Nat) : Int), ((i : Nat) : Int))) := fun i => by rw [hg]
  clear hf hn hL hup hm hE1 hE2 hE3 hg
  go_enter Try.func5, Try.ntmps5
  go_wp2_with fail
  refine (HFT.out _).mono ?_
  rintro e w1 ⟨rfl, hb1⟩
  have HB1 := Lib.hid hb1
  clear hb1 HFT
  go_wp2_with fail
  rw [show ((q : Int) % 6 + 1) = (n : Int) by rw [HQ.out]; simp]
  have h1z : (1 : Int) ≤ n := by omega
  have h6z : (n : Int) ≤ 6 := by omega
  clear hq hqe
  go_loopg [5, 6] n (fun kx s5 s6 wr => ∃ (i L cap : Nat) (po : Option Addr), s5 = .slice po L cap ∧ s6 = .int .i64 i ∧ 1 ≤ i ∧ i ≤ n ∧ n - i ≤ kx ∧ Aside (L + 1 = i ∧ OwnP wr w.heap.size (.slice po L cap) (prs g i)) ∧ Aside (Below w.heap.size w wr))
  case atStart => exact ⟨1, 0, 0, none, rfl, rfl, Nat.le_refl _, h1, by omega, ⟨rfl, World.ownsRow_nil _ _ _ _⟩, HB1.out⟩
  case round =>
    clear HB1
    obtain ⟨i, L, cap, po, rfl, rfl, hi1, hi, hix, HO, HA⟩ := hrel
    have zr : w.heap.size ≤ wr.heap.size := HA.out.size
    by_cases hlt : i < n
    · have hltz : (i : Int) < n := by omega
      have hi1z : (1 : Int) ≤ i := by omega
      have hi0z : (0 : Int) < i := by omega
      have hpl := prs_len g (i - 1)
      rw [show i - 1 + 1 = i by omega] at hpl
      obtain ⟨po2, L2, cap2, w3, hrun, HR⟩ := pair_run w.heap.size (prs g i) (kUp f up i) i (.slice po L cap) wr HO.out.2 zr (by omega)
      have HP : Aside (prs g (i + 1) = prs g i ++ [(((kUp f up i : Nat) : Int), ((i : Nat) : Int))]) := by
        show _ = _
        rw [prs_succ g hi1, HG.out i]
      rw [← HP.out] at HR
      have HL2 : Aside (L2 + 1 = i + 1) := by have := HR.out.1; show _ = _; omega
      clear hpl HP HO
      by_cases hil : i < len
      · obtain ⟨b, off, rfl, hc⟩ : ∃ b off, ao = some ⟨b, off, none⟩ ∧ wr.cell? ⟨b, off + i, none⟩ = some (.int .i64 up[i]!) := by
          rcases HUP.out.below HA.out with h | ⟨b, off, h1, _, h3⟩
          · have := HL.out; rw [h] at this; simp at this; omega
          · exact ⟨b, off, h1, h3 i (by rw [← HL.out]; exact hil)⟩
        obtain ⟨hf1, hf2⟩ := HF.out up[i]!
        have hk := HK.out i hi1 hil
        generalize up[i]! = u at hc hf1 hf2 hk
        generalize f u = a at hf1 hf2 hk
        generalize kUp f up i = k at hrun HR hk
        have hmod : (a : Int) % (i : Int) = (k : Int) := by rw [← hk]; simp
        have ha0 : (0 : Int) ≤ (a : Int) := by omega
        have hilz : (i : Int) < len := by omega
        clear hk hf1
        go_wp2_with fail
        go_roundg (n - (i + 1))
        case measure => omega
        case rel => exact ⟨i + 1, L2, cap2, po2, rfl, by go_num, by omega, hlt, Nat.le_refl _, ⟨HL2.out, HR.out.2.1⟩, HA.out.trans HR.out.2.2⟩
      · have hk := HK0.out i hil
        rw [hk, show ((0 : Nat) : Int) = 0 from rfl] at hrun
        have hilz : ¬ (i : Int) < len := by omega
        clear hk
        go_wp2_with fail
        go_roundg (n - (i + 1))
        case measure => omega
        case rel => exact ⟨i + 1, L2, cap2, po2, rfl, by go_num, by omega, hlt, Nat.le_refl _, ⟨HL2.out, HR.out.2.1⟩, HA.out.trans HR.out.2.2⟩
    · obtain rfl : i = n := by omega
      have HNW : Aside (Calls Try.prog 8 #[.int .i64 i, .slice po L cap] wr fun e w' => ∃ T N, e = .returned (.tuple #[tp T, .int .i64 0]) ∧ Aside (Tr w' T N i m ∧ Below w.heap.size w w')) := by
        obtain ⟨ho1, ho2⟩ := HO.out
        obtain ⟨ao2, cap2, hv, hp2, _⟩ := ownP_pairs ho2
        have hpl := prs_len g L
        rw [ho1] at hpl
        rw [hpl] at hv
        injection hv with e1 e2 e3
        subst e1 e3
        have := new_c i h1 h6 po cap (prs g i) _ HN.out (by omega) wr hp2
        rw [hpl] at this
        exact this.mono fun e w' ⟨T, N, h1, h2⟩ => ⟨T, N, h1, h2.1, HA.out.trans (h2.2.2.2.mono zr)⟩
      clear HO HN HK HK0 HG HUP HF hix hi hi1 hlt
      go_wp2_with fail
      refine HNW.out.mono ?_
      rintro e w2 ⟨T, N, rfl, H2⟩
      have HT := Lib.hid H2.out.1
      have HB2 := Lib.hid H2.out.2
      clear HNW H2 HA zr
      go_wp2_with fail
      have HNE : Aside (∀ t, t < i → ∀ W, Below w2.heap.size w2 W → Calls Try.prog 11 #[tp T, .int .i64 t] W fun e w' => ∃ ao cap, e = .returned (.slice ao (row m t).length cap) ∧ Aside (IntsAt w' ao (row m t) ∧ Below W.heap.size W w')) := fun t ht W hW =>
        (near_c T N i m t W (HT.out.below hW)).mono fun e w' h => by rw [nearP_nat ht] at h; exact way_any h
      have HP0 : Aside (∀ t, t < i → ∀ W, Below w2.heap.size w2 W → Calls Try.prog 13 #[tp T, .int .i64 t, .int .i64 0] W fun e w' => ∃ g q cap, e = .returned (.slice (some ⟨g, 0, none⟩) (q + 1) cap) ∧ q ≤ 100 ∧ w'.cell? ⟨g, q, none⟩ = some (.int .i64 0) ∧ Aside (Below W.heap.size W w')) := fun t ht W hW => by
        obtain ⟨l, hl1, hl2, hl3⟩ := HE1.out t ht
        refine (path_c T N i m t 0 l hl1 W (HT.out.below hW)).mono fun e w' h => ?_
        obtain ⟨g, cap, h1, h2⟩ := way_some hl2 h
        have hpos : 0 < l.length := List.length_pos_iff.2 hl2
        have hle : l.length ≤ 7 := by
          unfold pathP at hl1
          split at hl1
          · exact way_len _ _ _ _ _ _ hl1
          · injection hl1 with hl1; subst hl1; simp
        refine ⟨g, l.length - 1, cap, ?_, by omega, ?_, h2.2.2⟩
        · rw [show l.length - 1 + 1 = l.length by omega]; exact h1
        · have := h2.1 (l.length - 1) (by omega)
          rw [hl3] at this
          exact this
      have HP2 : Aside (∀ t, t < i → ∀ y ∈ row m t, ∀ W, Below w2.heap.size w2 W → Calls Try.prog 13 #[tp T, .int .i64 t, .int .i64 y] W fun e w' => ∃ g cap, e = .returned (.slice (some ⟨g, 0, none⟩) 2 cap) ∧ Below W.heap.size W w') := fun t ht y hy W hW => by
        obtain ⟨l, hl1, hl2⟩ := (HE2.out t ht y hy).1
        refine (path_c T N i m t y l hl1 W (HT.out.below hW)).mono fun e w' h => ?_
        obtain ⟨g, cap, h1, h2⟩ := way_some (by intro e; rw [e] at hl2; simp at hl2) h
        rw [hl2] at h1
        exact ⟨g, cap, h1, h2.2.2⟩
      have HLK : Aside (∀ t, t < i → ∀ y ∈ row m t, ∀ W, Below w2.heap.size w2 W → Calls Try.prog 12 #[tp T, .int .i64 y, .int .i64 t] W fun e w' => e = .returned (.bool true) ∧ W = w') := fun t ht y hy W hW => by
        have := linked_c T N i m y t W (HT.out.below hW)
        rw [(HE2.out t ht y hy).2] at this
        exact this
      have HSM : Aside (∀ t, sumP m t ≤ 6 * t) := sumP_le m
      have HSS : Aside (∀ t, sumP m (t + 1) = sumP m t + (row m t).length) := fun _ => rfl
      have HRL : Aside (∀ t, (row m t).length ≤ 6) := row_len m
      have HS0 : Aside (sumP m 0 = 0) := rfl
      clear HE1 HE2 HQ HT
      generalize hsm : sumP m = sm at *
      obtain ⟨rw_, hrw⟩ : ∃ rw_ : Nat → List Nat, rw_ = row m := ⟨_, rfl⟩
      rw [← hrw] at HNE HP2 HLK HSS HRL
      clear hrw hsm
      go_loopg [10, 56] i (fun kx s10 s56 wr => ∃ t : Nat, s10 = .int .i64 (sm t : Nat) ∧ s56 = .int .i64 t ∧ t ≤ i ∧ i - t ≤ kx ∧ Aside (Below w2.heap.size w2 wr))
      case atStart => exact ⟨0, by rw [HS0.out]; rfl, rfl, Nat.zero_le _, by omega, Below.refl _ _⟩
      case round =>
        clear HS0
        obtain ⟨t, rfl, rfl, ht, htx, HA⟩ := hrel
        have zr : w2.heap.size ≤ wr.heap.size := HA.out.size
        by_cases hlt : t < i
        · have hltz : (t : Int) < i := by omega
          have ht0 : (0 : Int) ≤ (t : Int) := by omega
          have HNt := Lib.hid (HNE.out t hlt)
          have HPt := Lib.hid (HP0.out t hlt)
          have HP2t := Lib.hid (HP2.out t hlt)
          have HLt := Lib.hid (HLK.out t hlt)
          have hst := HSM.out t
          have hdl := HRL.out t
          have HSt := Lib.hid (HSS.out t)
          clear HNE HP0 HP2 HLK HSM HSS HRL
          generalize rw_ t = R at *
          obtain ⟨d, hd⟩ : ∃ d, d = R.length := ⟨_, rfl⟩
          rw [← hd] at hdl HSt
          have HD := Lib.hid hd
          have HNt2 : Aside (∀ W, Below w2.heap.size w2 W → Calls Try.prog 11 #[tp T, .int .i64 t] W fun e w' => ∃ ao cap, e = .returned (.slice ao d cap) ∧ Aside (IntsAt w' ao R ∧ Below W.heap.size W w')) := fun W hW => by rw [HD.out]; exact HNt.out W hW
          obtain ⟨s, hs⟩ : ∃ s, s = sm t := ⟨_, rfl⟩
          rw [← hs] at hst HSt ⊢
          clear hd hs HNt
          have hs0 : (0 : Int) ≤ (s : Int) := by omega
          have hs1 : (s : Int) ≤ 36 := by omega
          have hd0 : (0 : Int) ≤ (d : Int) := by omega
          have hd1 : (d : Int) ≤ 6 := by omega
          go_wp2_with fail
          refine (HNt2.out _ HA.out).mono ?_
          rintro e w4 ⟨ao4, cap4, rfl, H4⟩
          have HA4 : Aside (Below w2.heap.size w2 w4) := HA.out.trans (H4.out.2.mono zr)
          have z4 : w2.heap.size ≤ w4.heap.size := HA4.out.size
          clear H4
          go_wp2_with fail
          refine (HPt.out _ HA4.out).mono ?_
          rintro e w5 ⟨g5, q5, cap5, rfl, hq5, c5, H5⟩
          have HA5 : Aside (Below w2.heap.size w2 w5) := HA4.out.trans (H5.out.mono z4)
          have z5 : w2.heap.size ≤ w5.heap.size := HA5.out.size
          clear H5
          go_wp2_with fail
          refine (HNt2.out _ HA5.out).mono ?_
          rintro e w6 ⟨ao6, cap6, rfl, H6⟩
          have HA6 : Aside (Below w2.heap.size w2 w6) := HA5.out.trans (H6.out.2.mono z5)
          have z6 : w2.heap.size ≤ w6.heap.size := HA6.out.size
          have HI6 := Lib.hid H6.out.1
          clear H6 c5 HNt2 HPt
          go_wp2_with fail
          go_loopg [84] d (fun kx s84 wr => ∃ j : Nat, s84 = .int .i64 j ∧ j ≤ d ∧ d - j ≤ kx ∧ Aside (Below w6.heap.size w6 wr))
          case atStart => exact ⟨0, rfl, Nat.zero_le _, by omega, Below.refl _ _⟩
          case round =>
            obtain ⟨j, rfl, hj, hjx, HAq⟩ := hrel
            have zq : w6.heap.size ≤ wr.heap.size := HAq.out.size
            have HB6 : Aside (Below w2.heap.size w2 wr) := HA6.out.trans (HAq.out.mono z6)
            have z7 : w2.heap.size ≤ wr.heap.size := HB6.out.size
            by_cases hjl : j < d
            · have hjlz : (j : Int) < d := by omega
              have hj0 : (0 : Int) ≤ (j : Int) := by omega
              have hjR : j < R.length := by rw [← HD.out]; exact hjl
              obtain ⟨G, rfl, hc⟩ : ∃ G, ao6 = some ⟨G, 0, none⟩ ∧ wr.cell? ⟨G, j, none⟩ = some (.int .i64 ((R[j]! : Nat) : Int)) := by
                rcases HI6.out.below HAq.out with h | ⟨G, h1, _, h3⟩
                · rw [h] at hjR; simp at hjR
                · exact ⟨G, h1, h3 j hjR⟩
              have hmem : R[j]! ∈ R := by rw [getElem!_pos R j hjR]; exact List.getElem_mem _
              have HPy := Lib.hid (HP2t.out R[j]! hmem)
              have HLy := Lib.hid (HLt.out R[j]! hmem)
              generalize R[j]! = y at *
              clear hjR hmem HI6 HP2t HLt HD
              go_wp2_with fail
              refine (HPy.out _ HB6.out).mono ?_
              rintro e w8 ⟨g8, cap8, rfl, hb8⟩
              have HB8 : Aside (Below w2.heap.size w2 w8) := HB6.out.trans (hb8.mono z7)
              have HQ8 : Aside (Below w6.heap.size w6 w8) := HAq.out.trans (hb8.mono zq)
              clear hb8 hc HPy HB6
              go_wp2_with fail
              refine (HLy.out _ HB8.out).mono ?_
              rintro e w9 ⟨rfl, rfl⟩
              go_wp2_with fail
              go_roundg (d - (j + 1))
              case measure => omega
              case rel => exact ⟨j + 1, by go_num, hjl, Nat.le_refl _, HQ8.out⟩
            · obtain rfl : j = d := by omega
              go_wp2_with fail
              go_roundg (i - (t + 1))
              case measure => omega
              case rel => exact ⟨t + 1, by rw [HSt.out]; go_num, by go_num, hlt, Nat.le_refl _, HB6.out⟩
        · obtain rfl : t = i := by omega
          have he := HE3.out
          have hse : ((sm t : Nat) : Int) = 2 * ((t : Int) - 1) := by omega
          generalize ((sm t : Nat) : Int) = S at hse ⊢
          subst hse
          go_wp2_with fail
          go_ret
          exact ⟨rfl, HB2.out.trans (HA.out.mono HB2.out.size)⟩
end Go.Proofs.Ytnkceajhhiidcaa
