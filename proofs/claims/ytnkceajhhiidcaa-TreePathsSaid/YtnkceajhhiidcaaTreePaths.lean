/- TreePaths: the way between two brokers goes from neighbour to neighbour, each once; back it is turned. -/
import Derived.Test.YtnkceajhhiidcaaTreePP
import Derived.Deep.QuietTactic
import Derived.BigQuiet
namespace Go.Proofs.Ytnkceajhhiidcaa
open Go.RowKit Go.Shelf Go.Sort
open Go.Proofs
set_option maxRecDepth 100000
attribute [local go_sem ↓] append_pre

theorem way_mem : ∀ (k m a b : Nat) (fr : Int) (l : List Nat), wayF k m a b fr = some l → a < 6 → b < 6 → ∀ x ∈ l, x < 6
  | 0, _, _, _, _, _, h, _, _ => by cases h
  | k + 1, m, a, b, fr, l, h, ha, hb => by
    unfold wayF at h
    by_cases hab : a = b
    · rw [if_pos hab] at h; injection h with h; subst h
      intro x hx; simp at hx; omega
    · rw [if_neg hab] at h
      have hR : ∀ x ∈ row m a, x < 6 := fun x hx => (mem_row.1 hx).1
      generalize row m a = R at h hR
      induction R with
      | nil => simp only [scanW] at h; injection h with h; subst h; intro x hx; simp at hx
      | cons y R ih =>
        unfold scanW at h
        have hR2 : ∀ x ∈ R, x < 6 := fun x hx => hR x (List.mem_cons_of_mem _ hx)
        split at h
        · exact ih h hR2
        · split at h
          · cases h
          · exact ih h hR2
          · rename_i z r hz
            injection h with h; subst h
            have := way_mem k m y b a (z :: r) hz (hR y (List.mem_cons_self ..)) hb
            intro x hx
            rcases List.mem_cons.1 hx with rfl | hx
            · exact ha
            · exact this x hx
theorem pathP_nat {n m a b : Nat} (ha : a < n) (hb : b < n) : pathP n m a b = wayF 7 m a b (-1) := by
  unfold pathP
  rw [hasB_nat ha, hasB_nat hb]
  simp
theorem pathP_no {n m : Nat} {x y : Int} (h : ¬ (0 ≤ x ∧ x < n ∧ 0 ≤ y ∧ y < n)) : pathP n m x y = some [] := by
  unfold pathP
  rw [if_neg]
  rw [Bool.and_eq_true, hasB_iff, hasB_iff]
  omega
set_option maxHeartbeats 8000000 in
theorem treePaths_c (n0 : Int) (ao : Option Addr) (ucap : Nat) (up : List Int) (x y : Int) (w : World) (hup : UpsB w ao up) :
    Calls Try.prog 4 #[.int .i64 n0, .slice ao up.length ucap, .agg #[.int .i64 x, .int .i64 y]] w fun e w' => e = .returned (.bool true) ∧ Below w.heap.size w w' := by
  have HFT : Aside (∀ W, Calls Try.prog 7 #[] W fun e w' => e = .returned (.bool true) ∧ Below W.heap.size W w') := fun W => fit9_c W
  obtain ⟨q, hq, hqe⟩ := and7 n0
  obtain ⟨f, hf⟩ := Classical.axiomOfChoice and65535
  have HF := Lib.hid hf
  obtain ⟨n, hn⟩ : ∃ n, n = q % 6 + 1 := ⟨_, rfl⟩
  have h1 : 1 ≤ n := by omega
  have h6 : n ≤ 6 := by omega
  have HQ := Lib.hid hn
  obtain ⟨len, hL⟩ : ∃ len, len = up.length := ⟨_, rfl⟩
  have HL := Lib.hid hL
  rw [← hL]
  have HUP := Lib.hid hup
  obtain ⟨m, hm, hE1⟩ := paths_get n h1 h6 (kUp f up) (fun i hi => kUp_lt f up i hi)
  have HN : Aside (newP n (prs (fun i => ((i : Nat), (kUp f up i : Nat))) n) = some (.ok m)) := hm
  have HE1 := Lib.hid hE1
  obtain ⟨g, hg⟩ : ∃ g : Nat → Int × Int, g = fun i => (((i : Nat) : Int), ((kUp f up i : Nat) : Int)) := ⟨_, rfl⟩
  rw [← hg] at HN
  have HK : Aside (∀ i, 1 ≤ i → i < len → f up[i]! % i = kUp f up i) := fun i _ hi => by unfold kUp; rw [if_pos (by rw [← HL.out]; exact hi)]
  have HK0 : Aside (∀ i, ¬ i < len → kUp f up i = 0) := fun i hi => by unfold kUp; rw [if_neg (by rw [← HL.out]; exact hi)]
  have HG : Aside (∀ i : Nat, g i = (((i : Nat) : Int), ((kUp f up i : Nat) : Int))) := fun i => by rw [hg]
  clear hf hn hL hup hm hE1 hg
  have HB0 : Aside (Below w.heap.size w (w.alloc (.cells #[.int .i64 x, .int .i64 y] 31))) := (Below.refl _ _).alloc (Nat.le_refl _) _
  have HC0 : Aside (∀ W, Below (w.heap.size + 1) (w.alloc (.cells #[.int .i64 x, .int .i64 y] 31)) W → W.cell? ⟨w.heap.size, 0, none⟩ = some (.int .i64 x) ∧ W.cell? ⟨w.heap.size, 1, none⟩ = some (.int .i64 y)) := fun W hW =>
    ⟨(hW.cell (p := ⟨w.heap.size, 0, none⟩) (Nat.lt_succ_self _)).trans (by rw [World.cell?_alloc_new]; rfl), (hW.cell (p := ⟨w.heap.size, 1, none⟩) (Nat.lt_succ_self _)).trans (by rw [World.cell?_alloc_new]; rfl)⟩
  have hz0 : w.heap.size + 1 ≤ (w.alloc (.cells #[.int .i64 x, .int .i64 y] 31)).heap.size := by simp
  go_enter Try.func4, Try.ntmps4
  go_wp2_with fail
  generalize (w.alloc (.cells #[.int .i64 x, .int .i64 y] 31)) = w0 at *
  refine (HFT.out _).mono ?_
  rintro e w1 ⟨rfl, hb1⟩
  have HB1 : Aside (Below (w.heap.size + 1) w0 w1) := hb1.mono hz0
  clear hb1 HFT
  go_wp2_with fail
  rw [show ((q : Int) % 6 + 1) = (n : Int) by rw [HQ.out]; simp]
  have h1z : (1 : Int) ≤ n := by omega
  have h6z : (n : Int) ≤ 6 := by omega
  clear hq hqe
  go_loopg [7, 8] n (fun kx s5 s6 wr => ∃ (i L cap : Nat) (po : Option Addr), s5 = .slice po L cap ∧ s6 = .int .i64 i ∧ 1 ≤ i ∧ i ≤ n ∧ n - i ≤ kx ∧ Aside (L + 1 = i ∧ OwnP wr (w.heap.size + 1) (.slice po L cap) (prs g i)) ∧ Aside (Below (w.heap.size + 1) w0 wr))
  case atStart => exact ⟨1, 0, 0, none, rfl, rfl, Nat.le_refl _, h1, by omega, ⟨rfl, World.ownsRow_nil _ _ _ _⟩, HB1.out⟩
  case round =>
    clear HB1
    obtain ⟨i, L, cap, po, rfl, rfl, hi1, hi, hix, HO, HA⟩ := hrel
    have zr : w.heap.size + 1 ≤ wr.heap.size := Nat.le_trans hz0 HA.out.size
    by_cases hlt : i < n
    · have hltz : (i : Int) < n := by omega
      have hi1z : (1 : Int) ≤ i := by omega
      have hi0z : (0 : Int) < i := by omega
      have hpl := prs_len g (i - 1)
      rw [show i - 1 + 1 = i by omega] at hpl
      obtain ⟨po2, L2, cap2, w3, hrun, HR⟩ := pair_run (w.heap.size + 1) (prs g i) i (kUp f up i) (.slice po L cap) wr HO.out.2 zr (by omega)
      have HP : Aside (prs g (i + 1) = prs g i ++ [(((i : Nat) : Int), ((kUp f up i : Nat) : Int))]) := by
        show _ = _
        rw [prs_succ g hi1, HG.out i]
      rw [← HP.out] at HR
      have HL2 : Aside (L2 + 1 = i + 1) := by have := HR.out.1; show _ = _; omega
      clear hpl HP HO
      by_cases hil : i < len
      · obtain ⟨b, off, rfl, hc⟩ : ∃ b off, ao = some ⟨b, off, none⟩ ∧ wr.cell? ⟨b, off + i, none⟩ = some (.int .i64 up[i]!) := by
          rcases HUP.out with h | ⟨b, off, h1, h2, h3⟩
          · have := HL.out; rw [h] at this; simp at this; omega
          · refine ⟨b, off, h1, ?_⟩
            rw [HA.out.cell (p := ⟨b, off + i, none⟩) (by simp; omega), HB0.out.cell (p := ⟨b, off + i, none⟩) h2]
            exact h3 i (by rw [← HL.out]; exact hil)
        obtain ⟨hf1, hf2⟩ := HF.out up[i]!
        have hk := HK.out i hi1 hil
        generalize up[i]! = u at hc hf1 hf2 hk
        generalize f u = a at hf1 hf2 hk
        generalize kUp f up i = k at hrun HR hk
        have hmod : (a : Int) % (i : Int) = (k : Int) := by rw [← hk]; simp
        have ha0 : (0 : Int) ≤ (a : Int) := by omega
        have hilz : (i : Int) < len := by omega
        clear hk hf1
        go_wp2_with fail
        go_roundg (n - (i + 1))
        case measure => omega
        case rel => exact ⟨i + 1, L2, cap2, po2, rfl, by go_num, by omega, hlt, Nat.le_refl _, ⟨HL2.out, HR.out.2.1⟩, HA.out.trans HR.out.2.2⟩
      · have hk := HK0.out i hil
        rw [hk, show ((0 : Nat) : Int) = 0 from rfl] at hrun
        have hilz : ¬ (i : Int) < len := by omega
        clear hk
        go_wp2_with fail
        go_roundg (n - (i + 1))
        case measure => omega
        case rel => exact ⟨i + 1, L2, cap2, po2, rfl, by go_num, by omega, hlt, Nat.le_refl _, ⟨HL2.out, HR.out.2.1⟩, HA.out.trans HR.out.2.2⟩
    · obtain rfl : i = n := by omega
      have HNW : Aside (Calls Try.prog 8 #[.int .i64 i, .slice po L cap] wr fun e w' => ∃ T N, e = .returned (.tuple #[tp T, .int .i64 0]) ∧ Aside (Tr w' T N i m ∧ Below (w.heap.size + 1) w0 w')) := by
        obtain ⟨ho1, ho2⟩ := HO.out
        obtain ⟨ao2, cap2, hv, hp2, _⟩ := ownP_pairs ho2
        have hpl := prs_len g L
        rw [ho1] at hpl
        rw [hpl] at hv
        injection hv with e1 e2 e3
        subst e1 e3
        have := new_c i h1 h6 po cap (prs g i) _ HN.out (by omega) wr hp2
        rw [hpl] at this
        exact this.mono fun e w' ⟨T, N, h1, h2⟩ => ⟨T, N, h1, h2.1, HA.out.trans (h2.2.2.2.mono zr)⟩
      clear HO HN HK HK0 HG HUP HF hix hi hi1 hlt
      go_wp2_with fail
      refine HNW.out.mono ?_
      rintro e w2 ⟨T, N, rfl, H2⟩
      have HT := Lib.hid H2.out.1
      have HB2 := Lib.hid H2.out.2
      obtain ⟨c0, c1⟩ := HC0.out _ H2.out.2
      have hz2 : w.heap.size + 1 ≤ w2.heap.size := Nat.le_trans hz0 HB2.out.size
      clear HNW H2 HA zr HC0 hz0
      go_wp2_with fail
      go_quiet (fail)
      have hbd : Below w2.heap.size w2 (w2.drewN nq) := ⟨rfl, rfl, rfl, Nat.le_refl _, fun _ _ => rfl⟩
      have HT3 := Lib.hid (HT.out.below hbd)
      have HB3 : Aside (Below (w.heap.size + 1) w0 (w2.drewN nq)) := HB2.out.trans (hbd.mono hz2)
      have hz3 : w.heap.size + 1 ≤ (w2.drewN nq).heap.size := hz2
      clear hbd HB2 HT c0 c1 hz2
      generalize w2.drewN nq = w3 at *
      clear w2
      have HEND : Aside (∀ W, Below w3.heap.size w3 W → Below w.heap.size w W) := fun W hW => HB0.out.trans ((HB3.out.trans (hW.mono hz3)).mono (by omega))
      by_cases hv : 0 ≤ x ∧ x < i ∧ 0 ≤ y ∧ y < i
      · obtain ⟨a, rfl⟩ := Int.eq_ofNat_of_zero_le hv.1
        obtain ⟨b, rfl⟩ := Int.eq_ofNat_of_zero_le hv.2.2.1
        have ha : a < i := by omega
        have hb : b < i := by omega
        obtain ⟨l, p1, p2, l0, l1, l2, l3, l4, l5⟩ := HE1.out a b ha hb
        have hmem : ∀ x ∈ l, x < 6 := way_mem 7 m a b (-1) l (by rw [← pathP_nat ha hb]; exact p1) (by omega) (by omega)
        have hll : l.length ≤ 7 := way_len 7 m a b (-1) l (by rw [← pathP_nat ha hb]; exact p1)
        have hpos : 0 < l.length := List.length_pos_iff.2 l0
        obtain ⟨q, hq⟩ : ∃ q, l.length = q + 1 := ⟨l.length - 1, by omega⟩
        have HPX : Aside (∀ W, Below w3.heap.size w3 W → Calls Try.prog 13 #[tp T, .int .i64 a, .int .i64 b] W fun e w' => ∃ g c, e = .returned (.slice (some ⟨g, 0, none⟩) (q + 1) c) ∧ Aside (g < w'.heap.size ∧ (∀ j, j < q + 1 → w'.cell? ⟨g, j, none⟩ = some (.int .i64 ((l[j]! : Nat) : Int))) ∧ Below W.heap.size W w')) := fun W hW =>
          (path_c T N i m a b l p1 W (HT3.out.below hW)).mono fun e w' h => by
            obtain ⟨g, c, r1, r2⟩ := way_some l0 h
            rw [hq] at r1
            exact ⟨g, c, r1, r2.2.1, fun j hj => r2.1 j (by omega), r2.2.2⟩
        have HPY : Aside (∀ W, Below w3.heap.size w3 W → Calls Try.prog 13 #[tp T, .int .i64 b, .int .i64 a] W fun e w' => ∃ g c, e = .returned (.slice (some ⟨g, 0, none⟩) (q + 1) c) ∧ Aside (g < w'.heap.size ∧ (∀ j, j < q + 1 → w'.cell? ⟨g, q - j, none⟩ = some (.int .i64 ((l[j]! : Nat) : Int))) ∧ Below W.heap.size W w')) := fun W hW =>
          (path_c T N i m b a l.reverse p2 W (HT3.out.below hW)).mono fun e w' h => by
            obtain ⟨g, c, r1, r2⟩ := way_some (by simpa using l0) h
            rw [List.length_reverse, hq] at r1
            refine ⟨g, c, r1, r2.2.1, fun j hj => ?_, r2.2.2⟩
            have := r2.1 (q - j) (by rw [List.length_reverse]; omega)
            rw [this, getElem!_pos l.reverse (q - j) (by rw [List.length_reverse]; omega), getElem!_pos l j (by omega), List.getElem_reverse]
            congr 4
            omega
        have HL0 : Aside (l[0]! = a) := l1
        have HLq : Aside (l[q]! = b) := by
          rw [show l.length - 1 = q by omega] at l2
          exact l2
        have HLK : Aside (∀ j, 1 ≤ j → j < q + 1 → ∀ W, Below w3.heap.size w3 W → Calls Try.prog 12 #[tp T, .int .i64 (l[j - 1]! : Nat), .int .i64 (l[j]! : Nat)] W fun e w' => e = .returned (.bool true) ∧ W = w') := fun j h1 h2 W hW => by
          have := linked_c T N i m (l[j - 1]! : Nat) (l[j]! : Nat) W (HT3.out.below hW)
          rw [l5 j h1 (by omega)] at this
          exact this
        have HND : Aside (∀ j, j < q + 1 → l[j]! ∉ (l.take j).reverse ∧ l[j]! < 1000 ∧ (l.take (j + 1)).reverse = l[j]! :: (l.take j).reverse ∧ (l.take j).reverse.length = j) := fun j hj => by
          have hjl : j < l.length := by omega
          rw [getElem!_pos l j hjl]
          refine ⟨fun hm => ?_, by have := hmem _ (List.getElem_mem hjl); omega, ?_, by rw [List.length_reverse, List.length_take]; omega⟩
          · have hm2 := List.mem_reverse.1 hm
            obtain ⟨k, hk, e⟩ := List.getElem_of_mem hm2
            rw [List.length_take] at hk
            rw [List.getElem_take] at e
            exact List.pairwise_iff_getElem.1 l4 k j (by omega) hjl (by omega) e
          · rw [List.take_succ_eq_append_getElem hjl, List.reverse_append]; rfl
        obtain ⟨bb, hbb⟩ : ∃ bb, bb = decide (a = b) := ⟨_, rfl⟩
        have hb1 : ((a : Int) == (b : Int)) = bb := by
          rw [hbb, Bool.eq_iff_iff, beq_iff_eq, decide_eq_true_eq]; omega
        have hb2 : ((q : Int) + 1 == 1) = bb := by
          rw [hbb, Bool.eq_iff_iff, beq_iff_eq, decide_eq_true_eq, l3]; omega
        have hb3 : ((q : Int) == 0) = bb := by
          rw [hbb, Bool.eq_iff_iff, beq_iff_eq, decide_eq_true_eq, l3]; omega
        have hq0 : (0 : Int) ≤ (q : Int) := by omega
        have hq6 : (q : Int) ≤ 6 := by omega
        have ha0 : (0 : Int) ≤ (a : Int) := by omega
        have haz : (a : Int) < i := by omega
        have hb0 : (0 : Int) ≤ (b : Int) := by omega
        have hbz : (b : Int) < i := by omega
        have HQ6 : Aside (q ≤ 6) := by show _ ≤ _; omega
        clear hbb l0 l1 l2 l3 l4 l5 p1 p2 hq hpos hll hmem hv HE1 ha hb
        go_wp2_with fail
        refine (HPX.out _ (Below.refl _ _)).mono ?_
        rintro e w4 ⟨g4, c4, rfl, H4⟩
        have HB4 := Lib.hid H4.out.2.2
        go_wp2_with fail
        refine (HPY.out _ HB4.out).mono ?_
        rintro e w5 ⟨g5, c5, rfl, H5⟩
        have HB5 : Aside (Below w3.heap.size w3 w5) := HB4.out.trans (H5.out.2.2.mono HB4.out.size)
        have HC4 : Aside (g4 < w5.heap.size ∧ ∀ j, j < q + 1 → w5.cell? ⟨g4, j, none⟩ = some (.int .i64 ((l[j]! : Nat) : Int))) := ⟨Nat.lt_of_lt_of_le H4.out.1 H5.out.2.2.size, fun j hj => (H5.out.2.2.cell (p := ⟨g4, j, none⟩) H4.out.1).trans (H4.out.2.1 j hj)⟩
        have HC5 : Aside (g5 < w5.heap.size ∧ ∀ j, j < q + 1 → w5.cell? ⟨g5, q - j, none⟩ = some (.int .i64 ((l[j]! : Nat) : Int))) := ⟨H5.out.1, H5.out.2.1⟩
        have k0 := HC4.out.2 0 (by omega)
        have kq := HC4.out.2 q (by omega)
        rw [HL0.out] at k0
        rw [HLq.out] at kq
        clear H4 H5 HPX HPY HB4 HL0 HLq
        have hmm := @run_makeMap Try.prog
        have HS0 : Aside (SetI (w5.alloc (.map #[] 0)) w5.heap.size (l.take 0).reverse) := set_new w5
        have HB6 : Aside (Below w5.heap.size w5 (w5.alloc (.map #[] 0))) := (Below.refl _ _).alloc (Nat.le_refl _) _
        go_wp2_with fail
        clear hmm k0 kq
        generalize (w5.alloc (.map #[] 0)) = w6 at *
        obtain ⟨M, hM⟩ : ∃ M, M = w5.heap.size := ⟨_, rfl⟩
        have HM := Lib.hid hM
        rw [← hM] at HS0 ⊢
        clear hM
        clear hb1 hb2 hb3
        go_loopg [134] (q + 1) (fun kx s134 wr => ∃ j : Nat, s134 = .int .i64 j ∧ j ≤ q + 1 ∧ q + 1 - j ≤ kx ∧ Aside (SetI wr M (l.take j).reverse) ∧ Aside (Below w5.heap.size w5 wr))
        case atStart => exact ⟨0, rfl, Nat.zero_le _, by omega, HS0.out, HB6.out⟩
        case round =>
          clear HS0 HB6
          obtain ⟨j, rfl, hj, hjx, HS, HA⟩ := hrel
          by_cases hlt : j < q + 1
          · have hltz : (j : Int) < (q : Int) + 1 := by omega
            have hj0 : (0 : Int) ≤ (j : Int) := by omega
            obtain ⟨hnd1, hnd2, hnd3, hnd4⟩ := HND.out j hlt
            have kj := (HA.out.cell (p := ⟨g4, j, none⟩) HC4.out.1).trans (HC4.out.2 j hlt)
            have kr := (HA.out.cell (p := ⟨g5, q - j, none⟩) HC5.out.1).trans (HC5.out.2 j hlt)
            have hlook := set_look HS.out l[j]! hnd2 hnd1
            obtain ⟨w9, hput, HS9, hg9⟩ := set_put HS.out l[j]! hnd2 (by rw [hnd4]; have := HQ6.out; omega)
            rw [← hnd3] at HS9
            have HSX := Lib.hid HS9
            have HBX : Aside (Below w5.heap.size w5 w9) := HA.out.grown hg9 HA.out.size (fun k e => by injection e with e; subst e; exact Nat.le_of_eq HM.out.symm)
            have HBW : Aside (Below w3.heap.size w3 wr) := HB5.out.trans (HA.out.mono HB5.out.size)
            obtain ⟨p, hp⟩ : ∃ p, p = q - j := ⟨_, rfl⟩
            rw [← hp] at kr
            have hidx : (q : Int) - (j : Int) = (p : Int) := by omega
            by_cases hj1 : 1 ≤ j
            · obtain ⟨r, hr⟩ : ∃ r, r = j - 1 := ⟨_, rfl⟩
              have kp := (HA.out.cell (p := ⟨g4, j - 1, none⟩) HC4.out.1).trans (HC4.out.2 (j - 1) (by omega))
              have HLj := Lib.hid (HLK.out j hj1 hlt wr HBW.out)
              rw [← hr] at kp HLj
              have hidx2 : (j : Int) - 1 = (r : Int) := by omega
              have hrq : (r : Int) < (q : Int) + 1 := by omega
              have hpq : (p : Int) < (q : Int) + 1 := by omega
              have hjp : 0 < j := by omega
              generalize l[r]! = z at kp HLj
              generalize l[j]! = x at *
              clear hp hr HS HS9 hg9 hnd1 hnd2 hnd3 hnd4 HND HLK HC4 HC5 HBW
              go_wp2_with fail
              refine HLj.out.mono ?_
              rintro e w8 ⟨rfl, rfl⟩
              go_wp2_with fail
              go_roundg (q + 1 - (j + 1))
              case measure => omega
              case rel => exact ⟨j + 1, by go_num, hlt, Nat.le_refl _, HSX.out, HBX.out⟩
            · have hjz : (0 < j) = False := eq_false (by omega)
              have hpq : (p : Int) < (q : Int) + 1 := by omega
              generalize l[j]! = x at *
              clear hj1 hp HS HS9 hg9 hnd1 hnd2 hnd3 hnd4 HND HLK HC4 HC5 HBW
              go_wp2_with fail
              go_roundg (q + 1 - (j + 1))
              case measure => omega
              case rel => exact ⟨j + 1, by go_num, hlt, Nat.le_refl _, HSX.out, HBX.out⟩
          · obtain rfl : j = q + 1 := by omega
            go_wp2_with fail
            go_ret
            exact ⟨rfl, HEND.out _ (HB5.out.trans (HA.out.mono HB5.out.size))⟩
      · have HPX : Aside (∀ W, Below w3.heap.size w3 W → Calls Try.prog 13 #[tp T, .int .i64 x, .int .i64 y] W fun e w' => e = .returned (.slice none 0 0) ∧ Below W.heap.size W w') := fun W hW =>
          (path_c T N i m x y [] (pathP_no hv) W (HT3.out.below hW)).mono fun e w' h => way_nil h
        have HPY : Aside (∀ W, Below w3.heap.size w3 W → Calls Try.prog 13 #[tp T, .int .i64 y, .int .i64 x] W fun e w' => e = .returned (.slice none 0 0) ∧ Below W.heap.size W w') := fun W hW =>
          (path_c T N i m y x [] (pathP_no (by omega)) W (HT3.out.below hW)).mono fun e w' h => way_nil h
        have hcs : x < 0 ∨ (¬ x < 0 ∧ y < 0) ∨ (¬ x < 0 ∧ ¬ y < 0 ∧ (i : Int) ≤ x) ∨ (¬ x < 0 ∧ ¬ y < 0 ∧ ¬ (i : Int) ≤ x ∧ (i : Int) ≤ y) := by omega
        clear hv HE1
        go_wp2_with fail
        refine (HPX.out _ (Below.refl _ _)).mono ?_
        rintro e w4 ⟨rfl, hb4⟩
        have HB4 := Lib.hid hb4
        clear hb4
        go_wp2_with fail
        refine (HPY.out _ HB4.out).mono ?_
        rintro e w5 ⟨rfl, hb5⟩
        have HB5 : Aside (Below w3.heap.size w3 w5) := HB4.out.trans (hb5.mono HB4.out.size)
        clear hb5 HPX HPY
        rcases hcs with hx | ⟨hx, hy⟩ | ⟨hx, hy, hxn⟩ | ⟨hx, hy, hxn, hyn⟩
        all_goals
          go_wp2_with fail
          go_ret
          exact ⟨rfl, HEND.out _ HB5.out⟩
end Go.Proofs.Ytnkceajhhiidcaa
