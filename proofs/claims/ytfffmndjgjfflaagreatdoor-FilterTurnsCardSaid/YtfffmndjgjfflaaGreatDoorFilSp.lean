/- filter.spare: is a condition spare among others? -/
import Derived.Test.YtfffmndjgjfflaaGreatDoorFilS
import Derived.Test.YtfffmndjgjfflaaGreatDoorNormP
import Derived.Test.YtfffmndjgjfflaaGreatDoorGaE
namespace Go.Proofs.YtfffmndjgjfflaaGreatDoor
open Go.RowKit Go.Shelf
open Go.Proofs
set_option maxRecDepth 100000

theorem row_at {w : World} {co : Option Addr} {cs : List Cn} (h : CondsB w.heap.size w co cs) (hne : 0 < cs.length) : ∃ b off, co = some ⟨b, off, none⟩ ∧ ∀ W, Below w.heap.size w W → ∀ i, i < cs.length → ∀ c v, (encC cs[i]!)[c]? = some v → W.cell? ⟨b, off + i * 7 + c, none⟩ = some v := by
  rcases h with h | ⟨b, off, h1, h2, h3⟩
  · rw [h] at hne; simp at hne
  · exact ⟨b, off, h1, fun W hW i hi => RowC.below hW h2 h3 i hi⟩

set_option maxHeartbeats 8000000 in
theorem spare_c (co : Option Addr) (ccap : Nat) (cs : List Cn) (at_ : Nat) (w : World) (hcs : CondsB w.heap.size w co cs) (hx : ∀ c ∈ cs, AtOk c.a) (hlc : cs.length ≤ 1000) (hat : at_ < cs.length) :
    Calls Tryz.prog 26 #[.slice co cs.length ccap, .int .i64 at_] w fun e w' => e = .returned (.bool (spareB cs at_)) ∧ Below w.heap.size w w' := by
  obtain ⟨b, off, rfl, hrow⟩ := row_at hcs (by omega)
  obtain ⟨len, hL⟩ : ∃ len, len = cs.length := ⟨_, rfl⟩
  have HLen := Lib.hid hL
  rw [← hL] at hlc hat ⊢
  have HROW := Lib.hid hrow
  have HI : Aside (∀ i, i < len → ∀ j, j < len → ∀ W, Calls Tryz.prog 31 #[cndC cs[i]!, cndC cs[j]!] W fun e w' => e = .returned (.bool (impliesB cs[i]! cs[j]!)) ∧ Below W.heap.size W w') := fun i hi j hj W =>
    implies_c _ _ _ _ _ _ _ _ _ _ _ _ _ _ (hx _ (memC cs i (by omega))) (hx _ (memC cs j (by omega))) W
  obtain ⟨r, hr⟩ : ∃ r, r = spareB cs at_ := ⟨_, rfl⟩
  have HR0 : Aside ((List.range len).any (fun k => betterB cs k at_) = r) := by show _ = _; rw [hr, hL]; rfl
  rw [← hr]
  obtain ⟨q, hq⟩ : ∃ q : Nat → Bool, ∀ k, q k = betterB cs k at_ := ⟨_, fun _ => rfl⟩
  have HQ := Lib.hid hq
  have HR : Aside ((List.range len).any q = r) := by
    show _ = _
    rw [← HR0.out]; congr 1; funext k; exact hq k
  obtain ⟨⟨⟨nmA, kA, nA, xA, sA, yA⟩, opA⟩, hA⟩ : ∃ c, c = cs[at_]! := ⟨_, rfl⟩
  have HAt := Lib.hid hA
  have hat2 : at_ < cs.length := by omega
  clear hcs hx hr hq HR0 hL hrow hA
  have hatz : (at_ : Int) < len := by omega
  have hat0 : (0 : Int) ≤ (at_ : Int) := by omega
  go_enter Tryz.func26, Tryz.ntmps26
  go_wp2_with fail
  go_loopg [9] len (fun kx s9 wr => ∃ j : Nat, s9 = .int .i64 j ∧ j ≤ len ∧ len - j ≤ kx ∧ Aside ((List.range j).any q = false) ∧ Aside (Below w.heap.size w wr))
  case atStart => exact ⟨0, rfl, Nat.zero_le _, by omega, by simp [Aside], Below.refl _ _⟩
  case round =>
    obtain ⟨j, rfl, hj, hjx, HN, HA⟩ := hrel
    have zr : w.heap.size ≤ wr.heap.size := HA.out.size
    by_cases hlt : j < len
    · have hjl : j < cs.length := by rw [← HLen.out]; exact hlt
      have c_ := fun c v h => HROW.out wr HA.out j hjl c v h
      have a_ := Lib.hid (fun W hW c v h => HROW.out W hW at_ hat2 c v h)
      have HT : Aside (q j = true → r = true) := fun h => by rw [← HR.out]; exact List.any_eq_true.2 ⟨j, List.mem_range.2 hlt, h⟩
      have HF : Aside (q j = false → (List.range (j + 1)).any q = false) := fun h => by rw [List.range_succ, List.any_append, HN.out]; simp [h]
      have HQj : Aside (q j = (j != at_ && (impliesB cs[j]! cs[at_]! && (decide (j < at_) || !impliesB cs[at_]! cs[j]!)))) := HQ.out j
      have HI1 := Lib.hid (HI.out j hlt at_ hat)
      have HI2 := Lib.hid (HI.out at_ hat j hlt)
      rw [← HAt.out] at a_ HI1 HI2 HQj
      generalize cs[j]! = c at c_ HI1 HI2 HQj
      obtain ⟨⟨nm, k, n, x, s, y⟩, op⟩ := c
      unfold cndC at HI1 HI2
      simp only at HI1 HI2
      generalize impliesB ⟨⟨nm, k, n, x, s, y⟩, op⟩ ⟨⟨nmA, kA, nA, xA, sA, yA⟩, opA⟩ = p1 at HI1 HQj
      generalize impliesB ⟨⟨nmA, kA, nA, xA, sA, yA⟩, opA⟩ ⟨⟨nm, k, n, x, s, y⟩, op⟩ = p2 at HI2 HQj
      generalize q j = qj at HT HF HQj
      have c0 := c_ 0 _ rfl; have c1 := c_ 1 _ rfl; have c2 := c_ 2 _ rfl; have c3 := c_ 3 _ rfl; have c4 := c_ 4 _ rfl; have c5 := c_ 5 _ rfl; have c6 := c_ 6 _ rfl
      simp only [Nat.add_zero] at c0
      clear c_ hjl
      have hltz : (j : Int) < len := by omega
      have hjz : (0 : Int) ≤ (j : Int) := by omega
      go_upto_region 4 with fail
      have HK : Aside (∀ W, Below (wr.heap.size + 1) (wr.alloc (.cells (cnds nm op k n x s y) 31)) W → Below w.heap.size w W ∧ (∀ i v, (cnds nm op k n x s y)[i]? = some v → W.cell? ⟨wr.heap.size, i, none⟩ = some v) ∧ ∀ c v, (encC ⟨⟨nmA, kA, nA, xA, sA, yA⟩, opA⟩)[c]? = some v → W.cell? ⟨b, off + at_ * 7 + c, none⟩ = some v) := fun W hW => by
        have h1 : Below w.heap.size w W := (HA.out.alloc zr _).trans (hW.mono (by omega))
        exact ⟨h1, fun i v h => one_lay hW i v h, a_.out W h1⟩
      have HB1 : Aside (Below (wr.heap.size + 1) (wr.alloc (.cells (cnds nm op k n x s y) 31)) (wr.alloc (.cells (cnds nm op k n x s y) 31))) := Below.refl _ _
      have HS1 : Aside ((wr.alloc (.cells (cnds nm op k n x s y) 31)).heap.size = wr.heap.size + 1) := by simp [Aside]
      clear c0 c1 c2 c3 c4 c5 c6 a_
      generalize (wr.alloc (.cells (cnds nm op k n x s y) 31)) = w1 at *
      generalize wr.heap.size = V at *
      by_cases hja : j = at_
      · have hqf : Aside (qj = false) := by show _ = _; rw [HQj.out, hja]; simp
        have hjaz : ((j : Int) == (at_ : Int)) = true := by simp [hja]
        have HEQ := Lib.hid hja
        clear hja
        go_region
        all_goals
          go_wp2_with fail
          go_roundg (len - (j + 1))
          case measure => omega
          case rel => exact ⟨j + 1, by go_num, hlt, Nat.le_refl _, HF.out hqf.out, ((HK.out _ HB1.out).1.trans (below_drew1' w1 |>.mono (HK.out _ HB1.out).1.size))⟩
      · have hjaz : ((j : Int) == (at_ : Int)) = false := by simp; omega
        have TR1 : ∀ p : BW w1, Below (V + 1) w1 p.W := fun p => by have := p.h; rw [HS1.out] at this; exact this
        have KK := fun p : BW w1 => HK.out p.W (TR1 p)
        have v0 : ∀ p : BW w1, p.W.cell? ⟨V, 0, none⟩ = some (.string nm) := fun p => (KK p).2.1 0 _ rfl
        have v1 : ∀ p : BW w1, p.W.cell? ⟨V, 1, none⟩ = some (.int .i64 op) := fun p => (KK p).2.1 1 _ rfl
        have v2 : ∀ p : BW w1, p.W.cell? ⟨V, 2, none⟩ = some (.int .i64 k) := fun p => (KK p).2.1 2 _ rfl
        have v3 : ∀ p : BW w1, p.W.cell? ⟨V, 3, none⟩ = some (.int .i64 n) := fun p => (KK p).2.1 3 _ rfl
        have v4 : ∀ p : BW w1, p.W.cell? ⟨V, 4, none⟩ = some (.float .f64 x) := fun p => (KK p).2.1 4 _ rfl
        have v5 : ∀ p : BW w1, p.W.cell? ⟨V, 5, none⟩ = some (.string s) := fun p => (KK p).2.1 5 _ rfl
        have v6 : ∀ p : BW w1, p.W.cell? ⟨V, 6, none⟩ = some (.bool y) := fun p => (KK p).2.1 6 _ rfl
        have b0 : ∀ p : BW w1, p.W.cell? ⟨b, off + at_ * 7, none⟩ = some (.string nmA) := fun p => (KK p).2.2 0 _ rfl
        have b1 : ∀ p : BW w1, p.W.cell? ⟨b, off + at_ * 7 + 1, none⟩ = some (.int .i64 opA) := fun p => (KK p).2.2 1 _ rfl
        have b2 : ∀ p : BW w1, p.W.cell? ⟨b, off + at_ * 7 + 2, none⟩ = some (.int .i64 kA) := fun p => (KK p).2.2 2 _ rfl
        have b3 : ∀ p : BW w1, p.W.cell? ⟨b, off + at_ * 7 + 3, none⟩ = some (.int .i64 nA) := fun p => (KK p).2.2 3 _ rfl
        have b4 : ∀ p : BW w1, p.W.cell? ⟨b, off + at_ * 7 + 4, none⟩ = some (.float .f64 xA) := fun p => (KK p).2.2 4 _ rfl
        have b5 : ∀ p : BW w1, p.W.cell? ⟨b, off + at_ * 7 + 5, none⟩ = some (.string sA) := fun p => (KK p).2.2 5 _ rfl
        have b6 : ∀ p : BW w1, p.W.cell? ⟨b, off + at_ * 7 + 6, none⟩ = some (.bool yA) := fun p => (KK p).2.2 6 _ rfl
        have h1 : ∀ p : BW w1, Calls Tryz.prog 31 #[cnd nm op k n x s y, cnd nmA opA kA nA xA sA yA] p.W fun e w'' => e = .returned (.bool p1) ∧ ∃ q : BW w1, w'' = q.W := fun p => (HI1.out p.W).mono fun _ _ q => ⟨q.1, ⟨⟨_, p.h.trans (q.2.mono p.h.size)⟩, rfl⟩⟩
        have bz : ((j : Int) = (at_ : Int)) = False := eq_false (by omega)
        go_cut [25] (fun s25 wx => s25 = .bool (!p1) ∧ Aside (Below w1.heap.size w1 wx))
        case first =>
          refine wp_region_bw (by kernel_rfl) (by kernel_rfl) ?_
          repeat (quiet_step (first | (go_at_call 31; exact h1 _)))
          refine wpQuiet_nil ?_
          intro _ hw'
          obtain ⟨⟨wx, hwx⟩, hw''⟩ := hw'
          subst hw''
          have HX1 := Lib.hid hwx
          clear hwx h1 KK v0 b0 v1 b1 v2 b2 v3 b3 v4 b4 v5 b5 v6 b6
          go_wp2_with fail
          go_meet
          exact ⟨rfl, HX1.out⟩
        case rest =>
          obtain ⟨rfl, HX1⟩ := hcut
          clear h1 KK v0 b0 v1 b1 v2 b2 v3 b3 v4 b4 v5 b5 v6 b6
          have HQ1 : Aside (qj = (p1 && (decide (j < at_) || !p2))) := by
            show _ = _
            rw [HQj.out]; simp [hja]
          have HB2 := Lib.hid (TR1 ⟨wc, HX1.out⟩)
          have HBW2 := Lib.hid (HK.out _ HB2.out).1
          clear HQj TR1
          cases p1
          · have hqf : Aside (qj = false) := by show _ = _; rw [HQ1.out]; rfl
            go_wp2_with fail
            go_roundg (len - (j + 1))
            case measure => omega
            case rel => exact ⟨j + 1, by go_num, hlt, Nat.le_refl _, HF.out hqf.out, HBW2.out⟩
          · have HQ2 : Aside (qj = (decide (j < at_) || !p2)) := by show _ = _; rw [HQ1.out]; rfl
            clear HQ1
            go_upto_region 5 with fail
            by_cases hl2 : j < at_
            · have hl2z : (j : Int) < (at_ : Int) := by omega
              have hrt : r = true := HT.out (by rw [HQ2.out]; simp [hl2])
              subst hrt
              clear HQ2 HT HF
              go_region
              all_goals
                go_wp2_with fail
                go_ret
                exact ⟨rfl, HBW2.out.trans (below_drew1' _ |>.mono HBW2.out.size)⟩
            · have hl2z : ¬ (j : Int) < (at_ : Int) := by omega
              have HQ3 : Aside (qj = !p2) := by show _ = _; rw [HQ2.out]; simp [hl2]
              clear HQ2
              have TR2 : ∀ p : BW wc, Below (V + 1) w1 p.W := fun p => HB2.out.trans (p.h.mono (Nat.le_trans (Nat.le_of_eq HS1.out.symm) HB2.out.size))
              have KK := fun p : BW wc => HK.out p.W (TR2 p)
              have v0 : ∀ p : BW wc, p.W.cell? ⟨V, 0, none⟩ = some (.string nm) := fun p => (KK p).2.1 0 _ rfl
              have v1 : ∀ p : BW wc, p.W.cell? ⟨V, 1, none⟩ = some (.int .i64 op) := fun p => (KK p).2.1 1 _ rfl
              have v2 : ∀ p : BW wc, p.W.cell? ⟨V, 2, none⟩ = some (.int .i64 k) := fun p => (KK p).2.1 2 _ rfl
              have v3 : ∀ p : BW wc, p.W.cell? ⟨V, 3, none⟩ = some (.int .i64 n) := fun p => (KK p).2.1 3 _ rfl
              have v4 : ∀ p : BW wc, p.W.cell? ⟨V, 4, none⟩ = some (.float .f64 x) := fun p => (KK p).2.1 4 _ rfl
              have v5 : ∀ p : BW wc, p.W.cell? ⟨V, 5, none⟩ = some (.string s) := fun p => (KK p).2.1 5 _ rfl
              have v6 : ∀ p : BW wc, p.W.cell? ⟨V, 6, none⟩ = some (.bool y) := fun p => (KK p).2.1 6 _ rfl
              have b0 : ∀ p : BW wc, p.W.cell? ⟨b, off + at_ * 7, none⟩ = some (.string nmA) := fun p => (KK p).2.2 0 _ rfl
              have b1 : ∀ p : BW wc, p.W.cell? ⟨b, off + at_ * 7 + 1, none⟩ = some (.int .i64 opA) := fun p => (KK p).2.2 1 _ rfl
              have b2 : ∀ p : BW wc, p.W.cell? ⟨b, off + at_ * 7 + 2, none⟩ = some (.int .i64 kA) := fun p => (KK p).2.2 2 _ rfl
              have b3 : ∀ p : BW wc, p.W.cell? ⟨b, off + at_ * 7 + 3, none⟩ = some (.int .i64 nA) := fun p => (KK p).2.2 3 _ rfl
              have b4 : ∀ p : BW wc, p.W.cell? ⟨b, off + at_ * 7 + 4, none⟩ = some (.float .f64 xA) := fun p => (KK p).2.2 4 _ rfl
              have b5 : ∀ p : BW wc, p.W.cell? ⟨b, off + at_ * 7 + 5, none⟩ = some (.string sA) := fun p => (KK p).2.2 5 _ rfl
              have b6 : ∀ p : BW wc, p.W.cell? ⟨b, off + at_ * 7 + 6, none⟩ = some (.bool yA) := fun p => (KK p).2.2 6 _ rfl
              have h1 : ∀ p : BW wc, Calls Tryz.prog 31 #[cnd nmA opA kA nA xA sA yA, cnd nm op k n x s y] p.W fun e w'' => e = .returned (.bool p2) ∧ ∃ q : BW wc, w'' = q.W := fun p => (HI2.out p.W).mono fun _ _ q => ⟨q.1, ⟨⟨_, p.h.trans (q.2.mono p.h.size)⟩, rfl⟩⟩
              go_cut [37] (fun s37 wx => s37 = .bool (!p2) ∧ Aside (Below w.heap.size w wx))
              case first =>
                refine wp_region_bw (by kernel_rfl) (by kernel_rfl) ?_
                repeat (quiet_step (first | (go_at_call 31; exact h1 _)))
                refine wpQuiet_nil ?_
                intro _ hw'
                obtain ⟨⟨wx, hwx⟩, hw''⟩ := hw'
                subst hw''
                have HX3 := Lib.hid (HBW2.out.trans (hwx.mono HBW2.out.size))
                clear hwx h1 TR2 KK v0 b0 v1 b1 v2 b2 v3 b3 v4 b4 v5 b5 v6 b6
                go_wp2_with fail
                go_meet
                exact ⟨rfl, HX3.out⟩
              case rest =>
                obtain ⟨rfl, HX3⟩ := hcut
                clear h1 TR2 KK v0 b0 v1 b1 v2 b2 v3 b3 v4 b4 v5 b5 v6 b6
                cases p2
                · have hrt : r = true := HT.out (by rw [HQ3.out]; rfl)
                  subst hrt
                  go_wp2_with fail
                  go_ret
                  exact ⟨rfl, HX3.out⟩
                · have hqf : Aside (qj = false) := by show _ = _; rw [HQ3.out]; rfl
                  go_wp2_with fail
                  go_roundg (len - (j + 1))
                  case measure => omega
                  case rel => exact ⟨j + 1, by go_num, hlt, Nat.le_refl _, HF.out hqf.out, HX3.out⟩
    · obtain rfl : j = len := by omega
      have hrf : r = false := by rw [← HR.out]; exact HN.out
      subst hrf
      go_wp2_with fail
      go_ret
      exact ⟨rfl, HA.out⟩
end Go.Proofs.YtfffmndjgjfflaaGreatDoor
