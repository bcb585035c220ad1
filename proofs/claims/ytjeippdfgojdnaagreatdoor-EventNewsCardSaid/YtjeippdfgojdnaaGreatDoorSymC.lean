/- slices.symMergeCmpFunc at the attributes of an event, where each run has more than one. (Written by gen_sym.py.) -/
import Derived.Test.YtjeippdfgojdnaaGreatDoorSymT
import Derived.Deep.DeepCutAuto
import Derived.Deep.CutBlock
namespace Go.Proofs.YtjeippdfgojdnaaGreatDoor
open Go.Shelf Go.RowKit Go.Lib Go.Sort
open Go.Proofs
variable {P : Program} {α : Type} [Inhabited α]

set_option maxHeartbeats 16000000 in
set_option maxRecDepth 1000000 in
theorem symMergeC_c (L : SortP P) (k : Nat) (aE : ∀ w, (isAgg 38).run P w = .ok true w) (zE : ∀ w, (Go.sizeOf 38).run P w = .ok k w) (enc : α → List Value) (cf : α → α → Int) (key : α → List UInt8) (hcf : ∀ x y, ltOf cf x y = ltKey key x y) (g : Nat) (cb : Array Value) (blk off cap : Nat) (d0 : Array α) (w0 : World)
    (eg : ∀ args w, (callFunc g args).run P w = .ok (.enter g args) w) (hcmp : CmpLays P g cb enc k cf blk off d0.size w0) (R : RowK enc k w0 blk off d0) (hsz : d0.size < 4611686018427387904) (a m b : Nat) (d : Array α) (w : World)
    (hs : d0.size = d.size) (S : SWK enc k w0 blk off d w) (_ham : a < m) (_hmb : m < b) (hb : b ≤ d.size) (sa : SortedIn (ltKey key) a m d) (sb : SortedIn (ltKey key) m b d) (hm2 : a + 1 < m) (hb2 : m + 1 < b) (hrec : ∀ (a' m' b' : Nat) (d : Array α) (w : World), b' - a' < b - a → d0.size = d.size → SWK enc k w0 blk off d w → a' < m' → m' < b' → b' ≤ d.size → SortedIn (ltKey key) a' m' d → SortedIn (ltKey key) m' b' d → Calls P 94 #[.slice (some ⟨blk, off, none⟩) d0.size cap, .int .i64 a', .int .i64 m', .int .i64 b', .func (.func g) #[] cb] w fun e w' => e = .returned (.tuple #[]) ∧ ∃ d', Aside (Good key a' b' d d' ∧ SortedIn (ltKey key) a' b' d') ∧ Aside (SWK enc k w0 blk off d' w')) :
    Calls P 94 #[.slice (some ⟨blk, off, none⟩) d0.size cap, .int .i64 a, .int .i64 m, .int .i64 b, .func (.func g) #[] cb] w fun e w' =>
      e = .returned (.tuple #[]) ∧ ∃ d', Aside (Good key a b d d' ∧ SortedIn (ltKey key) a b d') ∧ Aside (SWK enc k w0 blk off d' w') := by
  have LL : Aside (SortP P) := L
  have REC : Aside _ := hrec
  clear hrec
  have HROT : Aside (∀ (x y z : Nat) (dk : Array α) (wr : World), d0.size = dk.size → SWK enc k w0 blk off dk wr → x < y → y < z → z ≤ dk.size →
    Calls P 105 #[.slice (some ⟨blk, off, none⟩) d0.size cap, .int .i64 x, .int .i64 y, .int .i64 z, .func (.func g) #[] cb] wr fun e w' => e = .returned (.tuple #[]) ∧ ∃ d', Aside (Rot x y z dk d') ∧ Aside (SWK enc k w0 blk off d' w')) := fun x y z dk wr hds S1 h1 h2 h3 => by
    have h := rotate_c L k aE zE enc g cb blk off cap x y z d0 dk w0 wr R hds S1 h1 h2 h3 (by omega)
    rw [← hds] at h; exact h
  have erot : ∀ args w, (callFunc 105 args).run P w = .ok (.enter 105 args) w := enters_of L.rot (by kernel_rfl) rfl
  have esym : ∀ args w, (callFunc 94 args).run P w = .ok (.enter 94 args) w := enters_of L.sym (by kernel_rfl) rfl
  have mixed := L.mixed; have t0 := L.t0; have a0 := L.a0; have z0 := L.z0; have v0 := L.v0; have t3 := L.t3; have a3 := L.a3; have z3 := L.z3; have v3 := L.v3; have tu := L.tu; have au := L.au; have zu := L.zu; have vu := L.vu; have t4 := L.t4; have a4 := L.a4; have z4 := L.z4; have v4 := L.v4; have t22 := L.t22; have a22 := L.a22; have z22 := L.z22; have v22 := L.v22; have t25 := L.t25; have a25 := L.a25; have z25 := L.z25; have v25 := L.v25
  have u3 := run_underlying L.t3; have uu := run_underlying L.tu
  have FG := L.sym
  have S0 : Aside (SWK enc k w0 blk off d w) := S
  have HC : Aside _ := hcmp
  have HCF : Aside _ := hcf
  have SA : Aside _ := sa
  have SB : Aside _ := sb
  have HS : Aside _ := hs
  clear S L hcmp hcf sa sb
  generalize hN : d0.size = N at *
  have bsz : b ≤ N := by omega
  have hs1 : d.size ≤ N := by omega
  have hs2 : N ≤ d.size := by omega
  clear hs hb
  have wma : IntKind.i64.wrap ((m : Int) - (a : Int)) = (m : Int) - (a : Int) := by rw [IntKind.wrap_i64]; omega
  have wbm : IntKind.i64.wrap ((b : Int) - (m : Int)) = (b : Int) - (m : Int) := by rw [IntKind.wrap_i64]; omega
  have b1 : (((m : Int) - (a : Int)) == 1) = false := by simp; omega
  have b2 : (((b : Int) - (m : Int)) == 1) = false := by simp; omega
  obtain ⟨mid, hmid⟩ : ∃ mid, mid = (a + b) / 2 := ⟨_, rfl⟩
  have wab : IntKind.i64.wrap ((a : Int) + (b : Int)) = (a : Int) + (b : Int) := by rw [IntKind.wrap_i64]; omega
  have emid : ((a : Int) + (b : Int)) / 2 = (mid : Int) := by omega
  have mid1 : 2 * mid ≤ a + b := by omega
  have mid2 : a + b ≤ 2 * mid + 1 := by omega
  have wmm : IntKind.i64.wrap ((mid : Int) + (m : Int)) = (mid : Int) + (m : Int) := by rw [IntKind.wrap_i64]; omega
  have wmb : IntKind.i64.wrap ((mid : Int) + (m : Int) - (b : Int)) = (mid : Int) + (m : Int) - (b : Int) := by rw [IntKind.wrap_i64]; omega
  have wm1 : IntKind.i64.wrap ((mid : Int) + (m : Int) - 1) = (mid : Int) + (m : Int) - 1 := by rw [IntKind.wrap_i64]; omega
  clear hmid
  go_enter FG, Tryz.ntmps94
  go_upto_if 140 with fail
  go_cut [20, 21] (fun s20 s21 wx => ∃ s0 r0 : Nat, s20 = .int .i64 s0 ∧ s21 = .int .i64 r0 ∧ a ≤ s0 ∧ s0 ≤ r0 ∧ r0 ≤ m ∧ r0 ≤ mid ∧ mid + m ≤ s0 + b ∧ Aside ((s0 = a ∨ s0 + b = mid + m) ∧ (r0 = m ∨ r0 = mid)) ∧ wx = w)
  case first =>
    by_cases hgt : mid < m
    · have hgtz : (mid : Int) < (m : Int) := by omega
      go_wp2_with fail
      go_meet
      case rel => exact ⟨mid + m - b, mid, by congr 1; omega, rfl, by omega, by omega, by omega, Nat.le_refl _, by omega, (⟨Or.inr (by omega), Or.inr rfl⟩ : _ ∧ _), rfl⟩
    · have hgtz : ¬ (mid : Int) < (m : Int) := by omega
      go_wp2_with fail
      go_meet
      case rel => exact ⟨a, m, rfl, rfl, Nat.le_refl _, by omega, Nat.le_refl _, by omega, by omega, (⟨Or.inl rfl, Or.inl rfl⟩ : _ ∧ _), rfl⟩
  case rest =>
    obtain ⟨s0, r0, rfl, rfl, c1, c2, c3, c4, c5, C, rfl⟩ := hcut
    go_upto_block 8 with fail
    go_cut [20, 21] (fun s20 s21 wx => ∃ i : Nat, s20 = .int .i64 i ∧ s21 = .int .i64 i ∧ s0 ≤ i ∧ i ≤ m ∧ i ≤ mid ∧ Aside (SWK enc k w0 blk off d wx) ∧
      Aside ((i = s0 ∨ ltKey key d[mid + m - i]! d[i - 1]! = false) ∧ (i = r0 ∨ ltKey key d[mid + m - 1 - i]! d[i]! = true)))
    case first =>
     go_wp2_with fail
     go_loopg [20, 21] (r0 - s0) (fun kx s20 s21 wr => ∃ (i j : Nat), s20 = .int .i64 i ∧ s21 = .int .i64 j ∧ s0 ≤ i ∧ i ≤ j ∧ j ≤ r0 ∧ j - i ≤ kx ∧ Aside (SWK enc k w0 blk off d wr) ∧
      Aside ((i = s0 ∨ ltKey key d[mid + m - i]! d[i - 1]! = false) ∧ (j = r0 ∨ ltKey key d[mid + m - 1 - j]! d[j]! = true)))
     case atStart => exact ⟨s0, r0, rfl, rfl, Nat.le_refl _, c2, Nat.le_refl _, Nat.le_refl _, S0, (⟨Or.inl rfl, Or.inl rfl⟩ : _ ∧ _)⟩
     case round =>
      clear S0
      obtain ⟨i, j, rfl, rfl, hmi, hij, hjb, hkx, S1, I⟩ := hrel
      by_cases hlt : i < j
      · have hltz : (i : Int) < (j : Int) := by omega
        have wij : IntKind.i64.wrap ((i : Int) + (j : Int)) = (i : Int) + (j : Int) := by rw [IntKind.wrap_i64]; omega
        obtain ⟨c, hcc⟩ : ∃ c, c = (i + j) / 2 := ⟨_, rfl⟩
        have ecc : ((i : Int) + (j : Int)) / 2 = (c : Int) := by omega
        have cc1 : i ≤ c := by omega
        have cc2 : c < j := by omega
        clear hcc
        cases hL : ltKey key d[mid + m - 1 - c]! d[c]! with
        | false =>
          have pz : (c : Int) ≤ (mid : Int) + (m : Int) - 1 := by omega
          have ea1 : ((mid : Int) + (m : Int) - 1 - (c : Int)).toNat = mid + m - 1 - c := by omega
          have pa1 : (0 : Int) ≤ (mid : Int) + (m : Int) - 1 - (c : Int) := by omega
          have ba1 : (mid : Int) + (m : Int) - 1 - (c : Int) < (N : Int) := by omega
          have ra1 : IntKind.i64.wrap ((mid : Int) + (m : Int) - 1 - (c : Int)) = (mid : Int) + (m : Int) - 1 - (c : Int) := by rw [IntKind.wrap_i64]; omega
          have ec1 : ((c : Int)).toNat = c := by omega
          have pc1 : (0 : Int) ≤ (c : Int) := by omega
          have bc1 : (c : Int) < (N : Int) := by omega
          have rc1 : IntKind.i64.wrap ((c : Int)) = (c : Int) := by rw [IntKind.wrap_i64]; omega
          obtain ⟨x1, hx1⟩ : ∃ x, x = d[mid + m - 1 - c]! := ⟨_, rfl⟩
          obtain ⟨y1, hy1⟩ : ∃ x, x = d[c]! := ⟨_, rfl⟩
          have l1a := S1.out.ld R (by omega) P (mid + m - 1 - c) (by omega)
          have l1b := S1.out.ld R (by omega) P (c) (by omega)
          rw [← hx1] at l1a
          rw [← hy1] at l1b
          have hc1 := S1.out.cmp HC.out (by omega) x1 y1
          have hv1 : ¬ cf x1 y1 < 0 := by
            have h : ltOf cf x1 y1 = false := (HCF.out x1 y1).trans (by rw [hx1, hy1]; exact hL)
            exact of_decide_eq_false h
          have hd1 : decide (cf x1 y1 < 0) = false := decide_eq_false hv1
          clear hx1 hy1
          go_wp2_with fail
          go_quiet_grown (first | (go_at_fn g; refine Calls.grown_of (hc1 _ _)))
          have S2 : Aside (SWK enc k w0 blk off d (grow (wr.drewN nq) osq)) := S1.out.grown nq osq
          clear l1a l1b hc1 S1 ea1 pa1 ba1 ra1 ec1 pc1 bc1 rc1
          generalize grow (wr.drewN nq) osq = w2 at S2 ⊢
          clear nq osq
          have I2 : Aside ((c + 1 = s0 ∨ ltKey key d[mid + m - (c + 1)]! d[c + 1 - 1]! = false) ∧ (j = r0 ∨ ltKey key d[mid + m - 1 - j]! d[j]! = true)) := ⟨Or.inr (by rw [show mid + m - (c + 1) = mid + m - 1 - c by omega, Nat.add_sub_cancel]; exact hL), I.out.2⟩
          clear hL
          go_wp2
          go_roundg (j - (c + 1))
          case measure => omega
          case rel => exact ⟨c + 1, j, by go_num, rfl, by omega, by omega, hjb, Nat.le_refl _, S2, I2⟩
        | true =>
          have pz : (c : Int) ≤ (mid : Int) + (m : Int) - 1 := by omega
          have ea1 : ((mid : Int) + (m : Int) - 1 - (c : Int)).toNat = mid + m - 1 - c := by omega
          have pa1 : (0 : Int) ≤ (mid : Int) + (m : Int) - 1 - (c : Int) := by omega
          have ba1 : (mid : Int) + (m : Int) - 1 - (c : Int) < (N : Int) := by omega
          have ra1 : IntKind.i64.wrap ((mid : Int) + (m : Int) - 1 - (c : Int)) = (mid : Int) + (m : Int) - 1 - (c : Int) := by rw [IntKind.wrap_i64]; omega
          have ec1 : ((c : Int)).toNat = c := by omega
          have pc1 : (0 : Int) ≤ (c : Int) := by omega
          have bc1 : (c : Int) < (N : Int) := by omega
          have rc1 : IntKind.i64.wrap ((c : Int)) = (c : Int) := by rw [IntKind.wrap_i64]; omega
          obtain ⟨x1, hx1⟩ : ∃ x, x = d[mid + m - 1 - c]! := ⟨_, rfl⟩
          obtain ⟨y1, hy1⟩ : ∃ x, x = d[c]! := ⟨_, rfl⟩
          have l1a := S1.out.ld R (by omega) P (mid + m - 1 - c) (by omega)
          have l1b := S1.out.ld R (by omega) P (c) (by omega)
          rw [← hx1] at l1a
          rw [← hy1] at l1b
          have hc1 := S1.out.cmp HC.out (by omega) x1 y1
          have hv1 : cf x1 y1 < 0 := by
            have h : ltOf cf x1 y1 = true := (HCF.out x1 y1).trans (by rw [hx1, hy1]; exact hL)
            exact of_decide_eq_true h
          have hd1 : decide (cf x1 y1 < 0) = true := decide_eq_true hv1
          clear hx1 hy1
          go_wp2_with fail
          go_quiet_grown (first | (go_at_fn g; refine Calls.grown_of (hc1 _ _)))
          have S2 : Aside (SWK enc k w0 blk off d (grow (wr.drewN nq) osq)) := S1.out.grown nq osq
          clear l1a l1b hc1 S1 ea1 pa1 ba1 ra1 ec1 pc1 bc1 rc1
          generalize grow (wr.drewN nq) osq = w2 at S2 ⊢
          clear nq osq
          have I2 : Aside ((i = s0 ∨ ltKey key d[mid + m - i]! d[i - 1]! = false) ∧ (c = r0 ∨ ltKey key d[mid + m - 1 - c]! d[c]! = true)) := ⟨I.out.1, Or.inr hL⟩
          clear hL
          go_wp2
          go_roundg (c - i)
          case measure => omega
          case rel => exact ⟨i, c, rfl, rfl, hmi, by omega, by omega, Nat.le_refl _, S2, I2⟩
      · have hltz : ¬ (i : Int) < (j : Int) := by omega
        obtain rfl : i = j := by omega
        go_wp2_with fail
        go_meet
        case rel => exact ⟨i, rfl, rfl, hmi, by omega, by omega, S1, I⟩
    case rest =>
      clear S0
      obtain ⟨i, rfl, rfl, hmi, him, himid, S1, I⟩ := hcut
      have k1 : i < m → m < mid + m - i → ltKey key d[mid + m - i - 1]! d[i]! = true := fun h1 h2 => by
        rcases I.out.2 with h | h
        · rcases C.out.2 with h3 | h3 <;> omega
        · rw [show mid + m - i - 1 = mid + m - 1 - i by omega]; exact h
      have k2 : a < i → mid + m - i < b → ltKey key d[mid + m - i]! d[i - 1]! = false := fun h1 h2 => by
        rcases I.out.1 with h | h
        · rcases C.out.1 with h3 | h3 <;> omega
        · exact h
      refine (‹∀ (a : Act) (w : World), Code.wp P (tail 8) _ a w → _›) _ _ ?_
      exact tail38_c LL.out k enc key g cb blk off cap w0 N a m b mid i (mid + m - i) d wc HS.out.symm (by omega) him himid (by omega) (by omega) (by omega) (by omega) (by omega) bsz (by omega) hsz S1.out SA.out SB.out k1 k2 HROT.out REC.out
end Go.Proofs.YtjeippdfgojdnaaGreatDoor
