/- slices.symMergeCmpFunc at the attributes of an event, where the second run has one. (Written by gen_sym.py.) -/
import Derived.Test.YtjeippdfgojdnaaGreatDoorRotate
namespace Go.Proofs.YtjeippdfgojdnaaGreatDoor
open Go.Shelf Go.RowKit Go.Lib Go.Sort
open Go.Proofs
variable {P : Program} {α : Type} [Inhabited α]

set_option maxHeartbeats 16000000 in
set_option maxRecDepth 1000000 in
theorem symMergeB_c (L : SortP P) (k : Nat) (aE : ∀ w, (isAgg 38).run P w = .ok true w) (zE : ∀ w, (Go.sizeOf 38).run P w = .ok k w) (enc : α → List Value) (cf : α → α → Int) (key : α → List UInt8) (hcf : ∀ x y, ltOf cf x y = ltKey key x y) (g : Nat) (cb : Array Value) (blk off cap : Nat) (d0 : Array α) (w0 : World)
    (eg : ∀ args w, (callFunc g args).run P w = .ok (.enter g args) w) (hcmp : CmpLays P g cb enc k cf blk off d0.size w0) (R : RowK enc k w0 blk off d0) (hsz : d0.size < 4611686018427387904) (a m b : Nat) (d : Array α) (w : World)
    (hs : d0.size = d.size) (S : SWK enc k w0 blk off d w) (_ham : a < m) (hmb : m < b) (hb : b ≤ d.size) (sa : SortedIn (ltKey key) a m d) (sb : SortedIn (ltKey key) m b d) (hm2 : a + 1 < m) (hb1 : b = m + 1) :
    Calls P 94 #[.slice (some ⟨blk, off, none⟩) d0.size cap, .int .i64 a, .int .i64 m, .int .i64 b, .func (.func g) #[] cb] w fun e w' =>
      e = .returned (.tuple #[]) ∧ ∃ d', Aside (Good key a b d d' ∧ SortedIn (ltKey key) a b d') ∧ Aside (SWK enc k w0 blk off d' w') := by
  have mixed := L.mixed; have t0 := L.t0; have a0 := L.a0; have z0 := L.z0; have v0 := L.v0; have t3 := L.t3; have a3 := L.a3; have z3 := L.z3; have v3 := L.v3; have tu := L.tu; have au := L.au; have zu := L.zu; have vu := L.vu; have t4 := L.t4; have a4 := L.a4; have z4 := L.z4; have v4 := L.v4; have t22 := L.t22; have a22 := L.a22; have z22 := L.z22; have v22 := L.v22; have t25 := L.t25; have a25 := L.a25; have z25 := L.z25; have v25 := L.v25
  have u3 := run_underlying L.t3; have uu := run_underlying L.tu
  have FG := L.sym
  have S0 : Aside (SWK enc k w0 blk off d w) := S
  have HC : Aside _ := hcmp
  have HCF : Aside _ := hcf
  have SA : Aside _ := sa
  have SB : Aside _ := sb
  have HS : Aside _ := hs
  clear S L hcmp hcf sa sb
  generalize hN : d0.size = N at *
  have bsz : b ≤ N := by omega
  have hs1 : d.size ≤ N := by omega
  have hs2 : N ≤ d.size := by omega
  clear hs hb
  have wma : IntKind.i64.wrap ((m : Int) - (a : Int)) = (m : Int) - (a : Int) := by rw [IntKind.wrap_i64]; omega
  have wbm : IntKind.i64.wrap ((b : Int) - (m : Int)) = (b : Int) - (m : Int) := by rw [IntKind.wrap_i64]; omega
  have b1 : (((m : Int) - (a : Int)) == 1) = false := by simp; omega
  have HB : Aside (b = m + 1) := hb1
  have b2 : (((b : Int) - (m : Int)) == 1) = true := by simp; omega
  clear hb1
  go_enter FG, Tryz.ntmps94
  go_wp2
  go_loopg [14, 15] (m - a) (fun kx s14 s15 wr => ∃ (i j : Nat), s14 = .int .i64 i ∧ s15 = .int .i64 j ∧ a ≤ i ∧ i ≤ j ∧ j ≤ m ∧ j - i ≤ kx ∧ Aside (SWK enc k w0 blk off d wr) ∧
    Aside ((i = a ∨ ltKey key d[m]! d[i - 1]! = false) ∧ (j = m ∨ ltKey key d[m]! d[j]! = true)))
  case atStart => exact ⟨a, m, rfl, rfl, Nat.le_refl _, by omega, Nat.le_refl _, by omega, S0, (⟨Or.inl rfl, Or.inl rfl⟩ : _ ∧ _)⟩
  case round =>
    clear S0
    obtain ⟨i, j, rfl, rfl, hmi, hij, hjb, hkx, S1, I⟩ := hrel
    by_cases hlt : i < j
    · have hltz : (i : Int) < (j : Int) := by omega
      have wij : IntKind.i64.wrap ((i : Int) + (j : Int)) = (i : Int) + (j : Int) := by rw [IntKind.wrap_i64]; omega
      cases hL : ltKey key d[m]! d[(i + j) / 2]! with
      | false =>
        have ea1 : ((m : Int)).toNat = m := by omega
        have pa1 : (0 : Int) ≤ (m : Int) := by omega
        have ba1 : (m : Int) < (N : Int) := by omega
        have ra1 : IntKind.i64.wrap ((m : Int)) = (m : Int) := by rw [IntKind.wrap_i64]; omega
        have ec1 : (((i : Int) + (j : Int)) / 2).toNat = (i + j) / 2 := by omega
        have pc1 : (0 : Int) ≤ ((i : Int) + (j : Int)) / 2 := by omega
        have bc1 : ((i : Int) + (j : Int)) / 2 < (N : Int) := by omega
        have rc1 : IntKind.i64.wrap (((i : Int) + (j : Int)) / 2) = ((i : Int) + (j : Int)) / 2 := by rw [IntKind.wrap_i64]; omega
        obtain ⟨x1, hx1⟩ : ∃ x, x = d[m]! := ⟨_, rfl⟩
        obtain ⟨y1, hy1⟩ : ∃ x, x = d[(i + j) / 2]! := ⟨_, rfl⟩
        have l1a := S1.out.ld R (by omega) P (m) (by omega)
        have l1b := S1.out.ld R (by omega) P ((i + j) / 2) (by omega)
        rw [← hx1] at l1a
        rw [← hy1] at l1b
        have hc1 := S1.out.cmp HC.out (by omega) x1 y1
        have hv1 : ¬ cf x1 y1 < 0 := by
          have h : ltOf cf x1 y1 = false := (HCF.out x1 y1).trans (by rw [hx1, hy1]; exact hL)
          exact of_decide_eq_false h
        have hd1 : decide (cf x1 y1 < 0) = false := decide_eq_false hv1
        clear hx1 hy1
        go_wp2_with fail
        go_quiet_grown (first | (go_at_fn g; refine Calls.grown_of (hc1 _ _)))
        have S2 : Aside (SWK enc k w0 blk off d (grow (wr.drewN nq) osq)) := S1.out.grown nq osq
        clear l1a l1b hc1 S1 ea1 pa1 ba1 ra1 ec1 pc1 bc1 rc1
        generalize grow (wr.drewN nq) osq = w2 at S2 ⊢
        clear nq osq
        have I2 : Aside (((i + j) / 2 + 1 = a ∨ ltKey key d[m]! d[(i + j) / 2 + 1 - 1]! = false) ∧ (j = m ∨ ltKey key d[m]! d[j]! = true)) := ⟨Or.inr hL, I.out.2⟩
        clear hL
        go_wp2
        go_roundg (j - ((i + j) / 2 + 1))
        case measure => omega
        case rel => exact ⟨(i + j) / 2 + 1, j, by congr 1 <;> omega, rfl, by omega, by omega, hjb, Nat.le_refl _, S2, I2⟩
      | true =>
        have ea1 : ((m : Int)).toNat = m := by omega
        have pa1 : (0 : Int) ≤ (m : Int) := by omega
        have ba1 : (m : Int) < (N : Int) := by omega
        have ra1 : IntKind.i64.wrap ((m : Int)) = (m : Int) := by rw [IntKind.wrap_i64]; omega
        have ec1 : (((i : Int) + (j : Int)) / 2).toNat = (i + j) / 2 := by omega
        have pc1 : (0 : Int) ≤ ((i : Int) + (j : Int)) / 2 := by omega
        have bc1 : ((i : Int) + (j : Int)) / 2 < (N : Int) := by omega
        have rc1 : IntKind.i64.wrap (((i : Int) + (j : Int)) / 2) = ((i : Int) + (j : Int)) / 2 := by rw [IntKind.wrap_i64]; omega
        obtain ⟨x1, hx1⟩ : ∃ x, x = d[m]! := ⟨_, rfl⟩
        obtain ⟨y1, hy1⟩ : ∃ x, x = d[(i + j) / 2]! := ⟨_, rfl⟩
        have l1a := S1.out.ld R (by omega) P (m) (by omega)
        have l1b := S1.out.ld R (by omega) P ((i + j) / 2) (by omega)
        rw [← hx1] at l1a
        rw [← hy1] at l1b
        have hc1 := S1.out.cmp HC.out (by omega) x1 y1
        have hv1 : cf x1 y1 < 0 := by
          have h : ltOf cf x1 y1 = true := (HCF.out x1 y1).trans (by rw [hx1, hy1]; exact hL)
          exact of_decide_eq_true h
        have hd1 : decide (cf x1 y1 < 0) = true := decide_eq_true hv1
        clear hx1 hy1
        go_wp2_with fail
        go_quiet_grown (first | (go_at_fn g; refine Calls.grown_of (hc1 _ _)))
        have S2 : Aside (SWK enc k w0 blk off d (grow (wr.drewN nq) osq)) := S1.out.grown nq osq
        clear l1a l1b hc1 S1 ea1 pa1 ba1 ra1 ec1 pc1 bc1 rc1
        generalize grow (wr.drewN nq) osq = w2 at S2 ⊢
        clear nq osq
        have I2 : Aside ((i = a ∨ ltKey key d[m]! d[i - 1]! = false) ∧ ((i + j) / 2 = m ∨ ltKey key d[m]! d[(i + j) / 2]! = true)) := ⟨I.out.1, Or.inr hL⟩
        clear hL
        go_wp2
        go_roundg ((i + j) / 2 - i)
        case measure => omega
        case rel => exact ⟨i, (i + j) / 2, rfl, by congr 1 <;> omega, hmi, by omega, by omega, Nat.le_refl _, S2, I2⟩
    · have hltz : ¬ (i : Int) < (j : Int) := by omega
      obtain rfl : i = j := by omega
      have RS : Aside (Rot m m b d d) := Rot.refl_m _ _ _
      go_wp2
      go_loopg [17] (m - i) (fun ky s17 wr2 => ∃ (q : Nat) (dk : Array α), s17 = .int .i64 q ∧ i ≤ q ∧ q ≤ m ∧ q - i ≤ ky ∧ dk.size = N ∧ Aside (Rot q m b d dk) ∧ Aside (SWK enc k w0 blk off dk wr2))
      case atStart => exact ⟨m, d, rfl, hjb, Nat.le_refl _, Nat.le_refl _, HS.out.symm, RS, S1⟩
      case round =>
        clear S1 RS
        obtain ⟨q, dk, rfl, haq, hqi, hky, hds, Q, S1⟩ := hrel
        by_cases hlt2 : i < q
        · have hlt2z : (i : Int) < (q : Int) := by omega
          obtain ⟨r, rfl⟩ : ∃ r, q = r + 1 := ⟨q - 1, by omega⟩
          have Q2 : Aside (Rot r m b d (swp dk (r + 1) r)) := Q.out.left HB.out hqi (by have := HS.out; omega)
          have hlt3z : (i : Int) < (r : Int) + 1 := by omega
          have ea2 : ((r : Int) + 1).toNat = r + 1 := by omega
          have pa2 : (0 : Int) ≤ (r : Int) + 1 := by omega
          have ba2 : (r : Int) + 1 < (N : Int) := by omega
          have ra2 : IntKind.i64.wrap ((r : Int) + 1) = (r : Int) + 1 := by rw [IntKind.wrap_i64]; omega
          have ec2 : ((r : Int)).toNat = r := by omega
          have pc2 : (0 : Int) ≤ (r : Int) := by omega
          have bc2 : (r : Int) < (N : Int) := by omega
          have rc2 : IntKind.i64.wrap ((r : Int)) = (r : Int) := by rw [IntKind.wrap_i64]; omega
          have S3 : Aside (SWK enc k w0 blk off (swp dk (r + 1) (r)) ((wr.drew.setCells blk (off + (r + 1) * k) (enc dk[r]!)).setCells blk (off + (r) * k) (enc dk[r + 1]!))) := S1.out.swapped R (r + 1) (r) (by omega) (by omega)
          have l2a := S1.out.ld1 R (by omega) P (r + 1) (by omega)
          have l2b := S1.out.ld1 R (by omega) P (r) (by omega)
          have s2a := S1.out.st1 R (by omega) P (r + 1) (by omega) dk[r]!
          have s2b := S1.out.st2 R (by omega) P (r + 1) (r) (by omega) (by omega) dk[r]! dk[r + 1]!
          have n2a : (enc dk[r + 1]!).length = k := R.hk _
          have n2b : (enc dk[r]!).length = k := R.hk _
          generalize enc dk[r + 1]! = cI2 at S3 l2a s2b n2a
          generalize enc dk[r]! = cJ2 at S3 l2b s2a s2b n2b
          clear S1
          go_wp2_with fail
          go_big_region_o
          clear l2a l2b s2a s2b
          generalize (wr.drew.setCells blk (off + (r + 1) * k) cJ2).setCells blk (off + (r) * k) cI2 = w3 at S3 ⊢
          go_wp2
          go_roundg (r - i)
          case measure => omega
          case rel => exact ⟨r, _, by first | rfl | go_num | (congr 1; omega), by omega, by omega, Nat.le_refl _, by rw [size_swp]; exact hds, Q2, S3⟩
        · have hlt2z : ¬ (i : Int) < (q : Int) := by omega
          obtain rfl : i = q := by omega
          go_wp2
          refine bodyPost_ret (results_none rfl _ _ _) rfl ?_
          exact ⟨rfl, dk, merge_last HB.out hmi hjb (by have := HS.out; omega) SA.out I.out.1 I.out.2 Q.out, S1⟩
end Go.Proofs.YtjeippdfgojdnaaGreatDoor
