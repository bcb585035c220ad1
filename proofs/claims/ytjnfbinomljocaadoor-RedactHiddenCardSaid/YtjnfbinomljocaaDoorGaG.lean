/- SymC, SymMerge, Attr: merged by merge.py. -/
import Derived.Test.YtjnfbinomljocaaDoorSymT
import Derived.Deep.DeepCutAuto
import Derived.Deep.CutBlock
import Derived.Test.YtjnfbinomljocaaDoorGaF
import Derived.Test.YtjnfbinomljocaaDoorGaB
import Derived.Test.YtjnfbinomljocaaDoorProg
import Derived.Test.YtjnfbinomljocaaDoorShelf
import Derived.Shelf.SlSortCmp.InsertionK
import Derived.Lib.Hide
/- slices.symMergeCmpFunc at the attributes of an event, where each run has more than one. (Written by gen_sym.py.) -/
namespace Go.Proofs.YtjnfbinomljocaaDoor
open Go.Shelf Go.RowKit Go.Lib Go.Sort
open Go.Proofs
variable {P : Program} {α : Type} [Inhabited α]

set_option maxHeartbeats 16000000 in
set_option maxRecDepth 1000000 in
theorem symMergeC_c (L : SortP P) (k : Nat) (aE : ∀ w, (isAgg 51).run P w = .ok true w) (zE : ∀ w, (Go.sizeOf 51).run P w = .ok k w) (enc : α → List Value) (cf : α → α → Int) (key : α → List UInt8) (hcf : ∀ x y, ltOf cf x y = ltKey key x y) (g : Nat) (cb : Array Value) (blk off cap : Nat) (d0 : Array α) (w0 : World)
    (eg : ∀ args w, (callFunc g args).run P w = .ok (.enter g args) w) (hcmp : CmpLays P g cb enc k cf blk off d0.size w0) (R : RowK enc k w0 blk off d0) (hsz : d0.size < 4611686018427387904) (a m b : Nat) (d : Array α) (w : World)
    (hs : d0.size = d.size) (S : SWK enc k w0 blk off d w) (_ham : a < m) (_hmb : m < b) (hb : b ≤ d.size) (sa : SortedIn (ltKey key) a m d) (sb : SortedIn (ltKey key) m b d) (hm2 : a + 1 < m) (hb2 : m + 1 < b) (hrec : ∀ (a' m' b' : Nat) (d : Array α) (w : World), b' - a' < b - a → d0.size = d.size → SWK enc k w0 blk off d w → a' < m' → m' < b' → b' ≤ d.size → SortedIn (ltKey key) a' m' d → SortedIn (ltKey key) m' b' d → Calls P 84 #[.slice (some ⟨blk, off, none⟩) d0.size cap, .int .i64 a', .int .i64 m', .int .i64 b', .func (.func g) #[] cb] w fun e w' => e = .returned (.tuple #[]) ∧ ∃ d', Aside (Good key a' b' d d' ∧ SortedIn (ltKey key) a' b' d') ∧ Aside (SWK enc k w0 blk off d' w')) :
    Calls P 84 #[.slice (some ⟨blk, off, none⟩) d0.size cap, .int .i64 a, .int .i64 m, .int .i64 b, .func (.func g) #[] cb] w fun e w' =>
      e = .returned (.tuple #[]) ∧ ∃ d', Aside (Good key a b d d' ∧ SortedIn (ltKey key) a b d') ∧ Aside (SWK enc k w0 blk off d' w') := by
  have LL : Aside (SortP P) := L
  have REC : Aside _ := hrec
  clear hrec
  have HROT : Aside (∀ (x y z : Nat) (dk : Array α) (wr : World), d0.size = dk.size → SWK enc k w0 blk off dk wr → x < y → y < z → z ≤ dk.size →
    Calls P 99 #[.slice (some ⟨blk, off, none⟩) d0.size cap, .int .i64 x, .int .i64 y, .int .i64 z, .func (.func g) #[] cb] wr fun e w' => e = .returned (.tuple #[]) ∧ ∃ d', Aside (Rot x y z dk d') ∧ Aside (SWK enc k w0 blk off d' w')) := fun x y z dk wr hds S1 h1 h2 h3 => by
    have h := rotate_c L k aE zE enc g cb blk off cap x y z d0 dk w0 wr R hds S1 h1 h2 h3 (by omega)
    rw [← hds] at h; exact h
  have erot : ∀ args w, (callFunc 99 args).run P w = .ok (.enter 99 args) w := enters_of L.rot (by kernel_rfl) rfl
  have esym : ∀ args w, (callFunc 84 args).run P w = .ok (.enter 84 args) w := enters_of L.sym (by kernel_rfl) rfl
  have mixed := L.mixed; have t0 := L.t0; have a0 := L.a0; have z0 := L.z0; have v0 := L.v0; have t3 := L.t3; have a3 := L.a3; have z3 := L.z3; have v3 := L.v3; have tu := L.tu; have au := L.au; have zu := L.zu; have vu := L.vu; have t4 := L.t4; have a4 := L.a4; have z4 := L.z4; have v4 := L.v4; have t22 := L.t22; have a22 := L.a22; have z22 := L.z22; have v22 := L.v22; have t25 := L.t25; have a25 := L.a25; have z25 := L.z25; have v25 := L.v25
  have u3 := run_underlying L.t3; have uu := run_underlying L.tu
  have FG := L.sym
  have S0 : Aside (SWK enc k w0 blk off d w) := S
  have HC : Aside _ := hcmp
  have HCF : Aside _ := hcf
  have SA : Aside _ := sa
  have SB : Aside _ := sb
  have HS : Aside _ := hs
  clear S L hcmp hcf sa sb
  generalize hN : d0.size = N at *
  have bsz : b ≤ N := by omega
  have hs1 : d.size ≤ N := by omega
  have hs2 : N ≤ d.size := by omega
  clear hs hb
  have wma : IntKind.i64.wrap ((m : Int) - (a : Int)) = (m : Int) - (a : Int) := by rw [IntKind.wrap_i64]; omega
  have wbm : IntKind.i64.wrap ((b : Int) - (m : Int)) = (b : Int) - (m : Int) := by rw [IntKind.wrap_i64]; omega
  have b1 : (((m : Int) - (a : Int)) == 1) = false := by simp; omega
  have b2 : (((b : Int) - (m : Int)) == 1) = false := by simp; omega
  obtain ⟨mid, hmid⟩ : ∃ mid, mid = (a + b) / 2 := ⟨_, rfl⟩
  have wab : IntKind.i64.wrap ((a : Int) + (b : Int)) = (a : Int) + (b : Int) := by rw [IntKind.wrap_i64]; omega
  have emid : ((a : Int) + (b : Int)) / 2 = (mid : Int) := by omega
  have mid1 : 2 * mid ≤ a + b := by omega
  have mid2 : a + b ≤ 2 * mid + 1 := by omega
  have wmm : IntKind.i64.wrap ((mid : Int) + (m : Int)) = (mid : Int) + (m : Int) := by rw [IntKind.wrap_i64]; omega
  have wmb : IntKind.i64.wrap ((mid : Int) + (m : Int) - (b : Int)) = (mid : Int) + (m : Int) - (b : Int) := by rw [IntKind.wrap_i64]; omega
  have wm1 : IntKind.i64.wrap ((mid : Int) + (m : Int) - 1) = (mid : Int) + (m : Int) - 1 := by rw [IntKind.wrap_i64]; omega
  clear hmid
  go_enter FG, Tryd.ntmps84
  go_upto_if 140 with fail
  go_cut [20, 21] (fun s20 s21 wx => ∃ s0 r0 : Nat, s20 = .int .i64 s0 ∧ s21 = .int .i64 r0 ∧ a ≤ s0 ∧ s0 ≤ r0 ∧ r0 ≤ m ∧ r0 ≤ mid ∧ mid + m ≤ s0 + b ∧ Aside ((s0 = a ∨ s0 + b = mid + m) ∧ (r0 = m ∨ r0 = mid)) ∧ wx = w)
  case first =>
    by_cases hgt : mid < m
    · have hgtz : (mid : Int) < (m : Int) := by omega
      go_wp2_with fail
      go_meet
      case rel => exact ⟨mid + m - b, mid, by congr 1; omega, rfl, by omega, by omega, by omega, Nat.le_refl _, by omega, (⟨Or.inr (by omega), Or.inr rfl⟩ : _ ∧ _), rfl⟩
    · have hgtz : ¬ (mid : Int) < (m : Int) := by omega
      go_wp2_with fail
      go_meet
      case rel => exact ⟨a, m, rfl, rfl, Nat.le_refl _, by omega, Nat.le_refl _, by omega, by omega, (⟨Or.inl rfl, Or.inl rfl⟩ : _ ∧ _), rfl⟩
  case rest =>
    obtain ⟨s0, r0, rfl, rfl, c1, c2, c3, c4, c5, C, rfl⟩ := hcut
    go_upto_block 8 with fail
    go_cut [20, 21] (fun s20 s21 wx => ∃ i : Nat, s20 = .int .i64 i ∧ s21 = .int .i64 i ∧ s0 ≤ i ∧ i ≤ m ∧ i ≤ mid ∧ Aside (SWK enc k w0 blk off d wx) ∧
      Aside ((i = s0 ∨ ltKey key d[mid + m - i]! d[i - 1]! = false) ∧ (i = r0 ∨ ltKey key d[mid + m - 1 - i]! d[i]! = true)))
    case first =>
     go_wp2_with fail
     go_loopg [20, 21] (r0 - s0) (fun kx s20 s21 wr => ∃ (i j : Nat), s20 = .int .i64 i ∧ s21 = .int .i64 j ∧ s0 ≤ i ∧ i ≤ j ∧ j ≤ r0 ∧ j - i ≤ kx ∧ Aside (SWK enc k w0 blk off d wr) ∧
      Aside ((i = s0 ∨ ltKey key d[mid + m - i]! d[i - 1]! = false) ∧ (j = r0 ∨ ltKey key d[mid + m - 1 - j]! d[j]! = true)))
     case atStart => exact ⟨s0, r0, rfl, rfl, Nat.le_refl _, c2, Nat.le_refl _, Nat.le_refl _, S0, (⟨Or.inl rfl, Or.inl rfl⟩ : _ ∧ _)⟩
     case round =>
      clear S0
      obtain ⟨i, j, rfl, rfl, hmi, hij, hjb, hkx, S1, I⟩ := hrel
      by_cases hlt : i < j
      · have hltz : (i : Int) < (j : Int) := by omega
        have wij : IntKind.i64.wrap ((i : Int) + (j : Int)) = (i : Int) + (j : Int) := by rw [IntKind.wrap_i64]; omega
        obtain ⟨c, hcc⟩ : ∃ c, c = (i + j) / 2 := ⟨_, rfl⟩
        have ecc : ((i : Int) + (j : Int)) / 2 = (c : Int) := by omega
        have cc1 : i ≤ c := by omega
        have cc2 : c < j := by omega
        clear hcc
        cases hL : ltKey key d[mid + m - 1 - c]! d[c]! with
        | false =>
          have pz : (c : Int) ≤ (mid : Int) + (m : Int) - 1 := by omega
          have ea1 : ((mid : Int) + (m : Int) - 1 - (c : Int)).toNat = mid + m - 1 - c := by omega
          have pa1 : (0 : Int) ≤ (mid : Int) + (m : Int) - 1 - (c : Int) := by omega
          have ba1 : (mid : Int) + (m : Int) - 1 - (c : Int) < (N : Int) := by omega
          have ra1 : IntKind.i64.wrap ((mid : Int) + (m : Int) - 1 - (c : Int)) = (mid : Int) + (m : Int) - 1 - (c : Int) := by rw [IntKind.wrap_i64]; omega
          have ec1 : ((c : Int)).toNat = c := by omega
          have pc1 : (0 : Int) ≤ (c : Int) := by omega
          have bc1 : (c : Int) < (N : Int) := by omega
          have rc1 : IntKind.i64.wrap ((c : Int)) = (c : Int) := by rw [IntKind.wrap_i64]; omega
          obtain ⟨x1, hx1⟩ : ∃ x, x = d[mid + m - 1 - c]! := ⟨_, rfl⟩
          obtain ⟨y1, hy1⟩ : ∃ x, x = d[c]! := ⟨_, rfl⟩
          have l1a := S1.out.ld R (by omega) P (mid + m - 1 - c) (by omega)
          have l1b := S1.out.ld R (by omega) P (c) (by omega)
          rw [← hx1] at l1a
          rw [← hy1] at l1b
          have hc1 := S1.out.cmp HC.out (by omega) x1 y1
          have hv1 : ¬ cf x1 y1 < 0 := by
            have h : ltOf cf x1 y1 = false := (HCF.out x1 y1).trans (by rw [hx1, hy1]; exact hL)
            exact of_decide_eq_false h
          have hd1 : decide (cf x1 y1 < 0) = false := decide_eq_false hv1
          clear hx1 hy1
          go_wp2_with fail
          go_quiet_grown (first | (go_at_fn g; refine Calls.grown_of (hc1 _ _)))
          have S2 : Aside (SWK enc k w0 blk off d (grow (wr.drewN nq) osq)) := S1.out.grown nq osq
          clear l1a l1b hc1 S1 ea1 pa1 ba1 ra1 ec1 pc1 bc1 rc1
          generalize grow (wr.drewN nq) osq = w2 at S2 ⊢
          clear nq osq
          have I2 : Aside ((c + 1 = s0 ∨ ltKey key d[mid + m - (c + 1)]! d[c + 1 - 1]! = false) ∧ (j = r0 ∨ ltKey key d[mid + m - 1 - j]! d[j]! = true)) := ⟨Or.inr (by rw [show mid + m - (c + 1) = mid + m - 1 - c by omega, Nat.add_sub_cancel]; exact hL), I.out.2⟩
          clear hL
          go_wp2
          go_roundg (j - (c + 1))
          case measure => omega
          case rel => exact ⟨c + 1, j, by go_num, rfl, by omega, by omega, hjb, Nat.le_refl _, S2, I2⟩
        | true =>
          have pz : (c : Int) ≤ (mid : Int) + (m : Int) - 1 := by omega
          have ea1 : ((mid : Int) + (m : Int) - 1 - (c : Int)).toNat = mid + m - 1 - c := by omega
          have pa1 : (0 : Int) ≤ (mid : Int) + (m : Int) - 1 - (c : Int) := by omega
          have ba1 : (mid : Int) + (m : Int) - 1 - (c : Int) < (N : Int) := by omega
          have ra1 : IntKind.i64.wrap ((mid : Int) + (m : Int) - 1 - (c : Int)) = (mid : Int) + (m : Int) - 1 - (c : Int) := by rw [IntKind.wrap_i64]; omega
          have ec1 : ((c : Int)).toNat = c := by omega
          have pc1 : (0 : Int) ≤ (c : Int) := by omega
          have bc1 : (c : Int) < (N : Int) := by omega
          have rc1 : IntKind.i64.wrap ((c : Int)) = (c : Int) := by rw [IntKind.wrap_i64]; omega
          obtain ⟨x1, hx1⟩ : ∃ x, x = d[mid + m - 1 - c]! := ⟨_, rfl⟩
          obtain ⟨y1, hy1⟩ : ∃ x, x = d[c]! := ⟨_, rfl⟩
          have l1a := S1.out.ld R (by omega) P (mid + m - 1 - c) (by omega)
          have l1b := S1.out.ld R (by omega) P (c) (by omega)
          rw [← hx1] at l1a
          rw [← hy1] at l1b
          have hc1 := S1.out.cmp HC.out (by omega) x1 y1
          have hv1 : cf x1 y1 < 0 := by
            have h : ltOf cf x1 y1 = true := (HCF.out x1 y1).trans (by rw [hx1, hy1]; exact hL)
            exact of_decide_eq_true h
          have hd1 : decide (cf x1 y1 < 0) = true := decide_eq_true hv1
          clear hx1 hy1
          go_wp2_with fail
          go_quiet_grown (first | (go_at_fn g; refine Calls.grown_of (hc1 _ _)))
          have S2 : Aside (SWK enc k w0 blk off d (grow (wr.drewN nq) osq)) := S1.out.grown nq osq
          clear l1a l1b hc1 S1 ea1 pa1 ba1 ra1 ec1 pc1 bc1 rc1
          generalize grow (wr.drewN nq) osq = w2 at S2 ⊢
          clear nq osq
          have I2 : Aside ((i = s0 ∨ ltKey key d[mid + m - i]! d[i - 1]! = false) ∧ (c = r0 ∨ ltKey key d[mid + m - 1 - c]! d[c]! = true)) := ⟨I.out.1, Or.inr hL⟩
          clear hL
          go_wp2
          go_roundg (c - i)
          case measure => omega
          case rel => exact ⟨i, c, rfl, rfl, hmi, by omega, by omega, Nat.le_refl _, S2, I2⟩
      · have hltz : ¬ (i : Int) < (j : Int) := by omega
        obtain rfl : i = j := by omega
        go_wp2_with fail
        go_meet
        case rel => exact ⟨i, rfl, rfl, hmi, by omega, by omega, S1, I⟩
    case rest =>
      clear S0
      obtain ⟨i, rfl, rfl, hmi, him, himid, S1, I⟩ := hcut
      have k1 : i < m → m < mid + m - i → ltKey key d[mid + m - i - 1]! d[i]! = true := fun h1 h2 => by
        rcases I.out.2 with h | h
        · rcases C.out.2 with h3 | h3 <;> omega
        · rw [show mid + m - i - 1 = mid + m - 1 - i by omega]; exact h
      have k2 : a < i → mid + m - i < b → ltKey key d[mid + m - i]! d[i - 1]! = false := fun h1 h2 => by
        rcases I.out.1 with h | h
        · rcases C.out.1 with h3 | h3 <;> omega
        · exact h
      refine (‹∀ (a : Act) (w : World), Code.wp P (tail 8) _ a w → _›) _ _ ?_
      exact tail38_c LL.out k enc key g cb blk off cap w0 N a m b mid i (mid + m - i) d wc HS.out.symm (by omega) him himid (by omega) (by omega) (by omega) (by omega) (by omega) bsz (by omega) hsz S1.out SA.out SB.out k1 k2 HROT.out REC.out
end Go.Proofs.YtjnfbinomljocaaDoor

/- slices.symMergeCmpFunc at the attributes of an event: two sorted runs that stand side by side are merged, the order within each key kept. -/
namespace Go.Proofs.YtjnfbinomljocaaDoor
open Go.Shelf Go.RowKit Go.Lib Go.Sort
open Go.Proofs
variable {P : Program} {α : Type} [Inhabited α]

theorem symMerge_c (L : SortP P) (k : Nat) (aE : ∀ w, (isAgg 51).run P w = .ok true w) (zE : ∀ w, (Go.sizeOf 51).run P w = .ok k w) (enc : α → List Value) (cf : α → α → Int) (key : α → List UInt8) (hcf : ∀ x y, ltOf cf x y = ltKey key x y) (g : Nat) (cb : Array Value) (blk off cap : Nat) (d0 : Array α) (w0 : World)
    (eg : ∀ args w, (callFunc g args).run P w = .ok (.enter g args) w) (hcmp : CmpLays P g cb enc k cf blk off d0.size w0) (R : RowK enc k w0 blk off d0) (hsz : d0.size < 4611686018427387904) : ∀ (nn a m b : Nat) (d : Array α) (w : World), b - a ≤ nn →
    d0.size = d.size → SWK enc k w0 blk off d w → a < m → m < b → b ≤ d.size → SortedIn (ltKey key) a m d → SortedIn (ltKey key) m b d →
    Calls P 84 #[.slice (some ⟨blk, off, none⟩) d0.size cap, .int .i64 a, .int .i64 m, .int .i64 b, .func (.func g) #[] cb] w fun e w' =>
      e = .returned (.tuple #[]) ∧ ∃ d', Aside (Good key a b d d' ∧ SortedIn (ltKey key) a b d') ∧ Aside (SWK enc k w0 blk off d' w')
  | 0, a, m, b, d, w, hnn, _, _, ham, hmb, _, _, _ => by omega
  | nn + 1, a, m, b, d, w, hnn, hs, S, ham, hmb, hb, sa, sb => by
    by_cases hm1 : m = a + 1
    · exact symMergeA_c L k aE zE enc cf key hcf g cb blk off cap d0 w0 eg hcmp R hsz a m b d w hs S ham hmb hb sa sb hm1
    · by_cases hb1 : b = m + 1
      · exact symMergeB_c L k aE zE enc cf key hcf g cb blk off cap d0 w0 eg hcmp R hsz a m b d w hs S ham hmb hb sa sb (by omega) hb1
      · exact symMergeC_c L k aE zE enc cf key hcf g cb blk off cap d0 w0 eg hcmp R hsz a m b d w hs S ham hmb hb sa sb (by omega) (by omega)
          (fun a' m' b' d'' w'' h => symMerge_c L k aE zE enc cf key hcf g cb blk off cap d0 w0 eg hcmp R hsz nn a' m' b' d'' w'' (by omega))
end Go.Proofs.YtjnfbinomljocaaDoor

/- The attributes of an event as the model lays them: six cells; their order by name; the two closures of event.New. -/
namespace Go.Proofs.YtjnfbinomljocaaDoor
open Go.Shelf Go.RowKit Go.Lib Go.Sort
open Go.Proofs

/-- How two of them are compared. -/
def cfA (a b : At) : Int := Lib.compareBytes (keyA a) (keyA b)

theorem compareBytes_lt : ∀ (a b : List UInt8), Lib.compareBytes a b < 0 ↔ a < b
  | [], [] => by simp [Lib.compareBytes]
  | [], _ :: _ => by simp [Lib.compareBytes]
  | _ :: _, [] => by simp [Lib.compareBytes]
  | x :: a, y :: b => by
    have ih := compareBytes_lt a b
    rw [Lib.compareBytes, List.cons_lt_cons_iff]
    by_cases h1 : x < y
    · simp [h1]
    · by_cases h2 : y < x
      · have h3 : x ≠ y := fun e => h1 (by rw [e] at h2; exact absurd h2 (UInt8.lt_irrefl y))
        simp [h1, h2, h3]
      · have h3 : x = y := UInt8.le_antisymm (UInt8.not_lt.1 h2) (UInt8.not_lt.1 h1)
        subst h3
        simp [h1, ih]
theorem cfA_lt (x y : At) : ltOf cfA x y = ltKey keyA x y := by
  unfold ltOf cfA ltKey ltStr
  rw [Bool.eq_iff_iff]
  simp [compareBytes_lt]

set_option maxRecDepth 100000 in
set_option maxHeartbeats 1000000 in
/-- The closure by which attributes are sorted: two blocks are laid. -/
theorem byName_c (p q : At) (W : World) : Calls Tryd.prog 42 #[.agg (encA p).toArray, .agg (encA q).toArray] W fun e w' => e = .returned (.int .i64 (cfA p q)) ∧ ∃ q os', w' = grow (W.drewN q) os' := by
  have hcon := fun W' => Tryd.strings_Compare p.nm q.nm W'
  unfold cfA keyA
  generalize Lib.compareBytes p.nm.data.toList q.nm.data.toList = r at hcon ⊢
  obtain ⟨nm, k, n, x, s, y⟩ := p
  obtain ⟨nm2, k2, n2, x2, s2, y2⟩ := q
  show Calls Tryd.prog 42 #[.agg #[.string nm, .int .i64 k, .int .i64 n, .float .f64 x, .string s, .bool y], .agg #[.string nm2, .int .i64 k2, .int .i64 n2, .float .f64 x2, .string s2, .bool y2]] W _
  go_enter Tryd.func42, Tryd.ntmps42
  go_wp2_with (go_at_call 43; refine (hcon _).mono ?_; rintro e w' ⟨rfl, rfl⟩)
  go_ret
  exact ⟨rfl, 0, _, by rw [alloc_eq_grow, alloc_eq_grow, grow_grow]; rfl⟩

theorem byName_lays (blk off size : Nat) (w : World) : CmpLays Tryd.prog 42 #[] encA 6 cfA blk off size w :=
  fun _ _ _ _ x y => byName_c x y _
theorem byName_enters : ∀ args w, (callFunc 42 args).run Tryd.prog w = .ok (.enter 42 args) w := enters_of Tryd.func42 (by kernel_rfl) rfl

theorem sortP : SortP Tryd.prog where
  mixed := by kernel_rfl
  swapR := Tryd.func106
  rot := Tryd.func99
  sym := Tryd.func84
  t0 := Tryd.underlying0
  a0 := Tryd.isAgg0
  z0 := Tryd.sizeOf0
  v0 := Tryd.zeroValue0
  t3 := Tryd.underlying3
  a3 := Tryd.isAgg3
  z3 := Tryd.sizeOf3
  v3 := Tryd.zeroValue3
  tu := Tryd.underlying82
  au := Tryd.isAgg82
  zu := Tryd.sizeOf82
  vu := Tryd.zeroValue82
  t4 := Tryd.underlying4
  a4 := Tryd.isAgg4
  z4 := Tryd.sizeOf4
  v4 := Tryd.zeroValue4
  t22 := Tryd.underlying24
  a22 := Tryd.isAgg24
  z22 := Tryd.sizeOf24
  v22 := Tryd.zeroValue24
  t25 := Tryd.underlying74
  a25 := Tryd.isAgg74
  z25 := Tryd.sizeOf74
  v25 := Tryd.zeroValue74

/-- slices.insertionSortCmpFunc at attributes, from a world of the sort's to a world of the sort's. -/
theorem insertion_c (blk off cap a b : Nat) (d0 d : Array At) (w0 w : World) (R : RowK encA 6 w0 blk off d0) (hs : d0.size = d.size) (S : SWK encA 6 w0 blk off d w) (hab : a ≤ b) (hb : b ≤ d.size) (hsz : d.size < 4611686018427387904) :
    Calls Tryd.prog 83 #[.slice (some ⟨blk, off, none⟩) d0.size cap, .int .i64 a, .int .i64 b, .func (.func 42) #[] #[]] w fun e w' =>
      e = .returned (.tuple #[]) ∧ ∃ d', Aside (Good keyA a b d d' ∧ SortedIn (ltKey keyA) a b d') ∧ Aside (SWK encA 6 w0 blk off d' w') := by
  have h := AnyQ.insertionSortCmpFunc Tryd.insA 6 Tryd.isAgg51 Tryd.sizeOf51 encA encA_len encA_one cfA 42 #[] blk off cap a b d w byName_enters (byName_lays blk off d.size w) (S.holds R.hblk R.hH hs.symm) (S.lt R.hblk) hab hb hsz
  change Calls Tryd.prog 83 _ _ _ at h
  rw [hs]
  refine h.mono ?_
  rintro e w' ⟨rfl, n, os, rfl⟩
  have hl : ltOf cfA = ltKey keyA := by funext x y; exact cfA_lt x y
  rw [hl]
  obtain ⟨g1, g2⟩ := insertion_good keyA a b d hab hb
  exact ⟨rfl, _, (⟨g1, g2⟩ : _ ∧ _), S.on R.hblk n _ os g1.size⟩
theorem merge_c (blk off cap a m b : Nat) (d0 d : Array At) (w0 w : World) (R : RowK encA 6 w0 blk off d0) (hs : d0.size = d.size) (S : SWK encA 6 w0 blk off d w) (ham : a < m) (hmb : m < b) (hb : b ≤ d.size) (hsz : d.size < 4611686018427387904)
    (sa : SortedIn (ltKey keyA) a m d) (sb : SortedIn (ltKey keyA) m b d) :
    Calls Tryd.prog 84 #[.slice (some ⟨blk, off, none⟩) d0.size cap, .int .i64 a, .int .i64 m, .int .i64 b, .func (.func 42) #[] #[]] w fun e w' =>
      e = .returned (.tuple #[]) ∧ ∃ d', Aside (Good keyA a b d d' ∧ SortedIn (ltKey keyA) a b d') ∧ Aside (SWK encA 6 w0 blk off d' w') :=
  symMerge_c sortP 6 Tryd.isAgg51 Tryd.sizeOf51 encA cfA keyA cfA_lt 42 #[] blk off cap d0 w0 byName_enters (byName_lays blk off d0.size w0) R (by omega) (b - a) a m b d w (Nat.le_refl _) hs S ham hmb hb sa sb

set_option maxHeartbeats 4000000 in
set_option maxRecDepth 100000 in
/-- slices.SortStableFunc's body, at most 39 attributes: they stand in the order of their names, of one name in the order in which they stood. -/
theorem stable_c (N blk off cap : Nat) (d0 : Array At) (w0 : World) (R : RowK encA 6 w0 blk off d0) (hN : d0.size = N) (hn : N ≤ 39) :
    Calls Tryd.prog 60 #[.slice (some ⟨blk, off, none⟩) N cap, .int .i64 N, .func (.func 42) #[] #[]] w0 fun e w' =>
      e = .returned (.tuple #[]) ∧ ∃ d', Aside (Good keyA 0 N d0 d' ∧ SortedIn (ltKey keyA) 0 N d') ∧ Aside (SWK encA 6 w0 blk off d' w') := by
  have INS : Aside (∀ (a b : Nat) (d : Array At) (w : World), N = d.size → SWK encA 6 w0 blk off d w → a ≤ b → b ≤ N →
      Calls Tryd.prog 83 #[.slice (some ⟨blk, off, none⟩) N cap, .int .i64 a, .int .i64 b, .func (.func 42) #[] #[]] w fun e w' =>
      e = .returned (.tuple #[]) ∧ ∃ d', Aside (Good keyA a b d d' ∧ SortedIn (ltKey keyA) a b d') ∧ Aside (SWK encA 6 w0 blk off d' w')) := fun a b d w hs S h1 h2 => by
    have h := insertion_c blk off cap a b d0 d w0 w R (hN.trans hs) S h1 (by omega) (by omega)
    rw [hN] at h; exact h
  have MRG : Aside (∀ (a m b : Nat) (d : Array At) (w : World), N = d.size → SWK encA 6 w0 blk off d w → a < m → m < b → b ≤ N → SortedIn (ltKey keyA) a m d → SortedIn (ltKey keyA) m b d →
      Calls Tryd.prog 84 #[.slice (some ⟨blk, off, none⟩) N cap, .int .i64 a, .int .i64 m, .int .i64 b, .func (.func 42) #[] #[]] w fun e w' =>
      e = .returned (.tuple #[]) ∧ ∃ d', Aside (Good keyA a b d d' ∧ SortedIn (ltKey keyA) a b d') ∧ Aside (SWK encA 6 w0 blk off d' w')) := fun a m b d w hs S h1 h2 h3 sa sb => by
    have h := merge_c blk off cap a m b d0 d w0 w R (hN.trans hs) S h1 h2 (by omega) (by omega) sa sb
    rw [hN] at h; exact h
  have S0 : Aside (SWK encA 6 w0 blk off d0 w0) := SWK.start R.hH
  have HN : Aside (N = d0.size) := hN.symm
  clear R hN
  by_cases h20 : N < 20
  · have b1 : ¬ (20 ≤ N) := by omega
    have b1z : ¬ ((20 : Int) ≤ (N : Int)) := by omega
    have b2z : ¬ ((20 : Int) < (N : Int)) := by omega
    go_enter Tryd.func60, Tryd.ntmps60
    go_wp2_with fail
    refine wp_loop_rounds 1 ?_
    rw [rounds_succ]
    go_wp2_with fail
    refine (INS.out 0 N d0 _ HN.out S0.out (Nat.zero_le _) (Nat.le_refl _)).mono ?_
    rintro e1 w1 ⟨rfl, d1, G1, S1⟩
    have S1' : Aside (SWK encA 6 w0 blk off d1 w1) := S1
    clear S0 S1
    go_wp2_with fail
    refine wp_loop_rounds 1 ?_
    rw [rounds_succ]
    go_wp2_with fail
    go_end0
    exact ⟨rfl, d1, G1, S1'⟩
  · have b1z : ((20 : Int) ≤ (N : Int)) := by omega
    have b3z : ¬ ((40 : Int) ≤ (N : Int)) := by omega
    have b4z : ¬ ((40 : Int) < (N : Int)) := by omega
    go_enter Tryd.func60, Tryd.ntmps60
    go_wp2_with fail
    refine wp_loop_rounds 2 ?_
    rw [rounds_succ]
    go_wp2_with fail
    refine (INS.out 0 20 d0 _ HN.out S0.out (Nat.zero_le _) (by omega)).mono ?_
    rintro e1 w1 ⟨rfl, d1, G1, S1⟩
    have S1' : Aside (SWK encA 6 w0 blk off d1 w1) := S1
    clear S0 S1
    go_wp2_with fail
    rw [rounds_succ]
    go_wp2_with fail
    refine (INS.out 20 N d1 _ (by rw [G1.out.1.size]; exact HN.out) S1'.out (by omega) (Nat.le_refl _)).mono ?_
    rintro e2 w2 ⟨rfl, d2, G2, S2⟩
    have S2' : Aside (SWK encA 6 w0 blk off d2 w2) := S2
    clear S1' S2
    have GG : Aside (Good keyA 0 N d0 d2) := (G1.out.1.mono (Nat.le_refl _) (by omega)).trans (G2.out.1.mono (Nat.zero_le _) (Nat.le_refl _))
    have SL : Aside (SortedIn (ltKey keyA) 0 20 d2) := by
      show SortedIn _ _ _ _
      intro x y x1 x2 x3
      rw [G2.out.1.out x (by omega), G2.out.1.out y (by omega)]
      exact G1.out.2 x y x1 x2 x3
    have SR : Aside (SortedIn (ltKey keyA) 20 N d2) := G2.out.2
    clear G1 G2
    by_cases h21 : N = 20
    · have b2z : ¬ ((20 : Int) < (N : Int)) := by omega
      have SL' : Aside (SortedIn (ltKey keyA) 0 N d2) := by rw [h21]; exact SL
      clear h21
      go_wp2_with fail
      refine wp_loop_rounds 1 ?_
      rw [rounds_succ]
      go_wp2_with fail
      go_end0
      exact ⟨rfl, d2, (⟨GG.out, SL'.out⟩ : _ ∧ _), S2'⟩
    · have b2z : ((20 : Int) < (N : Int)) := by omega
      go_wp2_with fail
      refine wp_loop_rounds 2 ?_
      rw [rounds_succ]
      go_wp2_with fail
      refine wp_loop_rounds 1 ?_
      rw [rounds_succ]
      go_wp2_with fail
      refine (MRG.out 0 20 N d2 _ (by rw [GG.out.size]; exact HN.out) S2'.out (by omega) (by omega) (Nat.le_refl _) SL.out SR.out).mono ?_
      rintro e3 w3 ⟨rfl, d3, G3, S3⟩
      have S3' : Aside (SWK encA 6 w0 blk off d3 w3) := S3
      clear S2' S3
      go_wp2_with fail
      rw [rounds_succ]
      go_wp2_with fail
      go_end0
      exact ⟨rfl, d3, (⟨GG.out.trans G3.out.1, G3.out.2⟩ : _ ∧ _), S3'⟩
set_option maxHeartbeats 1000000 in
theorem sortStable_c (N blk off cap : Nat) (d0 : Array At) (w0 : World) (R : RowK encA 6 w0 blk off d0) (hN : d0.size = N) (hn : N ≤ 39) :
    Calls Tryd.prog 41 #[.slice (some ⟨blk, off, none⟩) N cap, .func (.func 42) #[] #[]] w0 fun e w' =>
      e = .returned (.tuple #[]) ∧ ∃ d', Aside (Good keyA 0 N d0 d' ∧ SortedIn (ltKey keyA) 0 N d') ∧ Aside (SWK encA 6 w0 blk off d' w') := by
  have h := stable_c N blk off cap d0 w0 R hN hn
  have H : Aside _ := h
  clear h R hN
  go_enter Tryd.func41, Tryd.ntmps41
  go_wp2_with fail
  refine Calls.mono H.out ?_
  rintro e1 w1 ⟨rfl, d1, G1, S1⟩
  have S1' : Aside (SWK encA 6 w0 blk off d1 w1) := S1
  clear S1 H
  go_wp2_with fail
  go_end0
  exact ⟨rfl, d1, G1, S1'⟩
end Go.Proofs.YtjnfbinomljocaaDoor
