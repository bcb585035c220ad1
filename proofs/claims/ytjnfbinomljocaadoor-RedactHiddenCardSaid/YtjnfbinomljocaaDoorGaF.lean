/- SwapRange, Rotate, SymA, SymB: merged by merge.py. -/
import Derived.Test.YtjnfbinomljocaaDoorProg
import Derived.Test.YtjnfbinomljocaaDoorStab
import Derived.Shelf.SlSortCmp.KitK
import Derived.Sort.WalkB2
import Derived.Sort.WalkB12
import Derived.Deep.LoopGhost
/- slices.swapRangeCmpFunc and rotateCmpFunc at the attributes of an event, over whatever program bears their bodies: what they lay in the row. -/
namespace Go.Proofs.YtjnfbinomljocaaDoor
open Go.Shelf Go.RowKit Go.Lib Go.Sort
open Go.Proofs
variable {P : Program} {α : Type} [Inhabited α]

/-- What is asked of the program: its orders, the five bodies, six types. -/
structure SortP (P : Program) : Prop where
  mixed : P.follows .mixedOrders = true
  swapR : P.funcs[(106 : Nat)]? = some Tryd.f106
  rot : P.funcs[(99 : Nat)]? = some Tryd.f99
  sym : P.funcs[(84 : Nat)]? = some Tryd.f84
  t0 : P.underlying 0 = some (TypeDesc.tuple #[])
  a0 : ∀ w, (isAgg 0).run P w = .ok false w
  z0 : ∀ w, (Go.sizeOf 0).run P w = .ok 1 w
  v0 : ∀ w, (zeroValue 0).run P w = .ok (Value.tuple #[]) w
  t3 : P.underlying 3 = some (TypeDesc.int IntKind.i64)
  a3 : ∀ w, (isAgg 3).run P w = .ok false w
  z3 : ∀ w, (Go.sizeOf 3).run P w = .ok 1 w
  v3 : ∀ w, (zeroValue 3).run P w = .ok (Value.int IntKind.i64 0) w
  tu : P.underlying 82 = some (TypeDesc.int IntKind.u64)
  au : ∀ w, (isAgg 82).run P w = .ok false w
  zu : ∀ w, (Go.sizeOf 82).run P w = .ok 1 w
  vu : ∀ w, (zeroValue 82).run P w = .ok (Value.int IntKind.u64 0) w
  t4 : P.underlying 4 = some (TypeDesc.bool)
  a4 : ∀ w, (isAgg 4).run P w = .ok false w
  z4 : ∀ w, (Go.sizeOf 4).run P w = .ok 1 w
  v4 : ∀ w, (zeroValue 4).run P w = .ok (Value.bool false) w
  t22 : P.underlying 24 = some (TypeDesc.slice 51)
  a22 : ∀ w, (isAgg 24).run P w = .ok false w
  z22 : ∀ w, (Go.sizeOf 24).run P w = .ok 1 w
  v22 : ∀ w, (zeroValue 24).run P w = .ok (Value.slice none 0 0) w
  t25 : P.underlying 74 = some (TypeDesc.func #[51, 51] #[3] false)
  a25 : ∀ w, (isAgg 74).run P w = .ok false w
  z25 : ∀ w, (Go.sizeOf 74).run P w = .ok 1 w
  v25 : ∀ w, (zeroValue 74).run P w = .ok (Value.nilFunc) w

set_option maxHeartbeats 4000000 in
set_option maxRecDepth 1000000 in
theorem swapRange_c (L : SortP P) (k : Nat) (aE : ∀ w, (isAgg 51).run P w = .ok true w) (zE : ∀ w, (Go.sizeOf 51).run P w = .ok k w) (enc : α → List Value) (g : Nat) (cb : Array Value) (blk off cap a b n : Nat) (d0 d : Array α) (w0 w : World)
    (R : RowK enc k w0 blk off d0) (hs : d0.size = d.size) (S : SWK enc k w0 blk off d w) (hab : a + n ≤ b) (hb : b + n ≤ d.size) (hsz : d.size < 4611686018427387904) :
    Calls P 106 #[.slice (some ⟨blk, off, none⟩) d.size cap, .int .i64 a, .int .i64 b, .int .i64 n, .func (.func g) #[] cb] w fun e w' => e = .returned (.tuple #[]) ∧ ∃ d', Aside (Swr a b n d d') ∧ Aside (SWK enc k w0 blk off d' w') := by
  have mixed := L.mixed; have t0 := L.t0; have a0 := L.a0; have z0 := L.z0; have v0 := L.v0; have t3 := L.t3; have a3 := L.a3; have z3 := L.z3; have v3 := L.v3; have t4 := L.t4; have a4 := L.a4; have z4 := L.z4; have v4 := L.v4; have t22 := L.t22; have a22 := L.a22; have z22 := L.z22; have v22 := L.v22; have t25 := L.t25; have a25 := L.a25; have z25 := L.z25; have v25 := L.v25
  have FG := L.swapR
  have S0 : Aside (SWK enc k w0 blk off d w) := S
  clear S L
  go_enter FG, Tryd.ntmps106
  go_wp2
  go_loopg [10] n (fun kx s10 wr => ∃ (i : Nat) (dk : Array α), s10 = .int .i64 i ∧ i ≤ n ∧ n - i ≤ kx ∧ dk.size = d.size ∧ Aside (Swr a b i d dk) ∧ Aside (SWK enc k w0 blk off dk wr))
  case atStart => exact ⟨0, d, rfl, Nat.zero_le _, by omega, rfl, Swr.zero a b d, S0⟩
  case round =>
    clear S0
    obtain ⟨i, dk, rfl, hin, hkx, hds, Q, S1⟩ := hrel
    by_cases hlt : (i : Int) < (n : Int)
    · go_wp2_with fail
      have ea44 : ((a : Int) + (i : Int)).toNat = a + i := by omega
      have pa44 : (0 : Int) ≤ (a : Int) + (i : Int) := by omega
      have ba44 : (a : Int) + (i : Int) < (d.size : Int) := by omega
      have ra44 : IntKind.i64.wrap ((a : Int) + (i : Int)) = (a : Int) + (i : Int) := by rw [IntKind.wrap_i64]; omega
      have ec44 : ((b : Int) + (i : Int)).toNat = b + i := by omega
      have pc44 : (0 : Int) ≤ (b : Int) + (i : Int) := by omega
      have bc44 : (b : Int) + (i : Int) < (d.size : Int) := by omega
      have rc44 : IntKind.i64.wrap ((b : Int) + (i : Int)) = (b : Int) + (i : Int) := by rw [IntKind.wrap_i64]; omega
      have S2 : Aside (SWK enc k w0 blk off (swp dk (a + i) (b + i)) ((wr.drew.setCells blk (off + (a + i) * k) (enc dk[b + i]!)).setCells blk (off + (b + i) * k) (enc dk[a + i]!))) := S1.out.swapped R (a + i) (b + i) (by omega) (by omega)
      have Q2 : Aside (Swr a b (i + 1) d (swp dk (a + i) (b + i))) := Q.out.succ (by omega) (by omega)
      have l44a := S1.out.ld1 R (by omega) P (a + i) (by omega)
      have l44b := S1.out.ld1 R (by omega) P (b + i) (by omega)
      have s44a := S1.out.st1 R (by omega) P (a + i) (by omega) dk[b + i]!
      have s44b := S1.out.st2 R (by omega) P (a + i) (b + i) (by omega) (by omega) dk[b + i]! dk[a + i]!
      have n44a : (enc dk[a + i]!).length = k := R.hk _
      have n44b : (enc dk[b + i]!).length = k := R.hk _
      generalize enc dk[a + i]! = cI44 at S2 l44a s44b n44a
      generalize enc dk[b + i]! = cJ44 at S2 l44b s44a s44b n44b
      clear S1 Q
      go_wp2_with fail
      go_big_region_o
      clear l44a l44b s44a s44b
      generalize (wr.drew.setCells blk (off + (a + i) * k) cJ44).setCells blk (off + (b + i) * k) cI44 = w2 at S2 ⊢
      go_wp2
      go_roundg (n - (i + 1))
      case measure => omega
      case rel => exact ⟨i + 1, _, by go_num, by omega, Nat.le_refl _, by rw [size_swp]; exact hds, Q2, S2⟩
    · obtain rfl : i = n := by omega
      go_wp2
      go_end0
      exact ⟨rfl, dk, Q, S1⟩
end Go.Proofs.YtjnfbinomljocaaDoor

/- slices.rotateCmpFunc at the attributes of an event: two runs of the row are exchanged. -/
namespace Go.Proofs.YtjnfbinomljocaaDoor
open Go.Shelf Go.RowKit Go.Lib Go.Sort
open Go.Proofs
variable {P : Program} {α : Type} [Inhabited α]

set_option maxHeartbeats 4000000 in
set_option maxRecDepth 1000000 in
theorem rotate_c (L : SortP P) (k : Nat) (aE : ∀ w, (isAgg 51).run P w = .ok true w) (zE : ∀ w, (Go.sizeOf 51).run P w = .ok k w) (enc : α → List Value) (g : Nat) (cb : Array Value) (blk off cap a m b : Nat) (d0 d : Array α) (w0 w : World)
    (R : RowK enc k w0 blk off d0) (hs : d0.size = d.size) (S : SWK enc k w0 blk off d w) (ham : a < m) (hmb : m < b) (hb : b ≤ d.size) (hsz : d.size < 4611686018427387904) :
    Calls P 99 #[.slice (some ⟨blk, off, none⟩) d.size cap, .int .i64 a, .int .i64 m, .int .i64 b, .func (.func g) #[] cb] w fun e w' => e = .returned (.tuple #[]) ∧ ∃ d', Aside (Rot a m b d d') ∧ Aside (SWK enc k w0 blk off d' w') := by
  have HSW : ∀ (x y n : Nat) (dk : Array α) (wr : World), dk.size = d.size → SWK enc k w0 blk off dk wr → x + n ≤ y → y + n ≤ d.size →
      Calls P 106 #[.slice (some ⟨blk, off, none⟩) d.size cap, .int .i64 x, .int .i64 y, .int .i64 n, .func (.func g) #[] cb] wr fun e w' => e = .returned (.tuple #[]) ∧ ∃ d', Aside (Swr x y n dk d') ∧ Aside (SWK enc k w0 blk off d' w') := fun x y n dk wr hds S1 h1 h2 => by
    have h := swapRange_c L k aE zE enc g cb blk off cap x y n d0 dk w0 wr R (hs.trans hds.symm) S1 h1 (by omega) (by omega)
    rw [hds] at h; exact h
  have HSW : Aside _ := HSW
  have mixed := L.mixed; have t0 := L.t0; have a0 := L.a0; have z0 := L.z0; have v0 := L.v0; have t3 := L.t3; have a3 := L.a3; have z3 := L.z3; have v3 := L.v3; have t4 := L.t4; have a4 := L.a4; have z4 := L.z4; have v4 := L.v4; have t22 := L.t22; have a22 := L.a22; have z22 := L.z22; have v22 := L.v22; have t25 := L.t25; have a25 := L.a25; have z25 := L.z25; have v25 := L.v25
  have FG := L.rot
  have e85 : ∀ args w, (callFunc 106 args).run P w = .ok (.enter 106 args) w := enters_of L.swapR (by kernel_rfl) rfl
  have S0 : Aside (SWK enc k w0 blk off d w) := S
  have x1 : (m : Int) - (a : Int) = ((m - a : Nat) : Int) := by omega
  have x2 : (b : Int) - (m : Int) = ((b - m : Nat) : Int) := by omega
  clear S L hs
  go_enter FG, Tryd.ntmps99
  go_wp2
  clear x1 x2
  go_loopg [10, 11] (b - a) (fun kx s10 s11 wr => ∃ (i j : Nat) (dk : Array α), s10 = .int .i64 i ∧ s11 = .int .i64 j ∧ 1 ≤ i ∧ 1 ≤ j ∧ a + i ≤ m ∧ m + j ≤ b ∧ i + j ≤ kx ∧ dk.size = d.size ∧ Aside (Rest a m b i j d dk) ∧ Aside (SWK enc k w0 blk off dk wr))
  case atStart => exact ⟨m - a, b - m, d, by first | rfl | (congr 1; omega), by first | rfl | (congr 1; omega), by omega, by omega, by omega, by omega, by omega, rfl, Rest.start d (by omega) (by omega), S0⟩
  case round =>
    clear S0
    obtain ⟨i, j, dk, rfl, rfl, hi, hj, hia, hjb, hkx, hds, Q, S1⟩ := hrel
    have hm : (m : Int) < 4611686018427387904 := by omega
    have rmi : IntKind.i64.wrap ((m : Int) - (i : Int)) = (m : Int) - (i : Int) := by rw [IntKind.wrap_i64]; omega
    have cmi : (m : Int) - (i : Int) = ((m - i : Nat) : Int) := by omega
    have CMI : Aside ((m : Int) - (i : Int) = ((m - i : Nat) : Int)) := cmi
    clear cmi
    have rij : IntKind.i64.wrap ((i : Int) - (j : Int)) = (i : Int) - (j : Int) := by rw [IntKind.wrap_i64]; omega
    have rji : IntKind.i64.wrap ((j : Int) - (i : Int)) = (j : Int) - (i : Int) := by rw [IntKind.wrap_i64]; omega
    have rmj : IntKind.i64.wrap ((m : Int) + (j : Int)) = (m : Int) + (j : Int) := by rw [IntKind.wrap_i64]; omega
    have rmji : IntKind.i64.wrap ((m : Int) + (j : Int) - (i : Int)) = (m : Int) + (j : Int) - (i : Int) := by rw [IntKind.wrap_i64]; omega
    by_cases hne : i = j
    · subst hne
      have b1 : ((i : Int) != (i : Int)) = false := by simp
      go_wp2_with fail
      rw [CMI.out]
      refine (HSW.out (m - i) m i dk wr hds S1.out (by omega) (by omega)).mono ?_
      rintro e w1 ⟨rfl, d2, Q2, S2⟩
      have S2' : Aside (SWK enc k w0 blk off d2 w1) := S2
      clear S1
      go_wp2_with fail
      go_end0
      exact ⟨rfl, d2, Q.out.last Q2.out (by omega), S2'⟩
    · have b1 : ((i : Int) != (j : Int)) = true := by simp; omega
      by_cases hlt : j < i
      · have hltz : (j : Int) < (i : Int) := by omega
        go_wp2_with fail
        rw [CMI.out]
        refine (HSW.out (m - i) m j dk wr hds S1.out (by omega) (by omega)).mono ?_
        rintro e w1 ⟨rfl, d2, Q2, S2⟩
        clear S1
        go_wp2
        go_roundg (i - j + j)
        case measure => omega
        case rel => exact ⟨i - j, j, d2, by congr 1; omega, rfl, by omega, by omega, by omega, by omega, by omega, Q2.out.size.trans hds, Q.out.more (by omega) (by omega) (by omega) hlt Q2.out, S2⟩
      · have hltz : ¬ (j : Int) < (i : Int) := by omega
        go_wp2_with fail
        rw [CMI.out, show (m : Int) + (j : Int) - (i : Int) = ((m + j - i : Nat) : Int) by omega]
        refine (HSW.out (m - i) (m + j - i) i dk wr hds S1.out (by omega) (by omega)).mono ?_
        rintro e w1 ⟨rfl, d2, Q2, S2⟩
        clear S1
        go_wp2
        go_roundg (i + (j - i))
        case measure => omega
        case rel => exact ⟨i, j - i, d2, rfl, by congr 1; omega, by omega, by omega, by omega, by omega, by omega, Q2.out.size.trans hds, Q.out.less (by omega) (by omega) (by omega) (by omega) Q2.out, S2⟩
end Go.Proofs.YtjnfbinomljocaaDoor

/- slices.symMergeCmpFunc at the attributes of an event, where the first run has one. (Written by gen_sym.py.) -/
namespace Go.Proofs.YtjnfbinomljocaaDoor
open Go.Shelf Go.RowKit Go.Lib Go.Sort
open Go.Proofs
variable {P : Program} {α : Type} [Inhabited α]

set_option maxHeartbeats 16000000 in
set_option maxRecDepth 1000000 in
theorem symMergeA_c (L : SortP P) (k : Nat) (aE : ∀ w, (isAgg 51).run P w = .ok true w) (zE : ∀ w, (Go.sizeOf 51).run P w = .ok k w) (enc : α → List Value) (cf : α → α → Int) (key : α → List UInt8) (hcf : ∀ x y, ltOf cf x y = ltKey key x y) (g : Nat) (cb : Array Value) (blk off cap : Nat) (d0 : Array α) (w0 : World)
    (eg : ∀ args w, (callFunc g args).run P w = .ok (.enter g args) w) (hcmp : CmpLays P g cb enc k cf blk off d0.size w0) (R : RowK enc k w0 blk off d0) (hsz : d0.size < 4611686018427387904) (a m b : Nat) (d : Array α) (w : World)
    (hs : d0.size = d.size) (S : SWK enc k w0 blk off d w) (ham : a < m) (hmb : m < b) (hb : b ≤ d.size) (sa : SortedIn (ltKey key) a m d) (sb : SortedIn (ltKey key) m b d) (hm1 : m = a + 1) :
    Calls P 84 #[.slice (some ⟨blk, off, none⟩) d0.size cap, .int .i64 a, .int .i64 m, .int .i64 b, .func (.func g) #[] cb] w fun e w' =>
      e = .returned (.tuple #[]) ∧ ∃ d', Aside (Good key a b d d' ∧ SortedIn (ltKey key) a b d') ∧ Aside (SWK enc k w0 blk off d' w') := by
  have mixed := L.mixed; have t0 := L.t0; have a0 := L.a0; have z0 := L.z0; have v0 := L.v0; have t3 := L.t3; have a3 := L.a3; have z3 := L.z3; have v3 := L.v3; have tu := L.tu; have au := L.au; have zu := L.zu; have vu := L.vu; have t4 := L.t4; have a4 := L.a4; have z4 := L.z4; have v4 := L.v4; have t22 := L.t22; have a22 := L.a22; have z22 := L.z22; have v22 := L.v22; have t25 := L.t25; have a25 := L.a25; have z25 := L.z25; have v25 := L.v25
  have u3 := run_underlying L.t3; have uu := run_underlying L.tu
  have FG := L.sym
  have S0 : Aside (SWK enc k w0 blk off d w) := S
  have HC : Aside _ := hcmp
  have HCF : Aside _ := hcf
  have SA : Aside _ := sa
  have SB : Aside _ := sb
  have HS : Aside _ := hs
  clear S L hcmp hcf sa sb
  generalize hN : d0.size = N at *
  have bsz : b ≤ N := by omega
  have hs1 : d.size ≤ N := by omega
  have hs2 : N ≤ d.size := by omega
  clear hs hb
  have wma : IntKind.i64.wrap ((m : Int) - (a : Int)) = (m : Int) - (a : Int) := by rw [IntKind.wrap_i64]; omega
  have wbm : IntKind.i64.wrap ((b : Int) - (m : Int)) = (b : Int) - (m : Int) := by rw [IntKind.wrap_i64]; omega
  have HM : Aside (m = a + 1) := hm1
  have b1 : (((m : Int) - (a : Int)) == 1) = true := by simp; omega
  clear hm1
  go_enter FG, Tryd.ntmps84
  go_wp2
  go_loopg [10, 11] (b - m) (fun kx s10 s11 wr => ∃ (i j : Nat), s10 = .int .i64 i ∧ s11 = .int .i64 j ∧ m ≤ i ∧ i ≤ j ∧ j ≤ b ∧ j - i ≤ kx ∧ Aside (SWK enc k w0 blk off d wr) ∧
    Aside ((i = m ∨ ltKey key d[i - 1]! d[a]! = true) ∧ (j = b ∨ ltKey key d[j]! d[a]! = false)))
  case atStart => exact ⟨m, b, rfl, rfl, Nat.le_refl _, by omega, Nat.le_refl _, by omega, S0, (⟨Or.inl rfl, Or.inl rfl⟩ : _ ∧ _)⟩
  case round =>
    clear S0
    obtain ⟨i, j, rfl, rfl, hmi, hij, hjb, hkx, S1, I⟩ := hrel
    by_cases hlt : i < j
    · have hltz : (i : Int) < (j : Int) := by omega
      have wij : IntKind.i64.wrap ((i : Int) + (j : Int)) = (i : Int) + (j : Int) := by rw [IntKind.wrap_i64]; omega
      cases hL : ltKey key d[(i + j) / 2]! d[a]! with
      | true =>
        have ea1 : (((i : Int) + (j : Int)) / 2).toNat = (i + j) / 2 := by omega
        have pa1 : (0 : Int) ≤ ((i : Int) + (j : Int)) / 2 := by omega
        have ba1 : ((i : Int) + (j : Int)) / 2 < (N : Int) := by omega
        have ra1 : IntKind.i64.wrap (((i : Int) + (j : Int)) / 2) = ((i : Int) + (j : Int)) / 2 := by rw [IntKind.wrap_i64]; omega
        have ec1 : ((a : Int)).toNat = a := by omega
        have pc1 : (0 : Int) ≤ (a : Int) := by omega
        have bc1 : (a : Int) < (N : Int) := by omega
        have rc1 : IntKind.i64.wrap ((a : Int)) = (a : Int) := by rw [IntKind.wrap_i64]; omega
        obtain ⟨x1, hx1⟩ : ∃ x, x = d[(i + j) / 2]! := ⟨_, rfl⟩
        obtain ⟨y1, hy1⟩ : ∃ x, x = d[a]! := ⟨_, rfl⟩
        have l1a := S1.out.ld R (by omega) P ((i + j) / 2) (by omega)
        have l1b := S1.out.ld R (by omega) P (a) (by omega)
        rw [← hx1] at l1a
        rw [← hy1] at l1b
        have hc1 := S1.out.cmp HC.out (by omega) x1 y1
        have hv1 : cf x1 y1 < 0 := by
          have h : ltOf cf x1 y1 = true := (HCF.out x1 y1).trans (by rw [hx1, hy1]; exact hL)
          exact of_decide_eq_true h
        have hd1 : decide (cf x1 y1 < 0) = true := decide_eq_true hv1
        clear hx1 hy1
        go_wp2_with fail
        go_quiet_grown (first | (go_at_fn g; refine Calls.grown_of (hc1 _ _)))
        have S2 : Aside (SWK enc k w0 blk off d (grow (wr.drewN nq) osq)) := S1.out.grown nq osq
        clear l1a l1b hc1 S1 ea1 pa1 ba1 ra1 ec1 pc1 bc1 rc1
        generalize grow (wr.drewN nq) osq = w2 at S2 ⊢
        clear nq osq
        have I2 : Aside (((i + j) / 2 + 1 = m ∨ ltKey key d[(i + j) / 2 + 1 - 1]! d[a]! = true) ∧ (j = b ∨ ltKey key d[j]! d[a]! = false)) := ⟨Or.inr hL, I.out.2⟩
        clear hL
        go_wp2
        go_roundg (j - ((i + j) / 2 + 1))
        case measure => omega
        case rel => exact ⟨(i + j) / 2 + 1, j, by congr 1 <;> omega, rfl, by omega, by omega, hjb, Nat.le_refl _, S2, I2⟩
      | false =>
        have ea1 : (((i : Int) + (j : Int)) / 2).toNat = (i + j) / 2 := by omega
        have pa1 : (0 : Int) ≤ ((i : Int) + (j : Int)) / 2 := by omega
        have ba1 : ((i : Int) + (j : Int)) / 2 < (N : Int) := by omega
        have ra1 : IntKind.i64.wrap (((i : Int) + (j : Int)) / 2) = ((i : Int) + (j : Int)) / 2 := by rw [IntKind.wrap_i64]; omega
        have ec1 : ((a : Int)).toNat = a := by omega
        have pc1 : (0 : Int) ≤ (a : Int) := by omega
        have bc1 : (a : Int) < (N : Int) := by omega
        have rc1 : IntKind.i64.wrap ((a : Int)) = (a : Int) := by rw [IntKind.wrap_i64]; omega
        obtain ⟨x1, hx1⟩ : ∃ x, x = d[(i + j) / 2]! := ⟨_, rfl⟩
        obtain ⟨y1, hy1⟩ : ∃ x, x = d[a]! := ⟨_, rfl⟩
        have l1a := S1.out.ld R (by omega) P ((i + j) / 2) (by omega)
        have l1b := S1.out.ld R (by omega) P (a) (by omega)
        rw [← hx1] at l1a
        rw [← hy1] at l1b
        have hc1 := S1.out.cmp HC.out (by omega) x1 y1
        have hv1 : ¬ cf x1 y1 < 0 := by
          have h : ltOf cf x1 y1 = false := (HCF.out x1 y1).trans (by rw [hx1, hy1]; exact hL)
          exact of_decide_eq_false h
        have hd1 : decide (cf x1 y1 < 0) = false := decide_eq_false hv1
        clear hx1 hy1
        go_wp2_with fail
        go_quiet_grown (first | (go_at_fn g; refine Calls.grown_of (hc1 _ _)))
        have S2 : Aside (SWK enc k w0 blk off d (grow (wr.drewN nq) osq)) := S1.out.grown nq osq
        clear l1a l1b hc1 S1 ea1 pa1 ba1 ra1 ec1 pc1 bc1 rc1
        generalize grow (wr.drewN nq) osq = w2 at S2 ⊢
        clear nq osq
        have I2 : Aside ((i = m ∨ ltKey key d[i - 1]! d[a]! = true) ∧ ((i + j) / 2 = b ∨ ltKey key d[(i + j) / 2]! d[a]! = false)) := ⟨I.out.1, Or.inr hL⟩
        clear hL
        go_wp2
        go_roundg ((i + j) / 2 - i)
        case measure => omega
        case rel => exact ⟨i, (i + j) / 2, rfl, by congr 1 <;> omega, hmi, by omega, by omega, Nat.le_refl _, S2, I2⟩
    · have hltz : ¬ (i : Int) < (j : Int) := by omega
      obtain rfl : i = j := by omega
      have wi1 : IntKind.i64.wrap ((i : Int) - 1) = (i : Int) - 1 := by rw [IntKind.wrap_i64]; omega
      have RS : Aside (Rot a m (a + 1) d d) := by show Rot _ _ _ _ _; rw [HM.out]; exact Rot.refl_b _ _ _
      go_wp2
      go_loopg [13] (i - 1 - a) (fun ky s13 wr2 => ∃ (q : Nat) (dk : Array α), s13 = .int .i64 q ∧ a ≤ q ∧ q + 1 ≤ i ∧ i - 1 - q ≤ ky ∧ dk.size = N ∧ Aside (Rot a m (q + 1) d dk) ∧ Aside (SWK enc k w0 blk off dk wr2))
      case atStart => exact ⟨a, d, rfl, Nat.le_refl _, by omega, Nat.le_refl _, HS.out.symm, RS, S1⟩
      case round =>
        clear S1 RS
        obtain ⟨q, dk, rfl, haq, hqi, hky, hds, Q, S1⟩ := hrel
        by_cases hlt2 : q + 1 < i
        · have hlt2z : (q : Int) < (i : Int) - 1 := by omega
          have Q2 : Aside (Rot a m (q + 1 + 1) d (swp dk q (q + 1))) := by
            show Rot a m (q + 1 + 1) d (swp dk q (q + 1))
            have h := Q.out.right HM.out (show m ≤ q + 1 by have := HM.out; omega) (by have := HS.out; omega)
            simpa using h
          have ea2 : ((q : Int)).toNat = q := by omega
          have pa2 : (0 : Int) ≤ (q : Int) := by omega
          have ba2 : (q : Int) < (N : Int) := by omega
          have ra2 : IntKind.i64.wrap ((q : Int)) = (q : Int) := by rw [IntKind.wrap_i64]; omega
          have ec2 : ((q : Int) + 1).toNat = q + 1 := by omega
          have pc2 : (0 : Int) ≤ (q : Int) + 1 := by omega
          have bc2 : (q : Int) + 1 < (N : Int) := by omega
          have rc2 : IntKind.i64.wrap ((q : Int) + 1) = (q : Int) + 1 := by rw [IntKind.wrap_i64]; omega
          have S3 : Aside (SWK enc k w0 blk off (swp dk (q) (q + 1)) ((wr.drew.setCells blk (off + (q) * k) (enc dk[q + 1]!)).setCells blk (off + (q + 1) * k) (enc dk[q]!))) := S1.out.swapped R (q) (q + 1) (by omega) (by omega)
          have l2a := S1.out.ld1 R (by omega) P (q) (by omega)
          have l2b := S1.out.ld1 R (by omega) P (q + 1) (by omega)
          have s2a := S1.out.st1 R (by omega) P (q) (by omega) dk[q + 1]!
          have s2b := S1.out.st2 R (by omega) P (q) (q + 1) (by omega) (by omega) dk[q + 1]! dk[q]!
          have n2a : (enc dk[q]!).length = k := R.hk _
          have n2b : (enc dk[q + 1]!).length = k := R.hk _
          generalize enc dk[q]! = cI2 at S3 l2a s2b n2a
          generalize enc dk[q + 1]! = cJ2 at S3 l2b s2a s2b n2b
          clear S1
          go_wp2_with fail
          go_big_region_o
          clear l2a l2b s2a s2b
          generalize (wr.drew.setCells blk (off + (q) * k) cJ2).setCells blk (off + (q + 1) * k) cI2 = w3 at S3 ⊢
          go_wp2
          go_roundg (i - 1 - (q + 1))
          case measure => omega
          case rel => exact ⟨q + 1, _, by go_num, by omega, by omega, Nat.le_refl _, by rw [size_swp]; exact hds, Q2, S3⟩
        · have hlt2z : ¬ (q : Int) < (i : Int) - 1 := by omega
          have QI : Aside (Rot a m i d dk) := by
            show Rot a m i d dk
            rw [show i = q + 1 by omega]; exact Q.out
          go_wp2
          refine bodyPost_ret (results_none rfl _ _ _) rfl ?_
          exact ⟨rfl, dk, merge_one HM.out hmi hjb (by have := HS.out; omega) SB.out I.out.1 I.out.2 QI.out, S1⟩
end Go.Proofs.YtjnfbinomljocaaDoor

/- slices.symMergeCmpFunc at the attributes of an event, where the second run has one. (Written by gen_sym.py.) -/
namespace Go.Proofs.YtjnfbinomljocaaDoor
open Go.Shelf Go.RowKit Go.Lib Go.Sort
open Go.Proofs
variable {P : Program} {α : Type} [Inhabited α]

set_option maxHeartbeats 16000000 in
set_option maxRecDepth 1000000 in
theorem symMergeB_c (L : SortP P) (k : Nat) (aE : ∀ w, (isAgg 51).run P w = .ok true w) (zE : ∀ w, (Go.sizeOf 51).run P w = .ok k w) (enc : α → List Value) (cf : α → α → Int) (key : α → List UInt8) (hcf : ∀ x y, ltOf cf x y = ltKey key x y) (g : Nat) (cb : Array Value) (blk off cap : Nat) (d0 : Array α) (w0 : World)
    (eg : ∀ args w, (callFunc g args).run P w = .ok (.enter g args) w) (hcmp : CmpLays P g cb enc k cf blk off d0.size w0) (R : RowK enc k w0 blk off d0) (hsz : d0.size < 4611686018427387904) (a m b : Nat) (d : Array α) (w : World)
    (hs : d0.size = d.size) (S : SWK enc k w0 blk off d w) (_ham : a < m) (hmb : m < b) (hb : b ≤ d.size) (sa : SortedIn (ltKey key) a m d) (sb : SortedIn (ltKey key) m b d) (hm2 : a + 1 < m) (hb1 : b = m + 1) :
    Calls P 84 #[.slice (some ⟨blk, off, none⟩) d0.size cap, .int .i64 a, .int .i64 m, .int .i64 b, .func (.func g) #[] cb] w fun e w' =>
      e = .returned (.tuple #[]) ∧ ∃ d', Aside (Good key a b d d' ∧ SortedIn (ltKey key) a b d') ∧ Aside (SWK enc k w0 blk off d' w') := by
  have mixed := L.mixed; have t0 := L.t0; have a0 := L.a0; have z0 := L.z0; have v0 := L.v0; have t3 := L.t3; have a3 := L.a3; have z3 := L.z3; have v3 := L.v3; have tu := L.tu; have au := L.au; have zu := L.zu; have vu := L.vu; have t4 := L.t4; have a4 := L.a4; have z4 := L.z4; have v4 := L.v4; have t22 := L.t22; have a22 := L.a22; have z22 := L.z22; have v22 := L.v22; have t25 := L.t25; have a25 := L.a25; have z25 := L.z25; have v25 := L.v25
  have u3 := run_underlying L.t3; have uu := run_underlying L.tu
  have FG := L.sym
  have S0 : Aside (SWK enc k w0 blk off d w) := S
  have HC : Aside _ := hcmp
  have HCF : Aside _ := hcf
  have SA : Aside _ := sa
  have SB : Aside _ := sb
  have HS : Aside _ := hs
  clear S L hcmp hcf sa sb
  generalize hN : d0.size = N at *
  have bsz : b ≤ N := by omega
  have hs1 : d.size ≤ N := by omega
  have hs2 : N ≤ d.size := by omega
  clear hs hb
  have wma : IntKind.i64.wrap ((m : Int) - (a : Int)) = (m : Int) - (a : Int) := by rw [IntKind.wrap_i64]; omega
  have wbm : IntKind.i64.wrap ((b : Int) - (m : Int)) = (b : Int) - (m : Int) := by rw [IntKind.wrap_i64]; omega
  have b1 : (((m : Int) - (a : Int)) == 1) = false := by simp; omega
  have HB : Aside (b = m + 1) := hb1
  have b2 : (((b : Int) - (m : Int)) == 1) = true := by simp; omega
  clear hb1
  go_enter FG, Tryd.ntmps84
  go_wp2
  go_loopg [14, 15] (m - a) (fun kx s14 s15 wr => ∃ (i j : Nat), s14 = .int .i64 i ∧ s15 = .int .i64 j ∧ a ≤ i ∧ i ≤ j ∧ j ≤ m ∧ j - i ≤ kx ∧ Aside (SWK enc k w0 blk off d wr) ∧
    Aside ((i = a ∨ ltKey key d[m]! d[i - 1]! = false) ∧ (j = m ∨ ltKey key d[m]! d[j]! = true)))
  case atStart => exact ⟨a, m, rfl, rfl, Nat.le_refl _, by omega, Nat.le_refl _, by omega, S0, (⟨Or.inl rfl, Or.inl rfl⟩ : _ ∧ _)⟩
  case round =>
    clear S0
    obtain ⟨i, j, rfl, rfl, hmi, hij, hjb, hkx, S1, I⟩ := hrel
    by_cases hlt : i < j
    · have hltz : (i : Int) < (j : Int) := by omega
      have wij : IntKind.i64.wrap ((i : Int) + (j : Int)) = (i : Int) + (j : Int) := by rw [IntKind.wrap_i64]; omega
      cases hL : ltKey key d[m]! d[(i + j) / 2]! with
      | false =>
        have ea1 : ((m : Int)).toNat = m := by omega
        have pa1 : (0 : Int) ≤ (m : Int) := by omega
        have ba1 : (m : Int) < (N : Int) := by omega
        have ra1 : IntKind.i64.wrap ((m : Int)) = (m : Int) := by rw [IntKind.wrap_i64]; omega
        have ec1 : (((i : Int) + (j : Int)) / 2).toNat = (i + j) / 2 := by omega
        have pc1 : (0 : Int) ≤ ((i : Int) + (j : Int)) / 2 := by omega
        have bc1 : ((i : Int) + (j : Int)) / 2 < (N : Int) := by omega
        have rc1 : IntKind.i64.wrap (((i : Int) + (j : Int)) / 2) = ((i : Int) + (j : Int)) / 2 := by rw [IntKind.wrap_i64]; omega
        obtain ⟨x1, hx1⟩ : ∃ x, x = d[m]! := ⟨_, rfl⟩
        obtain ⟨y1, hy1⟩ : ∃ x, x = d[(i + j) / 2]! := ⟨_, rfl⟩
        have l1a := S1.out.ld R (by omega) P (m) (by omega)
        have l1b := S1.out.ld R (by omega) P ((i + j) / 2) (by omega)
        rw [← hx1] at l1a
        rw [← hy1] at l1b
        have hc1 := S1.out.cmp HC.out (by omega) x1 y1
        have hv1 : ¬ cf x1 y1 < 0 := by
          have h : ltOf cf x1 y1 = false := (HCF.out x1 y1).trans (by rw [hx1, hy1]; exact hL)
          exact of_decide_eq_false h
        have hd1 : decide (cf x1 y1 < 0) = false := decide_eq_false hv1
        clear hx1 hy1
        go_wp2_with fail
        go_quiet_grown (first | (go_at_fn g; refine Calls.grown_of (hc1 _ _)))
        have S2 : Aside (SWK enc k w0 blk off d (grow (wr.drewN nq) osq)) := S1.out.grown nq osq
        clear l1a l1b hc1 S1 ea1 pa1 ba1 ra1 ec1 pc1 bc1 rc1
        generalize grow (wr.drewN nq) osq = w2 at S2 ⊢
        clear nq osq
        have I2 : Aside (((i + j) / 2 + 1 = a ∨ ltKey key d[m]! d[(i + j) / 2 + 1 - 1]! = false) ∧ (j = m ∨ ltKey key d[m]! d[j]! = true)) := ⟨Or.inr hL, I.out.2⟩
        clear hL
        go_wp2
        go_roundg (j - ((i + j) / 2 + 1))
        case measure => omega
        case rel => exact ⟨(i + j) / 2 + 1, j, by congr 1 <;> omega, rfl, by omega, by omega, hjb, Nat.le_refl _, S2, I2⟩
      | true =>
        have ea1 : ((m : Int)).toNat = m := by omega
        have pa1 : (0 : Int) ≤ (m : Int) := by omega
        have ba1 : (m : Int) < (N : Int) := by omega
        have ra1 : IntKind.i64.wrap ((m : Int)) = (m : Int) := by rw [IntKind.wrap_i64]; omega
        have ec1 : (((i : Int) + (j : Int)) / 2).toNat = (i + j) / 2 := by omega
        have pc1 : (0 : Int) ≤ ((i : Int) + (j : Int)) / 2 := by omega
        have bc1 : ((i : Int) + (j : Int)) / 2 < (N : Int) := by omega
        have rc1 : IntKind.i64.wrap (((i : Int) + (j : Int)) / 2) = ((i : Int) + (j : Int)) / 2 := by rw [IntKind.wrap_i64]; omega
        obtain ⟨x1, hx1⟩ : ∃ x, x = d[m]! := ⟨_, rfl⟩
        obtain ⟨y1, hy1⟩ : ∃ x, x = d[(i + j) / 2]! := ⟨_, rfl⟩
        have l1a := S1.out.ld R (by omega) P (m) (by omega)
        have l1b := S1.out.ld R (by omega) P ((i + j) / 2) (by omega)
        rw [← hx1] at l1a
        rw [← hy1] at l1b
        have hc1 := S1.out.cmp HC.out (by omega) x1 y1
        have hv1 : cf x1 y1 < 0 := by
          have h : ltOf cf x1 y1 = true := (HCF.out x1 y1).trans (by rw [hx1, hy1]; exact hL)
          exact of_decide_eq_true h
        have hd1 : decide (cf x1 y1 < 0) = true := decide_eq_true hv1
        clear hx1 hy1
        go_wp2_with fail
        go_quiet_grown (first | (go_at_fn g; refine Calls.grown_of (hc1 _ _)))
        have S2 : Aside (SWK enc k w0 blk off d (grow (wr.drewN nq) osq)) := S1.out.grown nq osq
        clear l1a l1b hc1 S1 ea1 pa1 ba1 ra1 ec1 pc1 bc1 rc1
        generalize grow (wr.drewN nq) osq = w2 at S2 ⊢
        clear nq osq
        have I2 : Aside ((i = a ∨ ltKey key d[m]! d[i - 1]! = false) ∧ ((i + j) / 2 = m ∨ ltKey key d[m]! d[(i + j) / 2]! = true)) := ⟨I.out.1, Or.inr hL⟩
        clear hL
        go_wp2
        go_roundg ((i + j) / 2 - i)
        case measure => omega
        case rel => exact ⟨i, (i + j) / 2, rfl, by congr 1 <;> omega, hmi, by omega, by omega, Nat.le_refl _, S2, I2⟩
    · have hltz : ¬ (i : Int) < (j : Int) := by omega
      obtain rfl : i = j := by omega
      have RS : Aside (Rot m m b d d) := Rot.refl_m _ _ _
      go_wp2
      go_loopg [17] (m - i) (fun ky s17 wr2 => ∃ (q : Nat) (dk : Array α), s17 = .int .i64 q ∧ i ≤ q ∧ q ≤ m ∧ q - i ≤ ky ∧ dk.size = N ∧ Aside (Rot q m b d dk) ∧ Aside (SWK enc k w0 blk off dk wr2))
      case atStart => exact ⟨m, d, rfl, hjb, Nat.le_refl _, Nat.le_refl _, HS.out.symm, RS, S1⟩
      case round =>
        clear S1 RS
        obtain ⟨q, dk, rfl, haq, hqi, hky, hds, Q, S1⟩ := hrel
        by_cases hlt2 : i < q
        · have hlt2z : (i : Int) < (q : Int) := by omega
          obtain ⟨r, rfl⟩ : ∃ r, q = r + 1 := ⟨q - 1, by omega⟩
          have Q2 : Aside (Rot r m b d (swp dk (r + 1) r)) := Q.out.left HB.out hqi (by have := HS.out; omega)
          have hlt3z : (i : Int) < (r : Int) + 1 := by omega
          have ea2 : ((r : Int) + 1).toNat = r + 1 := by omega
          have pa2 : (0 : Int) ≤ (r : Int) + 1 := by omega
          have ba2 : (r : Int) + 1 < (N : Int) := by omega
          have ra2 : IntKind.i64.wrap ((r : Int) + 1) = (r : Int) + 1 := by rw [IntKind.wrap_i64]; omega
          have ec2 : ((r : Int)).toNat = r := by omega
          have pc2 : (0 : Int) ≤ (r : Int) := by omega
          have bc2 : (r : Int) < (N : Int) := by omega
          have rc2 : IntKind.i64.wrap ((r : Int)) = (r : Int) := by rw [IntKind.wrap_i64]; omega
          have S3 : Aside (SWK enc k w0 blk off (swp dk (r + 1) (r)) ((wr.drew.setCells blk (off + (r + 1) * k) (enc dk[r]!)).setCells blk (off + (r) * k) (enc dk[r + 1]!))) := S1.out.swapped R (r + 1) (r) (by omega) (by omega)
          have l2a := S1.out.ld1 R (by omega) P (r + 1) (by omega)
          have l2b := S1.out.ld1 R (by omega) P (r) (by omega)
          have s2a := S1.out.st1 R (by omega) P (r + 1) (by omega) dk[r]!
          have s2b := S1.out.st2 R (by omega) P (r + 1) (r) (by omega) (by omega) dk[r]! dk[r + 1]!
          have n2a : (enc dk[r + 1]!).length = k := R.hk _
          have n2b : (enc dk[r]!).length = k := R.hk _
          generalize enc dk[r + 1]! = cI2 at S3 l2a s2b n2a
          generalize enc dk[r]! = cJ2 at S3 l2b s2a s2b n2b
          clear S1
          go_wp2_with fail
          go_big_region_o
          clear l2a l2b s2a s2b
          generalize (wr.drew.setCells blk (off + (r + 1) * k) cJ2).setCells blk (off + (r) * k) cI2 = w3 at S3 ⊢
          go_wp2
          go_roundg (r - i)
          case measure => omega
          case rel => exact ⟨r, _, by first | rfl | go_num | (congr 1; omega), by omega, by omega, Nat.le_refl _, by rw [size_swp]; exact hds, Q2, S3⟩
        · have hlt2z : ¬ (i : Int) < (q : Int) := by omega
          obtain rfl : i = q := by omega
          go_wp2
          refine bodyPost_ret (results_none rfl _ _ _) rfl ?_
          exact ⟨rfl, dk, merge_last HB.out hmi hjb (by have := HS.out; omega) SA.out I.out.1 I.out.2 Q.out, S1⟩
end Go.Proofs.YtjnfbinomljocaaDoor
