/- slices.rotateCmpFunc at the attributes of an event: two runs of the row are exchanged. -/
import Derived.Test.YtjeippdfgojdnaaGreatDoorSwapRange
namespace Go.Proofs.YtjeippdfgojdnaaGreatDoor
open Go.Shelf Go.RowKit Go.Lib Go.Sort
open Go.Proofs
variable {P : Program} {α : Type} [Inhabited α]

set_option maxHeartbeats 4000000 in
set_option maxRecDepth 1000000 in
theorem rotate_c (L : SortP P) (k : Nat) (aE : ∀ w, (isAgg 38).run P w = .ok true w) (zE : ∀ w, (Go.sizeOf 38).run P w = .ok k w) (enc : α → List Value) (g : Nat) (cb : Array Value) (blk off cap a m b : Nat) (d0 d : Array α) (w0 w : World)
    (R : RowK enc k w0 blk off d0) (hs : d0.size = d.size) (S : SWK enc k w0 blk off d w) (ham : a < m) (hmb : m < b) (hb : b ≤ d.size) (hsz : d.size < 4611686018427387904) :
    Calls P 105 #[.slice (some ⟨blk, off, none⟩) d.size cap, .int .i64 a, .int .i64 m, .int .i64 b, .func (.func g) #[] cb] w fun e w' => e = .returned (.tuple #[]) ∧ ∃ d', Aside (Rot a m b d d') ∧ Aside (SWK enc k w0 blk off d' w') := by
  have HSW : ∀ (x y n : Nat) (dk : Array α) (wr : World), dk.size = d.size → SWK enc k w0 blk off dk wr → x + n ≤ y → y + n ≤ d.size →
      Calls P 120 #[.slice (some ⟨blk, off, none⟩) d.size cap, .int .i64 x, .int .i64 y, .int .i64 n, .func (.func g) #[] cb] wr fun e w' => e = .returned (.tuple #[]) ∧ ∃ d', Aside (Swr x y n dk d') ∧ Aside (SWK enc k w0 blk off d' w') := fun x y n dk wr hds S1 h1 h2 => by
    have h := swapRange_c L k aE zE enc g cb blk off cap x y n d0 dk w0 wr R (hs.trans hds.symm) S1 h1 (by omega) (by omega)
    rw [hds] at h; exact h
  have HSW : Aside _ := HSW
  have mixed := L.mixed; have t0 := L.t0; have a0 := L.a0; have z0 := L.z0; have v0 := L.v0; have t3 := L.t3; have a3 := L.a3; have z3 := L.z3; have v3 := L.v3; have t4 := L.t4; have a4 := L.a4; have z4 := L.z4; have v4 := L.v4; have t22 := L.t22; have a22 := L.a22; have z22 := L.z22; have v22 := L.v22; have t25 := L.t25; have a25 := L.a25; have z25 := L.z25; have v25 := L.v25
  have FG := L.rot
  have e85 : ∀ args w, (callFunc 120 args).run P w = .ok (.enter 120 args) w := enters_of L.swapR (by kernel_rfl) rfl
  have S0 : Aside (SWK enc k w0 blk off d w) := S
  have x1 : (m : Int) - (a : Int) = ((m - a : Nat) : Int) := by omega
  have x2 : (b : Int) - (m : Int) = ((b - m : Nat) : Int) := by omega
  clear S L hs
  go_enter FG, Tryz.ntmps105
  go_wp2
  clear x1 x2
  go_loopg [10, 11] (b - a) (fun kx s10 s11 wr => ∃ (i j : Nat) (dk : Array α), s10 = .int .i64 i ∧ s11 = .int .i64 j ∧ 1 ≤ i ∧ 1 ≤ j ∧ a + i ≤ m ∧ m + j ≤ b ∧ i + j ≤ kx ∧ dk.size = d.size ∧ Aside (Rest a m b i j d dk) ∧ Aside (SWK enc k w0 blk off dk wr))
  case atStart => exact ⟨m - a, b - m, d, by first | rfl | (congr 1; omega), by first | rfl | (congr 1; omega), by omega, by omega, by omega, by omega, by omega, rfl, Rest.start d (by omega) (by omega), S0⟩
  case round =>
    clear S0
    obtain ⟨i, j, dk, rfl, rfl, hi, hj, hia, hjb, hkx, hds, Q, S1⟩ := hrel
    have hm : (m : Int) < 4611686018427387904 := by omega
    have rmi : IntKind.i64.wrap ((m : Int) - (i : Int)) = (m : Int) - (i : Int) := by rw [IntKind.wrap_i64]; omega
    have cmi : (m : Int) - (i : Int) = ((m - i : Nat) : Int) := by omega
    have CMI : Aside ((m : Int) - (i : Int) = ((m - i : Nat) : Int)) := cmi
    clear cmi
    have rij : IntKind.i64.wrap ((i : Int) - (j : Int)) = (i : Int) - (j : Int) := by rw [IntKind.wrap_i64]; omega
    have rji : IntKind.i64.wrap ((j : Int) - (i : Int)) = (j : Int) - (i : Int) := by rw [IntKind.wrap_i64]; omega
    have rmj : IntKind.i64.wrap ((m : Int) + (j : Int)) = (m : Int) + (j : Int) := by rw [IntKind.wrap_i64]; omega
    have rmji : IntKind.i64.wrap ((m : Int) + (j : Int) - (i : Int)) = (m : Int) + (j : Int) - (i : Int) := by rw [IntKind.wrap_i64]; omega
    by_cases hne : i = j
    · subst hne
      have b1 : ((i : Int) != (i : Int)) = false := by simp
      go_wp2_with fail
      rw [CMI.out]
      refine (HSW.out (m - i) m i dk wr hds S1.out (by omega) (by omega)).mono ?_
      rintro e w1 ⟨rfl, d2, Q2, S2⟩
      have S2' : Aside (SWK enc k w0 blk off d2 w1) := S2
      clear S1
      go_wp2_with fail
      go_end0
      exact ⟨rfl, d2, Q.out.last Q2.out (by omega), S2'⟩
    · have b1 : ((i : Int) != (j : Int)) = true := by simp; omega
      by_cases hlt : j < i
      · have hltz : (j : Int) < (i : Int) := by omega
        go_wp2_with fail
        rw [CMI.out]
        refine (HSW.out (m - i) m j dk wr hds S1.out (by omega) (by omega)).mono ?_
        rintro e w1 ⟨rfl, d2, Q2, S2⟩
        clear S1
        go_wp2
        go_roundg (i - j + j)
        case measure => omega
        case rel => exact ⟨i - j, j, d2, by congr 1; omega, rfl, by omega, by omega, by omega, by omega, by omega, Q2.out.size.trans hds, Q.out.more (by omega) (by omega) (by omega) hlt Q2.out, S2⟩
      · have hltz : ¬ (j : Int) < (i : Int) := by omega
        go_wp2_with fail
        rw [CMI.out, show (m : Int) + (j : Int) - (i : Int) = ((m + j - i : Nat) : Int) by omega]
        refine (HSW.out (m - i) (m + j - i) i dk wr hds S1.out (by omega) (by omega)).mono ?_
        rintro e w1 ⟨rfl, d2, Q2, S2⟩
        clear S1
        go_wp2
        go_roundg (i + (j - i))
        case measure => omega
        case rel => exact ⟨i, j - i, d2, rfl, by congr 1; omega, by omega, by omega, by omega, by omega, by omega, Q2.out.size.trans hds, Q.out.less (by omega) (by omega) (by omega) (by omega) Q2.out, S2⟩
end Go.Proofs.YtjeippdfgojdnaaGreatDoor
