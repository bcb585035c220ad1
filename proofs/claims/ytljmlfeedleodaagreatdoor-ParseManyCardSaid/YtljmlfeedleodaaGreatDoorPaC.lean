/- parse.opOf by its contract. -/
import Derived.Test.YtljmlfeedleodaaGreatDoorPaB
namespace Go.Proofs.YtljmlfeedleodaaGreatDoor
open Go.RowKit Go.Shelf
open Go.Proofs
set_option maxRecDepth 100000

theorem cz_row (j : Nat) (w : World) : CondsB (w.alloc (.cells (cnds ⟨#[120]⟩ (j : Int) 0 0 0 ⟨#[]⟩ false) 37)).heap.size (w.alloc (.cells (cnds ⟨#[120]⟩ (j : Int) 0 0 0 ⟨#[]⟩ false) 37)) (some ⟨w.heap.size, 0, none⟩) [cz j] :=
  Or.inr ⟨w.heap.size, 0, rfl, by simp, fun i hi c v hv => by
    obtain rfl : i = 0 := by simpa using hi
    simp only [Nat.zero_mul, Nat.zero_add]
    rw [World.cell?_alloc_new]
    simpa [encC] using hv⟩
set_option maxHeartbeats 4000000 in
theorem opOf_c (i : Nat) (hi : i < 7) (w : World) (hw : Wds w) :
    Calls Tryz.prog 32 #[.string (wordS i)] w fun e w' => e = .returned (.tuple #[.int .i64 i, .bool true]) ∧ Below w.heap.size w w' := by
  have HP : Aside (∀ j, j < 7 → ∀ B W, Below w.heap.size w W → CondsB W.heap.size W (some ⟨B, 0, none⟩) [cz j] → Calls Tryz.prog 47 #[.agg #[.string ⟨#[]⟩, .slice (some ⟨B, 0, none⟩) 1 1]] W fun e w' => e = .returned (.string (opT j)) ∧ Below W.heap.size W w') := fun j hj B W hW hc => opPrint_c j hj B W (hw.on hW) hc
  have HE : Aside (∀ j, j < 7 → ((opT j).toList == ((⟨#[58, 32, 120, 32]⟩ ++ wordS i) ++ ⟨#[32, 48]⟩ : ByteArray).toList) = decide (j = i)) := fun j hj => by
    rw [bytes_toList, bytes_toList]; exact opT_is i hi j hj
  have hsz : (wordS i).size ≤ 3 := wordS_size i (by omega)
  generalize opT = T at *
  generalize wordS i = W0 at *
  clear hw
  go_enter Tryz.func32, Tryz.ntmps32
  go_wp2_with fail
  go_loopg [6] 7 (fun kx s6 wr => ∃ j : Nat, s6 = .int .i64 j ∧ j ≤ i ∧ 7 - j ≤ kx ∧ Aside (Below w.heap.size w wr))
  case atStart => exact ⟨0, rfl, Nat.zero_le _, by omega, Below.refl _ _⟩
  case round =>
    obtain ⟨j, rfl, hj, hjx, HA⟩ := hrel
    have zr : w.heap.size ≤ wr.heap.size := HA.out.size
    have hj7 : (j : Int) < 7 := by omega
    have hj0 : (0 : Int) ≤ (j : Int) := by omega
    have HPj := Lib.hid (HP.out j (by omega))
    have hej := HE.out j (by omega)
    generalize T j = t at *
    clear HP HE
    have HCW : Aside (∀ Y, CondsB ((wr.alloc (.cells (cnds ⟨#[120]⟩ (j : Int) 0 0 0 ⟨#[]⟩ false) 37)).alloc Y).heap.size ((wr.alloc (.cells (cnds ⟨#[120]⟩ (j : Int) 0 0 0 ⟨#[]⟩ false) 37)).alloc Y) (some ⟨wr.heap.size, 0, none⟩) [cz j]) := fun Y => (cz_row j wr).on ((Below.refl _ _).alloc (Nat.le_refl _) Y)
    have HBW : Aside (∀ Y, Below w.heap.size w ((wr.alloc (.cells (cnds ⟨#[120]⟩ (j : Int) 0 0 0 ⟨#[]⟩ false) 37)).alloc Y) ∧ w.heap.size ≤ ((wr.alloc (.cells (cnds ⟨#[120]⟩ (j : Int) 0 0 0 ⟨#[]⟩ false) 37)).alloc Y).heap.size) := fun Y => ⟨(HA.out.alloc zr _).alloc (by simp; omega) Y, by simp; omega⟩
    clear zr
    by_cases hji : j = i
    · subst hji
      rw [decide_eq_true rfl] at hej
      go_wp2_with fail
      refine (HPj.out _ _ (HBW.out _).1 (HCW.out _)).mono ?_
      rintro e w5 ⟨rfl, hb5⟩
      have HB5 := Lib.hid ((HBW.out _).1.trans (hb5.mono (HBW.out _).2))
      clear hb5 HPj HCW HBW HA
      go_wp2_with fail
      go_ret2
      exact ⟨rfl, HB5.out⟩
    · rw [decide_eq_false hji] at hej
      go_wp2_with fail
      refine (HPj.out _ _ (HBW.out _).1 (HCW.out _)).mono ?_
      rintro e w5 ⟨rfl, hb5⟩
      have HB5 := Lib.hid ((HBW.out _).1.trans (hb5.mono (HBW.out _).2))
      clear hb5 HPj HCW HBW HA
      go_wp2_with fail
      go_roundg (7 - (j + 1))
      case measure => omega
      case rel => exact ⟨j + 1, by go_num, by omega, Nat.le_refl _, HB5.out⟩
end Go.Proofs.YtljmlfeedleodaaGreatDoor
