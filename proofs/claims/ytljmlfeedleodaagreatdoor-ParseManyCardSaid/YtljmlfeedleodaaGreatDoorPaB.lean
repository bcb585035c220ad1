/- parse.step and parse.opOf by their contracts. -/
import Derived.Test.YtljmlfeedleodaaGreatDoorGaE
import Derived.Test.YtljmlfeedleodaaGreatDoorPaA
namespace Go.Proofs.YtljmlfeedleodaaGreatDoor
open Go.RowKit Go.Shelf
open Go.Proofs
set_option maxRecDepth 100000

/-- What stands ahead of the first c, and behind. -/
def cb (s : ByteArray) (c : UInt8) : ByteArray × ByteArray × Bool := (⟨(Lib.cut s.data.toList [c]).1.toArray⟩, ⟨(Lib.cut s.data.toList [c]).2.1.toArray⟩, (Lib.cut s.data.toList [c]).2.2)
def trimS (s : ByteArray) : ByteArray := ⟨(Lib.trimB s.data.toList 32).toArray⟩
def trimLS (s : ByteArray) : ByteArray := ⟨(Lib.trimLeftB s.data.toList 32).toArray⟩
def stepP (s : ByteArray) : ByteArray × ByteArray := ((cb s 32).1, trimLS (cb s 32).2.1)
theorem cutStr_c (s : ByteArray) (c : UInt8) (hs : s.size ≤ 100000) (w : World) (hm : MaxI w) :
    Calls Tryz.prog 11 #[.string s, .string ⟨#[c]⟩] w fun e w' => e = .returned (.tuple #[.string (cb s c).1, .string (cb s c).2.1, .bool (cb s c).2.2]) ∧ Below w.heap.size w w' := by
  obtain ⟨m, hm⟩ := hm
  refine (Tryz.strings_Cut s ⟨#[c]⟩ m w (by omega) hm).mono ?_
  rintro e w' ⟨rfl, n, rfl⟩
  exact ⟨rfl, below_drewN _ _⟩
theorem trim_c (s : ByteArray) (hs : s.size ≤ 100000) (w : World) : Calls Tryz.prog 13 #[.string s, .string ⟨#[32]⟩] w fun e w' => e = .returned (.string (trimS s)) ∧ Below w.heap.size w w' := by
  refine (Tryz.strings_Trim_one s 32 (by decide) w (by omega)).mono ?_
  rintro e w' ⟨rfl, h⟩
  rcases h with rfl | rfl
  · exact ⟨rfl, Below.refl _ _⟩
  · exact ⟨rfl, (Below.refl _ _).drew⟩
theorem trimL_c (s : ByteArray) (w : World) : Calls Tryz.prog 45 #[.string s, .string ⟨#[32]⟩] w fun e w' => e = .returned (.string (trimLS s)) ∧ Below w.heap.size w w' := by
  refine (Tryz.strings_TrimLeft_one s 32 (by decide) w).mono ?_
  rintro e w' ⟨rfl, rfl⟩
  exact ⟨rfl, Below.refl _ _⟩
set_option maxHeartbeats 1000000 in
theorem step_c (s : ByteArray) (hs : s.size ≤ 100000) (w : World) (hm : MaxI w) :
    Calls Tryz.prog 30 #[.string s] w fun e w' => e = .returned (.tuple #[.string (stepP s).1, .string (stepP s).2]) ∧ Below w.heap.size w w' := by
  have HC := Lib.hid (cutStr_c s 32 hs w hm)
  have HT : Aside (∀ W, Calls Tryz.prog 45 #[.string (cb s 32).2.1, .string ⟨#[32]⟩] W fun e w' => e = .returned (.string (stepP s).2) ∧ Below W.heap.size W w') := fun W => trimL_c (cb s 32).2.1 W
  have HE : Aside ((stepP s).1 = (cb s 32).1) := rfl
  rw [HE.out]
  generalize (stepP s).2 = q at *
  generalize (cb s 32).1 = p1 at *
  generalize (cb s 32).2.1 = p2 at *
  generalize (cb s 32).2.2 = p3 at *
  clear hm hs HE
  go_enter Tryz.func30, Tryz.ntmps30
  go_wp2_with fail
  refine HC.out.mono ?_
  rintro e w1 ⟨rfl, hb1⟩
  have HB1 := Lib.hid hb1
  clear hb1 HC
  go_wp2_with fail
  refine (HT.out _).mono ?_
  rintro e w2 ⟨rfl, hb2⟩
  have HB2 := Lib.hid (HB1.out.trans (hb2.mono HB1.out.size))
  clear hb2
  go_wp2_with fail
  go_ret2
  exact ⟨rfl, HB2.out⟩
/-- The condition by which an op's word is asked for. -/
abbrev cz (j : Nat) : Cn := ⟨⟨⟨#[120]⟩, 0, 0, 0, ⟨#[]⟩, false⟩, (j : Int)⟩
/-- The text of a filter of that condition alone. -/
def opT (j : Nat) : ByteArray := textF ⟨#[]⟩ (fun _ => cprintS ⟨#[120]⟩ j ⟨#[48]⟩) [cz j]
theorem opT_is : ∀ i, i < 7 → ∀ j, j < 7 → ((opT j).data.toList == ((⟨#[58, 32, 120, 32]⟩ ++ wordS i) ++ ⟨#[32, 48]⟩ : ByteArray).data.toList) = decide (j = i) := by decide +kernel
theorem fmtZero_c (w : World) : Calls Tryz.prog 64 #[.int .i64 0, .int .i64 10] w fun e w' => e = .returned (.string ⟨#[48]⟩) ∧ w = w' :=
  calls_run Tryz.f64 (stepsOf 64 #[.int .i64 0, .int .i64 10] w) (endOf 64 #[.int .i64 0, .int .i64 10] w) (fun cs => by kernel_rfl) (by kernel_rfl) (by kernel_rfl) (by kernel_rfl) (by kernel_rfl) (by kernel_rfl) (by kernel_rfl)
set_option maxHeartbeats 1000000 in
theorem printZero_c (w : World) : Calls Tryz.prog 49 #[val 0 0 0 ⟨#[]⟩ false] w fun e w' => e = .returned (.string ⟨#[48]⟩) ∧ Below w.heap.size w w' := by
  go_enter Tryz.func49, Tryz.ntmps49
  go_wp2_with (go_at_call 64; refine (fmtZero_c _).mono ?_; rintro e w' ⟨rfl, rfl⟩)
  go_ret
  exact ⟨rfl, ((Below.refl _ _).alloc (Nat.le_refl _) _)⟩
theorem opPrint_c (j : Nat) (hj : j < 7) (B : Nat) (w : World) (hw : Wds w) (hcs : CondsB w.heap.size w (some ⟨B, 0, none⟩) [cz j]) :
    Calls Tryz.prog 47 #[fil ⟨#[]⟩ (some ⟨B, 0, none⟩) 1 1] w fun e w' => e = .returned (.string (opT j)) ∧ Below w.heap.size w w' :=
  fprint_c ⟨#[]⟩ (some ⟨B, 0, none⟩) 1 [cz j] (fun _ => cprintS ⟨#[120]⟩ j ⟨#[48]⟩) w hcs (by simp) (by decide) (fun _ _ => by
    have : ∀ j, j < 7 → (cprintS ⟨#[120]⟩ j ⟨#[48]⟩).size ≤ 100000 := by decide +kernel
    exact this j hj) (fun c hc W2 hW2 => by
    rw [List.mem_singleton.1 hc]
    exact cprint_c ⟨#[120]⟩ j 0 0 0 ⟨#[]⟩ false ⟨#[48]⟩ (by decide) (by decide) (by omega) W2 (hw.on hW2) (fun W' _ => printZero_c W'))
end Go.Proofs.YtljmlfeedleodaaGreatDoor
