/- strconv.ParseFloat at the text 3.0. -/
import Derived.Test.YthkkdikfbagijaaGreatDoorRun
import Derived.Test.YthkkdikfbagijaaGreatDoorUsc
namespace Go.Proofs.YthkkdikfbagijaaGreatDoor
open Go.RowKit
set_option maxRecDepth 100000

def threeS : ByteArray := ⟨#[51, 46, 48]⟩
theorem special_c (w : World) : Calls Tryz.prog 94 #[.string ⟨#[51, 46, 48]⟩] w fun e w' => e = .returned (.tuple #[.float .f64 0, .int .i64 0, .bool false]) ∧ w = w' :=
  calls_run Tryz.f94 (stepsOf 94 #[.string ⟨#[51, 46, 48]⟩] w) (endOf 94 #[.string ⟨#[51, 46, 48]⟩] w) (fun cs => by kernel_rfl) (by kernel_rfl) (by kernel_rfl) (by kernel_rfl) (by kernel_rfl) Tryz.func94 (by kernel_rfl)
theorem readFloat_c (w : World) : Calls Tryz.prog 95 #[.string ⟨#[51, 46, 48]⟩] w fun e w' => e = .returned (.tuple #[.int .u64 30, .int .i64 (-1), .bool false, .bool false, .bool false, .int .i64 3, .bool true]) ∧ w = w' :=
  calls_run Tryz.f95 (stepsOf 95 #[.string ⟨#[51, 46, 48]⟩] w) (endOf 95 #[.string ⟨#[51, 46, 48]⟩] w) (fun cs => by kernel_rfl) (by kernel_rfl) (by kernel_rfl) (by kernel_rfl) (by kernel_rfl) Tryz.func95 (by kernel_rfl)

set_option maxHeartbeats 1000000 in
theorem exactThree_c (w : World) (hT : Tabs w) : Calls Tryz.prog 105 #[.int .u64 30, .int .i64 (-1), .bool false] w fun e w' => e = .returned (.tuple #[.float .f64 4613937818241073152, .bool true]) ∧ w = w' := by
  have c0 := hT.fi0
  obtain ⟨R, o, c, c1, c2⟩ := hT.f10
  have c3 : w.cell? ⟨R, o + 1, none⟩ = some (.float .f64 4621819117588971520) := c2 1 (by decide)
  clear c2
  have e1 : floatOfInt FloatKind.f64 30 = 4629137466983448576 := by decide +kernel
  have e2 : ∀ w, (binOp .quo 22 (.float .f64 4629137466983448576) (.float .f64 4621819117588971520)).run Tryz.prog w = .ok (.float .f64 4613937818241073152) w := fun _ => by kernel_rfl
  go_enter Tryz.func105, Tryz.ntmps105
  go_wp2
  go_ret2
  exact ⟨rfl, rfl⟩

set_option maxHeartbeats 1000000 in
theorem atofThree_c (w : World) (hT : Tabs w) : Calls Tryz.prog 73 #[.string ⟨#[51, 46, 48]⟩] w fun e w' => e = .returned (.tuple #[.float .f64 4613937818241073152, .int .i64 3, .nilIface]) ∧ w = w' := by
  have c0 := hT.opt
  go_enter Tryz.func73, Tryz.ntmps73
  go_wp2_with fail
  refine (special_c _).mono ?_; rintro e w' ⟨rfl, rfl⟩
  go_wp2_with fail
  refine (readFloat_c _).mono ?_; rintro e w' ⟨rfl, rfl⟩
  go_wp2_with fail
  refine (bool2u_c false _).mono ?_; rintro e w' ⟨rfl, rfl⟩
  rw [show b2 false = 0 from rfl]
  go_wp2_with fail
  refine (exactThree_c _ hT).mono ?_; rintro e w' ⟨rfl, rfl⟩
  go_wp2
  go_ret3
  exact ⟨rfl, rfl⟩

set_option maxHeartbeats 1000000 in
theorem parseThree_c (w : World) (hT : Tabs w) : Calls Tryz.prog 17 #[.string ⟨#[51, 46, 48]⟩, .int .i64 64] w fun e w' => e = .returned (.tuple #[.float .f64 4613937818241073152, .nilIface]) ∧ w = w' := by
  have HT := Lib.hid hT; clear hT
  have h1 : Calls Tryz.prog 48 #[.string ⟨#[51, 46, 48]⟩, .int .i64 64] w fun e w' => e = .returned (.tuple #[.float .f64 4613937818241073152, .int .i64 3, .nilIface]) ∧ w = w' := by
    go_enter Tryz.func48, Tryz.ntmps48
    go_wp2_with fail
    refine (atofThree_c _ HT.out).mono ?_; rintro e w' ⟨rfl, rfl⟩
    go_wp2
    go_ret3
    exact ⟨rfl, rfl⟩
  have h2 : Calls Tryz.prog 27 #[.string ⟨#[51, 46, 48]⟩, .int .i64 64] w fun e w' => e = .returned (.tuple #[.float .f64 4613937818241073152, .nilIface]) ∧ w = w' := by
    have H1 := Lib.hid h1; clear h1
    go_enter Tryz.func27, Tryz.ntmps27
    go_wp2_with fail
    refine H1.out.mono ?_; rintro e w' ⟨rfl, rfl⟩
    go_wp2
    go_ret2
    exact ⟨rfl, rfl⟩
  have H2 := Lib.hid h2; clear h1 h2
  go_enter Tryz.func17, Tryz.ntmps17
  go_wp2_with fail
  refine H2.out.mono ?_; rintro e w' ⟨rfl, rfl⟩
  go_wp2
  go_ret2
  exact ⟨rfl, rfl⟩
end Go.Proofs.YthkkdikfbagijaaGreatDoor
