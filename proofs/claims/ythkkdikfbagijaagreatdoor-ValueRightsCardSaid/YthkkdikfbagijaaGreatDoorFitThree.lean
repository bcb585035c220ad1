/- value.Read at the text 3.0, value.Of and value.Print at the text a; what the statements of layer 2 begin with. -/
import Derived.Test.YthkkdikfbagijaaGreatDoorParseThree
import Derived.Test.YthkkdikfbagijaaGreatDoorFtoaThree
import Derived.Test.YthkkdikfbagijaaGreatDoorLess
namespace Go.Proofs.YthkkdikfbagijaaGreatDoor
open Go.RowKit
set_option maxRecDepth 100000

theorem indexThree_c (w : World) : Calls Tryz.prog 37 #[.string ⟨#[46, 48]⟩, .int .u8 51] w fun e w' => e = .returned (.int .i64 (-1)) ∧ w = w' :=
  calls_run Tryz.f37 (stepsOf 37 #[.string ⟨#[46, 48]⟩, .int .u8 51] w) (endOf 37 #[.string ⟨#[46, 48]⟩, .int .u8 51] w) (fun cs => by kernel_rfl) (by kernel_rfl) (by kernel_rfl) (by kernel_rfl) (by kernel_rfl) Tryz.func37 (by kernel_rfl)

set_option maxHeartbeats 1000000 in
theorem unquoteThree_c (w : World) (tp : TypeId) (p : Value) (hv : w.var? Tryz.prog "strconv.ErrSyntax" = some #[.iface tp p]) :
    Calls Tryz.prog 15 #[.string ⟨#[51, 46, 48]⟩] w fun e w' => e = .returned (.tuple #[.string ⟨#[]⟩, .iface tp p]) ∧ Below w.heap.size w w' := by
  have c0 : w.cell? ⟨0, 0, none⟩ = some (.iface tp p) := by
    have h := World.var?_cell (g := 0) (by kernel_rfl) hv 0
    simpa using h
  have e1 : (⟨#[51, 46, 48]⟩ : ByteArray).extract 1 3 = ⟨#[46, 48]⟩ := by decide +kernel
  have e2 : (((⟨#[51, 46, 48]⟩ : ByteArray)[0]).toNat : Int) = 51 := by decide +kernel
  clear hv
  have h1 : Calls Tryz.prog 24 #[.string ⟨#[51, 46, 48]⟩, .bool true] w fun e w' => e = .returned (.tuple #[.string ⟨#[]⟩, .string ⟨#[51, 46, 48]⟩, .iface tp p]) ∧ ∃ n, w' = w.drewN n := by
    go_enter Tryz.func24, Tryz.ntmps24
    go_wp2_with fail
    refine (indexThree_c _).mono ?_; rintro e w' ⟨rfl, rfl⟩
    go_wp2_with fail
    go_quiet (fail)
    go_wp2
    go_ret3
    exact ⟨rfl, _, rfl⟩
  have H1 := Lib.hid h1; clear h1 e1 e2
  go_enter Tryz.func15, Tryz.ntmps15
  go_wp2_with fail
  refine H1.out.mono ?_; rintro e w' ⟨rfl, n, rfl⟩
  go_wp2_with fail
  go_quiet (fail)
  go_wp2
  go_ret2
  exact ⟨rfl, (drewN_below _ _ _).trans (drewN_below _ _ _)⟩
end Go.Proofs.YthkkdikfbagijaaGreatDoor
