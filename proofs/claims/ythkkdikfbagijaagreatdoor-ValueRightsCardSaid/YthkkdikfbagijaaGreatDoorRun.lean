/- A call that touches no memory, on arguments that are written out, by the kernel's own run of the model, in whatever world it is made. -/
import Derived.Test.YthkkdikfbagijaaGreatDoorTabs
import Derived.KernelRfl
namespace Go.Proofs.YthkkdikfbagijaaGreatDoor
open Go.RowKit
set_option maxRecDepth 100000

/-- The frame in which a lone machine stands. -/
def frameOf (m : Stepped) : Frame := match m with
  | .next m => match m.gs[0]? with | some g => g.frame | none => default
  | _ => default
/-- How many steps till the first frame is about to leave, none above it. -/
def goTo (P : Program) : Nat → Machine → Nat
  | 0, _ => 0
  | n + 1, m => match m.gs[0]? with
    | some g => match g.frame.mode, g.callers with
      | .returning, [] => 0
      | _, _ => match step P m with
        | .next m' => goTo P n m' + 1
        | _ => 0
    | none => 0
theorem calls_run {P : Program} {f : FuncId} {args : Array Value} {v : Value} {w : World} (fn : Func) (N : Nat) (fr : Frame)
    (h : ∀ cs, runN P N (lone (Frame.enter P f args .normal) cs w) = .next (lone fr cs w))
    (hm : fr.mode = .returning) (hd : fr.defers = []) (hk : fr.kind = .normal) (hf : fr.fn = f) (hfn : P.funcs[f]? = some fn) (hr : (results fn fr.tmps).run P w = .ok v w) :
    Calls P f args w fun e w' => e = .returned v ∧ w = w' := by
  intro cs
  refine ⟨.returned v, w, fr, ⟨rfl, rfl⟩, ⟨N, h cs⟩, hf, hm, hd, hk, fn, ?_, hr⟩
  rw [hf]; exact hfn
noncomputable def stepsOf (f : FuncId) (args : Array Value) (w : World) : Nat := goTo Tryz.prog 20000 (lone (Frame.enter Tryz.prog f args .normal) [] w)
noncomputable def endOf (f : FuncId) (args : Array Value) (w : World) : Frame := frameOf (runN Tryz.prog (stepsOf f args w) (lone (Frame.enter Tryz.prog f args .normal) [] w))
end Go.Proofs.YthkkdikfbagijaaGreatDoor
