/- value.Canon at the four kinds; '==' of a value with itself; a cell that lies still. -/
import Derived.Test.YthkkdikfbagijaaGreatDoorCmp
import Derived.Laws.StructEq
import Derived.Laws.IdiomStrings
namespace Go.Proofs.YthkkdikfbagijaaGreatDoor
open Go.RowKit
set_option maxRecDepth 100000

theorem fkey_canon (x : Nat) : fkey (fcanon x) = fkey x := by
  unfold fcanon
  cases h : fnan x
  · by_cases hz : frung x = 0
    · have e : fpos x = 0 := by unfold fpos; rw [hz]; simp
      rw [if_neg Bool.false_ne_true, if_pos hz, fkey_num h, e]
      decide +kernel
    · rw [if_neg Bool.false_ne_true, if_neg hz]
  · rw [if_pos rfl, fkey_nan h]
    decide +kernel

theorem and3 (n : Int) : bits .and .i64 n 3 = 0 ∨ bits .and .i64 n 3 = 1 ∨ bits .and .i64 n 3 = 2 ∨ bits .and .i64 n 3 = 3 := by
  have h : ∃ m : Nat, m < 4 ∧ bits .and .i64 n 3 = IntKind.i64.wrap m := by
    refine ⟨((BitVec.ofInt 64 n) &&& (BitVec.ofInt 64 3)).toNat, ?_, rfl⟩
    rw [BitVec.toNat_and, show (BitVec.ofInt 64 3).toNat = 2 ^ 2 - 1 from by decide, Nat.and_two_pow_sub_one_eq_mod]
    omega
  obtain ⟨m, hm, h⟩ := h
  rw [h]
  have : m = 0 ∨ m = 1 ∨ m = 2 ∨ m = 3 := by omega
  rcases this with rfl | rfl | rfl | rfl <;> decide

@[go_sem] theorem run_equalIn_f64 (P : Program) (w : World) (d : Nat) (t : TypeId) (a b : Nat) (k' : FloatKind) (h : P.underlying t = some (.float k')) : (Op.equalIn (d + 1) t (.float .f64 a) (.float .f64 b)).run P w = .ok (FloatKind.f64.format.order a b == some .eq) w := by
  simp [Op.equalIn, run_underlying h, Op.floatEq]
theorem eq_val (n : Int) (w : World) : (Op.equalIn 10000 24 (val 0 n 0 ⟨#[]⟩ false) (val 0 n 0 ⟨#[]⟩ false)).run Tryz.prog w = .ok true w := by
  have u1 := Tryz.underlying3
  have u2 := Tryz.underlying2
  have u3 := Tryz.underlying22
  have u4 := Tryz.underlying9
  have u5 := Tryz.underlying4
  have a1 := Tryz.isAgg3
  have a2 := Tryz.isAgg2
  have a3 := Tryz.isAgg22
  have a4 := Tryz.isAgg9
  have a5 := Tryz.isAgg4
  have hS : Tryz.prog.underlying 24 = some (.struct (Tryz.prog.fieldsOf 24)) := by kernel_rfl
  have hf : (FloatKind.f64.format.order 0 0 == some .eq) = true := by decide +kernel
  rw [show (10000 : Nat) = 9999 + 1 from rfl, run_equalIn_agg w 9999 24 _ _ hS (by kernel_rfl)]
  simp only [Program.fieldsOf, Tryz.underlying24]
  go_simp

/-- A block that lies still. -/
def Held (w : World) (p : Nat) (vs : Array Value) : Prop := ∀ i v, vs[i]? = some v → w.cell? ⟨p, i, none⟩ = some v
theorem held_new {w w' : World} {vs : Array Value} {t : TypeId} (hb : Below (w.heap.size + 1) (w.alloc (.cells vs t)) w') : Held w' w.heap.size vs := fun i v h => by
  rw [hb.cell (p := ⟨w.heap.size, i, none⟩) (by simp), World.cell?_alloc_new]; exact h
theorem Held.on {w w' : World} {p : Nat} {vs : Array Value} (h : Held w p vs) (hp : p < w.heap.size) (hb : Below w.heap.size w w') : Held w' p vs := fun i v q => by
  rw [hb.cell (p := ⟨p, i, none⟩) hp]; exact h i v q
theorem step_of {w w' : World} {vs : Array Value} {t : TypeId} (hb : Below (w.heap.size + 1) (w.alloc (.cells vs t)) w') : Below w.heap.size w w' ∧ w.heap.size < w'.heap.size :=
  ⟨((Below.refl _ _).alloc (Nat.le_refl _) _).trans (hb.mono (by omega)), by have := hb.size; simp at this; omega⟩
end Go.Proofs.YthkkdikfbagijaaGreatDoor
