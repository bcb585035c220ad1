/- append(b, make([]byte, n)...): as an append of a text of n noughts. -/
import Derived.Test.YtnpbnjddlchmcaaWr2
namespace Go.Proofs.Ytnpbnjddlchmcaa
open Go.RowKit Go.Shelf Go.Sort
open Go.Proofs
set_option maxRecDepth 100000

def zerosB (n : Nat) : ByteArray := ⟨(List.replicate n 0).toArray⟩
theorem zerosB_size (n : Nat) : (zerosB n).size = n := by simp [zerosB, ByteArray.size]

theorem zero_cells (n : Nat) : (Array.map (fun b : UInt8 => Value.int .u8 (b.toNat : Int)) (zerosB n).data).extract 0 n = Builtin.zeroCells (Value.int .u8 0).cells n := by
  apply Array.ext
  · simp [Builtin.zeroCells, zerosB, Value.cells]
  · intro i h1 h2
    simp [Builtin.zeroCells, zerosB, Value.cells, Nat.mod_one]
theorem zero_list (n : Nat) : List.take n (List.map (fun b : UInt8 => Value.int .u8 (b.toNat : Int)) (zerosB n).data.toList) = (Builtin.zeroCells (Value.int .u8 0).cells n).toList := by
  rw [← zero_cells]
  simp
theorem zero_none : Builtin.zeroCells (Value.int .u8 0).cells 0 = #[] := by simp [Builtin.zeroCells]

set_option maxHeartbeats 2000000 in
theorem append_zeros (ty : TypeId) (base : Option Addr) (l c n : Nat) (w : World) (hlc : l ≤ c) (hl : l ≤ 1000) (hn : n ≤ 255) :
    (Builtin.append_ #[29, 5] ty #[.slice base l c, .int .u8 n]).run Try.prog w = (Builtin.append_ #[29, 9] ty #[.slice base l c, .string (zerosB n)]).run Try.prog w := by
  obtain ⟨i0, z0, hi, hz0, hz1, hz2, hz3⟩ := u8_info
  have hw : IntKind.i64.wrap (n : Int) = n := by rw [IntKind.wrap_i64]; omega
  have h0 : ¬ ((n : Int) < 0) := by omega
  have h1 : ¬ (281474976710656 < (n : Int)) := by omega
  have h2 : ¬ ((9223372036854775807 : Int) < (l : Int) + (n : Int)) := by omega
  have h5 : max (n : Int) 0 = n := by omega
  have ha : ∀ W, Sem.run Try.prog (asIntOf (.int .u8 (n : Int))) W = .ok (.u8, (n : Int)) W := fun W => rfl
  unfold Builtin.append_
  by_cases hle : l + n ≤ c
  · simp [run_underlying Try.underlying29, run_underlying Try.underlying5, run_underlying Try.underlying9, sizeOf, typeInfo, hi, hz1, hz2, hw, h0, h1, ha, asInt, Builtin.lenOf, zerosB_size, Builtin.firstCells, zero_list, hle]
    intro hz
    rw [hz, zero_none]
  · have h4 : ¬ (281474976710656 < Builtin.nextslicecap (l + n) c) := by
      have := nextslicecap_le (need := l + n) (old := c) (by omega)
      omega
    have hn0 : ¬ n = 0 := by omega
    simp [run_underlying Try.underlying29, run_underlying Try.underlying5, run_underlying Try.underlying9, sizeOf, typeInfo, hi, hz1, hz2, hw, h0, h1, h2, h4, h5, ha, asInt, Builtin.lenOf, zerosB_size, Builtin.firstCells, zero_cells, hle, hn0]
end Go.Proofs.Ytnpbnjddlchmcaa
