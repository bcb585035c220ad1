/- internal/strconv.numDigits at every number, and setDigits: the digits of a number in a row, and how many there are without the noughts at the end. -/
import Derived.Test.YthkkdikfbagijaaGreatDoorShort
import Derived.Lib.ItoaMem
import Derived.Lib.ItoaLen
import Derived.LoopTactic
namespace Go.Proofs.YthkkdikfbagijaaGreatDoor
open Go.RowKit Go.Lib Go.Sort
set_option maxRecDepth 100000

abbrev u8e : UInt8 → Value := fun b => Value.int .u8 (b.toNat : Int)
def nDig (u : Nat) : Nat := if u = 0 then 0 else nDigits u
theorem lt_nDig (u : Nat) : u < 10 ^ nDig u := by
  unfold nDig; split
  · omega
  · exact lt_pow_nDigits u
theorem nDig_le (u : Nat) (h : u < 18446744073709551616) : nDig u ≤ 20 := by
  unfold nDig; split
  · omega
  · exact nDigits_le20 u h

set_option maxHeartbeats 400000 in
theorem numDigits_c (u : Nat) (hu : u < 18446744073709551616) (w : World) (hT : Tabs w) :
    Calls Tryz.prog 29 #[.int .u64 u] w fun e w' => e = .returned (.int .i64 (nDig u)) ∧ w = w' := by
  by_cases h : u = 0
  · subst h
    show Calls Tryz.prog 29 #[.int .u64 0] w fun e w' => e = .returned (.int .i64 0) ∧ w = w'
    have c0 : w.cell? ⟨2, 0, none⟩ = some (.int .u64 1) := hT.p10.cell (g := 2) (by kernel_rfl) 0 (by decide)
    go_enter Tryz.func29, Tryz.ntmps29
    go_wp2_with fail
    refine (Tryz.bits_Len64 0 _ (by decide) (by decide)).mono ?_; rintro e w' ⟨rfl, rfl⟩
    rw [show Lib.bitLen (0 : Int).toNat = 0 from by decide +kernel]
    go_wp2_with fail
    refine (lgTen_c _ (by decide) (by decide) _).mono ?_; rintro e w' ⟨rfl, rfl⟩
    rw [show lgTen 0 = 0 from by decide]
    go_wp2_with fail
    refine (Tryz.internal_strconv_bool2_int _ _).mono ?_; rintro e w' ⟨rfl, rfl⟩
    go_wp2_with fail
    go_ret
    exact ⟨rfl, rfl⟩
  · have e : nDig u = nDigits u := by unfold nDig; rw [if_neg h]
    rw [e]
    exact (Tryz.internal_strconv_numDigits u (by omega) hu w hT.p10).mono fun _ _ ⟨a, b⟩ => ⟨a, b.symm⟩

/-- How many of the first k of nd digits are left where the noughts at the end go. -/
def strip (u nd : Nat) : Nat → Nat
  | 0 => 0
  | k + 1 => if dg u (nd - 1 - k) = 48 then strip u nd k else k + 1
theorem strip_le (u nd : Nat) : ∀ k, strip u nd k ≤ k
  | 0 => Nat.le_refl _
  | k + 1 => by unfold strip; split; · exact Nat.le_succ_of_le (strip_le u nd k)
                · exact Nat.le_refl _
def nzd (u : Nat) : Nat := strip u (nDig u) (nDig u)
theorem below_putRow (w : World) (R o : Nat) (d : Array UInt8) : Below R w (putRow u8e w R o d) := by
  refine ⟨rfl, rfl, rfl, by simp [putRow, mapBlock], fun k hk => ?_⟩
  simp only [putRow, mapBlock, Array.getElem?_modify]
  rw [if_neg (by omega)]

/-- A row of cells stays one, of its type and length. -/
def StaysRow (R : Nat) (w w' : World) : Prop := ∀ (cur : Array Value) t fz, w.heap[R]? = some (.cells cur t fz) → ∃ cur' : Array Value, cur'.size = cur.size ∧ w'.heap[R]? = some (.cells cur' t fz)

set_option maxHeartbeats 1000000 in
theorem setDigits_c (R u : Nat) (p : Int) (hu : u < 18446744073709551616) (hp1 : -1000 ≤ p) (hp2 : p ≤ 1000) (w : World) (hH : Holds u8e w R 0 (Array.replicate (nDig u) 0)) :
    Calls Tryz.prog 82 #[.slice (some ⟨R, 0, none⟩) 32 32, .int .u64 u, .int .i64 p, .int .i64 (nDig u)] w fun e w' =>
      e = .returned (.tuple #[.int .i64 (nDig u + p), .int .i64 (nzd u)]) ∧ (∀ j, j < nDig u → w'.cell? ⟨R, j, none⟩ = some (u8e (dg u (nDig u - 1 - j)))) ∧ Below R w w' ∧ StaysRow R w w' := by
  have hn := nDig_le u hu
  have hlt := lt_nDig u
  have hfmt := Tryz.internal_strconv_formatBase10 R 0 32 u (Array.replicate (nDig u) 0) w hH (by rw [Array.size_replicate]; exact hlt) hu (by rw [Array.size_replicate]; omega)
  rw [Array.size_replicate] at hfmt
  have hz : nzd u = strip u (nDig u) (nDig u) := rfl
  rw [hz]
  generalize nDig u = nd at *
  have HF := Lib.hid hfmt; have HH := Lib.hid hH; have HU := Lib.hid hu; have HL := Lib.hid hlt; clear hfmt hH hu hlt hz
  go_enter Tryz.func82, Tryz.ntmps82
  go_wp2_with fail
  refine HF.out.mono ?_
  rintro e w1 ⟨rfl, n, v', dk, hw1, hF⟩
  have hb : Below R w w1 := by rw [hw1]; exact (below_putRow w R 0 dk).trans (drewN_below _ _ _)
  have hc : ∀ j, j < nd → w1.cell? ⟨R, j, none⟩ = some (u8e (dg u (nd - 1 - j))) := by
    intro j hj
    have h0 := cell?_putRow u8e w R 0 _ dk HH.out (by rw [hF.size, Array.size_replicate]) j (by rw [hF.size]; exact hj)
    rw [Nat.zero_add] at h0
    rw [hw1, World.cell?_drewN, h0, hF.done j (Nat.zero_le _) hj]
  have hk : StaysRow R w w1 := by
    intro cur t fz h
    rw [hw1]
    show ∃ cur' : Array Value, _ ∧ (putRow u8e w R 0 dk).heap[R]? = _
    unfold putRow mapBlock
    rw [Array.getElem?_modify, if_pos rfl, h]
    exact ⟨_, by simp [putCells], rfl⟩
  clear hw1 hF
  have HB := Lib.hid hb; have HC := Lib.hid hc; have HK := Lib.hid hk; clear hb hc hk
  go_wp2_with fail
  go_loop [3] (fun k => ∃ j : Nat, j ≤ nd ∧ k = .int .i64 j ∧ strip u nd j = strip u nd nd) (fun k => (RowKit.intOf k).toNat)
  case atStart => exact ⟨nd, Nat.le_refl _, rfl, rfl⟩
  case round =>
    obtain ⟨j, hj, rfl, hs⟩ := hrel
    have HS := Lib.hid hs; clear hs
    cases j with
    | zero =>
      go_wp2
      go_ret2
      refine ⟨?_, HC.out, HB.out, HK.out⟩
      rw [← HS.out]; rfl
    | succ j =>
      have hcj : w1.cell? ⟨R, j, none⟩ = some (.int .u8 ((dg u (nd - 1 - j)).toNat : Int)) := HC.out j (by omega)
      by_cases h48 : dg u (nd - 1 - j) = 48
      · have hb48 : (((dg u (nd - 1 - j)).toNat : Int) == 48) = true := by rw [h48]; rfl
        have hst : strip u nd j = strip u nd nd := by rw [← HS.out]; conv => rhs; unfold strip
                                                      rw [if_pos h48]
        have HT := Lib.hid hst; clear hst h48
        go_wp2
        go_round
        case rel => exact ⟨j, by omega, by go_num, HT.out⟩
        case measure => simp [RowKit.intOf]
      · have hb48 : (((dg u (nd - 1 - j)).toNat : Int) == 48) = false := by
          rw [beq_eq_false_iff_ne]; intro hh; apply h48
          exact UInt8.toNat_inj.1 (by rw [show (48 : UInt8).toNat = 48 from rfl]; omega)
        have hst : j + 1 = strip u nd nd := by rw [← HS.out]; conv => rhs; unfold strip
                                               rw [if_neg h48]
        have HT := Lib.hid hst; clear hst h48
        go_wp2
        go_ret2
        refine ⟨?_, HC.out, HB.out, HK.out⟩
        rw [← HT.out]; rfl
end Go.Proofs.YthkkdikfbagijaaGreatDoor
