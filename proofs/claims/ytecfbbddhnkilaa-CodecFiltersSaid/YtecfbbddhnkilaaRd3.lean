/- codec.Reader: Long. -/
import Derived.Test.YtecfbbddhnkilaaRd2
namespace Go.Proofs.Ytecfbbddhnkilaa
open Go.RowKit
open Go.Proofs
set_option maxRecDepth 100000

/-- A number of eight bytes, the highest first. -/
def be (l : List UInt8) : Nat := l.foldl (fun x c => x * 256 + c.toNat) 0
theorem be_snoc (l : List UInt8) (c : UInt8) : be (l ++ [c]) = be l * 256 + c.toNat := by simp [be]
theorem be_lt (l : List UInt8) : be l < 256 ^ l.length := by
  have h : ∀ (l : List UInt8) (x n : Nat), x < 256 ^ n → l.foldl (fun x c => x * 256 + c.toNat) x < 256 ^ (n + l.length) := by
    intro l
    induction l with
    | nil => intro x n h; simpa using h
    | cons c t ih =>
      intro x n h
      simp only [List.foldl_cons, List.length_cons]
      have := ih (x * 256 + c.toNat) (n + 1) (by have := c.toNat_lt; rw [Nat.pow_succ]; omega)
      rw [show n + (t.length + 1) = n + 1 + t.length by omega]; exact this
  have := h l 0 0 (by simp)
  simpa [be] using this
theorem or_byte (x c : Nat) (hx : x < 256 ^ 7) (hc : c < 2 ^ 8) : bits BinOp.or IntKind.u64 ((x : Int) * 256) (c : Int) = ((x * 256 + c : Nat) : Int) := by
  have h1 : x * 256 < 18446744073709551616 := by omega
  have h2 := bits_or_u64_nat (x * 256) c h1 (by omega)
  rw [show ((x * 256 : Nat) : Int) = (x : Int) * 256 by omega] at h2
  rw [h2]
  have := Nat.two_pow_add_eq_or_of_lt (i := 8) (b := c) hc x
  rw [show x * 256 = 2 ^ 8 * x by omega, this]
def rLong (l : List UInt8) : Option (Int × List UInt8) := if 8 ≤ l.length then some (be (l.take 8), l.drop 8) else none

set_option maxHeartbeats 1000000 in
theorem long_no (R : Nat) (l : List UInt8) (w : World) (h : Rd w R l) (hn : rLong l = none) :
    Calls Try.prog 39 #[.pointer (some ⟨R, 0, none⟩)] w fun e w' => e = .panicked gv ∧ w = w' := by
  have ht := take_no R 8 l w h (by
    unfold rLong at hn
    by_cases hc : 8 ≤ l.length
    · rw [if_pos hc] at hn; cases hn
    · omega)
  clear h hn
  go_enter Try.func39, Try.ntmps39
  go_wp2_with fail
  refine ht.mono ?_
  rintro e w' ⟨rfl, rfl⟩
  exact ⟨rfl, rfl, rfl⟩

set_option maxHeartbeats 2000000 in
theorem long_ok (R : Nat) (l : List UInt8) (w : World) (h : Rd w R l) (h8 : 8 ≤ l.length) :
    Calls Try.prog 39 #[.pointer (some ⟨R, 0, none⟩)] w fun e w' => e = .returned (.int .u64 (be (l.take 8))) ∧ Aside (Rd w' R (l.drop 8) ∧ Kb (· = R) w w') := by
  have ht := take_ok R 8 l w h h8
  have hlen : (l.take 8).length = 8 := by rw [List.length_take]; omega
  have HLen : Aside _ := hlen
  generalize l.drop 8 = rest at *
  generalize l.take 8 = m at *
  clear h h8 hlen
  go_enter Try.func39, Try.ntmps39
  go_wp2_with fail
  refine ht.mono ?_
  rintro e w1 ⟨ao, cap, rfl, hA⟩
  have hb := hA.out.1
  have HR : Aside _ := hA.out.2
  rcases hb with h0 | ⟨b, off, rfl, _, _, hc⟩
  · have := HLen.out; rw [h0] at this; cases this
  have HC : Aside _ := hc
  clear hA hc ht
  go_wp2_with fail
  go_loop [3, 9] (fun x i => ∃ j : Nat, j ≤ 8 ∧ i = .int .i64 j ∧ x = .int .u64 (be (m.take j) : Int)) (fun _ i => 8 - (RowKit.intOf i).toNat)
  case atStart => exact ⟨0, by omega, rfl, rfl⟩
  case round =>
    obtain ⟨j, hj, rfl, rfl⟩ := hrel
    by_cases hlt : j < 8
    · have hcj := HC.out j (by rw [HLen.out]; exact hlt)
      have hjz : (j : Int) < 8 := by omega
      have hj0 : (0 : Int) ≤ j := by omega
      have hjl : j < m.length := by rw [HLen.out]; exact hlt
      have hsn : be (m.take (j + 1)) = be (m.take j) * 256 + (m.getD j 0).toNat := by
        rw [List.take_add_one, List.getElem?_eq_getElem hjl, Option.toList_some, be_snoc, List.getD_eq_getElem?_getD, List.getElem?_eq_getElem hjl, Option.getD_some]
      have hbl := be_lt (m.take j)
      have hl7 : (m.take j).length ≤ 7 := by rw [List.length_take]; omega
      have hbl2 : be (m.take j) < 256 ^ 7 := Nat.lt_of_lt_of_le hbl (Nat.pow_le_pow_right (by omega) hl7)
      have hcc := (m.getD j 0).toNat_lt
      generalize be (m.take j) = x at *
      generalize (m.getD j 0).toNat = c at *
      have HS : Aside _ := hsn
      clear hsn hbl hl7
      have HO : Aside (bits BinOp.or IntKind.u64 ((x : Int) * 256) (c : Int) = ((x * 256 + c : Nat) : Int)) := or_byte x c hbl2 hcc
      go_wp2_with fail
      go_round
      case rel => exact ⟨j + 1, hlt, by go_num, by rw [HO.out, HS.out]⟩
      case measure => simp only [RowKit.intOf]; omega
    · obtain rfl : j = 8 := by omega
      have hm : m.take 8 = m := List.take_of_length_le (by rw [HLen.out]; omega)
      rw [hm]
      have HM : Aside _ := hm
      clear hm
      go_wp2_with fail
      go_ret
      exact ⟨rfl, HR⟩
end Go.Proofs.Ytecfbbddhnkilaa
