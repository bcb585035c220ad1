/- For TreeChecks, plainly: each pair has its answer; how many neighbours; who is one. -/
import Derived.Test.YtnkceajhhiidcaaForest
import Derived.Test.YtnkceajhhiidcaaTreeRC
import Derived.Test.YtnkceajhhiidcaaTreeEnds
namespace Go.Proofs.Ytnkceajhhiidcaa
open Go.RowKit
open Go.Proofs
set_option maxRecDepth 100000

/-- A pair that may not be. -/
def badP (n : Nat) (a b : Int) : Prop := a < 0 ∨ b < 0 ∨ (n : Int) ≤ a ∨ (n : Int) ≤ b ∨ a = b
theorem step_cases {n m : Nat} (hF : Fo m) (h6 : n ≤ 6) (a b : Int) : (badP n a b ∧ stepP n m (a, b) = some (.error 3)) ∨
    ∃ x y : Nat, a = x ∧ b = y ∧ x < n ∧ y < n ∧ x ≠ y ∧ ((reachB m x y = true ∧ stepP n m (a, b) = some (.error 1)) ∨ (reachB m x y = false ∧ stepP n m (a, b) = some (.ok (putE m x y)) ∧ Fo (putE m x y))) := by
  by_cases hb : badP n a b
  · left
    refine ⟨hb, ?_⟩
    unfold stepP
    rw [if_pos]
    unfold badP at hb
    omega
  · right
    unfold badP at hb
    obtain ⟨x, rfl⟩ := Int.eq_ofNat_of_zero_le (show 0 ≤ a by omega)
    obtain ⟨y, rfl⟩ := Int.eq_ofNat_of_zero_le (show 0 ≤ b by omega)
    refine ⟨x, y, rfl, rfl, by omega, by omega, by omega, ?_⟩
    obtain ⟨l, h1, h2, h3⟩ := fo_get hF x y (by omega) (by omega)
    have hs : stepP n m ((x : Int), (y : Int)) = match wayF 7 m x y (-1) with
        | none => none
        | some [] => some (.ok (putE m x y))
        | some (_ :: _) => some (.error 1) := by
      unfold stepP
      rw [if_neg (by omega)]
      simp only [Int.toNat_natCast]
      rfl
    rw [h1] at hs
    cases l with
    | nil =>
      right
      refine ⟨?_, hs, h2 rfl⟩
      cases hr : reachB m x y
      · rfl
      · exact absurd rfl (h3.2 hr)
    | cons z r =>
      left
      exact ⟨h3.1 (by simp), hs⟩
theorem allP_total {n : Nat} (h6 : n ≤ 6) : ∀ (ps : List (Int × Int)) (m : Nat), Fo m → ∃ r, allP n m ps = some r
  | [], m, _ => ⟨_, rfl⟩
  | p :: ps, m, hF => by
    obtain ⟨a, b⟩ := p
    unfold allP
    rcases step_cases hF h6 a b with ⟨_, h⟩ | ⟨x, y, _, _, _, _, _, ⟨_, h⟩ | ⟨_, h, hF2⟩⟩
    · rw [h]; exact ⟨_, rfl⟩
    · rw [h]; exact ⟨_, rfl⟩
    · rw [h]; exact allP_total h6 ps _ hF2
theorem newP_total {n : Nat} (h6 : n ≤ 6) (ps : List (Int × Int)) : ∃ r, newP n ps = some r := by
  obtain ⟨r, h⟩ := allP_total h6 ps 0 fo_zero
  unfold newP
  rw [h]
  cases r with
  | error e => exact ⟨_, rfl⟩
  | ok m =>
    simp only
    split
    · exact ⟨_, rfl⟩
    · exact ⟨_, rfl⟩
/-- How many of the first ones are neighbours. -/
def cntP (m i : Nat) : Nat → Nat
  | 0 => 0
  | j + 1 => cntP m i j + if m.testBit (6 * i + j) then 1 else 0
theorem cnt_filter (m i : Nat) : ∀ k, ((List.range k).filter fun j => m.testBit (6 * i + j)).length = cntP m i k
  | 0 => rfl
  | k + 1 => by
    rw [List.range_succ, List.filter_append, List.length_append, cnt_filter m i k]
    rw [show cntP m i (k + 1) = cntP m i k + if m.testBit (6 * i + k) then 1 else 0 from rfl]
    cases h : m.testBit (6 * i + k) <;> simp [h]
theorem cnt_row {n m i : Nat} (h6 : n ≤ 6) (h : ∀ x ∈ row m i, x < n) : cntP m i n = (row m i).length := by
  have h0 : ∀ d, n + d ≤ 6 → cntP m i (n + d) = cntP m i n := fun d => by
    induction d with
    | zero => intro _; rfl
    | succ d ih =>
      intro hd
      rw [show cntP m i (n + (d + 1)) = cntP m i (n + d) + if m.testBit (6 * i + (n + d)) then 1 else 0 from rfl]
      have hb : m.testBit (6 * i + (n + d)) = false := by
        cases hb : m.testBit (6 * i + (n + d))
        · rfl
        · have := h (n + d) (mem_row.2 ⟨by omega, hb⟩); omega
      rw [hb, ih (by omega)]; rfl
  have e := h0 (6 - n) (by omega)
  rw [show n + (6 - n) = 6 by omega] at e
  unfold row
  rw [cnt_filter, e]
theorem cnt_le (m i : Nat) : ∀ j, cntP m i j ≤ j
  | 0 => Nat.le_refl _
  | j + 1 => by
    have := cnt_le m i j
    unfold cntP
    split <;> omega
theorem linked_bit {n m i j : Nat} (h6 : n ≤ 6) (hi : i < n) (hj : j < n) : linkedP n m i j = m.testBit (6 * i + j) := by
  unfold linkedP
  rw [hasB_nat hi, Bool.true_and, Int.toNat_natCast, Bool.eq_iff_iff, List.contains_iff_mem]
  unfold ints
  rw [List.mem_map]
  constructor
  · rintro ⟨k, hk, e⟩
    obtain rfl : k = j := by omega
    exact (mem_row.1 hk).2
  · intro h
    exact ⟨j, mem_row.2 ⟨by omega, h⟩, rfl⟩
theorem row_rises {m i k : Nat} (h : k + 1 < (row m i).length) : (row m i)[k]! < (row m i)[k + 1]! := by
  rw [getElem!_pos _ k (by omega), getElem!_pos _ (k + 1) h]
  exact List.pairwise_iff_getElem.1 (row_rise m i) k (k + 1) _ _ (by omega)
theorem bits_put {W : World} {A : Nat} {ty : TypeId} {m x y : Nat} (h : BitsAt W A ty 36 m) : BitsAt ((W.setCell ⟨A, x * 6 + y, none⟩ (.bool true)).setCell ⟨A, y * 6 + x, none⟩ (.bool true)) A ty 36 (putE m x y) :=
  ((h.set (x * 6 + y) (.bool true)).set (y * 6 + x) (.bool true)).congr fun k _ => by
    unfold putE
    rw [put1_bit, put1_bit]
    by_cases h1 : k = y * 6 + x
    · rw [if_pos h1, decide_eq_true (show 6 * y + x = k by omega)]; simp
    · rw [if_neg h1, decide_eq_false (show ¬ 6 * y + x = k by omega)]
      by_cases h2 : k = x * 6 + y
      · rw [if_pos h2, decide_eq_true (show 6 * x + y = k by omega)]; simp
      · rw [if_neg h2, decide_eq_false (show ¬ 6 * x + y = k by omega)]; simp
theorem putE_swap (m x y : Nat) : putE m x y = putE m y x := by
  apply Nat.eq_of_testBit_eq
  intro i
  unfold putE
  rw [put1_bit, put1_bit, put1_bit, put1_bit, Bool.or_assoc, Bool.or_assoc, Bool.or_comm (decide _) (decide _)]
end Go.Proofs.Ytnkceajhhiidcaa
