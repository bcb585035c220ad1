/- Trees, plainly: the rows of neighbours in one number; the way from one to another one; pairs one by one. No program. -/
import GoSem.ClaimData
namespace Go.Proofs.Ytnkceajhhiidcaa

/-- The neighbours of a, rising. -/
def row (m a : Nat) : List Nat := (List.range 6).filter fun j => m.testBit (6 * a + j)
def put1 (m b t : Nat) : Nat := m ||| 1 <<< (6 * t + b)
def putE (m a b : Nat) : Nat := put1 (put1 m a b) b a
def scanW (g : Nat → Option (List Nat)) (a : Nat) (fr : Int) : List Nat → Option (List Nat)
  | [] => some []
  | x :: l => if (x : Int) = fr then scanW g a fr l else match g x with
    | none => none
    | some [] => scanW g a fr l
    | some (y :: r) => some (a :: y :: r)
/-- The way from a to b that doesn't begin with fr; none: so many steps are not enough to tell. -/
def wayF : Nat → Nat → Nat → Nat → Int → Option (List Nat)
  | 0, _, _, _, _ => none
  | k + 1, m, a, b, fr => if a = b then some [b] else scanW (fun x => wayF k m x b a) a fr (row m a)

theorem row_rise (m a : Nat) : (row m a).Pairwise (· < ·) := List.Pairwise.filter _ List.pairwise_lt_range
theorem mem_row {m a x : Nat} : x ∈ row m a ↔ x < 6 ∧ m.testBit (6 * a + x) = true := by
  unfold row; rw [List.mem_filter, List.mem_range]
theorem row_len (m a : Nat) : (row m a).length ≤ 6 := by
  have := List.length_filter_le (fun j => m.testBit (6 * a + j)) (List.range 6)
  simpa [row] using this
theorem put1_bit (m b t j : Nat) : (put1 m b t).testBit j = (m.testBit j || decide (6 * t + b = j)) := by
  unfold put1
  rw [Nat.testBit_or, Nat.one_shiftLeft, Nat.testBit_two_pow]
theorem row_other {m b t i : Nat} (hb : b < 6) (h : i ≠ t) : row (put1 m b t) i = row m i := by
  unfold row
  apply List.filter_congr
  intro j hj
  have := List.mem_range.1 hj
  rw [put1_bit]
  have : decide (6 * t + b = 6 * i + j) = false := decide_eq_false (by omega)
  rw [this, Bool.or_false]
theorem mem_put {m b t x : Nat} (hb : b < 6) : x ∈ row (put1 m b t) t ↔ x ∈ row m t ∨ x = b := by
  rw [mem_row, mem_row, put1_bit, Bool.or_eq_true, decide_eq_true_eq]
  constructor
  · rintro ⟨h1, h2 | h2⟩
    · exact Or.inl ⟨h1, h2⟩
    · exact Or.inr (by omega)
  · rintro (⟨h1, h2⟩ | rfl)
    · exact ⟨h1, Or.inl h2⟩
    · exact ⟨hb, Or.inr rfl⟩
/-- As numbers of the program. -/
def ints (l : List Nat) : List Int := l.map fun k : Nat => (k : Int)
/-- What is put behind and sorted is the row with it. -/
theorem sort_put {m b t : Nat} (hb : b < 6) (hn : b ∉ row m t) : (ints (row m t ++ [b])).mergeSort (fun x y => decide (x ≤ y)) = ints (row (put1 m b t) t) := by
  have hp := List.mergeSort_perm (ints (row m t ++ [b])) (fun x y => decide (x ≤ y))
  have hs := List.pairwise_mergeSort (le := fun x y : Int => decide (x ≤ y)) (fun a b c h1 h2 => by simp at *; omega) (fun a b => by simp; omega) (ints (row m t ++ [b]))
  have hr : (ints (row (put1 m b t) t)).Pairwise (fun x y => decide (x ≤ y) = true) := by
    unfold ints
    rw [List.pairwise_map]
    exact (row_rise _ _).imp (fun h => by simp; omega)
  refine List.Perm.eq_of_pairwise (le := fun x y : Int => decide (x ≤ y) = true) (fun a b _ _ h1 h2 => by simp at h1 h2; omega) hs hr (hp.trans ?_)
  unfold ints
  refine List.Perm.map _ ?_
  refine (List.perm_ext_iff_of_nodup ?_ ?_).2 fun x => ?_
  · rw [List.nodup_append]
    refine ⟨(row_rise m t).imp (fun h => by omega), by simp, ?_⟩
    intro x hx y hy e
    simp at hy
    subst hy e
    exact hn hx
  · exact (row_rise _ _).imp (fun h => by omega)
  · rw [mem_put hb, List.mem_append, List.mem_singleton]
/-- One pair: none where the way does not end; else an error's number, or the rows with it. -/
def stepP (n m : Nat) (p : Int × Int) : Option (Except Nat Nat) :=
  if p.1 = p.2 ∨ ¬ (0 ≤ p.1 ∧ p.1 < n) ∨ ¬ (0 ≤ p.2 ∧ p.2 < n) then some (.error 3) else
    match wayF 7 m p.1.toNat p.2.toNat (-1) with
    | none => none
    | some [] => some (.ok (putE m p.1.toNat p.2.toNat))
    | some (_ :: _) => some (.error 1)
def allP (n : Nat) : Nat → List (Int × Int) → Option (Except Nat Nat)
  | m, [] => some (.ok m)
  | m, p :: l => match stepP n m p with
    | none => none
    | some (.error e) => some (.error e)
    | some (.ok m') => allP n m' l
/-- tree.New of n that may be. -/
def newP (n : Nat) (l : List (Int × Int)) : Option (Except Nat Nat) :=
  match allP n 0 l with
  | none => none
  | some (.error e) => some (.error e)
  | some (.ok m) => if (l.length : Int) ≠ (n : Int) - 1 then some (.error 1) else some (.ok m)
end Go.Proofs.Ytnkceajhhiidcaa
