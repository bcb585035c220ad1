/- A value's text: its length; what is kept of a condition has its text. -/
import Derived.Test.YtfffmndjgjfflaaGreatDoorGaC
import Derived.Test.YtfffmndjgjfflaaGreatDoorGaD
import Derived.Test.YtfffmndjgjfflaaGreatDoorGaM
import Derived.Lib.QuoteLoop
import Derived.Lib.ItoaLen
namespace Go.Proofs.YtfffmndjgjfflaaGreatDoor
open Go.RowKit Go.Shelf
open Go.Proofs
set_option maxRecDepth 100000

theorem printT_size (k n : Int) (x : Nat) (s : ByteArray) (y : Bool) (h0 : -9223372036854775808 ≤ n) (h1 : n ≤ 9223372036854775807) : (printT k n x s y).size ≤ 10 * s.size + 70 := by
  unfold printT
  split
  · have := Lib.itoa_length_le n h0 h1
    show (Lib.itoa n).toArray.size ≤ _
    simp; omega
  · split
    · have := (ftoaL_ok (fcanon x)).2
      show (numL x).toArray.size ≤ _
      unfold numL
      split
      · simp; omega
      · simp; omega
    · split
      · rw [strOfNums_size]
        have := Lib.quoteZ_length_le Lib.goPrintTabs s
        omega
      · split
        · show (3 : Nat) ≤ _; omega
        · show (2 : Nat) ≤ _; omega
theorem numT_canon (x : Nat) : numT (fcanon x) = numT x := by
  unfold numT numL; rw [fcanon_idem]
theorem printT_canon (a : At) (h : KindB a) : printT (canonA a).k (canonA a).n (canonA a).x (canonA a).s (canonA a).y = printT a.k a.n a.x a.s a.y := by
  obtain ⟨nm, k, n, x, s, y⟩ := a
  have h0 := h.1; have h1 := h.2
  simp only [] at h0 h1
  rcases (show k = 0 ∨ k = 1 ∨ k = 2 ∨ k = 3 by omega) with rfl | rfl | rfl | rfl
  · simp [canonA, printT]
  · simp [canonA, printT, numT_canon]
  · simp [canonA, printT]
  · simp [canonA, printT]
theorem right_parts {nm : ByteArray} {op k n : Int} {x : Nat} {s : ByteArray} {y : Bool} (h : crightB ⟨⟨nm, k, n, x, s, y⟩, op⟩ = true) : nm.size ≤ 12 ∧ s.size ≤ 40 ∧ KindB ⟨nm, k, n, x, s, y⟩ := by
  unfold crightB vrightB nameOk at h
  simp only [Bool.and_eq_true, decide_eq_true_eq] at h
  obtain ⟨⟨⟨⟨_, h1⟩, _⟩, _⟩, _, ⟨h2, h3⟩, h4⟩ := h
  exact ⟨h1, by omega, h2, h3⟩
theorem canonC_n (c : Cn) (h0 : -9223372036854775808 ≤ c.a.n) (h1 : c.a.n ≤ 9223372036854775807) (hx : c.a.x < 18446744073709551616) (hs : c.a.s.size ≤ 40) :
    -9223372036854775808 ≤ (canonC c).a.n ∧ (canonC c).a.n ≤ 9223372036854775807 ∧ (canonC c).a.x < 18446744073709551616 ∧ (canonC c).a.s.size ≤ 40 := by
  unfold canonC
  split
  · exact ⟨by show -9223372036854775808 ≤ (0 : Int); omega, by show (0 : Int) ≤ _; omega, by show (0 : Nat) < _; omega, by show (0 : Nat) ≤ _; omega⟩
  · obtain ⟨h2, h3, h4⟩ := canonA_bd c.a hx h0 h1
    refine ⟨h3, h4, h2, ?_⟩
    show (canonA c.a).s.size ≤ 40
    unfold canonA
    repeat' split
    all_goals first | exact hs | (show (0 : Nat) ≤ 40; omega)
theorem cprint_canon (c : Cn) (i : Nat) (ho : c.op = i) (hk : KindB c.a) : cprintS (canonC c).a.nm i (printT (canonC c).a.k (canonC c).a.n (canonC c).a.x (canonC c).a.s (canonC c).a.y) = cprintS c.a.nm i (printT c.a.k c.a.n c.a.x c.a.s c.a.y) := by
  rw [canonC_nm]
  unfold cprintS
  by_cases h7 : i = 7
  · rw [if_pos h7, if_pos h7]
  · rw [if_neg h7, if_neg h7]
    unfold canonC
    have : (c.op == 7) = false := by rw [ho]; simp; omega
    rw [this]
    simp only [Bool.false_eq_true, if_false]
    rw [printT_canon c.a hk]

end Go.Proofs.YtfffmndjgjfflaaGreatDoor
