/- Two values are the same just if they have one text. -/
import Derived.Test.YtobhnmfcepkboaaGreatDoorLess
import Derived.Test.YtobhnmfcepkboaaGreatDoorValI
import Derived.Test.YtobhnmfcepkboaaGreatDoorCanP
namespace Go.Proofs.YtobhnmfcepkboaaGreatDoor
open Go.RowKit Go.Shelf
open Go.Proofs
set_option maxRecDepth 100000

/-! ### Plainly -/
theorem fpos_back {x y : Nat} (hx : x < 18446744073709551616) (hy : y < 18446744073709551616) (h0 : frung x ≠ 0) (h : fpos x = fpos y) : x = y := by
  unfold fpos fneg frung at *
  rw [show (2 : Nat) ^ 63 = 9223372036854775808 from by decide] at *
  by_cases h1 : x / 9223372036854775808 % 2 = 1 <;> by_cases h2 : y / 9223372036854775808 % 2 = 1
  all_goals simp only [h1, h2, beq_self_eq_true, if_true, beq_iff_eq, if_false] at h
  all_goals omega
theorem key_canon (x y : Nat) (hx : x < 18446744073709551616) (hy : y < 18446744073709551616) : fkey x = fkey y ↔ fcanon x = fcanon y := by
  cases h1 : fnan x
  · cases h2 : fnan y
    · rw [fkey_eq h1 h2]
      have c1 : fcanon x = if frung x = 0 then 0 else x := by unfold fcanon; rw [h1, if_neg Bool.false_ne_true]
      have c2 : fcanon y = if frung y = 0 then 0 else y := by unfold fcanon; rw [h2, if_neg Bool.false_ne_true]
      rw [c1, c2]
      by_cases z1 : frung x = 0
      · rw [if_pos z1]
        by_cases z2 : frung y = 0
        · rw [if_pos z2, (pos_zero x).2 z1, (pos_zero y).2 z2]; simp
        · rw [if_neg z2, (pos_zero x).2 z1]
          constructor
          · intro h; exact absurd ((pos_zero y).1 h.symm) z2
          · intro h; subst h; exact absurd (by decide) z2
      · rw [if_neg z1]
        by_cases z2 : frung y = 0
        · rw [if_pos z2, (pos_zero y).2 z2]
          constructor
          · intro h; exact absurd ((pos_zero x).1 h) z1
          · intro h; subst h; exact absurd (by decide) z1
        · rw [if_neg z2]
          exact ⟨fun h => fpos_back hx hy z1 h, fun h => by rw [h]⟩
    · have t := fkey_top h1
      rw [fkey_nan h2, canon_nan h2]
      constructor
      · intro h; omega
      · intro h
        have hc := (canon_num h1).1
        rw [h] at hc
        exact absurd hc (by decide)
  · cases h2 : fnan y
    · have t := fkey_top h2
      rw [fkey_nan h1, canon_nan h1]
      constructor
      · intro h; omega
      · intro h
        have hc := (canon_num h2).1
        rw [← h] at hc
        exact absurd hc (by decide)
    · rw [fkey_nan h1, fkey_nan h2, canon_nan h1, canon_nan h2]; simp
theorem numT_kept (x : Nat) : numT (fcanon x) = numT x := by
  unfold numT numL; rw [fcanon_idem]
theorem text_eq (a b : ByteArray) : (a.toList == b.toList) = true ↔ a = b := by
  rw [beq_iff_eq, bytes_toList, bytes_toList]
  exact ⟨fun h => ByteArray.ext (Array.ext' h), fun h => by rw [h]⟩
theorem printT_0 (n : Int) (x : Nat) (s : ByteArray) (y : Bool) : printT 0 n x s y = ⟨(Lib.itoa n).toArray⟩ := rfl
theorem printT_1 (n : Int) (x : Nat) (s : ByteArray) (y : Bool) : printT 1 n x s y = numT x := rfl
theorem printT_2 (n : Int) (x : Nat) (s : ByteArray) (y : Bool) : printT 2 n x s y = strOfNums (Lib.quoteZ Lib.goPrintTabs s) := rfl
theorem printT_3 (n : Int) (x : Nat) (s : ByteArray) (y : Bool) : printT 3 n x s y = if y then ⟨#[121, 101, 115]⟩ else ⟨#[110, 111]⟩ := rfl
theorem same_text (k n : Int) (x : Nat) (s : ByteArray) (y : Bool) (k2 n2 : Int) (x2 : Nat) (s2 : ByteArray) (y2 : Bool) (h0 : 0 ≤ k) (h3 : k ≤ 3) (g0 : 0 ≤ k2) (g3 : k2 ≤ 3) (hx : x < 18446744073709551616) (hx2 : x2 < 18446744073709551616) :
    (k == k2 && sameV k n n2 x x2 s s2 y y2) = ((printT k n x s y).toList == (printT k2 n2 x2 s2 y2).toList) := by
  rw [Bool.eq_iff_iff, text_eq, Bool.and_eq_true, beq_iff_eq]
  constructor
  · rintro ⟨rfl, h⟩
    rcases (show k = 0 ∨ k = 1 ∨ k = 2 ∨ k = 3 by omega) with rfl | rfl | rfl | rfl
    · have : n = n2 := by simpa [sameV] using h
      rw [this, printT_0, printT_0]
    · have h1 : fkey x = fkey x2 := by simpa [sameV] using h
      have h2 := (key_canon x x2 hx hx2).1 h1
      rw [printT_1, printT_1, ← numT_kept x, ← numT_kept x2, h2]
    · have h1 : (s.toList == s2.toList) = true := by simpa [sameV] using h
      rw [(text_eq s s2).1 h1, printT_2, printT_2]
    · have : y = y2 := by simpa [sameV] using h
      rw [this, printT_3, printT_3]
  · intro h
    have hp := (print_text k n x s y k2 n2 x2 s2 y2 [] [] h0 h3 g0 g3 hx hx2 del_nil del_nil (by rw [h])).1
    obtain ⟨rfl, e0, e1, e2, e3⟩ := hp
    refine ⟨rfl, ?_⟩
    rcases (show k = 0 ∨ k = 1 ∨ k = 2 ∨ k = 3 by omega) with rfl | rfl | rfl | rfl
    · rw [e0 rfl]; simp [sameV]
    · have := (key_canon x x2 hx hx2).2 (e1 rfl)
      simp [sameV, this]
    · rw [e2 rfl]; simp [sameV]
    · rw [e3 rfl]; simp [sameV]
theorem canon_text (k n : Int) (x : Nat) (s : ByteArray) (y : Bool) (h0 : 0 ≤ k) (h3 : k ≤ 3) (hx : x < 18446744073709551616) :
    printT (canonA ⟨⟨#[]⟩, k, n, x, s, y⟩).k (canonA ⟨⟨#[]⟩, k, n, x, s, y⟩).n (canonA ⟨⟨#[]⟩, k, n, x, s, y⟩).x (canonA ⟨⟨#[]⟩, k, n, x, s, y⟩).s (canonA ⟨⟨#[]⟩, k, n, x, s, y⟩).y = printT k n x s y ∧
    (k == (canonA ⟨⟨#[]⟩, k, n, x, s, y⟩).k && sameV k n (canonA ⟨⟨#[]⟩, k, n, x, s, y⟩).n x (canonA ⟨⟨#[]⟩, k, n, x, s, y⟩).x s (canonA ⟨⟨#[]⟩, k, n, x, s, y⟩).s y (canonA ⟨⟨#[]⟩, k, n, x, s, y⟩).y) = true ∧
    (canonA ⟨⟨#[]⟩, k, n, x, s, y⟩).s.size ≤ s.size := by
  rcases (show k = 0 ∨ k = 1 ∨ k = 2 ∨ k = 3 by omega) with rfl | rfl | rfl | rfl
  · have e : canonA ⟨⟨#[]⟩, 0, n, x, s, y⟩ = ⟨⟨#[]⟩, 0, n, 0, ⟨#[]⟩, false⟩ := rfl
    rw [e]
    exact ⟨by rw [printT_0, printT_0], by simp [sameV], Nat.zero_le _⟩
  · have e : canonA ⟨⟨#[]⟩, 1, n, x, s, y⟩ = ⟨⟨#[]⟩, 1, 0, fcanon x, ⟨#[]⟩, false⟩ := rfl
    have h : fkey x = fkey (fcanon x) := (key_canon x (fcanon x) hx (fcanon_lt x hx)).2 (fcanon_idem x).symm
    rw [e]
    exact ⟨by rw [printT_1, printT_1, numT_kept], by simp [sameV, ← h], Nat.zero_le _⟩
  · have e : canonA ⟨⟨#[]⟩, 2, n, x, s, y⟩ = ⟨⟨#[]⟩, 2, 0, 0, s, false⟩ := rfl
    rw [e]
    exact ⟨by rw [printT_2, printT_2], by simp [sameV], Nat.le_refl _⟩
  · have e : canonA ⟨⟨#[]⟩, 3, n, x, s, y⟩ = ⟨⟨#[]⟩, 3, 0, 0, ⟨#[]⟩, y⟩ := rfl
    rw [e]
    exact ⟨by rw [printT_3, printT_3], by simp [sameV], Nat.zero_le _⟩

end Go.Proofs.YtobhnmfcepkboaaGreatDoor
