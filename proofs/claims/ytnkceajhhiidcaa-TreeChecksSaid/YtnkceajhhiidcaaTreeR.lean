/- TreeChecks' own closure: who is reached from one, plainly and by its contract. -/
import Derived.Test.YtnkceajhhiidcaaTreeF
namespace Go.Proofs.Ytnkceajhhiidcaa
open Go.RowKit Go.Shelf Go.Sort
open Go.Proofs
set_option maxRecDepth 100000

/-- One step: j is seen, if it was, or if i is and is its neighbour. -/
def sJ (m i s j : Nat) : Nat := if s.testBit i && m.testBit (6 * i + j) then s ||| 1 <<< j else s
def rJ (m i s : Nat) : Nat → Nat
  | 0 => s
  | j + 1 => sJ m i (rJ m i s j) j
def rI (m s : Nat) : Nat → Nat
  | 0 => s
  | i + 1 => rJ m i (rI m s i) 6
def rK (m s : Nat) : Nat → Nat
  | 0 => s
  | k + 1 => rI m (rK m s k) 6
/-- Is b reached from a? -/
def reachB (m a b : Nat) : Bool := (rK m (1 <<< a) 6).testBit b

theorem sJ_bit (m i s j x : Nat) : (sJ m i s j).testBit x = (s.testBit x || (s.testBit i && m.testBit (6 * i + j) && decide (j = x))) := by
  unfold sJ
  split
  · rename_i h
    rw [Nat.testBit_or, Nat.one_shiftLeft, Nat.testBit_two_pow, h, Bool.true_and]
  · rename_i h
    have : (s.testBit i && m.testBit (6 * i + j)) = false := by simpa using h
    rw [this, Bool.false_and, Bool.or_false]
/-- What was seen is seen. -/
theorem sJ_mono {m i s j x : Nat} (h : s.testBit x = true) : (sJ m i s j).testBit x = true := by rw [sJ_bit, h]; rfl
theorem rJ_mono {m i s x : Nat} (h : s.testBit x = true) : ∀ n, (rJ m i s n).testBit x = true
  | 0 => h
  | n + 1 => sJ_mono (rJ_mono h n)
theorem rI_mono {m s x : Nat} (h : s.testBit x = true) : ∀ n, (rI m s n).testBit x = true
  | 0 => h
  | n + 1 => rJ_mono (rI_mono h n) 6
theorem rK_mono {m s x : Nat} (h : s.testBit x = true) : ∀ n, (rK m s n).testBit x = true
  | 0 => h
  | n + 1 => rI_mono (rK_mono h n) 6
theorem rJ_step {m i s j : Nat} (hi : s.testBit i = true) (he : m.testBit (6 * i + j) = true) : ∀ n, j < n → (rJ m i s n).testBit j = true
  | 0, h => by omega
  | n + 1, h => by
    show (sJ m i (rJ m i s n) n).testBit j = true
    by_cases hn : j = n
    · subst hn
      rw [sJ_bit, rJ_mono hi, he]; simp
    · exact sJ_mono (rJ_step hi he n (by omega))
theorem rI_step {m s i j : Nat} (hi : s.testBit i = true) (he : m.testBit (6 * i + j) = true) (hj : j < 6) : ∀ n, i < n → (rI m s n).testBit j = true
  | 0, h => by omega
  | n + 1, h => by
    show (rJ m n (rI m s n) 6).testBit j = true
    by_cases hn : i = n
    · subst hn
      exact rJ_step (rI_mono hi i) he 6 hj
    · exact rJ_mono (rI_step hi he hj n (by omega)) 6
/-- Whoever has a way of so many steps is seen behind so many rounds. -/
theorem way_seen : ∀ (k m a b : Nat) (fr : Int) (l : List Nat) (s : Nat), wayF k m a b fr = some l → l ≠ [] → a < 6 → b < 6 → s.testBit a = true → (rK m s (k - 1)).testBit b = true
  | 0, _, _, _, _, _, _, h, _, _, _, _ => by cases h
  | k + 1, m, a, b, fr, l, s, h, hl, ha, hb, hs => by
    rw [Nat.add_sub_cancel]
    unfold wayF at h
    by_cases hab : a = b
    · subst hab
      exact rK_mono hs k
    · rw [if_neg hab] at h
      have hR : ∀ x ∈ row m a, x < 6 ∧ m.testBit (6 * a + x) = true := fun x hx => mem_row.1 hx
      generalize row m a = R at h hR
      induction R with
      | nil => simp only [scanW] at h; injection h with h; exact absurd h.symm hl
      | cons y R ih =>
        have hR2 : ∀ x ∈ R, x < 6 ∧ m.testBit (6 * a + x) = true := fun x hx => hR x (List.mem_cons_of_mem _ hx)
        unfold scanW at h
        split at h
        · exact ih h hR2
        · split at h
          · cases h
          · exact ih h hR2
          · rename_i z r hz
            have hy := hR y (List.mem_cons_self ..)
            cases k with
            | zero => cases hz
            | succ k =>
              have h1 : (rI m s 6).testBit y = true := rI_step hs hy.2 hy.1 6 ha
              have := way_seen (k + 1) m y b a (z :: r) (rI m s 6) hz (by simp) hy.1 hb h1
              rw [Nat.add_sub_cancel] at this
              have e : ∀ n, rK m (rI m s 6) n = rI m (rK m s n) 6 := fun n => by
                induction n with
                | zero => rfl
                | succ n ih => show rI m (rK m (rI m s 6) n) 6 = _; rw [ih]; rfl
              rw [e] at this
              exact this
/-- Nobody else is seen but who lies in what is shut under neighbours. -/
def Shut (m C : Nat) : Prop := ∀ b c, b < 6 → c < 6 → C.testBit b = true → m.testBit (6 * b + c) = true → C.testBit c = true
theorem rJ_in {m C i s : Nat} (hC : Shut m C) (hi : i < 6) (h : ∀ x, x < 6 → s.testBit x = true → C.testBit x = true) : ∀ n, n ≤ 6 → ∀ x, x < 6 → (rJ m i s n).testBit x = true → C.testBit x = true
  | 0, _, x, hx, hs => h x hx hs
  | n + 1, hn, x, hx, hs => by
    have hs : (sJ m i (rJ m i s n) n).testBit x = true := hs
    have ih := rJ_in hC hi h n (by omega)
    rw [sJ_bit, Bool.or_eq_true, Bool.and_eq_true, Bool.and_eq_true, decide_eq_true_eq] at hs
    rcases hs with hs | ⟨⟨h1, h2⟩, rfl⟩
    · exact ih x hx hs
    · exact hC i n hi (by omega) (ih i hi h1) h2
theorem rI_in {m C s : Nat} (hC : Shut m C) (h : ∀ x, x < 6 → s.testBit x = true → C.testBit x = true) : ∀ n, n ≤ 6 → ∀ x, x < 6 → (rI m s n).testBit x = true → C.testBit x = true
  | 0, _, x, hx, hs => h x hx hs
  | n + 1, hn, x, hx, hs => rJ_in hC (by omega) (rI_in hC h n (by omega)) 6 (Nat.le_refl _) x hx hs
theorem rK_in {m C s : Nat} (hC : Shut m C) (h : ∀ x, x < 6 → s.testBit x = true → C.testBit x = true) : ∀ n x, x < 6 → (rK m s n).testBit x = true → C.testBit x = true
  | 0, x, hx, hs => h x hx hs
  | n + 1, x, hx, hs => rI_in hC (rK_in hC h n) 6 (Nat.le_refl _) x hx hs
theorem reach_in {m C a b : Nat} (hC : Shut m C) (ha : C.testBit a = true) (hb : b < 6) (h : reachB m a b = true) : C.testBit b = true := by
  refine rK_in hC (fun x _ hx => ?_) 6 b hb h
  rw [Nat.one_shiftLeft, Nat.testBit_two_pow, decide_eq_true_eq] at hx
  subst hx; exact ha
end Go.Proofs.Ytnkceajhhiidcaa
