/- Trees by whom each one hangs on: plainly, all that there are. -/
import Derived.Test.YtnkceajhhiidcaaTreeF
namespace Go.Proofs.Ytnkceajhhiidcaa
open Go.RowKit Go.Shelf Go.Sort
open Go.Proofs
set_option maxRecDepth 100000

def prs (g : Nat → Int × Int) : Nat → List (Int × Int)
  | 0 => []
  | i + 1 => if i = 0 then [] else prs g i ++ [g i]
theorem prs_one (g : Nat → Int × Int) : prs g 1 = [] := rfl
theorem prs_succ (g : Nat → Int × Int) {i : Nat} (h : 1 ≤ i) : prs g (i + 1) = prs g i ++ [g i] := by
  show (if i = 0 then [] else prs g i ++ [g i]) = _
  rw [if_neg (by omega)]
theorem prs_len (g : Nat → Int × Int) : ∀ i, (prs g (i + 1)).length = i
  | 0 => rfl
  | i + 1 => by rw [prs_succ g (by omega), List.length_append, prs_len g i]; rfl
theorem prs_congr {g h : Nat → Int × Int} : ∀ n, (∀ i, 1 ≤ i → i < n → g i = h i) → prs g n = prs h n
  | 0, _ => rfl
  | 1, _ => rfl
  | n + 2, e => by rw [prs_succ g (by omega), prs_succ h (by omega), prs_congr (n + 1) (fun i h1 h2 => e i h1 (by omega)), e (n + 1) (by omega) (by omega)]
/-- Pairs in the other order. -/
def prsR (g : Nat → Int × Int) : Nat → List (Int × Int)
  | 0 => []
  | i + 1 => if i = 0 then [] else g i :: prsR g i
theorem prsR_succ (g : Nat → Int × Int) {i : Nat} (h : 1 ≤ i) : prsR g (i + 1) = g i :: prsR g i := by
  show (if i = 0 then [] else g i :: prsR g i) = _
  rw [if_neg (by omega)]
theorem prsR_len (g : Nat → Int × Int) : ∀ i, (prsR g (i + 1)).length = i
  | 0 => rfl
  | i + 1 => by rw [prsR_succ g (by omega), List.length_cons, prsR_len g i]
theorem prsR_congr {g h : Nat → Int × Int} : ∀ n, (∀ i, 1 ≤ i → i < n → g i = h i) → prsR g n = prsR h n
  | 0, _ => rfl
  | 1, _ => rfl
  | n + 2, e => by rw [prsR_succ g (by omega), prsR_succ h (by omega), prsR_congr (n + 1) (fun i h1 h2 => e i h1 (by omega)), e (n + 1) (by omega) (by omega)]
def kOf (a b c d e : Nat) (i : Nat) : Nat := if i = 1 then a else if i = 2 then b else if i = 3 then c else if i = 4 then d else if i = 5 then e else 0
/-- All of it, for each tree that there is. -/
def allK (f : Nat → (Nat → Nat) → Bool) : Bool :=
  (List.range 6).all fun n => (List.range 1).all fun a => (List.range 2).all fun b => (List.range 3).all fun c => (List.range 4).all fun d => (List.range 5).all fun e => f (n + 1) (kOf a b c d e)
theorem allK_get {f : Nat → (Nat → Nat) → Bool} (h : allK f = true) (hc : ∀ n k k', n ≤ 6 → (∀ i, 1 ≤ i → i < n → k i = k' i) → f n k = f n k') (n : Nat) (h1 : 1 ≤ n) (h6 : n ≤ 6) (k : Nat → Nat) (hk : ∀ i, 1 ≤ i → k i < i) : f n k = true := by
  unfold allK at h
  simp only [List.all_eq_true, List.mem_range] at h
  have := h (n - 1) (by omega) (k 1) (hk 1 (by omega)) (k 2) (hk 2 (by omega)) (k 3) (hk 3 (by omega)) (k 4) (hk 4 (by omega)) (k 5) (hk 5 (by omega))
  rw [show n - 1 + 1 = n by omega] at this
  rw [← this]
  refine hc n _ _ h6 fun i hi hn => ?_
  have h5 : i = 1 ∨ i = 2 ∨ i = 3 ∨ i = 4 ∨ i = 5 := by omega
  rcases h5 with rfl | rfl | rfl | rfl | rfl <;> rfl
def wayB (o : Option (List Nat)) (p : List Nat → Bool) : Bool := match o with
  | some l => p l
  | none => false
theorem wayB_iff {o : Option (List Nat)} {p : List Nat → Bool} (h : wayB o p = true) : ∃ l, o = some l ∧ p l = true := by
  unfold wayB at h
  split at h
  · exact ⟨_, rfl, h⟩
  · cases h
def newB (o : Option (Except Nat Nat)) (p : Nat → Bool) : Bool := match o with
  | some (.ok m) => p m
  | _ => false
theorem newB_iff {o : Option (Except Nat Nat)} {p : Nat → Bool} (h : newB o p = true) : ∃ m, o = some (.ok m) ∧ p m = true := by
  unfold newB at h
  split at h
  · exact ⟨_, rfl, h⟩
  · cases h
def sumP (m : Nat) : Nat → Nat
  | 0 => 0
  | i + 1 => sumP m i + (row m i).length
def endsB (n m : Nat) : Bool :=
  ((List.range n).all fun i => wayB (pathP n m i 0) (fun l => !l.isEmpty && l[l.length - 1]! == 0) && (row m i).all fun j => wayB (pathP n m i j) (fun l => l.length == 2) && linkedP n m j i) && sumP m n == 2 * (n - 1)
theorem ends_all : allK (fun n k => newB (newP n (prs (fun i => ((k i : Nat), (i : Nat))) n)) (endsB n)) = true := by kernel_rfl
theorem ends_get (n : Nat) (h1 : 1 ≤ n) (h6 : n ≤ 6) (k : Nat → Nat) (hk : ∀ i, 1 ≤ i → k i < i) : ∃ m, newP n (prs (fun i => ((k i : Nat), (i : Nat))) n) = some (.ok m) ∧
    (∀ i, i < n → ∃ l, pathP n m i 0 = some l ∧ l ≠ [] ∧ l[l.length - 1]! = 0) ∧ (∀ i, i < n → ∀ j ∈ row m i, (∃ l, pathP n m i j = some l ∧ l.length = 2) ∧ linkedP n m j i = true) ∧ sumP m n = 2 * (n - 1) := by
  have := allK_get ends_all (fun n k k' _ h => by
    have e : prs (fun i => ((k i : Nat), (i : Nat))) n = prs (fun i => ((k' i : Nat), (i : Nat))) n := prs_congr n fun i h1 h2 => by rw [h i h1 h2]
    rw [e]) n h1 h6 k hk
  obtain ⟨m, hm, hb⟩ := newB_iff this
  unfold endsB at hb
  simp only [Bool.and_eq_true, List.all_eq_true, List.mem_range, beq_iff_eq] at hb
  refine ⟨m, hm, fun i hi => ?_, fun i hi j hj => ?_, hb.2⟩
  · obtain ⟨l, h1, h2⟩ := wayB_iff (hb.1 i hi).1
    simp only [Bool.and_eq_true, beq_iff_eq, Bool.not_eq_true', List.isEmpty_eq_false_iff] at h2
    exact ⟨l, h1, h2.1, h2.2⟩
  · have h := (hb.1 i hi).2 j hj
    obtain ⟨l, h1, h2⟩ := wayB_iff h.1
    exact ⟨⟨l, h1, by simpa using h2⟩, h.2⟩
end Go.Proofs.Ytnkceajhhiidcaa
