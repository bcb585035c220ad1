/- All forests of six: no way is without end; whoever is reached has a way; a pair that no way joins makes another forest. -/
import Derived.Test.YtnkceajhhiidcaaForest0
import Derived.Test.YtnkceajhhiidcaaForest1
import Derived.Test.YtnkceajhhiidcaaForest2
import Derived.Test.YtnkceajhhiidcaaForest3
import Derived.Test.YtnkceajhhiidcaaForest4
import Derived.Test.YtnkceajhhiidcaaForest5
import Derived.Test.YtnkceajhhiidcaaTreeR
namespace Go.Proofs.Ytnkceajhhiidcaa
open Go.Proofs
set_option maxRecDepth 100000

theorem allC_get {f : Nat → Bool} {i : Nat} : ∀ {n : Nat}, allC f i n = true → ∀ c, i ≤ c → c < i + n → f c = true
  | 0, _, c, h1, h2 => by omega
  | n + 1, h, c, h1, h2 => by
    have h : (f (i + n) && allC f i n) = true := h
    rw [Bool.and_eq_true] at h
    by_cases hc : c = i + n
    · rw [hc]; exact h.1
    · exact allC_get h.2 c h1 (by omega)
theorem good_all (c : Nat) (h : c < 32768) : goodC c = true := by
  by_cases h1 : c < 1129
  · exact allC_get forest_0 c (by omega) (by omega)
  by_cases h2 : c < 3618
  · exact allC_get forest_1 c (by omega) (by omega)
  by_cases h3 : c < 7441
  · exact allC_get forest_2 c (by omega) (by omega)
  by_cases h4 : c < 12329
  · exact allC_get forest_3 c (by omega) (by omega)
  by_cases h5 : c < 17954
  · exact allC_get forest_4 c (by omega) (by omega)
  · exact allC_get forest_5 c (by omega) (by omega)
/-- A forest of six. -/
def Fo (m : Nat) : Prop := ∃ c, c < 32768 ∧ forestT.testBit c = true ∧ m = dec emL c
theorem fo_zero : Fo 0 := ⟨0, by decide, by kernel_rfl, by kernel_rfl⟩
theorem goodO_get {c m a : Nat} : ∀ (ws : List (Option (List Nat))) (b : Nat), goodO c m a ws b = true → ∀ i (h : i < ws.length), ∃ l, ws[i] = some l ∧ (l = [] → forestT.testBit (c ||| 1 <<< eIx a (b + i)) = true ∧ dec emL (c ||| 1 <<< eIx a (b + i)) = putE m a (b + i))
  | [], _, _, i, h => by simp at h
  | none :: ws, b, hg, i, h => by cases hg
  | some [] :: ws, b, hg, i, h => by
    have hg : (forestT.testBit (c ||| 1 <<< eIx a b) && dec emL (c ||| 1 <<< eIx a b) == putE m a b && goodO c m a ws (b + 1)) = true := hg
    rw [Bool.and_eq_true, Bool.and_eq_true, beq_iff_eq] at hg
    cases i with
    | zero => exact ⟨[], rfl, fun _ => hg.1⟩
    | succ i =>
      have := goodO_get ws (b + 1) hg.2 i (by simpa using h)
      rw [show b + 1 + i = b + (i + 1) by omega] at this
      simpa using this
  | some (y :: r) :: ws, b, hg, i, h => by
    have hg : goodO c m a ws (b + 1) = true := hg
    cases i with
    | zero => exact ⟨y :: r, rfl, fun e => by cases e⟩
    | succ i =>
      have := goodO_get ws (b + 1) hg i (by simpa using h)
      rw [show b + 1 + i = b + (i + 1) by omega] at this
      simpa using this
theorem reachM_bit : ∀ (ws : List (Option (List Nat))) (b x : Nat), (reachM ws b).testBit x = true ↔ ∃ i, ∃ h : i < ws.length, x = b + i ∧ ∃ y r, ws[i] = some (y :: r)
  | [], b, x => by simp [reachM]
  | some (y :: r) :: ws, b, x => by
    show (1 <<< b ||| reachM ws (b + 1)).testBit x = true ↔ _
    rw [Nat.testBit_or, Bool.or_eq_true, Nat.one_shiftLeft, Nat.testBit_two_pow, decide_eq_true_eq, reachM_bit ws (b + 1) x]
    constructor
    · rintro (rfl | ⟨i, h, rfl, q⟩)
      · exact ⟨0, by simp, rfl, y, r, rfl⟩
      · exact ⟨i + 1, by simpa using h, by omega, by simpa using q⟩
    · rintro ⟨i, h, rfl, q⟩
      cases i with
      | zero => exact Or.inl rfl
      | succ i => exact Or.inr ⟨i, by simpa using h, by omega, by simpa using q⟩
  | some [] :: ws, b, x => by
    show (reachM ws (b + 1)).testBit x = true ↔ _
    rw [reachM_bit ws (b + 1) x]
    constructor
    · rintro ⟨i, h, rfl, q⟩
      exact ⟨i + 1, by simpa using h, by omega, by simpa using q⟩
    · rintro ⟨i, h, rfl, q⟩
      cases i with
      | zero => obtain ⟨y, r, q⟩ := q; simp at q
      | succ i => exact ⟨i, by simpa using h, by omega, by simpa using q⟩
  | none :: ws, b, x => by
    show (reachM ws (b + 1)).testBit x = true ↔ _
    rw [reachM_bit ws (b + 1) x]
    constructor
    · rintro ⟨i, h, rfl, q⟩
      exact ⟨i + 1, by simpa using h, by omega, by simpa using q⟩
    · rintro ⟨i, h, rfl, q⟩
      cases i with
      | zero => obtain ⟨y, r, q⟩ := q; simp at q
      | succ i => exact ⟨i, by simpa using h, by omega, by simpa using q⟩
theorem closed_shut {m C : Nat} (h : closedB m C = true) : Shut m C := fun b c hb hc h1 h2 => by
  unfold closedB at h
  rw [List.all_eq_true] at h
  have := h b (List.mem_range.2 hb)
  rw [h1, Bool.not_true, Bool.false_or, beq_iff_eq] at this
  rw [← this, Nat.testBit_or, Bool.or_eq_true]
  left
  rw [show 64 = 2 ^ 6 by rfl, Nat.testBit_mod_two_pow, Nat.testBit_shiftRight, h2]
  simpa using hc
theorem eIx_lt : ∀ a, a < 6 → ∀ b, b < 6 → a ≠ b → eIx a b < 15 := by decide
/-- What is told of a forest. -/
theorem fo_get {m : Nat} (h : Fo m) (a b : Nat) (ha : a < 6) (hb : b < 6) : ∃ l, wayF 7 m a b (-1) = some l ∧ (l = [] → Fo (putE m a b)) ∧ (l ≠ [] ↔ reachB m a b = true) := by
  obtain ⟨c, hc, ht, rfl⟩ := h
  have hg := good_all c hc
  unfold goodC at hg
  rw [ht, Bool.not_true, Bool.false_or] at hg
  unfold goodM at hg
  rw [List.all_eq_true] at hg
  have hw := hg a (List.mem_range.2 ha)
  unfold goodW at hw
  rw [Bool.and_eq_true] at hw
  have hlen : ((List.range 6).map fun b => wayF 7 (dec emL c) a b (-1)).length = 6 := by simp
  have hat : ∀ i (h : i < 6), ((List.range 6).map fun b => wayF 7 (dec emL c) a b (-1))[i]'(by rw [hlen]; exact h) = wayF 7 (dec emL c) a i (-1) := fun i h => by simp
  obtain ⟨l, h1, h2⟩ := goodO_get _ 0 hw.1 b (by rw [hlen]; exact hb)
  rw [hat b hb] at h1
  rw [Nat.zero_add] at h2
  have hself : wayF 7 (dec emL c) a a (-1) = some [a] := by unfold wayF; rw [if_pos rfl]
  refine ⟨l, h1, fun e => ?_, fun hl => ?_, fun hr => ?_⟩
  · have hab : a ≠ b := fun q => by
      subst q
      rw [hself] at h1
      injection h1 with h1
      rw [← h1] at e
      cases e
    have := h2 e
    refine ⟨_, ?_, this.1, this.2.symm⟩
    have hx := eIx_lt a ha b hb hab
    have := Nat.or_lt_two_pow (n := 15) (x := c) (y := 1 <<< eIx a b) hc (by rw [Nat.one_shiftLeft]; exact Nat.pow_lt_pow_right (by decide) hx)
    exact this
  · exact way_seen 7 _ a b (-1) l _ h1 hl ha hb (by rw [Nat.one_shiftLeft, Nat.testBit_two_pow]; simp)
  · have hC := reach_in (closed_shut hw.2) ((reachM_bit _ 0 a).2 ⟨a, by rw [hlen]; exact ha, by omega, a, [], by rw [hat a ha, hself]⟩) hb hr
    obtain ⟨i, hi, e, y, r, q⟩ := (reachM_bit _ 0 b).1 hC
    obtain rfl : b = i := by omega
    rw [hat b hb, h1] at q
    injection q with q
    rw [q]
    simp
end Go.Proofs.Ytnkceajhhiidcaa
