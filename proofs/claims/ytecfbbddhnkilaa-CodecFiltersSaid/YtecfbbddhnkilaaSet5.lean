/- A value's five cells, set. -/
import Derived.Test.YtecfbbddhnkilaaAtP
import Derived.Test.YtecfbbddhnkilaaRd1
namespace Go.Proofs.Ytecfbbddhnkilaa
open Go.RowKit Go.Shelf Go.Sort
open Go.Proofs
set_option maxRecDepth 100000

/-- A value's cells; values that lie one behind the other. -/
def enc5 (a : At) : List Value := [.int .i64 a.k, .int .i64 a.n, .float .f64 a.x, .string a.s, .bool a.y]
theorem sameV_refl (k n : Int) (x : Nat) (s : ByteArray) (y : Bool) : (k == k && sameV k n n x x s s y y) = true := by
  unfold sameV
  simp
theorem enc5_len (a : At) : (enc5 a).length = 5 := rfl
/-- A value's five cells, set. -/
def set5 (W : World) (g q : Nat) (a : At) : World := ((((W.setCell ⟨g, q, none⟩ (.int .i64 a.k)).setCell ⟨g, q + 1, none⟩ (.int .i64 a.n)).setCell ⟨g, q + 2, none⟩ (.float .f64 a.x)).setCell ⟨g, q + 3, none⟩ (.string a.s)).setCell ⟨g, q + 4, none⟩ (.bool a.y)
theorem set5_other (W : World) (g q i : Nat) (a : At) (h : i < q ∨ q + 5 ≤ i) : (set5 W g q a).cell? ⟨g, i, none⟩ = W.cell? ⟨g, i, none⟩ := by
  unfold set5
  rw [oth (by omega), oth (by omega), oth (by omega), oth (by omega), oth (by omega)]
theorem set5_at (W : World) (g q : Nat) (a b : At) (h : ∀ c v, (enc5 b)[c]? = some v → W.cell? ⟨g, q + c, none⟩ = some v) (c : Nat) (v : Value) (hv : (enc5 a)[c]? = some v) : (set5 W g q a).cell? ⟨g, q + c, none⟩ = some v := by
  have h0 := h 0 _ rfl; have h1 := h 1 _ rfl; have h2 := h 2 _ rfl; have h3 := h 3 _ rfl; have h4 := h 4 _ rfl
  rw [Nat.add_zero] at h0
  have hc : c < 5 := by have := (List.getElem?_eq_some_iff.1 hv).1; rw [enc5_len] at this; exact this
  have hsame : ∀ (X : World) (i : Nat) (u v : Value), X.cell? ⟨g, i, none⟩ = some u → (X.setCell ⟨g, i, none⟩ v).cell? ⟨g, i, none⟩ = some v := fun X i u v h => World.cell?_setCell_same X ⟨g, i, none⟩ v h
  unfold set5
  obtain ⟨k, n, x, s, y, hk⟩ : ∃ k n x s y, enc5 a = [k, n, x, s, y] ∧ (k = .int .i64 a.k ∧ n = .int .i64 a.n ∧ x = .float .f64 a.x ∧ s = .string a.s ∧ y = .bool a.y) := ⟨_, _, _, _, _, rfl, rfl, rfl, rfl, rfl, rfl⟩
  obtain ⟨he, ek, en, ex, es, ey⟩ := hk
  rw [← ek, ← en, ← ex, ← es, ← ey]
  rw [he] at hv
  clear he ek en ex es ey h
  rcases (show c = 0 ∨ c = 1 ∨ c = 2 ∨ c = 3 ∨ c = 4 by omega) with rfl | rfl | rfl | rfl | rfl
  · obtain rfl : k = v := by simpa using hv
    rw [Nat.add_zero, oth (by omega), oth (by omega), oth (by omega), oth (by omega)]; exact hsame _ _ _ _ h0
  · obtain rfl : n = v := by simpa using hv
    rw [oth (by omega), oth (by omega), oth (by omega)]; exact hsame _ _ _ _ ((oth (by omega)).trans h1)
  · obtain rfl : x = v := by simpa using hv
    rw [oth (by omega), oth (by omega)]; exact hsame _ _ _ _ ((oth (by omega)).trans ((oth (by omega)).trans h2))
  · obtain rfl : s = v := by simpa using hv
    rw [oth (by omega)]; exact hsame _ _ _ _ ((oth (by omega)).trans ((oth (by omega)).trans ((oth (by omega)).trans h3)))
  · obtain rfl : y = v := by simpa using hv
    exact hsame _ _ _ _ ((oth (by omega)).trans ((oth (by omega)).trans ((oth (by omega)).trans ((oth (by omega)).trans h4))))
theorem set5_kb (W : World) (g q : Nat) (a : At) : Kb (fun k => k = g) W (set5 W g q a) :=
  ((((Kb.setCell (S := fun k => k = g) W ⟨g, q, none⟩ rfl _).trans (Kb.setCell (S := fun k => k = g) _ ⟨g, q + 1, none⟩ rfl _)).trans (Kb.setCell (S := fun k => k = g) _ ⟨g, q + 2, none⟩ rfl _)).trans (Kb.setCell (S := fun k => k = g) _ ⟨g, q + 3, none⟩ rfl _)).trans (Kb.setCell (S := fun k => k = g) _ ⟨g, q + 4, none⟩ rfl _)
theorem set5_frozen (W : World) (g q : Nat) (a : At) (p : Addr) : (set5 W g q a).frozen? p = W.frozen? p := by
  unfold set5
  rw [World.frozen?_setCell, World.frozen?_setCell, World.frozen?_setCell, World.frozen?_setCell, World.frozen?_setCell]
end Go.Proofs.Ytecfbbddhnkilaa
