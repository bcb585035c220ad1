/- A tree in memory: where its rows lie; has, Len. -/
import Derived.Test.YtnkceajhhiidcaaTreeP
import Derived.Test.YtnkceajhhiidcaaRows
import Derived.WalkKit
import Derived.Deep.OwnRows
import Derived.Deep.LoopGhost
import Derived.Deep.DeepCutAuto
import Derived.Deep.RegionWith
import Derived.Laws.AppendOwn
import Derived.Laws.OwnMore
import Derived.KernelRfl
import Derived.Lib.Hide
namespace Go.Proofs.Ytnkceajhhiidcaa
open Go.RowKit
open Go.Proofs
set_option maxRecDepth 100000

abbrev tp (T : Nat) : Value := .pointer (some ⟨T, 0, none⟩)
abbrev vi (l : List Nat) : List Value := l.map fun k : Nat => Value.int .i64 (k : Int)
/-- Numbers that lie in a row from its block's beginning on. -/
def IntsAt (W : World) (ao : Option Addr) (l : List Nat) : Prop :=
  l = [] ∨ ∃ g, ao = some ⟨g, 0, none⟩ ∧ g < W.heap.size ∧ ∀ j, j < l.length → W.cell? ⟨g, j, none⟩ = some (.int .i64 ((l[j]! : Nat) : Int))
/-- A tree at T, its rows' row at N. -/
structure Tr (W : World) (T N n m : Nat) : Prop where
  hn : n ≤ 6
  ord : N < T
  ht : W.rowIs T 43 1 (fun _ => .slice (some ⟨N, 0, none⟩) n n)
  rows : ∃ V : Nat → Value, W.rowIs N 33 n V ∧ (∀ i, i < n → W.ownsRow (T + 1) 3 1 (V i) (row m i).length (vi (row m i))) ∧
    ∀ i j, i < n → j < n → i ≠ j → ∀ g, (V i).ownBlock = some g → (V j).ownBlock ≠ some g
  cl : ∀ i, i < n → ∀ x ∈ row m i, x < n

theorem IntsAt.below {w W : World} {ao : Option Addr} {l : List Nat} (h : IntsAt w ao l) (hb : Below w.heap.size w W) : IntsAt W ao l := by
  rcases h with h | ⟨g, h1, h2, h3⟩
  · exact Or.inl h
  · exact Or.inr ⟨g, h1, Nat.lt_of_lt_of_le h2 hb.size, fun j hj => (hb.cell (p := ⟨g, j, none⟩) h2).trans (h3 j hj)⟩
theorem owns_block {w W : World} {B : Nat} {e : TypeId} {s k : Nat} {v : Value} {xs : List Value} (h : w.ownsRow B e s v k xs) (hb : ∀ g, v.ownBlock = some g → W.heap[g]? = w.heap[g]?) : W.ownsRow B e s v k xs := by
  obtain ⟨h1, h2⟩ := h
  refine ⟨h1, ?_⟩
  rcases h2 with h2 | ⟨g, cap, cur, rfl, hbg, hg, hr⟩
  · exact Or.inl h2
  · exact Or.inr ⟨g, cap, cur, rfl, hbg, (hb g rfl).trans hg, hr⟩
theorem owns_ints {W : World} {B : Nat} {v : Value} {l : List Nat} (h : W.ownsRow B 3 1 v l.length (vi l)) : ∃ ao cap, v = .slice ao l.length cap ∧ IntsAt W ao l := by
  have h' := h
  rcases h.2 with ⟨rfl, h0⟩ | ⟨g, cap, cur, rfl, hbg, hg, hnc, hcm, hcs, htake⟩
  · have : l = [] := List.eq_nil_of_length_eq_zero h0
    subst this
    exact ⟨none, 0, rfl, Or.inl rfl⟩
  · refine ⟨_, _, rfl, Or.inr ⟨g, rfl, (Array.getElem?_eq_some_iff.1 hg).1, fun j hj => ?_⟩⟩
    rw [h'.cellAt j (by omega), getElem!_pos l j hj]
    simp [hj]
namespace Tr
variable {w W : World} {T N n m : Nat}
theorem below (h : Tr w T N n m) (hb : Below w.heap.size w W) : Tr W T N n m := by
  obtain ⟨hn, ord, ht, ⟨V, hV, hr, hd⟩, cl⟩ := h
  refine ⟨hn, ord, ht.of_block (hb.block _ ht.lt), ⟨V, hV.of_block (hb.block _ hV.lt), fun i hi => owns_block (hr i hi) fun g hg => hb.block g ((hr i hi).lt g hg).2, hd⟩, cl⟩
theorem tcell (h : Tr W T N n m) : W.cell? ⟨T, 0, none⟩ = some (.slice (some ⟨N, 0, none⟩) n n) := h.ht.cell (by omega)
theorem at_ (h : Tr W T N n m) (i : Nat) (hi : i < n) : ∃ ao cap, W.cell? ⟨N, i, none⟩ = some (.slice ao (row m i).length cap) ∧ IntsAt W ao (row m i) := by
  obtain ⟨hn, ord, ht, ⟨V, hV, hr, hd⟩, cl⟩ := h
  obtain ⟨ao, cap, h1, h2⟩ := owns_ints (hr i hi)
  exact ⟨ao, cap, by rw [← h1]; exact hV.cell hi, h2⟩
end Tr

def hasB (n : Nat) (b : Int) : Bool := decide (0 ≤ b) && decide (b < n)
set_option maxHeartbeats 1000000 in
theorem has_c (T N n m : Nat) (b : Int) (w : World) (h : Tr w T N n m) : Calls Try.prog 15 #[tp T, .int .i64 b] w fun e w' => e = .returned (.bool (hasB n b)) ∧ w = w' := by
  have ct := h.tcell
  have hn := h.hn
  clear h
  unfold hasB
  by_cases h0 : 0 ≤ b
  · by_cases h1 : b < n
    · have d0 : decide (0 ≤ b) = true := by simpa using h0
      have d1 : decide (b < (n : Int)) = true := by simpa using h1
      go_enter Try.func15, Try.ntmps15
      go_wp2_with fail
      go_ret
      exact ⟨by simp [d0, d1], rfl⟩
    · have d0 : decide (0 ≤ b) = true := by simpa using h0
      have d1 : decide (b < (n : Int)) = false := by simpa using h1
      go_enter Try.func15, Try.ntmps15
      go_wp2_with fail
      go_ret
      exact ⟨by simp, rfl⟩
  · have d0 : decide (0 ≤ b) = false := by simpa using h0
    go_enter Try.func15, Try.ntmps15
    go_wp2_with fail
    go_ret
    exact ⟨by simp, rfl⟩
set_option maxHeartbeats 1000000 in
theorem len_c (T N n m : Nat) (w : World) (h : Tr w T N n m) : Calls Try.prog 10 #[tp T] w fun e w' => e = .returned (.int .i64 n) ∧ w = w' := by
  have ct := h.tcell
  have hn := h.hn
  clear h
  go_enter Try.func10, Try.ntmps10
  go_wp2_with fail
  go_ret
  exact ⟨rfl, rfl⟩
end Go.Proofs.Ytnkceajhhiidcaa
