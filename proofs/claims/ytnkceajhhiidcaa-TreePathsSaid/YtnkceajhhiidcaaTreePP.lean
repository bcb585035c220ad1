/- For TreePaths: all ways of all trees, plainly; a set of numbers that a call keeps. -/
import Derived.Test.YtnkceajhhiidcaaTreeEnds
import Derived.Maps.Own
import Derived.Maps.OwnSet
import Derived.Maps.Views
namespace Go.Proofs.Ytnkceajhhiidcaa
open Go.RowKit Go.Shelf Go.Sort
open Go.Proofs Go.Maps
set_option maxRecDepth 100000

def nodupB : List Nat → Bool
  | [] => true
  | x :: l => !l.contains x && nodupB l
theorem nodupB_iff : ∀ l, nodupB l = true → l.Nodup
  | [], _ => List.nodup_nil
  | x :: l, h => by
    unfold nodupB at h
    simp only [Bool.and_eq_true, Bool.not_eq_true', List.contains_eq_mem, decide_eq_false_iff_not] at h
    exact List.nodup_cons.2 ⟨h.1, nodupB_iff l h.2⟩
def wayOkB (n m x y : Nat) (l : List Nat) : Bool :=
  !l.isEmpty && l[0]! == x && l[l.length - 1]! == y && ((x == y) == (l.length == 1)) && nodupB l && (List.range l.length).all fun i => i == 0 || linkedP n m l[i - 1]! l[i]!
def pathsB (n m : Nat) : Bool := (List.range n).all fun x => (List.range n).all fun y => wayB (pathP n m x y) fun l => wayOkB n m x y l && wayB (pathP n m y x) fun l2 => l2 == l.reverse
theorem paths_all : allK (fun n k => newB (newP n (prs (fun i => ((i : Nat), (k i : Nat))) n)) (pathsB n)) = true := by kernel_rfl
theorem paths_get (n : Nat) (h1 : 1 ≤ n) (h6 : n ≤ 6) (k : Nat → Nat) (hk : ∀ i, 1 ≤ i → k i < i) : ∃ m, newP n (prs (fun i => ((i : Nat), (k i : Nat))) n) = some (.ok m) ∧
    ∀ x y, x < n → y < n → ∃ l, pathP n m x y = some l ∧ pathP n m y x = some l.reverse ∧ l ≠ [] ∧ l[0]! = x ∧ l[l.length - 1]! = y ∧ (x = y ↔ l.length = 1) ∧ l.Nodup ∧ ∀ i, 1 ≤ i → i < l.length → linkedP n m l[i - 1]! l[i]! = true := by
  have := allK_get paths_all (fun n k k' _ h => by
    have e : prs (fun i => ((i : Nat), (k i : Nat))) n = prs (fun i => ((i : Nat), (k' i : Nat))) n := prs_congr n fun i h1 h2 => by rw [h i h1 h2]
    rw [e]) n h1 h6 k hk
  obtain ⟨m, hm, hb⟩ := newB_iff this
  refine ⟨m, hm, fun x y hx hy => ?_⟩
  unfold pathsB at hb
  simp only [List.all_eq_true, List.mem_range] at hb
  obtain ⟨l, q1, q2⟩ := wayB_iff (hb x hx y hy)
  rw [Bool.and_eq_true] at q2
  obtain ⟨q2, q3⟩ := q2
  obtain ⟨l2, q4, q5⟩ := wayB_iff q3
  obtain rfl : l2 = l.reverse := by simpa using q5
  unfold wayOkB at q2
  simp only [Bool.and_eq_true, beq_iff_eq, Bool.not_eq_true', List.isEmpty_eq_false_iff, List.all_eq_true, List.mem_range, Bool.or_eq_true] at q2
  obtain ⟨⟨⟨⟨⟨a1, a2⟩, a3⟩, a4⟩, a5⟩, a6⟩ := q2
  refine ⟨l, q1, q4, a1, a2, a3, ?_, nodupB_iff l a5, fun i hi hl => ?_⟩
  · constructor
    · intro e
      rw [beq_iff_eq.2 e] at a4
      exact beq_iff_eq.1 a4.symm
    · intro e
      rw [beq_iff_eq.2 e] at a4
      exact beq_iff_eq.1 a4
  · rcases a6 i hl with h | h
    · omega
    · exact h
/-- A map's elements read as themselves. -/
def asIs (v : Value) : Option (DataW Value × List MemPlace) := some (.held v, [])
def keyI (c : Nat) : Lit := .int .i64 (c : Int)
theorem keyI_lit (c : Nat) : WideAt.IsKeyLit (keyI c) := trivial
theorem keyI_inj {a b : Nat} (h : keyI a = keyI b) : a = b := by
  unfold keyI at h; injection h with _ h; omega
def mapI : List Nat → DataW Value
  | [] => .map []
  | a :: l => (mapI l).put (keyI a) (.held (.bool true))
theorem mapI_at (z : DataW Value) (c : Nat) : ∀ l, c ∉ l → (mapI l).atKey (keyI c) z = z
  | [], _ => rfl
  | a :: l, h => by
    unfold mapI
    rw [List.mem_cons, not_or] at h
    rw [atKey_put_other (fun e => h.1 (keyI_inj e))]
    exact mapI_at z c l h.2
abbrev SetI (W : World) (b : Nat) (l : List Nat) : Prop := W.ownsMap Try.prog 3 asIs b l.length (mapI l)
theorem key_of (c : Nat) (hc : c < 1000) : keyOf Try.prog 3 (.int .i64 (c : Int)) = some (keyI c) := keyOf_int_mk Try.underlying3 (by
  simp only [Lit.wf, Bool.and_eq_true, decide_eq_true_eq]
  rw [show IntKind.i64.min = -9223372036854775808 by decide, show IntKind.i64.max = 9223372036854775807 by decide]
  omega)
theorem set_new (W : World) : SetI (W.alloc (.map #[] 0)) W.heap.size [] := World.ownsMap_made W _ _ _
theorem set_look {W : World} {b : Nat} {l : List Nat} (h : SetI W b l) (c : Nat) (hc : c < 1000) (hn : c ∉ l) : Sem.run Try.prog (Instr.lookup 37 (.map (some b)) (.int .i64 (c : Int)) false) W = .ok (.bool false) W := by
  obtain ⟨v, ps, hrun, hv⟩ := World.ownsMap.lookup h (int_keyed Try.underlying3) Try.underlying37 (e := 4) (z := .bool false) (by kernel_rfl) (zd := .held (.bool false)) (zp := []) rfl (key_of c hc)
  rw [mapI_at _ c l hn] at hv
  unfold asIs at hv
  injection hv with hv
  injection hv with hv
  injection hv with hv
  subst hv
  exact hrun
theorem set_put {W : World} {b : Nat} {l : List Nat} (h : SetI W b l) (c : Nat) (hc : c < 1000) (hl : l.length < 1000) : ∃ w', Sem.run Try.prog (Instr.mapUpdate 37 (.map (some b)) (.int .i64 (c : Int)) (.bool true)) W = .ok () w' ∧ SetI w' b (c :: l) ∧ W.grownBy w' (some b) := by
  obtain ⟨w', h1, h2, h3⟩ := World.ownsMap.update h (int_keyed Try.underlying3) Try.underlying37 (by unfold maxLen; omega) (key_of c hc) (val := .bool true) (d := .held (.bool true)) (ps := []) rfl
  exact ⟨w', h1, h2, h3⟩
end Go.Proofs.Ytnkceajhhiidcaa
