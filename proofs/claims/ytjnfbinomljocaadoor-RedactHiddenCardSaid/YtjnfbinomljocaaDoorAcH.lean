/- acl's of and Home, of any rules. -/
import Derived.Test.YtjnfbinomljocaaDoorBackR
import Derived.Test.YtjnfbinomljocaaDoorAcR
import Derived.RangeFuncBox
import Derived.Maps.AppendAt
namespace Go.Proofs.YtjnfbinomljocaaDoor
open Go.RowKit Go.Shelf
open Go.Proofs
set_option maxRecDepth 100000
attribute [local go_sem] Oper.semAt_some

/-! ### Home -/
theorem boxR_under {n : Nat} {W W' : World} {B : Nat} {t : TypeId} {v : Value} (h : Boxed W B t v) (hb : Below n W W') (hn : W.heap.size ≤ n) : Boxed W' B t v := (hb.block B (Nat.lt_of_lt_of_le h.lt hn)).trans h
theorem keepsR_below {n B : Nat} {W W' : World} (hb : Below n W W') (hn : W.heap.size ≤ n) : KeepsFrom B W W' := ⟨hb.size, fun k _ _ hk _ => (hb.block k (Nat.lt_of_lt_of_le (Array.getElem?_eq_some_iff.1 hk).1 hn)).trans hk⟩
theorem keepRb {n₀ Bs : Nat} {w : World} (hn : n₀ ≤ w.heap.size) (W : World) (l : Nat) (o o' : Obj) (hl : w.heap.size ≤ l) (h : W.heap[l]? = some o) (hc : o.isCells = false) (hw : o.isWalk = false) : KeepR n₀ Bs W (W.putObj l o') := by
  refine ⟨belowK_b hn W l o o' hl h hc hw, fun v hv => ?_⟩
  have hne : Bs ≠ l := fun e => by
    subst e
    simp only [World.cell?, h] at hv
    cases o <;> simp_all [Obj.isCells]
  have e : (W.putObj l o').heap[Bs]? = W.heap[Bs]? := World.putObj_heap_other hne
  simp only [World.cell?, e]
  exact hv
/-- The blocks of its own. -/
structure HomeI (w : World) (tn : Int) (who : ByteArray) (v : Int) (b : Bool) (W : World) : Prop where
  t : Boxed W w.heap.size 3 (.int .i64 tn)
  s : Boxed W (w.heap.size + 1) 9 (.string who)
  n : Boxed W (w.heap.size + 2) 3 (.int .i64 v)
  b : Boxed W (w.heap.size + 3) 4 (.bool b)
  below : Below w.heap.size w W
  size : w.heap.size + 5 ≤ W.heap.size
theorem HomeI.under {w W W' : World} {tn : Int} {who : ByteArray} {v : Int} {b : Bool} (h : HomeI w tn who v b W) (hb : Below W.heap.size W W') : HomeI w tn who v b W' :=
  ⟨boxR_under h.t hb (Nat.le_refl _), boxR_under h.s hb (Nat.le_refl _), boxR_under h.n hb (Nat.le_refl _), boxR_under h.b hb (Nat.le_refl _), h.below.trans (hb.mono h.below.size), Nat.le_trans h.size hb.size⟩
theorem HomeI.kept {B : Nat} {w W W' : World} {tn : Int} {who : ByteArray} {v : Int} {b : Bool} {row : Option Nat} (hB : w.heap.size ≤ B) (h : HomeI w tn who v b W) (hg : W.grownBy W' row) (hr : ∀ k, row = some k → B ≤ k ∧ ∃ o, W.heap[k]? = some o ∧ o.isCells = false) : HomeI w tn who v b W' := by
  have ne : ∀ (k : Nat) (t : TypeId) (v : Value), Boxed W k t v → Boxed W' k t v := fun k t v hk => by
    refine (hg.block k hk.lt (fun e => ?_)).trans hk
    obtain ⟨_, o, ho, hc⟩ := hr k e.symm
    have hk' : W.heap[k]? = _ := hk
    rw [hk'] at ho; cases ho; cases hc
  exact ⟨ne _ _ _ h.t, ne _ _ _ h.s, ne _ _ _ h.n, ne _ _ _ h.b, h.below.grown hg h.below.size (fun k e => Nat.le_trans hB (hr k e).1), Nat.le_trans h.size hg.size⟩
def homeI (rs : List Ru) (tn : Int) (who : ByteArray) : Int := (homeR rs tn who).getD 0
def homeB (rs : List Ru) (tn : Int) (who : ByteArray) : Bool := (homeR rs tn who).isSome
theorem backsR_map (rs : List Ru) (k : Nat) (hk : k ≤ rs.length) : (backsR rs k).map (·.2) = rs.reverse.take k := by
  apply List.ext_getElem
  · simp [backsR]; omega
  · intro j h1 h2
    simp only [backsR, List.length_map, List.length_range] at h1
    have hlt : rs.length - 1 - j < rs.length := by omega
    simp [backsR, hlt]
theorem homeR_none {rs : List Ru} {tn : Int} {who : ByteArray} (h : ∀ x ∈ backsR rs rs.length, ofR x.2 0 tn who = false) : homeR rs tn who = none := by
  unfold homeR
  have e := backsR_map rs rs.length (Nat.le_refl _)
  rw [List.take_of_length_le (by simp)] at e
  rw [List.find?_eq_none.2, Option.map_none]
  intro r hr
  rw [← e] at hr
  obtain ⟨x, hx, rfl⟩ := List.mem_map.1 hr
  simp [h x hx]
theorem homeR_some {rs : List Ru} {tn : Int} {who : ByteArray} {pre : List (Nat × Ru)} {x : Nat × Ru} {k : Nat} (hk : k ≤ rs.length) (he : pre ++ [x] = backsR rs k) (h : ∀ y ∈ pre, ofR y.2 0 tn who = false) (hx : ofR x.2 0 tn who = true) : homeR rs tn who = some x.2.br := by
  unfold homeR
  have e := backsR_map rs k hk
  rw [← he, List.map_append] at e
  have e2 : rs.reverse = (pre.map (·.2) ++ [x.2]) ++ rs.reverse.drop k := by
    have := (List.take_append_drop k rs.reverse).symm
    rw [← e] at this; simpa using this
  rw [e2, List.append_assoc, List.find?_append, List.find?_eq_none.2 (by
    intro r hr
    obtain ⟨y, hy, rfl⟩ := List.mem_map.1 hr
    simp [h y hy])]
  simp [hx]

end Go.Proofs.YtjnfbinomljocaaDoor
