/- One append of conditions that lie in a row, with all that it leaves as it lay. -/
import Derived.Test.YtfffmndjgjfflaaGreatDoorTurnR
import Derived.Deep.AppendLies
namespace Go.Proofs.YtfffmndjgjfflaaGreatDoor
open Go.RowKit Go.Shelf Go.Sort
open Go.Proofs
set_option maxRecDepth 100000

theorem appendN_run (B : Nat) (es ds : List Cn) (v : Value) (W : World) (b o c m n : Nat) (hown : OwnC W B v es) (hrow : RowC W b o ds) (hm : ds.length = m) (hn : (es ++ ds).length = n) (hB : B ≤ W.heap.size) (hl : n < 256) :
    ∃ ro rcap w3, Sem.run Tryz.prog (appendS #[22, 22] 22 #[v, .slice (some ⟨b, o, none⟩) m c]) W = .ok (.slice ro n rcap) w3 ∧
      Aside (OwnC w3 B (.slice ro n rcap) (es ++ ds) ∧ Below B W w3 ∧ W.grownBy w3 v.ownBlock ∧ ((Value.slice ro n rcap).ownBlock = v.ownBlock ∨ (Value.slice ro n rcap).ownBlock = some W.heap.size)) := by
  subst hm
  have hlen : (es ++ ds).length = es.length + ds.length := List.length_append
  obtain ⟨i0, z0, hi, hz0, hz1, hz2, hz3⟩ := cond_info
  have hone : ∀ u ∈ ds.flatMap encC, u.oneCell' = true := fun u hu => by
    obtain ⟨a, _, ha⟩ := List.mem_flatMap.1 hu
    exact encC_one a u ha
  obtain ⟨v', w3, hrun, hown4, hg, _, hob⟩ := run_append_own_at (P := Tryz.prog) W B 22 22 31 i0 z0 7 72 Tryz.underlying22 hi hz0 hz1 hz2 hz3 (by decide) _ _ _ hown ⟨b, o, none⟩ ds.length c (ds.flatMap encC) (flatC_len ds) (rowC_news hrow) hone (by unfold maxLen; omega) (by omega) hB
  have hown5 : OwnC w3 B v' (es ++ ds) := by
    show w3.ownsRow B _ 7 v' (es ++ ds).length ((es ++ ds).flatMap encC)
    rw [List.length_append, List.flatMap_append]
    exact hown4
  obtain ⟨ro, rcap, rfl, _⟩ := ownC_conds hown5
  rw [hn] at hrun hown5 hob
  exact ⟨ro, rcap, w3, hrun, hown5, (Below.refl B W).grown hg hB (fun k e => (hown.lt k e).1), hg, hob⟩
/-- What behind an append lies as it lay: all but the row that it was laid behind. -/
theorem grown_at {W w3 : World} {v : Value} {g i : Nat} {u : Value} (hg : W.grownBy w3 v.ownBlock) (hlt : g < W.heap.size) (hne : ∀ k, v.ownBlock = some k → k ≠ g) (h : W.cell? ⟨g, i, none⟩ = some u) : w3.cell? ⟨g, i, none⟩ = some u := by
  rw [World.grownBy.cell_far hg ⟨g, i, none⟩ hlt (fun e => hne g e.symm rfl)]; exact h
theorem grown_fr {W w3 : World} {v : Value} {g i : Nat} (hg : W.grownBy w3 v.ownBlock) (hlt : g < W.heap.size) (hne : ∀ k, v.ownBlock = some k → k ≠ g) (h : W.frozen? ⟨g, i, none⟩ = false) : w3.frozen? ⟨g, i, none⟩ = false := by
  rw [World.grownBy.frozen_far hg ⟨g, i, none⟩ hlt (fun e => hne g e.symm rfl)]; exact h
/-- Conditions that lie, behind a store in another block. -/
theorem conds_put {W : World} {ro : Option Addr} {L : List Cn} {P o : Nat} {v : Value} (h : CondsB W.heap.size W ro L) (hne : ∀ b off, ro = some ⟨b, off, none⟩ → b ≠ P) : CondsB (W.setCell ⟨P, o, none⟩ v).heap.size (W.setCell ⟨P, o, none⟩ v) ro L := by
  rcases h with h | ⟨b, off, h1, h2, h3⟩
  · exact Or.inl h
  · have := hne b off h1
    refine Or.inr ⟨b, off, h1, by simpa using h2, fun j hj c u hu => ?_⟩
    rw [World.cell?_of_block (w := W) (Below.heap_setCell W _ _ b (by show b ≠ P; omega))]
    exact h3 j hj c u hu
/-- A filter that the call itself has laid. -/
def LaidF (wx : World) (lo P : Nat) (sc : ByteArray) (ro : Option Addr) (n rcap : Nat) (l : List Cn) : Prop :=
  lo ≤ P ∧ P < wx.heap.size ∧ (wx.cell? ⟨P, 0, none⟩ = some (.string sc) ∧ wx.cell? ⟨P, 1, none⟩ = some (.slice ro n rcap)) ∧ CondsB wx.heap.size wx ro l
theorem ownC_cs {w : World} {B : Nat} {ro : Option Addr} {n c : Nat} {l : List Cn} (h : OwnC w B (.slice ro n c) l) : CondsB w.heap.size w ro l := by
  obtain ⟨ao, cap, hv, hc, _⟩ := ownC_conds h
  injection hv with e1 _ _
  subst e1
  exact hc
theorem ownC_ne {w : World} {B : Nat} {ro : Option Addr} {n c P : Nat} {l : List Cn} (h : OwnC w B (.slice ro n c) l) (hne : ∀ k, (Value.slice ro n c).ownBlock = some k → k ≠ P) : ∀ b off, ro = some ⟨b, off, none⟩ → b ≠ P := fun b off e => by
  rcases h.2 with ⟨hv, _⟩ | ⟨g, cap, cur, hv, _⟩
  · injection hv with e1; subst e1; cases e
  · injection hv with e1
    subst e1
    injection e with e
    injection e with e1 _ _
    subst e1
    exact hne g rfl
theorem laidF_new {W : World} {B lo : Nat} {sc : ByteArray} {ro : Option Addr} {n c : Nat} {l : List Cn} (t : TypeId) (h : OwnC W B (.slice ro n c) l) (hlo : lo ≤ W.heap.size) : LaidF (W.alloc (.cells #[.string sc, .slice ro n c] t)) lo W.heap.size sc ro n c l :=
  ⟨hlo, by simp, ⟨one_lay (Below.refl _ _) 0 _ rfl, one_lay (Below.refl _ _) 1 _ rfl⟩, (ownC_cs h).on ((Below.refl _ _).alloc (Nat.le_refl _) _)⟩
theorem laidF_put {W : World} {B lo P : Nat} {sc : ByteArray} {ro : Option Addr} {n c : Nat} {l : List Cn} {u0 u1 : Value} (h : OwnC W B (.slice ro n c) l) (hlo : lo ≤ P) (hP : P < W.heap.size) (hne : ∀ k, (Value.slice ro n c).ownBlock = some k → k ≠ P)
    (h0 : W.cell? ⟨P, 0, none⟩ = some u0) (h1 : W.cell? ⟨P, 1, none⟩ = some u1) : LaidF ((W.setCell ⟨P, 0, none⟩ (.string sc)).setCell ⟨P, 1, none⟩ (.slice ro n c)) lo P sc ro n c l := by
  refine ⟨hlo, by simpa using hP, ⟨?_, ?_⟩, conds_put (conds_put (ownC_cs h) (ownC_ne h hne)) (ownC_ne h hne)⟩
  · rw [oth (by decide)]; exact World.cell?_setCell_same _ _ _ h0
  · exact World.cell?_setCell_same _ _ _ (by rw [oth (by decide)]; exact h1)
/-- A condition in an array of its own. -/
theorem rowX (c : Cn) (W : World) (t : TypeId) : RowC (W.alloc (.cells #[.string c.a.nm, .int .i64 c.op, .int .i64 c.a.k, .int .i64 c.a.n, .float .f64 c.a.x, .string c.a.s, .bool c.a.y] t)) W.heap.size 0 [c] := fun j hj i v hv => by
  obtain rfl : j = 0 := by simpa using hj
  rw [show 0 + 0 * 7 + i = i by omega, World.cell?_alloc_new]
  have e : (encC [c][0]!)[i]? = (encC c)[i]? := rfl
  rw [e] at hv
  rw [← hv]
  unfold encC
  simp
theorem lay_at (W : World) {cs : Array Value} {t : TypeId} (g i : Nat) (v : Value) (h : cs[i]? = some v) (hg : g = W.heap.size) : (W.alloc (.cells cs t)).cell? ⟨g, i, none⟩ = some v := by
  subst hg; exact one_lay (Below.refl _ _) i v h
theorem lay_at2 (W : World) (o : Obj) {cs : Array Value} {t : TypeId} (i : Nat) (v : Value) (h : cs[i]? = some v) : ((W.alloc (.cells cs t)).alloc o).cell? ⟨W.heap.size, i, none⟩ = some v :=
  one_lay ((Below.refl _ _).alloc (by simp) _) i v h
theorem fr_at (W : World) {cs : Array Value} {t : TypeId} (g i : Nat) (hg : g = W.heap.size) : (W.alloc (.cells cs t)).frozen? ⟨g, i, none⟩ = false := by
  subst hg; exact alloc_frozen _ _ _ _
theorem fr_at2 (W : World) (o : Obj) {cs : Array Value} {t : TypeId} (i : Nat) : ((W.alloc (.cells cs t)).alloc o).frozen? ⟨W.heap.size, i, none⟩ = false := by
  rw [((Below.refl (W.heap.size + 1) (W.alloc (.cells cs t))).alloc (by simp) o).frozen (p := ⟨W.heap.size, i, none⟩) (Nat.lt_succ_self _)]; exact alloc_frozen _ _ _ _
end Go.Proofs.YtfffmndjgjfflaaGreatDoor
