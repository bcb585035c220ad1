/- codec.Reader: Event. -/
import Derived.Test.YtecfbbddhnkilaaRd5
import Derived.Test.YtecfbbddhnkilaaAttrRow
import Derived.Test.YtecfbbddhnkilaaRightE
import Derived.Deep.RegionWith
namespace Go.Proofs.Ytecfbbddhnkilaa
open Go.RowKit Go.Shelf Go.Sort
open Go.Proofs
set_option maxRecDepth 100000
attribute [local go_sem ↓] append_pre

def rAttr (l : List UInt8) : Option (At × List UInt8) := match rText l with
  | none => none
  | some (nm, t) => rValue nm t
def rAttrs : Nat → List UInt8 → Option (List At × List UInt8)
  | 0, l => some ([], l)
  | n + 1, l => match rAttr l with
    | none => none
    | some (a, t) => (rAttrs n t).map fun p => (a :: p.1, p.2)
/-- The event that bytes are, and what is left of them. -/
def rEvent (l : List UInt8) : Option ((ByteArray × List At) × List UInt8) := match rText l with
  | none => none
  | some (_, []) => none
  | some (sc, c :: t) => match rAttrs c.toNat t with
    | none => none
    | some (es, t3) => if rightE es then some ((sc, es), t3) else none

theorem own_slice3 {w : World} {base : Nat} {e : TypeId} {v : Value} {l : List At} (h : w.ownsRow base e 6 v l.length (l.flatMap encA)) : ∃ ao cap, v = .slice ao l.length cap ∧ (l = [] ∨ ∃ g, ao = some ⟨g, 0, none⟩ ∧ base ≤ g ∧ g < w.heap.size ∧ RowAt w g 0 l) := by
  obtain ⟨ao, cap, rfl, hs⟩ := own_slice h
  refine ⟨ao, cap, rfl, ?_⟩
  rcases hs with hs | ⟨b, off, rfl, h2, h3⟩
  · exact Or.inl hs
  · right
    rcases h.2 with ⟨h0, _⟩ | ⟨g, c2, cur, hv, hbg, _⟩
    · cases h0
    · injection hv with hv1
      injection hv1 with hv2
      injection hv2 with hv3 hv4
      subst hv3 hv4
      exact ⟨b, rfl, hbg, h2, h3⟩

/-- Attributes that lie in blocks from B on; or none. -/
def SliceN (B : Nat) (w : World) (ao : Option Addr) (es : List At) : Prop := es = [] ∨ ∃ b, ao = some ⟨b, 0, none⟩ ∧ B ≤ b ∧ b < w.heap.size ∧ RowAt w b 0 es
def EvPost (R : Nat) (r : Option ((ByteArray × List At) × List UInt8)) (w : World) (e : Ending) (w' : World) : Prop :=
  Kb (· = R) w w' ∧ match r with
  | none => e = .panicked gv
  | some ((sc, es), t) => ∃ ao cap, e = .returned (.agg #[.string sc, .slice ao es.length cap]) ∧ SliceN (w.heap.size + 1) w' ao es ∧ Rd w' R t

theorem own_kb {S : Nat → Prop} {w w' : World} {base : Nat} {e : TypeId} {v : Value} {n : Nat} {xs : List Value} (h : w.ownsRow base e 6 v n xs) (hk : Kb S w w') (hS : ∀ k, base ≤ k → k < w.heap.size → ¬ S k) : w'.ownsRow base e 6 v n xs := by
  obtain ⟨h1, h2⟩ := h
  refine ⟨h1, ?_⟩
  rcases h2 with h2 | ⟨g, cap, cur, hv, hb, hg, hr⟩
  · exact Or.inl h2
  · have hlt : g < w.heap.size := (Array.getElem?_eq_some_iff.1 hg).1
    exact Or.inr ⟨g, cap, cur, hv, hb, (hk.block g hlt (hS g hb hlt)).trans hg, hr⟩

/-- A round's append: what it lays. -/
theorem ev_append (E R B : Nat) (es : List At) (a : At) (ao : Option Addr) (cap : Nat) (wr w2 : World) (hown : wr.ownsRow B 79 6 (.slice ao es.length cap) es.length (es.flatMap encA)) (hk : Kb (· = R) wr w2)
    (hR : R < B) (hEB : E < B) (hEw : E < wr.heap.size) (hB : B ≤ wr.heap.size) (hl : es.length < 256) (he0 : ∃ u, w2.cell? ⟨E, 1, none⟩ = some u) (hf : w2.frozen? ⟨E, 1, none⟩ = false) :
    ∃ ao' cap' w3, Sem.run Try.prog (appendS #[44, 44] 44 #[.slice ao es.length cap, .slice (some ⟨w2.heap.size, 0, none⟩) 1 1])
        (w2.alloc (.cells #[.string a.nm, .int .i64 a.k, .int .i64 a.n, .float .f64 a.x, .string a.s, .bool a.y] 79)) = .ok (.slice ao' (es.length + 1) cap') w3 ∧
      (∃ u, w3.cell? ⟨E, 1, none⟩ = some u) ∧ w3.frozen? ⟨E, 1, none⟩ = false ∧
      Aside (w3.ownsRow B 79 6 (.slice ao' (es ++ [a]).length cap') (es ++ [a]).length ((es ++ [a]).flatMap encA) ∧ Kb (fun k => B ≤ k) w2 w3) := by
  obtain ⟨i0, z0, hi, hz0, hz1, hz2, hz3⟩ := attr_info
  have hS : ∀ k, B ≤ k → k < wr.heap.size → ¬ (k = R) := fun k h1 _ e => by omega
  have hown2 := own_kb hown hk hS
  have hsz := hk.size
  have hown3 : (w2.alloc (.cells (encA a).toArray 79)).ownsRow B 79 6 (.slice ao es.length cap) es.length (es.flatMap encA) := hown2.alloc _
  have hrc := row_cells a w2 79
  obtain ⟨v', w3, hrun, hown4, hg, _⟩ := run_append_own (P := Try.prog) (w2.alloc (.cells (encA a).toArray 79)) B 44 44 79 i0 z0 6 64 Try.underlying44 hi hz0 hz1 hz2 hz3 (by decide) _ _ _ hown3 ⟨w2.heap.size, 0, none⟩ 1 1 (encA a) rfl hrc (encA_one a) (by unfold maxLen; omega) (by omega) (by simp; omega)
  have hown5 : w3.ownsRow B 79 6 v' (es ++ [a]).length ((es ++ [a]).flatMap encA) := by
    rw [List.length_append, List.flatMap_append]
    simpa using hown4
  obtain ⟨ao', cap', rfl, _⟩ := own_slice hown5
  have hk3 : Kb (fun k => B ≤ k) w2 w3 := by
    refine (Kb.alloc _ w2 (.cells (encA a).toArray 79)).trans ⟨hg.os, hg.tape, hg.output, hg.size, fun k hk hS => hg.block k hk fun e => ?_⟩
    exact hS (hown3.lt k e.symm).1
  have hEw2 : E < w2.heap.size := by omega
  refine ⟨ao', cap', w3, ?_, ?_, ?_, hown5, hk3⟩
  · have : (es ++ [a]).length = es.length + 1 := by simp
    rw [this] at hrun
    exact hrun
  · obtain ⟨u, hu⟩ := he0
    exact ⟨u, (hk3.cell (p := ⟨E, 1, none⟩) hEw2 (by show ¬ B ≤ E; omega)).trans hu⟩
  · exact (hk3.frozen (p := ⟨E, 1, none⟩) hEw2 (by show ¬ B ≤ E; omega)).trans hf

/-- What stands between two rounds. -/
structure EvI (w : World) (E R : Nat) (sc : ByteArray) (es : List At) (tj : List UInt8) (ao : Option Addr) (cap : Nat) (W : World) : Prop where
  rd : Rd W R tj
  kb : Kb (· = R) w W
  lt : E < W.heap.size
  own : W.ownsRow (E + 1) 79 6 (.slice ao es.length cap) es.length (es.flatMap encA)
  c0 : W.cell? ⟨E, 0, none⟩ = some (.string sc)
  c1 : W.cell? ⟨E, 1, none⟩ = some (.slice ao es.length cap)
  f1 : W.frozen? ⟨E, 1, none⟩ = false
  ac : W.cell? ⟨w.heap.size, 0, none⟩ = some (.string ⟨#[]⟩) ∧ W.cell? ⟨w.heap.size, 1, none⟩ = some (.slice none 0 0) ∧ W.frozen? ⟨w.heap.size, 0, none⟩ = false ∧ W.frozen? ⟨w.heap.size, 1, none⟩ = false

theorem EvI.as_slice {w : World} {E R : Nat} {sc : ByteArray} {es : List At} {tj : List UInt8} {ao : Option Addr} {cap : Nat} {W : World} (h : EvI w E R sc es tj ao cap W) : SliceA W ao es ∧ True := by
  obtain ⟨ao', cap', hv, hsl⟩ := own_slice h.own
  injection hv with h1 h2 h3
  subst h1
  exact ⟨hsl, trivial⟩
theorem rValue_nm {nm : ByteArray} {l t : List UInt8} {a : At} (h : rValue nm l = some (a, t)) : a.nm = nm := by
  cases l with
  | nil => cases h
  | cons c l =>
    simp only [rValue] at h
    split at h
    · obtain ⟨p, _, he⟩ := Option.map_eq_some_iff.1 h
      simp only [Prod.mk.injEq] at he; rw [← he.1]
    · split at h
      · obtain ⟨p, _, he⟩ := Option.map_eq_some_iff.1 h
        simp only [Prod.mk.injEq] at he; rw [← he.1]
      · split at h
        · obtain ⟨p, _, he⟩ := Option.map_eq_some_iff.1 h
          simp only [Prod.mk.injEq] at he; rw [← he.1]
        · split at h
          · obtain ⟨p, _, he⟩ := Option.map_eq_some_iff.1 h
            simp only [Prod.mk.injEq] at he; rw [← he.1]
          · cases h

theorem ev_round {w : World} {E R : Nat} {sc : ByteArray} {es : List At} {tj : List UInt8} {ao : Option Addr} {cap : Nat} {wr : World} (hI : EvI w E R sc es tj ao cap wr) (hRw : R < w.heap.size) (hwE : w.heap.size < E) (hl : es.length < 256)
    (a : At) (t2 : List UInt8) (w4 : World) (hR4 : Rd w4 R t2) (hk : Kb (· = R) wr w4) :
    ∃ ao' cap' w5, Sem.run Try.prog (appendS #[44, 44] 44 #[.slice ao es.length cap, .slice (some ⟨w4.heap.size, 0, none⟩) 1 1])
        (w4.alloc (.cells #[.string a.nm, .int .i64 a.k, .int .i64 a.n, .float .f64 a.x, .string a.s, .bool a.y] 79)) = .ok (.slice ao' (es.length + 1) cap') w5 ∧
      (∃ u, w5.cell? ⟨E, 1, none⟩ = some u) ∧ w5.frozen? ⟨E, 1, none⟩ = false ∧
      Aside (EvI w E R sc (es ++ [a]) t2 ao' cap' (w5.setCell ⟨E, 1, none⟩ (.slice ao' (es.length + 1) cap'))) := by
  have hER : ¬ E = R := by omega
  have hE4 : E < w4.heap.size := Nat.lt_of_lt_of_le hI.lt hk.size
  have d0 := (hk.cell (p := ⟨E, 0, none⟩) hI.lt hER).trans hI.c0
  have d1 := (hk.cell (p := ⟨E, 1, none⟩) hI.lt hER).trans hI.c1
  have df := (hk.frozen (p := ⟨E, 1, none⟩) hI.lt hER).trans hI.f1
  obtain ⟨ao', cap', w5, hrun, hu, hf, hB⟩ := ev_append E R (E + 1) es a ao cap wr w4 hI.own hk (by omega) (by omega) hI.lt hI.lt hl ⟨_, d1⟩ df
  refine ⟨ao', cap', w5, hrun, hu, hf, ?_⟩
  obtain ⟨hown, hk5⟩ := hB.out
  obtain ⟨u, hu⟩ := hu
  have hX : Kb (fun k => E ≤ k) w4 (w5.setCell ⟨E, 1, none⟩ (.slice ao' (es.length + 1) cap')) := (hk5.mono (fun k _ h => by omega)).trans (Kb.setCell (S := fun k => E ≤ k) w5 ⟨E, 1, none⟩ (Nat.le_refl E) _)
  have hAw : w.heap.size < wr.heap.size := by have := hI.lt; omega
  have old : ∀ b o, b < E → b ≠ R → b < wr.heap.size → (w5.setCell ⟨E, 1, none⟩ (.slice ao' (es.length + 1) cap')).cell? ⟨b, o, none⟩ = wr.cell? ⟨b, o, none⟩ := fun b o h1 h2 h3 => (hX.cell (p := ⟨b, o, none⟩) (Nat.lt_of_lt_of_le h3 hk.size) (by show ¬ E ≤ b; omega)).trans (hk.cell (p := ⟨b, o, none⟩) h3 h2)
  have oldf : ∀ b o, b < E → b ≠ R → b < wr.heap.size → (w5.setCell ⟨E, 1, none⟩ (.slice ao' (es.length + 1) cap')).frozen? ⟨b, o, none⟩ = wr.frozen? ⟨b, o, none⟩ := fun b o h1 h2 h3 => (hX.frozen (p := ⟨b, o, none⟩) (Nat.lt_of_lt_of_le h3 hk.size) (by show ¬ E ≤ b; omega)).trans (hk.frozen (p := ⟨b, o, none⟩) h3 h2)
  refine ⟨hR4.kb hX (fun k h => by omega), ?_, ?_, ?_, ?_, ?_, ?_, ?_⟩
  · refine ⟨hX.os.trans (hk.os.trans hI.kb.os), hX.tape.trans (hk.tape.trans hI.kb.tape), hX.output.trans (hk.output.trans hI.kb.output), Nat.le_trans hI.kb.size (Nat.le_trans hk.size hX.size), fun k h1 h2 => ?_⟩
    have hkw : k < wr.heap.size := by have := hI.kb.size; omega
    exact ((hX.block k (Nat.lt_of_lt_of_le hkw hk.size) (by omega)).trans (hk.block k hkw h2)).trans (hI.kb.block k h1 h2)
  · exact Nat.lt_of_lt_of_le hE4 hX.size
  · exact ownsRow_setCell_below hown (by show E < E + 1; omega) _
  · rw [World.cell?_setCell_other w5 ⟨E, 1, none⟩ ⟨E, 0, none⟩ _ (by simp), hk5.cell (p := ⟨E, 0, none⟩) hE4 (by show ¬ E + 1 ≤ E; omega)]; exact d0
  · rw [List.length_append]; exact World.cell?_setCell_same w5 ⟨E, 1, none⟩ _ hu
  · rw [World.frozen?_setCell]; exact hf
  · have hRA : w.heap.size ≠ R := by omega
    exact ⟨(old _ 0 hwE hRA hAw).trans hI.ac.1, (old _ 1 hwE hRA hAw).trans hI.ac.2.1, (oldf _ 0 hwE hRA hAw).trans hI.ac.2.2.1, (oldf _ 1 hwE hRA hAw).trans hI.ac.2.2.2⟩

theorem rAttrs_go {es : List At} {m n : Nat} {t tj t1 : List UInt8} {a : At} (h : rAttrs n t = (rAttrs (m + 1) tj).map fun p => (es ++ p.1, p.2)) (ha : rAttr tj = some (a, t1)) : rAttrs n t = (rAttrs m t1).map fun p => (es ++ [a] ++ p.1, p.2) := by
  rw [h]
  simp only [rAttrs, ha]
  cases rAttrs m t1 <;> simp
theorem rAttrs_stop {es : List At} {m n : Nat} {t tj : List UInt8} (h : rAttrs n t = (rAttrs (m + 1) tj).map fun p => (es ++ p.1, p.2)) (ha : rAttr tj = none) : rAttrs n t = none := by
  rw [h]
  simp only [rAttrs, ha]; rfl

set_option maxHeartbeats 1000000 in
theorem rdEvent_no1 (R : Nat) (l : List UInt8) (w : World) (h : Rd w R l) (hn : rText l = none) :
    Calls Try.prog 28 #[.pointer (some ⟨R, 0, none⟩)] w (EvPost R none w) := by
  have hR := h.lt
  have HA : Aside (Rd (w.alloc (.cells #[.string ⟨#[]⟩, .slice none 0 0] 46)) R l) := h.kb (Kb.alloc (fun k => k = w.heap.size) _ _) (by intro k hk e; omega)
  have hc := text_no R l _ HA.out hn
  clear h hR hn
  go_enter Try.func28, Try.ntmps28
  go_wp2_with fail
  refine hc.mono ?_
  rintro e w1 ⟨rfl, hk⟩
  exact ⟨rfl, (Kb.alloc _ _ _).trans hk, rfl⟩
set_option maxHeartbeats 1000000 in
theorem rdEvent_no2 (R : Nat) (l : List UInt8) (sc : ByteArray) (w : World) (h : Rd w R l) (hn : rText l = some (sc, [])) :
    Calls Try.prog 28 #[.pointer (some ⟨R, 0, none⟩)] w (EvPost R none w) := by
  have hR := h.lt
  have HA : Aside (Rd (w.alloc (.cells #[.string ⟨#[]⟩, .slice none 0 0] 46)) R l) := h.kb (Kb.alloc (fun k => k = w.heap.size) _ _) (by intro k hk e; omega)
  have hc := text_ok R l [] sc _ HA.out hn
  clear h hR hn
  go_enter Try.func28, Try.ntmps28
  go_wp2_with fail
  refine hc.mono ?_
  rintro e w1 ⟨rfl, hA⟩
  go_wp2_with fail
  refine (byte_no R _ (hA.out.1.kb (Kb.alloc (fun k => k = w1.heap.size) _ _) (by intro k hk e; have := hA.out.1.lt; omega))).mono ?_
  rintro e w2 ⟨rfl, rfl⟩
  exact ⟨rfl, (Kb.alloc _ _ _).trans (hA.out.2.trans (Kb.alloc _ _ _)), rfl⟩

set_option maxHeartbeats 8000000 in
theorem rdEvent_main (R : Nat) (l t : List UInt8) (c : UInt8) (sc : ByteArray) (w : World) (r : Option ((ByteArray × List At) × List UInt8)) (h : Rd w R l) (hn : rText l = some (sc, c :: t))
    (hp1 : rAttrs c.toNat t = none → r = none) (hp2 : ∀ es t3, rAttrs c.toNat t = some (es, t3) → rightE es = false → r = none) (hp3 : ∀ es t3, rAttrs c.toNat t = some (es, t3) → rightE es = true → r = some ((sc, es), t3)) :
    Calls Try.prog 28 #[.pointer (some ⟨R, 0, none⟩)] w (EvPost R r w) := by
  have hR := h.lt
  have HRL : Aside (R < w.heap.size) := hR
  have HP1 : Aside _ := hp1
  have HP2 : Aside _ := hp2
  have HP3 : Aside _ := hp3
  have HA : Aside (Rd (w.alloc (.cells #[.string ⟨#[]⟩, .slice none 0 0] 46)) R l) := h.kb (Kb.alloc (fun k => k = w.heap.size) _ _) (by intro k hk e; omega)
  have hc := text_ok R l (c :: t) sc _ HA.out hn
  obtain ⟨n, hnc⟩ : ∃ n, n = c.toNat := ⟨_, rfl⟩
  have hn256 : n < 256 := by have := c.toNat_lt; omega
  rw [← hnc] at HP1 HP2 HP3
  have HNC : Aside (n = c.toNat) := hnc
  clear h hR hn hp1 hp2 hp3 hnc
  go_enter Try.func28, Try.ntmps28
  go_wp2_with fail
  refine hc.mono ?_
  rintro e w1 ⟨rfl, hA⟩
  have hk1 := hA.out.2
  have hs1 : w.heap.size < w1.heap.size := by have := hk1.size; simp at this; omega
  have aa := fun i => (hk1.cell (p := ⟨w.heap.size, i, none⟩) (by simp) (by show ¬ w.heap.size = R; have := HRL.out; omega)).trans (World.cell?_alloc_new w #[.string ⟨#[]⟩, .slice none 0 0] 46 i)
  have ff := fun i => (hk1.frozen (p := ⟨w.heap.size, i, none⟩) (by simp) (by show ¬ w.heap.size = R; have := HRL.out; omega)).trans (alloc_frozen w #[.string ⟨#[]⟩, .slice none 0 0] 46 i)
  have AA : Aside _ := aa
  have FF : Aside _ := ff
  have HK1 : Aside (Kb (· = R) w w1) := (Kb.alloc _ _ _).trans hk1
  have HR1 : Aside (Rd w1 R (c :: t)) := hA.out.1
  clear aa ff hk1 hA HA hc
  go_wp2_with fail
  have hR2 : Rd (w1.alloc (.cells #[.string sc, .slice none 0 0] 46)) R (c :: t) := HR1.out.kb (Kb.alloc (fun k => k = w1.heap.size) _ _) (by intro k hk e; have := HR1.out.lt; omega)
  have hb := byte_ok R c t _ hR2
  rw [← HNC.out] at hb
  refine hb.mono ?_
  rintro e w2 ⟨rfl, hB⟩
  have hk2 := hB.out.2
  have hER : ¬ w1.heap.size = R := by have := HR1.out.lt; omega
  have ee := fun i => (hk2.cell (p := ⟨w1.heap.size, i, none⟩) (by simp) hER).trans (World.cell?_alloc_new w1 #[.string sc, .slice none 0 0] 46 i)
  have eg := fun i => (hk2.frozen (p := ⟨w1.heap.size, i, none⟩) (by simp) hER).trans (alloc_frozen w1 #[.string sc, .slice none 0 0] 46 i)
  have hAR : ¬ w.heap.size = R := by have := HRL.out; omega
  have hAs : w.heap.size < (w1.alloc (.cells #[.string sc, .slice none 0 0] 46)).heap.size := by simp; omega
  have aa := fun i => (hk2.cell (p := ⟨w.heap.size, i, none⟩) hAs hAR).trans ((World.cell?_alloc_lt w1 (.cells #[.string sc, .slice none 0 0] 46) ⟨w.heap.size, i, none⟩ hs1).trans (AA.out i))
  have ff := fun i => (hk2.frozen (p := ⟨w.heap.size, i, none⟩) hAs hAR).trans ((World.frozen?_of_block (w := w1) (Below.heap_alloc w1 (.cells #[.string sc, .slice none 0 0] 46) w.heap.size hs1)).trans (FF.out i))
  have HK2 : Aside (Kb (· = R) w w2) := HK1.out.trans ((Kb.alloc _ _ _).trans hk2)
  have HR2 : Aside (Rd w2 R t) := hB.out.1
  have hs2 : w1.heap.size < w2.heap.size := by have := hk2.size; simp at this; omega
  have e0 := ee 0; have e1 := ee 1; have a0 := aa 0; have a1 := aa 1
  simp only [List.getElem?_toArray, List.getElem?_cons_zero, List.getElem?_cons_succ] at e0 e1 a0 a1
  have AS : Aside (w2.cell? ⟨w.heap.size, 0, none⟩ = some (.string ⟨#[]⟩) ∧ w2.cell? ⟨w.heap.size, 1, none⟩ = some (.slice none 0 0) ∧ w2.frozen? ⟨w.heap.size, 0, none⟩ = false ∧ w2.frozen? ⟨w.heap.size, 1, none⟩ = false) := ⟨a0, a1, ff 0, ff 1⟩
  have ES : Aside (w2.cell? ⟨w1.heap.size, 0, none⟩ = some (.string sc) ∧ w2.cell? ⟨w1.heap.size, 1, none⟩ = some (.slice none 0 0) ∧ w2.frozen? ⟨w1.heap.size, 1, none⟩ = false) := ⟨e0, e1, eg 1⟩
  have hRE : R < w1.heap.size := HR1.out.lt
  clear ee eg aa ff e0 e1 a0 a1 hk2 hB AA FF HK1 HR1 hR2 hb hAs
  generalize w1.heap.size = E at *
  go_wp2_with fail
  have HI : Aside (EvI w E R sc [] t none 0 w2) := ⟨HR2.out, HK2.out, hs2, World.ownsRow_nil _ _ _ _, ES.out.1, ES.out.2.1, ES.out.2.2, AS.out⟩
  clear HR2 HK2 hs2 ES AS
  go_loopg [9] n (fun kx s9 wr => ∃ (j : Nat) (es : List At) (tj : List UInt8) (ao : Option Addr) (cap : Nat), s9 = .int .i64 j ∧ j ≤ n ∧ n - j ≤ kx ∧ es.length = j ∧
    Aside (rAttrs n t = (rAttrs (n - j) tj).map fun p => (es ++ p.1, p.2)) ∧ Aside (EvI w E R sc es tj ao cap wr))
  case atStart => exact ⟨0, [], t, none, 0, rfl, Nat.zero_le _, by omega, rfl, by show rAttrs n t = _; rw [Nat.sub_zero]; cases rAttrs n t <;> simp, HI.out⟩
  case round =>
    clear HI
    obtain ⟨j, es, tj, ao, cap, rfl, hj, hjx, hes, HSp, HI⟩ := hrel
    have e0 := HI.out.c0
    have e1 := HI.out.c1
    have hE := HI.out.lt
    have HK : Aside _ := HI.out.kb
    have HR : Aside _ := HI.out.rd
    by_cases hlt : j < n
    · obtain ⟨m, hm⟩ : ∃ m, n - j = m + 1 := ⟨n - j - 1, by omega⟩
      rw [hm] at HSp
      have hmj : m = n - (j + 1) := by omega
      have hjz : (j : Int) < (n : Int) := by omega
      cases ht : rText tj with
      | none =>
        have hr : r = none := HP1.out (rAttrs_stop HSp.out (by simp only [rAttr, ht]))
        have hc : Calls Try.prog 23 #[.pointer (some ⟨R, 0, none⟩)] wr.drew fun e w' => e = .panicked gv ∧ Kb (· = R) wr w' := (text_no R tj wr.drew (HR.out.kb (Kb.drew (fun _ => False) wr) (fun _ _ h => h)) ht).mono fun e w' q => ⟨q.1, (Kb.drew _ wr).trans q.2⟩
        have HRN : Aside _ := hr
        clear HSp ht hjx hes hr HI hm hmj
        go_wp2_with fail
        refine wp_region_any (by kernel_rfl) ?_
        try (change wpAny _ _ _ _ _ _ _ (World.drew _))
        refine wpAny_take (i := 0) (v := ?_) rfl (by kernel_rfl) (by kernel_rfl) (by kernel_rfl) (fun _ _ _ h => h) (Or.inl ⟨by rfl, ?_⟩) ?_
        rotate_left
        · intro w; go_simp; try with_reducible rfl
        refine wpAny_take (i := 2) (v := ?_) rfl (by kernel_rfl) (by kernel_rfl) (by kernel_rfl) (fun _ _ _ h => h) (Or.inl ⟨by rfl, ?_⟩) ?_
        rotate_left
        · intro w; go_simp; try with_reducible rfl
        refine wpAny_take (i := 4) (v := ?_) rfl (by kernel_rfl) (by kernel_rfl) (by kernel_rfl) (fun _ _ _ h => h) (Or.inl ⟨by rfl, ?_⟩) ?_
        rotate_left
        · intro w; go_simp; try with_reducible rfl
        refine wpAny_ready (rs := [1, 3]) (by kernel_rfl) (by simp) ?_
        refine AllReady.cons rfl (fun K hK => ?_) (AllReady.cons rfl (fun K hK => ?_) AllReady.nil)
        · go_simp
          refine hK _ _ ?_; clear hK K
          refine wpAny_ready (rs := [3]) (by kernel_rfl) (by simp) ?_
          refine AllReady.cons rfl (fun K hK => ?_) AllReady.nil
          go_simp
          go_wp2_with (go_at_call 23; refine hc.mono ?_; rintro e w3 ⟨rfl, hk⟩; exact ⟨rfl, HK.out.trans hk, by rw [HRN.out]⟩)
        · go_simp
          go_wp2_with (go_at_call 23; refine hc.mono ?_; rintro e w3 ⟨rfl, hk⟩; exact ⟨rfl, HK.out.trans hk, by rw [HRN.out]⟩)
      | some p =>
        obtain ⟨nm, t1⟩ := p
        have hc : Calls Try.prog 23 #[.pointer (some ⟨R, 0, none⟩)] wr.drew fun e w' => e = .returned (.string nm) ∧ Aside (Rd w' R t1 ∧ Kb (· = R) wr w') := (text_ok R tj t1 nm wr.drew (HR.out.kb (Kb.drew (fun _ => False) wr) (fun _ _ h => h)) ht).mono fun e w' q => ⟨q.1, q.2.out.1, (Kb.drew _ wr).trans q.2.out.2⟩
        have hER2 : ¬ E = R := hER
        cases hv : rValue nm t1 with
        | none =>
          have hr : r = none := HP1.out (rAttrs_stop HSp.out (by simp only [rAttr, ht, hv]))
          have HV : Aside (∀ W, Rd W R t1 → Calls Try.prog 25 #[.pointer (some ⟨R, 0, none⟩)] W fun e w' => e = .panicked gv ∧ Kb (· = R) W w') := fun W hW => value_no nm R t1 W hW hv
          have HRN : Aside _ := hr
          clear HSp ht hjx hes hr hv HI hm hmj
          go_wp2_with fail
          refine wp_region_any (by kernel_rfl) ?_
          try (change wpAny _ _ _ _ _ _ _ (World.drew _))
          refine wpAny_take (i := 0) (v := ?_) rfl (by kernel_rfl) (by kernel_rfl) (by kernel_rfl) (fun _ _ _ h => h) (Or.inl ⟨by rfl, ?_⟩) ?_
          rotate_left
          · intro w; go_simp; try with_reducible rfl
          refine wpAny_take (i := 2) (v := ?_) rfl (by kernel_rfl) (by kernel_rfl) (by kernel_rfl) (fun _ _ _ h => h) (Or.inl ⟨by rfl, ?_⟩) ?_
          rotate_left
          · intro w; go_simp; try with_reducible rfl
          refine wpAny_take (i := 4) (v := ?_) rfl (by kernel_rfl) (by kernel_rfl) (by kernel_rfl) (fun _ _ _ h => h) (Or.inl ⟨by rfl, ?_⟩) ?_
          rotate_left
          · intro w; go_simp; try with_reducible rfl
          refine wpAny_ready (rs := [1, 3]) (by kernel_rfl) (by simp) ?_
          refine AllReady.cons rfl (fun K hK => ?_) (AllReady.cons rfl (fun K hK => ?_) AllReady.nil)
          · go_simp
            refine hK _ _ ?_; clear hK K
            refine wpAny_ready (rs := [3]) (by kernel_rfl) (by simp) ?_
            refine AllReady.cons rfl (fun K hK => ?_) AllReady.nil
            go_simp
            go_wp2_with (go_at_call 23; refine hc.mono ?_; rintro e w3 ⟨rfl, hA3⟩; have p0 := (hA3.out.2.cell (p := ⟨E, 0, none⟩) hE hER2).trans e0; have p1 := (hA3.out.2.cell (p := ⟨E, 1, none⟩) hE hER2).trans e1)
            try (refine hK _ _ ?_; clear hK K)
            refine wpAny_ready (rs := [5]) (by kernel_rfl) (by simp) ?_
            refine AllReady.cons rfl (fun K hK => ?_) AllReady.nil
            go_simp
            go_wp2_with (go_at_call 25; refine (HV.out _ hA3.out.1).mono ?_; rintro e w4 ⟨rfl, hk⟩; exact ⟨rfl, HK.out.trans (hA3.out.2.trans hk), by rw [HRN.out]⟩)
          · go_simp
            go_wp2_with (go_at_call 23; refine hc.mono ?_; rintro e w3 ⟨rfl, hA3⟩; have p0 := (hA3.out.2.cell (p := ⟨E, 0, none⟩) hE hER2).trans e0; have p1 := (hA3.out.2.cell (p := ⟨E, 1, none⟩) hE hER2).trans e1)
            try (refine hK _ _ ?_; clear hK K)
            refine wpAny_ready (rs := [1, 5]) (by kernel_rfl) (by simp) ?_
            refine AllReady.cons rfl (fun K hK => ?_) (AllReady.cons rfl (fun K hK => ?_) AllReady.nil)
            · go_simp
              refine hK _ _ ?_; clear hK K
              refine wpAny_ready (rs := [5]) (by kernel_rfl) (by simp) ?_
              refine AllReady.cons rfl (fun K hK => ?_) AllReady.nil
              go_simp
              go_wp2_with (go_at_call 25; refine (HV.out _ hA3.out.1).mono ?_; rintro e w4 ⟨rfl, hk⟩; exact ⟨rfl, HK.out.trans (hA3.out.2.trans hk), by rw [HRN.out]⟩)
            · go_simp
              go_wp2_with (go_at_call 25; refine (HV.out _ hA3.out.1).mono ?_; rintro e w4 ⟨rfl, hk⟩; exact ⟨rfl, HK.out.trans (hA3.out.2.trans hk), by rw [HRN.out]⟩)
        | some p =>
          obtain ⟨a, t2⟩ := p
          have hanm := rValue_nm hv
          have HV : Aside (∀ W, Rd W R t1 → Calls Try.prog 25 #[.pointer (some ⟨R, 0, none⟩)] W fun e w' => e = .returned (valQ a) ∧ Aside (Rd w' R t2 ∧ Kb (· = R) W w')) := fun W hW => value_ok nm R t1 t2 a W hW hv
          have HGo : Aside (rAttrs n t = (rAttrs (n - (j + 1)) t2).map fun p => (es ++ [a] ++ p.1, p.2)) := hmj ▸ rAttrs_go HSp.out (by simp only [rAttr, ht, hv])
          have HRd : Aside (∀ w4, Rd w4 R t2 → Kb (· = R) wr w4 → _) := fun w4 h1 h2 => ev_round HI.out HRL.out hs1 (by omega) a t2 w4 h1 h2
          have HEs : Aside (es.length = j) := hes
          obtain ⟨anm, ak, an, ax, asx, ay⟩ := a
          simp only [] at hanm
          subst hanm
          simp only [valQ, val, vals] at HV
          clear HSp ht hes hv HI hm hmj HK HR
          go_wp2_with fail
          go_region_with (first
            | (go_at_call 23; refine hc.mono ?_; rintro e w3 ⟨rfl, hA3⟩; have p0 := (hA3.out.2.cell (p := ⟨E, 0, none⟩) hE hER2).trans e0; have p1 := (hA3.out.2.cell (p := ⟨E, 1, none⟩) hE hER2).trans e1; have hE3 : E < w3.heap.size := Nat.lt_of_lt_of_le hE hA3.out.2.size)
            | (go_at_call 25; refine (HV.out _ hA3.out.1).mono ?_; rintro e w4 ⟨rfl, hA4⟩; have q0 := (hA4.out.2.cell (p := ⟨E, 0, none⟩) hE3 hER2).trans p0; have q1 := (hA4.out.2.cell (p := ⟨E, 1, none⟩) hE3 hER2).trans p1; have r1 := (World.cell?_alloc_lt w4 (.cells #[.string anm, .int .i64 ak, .int .i64 an, .float .f64 ax, .string asx, .bool ay] 79) ⟨E, 1, none⟩ (Nat.lt_of_lt_of_le hE3 hA4.out.2.size)).trans q1; obtain ⟨ao', cap', w5, hrun, ⟨u, hu⟩, hf, HX⟩ := HRd.out w4 hA4.out.1 (hA3.out.2.trans hA4.out.2)))
          all_goals
            go_wp2_with fail
            go_roundg (n - (j + 1))
            case measure => omega
            case rel => exact ⟨j + 1, es ++ [⟨anm, ak, an, ax, asx, ay⟩], t2, ao', cap', by go_num, hlt, Nat.le_refl _, by simp [HEs.out], HGo, HX⟩
    · obtain rfl : j = n := by omega
      have hall : rAttrs j t = some (es, tj) := by rw [HSp.out, Nat.sub_self]; simp [rAttrs]
      have hE1 := HI.out.as_slice
      obtain ⟨hsl, hak⟩ := hE1
      have HI2 : Aside _ := HI.out
      have hr := right_c sc ao cap es wr hsl
      have hwz : w.heap.size < wr.heap.size := by omega
      have hAR2 : ¬ w.heap.size = R := hAR
      have ALL : Aside _ := hall
      have HES : Aside (es.length = j) := hes
      clear HSp hall hsl hlt hj hjx hes
      go_wp2_with fail
      refine hr.mono ?_
      rintro e w6 ⟨rfl, hb6⟩
      have d0 := (hb6.cell (p := ⟨E, 0, none⟩) hE).trans e0
      have d1 := (hb6.cell (p := ⟨E, 1, none⟩) hE).trans e1
      have a0 := (hb6.cell (p := ⟨w.heap.size, 0, none⟩) hwz).trans HI.out.ac.1
      have a1 := (hb6.cell (p := ⟨w.heap.size, 1, none⟩) hwz).trans HI.out.ac.2.1
      have f0 := (hb6.frozen (p := ⟨w.heap.size, 0, none⟩) hwz).trans HI.out.ac.2.2.1
      have f1 := (hb6.frozen (p := ⟨w.heap.size, 1, none⟩) hwz).trans HI.out.ac.2.2.2
      have HB6 : Aside _ := hb6
      clear hb6 hr hak
      cases hre : rightE es
      · have hrn : r = none := HP2.out es tj ALL.out hre
        have HRN : Aside _ := hrn
        clear hrn
        go_wp2_with fail
        refine (giveUp_c _).mono ?_
        rintro e w7 ⟨rfl, rfl⟩
        exact ⟨rfl, HK.out.trans (Kb.of_below HB6.out (fun k h1 h2 => absurd h1 (by omega))), by rw [HRN.out]⟩
      · have hrs : r = some ((sc, es), tj) := HP3.out es tj ALL.out hre
        have HRS : Aside _ := hrs
        clear hrs
        go_wp2_with fail
        have x0 : ((w6.setCell ⟨w.heap.size, 0, none⟩ (.string sc)).setCell ⟨w.heap.size, 1, none⟩ (.slice ao es.length cap)).cell? ⟨w.heap.size, 0, none⟩ = some (.string sc) := by
          rw [oth (by decide)]; exact World.cell?_setCell_same _ _ _ a0
        have x1 : ((w6.setCell ⟨w.heap.size, 0, none⟩ (.string sc)).setCell ⟨w.heap.size, 1, none⟩ (.slice ao es.length cap)).cell? ⟨w.heap.size, 1, none⟩ = some (.slice ao es.length cap) :=
          World.cell?_setCell_same _ _ _ (by rw [oth (by decide)]; exact a1)
        have hX : Kb (fun k => k = w.heap.size) w6 ((w6.setCell ⟨w.heap.size, 0, none⟩ (.string sc)).setCell ⟨w.heap.size, 1, none⟩ (.slice ao es.length cap)) := (Kb.setCell (S := fun k => k = w.heap.size) w6 ⟨w.heap.size, 0, none⟩ rfl _).trans (Kb.setCell (S := fun k => k = w.heap.size) _ ⟨w.heap.size, 1, none⟩ rfl _)
        refine bodyPost_ret (v := .agg #[.string sc, .slice ao es.length cap]) (by simp [results, Try.results28, go_sem, x0, x1]) rfl ?_
        have hk6 : Kb (fun _ => False) wr w6 := Kb.of_below HB6.out (fun k h1 h2 => absurd h1 (by omega))
        have hown := ownsRow_setCell_below (ownsRow_setCell_below (own_kb HI.out.own hk6 (fun _ _ _ h => h)) (a := ⟨w.heap.size, 0, none⟩) (by show w.heap.size < E + 1; omega) (.string sc)) (a := ⟨w.heap.size, 1, none⟩) (by show w.heap.size < E + 1; omega) (.slice ao es.length cap)
        obtain ⟨ao', cap', hv, hsl⟩ := own_slice3 hown
        injection hv with h1 h2 h3
        subst h1
        have hsn : SliceN (w.heap.size + 1) ((w6.setCell ⟨w.heap.size, 0, none⟩ (.string sc)).setCell ⟨w.heap.size, 1, none⟩ (.slice ao es.length cap)) ao es := by
          rcases hsl with h | ⟨g, h1, h2, h3, h4⟩
          · exact Or.inl h
          · exact Or.inr ⟨g, h1, by omega, h3, h4⟩
        refine ⟨?_, ?_⟩
        · have hkk := HK.out.trans (hk6.mono (fun _ _ h => h.elim))
          refine ⟨hX.os.trans hkk.os, hX.tape.trans hkk.tape, hX.output.trans hkk.output, Nat.le_trans hkk.size hX.size, fun k h1 h2 => ?_⟩
          exact (hX.block k (Nat.lt_of_lt_of_le h1 hkk.size) (by omega)).trans (hkk.block k h1 h2)
        · rw [HRS.out]
          exact ⟨ao, cap, rfl, hsn, (HR.out.kb hk6 (fun _ _ h => h)).kb hX (fun k h => by have := HRL.out; omega)⟩
theorem rdEvent_c (R : Nat) (l : List UInt8) (w : World) (h : Rd w R l) :
    Calls Try.prog 28 #[.pointer (some ⟨R, 0, none⟩)] w (EvPost R (rEvent l) w) := by
  cases ht : rText l with
  | none =>
    have : rEvent l = none := by unfold rEvent; rw [ht]
    rw [this]; exact rdEvent_no1 R l w h ht
  | some p =>
    obtain ⟨sc, t⟩ := p
    cases t with
    | nil =>
      have : rEvent l = none := by unfold rEvent; rw [ht]
      rw [this]; exact rdEvent_no2 R l sc w h ht
    | cons c t =>
      refine rdEvent_main R l t c sc w _ h ht (fun h => ?_) (fun es t3 h hr => ?_) (fun es t3 h hr => ?_)
      · unfold rEvent; rw [ht]; simp only [h]
      · unfold rEvent; rw [ht]; simp only [h, hr]; rfl
      · unfold rEvent; rw [ht]; simp only [h, hr]; rfl
end Go.Proofs.Ytecfbbddhnkilaa
