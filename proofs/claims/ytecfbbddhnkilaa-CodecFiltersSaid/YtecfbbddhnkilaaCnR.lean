/- codec.Reader: Filter, of bytes that a filter was told by. -/
import Derived.Test.YtecfbbddhnkilaaCn
import Derived.Test.YtecfbbddhnkilaaEnc3
import Derived.Test.YtecfbbddhnkilaaRd6
namespace Go.Proofs.Ytecfbbddhnkilaa
open Go.RowKit Go.Shelf Go.Sort
open Go.Proofs
set_option maxRecDepth 100000
attribute [local go_sem ↓] append_pre

/-- A condition that comes back from its bytes. -/
structure GoodC (c : Cn) : Prop where
  can : CanA c.a
  nm : c.a.nm.size ≤ 255
  o0 : 0 ≤ c.op
  o1 : c.op ≤ 255
theorem own7_kb {S : Nat → Prop} {w w' : World} {base : Nat} {e : TypeId} {v : Value} {n : Nat} {xs : List Value} (h : w.ownsRow base e 7 v n xs) (hk : Kb S w w') (hS : ∀ k, base ≤ k → k < w.heap.size → ¬ S k) : w'.ownsRow base e 7 v n xs := by
  obtain ⟨h1, h2⟩ := h
  refine ⟨h1, ?_⟩
  rcases h2 with h2 | ⟨g, cap, cur, hv, hb, hg, hr⟩
  · exact Or.inl h2
  · have hlt : g < w.heap.size := (Array.getElem?_eq_some_iff.1 hg).1
    exact Or.inr ⟨g, cap, cur, hv, hb, (hk.block g hlt (hS g hb hlt)).trans hg, hr⟩
theorem row_cells7 (a : Cn) (W : World) (ty : TypeId) : ∀ (j : Nat) u, (encC a)[j]? = some u → (W.alloc (.cells (encC a).toArray ty)).cell? ((⟨W.heap.size, 0, none⟩ : Addr).add j) = some u := fun j u h => by
  have : (W.alloc (.cells (encC a).toArray ty)).cell? ⟨W.heap.size, j, none⟩ = some u := by rw [World.cell?_alloc_new]; simpa using h
  by_cases h0 : j = 0
  · subst h0; exact this
  · simpa [Addr.add, h0] using this
/-- A row that the call owns is a slice whose elements lie in the world. -/
theorem own7_slice {w : World} {base : Nat} {e : TypeId} {v : Value} {l : List Cn} (h : w.ownsRow base e 7 v l.length (l.flatMap encC)) : ∃ ao cap, v = .slice ao l.length cap ∧ CondsN base w ao l := by
  have h' := h
  rcases h.2 with ⟨rfl, h0⟩ | ⟨g, cap, cur, rfl, hbg, hg, hnc, hcm, hcs, htake⟩
  · have : l = [] := List.eq_nil_of_length_eq_zero (by first | exact h0 | exact h0.symm | omega)
    subst this
    exact ⟨none, 0, rfl, Or.inl rfl⟩
  · refine ⟨_, _, rfl, Or.inr ⟨g, rfl, hbg, (Array.getElem?_eq_some_iff.1 hg).1, fun j hj c u hu => ?_⟩⟩
    have hcell := h'.cells (g := g) rfl (j * 7 + c) u (encC_at l j hj c u hu)
    rw [Nat.zero_add]
    generalize j * 7 + c = q at hcell ⊢
    by_cases h0 : q = 0
    · subst h0; simpa [Addr.add] using hcell
    · simpa [Addr.add, h0] using hcell

/-- A round's append: what it lays. -/
theorem fi_append (E R B : Nat) (es : List Cn) (a : Cn) (ao : Option Addr) (cap : Nat) (wr w2 : World) (hown : wr.ownsRow B 30 7 (.slice ao es.length cap) es.length (es.flatMap encC)) (hk : Kb (· = R) wr w2)
    (hR : R < B) (hEB : E < B) (hEw : E < wr.heap.size) (hB : B ≤ wr.heap.size) (hl : es.length < 256) (he0 : ∃ u, w2.cell? ⟨E, 1, none⟩ = some u) (hf : w2.frozen? ⟨E, 1, none⟩ = false) :
    ∃ ao' cap' w3, Sem.run Try.prog (appendS #[22, 22] 22 #[.slice ao es.length cap, .slice (some ⟨w2.heap.size, 0, none⟩) 1 1])
        (w2.alloc (.cells #[.string a.a.nm, .int .i64 a.op, .int .i64 a.a.k, .int .i64 a.a.n, .float .f64 a.a.x, .string a.a.s, .bool a.a.y] 30)) = .ok (.slice ao' (es.length + 1) cap') w3 ∧
      (∃ u, w3.cell? ⟨E, 1, none⟩ = some u) ∧ w3.frozen? ⟨E, 1, none⟩ = false ∧
      Aside (w3.ownsRow B 30 7 (.slice ao' (es ++ [a]).length cap') (es ++ [a]).length ((es ++ [a]).flatMap encC) ∧ Kb (fun k => B ≤ k) w2 w3) := by
  obtain ⟨i0, z0, hi, hz0, hz1, hz2, hz3⟩ := cond_info
  have hS : ∀ k, B ≤ k → k < wr.heap.size → ¬ (k = R) := fun k h1 _ e => by omega
  have hown2 := own7_kb hown hk hS
  have hsz := hk.size
  have hown3 : (w2.alloc (.cells (encC a).toArray 30)).ownsRow B 30 7 (.slice ao es.length cap) es.length (es.flatMap encC) := hown2.alloc _
  have hrc := row_cells7 a w2 30
  obtain ⟨v', w3, hrun, hown4, hg, _⟩ := run_append_own (P := Try.prog) (w2.alloc (.cells (encC a).toArray 30)) B 22 22 30 i0 z0 7 72 Try.underlying22 hi hz0 hz1 hz2 hz3 (by decide) _ _ _ hown3 ⟨w2.heap.size, 0, none⟩ 1 1 (encC a) rfl hrc (encC_one a) (by unfold maxLen; omega) (by omega) (by simp; omega)
  have hown5 : w3.ownsRow B 30 7 v' (es ++ [a]).length ((es ++ [a]).flatMap encC) := by
    rw [List.length_append, List.flatMap_append]
    simpa using hown4
  obtain ⟨ao', cap', rfl, _⟩ := own7_slice hown5
  have hk3 : Kb (fun k => B ≤ k) w2 w3 := by
    refine (Kb.alloc _ w2 (.cells (encC a).toArray 30)).trans ⟨hg.os, hg.tape, hg.output, hg.size, fun k hk hS => hg.block k hk fun e => ?_⟩
    exact hS (hown3.lt k e.symm).1
  have hEw2 : E < w2.heap.size := by omega
  refine ⟨ao', cap', w3, ?_, ?_, ?_, hown5, hk3⟩
  · have : (es ++ [a]).length = es.length + 1 := by simp
    rw [this] at hrun
    exact hrun
  · obtain ⟨u, hu⟩ := he0
    exact ⟨u, (hk3.cell (p := ⟨E, 1, none⟩) hEw2 (by show ¬ B ≤ E; omega)).trans hu⟩
  · exact (hk3.frozen (p := ⟨E, 1, none⟩) hEw2 (by show ¬ B ≤ E; omega)).trans hf

/-- What stands between two rounds. -/
structure FiI (w : World) (E R : Nat) (sc : ByteArray) (es : List Cn) (tj : List UInt8) (ao : Option Addr) (cap : Nat) (W : World) : Prop where
  rd : Rd W R tj
  kb : Kb (· = R) w W
  lt : E < W.heap.size
  own : W.ownsRow (E + 1) 30 7 (.slice ao es.length cap) es.length (es.flatMap encC)
  c0 : W.cell? ⟨E, 0, none⟩ = some (.string sc)
  c1 : W.cell? ⟨E, 1, none⟩ = some (.slice ao es.length cap)
  f1 : W.frozen? ⟨E, 1, none⟩ = false
  ac : W.cell? ⟨w.heap.size, 0, none⟩ = some (.string ⟨#[]⟩) ∧ W.cell? ⟨w.heap.size, 1, none⟩ = some (.slice none 0 0) ∧ W.frozen? ⟨w.heap.size, 0, none⟩ = false ∧ W.frozen? ⟨w.heap.size, 1, none⟩ = false

theorem fi_round {w : World} {E R : Nat} {sc : ByteArray} {es : List Cn} {tj : List UInt8} {ao : Option Addr} {cap : Nat} {wr : World} (hI : FiI w E R sc es tj ao cap wr) (hRw : R < w.heap.size) (hwE : w.heap.size < E) (hl : es.length < 256)
    (a : Cn) (t2 : List UInt8) (w4 : World) (hR4 : Rd w4 R t2) (hk : Kb (· = R) wr w4) :
    ∃ ao' cap' w5, Sem.run Try.prog (appendS #[22, 22] 22 #[.slice ao es.length cap, .slice (some ⟨w4.heap.size, 0, none⟩) 1 1])
        (w4.alloc (.cells #[.string a.a.nm, .int .i64 a.op, .int .i64 a.a.k, .int .i64 a.a.n, .float .f64 a.a.x, .string a.a.s, .bool a.a.y] 30)) = .ok (.slice ao' (es.length + 1) cap') w5 ∧
      (∃ u, w5.cell? ⟨E, 1, none⟩ = some u) ∧ w5.frozen? ⟨E, 1, none⟩ = false ∧
      Aside (FiI w E R sc (es ++ [a]) t2 ao' cap' (w5.setCell ⟨E, 1, none⟩ (.slice ao' (es.length + 1) cap'))) := by
  have hER : ¬ E = R := by omega
  have hE4 : E < w4.heap.size := Nat.lt_of_lt_of_le hI.lt hk.size
  have d0 := (hk.cell (p := ⟨E, 0, none⟩) hI.lt hER).trans hI.c0
  have d1 := (hk.cell (p := ⟨E, 1, none⟩) hI.lt hER).trans hI.c1
  have df := (hk.frozen (p := ⟨E, 1, none⟩) hI.lt hER).trans hI.f1
  obtain ⟨ao', cap', w5, hrun, hu, hf, hB⟩ := fi_append E R (E + 1) es a ao cap wr w4 hI.own hk (by omega) (by omega) hI.lt hI.lt hl ⟨_, d1⟩ df
  refine ⟨ao', cap', w5, hrun, hu, hf, ?_⟩
  obtain ⟨hown, hk5⟩ := hB.out
  obtain ⟨u, hu⟩ := hu
  have hX : Kb (fun k => E ≤ k) w4 (w5.setCell ⟨E, 1, none⟩ (.slice ao' (es.length + 1) cap')) := (hk5.mono (fun k _ h => by omega)).trans (Kb.setCell (S := fun k => E ≤ k) w5 ⟨E, 1, none⟩ (Nat.le_refl E) _)
  have hAw : w.heap.size < wr.heap.size := by have := hI.lt; omega
  have old : ∀ b o, b < E → b ≠ R → b < wr.heap.size → (w5.setCell ⟨E, 1, none⟩ (.slice ao' (es.length + 1) cap')).cell? ⟨b, o, none⟩ = wr.cell? ⟨b, o, none⟩ := fun b o h1 h2 h3 => (hX.cell (p := ⟨b, o, none⟩) (Nat.lt_of_lt_of_le h3 hk.size) (by show ¬ E ≤ b; omega)).trans (hk.cell (p := ⟨b, o, none⟩) h3 h2)
  have oldf : ∀ b o, b < E → b ≠ R → b < wr.heap.size → (w5.setCell ⟨E, 1, none⟩ (.slice ao' (es.length + 1) cap')).frozen? ⟨b, o, none⟩ = wr.frozen? ⟨b, o, none⟩ := fun b o h1 h2 h3 => (hX.frozen (p := ⟨b, o, none⟩) (Nat.lt_of_lt_of_le h3 hk.size) (by show ¬ E ≤ b; omega)).trans (hk.frozen (p := ⟨b, o, none⟩) h3 h2)
  refine ⟨hR4.kb hX (fun k h => by omega), ?_, ?_, ?_, ?_, ?_, ?_, ?_⟩
  · refine ⟨hX.os.trans (hk.os.trans hI.kb.os), hX.tape.trans (hk.tape.trans hI.kb.tape), hX.output.trans (hk.output.trans hI.kb.output), Nat.le_trans hI.kb.size (Nat.le_trans hk.size hX.size), fun k h1 h2 => ?_⟩
    have hkw : k < wr.heap.size := by have := hI.kb.size; omega
    exact ((hX.block k (Nat.lt_of_lt_of_le hkw hk.size) (by omega)).trans (hk.block k hkw h2)).trans (hI.kb.block k h1 h2)
  · exact Nat.lt_of_lt_of_le hE4 hX.size
  · exact ownsRow_setCell_below hown (by show E < E + 1; omega) _
  · rw [World.cell?_setCell_other w5 ⟨E, 1, none⟩ ⟨E, 0, none⟩ _ (by simp), hk5.cell (p := ⟨E, 0, none⟩) hE4 (by show ¬ E + 1 ≤ E; omega)]; exact d0
  · rw [List.length_append]; exact World.cell?_setCell_same w5 ⟨E, 1, none⟩ _ hu
  · rw [World.frozen?_setCell]; exact hf
  · have hRA : w.heap.size ≠ R := by omega
    exact ⟨(old _ 0 hwE hRA hAw).trans hI.ac.1, (old _ 1 hwE hRA hAw).trans hI.ac.2.1, (oldf _ 0 hwE hRA hAw).trans hI.ac.2.2.1, (oldf _ 1 hwE hRA hAw).trans hI.ac.2.2.2⟩

set_option maxHeartbeats 8000000 in
theorem rdFilter_c (R : Nat) (sc : ByteArray) (cs : List Cn) (t : List UInt8) (w : World) (h : Rd w R (encF sc cs ++ t)) (hcs : ∀ c ∈ cs, GoodC c) (hsc : sc.size ≤ 255) (hl : cs.length ≤ 255) :
    Calls Try.prog 10 #[.pointer (some ⟨R, 0, none⟩)] w fun e w' => ∃ ao cap, e = .returned (.agg #[.string sc, .slice ao cs.length cap]) ∧ Aside (CondsN (w.heap.size + 1) w' ao cs ∧ Rd w' R t ∧ Kb (· = R) w w') := by
  have hR := h.lt
  have HRL : Aside (R < w.heap.size) := hR
  have HG : Aside (∀ c ∈ cs, GoodC c) := hcs
  have HA : Aside (Rd (w.alloc (.cells #[.string ⟨#[]⟩, .slice none 0 0] 24)) R (encF sc cs ++ t)) := h.kb (Kb.alloc (fun k => k = w.heap.size) _ _) (by intro k hk e; omega)
  have e1 : encF sc cs ++ t = encT sc ++ (UInt8.ofNat cs.length :: (cs.flatMap encCn ++ t)) := by simp [encF]
  have hc := text_ok R _ (UInt8.ofNat cs.length :: (cs.flatMap encCn ++ t)) sc _ HA.out (by rw [e1]; exact rText_enc sc hsc _)
  obtain ⟨n, hnc⟩ : ∃ n, n = cs.length := ⟨_, rfl⟩
  have HN : Aside (n = cs.length) := hnc
  have hn256 : n < 256 := by omega
  have HBN : Aside ((UInt8.ofNat cs.length).toNat = n) := by show _ = _; rw [← hnc, UInt8.toNat_ofNat_of_lt' (by show n < 256; omega)]
  have HTk : Aside (cs.flatMap encCn ++ t = (cs.drop 0).flatMap encCn ++ t) := by show _ = _; rw [List.drop_zero]
  rw [← hnc]
  clear h hR hcs e1 hnc hsc hl
  go_enter Try.func10, Try.ntmps10
  go_wp2_with fail
  refine hc.mono ?_
  rintro e w1 ⟨rfl, hA⟩
  have hk1 := hA.out.2
  have hs1 : w.heap.size < w1.heap.size := by have := hk1.size; simp at this; omega
  have aa := fun i => (hk1.cell (p := ⟨w.heap.size, i, none⟩) (by simp) (by show ¬ w.heap.size = R; have := HRL.out; omega)).trans (World.cell?_alloc_new w #[.string ⟨#[]⟩, .slice none 0 0] 24 i)
  have ff := fun i => (hk1.frozen (p := ⟨w.heap.size, i, none⟩) (by simp) (by show ¬ w.heap.size = R; have := HRL.out; omega)).trans (alloc_frozen w #[.string ⟨#[]⟩, .slice none 0 0] 24 i)
  have AA := Lib.hid aa
  have FF := Lib.hid ff
  have HK1 : Aside (Kb (· = R) w w1) := (Kb.alloc _ _ _).trans hk1
  have HR1 : Aside (Rd w1 R (UInt8.ofNat cs.length :: (cs.flatMap encCn ++ t))) := hA.out.1
  clear aa ff hk1 hA HA hc
  go_wp2_with fail
  have hR2 : Rd (w1.alloc (.cells #[.string sc, .slice none 0 0] 24)) R (UInt8.ofNat cs.length :: (cs.flatMap encCn ++ t)) := HR1.out.kb (Kb.alloc (fun k => k = w1.heap.size) _ _) (by intro k hk e; have := HR1.out.lt; omega)
  have hb := byte_ok R _ _ _ hR2
  rw [HBN.out] at hb
  refine hb.mono ?_
  rintro e w2 ⟨rfl, hB⟩
  have hk2 := hB.out.2
  have hER : ¬ w1.heap.size = R := by have := HR1.out.lt; omega
  have ee := fun i => (hk2.cell (p := ⟨w1.heap.size, i, none⟩) (by simp) hER).trans (World.cell?_alloc_new w1 #[.string sc, .slice none 0 0] 24 i)
  have eg := fun i => (hk2.frozen (p := ⟨w1.heap.size, i, none⟩) (by simp) hER).trans (alloc_frozen w1 #[.string sc, .slice none 0 0] 24 i)
  have hAR : ¬ w.heap.size = R := by have := HRL.out; omega
  have hAs : w.heap.size < (w1.alloc (.cells #[.string sc, .slice none 0 0] 24)).heap.size := by simp; omega
  have aa := fun i => (hk2.cell (p := ⟨w.heap.size, i, none⟩) hAs hAR).trans ((World.cell?_alloc_lt w1 (.cells #[.string sc, .slice none 0 0] 24) ⟨w.heap.size, i, none⟩ hs1).trans (AA.out i))
  have ff := fun i => (hk2.frozen (p := ⟨w.heap.size, i, none⟩) hAs hAR).trans ((World.frozen?_of_block (w := w1) (Below.heap_alloc w1 (.cells #[.string sc, .slice none 0 0] 24) w.heap.size hs1)).trans (FF.out i))
  have HK2 : Aside (Kb (· = R) w w2) := HK1.out.trans ((Kb.alloc _ _ _).trans hk2)
  have HR2 : Aside (Rd w2 R (cs.flatMap encCn ++ t)) := hB.out.1
  have hs2 : w1.heap.size < w2.heap.size := by have := hk2.size; simp at this; omega
  have e0 := ee 0; have e1 := ee 1; have a0 := aa 0; have a1 := aa 1
  simp only [List.getElem?_toArray, List.getElem?_cons_zero, List.getElem?_cons_succ] at e0 e1 a0 a1
  have AS : Aside (w2.cell? ⟨w.heap.size, 0, none⟩ = some (.string ⟨#[]⟩) ∧ w2.cell? ⟨w.heap.size, 1, none⟩ = some (.slice none 0 0) ∧ w2.frozen? ⟨w.heap.size, 0, none⟩ = false ∧ w2.frozen? ⟨w.heap.size, 1, none⟩ = false) := ⟨a0, a1, ff 0, ff 1⟩
  have ES : Aside (w2.cell? ⟨w1.heap.size, 0, none⟩ = some (.string sc) ∧ w2.cell? ⟨w1.heap.size, 1, none⟩ = some (.slice none 0 0) ∧ w2.frozen? ⟨w1.heap.size, 1, none⟩ = false) := ⟨e0, e1, eg 1⟩
  have hRE : R < w1.heap.size := HR1.out.lt
  clear ee eg aa ff e0 e1 a0 a1 hk2 hB AA FF HK1 HR1 hR2 hb hAs
  generalize w1.heap.size = E at *
  go_wp2_with fail
  have HI : Aside (FiI w E R sc [] ((cs.drop 0).flatMap encCn ++ t) none 0 w2) := ⟨by rw [← HTk.out]; exact HR2.out, HK2.out, hs2, World.ownsRow_nil _ _ _ _, ES.out.1, ES.out.2.1, ES.out.2.2, AS.out⟩
  clear HR2 HK2 hs2 ES AS HTk HBN
  go_loopg [9] n (fun kx s9 wr => ∃ (j : Nat) (ao : Option Addr) (cap : Nat), s9 = .int .i64 j ∧ j ≤ n ∧ n - j ≤ kx ∧ Aside (FiI w E R sc (cs.take j) ((cs.drop j).flatMap encCn ++ t) ao cap wr))
  case atStart => exact ⟨0, none, 0, rfl, Nat.zero_le _, by omega, HI.out⟩
  case round =>
    clear HI
    obtain ⟨j, ao, cap, rfl, hj, hjx, HI⟩ := hrel
    have htl : (cs.take j).length = j := by rw [List.length_take, ← HN.out]; omega
    have e0 := HI.out.c0
    have e1 := HI.out.c1
    rw [htl] at e1
    have hE := HI.out.lt
    by_cases hlt : j < n
    · have hjl : j < cs.length := by rw [← HN.out]; exact hlt
      have hjz : (j : Int) < (n : Int) := by omega
      have hgc := HG.out _ (memC cs j hjl)
      have hRj := HI.out.rd
      rw [dropC cs j hjl, List.flatMap_cons] at hRj
      have HTk : Aside (cs.take (j + 1) = cs.take j ++ [cs[j]!]) := takeC cs j hjl
      obtain ⟨a, ha⟩ : ∃ a, a = cs[j]! := ⟨_, rfl⟩
      rw [← ha] at hgc hRj HTk
      clear ha
      have HRd : Aside (∀ w4, Rd w4 R ((cs.drop (j + 1)).flatMap encCn ++ t) → Kb (· = R) wr w4 → _) := fun w4 h1 h2 => fi_round HI.out HRL.out hs1 (by rw [htl]; omega) a ((cs.drop (j + 1)).flatMap encCn ++ t) w4 h1 h2
      rw [htl] at HRd
      obtain ⟨hcan, hnm, ho0, ho1⟩ := hgc
      have hvo := fun t' => rValue_enc a.a hcan t'
      obtain ⟨⟨nm, k, m, x, s, y⟩, op⟩ := a
      simp only [] at hnm ho0 ho1 hvo HRd
      obtain ⟨rest, hrest⟩ : ∃ rest, rest = (cs.drop (j + 1)).flatMap encCn ++ t := ⟨_, rfl⟩
      have hR0 : Rd wr R (encT nm ++ (UInt8.ofNat op.toNat :: (encV ⟨nm, k, m, x, s, y⟩ ++ rest))) := by
        rw [hrest]; simpa [encCn] using hRj
      rw [← hrest] at HRd
      have hER2 : ¬ E = R := hER
      have hop : (((UInt8.ofNat op.toNat).toNat : Nat) : Int) = op := by rw [UInt8.toNat_ofNat_of_lt' (by show op.toNat < 256; omega)]; omega
      have hT : Calls Try.prog 23 #[.pointer (some ⟨R, 0, none⟩)] wr.drew fun e w' => e = .returned (.string nm) ∧ Aside (Rd w' R (UInt8.ofNat op.toNat :: (encV ⟨nm, k, m, x, s, y⟩ ++ rest)) ∧ Kb (· = R) wr w') := (text_ok R _ (UInt8.ofNat op.toNat :: (encV ⟨nm, k, m, x, s, y⟩ ++ rest)) nm wr.drew (hR0.kb (Kb.drew (fun _ => False) wr) (fun _ _ h => h)) (rText_enc nm hnm _)).mono fun e w' q => ⟨q.1, q.2.out.1, (Kb.drew _ wr).trans q.2.out.2⟩
      have hB : ∀ W, Rd W R (UInt8.ofNat op.toNat :: (encV ⟨nm, k, m, x, s, y⟩ ++ rest)) → Calls Try.prog 24 #[.pointer (some ⟨R, 0, none⟩)] W fun e w' => e = .returned (.int .i64 op) ∧ Aside (Rd w' R (encV ⟨nm, k, m, x, s, y⟩ ++ rest) ∧ Kb (· = R) W w') := fun W hW => by
        have := byte_ok R _ _ W hW
        rw [hop] at this
        exact this
      have hV : ∀ W, Rd W R (encV ⟨nm, k, m, x, s, y⟩ ++ rest) → Calls Try.prog 25 #[.pointer (some ⟨R, 0, none⟩)] W fun e w' => e = .returned (.agg #[.int .i64 k, .int .i64 m, .float .f64 x, .string s, .bool y]) ∧ Aside (Rd w' R rest ∧ Kb (· = R) W w') := fun W hW => value_ok nm R _ rest ⟨nm, k, m, x, s, y⟩ W hW (hvo rest)
      have HT := Lib.hid hT
      have HB := Lib.hid hB
      have HV := Lib.hid hV
      have HRs : Aside (rest = (cs.drop (j + 1)).flatMap encCn ++ t) := hrest
      clear hT hB hV hop hR0 hrest hvo hcan hnm ho0 ho1 hRj htl hjl HI
      go_wp2_with fail
      go_region_with (first
        | (go_at_call 23; refine HT.out.mono ?_; rintro e w3 ⟨rfl, hA3⟩; have p0 := (hA3.out.2.cell (p := ⟨E, 0, none⟩) hE hER2).trans e0; have p1 := (hA3.out.2.cell (p := ⟨E, 1, none⟩) hE hER2).trans e1; have hE3 : E < w3.heap.size := Nat.lt_of_lt_of_le hE hA3.out.2.size)
        | (go_at_call 24; refine (HB.out _ hA3.out.1).mono ?_; rintro e w4 ⟨rfl, hA4⟩; have p2 := (hA4.out.2.cell (p := ⟨E, 0, none⟩) hE3 hER2).trans p0; have p3 := (hA4.out.2.cell (p := ⟨E, 1, none⟩) hE3 hER2).trans p1; have hE4 : E < w4.heap.size := Nat.lt_of_lt_of_le hE3 hA4.out.2.size)
        | (go_at_call 25; refine (HV.out _ hA4.out.1).mono ?_; rintro e w5 ⟨rfl, hA5⟩; have q0 := (hA5.out.2.cell (p := ⟨E, 0, none⟩) hE4 hER2).trans p2; have q1 := (hA5.out.2.cell (p := ⟨E, 1, none⟩) hE4 hER2).trans p3; have r1 := (World.cell?_alloc_lt w5 (.cells #[.string nm, .int .i64 op, .int .i64 k, .int .i64 m, .float .f64 x, .string s, .bool y] 30) ⟨E, 1, none⟩ (Nat.lt_of_lt_of_le hE4 hA5.out.2.size)).trans q1; obtain ⟨ao', cap', w6, hrun, ⟨u, hu⟩, hf, HX⟩ := HRd.out w5 hA5.out.1 (hA3.out.2.trans (hA4.out.2.trans hA5.out.2))))
      all_goals
        go_wp2_with fail
        go_roundg (n - (j + 1))
        case measure => omega
        case rel => exact ⟨j + 1, ao', cap', by go_num, hlt, Nat.le_refl _, by show FiI _ _ _ _ _ _ _ _ _; rw [HTk.out, ← HRs.out]; exact HX.out⟩
    · obtain rfl : j = n := by omega
      obtain ⟨ao9, cap9, hv9, hs9⟩ := own7_slice HI.out.own
      injection hv9 with h1 h2 h3
      subst h1 h3
      have hall : cs.take j = cs := by rw [HN.out, List.take_length]
      have hno : (cs.drop j).flatMap encCn ++ t = t := by rw [HN.out, List.drop_length]; rfl
      have hI2 := HI.out
      rw [hall, hno] at hI2
      rw [hall] at hs9
      have HI2 : Aside (FiI w E R sc cs t ao cap wr) := hI2
      have HS9 : Aside (CondsN (E + 1) wr ao cs) := hs9
      have a0 := hI2.ac.1; have a1 := hI2.ac.2.1; have f0 := hI2.ac.2.2.1; have f1 := hI2.ac.2.2.2
      clear hall hno hI2 hs9 HI hj hjx hlt
      go_wp2_with fail
      have x0 : ((wr.setCell ⟨w.heap.size, 0, none⟩ (.string sc)).setCell ⟨w.heap.size, 1, none⟩ (.slice ao j cap)).cell? ⟨w.heap.size, 0, none⟩ = some (.string sc) := by
        rw [oth (by decide)]; exact World.cell?_setCell_same _ _ _ a0
      have x1 : ((wr.setCell ⟨w.heap.size, 0, none⟩ (.string sc)).setCell ⟨w.heap.size, 1, none⟩ (.slice ao j cap)).cell? ⟨w.heap.size, 1, none⟩ = some (.slice ao j cap) :=
        World.cell?_setCell_same _ _ _ (by rw [oth (by decide)]; exact a1)
      have hX : Kb (fun k => k = w.heap.size) wr ((wr.setCell ⟨w.heap.size, 0, none⟩ (.string sc)).setCell ⟨w.heap.size, 1, none⟩ (.slice ao j cap)) := (Kb.setCell (S := fun k => k = w.heap.size) wr ⟨w.heap.size, 0, none⟩ rfl _).trans (Kb.setCell (S := fun k => k = w.heap.size) _ ⟨w.heap.size, 1, none⟩ rfl _)
      refine bodyPost_ret (v := .agg #[.string sc, .slice ao j cap]) (by simp [results, Try.results10, go_sem, x0, x1]) rfl ?_
      refine ⟨ao, ⟨cap, rfl⟩, ?_, HI2.out.rd.kb hX (fun k h => by have := HRL.out; omega), ?_⟩
      · rcases HS9.out with h | ⟨g, h1, h2, h3, h4⟩
        · exact Or.inl h
        · exact Or.inr ⟨g, h1, by omega, Nat.lt_of_lt_of_le h3 hX.size, fun i hi c v hv => (hX.cell (p := ⟨g, 0 + i * 7 + c, none⟩) h3 (by show ¬ g = w.heap.size; omega)).trans (h4 i hi c v hv)⟩
      · have hkk := HI2.out.kb
        refine ⟨hX.os.trans hkk.os, hX.tape.trans hkk.tape, hX.output.trans hkk.output, Nat.le_trans hkk.size hX.size, fun k h1 h2 => ?_⟩
        exact (hX.block k (Nat.lt_of_lt_of_le h1 hkk.size) (by omega)).trans (hkk.block k h1 h2)
end Go.Proofs.Ytecfbbddhnkilaa
