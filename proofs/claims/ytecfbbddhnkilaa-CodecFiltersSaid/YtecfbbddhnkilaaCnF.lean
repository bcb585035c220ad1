/- CodecFilters' closure; conditions whose values are kept, one by one. -/
import Derived.Test.YtecfbbddhnkilaaCnR
import Derived.Test.YtecfbbddhnkilaaNIs
import Derived.Test.YtecfbbddhnkilaaSet5
import Derived.Test.YtecfbbddhnkilaaEncCan
namespace Go.Proofs.Ytecfbbddhnkilaa
open Go.RowKit Go.Shelf Go.Sort
open Go.Proofs
set_option maxRecDepth 100000

/-- What it leaves. -/
def FiltersPost (E R : Nat) (sc : ByteArray) (cs : List Cn) (w : World) (e : Ending) (w' : World) : Prop :=
  Kb (fun k => k = R ∨ k = E) w w' ∧ e = .returned (.tuple #[]) ∧ Rd w' R [] ∧ ∃ ao cap, w'.cell? ⟨E, 0, none⟩ = some (.string sc) ∧ w'.cell? ⟨E, 1, none⟩ = some (.slice ao cs.length cap) ∧ CondsN (R + 1) w' ao cs

set_option maxHeartbeats 2000000 in
theorem filters1_c (E R : Nat) (sc : ByteArray) (cs : List Cn) (u0 u1 : Value) (w : World) (h : Rd w R (encF sc cs)) (hcs : ∀ c ∈ cs, GoodC c) (hsc : sc.size ≤ 255) (hl : cs.length ≤ 255) (hE : E < R) (h0 : w.cell? ⟨E, 0, none⟩ = some u0) (h1 : w.cell? ⟨E, 1, none⟩ = some u1)
    (f0 : w.frozen? ⟨E, 0, none⟩ = false) (f1 : w.frozen? ⟨E, 1, none⟩ = false) (hni : NI w E) :
    Calls Try.prog 9 #[.pointer (some ⟨R, 0, none⟩), .pointer (some ⟨E, 0, none⟩)] w (FiltersPost E R sc cs w) := by
  have hc := rdFilter_c R sc cs [] w (by rw [List.append_nil]; exact h) hcs hsc hl
  have hRw := h.lt
  have HNI : Aside (NI w E) := hni
  obtain ⟨n, hn⟩ : ∃ n, n = cs.length := ⟨_, rfl⟩
  have HN : Aside (n = cs.length) := hn
  rw [← hn] at hc
  clear h hni hcs hsc hl hn
  go_enter Try.func9, Try.ntmps9
  go_wp2_with fail
  refine hc.mono ?_
  rintro e w1 ⟨ao, cap, rfl, hA⟩
  obtain ⟨hsl, hrd, hk⟩ := hA.out
  have hER : ¬ E = R := by omega
  have hEw : E < w.heap.size := by omega
  have a0 := (hk.cell (p := ⟨E, 0, none⟩) hEw hER).trans h0
  have a1 := (hk.cell (p := ⟨E, 1, none⟩) hEw hER).trans h1
  have g0 := (hk.frozen (p := ⟨E, 0, none⟩) hEw hER).trans f0
  have g1 := (hk.frozen (p := ⟨E, 1, none⟩) hEw hER).trans f1
  have HK : Aside (Kb (· = R) w w1) := hk
  have HS : Aside (CondsN (w.heap.size + 1) w1 ao cs) := hsl
  have HRd : Aside (Rd w1 R []) := hrd
  clear hc hk hsl hrd h0 h1 f0 f1 hA
  go_wp2_with fail
  have hX : Kb (fun k => k = E) w1 ((w1.setCell ⟨E, 0, none⟩ (.string sc)).setCell ⟨E, 1, none⟩ (.slice ao n cap)) := (Kb.setCell (S := fun k => k = E) w1 ⟨E, 0, none⟩ rfl _).trans (Kb.setCell (S := fun k => k = E) _ ⟨E, 1, none⟩ rfl _)
  have x0 : ((w1.setCell ⟨E, 0, none⟩ (.string sc)).setCell ⟨E, 1, none⟩ (.slice ao n cap)).cell? ⟨E, 0, none⟩ = some (.string sc) := by
    rw [oth (by decide)]; exact World.cell?_setCell_same _ _ _ a0
  have x1 : ((w1.setCell ⟨E, 0, none⟩ (.string sc)).setCell ⟨E, 1, none⟩ (.slice ao n cap)).cell? ⟨E, 1, none⟩ = some (.slice ao n cap) :=
    World.cell?_setCell_same _ _ _ (by rw [oth (by decide)]; exact a1)
  generalize (w1.setCell ⟨E, 0, none⟩ (.string sc)).setCell ⟨E, 1, none⟩ (.slice ao n cap) = w2 at *
  go_end0
  refine ⟨(HK.out.mono (fun _ _ h => Or.inl h)).trans (hX.mono (fun _ _ h => Or.inr h)), rfl, ?_, ao, cap, x0, by rw [← HN.out]; exact x1, ?_⟩
  · obtain ⟨ao2, cap2, q1, q2, q3⟩ := HRd.out.is
    exact ⟨Nat.lt_of_lt_of_le HRd.out.lt hX.size, (hX.frozen (p := ⟨R, 0, none⟩) HRd.out.lt (by show ¬ R = E; omega)).trans HRd.out.fr, ao2, cap2, (hX.cell (p := ⟨R, 0, none⟩) HRd.out.lt (by show ¬ R = E; omega)).trans q1, q2, Or.inl rfl⟩
  · rcases HS.out with h | ⟨b, h1, h2, h3, h4⟩
    · exact Or.inl h
    · exact Or.inr ⟨b, h1, by omega, Nat.lt_of_lt_of_le h3 hX.size, fun j hj c v hv => (hX.cell (p := ⟨b, 0 + j * 7 + c, none⟩) h3 (by show ¬ b = E; omega)).trans (h4 j hj c v hv)⟩

/-- A condition with its value kept; the first j of some. -/
def canC (c : Cn) : Cn := ⟨canonA c.a, c.op⟩
def curC (cs : List Cn) (j : Nat) : List Cn := (cs.take j).map canC ++ cs.drop j
theorem curC_len (es : List Cn) (j : Nat) : (curC es j).length = es.length := by simp [curC]; omega
theorem curC_get (es : List Cn) (j i : Nat) (hj : j ≤ es.length) : (curC es j)[i]? = if i < j then es[i]?.map canC else es[i]? := by
  unfold curC
  by_cases h : i < j
  · rw [if_pos h, List.getElem?_append_left (by simp; omega), List.getElem?_map, List.getElem?_take_of_lt h]
  · rw [if_neg h, List.getElem?_append_right (by simp; omega), List.getElem?_drop]
    congr 1
    simp
    omega
theorem curC_at (es : List Cn) (j : Nat) (h : j < es.length) : (curC es j)[j]! = es[j]! := by
  rw [List.getElem!_eq_getElem?_getD, List.getElem!_eq_getElem?_getD, curC_get es j j (Nat.le_of_lt h), if_neg (Nat.lt_irrefl _)]
theorem curC_next (es : List Cn) (j i : Nat) (h : j < es.length) : (curC es (j + 1))[i]! = if i = j then canC es[j]! else (curC es j)[i]! := by
  rw [List.getElem!_eq_getElem?_getD, List.getElem!_eq_getElem?_getD, List.getElem!_eq_getElem?_getD, curC_get es (j + 1) i h, curC_get es j i (Nat.le_of_lt h)]
  by_cases hij : i = j
  · subst hij
    rw [if_pos (Nat.lt_succ_self _), if_pos rfl, List.getElem?_eq_getElem h]
    rfl
  · rw [if_neg hij]
    by_cases h1 : i < j
    · rw [if_pos (by omega), if_pos h1]
    · rw [if_neg (by omega), if_neg h1]
theorem curC_end (es : List Cn) : curC es es.length = es.map canC := by simp [curC]
theorem curC_zero (es : List Cn) : curC es 0 = es := by simp [curC]

/-- What the law asks of each condition, or it looks no further. -/
def okC (c : Cn) : Bool := decide (c.a.nm.size ≤ 255) && decide (c.a.s.size ≤ 40) && decide (0 ≤ c.op) && decide (c.op ≤ 255) && decide (0 ≤ c.a.k) && decide (c.a.k ≤ 3)
theorem good_canC (c : Cn) (h : okC c = true) (ho : AtOk c.a ∧ -9223372036854775808 ≤ c.a.n ∧ c.a.n ≤ 9223372036854775807) : GoodC (canC c) := by
  simp only [okC, Bool.and_eq_true, decide_eq_true_eq] at h
  obtain ⟨⟨⟨⟨⟨h1, h2⟩, h3⟩, h4⟩, h5⟩, h6⟩ := h
  obtain ⟨b1, b2, b3⟩ := canonA_bd c.a ho.1 ho.2.1 ho.2.2
  refine ⟨⟨canonA_idem _, b2, b3, b1, ?_⟩, by rw [show (canC c).a = canonA c.a from rfl, canonA_nm]; exact h1, h3, h4⟩
  obtain ⟨⟨nm, k, n, x, s, y⟩, op⟩ := c
  simp only [] at h2 h5 h6
  rcases (show k = 0 ∨ k = 1 ∨ k = 2 ∨ k = 3 by omega) with rfl | rfl | rfl | rfl
  · simp [canC, canonA, vrightB, ByteArray.size]
  · simp [canC, canonA, vrightB, ByteArray.size]
  · simp [canC, canonA, vrightB]; omega
  · simp [canC, canonA, vrightB, ByteArray.size]
theorem tell_good (c : Cn) (h : GoodC c) : TellC c := by
  have hv := h.can.v
  simp only [vrightB, Bool.and_eq_true, decide_eq_true_eq] at hv
  exact ⟨⟨h.nm, by simp only [tellsV, Bool.and_eq_true, Bool.or_eq_true, decide_eq_true_eq]; omega, h.can.x⟩, h.o0, h.o1⟩
/-- A row while its condition j is set. -/
theorem row_set (W : World) (g j : Nat) (cs : List Cn) (hj : j < cs.length) (c : Cn) (h : RowC W g 0 (curC cs j)) (hc : c = canC cs[j]!) :
    RowC (set5 W g (j * 7 + 2) c.a) g 0 (curC cs (j + 1)) := by
  intro i hi q v hv
  rw [curC_len] at hi
  rw [curC_next cs j i hj] at hv
  have hq : q < 7 := by have := (List.getElem?_eq_some_iff.1 hv).1; rw [encC_len] at this; exact this
  by_cases hij : i = j
  · subst hij
    rw [if_pos rfl, ← hc] at hv
    have hold := fun q' v' hv' => h i (by rw [curC_len]; exact hi) q' v' hv'
    rw [curC_at cs i hj] at hold
    by_cases h2 : q < 2
    · rw [set5_other _ _ _ _ _ (Or.inl (by omega))]
      refine hold q v ?_
      subst hc
      rcases (show q = 0 ∨ q = 1 by omega) with rfl | rfl
      · rw [← hv]; show some (Value.string _) = some (Value.string _); rw [show (canC cs[i]!).a.nm = (canonA cs[i]!.a).nm from rfl, canonA_nm]
      · exact hv
    · have e1 : 0 + i * 7 + q = i * 7 + 2 + (q - 2) := by omega
      rw [e1]
      refine set5_at W g (i * 7 + 2) c.a cs[i]!.a (fun q' v' hv' => ?_) (q - 2) v ?_
      · have hq' : q' < 5 := by have := (List.getElem?_eq_some_iff.1 hv').1; rw [enc5_len] at this; exact this
        have := hold (2 + q') v' (by
          rcases (show q' = 0 ∨ q' = 1 ∨ q' = 2 ∨ q' = 3 ∨ q' = 4 by omega) with rfl | rfl | rfl | rfl | rfl <;> exact hv')
        rw [show 0 + i * 7 + (2 + q') = i * 7 + 2 + q' by omega] at this
        exact this
      · rcases (show q = 2 ∨ q = 3 ∨ q = 4 ∨ q = 5 ∨ q = 6 by omega) with rfl | rfl | rfl | rfl | rfl <;> exact hv
  · rw [if_neg hij] at hv
    rw [set5_other _ _ _ _ _ (by omega)]
    exact h i (by rw [curC_len]; exact hi) q v hv
end Go.Proofs.Ytecfbbddhnkilaa
