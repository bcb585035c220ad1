/- append of a row of rules behind a row that the call owns. -/
import Derived.Test.YtliobglhppejiaaDoorAcO
import Derived.Deep.Upon
namespace Go.Proofs.YtliobglhppejiaaDoor
open Go.RowKit Go.Shelf Go.Sort
open Go.Proofs
set_option maxRecDepth 100000

theorem encR_flat_len (l : List Ru) : (l.flatMap encR).length = l.length * 8 := by
  induction l with
  | nil => rfl
  | cons a l ih => simp only [List.flatMap_cons, List.length_append, encR_len, List.length_cons, ih]; omega
theorem appendRs_run (B : Nat) (es rs : List Ru) (ao : Option Addr) (cap : Nat) (bo : Option Addr) (bcap : Nat) (W : World) (hown : OwnR W B (.slice ao es.length cap) es) (hle : es.length ≤ cap) (hB : B ≤ W.heap.size) (hr : RulesB W.heap.size W bo rs) (h1 : es.length ≤ 256) (h2 : rs.length ≤ 256) :
    ∃ ao' cap' w1, Sem.run Tryd.prog (appendS #[29, 29] 29 #[.slice ao es.length cap, .slice bo rs.length bcap]) W = .ok (.slice ao' (es.length + rs.length) cap') w1 ∧
      Aside (OwnR w1 B (.slice ao' (es.length + rs.length) cap') (es ++ rs) ∧ Below B W w1 ∧ es.length + rs.length ≤ cap') := by
  obtain ⟨i0, z0, hi, hz0, hz1, hz2, hz3⟩ := rule_info
  rcases hr.1 with h | ⟨b, off, rfl, hb, hrow⟩
  · subst h
    refine ⟨ao, cap, W, ?_, by simpa using hown, Below.refl _ _, by simpa using hle⟩
    show Sem.run Tryd.prog (appendS #[29, 29] 29 #[.slice ao es.length cap, .slice bo 0 bcap]) W = _
    cases bo with
    | none => exact run_append_nothing _ 29 29 29 26 i0 Tryd.underlying29 hi ao es.length cap hle _ (Src.ofNil _ Tryd.underlying29 bcap)
    | some a => exact run_append_nothing _ 29 29 29 26 i0 Tryd.underlying29 hi ao es.length cap hle _ (Src.ofSlice _ Tryd.underlying29 a 0 bcap [] (by simp) (by simp) (by simp))
  · by_cases h0 : rs.length = 0
    · have : rs = [] := List.eq_nil_of_length_eq_zero h0
      subst this
      refine ⟨ao, cap, W, ?_, by simpa using hown, Below.refl _ _, by simpa using hle⟩
      exact run_append_nothing _ 29 29 29 26 i0 Tryd.underlying29 hi ao es.length cap hle _ (Src.ofSlice _ Tryd.underlying29 _ 0 bcap [] (by simp) (by simp) (by simp))
    have hnews : ∀ j u, (rs.flatMap encR)[j]? = some u → W.cell? ((⟨b, off, none⟩ : Addr).add j) = some u := fun j u hj => by
      have hjl : j < rs.length * 8 := by have := (List.getElem?_eq_some_iff.1 hj).1; rw [encR_flat_len] at this; exact this
      have hc5 : j % 8 < (encR rs[j / 8]!).length := by rw [encR_len]; omega
      have e1 := encR_at rs (j / 8) (by omega) (j % 8) _ (List.getElem?_eq_getElem hc5)
      rw [show j / 8 * 8 + j % 8 = j by omega, hj] at e1
      have e5 := hrow (j / 8) (by omega) (j % 8) _ (List.getElem?_eq_getElem hc5)
      rw [show off + j / 8 * 8 + j % 8 = off + j by omega] at e5
      rw [Addr.add_lit, e5, e1]
    obtain ⟨v', w1, hrun, hown1, hg1, _⟩ := run_append_own (P := Tryd.prog) W B 29 29 26 i0 z0 8 104 Tryd.underlying29 hi hz0 hz1 hz2 hz3 (by decide) _ _ _ hown ⟨b, off, none⟩ rs.length bcap (rs.flatMap encR) (encR_flat_len rs) hnews (fun u hu => by
      obtain ⟨a, _, ha⟩ := List.mem_flatMap.1 hu
      exact encR_one a u ha) (by unfold maxLen; omega) (by omega) hB
    have hown5 : OwnR w1 B v' (es ++ rs) := by
      show w1.ownsRow B _ 8 v' (es ++ rs).length ((es ++ rs).flatMap encR)
      rw [List.length_append, List.flatMap_append]
      exact hown1
    have hlen : (es ++ rs).length = es.length + rs.length := List.length_append
    rcases hown1.2 with ⟨_, h00⟩ | ⟨g, cap1, cur, hv, hbg, hg, hnc, hcm, hcs2, htake⟩
    · omega
    · subst hv
      exact ⟨_, _, w1, hrun, hown5, (Below.refl B W).grown hg1 hB (fun k e => (hown.lt k e).1), hnc⟩
end Go.Proofs.YtliobglhppejiaaDoor
