/- Conditions that lie in a row, behind conditions of the call's own, by append. -/
import Derived.Test.YtfffmndjgjfflaaGreatDoorFilA
namespace Go.Proofs.YtfffmndjgjfflaaGreatDoor
open Go.RowKit Go.Shelf Go.Sort
open Go.Proofs
set_option maxRecDepth 100000

theorem flatC_len (l : List Cn) : (l.flatMap encC).length = l.length * 7 := by
  induction l with
  | nil => rfl
  | cons a l ih => simp only [List.flatMap_cons, List.length_append, encC_len, List.length_cons, ih]; omega
theorem rowC_news {W : World} {b o : Nat} {ds : List Cn} (h : RowC W b o ds) : ∀ (j : Nat) u, (ds.flatMap encC)[j]? = some u → W.cell? ((⟨b, o, none⟩ : Addr).add j) = some u := fun j u hu => by
  have hj : j < ds.length * 7 := by rw [← flatC_len]; exact (List.getElem?_eq_some_iff.1 hu).1
  have hi : j / 7 < ds.length := by omega
  have hc : j % 7 < (encC ds[j / 7]!).length := by rw [encC_len]; omega
  have e := encC_at ds (j / 7) hi (j % 7) _ (List.getElem?_eq_getElem hc)
  rw [show j / 7 * 7 + j % 7 = j by omega, hu] at e
  injection e with e
  have := h (j / 7) hi (j % 7) _ (List.getElem?_eq_getElem hc)
  rw [← e] at this
  rw [Addr.add_lit]
  rw [show o + j = o + j / 7 * 7 + j % 7 by omega]
  exact this
theorem appendR_run (B : Nat) (es ds : List Cn) (v : Value) (W : World) (b o c : Nat) (hown : OwnC W B v es) (hrow : RowC W b o ds) (hB : B ≤ W.heap.size) (hl : es.length + ds.length < 256) :
    ∃ ro rcap w3, Sem.run Tryz.prog (appendS #[22, 22] 22 #[v, .slice (some ⟨b, o, none⟩) ds.length c]) W = .ok (.slice ro (es.length + ds.length) rcap) w3 ∧
      Aside (OwnC w3 B (.slice ro (es.length + ds.length) rcap) (es ++ ds) ∧ Below B W w3) := by
  obtain ⟨i0, z0, hi, hz0, hz1, hz2, hz3⟩ := cond_info
  have hone : ∀ u ∈ ds.flatMap encC, u.oneCell' = true := fun u hu => by
    obtain ⟨a, _, ha⟩ := List.mem_flatMap.1 hu
    exact encC_one a u ha
  obtain ⟨v', w3, hrun, hown4, hg, _⟩ := run_append_own_at (P := Tryz.prog) W B 22 22 31 i0 z0 7 72 Tryz.underlying22 hi hz0 hz1 hz2 hz3 (by decide) _ _ _ hown ⟨b, o, none⟩ ds.length c (ds.flatMap encC) (flatC_len ds) (rowC_news hrow) hone (by unfold maxLen; omega) (by omega) hB
  have hown5 : OwnC w3 B v' (es ++ ds) := by
    show w3.ownsRow B _ 7 v' (es ++ ds).length ((es ++ ds).flatMap encC)
    rw [List.length_append, List.flatMap_append]
    exact hown4
  obtain ⟨ro, rcap, rfl, _⟩ := ownC_conds hown5
  have hlen : (es ++ ds).length = es.length + ds.length := List.length_append
  rw [hlen] at hrun hown5
  exact ⟨ro, rcap, w3, hrun, hown5, (Below.refl B W).grown hg hB (fun k e => (hown.lt k e).1)⟩
theorem ownC_nil (W : World) (B : Nat) : OwnC W B (.slice none 0 0) [] := World.ownsRow_nil _ _ _ _
theorem rowC_drop {W : World} {b o : Nat} {cs : List Cn} (h : RowC W b o cs) (t : Nat) : RowC W b (o + t * 7) (cs.drop t) := fun j hj c v hv => by
  have hj2 : t + j < cs.length := by rw [List.length_drop] at hj; omega
  have e : (cs.drop t)[j]! = cs[t + j]! := by
    rw [getElem!_pos _ j hj, getElem!_pos _ (t + j) hj2, List.getElem_drop]
  rw [e] at hv
  have := h (t + j) hj2 c v hv
  rw [show o + t * 7 + j * 7 + c = o + (t + j) * 7 + c by rw [Nat.add_mul]; omega]
  exact this
theorem rowC_take {W : World} {b o : Nat} {cs : List Cn} (h : RowC W b o cs) (t : Nat) : RowC W b o (cs.take t) := fun j hj c v hv => by
  have hj2 : j < cs.length := by rw [List.length_take] at hj; omega
  have e : (cs.take t)[j]! = cs[j]! := by
    rw [getElem!_pos _ j hj, getElem!_pos _ j hj2, List.getElem_take]
  rw [e] at hv
  exact h j hj2 c v hv
end Go.Proofs.YtfffmndjgjfflaaGreatDoor
