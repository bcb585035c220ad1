/- Two values of the call's own, and others behind them, by append. -/
import Derived.Test.YtjeippdfgojdnaaGreatDoorOpenVs
import Derived.Maps.AppendAt
import Derived.Laws.OwnMore
import Derived.Deep.Upon
namespace Go.Proofs.YtjeippdfgojdnaaGreatDoor
open Go.RowKit Go.Shelf
open Go.Proofs
set_option maxRecDepth 100000

theorem enc5_at : ∀ (l : List At) (j : Nat), j < l.length → ∀ c u, (enc5 l[j]!)[c]? = some u → (l.flatMap enc5)[j * 5 + c]? = some u := by
  intro l
  induction l with
  | nil => intro j hj; simp at hj
  | cons a l ih =>
    intro j hj c u hu
    cases j with
    | zero =>
      have hc : c < (enc5 a).length := by
        have := (List.getElem?_eq_some_iff.1 hu).1; simpa using this
      simp only [List.flatMap_cons, Nat.zero_mul, Nat.zero_add]
      rw [List.getElem?_append_left hc]; simpa using hu
    | succ j =>
      have := ih j (by simpa using hj) c u (by simpa using hu)
      simp only [List.flatMap_cons]
      rw [List.getElem?_append_right (by rw [enc5_len]; omega), enc5_len, show (j + 1) * 5 + c - 5 = j * 5 + c by omega]
      exact this
theorem enc5_flat_len (l : List At) : (l.flatMap enc5).length = l.length * 5 := by
  induction l with
  | nil => rfl
  | cons a l ih => simp only [List.flatMap_cons, List.length_append, enc5_len, List.length_cons, ih]; omega
theorem enc5_one (a : At) : ∀ v ∈ enc5 a, v.oneCell' = true := fun v h => by
  simp only [enc5, List.mem_cons, List.not_mem_nil, or_false] at h
  rcases h with rfl | rfl | rfl | rfl | rfl <;> rfl
theorem val_info : ∃ i z, Tryz.prog.info? 24 = some i ∧ i.zero = some z ∧ i.size = 5 ∧ i.bytes = 48 ∧ z.cells.size = 5 := by
  obtain ⟨i, hi, h⟩ := Option.bind_eq_some_iff.1 (show (Tryz.prog.info? 24).bind (fun i => i.zero.map fun z => (i.size, i.bytes, z.cells.size)) = some (5, 48, 5) by kernel_rfl)
  obtain ⟨z, hz, h⟩ := Option.map_eq_some_iff.1 h
  simp only [Prod.mk.injEq] at h
  exact ⟨i, z, hi, hz, h.1, h.2.1, h.2.2⟩

theorem append_two (w : World) (k n : Int) (x : Nat) (s : ByteArray) (y : Bool) (k2 n2 : Int) (x2 : Nat) (s2 : ByteArray) (y2 : Bool) (ao : Option Addr) (cap : Nat) (es : List At) (hb : ValsB w w.heap.size ao es) (hl : es.length ≤ 40) :
    ∃ g cap1 w1, Sem.run Tryz.prog (appendS #[32, 32] 32 #[.slice (some ⟨w.heap.size, 0, none⟩) 2 2, .slice ao es.length cap]) (w.alloc (.cells #[.int .i64 k, .int .i64 n, .float .f64 x, .string s, .bool y, .int .i64 k2, .int .i64 n2, .float .f64 x2, .string s2, .bool y2] 24)) = .ok (.slice (some ⟨g, 0, none⟩) (2 + es.length) cap1) w1 ∧
      Aside (Below w.heap.size w w1 ∧ g < w1.heap.size ∧ w.heap.size ≤ g ∧ RowV w1 g 0 (⟨⟨#[]⟩, k, n, x, s, y⟩ :: ⟨⟨#[]⟩, k2, n2, x2, s2, y2⟩ :: es)) := by
  obtain ⟨i0, z0, hi, hz0, hz1, hz2, hz3⟩ := val_info
  obtain ⟨cs, hcs⟩ : ∃ cs : Array Value, cs = #[.int .i64 k, .int .i64 n, .float .f64 x, .string s, .bool y, .int .i64 k2, .int .i64 n2, .float .f64 x2, .string s2, .bool y2] := ⟨_, rfl⟩
  have hB : Below w.heap.size w (w.alloc (.cells cs 24)) := (Below.refl _ _).alloc (Nat.le_refl _) _
  have hown0 := World.ownsRow_lit (base := w.heap.size) (e := 24) (size := 5) w cs 2 (Nat.le_refl _) (by decide) (by rw [hcs]; rfl)
  have hflat : ∀ zs : List At, cs.toList ++ zs.flatMap enc5 = ((⟨⟨#[]⟩, k, n, x, s, y⟩ : At) :: ⟨⟨#[]⟩, k2, n2, x2, s2, y2⟩ :: zs).flatMap enc5 := fun zs => by rw [hcs]; rfl
  rw [← hcs]
  have fin : ∀ (g : Nat) (cap1 : Nat) (w1 : World) (zs : List At), w1.ownsRow w.heap.size 24 5 (.slice (some ⟨g, 0, none⟩) (2 + zs.length) cap1) (2 + zs.length) (cs.toList ++ zs.flatMap enc5) →
      g < w1.heap.size ∧ w.heap.size ≤ g ∧ RowV w1 g 0 (⟨⟨#[]⟩, k, n, x, s, y⟩ :: ⟨⟨#[]⟩, k2, n2, x2, s2, y2⟩ :: zs) := fun g cap1 w1 zs hown => by
    have hown' := hown
    rw [hflat] at hown'
    rcases hown.2 with ⟨h0, _⟩ | ⟨g', cap', cur, hv, hbg, hg, _, _, _, _⟩
    · cases h0
    · cases hv
      refine ⟨(Array.getElem?_eq_some_iff.1 hg).1, hbg, fun j hj c u hu => ?_⟩
      have hcell := hown'.cells (g := g) rfl (j * 5 + c) u (enc5_at _ j hj c u hu)
      rw [Nat.zero_add]
      generalize j * 5 + c = q at hcell ⊢
      by_cases h0 : q = 0
      · subst h0; simpa [Addr.add] using hcell
      · simpa [Addr.add, h0] using hcell
  rcases hb with h | ⟨b, off, rfl, h2, h3, h4⟩
  · subst h
    have hr : Sem.run Tryz.prog (appendS #[32, 32] 32 #[.slice (some ⟨w.heap.size, 0, none⟩) 2 2, .slice ao 0 cap]) (w.alloc (.cells cs 24)) = .ok (.slice (some ⟨w.heap.size, 0, none⟩) 2 2) (w.alloc (.cells cs 24)) := by
      cases ao with
      | none => exact run_append_nothing _ 32 32 32 24 i0 Tryz.underlying32 hi (some ⟨w.heap.size, 0, none⟩) 2 2 (Nat.le_refl _) _ (Src.ofNil _ Tryz.underlying32 cap)
      | some a => exact run_append_nothing _ 32 32 32 24 i0 Tryz.underlying32 hi (some ⟨w.heap.size, 0, none⟩) 2 2 (Nat.le_refl _) _ (Src.ofSlice _ Tryz.underlying32 a 0 cap [] (by simp) (by simp) (by simp))
    have := fin w.heap.size 2 _ [] (by simpa using hown0)
    exact ⟨w.heap.size, 2, _, hr, hB, this.1, this.2.1, this.2.2⟩
  · have hnews : ∀ j u, (es.flatMap enc5)[j]? = some u → (w.alloc (.cells cs 24)).cell? ((⟨b, off, none⟩ : Addr).add j) = some u := fun j u hj => by
      have hjl : j < es.length * 5 := by have := (List.getElem?_eq_some_iff.1 hj).1; rw [enc5_flat_len] at this; exact this
      have hc5 : j % 5 < (enc5 es[j / 5]!).length := by rw [enc5_len]; omega
      have h1 := enc5_at es (j / 5) (by omega) (j % 5) _ (List.getElem?_eq_getElem hc5)
      rw [show j / 5 * 5 + j % 5 = j by omega, hj] at h1
      have h5 := h4 (j / 5) (by omega) (j % 5) _ (List.getElem?_eq_getElem hc5)
      rw [show off + j / 5 * 5 + j % 5 = off + j by omega] at h5
      rw [Addr.add_lit, World.cell?_alloc_lt _ _ _ (by show b < w.heap.size; exact h2), h5, h1]
    obtain ⟨v1, w1, hrun1, hown1, hg1, _⟩ := run_append_own (P := Tryz.prog) (w.alloc (.cells cs 24)) w.heap.size 32 32 24 i0 z0 5 48 Tryz.underlying32 hi hz0 hz1 hz2 hz3 (by decide) _ _ _ hown0 ⟨b, off, none⟩ es.length cap (es.flatMap enc5) (enc5_flat_len es) hnews (fun u hu => by
      obtain ⟨a, _, ha⟩ := List.mem_flatMap.1 hu
      exact enc5_one a u ha) (by unfold maxLen; omega) (by omega) (by simp)
    have hb1 : Below w.heap.size w w1 := hB.grown hg1 (by simp) (fun k e => by simp [Value.ownBlock] at e; omega)
    have hown := hown1
    rcases hown1.2 with ⟨rfl, h0⟩ | ⟨g, cap1, cur, rfl, hbg, hg, hnc, hcm, hcs2, htake⟩
    · omega
    · have := fin g cap1 w1 es hown
      exact ⟨g, cap1, w1, hrun1, hb1, this.1, this.2.1, this.2.2⟩
end Go.Proofs.YtjeippdfgojdnaaGreatDoor
