/- codec.ReadEvent of any bytes. -/
import Derived.Test.YtecfbbddhnkilaaRd7
namespace Go.Proofs.Ytecfbbddhnkilaa
open Go.RowKit Go.Shelf Go.Sort
open Go.Proofs
set_option maxRecDepth 100000

/-- The event that bytes are. -/
def evOf (l : List UInt8) : Option (ByteArray × List At) := match rEvent l with
  | some (p, []) => some p
  | _ => none
def EvRes (r : Option (ByteArray × List At)) (w : World) (e : Ending) (w' : World) : Prop :=
  Below w.heap.size w w' ∧ match r with
  | none => e = .returned (.tuple #[.agg #[.string ⟨#[]⟩, .slice none 0 0], .bool false])
  | some (sc, es) => ∃ ao cap, e = .returned (.tuple #[.agg #[.string sc, .slice ao es.length cap], .bool true]) ∧ SliceA w' ao es

/-- What ReadEvent's closure leaves: an event in the box, or nothing. -/
def EvBox (E : Nat) (l l' : List UInt8) (W : World) : Prop := ∃ sc es ao cap, rEvent l = some ((sc, es), l') ∧ W.cell? ⟨E, 0, none⟩ = some (.string sc) ∧ W.cell? ⟨E, 1, none⟩ = some (.slice ao es.length cap) ∧ SliceN (E + 2) W ao es

set_option maxHeartbeats 2000000 in
theorem readEvent1_c (E R : Nat) (l : List UInt8) (u0 u1 : Value) (w : World) (h : Rd w R l) (hE : E + 1 < R) (h0 : w.cell? ⟨E, 0, none⟩ = some u0) (h1 : w.cell? ⟨E, 1, none⟩ = some u1) (f0 : w.frozen? ⟨E, 0, none⟩ = false) (f1 : w.frozen? ⟨E, 1, none⟩ = false) (hni : ∀ i c, w.cell? ⟨E, i, none⟩ ≠ some (.int .u8 c)) :
    Calls Try.prog 27 #[.pointer (some ⟨R, 0, none⟩), .pointer (some ⟨E, 0, none⟩)] w fun e w' => Kb (fun k => k = R ∨ k = E) w w' ∧ ((∃ l', e = .returned (.tuple #[]) ∧ Rd w' R l' ∧ EvBox E l l' w') ∨ (e = .panicked gv ∧ rEvent l = none)) := by
  have hc := rdEvent_c R l w h
  have hRw := h.lt
  have H : Aside _ := h
  cases hr : rEvent l with
  | none =>
    rw [hr] at hc
    clear h
    go_enter Try.func27, Try.ntmps27
    go_wp2_with fail
    refine hc.mono ?_
    rintro e w1 ⟨hk, rfl⟩
    exact ⟨rfl, hk.mono (fun _ _ h => Or.inl h), Or.inr ⟨rfl, trivial⟩⟩
  | some p =>
    obtain ⟨⟨sc, es⟩, l'⟩ := p
    rw [hr] at hc
    have HR : Aside _ := hr
    have HNI : Aside _ := hni
    clear h hr hni
    go_enter Try.func27, Try.ntmps27
    go_wp2_with fail
    refine hc.mono ?_
    rintro e w1 ⟨hk, ao, cap, rfl, hsl, hrd⟩
    have hER : ¬ E = R := by omega
    have hEw : E < w.heap.size := by omega
    have a0 := (hk.cell (p := ⟨E, 0, none⟩) hEw hER).trans h0
    have a1 := (hk.cell (p := ⟨E, 1, none⟩) hEw hER).trans h1
    have g0 := (hk.frozen (p := ⟨E, 0, none⟩) hEw hER).trans f0
    have g1 := (hk.frozen (p := ⟨E, 1, none⟩) hEw hER).trans f1
    have HK : Aside _ := hk
    have HS : Aside _ := hsl
    have HRd : Aside _ := hrd
    clear hc hk hsl hrd h0 h1 f0 f1
    go_wp2_with fail
    have hX : Kb (fun k => k = E) w1 ((w1.setCell ⟨E, 0, none⟩ (.string sc)).setCell ⟨E, 1, none⟩ (.slice ao es.length cap)) := (Kb.setCell (S := fun k => k = E) w1 ⟨E, 0, none⟩ rfl _).trans (Kb.setCell (S := fun k => k = E) _ ⟨E, 1, none⟩ rfl _)
    have x0 : ((w1.setCell ⟨E, 0, none⟩ (.string sc)).setCell ⟨E, 1, none⟩ (.slice ao es.length cap)).cell? ⟨E, 0, none⟩ = some (.string sc) := by
      rw [oth (by decide)]; exact World.cell?_setCell_same _ _ _ a0
    have x1 : ((w1.setCell ⟨E, 0, none⟩ (.string sc)).setCell ⟨E, 1, none⟩ (.slice ao es.length cap)).cell? ⟨E, 1, none⟩ = some (.slice ao es.length cap) :=
      World.cell?_setCell_same _ _ _ (by rw [oth (by decide)]; exact a1)
    generalize (w1.setCell ⟨E, 0, none⟩ (.string sc)).setCell ⟨E, 1, none⟩ (.slice ao es.length cap) = w2 at *
    go_end0
    refine ⟨(HK.out.mono (fun _ _ h => Or.inl h)).trans (hX.mono (fun _ _ h => Or.inr h)), Or.inl ⟨l', rfl, ?_, sc, es, ao, cap, HR.out, x0, x1, ?_⟩⟩
    · obtain ⟨ao2, cap2, q1, q2, q3⟩ := HRd.out.is
      refine ⟨Nat.lt_of_lt_of_le HRd.out.lt hX.size, (hX.frozen (p := ⟨R, 0, none⟩) HRd.out.lt (by show ¬ R = E; omega)).trans HRd.out.fr, ao2, cap2, (hX.cell (p := ⟨R, 0, none⟩) HRd.out.lt (by show ¬ R = E; omega)).trans q1, q2, ?_⟩
      rcases q3 with q | ⟨b, off, q3, q4, q5, q6⟩
      · exact Or.inl q
      · by_cases hl : l' = []
        · exact Or.inl hl
        · have hbE : ¬ b = E := by
            rintro rfl
            have q7 := q6 0 (by cases l' <;> simp_all)
            rw [HK.out.cell (p := ⟨b, off + 0, none⟩) hEw hER] at q7
            exact HNI.out _ _ q7
          exact Or.inr ⟨b, off, q3, q4, Nat.lt_of_lt_of_le q5 hX.size, fun j hj => (hX.cell (p := ⟨b, off + j, none⟩) q5 hbE).trans (q6 j hj)⟩
    · rcases HS.out with h | ⟨b, h1, h2, h3, h4⟩
      · exact Or.inl h
      · exact Or.inr ⟨b, h1, by omega, Nat.lt_of_lt_of_le h3 hX.size, fun j hj c v hv => (hX.cell (p := ⟨b, 0 + j * 6 + c, none⟩) h3 (by show ¬ b = E; omega)).trans (h4 j hj c v hv)⟩

set_option maxHeartbeats 2000000 in
theorem readEvent_c (ao : Option Addr) (cap : Nat) (l : List UInt8) (w : World) (hl : l.length ≤ cap) (hb : BytesB w w.heap.size ao l) :
    Calls Try.prog 12 #[.slice ao l.length cap] w (EvRes (evOf l) w) := by
  have hmf : ∀ (fn : Fn) (first cap : Array Value) (w : World), (Instr.makeFunc fn first cap).run Try.prog w = .ok (.func fn first cap) w := fun _ _ _ _ => rfl
  have hF : ∀ args w, (callFunc 27 args).run Try.prog w = .ok (.enter 27 args) w := enters_of Try.func27 (by kernel_rfl) rfl
  obtain ⟨n, hn⟩ : ∃ n, n = w.heap.size := ⟨_, rfl⟩
  have hbA : Below w.heap.size w ((w.alloc (.cells #[.string ⟨#[]⟩, .slice none 0 0] 46)).alloc (.cells #[.string ⟨#[]⟩, .slice none 0 0] 46)) := ((Below.refl _ _).alloc (Nat.le_refl _) _).alloc (by simp) _
  have hrd : Calls Try.prog 7 #[.slice ao l.length cap, .func (.func 27) #[] #[.pointer (some ⟨w.heap.size + 1, 0, none⟩)]] ((w.alloc (.cells #[.string ⟨#[]⟩, .slice none 0 0] 46)).alloc (.cells #[.string ⟨#[]⟩, .slice none 0 0] 46))
      fun e w' => Kb (fun k => k = w.heap.size + 1) ((w.alloc (.cells #[.string ⟨#[]⟩, .slice none 0 0] 46)).alloc (.cells #[.string ⟨#[]⟩, .slice none 0 0] 46)) w' ∧ ((∃ l', e = .returned (.bool l'.isEmpty) ∧ EvBox (w.heap.size + 1) l l' w') ∨ (e = .returned (.bool false) ∧ rEvent l = none)) := by
    have hsz : ((w.alloc (.cells #[.string ⟨#[]⟩, .slice none 0 0] 46)).alloc (.cells #[.string ⟨#[]⟩, .slice none 0 0] 46)).heap.size = w.heap.size + 2 := by simp
    have hz1 : (w.alloc (.cells #[.string ⟨#[]⟩, .slice none 0 0] 46)).heap.size = w.heap.size + 1 := by simp
    refine read_c 27 hF ao cap l #[.pointer (some ⟨w.heap.size + 1, 0, none⟩)] _ (fun k => k = w.heap.size + 1) (fun l' W => EvBox (w.heap.size + 1) l l' W) (fun _ => rEvent l = none) hl ?_ ?_ ?_ ?_ ?_
    · rcases hb with h | ⟨b, off, h1, h2, h3, h4⟩
      · exact Or.inl h
      · exact Or.inr ⟨b, off, h1, by omega, by omega, fun j hj => (hbA.cell (p := ⟨b, off + j, none⟩) h2).trans (h4 j hj)⟩
    · intro W R hW hR hRd
      rw [hsz] at hW hR
      have cc : ∀ i, W.cell? ⟨w.heap.size + 1, i, none⟩ = (#[Value.string ⟨#[]⟩, .slice none 0 0])[i]? := fun i => (hW.cell (p := ⟨w.heap.size + 1, i, none⟩) (by show w.heap.size + 1 < _; omega)).trans (by
        have := World.cell?_alloc_new (w.alloc (.cells #[.string ⟨#[]⟩, .slice none 0 0] 46)) #[.string ⟨#[]⟩, .slice none 0 0] 46 i
        rw [hz1] at this; exact this)
      have gg : ∀ i, W.frozen? ⟨w.heap.size + 1, i, none⟩ = false := fun i => (hW.frozen (p := ⟨w.heap.size + 1, i, none⟩) (by show w.heap.size + 1 < _; omega)).trans (by
        have := alloc_frozen (w.alloc (.cells #[.string ⟨#[]⟩, .slice none 0 0] 46)) #[.string ⟨#[]⟩, .slice none 0 0] 46 i
        rw [hz1] at this; exact this)
      refine (readEvent1_c (w.heap.size + 1) R l _ _ W hRd (by omega) (cc 0) (cc 1) (gg 0) (gg 1) (fun i c h => ?_)).mono fun e w' q => q
      rw [cc i] at h
      rcases i with _ | _ | i
      · cases h
      · cases h
      · simp at h
    · intro k hk; rw [hsz]; omega
    · intro l' W W' hx hk
      obtain ⟨sc, es, ao2, cap2, h1, h2, h3, h4⟩ := hx
      rw [hsz] at hk
      refine ⟨sc, es, ao2, cap2, h1, (hk.cell (p := ⟨w.heap.size + 1, 0, none⟩) (World.block_lt_of_cell? W _ h2) (by show ¬ _ = _; simp)).trans h2, (hk.cell (p := ⟨w.heap.size + 1, 1, none⟩) (World.block_lt_of_cell? W _ h3) (by show ¬ _ = _; simp)).trans h3, ?_⟩
      rcases h4 with h | ⟨b, h5, h6, h7, h8⟩
      · exact Or.inl h
      · exact Or.inr ⟨b, h5, h6, Nat.lt_of_lt_of_le h7 hk.size, fun j hj c v hv => (hk.cell (p := ⟨b, 0 + j * 6 + c, none⟩) h7 (by show ¬ b = _; omega)).trans (h8 j hj c v hv)⟩
    · intro W W' hy hk; exact hy
  have HRD := Lib.hid hrd
  have HBA : Aside _ := hbA
  clear hrd hb hl hn hbA hF
  go_enter Try.func12, Try.ntmps12
  go_wp2_with fail
  refine HRD.out.mono ?_
  have hbA : Below w.heap.size w ((w.alloc (.cells #[.string ⟨#[]⟩, .slice none 0 0] 46)).alloc (.cells #[.string ⟨#[]⟩, .slice none 0 0] 46)) := HBA.out
  have hA0 : ∀ i, ((w.alloc (.cells #[.string ⟨#[]⟩, .slice none 0 0] 46)).alloc (.cells #[.string ⟨#[]⟩, .slice none 0 0] 46)).cell? ⟨w.heap.size, i, none⟩ = (#[Value.string ⟨#[]⟩, .slice none 0 0])[i]? := fun i =>
    (World.cell?_alloc_lt _ _ ⟨w.heap.size, i, none⟩ (by simp)).trans (World.cell?_alloc_new w _ _ i)
  have hAf : ∀ i, ((w.alloc (.cells #[.string ⟨#[]⟩, .slice none 0 0] 46)).alloc (.cells #[.string ⟨#[]⟩, .slice none 0 0] 46)).frozen? ⟨w.heap.size, i, none⟩ = false := fun i =>
    (World.frozen?_of_block (w := w.alloc (.cells #[.string ⟨#[]⟩, .slice none 0 0] 46)) (Below.heap_alloc _ _ _ (by simp))).trans (alloc_frozen w _ _ i)
  have hsz : ((w.alloc (.cells #[.string ⟨#[]⟩, .slice none 0 0] 46)).alloc (.cells #[.string ⟨#[]⟩, .slice none 0 0] 46)).heap.size = w.heap.size + 2 := by simp
  clear HRD
  generalize ((w.alloc (.cells #[.string ⟨#[]⟩, .slice none 0 0] 46)).alloc (.cells #[.string ⟨#[]⟩, .slice none 0 0] 46)) = w1 at *
  rintro e w2 ⟨hk, hw⟩
  have hB2 : Below w.heap.size w w2 := hbA.trans (hk.below (by omega) (fun k h e => by omega))
  have a0 := (hk.cell (p := ⟨w.heap.size, 0, none⟩) (by show w.heap.size < _; omega) (by show ¬ w.heap.size = _; omega)).trans (hA0 0)
  have a1 := (hk.cell (p := ⟨w.heap.size, 1, none⟩) (by show w.heap.size < _; omega) (by show ¬ w.heap.size = _; omega)).trans (hA0 1)
  have g0 := (hk.frozen (p := ⟨w.heap.size, 0, none⟩) (by show w.heap.size < _; omega) (by show ¬ w.heap.size = _; omega)).trans (hAf 0)
  have g1 := (hk.frozen (p := ⟨w.heap.size, 1, none⟩) (by show w.heap.size < _; omega) (by show ¬ w.heap.size = _; omega)).trans (hAf 1)
  simp only [List.getElem?_toArray, List.getElem?_cons_zero, List.getElem?_cons_succ] at a0 a1
  have HB2 : Aside _ := hB2
  clear hA0 hAf hbA HBA hB2
  have hX : ∀ v0 v1 : Value, Below w.heap.size w ((w2.setCell ⟨w.heap.size, 0, none⟩ v0).setCell ⟨w.heap.size, 1, none⟩ v1) := fun v0 v1 => (HB2.out.setCell (p := ⟨w.heap.size, 0, none⟩) (Nat.le_refl _) _).setCell (p := ⟨w.heap.size, 1, none⟩) (Nat.le_refl _) _
  have hx : ∀ v0 v1 : Value, ((w2.setCell ⟨w.heap.size, 0, none⟩ v0).setCell ⟨w.heap.size, 1, none⟩ v1).cell? ⟨w.heap.size, 0, none⟩ = some v0 ∧ ((w2.setCell ⟨w.heap.size, 0, none⟩ v0).setCell ⟨w.heap.size, 1, none⟩ v1).cell? ⟨w.heap.size, 1, none⟩ = some v1 := fun v0 v1 =>
    ⟨by rw [oth (by decide)]; exact World.cell?_setCell_same _ _ _ a0, World.cell?_setCell_same _ _ _ (by rw [oth (by decide)]; exact a1)⟩
  have HX : Aside _ := hX
  have HXX : Aside _ := hx
  clear hX hx hk
  rcases hw with ⟨l', rfl, hev⟩ | ⟨rfl, hev⟩
  · cases l' with
    | nil =>
      obtain ⟨sc, es, ao2, cap2, h1, h2, h3, h4⟩ := hev
      have hevo : evOf l = some (sc, es) := by unfold evOf; rw [h1]
      have HEV : Aside _ := hevo
      have H4 : Aside _ := h4
      clear h1 hevo h4
      simp only [List.isEmpty_nil]
      go_wp2_with fail
      obtain ⟨x0, x1⟩ := HXX.out (.string sc) (.slice ao2 es.length cap2)
      have hb := HX.out (.string sc) (.slice ao2 es.length cap2)
      refine bodyPost_ret (v := .tuple #[.agg #[.string sc, .slice ao2 es.length cap2], .bool true]) (by simp [results, Try.results12, go_sem, x0, x1]) rfl ⟨hb, ?_⟩
      rw [HEV.out]
      refine ⟨ao2, cap2, rfl, ?_⟩
      rcases H4.out with h | ⟨b, h5, h6, h7, h8⟩
      · exact Or.inl h
      · refine Or.inr ⟨b, 0, h5, by simpa using h7, fun j hj c v hv => ?_⟩
        rw [← h8 j hj c v hv]
        rw [World.cell?_setCell_other _ ⟨w.heap.size, 1, none⟩ ⟨b, 0 + j * 6 + c, none⟩ _ (by intro e; injection e; omega), World.cell?_setCell_other _ ⟨w.heap.size, 0, none⟩ ⟨b, 0 + j * 6 + c, none⟩ _ (by intro e; injection e; omega)]
    | cons c t =>
      obtain ⟨sc, es, ao2, cap2, h1, _, _, _⟩ := hev
      have hevo : evOf l = none := by unfold evOf; rw [h1]
      have HEV : Aside _ := hevo
      clear h1 hevo
      simp only [List.isEmpty_cons]
      go_wp2_with fail
      obtain ⟨x0, x1⟩ := HXX.out (.string ⟨#[]⟩) (.slice none 0 0)
      have hb := HX.out (.string ⟨#[]⟩) (.slice none 0 0)
      exact bodyPost_ret (v := .tuple #[.agg #[.string ⟨#[]⟩, .slice none 0 0], .bool false]) (by simp [results, Try.results12, go_sem, x0, x1]) rfl ⟨hb, by rw [HEV.out]⟩
  · have hevo : evOf l = none := by unfold evOf; rw [hev]
    have HEV : Aside _ := hevo
    clear hev hevo
    go_wp2_with fail
    obtain ⟨x0, x1⟩ := HXX.out (.string ⟨#[]⟩) (.slice none 0 0)
    have hb := HX.out (.string ⟨#[]⟩) (.slice none 0 0)
    exact bodyPost_ret (v := .tuple #[.agg #[.string ⟨#[]⟩, .slice none 0 0], .bool false]) (by simp [results, Try.results12, go_sem, x0, x1]) rfl ⟨hb, by rw [HEV.out]⟩
end Go.Proofs.Ytecfbbddhnkilaa
