/- gazettelaw05.parts: what stands between the slashes. -/
import Derived.Test.YtilkmpnloblheaaDoorScope
import Derived.Maps.AppendAt
namespace Go.Proofs.YtilkmpnloblheaaDoor
open Go.RowKit Go.Shelf
open Go.Proofs
set_option maxRecDepth 100000

/-- What has been laid when j letters are done, the last slash standing ahead of place fr. -/
structure PartsI (s : ByteArray) (j fr : Nat) (done : List ByteArray) : Prop where
  le : fr ≤ j
  few : done.length ≤ j
  is : (j ≤ s.size ∧ cutB s = done ++ (Sc.glue ((s.data.toList.take j).drop fr) (Sc.cutL (s.data.toList.drop j))).map bsOf) ∨ (j = s.size + 1 ∧ cutB s = done)

theorem partsI_start (s : ByteArray) : PartsI s 0 0 [] := ⟨Nat.le_refl _, Nat.le_refl _, Or.inl ⟨Nat.zero_le _, by
  simp only [List.take_zero, List.drop_zero, List.nil_append]
  rw [Sc.glue_nil _ (Sc.cutL_ne _)]; rfl⟩⟩
theorem extract_bs (s : ByteArray) (fr j : Nat) : bsOf ((s.data.toList.take j).drop fr) = s.extract fr j := by
  rw [← bsOf_data (s.extract fr j)]
  congr 1
  simp [List.drop_take]
theorem drop_at (s : ByteArray) (j : Nat) (h : j < s.size) : s.data.toList.drop j = s[j] :: s.data.toList.drop (j + 1) := by
  have hl : j < s.data.toList.length := by simpa using h
  rw [List.drop_eq_getElem_cons hl]; rfl
theorem take_at (s : ByteArray) (j fr : Nat) (h : j < s.size) (hf : fr ≤ j) : (s.data.toList.take (j + 1)).drop fr = (s.data.toList.take j).drop fr ++ [s[j]] := by
  have hl : j < s.data.toList.length := by simpa using h
  rw [List.take_add_one, List.getElem?_eq_getElem hl, List.drop_append_of_le_length (by simp; omega)]; rfl
theorem PartsI.other {s : ByteArray} {j fr : Nat} {done : List ByteArray} (h : PartsI s j fr done) (hj : j < s.size) (hc : ¬ s[j] = 47) : PartsI s (j + 1) fr done := by
  refine ⟨Nat.le_succ_of_le h.le, Nat.le_succ_of_le h.few, Or.inl ⟨hj, ?_⟩⟩
  rcases h.is with ⟨_, e⟩ | ⟨e, _⟩
  · rw [e, drop_at s j hj, Sc.cutL_other _ _ hc, Sc.glue_glue, take_at s j fr hj h.le]
  · omega
theorem PartsI.slash {s : ByteArray} {j fr : Nat} {done : List ByteArray} (h : PartsI s j fr done) (hj : j < s.size) (hc : s[j] = 47) : PartsI s (j + 1) (j + 1) (done ++ [s.extract fr j]) := by
  refine ⟨Nat.le_refl _, by have := h.few; simp; omega, Or.inl ⟨hj, ?_⟩⟩
  rcases h.is with ⟨_, e⟩ | ⟨e, _⟩
  · rw [e, drop_at s j hj, hc, Sc.cutL_slash]
    have h0 : (s.data.toList.take (j + 1)).drop (j + 1) = [] := by rw [List.drop_eq_nil_iff]; simp; omega
    rw [h0, Sc.glue_nil _ (Sc.cutL_ne _), List.append_assoc]
    simp only [Sc.glue, List.map_cons, List.append_nil, List.singleton_append]
    rw [extract_bs]
  · omega
theorem PartsI.last {s : ByteArray} {fr : Nat} {done : List ByteArray} (h : PartsI s s.size fr done) : PartsI s (s.size + 1) (s.size + 1) (done ++ [s.extract fr s.size]) := by
  refine ⟨Nat.le_refl _, by have := h.few; simp; omega, Or.inr ⟨rfl, ?_⟩⟩
  rcases h.is with ⟨_, e⟩ | ⟨e, _⟩
  · have h0 : s.data.toList.drop s.size = [] := List.drop_of_length_le (by simp)
    rw [e, h0]
    simp only [Sc.cutL, Sc.glue, List.map_cons, List.map_nil, List.append_nil]
    rw [extract_bs]
  · omega
theorem PartsI.done {s : ByteArray} {fr : Nat} {done : List ByteArray} (h : PartsI s (s.size + 1) fr done) : done = cutB s := by
  rcases h.is with ⟨e, _⟩ | ⟨_, e⟩
  · omega
  · exact e.symm

/-- Texts that lie in a block of their own. -/
def TextsAt (B : Nat) (w : World) (b : Nat) (l : List ByteArray) : Prop := B ≤ b ∧ b < w.heap.size ∧ ∀ j, j < l.length → w.cell? ⟨b, j, none⟩ = some (.string l[j]!)
theorem own_texts {w : World} {base : Nat} {e : TypeId} {v : Value} {l : List ByteArray} (h : w.ownsRow base e 1 v l.length (l.map Value.string)) (hne : l ≠ []) : ∃ b cap, v = .slice (some ⟨b, 0, none⟩) l.length cap ∧ TextsAt base w b l := by
  rcases h.2 with ⟨rfl, h0⟩ | ⟨g, cap, cur, rfl, hbg, hg, hnc, hcm, hcs, htake⟩
  · exact absurd (List.eq_nil_of_length_eq_zero (by omega)) hne
  · refine ⟨g, cap, rfl, hbg, (Array.getElem?_eq_some_iff.1 hg).1, fun j hj => ?_⟩
    have h1 : (cur.toList.take (l.length * 1))[j]? = some (.string l[j]!) := by
      rw [htake, List.getElem?_map, List.getElem?_eq_getElem hj, getElem!_pos l j hj]; rfl
    rw [List.getElem?_take, if_pos (by omega)] at h1
    have h2 : cur[j]? = some (.string l[j]!) := by simpa using h1
    unfold World.cell?
    simp [hg, h2]
theorem TextsAt.below {B n : Nat} {w w' : World} {b : Nat} {l : List ByteArray} (h : TextsAt B w b l) (hb : Below n w w') (hn : n = w.heap.size) : TextsAt B w' b l := by
  subst hn
  exact ⟨h.1, Nat.lt_of_lt_of_le h.2.1 hb.size, fun j hj => (hb.cell (p := ⟨b, j, none⟩) h.2.1).trans (h.2.2 j hj)⟩
theorem cutB_ne (s : ByteArray) : cutB s ≠ [] := by
  unfold cutB
  simpa using Sc.cutL_ne _
theorem str_info : ∃ i z, Tryd.prog.info? 9 = some i ∧ i.zero = some z ∧ i.size = 1 ∧ i.bytes = 16 ∧ z.cells.size = 1 := by
  obtain ⟨i, hi, h⟩ := Option.bind_eq_some_iff.1 (show (Tryd.prog.info? 9).bind (fun i => i.zero.map fun z => (i.size, i.bytes, z.cells.size)) = some (1, 16, 1) by kernel_rfl)
  obtain ⟨z, hz, h⟩ := Option.map_eq_some_iff.1 h
  simp only [Prod.mk.injEq] at h
  exact ⟨i, z, hi, hz, h.1, h.2.1, h.2.2⟩

/-- What it gives: the pieces, in a block of their own. -/
def PartsPost (s : ByteArray) (w : World) (e : Ending) (w' : World) : Prop := ∃ b cap, e = .returned (.slice (some ⟨b, 0, none⟩) (cutB s).length cap) ∧ TextsAt w.heap.size w' b (cutB s) ∧ Below w.heap.size w w'

set_option maxHeartbeats 2000000 in
theorem parts_c (s : ByteArray) (w : World) (hs : s.size ≤ 1000) :
    Calls Tryd.prog 9 #[.string s] w (PartsPost s w) := by
  obtain ⟨i0, z0, hi, hz0, hz1, hz2, hz3⟩ := str_info
  go_enter Tryd.func9, Tryd.ntmps9
  go_wp2_with fail
  go_loopg [3, 4, 9] (s.size + 1) (fun kx v3 v4 v9 wr => ∃ (j fr : Nat) (done : List ByteArray), v9 = .int .i64 j ∧ v4 = .int .i64 fr ∧ j ≤ s.size + 1 ∧ s.size + 1 - j ≤ kx ∧ Aside (PartsI s j fr done) ∧ Aside (wr.ownsRow w.heap.size 9 1 v3 done.length (done.map Value.string)) ∧ Aside (Below w.heap.size w wr))
  case atStart => exact ⟨0, 0, [], rfl, rfl, Nat.zero_le _, by omega, partsI_start s, World.ownsRow_nil _ _ _ _, Below.refl _ _⟩
  case round =>
    obtain ⟨j, fr, done, rfl, rfl, hj, hjx, HI, HO, HB⟩ := hrel
    have hsz := HB.out.size
    have hfj := HI.out.le
    have hdj := HI.out.few
    by_cases hend : j = s.size + 1
    · subst hend
      have hd : done = cutB s := HI.out.done
      obtain ⟨b, cap, rfl, hT⟩ := own_texts HO.out (by rw [hd]; exact cutB_ne s)
      have HT : Aside (TextsAt w.heap.size wr b (cutB s) ∧ Below w.heap.size w wr) := ⟨hd ▸ hT, HB.out⟩
      have HD := Lib.hid hd
      have hlt : ¬ ((s.size + 1 : Nat) : Int) < (s.size : Int) + 1 := by omega
      clear hd hT HO HI hfj hdj hj hjx hsz
      go_wp2_with fail
      go_ret
      exact ⟨b, cap, by rw [← HD.out]; rfl, HT.out⟩
    · have hlt : (j : Int) < (s.size : Int) + 1 := by omega
      by_cases hjn : j = s.size
      · subst hjn
        have hje : ((s.size : Int) == (s.size : Int)) = true := by simp
        have g1 : (fr : Int) ≤ (s.size : Int) := by omega
        have g2 : (0 : Int) ≤ (fr : Int) := by omega
        have HX := Lib.hid HI.out.last
        clear HI hend hj
        go_wp2_with (at_builtin; refine wpList_append_own _ rfl _ _ 23 rfl w.heap.size 9 i0 z0 1 16 Tryd.underlying23 hi hz0 hz1 hz2 hz3 (by decide) _ _ _ rfl (HO.out.alloc _) ⟨wr.heap.size, 0, none⟩ 1 1 [.string (s.extract fr s.size)] rfl rfl (cell_one_new _ _ _) (by simp [Value.oneCell']) (by unfold maxLen; omega) (by omega) (by simp; omega) ?_; intro v' w3 hown' hgrow3 hnil3)
        go_roundg 0
        case measure => omega
        case rel => exact ⟨s.size + 1, s.size + 1, _, by go_num, by go_num, by omega, by omega, HX.out, by rw [List.length_append, List.map_append]; exact hown', (HB.out.alloc hsz _).grown hgrow3 (by simp; omega) (fun q hq => (HO.out.lt q hq).1)⟩
      · have hje : ((j : Int) == (s.size : Int)) = false := by simp; omega
        have hjs : j < s.size := by omega
        have hjs2 : (j : Int) < (s.size : Int) := by omega
        have g1 : (fr : Int) ≤ (j : Int) := by omega
        have g2 : (0 : Int) ≤ (fr : Int) := by omega
        have g3 : (j : Int) ≤ (s.size : Int) := by omega
        by_cases hc : s[j] = 47
        · have hcb : (((s[j]'hjs).toNat : Int) == 47) = true := by rw [hc]; rfl
          have HX := Lib.hid (HI.out.slash hjs hc)
          clear HI hend hjn hc
          go_wp2_with (at_builtin; refine wpList_append_own _ rfl _ _ 23 rfl w.heap.size 9 i0 z0 1 16 Tryd.underlying23 hi hz0 hz1 hz2 hz3 (by decide) _ _ _ rfl (HO.out.alloc _) ⟨wr.heap.size, 0, none⟩ 1 1 [.string (s.extract fr j)] rfl rfl (cell_one_new _ _ _) (by simp [Value.oneCell']) (by unfold maxLen; omega) (by omega) (by simp; omega) ?_; intro v' w3 hown' hgrow3 hnil3)
          go_roundg (s.size - j)
          case measure => omega
          case rel => exact ⟨j + 1, j + 1, _, by go_num, by go_num, by omega, by omega, HX.out, by rw [List.length_append, List.map_append]; exact hown', (HB.out.alloc hsz _).grown hgrow3 (by simp; omega) (fun q hq => (HO.out.lt q hq).1)⟩
        · have hcb : (((s[j]'hjs).toNat : Int) == 47) = false := by
            simp only [beq_eq_false_iff_ne]
            intro e
            exact hc (UInt8.toNat_inj.1 (by have : (47 : UInt8).toNat = 47 := rfl; omega))
          have HX := Lib.hid (HI.out.other hjs hc)
          clear HI hend hjn hc
          go_wp2_with fail
          go_roundg (s.size - j)
          case measure => omega
          case rel => exact ⟨j + 1, fr, done, by go_num, rfl, by omega, by omega, HX.out, HO, HB⟩
end Go.Proofs.YtilkmpnloblheaaDoor
