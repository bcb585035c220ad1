/- event.New: its walk. -/
import Derived.Test.YtjnfbinomljocaaDoorRound
namespace Go.Proofs.YtjnfbinomljocaaDoor
open Go.RowKit Go.Shelf Go.Sort
open Go.Proofs
attribute [local go_sem] Oper.semAt_some
attribute [local go_sem ↓] append_pre

theorem keepB_b {n₀ Bs : Nat} {w : World} (hn : n₀ ≤ w.heap.size) (W : World) (l : Nat) (o o' : Obj) (hl : w.heap.size ≤ l) (h : W.heap[l]? = some o) (hc : o.isCells = false) (hw : o.isWalk = false) : KeepB n₀ Bs W (W.putObj l o') :=
  ⟨belowK_b hn W l o o' hl h hc hw, fun v hv => by
    have hne : Bs ≠ l := fun e => by
      subst e
      simp only [World.cell?, h] at hv
      cases o <;> first | (cases hc; done) | (simp at hv; done)
    rw [← hv]
    simp only [World.cell?, World.putObj_heap_other hne]⟩

/-- The row, when all have come. -/
theorem row_done {w W : World} {N E G B Z : Nat} {ys : List (Nat × At)} (hI : LoopI w N E G B Z ys W) (hy : ys.length = N) : RowK encA 6 W G 0 (ys.map fun x => canonA x.2).toArray := by
  obtain ⟨cur, hc, hcs, hcr⟩ := hI.row
  refine ⟨encA_len, encA_one, fun t ht => ?_, (Array.getElem?_eq_some_iff.1 hc).1⟩
  rw [size_flatK] at ht
  have ht2 : t < N * 6 := by simpa [hy] using ht
  rw [get_flatK _ _ _ _ ht]
  have e1 : cur[t / 6 * 6 + t % 6]? = (encA (canonA ys[t / 6]!.2))[t % 6]? := hcr (t / 6) (t % 6) (by omega) (by omega)
  rw [show t / 6 * 6 + t % 6 = t by omega] at e1
  have e2 : (ys.map fun x => canonA x.2).toArray[t / 6]! = canonA ys[t / 6]!.2 := by
    have hlt : t / 6 < ys.length := by omega
    simp [hlt]
  rw [e2, Nat.zero_add]
  have hlt : t % 6 < (encA (canonA ys[t / 6]!.2)).length := by rw [encA_len]; omega
  refine ⟨?_, by simp [World.frozen?, hc]⟩
  simp only [World.cell?, hc]
  generalize encA (canonA ys[t / 6]!.2) = l at e1 hlt ⊢
  rw [e1, List.getElem?_eq_getElem hlt]
  simp [hlt]

/-- What event.New hands back. -/
def NewOf (zs res : List At) : Prop := ∃ D : Array At, Good keyA 0 zs.length (zs.reverse.map canonA).toArray D ∧ SortedIn (ltKey keyA) 0 zs.length D ∧ res = dd eqA D zs.length
theorem backs_all (zs : List At) : (backs zs zs.length).map (fun x => canonA x.2) = zs.reverse.map canonA := by
  apply List.ext_getElem
  · simp [backs]
  · intro j h1 h2
    simp only [backs, List.length_map, List.length_range] at h1
    have hlt : zs.length - 1 - j < zs.length := by omega
    simp [backs, hlt]

set_option maxRecDepth 100000 in
set_option maxHeartbeats 4000000 in
theorem new_c (scope : ByteArray) (ao : Option Addr) (cap : Nat) (zs : List At) (hz : zs.length ≤ 39) (w : World) (hl : SliceA w ao zs) :
    Calls Tryd.prog 20 #[.string scope, .slice ao zs.length cap] w fun e w' => ∃ (G : Nat) (res : List At), e = .returned (.agg #[.string scope, .slice (some ⟨G, 0, none⟩) res.length zs.length]) ∧
      Aside (w.heap.size ≤ G ∧ G < w'.heap.size ∧ RowAt w' G 0 res ∧ NewOf zs res ∧ Below w.heap.size w w') := by
  refine (callsIn_wide (n := 6)).1 ?_
  refine callsIn_of_wp_marks Tryd.func20 rfl trivial ?_ rfl
  simp only [Tryd.ntmps20, List.size_toArray, List.length_cons, List.length_nil, Nat.reduceAdd, Nat.reduceSub, Array.replicate_succ, Array.replicate_zero, List.push_toArray, List.append_toArray, List.nil_append, List.cons_append]
  generalize hN : zs.length = N at *
  have HN : Aside (zs.length = N) := hN
  have HL : Aside (SliceA w ao zs) := hl
  clear hN hl
  obtain ⟨cur0, hc0, hmk⟩ := make_run N hz (w.alloc (.cells #[.string ⟨#[]⟩, .slice none 0 0] 26))
  rw [World.size_alloc] at hmk
  have HC0 : Aside (cur0.size = N * 6) := hc0
  clear hc0
  gi_wp2_with (refine ⟨trivial, ?_⟩; gi_at_call 39; refine (callsIn_wide.2 (backward_c _ ⟨_, _, _, rfl⟩ _)).mono ?_; rintro e w' ⟨rfl, rfl⟩)
  clear hmk
  obtain ⟨E, hE⟩ : ∃ E, E = w.heap.size := ⟨_, rfl⟩
  obtain ⟨G, hG⟩ : ∃ G, G = w.heap.size + 1 := ⟨_, rfl⟩
  obtain ⟨B, hB⟩ : ∃ B, B = w.heap.size + 1 + 1 := ⟨_, rfl⟩
  obtain ⟨Bs, hBs⟩ : ∃ Bs, Bs = w.heap.size + 1 + 1 + 1 := ⟨_, rfl⟩
  rw [← hBs, ← hB, ← hG, ← hE]
  have o1 : E < G := by omega
  have o2 : G < B := by omega
  have o3 : B < Bs := by omega
  have o4 : w.heap.size ≤ E := by omega
  obtain ⟨W0, hW0⟩ : ∃ W0, ((((w.alloc (.cells #[.string ⟨#[]⟩, .slice none 0 0] 26)).alloc (.cells cur0 51)).alloc (.cells #[.slice (some ⟨G, 0, none⟩) 0 N] 24)).alloc (.cells #[.slice ao N cap] 24)) = W0 := ⟨_, rfl⟩
  rw [hW0]
  have hs0 : W0.heap.size = Bs + 1 := by rw [← hW0, hBs]; simp
  have hE0 : W0.heap[E]? = some (.cells #[.string ⟨#[]⟩, .slice none 0 0] 26 (0, 0)) := by
    rw [← hW0, hE, Lib.alloc_old _ _ _ (by simp; omega), Lib.alloc_old _ _ _ (by simp; omega), Lib.alloc_old _ _ _ (by simp)]; exact World.alloc_heap_new w _
  have hG0 : W0.heap[G]? = some (.cells cur0 51 (0, 0)) := by
    rw [← hW0, Lib.alloc_old _ _ _ (by simp; omega), Lib.alloc_old _ _ _ (by simp; omega)]
    have := World.alloc_heap_new (w.alloc (.cells #[.string ⟨#[]⟩, .slice none 0 0] 26)) (.cells cur0 51)
    rw [World.size_alloc, ← hG] at this
    exact this
  have hB0 : Boxed W0 B 24 (.slice (some ⟨G, 0, none⟩) 0 N) := by
    show W0.heap[B]? = _
    rw [← hW0, Lib.alloc_old _ _ _ (by simp; omega)]
    have := World.alloc_heap_new ((w.alloc (.cells #[.string ⟨#[]⟩, .slice none 0 0] 26)).alloc (.cells cur0 51)) (.cells #[.slice (some ⟨G, 0, none⟩) 0 N] 24)
    rw [World.size_alloc, World.size_alloc, ← hB] at this
    exact this
  have hBs0 : W0.cell? ⟨Bs, 0, none⟩ = some (.slice ao N cap) := by
    rw [← hW0]
    have := World.cell?_alloc_new (((w.alloc (.cells #[.string ⟨#[]⟩, .slice none 0 0] 26)).alloc (.cells cur0 51)).alloc (.cells #[.slice (some ⟨G, 0, none⟩) 0 N] 24)) #[.slice ao N cap] 24 0
    rw [World.size_alloc, World.size_alloc, World.size_alloc, ← hBs] at this
    exact this
  have hbel0 : Below w.heap.size w W0 := by
    rw [← hW0]; exact ((((Below.refl _ w).alloc (Nat.le_refl _) _).alloc (by simp) _).alloc (by simp; omega) _).alloc (by simp; omega) _
  have I0 : Aside (LoopI w N E G B (Bs + 1) [] W0) := by
    show LoopI w N E G B (Bs + 1) [] W0
    exact ⟨hB0, ⟨cur0, hG0, HC0.out, fun j c h => absurd h (Nat.not_lt_zero _)⟩, hE0, hbel0, by omega⟩
  have HSEQ : Aside (SeqStopsK Fence.wide (6 - 1) Tryd.prog 58 #[.pointer (some ⟨Bs, 0, none⟩)] (fun x : Nat × At => #[.int .i64 (x.1 : Int), .agg (encA x.2).toArray]) (KeepB w.heap.size Bs) (fun ys => ys = backs zs N) (fun pre => ∃ k, k ≤ N ∧ pre = backs zs k) N W0) := fun l J Jx W hW _ _ hY h0 => by
    have hc' := (hW.cell (p := ⟨Bs, 0, none⟩) (by show Bs < _; omega)).trans hBs0
    rw [← HN.out] at hc'
    rcases HL.out with h0' | ⟨b, off, rfl, hb, hrow⟩
    · have hN0 : N = 0 := by rw [← HN.out, h0']; rfl
      rw [h0'] at hc'
      refine (backward0_in Fence.wide (6 - 1) trivial rfl l Bs cap ao J W hc' h0).mono ?_
      rintro e W' ⟨he, hj⟩
      refine ⟨he, .inl ⟨[], ?_, hj⟩⟩
      rw [hN0]; rfl
    · have h := backward1_in Fence.wide (6 - 1) trivial rfl (by omega) l Bs w.heap.size b off cap zs (by have := HN.out; omega) hb J Jx (by rw [HN.out]; exact hY) W hc' (RowAt.below (hbel0.trans (hW.mono (by omega))) hb hrow) h0
      rw [HN.out] at h
      exact h
  clear hE0 hG0 hB0 hBs0 hbel0 hW0 HC0 hE hG hB hBs
  refine wpIn_rangeFunc_ownH rfl (by omega) (gf := 58) (lb := #[.pointer (some ⟨Bs, 0, none⟩)]) rfl trivial (enters_of Tryd.func58 (by kernel_rfl) rfl)
    HSEQ.out (fun h k => h.trans k) (keepB_b (by omega)) (Below.refl _ _) (fun _ => rfl)
    (fun pre W => LoopI w N E G B (Bs + 1) pre W) (fun _ _ _ => False) (LoopI.own w N E G B (Bs + 1) _ (by omega)) (fun _ _ _ _ _ hs _ _ => hs) I0.out
    (fun x a' W => ∃ Bx, Bs < Bx ∧ W.heap[Bx]? = some (.cells (encA x.2).toArray 51 (0, 0)) ∧ a' = { tmps := #[.string scope, .slice ao N cap, undef, undef, .pointer (some ⟨E, 0, none⟩), .pointer (some ⟨B, 0, none⟩), undef, .pointer (some ⟨Bx, 0, none⟩), .slice ao N cap, .int .i64 (N : Int), .slice (some ⟨G, 0, none⟩) 0 N, .slice ao N cap, .func (.func 58) #[] #[.pointer (some ⟨Bs, 0, none⟩)], .int .i64 (x.1 : Int), .agg (encA x.2).toArray, undef, undef, undef, undef, undef, undef, undef, undef, undef, undef, undef, undef, undef, undef, undef, undef], defers := [] })
    ?own ?assign ?body ?done ?stop
  case own =>
    rintro x a' _ X Y row ⟨Bx, h1, h2, h3⟩ hg hr
    refine ⟨Bx, h1, (hg.block Bx (Array.getElem?_eq_some_iff.1 h2).1 (fun e => ?_)).trans h2, h3⟩
    obtain ⟨_, o, ho, hc⟩ := hr Bx e.symm
    rw [h2] at ho; cases ho; cases hc
  case assign =>
    rintro l pre ⟨i, ⟨nm, k, nn, xx, s, y⟩⟩ W K hi hK
    have IA : Aside (LoopI w N E G B (Bs + 1) pre W) := hi
    have HK : Aside _ := hK
    clear hi hK
    simp only [encA]
    gi_wp2
    have hsz := IA.out.size
    have hbs := IA.out.below.size
    exact HK.out _ _ ((KeepsOthers.alloc _ _).from _) ⟨(Below.refl _ W).alloc hbs _, fun v hv => Lib.cell?_alloc_some _ hv⟩ ((LoopI.own w N E G B (Bs + 1) _ (by omega)).alloc _ IA.out) ⟨W.heap.size, by omega, World.alloc_heap_new W _, rfl⟩
  case body =>
    rintro l pre x a' W hl ⟨r, hr⟩ hI ⟨Bx, hBx, bX, rfl⟩ hlt
    have hsz := hI.size
    have hBxW : Bx < W.heap.size := (Array.getElem?_eq_some_iff.1 bX).1
    have hBW : B < W.heap.size := hI.box.lt
    have cB := hI.box.cell
    have fB := hI.box.frozen
    have x0 : W.cell? ⟨Bx, 0, none⟩ = some (.string x.2.nm) := by simp [World.cell?, bX, encA]
    have x1 : W.cell? ⟨Bx, 1, none⟩ = some (.int .i64 x.2.k) := by simp [World.cell?, bX, encA]
    have x2 : W.cell? ⟨Bx, 2, none⟩ = some (.int .i64 x.2.n) := by simp [World.cell?, bX, encA]
    have x3 : W.cell? ⟨Bx, 3, none⟩ = some (.float .f64 x.2.x) := by simp [World.cell?, bX, encA]
    have x4 : W.cell? ⟨Bx, 4, none⟩ = some (.string x.2.s) := by simp [World.cell?, bX, encA]
    have x5 : W.cell? ⟨Bx, 5, none⟩ = some (.bool x.2.y) := by simp [World.cell?, bX, encA]
    have HR : Aside _ := round_l w W N E G B (Bs + 1) Bs w.heap.size W0.heap.size pre x hI hlt (by omega) (by omega) (by omega) o4 o1 o2 o3 (by omega) (Nat.le_refl _) (by omega)
    have hmx : Tryd.prog.follows .mixedOrders = true := by kernel_rfl
    clear hI bX hr
    gi_wp2
    gi_region_with_o (refine ⟨trivial, ?_⟩; gi_at_call 40; refine (CallsIn.inRound l (callsIn_wide.2 (canonA_c x.2 _))).mono ?_; rintro e w1 ⟨rfl, hb1⟩; obtain ⟨w2, hrun, hc2, hf2, FIN⟩ := HR.out w1 ⟨hb1.os, hb1.tape, hb1.output, hb1.size, hb1.block⟩; have cB1 := (hb1.cell (p := ⟨B, 0, none⟩) hBW).trans cB; have x01 := (hb1.cell (p := ⟨Bx, 0, none⟩) hBxW).trans x0; have nB1 : ¬ B = w1.heap.size := Nat.ne_of_lt (Nat.lt_of_lt_of_le hBW hb1.size); have nB2 : ¬ w1.heap.size = B := fun e => nB1 e.symm; have nB3 : B < w1.heap.size := Nat.lt_of_lt_of_le hBW hb1.size; have cB2 := fun o => Lib.cell?_alloc_some (W := w1) o cB1)
    all_goals gi_wp2
    all_goals exact FIN.out
  case done =>
    rintro D ys W hD rfl hI hK
    have hys : (backs zs N).length = N := backs_length zs N
    have R := row_done hI hys
    have e0 : ((backs zs N).map fun x => canonA x.2).toArray.size = N := by simp [backs_length]
    have HY : Aside (((backs zs N).map fun x => canonA x.2).toArray = (zs.reverse.map canonA).toArray) := by
      show _ = _
      rw [← HN.out, backs_all]
    generalize hd0 : ((backs zs N).map fun x => canonA x.2).toArray = d0 at R e0 HY
    have hbox := hI.box
    rw [hys] at hbox
    have cB := hbox.cell
    have hBW : B < W.heap.size := hbox.lt
    have hGW : G < W.heap.size := R.hblk
    have hEW : E < W.heap.size := (Array.getElem?_eq_some_iff.1 hI.res).1
    have hDW : D < W.heap.size := (Array.getElem?_eq_some_iff.1 hK).1
    have HW : Aside (LoopI w N E G B (Bs + 1) (backs zs N) W) := hI
    have HK : Aside (W.heap[D]? = some (.deferred (some []))) := hK
    have HB : Aside (Boxed W B 24 (.slice (some ⟨G, 0, none⟩) N N)) := hbox
    have HR : Aside (RowK encA 6 W G 0 d0) := R
    have HE0 : Aside (d0.size = N) := e0
    have HD0 : Aside (W0.heap.size = Bs + 1) := hs0
    clear hI hK hbox R e0 hys hd0 hs0 I0 HSEQ
    gi_wp2_with (refine ⟨trivial, ?_⟩; first
      | (gi_at_call 41; refine (callsIn_wide.2 (sortStable_c N G 0 N d0 W HR.out HE0.out hz)).mono ?_; rintro e w3 ⟨rfl, D1, G1, S1⟩; have A1 : Aside (Go.Proofs.YtjnfbinomljocaaDoor.Apart G W w3) := Apart.ofSort S1.out; have cB3 := (A1.out.cell (p := ⟨B, 0, none⟩) hBW (Nat.ne_of_gt o2)).trans cB; have R3 : Aside (RowK encA 6 w3 G 0 D1) := ⟨encA_len, encA_one, S1.out.holds HR.out.hblk HR.out.hH G1.out.1.size, S1.out.lt HR.out.hblk⟩; clear cB)
      | (gi_at_call 44; refine (callsIn_wide.2 (compactA_c G 0 N N D1 _ R3.out (by rw [G1.out.1.size]; exact HE0.out) (Nat.le_refl _) (by omega))).mono ?_; rintro e w4 ⟨rfl, RE, A2⟩; have A3 : Aside (Go.Proofs.YtjnfbinomljocaaDoor.Apart G W w4) := A1.out.trans A2.out; have B4 : Aside (Boxed w4 B 24 (.slice (some ⟨G, 0, none⟩) N N)) := (A3.out.block B hBW (Nat.ne_of_gt o2)).trans HB.out; have E4 : Aside (w4.heap[E]? = some (.cells #[.string ⟨#[]⟩, .slice none 0 0] 26 (0, 0))) := (A3.out.block E hEW (Nat.ne_of_lt o1)).trans HW.out.res; have K4 : Aside (w4.heap[D]? = some (.deferred (some []))) := (A3.out.block D hDW (by have := HD0.out; omega)).trans HK.out; have cB4 := B4.out.cell; have fB4 := B4.out.frozen; have cE4 : w4.cell? ⟨E, 0, none⟩ = some (.string ⟨#[]⟩) := (by have h : w4.heap[E]? = _ := E4.out; simp [World.cell?, h]); have cE5 : w4.cell? ⟨E, 1, none⟩ = some (.slice none 0 0) := (by have h : w4.heap[E]? = _ := E4.out; simp [World.cell?, h]); have fE4 : w4.frozen? ⟨E, 0, none⟩ = false := (by have h : w4.heap[E]? = _ := E4.out; simp [World.frozen?, h]); have fE5 : w4.frozen? ⟨E, 1, none⟩ = false := (by have h : w4.heap[E]? = _ := E4.out; simp [World.frozen?, h]); have nEB : ¬ E = B := (by omega); have nBE : ¬ B = E := (by omega)))
    obtain ⟨res, hres⟩ : ∃ res, res = dd eqA D1 N := ⟨_, rfl⟩
    rw [← hres]
    have RE' : Aside (RowE encA 6 w4 G 0 res) := by rw [hres]; exact RE
    have HRES : Aside (res = dd eqA D1 N) := hres
    clear hres RE cB4 fB4 cE4 cE5 fE4 fE5
    generalize hw5 : ((w4.setCell ⟨B, 0, none⟩ (.slice (some ⟨G, 0, none⟩) res.length N)).setCell ⟨E, 0, none⟩ (.string scope)).setCell ⟨E, 1, none⟩ (.slice (some ⟨G, 0, none⟩) res.length N) = w5
    have oth : ∀ k, k ≠ B → k ≠ E → w5.heap[k]? = w4.heap[k]? := fun k h1 h2 => by
      rw [← hw5, setCell_eq, setCell_eq, setCell_eq]
      simp only [mapBlock, Array.getElem?_modify, Ne.symm h1, Ne.symm h2, if_false]
    have hE5 : w5.heap[E]? = some (.cells #[.string scope, .slice (some ⟨G, 0, none⟩) res.length N] 26 (0, 0)) := by
      have h4 : w4.heap[E]? = _ := E4.out
      rw [← hw5, setCell_eq, setCell_eq, setCell_eq]
      simp [mapBlock, Array.getElem?_modify, h4, onCells, Ne.symm nEB]
    have hz5 : w5.heap.size = w4.heap.size := by rw [← hw5]; simp
    have hbel : Below w.heap.size w w5 := by
      refine (HW.out.below.trans (A3.out.below (by omega) (by have := HW.out.below.size; omega))).trans ?_
      rw [← hw5]
      exact (((Below.refl _ w4).setCell (p := ⟨B, 0, none⟩) (by show w.heap.size ≤ B; omega) _).setCell (p := ⟨E, 0, none⟩) (by show w.heap.size ≤ E; omega) _).setCell (p := ⟨E, 1, none⟩) (by show w.heap.size ≤ E; omega) _
    have hK5 : w5.heap[D]? = some (.deferred (some [])) := by
      rw [oth D (by have := HD0.out; omega) (by have := HD0.out; omega)]; exact K4.out
    have hG4 : G < w4.heap.size := Nat.lt_of_lt_of_le hGW A3.out.size
    clear hw5
    refine ⟨by simp, .inl ⟨_, _, rfl, run_takeDeferred hK5, ?_⟩⟩
    have hDE : E ≠ D := by have := HD0.out; omega
    have hDG : G ≠ D := by have := HD0.out; omega
    have hE6 : (w5.putObj D (.deferred none)).heap[E]? = _ := (World.putObj_heap_other hDE).trans hE5
    have cE6 : (w5.putObj D (.deferred none)).cell? ⟨E, 0, none⟩ = some (.string scope) := by simp [World.cell?, hE6]
    have cE7 : (w5.putObj D (.deferred none)).cell? ⟨E, 1, none⟩ = some (.slice (some ⟨G, 0, none⟩) res.length N) := by simp [World.cell?, hE6]
    refine ⟨.agg #[.string scope, .slice (some ⟨G, 0, none⟩) res.length N], by simp [results, Tryd.results20, go_sem, cE6, cE7], G, res, rfl, ?_⟩
    show _ ∧ _ ∧ _ ∧ _ ∧ _
    refine ⟨by omega, by simp; omega, fun j hj c v hv => ?_, ⟨D1, ?_, ?_, ?_⟩, ?_⟩
    · rw [← RE'.out j hj c v hv]
      have h1 : (w5.putObj D (.deferred none)).heap[G]? = w4.heap[G]? := (World.putObj_heap_other hDG).trans (oth G (by omega) (by omega))
      simp only [World.cell?, h1]
    · rw [HN.out, ← HY.out]; exact G1.out.1
    · rw [HN.out]; exact G1.out.2
    · rw [HN.out]; exact HRES.out
    · exact hbel.trans (belowK_b (w := w) (Nat.le_refl _) w5 D _ _ (by have := HD0.out; omega) hK5 rfl rfl)
  case stop =>
    rintro D c pre W _ _ h _
    exact h.elim
end Go.Proofs.YtjnfbinomljocaaDoor
