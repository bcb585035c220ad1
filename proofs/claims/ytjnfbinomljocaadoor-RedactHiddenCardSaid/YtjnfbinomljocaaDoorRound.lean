/- event.New's closures and its loop over slices.Backward. -/
import Derived.Test.YtjnfbinomljocaaDoorGaH
import Derived.Test.YtjnfbinomljocaaDoorGaA
import Derived.RangeFuncBox
import Derived.Maps.AppendAt
namespace Go.Proofs.YtjnfbinomljocaaDoor
open Go.RowKit Go.Shelf Go.Sort
open Go.Proofs
attribute [local go_sem] Oper.semAt_some

/-- Have they one name? -/
def eqA (p q : At) : Bool := p.nm.toList == q.nm.toList

set_option maxRecDepth 100000 in
set_option maxHeartbeats 1000000 in
/-- The closure by which doubles are found: two blocks are laid. -/
theorem sameName_c (p q : At) (W : World) : Calls Tryd.prog 45 #[.agg (encA p).toArray, .agg (encA q).toArray] W fun e w' => e = .returned (.bool (eqA p q)) ∧ ∃ q os', w' = grow (W.drewN q) os' := by
  unfold eqA
  obtain ⟨nm, k, n, x, s, y⟩ := p
  obtain ⟨nm2, k2, n2, x2, s2, y2⟩ := q
  show Calls Tryd.prog 45 #[.agg #[.string nm, .int .i64 k, .int .i64 n, .float .f64 x, .string s, .bool y], .agg #[.string nm2, .int .i64 k2, .int .i64 n2, .float .f64 x2, .string s2, .bool y2]] W _
  go_enter Tryd.func45, Tryd.ntmps45
  go_wp2
  go_ret
  exact ⟨rfl, 0, _, by rw [alloc_eq_grow, alloc_eq_grow, grow_grow]; rfl⟩
theorem sameName_enters : ∀ args w, (callFunc 45 args).run Tryd.prog w = .ok (.enter 45 args) w := enters_of Tryd.func45 (by kernel_rfl) rfl

theorem compP : CompP Tryd.prog where
  mixed := by kernel_rfl
  body := Tryd.func44
  t0 := Tryd.underlying0
  a0 := Tryd.isAgg0
  z0 := Tryd.sizeOf0
  v0 := Tryd.zeroValue0
  t3 := Tryd.underlying3
  a3 := Tryd.isAgg3
  z3 := Tryd.sizeOf3
  v3 := Tryd.zeroValue3
  t4 := Tryd.underlying4
  a4 := Tryd.isAgg4
  z4 := Tryd.sizeOf4
  v4 := Tryd.zeroValue4
  t22 := Tryd.underlying24
  a22 := Tryd.isAgg24
  z22 := Tryd.sizeOf24
  v22 := Tryd.zeroValue24
  t25 := Tryd.underlying59
  a25 := Tryd.isAgg59
  z25 := Tryd.sizeOf59
  v25 := Tryd.zeroValue59

theorem compactA_c (blk off cap N : Nat) (d : Array At) (w0 : World) (R : RowK encA 6 w0 blk off d) (hN : d.size = N) (hcap : N ≤ cap) (hsz : cap < 4611686018427387904) :
    Calls Tryd.prog 44 #[.slice (some ⟨blk, off, none⟩) N cap, .func (.func 45) #[] #[]] w0 fun e w' =>
      e = .returned (.slice (some ⟨blk, off, none⟩) (dd eqA d N).length cap) ∧ Aside (RowE encA 6 w' blk off (dd eqA d N)) ∧ Aside (Go.Proofs.YtjnfbinomljocaaDoor.Apart blk w0 w') :=
  compact_c compP 6 Tryd.isAgg51 Tryd.sizeOf51 _ Tryd.zeroValue51 rfl (fun v h => by
    simp only [Value.cells, List.mem_cons, List.mem_nil_iff, or_false] at h
    rcases h with rfl | rfl | rfl | rfl | rfl | rfl <;> rfl) encA eqA 45 #[] blk off cap N d w0 sameName_enters sameName_c R hN hcap hsz

set_option maxRecDepth 100000 in
set_option maxHeartbeats 4000000 in
theorem backward_c (sv : Value) (hs : ∃ a len cap, sv = .slice a len cap) (w : World) :
    Calls Tryd.prog 39 #[sv] w fun e w' => e = .returned (.func (.func 58) #[] #[.pointer (some ⟨w.heap.size, 0, none⟩)]) ∧ w' = w.alloc (.cells #[sv] 24) := by
  obtain ⟨a, len, cap, rfl⟩ := hs
  go_enter Tryd.func39, Tryd.ntmps39
  go_wp2
  go_ret
  exact ⟨rfl, rfl⟩

/-- make's cells for N attributes. -/
theorem make_run (N : Nat) (hz : N ≤ 39) (W : World) : ∃ cur : Array Value, cur.size = N * 6 ∧ Sem.run Tryd.prog (Instr.makeSlice 24 (.int .i64 0) (.int .i64 (N : Int))) W = .ok (.slice (some ⟨W.heap.size, 0, none⟩) 0 N) (W.alloc (.cells cur 51)) := by
  obtain ⟨i, hi, hz0, hz1, hz2⟩ := info_parts (show (Tryd.prog.info? 51).map (fun i => (i.zero, i.size, i.bytes)) = some (some (.agg #[.string ⟨#[]⟩, .int .i64 0, .int .i64 0, .float .f64 0, .string ⟨#[]⟩, .bool false]), 6, 64) by kernel_rfl)
  have h := run_makeSlice (P := Tryd.prog) W 24 51 i _ Tryd.underlying24 hi hz0 .i64 .i64 0 (N : Int) (Int.le_refl _) (by omega) (by rw [hz1]; omega) (by rw [hz2]; omega) (by omega)
  refine ⟨_, ?_, h⟩
  rw [size_madeCells, hz1]; simp
/-! ### append, behind a name that the walk does not open -/
/-! ### Between two rounds -/
/-- What New's own cells hold when pre has come: the box, the row, the result's cell; all that lay ahead of the call is as it was. -/
structure LoopI (w : World) (N E G B Z : Nat) (pre : List (Nat × At)) (W : World) : Prop where
  box : Boxed W B 24 (.slice (some ⟨G, 0, none⟩) pre.length N)
  row : ∃ cur : Array Value, W.heap[G]? = some (.cells cur 51 (0, 0)) ∧ cur.size = N * 6 ∧ ∀ j c, j < pre.length → c < 6 → cur[j * 6 + c]? = (encA (canonA pre[j]!.2))[c]?
  res : W.heap[E]? = some (.cells #[.string ⟨#[]⟩, .slice none 0 0] 26 (0, 0))
  below : Below w.heap.size w W
  size : Z ≤ W.heap.size

theorem LoopI.own (w : World) (N E G B Z B0 : Nat) (h0 : w.heap.size ≤ B0) : OwnFrom B0 (fun pre W => LoopI w N E G B Z pre W) := fun pre W W' row h hg hr => by
  have ne : ∀ (k : Nat) (cs : Array Value) (t : TypeId) (fr : Nat × Nat), W.heap[k]? = some (.cells cs t fr) → W'.heap[k]? = some (.cells cs t fr) := fun k cs t fr hk => by
    refine (hg.block k (Array.getElem?_eq_some_iff.1 hk).1 (fun e => ?_)).trans hk
    obtain ⟨_, o, ho, hc⟩ := hr k e.symm
    rw [hk] at ho; cases ho; cases hc
  obtain ⟨cur, r1, r2, r3⟩ := h.row
  exact ⟨ne _ _ _ _ h.box, ⟨cur, ne _ _ _ _ r1, r2, r3⟩, ne _ _ _ _ h.res,
    h.below.grown hg h.below.size (fun k e => by have := (hr k e).1; omega), Nat.le_trans h.size hg.size⟩

theorem getElem!_snoc (l : List (Nat × At)) (x : Nat × At) (j : Nat) (h : j < l.length + 1) : (l ++ [x])[j]! = if j < l.length then l[j]! else x := by
  simp only [getElem!_def]
  by_cases h1 : j < l.length
  · simp [h1, List.getElem?_append_left h1]
  · have : j = l.length := by omega
    subst this; simp

set_option maxRecDepth 100000 in
/-- A round's append and store: what they lay. -/
theorem round_l (w W : World) (N E G B Z Bs n₀ B0 : Nat) (pre : List (Nat × At)) (x : Nat × At) (hI : LoopI w N E G B Z pre W) (hlen : pre.length < N) (hEG : E ≠ G) (hEB : E ≠ B) (hGB : G ≠ B) (hw : w.heap.size ≤ E) (hEG2 : E < G) (hGB2 : G < B) (hBs : B < Bs) (hBs2 : Bs < W.heap.size) (hn : n₀ ≤ w.heap.size) (h0 : B < B0)
    (w1 : World) (hb : Below W.heap.size W w1) :
    ∃ w2, (∀ ty, Sem.run Tryd.prog (appendS #[24, 24] ty #[.slice (some ⟨G, 0, none⟩) pre.length N, .slice (some ⟨w1.heap.size, 0, none⟩) 1 1])
        (w1.alloc (.cells #[.string x.2.nm, .int .i64 (canonA x.2).k, .int .i64 (canonA x.2).n, .float .f64 (canonA x.2).x, .string (canonA x.2).s, .bool (canonA x.2).y] 51)) = .ok (.slice (some ⟨G, 0, none⟩) (pre.length + 1) N) w2) ∧
      w2.cell? ⟨B, 0, none⟩ = some (.slice (some ⟨G, 0, none⟩) pre.length N) ∧ w2.frozen? ⟨B, 0, none⟩ = false ∧
      Aside (KeepsFrom B0 W (w2.setCell ⟨B, 0, none⟩ (.slice (some ⟨G, 0, none⟩) (pre.length + 1) N)) ∧ KeepB n₀ Bs W (w2.setCell ⟨B, 0, none⟩ (.slice (some ⟨G, 0, none⟩) (pre.length + 1) N)) ∧
        LoopI w N E G B Z (pre ++ [x]) (w2.setCell ⟨B, 0, none⟩ (.slice (some ⟨G, 0, none⟩) (pre.length + 1) N))) := by
  obtain ⟨cur, hc, hcs, hcr⟩ := hI.row
  obtain ⟨nm, hnm⟩ : ∃ nm, nm = x.2.nm := ⟨_, rfl⟩
  have henc : encA (canonA x.2) = [.string nm, .int .i64 (canonA x.2).k, .int .i64 (canonA x.2).n, .float .f64 (canonA x.2).x, .string (canonA x.2).s, .bool (canonA x.2).y] := by
    unfold encA; rw [canonA_nm, hnm]
  have hGW : G < W.heap.size := (Array.getElem?_eq_some_iff.1 hc).1
  have hBW : B < W.heap.size := hI.box.lt
  have hs1 := hb.size
  obtain ⟨i, hi, hz0, hz1, hz2⟩ := info_parts (show (Tryd.prog.info? 51).map (fun i => (i.zero, i.size, i.bytes)) = some (some (.agg #[.string ⟨#[]⟩, .int .i64 0, .int .i64 0, .float .f64 0, .string ⟨#[]⟩, .bool false]), 6, 64) by kernel_rfl)
  rw [← hnm]
  generalize hX : w1.alloc (.cells #[.string nm, .int .i64 (canonA x.2).k, .int .i64 (canonA x.2).n, .float .f64 (canonA x.2).x, .string (canonA x.2).s, .bool (canonA x.2).y] 51) = X
  have hXs : X.heap.size = w1.heap.size + 1 := by rw [← hX]; simp
  have hXo : ∀ k, k < w1.heap.size → X.heap[k]? = w1.heap[k]? := fun k hk => by rw [← hX]; exact Lib.alloc_old w1 _ k hk
  have hXG : X.heap[G]? = some (.cells cur 51 (0, 0)) := by rw [hXo G (by omega), hb.block G hGW]; exact hc
  have hnews : ∀ j u, (encA (canonA x.2))[j]? = some u → X.cell? ((⟨w1.heap.size, 0, none⟩ : Addr).add j) = some u := fun j u hu => by
    rw [← hX]
    rw [Addr.add_lit, Nat.zero_add, World.cell?_alloc_new]
    rw [henc] at hu
    simpa using hu
  have hrun := fun ty => run_append_room (P := Tryd.prog) X 24 ty 51 i Tryd.underlying24 hi G pre.length N cur hXG ⟨w1.heap.size, 0, none⟩ 1 1 (encA (canonA x.2)) (by rw [hz1]; rfl) hnews (encA_one _) (by omega) (by rw [hz1, hcs, encA_len]; omega)
  rw [hz1, encA_len] at hrun
  generalize hcur : (cur.toList.take (pre.length * 6) ++ encA (canonA x.2) ++ cur.toList.drop (pre.length * 6 + 6)).toArray = cur2 at hrun
  have ho2 : ∀ k, k ≠ G → (X.setRow G cur2).heap[k]? = X.heap[k]? := fun k hk => setRow_other X G k cur2 hk
  have hbox2 : Boxed (X.setRow G cur2) B 24 (.slice (some ⟨G, 0, none⟩) pre.length N) := by
    show (X.setRow G cur2).heap[B]? = _
    rw [ho2 B (fun e => hGB e.symm), hXo B (by omega), hb.block B hBW]; exact hI.box
  have hs2 : (X.setRow G cur2).heap.size = X.heap.size := by simp [World.setRow]
  refine ⟨X.setRow G cur2, hrun, hbox2.cell, hbox2.frozen, ?_⟩
  have hbox3 := Boxed.set (.slice (some ⟨G, 0, none⟩) (pre.length + 1) N) hbox2
  generalize hY : (X.setRow G cur2).setCell ⟨B, 0, none⟩ (.slice (some ⟨G, 0, none⟩) (pre.length + 1) N) = Y at hbox3
  have hYs : Y.heap.size = X.heap.size := by rw [← hY]; simp
  have ho3 : ∀ k, k ≠ B → Y.heap[k]? = (X.setRow G cur2).heap[k]? := fun k hk => by
    rw [← hY, setCell_eq]; simp only [mapBlock, Array.getElem?_modify, Ne.symm hk, if_false]
  have old : ∀ k, k < W.heap.size → k ≠ G → k ≠ B → Y.heap[k]? = W.heap[k]? := fun k h1 h2 h3 => by
    rw [ho3 k h3, ho2 k h2, hXo k (by omega), hb.block k h1]
  have hYo : Y.os = W.os := by
    have e1 : Y.os = X.os := by rw [← hY]; rfl
    have e2 : X.os = w1.os := by rw [← hX]; rfl
    rw [e1, e2, hb.os]
  have hYt : Y.tape = W.tape := by
    have e1 : Y.tape = X.tape := by rw [← hY]; rfl
    have e2 : X.tape = w1.tape := by rw [← hX]; rfl
    rw [e1, e2, hb.tape]
  have hYp : Y.output = W.output := by
    have e1 : Y.output = X.output := by rw [← hY]; rfl
    have e2 : X.output = w1.output := by rw [← hX]; rfl
    rw [e1, e2, hb.output]
  have bel : ∀ m, m ≤ E → Below m W Y := fun m hm => ⟨hYo, hYt, hYp, by omega, fun k hk => old k (by omega) (by omega) (by omega)⟩
  show _ ∧ _ ∧ _
  refine ⟨⟨by omega, fun k o hk ho hno => ?_⟩, ⟨bel n₀ (by omega), fun v hv => ?_⟩, ⟨?_, ⟨cur2, ?_, ?_, ?_⟩, ?_, hI.below.trans ((bel _ hw)), by have := hI.size; omega⟩⟩
  · rw [old k (Array.getElem?_eq_some_iff.1 ho).1 (fun e => by subst e; rw [hc] at ho; cases ho; cases hno) (by omega)]; exact ho
  · rw [← hv]
    have : Y.heap[Bs]? = W.heap[Bs]? := old Bs hBs2 (by omega) (by omega)
    simp only [World.cell?, this]
  · simpa using hbox3
  · rw [ho3 G hGB, setRow_heap X G cur cur2 _ _ hXG]
  · rw [← hcur]; simp [encA_len, hcs]; omega
  · intro j c hj hcl
    simp only [List.length_append, List.length_cons, List.length_nil] at hj
    rw [← hcur, getElem!_snoc _ _ _ (by omega)]
    simp only [List.getElem?_toArray]
    have ht : (cur.toList.take (pre.length * 6)).length = pre.length * 6 := by simp [hcs]; omega
    by_cases h1 : j < pre.length
    · rw [if_pos h1, List.append_assoc, List.getElem?_append_left (by rw [ht]; omega), List.getElem?_take_of_lt (by omega)]
      simpa using hcr j c h1 hcl
    · have hj2 : j = pre.length := by omega
      subst hj2
      rw [if_neg h1, List.append_assoc, List.getElem?_append_right (by rw [ht]; omega), ht, List.getElem?_append_left (by rw [encA_len]; omega)]
      congr 1; omega
  · rw [ho3 E hEB, ho2 E hEG, hXo E (by omega), hb.block E (by omega)]; exact hI.res
end Go.Proofs.YtjnfbinomljocaaDoor
