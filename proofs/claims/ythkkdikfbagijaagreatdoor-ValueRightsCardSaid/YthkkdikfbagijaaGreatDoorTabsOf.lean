/- From a row's list of package-level variables to what the walks ask of them. -/
import Derived.Test.YthkkdikfbagijaaGreatDoorTabs
import Derived.MakeChecks
import Derived.Stop.LaidErr
namespace Go.Proofs.YthkkdikfbagijaaGreatDoor
open Go.RowKit Go.Lib
set_option maxRecDepth 100000

section
variable {H : Type} {enc : TypeId × Value → H} {P : Program} {w : World} {base : Nat} {spare : Nat → Bool} {held : Bool} {fuel : Nat} {t : TypeId} {cs : List Value}
/-- A struct's field that is an integer. -/
theorem field_int {fs : Array Field} {ds : List (DataW H)} {p : List MemPlace} (ht : P.underlying t = some (.struct fs)) (h : DataW.trod enc P w base spare held fuel t cs = some (.agg ds, p)) (i : Nat) (f : Field) (k : IntKind) (z : Int)
    (hf : fs[i]? = some f) (hu : P.underlying f.type = some (.int k)) (hc : P.cellsOf f.type = 1) (hd : ds[i]? = some (.lit (.int k z))) : cs[f.offset]? = some (.int k z) := by
  obtain ⟨xs, n, rfl, hx, hl, hxl, hall⟩ := DataW.trod_struct ht h
  have hxs : xs.map (·.1) = ds := by
    have := congrArg Prod.fst hx
    simpa using this.symm
  have h1 := hall i f hf
  rw [← hxs, List.getElem?_map] at hd
  obtain ⟨b, hb, hb1⟩ := Option.map_eq_some_iff.1 hd
  rw [hb, hc] at h1
  obtain ⟨z', hcz, rfl, _⟩ := DataW.trod_int hu h1
  simp only [DataW.lit.injEq, Lit.int.injEq, true_and] at hb1
  subst hb1
  have := congrArg (·[0]?) hcz
  simpa [List.getElem?_take, List.getElem?_drop] using this

/-- A slice of floats. -/
theorem floats_at {e : TypeId} {k : FloatKind} {l : List Nat} {p : List MemPlace} (ht : P.underlying t = some (.slice e)) (he : P.underlying e = some (.float k)) (hc : P.cellsOf e = 1) (hl : 0 < l.length)
    (h : DataW.trod enc P w base spare held fuel t cs = some (.slice (l.map fun x => .lit (.float k x)) [], p)) :
    ∃ R o c, cs = [.slice (some ⟨R, o, none⟩) l.length c] ∧ ∀ j, j < l.length → w.cell? ⟨R, o + j, none⟩ = some (.float k (l.getD j 0)) := by
  rcases DataW.trod_slice ht h with ⟨_, hx⟩ | ⟨a, len, cap, el, rs, m, rfl, hcs, hx, _, hlc, _, hel, helem, hsp, _⟩
  · cases hx
  have e0 := congrArg Prod.fst hx
  simp only [DataW.slice.injEq] at e0
  obtain ⟨eE, eR⟩ := e0
  have hlen : len = l.length := by
    have := congrArg List.length eE
    simp at this
    omega
  have hcell : ∀ i, i < l.length → w.cell? (a.add i) = some (.float k (l.getD i 0)) := by
    intro i hi
    have h1 := helem i (by omega)
    rw [hc] at h1
    obtain ⟨b, hb⟩ : ∃ b, el[i]? = some b := ⟨el[i]'(by omega), List.getElem?_eq_getElem (by omega)⟩
    rw [hb] at h1
    obtain ⟨ce, hce, hte⟩ := Option.bind_eq_some_iff.1 h1
    obtain ⟨z, hz, hbz⟩ := trod_float he hte
    have hb1 : b.1 = .lit (.float k (l.getD i 0)) := by
      have := congrArg (·[i]?) eE
      simp [hb, hi] at this
      have e2 : l.getD i 0 = l[i] := by simp [List.getD, List.getElem?_eq_getElem hi]
      rw [e2]
      exact this.symm
    rw [hbz] at hb1
    simp only [DataW.lit.injEq, Lit.float.injEq, true_and] at hb1
    obtain ⟨_, _, hcc⟩ := World.cells?_some hce
    have := hcc 0 (by omega)
    rw [hz] at this
    simp only [Nat.mul_one] at this
    have e1 : (a.add i).add 0 = a.add i := by simp [Addr.add]
    rw [e1] at this
    rw [this, ← hb1]
    rfl
  obtain ⟨R, o, sR⟩ := a
  obtain rfl : sR = none := by
    have h00 := hcell 0 hl
    have : (Addr.add ⟨R, o, sR⟩ 0) = ⟨R, o, sR⟩ := by simp [Addr.add]
    rw [this] at h00
    exact Go.Proofs.cell_spot h00
  refine ⟨R, o, cap, by rw [hcs, hlen], fun j hj => ?_⟩
  have := hcell j hj
  rwa [Addr.add_lit] at this
end

theorem reads_of (n : String) (g t : Nat) (h : Tryz.prog.globalNamed n = some g) (k : (Tryz.prog.globals[g]?).map (·.type) = some t) {w : World} {d : DataW Unit} (hr : VarReads Tryz.prog w n d) :
    ∃ cs fuel p, w.var? Tryz.prog n = some cs ∧ DataW.trod (fun _ => ()) Tryz.prog w 0 (fun _ => true) false fuel t cs.toList = some (d, p) ∧ ∀ i, w.cell? ⟨g, i, none⟩ = cs.toList[i]? := by
  obtain ⟨g', t', cs, fuel, p, hg, hty, hvar, hd⟩ := hr
  obtain rfl := Option.some.inj (h.symm.trans hg)
  obtain rfl := Option.some.inj (k.symm.trans hty)
  exact ⟨cs, fuel, p, hvar, hd, fun i => by rw [World.var?_cell hg hvar i, ← Array.getElem?_toList]⟩

theorem star : "*" ++ "errors.errorString" = "*errors.errorString" := by decide
theorem rowErr (u : TypeId) (h : Tryz.prog.typeName? 3 u = some "*errors.errorString") : u = 133 :=
  typeName_ptr_named (nm := "errors.errorString") (by rw [star]; kernel_rfl) (by kernel_rfl) (by decide) u (by rw [star]; exact h)

theorem ld_drop {P : Program} {W : World} : ∀ (n : Nat) {l : List (String × DataW Unit)}, laidMet P l W → laidMet P (l.drop n) W
  | 0, _, h => h
  | _ + 1, [], h => h
  | n + 1, _ :: r, h => ld_drop n (l := r) h.tail

set_option maxHeartbeats 1000000 in
theorem tabs_of {W : World} (h : laidMetH Tryz.prog Rows.valueRightsRow.laid W) : Tabs W := by
  rw [MakeChecks.laidMetH_plain _ _ _ (by kernel_rfl)] at h
  have hr : ∀ i n d, Rows.valueRightsRow.laid[i]? = some (n, d) → VarReads Tryz.prog W n d := fun i n d e => Lib.laidMet.reads h (List.mem_of_getElem? e)
  refine ⟨?_, ?_, ?_, ?_, ?_, ?_, ?_, ?_, ?_, ?_, ?_⟩
  · obtain ⟨cs, f, p, hv, hd, hc⟩ := reads_of "internal/strconv.optimize" 6 4 (by kernel_rfl) (by kernel_rfl) (hr 4 _ _ rfl)
    obtain ⟨b, e1, e2⟩ := DataW.trod_bool Tryz.underlying4 hd
    rw [hc, e1]
    simp only [Rows.laid_internal_strconv_optimize, Prod.mk.injEq, DataW.lit.injEq, Lit.bool.injEq] at e2
    rw [← e2.1]; rfl
  · obtain ⟨cs, f, p, hv, hd, hc⟩ := reads_of "internal/strconv.float64info" 9 143 (by kernel_rfl) (by kernel_rfl) (hr 3 _ _ rfl)
    rw [hc]
    exact field_int Tryz.underlying143 hd 0 _ .u64 52 rfl (by kernel_rfl) (by kernel_rfl) rfl
  · obtain ⟨cs, f, p, hv, hd, hc⟩ := reads_of "internal/strconv.float64info" 9 143 (by kernel_rfl) (by kernel_rfl) (hr 3 _ _ rfl)
    rw [hc]
    exact field_int Tryz.underlying143 hd 1 _ .u64 11 rfl (by kernel_rfl) (by kernel_rfl) rfl
  · obtain ⟨cs, f, p, hv, hd, hc⟩ := reads_of "internal/strconv.float64info" 9 143 (by kernel_rfl) (by kernel_rfl) (hr 3 _ _ rfl)
    rw [hc]
    exact field_int Tryz.underlying143 hd 2 _ .i64 (-1023) rfl (by kernel_rfl) (by kernel_rfl) rfl
  · exact tabIs_of_head (g := 2) (t := 83) (e := 55) (n := 20) (by kernel_rfl) (by kernel_rfl) Tryz.underlying83 Tryz.underlying55 (by kernel_rfl) (by kernel_rfl)
      (rest := Rows.valueRightsRow.laid.drop 9) (ld_drop 8 h)
  · obtain ⟨cs, f, p, hv, hd, hc⟩ := reads_of "internal/strconv.float64pow10" 19 181 (by kernel_rfl) (by kernel_rfl) (hr 6 _ _ rfl)
    obtain ⟨R, o, c, e1, e2⟩ := floats_at (l := fpow10) Tryz.underlying181 Tryz.underlying22 (by kernel_rfl) (by decide) hd
    exact ⟨R, o, c, by rw [hc, e1]; rfl, e2⟩
  · obtain ⟨cs, f, p, hv, hd, hc⟩ := reads_of "internal/strconv.pow10Tab" 20 185 (by kernel_rfl) (by kernel_rfl) (hr 13 _ _ rfl)
    intro i hi
    have c2 : Tryz.prog.cellsOf 184 = 2 := by kernel_rfl
    obtain ⟨f', d, q, e1, e2⟩ := array_elem Tryz.underlying185 hd i hi
    have hlen : Go.Pinned.pow10Rows.length = 696 := by decide +kernel
    have e3 : (Go.Pinned.pow10Rows.map fun x => (DataW.agg [.lit (.int .u64 x.1), .lit (.int .u64 x.2)] : DataW Unit))[i]? = some d := e1
    rw [List.getElem?_map, List.getElem?_eq_getElem (by omega)] at e3
    simp only [Option.map_some, Option.some.injEq] at e3
    subst e3
    rw [c2] at e2
    have hz := ints_of_struct (k := .u64) (zs := [((Go.Pinned.pow10Rows[i]'(by omega)).1 : Int), ((Go.Pinned.pow10Rows[i]'(by omega)).2 : Int)]) Tryz.underlying184 (fun j f hj => by
      match j, hj with
      | 0, hj => simp at hj; subst hj; exact ⟨by kernel_rfl, rfl, by kernel_rfl⟩
      | 1, hj => simp at hj; subst hj; exact ⟨by kernel_rfl, rfl, by kernel_rfl⟩
      | j + 2, hj => simp at hj) (by rw [c2]; rfl) e2
    have h0 := congrArg (·[0]?) hz
    have h1 := congrArg (·[1]?) hz
    simp only [List.getElem?_take, List.getElem?_drop] at h0 h1
    have g1 : powHi i = (Go.Pinned.pow10Rows[i]'(by omega)).1 := by unfold powHi; rw [List.getD, List.getElem?_eq_getElem (by omega)]; rfl
    have g2 : powLo i = (Go.Pinned.pow10Rows[i]'(by omega)).2 := by unfold powLo; rw [List.getD, List.getElem?_eq_getElem (by omega)]; rfl
    rw [hc, hc, g1, g2]
    exact ⟨by simpa [Nat.mul_comm] using h0, by simpa [Nat.mul_comm] using h1⟩
  · obtain ⟨a0, s0, hv0, -, -, -⟩ := laid_sentinel (g := 0) (ti := 38) (ld_drop 11 h) (by kernel_rfl) (by kernel_rfl) Tryz.underlying38 rowErr Tryz.underlying133 Tryz.underlying135 rfl rfl Tryz.underlying9 (by kernel_rfl) (by kernel_rfl)
    exact ⟨_, _, hv0⟩
  · obtain ⟨a0, s0, hv0, -, -, -⟩ := laid_sentinel (g := 5) (ti := 38) (ld_drop 10 h) (by kernel_rfl) (by kernel_rfl) Tryz.underlying38 rowErr Tryz.underlying133 Tryz.underlying135 rfl rfl Tryz.underlying9 (by kernel_rfl) (by kernel_rfl)
    exact ⟨_, _, hv0⟩
  · exact printTabs_of_reads Tryz.lays339 ⟨by kernel_rfl, by kernel_rfl, by kernel_rfl, by kernel_rfl, by kernel_rfl, by kernel_rfl, by kernel_rfl, by kernel_rfl, by kernel_rfl, by kernel_rfl⟩
      (by rw [← Go.Pinned.isPrint16_eq]; exact hr 17 _ _ rfl) (by rw [← Go.Pinned.isNotPrint16_eq]; exact hr 15 _ _ rfl) (by rw [← Go.Pinned.isPrint32_eq]; exact hr 18 _ _ rfl) (by rw [← Go.Pinned.isNotPrint32_eq]; exact hr 16 _ _ rfl)
  · exact utf8Tabs_of_reads Tryz.lays260 ⟨by kernel_rfl, by kernel_rfl, by kernel_rfl, by kernel_rfl, by kernel_rfl, by kernel_rfl, by kernel_rfl⟩
      (by rw [← Go.Pinned.utf8First_eq]; exact hr 19 _ _ rfl) (hr 9 _ _ rfl)
theorem globals_lt {W : World} (h : Tabs W) : 20 < W.heap.size := World.block_lt_of_cell? W ⟨20, _, none⟩ (h.pow 0 (by decide)).1
end Go.Proofs.YthkkdikfbagijaaGreatDoor
