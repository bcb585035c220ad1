/- (For the seat of ParseMany.) From a row's list of package-level variables to what the walks ask of them. -/
import Derived.Test.YtljmlfeedleodaaGreatDoorGaE
import Derived.MakeChecks
import Derived.Stop.LaidErr
namespace Go.Proofs.YtljmlfeedleodaaGreatDoor
open Go.RowKit Go.Lib
set_option maxRecDepth 100000

theorem star : "*" ++ "errors.errorString" = "*errors.errorString" := by decide
theorem rowErr (u : TypeId) (h : Tryz.prog.typeName? 3 u = some "*errors.errorString") : u = 157 :=
  typeName_ptr_named (nm := "errors.errorString") (by rw [star]; kernel_rfl) (by kernel_rfl) (by decide) u (by rw [star]; exact h)

set_option maxHeartbeats 1000000 in
theorem tabs_of {W : World} (h : laidMetH Tryz.prog Rows.parseManyRow.laid W) : Tabs W := by
  rw [MakeChecks.laidMetH_plain _ _ _ (by kernel_rfl)] at h
  have hr : ∀ i n d, Rows.parseManyRow.laid[i]? = some (n, d) → VarReads Tryz.prog W n d := fun i n d e => Lib.laidMet.reads h (List.mem_of_getElem? e)
  refine ⟨?_, ?_, ?_, ?_, ?_, ?_, ?_, ?_, ?_, ?_, ?_⟩
  · obtain ⟨cs, f, p, hv, hd, hc⟩ := reads_of "internal/strconv.optimize" 9 4 (by kernel_rfl) (by kernel_rfl) (hr 4 _ _ rfl)
    obtain ⟨b, e1, e2⟩ := DataW.trod_bool Tryz.underlying4 hd
    rw [hc, e1]
    simp only [Rows.laid_internal_strconv_optimize, Prod.mk.injEq, DataW.lit.injEq, Lit.bool.injEq] at e2
    rw [← e2.1]; rfl
  · obtain ⟨cs, f, p, hv, hd, hc⟩ := reads_of "internal/strconv.float64info" 10 167 (by kernel_rfl) (by kernel_rfl) (hr 3 _ _ rfl)
    rw [hc]
    exact field_int Tryz.underlying167 hd 0 _ .u64 52 rfl (by kernel_rfl) (by kernel_rfl) rfl
  · obtain ⟨cs, f, p, hv, hd, hc⟩ := reads_of "internal/strconv.float64info" 10 167 (by kernel_rfl) (by kernel_rfl) (hr 3 _ _ rfl)
    rw [hc]
    exact field_int Tryz.underlying167 hd 1 _ .u64 11 rfl (by kernel_rfl) (by kernel_rfl) rfl
  · obtain ⟨cs, f, p, hv, hd, hc⟩ := reads_of "internal/strconv.float64info" 10 167 (by kernel_rfl) (by kernel_rfl) (hr 3 _ _ rfl)
    rw [hc]
    exact field_int Tryz.underlying167 hd 2 _ .i64 (-1023) rfl (by kernel_rfl) (by kernel_rfl) rfl
  · exact tabIs_of_head (g := 7) (t := 151) (e := 124) (n := 20) (by kernel_rfl) (by kernel_rfl) Tryz.underlying151 Tryz.underlying124 (by kernel_rfl) (by kernel_rfl)
      (rest := Rows.parseManyRow.laid.drop 9) (ld_drop 8 h)
  · obtain ⟨cs, f, p, hv, hd, hc⟩ := reads_of "internal/strconv.float64pow10" 13 210 (by kernel_rfl) (by kernel_rfl) (hr 6 _ _ rfl)
    obtain ⟨R, o, c, e1, e2⟩ := floats_at (l := fpow10) Tryz.underlying210 Tryz.underlying33 (by kernel_rfl) (by decide) hd
    exact ⟨R, o, c, by rw [hc, e1]; rfl, e2⟩
  · obtain ⟨cs, f, p, hv, hd, hc⟩ := reads_of "internal/strconv.pow10Tab" 21 226 (by kernel_rfl) (by kernel_rfl) (hr 14 _ _ rfl)
    intro i hi
    have c2 : Tryz.prog.cellsOf 225 = 2 := by kernel_rfl
    obtain ⟨f', d, q, e1, e2⟩ := array_elem Tryz.underlying226 hd i hi
    have hlen : Go.Pinned.pow10Rows.length = 696 := by decide +kernel
    have e3 : (Go.Pinned.pow10Rows.map fun x => (DataW.agg [.lit (.int .u64 x.1), .lit (.int .u64 x.2)] : DataW Unit))[i]? = some d := e1
    rw [List.getElem?_map, List.getElem?_eq_getElem (by omega)] at e3
    simp only [Option.map_some, Option.some.injEq] at e3
    subst e3
    rw [c2] at e2
    have hz := ints_of_struct (k := .u64) (zs := [((Go.Pinned.pow10Rows[i]'(by omega)).1 : Int), ((Go.Pinned.pow10Rows[i]'(by omega)).2 : Int)]) Tryz.underlying225 (fun j f hj => by
      match j, hj with
      | 0, hj => simp at hj; subst hj; exact ⟨by kernel_rfl, rfl, by kernel_rfl⟩
      | 1, hj => simp at hj; subst hj; exact ⟨by kernel_rfl, rfl, by kernel_rfl⟩
      | j + 2, hj => simp at hj) (by rw [c2]; rfl) e2
    have h0 := congrArg (·[0]?) hz
    have h1 := congrArg (·[1]?) hz
    simp only [List.getElem?_take, List.getElem?_drop] at h0 h1
    have g1 : powHi i = (Go.Pinned.pow10Rows[i]'(by omega)).1 := by unfold powHi; rw [List.getD, List.getElem?_eq_getElem (by omega)]; rfl
    have g2 : powLo i = (Go.Pinned.pow10Rows[i]'(by omega)).2 := by unfold powLo; rw [List.getD, List.getElem?_eq_getElem (by omega)]; rfl
    rw [hc, hc, g1, g2]
    exact ⟨by simpa [Nat.mul_comm] using h0, by simpa [Nat.mul_comm] using h1⟩
  · obtain ⟨a0, s0, hv0, -, -, -⟩ := laid_sentinel (g := 4) (ti := 87) (ld_drop 11 h) (by kernel_rfl) (by kernel_rfl) Tryz.underlying87 rowErr Tryz.underlying157 Tryz.underlying159 rfl rfl Tryz.underlying9 (by kernel_rfl) (by kernel_rfl)
    exact ⟨_, _, hv0⟩
  · obtain ⟨a0, s0, hv0, -, -, -⟩ := laid_sentinel (g := 6) (ti := 87) (ld_drop 10 h) (by kernel_rfl) (by kernel_rfl) Tryz.underlying87 rowErr Tryz.underlying157 Tryz.underlying159 rfl rfl Tryz.underlying9 (by kernel_rfl) (by kernel_rfl)
    exact ⟨_, _, hv0⟩
  · exact printTabs_of_reads Tryz.lays339 ⟨by kernel_rfl, by kernel_rfl, by kernel_rfl, by kernel_rfl, by kernel_rfl, by kernel_rfl, by kernel_rfl, by kernel_rfl, by kernel_rfl, by kernel_rfl⟩
      (by rw [← Go.Pinned.isPrint16_eq]; exact hr 18 _ _ rfl) (by rw [← Go.Pinned.isNotPrint16_eq]; exact hr 16 _ _ rfl) (by rw [← Go.Pinned.isPrint32_eq]; exact hr 19 _ _ rfl) (by rw [← Go.Pinned.isNotPrint32_eq]; exact hr 17 _ _ rfl)
  · exact utf8Tabs_of_reads Tryz.lays260 ⟨by kernel_rfl, by kernel_rfl, by kernel_rfl, by kernel_rfl, by kernel_rfl, by kernel_rfl, by kernel_rfl⟩
      (by rw [← Go.Pinned.utf8First_eq]; exact hr 20 _ _ rfl) (hr 9 _ _ rfl)
set_option maxHeartbeats 1000000 in
theorem wds_of {W : World} (h : laidMetH Tryz.prog Rows.parseManyRow.laid W) : Wds W := by
  rw [MakeChecks.laidMetH_plain _ _ _ (by kernel_rfl)] at h
  have hr : ∀ i n d, Rows.parseManyRow.laid[i]? = some (n, d) → VarReads Tryz.prog W n d := fun i n d e => Lib.laidMet.reads h (List.mem_of_getElem? e)
  obtain ⟨cs, f, p, hv, hd, hc⟩ := reads_of "gazette/cond.words" 0 47 (by kernel_rfl) (by kernel_rfl) (hr 12 _ _ rfl)
  intro i hi
  have c1 : Tryz.prog.cellsOf 9 = 1 := by kernel_rfl
  have one : ∀ (i : Nat) (z : List UInt8), ([.lit (.string [61]), .lit (.string [33, 61]), .lit (.string [60]), .lit (.string [60, 61]), .lit (.string [62]), .lit (.string [62, 61]), .lit (.string [94]), .lit (.string [104, 97, 115])] : List (DataW Unit))[i]? = some (.lit (.string z)) → i < 8 → W.cell? ⟨0, i, none⟩ = some (.string ⟨z.toArray⟩) := by
    intro i z hz hi
    obtain ⟨f', d, q, e1, e2⟩ := array_elem Tryz.underlying47 hd i hi
    have e3 : ([.lit (.string [61]), .lit (.string [33, 61]), .lit (.string [60]), .lit (.string [60, 61]), .lit (.string [62]), .lit (.string [62, 61]), .lit (.string [94]), .lit (.string [104, 97, 115])] : List (DataW Unit))[i]? = some d := e1
    rw [hz] at e3
    obtain rfl := Option.some.inj e3
    rw [c1] at e2
    obtain ⟨s, g1, g2⟩ := DataW.trod_string Tryz.underlying9 e2
    simp only [Prod.mk.injEq, DataW.lit.injEq, Lit.string.injEq] at g2
    have hs : s = ⟨z.toArray⟩ := by
      rw [g2.1.1]
    have := congrArg (·[0]?) g1
    simp only [List.getElem?_take, List.getElem?_drop, Nat.mul_one] at this
    rw [hc, ← hs]
    simpa using this
  match i, hi with
  | 0, hi => exact one 0 _ rfl hi
  | 1, hi => exact one 1 _ rfl hi
  | 2, hi => exact one 2 _ rfl hi
  | 3, hi => exact one 3 _ rfl hi
  | 4, hi => exact one 4 _ rfl hi
  | 5, hi => exact one 5 _ rfl hi
  | 6, hi => exact one 6 _ rfl hi
  | 7, hi => exact one 7 _ rfl hi
end Go.Proofs.YtljmlfeedleodaaGreatDoor
