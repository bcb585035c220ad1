/- internal/strconv.shortFloat at float64: the shortest digits of a number, as a plain function of its mantissa and its exponent. -/
import Derived.Test.YthkkdikfbagijaaGreatDoorUsc
namespace Go.Proofs.YthkkdikfbagijaaGreatDoor
open Go.RowKit
set_option maxRecDepth 100000

theorem rows64 : (Go.Pinned.pow10Rows.all fun x => decide (x.1 < 18446744073709551616) && decide (x.2 < 18446744073709551616)) = true := by decide +kernel
theorem pow_lt (i : Nat) : powHi i < 18446744073709551616 ∧ powLo i < 18446744073709551616 := by
  unfold powHi powLo
  by_cases h : i < Go.Pinned.pow10Rows.length
  · have h1 := List.all_eq_true.1 rows64 _ (List.getElem_mem h)
    simp only [Bool.and_eq_true, decide_eq_true_eq] at h1
    rw [List.getD, List.getElem?_eq_getElem h]
    exact h1
  · rw [List.getD, List.getElem?_eq_none (by omega)]
    exact ⟨by decide, by decide⟩
theorem u64_bd (x : Int) : 0 ≤ IntKind.u64.wrap x ∧ IntKind.u64.wrap x < 18446744073709551616 := by
  simp [IntKind.wrap, IntKind.signed, IntKind.bits]; omega
theorem u64_nat (x : Int) : ∃ n : Nat, IntKind.u64.wrap x = (n : Int) ∧ n < 18446744073709551616 := by
  have := u64_bd x
  exact ⟨(IntKind.u64.wrap x).toNat, by omega, by omega⟩
theorem ceilF_bd (u : Int) : 0 ≤ ceilF u ∧ ceilF u < 4611686018427387904 := by
  have := u64_bd (u + 3); unfold ceilF; omega
theorem floorF_bd (u : Int) : 0 ≤ floorF u ∧ floorF u < 4611686018427387904 := by
  have := u64_bd u; unfold floorF; omega
theorem roundF_bd (u : Int) : 0 ≤ roundF u ∧ roundF u < 4611686018427387904 := by
  have := u64_bd (IntKind.u64.wrap (u + 1) + bits BinOp.and IntKind.u64 (u / 4) 1); unfold roundF; omega

theorem drewN_below (B : Nat) (w : World) (n : Nat) : Below B w (w.drewN n) := ⟨rfl, rfl, rfl, Nat.le_refl _, fun _ _ => rfl⟩
theorem ret_pair {a a' b b' : Int} (h : a = a') (k : b = b') : Ending.returned (.tuple #[.int .u64 a, .int .i64 b]) = .returned (.tuple #[.int .u64 a', .int .i64 b']) := by rw [h, k]
def sfMin (mn i s : Nat) (od : Int) : Int := ceilF (nudgeF (usc mn (powHi i) (powLo i) s) od)
def sfMax (mx i s : Nat) (od : Int) : Int := floorF (nudgeF (usc mx (powHi i) (powLo i) s) (-od))
def sfMid (m i s : Nat) : Int := roundF (usc m (powHi i) (powLo i) s)
def sfD (m mn mx i s : Nat) (od : Int) : Int :=
  if sfMin mn i s od ≤ sfMax mx i s od / 10 * 10 then sfMax mx i s od / 10 else if sfMin mn i s od < sfMax mx i s od then sfMid m i s else sfMin mn i s od
def sfP (mn mx i s : Nat) (od : Int) : Int :=
  if sfMin mn i s od ≤ sfMax mx i s od / 10 * 10 then 349 - (i : Int) else 348 - (i : Int)

set_option maxHeartbeats 1000000 in
theorem sfA (m mn mx i s : Nat) (e od : Int) (w : World) (hT : Tabs w) (hm : m < 18446744073709551616) (hmn : mn < 18446744073709551616) (hmx : mx < 18446744073709551616) (hi : i < 696) (hs : s < 64) (he1 : -1137 ≤ e) (he2 : e ≤ 960)
    (hm63 : (((m : Nat) : Int) == 9223372036854775808) = true) (he : -1085 < e) (ep : wrap64 (-skew (e + 11)) = (i : Int) - 348) (en : IntKind.u64.wrap (↑m - 512) = (mn : Int)) (ex : IntKind.u64.wrap (↑m + 1024) = (mx : Int)) (eo : bits BinOp.and IntKind.i64 (wrap64 (↑m / 2048)) 1 = od) (ho0 : 0 ≤ od) (ho1 : od ≤ 1)
    (es : -(e + lgTwo ((i : Int) - 348) + 3) = (s : Int)) (hg : 20 < w.heap.size) :
    Calls Tryz.prog 87 #[.int .u64 m, .int .i64 e] w fun e' w' => e' = .returned (.tuple #[.int .u64 (sfD m mn mx i s od), .int .i64 (sfP mn mx i s od)]) ∧ Below w.heap.size w w' := by
  have ES := Lib.hid es; clear es
  have HM := Lib.hid hm; have HN := Lib.hid hmn; have HX := Lib.hid hmx; have HS := Lib.hid hs; clear hm hmn hmx hs
  have hT1 : Tabs (w.alloc (.cells #[.int .u64 0, .int .u64 0, .int .i64 0] 160)) := hT.on ((Below.refl _ _).alloc (Nat.le_refl _) _)
  have hl : -2000 ≤ lgTwo ((i : Int) - 348) ∧ lgTwo ((i : Int) - 348) ≤ 2000 := by unfold lgTwo; omega
  obtain ⟨hl1, hl2⟩ := hl
  obtain ⟨dmin, hdmin⟩ : ∃ x, x = sfMin mn i s od := ⟨_, rfl⟩
  obtain ⟨dmax, hdmax⟩ : ∃ x, x = sfMax mx i s od := ⟨_, rfl⟩
  have bmin : 0 ≤ dmin ∧ dmin < 4611686018427387904 := by rw [hdmin]; exact ceilF_bd _
  have bmax : 0 ≤ dmax ∧ dmax < 4611686018427387904 := by rw [hdmax]; exact floorF_bd _
  have hD : sfD m mn mx i s od = if dmin ≤ dmax / 10 * 10 then dmax / 10 else if dmin < dmax then sfMid m i s else dmin := by rw [hdmin, hdmax]; rfl
  have hP : sfP mn mx i s od = if dmin ≤ dmax / 10 * 10 then 349 - (i : Int) else 348 - (i : Int) := by rw [hdmin, hdmax]; rfl
  rw [hD, hP]; clear hD hP
  have HD := Lib.hid hdmin; have HE := Lib.hid hdmax; clear hdmin hdmax
  obtain ⟨bmin0, bmin1⟩ := bmin
  obtain ⟨bmax0, bmax1⟩ := bmax
  rcases (by omega : dmin ≤ dmax / 10 * 10 ∨ (¬ dmin ≤ dmax / 10 * 10 ∧ dmin < dmax) ∨ (¬ dmin ≤ dmax / 10 * 10 ∧ ¬ dmin < dmax)) with hc | ⟨hc, hd⟩ | ⟨hc, hd⟩
  all_goals
    go_enter Tryz.func87, Tryz.ntmps87
    go_wp2_with fail
    refine (skew_c _ (by omega) (by omega) _).mono ?_; rintro e' w' ⟨rfl, rfl⟩
    go_wp2_with fail
    refine (lgTwo_c _ (by omega) (by omega) _).mono ?_; rintro e' w' ⟨rfl, rfl⟩
    go_wp2_with fail
    refine (prescale_c w.heap.size i e (lgTwo ((i : Int) - 348)) hi (by omega) (by omega) hl1 hl2 _ hT1 (.int .u64 0) (.int .u64 0) (.int .i64 0) (by go_simp) (by go_simp) (by go_simp) hg (by go_simp) (by go_simp) (by go_simp)).mono ?_
    rintro e' w1 ⟨rfl, c0, c1, c2, hb1⟩
    rw [ES.out] at c2
    have B1 := Lib.hid hb1; clear hb1
    go_wp2_with fail
    refine (uscale_c mn (powHi i) (powLo i) s w.heap.size HN.out (pow_lt i).1 (pow_lt i).2 HS.out _ c0 c1 c2).mono ?_
    rintro e' w2 ⟨rfl, n2, rfl⟩
    go_wp2_with fail
    refine (nudge_c _ _ _).mono ?_; rintro e' w' ⟨rfl, rfl⟩
    go_wp2_with fail
    refine (ceil_c _ _).mono ?_; rintro e' w' ⟨rfl, rfl⟩
    rw [show ceilF (nudgeF (usc mn (powHi i) (powLo i) s) od) = dmin from HD.out.symm]
    go_wp2_with fail
    refine (uscale_c mx (powHi i) (powLo i) s w.heap.size HX.out (pow_lt i).1 (pow_lt i).2 HS.out _ (by simpa using c0) (by simpa using c1) (by simpa using c2)).mono ?_
    rintro e' w2 ⟨rfl, n3, rfl⟩
    go_wp2_with fail
    refine (nudge_c _ _ _).mono ?_; rintro e' w' ⟨rfl, rfl⟩
    go_wp2_with fail
    refine (floor_c _ _).mono ?_; rintro e' w' ⟨rfl, rfl⟩
    rw [show floorF (nudgeF (usc mx (powHi i) (powLo i) s) (-od)) = dmax from HE.out.symm]
    go_wp2_with fail
  · go_ret2
    refine ⟨ret_pair rfl (by omega), ?_⟩
    exact (((Below.refl _ _).alloc (Nat.le_refl _) _).trans B1.out).trans (drewN_below _ _ _)
  · refine (uscale_c m (powHi i) (powLo i) s w.heap.size HM.out (pow_lt i).1 (pow_lt i).2 HS.out _ (by simpa using c0) (by simpa using c1) (by simpa using c2)).mono ?_
    rintro e' w2 ⟨rfl, n4, rfl⟩
    go_wp2_with fail
    refine (round_c _ _).mono ?_; rintro e' w' ⟨rfl, rfl⟩
    go_wp2_with fail
    go_ret2
    refine ⟨ret_pair rfl (by omega), ?_⟩
    exact (((Below.refl _ _).alloc (Nat.le_refl _) _).trans B1.out).trans (drewN_below _ _ _)
  · go_ret2
    refine ⟨ret_pair rfl (by omega), ?_⟩
    exact (((Below.refl _ _).alloc (Nat.le_refl _) _).trans B1.out).trans (drewN_below _ _ _)

set_option maxHeartbeats 1000000 in
theorem sfB (m mn mx i s : Nat) (e od : Int) (w : World) (hT : Tabs w) (hm : m < 18446744073709551616) (hmn : mn < 18446744073709551616) (hmx : mx < 18446744073709551616) (hi : i < 696) (hs : s < 64) (he1 : -1137 ≤ e) (he2 : e ≤ 960)
    (hm63 : (((m : Nat) : Int) == 9223372036854775808) = false) (he : -1085 ≤ e) (ep : wrap64 (-lgTen (e + 11)) = (i : Int) - 348) (en : IntKind.u64.wrap (↑m - 1024) = (mn : Int)) (ex : IntKind.u64.wrap (↑m + 1024) = (mx : Int)) (eo : bits BinOp.and IntKind.i64 (wrap64 (↑m / 2048)) 1 = od) (ho0 : 0 ≤ od) (ho1 : od ≤ 1)
    (es : -(e + lgTwo ((i : Int) - 348) + 3) = (s : Int)) (hg : 20 < w.heap.size) :
    Calls Tryz.prog 87 #[.int .u64 m, .int .i64 e] w fun e' w' => e' = .returned (.tuple #[.int .u64 (sfD m mn mx i s od), .int .i64 (sfP mn mx i s od)]) ∧ Below w.heap.size w w' := by
  have ES := Lib.hid es; clear es
  have HM := Lib.hid hm; have HN := Lib.hid hmn; have HX := Lib.hid hmx; have HS := Lib.hid hs; clear hm hmn hmx hs
  have hT1 : Tabs (w.alloc (.cells #[.int .u64 0, .int .u64 0, .int .i64 0] 160)) := hT.on ((Below.refl _ _).alloc (Nat.le_refl _) _)
  have hl : -2000 ≤ lgTwo ((i : Int) - 348) ∧ lgTwo ((i : Int) - 348) ≤ 2000 := by unfold lgTwo; omega
  obtain ⟨hl1, hl2⟩ := hl
  obtain ⟨dmin, hdmin⟩ : ∃ x, x = sfMin mn i s od := ⟨_, rfl⟩
  obtain ⟨dmax, hdmax⟩ : ∃ x, x = sfMax mx i s od := ⟨_, rfl⟩
  have bmin : 0 ≤ dmin ∧ dmin < 4611686018427387904 := by rw [hdmin]; exact ceilF_bd _
  have bmax : 0 ≤ dmax ∧ dmax < 4611686018427387904 := by rw [hdmax]; exact floorF_bd _
  have hD : sfD m mn mx i s od = if dmin ≤ dmax / 10 * 10 then dmax / 10 else if dmin < dmax then sfMid m i s else dmin := by rw [hdmin, hdmax]; rfl
  have hP : sfP mn mx i s od = if dmin ≤ dmax / 10 * 10 then 349 - (i : Int) else 348 - (i : Int) := by rw [hdmin, hdmax]; rfl
  rw [hD, hP]; clear hD hP
  have HD := Lib.hid hdmin; have HE := Lib.hid hdmax; clear hdmin hdmax
  obtain ⟨bmin0, bmin1⟩ := bmin
  obtain ⟨bmax0, bmax1⟩ := bmax
  rcases (by omega : dmin ≤ dmax / 10 * 10 ∨ (¬ dmin ≤ dmax / 10 * 10 ∧ dmin < dmax) ∨ (¬ dmin ≤ dmax / 10 * 10 ∧ ¬ dmin < dmax)) with hc | ⟨hc, hd⟩ | ⟨hc, hd⟩
  all_goals
    go_enter Tryz.func87, Tryz.ntmps87
    go_wp2_with fail
    refine (lgTen_c _ (by omega) (by omega) _).mono ?_; rintro e' w' ⟨rfl, rfl⟩
    go_wp2_with fail
    refine (lgTwo_c _ (by omega) (by omega) _).mono ?_; rintro e' w' ⟨rfl, rfl⟩
    go_wp2_with fail
    refine (prescale_c w.heap.size i e (lgTwo ((i : Int) - 348)) hi (by omega) (by omega) hl1 hl2 _ hT1 (.int .u64 0) (.int .u64 0) (.int .i64 0) (by go_simp) (by go_simp) (by go_simp) hg (by go_simp) (by go_simp) (by go_simp)).mono ?_
    rintro e' w1 ⟨rfl, c0, c1, c2, hb1⟩
    rw [ES.out] at c2
    have B1 := Lib.hid hb1; clear hb1
    go_wp2_with fail
    refine (uscale_c mn (powHi i) (powLo i) s w.heap.size HN.out (pow_lt i).1 (pow_lt i).2 HS.out _ c0 c1 c2).mono ?_
    rintro e' w2 ⟨rfl, n2, rfl⟩
    go_wp2_with fail
    refine (nudge_c _ _ _).mono ?_; rintro e' w' ⟨rfl, rfl⟩
    go_wp2_with fail
    refine (ceil_c _ _).mono ?_; rintro e' w' ⟨rfl, rfl⟩
    rw [show ceilF (nudgeF (usc mn (powHi i) (powLo i) s) od) = dmin from HD.out.symm]
    go_wp2_with fail
    refine (uscale_c mx (powHi i) (powLo i) s w.heap.size HX.out (pow_lt i).1 (pow_lt i).2 HS.out _ (by simpa using c0) (by simpa using c1) (by simpa using c2)).mono ?_
    rintro e' w2 ⟨rfl, n3, rfl⟩
    go_wp2_with fail
    refine (nudge_c _ _ _).mono ?_; rintro e' w' ⟨rfl, rfl⟩
    go_wp2_with fail
    refine (floor_c _ _).mono ?_; rintro e' w' ⟨rfl, rfl⟩
    rw [show floorF (nudgeF (usc mx (powHi i) (powLo i) s) (-od)) = dmax from HE.out.symm]
    go_wp2_with fail
  · go_ret2
    refine ⟨ret_pair rfl (by omega), ?_⟩
    exact (((Below.refl _ _).alloc (Nat.le_refl _) _).trans B1.out).trans (drewN_below _ _ _)
  · refine (uscale_c m (powHi i) (powLo i) s w.heap.size HM.out (pow_lt i).1 (pow_lt i).2 HS.out _ (by simpa using c0) (by simpa using c1) (by simpa using c2)).mono ?_
    rintro e' w2 ⟨rfl, n4, rfl⟩
    go_wp2_with fail
    refine (round_c _ _).mono ?_; rintro e' w' ⟨rfl, rfl⟩
    go_wp2_with fail
    go_ret2
    refine ⟨ret_pair rfl (by omega), ?_⟩
    exact (((Below.refl _ _).alloc (Nat.le_refl _) _).trans B1.out).trans (drewN_below _ _ _)
  · go_ret2
    refine ⟨ret_pair rfl (by omega), ?_⟩
    exact (((Below.refl _ _).alloc (Nat.le_refl _) _).trans B1.out).trans (drewN_below _ _ _)

set_option maxHeartbeats 1000000 in
theorem sfB2 (m mn mx i s : Nat) (e od : Int) (w : World) (hT : Tabs w) (hm : m < 18446744073709551616) (hmn : mn < 18446744073709551616) (hmx : mx < 18446744073709551616) (hi : i < 696) (hs : s < 64) (he1 : -1137 ≤ e) (he2 : e ≤ 960)
    (hm63 : (((m : Nat) : Int) == 9223372036854775808) = true) (he : -1085 ≤ e) (hf : decide (-1085 < e) = false) (ep : wrap64 (-lgTen (e + 11)) = (i : Int) - 348) (en : IntKind.u64.wrap (↑m - 1024) = (mn : Int)) (ex : IntKind.u64.wrap (↑m + 1024) = (mx : Int)) (eo : bits BinOp.and IntKind.i64 (wrap64 (↑m / 2048)) 1 = od) (ho0 : 0 ≤ od) (ho1 : od ≤ 1)
    (es : -(e + lgTwo ((i : Int) - 348) + 3) = (s : Int)) (hg : 20 < w.heap.size) :
    Calls Tryz.prog 87 #[.int .u64 m, .int .i64 e] w fun e' w' => e' = .returned (.tuple #[.int .u64 (sfD m mn mx i s od), .int .i64 (sfP mn mx i s od)]) ∧ Below w.heap.size w w' := by
  have ES := Lib.hid es; clear es
  have HM := Lib.hid hm; have HN := Lib.hid hmn; have HX := Lib.hid hmx; have HS := Lib.hid hs; clear hm hmn hmx hs
  have hT1 : Tabs (w.alloc (.cells #[.int .u64 0, .int .u64 0, .int .i64 0] 160)) := hT.on ((Below.refl _ _).alloc (Nat.le_refl _) _)
  have hl : -2000 ≤ lgTwo ((i : Int) - 348) ∧ lgTwo ((i : Int) - 348) ≤ 2000 := by unfold lgTwo; omega
  obtain ⟨hl1, hl2⟩ := hl
  obtain ⟨dmin, hdmin⟩ : ∃ x, x = sfMin mn i s od := ⟨_, rfl⟩
  obtain ⟨dmax, hdmax⟩ : ∃ x, x = sfMax mx i s od := ⟨_, rfl⟩
  have bmin : 0 ≤ dmin ∧ dmin < 4611686018427387904 := by rw [hdmin]; exact ceilF_bd _
  have bmax : 0 ≤ dmax ∧ dmax < 4611686018427387904 := by rw [hdmax]; exact floorF_bd _
  have hD : sfD m mn mx i s od = if dmin ≤ dmax / 10 * 10 then dmax / 10 else if dmin < dmax then sfMid m i s else dmin := by rw [hdmin, hdmax]; rfl
  have hP : sfP mn mx i s od = if dmin ≤ dmax / 10 * 10 then 349 - (i : Int) else 348 - (i : Int) := by rw [hdmin, hdmax]; rfl
  rw [hD, hP]; clear hD hP
  have HD := Lib.hid hdmin; have HE := Lib.hid hdmax; clear hdmin hdmax
  obtain ⟨bmin0, bmin1⟩ := bmin
  obtain ⟨bmax0, bmax1⟩ := bmax
  rcases (by omega : dmin ≤ dmax / 10 * 10 ∨ (¬ dmin ≤ dmax / 10 * 10 ∧ dmin < dmax) ∨ (¬ dmin ≤ dmax / 10 * 10 ∧ ¬ dmin < dmax)) with hc | ⟨hc, hd⟩ | ⟨hc, hd⟩
  all_goals
    go_enter Tryz.func87, Tryz.ntmps87
    go_wp2_with fail
    refine (lgTen_c _ (by omega) (by omega) _).mono ?_; rintro e' w' ⟨rfl, rfl⟩
    go_wp2_with fail
    refine (lgTwo_c _ (by omega) (by omega) _).mono ?_; rintro e' w' ⟨rfl, rfl⟩
    go_wp2_with fail
    refine (prescale_c w.heap.size i e (lgTwo ((i : Int) - 348)) hi (by omega) (by omega) hl1 hl2 _ hT1 (.int .u64 0) (.int .u64 0) (.int .i64 0) (by go_simp) (by go_simp) (by go_simp) hg (by go_simp) (by go_simp) (by go_simp)).mono ?_
    rintro e' w1 ⟨rfl, c0, c1, c2, hb1⟩
    rw [ES.out] at c2
    have B1 := Lib.hid hb1; clear hb1
    go_wp2_with fail
    refine (uscale_c mn (powHi i) (powLo i) s w.heap.size HN.out (pow_lt i).1 (pow_lt i).2 HS.out _ c0 c1 c2).mono ?_
    rintro e' w2 ⟨rfl, n2, rfl⟩
    go_wp2_with fail
    refine (nudge_c _ _ _).mono ?_; rintro e' w' ⟨rfl, rfl⟩
    go_wp2_with fail
    refine (ceil_c _ _).mono ?_; rintro e' w' ⟨rfl, rfl⟩
    rw [show ceilF (nudgeF (usc mn (powHi i) (powLo i) s) od) = dmin from HD.out.symm]
    go_wp2_with fail
    refine (uscale_c mx (powHi i) (powLo i) s w.heap.size HX.out (pow_lt i).1 (pow_lt i).2 HS.out _ (by simpa using c0) (by simpa using c1) (by simpa using c2)).mono ?_
    rintro e' w2 ⟨rfl, n3, rfl⟩
    go_wp2_with fail
    refine (nudge_c _ _ _).mono ?_; rintro e' w' ⟨rfl, rfl⟩
    go_wp2_with fail
    refine (floor_c _ _).mono ?_; rintro e' w' ⟨rfl, rfl⟩
    rw [show floorF (nudgeF (usc mx (powHi i) (powLo i) s) (-od)) = dmax from HE.out.symm]
    go_wp2_with fail
  · go_ret2
    refine ⟨ret_pair rfl (by omega), ?_⟩
    exact (((Below.refl _ _).alloc (Nat.le_refl _) _).trans B1.out).trans (drewN_below _ _ _)
  · refine (uscale_c m (powHi i) (powLo i) s w.heap.size HM.out (pow_lt i).1 (pow_lt i).2 HS.out _ (by simpa using c0) (by simpa using c1) (by simpa using c2)).mono ?_
    rintro e' w2 ⟨rfl, n4, rfl⟩
    go_wp2_with fail
    refine (round_c _ _).mono ?_; rintro e' w' ⟨rfl, rfl⟩
    go_wp2_with fail
    go_ret2
    refine ⟨ret_pair rfl (by omega), ?_⟩
    exact (((Below.refl _ _).alloc (Nat.le_refl _) _).trans B1.out).trans (drewN_below _ _ _)
  · go_ret2
    refine ⟨ret_pair rfl (by omega), ?_⟩
    exact (((Below.refl _ _).alloc (Nat.le_refl _) _).trans B1.out).trans (drewN_below _ _ _)

set_option maxHeartbeats 1000000 in
theorem sfC1 (m mn mx i s : Nat) (e od : Int) (w : World) (hT : Tabs w) (hm : m < 18446744073709551616) (hmn : mn < 18446744073709551616) (hmx : mx < 18446744073709551616) (hi : i < 696) (hs : s < 64) (he1 : -1137 ≤ e) (he2 : e ≤ 960)
    (hm63 : (((m : Nat) : Int) == 9223372036854775808) = true) (he : e < -1085) (ep : wrap64 (-lgTen (e + (11 + (-1085 - e)))) = (i : Int) - 348) (en : IntKind.u64.wrap (↑m - IntKind.u64.wrap (2 ^ ((11 + (-1085 - e)).toNat - 1))) = (mn : Int)) (ex : IntKind.u64.wrap (↑m + IntKind.u64.wrap (2 ^ ((11 + (-1085 - e)).toNat - 1))) = (mx : Int)) (eo : bits BinOp.and IntKind.i64 (wrap64 (↑m / 2 ^ (11 + (-1085 - e)).toNat)) 1 = od) (ho0 : 0 ≤ od) (ho1 : od ≤ 1)
    (es : -(e + lgTwo ((i : Int) - 348) + 3) = (s : Int)) (hg : 20 < w.heap.size) :
    Calls Tryz.prog 87 #[.int .u64 m, .int .i64 e] w fun e' w' => e' = .returned (.tuple #[.int .u64 (sfD m mn mx i s od), .int .i64 (sfP mn mx i s od)]) ∧ Below w.heap.size w w' := by
  have ES := Lib.hid es; clear es
  have HM := Lib.hid hm; have HN := Lib.hid hmn; have HX := Lib.hid hmx; have HS := Lib.hid hs; clear hm hmn hmx hs
  have hT1 : Tabs (w.alloc (.cells #[.int .u64 0, .int .u64 0, .int .i64 0] 160)) := hT.on ((Below.refl _ _).alloc (Nat.le_refl _) _)
  have hl : -2000 ≤ lgTwo ((i : Int) - 348) ∧ lgTwo ((i : Int) - 348) ≤ 2000 := by unfold lgTwo; omega
  obtain ⟨hl1, hl2⟩ := hl
  obtain ⟨dmin, hdmin⟩ : ∃ x, x = sfMin mn i s od := ⟨_, rfl⟩
  obtain ⟨dmax, hdmax⟩ : ∃ x, x = sfMax mx i s od := ⟨_, rfl⟩
  have bmin : 0 ≤ dmin ∧ dmin < 4611686018427387904 := by rw [hdmin]; exact ceilF_bd _
  have bmax : 0 ≤ dmax ∧ dmax < 4611686018427387904 := by rw [hdmax]; exact floorF_bd _
  have hD : sfD m mn mx i s od = if dmin ≤ dmax / 10 * 10 then dmax / 10 else if dmin < dmax then sfMid m i s else dmin := by rw [hdmin, hdmax]; rfl
  have hP : sfP mn mx i s od = if dmin ≤ dmax / 10 * 10 then 349 - (i : Int) else 348 - (i : Int) := by rw [hdmin, hdmax]; rfl
  rw [hD, hP]; clear hD hP
  have HD := Lib.hid hdmin; have HE := Lib.hid hdmax; clear hdmin hdmax
  obtain ⟨bmin0, bmin1⟩ := bmin
  obtain ⟨bmax0, bmax1⟩ := bmax
  rcases (by omega : dmin ≤ dmax / 10 * 10 ∨ (¬ dmin ≤ dmax / 10 * 10 ∧ dmin < dmax) ∨ (¬ dmin ≤ dmax / 10 * 10 ∧ ¬ dmin < dmax)) with hc | ⟨hc, hd⟩ | ⟨hc, hd⟩
  all_goals
    go_enter Tryz.func87, Tryz.ntmps87
    go_wp2_with fail
    refine (lgTen_c _ (by omega) (by omega) _).mono ?_; rintro e' w' ⟨rfl, rfl⟩
    go_wp2_with fail
    refine (lgTwo_c _ (by omega) (by omega) _).mono ?_; rintro e' w' ⟨rfl, rfl⟩
    go_wp2_with fail
    refine (prescale_c w.heap.size i e (lgTwo ((i : Int) - 348)) hi (by omega) (by omega) hl1 hl2 _ hT1 (.int .u64 0) (.int .u64 0) (.int .i64 0) (by go_simp) (by go_simp) (by go_simp) hg (by go_simp) (by go_simp) (by go_simp)).mono ?_
    rintro e' w1 ⟨rfl, c0, c1, c2, hb1⟩
    rw [ES.out] at c2
    have B1 := Lib.hid hb1; clear hb1
    go_wp2_with fail
    refine (uscale_c mn (powHi i) (powLo i) s w.heap.size HN.out (pow_lt i).1 (pow_lt i).2 HS.out _ c0 c1 c2).mono ?_
    rintro e' w2 ⟨rfl, n2, rfl⟩
    go_wp2_with fail
    refine (nudge_c _ _ _).mono ?_; rintro e' w' ⟨rfl, rfl⟩
    go_wp2_with fail
    refine (ceil_c _ _).mono ?_; rintro e' w' ⟨rfl, rfl⟩
    rw [show ceilF (nudgeF (usc mn (powHi i) (powLo i) s) od) = dmin from HD.out.symm]
    go_wp2_with fail
    refine (uscale_c mx (powHi i) (powLo i) s w.heap.size HX.out (pow_lt i).1 (pow_lt i).2 HS.out _ (by simpa using c0) (by simpa using c1) (by simpa using c2)).mono ?_
    rintro e' w2 ⟨rfl, n3, rfl⟩
    go_wp2_with fail
    refine (nudge_c _ _ _).mono ?_; rintro e' w' ⟨rfl, rfl⟩
    go_wp2_with fail
    refine (floor_c _ _).mono ?_; rintro e' w' ⟨rfl, rfl⟩
    rw [show floorF (nudgeF (usc mx (powHi i) (powLo i) s) (-od)) = dmax from HE.out.symm]
    go_wp2_with fail
  · go_ret2
    refine ⟨ret_pair rfl (by omega), ?_⟩
    exact (((Below.refl _ _).alloc (Nat.le_refl _) _).trans B1.out).trans (drewN_below _ _ _)
  · refine (uscale_c m (powHi i) (powLo i) s w.heap.size HM.out (pow_lt i).1 (pow_lt i).2 HS.out _ (by simpa using c0) (by simpa using c1) (by simpa using c2)).mono ?_
    rintro e' w2 ⟨rfl, n4, rfl⟩
    go_wp2_with fail
    refine (round_c _ _).mono ?_; rintro e' w' ⟨rfl, rfl⟩
    go_wp2_with fail
    go_ret2
    refine ⟨ret_pair rfl (by omega), ?_⟩
    exact (((Below.refl _ _).alloc (Nat.le_refl _) _).trans B1.out).trans (drewN_below _ _ _)
  · go_ret2
    refine ⟨ret_pair rfl (by omega), ?_⟩
    exact (((Below.refl _ _).alloc (Nat.le_refl _) _).trans B1.out).trans (drewN_below _ _ _)

set_option maxHeartbeats 1000000 in
theorem sfC2 (m mn mx i s : Nat) (e od : Int) (w : World) (hT : Tabs w) (hm : m < 18446744073709551616) (hmn : mn < 18446744073709551616) (hmx : mx < 18446744073709551616) (hi : i < 696) (hs : s < 64) (he1 : -1137 ≤ e) (he2 : e ≤ 960)
    (hm63 : (((m : Nat) : Int) == 9223372036854775808) = false) (he : e < -1085) (ep : wrap64 (-lgTen (e + (11 + (-1085 - e)))) = (i : Int) - 348) (en : IntKind.u64.wrap (↑m - IntKind.u64.wrap (2 ^ ((11 + (-1085 - e)).toNat - 1))) = (mn : Int)) (ex : IntKind.u64.wrap (↑m + IntKind.u64.wrap (2 ^ ((11 + (-1085 - e)).toNat - 1))) = (mx : Int)) (eo : bits BinOp.and IntKind.i64 (wrap64 (↑m / 2 ^ (11 + (-1085 - e)).toNat)) 1 = od) (ho0 : 0 ≤ od) (ho1 : od ≤ 1)
    (es : -(e + lgTwo ((i : Int) - 348) + 3) = (s : Int)) (hg : 20 < w.heap.size) :
    Calls Tryz.prog 87 #[.int .u64 m, .int .i64 e] w fun e' w' => e' = .returned (.tuple #[.int .u64 (sfD m mn mx i s od), .int .i64 (sfP mn mx i s od)]) ∧ Below w.heap.size w w' := by
  have ES := Lib.hid es; clear es
  have HM := Lib.hid hm; have HN := Lib.hid hmn; have HX := Lib.hid hmx; have HS := Lib.hid hs; clear hm hmn hmx hs
  have hT1 : Tabs (w.alloc (.cells #[.int .u64 0, .int .u64 0, .int .i64 0] 160)) := hT.on ((Below.refl _ _).alloc (Nat.le_refl _) _)
  have hl : -2000 ≤ lgTwo ((i : Int) - 348) ∧ lgTwo ((i : Int) - 348) ≤ 2000 := by unfold lgTwo; omega
  obtain ⟨hl1, hl2⟩ := hl
  obtain ⟨dmin, hdmin⟩ : ∃ x, x = sfMin mn i s od := ⟨_, rfl⟩
  obtain ⟨dmax, hdmax⟩ : ∃ x, x = sfMax mx i s od := ⟨_, rfl⟩
  have bmin : 0 ≤ dmin ∧ dmin < 4611686018427387904 := by rw [hdmin]; exact ceilF_bd _
  have bmax : 0 ≤ dmax ∧ dmax < 4611686018427387904 := by rw [hdmax]; exact floorF_bd _
  have hD : sfD m mn mx i s od = if dmin ≤ dmax / 10 * 10 then dmax / 10 else if dmin < dmax then sfMid m i s else dmin := by rw [hdmin, hdmax]; rfl
  have hP : sfP mn mx i s od = if dmin ≤ dmax / 10 * 10 then 349 - (i : Int) else 348 - (i : Int) := by rw [hdmin, hdmax]; rfl
  rw [hD, hP]; clear hD hP
  have HD := Lib.hid hdmin; have HE := Lib.hid hdmax; clear hdmin hdmax
  obtain ⟨bmin0, bmin1⟩ := bmin
  obtain ⟨bmax0, bmax1⟩ := bmax
  rcases (by omega : dmin ≤ dmax / 10 * 10 ∨ (¬ dmin ≤ dmax / 10 * 10 ∧ dmin < dmax) ∨ (¬ dmin ≤ dmax / 10 * 10 ∧ ¬ dmin < dmax)) with hc | ⟨hc, hd⟩ | ⟨hc, hd⟩
  all_goals
    go_enter Tryz.func87, Tryz.ntmps87
    go_wp2_with fail
    refine (lgTen_c _ (by omega) (by omega) _).mono ?_; rintro e' w' ⟨rfl, rfl⟩
    go_wp2_with fail
    refine (lgTwo_c _ (by omega) (by omega) _).mono ?_; rintro e' w' ⟨rfl, rfl⟩
    go_wp2_with fail
    refine (prescale_c w.heap.size i e (lgTwo ((i : Int) - 348)) hi (by omega) (by omega) hl1 hl2 _ hT1 (.int .u64 0) (.int .u64 0) (.int .i64 0) (by go_simp) (by go_simp) (by go_simp) hg (by go_simp) (by go_simp) (by go_simp)).mono ?_
    rintro e' w1 ⟨rfl, c0, c1, c2, hb1⟩
    rw [ES.out] at c2
    have B1 := Lib.hid hb1; clear hb1
    go_wp2_with fail
    refine (uscale_c mn (powHi i) (powLo i) s w.heap.size HN.out (pow_lt i).1 (pow_lt i).2 HS.out _ c0 c1 c2).mono ?_
    rintro e' w2 ⟨rfl, n2, rfl⟩
    go_wp2_with fail
    refine (nudge_c _ _ _).mono ?_; rintro e' w' ⟨rfl, rfl⟩
    go_wp2_with fail
    refine (ceil_c _ _).mono ?_; rintro e' w' ⟨rfl, rfl⟩
    rw [show ceilF (nudgeF (usc mn (powHi i) (powLo i) s) od) = dmin from HD.out.symm]
    go_wp2_with fail
    refine (uscale_c mx (powHi i) (powLo i) s w.heap.size HX.out (pow_lt i).1 (pow_lt i).2 HS.out _ (by simpa using c0) (by simpa using c1) (by simpa using c2)).mono ?_
    rintro e' w2 ⟨rfl, n3, rfl⟩
    go_wp2_with fail
    refine (nudge_c _ _ _).mono ?_; rintro e' w' ⟨rfl, rfl⟩
    go_wp2_with fail
    refine (floor_c _ _).mono ?_; rintro e' w' ⟨rfl, rfl⟩
    rw [show floorF (nudgeF (usc mx (powHi i) (powLo i) s) (-od)) = dmax from HE.out.symm]
    go_wp2_with fail
  · go_ret2
    refine ⟨ret_pair rfl (by omega), ?_⟩
    exact (((Below.refl _ _).alloc (Nat.le_refl _) _).trans B1.out).trans (drewN_below _ _ _)
  · refine (uscale_c m (powHi i) (powLo i) s w.heap.size HM.out (pow_lt i).1 (pow_lt i).2 HS.out _ (by simpa using c0) (by simpa using c1) (by simpa using c2)).mono ?_
    rintro e' w2 ⟨rfl, n4, rfl⟩
    go_wp2_with fail
    refine (round_c _ _).mono ?_; rintro e' w' ⟨rfl, rfl⟩
    go_wp2_with fail
    go_ret2
    refine ⟨ret_pair rfl (by omega), ?_⟩
    exact (((Below.refl _ _).alloc (Nat.le_refl _) _).trans B1.out).trans (drewN_below _ _ _)
  · go_ret2
    refine ⟨ret_pair rfl (by omega), ?_⟩
    exact (((Below.refl _ _).alloc (Nat.le_refl _) _).trans B1.out).trans (drewN_below _ _ _)

end Go.Proofs.YthkkdikfbagijaaGreatDoor
