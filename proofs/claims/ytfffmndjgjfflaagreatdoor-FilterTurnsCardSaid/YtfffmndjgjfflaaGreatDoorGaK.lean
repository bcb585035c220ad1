/- Usc, Sf, Short, Dig: merged by merge.py. -/
import Derived.Test.YtfffmndjgjfflaaGreatDoorGaC
import Derived.WalkKit
import Derived.WalkLawsBesides
import Derived.Lib.Hide
import Derived.Deep.QuietTactic
import Derived.BigQuiet
import Derived.Lib.RabinKarpLaws
import Derived.IntWalk
import Derived.Lib.ItoaMem
import Derived.Lib.ItoaLen
import Derived.LoopTactic
/- internal/strconv's unrounded scaling: uscale, prescale, shortFloat at float64: what each answers, as plain functions of its arguments, in every world that holds the tables. -/
namespace Go.Proofs.YtfffmndjgjfflaaGreatDoor
open Go.RowKit
set_option maxRecDepth 100000

theorem and63 (s : Nat) (h : s < 64) : bits BinOp.and IntKind.i64 (s : Int) 63 = (s : Int) := by
  have : ∀ s : Fin 64, bits BinOp.and IntKind.i64 ((s : Nat) : Int) 63 = ((s : Nat) : Int) := by decide +kernel
  exact this ⟨s, h⟩
def b2 (b : Bool) : Int := if b then 1 else 0
set_option maxHeartbeats 400000 in
theorem bool2u_c (b : Bool) (w : World) : Calls Tryz.prog 158 #[.bool b] w fun e w' => e = .returned (.int .u64 (b2 b)) ∧ w = w' := by
  cases b
  all_goals
    go_enter Tryz.func158, Tryz.ntmps158
    go_wp2
    go_ret
    exact ⟨rfl, rfl⟩
def uscOdd (H : Int) (s : Nat) : Bool := IntKind.u64.wrap (H / 2 ^ s * 2 ^ s) != H
def uscYes (H : Int) (s : Nat) : Int := bits .or .u64 (H / 2 ^ s) 1
def uscNo (H : Int) (M L : Nat) (s : Nat) : Int := bits .or .u64 (IntKind.u64.wrap (H - b2 (decide (M < L))) / 2 ^ s) (b2 (decide (1 < IntKind.u64.wrap ((M : Int) - L))))
def mulHi (x y : Nat) : Nat := x * y / 18446744073709551616
def mulLo (x y : Nat) : Nat := x * y % 18446744073709551616
theorem mul_c (x y : Nat) (hx : x < 18446744073709551616) (hy : y < 18446744073709551616) (w : World) :
    Calls Tryz.prog 157 #[.int .u64 x, .int .u64 y] w fun e w' => e = .returned (.tuple #[.int .u64 (mulHi x y), .int .u64 (mulLo x y)]) ∧ w = w' :=
  (Tryz.bits_Mul64 x y hx hy w).mono fun _ _ ⟨a, b⟩ => ⟨a, b.symm⟩
def usc (x hi lo s : Nat) : Int := if uscOdd (mulHi x hi) s then uscYes (mulHi x hi) s else uscNo (mulHi x hi) (mulLo x hi) (mulHi x lo) s
set_option maxHeartbeats 400000 in
theorem uscale_c (x hi lo s b : Nat) (hx : x < 18446744073709551616) (hh : hi < 18446744073709551616) (hl : lo < 18446744073709551616) (hs : s < 64) (w : World)
   (c0 : w.cell? ⟨b, 0, none⟩ = some (.int .u64 hi)) (c1 : w.cell? ⟨b, 1, none⟩ = some (.int .u64 lo)) (c2 : w.cell? ⟨b, 2, none⟩ = some (.int .i64 s)) : Calls Tryz.prog 141 #[.int .u64 x, .pointer (some ⟨b, 0, none⟩)] w fun e w' => e = .returned (.int .u64 (usc x hi lo s)) ∧ ∃ n, w' = w.drewN n := by
  have ha := and63 s hs
  have hs' : (s : Int) ≤ 64 := by omega
  have HX := Lib.hid hx; have HH := Lib.hid hh; have HL := Lib.hid hl; clear hx hh hl
  cases ho : uscOdd (mulHi x hi) s
  · have hu : usc x hi lo s = uscNo (mulHi x hi) (mulLo x hi) (mulHi x lo) s := by simp [usc, ho]
    rw [hu]
    have ho' : (IntKind.u64.wrap (((mulHi x hi : Nat) : Int) / 2 ^ s * 2 ^ s) != ((mulHi x hi : Nat) : Int)) = false := ho
    clear ho hu
    go_enter Tryz.func141, Tryz.ntmps141
    go_wp2_with fail
    refine (mul_c x hi HX.out HH.out _).mono ?_; rintro e w' ⟨rfl, rfl⟩
    go_wp2_with fail
    refine (mul_c x lo HX.out HL.out _).mono ?_; rintro e w' ⟨rfl, rfl⟩
    go_wp2_with fail
    refine (bool2u_c _ _).mono ?_; rintro e w' ⟨rfl, rfl⟩
    go_wp2_with fail
    go_quiet ((go_at_call 158; exact Calls.quiet_of_same ((bool2u_c _ _).mono fun _ _ ⟨a, b⟩ => ⟨a, b.symm⟩)))
    go_wp2
    go_ret
    exact ⟨rfl, _, rfl⟩
  · have hu : usc x hi lo s = uscYes (mulHi x hi) s := by simp [usc, ho]
    rw [hu]
    have ho' : (IntKind.u64.wrap (((mulHi x hi : Nat) : Int) / 2 ^ s * 2 ^ s) != ((mulHi x hi : Nat) : Int)) = true := ho
    clear ho hu
    go_enter Tryz.func141, Tryz.ntmps141
    go_wp2_with fail
    refine (mul_c x hi HX.out HH.out _).mono ?_; rintro e w' ⟨rfl, rfl⟩
    go_wp2_with fail
    go_ret
    exact ⟨rfl, 0, rfl⟩

def lgTen (x : Int) : Int := x * 78913 / 262144
def lgTwo (x : Int) : Int := x * 108853 / 32768
def skew (x : Int) : Int := (x * 631305 - 261663) / 2097152
def nudgeF (u d : Int) : Int := IntKind.u64.wrap (u + IntKind.u64.wrap d)
def ceilF (u : Int) : Int := IntKind.u64.wrap (u + 3) / 4
def floorF (u : Int) : Int := IntKind.u64.wrap u / 4
def roundF (u : Int) : Int := IntKind.u64.wrap (IntKind.u64.wrap (u + 1) + bits BinOp.and IntKind.u64 (u / 4) 1) / 4
set_option maxHeartbeats 400000 in
theorem lgTen_c (x : Int) (h1 : -10000 ≤ x) (h2 : x ≤ 10000) (w : World) : Calls Tryz.prog 100 #[.int .i64 x] w fun e w' => e = .returned (.int .i64 (lgTen x)) ∧ w = w' := by
  go_enter Tryz.func100, Tryz.ntmps100
  go_wp2
  go_ret
  exact ⟨rfl, rfl⟩
set_option maxHeartbeats 400000 in
theorem lgTwo_c (x : Int) (h1 : -1000 ≤ x) (h2 : x ≤ 1000) (w : World) : Calls Tryz.prog 140 #[.int .i64 x] w fun e w' => e = .returned (.int .i64 (lgTwo x)) ∧ w = w' := by
  go_enter Tryz.func140, Tryz.ntmps140
  go_wp2
  go_ret
  exact ⟨rfl, rfl⟩
set_option maxHeartbeats 400000 in
theorem skew_c (x : Int) (h1 : -10000 ≤ x) (h2 : x ≤ 10000) (w : World) : Calls Tryz.prog 138 #[.int .i64 x] w fun e w' => e = .returned (.int .i64 (skew x)) ∧ w = w' := by
  go_enter Tryz.func138, Tryz.ntmps138
  go_wp2
  go_ret
  exact ⟨rfl, rfl⟩
set_option maxHeartbeats 400000 in
theorem nudge_c (u d : Int) (w : World) : Calls Tryz.prog 142 #[.int .u64 u, .int .i64 d] w fun e w' => e = .returned (.int .u64 (nudgeF u d)) ∧ w = w' := by
  go_enter Tryz.func142, Tryz.ntmps142
  go_wp2
  go_ret
  exact ⟨rfl, rfl⟩
set_option maxHeartbeats 400000 in
theorem ceil_c (u : Int) (w : World) : Calls Tryz.prog 143 #[.int .u64 u] w fun e w' => e = .returned (.int .u64 (ceilF u)) ∧ w = w' := by
  go_enter Tryz.func143, Tryz.ntmps143
  go_wp2
  go_ret
  exact ⟨rfl, rfl⟩
set_option maxHeartbeats 400000 in
theorem floor_c (u : Int) (w : World) : Calls Tryz.prog 144 #[.int .u64 u] w fun e w' => e = .returned (.int .u64 (floorF u)) ∧ w = w' := by
  go_enter Tryz.func144, Tryz.ntmps144
  go_wp2
  go_ret
  exact ⟨rfl, rfl⟩
set_option maxHeartbeats 400000 in
theorem round_c (u : Int) (w : World) : Calls Tryz.prog 145 #[.int .u64 u] w fun e w' => e = .returned (.int .u64 (roundF u)) ∧ w = w' := by
  go_enter Tryz.func145, Tryz.ntmps145
  go_wp2
  go_ret
  exact ⟨rfl, rfl⟩
theorem Tabs.row {w : World} (h : Tabs w) (i : Nat) (hi : i < 696) :
    w.cell? ⟨14, i * 2, none⟩ = some (.int .u64 (powHi i : Nat)) ∧ w.cell? ⟨14, i * 2 + 1, none⟩ = some (.int .u64 (powLo i : Nat)) := by
  rw [Nat.mul_comm i 2]; exact h.pow i hi
set_option maxHeartbeats 400000 in
theorem prescale_c (b i : Nat) (e lp : Int) (hi : i < 696) (h1 : -2000 ≤ e) (h2 : e ≤ 2000) (h3 : -2000 ≤ lp) (h4 : lp ≤ 2000) (w : World) (hT : Tabs w) (x0 x1 x2 : Value)
    (c0 : w.cell? ⟨b, 0, none⟩ = some x0) (c1 : w.cell? ⟨b, 1, none⟩ = some x1) (c2 : w.cell? ⟨b, 2, none⟩ = some x2) (hb : 14 < b)
    (f0 : w.frozen? ⟨b, 0, none⟩ = false) (f1 : w.frozen? ⟨b, 1, none⟩ = false) (f2 : w.frozen? ⟨b, 2, none⟩ = false) :
    Calls Tryz.prog 139 #[.pointer (some ⟨b, 0, none⟩), .int .i64 e, .int .i64 ((i : Int) - 348), .int .i64 lp] w fun e' w' =>
      e' = .returned (.tuple #[]) ∧ w'.cell? ⟨b, 0, none⟩ = some (.int .u64 (powHi i : Nat)) ∧ w'.cell? ⟨b, 1, none⟩ = some (.int .u64 (powLo i : Nat)) ∧ w'.cell? ⟨b, 2, none⟩ = some (.int .i64 (-(e + lp + 3))) ∧ Below b w w' := by
  obtain ⟨t1, t2⟩ := hT.row i hi
  have t2' : (w.setCell ⟨b, 0, none⟩ (.int .u64 (powHi i : Nat))).cell? ⟨14, i * 2 + 1, none⟩ = some (.int .u64 (powLo i : Nat)) := by
    rw [((Below.refl b w).setCell (Nat.le_refl _) _).cell hb]; exact t2
  go_enter Tryz.func139, Tryz.ntmps139
  go_wp2
  go_end0
  refine ⟨rfl, by go_simp, by go_simp, by go_simp, ?_⟩
  repeat (first | exact Below.refl _ _ | refine Below.setCell ?_ (p := ⟨b, _, none⟩) (Nat.le_refl b) _ | refine Below.drew ?_)
end Go.Proofs.YtfffmndjgjfflaaGreatDoor

/- internal/strconv.shortFloat at float64: the shortest digits of a number, as a plain function of its mantissa and its exponent. -/
namespace Go.Proofs.YtfffmndjgjfflaaGreatDoor
open Go.RowKit
set_option maxRecDepth 100000

theorem rows64 : (Go.Pinned.pow10Rows.all fun x => decide (x.1 < 18446744073709551616) && decide (x.2 < 18446744073709551616)) = true := by decide +kernel
theorem pow_lt (i : Nat) : powHi i < 18446744073709551616 ∧ powLo i < 18446744073709551616 := by
  unfold powHi powLo
  by_cases h : i < Go.Pinned.pow10Rows.length
  · have h1 := List.all_eq_true.1 rows64 _ (List.getElem_mem h)
    simp only [Bool.and_eq_true, decide_eq_true_eq] at h1
    rw [List.getD, List.getElem?_eq_getElem h]
    exact h1
  · rw [List.getD, List.getElem?_eq_none (by omega)]
    exact ⟨by decide, by decide⟩
theorem u64_bd (x : Int) : 0 ≤ IntKind.u64.wrap x ∧ IntKind.u64.wrap x < 18446744073709551616 := by
  simp [IntKind.wrap, IntKind.signed, IntKind.bits]; omega
theorem u64_nat (x : Int) : ∃ n : Nat, IntKind.u64.wrap x = (n : Int) ∧ n < 18446744073709551616 := by
  have := u64_bd x
  exact ⟨(IntKind.u64.wrap x).toNat, by omega, by omega⟩
theorem ceilF_bd (u : Int) : 0 ≤ ceilF u ∧ ceilF u < 4611686018427387904 := by
  have := u64_bd (u + 3); unfold ceilF; omega
theorem floorF_bd (u : Int) : 0 ≤ floorF u ∧ floorF u < 4611686018427387904 := by
  have := u64_bd u; unfold floorF; omega
theorem roundF_bd (u : Int) : 0 ≤ roundF u ∧ roundF u < 4611686018427387904 := by
  have := u64_bd (IntKind.u64.wrap (u + 1) + bits BinOp.and IntKind.u64 (u / 4) 1); unfold roundF; omega

theorem drewN_below (B : Nat) (w : World) (n : Nat) : Below B w (w.drewN n) := ⟨rfl, rfl, rfl, Nat.le_refl _, fun _ _ => rfl⟩
theorem ret_pair {a a' b b' : Int} (h : a = a') (k : b = b') : Ending.returned (.tuple #[.int .u64 a, .int .i64 b]) = .returned (.tuple #[.int .u64 a', .int .i64 b']) := by rw [h, k]
def sfMin (mn i s : Nat) (od : Int) : Int := ceilF (nudgeF (usc mn (powHi i) (powLo i) s) od)
def sfMax (mx i s : Nat) (od : Int) : Int := floorF (nudgeF (usc mx (powHi i) (powLo i) s) (-od))
def sfMid (m i s : Nat) : Int := roundF (usc m (powHi i) (powLo i) s)
def sfD (m mn mx i s : Nat) (od : Int) : Int :=
  if sfMin mn i s od ≤ sfMax mx i s od / 10 * 10 then sfMax mx i s od / 10 else if sfMin mn i s od < sfMax mx i s od then sfMid m i s else sfMin mn i s od
def sfP (mn mx i s : Nat) (od : Int) : Int :=
  if sfMin mn i s od ≤ sfMax mx i s od / 10 * 10 then 349 - (i : Int) else 348 - (i : Int)

set_option maxHeartbeats 1000000 in
theorem sfA (m mn mx i s : Nat) (e od : Int) (w : World) (hT : Tabs w) (hm : m < 18446744073709551616) (hmn : mn < 18446744073709551616) (hmx : mx < 18446744073709551616) (hi : i < 696) (hs : s < 64) (he1 : -1137 ≤ e) (he2 : e ≤ 960)
    (hm63 : (((m : Nat) : Int) == 9223372036854775808) = true) (he : -1085 < e) (ep : wrap64 (-skew (e + 11)) = (i : Int) - 348) (en : IntKind.u64.wrap (↑m - 512) = (mn : Int)) (ex : IntKind.u64.wrap (↑m + 1024) = (mx : Int)) (eo : bits BinOp.and IntKind.i64 (wrap64 (↑m / 2048)) 1 = od) (ho0 : 0 ≤ od) (ho1 : od ≤ 1)
    (es : -(e + lgTwo ((i : Int) - 348) + 3) = (s : Int)) (hg : 14 < w.heap.size) :
    Calls Tryz.prog 129 #[.int .u64 m, .int .i64 e] w fun e' w' => e' = .returned (.tuple #[.int .u64 (sfD m mn mx i s od), .int .i64 (sfP mn mx i s od)]) ∧ Below w.heap.size w w' := by
  have ES := Lib.hid es; clear es
  have HM := Lib.hid hm; have HN := Lib.hid hmn; have HX := Lib.hid hmx; have HS := Lib.hid hs; clear hm hmn hmx hs
  have hT1 : Tabs (w.alloc (.cells #[.int .u64 0, .int .u64 0, .int .i64 0] 158)) := hT.on ((Below.refl _ _).alloc (Nat.le_refl _) _)
  have hl : -2000 ≤ lgTwo ((i : Int) - 348) ∧ lgTwo ((i : Int) - 348) ≤ 2000 := by unfold lgTwo; omega
  obtain ⟨hl1, hl2⟩ := hl
  obtain ⟨dmin, hdmin⟩ : ∃ x, x = sfMin mn i s od := ⟨_, rfl⟩
  obtain ⟨dmax, hdmax⟩ : ∃ x, x = sfMax mx i s od := ⟨_, rfl⟩
  have bmin : 0 ≤ dmin ∧ dmin < 4611686018427387904 := by rw [hdmin]; exact ceilF_bd _
  have bmax : 0 ≤ dmax ∧ dmax < 4611686018427387904 := by rw [hdmax]; exact floorF_bd _
  have hD : sfD m mn mx i s od = if dmin ≤ dmax / 10 * 10 then dmax / 10 else if dmin < dmax then sfMid m i s else dmin := by rw [hdmin, hdmax]; rfl
  have hP : sfP mn mx i s od = if dmin ≤ dmax / 10 * 10 then 349 - (i : Int) else 348 - (i : Int) := by rw [hdmin, hdmax]; rfl
  rw [hD, hP]; clear hD hP
  have HD := Lib.hid hdmin; have HE := Lib.hid hdmax; clear hdmin hdmax
  obtain ⟨bmin0, bmin1⟩ := bmin
  obtain ⟨bmax0, bmax1⟩ := bmax
  rcases (by omega : dmin ≤ dmax / 10 * 10 ∨ (¬ dmin ≤ dmax / 10 * 10 ∧ dmin < dmax) ∨ (¬ dmin ≤ dmax / 10 * 10 ∧ ¬ dmin < dmax)) with hc | ⟨hc, hd⟩ | ⟨hc, hd⟩
  all_goals
    go_enter Tryz.func129, Tryz.ntmps129
    go_wp2_with fail
    refine (skew_c _ (by omega) (by omega) _).mono ?_; rintro e' w' ⟨rfl, rfl⟩
    go_wp2_with fail
    refine (lgTwo_c _ (by omega) (by omega) _).mono ?_; rintro e' w' ⟨rfl, rfl⟩
    go_wp2_with fail
    refine (prescale_c w.heap.size i e (lgTwo ((i : Int) - 348)) hi (by omega) (by omega) hl1 hl2 _ hT1 (.int .u64 0) (.int .u64 0) (.int .i64 0) (by go_simp) (by go_simp) (by go_simp) hg (by go_simp) (by go_simp) (by go_simp)).mono ?_
    rintro e' w1 ⟨rfl, c0, c1, c2, hb1⟩
    rw [ES.out] at c2
    have B1 := Lib.hid hb1; clear hb1
    go_wp2_with fail
    refine (uscale_c mn (powHi i) (powLo i) s w.heap.size HN.out (pow_lt i).1 (pow_lt i).2 HS.out _ c0 c1 c2).mono ?_
    rintro e' w2 ⟨rfl, n2, rfl⟩
    go_wp2_with fail
    refine (nudge_c _ _ _).mono ?_; rintro e' w' ⟨rfl, rfl⟩
    go_wp2_with fail
    refine (ceil_c _ _).mono ?_; rintro e' w' ⟨rfl, rfl⟩
    rw [show ceilF (nudgeF (usc mn (powHi i) (powLo i) s) od) = dmin from HD.out.symm]
    go_wp2_with fail
    refine (uscale_c mx (powHi i) (powLo i) s w.heap.size HX.out (pow_lt i).1 (pow_lt i).2 HS.out _ (by simpa using c0) (by simpa using c1) (by simpa using c2)).mono ?_
    rintro e' w2 ⟨rfl, n3, rfl⟩
    go_wp2_with fail
    refine (nudge_c _ _ _).mono ?_; rintro e' w' ⟨rfl, rfl⟩
    go_wp2_with fail
    refine (floor_c _ _).mono ?_; rintro e' w' ⟨rfl, rfl⟩
    rw [show floorF (nudgeF (usc mx (powHi i) (powLo i) s) (-od)) = dmax from HE.out.symm]
    go_wp2_with fail
  · go_ret2
    refine ⟨ret_pair rfl (by omega), ?_⟩
    exact (((Below.refl _ _).alloc (Nat.le_refl _) _).trans B1.out).trans (drewN_below _ _ _)
  · refine (uscale_c m (powHi i) (powLo i) s w.heap.size HM.out (pow_lt i).1 (pow_lt i).2 HS.out _ (by simpa using c0) (by simpa using c1) (by simpa using c2)).mono ?_
    rintro e' w2 ⟨rfl, n4, rfl⟩
    go_wp2_with fail
    refine (round_c _ _).mono ?_; rintro e' w' ⟨rfl, rfl⟩
    go_wp2_with fail
    go_ret2
    refine ⟨ret_pair rfl (by omega), ?_⟩
    exact (((Below.refl _ _).alloc (Nat.le_refl _) _).trans B1.out).trans (drewN_below _ _ _)
  · go_ret2
    refine ⟨ret_pair rfl (by omega), ?_⟩
    exact (((Below.refl _ _).alloc (Nat.le_refl _) _).trans B1.out).trans (drewN_below _ _ _)

set_option maxHeartbeats 1000000 in
theorem sfB (m mn mx i s : Nat) (e od : Int) (w : World) (hT : Tabs w) (hm : m < 18446744073709551616) (hmn : mn < 18446744073709551616) (hmx : mx < 18446744073709551616) (hi : i < 696) (hs : s < 64) (he1 : -1137 ≤ e) (he2 : e ≤ 960)
    (hm63 : (((m : Nat) : Int) == 9223372036854775808) = false) (he : -1085 ≤ e) (ep : wrap64 (-lgTen (e + 11)) = (i : Int) - 348) (en : IntKind.u64.wrap (↑m - 1024) = (mn : Int)) (ex : IntKind.u64.wrap (↑m + 1024) = (mx : Int)) (eo : bits BinOp.and IntKind.i64 (wrap64 (↑m / 2048)) 1 = od) (ho0 : 0 ≤ od) (ho1 : od ≤ 1)
    (es : -(e + lgTwo ((i : Int) - 348) + 3) = (s : Int)) (hg : 14 < w.heap.size) :
    Calls Tryz.prog 129 #[.int .u64 m, .int .i64 e] w fun e' w' => e' = .returned (.tuple #[.int .u64 (sfD m mn mx i s od), .int .i64 (sfP mn mx i s od)]) ∧ Below w.heap.size w w' := by
  have ES := Lib.hid es; clear es
  have HM := Lib.hid hm; have HN := Lib.hid hmn; have HX := Lib.hid hmx; have HS := Lib.hid hs; clear hm hmn hmx hs
  have hT1 : Tabs (w.alloc (.cells #[.int .u64 0, .int .u64 0, .int .i64 0] 158)) := hT.on ((Below.refl _ _).alloc (Nat.le_refl _) _)
  have hl : -2000 ≤ lgTwo ((i : Int) - 348) ∧ lgTwo ((i : Int) - 348) ≤ 2000 := by unfold lgTwo; omega
  obtain ⟨hl1, hl2⟩ := hl
  obtain ⟨dmin, hdmin⟩ : ∃ x, x = sfMin mn i s od := ⟨_, rfl⟩
  obtain ⟨dmax, hdmax⟩ : ∃ x, x = sfMax mx i s od := ⟨_, rfl⟩
  have bmin : 0 ≤ dmin ∧ dmin < 4611686018427387904 := by rw [hdmin]; exact ceilF_bd _
  have bmax : 0 ≤ dmax ∧ dmax < 4611686018427387904 := by rw [hdmax]; exact floorF_bd _
  have hD : sfD m mn mx i s od = if dmin ≤ dmax / 10 * 10 then dmax / 10 else if dmin < dmax then sfMid m i s else dmin := by rw [hdmin, hdmax]; rfl
  have hP : sfP mn mx i s od = if dmin ≤ dmax / 10 * 10 then 349 - (i : Int) else 348 - (i : Int) := by rw [hdmin, hdmax]; rfl
  rw [hD, hP]; clear hD hP
  have HD := Lib.hid hdmin; have HE := Lib.hid hdmax; clear hdmin hdmax
  obtain ⟨bmin0, bmin1⟩ := bmin
  obtain ⟨bmax0, bmax1⟩ := bmax
  rcases (by omega : dmin ≤ dmax / 10 * 10 ∨ (¬ dmin ≤ dmax / 10 * 10 ∧ dmin < dmax) ∨ (¬ dmin ≤ dmax / 10 * 10 ∧ ¬ dmin < dmax)) with hc | ⟨hc, hd⟩ | ⟨hc, hd⟩
  all_goals
    go_enter Tryz.func129, Tryz.ntmps129
    go_wp2_with fail
    refine (lgTen_c _ (by omega) (by omega) _).mono ?_; rintro e' w' ⟨rfl, rfl⟩
    go_wp2_with fail
    refine (lgTwo_c _ (by omega) (by omega) _).mono ?_; rintro e' w' ⟨rfl, rfl⟩
    go_wp2_with fail
    refine (prescale_c w.heap.size i e (lgTwo ((i : Int) - 348)) hi (by omega) (by omega) hl1 hl2 _ hT1 (.int .u64 0) (.int .u64 0) (.int .i64 0) (by go_simp) (by go_simp) (by go_simp) hg (by go_simp) (by go_simp) (by go_simp)).mono ?_
    rintro e' w1 ⟨rfl, c0, c1, c2, hb1⟩
    rw [ES.out] at c2
    have B1 := Lib.hid hb1; clear hb1
    go_wp2_with fail
    refine (uscale_c mn (powHi i) (powLo i) s w.heap.size HN.out (pow_lt i).1 (pow_lt i).2 HS.out _ c0 c1 c2).mono ?_
    rintro e' w2 ⟨rfl, n2, rfl⟩
    go_wp2_with fail
    refine (nudge_c _ _ _).mono ?_; rintro e' w' ⟨rfl, rfl⟩
    go_wp2_with fail
    refine (ceil_c _ _).mono ?_; rintro e' w' ⟨rfl, rfl⟩
    rw [show ceilF (nudgeF (usc mn (powHi i) (powLo i) s) od) = dmin from HD.out.symm]
    go_wp2_with fail
    refine (uscale_c mx (powHi i) (powLo i) s w.heap.size HX.out (pow_lt i).1 (pow_lt i).2 HS.out _ (by simpa using c0) (by simpa using c1) (by simpa using c2)).mono ?_
    rintro e' w2 ⟨rfl, n3, rfl⟩
    go_wp2_with fail
    refine (nudge_c _ _ _).mono ?_; rintro e' w' ⟨rfl, rfl⟩
    go_wp2_with fail
    refine (floor_c _ _).mono ?_; rintro e' w' ⟨rfl, rfl⟩
    rw [show floorF (nudgeF (usc mx (powHi i) (powLo i) s) (-od)) = dmax from HE.out.symm]
    go_wp2_with fail
  · go_ret2
    refine ⟨ret_pair rfl (by omega), ?_⟩
    exact (((Below.refl _ _).alloc (Nat.le_refl _) _).trans B1.out).trans (drewN_below _ _ _)
  · refine (uscale_c m (powHi i) (powLo i) s w.heap.size HM.out (pow_lt i).1 (pow_lt i).2 HS.out _ (by simpa using c0) (by simpa using c1) (by simpa using c2)).mono ?_
    rintro e' w2 ⟨rfl, n4, rfl⟩
    go_wp2_with fail
    refine (round_c _ _).mono ?_; rintro e' w' ⟨rfl, rfl⟩
    go_wp2_with fail
    go_ret2
    refine ⟨ret_pair rfl (by omega), ?_⟩
    exact (((Below.refl _ _).alloc (Nat.le_refl _) _).trans B1.out).trans (drewN_below _ _ _)
  · go_ret2
    refine ⟨ret_pair rfl (by omega), ?_⟩
    exact (((Below.refl _ _).alloc (Nat.le_refl _) _).trans B1.out).trans (drewN_below _ _ _)

set_option maxHeartbeats 1000000 in
theorem sfB2 (m mn mx i s : Nat) (e od : Int) (w : World) (hT : Tabs w) (hm : m < 18446744073709551616) (hmn : mn < 18446744073709551616) (hmx : mx < 18446744073709551616) (hi : i < 696) (hs : s < 64) (he1 : -1137 ≤ e) (he2 : e ≤ 960)
    (hm63 : (((m : Nat) : Int) == 9223372036854775808) = true) (he : -1085 ≤ e) (hf : decide (-1085 < e) = false) (ep : wrap64 (-lgTen (e + 11)) = (i : Int) - 348) (en : IntKind.u64.wrap (↑m - 1024) = (mn : Int)) (ex : IntKind.u64.wrap (↑m + 1024) = (mx : Int)) (eo : bits BinOp.and IntKind.i64 (wrap64 (↑m / 2048)) 1 = od) (ho0 : 0 ≤ od) (ho1 : od ≤ 1)
    (es : -(e + lgTwo ((i : Int) - 348) + 3) = (s : Int)) (hg : 14 < w.heap.size) :
    Calls Tryz.prog 129 #[.int .u64 m, .int .i64 e] w fun e' w' => e' = .returned (.tuple #[.int .u64 (sfD m mn mx i s od), .int .i64 (sfP mn mx i s od)]) ∧ Below w.heap.size w w' := by
  have ES := Lib.hid es; clear es
  have HM := Lib.hid hm; have HN := Lib.hid hmn; have HX := Lib.hid hmx; have HS := Lib.hid hs; clear hm hmn hmx hs
  have hT1 : Tabs (w.alloc (.cells #[.int .u64 0, .int .u64 0, .int .i64 0] 158)) := hT.on ((Below.refl _ _).alloc (Nat.le_refl _) _)
  have hl : -2000 ≤ lgTwo ((i : Int) - 348) ∧ lgTwo ((i : Int) - 348) ≤ 2000 := by unfold lgTwo; omega
  obtain ⟨hl1, hl2⟩ := hl
  obtain ⟨dmin, hdmin⟩ : ∃ x, x = sfMin mn i s od := ⟨_, rfl⟩
  obtain ⟨dmax, hdmax⟩ : ∃ x, x = sfMax mx i s od := ⟨_, rfl⟩
  have bmin : 0 ≤ dmin ∧ dmin < 4611686018427387904 := by rw [hdmin]; exact ceilF_bd _
  have bmax : 0 ≤ dmax ∧ dmax < 4611686018427387904 := by rw [hdmax]; exact floorF_bd _
  have hD : sfD m mn mx i s od = if dmin ≤ dmax / 10 * 10 then dmax / 10 else if dmin < dmax then sfMid m i s else dmin := by rw [hdmin, hdmax]; rfl
  have hP : sfP mn mx i s od = if dmin ≤ dmax / 10 * 10 then 349 - (i : Int) else 348 - (i : Int) := by rw [hdmin, hdmax]; rfl
  rw [hD, hP]; clear hD hP
  have HD := Lib.hid hdmin; have HE := Lib.hid hdmax; clear hdmin hdmax
  obtain ⟨bmin0, bmin1⟩ := bmin
  obtain ⟨bmax0, bmax1⟩ := bmax
  rcases (by omega : dmin ≤ dmax / 10 * 10 ∨ (¬ dmin ≤ dmax / 10 * 10 ∧ dmin < dmax) ∨ (¬ dmin ≤ dmax / 10 * 10 ∧ ¬ dmin < dmax)) with hc | ⟨hc, hd⟩ | ⟨hc, hd⟩
  all_goals
    go_enter Tryz.func129, Tryz.ntmps129
    go_wp2_with fail
    refine (lgTen_c _ (by omega) (by omega) _).mono ?_; rintro e' w' ⟨rfl, rfl⟩
    go_wp2_with fail
    refine (lgTwo_c _ (by omega) (by omega) _).mono ?_; rintro e' w' ⟨rfl, rfl⟩
    go_wp2_with fail
    refine (prescale_c w.heap.size i e (lgTwo ((i : Int) - 348)) hi (by omega) (by omega) hl1 hl2 _ hT1 (.int .u64 0) (.int .u64 0) (.int .i64 0) (by go_simp) (by go_simp) (by go_simp) hg (by go_simp) (by go_simp) (by go_simp)).mono ?_
    rintro e' w1 ⟨rfl, c0, c1, c2, hb1⟩
    rw [ES.out] at c2
    have B1 := Lib.hid hb1; clear hb1
    go_wp2_with fail
    refine (uscale_c mn (powHi i) (powLo i) s w.heap.size HN.out (pow_lt i).1 (pow_lt i).2 HS.out _ c0 c1 c2).mono ?_
    rintro e' w2 ⟨rfl, n2, rfl⟩
    go_wp2_with fail
    refine (nudge_c _ _ _).mono ?_; rintro e' w' ⟨rfl, rfl⟩
    go_wp2_with fail
    refine (ceil_c _ _).mono ?_; rintro e' w' ⟨rfl, rfl⟩
    rw [show ceilF (nudgeF (usc mn (powHi i) (powLo i) s) od) = dmin from HD.out.symm]
    go_wp2_with fail
    refine (uscale_c mx (powHi i) (powLo i) s w.heap.size HX.out (pow_lt i).1 (pow_lt i).2 HS.out _ (by simpa using c0) (by simpa using c1) (by simpa using c2)).mono ?_
    rintro e' w2 ⟨rfl, n3, rfl⟩
    go_wp2_with fail
    refine (nudge_c _ _ _).mono ?_; rintro e' w' ⟨rfl, rfl⟩
    go_wp2_with fail
    refine (floor_c _ _).mono ?_; rintro e' w' ⟨rfl, rfl⟩
    rw [show floorF (nudgeF (usc mx (powHi i) (powLo i) s) (-od)) = dmax from HE.out.symm]
    go_wp2_with fail
  · go_ret2
    refine ⟨ret_pair rfl (by omega), ?_⟩
    exact (((Below.refl _ _).alloc (Nat.le_refl _) _).trans B1.out).trans (drewN_below _ _ _)
  · refine (uscale_c m (powHi i) (powLo i) s w.heap.size HM.out (pow_lt i).1 (pow_lt i).2 HS.out _ (by simpa using c0) (by simpa using c1) (by simpa using c2)).mono ?_
    rintro e' w2 ⟨rfl, n4, rfl⟩
    go_wp2_with fail
    refine (round_c _ _).mono ?_; rintro e' w' ⟨rfl, rfl⟩
    go_wp2_with fail
    go_ret2
    refine ⟨ret_pair rfl (by omega), ?_⟩
    exact (((Below.refl _ _).alloc (Nat.le_refl _) _).trans B1.out).trans (drewN_below _ _ _)
  · go_ret2
    refine ⟨ret_pair rfl (by omega), ?_⟩
    exact (((Below.refl _ _).alloc (Nat.le_refl _) _).trans B1.out).trans (drewN_below _ _ _)

set_option maxHeartbeats 1000000 in
theorem sfC1 (m mn mx i s : Nat) (e od : Int) (w : World) (hT : Tabs w) (hm : m < 18446744073709551616) (hmn : mn < 18446744073709551616) (hmx : mx < 18446744073709551616) (hi : i < 696) (hs : s < 64) (he1 : -1137 ≤ e) (he2 : e ≤ 960)
    (hm63 : (((m : Nat) : Int) == 9223372036854775808) = true) (he : e < -1085) (ep : wrap64 (-lgTen (e + (11 + (-1085 - e)))) = (i : Int) - 348) (en : IntKind.u64.wrap (↑m - IntKind.u64.wrap (2 ^ ((11 + (-1085 - e)).toNat - 1))) = (mn : Int)) (ex : IntKind.u64.wrap (↑m + IntKind.u64.wrap (2 ^ ((11 + (-1085 - e)).toNat - 1))) = (mx : Int)) (eo : bits BinOp.and IntKind.i64 (wrap64 (↑m / 2 ^ (11 + (-1085 - e)).toNat)) 1 = od) (ho0 : 0 ≤ od) (ho1 : od ≤ 1)
    (es : -(e + lgTwo ((i : Int) - 348) + 3) = (s : Int)) (hg : 14 < w.heap.size) :
    Calls Tryz.prog 129 #[.int .u64 m, .int .i64 e] w fun e' w' => e' = .returned (.tuple #[.int .u64 (sfD m mn mx i s od), .int .i64 (sfP mn mx i s od)]) ∧ Below w.heap.size w w' := by
  have ES := Lib.hid es; clear es
  have HM := Lib.hid hm; have HN := Lib.hid hmn; have HX := Lib.hid hmx; have HS := Lib.hid hs; clear hm hmn hmx hs
  have hT1 : Tabs (w.alloc (.cells #[.int .u64 0, .int .u64 0, .int .i64 0] 158)) := hT.on ((Below.refl _ _).alloc (Nat.le_refl _) _)
  have hl : -2000 ≤ lgTwo ((i : Int) - 348) ∧ lgTwo ((i : Int) - 348) ≤ 2000 := by unfold lgTwo; omega
  obtain ⟨hl1, hl2⟩ := hl
  obtain ⟨dmin, hdmin⟩ : ∃ x, x = sfMin mn i s od := ⟨_, rfl⟩
  obtain ⟨dmax, hdmax⟩ : ∃ x, x = sfMax mx i s od := ⟨_, rfl⟩
  have bmin : 0 ≤ dmin ∧ dmin < 4611686018427387904 := by rw [hdmin]; exact ceilF_bd _
  have bmax : 0 ≤ dmax ∧ dmax < 4611686018427387904 := by rw [hdmax]; exact floorF_bd _
  have hD : sfD m mn mx i s od = if dmin ≤ dmax / 10 * 10 then dmax / 10 else if dmin < dmax then sfMid m i s else dmin := by rw [hdmin, hdmax]; rfl
  have hP : sfP mn mx i s od = if dmin ≤ dmax / 10 * 10 then 349 - (i : Int) else 348 - (i : Int) := by rw [hdmin, hdmax]; rfl
  rw [hD, hP]; clear hD hP
  have HD := Lib.hid hdmin; have HE := Lib.hid hdmax; clear hdmin hdmax
  obtain ⟨bmin0, bmin1⟩ := bmin
  obtain ⟨bmax0, bmax1⟩ := bmax
  rcases (by omega : dmin ≤ dmax / 10 * 10 ∨ (¬ dmin ≤ dmax / 10 * 10 ∧ dmin < dmax) ∨ (¬ dmin ≤ dmax / 10 * 10 ∧ ¬ dmin < dmax)) with hc | ⟨hc, hd⟩ | ⟨hc, hd⟩
  all_goals
    go_enter Tryz.func129, Tryz.ntmps129
    go_wp2_with fail
    refine (lgTen_c _ (by omega) (by omega) _).mono ?_; rintro e' w' ⟨rfl, rfl⟩
    go_wp2_with fail
    refine (lgTwo_c _ (by omega) (by omega) _).mono ?_; rintro e' w' ⟨rfl, rfl⟩
    go_wp2_with fail
    refine (prescale_c w.heap.size i e (lgTwo ((i : Int) - 348)) hi (by omega) (by omega) hl1 hl2 _ hT1 (.int .u64 0) (.int .u64 0) (.int .i64 0) (by go_simp) (by go_simp) (by go_simp) hg (by go_simp) (by go_simp) (by go_simp)).mono ?_
    rintro e' w1 ⟨rfl, c0, c1, c2, hb1⟩
    rw [ES.out] at c2
    have B1 := Lib.hid hb1; clear hb1
    go_wp2_with fail
    refine (uscale_c mn (powHi i) (powLo i) s w.heap.size HN.out (pow_lt i).1 (pow_lt i).2 HS.out _ c0 c1 c2).mono ?_
    rintro e' w2 ⟨rfl, n2, rfl⟩
    go_wp2_with fail
    refine (nudge_c _ _ _).mono ?_; rintro e' w' ⟨rfl, rfl⟩
    go_wp2_with fail
    refine (ceil_c _ _).mono ?_; rintro e' w' ⟨rfl, rfl⟩
    rw [show ceilF (nudgeF (usc mn (powHi i) (powLo i) s) od) = dmin from HD.out.symm]
    go_wp2_with fail
    refine (uscale_c mx (powHi i) (powLo i) s w.heap.size HX.out (pow_lt i).1 (pow_lt i).2 HS.out _ (by simpa using c0) (by simpa using c1) (by simpa using c2)).mono ?_
    rintro e' w2 ⟨rfl, n3, rfl⟩
    go_wp2_with fail
    refine (nudge_c _ _ _).mono ?_; rintro e' w' ⟨rfl, rfl⟩
    go_wp2_with fail
    refine (floor_c _ _).mono ?_; rintro e' w' ⟨rfl, rfl⟩
    rw [show floorF (nudgeF (usc mx (powHi i) (powLo i) s) (-od)) = dmax from HE.out.symm]
    go_wp2_with fail
  · go_ret2
    refine ⟨ret_pair rfl (by omega), ?_⟩
    exact (((Below.refl _ _).alloc (Nat.le_refl _) _).trans B1.out).trans (drewN_below _ _ _)
  · refine (uscale_c m (powHi i) (powLo i) s w.heap.size HM.out (pow_lt i).1 (pow_lt i).2 HS.out _ (by simpa using c0) (by simpa using c1) (by simpa using c2)).mono ?_
    rintro e' w2 ⟨rfl, n4, rfl⟩
    go_wp2_with fail
    refine (round_c _ _).mono ?_; rintro e' w' ⟨rfl, rfl⟩
    go_wp2_with fail
    go_ret2
    refine ⟨ret_pair rfl (by omega), ?_⟩
    exact (((Below.refl _ _).alloc (Nat.le_refl _) _).trans B1.out).trans (drewN_below _ _ _)
  · go_ret2
    refine ⟨ret_pair rfl (by omega), ?_⟩
    exact (((Below.refl _ _).alloc (Nat.le_refl _) _).trans B1.out).trans (drewN_below _ _ _)

set_option maxHeartbeats 1000000 in
theorem sfC2 (m mn mx i s : Nat) (e od : Int) (w : World) (hT : Tabs w) (hm : m < 18446744073709551616) (hmn : mn < 18446744073709551616) (hmx : mx < 18446744073709551616) (hi : i < 696) (hs : s < 64) (he1 : -1137 ≤ e) (he2 : e ≤ 960)
    (hm63 : (((m : Nat) : Int) == 9223372036854775808) = false) (he : e < -1085) (ep : wrap64 (-lgTen (e + (11 + (-1085 - e)))) = (i : Int) - 348) (en : IntKind.u64.wrap (↑m - IntKind.u64.wrap (2 ^ ((11 + (-1085 - e)).toNat - 1))) = (mn : Int)) (ex : IntKind.u64.wrap (↑m + IntKind.u64.wrap (2 ^ ((11 + (-1085 - e)).toNat - 1))) = (mx : Int)) (eo : bits BinOp.and IntKind.i64 (wrap64 (↑m / 2 ^ (11 + (-1085 - e)).toNat)) 1 = od) (ho0 : 0 ≤ od) (ho1 : od ≤ 1)
    (es : -(e + lgTwo ((i : Int) - 348) + 3) = (s : Int)) (hg : 14 < w.heap.size) :
    Calls Tryz.prog 129 #[.int .u64 m, .int .i64 e] w fun e' w' => e' = .returned (.tuple #[.int .u64 (sfD m mn mx i s od), .int .i64 (sfP mn mx i s od)]) ∧ Below w.heap.size w w' := by
  have ES := Lib.hid es; clear es
  have HM := Lib.hid hm; have HN := Lib.hid hmn; have HX := Lib.hid hmx; have HS := Lib.hid hs; clear hm hmn hmx hs
  have hT1 : Tabs (w.alloc (.cells #[.int .u64 0, .int .u64 0, .int .i64 0] 158)) := hT.on ((Below.refl _ _).alloc (Nat.le_refl _) _)
  have hl : -2000 ≤ lgTwo ((i : Int) - 348) ∧ lgTwo ((i : Int) - 348) ≤ 2000 := by unfold lgTwo; omega
  obtain ⟨hl1, hl2⟩ := hl
  obtain ⟨dmin, hdmin⟩ : ∃ x, x = sfMin mn i s od := ⟨_, rfl⟩
  obtain ⟨dmax, hdmax⟩ : ∃ x, x = sfMax mx i s od := ⟨_, rfl⟩
  have bmin : 0 ≤ dmin ∧ dmin < 4611686018427387904 := by rw [hdmin]; exact ceilF_bd _
  have bmax : 0 ≤ dmax ∧ dmax < 4611686018427387904 := by rw [hdmax]; exact floorF_bd _
  have hD : sfD m mn mx i s od = if dmin ≤ dmax / 10 * 10 then dmax / 10 else if dmin < dmax then sfMid m i s else dmin := by rw [hdmin, hdmax]; rfl
  have hP : sfP mn mx i s od = if dmin ≤ dmax / 10 * 10 then 349 - (i : Int) else 348 - (i : Int) := by rw [hdmin, hdmax]; rfl
  rw [hD, hP]; clear hD hP
  have HD := Lib.hid hdmin; have HE := Lib.hid hdmax; clear hdmin hdmax
  obtain ⟨bmin0, bmin1⟩ := bmin
  obtain ⟨bmax0, bmax1⟩ := bmax
  rcases (by omega : dmin ≤ dmax / 10 * 10 ∨ (¬ dmin ≤ dmax / 10 * 10 ∧ dmin < dmax) ∨ (¬ dmin ≤ dmax / 10 * 10 ∧ ¬ dmin < dmax)) with hc | ⟨hc, hd⟩ | ⟨hc, hd⟩
  all_goals
    go_enter Tryz.func129, Tryz.ntmps129
    go_wp2_with fail
    refine (lgTen_c _ (by omega) (by omega) _).mono ?_; rintro e' w' ⟨rfl, rfl⟩
    go_wp2_with fail
    refine (lgTwo_c _ (by omega) (by omega) _).mono ?_; rintro e' w' ⟨rfl, rfl⟩
    go_wp2_with fail
    refine (prescale_c w.heap.size i e (lgTwo ((i : Int) - 348)) hi (by omega) (by omega) hl1 hl2 _ hT1 (.int .u64 0) (.int .u64 0) (.int .i64 0) (by go_simp) (by go_simp) (by go_simp) hg (by go_simp) (by go_simp) (by go_simp)).mono ?_
    rintro e' w1 ⟨rfl, c0, c1, c2, hb1⟩
    rw [ES.out] at c2
    have B1 := Lib.hid hb1; clear hb1
    go_wp2_with fail
    refine (uscale_c mn (powHi i) (powLo i) s w.heap.size HN.out (pow_lt i).1 (pow_lt i).2 HS.out _ c0 c1 c2).mono ?_
    rintro e' w2 ⟨rfl, n2, rfl⟩
    go_wp2_with fail
    refine (nudge_c _ _ _).mono ?_; rintro e' w' ⟨rfl, rfl⟩
    go_wp2_with fail
    refine (ceil_c _ _).mono ?_; rintro e' w' ⟨rfl, rfl⟩
    rw [show ceilF (nudgeF (usc mn (powHi i) (powLo i) s) od) = dmin from HD.out.symm]
    go_wp2_with fail
    refine (uscale_c mx (powHi i) (powLo i) s w.heap.size HX.out (pow_lt i).1 (pow_lt i).2 HS.out _ (by simpa using c0) (by simpa using c1) (by simpa using c2)).mono ?_
    rintro e' w2 ⟨rfl, n3, rfl⟩
    go_wp2_with fail
    refine (nudge_c _ _ _).mono ?_; rintro e' w' ⟨rfl, rfl⟩
    go_wp2_with fail
    refine (floor_c _ _).mono ?_; rintro e' w' ⟨rfl, rfl⟩
    rw [show floorF (nudgeF (usc mx (powHi i) (powLo i) s) (-od)) = dmax from HE.out.symm]
    go_wp2_with fail
  · go_ret2
    refine ⟨ret_pair rfl (by omega), ?_⟩
    exact (((Below.refl _ _).alloc (Nat.le_refl _) _).trans B1.out).trans (drewN_below _ _ _)
  · refine (uscale_c m (powHi i) (powLo i) s w.heap.size HM.out (pow_lt i).1 (pow_lt i).2 HS.out _ (by simpa using c0) (by simpa using c1) (by simpa using c2)).mono ?_
    rintro e' w2 ⟨rfl, n4, rfl⟩
    go_wp2_with fail
    refine (round_c _ _).mono ?_; rintro e' w' ⟨rfl, rfl⟩
    go_wp2_with fail
    go_ret2
    refine ⟨ret_pair rfl (by omega), ?_⟩
    exact (((Below.refl _ _).alloc (Nat.le_refl _) _).trans B1.out).trans (drewN_below _ _ _)
  · go_ret2
    refine ⟨ret_pair rfl (by omega), ?_⟩
    exact (((Below.refl _ _).alloc (Nat.le_refl _) _).trans B1.out).trans (drewN_below _ _ _)

end Go.Proofs.YtfffmndjgjfflaaGreatDoor

/- internal/strconv.shortFloat at float64, the ways through it brought together. -/
namespace Go.Proofs.YtfffmndjgjfflaaGreatDoor
open Go.RowKit
set_option maxRecDepth 100000

def sfA? (m : Nat) (e : Int) : Bool := ((m : Int) == 9223372036854775808) && decide (-1085 < e)
def sfPow (m : Nat) (e : Int) : Int := if sfA? m e then -skew (e + 11) else if -1085 ≤ e then -lgTen (e + 11) else -lgTen (e + (11 + (-1085 - e)))
def sfI (m : Nat) (e : Int) : Nat := (sfPow m e + 348).toNat
def sfS (m : Nat) (e : Int) : Nat := (-(e + lgTwo (sfPow m e) + 3)).toNat
def sfLo (m : Nat) (e : Int) : Int := if sfA? m e then ↑m - 512 else if -1085 ≤ e then ↑m - 1024 else ↑m - IntKind.u64.wrap (2 ^ ((11 + (-1085 - e)).toNat - 1))
def sfHi (m : Nat) (e : Int) : Int := if sfA? m e then ↑m + 1024 else if -1085 ≤ e then ↑m + 1024 else ↑m + IntKind.u64.wrap (2 ^ ((11 + (-1085 - e)).toNat - 1))
def sfOd (m : Nat) (e : Int) : Nat := if -1085 ≤ e then m / 2048 % 2 else m / 2 ^ (11 + (-1085 - e)).toNat % 2
def sfMn (m : Nat) (e : Int) : Nat := (IntKind.u64.wrap (sfLo m e)).toNat
def sfMx (m : Nat) (e : Int) : Nat := (IntKind.u64.wrap (sfHi m e)).toNat
def shortD (m : Nat) (e : Int) : Int := sfD m (sfMn m e) (sfMx m e) (sfI m e) (sfS m e) (sfOd m e)
def shortP (m : Nat) (e : Int) : Int := sfP (sfMn m e) (sfMx m e) (sfI m e) (sfS m e) (sfOd m e)

theorem sfD_bd (m mn mx i s : Nat) (od : Int) : 0 ≤ sfD m mn mx i s od ∧ sfD m mn mx i s od < 4611686018427387904 := by
  have h1 : 0 ≤ sfMin mn i s od ∧ sfMin mn i s od < 4611686018427387904 := ceilF_bd _
  have h2 : 0 ≤ sfMax mx i s od ∧ sfMax mx i s od < 4611686018427387904 := floorF_bd _
  have h3 : 0 ≤ sfMid m i s ∧ sfMid m i s < 4611686018427387904 := roundF_bd _
  unfold sfD
  split
  · omega
  · split
    · exact h3
    · exact h1
theorem sfPow_bd (m : Nat) (e : Int) (h1 : -1137 ≤ e) (h2 : e ≤ 960) : -348 ≤ sfPow m e ∧ sfPow m e ≤ 347 ∧ 0 ≤ -(e + lgTwo (sfPow m e) + 3) ∧ -(e + lgTwo (sfPow m e) + 3) < 64 := by
  unfold sfPow sfA?
  cases hm : ((m : Int) == 9223372036854775808)
  · simp only [Bool.false_and, Bool.false_eq_true, if_false]
    unfold lgTwo lgTen
    split <;> omega
  · simp only [Bool.true_and, decide_eq_true_eq]
    unfold lgTwo lgTen skew
    split
    · omega
    · split <;> omega
theorem sfI_lt (m : Nat) (e : Int) (h1 : -1137 ≤ e) (h2 : e ≤ 960) : sfI m e < 696 ∧ ((sfI m e : Nat) : Int) - 348 = sfPow m e := by
  have := sfPow_bd m e h1 h2; unfold sfI; omega
theorem sfS_lt (m : Nat) (e : Int) (h1 : -1137 ≤ e) (h2 : e ≤ 960) : sfS m e < 64 ∧ -(e + lgTwo (((sfI m e : Nat) : Int) - 348) + 3) = ((sfS m e : Nat) : Int) := by
  have := sfPow_bd m e h1 h2
  rw [(sfI_lt m e h1 h2).2]; unfold sfS; omega
theorem and_one' (k : Nat) (h : k < 9223372036854775808) : bits BinOp.and IntKind.i64 (wrap64 (k : Int)) 1 = ((k % 2 : Nat) : Int) := by
  rw [show wrap64 (k : Int) = (k : Int) from IntWalk.wrap64_in _ ⟨by omega, by omega⟩]
  exact Go.Proofs.and_one k h

set_option maxHeartbeats 400000 in
theorem shortFloat_c (m : Nat) (e : Int) (w : World) (hT : Tabs w) (hm : m < 18446744073709551616) (h1 : -1137 ≤ e) (h2 : e ≤ 960) (hg : 14 < w.heap.size) :
    Calls Tryz.prog 129 #[.int .u64 m, .int .i64 e] w fun e' w' => e' = .returned (.tuple #[.int .u64 (shortD m e), .int .i64 (shortP m e)]) ∧ Below w.heap.size w w' := by
  obtain ⟨hp1, hp2, _, _⟩ := sfPow_bd m e h1 h2
  obtain ⟨hi, hi'⟩ := sfI_lt m e h1 h2
  obtain ⟨hs, hs'⟩ := sfS_lt m e h1 h2
  have bn := u64_bd (sfLo m e)
  have bx := u64_bd (sfHi m e)
  have hn : IntKind.u64.wrap (sfLo m e) = ((sfMn m e : Nat) : Int) := by unfold sfMn; omega
  have hx : IntKind.u64.wrap (sfHi m e) = ((sfMx m e : Nat) : Int) := by unfold sfMx; omega
  have hnl : sfMn m e < 18446744073709551616 := by unfold sfMn; omega
  have hxl : sfMx m e < 18446744073709551616 := by unfold sfMx; omega
  have ho : (((sfOd m e : Nat) : Int)) ≤ 1 := by unfold sfOd; split <;> omega
  have hw : wrap64 (sfPow m e) = ((sfI m e : Nat) : Int) - 348 := by
    rw [hi']; exact IntWalk.wrap64_in _ ⟨by omega, by omega⟩
  by_cases he : -1085 ≤ e
  · have hod : bits BinOp.and IntKind.i64 (wrap64 ((m : Int) / 2048)) 1 = ((sfOd m e : Nat) : Int) := by
      rw [show (m : Int) / 2048 = ((m / 2048 : Nat) : Int) from by omega, and_one' _ (by omega)]
      unfold sfOd; rw [if_pos he]
    cases h63 : ((m : Int) == 9223372036854775808)
    · have ea : sfA? m e = false := by unfold sfA?; rw [h63, Bool.false_and]
      have e1 : sfPow m e = -lgTen (e + 11) := by unfold sfPow; rw [ea, if_neg Bool.false_ne_true, if_pos he]
      have e2 : sfLo m e = ↑m - 1024 := by unfold sfLo; rw [ea, if_neg Bool.false_ne_true, if_pos he]
      have e3 : sfHi m e = ↑m + 1024 := by unfold sfHi; rw [ea, if_neg Bool.false_ne_true, if_pos he]
      exact sfB m _ _ _ _ e _ w hT hm hnl hxl hi hs h1 h2 h63 he (by rw [← e1]; exact hw) (by rw [← e2]; exact hn) (by rw [← e3]; exact hx) hod (Int.natCast_nonneg _) ho hs' hg
    · by_cases hlt : -1085 < e
      · have ea : sfA? m e = true := by unfold sfA?; rw [h63, decide_eq_true hlt, Bool.true_and]
        have e1 : sfPow m e = -skew (e + 11) := by unfold sfPow; rw [ea, if_pos rfl]
        have e2 : sfLo m e = ↑m - 512 := by unfold sfLo; rw [ea, if_pos rfl]
        have e3 : sfHi m e = ↑m + 1024 := by unfold sfHi; rw [ea, if_pos rfl]
        exact sfA m _ _ _ _ e _ w hT hm hnl hxl hi hs h1 h2 h63 hlt (by rw [← e1]; exact hw) (by rw [← e2]; exact hn) (by rw [← e3]; exact hx) hod (Int.natCast_nonneg _) ho hs' hg
      · have ea : sfA? m e = false := by unfold sfA?; rw [decide_eq_false hlt, Bool.and_false]
        have e1 : sfPow m e = -lgTen (e + 11) := by unfold sfPow; rw [ea, if_neg Bool.false_ne_true, if_pos he]
        have e2 : sfLo m e = ↑m - 1024 := by unfold sfLo; rw [ea, if_neg Bool.false_ne_true, if_pos he]
        have e3 : sfHi m e = ↑m + 1024 := by unfold sfHi; rw [ea, if_neg Bool.false_ne_true, if_pos he]
        exact sfB2 m _ _ _ _ e _ w hT hm hnl hxl hi hs h1 h2 h63 he (decide_eq_false hlt) (by rw [← e1]; exact hw) (by rw [← e2]; exact hn) (by rw [← e3]; exact hx) hod (Int.natCast_nonneg _) ho hs' hg
  · have ea : sfA? m e = false := by unfold sfA?; rw [decide_eq_false (by omega : ¬ -1085 < e), Bool.and_false]
    have e1 : sfPow m e = -lgTen (e + (11 + (-1085 - e))) := by unfold sfPow; rw [ea, if_neg Bool.false_ne_true, if_neg he]
    have e2 : sfLo m e = ↑m - IntKind.u64.wrap (2 ^ ((11 + (-1085 - e)).toNat - 1)) := by unfold sfLo; rw [ea, if_neg Bool.false_ne_true, if_neg he]
    have e3 : sfHi m e = ↑m + IntKind.u64.wrap (2 ^ ((11 + (-1085 - e)).toNat - 1)) := by unfold sfHi; rw [ea, if_neg Bool.false_ne_true, if_neg he]
    have hod : bits BinOp.and IntKind.i64 (wrap64 ((m : Int) / 2 ^ (11 + (-1085 - e)).toNat)) 1 = ((sfOd m e : Nat) : Int) := by
      have hz : m / 2 ^ (11 + (-1085 - e)).toNat < 9223372036854775808 := by
        have h2p : 2 ≤ 2 ^ (11 + (-1085 - e)).toNat := by
          have := Nat.pow_le_pow_right (n := 2) (by decide) (show 1 ≤ (11 + (-1085 - e)).toNat by omega)
          omega
        refine Nat.lt_of_le_of_lt (Nat.div_le_div_left h2p (by decide)) (by omega)
      rw [show (m : Int) / 2 ^ (11 + (-1085 - e)).toNat = ((m / 2 ^ (11 + (-1085 - e)).toNat : Nat) : Int) from by simp, and_one' _ hz]
      unfold sfOd; rw [if_neg he]
    cases h63 : ((m : Int) == 9223372036854775808)
    · exact sfC2 m _ _ _ _ e _ w hT hm hnl hxl hi hs h1 h2 h63 (by omega) (by rw [← e1]; exact hw) (by rw [← e2]; exact hn) (by rw [← e3]; exact hx) hod (Int.natCast_nonneg _) ho hs' hg
    · exact sfC1 m _ _ _ _ e _ w hT hm hnl hxl hi hs h1 h2 h63 (by omega) (by rw [← e1]; exact hw) (by rw [← e2]; exact hn) (by rw [← e3]; exact hx) hod (Int.natCast_nonneg _) ho hs' hg
end Go.Proofs.YtfffmndjgjfflaaGreatDoor

/- internal/strconv.numDigits at every number, and setDigits: the digits of a number in a row, and how many there are without the noughts at the end. -/
namespace Go.Proofs.YtfffmndjgjfflaaGreatDoor
open Go.RowKit Go.Lib Go.Sort
set_option maxRecDepth 100000

abbrev u8e : UInt8 → Value := fun b => Value.int .u8 (b.toNat : Int)
def nDig (u : Nat) : Nat := if u = 0 then 0 else nDigits u
theorem lt_nDig (u : Nat) : u < 10 ^ nDig u := by
  unfold nDig; split
  · omega
  · exact lt_pow_nDigits u
theorem nDig_le (u : Nat) (h : u < 18446744073709551616) : nDig u ≤ 20 := by
  unfold nDig; split
  · omega
  · exact nDigits_le20 u h

set_option maxHeartbeats 400000 in
theorem numDigits_c (u : Nat) (hu : u < 18446744073709551616) (w : World) (hT : Tabs w) :
    Calls Tryz.prog 82 #[.int .u64 u] w fun e w' => e = .returned (.int .i64 (nDig u)) ∧ w = w' := by
  by_cases h : u = 0
  · subst h
    show Calls Tryz.prog 82 #[.int .u64 0] w fun e w' => e = .returned (.int .i64 0) ∧ w = w'
    have c0 : w.cell? ⟨3, 0, none⟩ = some (.int .u64 1) := hT.p10.cell (g := 3) (by kernel_rfl) 0 (by decide)
    go_enter Tryz.func82, Tryz.ntmps82
    go_wp2_with fail
    refine (Tryz.bits_Len64 0 _ (by decide) (by decide)).mono ?_; rintro e w' ⟨rfl, rfl⟩
    rw [show Lib.bitLen (0 : Int).toNat = 0 from by decide +kernel]
    go_wp2_with fail
    refine (lgTen_c _ (by decide) (by decide) _).mono ?_; rintro e w' ⟨rfl, rfl⟩
    rw [show lgTen 0 = 0 from by decide]
    go_wp2_with fail
    refine (Tryz.internal_strconv_bool2_int _ _).mono ?_; rintro e w' ⟨rfl, rfl⟩
    go_wp2_with fail
    go_ret
    exact ⟨rfl, rfl⟩
  · have e : nDig u = nDigits u := by unfold nDig; rw [if_neg h]
    rw [e]
    exact (Tryz.internal_strconv_numDigits u (by omega) hu w hT.p10).mono fun _ _ ⟨a, b⟩ => ⟨a, b.symm⟩

/-- How many of the first k of nd digits are left where the noughts at the end go. -/
def strip (u nd : Nat) : Nat → Nat
  | 0 => 0
  | k + 1 => if dg u (nd - 1 - k) = 48 then strip u nd k else k + 1
theorem strip_le (u nd : Nat) : ∀ k, strip u nd k ≤ k
  | 0 => Nat.le_refl _
  | k + 1 => by unfold strip; split; · exact Nat.le_succ_of_le (strip_le u nd k)
                · exact Nat.le_refl _
def nzd (u : Nat) : Nat := strip u (nDig u) (nDig u)
theorem below_putRow (w : World) (R o : Nat) (d : Array UInt8) : Below R w (putRow u8e w R o d) := by
  refine ⟨rfl, rfl, rfl, by simp [putRow, mapBlock], fun k hk => ?_⟩
  simp only [putRow, mapBlock, Array.getElem?_modify]
  rw [if_neg (by omega)]

/-- A row of cells stays one, of its type and length. -/
def StaysRow (R : Nat) (w w' : World) : Prop := ∀ (cur : Array Value) t fz, w.heap[R]? = some (.cells cur t fz) → ∃ cur' : Array Value, cur'.size = cur.size ∧ w'.heap[R]? = some (.cells cur' t fz)

set_option maxHeartbeats 1000000 in
theorem setDigits_c (R u : Nat) (p : Int) (hu : u < 18446744073709551616) (hp1 : -1000 ≤ p) (hp2 : p ≤ 1000) (w : World) (hH : Holds u8e w R 0 (Array.replicate (nDig u) 0)) :
    Calls Tryz.prog 124 #[.slice (some ⟨R, 0, none⟩) 32 32, .int .u64 u, .int .i64 p, .int .i64 (nDig u)] w fun e w' =>
      e = .returned (.tuple #[.int .i64 (nDig u + p), .int .i64 (nzd u)]) ∧ (∀ j, j < nDig u → w'.cell? ⟨R, j, none⟩ = some (u8e (dg u (nDig u - 1 - j)))) ∧ Below R w w' ∧ StaysRow R w w' := by
  have hn := nDig_le u hu
  have hlt := lt_nDig u
  have hfmt := Tryz.internal_strconv_formatBase10 R 0 32 u (Array.replicate (nDig u) 0) w hH (by rw [Array.size_replicate]; exact hlt) hu (by rw [Array.size_replicate]; omega)
  rw [Array.size_replicate] at hfmt
  have hz : nzd u = strip u (nDig u) (nDig u) := rfl
  rw [hz]
  generalize nDig u = nd at *
  have HF := Lib.hid hfmt; have HH := Lib.hid hH; have HU := Lib.hid hu; have HL := Lib.hid hlt; clear hfmt hH hu hlt hz
  go_enter Tryz.func124, Tryz.ntmps124
  go_wp2_with fail
  refine HF.out.mono ?_
  rintro e w1 ⟨rfl, n, v', dk, hw1, hF⟩
  have hb : Below R w w1 := by rw [hw1]; exact (below_putRow w R 0 dk).trans (drewN_below _ _ _)
  have hc : ∀ j, j < nd → w1.cell? ⟨R, j, none⟩ = some (u8e (dg u (nd - 1 - j))) := by
    intro j hj
    have h0 := cell?_putRow u8e w R 0 _ dk HH.out (by rw [hF.size, Array.size_replicate]) j (by rw [hF.size]; exact hj)
    rw [Nat.zero_add] at h0
    rw [hw1, World.cell?_drewN, h0, hF.done j (Nat.zero_le _) hj]
  have hk : StaysRow R w w1 := by
    intro cur t fz h
    rw [hw1]
    show ∃ cur' : Array Value, _ ∧ (putRow u8e w R 0 dk).heap[R]? = _
    unfold putRow mapBlock
    rw [Array.getElem?_modify, if_pos rfl, h]
    exact ⟨_, by simp [putCells], rfl⟩
  clear hw1 hF
  have HB := Lib.hid hb; have HC := Lib.hid hc; have HK := Lib.hid hk; clear hb hc hk
  go_wp2_with fail
  go_loop [3] (fun k => ∃ j : Nat, j ≤ nd ∧ k = .int .i64 j ∧ strip u nd j = strip u nd nd) (fun k => (RowKit.intOf k).toNat)
  case atStart => exact ⟨nd, Nat.le_refl _, rfl, rfl⟩
  case round =>
    obtain ⟨j, hj, rfl, hs⟩ := hrel
    have HS := Lib.hid hs; clear hs
    cases j with
    | zero =>
      go_wp2
      go_ret2
      refine ⟨?_, HC.out, HB.out, HK.out⟩
      rw [← HS.out]; rfl
    | succ j =>
      have hcj : w1.cell? ⟨R, j, none⟩ = some (.int .u8 ((dg u (nd - 1 - j)).toNat : Int)) := HC.out j (by omega)
      by_cases h48 : dg u (nd - 1 - j) = 48
      · have hb48 : (((dg u (nd - 1 - j)).toNat : Int) == 48) = true := by rw [h48]; rfl
        have hst : strip u nd j = strip u nd nd := by rw [← HS.out]; conv => rhs; unfold strip
                                                      rw [if_pos h48]
        have HT := Lib.hid hst; clear hst h48
        go_wp2
        go_round
        case rel => exact ⟨j, by omega, by go_num, HT.out⟩
        case measure => simp [RowKit.intOf]
      · have hb48 : (((dg u (nd - 1 - j)).toNat : Int) == 48) = false := by
          rw [beq_eq_false_iff_ne]; intro hh; apply h48
          exact UInt8.toNat_inj.1 (by rw [show (48 : UInt8).toNat = 48 from rfl]; omega)
        have hst : j + 1 = strip u nd nd := by rw [← HS.out]; conv => rhs; unfold strip
                                               rw [if_neg h48]
        have HT := Lib.hid hst; clear hst h48
        go_wp2
        go_ret2
        refine ⟨?_, HC.out, HB.out, HK.out⟩
        rw [← HT.out]; rfl
end Go.Proofs.YtfffmndjgjfflaaGreatDoor
