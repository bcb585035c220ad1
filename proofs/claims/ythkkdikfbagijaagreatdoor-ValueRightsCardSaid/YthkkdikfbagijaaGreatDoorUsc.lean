/- internal/strconv's unrounded scaling: uscale, prescale, shortFloat at float64: what each answers, as plain functions of its arguments, in every world that holds the tables. -/
import Derived.Test.YthkkdikfbagijaaGreatDoorTabs
import Derived.WalkKit
import Derived.WalkLawsBesides
import Derived.Lib.Hide
import Derived.Deep.QuietTactic
import Derived.BigQuiet
namespace Go.Proofs.YthkkdikfbagijaaGreatDoor
open Go.RowKit
set_option maxRecDepth 100000

theorem and63 (s : Nat) (h : s < 64) : bits BinOp.and IntKind.i64 (s : Int) 63 = (s : Int) := by
  have : ∀ s : Fin 64, bits BinOp.and IntKind.i64 ((s : Nat) : Int) 63 = ((s : Nat) : Int) := by decide +kernel
  exact this ⟨s, h⟩
def b2 (b : Bool) : Int := if b then 1 else 0
set_option maxHeartbeats 400000 in
theorem bool2u_c (b : Bool) (w : World) : Calls Tryz.prog 103 #[.bool b] w fun e w' => e = .returned (.int .u64 (b2 b)) ∧ w = w' := by
  cases b
  all_goals
    go_enter Tryz.func103, Tryz.ntmps103
    go_wp2
    go_ret
    exact ⟨rfl, rfl⟩
def uscOdd (H : Int) (s : Nat) : Bool := IntKind.u64.wrap (H / 2 ^ s * 2 ^ s) != H
def uscYes (H : Int) (s : Nat) : Int := bits .or .u64 (H / 2 ^ s) 1
def uscNo (H : Int) (M L : Nat) (s : Nat) : Int := bits .or .u64 (IntKind.u64.wrap (H - b2 (decide (M < L))) / 2 ^ s) (b2 (decide (1 < IntKind.u64.wrap ((M : Int) - L))))
def mulHi (x y : Nat) : Nat := x * y / 18446744073709551616
def mulLo (x y : Nat) : Nat := x * y % 18446744073709551616
theorem mul_c (x y : Nat) (hx : x < 18446744073709551616) (hy : y < 18446744073709551616) (w : World) :
    Calls Tryz.prog 134 #[.int .u64 x, .int .u64 y] w fun e w' => e = .returned (.tuple #[.int .u64 (mulHi x y), .int .u64 (mulLo x y)]) ∧ w = w' :=
  (Tryz.bits_Mul64 x y hx hy w).mono fun _ _ ⟨a, b⟩ => ⟨a, b.symm⟩
def usc (x hi lo s : Nat) : Int := if uscOdd (mulHi x hi) s then uscYes (mulHi x hi) s else uscNo (mulHi x hi) (mulLo x hi) (mulHi x lo) s
set_option maxHeartbeats 400000 in
theorem uscale_c (x hi lo s b : Nat) (hx : x < 18446744073709551616) (hh : hi < 18446744073709551616) (hl : lo < 18446744073709551616) (hs : s < 64) (w : World)
   (c0 : w.cell? ⟨b, 0, none⟩ = some (.int .u64 hi)) (c1 : w.cell? ⟨b, 1, none⟩ = some (.int .u64 lo)) (c2 : w.cell? ⟨b, 2, none⟩ = some (.int .i64 s)) : Calls Tryz.prog 112 #[.int .u64 x, .pointer (some ⟨b, 0, none⟩)] w fun e w' => e = .returned (.int .u64 (usc x hi lo s)) ∧ ∃ n, w' = w.drewN n := by
  have ha := and63 s hs
  have hs' : (s : Int) ≤ 64 := by omega
  have HX := Lib.hid hx; have HH := Lib.hid hh; have HL := Lib.hid hl; clear hx hh hl
  cases ho : uscOdd (mulHi x hi) s
  · have hu : usc x hi lo s = uscNo (mulHi x hi) (mulLo x hi) (mulHi x lo) s := by simp [usc, ho]
    rw [hu]
    have ho' : (IntKind.u64.wrap (((mulHi x hi : Nat) : Int) / 2 ^ s * 2 ^ s) != ((mulHi x hi : Nat) : Int)) = false := ho
    clear ho hu
    go_enter Tryz.func112, Tryz.ntmps112
    go_wp2_with fail
    refine (mul_c x hi HX.out HH.out _).mono ?_; rintro e w' ⟨rfl, rfl⟩
    go_wp2_with fail
    refine (mul_c x lo HX.out HL.out _).mono ?_; rintro e w' ⟨rfl, rfl⟩
    go_wp2_with fail
    refine (bool2u_c _ _).mono ?_; rintro e w' ⟨rfl, rfl⟩
    go_wp2_with fail
    go_quiet ((go_at_call 103; exact Calls.quiet_of_same ((bool2u_c _ _).mono fun _ _ ⟨a, b⟩ => ⟨a, b.symm⟩)))
    go_wp2
    go_ret
    exact ⟨rfl, _, rfl⟩
  · have hu : usc x hi lo s = uscYes (mulHi x hi) s := by simp [usc, ho]
    rw [hu]
    have ho' : (IntKind.u64.wrap (((mulHi x hi : Nat) : Int) / 2 ^ s * 2 ^ s) != ((mulHi x hi : Nat) : Int)) = true := ho
    clear ho hu
    go_enter Tryz.func112, Tryz.ntmps112
    go_wp2_with fail
    refine (mul_c x hi HX.out HH.out _).mono ?_; rintro e w' ⟨rfl, rfl⟩
    go_wp2_with fail
    go_ret
    exact ⟨rfl, 0, rfl⟩

def lgTen (x : Int) : Int := x * 78913 / 262144
def lgTwo (x : Int) : Int := x * 108853 / 32768
def skew (x : Int) : Int := (x * 631305 - 261663) / 2097152
def nudgeF (u d : Int) : Int := IntKind.u64.wrap (u + IntKind.u64.wrap d)
def ceilF (u : Int) : Int := IntKind.u64.wrap (u + 3) / 4
def floorF (u : Int) : Int := IntKind.u64.wrap u / 4
def roundF (u : Int) : Int := IntKind.u64.wrap (IntKind.u64.wrap (u + 1) + bits BinOp.and IntKind.u64 (u / 4) 1) / 4
set_option maxHeartbeats 400000 in
theorem lgTen_c (x : Int) (h1 : -10000 ≤ x) (h2 : x ≤ 10000) (w : World) : Calls Tryz.prog 49 #[.int .i64 x] w fun e w' => e = .returned (.int .i64 (lgTen x)) ∧ w = w' := by
  go_enter Tryz.func49, Tryz.ntmps49
  go_wp2
  go_ret
  exact ⟨rfl, rfl⟩
set_option maxHeartbeats 400000 in
theorem lgTwo_c (x : Int) (h1 : -1000 ≤ x) (h2 : x ≤ 1000) (w : World) : Calls Tryz.prog 111 #[.int .i64 x] w fun e w' => e = .returned (.int .i64 (lgTwo x)) ∧ w = w' := by
  go_enter Tryz.func111, Tryz.ntmps111
  go_wp2
  go_ret
  exact ⟨rfl, rfl⟩
set_option maxHeartbeats 400000 in
theorem skew_c (x : Int) (h1 : -10000 ≤ x) (h2 : x ≤ 10000) (w : World) : Calls Tryz.prog 109 #[.int .i64 x] w fun e w' => e = .returned (.int .i64 (skew x)) ∧ w = w' := by
  go_enter Tryz.func109, Tryz.ntmps109
  go_wp2
  go_ret
  exact ⟨rfl, rfl⟩
set_option maxHeartbeats 400000 in
theorem nudge_c (u d : Int) (w : World) : Calls Tryz.prog 113 #[.int .u64 u, .int .i64 d] w fun e w' => e = .returned (.int .u64 (nudgeF u d)) ∧ w = w' := by
  go_enter Tryz.func113, Tryz.ntmps113
  go_wp2
  go_ret
  exact ⟨rfl, rfl⟩
set_option maxHeartbeats 400000 in
theorem ceil_c (u : Int) (w : World) : Calls Tryz.prog 114 #[.int .u64 u] w fun e w' => e = .returned (.int .u64 (ceilF u)) ∧ w = w' := by
  go_enter Tryz.func114, Tryz.ntmps114
  go_wp2
  go_ret
  exact ⟨rfl, rfl⟩
set_option maxHeartbeats 400000 in
theorem floor_c (u : Int) (w : World) : Calls Tryz.prog 115 #[.int .u64 u] w fun e w' => e = .returned (.int .u64 (floorF u)) ∧ w = w' := by
  go_enter Tryz.func115, Tryz.ntmps115
  go_wp2
  go_ret
  exact ⟨rfl, rfl⟩
set_option maxHeartbeats 400000 in
theorem round_c (u : Int) (w : World) : Calls Tryz.prog 116 #[.int .u64 u] w fun e w' => e = .returned (.int .u64 (roundF u)) ∧ w = w' := by
  go_enter Tryz.func116, Tryz.ntmps116
  go_wp2
  go_ret
  exact ⟨rfl, rfl⟩
theorem Tabs.row {w : World} (h : Tabs w) (i : Nat) (hi : i < 696) :
    w.cell? ⟨20, i * 2, none⟩ = some (.int .u64 (powHi i : Nat)) ∧ w.cell? ⟨20, i * 2 + 1, none⟩ = some (.int .u64 (powLo i : Nat)) := by
  rw [Nat.mul_comm i 2]; exact h.pow i hi
set_option maxHeartbeats 400000 in
theorem prescale_c (b i : Nat) (e lp : Int) (hi : i < 696) (h1 : -2000 ≤ e) (h2 : e ≤ 2000) (h3 : -2000 ≤ lp) (h4 : lp ≤ 2000) (w : World) (hT : Tabs w) (x0 x1 x2 : Value)
    (c0 : w.cell? ⟨b, 0, none⟩ = some x0) (c1 : w.cell? ⟨b, 1, none⟩ = some x1) (c2 : w.cell? ⟨b, 2, none⟩ = some x2) (hb : 20 < b)
    (f0 : w.frozen? ⟨b, 0, none⟩ = false) (f1 : w.frozen? ⟨b, 1, none⟩ = false) (f2 : w.frozen? ⟨b, 2, none⟩ = false) :
    Calls Tryz.prog 110 #[.pointer (some ⟨b, 0, none⟩), .int .i64 e, .int .i64 ((i : Int) - 348), .int .i64 lp] w fun e' w' =>
      e' = .returned (.tuple #[]) ∧ w'.cell? ⟨b, 0, none⟩ = some (.int .u64 (powHi i : Nat)) ∧ w'.cell? ⟨b, 1, none⟩ = some (.int .u64 (powLo i : Nat)) ∧ w'.cell? ⟨b, 2, none⟩ = some (.int .i64 (-(e + lp + 3))) ∧ Below b w w' := by
  obtain ⟨t1, t2⟩ := hT.row i hi
  have t2' : (w.setCell ⟨b, 0, none⟩ (.int .u64 (powHi i : Nat))).cell? ⟨20, i * 2 + 1, none⟩ = some (.int .u64 (powLo i : Nat)) := by
    rw [((Below.refl b w).setCell (Nat.le_refl _) _).cell hb]; exact t2
  go_enter Tryz.func110, Tryz.ntmps110
  go_wp2
  go_end0
  refine ⟨rfl, by go_simp, by go_simp, by go_simp, ?_⟩
  repeat (first | exact Below.refl _ _ | refine Below.setCell ?_ (p := ⟨b, _, none⟩) (Nat.le_refl b) _ | refine Below.drew ?_)
end Go.Proofs.YthkkdikfbagijaaGreatDoor
