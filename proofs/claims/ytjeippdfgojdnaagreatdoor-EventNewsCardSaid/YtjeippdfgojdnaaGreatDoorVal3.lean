/- Package value over the functions of package order: Same, Canon; a value's fields. (Drawn off the texts of layer 2.) -/
import Derived.Test.YtjeippdfgojdnaaGreatDoorV0
import Derived.Deep.QuietTactic
import Derived.BigQuiet
import Derived.Outline
import Derived.Laws.StructEq
import Derived.Laws.IdiomStrings
namespace Go.Proofs.YtjeippdfgojdnaaGreatDoor
open Go.RowKit
set_option maxRecDepth 100000

set_option maxHeartbeats 400000 in
theorem same_c (a b : Nat) (ha : a < 18446744073709551616) (hb : b < 18446744073709551616) (w : World) : Calls Tryz.prog 63 #[.float .f64 a, .float .f64 b] w fun e w' => e = .returned (.bool (fkey a == fkey b)) ∧ w = w' := by
  have HA := Lib.hid ha; clear ha
  have HB := Lib.hid hb; clear hb
  go_enter Tryz.func63, Tryz.ntmps63
  go_wp2_with (go_at_call 70; refine (key_c _ (by first | exact HA.out | exact HB.out) _).mono ?_; rintro e w' ⟨rfl, rfl⟩)
  go_ret
  exact ⟨rfl, rfl⟩

theorem fnan_rung {x : Nat} (h : fnan x = false) : frung x ≤ 9218868437227405312 := by
  simp only [fnan, decide_eq_false_iff_not, Nat.not_lt] at h; exact h
theorem fpos_bd {x : Nat} (h : fnan x = false) : -9218868437227405312 ≤ fpos x ∧ fpos x ≤ 9218868437227405312 := by
  have := fnan_rung h
  unfold fpos; split <;> omega
theorem fkey_num {x : Nat} (h : fnan x = false) : fkey x = if 0 ≤ fpos x then 9223372036854775808 + fpos x else 9223372036854775807 + fpos x := by
  simp [fkey, h]
theorem fkey_nan {x : Nat} (h : fnan x = true) : fkey x = 18446744073709551615 := by
  simp [fkey, h]
theorem fkey_bd (x : Nat) : 0 ≤ fkey x ∧ fkey x ≤ 18446744073709551615 := by
  cases h : fnan x
  · have := fpos_bd h
    rw [fkey_num h]; split <;> omega
  · rw [fkey_nan h]; omega
theorem fkey_top {x : Nat} (h : fnan x = false) : fkey x < 18446744073709551615 := by
  have := fpos_bd h
  rw [fkey_num h]; split <;> omega
theorem fkey_lt {a b : Nat} (ha : fnan a = false) (hb : fnan b = false) : fkey a < fkey b ↔ fpos a < fpos b := by
  rw [fkey_num ha, fkey_num hb]; split <;> split <;> omega
theorem fkey_eq {a b : Nat} (ha : fnan a = false) (hb : fnan b = false) : fkey a = fkey b ↔ fpos a = fpos b := by
  rw [fkey_num ha, fkey_num hb]; split <;> split <;> omega

theorem ford_of_lt {a b : Nat} (ha : fnan a = false) (hb : fnan b = false) (o : Ordering) (h : ford (fpos a) (fpos b) = o) : FloatKind.f64.format.order a b = some o := by
  rw [order_num a b ha hb, h]


def sameV (k n n2 : Int) (x x2 : Nat) (s s2 : ByteArray) (y y2 : Bool) : Bool :=
  if k == 0 then n == n2 else if k == 1 then fkey x == fkey x2 else if k == 2 then s.toList == s2.toList else y == y2
set_option maxHeartbeats 2000000 in
theorem same0_c (k n n2 : Int) (x x2 : Nat) (s s2 : ByteArray) (y y2 : Bool) (w : World) (h0 : (k == 0) = true) :
    Calls Tryz.prog 34 #[val k n x s y, val k n2 x2 s2 y2] w fun e w' => e = .returned (.bool (n == n2)) ∧ Below w.heap.size w w' := by
  go_enter Tryz.func34, Tryz.ntmps34
  go_wp2
  go_ret
  exact ⟨rfl, ((Below.refl _ _).alloc (Nat.le_refl _) _).alloc (by simp) _⟩
set_option maxHeartbeats 2000000 in
theorem same2_c (k n n2 : Int) (x x2 : Nat) (s s2 : ByteArray) (y y2 : Bool) (w : World) (h0 : (k == 0) = false) (h1 : (k == 1) = false) (h2 : (k == 2) = true) :
    Calls Tryz.prog 34 #[val k n x s y, val k n2 x2 s2 y2] w fun e w' => e = .returned (.bool (s.toList == s2.toList)) ∧ Below w.heap.size w w' := by
  go_enter Tryz.func34, Tryz.ntmps34
  go_wp2
  go_ret
  exact ⟨rfl, ((Below.refl _ _).alloc (Nat.le_refl _) _).alloc (by simp) _⟩
set_option maxHeartbeats 2000000 in
theorem same3_c (k n n2 : Int) (x x2 : Nat) (s s2 : ByteArray) (y y2 : Bool) (w : World) (h0 : (k == 0) = false) (h1 : (k == 1) = false) (h2 : (k == 2) = false) :
    Calls Tryz.prog 34 #[val k n x s y, val k n2 x2 s2 y2] w fun e w' => e = .returned (.bool (y == y2)) ∧ Below w.heap.size w w' := by
  go_enter Tryz.func34, Tryz.ntmps34
  go_wp2
  go_ret
  exact ⟨rfl, ((Below.refl _ _).alloc (Nat.le_refl _) _).alloc (by simp) _⟩
set_option maxHeartbeats 2000000 in
theorem same1_c (k n n2 : Int) (x x2 : Nat) (s s2 : ByteArray) (y y2 : Bool) (w : World) (h0 : (k == 0) = false) (h1 : (k == 1) = true) (hx : x < 18446744073709551616) (hx2 : x2 < 18446744073709551616) :
    Calls Tryz.prog 34 #[val k n x s y, val k n2 x2 s2 y2] w fun e w' => e = .returned (.bool (fkey x == fkey x2)) ∧ Below w.heap.size w w' := by
  have HX := Lib.hid hx; have HX2 := Lib.hid hx2; clear hx hx2
  go_enter Tryz.func34, Tryz.ntmps34
  go_wp2_with (go_at_call 63; refine (same_c _ _ HX.out HX2.out _).mono ?_; rintro e w' ⟨rfl, rfl⟩)
  go_ret
  exact ⟨rfl, ((Below.refl _ _).alloc (Nat.le_refl _) _).alloc (by simp) _⟩

theorem same_v (k n n2 : Int) (x x2 : Nat) (s s2 : ByteArray) (y y2 : Bool) (w : World) (hx : x < 18446744073709551616) (hx2 : x2 < 18446744073709551616) :
    Calls Tryz.prog 34 #[val k n x s y, val k n2 x2 s2 y2] w fun e w' => e = .returned (.bool (sameV k n n2 x x2 s s2 y y2)) ∧ Below w.heap.size w w' := by
  unfold sameV
  cases h0 : (k == 0)
  · cases h1 : (k == 1)
    · cases h2 : (k == 2)
      · exact same3_c k n n2 x x2 s s2 y y2 w h0 h1 h2
      · exact same2_c k n n2 x x2 s s2 y y2 w h0 h1 h2
    · exact same1_c k n n2 x x2 s s2 y y2 w h0 h1 hx hx2
  · exact same0_c k n n2 x x2 s s2 y y2 w h0
theorem fkey_canon (x : Nat) : fkey (fcanon x) = fkey x := by
  unfold fcanon
  cases h : fnan x
  · by_cases hz : frung x = 0
    · have e : fpos x = 0 := by unfold fpos; rw [hz]; simp
      rw [if_neg Bool.false_ne_true, if_pos hz, fkey_num h, e]
      decide +kernel
    · rw [if_neg Bool.false_ne_true, if_neg hz]
  · rw [if_pos rfl, fkey_nan h]
    decide +kernel

set_option maxHeartbeats 1000000 in
theorem canon0_v (n : Int) (x : Nat) (s : ByteArray) (y : Bool) (w : World) :
    Calls Tryz.prog 35 #[val 0 n x s y] w fun e w' => e = .returned (val 0 n 0 ⟨#[]⟩ false) ∧ Below w.heap.size w w' := by
  go_enter Tryz.func35, Tryz.ntmps35
  go_wp2
  refine bodyPost_ret (v := val 0 n 0 ⟨#[]⟩ false) (by simp [results, Tryz.results35, go_sem]) rfl ⟨rfl, ?_⟩
  exact ((Below.refl _ _).alloc (Nat.le_refl _) _).alloc (by simp) _
set_option maxHeartbeats 1000000 in
theorem canon1_v (n : Int) (x : Nat) (s : ByteArray) (y : Bool) (w : World) :
    Calls Tryz.prog 35 #[val 1 n x s y] w fun e w' => e = .returned (val 1 0 (fcanon x) ⟨#[]⟩ false) ∧ Below w.heap.size w w' := by
  go_enter Tryz.func35, Tryz.ntmps35
  go_wp2_with (go_at_call 64; refine (canon_c _ _).mono ?_; rintro e w' ⟨rfl, rfl⟩)
  refine bodyPost_ret (v := val 1 0 (fcanon x) ⟨#[]⟩ false) (by simp [results, Tryz.results35, go_sem]) rfl ⟨rfl, ?_⟩
  exact ((Below.refl _ _).alloc (Nat.le_refl _) _).alloc (by simp) _
set_option maxHeartbeats 1000000 in
theorem canon2_v (n : Int) (x : Nat) (s : ByteArray) (y : Bool) (w : World) :
    Calls Tryz.prog 35 #[val 2 n x s y] w fun e w' => e = .returned (val 2 0 0 s false) ∧ Below w.heap.size w w' := by
  go_enter Tryz.func35, Tryz.ntmps35
  go_wp2
  refine bodyPost_ret (v := val 2 0 0 s false) (by simp [results, Tryz.results35, go_sem]) rfl ⟨rfl, ?_⟩
  exact ((Below.refl _ _).alloc (Nat.le_refl _) _).alloc (by simp) _
set_option maxHeartbeats 1000000 in
theorem canon3_v (n : Int) (x : Nat) (s : ByteArray) (y : Bool) (w : World) :
    Calls Tryz.prog 35 #[val 3 n x s y] w fun e w' => e = .returned (val 3 0 0 ⟨#[]⟩ y) ∧ Below w.heap.size w w' := by
  go_enter Tryz.func35, Tryz.ntmps35
  go_wp2
  refine bodyPost_ret (v := val 3 0 0 ⟨#[]⟩ y) (by simp [results, Tryz.results35, go_sem]) rfl ⟨rfl, ?_⟩
  exact ((Below.refl _ _).alloc (Nat.le_refl _) _).alloc (by simp) _

set_option maxHeartbeats 1000000 in
theorem canon4_v (k n : Int) (x : Nat) (s : ByteArray) (y : Bool) (w : World) (h0 : (k == 0) = false) (h1 : (k == 1) = false) (h2 : (k == 2) = false) (h3 : (k == 3) = false) :
    Calls Tryz.prog 35 #[val k n x s y] w fun e w' => e = .returned (val 0 0 0 ⟨#[]⟩ false) ∧ Below w.heap.size w w' := by
  go_enter Tryz.func35, Tryz.ntmps35
  go_wp2
  refine bodyPost_ret (v := val 0 0 0 ⟨#[]⟩ false) (by simp [results, Tryz.results35, go_sem]) rfl ⟨rfl, ?_⟩
  exact ((Below.refl _ _).alloc (Nat.le_refl _) _).alloc (by simp) _
end Go.Proofs.YtjeippdfgojdnaaGreatDoor
