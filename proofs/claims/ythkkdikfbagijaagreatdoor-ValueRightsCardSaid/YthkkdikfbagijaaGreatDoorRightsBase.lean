/- A value may be, if its kind is one, and its text not too long. -/
import Derived.Test.YthkkdikfbagijaaGreatDoorQuoted
import Derived.Test.YthkkdikfbagijaaGreatDoorFitDone
import Derived.Deep.RegionHeld3
import Derived.Deep.RegionWith
import Derived.Deep.LoopGhost
import Derived.Deep.DeepCutAuto
import Derived.Deep.Upon
import Derived.Deep.QuietTactic
namespace Go.Proofs.YthkkdikfbagijaaGreatDoor
open Go.RowKit
set_option maxRecDepth 100000
theorem below_drew1' (w : World) : Below w.heap.size w w.drew := ⟨rfl, rfl, rfl, Nat.le_refl _, fun _ _ => rfl⟩
/-- A world in which only what is younger than another one's blocks has turned. -/
structure BW (wr : World) where
  W : World
  h : Below wr.heap.size wr W
instance (w : World) : Nonempty (BW w) := ⟨⟨w.drew, below_drew1' w⟩⟩
theorem wp_region_bw {P : Program} {id : Nat} {Q : Exit → Act → World → Prop} {a : Act} {w : World} {l : List Oper} (hm : P.follows .mixedOrders = true) (hB : Region.lexB .any l.toArray = true)
    (h : wpQuiet P l.toArray (fun w' => ∃ p : BW w, w' = p.W) (fun a' => ∀ w', (∃ p : BW w, w' = p.W) → Q .normal a' w') l a) : (Code.region id l.toArray true).wp P Q a w :=
  wp_region_quiet (C := fun w' => ∃ p : BW w, w' = p.W) hm hB ⟨⟨w.drew, below_drew1' w⟩, rfl⟩ (by simpa using h)

theorem and127 (n : Int) : ∃ m : Nat, m < 128 ∧ bits .and .i64 n 127 = (m : Int) := by
  have h : ∃ m : Nat, m < 128 ∧ bits .and .i64 n 127 = IntKind.i64.wrap m := by
    refine ⟨((BitVec.ofInt 64 n) &&& (BitVec.ofInt 64 127)).toNat, ?_, rfl⟩
    rw [BitVec.toNat_and, show (BitVec.ofInt 64 127).toNat = 2 ^ 7 - 1 from by decide, Nat.and_two_pow_sub_one_eq_mod]
    omega
  obtain ⟨m, hm, h⟩ := h
  exact ⟨m, hm, h.trans ((by decide : ∀ m : Fin 128, IntKind.i64.wrap ((m.val : Nat) : Int) = ((m.val : Nat) : Int)) ⟨m, hm⟩)⟩

set_option maxHeartbeats 2000000 in
theorem rights_long (k n : Int) (x : Nat) (s : ByteArray) (y : Bool) (i : Int) (w : World) (hT : Tabs w) (l : decide ((300 : Int) < (s.size : Int)) = true) :
    Calls Tryz.prog 3 #[val k n x s y, .int .i64 i] w fun e w' => e = .returned (.bool true) ∧ Below w.heap.size w w' := by
  have hg : 20 < w.heap.size := World.block_lt_of_cell? w ⟨20, _, none⟩ (hT.pow 0 (by decide)).1
  have HT := Lib.hid (hT.on (show Below w.heap.size w (w.alloc (.cells (vals k n x s y) 24)) from (Below.refl _ _).alloc (Nat.le_refl _) _)); clear hT
  go_enter Tryz.func3, Tryz.ntmps3
  go_wp2_with fail
  refine (fit_c _ HT.out (by simp; omega)).mono ?_
  rintro e w1 ⟨rfl, hb1⟩
  have hb : Below (w.heap.size + 1) (w.alloc (.cells (vals k n x s y) 24)) w1 := by simpa using hb1
  have hv := held_new hb
  have S1 := Lib.hid (step_of hb).1
  have a3 := hv 3 _ rfl
  clear hb hb1 hv
  go_wp2
  go_ret
  exact ⟨rfl, S1.out⟩

def RS (w W : World) (pv pu : Nat) (vs us : Array Value) : Prop := Held W pv vs ∧ Held W pu us ∧ pv < W.heap.size ∧ pu < W.heap.size ∧ Below w.heap.size w W
theorem RS.on {w W W' : World} {pv pu : Nat} {vs us : Array Value} (h : RS w W pv pu vs us) (hb : Below W.heap.size W W') : RS w W' pv pu vs us := by
  obtain ⟨h1, h2, h3, h4, h5⟩ := h
  exact ⟨h1.on h3 hb, h2.on h4 hb, Nat.lt_of_lt_of_le h3 hb.size, Nat.lt_of_lt_of_le h4 hb.size, h5.trans (hb.mono h5.size)⟩
abbrev SR (w : World) (p q : Nat) (k n : Int) (x : Nat) (s : ByteArray) (y : Bool) (t : ByteArray) (w' : World) : Prop :=
  RS w w' p q (vals k n x s y) (vals 2 0 0 t false) ∧
  w'.cell? ⟨p, 0, none⟩ = some (.int .i64 k) ∧ w'.cell? ⟨p, 1, none⟩ = some (.int .i64 n) ∧ w'.cell? ⟨p, 2, none⟩ = some (.float .f64 x) ∧ w'.cell? ⟨p, 3, none⟩ = some (.string s) ∧ w'.cell? ⟨p, 4, none⟩ = some (.bool y) ∧
  w'.cell? ⟨q, 0, none⟩ = some (.int .i64 2) ∧ w'.cell? ⟨q, 1, none⟩ = some (.int .i64 0) ∧ w'.cell? ⟨q, 2, none⟩ = some (.float .f64 0) ∧ w'.cell? ⟨q, 3, none⟩ = some (.string t) ∧ w'.cell? ⟨q, 4, none⟩ = some (.bool false)
theorem sr_of {w W : World} {p q : Nat} {k n : Int} {x : Nat} {s : ByteArray} {y : Bool} {t : ByteArray} (h : RS w W p q (vals k n x s y) (vals 2 0 0 t false)) : SR w p q k n x s y t W :=
  ⟨h, h.1 0 _ rfl, h.1 1 _ rfl, h.1 2 _ rfl, h.1 3 _ rfl, h.1 4 _ rfl, h.2.1 0 _ rfl, h.2.1 1 _ rfl, h.2.1 2 _ rfl, h.2.1 3 _ rfl, h.2.1 4 _ rfl⟩
theorem sr_on {w W W' : World} {p q : Nat} {k n : Int} {x : Nat} {s : ByteArray} {y : Bool} {t : ByteArray} (h : SR w p q k n x s y t W) (hb : Below W.heap.size W W') : SR w p q k n x s y t W' := sr_of (h.1.on hb)

end Go.Proofs.YthkkdikfbagijaaGreatDoor
