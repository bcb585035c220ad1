/- Package cond's contracts: stands, Void, Holds, Implies, Right, Canon. (Written by gen_condw.py.) -/
import Derived.Test.YtjeippdfgojdnaaGreatDoorCondP
import Derived.Test.YtjeippdfgojdnaaGreatDoorShelf
namespace Go.Proofs.YtjeippdfgojdnaaGreatDoor
open Go.RowKit Go.Shelf
open Go.Proofs
set_option maxRecDepth 100000

/-- A condition as the program holds it. -/
abbrev cnds (nm : ByteArray) (op k n : Int) (x : Nat) (s : ByteArray) (y : Bool) : Array Value := #[.string nm, .int .i64 op, .int .i64 k, .int .i64 n, .float .f64 x, .string s, .bool y]
abbrev cnd (nm : ByteArray) (op k n : Int) (x : Nat) (s : ByteArray) (y : Bool) : Value := .agg (cnds nm op k n x s y)
/-- One block, two blocks laid behind all others: what they hold in every world in which only what is younger has turned. -/
theorem one_lay {w w' : World} {cs : Array Value} {t : TypeId} (hb : Below (w.heap.size + 1) (w.alloc (.cells cs t)) w') (i : Nat) (v : Value) (h : cs[i]? = some v) : w'.cell? ⟨w.heap.size, i, none⟩ = some v := by
  rw [hb.cell (p := ⟨w.heap.size, i, none⟩) (by simp), World.cell?_alloc_new]; exact h
theorem two_lay {w w' : World} {cs ds : Array Value} {t u : TypeId} (hb : Below (w.heap.size + 2) ((w.alloc (.cells cs t)).alloc (.cells ds u)) w') :
    (∀ i v, cs[i]? = some v → w'.cell? ⟨w.heap.size, i, none⟩ = some v) ∧ (∀ i v, ds[i]? = some v → w'.cell? ⟨w.heap.size + 1, i, none⟩ = some v) := by
  refine ⟨fun i v h => ?_, fun i v h => ?_⟩
  · rw [hb.cell (p := ⟨w.heap.size, i, none⟩) (by simp), World.cell?_alloc_lt _ _ _ (by simp), World.cell?_alloc_new]; exact h
  · rw [hb.cell (p := ⟨w.heap.size + 1, i, none⟩) (by simp)]
    have := World.cell?_alloc_new (w.alloc (.cells cs t)) ds u i
    rw [World.size_alloc] at this
    rw [this]; exact h

set_option maxHeartbeats 1000000 in
theorem stands_c (op r : Int) (w : World) : Calls Tryz.prog 43 #[.int .i64 op, .int .i64 r] w fun e w' => e = .returned (.bool (standsB op r)) ∧ w = w' := by
  unfold standsB
  cases h0 : (op == 0)
  · skip
    cases h1 : (op == 1)
    · skip
      cases h2 : (op == 2)
      · skip
        cases h3 : (op == 3)
        · skip
          cases h4 : (op == 4)
          · skip
            cases h5 : (op == 5)
            · skip
              go_enter Tryz.func43, Tryz.ntmps43
              go_wp2
              go_ret
              exact ⟨rfl, rfl⟩
            · skip
              go_enter Tryz.func43, Tryz.ntmps43
              go_wp2
              go_ret
              exact ⟨rfl, rfl⟩
          · skip
            go_enter Tryz.func43, Tryz.ntmps43
            go_wp2
            go_ret
            exact ⟨rfl, rfl⟩
        · skip
          go_enter Tryz.func43, Tryz.ntmps43
          go_wp2
          go_ret
          exact ⟨rfl, rfl⟩
      · skip
        go_enter Tryz.func43, Tryz.ntmps43
        go_wp2
        go_ret
        exact ⟨rfl, rfl⟩
    · skip
      go_enter Tryz.func43, Tryz.ntmps43
      go_wp2
      go_ret
      exact ⟨rfl, rfl⟩
  · skip
    go_enter Tryz.func43, Tryz.ntmps43
    go_wp2
    go_ret
    exact ⟨rfl, rfl⟩

set_option maxHeartbeats 1000000 in
theorem cvoid_c (nm : ByteArray) (op k n : Int) (x : Nat) (s : ByteArray) (y : Bool) (w : World) :
    Calls Tryz.prog 20 #[cnd nm op k n x s y] w fun e w' => e = .returned (.bool (cvoidB ⟨⟨nm, k, n, x, s, y⟩, op⟩)) ∧ Below w.heap.size w w' := by
  have hv := fun W => void_c k n x s y W
  unfold cvoidB
  simp only []
  generalize voidB k x = b at *
  have HV := Lib.hid hv; clear hv
  cases h7 : (op == 7)
  · cases h6 : (op == 6)
    · go_enter Tryz.func20, Tryz.ntmps20
      go_wp2_with fail
      refine (HV.out _).mono ?_
      rintro e w1 ⟨rfl, hb⟩
      have HB := Lib.hid hb; clear hb
      go_wp2
      go_ret
      exact ⟨rfl, ((Below.refl _ _).alloc (Nat.le_refl _) _).trans (HB.out.mono (by simp))⟩
    · go_enter Tryz.func20, Tryz.ntmps20
      go_wp2
      go_ret
      exact ⟨rfl, (Below.refl _ _).alloc (Nat.le_refl _) _⟩
  · go_enter Tryz.func20, Tryz.ntmps20
    go_wp2
    go_ret
    exact ⟨rfl, (Below.refl _ _).alloc (Nat.le_refl _) _⟩

set_option maxHeartbeats 2000000 in
theorem holds_c (nm : ByteArray) (op k n : Int) (x : Nat) (s : ByteArray) (y : Bool) (nm2 : ByteArray) (k2 n2 : Int) (x2 : Nat) (s2 : ByteArray) (y2 : Bool) (hx : x < 18446744073709551616) (hx2 : x2 < 18446744073709551616) (w : World) :
    Calls Tryz.prog 18 #[cnd nm op k n x s y, val k2 n2 x2 s2 y2] w fun e w' => e = .returned (.bool (holdsB ⟨⟨nm, k, n, x, s, y⟩, op⟩ ⟨nm2, k2, n2, x2, s2, y2⟩)) ∧ Below w.heap.size w w' := by
  have B0 : Below w.heap.size w ((w.alloc (.cells (cnds nm op k n x s y) 26)).alloc (.cells (vals k2 n2 x2 s2 y2) 24)) := ((Below.refl _ _).alloc (Nat.le_refl _) _).alloc (by simp) _
  have HB0 := Lib.hid B0; clear B0
  have hc := fun W => compare_any k2 n2 k n x2 x s2 s y2 y W hx2 hx
  have hp := fun W => Tryz.strings_HasPrefix s2 s W
  have hst := fun r W => stands_c op r W
  unfold holdsB okA cmpA preB
  simp only []
  have hcv : cmpOk k2 x2 k x = true → cmpR k2 n2 x2 s2 y2 k n x s y = cmpV k2 n2 n x2 x s2 s y2 y := fun h => by unfold cmpR; rw [h]; rfl
  generalize cmpR k2 n2 x2 s2 y2 k n x s y = r at *
  generalize cmpV k2 n2 n x2 x s2 s y2 y = r2 at *
  generalize cmpOk k2 x2 k x = b at *
  generalize Lib.hasPrefix s2.data.toList s.data.toList = p at *
  have HC := Lib.hid hc; have HP := Lib.hid hp; have HST := Lib.hid hst; have HCV := Lib.hid hcv
  clear hc hp hst hcv hx hx2
  cases h7 : (op == 7)
  · cases h6 : (op == 6)
    · cases b
      · go_enter Tryz.func18, Tryz.ntmps18
        go_wp2_with fail
        refine (HC.out _).mono ?_
        rintro e w1 ⟨rfl, hb⟩
        have hA1 : Below (w.heap.size + 2) ((w.alloc (.cells (cnds nm op k n x s y) 26)).alloc (.cells (vals k2 n2 x2 s2 y2) 24)) w1 := by simpa using hb
        have HA1 := Lib.hid hA1; clear hb hA1
        go_wp2_with fail
        go_ret
        exact ⟨rfl, HB0.out.trans (HA1.out.mono (by omega))⟩
      · have e2 := HCV.out rfl
        subst e2
        generalize hS : standsB op r = q at *
        go_enter Tryz.func18, Tryz.ntmps18
        go_wp2_with fail
        refine (HC.out _).mono ?_
        rintro e w1 ⟨rfl, hb⟩
        have hA1 : Below (w.heap.size + 2) ((w.alloc (.cells (cnds nm op k n x s y) 26)).alloc (.cells (vals k2 n2 x2 s2 y2) 24)) w1 := by simpa using hb
        have c1 := (two_lay hA1).1 1 _ rfl
        have HA1 := Lib.hid hA1; clear hb hA1
        go_wp2_with fail
        refine (HST.out _ _).mono ?_
        rintro e w2 ⟨rfl, rfl⟩
        go_wp2_with fail
        go_ret
        exact ⟨by first | rfl | rw [hS] | (rw [hS]; rfl), HB0.out.trans (HA1.out.mono (by omega))⟩
    · cases hk : (k == 2)
      · go_enter Tryz.func18, Tryz.ntmps18
        go_wp2
        go_ret
        exact ⟨rfl, HB0.out⟩
      · cases hk2 : (k2 == 2)
        · go_enter Tryz.func18, Tryz.ntmps18
          go_wp2
          go_ret
          exact ⟨rfl, HB0.out⟩
        · go_enter Tryz.func18, Tryz.ntmps18
          go_wp2_with fail
          refine (HP.out _).mono ?_
          rintro e w1 ⟨rfl, rfl⟩
          go_wp2_with fail
          go_ret
          exact ⟨rfl, HB0.out⟩
  · go_enter Tryz.func18, Tryz.ntmps18
    go_wp2
    go_ret
    exact ⟨rfl, HB0.out⟩

end Go.Proofs.YtjeippdfgojdnaaGreatDoor
