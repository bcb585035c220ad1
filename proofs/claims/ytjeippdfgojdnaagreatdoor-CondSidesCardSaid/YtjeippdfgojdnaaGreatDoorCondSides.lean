/- CondSides: of a number and its own value the six comparisons tell what they should. -/
import Derived.Test.YtjeippdfgojdnaaGreatDoorCondT
import Derived.Deep.RegionHeld
import Derived.Deep.DeepCutAuto
namespace Go.Proofs.YtjeippdfgojdnaaGreatDoor
open Go.RowKit Go.Shelf
open Go.Proofs
set_option maxRecDepth 100000

/-- What a value's own six comparisons tell. -/
def sideB (j : Nat) (v : Bool) : Bool := (j == 0 || j == 3 || j == 5) && !v
theorem sides_p (a : At) (j : Nat) (hj : j < 6) : holdsB ⟨a, (j : Int)⟩ a = sideB j (voidB a.k a.x) := by
  have hz := cmpA_self a
  have h7 : ((j : Int) == 7) = false := by simp; omega
  have h6 : ((j : Int) == 6) = false := by simp; omega
  unfold holdsB
  simp only [h7, h6, Bool.false_eq_true, if_false, hz]
  cases hv : voidB a.k a.x
  · rw [okA_mk rfl hv hv]
    match j, hj with
    | 0, _ => rfl
    | 1, _ => rfl
    | 2, _ => rfl
    | 3, _ => rfl
    | 4, _ => rfl
    | 5, _ => rfl
  · have : okA a a = false := by unfold okA cmpOk; rw [hv]; simp
    rw [this]; unfold sideB; simp
theorem sides_holds {nm nm2 : ByteArray} {op k n : Int} {x : Nat} {s : ByteArray} {y : Bool} (v : At) : holdsB ⟨⟨nm, k, n, x, s, y⟩, op⟩ v = holdsB ⟨⟨nm2, k, n, x, s, y⟩, op⟩ v := rfl

@[local go_sem] theorem idx_0 (w : World) : (Instr.index 52 (.agg #[.bool true, .bool false, .bool false, .bool true, .bool false, .bool true]) (.int .i64 0)).run Tryz.prog w = .ok (.bool true) w := by kernel_rfl
@[local go_sem] theorem idx_1 (w : World) : (Instr.index 52 (.agg #[.bool true, .bool false, .bool false, .bool true, .bool false, .bool true]) (.int .i64 1)).run Tryz.prog w = .ok (.bool false) w := by kernel_rfl
@[local go_sem] theorem idx_2 (w : World) : (Instr.index 52 (.agg #[.bool true, .bool false, .bool false, .bool true, .bool false, .bool true]) (.int .i64 2)).run Tryz.prog w = .ok (.bool false) w := by kernel_rfl
@[local go_sem] theorem idx_3 (w : World) : (Instr.index 52 (.agg #[.bool true, .bool false, .bool false, .bool true, .bool false, .bool true]) (.int .i64 3)).run Tryz.prog w = .ok (.bool true) w := by kernel_rfl
@[local go_sem] theorem idx_4 (w : World) : (Instr.index 52 (.agg #[.bool true, .bool false, .bool false, .bool true, .bool false, .bool true]) (.int .i64 4)).run Tryz.prog w = .ok (.bool false) w := by kernel_rfl
@[local go_sem] theorem idx_5 (w : World) : (Instr.index 52 (.agg #[.bool true, .bool false, .bool false, .bool true, .bool false, .bool true]) (.int .i64 5)).run Tryz.prog w = .ok (.bool true) w := by kernel_rfl
set_option maxHeartbeats 8000000 in
theorem condSides_c (k n : Int) (x : Nat) (s : ByteArray) (y : Bool) (hx : x < 18446744073709551616) (w : World) (hw : Wds w) :
    Calls Tryz.prog 9 #[val k n x s y] w fun e w' => e = .returned (.bool true) ∧ Below w.heap.size w w' := by
  have B0 : Below w.heap.size w (w.alloc (.cells (vals k n x s y) 24)) := (Below.refl _ _).alloc (Nat.le_refl _) _
  have HB0 := Lib.hid B0; clear B0
  have HF : Aside (∀ W, Below w.heap.size w W → Calls Tryz.prog 13 #[] W fun e w' => e = .returned (.bool true) ∧ Below W.heap.size W w') := fun W hW => fit6_c W (hw.on hW)
  have HR : Aside (∀ W, Calls Tryz.prog 16 #[val k n x s y] W fun e w' => e = .returned (.bool (vrightB k s)) ∧ Below W.heap.size W w') := fun W => vright_c k n x s y W
  have HJ : Aside (∀ (j : Nat) W, j < 6 → Calls Tryz.prog 18 #[cnd ⟨#[97]⟩ (j : Int) k n x s y, val k n x s y] W fun e w' => e = .returned (.bool (sideB j (voidB k x))) ∧ Below W.heap.size W w') := fun j W hj => by
    have := holds_c ⟨#[97]⟩ (j : Int) k n x s y ⟨#[97]⟩ k n x s y hx hx W
    rw [sides_p ⟨⟨#[97]⟩, k, n, x, s, y⟩ j hj] at this
    exact this
  have HJ0 : Aside (∀ W, Calls Tryz.prog 18 #[cnd ⟨#[97]⟩ 0 k n x s y, val k n x s y] W fun e w' => e = .returned (.bool (true && !(voidB k x))) ∧ Below W.heap.size W w') := fun W => HJ.out 0 W (by decide)
  have HJ1 : Aside (∀ W, Calls Tryz.prog 18 #[cnd ⟨#[97]⟩ 1 k n x s y, val k n x s y] W fun e w' => e = .returned (.bool (false && !(voidB k x))) ∧ Below W.heap.size W w') := fun W => HJ.out 1 W (by decide)
  have HJ2 : Aside (∀ W, Calls Tryz.prog 18 #[cnd ⟨#[97]⟩ 2 k n x s y, val k n x s y] W fun e w' => e = .returned (.bool (false && !(voidB k x))) ∧ Below W.heap.size W w') := fun W => HJ.out 2 W (by decide)
  have HJ3 : Aside (∀ W, Calls Tryz.prog 18 #[cnd ⟨#[97]⟩ 3 k n x s y, val k n x s y] W fun e w' => e = .returned (.bool (true && !(voidB k x))) ∧ Below W.heap.size W w') := fun W => HJ.out 3 W (by decide)
  have HJ4 : Aside (∀ W, Calls Tryz.prog 18 #[cnd ⟨#[97]⟩ 4 k n x s y, val k n x s y] W fun e w' => e = .returned (.bool (false && !(voidB k x))) ∧ Below W.heap.size W w') := fun W => HJ.out 4 W (by decide)
  have HJ5 : Aside (∀ W, Calls Tryz.prog 18 #[cnd ⟨#[97]⟩ 5 k n x s y, val k n x s y] W fun e w' => e = .returned (.bool (true && !(voidB k x))) ∧ Below W.heap.size W w') := fun W => HJ.out 5 W (by decide)
  clear HJ
  have H7 : Aside (∀ W, Calls Tryz.prog 18 #[cnd ⟨#[97]⟩ 7 0 0 0 ⟨#[]⟩ false, val k n x s y] W fun e w' => e = .returned (.bool true) ∧ Below W.heap.size W w') := fun W =>
    holds_c ⟨#[97]⟩ 7 0 0 0 ⟨#[]⟩ false ⟨#[97]⟩ k n x s y (by decide) hx W
  have H6 : Aside (∀ W, Calls Tryz.prog 18 #[cnd ⟨#[97]⟩ 6 k n x s y, val k n x s y] W fun e w' => e = .returned (.bool (k == 2)) ∧ Below W.heap.size W w') := fun W => by
    have := holds_c ⟨#[97]⟩ 6 k n x s y ⟨#[97]⟩ k n x s y hx hx W
    have e : holdsB ⟨⟨⟨#[97]⟩, k, n, x, s, y⟩, 6⟩ ⟨⟨#[97]⟩, k, n, x, s, y⟩ = (k == 2) := by
      unfold holdsB
      simp [preB_refl]
    rw [e] at this
    exact this
  have H8 : Aside (∀ W, Calls Tryz.prog 18 #[cnd ⟨#[97]⟩ 8 k n x s y, val k n x s y] W fun e w' => e = .returned (.bool false) ∧ Below W.heap.size W w') := fun W => by
    have := holds_c ⟨#[97]⟩ 8 k n x s y ⟨#[97]⟩ k n x s y hx hx W
    have e : holdsB ⟨⟨⟨#[97]⟩, k, n, x, s, y⟩, 8⟩ ⟨⟨#[97]⟩, k, n, x, s, y⟩ = false := by
      unfold holdsB
      simp [standsB]
    rw [e] at this
    exact this
  have hnx := neq_self x
  clear hw hx
  have HKP : Aside (∀ W, Below (w.heap.size + 1) (w.alloc (.cells (vals k n x s y) 24)) W → (W.cell? ⟨w.heap.size, 0, none⟩ = some (.int .i64 k) ∧ W.cell? ⟨w.heap.size, 1, none⟩ = some (.int .i64 n) ∧ W.cell? ⟨w.heap.size, 2, none⟩ = some (.float .f64 x) ∧ W.cell? ⟨w.heap.size, 3, none⟩ = some (.string s) ∧ W.cell? ⟨w.heap.size, 4, none⟩ = some (.bool y))) :=
    fun W hW => ⟨one_lay hW 0 _ rfl, one_lay hW 1 _ rfl, one_lay hW 2 _ rfl, one_lay hW 3 _ rfl, one_lay hW 4 _ rfl⟩
  by_cases hl : (300 : Int) < (s.size : Int)
  · go_enter Tryz.func9, Tryz.ntmps9
    go_wp2_with fail
    refine (HF.out _ HB0.out).mono ?_
    rintro e w1 ⟨rfl, hb⟩
    have hA1 : Below (w.heap.size + 1) (w.alloc (.cells (vals k n x s y) 24)) w1 := by simpa using hb
    have HA1 := Lib.hid hA1; clear hb hA1
    obtain ⟨a0, a1, a2, a3, a4⟩ := HKP.out _ HA1.out
    go_wp2_with fail
    go_ret
    exact ⟨rfl, HB0.out.trans (HA1.out.mono (by omega))⟩
  · generalize hr : vrightB k s = r at HR
    cases r
    · clear hr
      go_enter Tryz.func9, Tryz.ntmps9
      go_wp2_with fail
      refine (HF.out _ HB0.out).mono ?_
      rintro e w1 ⟨rfl, hb⟩
      have hA1 : Below (w.heap.size + 1) (w.alloc (.cells (vals k n x s y) 24)) w1 := by simpa using hb
      have z1 : w.heap.size + 1 ≤ w1.heap.size := by have := hA1.size; simpa using this
      have HA1 := Lib.hid hA1; clear hb hA1
      obtain ⟨a0, a1, a2, a3, a4⟩ := HKP.out _ HA1.out
      go_wp2_with fail
      refine (HR.out _).mono ?_
      rintro e w2 ⟨rfl, hb⟩
      have HA2 := Lib.hid (HA1.out.trans (hb.mono z1)); clear hb
      go_wp2_with fail
      go_ret
      exact ⟨rfl, HB0.out.trans (HA2.out.mono (by omega))⟩
    · clear hr
      obtain ⟨v, hv⟩ : ∃ v, v = voidB k x := ⟨_, rfl⟩
      have hv2 : v = (k == 1 && fnan x) := hv
      rw [← hv] at HJ0 HJ1 HJ2 HJ3 HJ4 HJ5
      clear hv
      go_enter Tryz.func9, Tryz.ntmps9
      go_wp2_with fail
      refine (HF.out _ HB0.out).mono ?_
      rintro e w1 ⟨rfl, hb⟩
      have hA1 : Below (w.heap.size + 1) (w.alloc (.cells (vals k n x s y) 24)) w1 := by simpa using hb
      have z1 : w.heap.size + 1 ≤ w1.heap.size := by have := hA1.size; simpa using this
      have HA1 := Lib.hid hA1; clear hb hA1
      obtain ⟨a0, a1, a2, a3, a4⟩ := HKP.out _ HA1.out
      go_wp2_with fail
      clear a0 a1 a2 a3 a4
      refine (HR.out _).mono ?_
      rintro e w2 ⟨rfl, hb⟩
      have HA2 := Lib.hid (HA1.out.trans (hb.mono z1)); clear hb
      have z2 : w.heap.size + 1 ≤ w2.heap.size := by have := HA2.out.size; simpa using this
      obtain ⟨a0, a1, a2, a3, a4⟩ := HKP.out _ HA2.out
      clear HF HR
      go_upto_region 5 with fail
      go_cut [3] (fun s3 wx => s3 = .bool v ∧ wx = w2)
      case first =>
        clear HJ0 HJ1 HJ2 HJ3 HJ4 HJ5 H6 H7 H8 HKP
        cases hk1 : (k == 1) <;> rw [hk1] at hv2 <;> simp only [Bool.true_and, Bool.false_and] at hv2 <;> subst hv2
        all_goals
          go_wp2_with fail
          go_meet
          exact ⟨rfl, rfl⟩
      case rest =>
        obtain ⟨rfl, hwc⟩ := hcut
        rw [hwc]
        clear hwc wc hnx hv2
        go_upto_region 6 with fail
        go_cut [27, 28] (fun s27 s28 wx => s27 = .agg #[.bool true, .bool false, .bool false, .bool true, .bool false, .bool true] ∧ s28 = .int .i64 0 ∧ wx = w2)
        case first =>
          go_wp2_with fail
          go_meet
          exact ⟨rfl, rfl, rfl⟩
        case rest =>
        obtain ⟨rfl, rfl, hwc⟩ := hcut
        rw [hwc]
        clear hwc wc
        refine ‹∀ a w, Code.wp Tryz.prog _ _ a w → _› _ _ ?_
        go_cut [4] (fun _ wx => Aside (Below (w.heap.size + 1) (w.alloc (.cells (vals k n x s y) 24)) wx))
        case first =>
          clear H6 H7 H8
          cases v
          all_goals
            go_wp2_with fail
            clear a0 a1 a2 a3 a4
            go_loopg [28] 6 (fun kx s28 wr => ∃ (j : Nat) (z : Int), s28 = .int .i64 z ∧ z = (j : Int) ∧ j ≤ 6 ∧ 6 - j ≤ kx ∧ Aside (Below (w.heap.size + 1) (w.alloc (.cells (vals k n x s y) 24)) wr))
            case atStart => exact ⟨0, 0, rfl, rfl, Nat.zero_le _, by omega, HA2.out⟩
            case round =>
              obtain ⟨j, z, rfl, hz, hj, hjx, HA⟩ := hrel
              have z3 : w.heap.size + 1 ≤ wr.heap.size := by have := HA.out.size; simpa using this
              obtain ⟨a0, a1, a2, a3, a4⟩ := HKP.out _ HA.out
              rcases (show j = 0 ∨ j = 1 ∨ j = 2 ∨ j = 3 ∨ j = 4 ∨ j = 5 ∨ j = 6 by omega) with rfl | rfl | rfl | rfl | rfl | rfl | rfl
              · obtain rfl : z = 0 := by simpa using hz
                clear hz hj
                go_wp2_with fail
                refine (HJ0.out _).mono ?_
                rintro e w4 ⟨rfl, hb⟩
                have HA4 := Lib.hid (HA.out.trans (hb.mono z3)); clear hb
                go_wp2_with fail
                go_roundg (6 - 1)
                case measure => omega
                case rel => exact ⟨1, _, rfl, by decide, by omega, by omega, HA4.out⟩
              · obtain rfl : z = 1 := by simpa using hz
                clear hz hj
                go_wp2_with fail
                refine (HJ1.out _).mono ?_
                rintro e w4 ⟨rfl, hb⟩
                have HA4 := Lib.hid (HA.out.trans (hb.mono z3)); clear hb
                go_wp2_with fail
                go_roundg (6 - 2)
                case measure => omega
                case rel => exact ⟨2, _, rfl, by decide, by omega, by omega, HA4.out⟩
              · obtain rfl : z = 2 := by simpa using hz
                clear hz hj
                go_wp2_with fail
                refine (HJ2.out _).mono ?_
                rintro e w4 ⟨rfl, hb⟩
                have HA4 := Lib.hid (HA.out.trans (hb.mono z3)); clear hb
                go_wp2_with fail
                go_roundg (6 - 3)
                case measure => omega
                case rel => exact ⟨3, _, rfl, by decide, by omega, by omega, HA4.out⟩
              · obtain rfl : z = 3 := by simpa using hz
                clear hz hj
                go_wp2_with fail
                refine (HJ3.out _).mono ?_
                rintro e w4 ⟨rfl, hb⟩
                have HA4 := Lib.hid (HA.out.trans (hb.mono z3)); clear hb
                go_wp2_with fail
                go_roundg (6 - 4)
                case measure => omega
                case rel => exact ⟨4, _, rfl, by decide, by omega, by omega, HA4.out⟩
              · obtain rfl : z = 4 := by simpa using hz
                clear hz hj
                go_wp2_with fail
                refine (HJ4.out _).mono ?_
                rintro e w4 ⟨rfl, hb⟩
                have HA4 := Lib.hid (HA.out.trans (hb.mono z3)); clear hb
                go_wp2_with fail
                go_roundg (6 - 5)
                case measure => omega
                case rel => exact ⟨5, _, rfl, by decide, by omega, by omega, HA4.out⟩
              · obtain rfl : z = 5 := by simpa using hz
                clear hz hj
                go_wp2_with fail
                refine (HJ5.out _).mono ?_
                rintro e w4 ⟨rfl, hb⟩
                have HA4 := Lib.hid (HA.out.trans (hb.mono z3)); clear hb
                go_wp2_with fail
                go_roundg (6 - 6)
                case measure => omega
                case rel => exact ⟨6, _, rfl, by decide, by omega, by omega, HA4.out⟩
              · obtain rfl : z = 6 := by simpa using hz
                clear hz hj
                go_wp2_with fail
                go_meet
                exact HA.out
        case rest =>
          have HA : Aside (Below (w.heap.size + 1) (w.alloc (.cells (vals k n x s y) 24)) wc) := hcut
          clear hcut HJ0 HJ1 HJ2 HJ3 HJ4 HJ5 HA1 HA2 z1 z2 a0 a1 a2 a3 a4
          have HD : Aside (Below (w.heap.size + 1) (w.alloc (.cells (vals k n x s y) 24)) wc.drew) := HA.out.trans ⟨rfl, rfl, rfl, Nat.le_refl _, fun _ _ => rfl⟩
          obtain ⟨q, hq⟩ : ∃ q, q = (k == 2) := ⟨_, rfl⟩
          have hk2 : (k == 2) = q := hq.symm
          rw [hk2] at H6
          clear hq hl
          go_upto_region 12 with fail
          cases q
          all_goals
            first
            | go_region_held (fun w' => Below (w.heap.size + 1) (w.alloc (.cells (vals k n x s y) 24)) w' ∧ w'.cell? ⟨w.heap.size, 0, none⟩ = some (.int .i64 k) ∧ w'.cell? ⟨w.heap.size, 1, none⟩ = some (.int .i64 n) ∧ w'.cell? ⟨w.heap.size, 2, none⟩ = some (.float .f64 x) ∧ w'.cell? ⟨w.heap.size, 3, none⟩ = some (.string s) ∧ w'.cell? ⟨w.heap.size, 4, none⟩ = some (.bool y))
                (first | exact ⟨HB9.out, HKP.out _ HB9.out⟩ | exact ⟨HB8.out, HKP.out _ HB8.out⟩ | exact ⟨HB7.out, HKP.out _ HB7.out⟩ | exact ⟨HD.out, HKP.out _ HD.out⟩)
                (first
                  | (go_at_call 18; with_reducible refine (H7.out _).mono ?_; rintro e w7 ⟨rfl, hb⟩; have HB7 := Lib.hid (HD.out.trans (hb.mono (by have := HD.out.size; simpa using this))); clear hb)
                  | (go_at_call 18; with_reducible refine (H6.out _).mono ?_; rintro e w8 ⟨rfl, hb⟩; have HB8 := Lib.hid (HB7.out.trans (hb.mono (by have := HB7.out.size; simpa using this))); clear hb)
                  | (go_at_call 18; with_reducible refine (H8.out _).mono ?_; rintro e w9 ⟨rfl, hb⟩; have HB9 := Lib.hid (HB8.out.trans (hb.mono (by have := HB8.out.size; simpa using this))); clear hb))
            | fail "region"
            all_goals
              go_wp2_with fail
              go_ret
              exact ⟨rfl, HB0.out.trans (HB9.out.mono (by omega))⟩
end Go.Proofs.YtjeippdfgojdnaaGreatDoor
