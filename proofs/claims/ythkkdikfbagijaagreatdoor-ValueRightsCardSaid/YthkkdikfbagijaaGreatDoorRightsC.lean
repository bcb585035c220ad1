/- The law's walk, one way of the four (c). -/
import Derived.Test.YthkkdikfbagijaaGreatDoorRightsBase
namespace Go.Proofs.YthkkdikfbagijaaGreatDoor
open Go.RowKit
set_option maxRecDepth 100000

set_option maxHeartbeats 8000000 in
theorem rights_cy (k n : Int) (x : Nat) (s : ByteArray) (y : Bool) (i : Int) (m : Nat) (hm : m < 128) (hk : bits .and .i64 i 127 = (m : Int)) (w : World) (hT : Tabs w) (l : decide ((300 : Int) < (s.size : Int)) = false)
    (g1 : decide (0 ≤ k) = true) (g2 : decide (k ≤ 3) = true) (g3 : decide ((s.size : Int) ≤ 40) = false) (g4 : decide ((m : Int) ≤ 40) = true) :
    Calls Tryz.prog 3 #[val k n x s y, .int .i64 i] w fun e w' => e = .returned (.bool true) ∧ Below w.heap.size w w' := by
  have hg : 20 < w.heap.size := World.block_lt_of_cell? w ⟨20, _, none⟩ (hT.pow 0 (by decide)).1
  have HT := Lib.hid (hT.on (show Below w.heap.size w (w.alloc (.cells (vals k n x s y) 24)) from (Below.refl _ _).alloc (Nat.le_refl _) _)); clear hT
  have r1 : rightB k s = false := by unfold rightB; rw [g1, g2, g3]; rfl
  have r2 : rightB 2 (xs m) = true := by unfold rightB; rw [xs_size, g4]; rfl
  have R1 := Lib.hid r1; have R2 := Lib.hid r2; clear r1 r2
  go_enter Tryz.func3, Tryz.ntmps3
  go_wp2_with fail
  refine (fit_c _ HT.out (by simp; omega)).mono ?_
  rintro e w1 ⟨rfl, hb1⟩
  have hb : Below (w.heap.size + 1) (w.alloc (.cells (vals k n x s y) 24)) w1 := by simpa using hb1
  have HV := Lib.hid (held_new hb)
  have S1 := Lib.hid (step_of hb).1
  have Z1 := Lib.hid (step_of hb).2
  have HT1 := Lib.hid (HT.out.on hb1)
  have a3 := HV.out 3 _ rfl
  clear hb hb1
  go_wp2_with fail
  clear a3
  go_loop [5, 18] (fun a b => ∃ j : Nat, j ≤ m ∧ a = .string (xs j) ∧ b = .int .i64 j) (fun a b => m - (RowKit.intOf b).toNat)
  case atStart => exact ⟨0, Nat.zero_le _, by rw [xs_zero], rfl⟩
  case round =>
    obtain ⟨j, hj, rfl, rfl⟩ := hrel
    by_cases hjm : j < m
    · have hsz := xs_size j
      go_wp2
      go_round
      case rel => exact ⟨j + 1, by omega, by rw [xs_succ], by go_num⟩
      case measure => simp [RowKit.intOf]; omega
    · obtain rfl : j = m := by omega
      have B1 : Below w1.heap.size w1 (w1.alloc (.cells (vals 2 0 0 (xs j) false) 24)) := (Below.refl _ _).alloc (Nat.le_refl _) _
      have HTB := Lib.hid (HT1.out.on B1); clear B1
      go_wp2_with fail
      refine (printX_c 0 0 j false _ HTB.out hm).mono ?_
      rintro e w2 ⟨rfl, hb2⟩
      have hb : Below (w1.heap.size + 1) (w1.alloc (.cells (vals 2 0 0 (xs j) false) 24)) w2 := by simpa using hb2
      have HU := Lib.hid (held_new hb)
      have S2 := Lib.hid (step_of hb).1
      have Z2 := Lib.hid (step_of hb).2
      have HT2 := Lib.hid (HTB.out.on hb2)
      clear hb hb2
      go_wp2_with fail
      refine (readX_yes j hm _ HT2.out R2.out).mono ?_
      rintro e w3 ⟨rfl, hb3⟩
      have B4 : Below w3.heap.size w3 (w3.alloc (.cells (vals 2 0 0 (xs j) false) 24)) := (Below.refl _ _).alloc (Nat.le_refl _) _
      have z3 := hb3.size
      have HVa := Lib.hid (((HV.out.on Z1.out S2.out).on (by have := Z1.out; have := Z2.out; omega) hb3).on (by have := Z1.out; have := Z2.out; omega) B4)
      have HUa := Lib.hid ((HU.out.on Z2.out hb3).on (by have := Z2.out; omega) B4)
      have ZV := Lib.hid (show w.heap.size < (w3.alloc (.cells (vals 2 0 0 (xs j) false) 24)).heap.size from by have := Z1.out; have := Z2.out; rw [World.size_alloc]; omega)
      have ZU := Lib.hid (show w1.heap.size < (w3.alloc (.cells (vals 2 0 0 (xs j) false) 24)).heap.size from by have := Z2.out; rw [World.size_alloc]; omega)
      have HB := Lib.hid (show Below w.heap.size w (w3.alloc (.cells (vals 2 0 0 (xs j) false) 24)) from S1.out.trans ((S2.out.trans ((hb3.trans (B4.mono z3)).mono (by have := Z2.out; omega))).mono (by have := Z1.out; omega)))
      have hS0 := sr_of (show RS w ((w3.alloc (.cells (vals 2 0 0 (xs j) false) 24)).drew) w.heap.size w1.heap.size (vals k n x s y) (vals 2 0 0 (xs j) false) from RS.on ⟨HVa.out, HUa.out, ZV.out, ZU.out, HB.out⟩ (Below.refl _ _).drew)
      have HS0 := Lib.hid hS0
      clear HV HU B4 z3 hb3 HTB HT1 HT2 hS0
      have a0 := HVa.out 0 _ rfl; have a1 := HVa.out 1 _ rfl; have a2 := HVa.out 2 _ rfl; have a3 := HVa.out 3 _ rfl; have a4 := HVa.out 4 _ rfl
      have b0 := HUa.out 0 _ rfl; have b1 := HUa.out 1 _ rfl; have b2 := HUa.out 2 _ rfl; have b3 := HUa.out 3 _ rfl; have b4 := HUa.out 4 _ rfl
      go_wp2_with fail
      clear a0 a1 a2 a3 a4 b0 b1 b2 b3 b4
      first
      | go_region_held3 (fun w' => RS w w' w.heap.size w1.heap.size (vals k n x s y) (vals 2 0 0 (xs j) false) ∧
          w'.cell? ⟨w.heap.size, 0, none⟩ = some (.int .i64 k) ∧ w'.cell? ⟨w.heap.size, 1, none⟩ = some (.int .i64 n) ∧ w'.cell? ⟨w.heap.size, 2, none⟩ = some (.float .f64 x) ∧ w'.cell? ⟨w.heap.size, 3, none⟩ = some (.string s) ∧ w'.cell? ⟨w.heap.size, 4, none⟩ = some (.bool y) ∧
          w'.cell? ⟨w1.heap.size, 0, none⟩ = some (.int .i64 2) ∧ w'.cell? ⟨w1.heap.size, 1, none⟩ = some (.int .i64 0) ∧ w'.cell? ⟨w1.heap.size, 2, none⟩ = some (.float .f64 0) ∧ w'.cell? ⟨w1.heap.size, 3, none⟩ = some (.string (xs j)) ∧ w'.cell? ⟨w1.heap.size, 4, none⟩ = some (.bool false))
        (first | exact hSn | exact HS0.out)
        (first
          | (go_at_call_of 7 s; refine (right_c k n x s y _).mono ?_; rw [R1.out]; rintro e w' ⟨rfl, hb⟩; (first | have hSn := sr_on hSn hb | have hSn := sr_on HS0.out hb); clear hb)
          | (go_at_call_of 7 (xs j); refine (right_c 2 0 0 (xs j) false _).mono ?_; rw [R2.out]; rintro e w' ⟨rfl, hb⟩; (first | have hSn := sr_on hSn hb | have hSn := sr_on HS0.out hb); clear hb))
      | fail "the region"
      all_goals (go_wp2; go_ret; exact ⟨rfl, hSn.1.2.2.2.2⟩)
set_option maxHeartbeats 8000000 in
theorem rights_cn (k n : Int) (x : Nat) (s : ByteArray) (y : Bool) (i : Int) (m : Nat) (hm : m < 128) (hk : bits .and .i64 i 127 = (m : Int)) (w : World) (hT : Tabs w) (l : decide ((300 : Int) < (s.size : Int)) = false)
    (g1 : decide (0 ≤ k) = true) (g2 : decide (k ≤ 3) = true) (g3 : decide ((s.size : Int) ≤ 40) = false) (g4 : decide ((m : Int) ≤ 40) = false) :
    Calls Tryz.prog 3 #[val k n x s y, .int .i64 i] w fun e w' => e = .returned (.bool true) ∧ Below w.heap.size w w' := by
  have hg : 20 < w.heap.size := World.block_lt_of_cell? w ⟨20, _, none⟩ (hT.pow 0 (by decide)).1
  have HT := Lib.hid (hT.on (show Below w.heap.size w (w.alloc (.cells (vals k n x s y) 24)) from (Below.refl _ _).alloc (Nat.le_refl _) _)); clear hT
  have r1 : rightB k s = false := by unfold rightB; rw [g1, g2, g3]; rfl
  have r2 : rightB 2 (xs m) = false := by unfold rightB; rw [xs_size, g4]; rfl
  have R1 := Lib.hid r1; have R2 := Lib.hid r2; clear r1 r2
  go_enter Tryz.func3, Tryz.ntmps3
  go_wp2_with fail
  refine (fit_c _ HT.out (by simp; omega)).mono ?_
  rintro e w1 ⟨rfl, hb1⟩
  have hb : Below (w.heap.size + 1) (w.alloc (.cells (vals k n x s y) 24)) w1 := by simpa using hb1
  have HV := Lib.hid (held_new hb)
  have S1 := Lib.hid (step_of hb).1
  have Z1 := Lib.hid (step_of hb).2
  have HT1 := Lib.hid (HT.out.on hb1)
  have a3 := HV.out 3 _ rfl
  clear hb hb1
  go_wp2_with fail
  clear a3
  go_loop [5, 18] (fun a b => ∃ j : Nat, j ≤ m ∧ a = .string (xs j) ∧ b = .int .i64 j) (fun a b => m - (RowKit.intOf b).toNat)
  case atStart => exact ⟨0, Nat.zero_le _, by rw [xs_zero], rfl⟩
  case round =>
    obtain ⟨j, hj, rfl, rfl⟩ := hrel
    by_cases hjm : j < m
    · have hsz := xs_size j
      go_wp2
      go_round
      case rel => exact ⟨j + 1, by omega, by rw [xs_succ], by go_num⟩
      case measure => simp [RowKit.intOf]; omega
    · obtain rfl : j = m := by omega
      have B1 : Below w1.heap.size w1 (w1.alloc (.cells (vals 2 0 0 (xs j) false) 24)) := (Below.refl _ _).alloc (Nat.le_refl _) _
      have HTB := Lib.hid (HT1.out.on B1); clear B1
      go_wp2_with fail
      refine (printX_c 0 0 j false _ HTB.out hm).mono ?_
      rintro e w2 ⟨rfl, hb2⟩
      have hb : Below (w1.heap.size + 1) (w1.alloc (.cells (vals 2 0 0 (xs j) false) 24)) w2 := by simpa using hb2
      have HU := Lib.hid (held_new hb)
      have S2 := Lib.hid (step_of hb).1
      have Z2 := Lib.hid (step_of hb).2
      have HT2 := Lib.hid (HTB.out.on hb2)
      clear hb hb2
      go_wp2_with fail
      refine (readX_no j hm _ HT2.out R2.out).mono ?_
      rintro e w3 ⟨rfl, hb3⟩
      have B4 : Below w3.heap.size w3 (w3.alloc (.cells (vals 0 0 0 ⟨#[]⟩ false) 24)) := (Below.refl _ _).alloc (Nat.le_refl _) _
      have z3 := hb3.size
      have HVa := Lib.hid (((HV.out.on Z1.out S2.out).on (by have := Z1.out; have := Z2.out; omega) hb3).on (by have := Z1.out; have := Z2.out; omega) B4)
      have HUa := Lib.hid ((HU.out.on Z2.out hb3).on (by have := Z2.out; omega) B4)
      have ZV := Lib.hid (show w.heap.size < (w3.alloc (.cells (vals 0 0 0 ⟨#[]⟩ false) 24)).heap.size from by have := Z1.out; have := Z2.out; rw [World.size_alloc]; omega)
      have ZU := Lib.hid (show w1.heap.size < (w3.alloc (.cells (vals 0 0 0 ⟨#[]⟩ false) 24)).heap.size from by have := Z2.out; rw [World.size_alloc]; omega)
      have HB := Lib.hid (show Below w.heap.size w (w3.alloc (.cells (vals 0 0 0 ⟨#[]⟩ false) 24)) from S1.out.trans ((S2.out.trans ((hb3.trans (B4.mono z3)).mono (by have := Z2.out; omega))).mono (by have := Z1.out; omega)))
      have hS0 := sr_of (show RS w ((w3.alloc (.cells (vals 0 0 0 ⟨#[]⟩ false) 24)).drew) w.heap.size w1.heap.size (vals k n x s y) (vals 2 0 0 (xs j) false) from RS.on ⟨HVa.out, HUa.out, ZV.out, ZU.out, HB.out⟩ (Below.refl _ _).drew)
      have HS0 := Lib.hid hS0
      clear HV HU B4 z3 hb3 HTB HT1 HT2 hS0
      have a0 := HVa.out 0 _ rfl; have a1 := HVa.out 1 _ rfl; have a2 := HVa.out 2 _ rfl; have a3 := HVa.out 3 _ rfl; have a4 := HVa.out 4 _ rfl
      have b0 := HUa.out 0 _ rfl; have b1 := HUa.out 1 _ rfl; have b2 := HUa.out 2 _ rfl; have b3 := HUa.out 3 _ rfl; have b4 := HUa.out 4 _ rfl
      go_wp2_with fail
      clear a0 a1 a2 a3 a4 b0 b1 b2 b3 b4
      first
      | go_region_held3 (fun w' => RS w w' w.heap.size w1.heap.size (vals k n x s y) (vals 2 0 0 (xs j) false) ∧
          w'.cell? ⟨w.heap.size, 0, none⟩ = some (.int .i64 k) ∧ w'.cell? ⟨w.heap.size, 1, none⟩ = some (.int .i64 n) ∧ w'.cell? ⟨w.heap.size, 2, none⟩ = some (.float .f64 x) ∧ w'.cell? ⟨w.heap.size, 3, none⟩ = some (.string s) ∧ w'.cell? ⟨w.heap.size, 4, none⟩ = some (.bool y) ∧
          w'.cell? ⟨w1.heap.size, 0, none⟩ = some (.int .i64 2) ∧ w'.cell? ⟨w1.heap.size, 1, none⟩ = some (.int .i64 0) ∧ w'.cell? ⟨w1.heap.size, 2, none⟩ = some (.float .f64 0) ∧ w'.cell? ⟨w1.heap.size, 3, none⟩ = some (.string (xs j)) ∧ w'.cell? ⟨w1.heap.size, 4, none⟩ = some (.bool false))
        (first | exact hSn | exact HS0.out)
        (first
          | (go_at_call_of 7 s; refine (right_c k n x s y _).mono ?_; rw [R1.out]; rintro e w' ⟨rfl, hb⟩; (first | have hSn := sr_on hSn hb | have hSn := sr_on HS0.out hb); clear hb)
          | (go_at_call_of 7 (xs j); refine (right_c 2 0 0 (xs j) false _).mono ?_; rw [R2.out]; rintro e w' ⟨rfl, hb⟩; (first | have hSn := sr_on hSn hb | have hSn := sr_on HS0.out hb); clear hb))
      | fail "the region"
      all_goals (go_wp2; go_ret; exact ⟨rfl, hSn.1.2.2.2.2⟩)
end Go.Proofs.YthkkdikfbagijaaGreatDoor
