/- cond.known, Word, Right, Print of any condition; what each law of layer 6 begins with. -/
import Derived.Test.YtjeippdfgojdnaaGreatDoorCondW
import Derived.Test.YtjeippdfgojdnaaGreatDoorCondC
import Derived.Test.YtjeippdfgojdnaaGreatDoorTabsC
import Derived.Test.YtjeippdfgojdnaaGreatDoorRunP
import Derived.Deep.RegionWith
import Derived.Deep.RegionHeld3
namespace Go.Proofs.YtjeippdfgojdnaaGreatDoor
open Go.RowKit Go.Shelf
open Go.Proofs
set_option maxRecDepth 100000

set_option maxHeartbeats 1000000 in
theorem known_c (op : Int) (w : World) : Calls Tryz.prog 40 #[.int .i64 op] w fun e w' => e = .returned (.bool (decide (0 ≤ op) && decide (op < 8))) ∧ w = w' := by
  cases h1 : decide (0 ≤ op)
  · go_enter Tryz.func40, Tryz.ntmps40
    go_wp2
    go_ret
    exact ⟨rfl, rfl⟩
  · go_enter Tryz.func40, Tryz.ntmps40
    go_wp2
    go_ret
    exact ⟨rfl, rfl⟩
set_option maxHeartbeats 1000000 in
theorem word_c (i : Nat) (hi : i < 8) (w : World) (hw : Wds w) : Calls Tryz.prog 30 #[.int .i64 (i : Int)] w fun e w' => e = .returned (.string (wordS i)) ∧ w = w' := by
  have hk := fun W => known_c (i : Int) W
  rw [show (decide ((0 : Int) ≤ (i : Int)) && decide ((i : Int) < 8)) = true by simp; omega] at hk
  have hc := hw i hi
  have HK := Lib.hid hk; clear hk hw
  generalize wordS i = s at *
  have hz : (0 : Int) ≤ (i : Int) := by omega
  have hz8 : (i : Int) < 8 := by omega
  go_enter Tryz.func30, Tryz.ntmps30
  go_wp2_with fail
  refine (HK.out _).mono ?_
  rintro e w1 ⟨rfl, rfl⟩
  go_wp2_with fail
  go_ret
  exact ⟨rfl, rfl⟩
set_option maxHeartbeats 1000000 in
theorem word_no (op : Int) (h : ¬ (0 ≤ op ∧ op < 8)) (w : World) : Calls Tryz.prog 30 #[.int .i64 op] w fun e w' => e = .returned (.string ⟨#[]⟩) ∧ w = w' := by
  have hk := fun W => known_c op W
  rw [show (decide ((0 : Int) ≤ op) && decide (op < 8)) = false by simp; omega] at hk
  have HK := Lib.hid hk; clear hk h
  go_enter Tryz.func30, Tryz.ntmps30
  go_wp2_with fail
  refine (HK.out _).mono ?_
  rintro e w1 ⟨rfl, rfl⟩
  go_wp2_with fail
  go_ret
  exact ⟨rfl, rfl⟩

/-- May a condition be? -/
def crightB (c : Cn) : Bool := nameOk c.a.nm && ((decide (0 ≤ c.op) && decide (c.op < 8)) && vrightB c.a.k c.a.s)
set_option maxHeartbeats 1000000 in
theorem cright_c (nm : ByteArray) (op k n : Int) (x : Nat) (s : ByteArray) (y : Bool) (w : World) :
    Calls Tryz.prog 17 #[cnd nm op k n x s y] w fun e w' => e = .returned (.bool (crightB ⟨⟨nm, k, n, x, s, y⟩, op⟩)) ∧ Below w.heap.size w w' := by
  have hn := fun W => name_c nm W
  have hk := fun W => known_c op W
  have hv := fun W => vright_c k n x s y W
  unfold crightB
  simp only []
  generalize vrightB k s = v at *
  generalize (decide (0 ≤ op) && decide (op < 8)) = q at *
  generalize nameOk nm = p at *
  have HN := Lib.hid hn; have HK := Lib.hid hk; have HV := Lib.hid hv
  clear hn hk hv
  cases p
  · go_enter Tryz.func17, Tryz.ntmps17
    go_wp2_with fail
    refine (HN.out _).mono ?_
    rintro e w1 ⟨rfl, rfl⟩
    go_wp2_with fail
    go_ret
    exact ⟨rfl, (Below.refl _ _).alloc (Nat.le_refl _) _⟩
  · cases q
    · go_enter Tryz.func17, Tryz.ntmps17
      go_wp2_with fail
      refine (HN.out _).mono ?_
      rintro e w1 ⟨rfl, rfl⟩
      go_wp2_with fail
      refine (HK.out _).mono ?_
      rintro e w1 ⟨rfl, rfl⟩
      go_wp2_with fail
      go_ret
      exact ⟨rfl, (Below.refl _ _).alloc (Nat.le_refl _) _⟩
    · go_enter Tryz.func17, Tryz.ntmps17
      go_wp2_with fail
      refine (HN.out _).mono ?_
      rintro e w1 ⟨rfl, rfl⟩
      go_wp2_with fail
      refine (HK.out _).mono ?_
      rintro e w1 ⟨rfl, rfl⟩
      go_wp2_with fail
      refine (HV.out _).mono ?_
      rintro e w1 ⟨rfl, hb⟩
      have HB := Lib.hid hb; clear hb
      go_wp2_with fail
      go_ret
      exact ⟨rfl, ((Below.refl _ _).alloc (Nat.le_refl _) _).trans (HB.out.mono (by simp))⟩


/-- A condition's text. -/
def cprintS (nm : ByteArray) (i : Nat) (T : ByteArray) : ByteArray := if i = 7 then wordS 7 ++ ⟨#[32]⟩ ++ nm else nm ++ ⟨#[32]⟩ ++ wordS i ++ ⟨#[32]⟩ ++ T
theorem wordS_size (i : Nat) (h : i < 8) : (wordS i).size ≤ 3 := by
  match i, h with
  | 0, _ => decide
  | 1, _ => decide
  | 2, _ => decide
  | 3, _ => decide
  | 4, _ => decide
  | 5, _ => decide
  | 6, _ => decide
  | 7, _ => decide
set_option maxHeartbeats 4000000 in
theorem cprint_c (nm : ByteArray) (i : Nat) (k n : Int) (x : Nat) (s : ByteArray) (y : Bool) (T : ByteArray) (hnm : nm.size ≤ 1000) (hTs : T.size ≤ 4611686018427387904) (hi : i < 8) (w : World) (hw : Wds w)
    (hp : ∀ W, Below w.heap.size w W → Calls Tryz.prog 28 #[val k n x s y] W fun e W' => e = .returned (.string T) ∧ Below W.heap.size W W') :
    Calls Tryz.prog 29 #[cnd nm (i : Int) k n x s y] w fun e w' => e = .returned (.string (cprintS nm i T)) ∧ Below w.heap.size w w' := by
  have HWd : Aside (∀ W, Below w.heap.size w W → Calls Tryz.prog 30 #[.int .i64 (i : Int)] W fun e W' => e = .returned (.string (wordS i)) ∧ W = W') := fun W hW => word_c i hi W (hw.on hW)
  have HP := Lib.hid hp; clear hp hw
  have HKP : Aside (∀ W, Below (w.heap.size + 1) (w.alloc (.cells (cnds nm (i : Int) k n x s y) 26)) W → Below w.heap.size w W ∧ (W.cell? ⟨w.heap.size, 0, none⟩ = some (.string nm) ∧ W.cell? ⟨w.heap.size, 1, none⟩ = some (.int .i64 (i : Int)) ∧ W.cell? ⟨w.heap.size, 2, none⟩ = some (.int .i64 k) ∧ W.cell? ⟨w.heap.size, 3, none⟩ = some (.int .i64 n) ∧ W.cell? ⟨w.heap.size, 4, none⟩ = some (.float .f64 x) ∧ W.cell? ⟨w.heap.size, 5, none⟩ = some (.string s) ∧ W.cell? ⟨w.heap.size, 6, none⟩ = some (.bool y))) :=
    fun W hW => ⟨((Below.refl _ _).alloc (Nat.le_refl _) _).trans (hW.mono (by omega)), one_lay hW 0 _ rfl, one_lay hW 1 _ rfl, one_lay hW 2 _ rfl, one_lay hW 3 _ rfl, one_lay hW 4 _ rfl, one_lay hW 5 _ rfl, one_lay hW 6 _ rfl⟩
  unfold cprintS
  have hq := wordS_size i hi
  by_cases h7 : i = 7
  · rw [if_pos h7]
    subst h7
    generalize wordS 7 = q at *
    have u1 : ¬ 9223372036854775807 < q.size + 1 := by omega
    have u2 : ¬ 9223372036854775807 < q.size + 1 + nm.size := by omega
    clear hnm hTs hi hq
    go_enter Tryz.func29, Tryz.ntmps29
    go_wp2_with fail
    have HB0 : Aside (Below (w.heap.size + 1) (w.alloc (.cells (cnds nm 7 k n x s y) 26)) (w.alloc (.cells (cnds nm 7 k n x s y) 26)).drew) := ⟨rfl, rfl, rfl, Nat.le_refl _, fun _ _ => rfl⟩
    first
    | go_region_held (fun w' => Below (w.heap.size + 1) (w.alloc (.cells (cnds nm 7 k n x s y) 26)) w' ∧ Below w.heap.size w w' ∧ w'.cell? ⟨w.heap.size, 0, none⟩ = some (.string nm) ∧ w'.cell? ⟨w.heap.size, 1, none⟩ = some (.int .i64 7) ∧ w'.cell? ⟨w.heap.size, 2, none⟩ = some (.int .i64 k) ∧ w'.cell? ⟨w.heap.size, 3, none⟩ = some (.int .i64 n) ∧ w'.cell? ⟨w.heap.size, 4, none⟩ = some (.float .f64 x) ∧ w'.cell? ⟨w.heap.size, 5, none⟩ = some (.string s) ∧ w'.cell? ⟨w.heap.size, 6, none⟩ = some (.bool y))
        (exact ⟨HB0.out, HKP.out _ HB0.out⟩)
        (first
          | (go_at_call 30; refine (HWd.out _ (HKP.out _ HB0.out).1).mono ?_; rintro e w1 ⟨rfl, rfl⟩))
    | fail "region"
    all_goals
      go_wp2_with fail
      go_ret
      exact ⟨rfl, (HKP.out _ HB0.out).1⟩
  · rw [if_neg h7]
    generalize wordS i = q at *
    have g7 : ((i : Int) == 7) = false := by simp; omega
    have u1 : ¬ 9223372036854775807 < nm.size + 1 := by omega
    have u2 : ¬ 9223372036854775807 < nm.size + 1 + q.size := by omega
    have u3 : ¬ 9223372036854775807 < nm.size + 1 + q.size + 1 := by omega
    have u4 : ¬ 9223372036854775807 < nm.size + 1 + q.size + 1 + T.size := by omega
    clear hnm hTs hi hq h7
    go_enter Tryz.func29, Tryz.ntmps29
    go_wp2_with fail
    have HB0 : Aside (Below (w.heap.size + 1) (w.alloc (.cells (cnds nm (i : Int) k n x s y) 26)) (w.alloc (.cells (cnds nm (i : Int) k n x s y) 26)).drew) := ⟨rfl, rfl, rfl, Nat.le_refl _, fun _ _ => rfl⟩
    have HSZ : Aside (w.heap.size + 1 ≤ (w.alloc (.cells (cnds nm (i : Int) k n x s y) 26)).drew.heap.size) := by
      show w.heap.size + 1 ≤ (w.alloc _).heap.size
      simp
    first
    | go_region_held (fun w' => Below (w.heap.size + 1) (w.alloc (.cells (cnds nm (i : Int) k n x s y) 26)) w' ∧ Below w.heap.size w w' ∧ w'.cell? ⟨w.heap.size, 0, none⟩ = some (.string nm) ∧ w'.cell? ⟨w.heap.size, 1, none⟩ = some (.int .i64 (i : Int)) ∧ w'.cell? ⟨w.heap.size, 2, none⟩ = some (.int .i64 k) ∧ w'.cell? ⟨w.heap.size, 3, none⟩ = some (.int .i64 n) ∧ w'.cell? ⟨w.heap.size, 4, none⟩ = some (.float .f64 x) ∧ w'.cell? ⟨w.heap.size, 5, none⟩ = some (.string s) ∧ w'.cell? ⟨w.heap.size, 6, none⟩ = some (.bool y))
        (first | exact ⟨HB1.out, HKP.out _ HB1.out⟩ | exact ⟨HB0.out, HKP.out _ HB0.out⟩)
        (first
          | (go_at_call 30; (first | (refine (HWd.out _ (HKP.out _ HB1.out).1).mono ?_) | (refine (HWd.out _ (HKP.out _ HB0.out).1).mono ?_)); rintro e w2 ⟨rfl, rfl⟩)
          | (go_at_call 28; refine (HP.out _ (HKP.out _ HB0.out).1).mono ?_; rintro e w1 ⟨rfl, hb⟩; have HB1 : Aside (Below (w.heap.size + 1) (w.alloc (.cells (cnds nm (i : Int) k n x s y) 26)) w1) := HB0.out.trans (hb.mono HSZ.out); clear hb))
    | fail "region"
    all_goals
      go_wp2_with fail
      go_ret
      exact ⟨rfl, (HKP.out _ HB1.out).1⟩

theorem fmtThree_c (w : World) : Calls Tryz.prog 58 #[.int .i64 3, .int .i64 10] w fun e w' => e = .returned (.string ⟨#[51]⟩) ∧ w = w' :=
  calls_run Tryz.f58 (stepsOf 58 #[.int .i64 3, .int .i64 10] w) (endOf 58 #[.int .i64 3, .int .i64 10] w) (fun cs => by kernel_rfl) (by kernel_rfl) (by kernel_rfl) (by kernel_rfl) (by kernel_rfl) Tryz.func58 (by kernel_rfl)
set_option maxHeartbeats 1000000 in
theorem printThree_c (w : World) : Calls Tryz.prog 28 #[val 0 3 0 ⟨#[]⟩ false] w fun e w' => e = .returned (.string ⟨#[51]⟩) ∧ Below w.heap.size w w' := by
  go_enter Tryz.func28, Tryz.ntmps28
  go_wp2_with (go_at_call 58; refine (fmtThree_c _).mono ?_; rintro e w' ⟨rfl, rfl⟩)
  go_ret
  exact ⟨rfl, ((Below.refl _ _).alloc (Nat.le_refl _) _)⟩

set_option maxHeartbeats 2000000 in
theorem fit6_c (w : World) (hw : Wds w) : Calls Tryz.prog 13 #[] w fun e w' => e = .returned (.bool true) ∧ Below w.heap.size w w' := by
  have h1 := fun W => holds_c ⟨#[97]⟩ 2 0 3 0 ⟨#[]⟩ false ⟨#[]⟩ 0 2 0 ⟨#[]⟩ false (by decide) (by decide) W
  have h2 := fun W => holds_c ⟨#[97]⟩ 2 0 3 0 ⟨#[]⟩ false ⟨#[]⟩ 0 3 0 ⟨#[]⟩ false (by decide) (by decide) W
  have h3 := fun W (hW : Below w.heap.size w W) => cprint_c ⟨#[97]⟩ 2 0 3 0 ⟨#[]⟩ false ⟨#[51]⟩ (by decide) (by decide) (by decide) W (hw.on hW) (fun W' _ => printThree_c W')
  have h4 := fun W => name_c ⟨#[97]⟩ W
  have h5 := fun W => vright_c 0 3 0 ⟨#[]⟩ false W
  rw [show holdsB ⟨⟨⟨#[97]⟩, 0, 3, 0, ⟨#[]⟩, false⟩, 2⟩ ⟨⟨#[]⟩, 0, 2, 0, ⟨#[]⟩, false⟩ = true by decide +kernel] at h1
  rw [show holdsB ⟨⟨⟨#[97]⟩, 0, 3, 0, ⟨#[]⟩, false⟩, 2⟩ ⟨⟨#[]⟩, 0, 3, 0, ⟨#[]⟩, false⟩ = false by decide +kernel] at h2
  rw [show cprintS ⟨#[97]⟩ 2 ⟨#[51]⟩ = ⟨#[97, 32, 60, 32, 51]⟩ by decide +kernel] at h3
  rw [show nameOk ⟨#[97]⟩ = true by decide +kernel] at h4
  rw [show vrightB 0 ⟨#[]⟩ = true by decide +kernel] at h5
  have H1 := Lib.hid h1; have H2 := Lib.hid h2; have H3 := Lib.hid h3; have H4 := Lib.hid h4; have H5 := Lib.hid h5
  clear h1 h2 h3 h4 h5 hw
  go_enter Tryz.func13, Tryz.ntmps13
  go_wp2_with fail
  have HB0 : Aside (Below w.heap.size w (w.alloc (.cells (cnds ⟨#[97]⟩ 2 0 3 0 ⟨#[]⟩ false) 26))) := (Below.refl _ _).alloc (Nat.le_refl _) _
  refine (H1.out _).mono ?_
  rintro e w1 ⟨rfl, hb⟩
  have hA1 : Below (w.heap.size + 1) (w.alloc (.cells (cnds ⟨#[97]⟩ 2 0 3 0 ⟨#[]⟩ false) 26)) w1 := by simpa using hb
  have z1 : w.heap.size + 1 ≤ w1.heap.size := by have := hA1.size; simpa using this
  have a0 := one_lay hA1 0 _ rfl; have a1 := one_lay hA1 1 _ rfl; have a2 := one_lay hA1 2 _ rfl; have a3 := one_lay hA1 3 _ rfl; have a4 := one_lay hA1 4 _ rfl; have a5 := one_lay hA1 5 _ rfl; have a6 := one_lay hA1 6 _ rfl
  have HA1 := Lib.hid hA1; clear hb hA1
  go_wp2_with fail
  clear a0 a1 a2 a3 a4 a5 a6
  refine (H2.out _).mono ?_
  rintro e w2 ⟨rfl, hb⟩
  have hA2 := HA1.out.trans (hb.mono z1)
  have z2 : w.heap.size + 1 ≤ w2.heap.size := by have := hA2.size; simpa using this
  have a0 := one_lay hA2 0 _ rfl; have a1 := one_lay hA2 1 _ rfl; have a2 := one_lay hA2 2 _ rfl; have a3 := one_lay hA2 3 _ rfl; have a4 := one_lay hA2 4 _ rfl; have a5 := one_lay hA2 5 _ rfl; have a6 := one_lay hA2 6 _ rfl
  have HA2 := Lib.hid hA2; clear hb hA2
  go_wp2_with fail
  clear a0 a1 a2 a3 a4 a5 a6
  refine (H3.out _ (HB0.out.trans (HA2.out.mono (by omega)))).mono ?_
  rintro e w3 ⟨rfl, hb⟩
  have hA3 := HA2.out.trans (hb.mono z2)
  have z3 : w.heap.size + 1 ≤ w3.heap.size := by have := hA3.size; simpa using this
  have a0 := one_lay hA3 0 _ rfl; have a1 := one_lay hA3 1 _ rfl; have a2 := one_lay hA3 2 _ rfl; have a3 := one_lay hA3 3 _ rfl; have a4 := one_lay hA3 4 _ rfl; have a5 := one_lay hA3 5 _ rfl; have a6 := one_lay hA3 6 _ rfl
  have HA3 := Lib.hid hA3; clear hb hA3
  go_wp2_with fail
  refine (H4.out _).mono ?_
  rintro e w4 ⟨rfl, rfl⟩
  go_wp2_with fail
  clear a0 a1 a2 a3 a4 a5 a6
  refine (H5.out _).mono ?_
  rintro e w5 ⟨rfl, hb⟩
  have HA5 := Lib.hid (HA3.out.trans (hb.mono z3)); clear hb
  go_wp2_with fail
  go_ret
  exact ⟨rfl, HB0.out.trans (HA5.out.mono (by omega))⟩
def clightB (nm s : ByteArray) : Bool := decide (wrap64 ((nm.size : Int) + (s.size : Int)) ≤ 300)
set_option maxHeartbeats 1000000 in
theorem clight_c (nm : ByteArray) (op k n : Int) (x : Nat) (s : ByteArray) (y : Bool) (w : World) :
    Calls Tryz.prog 14 #[cnd nm op k n x s y] w fun e w' => e = .returned (.bool (clightB nm s)) ∧ Below w.heap.size w w' := by
  unfold clightB
  go_enter Tryz.func14, Tryz.ntmps14
  go_wp2
  go_ret
  exact ⟨rfl, (Below.refl _ _).alloc (Nat.le_refl _) _⟩
/-- What Go's memory allows, and the law's own bound. -/
theorem clight_size {nm s : ByteArray} (h : clightB nm s = true) (hn : nm.size ≤ 140737488355328) (hs : s.size ≤ 140737488355328) : nm.size ≤ 300 ∧ s.size ≤ 300 := by
  unfold clightB at h
  have := of_decide_eq_true h
  unfold wrap64 at this
  omega
end Go.Proofs.YtjeippdfgojdnaaGreatDoor
