/- CondChains: what one implies, and that implies, it implies. (Written by gen_chains.py.) -/
import Derived.Test.YtjeippdfgojdnaaGreatDoorCondT
import Derived.Test.YtjeippdfgojdnaaGreatDoorCondI
namespace Go.Proofs.YtjeippdfgojdnaaGreatDoor
open Go.RowKit Go.Shelf
open Go.Proofs
set_option maxRecDepth 100000

theorem opB_of {c : Cn} (h : crightB c = true) : OpB c := by
  unfold crightB at h
  simp only [Bool.and_eq_true, decide_eq_true_eq] at h
  exact ⟨h.2.1.1, by omega⟩
theorem three_lay {w w' : World} {cs ds es : Array Value} {t u v : TypeId} (hb : Below (w.heap.size + 3) (((w.alloc (.cells cs t)).alloc (.cells ds u)).alloc (.cells es v)) w') :
    (∀ i v, cs[i]? = some v → w'.cell? ⟨w.heap.size, i, none⟩ = some v) ∧ (∀ i v, ds[i]? = some v → w'.cell? ⟨w.heap.size + 1, i, none⟩ = some v) ∧ (∀ i v, es[i]? = some v → w'.cell? ⟨w.heap.size + 1 + 1, i, none⟩ = some v) := by
  have hb2 : Below (w.heap.size + 2) ((w.alloc (.cells cs t)).alloc (.cells ds u)) w' := ((Below.refl _ _).alloc (by simp) _).trans (hb.mono (by omega))
  obtain ⟨h1, h2⟩ := two_lay hb2
  refine ⟨h1, h2, fun i v' h => ?_⟩
  rw [hb.cell (p := ⟨w.heap.size + 1 + 1, i, none⟩) (by simp)]
  have := World.cell?_alloc_new ((w.alloc (.cells cs t)).alloc (.cells ds u)) es v i
  rw [World.size_alloc, World.size_alloc] at this
  rw [this]; exact h

set_option maxHeartbeats 8000000 in
theorem condChains_c (nm1 : ByteArray) (op1 k1 n1 : Int) (x1 : Nat) (s1 : ByteArray) (y1 : Bool) (nm2 : ByteArray) (op2 k2 n2 : Int) (x2 : Nat) (s2 : ByteArray) (y2 : Bool) (nm3 : ByteArray) (op3 k3 n3 : Int) (x3 : Nat) (s3 : ByteArray) (y3 : Bool) (hx1 : x1 < 18446744073709551616) (hx2 : x2 < 18446744073709551616) (hx3 : x3 < 18446744073709551616) (w : World) (hw : Wds w) :
    Calls Tryz.prog 5 #[cnd nm1 op1 k1 n1 x1 s1 y1, cnd nm2 op2 k2 n2 x2 s2 y2, cnd nm3 op3 k3 n3 x3 s3 y3] w fun e w' => e = .returned (.bool true) ∧ Below w.heap.size w w' := by
  have B0 : Below w.heap.size w (((w.alloc (.cells (cnds nm1 op1 k1 n1 x1 s1 y1) 26)).alloc (.cells (cnds nm2 op2 k2 n2 x2 s2 y2) 26)).alloc (.cells (cnds nm3 op3 k3 n3 x3 s3 y3) 26)) := (((Below.refl _ _).alloc (Nat.le_refl _) _).alloc (by simp) _).alloc (by simp; omega) _
  have HB0 := Lib.hid B0; clear B0
  have HF : Aside (∀ W, Below w.heap.size w W → Calls Tryz.prog 13 #[] W fun e w' => e = .returned (.bool true) ∧ Below W.heap.size W w') := fun W hW => fit6_c W (hw.on hW)
  have hl1 := fun W => clight_c nm1 op1 k1 n1 x1 s1 y1 W
  have hr1 := fun W => cright_c nm1 op1 k1 n1 x1 s1 y1 W
  have hl2 := fun W => clight_c nm2 op2 k2 n2 x2 s2 y2 W
  have hr2 := fun W => cright_c nm2 op2 k2 n2 x2 s2 y2 W
  have hl3 := fun W => clight_c nm3 op3 k3 n3 x3 s3 y3 W
  have hr3 := fun W => cright_c nm3 op3 k3 n3 x3 s3 y3 W
  have hi1 := fun W => implies_c nm1 op1 k1 n1 x1 s1 y1 nm2 op2 k2 n2 x2 s2 y2 hx1 hx2 W
  have hi2 := fun W => implies_c nm2 op2 k2 n2 x2 s2 y2 nm3 op3 k3 n3 x3 s3 y3 hx2 hx3 W
  have hi3 := fun W => implies_c nm1 op1 k1 n1 x1 s1 y1 nm3 op3 k3 n3 x3 s3 y3 hx1 hx3 W
  have ht : crightB ⟨⟨nm1, k1, n1, x1, s1, y1⟩, op1⟩ = true → crightB ⟨⟨nm2, k2, n2, x2, s2, y2⟩, op2⟩ = true → crightB ⟨⟨nm3, k3, n3, x3, s3, y3⟩, op3⟩ = true → impliesB ⟨⟨nm1, k1, n1, x1, s1, y1⟩, op1⟩ ⟨⟨nm2, k2, n2, x2, s2, y2⟩, op2⟩ = true → impliesB ⟨⟨nm2, k2, n2, x2, s2, y2⟩, op2⟩ ⟨⟨nm3, k3, n3, x3, s3, y3⟩, op3⟩ = true → impliesB ⟨⟨nm1, k1, n1, x1, s1, y1⟩, op1⟩ ⟨⟨nm3, k3, n3, x3, s3, y3⟩, op3⟩ = true := fun h1 h2 h3 h4 h5 => implies_trans (opB_of h1) (opB_of h2) (opB_of h3) h4 h5
  generalize clightB nm1 s1 = l1 at *
  generalize crightB ⟨⟨nm1, k1, n1, x1, s1, y1⟩, op1⟩ = r1 at *
  generalize clightB nm2 s2 = l2 at *
  generalize crightB ⟨⟨nm2, k2, n2, x2, s2, y2⟩, op2⟩ = r2 at *
  generalize clightB nm3 s3 = l3 at *
  generalize crightB ⟨⟨nm3, k3, n3, x3, s3, y3⟩, op3⟩ = r3 at *
  generalize impliesB ⟨⟨nm1, k1, n1, x1, s1, y1⟩, op1⟩ ⟨⟨nm2, k2, n2, x2, s2, y2⟩, op2⟩ = i1 at *
  generalize impliesB ⟨⟨nm2, k2, n2, x2, s2, y2⟩, op2⟩ ⟨⟨nm3, k3, n3, x3, s3, y3⟩, op3⟩ = i2 at *
  generalize impliesB ⟨⟨nm1, k1, n1, x1, s1, y1⟩, op1⟩ ⟨⟨nm3, k3, n3, x3, s3, y3⟩, op3⟩ = i3 at *
  have HT := Lib.hid ht
  have HL1 := Lib.hid hl1
  have HL2 := Lib.hid hl2
  have HL3 := Lib.hid hl3
  have HR1 := Lib.hid hr1
  have HR2 := Lib.hid hr2
  have HR3 := Lib.hid hr3
  have HI1 := Lib.hid hi1
  have HI2 := Lib.hid hi2
  have HI3 := Lib.hid hi3
  clear ht hw hx1 hx2 hx3 hl1 hl2 hl3 hr1 hr2 hr3 hi1 hi2 hi3
  have HKP : Aside (∀ W, Below (w.heap.size + 3) (((w.alloc (.cells (cnds nm1 op1 k1 n1 x1 s1 y1) 26)).alloc (.cells (cnds nm2 op2 k2 n2 x2 s2 y2) 26)).alloc (.cells (cnds nm3 op3 k3 n3 x3 s3 y3) 26)) W → W.cell? ⟨w.heap.size, 0, none⟩ = some (.string nm1) ∧ W.cell? ⟨w.heap.size, 1, none⟩ = some (.int .i64 op1) ∧ W.cell? ⟨w.heap.size, 2, none⟩ = some (.int .i64 k1) ∧ W.cell? ⟨w.heap.size, 3, none⟩ = some (.int .i64 n1) ∧ W.cell? ⟨w.heap.size, 4, none⟩ = some (.float .f64 x1) ∧ W.cell? ⟨w.heap.size, 5, none⟩ = some (.string s1) ∧ W.cell? ⟨w.heap.size, 6, none⟩ = some (.bool y1) ∧ W.cell? ⟨w.heap.size + 1, 0, none⟩ = some (.string nm2) ∧ W.cell? ⟨w.heap.size + 1, 1, none⟩ = some (.int .i64 op2) ∧ W.cell? ⟨w.heap.size + 1, 2, none⟩ = some (.int .i64 k2) ∧ W.cell? ⟨w.heap.size + 1, 3, none⟩ = some (.int .i64 n2) ∧ W.cell? ⟨w.heap.size + 1, 4, none⟩ = some (.float .f64 x2) ∧ W.cell? ⟨w.heap.size + 1, 5, none⟩ = some (.string s2) ∧ W.cell? ⟨w.heap.size + 1, 6, none⟩ = some (.bool y2) ∧ W.cell? ⟨w.heap.size + 1 + 1, 0, none⟩ = some (.string nm3) ∧ W.cell? ⟨w.heap.size + 1 + 1, 1, none⟩ = some (.int .i64 op3) ∧ W.cell? ⟨w.heap.size + 1 + 1, 2, none⟩ = some (.int .i64 k3) ∧ W.cell? ⟨w.heap.size + 1 + 1, 3, none⟩ = some (.int .i64 n3) ∧ W.cell? ⟨w.heap.size + 1 + 1, 4, none⟩ = some (.float .f64 x3) ∧ W.cell? ⟨w.heap.size + 1 + 1, 5, none⟩ = some (.string s3) ∧ W.cell? ⟨w.heap.size + 1 + 1, 6, none⟩ = some (.bool y3)) := fun W hW => by
    obtain ⟨va, vb, vd⟩ := three_lay hW
    exact ⟨va 0 _ rfl, va 1 _ rfl, va 2 _ rfl, va 3 _ rfl, va 4 _ rfl, va 5 _ rfl, va 6 _ rfl, vb 0 _ rfl, vb 1 _ rfl, vb 2 _ rfl, vb 3 _ rfl, vb 4 _ rfl, vb 5 _ rfl, vb 6 _ rfl, vd 0 _ rfl, vd 1 _ rfl, vd 2 _ rfl, vd 3 _ rfl, vd 4 _ rfl, vd 5 _ rfl, vd 6 _ rfl⟩
  go_enter Tryz.func5, Tryz.ntmps5
  go_wp2_with fail
  refine (HF.out _ HB0.out).mono ?_
  rintro e w1 ⟨rfl, hb⟩
  have hA1 : Below (w.heap.size + 3) (((w.alloc (.cells (cnds nm1 op1 k1 n1 x1 s1 y1) 26)).alloc (.cells (cnds nm2 op2 k2 n2 x2 s2 y2) 26)).alloc (.cells (cnds nm3 op3 k3 n3 x3 s3 y3) 26)) w1 := by simpa using hb
  have z1 : w.heap.size + 3 ≤ w1.heap.size := by have := hA1.size; simpa using this
  have HA1 := Lib.hid hA1; clear hb hA1
  obtain ⟨a0, a1, a2, a3, a4, a5, a6, b0, b1, b2, b3, b4, b5, b6, d0, d1, d2, d3, d4, d5, d6⟩ := HKP.out _ HA1.out
  go_wp2_with fail
  clear a0 a1 a2 a3 a4 a5 a6 b0 b1 b2 b3 b4 b5 b6 d0 d1 d2 d3 d4 d5 d6
  refine (HL1.out _).mono ?_
  rintro e w2 ⟨rfl, hb⟩
  have hA2 := HA1.out.trans (hb.mono z1)
  cases l1
  · clear hb
    go_wp2_with fail
    go_ret
    exact ⟨rfl, HB0.out.trans (hA2.mono (by omega))⟩
  have z2 : w.heap.size + 3 ≤ w2.heap.size := by have := hA2.size; simpa using this
  have HA2 := Lib.hid hA2; clear hb hA2
  obtain ⟨a0, a1, a2, a3, a4, a5, a6, b0, b1, b2, b3, b4, b5, b6, d0, d1, d2, d3, d4, d5, d6⟩ := HKP.out _ HA2.out
  go_wp2_with fail
  clear a0 a1 a2 a3 a4 a5 a6 b0 b1 b2 b3 b4 b5 b6 d0 d1 d2 d3 d4 d5 d6
  refine (HL2.out _).mono ?_
  rintro e w3 ⟨rfl, hb⟩
  have hA3 := HA2.out.trans (hb.mono z2)
  cases l2
  · clear hb
    go_wp2_with fail
    go_ret
    exact ⟨rfl, HB0.out.trans (hA3.mono (by omega))⟩
  have z3 : w.heap.size + 3 ≤ w3.heap.size := by have := hA3.size; simpa using this
  have HA3 := Lib.hid hA3; clear hb hA3
  obtain ⟨a0, a1, a2, a3, a4, a5, a6, b0, b1, b2, b3, b4, b5, b6, d0, d1, d2, d3, d4, d5, d6⟩ := HKP.out _ HA3.out
  go_wp2_with fail
  clear a0 a1 a2 a3 a4 a5 a6 b0 b1 b2 b3 b4 b5 b6 d0 d1 d2 d3 d4 d5 d6
  refine (HL3.out _).mono ?_
  rintro e w4 ⟨rfl, hb⟩
  have hA4 := HA3.out.trans (hb.mono z3)
  cases l3
  · clear hb
    go_wp2_with fail
    go_ret
    exact ⟨rfl, HB0.out.trans (hA4.mono (by omega))⟩
  have z4 : w.heap.size + 3 ≤ w4.heap.size := by have := hA4.size; simpa using this
  have HA4 := Lib.hid hA4; clear hb hA4
  obtain ⟨a0, a1, a2, a3, a4, a5, a6, b0, b1, b2, b3, b4, b5, b6, d0, d1, d2, d3, d4, d5, d6⟩ := HKP.out _ HA4.out
  go_wp2_with fail
  clear a0 a1 a2 a3 a4 a5 a6 b0 b1 b2 b3 b4 b5 b6 d0 d1 d2 d3 d4 d5 d6
  refine (HR1.out _).mono ?_
  rintro e w5 ⟨rfl, hb⟩
  have hA5 := HA4.out.trans (hb.mono z4)
  cases r1
  · clear hb
    go_wp2_with fail
    go_ret
    exact ⟨rfl, HB0.out.trans (hA5.mono (by omega))⟩
  have z5 : w.heap.size + 3 ≤ w5.heap.size := by have := hA5.size; simpa using this
  have HA5 := Lib.hid hA5; clear hb hA5
  obtain ⟨a0, a1, a2, a3, a4, a5, a6, b0, b1, b2, b3, b4, b5, b6, d0, d1, d2, d3, d4, d5, d6⟩ := HKP.out _ HA5.out
  go_wp2_with fail
  clear a0 a1 a2 a3 a4 a5 a6 b0 b1 b2 b3 b4 b5 b6 d0 d1 d2 d3 d4 d5 d6
  refine (HR2.out _).mono ?_
  rintro e w6 ⟨rfl, hb⟩
  have hA6 := HA5.out.trans (hb.mono z5)
  cases r2
  · clear hb
    go_wp2_with fail
    go_ret
    exact ⟨rfl, HB0.out.trans (hA6.mono (by omega))⟩
  have z6 : w.heap.size + 3 ≤ w6.heap.size := by have := hA6.size; simpa using this
  have HA6 := Lib.hid hA6; clear hb hA6
  obtain ⟨a0, a1, a2, a3, a4, a5, a6, b0, b1, b2, b3, b4, b5, b6, d0, d1, d2, d3, d4, d5, d6⟩ := HKP.out _ HA6.out
  go_wp2_with fail
  clear a0 a1 a2 a3 a4 a5 a6 b0 b1 b2 b3 b4 b5 b6 d0 d1 d2 d3 d4 d5 d6
  refine (HR3.out _).mono ?_
  rintro e w7 ⟨rfl, hb⟩
  have hA7 := HA6.out.trans (hb.mono z6)
  cases r3
  · clear hb
    go_wp2_with fail
    go_ret
    exact ⟨rfl, HB0.out.trans (hA7.mono (by omega))⟩
  have z7 : w.heap.size + 3 ≤ w7.heap.size := by have := hA7.size; simpa using this
  have HA7 := Lib.hid hA7; clear hb hA7
  obtain ⟨a0, a1, a2, a3, a4, a5, a6, b0, b1, b2, b3, b4, b5, b6, d0, d1, d2, d3, d4, d5, d6⟩ := HKP.out _ HA7.out
  go_wp2_with fail
  clear a0 a1 a2 a3 a4 a5 a6 b0 b1 b2 b3 b4 b5 b6 d0 d1 d2 d3 d4 d5 d6
  refine (HI1.out _).mono ?_
  rintro e w8 ⟨rfl, hb⟩
  have hA8 := HA7.out.trans (hb.mono z7)
  cases i1
  · clear hb
    go_wp2_with fail
    go_ret
    exact ⟨rfl, HB0.out.trans (hA8.mono (by omega))⟩
  have z8 : w.heap.size + 3 ≤ w8.heap.size := by have := hA8.size; simpa using this
  have HA8 := Lib.hid hA8; clear hb hA8
  obtain ⟨a0, a1, a2, a3, a4, a5, a6, b0, b1, b2, b3, b4, b5, b6, d0, d1, d2, d3, d4, d5, d6⟩ := HKP.out _ HA8.out
  go_wp2_with fail
  clear a0 a1 a2 a3 a4 a5 a6 b0 b1 b2 b3 b4 b5 b6 d0 d1 d2 d3 d4 d5 d6
  refine (HI2.out _).mono ?_
  rintro e w9 ⟨rfl, hb⟩
  have hA9 := HA8.out.trans (hb.mono z8)
  cases i2
  · clear hb
    go_wp2_with fail
    go_ret
    exact ⟨rfl, HB0.out.trans (hA9.mono (by omega))⟩
  have z9 : w.heap.size + 3 ≤ w9.heap.size := by have := hA9.size; simpa using this
  have HA9 := Lib.hid hA9; clear hb hA9
  obtain ⟨a0, a1, a2, a3, a4, a5, a6, b0, b1, b2, b3, b4, b5, b6, d0, d1, d2, d3, d4, d5, d6⟩ := HKP.out _ HA9.out
  go_wp2_with fail
  clear a0 a1 a2 a3 a4 a5 a6 b0 b1 b2 b3 b4 b5 b6 d0 d1 d2 d3 d4 d5 d6
  refine (HI3.out _).mono ?_
  rintro e w10 ⟨rfl, hb⟩
  have HA10 := Lib.hid (HA9.out.trans (hb.mono z9)); clear hb
  obtain rfl : i3 = true := by have := HT.out; simpa using this
  go_wp2_with fail
  go_ret
  exact ⟨rfl, HB0.out.trans (HA10.out.mono (by omega))⟩
end Go.Proofs.YtjeippdfgojdnaaGreatDoor
