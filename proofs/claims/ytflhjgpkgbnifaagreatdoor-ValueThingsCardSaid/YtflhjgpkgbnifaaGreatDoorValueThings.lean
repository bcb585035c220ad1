/- Things of five kinds are values, others are none; what is kept has one field. -/
import Derived.Test.YtflhjgpkgbnifaaGreatDoorCanonV
namespace Go.Proofs.YtflhjgpkgbnifaaGreatDoor
open Go.RowKit
set_option maxRecDepth 100000

set_option maxHeartbeats 2000000 in
theorem things_long (n : Int) (x : Nat) (s : ByteArray) (w : World) (hT : Tabs w) (l : decide ((300 : Int) < (s.size : Int)) = true) :
    Calls Tryz.prog 6 #[.int .i64 n, .float .f64 x, .string s] w fun e w' => e = .returned (.bool true) ∧ Below w.heap.size w w' := by
  have hg : 17 < w.heap.size := World.block_lt_of_cell? w ⟨17, _, none⟩ (hT.pow 0 (by decide)).1
  have HT := Lib.hid hT; clear hT
  go_enter Tryz.func6, Tryz.ntmps6
  go_wp2_with fail
  refine (fit_c _ HT.out hg).mono ?_
  rintro e w1 ⟨rfl, hb1⟩
  go_wp2
  go_ret
  exact ⟨rfl, hb1⟩

set_option maxHeartbeats 8000000 in
theorem things_short (n : Int) (x : Nat) (s : ByteArray) (hx : x < 18446744073709551616) (w : World) (hT : Tabs w) (l : decide ((300 : Int) < (s.size : Int)) = false) :
    Calls Tryz.prog 6 #[.int .i64 n, .float .f64 x, .string s] w fun e w' => e = .returned (.bool true) ∧ Below w.heap.size w w' := by
  have hg : 17 < w.heap.size := World.block_lt_of_cell? w ⟨17, _, none⟩ (hT.pow 0 (by decide)).1
  have HT := Lib.hid hT; clear hT
  have HX := Lib.hid hx; clear hx
  have kc := fun (w : World) (s : ByteArray) => run_bytes_of_string (P := Tryz.prog) w 9 37 5 s Tryz.underlying9 Tryz.underlying37 Tryz.underlying5
  have ke := fun (w : World) => eq_val n w
  have fk : (fkey (fcanon x) == fkey x) = true := by rw [fkey_canon]; simp
  go_enter Tryz.func6, Tryz.ntmps6
  go_wp2_with fail
  refine (fit_c _ HT.out hg).mono ?_
  rintro e w1 ⟨rfl, hb1⟩
  have Z1 := Lib.hid hb1.size
  have S0 := Lib.hid hb1; clear hb1
  go_wp2_with fail
  refine (of_int _ _).mono ?_
  rintro e w2 ⟨rfl, hb2⟩
  have Z2 := Lib.hid hb2.size
  have S1 := Lib.hid hb2; clear hb2

  go_wp2_with fail
  refine (of_int64 _ _).mono ?_
  rintro e w3 ⟨rfl, hb3⟩
  have hb : Below (w2.heap.size + 1) (w2.alloc (.cells (vals 0 n 0 ⟨#[]⟩ false) 24)) w3 := by simpa using hb3
  have H2 := Lib.hid (held_new hb)
  have S2 := Lib.hid (step_of hb).1
  have Z3 := Lib.hid (step_of hb).2
  clear hb hb3
  go_wp2_with fail
  refine (of_float _ _).mono ?_
  rintro e w4 ⟨rfl, hb4⟩
  have hb : Below (w3.heap.size + 1) (w3.alloc (.cells (vals 0 n 0 ⟨#[]⟩ false) 24)) w4 := by simpa using hb4
  have H3 := Lib.hid (held_new hb)
  have S3 := Lib.hid (step_of hb).1
  have Z4 := Lib.hid (step_of hb).2
  clear hb hb4
  go_wp2_with fail
  refine (of_string _ _).mono ?_
  rintro e w5 ⟨rfl, hb5⟩
  have hb : Below (w4.heap.size + 1) (w4.alloc (.cells (vals 1 0 (fcanon x) ⟨#[]⟩ false) 24)) w5 := by simpa using hb5
  have H4 := Lib.hid (held_new hb)
  have S4 := Lib.hid (step_of hb).1
  have Z5 := Lib.hid (step_of hb).2
  clear hb hb5
  go_wp2_with fail
  refine (of_bool _ _).mono ?_
  rintro e w6 ⟨rfl, hb6⟩
  have hb : Below (w5.heap.size + 1) (w5.alloc (.cells (vals 2 0 0 s false) 24)) w6 := by simpa using hb6
  have H5 := Lib.hid (held_new hb)
  have S5 := Lib.hid (step_of hb).1
  have Z6 := Lib.hid (step_of hb).2
  clear hb hb6
  go_wp2_with fail
  refine (of_nil _).mono ?_
  rintro e w7 ⟨rfl, hb7⟩
  have hb : Below (w6.heap.size + 1) (w6.alloc (.cells (vals 3 0 0 ⟨#[]⟩ (decide (0 < n))) 24)) w7 := by simpa using hb7
  have H6 := Lib.hid (held_new hb)
  have S6 := Lib.hid (step_of hb).1
  have Z7 := Lib.hid (step_of hb).2
  clear hb hb7
  go_wp2_with fail
  refine (of_bytes _ _).mono ?_
  rintro e w8 ⟨rfl, hb8⟩
  have B7 : Below w7.heap.size w7 (w7.alloc (.cells (vals 0 0 0 ⟨#[]⟩ false) 24)) := (Below.refl _ _).alloc (Nat.le_refl _) _
  have S7 := Lib.hid (((B7.drew.alloc (by simp) _).trans (hb8.mono (by simp; omega))))
  have Z8 := Lib.hid (show w7.heap.size < w8.heap.size from by have := hb8.size; simp at this; omega)
  clear hb8 B7
  go_wp2_with fail
  refine (of_u8 _ _).mono ?_
  rintro e w9 ⟨rfl, hb9⟩
  have hb : Below (w8.heap.size + 1) (w8.alloc (.cells (vals 0 0 0 ⟨#[]⟩ false) 24)) w9 := by simpa using hb9
  have S8 := Lib.hid (step_of hb).1
  have Z9 := Lib.hid (step_of hb).2
  clear hb hb9

  go_wp2_with fail
  rcases and3 n with hk | hk | hk | hk
  · rw [hk]
    refine (canon0_v _ _ _ _ _).mono ?_
    rintro e w10 ⟨rfl, hb10⟩
    have hb : Below (w9.heap.size + 2) ((w9.alloc (.cells (vals 0 0 0 ⟨#[]⟩ false) 24)).alloc (.cells (vals 0 n x s true) 24)) w10 := by simpa using hb10
    have Z10 := Lib.hid (show w9.heap.size + 2 ≤ w10.heap.size from by have := hb.size; simpa using this)
    have S9 := Lib.hid (show Below w9.heap.size w9 w10 from (((Below.refl _ _).alloc (Nat.le_refl _) _).alloc (by simp) _).trans (hb.mono (by omega)))
    have vb := (two_cells _ _ _ _ _ _ _ _ _ _ hb).2
    have f0 := vb 0 _ rfl; have f1 := vb 1 _ rfl; have f2 := vb 2 _ rfl; have f3 := vb 3 _ rfl; have f4 := vb 4 _ rfl
    have fz : w9.heap.size + 1 < w10.heap.size := by have := Z10.out; omega
    clear hb hb10 vb
    go_wp2_with fail
    clear f0 f1 f2 f3 f4 fz
    refine (same_v 0 _ _ _ _ _ _ _ _ _ (by decide) HX.out).mono ?_
    rw [show sameV 0 n n 0 x ⟨#[]⟩ s false true = true from by simp [sameV]]
    rintro e w11 ⟨rfl, hb11⟩
    have hb : Below (w10.heap.size + 1) (w10.alloc (.cells (vals 0 n 0 ⟨#[]⟩ false) 24)) w11 := by simpa using hb11
    have h10 := held_new hb
    have E10 := (step_of hb).1
    clear hb hb11
    have E9 : Below w9.heap.size w9 w11 := S9.out.trans (E10.mono (by have := Z10.out; omega))
    have E8 : Below w8.heap.size w8 w11 := S8.out.trans (E9.mono (by have := Z9.out; omega))
    have E7 : Below w7.heap.size w7 w11 := S7.out.trans (E8.mono (by have := Z8.out; omega))
    have E6 : Below w6.heap.size w6 w11 := S6.out.trans (E7.mono (by have := Z7.out; omega))
    have E5 : Below w5.heap.size w5 w11 := S5.out.trans (E6.mono (by have := Z6.out; omega))
    have E4 : Below w4.heap.size w4 w11 := S4.out.trans (E5.mono (by have := Z5.out; omega))
    have E3 : Below w3.heap.size w3 w11 := S3.out.trans (E4.mono (by have := Z4.out; omega))
    have E2 : Below w2.heap.size w2 w11 := S2.out.trans (E3.mono (by have := Z3.out; omega))
    have E1 := Lib.hid (show Below w.heap.size w w11 from S0.out.trans ((S1.out.trans (E2.mono (by have := Z2.out; omega))).mono (by have := Z1.out; omega)))
    have h2 := H2.out.on Z3.out E3; have h3 := H3.out.on Z4.out E4; have h4 := H4.out.on Z5.out E5; have h5 := H5.out.on Z6.out E6; have h6 := H6.out.on Z7.out E7
    clear E2 E3 E4 E5 E6 E7 E8 E9 E10
    have a0 := h2 0 _ rfl; have a1 := h2 1 _ rfl; have a2 := h2 2 _ rfl; have a3 := h2 3 _ rfl; have a4 := h2 4 _ rfl
    have b0 := h3 0 _ rfl; have b1 := h3 1 _ rfl; have b2 := h3 2 _ rfl; have b3 := h3 3 _ rfl; have b4 := h3 4 _ rfl
    have c0 := h4 0 _ rfl; have c2 := h4 2 _ rfl
    have d0 := h5 0 _ rfl; have d3 := h5 3 _ rfl
    have e0 := h6 0 _ rfl; have e4 := h6 4 _ rfl
    have k0 := h10 0 _ rfl; have k1 := h10 1 _ rfl; have k3 := h10 3 _ rfl; have k4 := h10 4 _ rfl
    clear h2 h3 h4 h5 h6 h10
    go_wp2_with (go_at_call 22; refine (same_c _ _ (fcanon_lt x HX.out) HX.out _).mono ?_; rw [fk]; rintro e w' ⟨rfl, rfl⟩)
    go_ret
    exact ⟨rfl, E1.out⟩
  · rw [hk]
    refine (canon1_v _ _ _ _ _).mono ?_
    rintro e w10 ⟨rfl, hb10⟩
    have hb : Below (w9.heap.size + 2) ((w9.alloc (.cells (vals 0 0 0 ⟨#[]⟩ false) 24)).alloc (.cells (vals 1 n x s true) 24)) w10 := by simpa using hb10
    have Z10 := Lib.hid (show w9.heap.size + 2 ≤ w10.heap.size from by have := hb.size; simpa using this)
    have S9 := Lib.hid (show Below w9.heap.size w9 w10 from (((Below.refl _ _).alloc (Nat.le_refl _) _).alloc (by simp) _).trans (hb.mono (by omega)))
    have vb := (two_cells _ _ _ _ _ _ _ _ _ _ hb).2
    have f0 := vb 0 _ rfl; have f1 := vb 1 _ rfl; have f2 := vb 2 _ rfl; have f3 := vb 3 _ rfl; have f4 := vb 4 _ rfl
    have fz : w9.heap.size + 1 < w10.heap.size := by have := Z10.out; omega
    clear hb hb10 vb
    go_wp2_with fail
    clear f0 f1 f2 f3 f4 fz
    refine (same_v 1 _ _ _ _ _ _ _ _ _ (fcanon_lt x HX.out) HX.out).mono ?_
    rw [show sameV 1 0 n (fcanon x) x ⟨#[]⟩ s false true = true from by unfold sameV; exact fk]
    rintro e w11 ⟨rfl, hb11⟩
    have hb : Below (w10.heap.size + 1) (w10.alloc (.cells (vals 1 0 (fcanon x) ⟨#[]⟩ false) 24)) w11 := by simpa using hb11
    have h10 := held_new hb
    have E10 := (step_of hb).1
    clear hb hb11
    have E9 : Below w9.heap.size w9 w11 := S9.out.trans (E10.mono (by have := Z10.out; omega))
    have E8 : Below w8.heap.size w8 w11 := S8.out.trans (E9.mono (by have := Z9.out; omega))
    have E7 : Below w7.heap.size w7 w11 := S7.out.trans (E8.mono (by have := Z8.out; omega))
    have E6 : Below w6.heap.size w6 w11 := S6.out.trans (E7.mono (by have := Z7.out; omega))
    have E5 : Below w5.heap.size w5 w11 := S5.out.trans (E6.mono (by have := Z6.out; omega))
    have E4 : Below w4.heap.size w4 w11 := S4.out.trans (E5.mono (by have := Z5.out; omega))
    have E3 : Below w3.heap.size w3 w11 := S3.out.trans (E4.mono (by have := Z4.out; omega))
    have E2 : Below w2.heap.size w2 w11 := S2.out.trans (E3.mono (by have := Z3.out; omega))
    have E1 := Lib.hid (show Below w.heap.size w w11 from S0.out.trans ((S1.out.trans (E2.mono (by have := Z2.out; omega))).mono (by have := Z1.out; omega)))
    have h2 := H2.out.on Z3.out E3; have h3 := H3.out.on Z4.out E4; have h4 := H4.out.on Z5.out E5; have h5 := H5.out.on Z6.out E6; have h6 := H6.out.on Z7.out E7
    clear E2 E3 E4 E5 E6 E7 E8 E9 E10
    have a0 := h2 0 _ rfl; have a1 := h2 1 _ rfl; have a2 := h2 2 _ rfl; have a3 := h2 3 _ rfl; have a4 := h2 4 _ rfl
    have b0 := h3 0 _ rfl; have b1 := h3 1 _ rfl; have b2 := h3 2 _ rfl; have b3 := h3 3 _ rfl; have b4 := h3 4 _ rfl
    have c0 := h4 0 _ rfl; have c2 := h4 2 _ rfl
    have d0 := h5 0 _ rfl; have d3 := h5 3 _ rfl
    have e0 := h6 0 _ rfl; have e4 := h6 4 _ rfl
    have k0 := h10 0 _ rfl; have k1 := h10 1 _ rfl; have k3 := h10 3 _ rfl; have k4 := h10 4 _ rfl
    clear h2 h3 h4 h5 h6 h10
    go_wp2_with (go_at_call 22; refine (same_c _ _ (fcanon_lt x HX.out) HX.out _).mono ?_; rw [fk]; rintro e w' ⟨rfl, rfl⟩)
    go_ret
    exact ⟨rfl, E1.out⟩
  · rw [hk]
    refine (canon2_v _ _ _ _ _).mono ?_
    rintro e w10 ⟨rfl, hb10⟩
    have hb : Below (w9.heap.size + 2) ((w9.alloc (.cells (vals 0 0 0 ⟨#[]⟩ false) 24)).alloc (.cells (vals 2 n x s true) 24)) w10 := by simpa using hb10
    have Z10 := Lib.hid (show w9.heap.size + 2 ≤ w10.heap.size from by have := hb.size; simpa using this)
    have S9 := Lib.hid (show Below w9.heap.size w9 w10 from (((Below.refl _ _).alloc (Nat.le_refl _) _).alloc (by simp) _).trans (hb.mono (by omega)))
    have vb := (two_cells _ _ _ _ _ _ _ _ _ _ hb).2
    have f0 := vb 0 _ rfl; have f1 := vb 1 _ rfl; have f2 := vb 2 _ rfl; have f3 := vb 3 _ rfl; have f4 := vb 4 _ rfl
    have fz : w9.heap.size + 1 < w10.heap.size := by have := Z10.out; omega
    clear hb hb10 vb
    go_wp2_with fail
    clear f0 f1 f2 f3 f4 fz
    refine (same_v 2 _ _ _ _ _ _ _ _ _ (by decide) HX.out).mono ?_
    rw [show sameV 2 0 n 0 x s s false true = true from by simp [sameV]]
    rintro e w11 ⟨rfl, hb11⟩
    have hb : Below (w10.heap.size + 1) (w10.alloc (.cells (vals 2 0 0 s false) 24)) w11 := by simpa using hb11
    have h10 := held_new hb
    have E10 := (step_of hb).1
    clear hb hb11
    have E9 : Below w9.heap.size w9 w11 := S9.out.trans (E10.mono (by have := Z10.out; omega))
    have E8 : Below w8.heap.size w8 w11 := S8.out.trans (E9.mono (by have := Z9.out; omega))
    have E7 : Below w7.heap.size w7 w11 := S7.out.trans (E8.mono (by have := Z8.out; omega))
    have E6 : Below w6.heap.size w6 w11 := S6.out.trans (E7.mono (by have := Z7.out; omega))
    have E5 : Below w5.heap.size w5 w11 := S5.out.trans (E6.mono (by have := Z6.out; omega))
    have E4 : Below w4.heap.size w4 w11 := S4.out.trans (E5.mono (by have := Z5.out; omega))
    have E3 : Below w3.heap.size w3 w11 := S3.out.trans (E4.mono (by have := Z4.out; omega))
    have E2 : Below w2.heap.size w2 w11 := S2.out.trans (E3.mono (by have := Z3.out; omega))
    have E1 := Lib.hid (show Below w.heap.size w w11 from S0.out.trans ((S1.out.trans (E2.mono (by have := Z2.out; omega))).mono (by have := Z1.out; omega)))
    have h2 := H2.out.on Z3.out E3; have h3 := H3.out.on Z4.out E4; have h4 := H4.out.on Z5.out E5; have h5 := H5.out.on Z6.out E6; have h6 := H6.out.on Z7.out E7
    clear E2 E3 E4 E5 E6 E7 E8 E9 E10
    have a0 := h2 0 _ rfl; have a1 := h2 1 _ rfl; have a2 := h2 2 _ rfl; have a3 := h2 3 _ rfl; have a4 := h2 4 _ rfl
    have b0 := h3 0 _ rfl; have b1 := h3 1 _ rfl; have b2 := h3 2 _ rfl; have b3 := h3 3 _ rfl; have b4 := h3 4 _ rfl
    have c0 := h4 0 _ rfl; have c2 := h4 2 _ rfl
    have d0 := h5 0 _ rfl; have d3 := h5 3 _ rfl
    have e0 := h6 0 _ rfl; have e4 := h6 4 _ rfl
    have k0 := h10 0 _ rfl; have k1 := h10 1 _ rfl; have k3 := h10 3 _ rfl; have k4 := h10 4 _ rfl
    clear h2 h3 h4 h5 h6 h10
    go_wp2_with (go_at_call 22; refine (same_c _ _ (fcanon_lt x HX.out) HX.out _).mono ?_; rw [fk]; rintro e w' ⟨rfl, rfl⟩)
    go_ret
    exact ⟨rfl, E1.out⟩
  · rw [hk]
    refine (canon3_v _ _ _ _ _).mono ?_
    rintro e w10 ⟨rfl, hb10⟩
    have hb : Below (w9.heap.size + 2) ((w9.alloc (.cells (vals 0 0 0 ⟨#[]⟩ false) 24)).alloc (.cells (vals 3 n x s true) 24)) w10 := by simpa using hb10
    have Z10 := Lib.hid (show w9.heap.size + 2 ≤ w10.heap.size from by have := hb.size; simpa using this)
    have S9 := Lib.hid (show Below w9.heap.size w9 w10 from (((Below.refl _ _).alloc (Nat.le_refl _) _).alloc (by simp) _).trans (hb.mono (by omega)))
    have vb := (two_cells _ _ _ _ _ _ _ _ _ _ hb).2
    have f0 := vb 0 _ rfl; have f1 := vb 1 _ rfl; have f2 := vb 2 _ rfl; have f3 := vb 3 _ rfl; have f4 := vb 4 _ rfl
    have fz : w9.heap.size + 1 < w10.heap.size := by have := Z10.out; omega
    clear hb hb10 vb
    go_wp2_with fail
    clear f0 f1 f2 f3 f4 fz
    refine (same_v 3 _ _ _ _ _ _ _ _ _ (by decide) HX.out).mono ?_
    rw [show sameV 3 0 n 0 x ⟨#[]⟩ s true true = true from by simp [sameV]]
    rintro e w11 ⟨rfl, hb11⟩
    have hb : Below (w10.heap.size + 1) (w10.alloc (.cells (vals 3 0 0 ⟨#[]⟩ true) 24)) w11 := by simpa using hb11
    have h10 := held_new hb
    have E10 := (step_of hb).1
    clear hb hb11
    have E9 : Below w9.heap.size w9 w11 := S9.out.trans (E10.mono (by have := Z10.out; omega))
    have E8 : Below w8.heap.size w8 w11 := S8.out.trans (E9.mono (by have := Z9.out; omega))
    have E7 : Below w7.heap.size w7 w11 := S7.out.trans (E8.mono (by have := Z8.out; omega))
    have E6 : Below w6.heap.size w6 w11 := S6.out.trans (E7.mono (by have := Z7.out; omega))
    have E5 : Below w5.heap.size w5 w11 := S5.out.trans (E6.mono (by have := Z6.out; omega))
    have E4 : Below w4.heap.size w4 w11 := S4.out.trans (E5.mono (by have := Z5.out; omega))
    have E3 : Below w3.heap.size w3 w11 := S3.out.trans (E4.mono (by have := Z4.out; omega))
    have E2 : Below w2.heap.size w2 w11 := S2.out.trans (E3.mono (by have := Z3.out; omega))
    have E1 := Lib.hid (show Below w.heap.size w w11 from S0.out.trans ((S1.out.trans (E2.mono (by have := Z2.out; omega))).mono (by have := Z1.out; omega)))
    have h2 := H2.out.on Z3.out E3; have h3 := H3.out.on Z4.out E4; have h4 := H4.out.on Z5.out E5; have h5 := H5.out.on Z6.out E6; have h6 := H6.out.on Z7.out E7
    clear E2 E3 E4 E5 E6 E7 E8 E9 E10
    have a0 := h2 0 _ rfl; have a1 := h2 1 _ rfl; have a2 := h2 2 _ rfl; have a3 := h2 3 _ rfl; have a4 := h2 4 _ rfl
    have b0 := h3 0 _ rfl; have b1 := h3 1 _ rfl; have b2 := h3 2 _ rfl; have b3 := h3 3 _ rfl; have b4 := h3 4 _ rfl
    have c0 := h4 0 _ rfl; have c2 := h4 2 _ rfl
    have d0 := h5 0 _ rfl; have d3 := h5 3 _ rfl
    have e0 := h6 0 _ rfl; have e4 := h6 4 _ rfl
    have k0 := h10 0 _ rfl; have k1 := h10 1 _ rfl; have k3 := h10 3 _ rfl; have k4 := h10 4 _ rfl
    clear h2 h3 h4 h5 h6 h10
    go_wp2_with (go_at_call 22; refine (same_c _ _ (fcanon_lt x HX.out) HX.out _).mono ?_; rw [fk]; rintro e w' ⟨rfl, rfl⟩)
    go_ret
    exact ⟨rfl, E1.out⟩

theorem things_w (n : Int) (x : Nat) (s : ByteArray) (hx : x < 18446744073709551616) (w : World) (hT : Tabs w) :
    Calls Tryz.prog 6 #[.int .i64 n, .float .f64 x, .string s] w fun e w' => e = .returned (.bool true) ∧ Below w.heap.size w w' := by
  cases l : decide ((300 : Int) < (s.size : Int))
  · exact things_short n x s hx w hT l
  · exact things_long n x s w hT l
end Go.Proofs.YtflhjgpkgbnifaaGreatDoor
