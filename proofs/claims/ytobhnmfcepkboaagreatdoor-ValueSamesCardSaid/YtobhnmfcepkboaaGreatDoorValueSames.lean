/- ValueSames: values that are the same have one text, and values that have one text are the same. -/
import Derived.Test.YtobhnmfcepkboaaGreatDoorFitDone
import Derived.Test.YtobhnmfcepkboaaGreatDoorSameT
import Derived.Test.YtobhnmfcepkboaaGreatDoorBwV
namespace Go.Proofs.YtobhnmfcepkboaaGreatDoor
open Go.RowKit Go.Shelf
open Go.Proofs
set_option maxRecDepth 100000

/-! ### The law -/
theorem two_vals {w w' : World} (k n k2 n2 : Int) (x x2 : Nat) (s s2 : ByteArray) (y y2 : Bool)
    (hb : Below (w.heap.size + 2) ((w.alloc (.cells (vals k n x s y) 24)).alloc (.cells (vals k2 n2 x2 s2 y2) 24)) w') :
    (∀ i v, (vals k n x s y)[i]? = some v → w'.cell? ⟨w.heap.size, i, none⟩ = some v) ∧ (∀ i v, (vals k2 n2 x2 s2 y2)[i]? = some v → w'.cell? ⟨w.heap.size + 1, i, none⟩ = some v) := by
  refine ⟨fun i v h => ?_, fun i v h => ?_⟩
  · rw [hb.cell (p := ⟨w.heap.size, i, none⟩) (by simp), World.cell?_alloc_lt _ _ _ (by simp), World.cell?_alloc_new]; exact h
  · rw [hb.cell (p := ⟨w.heap.size + 1, i, none⟩) (by simp)]
    have := World.cell?_alloc_new (w.alloc (.cells (vals k n x s y) 24)) (vals k2 n2 x2 s2 y2) 24 i
    rw [World.size_alloc] at this
    rw [this]; exact h
/-- The law's calls behind its tests. -/
structure SamesK (w : World) (k n : Int) (x : Nat) (s : ByteArray) (y : Bool) (k2 n2 : Int) (x2 : Nat) (s2 : ByteArray) (y2 : Bool) (q : Bool) (T U : ByteArray) (kc nc : Int) (xc : Nat) (sc : ByteArray) (yc : Bool) : Prop where
  same : ∀ W, Calls Tryz.prog 7 #[val k n x s y, val k2 n2 x2 s2 y2] W fun e w' => e = .returned (.bool q) ∧ Below W.heap.size W w'
  pA : ∀ W, Below w.heap.size w W → Calls Tryz.prog 8 #[val k n x s y] W fun e w' => e = .returned (.string T) ∧ Below W.heap.size W w'
  pB : ∀ W, Below w.heap.size w W → Calls Tryz.prog 8 #[val k2 n2 x2 s2 y2] W fun e w' => e = .returned (.string U) ∧ Below W.heap.size W w'
  pC : ∀ W, Below w.heap.size w W → Calls Tryz.prog 8 #[val kc nc xc sc yc] W fun e w' => e = .returned (.string T) ∧ Below W.heap.size W w'
  can : ∀ W, Calls Tryz.prog 9 #[val k n x s y] W fun e w' => e = .returned (val kc nc xc sc yc) ∧ Below W.heap.size W w'
  sameC : ∀ W, Calls Tryz.prog 7 #[val k n x s y, val kc nc xc sc yc] W fun e w' => e = .returned (.bool true) ∧ Below W.heap.size W w'
  eq : q = (T.toList == U.toList)
theorem samesK (w : World) (k n : Int) (x : Nat) (s : ByteArray) (y : Bool) (k2 n2 : Int) (x2 : Nat) (s2 : ByteArray) (y2 : Bool) (hT : Tabs w) (hx : x < 18446744073709551616) (hx2 : x2 < 18446744073709551616) (hn : -9223372036854775808 ≤ n ∧ n ≤ 9223372036854775807) (hn2 : -9223372036854775808 ≤ n2 ∧ n2 ≤ 9223372036854775807)
    (h0 : 0 ≤ k) (h3 : k ≤ 3) (g0 : 0 ≤ k2) (g3 : k2 ≤ 3) (hs : s.size ≤ 300) (hs2 : s2.size ≤ 300) :
    ∃ q T U kc nc xc sc yc, SamesK w k n x s y k2 n2 x2 s2 y2 q T U kc nc xc sc yc := by
  have hg : 17 < w.heap.size := World.block_lt_of_cell? w ⟨17, _, none⟩ (hT.pow 0 (by decide)).1
  obtain ⟨c1, c2, c3⟩ := canon_text k n x s y h0 h3 hx
  obtain ⟨b1, b2, b3⟩ := canonA_bd ⟨⟨#[]⟩, k, n, x, s, y⟩ hx hn.1 hn.2
  refine ⟨(k == k2 && sameV k n n2 x x2 s s2 y y2), printT k n x s y, printT k2 n2 x2 s2 y2, (canonA ⟨⟨#[]⟩, k, n, x, s, y⟩).k, (canonA ⟨⟨#[]⟩, k, n, x, s, y⟩).n, (canonA ⟨⟨#[]⟩, k, n, x, s, y⟩).x, (canonA ⟨⟨#[]⟩, k, n, x, s, y⟩).s, (canonA ⟨⟨#[]⟩, k, n, x, s, y⟩).y, ?_⟩
  exact {
    same := fun W => vsame_c k k2 n n2 x x2 s s2 y y2 W hx hx2
    pA := fun W hW => print_c k n x s y hx hn.1 hn.2 (by omega) W (hT.on hW) (Nat.lt_of_lt_of_le hg hW.size)
    pB := fun W hW => print_c k2 n2 x2 s2 y2 hx2 hn2.1 hn2.2 (by omega) W (hT.on hW) (Nat.lt_of_lt_of_le hg hW.size)
    pC := fun W hW => by
      have := print_c (canonA ⟨⟨#[]⟩, k, n, x, s, y⟩).k (canonA ⟨⟨#[]⟩, k, n, x, s, y⟩).n (canonA ⟨⟨#[]⟩, k, n, x, s, y⟩).x (canonA ⟨⟨#[]⟩, k, n, x, s, y⟩).s (canonA ⟨⟨#[]⟩, k, n, x, s, y⟩).y b1 b2 b3 (by omega) W (hT.on hW) (Nat.lt_of_lt_of_le hg hW.size)
      rwa [c1] at this
    can := fun W => canonA_c ⟨⟨#[]⟩, k, n, x, s, y⟩ W
    sameC := fun W => by
      have := vsame_c k (canonA ⟨⟨#[]⟩, k, n, x, s, y⟩).k n (canonA ⟨⟨#[]⟩, k, n, x, s, y⟩).n x (canonA ⟨⟨#[]⟩, k, n, x, s, y⟩).x s (canonA ⟨⟨#[]⟩, k, n, x, s, y⟩).s y (canonA ⟨⟨#[]⟩, k, n, x, s, y⟩).y W hx b1
      rwa [c2] at this
    eq := same_text k n x s y k2 n2 x2 s2 y2 h0 h3 g0 g3 hx hx2 }

attribute [local irreducible] wpQuiet
set_option maxHeartbeats 8000000 in
theorem valueSames_c (k n : Int) (x : Nat) (s : ByteArray) (y : Bool) (k2 n2 : Int) (x2 : Nat) (s2 : ByteArray) (y2 : Bool) (hx : x < 18446744073709551616) (hx2 : x2 < 18446744073709551616) (hn : -9223372036854775808 ≤ n ∧ n ≤ 9223372036854775807) (hn2 : -9223372036854775808 ≤ n2 ∧ n2 ≤ 9223372036854775807) (w : World) (hT : Tabs w) :
    Calls Tryz.prog 3 #[val k n x s y, val k2 n2 x2 s2 y2] w fun e w' => e = .returned (.bool true) ∧ Below w.heap.size w w' := by
  have hg : 17 < w.heap.size := World.block_lt_of_cell? w ⟨17, _, none⟩ (hT.pow 0 (by decide)).1
  have HFT : Aside (∀ W, Below w.heap.size w W → Calls Tryz.prog 5 #[] W fun e w' => e = .returned (.bool true) ∧ Below W.heap.size W w') := fun W hW => fit_c W (hT.on hW) (Nat.lt_of_lt_of_le hg hW.size)
  have HL1 := Lib.hid (fun W => light_c k n x s y W)
  have HL2 := Lib.hid (fun W => light_c k2 n2 x2 s2 y2 W)
  have HSK : Aside (0 ≤ k → k ≤ 3 → 0 ≤ k2 → k2 ≤ 3 → s.size ≤ 300 → s2.size ≤ 300 → ∃ q T U kc nc xc sc yc, SamesK w k n x s y k2 n2 x2 s2 y2 q T U kc nc xc sc yc) := fun h0 h3 g0 g3 hs hs2 => samesK w k n x s y k2 n2 x2 s2 y2 hT hx hx2 hn hn2 h0 h3 g0 g3 hs hs2
  have HB0 : Aside (Below w.heap.size w ((w.alloc (.cells (vals k n x s y) 24)).alloc (.cells (vals k2 n2 x2 s2 y2) 24))) := ((Below.refl _ _).alloc (Nat.le_refl _) _).alloc (by simp) _
  have HKP : Aside (∀ W, Below (w.heap.size + 2) ((w.alloc (.cells (vals k n x s y) 24)).alloc (.cells (vals k2 n2 x2 s2 y2) 24)) W → (∀ i v, (vals k n x s y)[i]? = some v → W.cell? ⟨w.heap.size, i, none⟩ = some v) ∧ (∀ i v, (vals k2 n2 x2 s2 y2)[i]? = some v → W.cell? ⟨w.heap.size + 1, i, none⟩ = some v)) := fun W hW => two_vals _ _ _ _ _ _ _ _ _ _ hW
  have z2 : w.heap.size + 2 ≤ ((w.alloc (.cells (vals k n x s y) 24)).alloc (.cells (vals k2 n2 x2 s2 y2) 24)).heap.size := by simp
  clear hx hx2 hn hn2 hT hg
  go_enter Tryz.func3, Tryz.ntmps3
  go_wp2_with fail
  generalize hW0 : ((w.alloc (.cells (vals k n x s y) 24)).alloc (.cells (vals k2 n2 x2 s2 y2) 24)) = w0 at *
  refine (HFT.out _ HB0.out).mono ?_
  rintro e w1 ⟨rfl, hb⟩
  have HA1 : Aside (Below (w.heap.size + 2) w0 w1) := hb.mono z2
  clear hb HFT
  obtain ⟨va, vb⟩ := HKP.out _ HA1.out
  have a0 := va 0 _ rfl; have a1 := va 1 _ rfl; have a2 := va 2 _ rfl; have a3 := va 3 _ rfl; have a4 := va 4 _ rfl
  clear va vb
  go_wp2_with fail
  clear a0 a1 a2 a3 a4
  refine (HL1.out _).mono ?_
  rintro e w2 ⟨rfl, hb⟩
  have HA2 : Aside (Below (w.heap.size + 2) w0 w2) := HA1.out.trans (hb.mono (Nat.le_trans z2 HA1.out.size))
  clear hb HA1 HL1
  by_cases l1 : (s.size : Int) ≤ 300
  rotate_left
  · rw [decide_eq_false l1]
    go_wp2_with fail
    go_ret
    exact ⟨rfl, HB0.out.trans (HA2.out.mono (by omega))⟩
  rw [decide_eq_true l1]
  have H1 := Lib.hid l1
  clear l1
  obtain ⟨va, vb⟩ := HKP.out _ HA2.out
  have b0 := vb 0 _ rfl; have b1 := vb 1 _ rfl; have b2 := vb 2 _ rfl; have b3 := vb 3 _ rfl; have b4 := vb 4 _ rfl
  clear va vb
  go_wp2_with fail
  clear b0 b1 b2 b3 b4
  refine (HL2.out _).mono ?_
  rintro e w3 ⟨rfl, hb⟩
  have HA3 : Aside (Below (w.heap.size + 2) w0 w3) := HA2.out.trans (hb.mono (Nat.le_trans z2 HA2.out.size))
  clear hb HA2 HL2
  by_cases l2 : (s2.size : Int) ≤ 300
  rotate_left
  · rw [decide_eq_false l2]
    go_wp2_with fail
    go_ret
    exact ⟨rfl, HB0.out.trans (HA3.out.mono (by omega))⟩
  rw [decide_eq_true l2]
  have H2 := Lib.hid l2
  clear l2
  have HX : Aside (∀ W, Below w3.heap.size w3 W → ((∀ i v, (vals k n x s y)[i]? = some v → W.cell? ⟨w.heap.size, i, none⟩ = some v) ∧ (∀ i v, (vals k2 n2 x2 s2 y2)[i]? = some v → W.cell? ⟨w.heap.size + 1, i, none⟩ = some v)) ∧ Below w.heap.size w W) := fun W hW => by
    have h := HA3.out.trans (hW.mono (Nat.le_trans z2 HA3.out.size))
    exact ⟨HKP.out W h, HB0.out.trans (h.mono (by omega))⟩
  have HE := Lib.hid (HX.out _ (Below.refl _ _)).2
  obtain ⟨⟨va, vb⟩, _⟩ := HX.out _ (Below.refl _ _)
  have a0 : w3.cell? ⟨w.heap.size, 0, none⟩ = some (.int .i64 k) := va 0 _ rfl
  have b0 : w3.cell? ⟨w.heap.size + 1, 0, none⟩ = some (.int .i64 k2) := vb 0 _ rfl
  clear va vb HKP HA3 HB0
  by_cases hk0 : k < 0
  · go_wp2_with fail
    go_ret
    exact ⟨rfl, HE.out⟩
  have Fhk0 : (k < 0) = False := eq_false hk0
  by_cases hk3 : 3 < k
  · go_wp2_with fail
    go_ret
    exact ⟨rfl, HE.out⟩
  have Fhk3 : (3 < k) = False := eq_false hk3
  by_cases hj0 : k2 < 0
  · go_wp2_with fail
    go_ret
    exact ⟨rfl, HE.out⟩
  have Fhj0 : (k2 < 0) = False := eq_false hj0
  by_cases hj3 : 3 < k2
  · go_wp2_with fail
    go_ret
    exact ⟨rfl, HE.out⟩
  have Fhj3 : (3 < k2) = False := eq_false hj3
  obtain ⟨q, T, U, kc, nc, xc, sc, yc, hK⟩ := HSK.out (by omega) (by omega) (by omega) (by omega) (by have := H1.out; omega) (by have := H2.out; omega)
  have HK := Lib.hid hK
  have heq := hK.eq
  go_upto_region 5 with fail
  clear hK HSK H1 H2 a0 b0 hk0 hk3 hj0 hj3 Fhk0 Fhk3 Fhj0 Fhj3
  have KK := fun p : BW w3 => HX.out p.W p.h
  have a0 : ∀ p : BW w3, p.W.cell? ⟨w.heap.size, 0, none⟩ = some (.int .i64 k) := fun p => (KK p).1.1 0 _ rfl
  have a1 : ∀ p : BW w3, p.W.cell? ⟨w.heap.size, 1, none⟩ = some (.int .i64 n) := fun p => (KK p).1.1 1 _ rfl
  have a2 : ∀ p : BW w3, p.W.cell? ⟨w.heap.size, 2, none⟩ = some (.float .f64 x) := fun p => (KK p).1.1 2 _ rfl
  have a3 : ∀ p : BW w3, p.W.cell? ⟨w.heap.size, 3, none⟩ = some (.string s) := fun p => (KK p).1.1 3 _ rfl
  have a4 : ∀ p : BW w3, p.W.cell? ⟨w.heap.size, 4, none⟩ = some (.bool y) := fun p => (KK p).1.1 4 _ rfl
  have b0 : ∀ p : BW w3, p.W.cell? ⟨w.heap.size + 1, 0, none⟩ = some (.int .i64 k2) := fun p => (KK p).1.2 0 _ rfl
  have b1 : ∀ p : BW w3, p.W.cell? ⟨w.heap.size + 1, 1, none⟩ = some (.int .i64 n2) := fun p => (KK p).1.2 1 _ rfl
  have b2 : ∀ p : BW w3, p.W.cell? ⟨w.heap.size + 1, 2, none⟩ = some (.float .f64 x2) := fun p => (KK p).1.2 2 _ rfl
  have b3 : ∀ p : BW w3, p.W.cell? ⟨w.heap.size + 1, 3, none⟩ = some (.string s2) := fun p => (KK p).1.2 3 _ rfl
  have b4 : ∀ p : BW w3, p.W.cell? ⟨w.heap.size + 1, 4, none⟩ = some (.bool y2) := fun p => (KK p).1.2 4 _ rfl
  have hS : ∀ p : BW w3, Calls Tryz.prog 7 #[val k n x s y, val k2 n2 x2 s2 y2] p.W fun e w'' => e = .returned (.bool q) ∧ ∃ q : BW w3, w'' = q.W := fun p => (HK.out.same p.W).mono fun _ _ q => ⟨q.1, ⟨⟨_, p.h.trans (q.2.mono p.h.size)⟩, rfl⟩⟩
  have hS2 : ∀ p : BW w3, Calls Tryz.prog 7 #[val k n x s y, val kc nc xc sc yc] p.W fun e w'' => e = .returned (.bool true) ∧ ∃ q : BW w3, w'' = q.W := fun p => (HK.out.sameC p.W).mono fun _ _ q => ⟨q.1, ⟨⟨_, p.h.trans (q.2.mono p.h.size)⟩, rfl⟩⟩
  have hC : ∀ p : BW w3, Calls Tryz.prog 9 #[val k n x s y] p.W fun e w'' => e = .returned (val kc nc xc sc yc) ∧ ∃ q : BW w3, w'' = q.W := fun p => (HK.out.can p.W).mono fun _ _ q => ⟨q.1, ⟨⟨_, p.h.trans (q.2.mono p.h.size)⟩, rfl⟩⟩
  have hA : ∀ p : BW w3, Calls Tryz.prog 8 #[val k n x s y] p.W fun e w'' => e = .returned (.string T) ∧ ∃ q : BW w3, w'' = q.W := fun p => (HK.out.pA p.W (KK p).2).mono fun _ _ q => ⟨q.1, ⟨⟨_, p.h.trans (q.2.mono p.h.size)⟩, rfl⟩⟩
  have hB : ∀ p : BW w3, Calls Tryz.prog 8 #[val k2 n2 x2 s2 y2] p.W fun e w'' => e = .returned (.string U) ∧ ∃ q : BW w3, w'' = q.W := fun p => (HK.out.pB p.W (KK p).2).mono fun _ _ q => ⟨q.1, ⟨⟨_, p.h.trans (q.2.mono p.h.size)⟩, rfl⟩⟩
  have hD : ∀ p : BW w3, Calls Tryz.prog 8 #[val kc nc xc sc yc] p.W fun e w'' => e = .returned (.string T) ∧ ∃ q : BW w3, w'' = q.W := fun p => (HK.out.pC p.W (KK p).2).mono fun _ _ q => ⟨q.1, ⟨⟨_, p.h.trans (q.2.mono p.h.size)⟩, rfl⟩⟩
  have HXX : Aside (∀ p : BW w3, Below w.heap.size w p.W) := fun p => (KK p).2
  have hqq : (q == q) = true := by simp
  have hTT : (T.toList == T.toList) = true := by simp
  have heq2 : (T.toList == U.toList) = q := heq.symm
  clear heq HK KK HX
  refine wp_region_bw (by kernel_rfl) (by kernel_rfl) ?_
  repeat (quiet_step (first | (go_at_call 7; first | (with_reducible exact hS _) | (with_reducible exact hS2 _)) | (go_at_call 9; exact hC _) | (go_at_call 8; first | (with_reducible exact hA _) | (with_reducible exact hB _) | (with_reducible exact hD _))))
  refine wpQuiet_nil ?_
  intro w2' hw'
  obtain ⟨pw, hw2⟩ := hw'
  have HX2 := Lib.hid (HXX.out pw)
  rw [← hw2] at HX2
  clear a0 a1 a2 a3 a4 b0 b1 b2 b3 b4 hS hS2 hC hA hB hD hw2 HXX pw
  go_wp2_with fail
  go_ret
  exact ⟨rfl, HX2.out⟩
end Go.Proofs.YtobhnmfcepkboaaGreatDoor
