/- CondNumbers: of two comparisons by numbers one implies the other one just if it has to, among all. -/
import Derived.Test.YtjeippdfgojdnaaGreatDoorCondT
import Derived.Test.YtjeippdfgojdnaaGreatDoorCondI
import Derived.Deep.DeepCutAuto
namespace Go.Proofs.YtjeippdfgojdnaaGreatDoor
open Go.RowKit Go.Shelf
open Go.Proofs
set_option maxRecDepth 100000

theorem and_7 (n : Int) : ∃ m : Nat, m < 8 ∧ bits .and .i64 n 7 = m := by
  have h : ∃ m : Nat, m < 8 ∧ bits .and .i64 n 7 = IntKind.i64.wrap m := by
    refine ⟨(BitVec.ofInt 64 n &&& BitVec.ofInt 64 7).toNat, ?_, rfl⟩
    have e : (BitVec.ofInt 64 7).toNat = 7 := rfl
    rw [BitVec.toNat_and, e]
    have := @Nat.and_le_right (BitVec.ofInt 64 n).toNat 7
    omega
  obtain ⟨m, h1, h2⟩ := h
  exact ⟨m, h1, by rw [h2, IntKind.wrap_i64]; omega⟩
theorem and_255 (n : Int) : ∃ m : Nat, m < 256 ∧ bits .and .i64 n 255 = m := by
  have h : ∃ m : Nat, m < 256 ∧ bits .and .i64 n 255 = IntKind.i64.wrap m := by
    refine ⟨(BitVec.ofInt 64 n &&& BitVec.ofInt 64 255).toNat, ?_, rfl⟩
    have e : (BitVec.ofInt 64 255).toNat = 255 := rfl
    rw [BitVec.toNat_and, e]
    have := @Nat.and_le_right (BitVec.ofInt 64 n).toNat 255
    omega
  obtain ⟨m, h1, h2⟩ := h
  exact ⟨m, h1, by rw [h2, IntKind.wrap_i64]; omega⟩

def Fw (m : Nat) : Nat := ([0, 4607182418800017408, 4611686018427387904, 4613937818241073152, 4616189618054758400, 4617315517961601024, 4618441417868443648, 4619567317775286272] : List Nat).getD m 0
def Hw (j : Nat) : Nat := ([13830554455654793216, 13826050856027422720, 0, 4602678819172646912, 4607182418800017408, 4609434218613702656, 4611686018427387904, 4612811918334230528, 4613937818241073152, 4615063718147915776, 4616189618054758400, 4616752568008179712, 4617315517961601024, 4617878467915022336, 4618441417868443648, 4619004367821864960, 4619567317775286272, 4620130267728707584, 4620693217682128896, 4620974692658839552, 4621256167635550208] : List Nat).getD j 0
theorem fw_eq : ∀ m : Nat, m < 8 → floatOfInt .f64 (m : Int) = Fw m := by decide +kernel
theorem hw_eq : ∀ j : Nat, j < 21 → floatBits .quo .f64 (floatOfInt .f64 ((j : Int) - 2)) 4611686018427387904 = some (Hw j) := by decide +kernel
theorem fw_bd : ∀ m : Nat, m < 8 → Fw m < 18446744073709551616 ∧ fnan (Fw m) = false := by decide +kernel
theorem hw_bd : ∀ j : Nat, j < 21 → Hw j < 18446744073709551616 ∧ fnan (Hw j) = false := by decide +kernel
theorem hf_key : ∀ j : Nat, j < 21 → ∀ m : Nat, m < 8 → sgn (fkey (Hw j)) (fkey (Fw m)) = sgn ((j : Int) - 2) (2 * (m : Int)) := by decide +kernel
theorem ff_key : ∀ m : Nat, m < 8 → ∀ p : Nat, p < 8 → sgn (fkey (Fw m)) (fkey (Fw p)) = sgn (m : Int) (p : Int) := by decide +kernel
/-- The law's two conditions; the values that it asks. -/
def numC (o m : Nat) : Cn := ⟨⟨⟨#[97]⟩, 1, 0, Fw m, ⟨#[]⟩, false⟩, (o : Int)⟩
def halfA (j : Nat) : At := ⟨⟨#[]⟩, 1, 0, Hw j, ⟨#[]⟩, false⟩
def hB (o m j : Nat) : Bool := standsB (o : Int) (sgn ((j : Int) - 2) (2 * (m : Int)))
theorem nholds (o m j : Nat) (ho : o < 6) (hm : m < 8) (hj : j < 21) : holdsB (numC o m) (halfA j) = hB o m j := by
  have h7 : ((o : Int) == 7) = false := by simp; omega
  have h6 : ((o : Int) == 6) = false := by simp; omega
  have hok : okA (halfA j) (numC o m).a = true := okA_mk rfl (by
    show ((1 : Int) == 1 && fnan (Hw j)) = false
    rw [(hw_bd j hj).2]; rfl) (by
    show ((1 : Int) == 1 && fnan (Fw m)) = false
    rw [(fw_bd m hm).2]; rfl)
  have hc : cmpA (halfA j) (numC o m).a = sgn ((j : Int) - 2) (2 * (m : Int)) := hf_key j hj m hm
  unfold holdsB hB
  rw [hok, hc]
  simp only [numC, h7, h6, Bool.false_eq_true, if_false, Bool.true_and]
def implI (a b c : Int) : Bool :=
  if a == 0 then standsB b c else if a == 1 then b == 1 && c == 0 else if a == 2 || a == 3 then boundI a b c 2 3 else boundI a b (-c) 4 5
theorem nimplies (o m o2 m2 : Nat) (ho : o < 6) (hm : m < 8) (ho2 : o2 < 6) (hm2 : m2 < 8) : impliesB (numC o m) (numC o2 m2) = implI o o2 (sgn (m : Int) (m2 : Int)) := by
  have hv : ∀ o m, o < 6 → m < 8 → cvoidB (numC o m) = false := fun o m ho hm => by
    have h7 : ((o : Int) == 7) = false := by simp; omega
    have h6 : ((o : Int) == 6) = false := by simp; omega
    unfold cvoidB
    simp only [numC, h7, h6, Bool.false_eq_true, if_false]
    show ((1 : Int) == 1 && fnan (Fw m)) = false
    rw [(fw_bd m hm).2]; rfl
  have h7 : ((o : Int) == 7) = false := by simp; omega
  have h6 : ((o : Int) == 6) = false := by simp; omega
  have h72 : ((o2 : Int) == 7) = false := by simp; omega
  have h62 : ((o2 : Int) == 6) = false := by simp; omega
  have hc : cmpA (numC o m).a (numC o2 m2).a = sgn (m : Int) (m2 : Int) := ff_key m hm m2 hm2
  have hok : okA (numC o m).a (numC o2 m2).a = true := okA_mk rfl (by
    show ((1 : Int) == 1 && fnan (Fw m)) = false
    rw [(fw_bd m hm).2]; rfl) (by
    show ((1 : Int) == 1 && fnan (Fw m2)) = false
    rw [(fw_bd m2 hm2).2]; rfl)
  have hh : holdsB (numC o2 m2) (numC o m).a = standsB (o2 : Int) (sgn (m : Int) (m2 : Int)) := by
    unfold holdsB
    rw [hok, hc]
    simp only [numC, h72, h62, Bool.false_eq_true, if_false, Bool.true_and]
  have hs : vsame (numC o m).a (numC o2 m2).a = (sgn (m : Int) (m2 : Int) == 0) := by
    rw [vsame_iff, hc]; rfl
  unfold impliesB coreB
  rw [hv o m ho hm, hv o2 m2 ho2 hm2, hc, hh, hs]
  unfold implI
  simp only [numC, h7, h72, h6]
  simp
  rcases (show o = 0 ∨ o = 1 ∨ o = 2 ∨ o = 3 ∨ o = 4 ∨ o = 5 by omega) with rfl | rfl | rfl | rfl | rfl | rfl <;> simp
def nallB (o m o2 m2 n : Nat) : Bool := (List.range n).all fun j => !hB o m j || hB o2 m2 j
theorem nall_succ (o m o2 m2 n : Nat) : nallB o m o2 m2 (n + 1) = (nallB o m o2 m2 n && (!hB o m n || hB o2 m2 n)) := by
  unfold nallB; rw [List.range_succ, List.all_append]; simp
theorem nall_end : ∀ o : Nat, o < 6 → ∀ o2 : Nat, o2 < 6 → ∀ m : Nat, m < 8 → ∀ m2 : Nat, m2 < 8 → implI (o : Int) (o2 : Int) (sgn (m : Int) (m2 : Int)) = nallB o m o2 m2 21 := by decide +kernel

set_option maxHeartbeats 4000000 in
theorem condNumbers_c (a b o1 o2 : Int) (w : World) (hw : Wds w) :
    Calls Tryz.prog 11 #[.int .i64 a, .int .i64 b, .agg #[.int .i64 o1, .int .i64 o2]] w fun e w' => e = .returned (.bool true) ∧ Below w.heap.size w w' := by
  have B0 : Below w.heap.size w (w.alloc (.cells #[.int .i64 o1, .int .i64 o2] 55)) := (Below.refl _ _).alloc (Nat.le_refl _) _
  have HB0 := Lib.hid B0; clear B0
  have HF : Aside (∀ W, Below w.heap.size w W → Calls Tryz.prog 13 #[] W fun e w' => e = .returned (.bool true) ∧ Below W.heap.size W w') := fun W hW => fit6_c W (hw.on hW)
  obtain ⟨m, hm, hme⟩ := and_7 a
  obtain ⟨p, hp, hpe⟩ := and_7 b
  obtain ⟨q1, hq1, hq1e⟩ := and_255 o1
  obtain ⟨q2, hq2, hq2e⟩ := and_255 o2
  obtain ⟨u, hu, hue⟩ : ∃ u : Nat, u < 6 ∧ (q1 : Int) % 6 = (u : Int) := ⟨q1 % 6, by omega, by omega⟩
  obtain ⟨v, hv, hve⟩ : ∃ v : Nat, v < 6 ∧ (q2 : Int) % 6 = (v : Int) := ⟨q2 % 6, by omega, by omega⟩
  have hfm := fw_eq m hm
  have hfp := fw_eq p hp
  have HX : Aside (∀ j, j < 21 → ∀ W, Calls Tryz.prog 18 #[cnd ⟨#[97]⟩ (u : Int) 1 0 (Fw m) ⟨#[]⟩ false, val 1 0 (Hw j) ⟨#[]⟩ false] W fun e w' => e = .returned (.bool (hB u m j)) ∧ Below W.heap.size W w') := fun j hj W => by
    rw [← nholds u m j hu hm hj]
    exact holds_c _ _ _ _ _ _ _ _ _ _ _ _ _ (fw_bd m hm).1 (hw_bd j hj).1 W
  have HY : Aside (∀ j, j < 21 → ∀ W, Calls Tryz.prog 18 #[cnd ⟨#[97]⟩ (v : Int) 1 0 (Fw p) ⟨#[]⟩ false, val 1 0 (Hw j) ⟨#[]⟩ false] W fun e w' => e = .returned (.bool (hB v p j)) ∧ Below W.heap.size W w') := fun j hj W => by
    rw [← nholds v p j hv hp hj]
    exact holds_c _ _ _ _ _ _ _ _ _ _ _ _ _ (fw_bd p hp).1 (hw_bd j hj).1 W
  have HI : Aside (∀ W, Calls Tryz.prog 22 #[cnd ⟨#[97]⟩ (u : Int) 1 0 (Fw m) ⟨#[]⟩ false, cnd ⟨#[97]⟩ (v : Int) 1 0 (Fw p) ⟨#[]⟩ false] W fun e w' => e = .returned (.bool (nallB u m v p 21)) ∧ Below W.heap.size W w') := fun W => by
    rw [← nall_end u hu v hv m hm p hp, ← nimplies u m v p hu hm hv hp]
    exact implies_c _ _ _ _ _ _ _ _ _ _ _ _ _ _ (fw_bd m hm).1 (fw_bd p hp).1 W
  have HQ : Aside (∀ j : Nat, j < 21 → ∃ f, floatOfInt .f64 ((j : Int) - 2) = f ∧ ∀ W, (binOp .quo 22 (.float .f64 f) (.float .f64 4611686018427387904)).run Tryz.prog W = .ok (.float .f64 (Hw j)) W) := fun j hj => ⟨_, rfl, fun W => run_float_arith W .quo _ .f64 _ _ _ (hw_eq j hj)⟩
  have HN : Aside (∀ j, nallB u m v p (j + 1) = (nallB u m v p j && (!hB u m j || hB v p j))) := fun j => nall_succ u m v p j
  have HN0 : Aside (nallB u m v p 0 = true) := rfl
  generalize nallB u m v p = NA at *
  generalize hB u m = hX at *
  generalize hB v p = hY at *
  generalize Fw m = x1 at *
  generalize Fw p = x2 at *
  clear hw hu hv hm hp hq1 hq2
  go_enter Tryz.func11, Tryz.ntmps11
  go_wp2_with fail
  refine (HF.out _ HB0.out).mono ?_
  rintro e w1 ⟨rfl, hb⟩
  have hA1 : Below (w.heap.size + 1) (w.alloc (.cells #[.int .i64 o1, .int .i64 o2] 55)) w1 := by simpa using hb
  have z1 : w.heap.size + 1 ≤ w1.heap.size := by have := hA1.size; simpa using this
  have a0 := one_lay hA1 0 _ rfl; have a1 := one_lay hA1 1 _ rfl
  have HA1 := Lib.hid hA1; clear hb hA1 HF
  go_upto_region 4 with fail
  have hlay : ∀ W, W = w1.alloc (.cells (cnds ⟨#[97]⟩ (u : Int) 1 0 x1 ⟨#[]⟩ false) 26) → W.cell? ⟨w.heap.size, 1, none⟩ = some (.int .i64 o2) ∧ Below (w.heap.size + 1) (w.alloc (.cells #[.int .i64 o1, .int .i64 o2] 55)) W ∧ W.heap.size = w1.heap.size + 1 ∧ (∀ i v, (cnds ⟨#[97]⟩ (u : Int) 1 0 x1 ⟨#[]⟩ false)[i]? = some v → W.cell? ⟨w1.heap.size, i, none⟩ = some v) := by
    rintro W rfl
    have hB : Below (w.heap.size + 1) (w.alloc (.cells #[.int .i64 o1, .int .i64 o2] 55)) (w1.alloc (.cells (cnds ⟨#[97]⟩ (u : Int) 1 0 x1 ⟨#[]⟩ false) 26)) := HA1.out.alloc z1 _
    exact ⟨one_lay hB 1 _ rfl, hB, by simp, fun i v h => by rw [World.cell?_alloc_new]; exact h⟩
  obtain ⟨b1, hB2, z2, hX2⟩ := hlay _ rfl
  clear hlay a0 a1 HA1
  generalize w1.alloc (.cells (cnds ⟨#[97]⟩ (u : Int) 1 0 x1 ⟨#[]⟩ false) 26) = w2 at *
  have HB2 := Lib.hid hB2; have HX2 := Lib.hid hX2
  clear hB2 hX2
  go_upto_region 5 with fail
  have hlay : ∀ W, W = w2.alloc (.cells (cnds ⟨#[97]⟩ (v : Int) 1 0 x2 ⟨#[]⟩ false) 26) → Below w.heap.size w W ∧ W.heap.size = w1.heap.size + 2 ∧ (∀ i v, (cnds ⟨#[97]⟩ (u : Int) 1 0 x1 ⟨#[]⟩ false)[i]? = some v → W.cell? ⟨w1.heap.size, i, none⟩ = some v) ∧ (∀ i v', (cnds ⟨#[97]⟩ (v : Int) 1 0 x2 ⟨#[]⟩ false)[i]? = some v' → W.cell? ⟨w2.heap.size, i, none⟩ = some v') := by
    rintro W rfl
    refine ⟨(HB0.out.trans (HB2.out.mono (by omega))).alloc (by omega) _, by simp; omega, fun i v' h => ?_, fun i v' h => by rw [World.cell?_alloc_new]; exact h⟩
    rw [World.cell?_alloc_lt _ _ _ (by show w1.heap.size < w2.heap.size; omega)]
    exact HX2.out i v' h
  obtain ⟨hB3, z3, hX3, hY3⟩ := hlay _ rfl
  clear hlay b1 HX2 HB2
  generalize w2.alloc (.cells (cnds ⟨#[97]⟩ (v : Int) 1 0 x2 ⟨#[]⟩ false) 26) = w3 at *
  have HB3 := Lib.hid hB3; have HX3 := Lib.hid hX3; have HY3 := Lib.hid hY3
  clear hB3 hX3 hY3 hme hpe hq1e hq2e hue hve hfm hfp
  have hyb : w2.heap.size = w1.heap.size + 1 := z2
  rw [hyb] at HY3
  have z1' : w.heap.size ≤ w1.heap.size := by omega
  clear hyb z2 z1
  generalize w1.heap.size = X at *
  have HKP : Aside (∀ W, Below w3.heap.size w3 W → (Below w.heap.size w W ∧ X + 2 ≤ W.heap.size ∧ (W.cell? ⟨X, 0, none⟩ = some (.string ⟨#[97]⟩) ∧ W.cell? ⟨X, 1, none⟩ = some (.int .i64 (u : Int)) ∧ W.cell? ⟨X, 2, none⟩ = some (.int .i64 1) ∧ W.cell? ⟨X, 3, none⟩ = some (.int .i64 0) ∧ W.cell? ⟨X, 4, none⟩ = some (.float .f64 x1) ∧ W.cell? ⟨X, 5, none⟩ = some (.string ⟨#[]⟩) ∧ W.cell? ⟨X, 6, none⟩ = some (.bool false)) ∧ (W.cell? ⟨X + 1, 0, none⟩ = some (.string ⟨#[97]⟩) ∧ W.cell? ⟨X + 1, 1, none⟩ = some (.int .i64 (v : Int)) ∧ W.cell? ⟨X + 1, 2, none⟩ = some (.int .i64 1) ∧ W.cell? ⟨X + 1, 3, none⟩ = some (.int .i64 0) ∧ W.cell? ⟨X + 1, 4, none⟩ = some (.float .f64 x2) ∧ W.cell? ⟨X + 1, 5, none⟩ = some (.string ⟨#[]⟩) ∧ W.cell? ⟨X + 1, 6, none⟩ = some (.bool false)))) := fun W hW => by
    have cx : ∀ i v', (cnds ⟨#[97]⟩ (u : Int) 1 0 x1 ⟨#[]⟩ false)[i]? = some v' → W.cell? ⟨X, i, none⟩ = some v' := fun i v' h => (hW.cell (p := ⟨X, i, none⟩) (by show X < w3.heap.size; omega)).trans (HX3.out i v' h)
    have cy : ∀ i v', (cnds ⟨#[97]⟩ (v : Int) 1 0 x2 ⟨#[]⟩ false)[i]? = some v' → W.cell? ⟨X + 1, i, none⟩ = some v' := fun i v' h => (hW.cell (p := ⟨X + 1, i, none⟩) (by show X + 1 < w3.heap.size; omega)).trans (HY3.out i v' h)
    exact ⟨HB3.out.trans (hW.mono HB3.out.size), by have := hW.size; omega, ⟨cx 0 _ rfl, cx 1 _ rfl, cx 2 _ rfl, cx 3 _ rfl, cx 4 _ rfl, cx 5 _ rfl, cx 6 _ rfl⟩, ⟨cy 0 _ rfl, cy 1 _ rfl, cy 2 _ rfl, cy 3 _ rfl, cy 4 _ rfl, cy 5 _ rfl, cy 6 _ rfl⟩⟩
  clear HX3 HY3 HB3 HB0
  go_wp2_with fail
  go_loopg [9, 10] 21 (fun kx s9 s10 wr => ∃ (j : Nat) (z : Int), s10 = .int .i64 z ∧ z = (j : Int) - 2 ∧ s9 = .bool (NA j) ∧ j ≤ 21 ∧ 21 - j ≤ kx ∧ Aside (Below w3.heap.size w3 wr))
  case atStart => exact ⟨0, -2, rfl, rfl, by rw [HN0.out], Nat.zero_le _, by omega, Below.refl _ _⟩
  case round =>
    obtain ⟨j, z, rfl, hz, rfl, hj, hjx, HA⟩ := hrel
    obtain ⟨HBw, zr, ⟨a0, a1, a2, a3, a4, a5, a6⟩, ⟨b0, b1, b2, b3, b4, b5, b6⟩⟩ := HKP.out _ HA.out
    have HBW := Lib.hid HBw; clear HBw
    by_cases hlt : j < 21
    · obtain ⟨f, hf, hq⟩ := HQ.out j hlt
      rw [← hz] at hf
      have hzl : z ≤ 18 := by omega
      have hzw : IntKind.i64.wrap (z + 1) = z + 1 := by rw [IntKind.wrap_i64]; omega
      have hz2 : z + 1 = ((j + 1 : Nat) : Int) - 2 := by omega
      have HZ2 := Lib.hid hz2
      have hxj := HX.out j hlt
      have hyj := HY.out j hlt
      have hnj := HN.out j
      clear hz hz2 HX HY HI HQ HN HN0
      generalize Hw j = h at *
      generalize hX j = bx at *
      generalize hY j = by' at *
      generalize hNA : NA j = n0 at *
      have HXJ := Lib.hid hxj; have HYJ := Lib.hid hyj; have HNJ := Lib.hid hnj
      clear hxj hyj hnj hNA
      cases n0
      · go_wp2_with fail
        go_roundg (21 - (j + 1))
        case measure => omega
        case rel => exact ⟨j + 1, z + 1, rfl, HZ2.out, by rw [HNJ.out]; rfl, by omega, Nat.le_refl _, HA.out.alloc HA.out.size _⟩
      · go_upto_region 10 with fail
        have hA9 : Below w3.heap.size w3 (wr.alloc (.cells (vals 1 0 h ⟨#[]⟩ false) 24)) := HA.out.alloc HA.out.size _
        have vv := World.cell?_alloc_new wr (vals 1 0 h ⟨#[]⟩ false) 24
        have v0 := vv 0; have v1 := vv 1; have v2 := vv 2; have v3 := vv 3; have v4 := vv 4
        simp only [List.getElem?_toArray, List.getElem?_cons_zero, List.getElem?_cons_succ] at v0 v1 v2 v3 v4
        have z9 : wr.heap.size < (wr.alloc (.cells (vals 1 0 h ⟨#[]⟩ false) 24)).heap.size := by simp
        clear vv a0 a1 a2 a3 a4 a5 a6 b0 b1 b2 b3 b4 b5 b6 HBW
        generalize (wr.alloc (.cells (vals 1 0 h ⟨#[]⟩ false) 24)) = w9 at *
        generalize wr.heap.size = V at *
        obtain ⟨HBw, zr9, ⟨a0, a1, a2, a3, a4, a5, a6⟩, ⟨b0, b1, b2, b3, b4, b5, b6⟩⟩ := HKP.out _ hA9
        have HA9 := Lib.hid hA9
        clear HBw hA9 HA hq hf hzl
        go_wp2_with fail
        clear a0 a1 a2 a3 a4 a5 a6 b0 b1 b2 b3 b4 b5 b6
        refine (HXJ.out _).mono ?_
        rintro e w10 ⟨rfl, hb⟩
        have v0 := (hb.cell (p := ⟨V, 0, none⟩) z9).trans v0; have v1 := (hb.cell (p := ⟨V, 1, none⟩) z9).trans v1; have v2 := (hb.cell (p := ⟨V, 2, none⟩) z9).trans v2; have v3 := (hb.cell (p := ⟨V, 3, none⟩) z9).trans v3; have v4 := (hb.cell (p := ⟨V, 4, none⟩) z9).trans v4
        have hA10 := HA9.out.trans (hb.mono HA9.out.size)
        clear hb
        obtain ⟨HBw, zr10, ⟨a0, a1, a2, a3, a4, a5, a6⟩, ⟨b0, b1, b2, b3, b4, b5, b6⟩⟩ := HKP.out _ hA10
        have HA10 := Lib.hid hA10
        clear HBw hA10
        cases bx
        · go_wp2_with fail
          go_roundg (21 - (j + 1))
          case measure => omega
          case rel => exact ⟨j + 1, z + 1, rfl, HZ2.out, by rw [HNJ.out]; rfl, by omega, Nat.le_refl _, HA10.out⟩
        · go_wp2_with fail
          clear a0 a1 a2 a3 a4 a5 a6 b0 b1 b2 b3 b4 b5 b6 v0 v1 v2 v3 v4
          refine (HYJ.out _).mono ?_
          rintro e w11 ⟨rfl, hb⟩
          have HA11 := Lib.hid (HA10.out.trans (hb.mono HA10.out.size))
          clear hb
          go_wp2_with fail
          go_roundg (21 - (j + 1))
          case measure => omega
          case rel => exact ⟨j + 1, z + 1, rfl, HZ2.out, by rw [HNJ.out]; rfl, by omega, Nat.le_refl _, HA11.out⟩
    · obtain rfl : j = 21 := by omega
      obtain rfl : z = 19 := by omega
      clear HX HY HQ HN HN0 hz hj hjx
      have hbe : (NA 21 == NA 21) = true := by simp
      go_wp2_with fail
      clear a0 a1 a2 a3 a4 a5 a6 b0 b1 b2 b3 b4 b5 b6
      refine (HI.out _).mono ?_
      rintro e w12 ⟨rfl, hb⟩
      have HA12 := Lib.hid (HA.out.trans (hb.mono HA.out.size)); clear hb
      go_wp2_with fail
      go_ret
      exact ⟨rfl, (HKP.out _ HA12.out).1⟩
end Go.Proofs.YtjeippdfgojdnaaGreatDoor
