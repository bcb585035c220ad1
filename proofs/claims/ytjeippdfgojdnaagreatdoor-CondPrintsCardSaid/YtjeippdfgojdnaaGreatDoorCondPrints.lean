/- CondPrints: a condition has its name, its op, its value as its text. (Written by gen_prints.py.) -/
import Derived.Test.YtjeippdfgojdnaaGreatDoorCondT
import Derived.Test.YtjeippdfgojdnaaGreatDoorCondK
import Derived.Test.YtjeippdfgojdnaaGreatDoorPrint
import Derived.Lib.QuoteLoop
import Derived.Lib.ItoaLen
import Derived.Deep.RegionHeld
import Derived.Deep.DeepCutAuto
namespace Go.Proofs.YtjeippdfgojdnaaGreatDoor
open Go.RowKit Go.Shelf
open Go.Proofs
set_option maxRecDepth 100000

theorem printT_size (k n : Int) (x : Nat) (s : ByteArray) (y : Bool) (h0 : -9223372036854775808 ≤ n) (h1 : n ≤ 9223372036854775807) : (printT k n x s y).size ≤ 10 * s.size + 70 := by
  unfold printT
  split
  · have := Lib.itoa_length_le n h0 h1
    show (Lib.itoa n).toArray.size ≤ _
    simp; omega
  · split
    · have := (ftoaL_ok (fcanon x)).2
      show (numL x).toArray.size ≤ _
      unfold numL
      split
      · simp; omega
      · simp; omega
    · split
      · rw [strOfNums_size]
        have := Lib.quoteZ_length_le Lib.goPrintTabs s
        omega
      · split
        · show (3 : Nat) ≤ _; omega
        · show (2 : Nat) ≤ _; omega
theorem numT_canon (x : Nat) : numT (fcanon x) = numT x := by
  unfold numT numL; rw [fcanon_idem]
theorem printT_canon (a : At) (h : KindB a) : printT (canonA a).k (canonA a).n (canonA a).x (canonA a).s (canonA a).y = printT a.k a.n a.x a.s a.y := by
  obtain ⟨nm, k, n, x, s, y⟩ := a
  have h0 := h.1; have h1 := h.2
  simp only [] at h0 h1
  rcases (show k = 0 ∨ k = 1 ∨ k = 2 ∨ k = 3 by omega) with rfl | rfl | rfl | rfl
  · simp [canonA, printT]
  · simp [canonA, printT, numT_canon]
  · simp [canonA, printT]
  · simp [canonA, printT]
theorem right_parts {nm : ByteArray} {op k n : Int} {x : Nat} {s : ByteArray} {y : Bool} (h : crightB ⟨⟨nm, k, n, x, s, y⟩, op⟩ = true) : nm.size ≤ 12 ∧ s.size ≤ 40 ∧ KindB ⟨nm, k, n, x, s, y⟩ := by
  unfold crightB vrightB nameOk at h
  simp only [Bool.and_eq_true, decide_eq_true_eq] at h
  obtain ⟨⟨⟨⟨_, h1⟩, _⟩, _⟩, _, ⟨h2, h3⟩, h4⟩ := h
  exact ⟨h1, by omega, h2, h3⟩
theorem canonC_n (c : Cn) (h0 : -9223372036854775808 ≤ c.a.n) (h1 : c.a.n ≤ 9223372036854775807) (hx : c.a.x < 18446744073709551616) (hs : c.a.s.size ≤ 40) :
    -9223372036854775808 ≤ (canonC c).a.n ∧ (canonC c).a.n ≤ 9223372036854775807 ∧ (canonC c).a.x < 18446744073709551616 ∧ (canonC c).a.s.size ≤ 40 := by
  unfold canonC
  split
  · exact ⟨by show -9223372036854775808 ≤ (0 : Int); omega, by show (0 : Int) ≤ _; omega, by show (0 : Nat) < _; omega, by show (0 : Nat) ≤ _; omega⟩
  · obtain ⟨h2, h3, h4⟩ := canonA_bd c.a hx h0 h1
    refine ⟨h3, h4, h2, ?_⟩
    show (canonA c.a).s.size ≤ 40
    unfold canonA
    repeat' split
    all_goals first | exact hs | (show (0 : Nat) ≤ 40; omega)
theorem cprint_canon (c : Cn) (i : Nat) (ho : c.op = i) (hk : KindB c.a) : cprintS (canonC c).a.nm i (printT (canonC c).a.k (canonC c).a.n (canonC c).a.x (canonC c).a.s (canonC c).a.y) = cprintS c.a.nm i (printT c.a.k c.a.n c.a.x c.a.s c.a.y) := by
  rw [canonC_nm]
  unfold cprintS
  by_cases h7 : i = 7
  · rw [if_pos h7, if_pos h7]
  · rw [if_neg h7, if_neg h7]
    unfold canonC
    have : (c.op == 7) = false := by rw [ho]; simp; omega
    rw [this]
    simp only [Bool.false_eq_true, if_false]
    rw [printT_canon c.a hk]

set_option maxHeartbeats 2000000 in
theorem prints_no (nm : ByteArray) (op k n : Int) (x : Nat) (s : ByteArray) (y : Bool) (op2 : Int) (w : World) (hw : Wds w) (hop : ¬ (0 ≤ op ∧ op < 8)) :
    Calls Tryz.prog 7 #[cnd nm op k n x s y, .int .i64 op2] w fun e w' => e = .returned (.bool true) ∧ Below w.heap.size w w' := by
  have B0 : Below w.heap.size w (w.alloc (.cells (cnds nm op k n x s y) 26)) := (Below.refl _ _).alloc (Nat.le_refl _) _
  have HB0 := Lib.hid B0; clear B0
  have HF : Aside (∀ W, Below w.heap.size w W → Calls Tryz.prog 13 #[] W fun e w' => e = .returned (.bool true) ∧ Below W.heap.size W w') := fun W hW => fit6_c W (hw.on hW)
  have HL : Aside (∀ W, Calls Tryz.prog 14 #[cnd nm op k n x s y] W fun e w' => e = .returned (.bool (clightB nm s)) ∧ Below W.heap.size W w') := fun W => clight_c nm op k n x s y W
  have HR : Aside (∀ W, Calls Tryz.prog 17 #[cnd nm op k n x s y] W fun e w' => e = .returned (.bool false) ∧ Below W.heap.size W w') := fun W => by
    have := cright_c nm op k n x s y W
    have e : crightB ⟨⟨nm, k, n, x, s, y⟩, op⟩ = false := by
      unfold crightB
      have : (decide (0 ≤ op) && decide (op < 8)) = false := by simp; omega
      simp only [this, Bool.false_and, Bool.and_false]
    rw [e] at this; exact this
  generalize clightB nm s = l1 at HL
  clear hw hop
  go_enter Tryz.func7, Tryz.ntmps7
  go_wp2_with fail
  refine (HF.out _ HB0.out).mono ?_
  rintro e w1 ⟨rfl, hb⟩
  have hA1 : Below (w.heap.size + 1) (w.alloc (.cells (cnds nm op k n x s y) 26)) w1 := by simpa using hb
  have z1 : w.heap.size + 1 ≤ w1.heap.size := by have := hA1.size; simpa using this
  have a0 := one_lay hA1 0 _ rfl; have a1 := one_lay hA1 1 _ rfl; have a2 := one_lay hA1 2 _ rfl; have a3 := one_lay hA1 3 _ rfl; have a4 := one_lay hA1 4 _ rfl; have a5 := one_lay hA1 5 _ rfl; have a6 := one_lay hA1 6 _ rfl
  have HA1 := Lib.hid hA1; clear hb hA1
  go_wp2_with fail
  clear a0 a1 a2 a3 a4 a5 a6
  refine (HL.out _).mono ?_
  rintro e w2 ⟨rfl, hb⟩
  have hA2 := HA1.out.trans (hb.mono z1)
  have z2 : w.heap.size + 1 ≤ w2.heap.size := by have := hA2.size; simpa using this
  have a0 := one_lay hA2 0 _ rfl; have a1 := one_lay hA2 1 _ rfl; have a2 := one_lay hA2 2 _ rfl; have a3 := one_lay hA2 3 _ rfl; have a4 := one_lay hA2 4 _ rfl; have a5 := one_lay hA2 5 _ rfl; have a6 := one_lay hA2 6 _ rfl
  have HA2 := Lib.hid hA2; clear hb hA2
  cases l1
  · go_wp2_with fail
    go_ret
    exact ⟨rfl, HB0.out.trans (HA2.out.mono (by omega))⟩
  · go_wp2_with fail
    clear a0 a1 a2 a3 a4 a5 a6
    refine (HR.out _).mono ?_
    rintro e w3 ⟨rfl, hb⟩
    have HA3 := Lib.hid (HA2.out.trans (hb.mono z2)); clear hb
    go_wp2_with fail
    go_ret
    exact ⟨rfl, HB0.out.trans (HA3.out.mono (by omega))⟩

set_option maxHeartbeats 8000000 in
theorem prints_i (nm : ByteArray) (i : Nat) (k n : Int) (x : Nat) (s : ByteArray) (y : Bool) (op2 : Int) (hx : x < 18446744073709551616) (hn0 : -9223372036854775808 ≤ n) (hn1 : n ≤ 9223372036854775807) (w : World) (hw : Wds w) (hT : Tabs w) (hi : i < 8) :
    Calls Tryz.prog 7 #[cnd nm (i : Int) k n x s y, .int .i64 op2] w fun e w' => e = .returned (.bool true) ∧ Below w.heap.size w w' := by
  have B0 : Below w.heap.size w (w.alloc (.cells (cnds nm (i : Int) k n x s y) 26)) := (Below.refl _ _).alloc (Nat.le_refl _) _
  have HB0 := Lib.hid B0; clear B0
  have hg := globals_lt hT
  have HF : Aside (∀ W, Below w.heap.size w W → Calls Tryz.prog 13 #[] W fun e w' => e = .returned (.bool true) ∧ Below W.heap.size W w') := fun W hW => fit6_c W (hw.on hW)
  have HL : Aside (∀ W, Calls Tryz.prog 14 #[cnd nm (i : Int) k n x s y] W fun e w' => e = .returned (.bool (clightB nm s)) ∧ Below W.heap.size W w') := fun W => clight_c nm (i : Int) k n x s y W
  have HR : Aside (∀ W, Calls Tryz.prog 17 #[cnd nm (i : Int) k n x s y] W fun e w' => e = .returned (.bool (crightB ⟨⟨nm, k, n, x, s, y⟩, (i : Int)⟩)) ∧ Below W.heap.size W w') := fun W => cright_c nm (i : Int) k n x s y W
  obtain ⟨T, hTT⟩ : ∃ T, T = printT k n x s y := ⟨_, rfl⟩
  obtain ⟨S, hSS⟩ : ∃ S, S = cprintS nm i T := ⟨_, rfl⟩
  have HPV : Aside (crightB ⟨⟨nm, k, n, x, s, y⟩, (i : Int)⟩ = true → ∀ W, Below w.heap.size w W → Calls Tryz.prog 28 #[val k n x s y] W fun e w' => e = .returned (.string T) ∧ Below W.heap.size W w') := fun hr W hW => by
    rw [hTT]
    have hp := right_parts hr
    exact print_c k n x s y hx hn0 hn1 (by omega) W (hT.on hW) (Nat.lt_of_lt_of_le hg hW.size)
  have HTS : Aside (crightB ⟨⟨nm, k, n, x, s, y⟩, (i : Int)⟩ = true → T.size ≤ 1000 ∧ nm.size ≤ 12) := fun hr => by
    have hp := right_parts hr
    have := printT_size k n x s y hn0 hn1
    rw [hTT]; exact ⟨by omega, hp.1⟩
  have HPC : Aside (crightB ⟨⟨nm, k, n, x, s, y⟩, (i : Int)⟩ = true → ∀ W, Below w.heap.size w W → Calls Tryz.prog 29 #[cnd nm (i : Int) k n x s y] W fun e w' => e = .returned (.string S) ∧ Below W.heap.size W w') := fun hr W hW => by
    rw [hSS]
    obtain ⟨t1, t2⟩ := HTS.out hr
    exact cprint_c nm i k n x s y T (by omega) (by omega) hi W (hw.on hW) (fun W' hW' => HPV.out hr W' (hW.trans (hW'.mono hW.size)))
  obtain ⟨c, hc⟩ : ∃ c, c = canonC ⟨⟨nm, k, n, x, s, y⟩, (i : Int)⟩ := ⟨_, rfl⟩
  have HK : Aside (∀ W, Calls Tryz.prog 26 #[cnd nm (i : Int) k n x s y] W fun e w' => e = .returned (cnd nm (i : Int) c.a.k c.a.n c.a.x c.a.s c.a.y) ∧ Below W.heap.size W w') := fun W => by
    have := ccanon_c nm (i : Int) k n x s y W
    unfold cndC at this
    rw [canonC_nm, canonC_op, ← hc] at this
    exact this
  have HPK : Aside (crightB ⟨⟨nm, k, n, x, s, y⟩, (i : Int)⟩ = true → ∀ W, Below w.heap.size w W → Calls Tryz.prog 29 #[cnd nm (i : Int) c.a.k c.a.n c.a.x c.a.s c.a.y] W fun e w' => e = .returned (.string S) ∧ Below W.heap.size W w') := fun hr W hW => by
    obtain ⟨p1, p2, p3⟩ := right_parts hr
    obtain ⟨m1, m2, m3, m4⟩ := canonC_n ⟨⟨nm, k, n, x, s, y⟩, (i : Int)⟩ hn0 hn1 hx p2
    have e := cprint_canon ⟨⟨nm, k, n, x, s, y⟩, (i : Int)⟩ i rfl p3
    rw [canonC_nm] at e
    rw [← hc] at m1 m2 m3 m4 e
    have hz := printT_size c.a.k c.a.n c.a.x c.a.s c.a.y m1 m2
    rw [hSS, hTT, ← e]
    exact cprint_c nm i c.a.k c.a.n c.a.x c.a.s c.a.y _ (by omega) (by omega) hi W (hw.on hW) (fun W' hW' => print_c c.a.k c.a.n c.a.x c.a.s c.a.y m3 m1 m2 (by omega) W' (hT.on (hW.trans (hW'.mono hW.size))) (Nat.lt_of_lt_of_le hg (hW.trans (hW'.mono hW.size)).size))
  obtain ⟨V2, hV2⟩ : ∃ V2 : ByteArray, V2 = if 0 ≤ op2 ∧ op2 < 8 then wordS op2.toNat else ⟨#[]⟩ := ⟨_, rfl⟩
  have HWD : Aside (∀ W, Below w.heap.size w W → Calls Tryz.prog 30 #[.int .i64 op2] W fun e w' => e = .returned (.string V2) ∧ W = w') := fun W hW => by
    rw [hV2]
    by_cases h : 0 ≤ op2 ∧ op2 < 8
    · rw [if_pos h]
      obtain ⟨j, rfl⟩ : ∃ j : Nat, op2 = (j : Int) := ⟨op2.toNat, by omega⟩
      have := word_c j (by omega) W (hw.on hW)
      simpa using this
    · rw [if_neg h]
      exact word_no op2 h W
  have HKP : Aside (∀ W, Below (w.heap.size + 1) (w.alloc (.cells (cnds nm (i : Int) k n x s y) 26)) W → (W.cell? ⟨w.heap.size, 0, none⟩ = some (.string nm) ∧ W.cell? ⟨w.heap.size, 1, none⟩ = some (.int .i64 (i : Int)) ∧ W.cell? ⟨w.heap.size, 2, none⟩ = some (.int .i64 k) ∧ W.cell? ⟨w.heap.size, 3, none⟩ = some (.int .i64 n) ∧ W.cell? ⟨w.heap.size, 4, none⟩ = some (.float .f64 x) ∧ W.cell? ⟨w.heap.size, 5, none⟩ = some (.string s) ∧ W.cell? ⟨w.heap.size, 6, none⟩ = some (.bool y))) :=
    fun W hW => ⟨one_lay hW 0 _ rfl, one_lay hW 1 _ rfl, one_lay hW 2 _ rfl, one_lay hW 3 _ rfl, one_lay hW 4 _ rfl, one_lay hW 5 _ rfl, one_lay hW 6 _ rfl⟩
  have HSS : Aside (S = cprintS nm i T) := hSS
  have HV2 : Aside (V2 = if 0 ≤ op2 ∧ op2 < 8 then wordS op2.toNat else ⟨#[]⟩) := hV2
  generalize c.a.k = kc at HK HPK
  generalize c.a.n = nc at HK HPK
  generalize c.a.x = xc at HK HPK
  generalize c.a.s = sc at HK HPK
  generalize c.a.y = yc at HK HPK
  generalize clightB nm s = l1 at HL
  generalize crightB ⟨⟨nm, k, n, x, s, y⟩, (i : Int)⟩ = r1 at HR HPV HTS HPC HPK
  clear hw hT hg hTT hSS hc hV2 hx hn0 hn1
  have hi0 : (0 : Int) ≤ (i : Int) := by omega
  have hi8 : (i : Int) < 8 := by omega
  go_enter Tryz.func7, Tryz.ntmps7
  go_wp2_with fail
  refine (HF.out _ HB0.out).mono ?_
  rintro e w1 ⟨rfl, hb⟩
  have hA1 : Below (w.heap.size + 1) (w.alloc (.cells (cnds nm (i : Int) k n x s y) 26)) w1 := by simpa using hb
  have z1 : w.heap.size + 1 ≤ w1.heap.size := by have := hA1.size; simpa using this
  have HA1 := Lib.hid hA1; clear hb hA1
  obtain ⟨a0, a1, a2, a3, a4, a5, a6⟩ := HKP.out _ HA1.out
  go_wp2_with fail
  clear a0 a1 a2 a3 a4 a5 a6
  refine (HL.out _).mono ?_
  rintro e w2 ⟨rfl, hb⟩
  have hA2 := HA1.out.trans (hb.mono z1)
  have z2 : w.heap.size + 1 ≤ w2.heap.size := by have := hA2.size; simpa using this
  have HA2 := Lib.hid hA2; clear hb hA2
  obtain ⟨a0, a1, a2, a3, a4, a5, a6⟩ := HKP.out _ HA2.out
  cases l1
  · go_wp2_with fail
    go_ret
    exact ⟨rfl, HB0.out.trans (HA2.out.mono (by omega))⟩
  go_wp2_with fail
  clear a0 a1 a2 a3 a4 a5 a6
  refine (HR.out _).mono ?_
  rintro e w3 ⟨rfl, hb⟩
  have hA3 := HA2.out.trans (hb.mono z2)
  have z3 : w.heap.size + 1 ≤ w3.heap.size := by have := hA3.size; simpa using this
  have HA3 := Lib.hid hA3; clear hb hA3
  cases r1
  · go_wp2_with fail
    go_ret
    exact ⟨rfl, HB0.out.trans (HA3.out.mono (by omega))⟩
  have HPV' : Aside (∀ W, Below w.heap.size w W → Calls Tryz.prog 28 #[val k n x s y] W fun e w' => e = .returned (.string T) ∧ Below W.heap.size W w') := HPV.out rfl
  have HPC' : Aside (∀ W, Below w.heap.size w W → Calls Tryz.prog 29 #[cnd nm (i : Int) k n x s y] W fun e w' => e = .returned (.string S) ∧ Below W.heap.size W w') := HPC.out rfl
  have HPK' : Aside (∀ W, Below w.heap.size w W → Calls Tryz.prog 29 #[cnd nm (i : Int) kc nc xc sc yc] W fun e w' => e = .returned (.string S) ∧ Below W.heap.size W w') := HPK.out rfl
  obtain ⟨hT1, hnm⟩ := HTS.out rfl
  clear HPV HPC HPK HTS HF HL HR
  obtain ⟨a0, a1, a2, a3, a4, a5, a6⟩ := HKP.out _ HA3.out
  go_upto_region 6 with fail
  have hlay : ∀ W, W = w3.alloc (.cells #[.string ⟨#[61]⟩, .string ⟨#[33, 61]⟩, .string ⟨#[60]⟩, .string ⟨#[60, 61]⟩, .string ⟨#[62]⟩, .string ⟨#[62, 61]⟩, .string ⟨#[94]⟩, .string ⟨#[104, 97, 115]⟩] 9) → Below (w.heap.size + 1) (w.alloc (.cells (cnds nm (i : Int) k n x s y) 26)) W ∧ W.heap.size = w3.heap.size + 1 ∧ (∀ j, j < 8 → W.cell? ⟨w3.heap.size, j, none⟩ = some (.string (wordS j))) := by
    rintro W rfl
    refine ⟨HA3.out.alloc z3 _, by simp, fun j hj => ?_⟩
    rw [World.cell?_alloc_new]
    match j, hj with
    | 0, _ => rfl
    | 1, _ => rfl
    | 2, _ => rfl
    | 3, _ => rfl
    | 4, _ => rfl
    | 5, _ => rfl
    | 6, _ => rfl
    | 7, _ => rfl
  obtain ⟨hB4, z4, hL4⟩ := hlay _ rfl
  clear hlay a0 a1 a2 a3 a4 a5 a6
  generalize w3.alloc (.cells #[.string ⟨#[61]⟩, .string ⟨#[33, 61]⟩, .string ⟨#[60]⟩, .string ⟨#[60, 61]⟩, .string ⟨#[62]⟩, .string ⟨#[62, 61]⟩, .string ⟨#[94]⟩, .string ⟨#[104, 97, 115]⟩] 9) = w4 at *
  generalize w3.heap.size = G at *
  have hq := wordS_size i hi
  have hcG := hL4 i hi
  have HL4 := Lib.hid hL4
  obtain ⟨q, hqe⟩ : ∃ q, q = wordS i := ⟨_, rfl⟩
  rw [← hqe] at hq hcG
  have HQE : Aside (q = wordS i) := hqe
  have HKQ : Aside (∀ W, Below w4.heap.size w4 W → Below w.heap.size w W ∧ W.cell? ⟨G, i, none⟩ = some (.string q) ∧ (W.cell? ⟨w.heap.size, 0, none⟩ = some (.string nm) ∧ W.cell? ⟨w.heap.size, 1, none⟩ = some (.int .i64 (i : Int)) ∧ W.cell? ⟨w.heap.size, 2, none⟩ = some (.int .i64 k) ∧ W.cell? ⟨w.heap.size, 3, none⟩ = some (.int .i64 n) ∧ W.cell? ⟨w.heap.size, 4, none⟩ = some (.float .f64 x) ∧ W.cell? ⟨w.heap.size, 5, none⟩ = some (.string s) ∧ W.cell? ⟨w.heap.size, 6, none⟩ = some (.bool y))) := fun W hW =>
    ⟨HB0.out.trans ((hB4.trans (hW.mono (by omega))).mono (by omega)), (hW.cell (p := ⟨G, i, none⟩) (by show G < _; omega)).trans hcG, HKP.out _ (hB4.trans (hW.mono (by omega)))⟩
  have HLQ : Aside (∀ W, Below w4.heap.size w4 W → ∀ j, j < 8 → W.cell? ⟨G, j, none⟩ = some (.string (wordS j))) := fun W hW j hj => (hW.cell (p := ⟨G, j, none⟩) (by show G < _; omega)).trans (HL4.out j hj)
  have u1 : ¬ 9223372036854775807 < nm.size + 1 := by omega
  have u2 : ¬ 9223372036854775807 < nm.size + 1 + q.size := by omega
  have u3 : ¬ 9223372036854775807 < nm.size + 1 + q.size + 1 := by omega
  have u4 : ¬ 9223372036854775807 < nm.size + 1 + q.size + 1 + T.size := by omega
  have u5 : ¬ 9223372036854775807 < 4 + nm.size := by omega
  have HD : Aside (Below w4.heap.size w4 w4.drew) := ⟨rfl, rfl, rfl, Nat.le_refl _, fun _ _ => rfl⟩
  have hwz : w.heap.size ≤ w4.heap.size := by omega
  have hwz2 : w.heap.size + 1 ≤ G := by omega
  clear hL4 hcG hB4 HKP HL4 hq hT1 hnm hqe z1 z2 z3 HA1 HA2 HA3
  first
  | go_region_held (fun w' => Below w4.heap.size w4 w' ∧ Below w.heap.size w w' ∧ w'.cell? ⟨G, i, none⟩ = some (.string q) ∧ w'.cell? ⟨w.heap.size, 0, none⟩ = some (.string nm) ∧ w'.cell? ⟨w.heap.size, 1, none⟩ = some (.int .i64 (i : Int)) ∧ w'.cell? ⟨w.heap.size, 2, none⟩ = some (.int .i64 k) ∧ w'.cell? ⟨w.heap.size, 3, none⟩ = some (.int .i64 n) ∧ w'.cell? ⟨w.heap.size, 4, none⟩ = some (.float .f64 x) ∧ w'.cell? ⟨w.heap.size, 5, none⟩ = some (.string s) ∧ w'.cell? ⟨w.heap.size, 6, none⟩ = some (.bool y))
      (first | exact ⟨HB5.out, HKQ.out _ HB5.out⟩ | exact ⟨HD.out, HKQ.out _ HD.out⟩)
      (first
        | (go_at_call 28; refine (HPV'.out _ (HKQ.out _ HD.out).1).mono ?_; rintro e w5 ⟨rfl, hb⟩; have HB5 : Aside (Below w4.heap.size w4 w5) := HD.out.trans (hb.mono (Nat.le_refl _)); clear hb))
  | fail "region"
  clear HPV' u1 u2 u3 u4
  obtain ⟨HBw5, cG, a0, a1, a2, a3, a4, a5, a6⟩ := HKQ.out _ HB5.out
  have HL5 : Aside (∀ j, j < 8 → w5.cell? ⟨G, j, none⟩ = some (.string (wordS j))) := HLQ.out _ HB5.out
  clear HBw5 HLQ cG
  -- what the law wants; what a condition's text is
  have hS2 : S = if i = 7 then ⟨#[104, 97, 115, 32]⟩ ++ nm else nm ++ ⟨#[32]⟩ ++ q ++ ⟨#[32]⟩ ++ T := by
    rw [HSS.out, HQE.out]
    unfold cprintS
    split
    · apply ByteArray.ext; rfl
    · rfl
  have heq : ∀ b : ByteArray, (b.toList == b.toList) = true := fun b => by simp
  have HC2 : Aside (∃ s7 : ByteArray, V2 = s7 ∧ ((0 ≤ op2 ∧ op2 < 8 ∧ w5.cell? ⟨G, op2.toNat, none⟩ = some (.string s7)) ∨ (s7 = ⟨#[]⟩ ∧ ¬ 0 ≤ op2) ∨ (s7 = ⟨#[]⟩ ∧ 0 ≤ op2 ∧ ¬ op2 < 8))) := by
    refine ⟨V2, rfl, ?_⟩
    rw [HV2.out]
    by_cases h0 : 0 ≤ op2
    · by_cases h8 : op2 < 8
      · exact Or.inl ⟨h0, h8, by rw [if_pos ⟨h0, h8⟩]; exact HL5.out op2.toNat (by omega)⟩
      · exact Or.inr (Or.inr ⟨by rw [if_neg (fun h => h8 h.2)], h0, h8⟩)
    · exact Or.inr (Or.inl ⟨by rw [if_neg (fun h => h0 h.1)], h0⟩)
  have g7 : i = 7 ∨ ((i : Int) == 7) = false := by
    by_cases h7 : i = 7
    · exact Or.inl h7
    · exact Or.inr (by simp; omega)
  obtain ⟨s7, hs7, hc2⟩ := HC2.out
  subst hs7
  clear HC2 HV2 HSS HQE HL5 hi
  rcases g7 with rfl | g7
  · rw [if_pos rfl] at hS2
    subst hS2
    rcases hc2 with ⟨o0, o8, oc⟩ | ⟨rfl, o0⟩ | ⟨rfl, o0, o8⟩
    all_goals
      go_wp2_with fail
      clear a0 a1 a2 a3 a4 a5 a6
      refine (HK.out _).mono ?_
      rintro e w6 ⟨rfl, hb⟩
      have HB6 : Aside (Below w4.heap.size w4 w6) := HB5.out.trans (hb.mono HB5.out.size)
      have z6 := HB6.out.size
      clear hb
      go_upto_region 13 with fail
      have hlay : ∀ W, W = w6.alloc (.cells (cnds nm 7 kc nc xc sc yc) 26) → Below w4.heap.size w4 W ∧ w6.heap.size < W.heap.size ∧ (∀ j v, (cnds nm 7 kc nc xc sc yc)[j]? = some v → W.cell? ⟨w6.heap.size, j, none⟩ = some v) := by
        rintro W rfl
        exact ⟨HB6.out.alloc HB6.out.size _, by simp, fun j v h => by rw [World.cell?_alloc_new]; exact h⟩
      obtain ⟨hB7, z7, hL7⟩ := hlay _ rfl
      clear hlay
      generalize w6.alloc (.cells (cnds nm 7 kc nc xc sc yc) 26) = w7 at *
      generalize w6.heap.size = K at *
      have HB7 := Lib.hid hB7; have HL7 := Lib.hid hL7
      have HKR : Aside (∀ W, Below w7.heap.size w7 W → Below w.heap.size w W ∧ (W.cell? ⟨w.heap.size, 0, none⟩ = some (.string nm) ∧ W.cell? ⟨w.heap.size, 1, none⟩ = some (.int .i64 7) ∧ W.cell? ⟨w.heap.size, 2, none⟩ = some (.int .i64 k) ∧ W.cell? ⟨w.heap.size, 3, none⟩ = some (.int .i64 n) ∧ W.cell? ⟨w.heap.size, 4, none⟩ = some (.float .f64 x) ∧ W.cell? ⟨w.heap.size, 5, none⟩ = some (.string s) ∧ W.cell? ⟨w.heap.size, 6, none⟩ = some (.bool y)) ∧ (W.cell? ⟨K, 0, none⟩ = some (.string nm) ∧ W.cell? ⟨K, 1, none⟩ = some (.int .i64 7) ∧ W.cell? ⟨K, 2, none⟩ = some (.int .i64 kc) ∧ W.cell? ⟨K, 3, none⟩ = some (.int .i64 nc) ∧ W.cell? ⟨K, 4, none⟩ = some (.float .f64 xc) ∧ W.cell? ⟨K, 5, none⟩ = some (.string sc) ∧ W.cell? ⟨K, 6, none⟩ = some (.bool yc))) := fun W hW => by
        have hh := HKQ.out _ (HB7.out.trans (hW.mono HB7.out.size))
        have kk : ∀ j v, (cnds nm 7 kc nc xc sc yc)[j]? = some v → W.cell? ⟨K, j, none⟩ = some v := fun j v h => (hW.cell (p := ⟨K, j, none⟩) z7).trans (HL7.out j v h)
        exact ⟨hh.1, hh.2.2, kk 0 _ rfl, kk 1 _ rfl, kk 2 _ rfl, kk 3 _ rfl, kk 4 _ rfl, kk 5 _ rfl, kk 6 _ rfl⟩
      clear hB7 hL7 HL7
      obtain ⟨hBw, ⟨a0, a1, a2, a3, a4, a5, a6⟩, ⟨b0, b1, b2, b3, b4, b5, b6⟩⟩ := HKR.out _ (Below.refl _ _)
      go_wp2_with fail
      clear a0 a1 a2 a3 a4 a5 a6 b0 b1 b2 b3 b4 b5 b6
      refine (HPC'.out _ hBw).mono ?_
      rintro e w8 ⟨rfl, hb⟩
      clear hBw
      have HB8 : Aside (Below w7.heap.size w7 w8) := hb
      clear hb
      obtain ⟨hBw, ⟨a0, a1, a2, a3, a4, a5, a6⟩, ⟨b0, b1, b2, b3, b4, b5, b6⟩⟩ := HKR.out _ HB8.out
      go_wp2_with fail
      clear a0 a1 a2 a3 a4 a5 a6 b0 b1 b2 b3 b4 b5 b6
      refine (HPK'.out _ hBw).mono ?_
      rintro e w9 ⟨rfl, hb⟩
      clear hBw
      have HB9 : Aside (Below w7.heap.size w7 w9) := HB8.out.trans (hb.mono HB8.out.size)
      clear hb
      obtain ⟨hBw, ⟨a0, a1, a2, a3, a4, a5, a6⟩, ⟨b0, b1, b2, b3, b4, b5, b6⟩⟩ := HKR.out _ HB9.out
      go_wp2_with fail
      refine (HWD.out _ hBw).mono ?_
      rintro e w10 ⟨rfl, rfl⟩
      go_wp2_with fail
      go_ret
      exact ⟨rfl, hBw⟩
  · have h7 : ¬ i = 7 := by intro h; subst h; simp at g7
    rw [if_neg h7] at hS2
    clear h7
    subst hS2
    rcases hc2 with ⟨o0, o8, oc⟩ | ⟨rfl, o0⟩ | ⟨rfl, o0, o8⟩
    all_goals
      go_wp2_with fail
      clear a0 a1 a2 a3 a4 a5 a6
      refine (HK.out _).mono ?_
      rintro e w6 ⟨rfl, hb⟩
      have HB6 : Aside (Below w4.heap.size w4 w6) := HB5.out.trans (hb.mono HB5.out.size)
      have z6 := HB6.out.size
      clear hb
      go_upto_region 13 with fail
      have hlay : ∀ W, W = w6.alloc (.cells (cnds nm (i : Int) kc nc xc sc yc) 26) → Below w4.heap.size w4 W ∧ w6.heap.size < W.heap.size ∧ (∀ j v, (cnds nm (i : Int) kc nc xc sc yc)[j]? = some v → W.cell? ⟨w6.heap.size, j, none⟩ = some v) := by
        rintro W rfl
        exact ⟨HB6.out.alloc HB6.out.size _, by simp, fun j v h => by rw [World.cell?_alloc_new]; exact h⟩
      obtain ⟨hB7, z7, hL7⟩ := hlay _ rfl
      clear hlay
      generalize w6.alloc (.cells (cnds nm (i : Int) kc nc xc sc yc) 26) = w7 at *
      generalize w6.heap.size = K at *
      have HB7 := Lib.hid hB7; have HL7 := Lib.hid hL7
      have HKR : Aside (∀ W, Below w7.heap.size w7 W → Below w.heap.size w W ∧ (W.cell? ⟨w.heap.size, 0, none⟩ = some (.string nm) ∧ W.cell? ⟨w.heap.size, 1, none⟩ = some (.int .i64 (i : Int)) ∧ W.cell? ⟨w.heap.size, 2, none⟩ = some (.int .i64 k) ∧ W.cell? ⟨w.heap.size, 3, none⟩ = some (.int .i64 n) ∧ W.cell? ⟨w.heap.size, 4, none⟩ = some (.float .f64 x) ∧ W.cell? ⟨w.heap.size, 5, none⟩ = some (.string s) ∧ W.cell? ⟨w.heap.size, 6, none⟩ = some (.bool y)) ∧ (W.cell? ⟨K, 0, none⟩ = some (.string nm) ∧ W.cell? ⟨K, 1, none⟩ = some (.int .i64 (i : Int)) ∧ W.cell? ⟨K, 2, none⟩ = some (.int .i64 kc) ∧ W.cell? ⟨K, 3, none⟩ = some (.int .i64 nc) ∧ W.cell? ⟨K, 4, none⟩ = some (.float .f64 xc) ∧ W.cell? ⟨K, 5, none⟩ = some (.string sc) ∧ W.cell? ⟨K, 6, none⟩ = some (.bool yc))) := fun W hW => by
        have hh := HKQ.out _ (HB7.out.trans (hW.mono HB7.out.size))
        have kk : ∀ j v, (cnds nm (i : Int) kc nc xc sc yc)[j]? = some v → W.cell? ⟨K, j, none⟩ = some v := fun j v h => (hW.cell (p := ⟨K, j, none⟩) z7).trans (HL7.out j v h)
        exact ⟨hh.1, hh.2.2, kk 0 _ rfl, kk 1 _ rfl, kk 2 _ rfl, kk 3 _ rfl, kk 4 _ rfl, kk 5 _ rfl, kk 6 _ rfl⟩
      clear hB7 hL7 HL7
      obtain ⟨hBw, ⟨a0, a1, a2, a3, a4, a5, a6⟩, ⟨b0, b1, b2, b3, b4, b5, b6⟩⟩ := HKR.out _ (Below.refl _ _)
      go_wp2_with fail
      clear a0 a1 a2 a3 a4 a5 a6 b0 b1 b2 b3 b4 b5 b6
      refine (HPC'.out _ hBw).mono ?_
      rintro e w8 ⟨rfl, hb⟩
      clear hBw
      have HB8 : Aside (Below w7.heap.size w7 w8) := hb
      clear hb
      obtain ⟨hBw, ⟨a0, a1, a2, a3, a4, a5, a6⟩, ⟨b0, b1, b2, b3, b4, b5, b6⟩⟩ := HKR.out _ HB8.out
      go_wp2_with fail
      clear a0 a1 a2 a3 a4 a5 a6 b0 b1 b2 b3 b4 b5 b6
      refine (HPK'.out _ hBw).mono ?_
      rintro e w9 ⟨rfl, hb⟩
      clear hBw
      have HB9 : Aside (Below w7.heap.size w7 w9) := HB8.out.trans (hb.mono HB8.out.size)
      clear hb
      obtain ⟨hBw, ⟨a0, a1, a2, a3, a4, a5, a6⟩, ⟨b0, b1, b2, b3, b4, b5, b6⟩⟩ := HKR.out _ HB9.out
      go_wp2_with fail
      refine (HWD.out _ hBw).mono ?_
      rintro e w10 ⟨rfl, rfl⟩
      go_wp2_with fail
      go_ret
      exact ⟨rfl, hBw⟩

theorem condPrints_c (nm : ByteArray) (op k n : Int) (x : Nat) (s : ByteArray) (y : Bool) (op2 : Int) (hx : x < 18446744073709551616) (hn : -9223372036854775808 ≤ n ∧ n ≤ 9223372036854775807) (w : World) (hwt : Wds w ∧ Tabs w) :
    Calls Tryz.prog 7 #[cnd nm op k n x s y, .int .i64 op2] w fun e w' => e = .returned (.bool true) ∧ Below w.heap.size w w' := by
  by_cases hop : 0 ≤ op ∧ op < 8
  · obtain ⟨i, rfl⟩ : ∃ i : Nat, op = (i : Int) := ⟨op.toNat, by omega⟩
    exact prints_i nm i k n x s y op2 hx hn.1 hn.2 w hwt.1 hwt.2 (by omega)
  · exact prints_no nm op k n x s y op2 w hwt.1 hop
end Go.Proofs.YtjeippdfgojdnaaGreatDoor
