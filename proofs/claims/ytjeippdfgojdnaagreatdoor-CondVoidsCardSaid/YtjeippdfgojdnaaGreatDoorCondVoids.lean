/- CondVoids: a condition is void, if no value does, because it may not be held against its own: such that is no number, or a beginning that is no text. -/
import Derived.Test.YtjeippdfgojdnaaGreatDoorCondT
import Derived.Test.YtjeippdfgojdnaaGreatDoorCondI
import Derived.Test.YtjeippdfgojdnaaGreatDoorCondK
import Derived.Test.YtjeippdfgojdnaaGreatDoorOpenVs
import Derived.Deep.DeepCutAuto
namespace Go.Proofs.YtjeippdfgojdnaaGreatDoor
open Go.RowKit Go.Shelf
open Go.Proofs
set_option maxRecDepth 100000

theorem right_of {c : Cn} (h : crightB c = true) : OpB c ∧ KindB c.a := by
  unfold crightB vrightB at h
  simp only [Bool.and_eq_true, decide_eq_true_eq] at h
  exact ⟨⟨h.2.1.1, by omega⟩, h.2.2.1.1, h.2.2.1.2⟩
theorem void_implies (c : Cn) (h : cvoidB c = true) (d : Cn) (hn : d.a.nm = c.a.nm) : impliesB c d = true := by
  rw [impliesB_iff, hn]; exact ⟨rfl, Or.inl h⟩
/-- What the law asks. -/
def wantV (op k : Int) (x : Nat) : Bool := (op != 7 && k == 1 && fnan x) || (op == 6 && k != 2)
theorem want_void (nm : ByteArray) (op k n : Int) (x : Nat) (s : ByteArray) (y : Bool) : cvoidB ⟨⟨nm, k, n, x, s, y⟩, op⟩ = wantV op k x := by
  unfold cvoidB wantV voidB
  simp only []
  by_cases h7 : op = 7
  · subst h7; simp
  · by_cases h6 : op = 6
    · subst h6
      by_cases hk : k = 2
      · subst hk; simp
      · simp [hk, bne]
    · have e7 : (op == 7) = false := by simpa using h7
      have e6 : (op == 6) = false := by simpa using h6
      simp only [bne, e7, e6]
      simp

set_option maxHeartbeats 8000000 in
theorem condVoids_c (nm : ByteArray) (op k n : Int) (x : Nat) (s : ByteArray) (y : Bool) (ao : Option Addr) (cap : Nat) (es : List At) (hx : x < 18446744073709551616) (w : World) (hw : Wds w)
    (hv : ValsB w w.heap.size ao es) (ho : ∀ a ∈ es, AtOk a) (hlen : es.length ≤ 9223372036854775807) :
    Calls Tryz.prog 8 #[cnd nm op k n x s y, .slice ao es.length cap] w fun e w' => e = .returned (.bool true) ∧ Below w.heap.size w w' := by
  obtain ⟨len, hL⟩ : ∃ len, len = es.length := ⟨_, rfl⟩
  have HLen : Aside (len = es.length) := hL
  rw [← hL] at hlen ⊢
  have B0 : Below w.heap.size w (w.alloc (.cells (cnds nm op k n x s y) 26)) := (Below.refl _ _).alloc (Nat.le_refl _) _
  have HB0 := Lib.hid B0
  have HF : Aside (∀ W, Below w.heap.size w W → Calls Tryz.prog 13 #[] W fun e w' => e = .returned (.bool true) ∧ Below W.heap.size W w') := fun W hW => fit6_c W (hw.on hW)
  have HL : Aside (∀ W, Calls Tryz.prog 14 #[cnd nm op k n x s y] W fun e w' => e = .returned (.bool (clightB nm s)) ∧ Below W.heap.size W w') := fun W => clight_c nm op k n x s y W
  have HR : Aside (∀ W, Calls Tryz.prog 17 #[cnd nm op k n x s y] W fun e w' => e = .returned (.bool (crightB ⟨⟨nm, k, n, x, s, y⟩, op⟩)) ∧ Below W.heap.size W w') := fun W => cright_c nm op k n x s y W
  have HV : Aside (∀ W, Calls Tryz.prog 20 #[cnd nm op k n x s y] W fun e w' => e = .returned (.bool (wantV op k x)) ∧ Below W.heap.size W w') := fun W => by
    rw [← want_void nm op k n x s y]; exact cvoid_c nm op k n x s y W
  have HK : Aside (∀ W, Calls Tryz.prog 26 #[cnd nm op k n x s y] W fun e w' => e = .returned (cndC (canonC ⟨⟨nm, k, n, x, s, y⟩, op⟩)) ∧ Below W.heap.size W w') := fun W => ccanon_c nm op k n x s y W
  have HKV : Aside (crightB ⟨⟨nm, k, n, x, s, y⟩, op⟩ = true → ∀ W, Calls Tryz.prog 20 #[cndC (canonC ⟨⟨nm, k, n, x, s, y⟩, op⟩)] W fun e w' => e = .returned (.bool (wantV op k x)) ∧ Below W.heap.size W w') := fun hr W => by
    have := cvoid_canon ⟨⟨nm, k, n, x, s, y⟩, op⟩ (right_of hr).2
    rw [want_void nm op k n x s y] at this
    rw [← this]
    exact cvoid_c _ _ _ _ _ _ _ W
  have HI : Aside (wantV op k x = true → ∀ W, Calls Tryz.prog 22 #[cnd nm op k n x s y, cnd nm 2 0 0 0 ⟨#[]⟩ false] W fun e w' => e = .returned (.bool true) ∧ Below W.heap.size W w') := fun hr W => by
    have := implies_c nm op k n x s y nm 2 0 0 0 ⟨#[]⟩ false hx (by decide) W
    rw [void_implies ⟨⟨nm, k, n, x, s, y⟩, op⟩ (by rw [want_void]; exact hr) ⟨⟨nm, 0, 0, 0, ⟨#[]⟩, false⟩, 2⟩ rfl] at this
    exact this
  have HH : Aside (wantV op k x = true → ∀ j, j < len → ∀ W, Calls Tryz.prog 18 #[cnd nm op k n x s y, val es[j]!.k es[j]!.n es[j]!.x es[j]!.s es[j]!.y] W fun e w' => e = .returned (.bool false) ∧ Below W.heap.size W w') := fun hr j hj W => by
    have := holds_c nm op k n x s y es[j]!.nm es[j]!.k es[j]!.n es[j]!.x es[j]!.s es[j]!.y hx (ho _ (get_mem es j (by rw [← hL]; exact hj))) W
    have e := void_no (c := ⟨⟨nm, k, n, x, s, y⟩, op⟩) es[j]! (by rw [want_void]; exact hr)
    rw [show (⟨es[j]!.nm, es[j]!.k, es[j]!.n, es[j]!.x, es[j]!.s, es[j]!.y⟩ : At) = es[j]! from rfl, e] at this
    exact this
  have hnx := neq_self x
  obtain ⟨cc, hcc⟩ : ∃ cc, cc = cndC (canonC ⟨⟨nm, k, n, x, s, y⟩, op⟩) := ⟨_, rfl⟩
  rw [← hcc] at HK HKV
  have HVB : Aside (∀ W, Below (w.heap.size + 1) (w.alloc (.cells (cnds nm op k n x s y) 26)) W → ValsB W w.heap.size ao es) := fun W hW => hv.under (B0.trans (hW.mono (by omega)))
  have HKP : Aside (∀ W, Below (w.heap.size + 1) (w.alloc (.cells (cnds nm op k n x s y) 26)) W → (W.cell? ⟨w.heap.size, 0, none⟩ = some (.string nm) ∧ W.cell? ⟨w.heap.size, 1, none⟩ = some (.int .i64 op) ∧ W.cell? ⟨w.heap.size, 2, none⟩ = some (.int .i64 k) ∧ W.cell? ⟨w.heap.size, 3, none⟩ = some (.int .i64 n) ∧ W.cell? ⟨w.heap.size, 4, none⟩ = some (.float .f64 x) ∧ W.cell? ⟨w.heap.size, 5, none⟩ = some (.string s) ∧ W.cell? ⟨w.heap.size, 6, none⟩ = some (.bool y))) :=
    fun W hW => ⟨one_lay hW 0 _ rfl, one_lay hW 1 _ rfl, one_lay hW 2 _ rfl, one_lay hW 3 _ rfl, one_lay hW 4 _ rfl, one_lay hW 5 _ rfl, one_lay hW 6 _ rfl⟩
  clear hw hx hv ho hL B0 hcc
  generalize clightB nm s = l1 at HL
  generalize hr1 : crightB ⟨⟨nm, k, n, x, s, y⟩, op⟩ = r1 at HR HKV
  clear hr1
  obtain ⟨wt, hwt⟩ : ∃ wt, wt = wantV op k x := ⟨_, rfl⟩
  have HWT : Aside (wt = wantV op k x) := hwt
  rw [← hwt] at HV HKV HI HH
  clear hwt
  go_enter Tryz.func8, Tryz.ntmps8
  go_wp2_with fail
  refine (HF.out _ HB0.out).mono ?_
  rintro e w1 ⟨rfl, hb⟩
  have hA1 : Below (w.heap.size + 1) (w.alloc (.cells (cnds nm op k n x s y) 26)) w1 := by simpa using hb
  have z1 : w.heap.size + 1 ≤ w1.heap.size := by have := hA1.size; simpa using this
  have HA1 := Lib.hid hA1; clear hb hA1
  obtain ⟨a0, a1, a2, a3, a4, a5, a6⟩ := HKP.out _ HA1.out
  go_wp2_with fail
  clear a0 a1 a2 a3 a4 a5 a6
  refine (HL.out _).mono ?_
  rintro e w2 ⟨rfl, hb⟩
  have hA2 := HA1.out.trans (hb.mono z1)
  have z2 : w.heap.size + 1 ≤ w2.heap.size := by have := hA2.size; simpa using this
  have HA2 := Lib.hid hA2; clear hb hA2
  obtain ⟨a0, a1, a2, a3, a4, a5, a6⟩ := HKP.out _ HA2.out
  cases l1
  · go_wp2_with fail
    go_ret
    exact ⟨rfl, HB0.out.trans (HA2.out.mono (by omega))⟩
  by_cases h30 : (30 : Int) < (len : Int)
  · go_wp2_with fail
    go_ret
    exact ⟨rfl, HB0.out.trans (HA2.out.mono (by omega))⟩
  go_wp2_with fail
  clear a0 a1 a2 a3 a4 a5 a6
  refine (HR.out _).mono ?_
  rintro e w3 ⟨rfl, hb⟩
  have hA3 := HA2.out.trans (hb.mono z2)
  have z3 : w.heap.size + 1 ≤ w3.heap.size := by have := hA3.size; simpa using this
  have HA3 := Lib.hid hA3; clear hb hA3
  cases r1
  · go_wp2_with fail
    go_ret
    exact ⟨rfl, HB0.out.trans (HA3.out.mono (by omega))⟩
  have HKW : Aside (∀ W, Calls Tryz.prog 20 #[cc] W fun e w' => e = .returned (.bool wt) ∧ Below W.heap.size W w') := HKV.out rfl
  clear HKV HF HL HR
  obtain ⟨a0, a1, a2, a3, a4, a5, a6⟩ := HKP.out _ HA3.out
  go_upto_region 5 with fail
  go_cut [5] (fun s5 wx => s5 = .bool wt ∧ wx = w3)
  case first =>
    clear HKW HK HI HH HV HVB HKP
    have hw2 : wt = ((op != 7 && k == 1 && fnan x) || (op == 6 && k != 2)) := HWT.out
    cases p7 : (op != 7) <;> cases p6 : (op == 6) <;> cases q1 : (k == 1) <;> cases q2 : (k != 2) <;> cases hf : fnan x <;> rw [hf] at hnx <;> rw [p7, p6, q1, q2, hf] at hw2 <;> simp only [Bool.and_true, Bool.and_false, Bool.or_true, Bool.or_false, Bool.or_self] at hw2 <;> subst hw2
    all_goals
      go_wp2_with fail
      go_meet
      exact ⟨rfl, rfl⟩
  case rest =>
    obtain ⟨rfl, hwc⟩ := hcut
    rw [hwc]
    clear hwc wc hnx
    go_wp2_with fail
    clear a0 a1 a2 a3 a4 a5 a6
    refine (HV.out _).mono ?_
    rintro e w4 ⟨rfl, hb⟩
    have hA4 := HA3.out.trans (hb.mono z3)
    have z4 : w.heap.size + 1 ≤ w4.heap.size := by have := hA4.size; simpa using this
    have HA4 := Lib.hid hA4; clear hb hA4
    obtain ⟨a0, a1, a2, a3, a4, a5, a6⟩ := HKP.out _ HA4.out
    have hbne : (wt != wt) = false := by simp
    go_wp2_with fail
    clear a0 a1 a2 a3 a4 a5 a6
    refine (HK.out _).mono ?_
    rintro e w5 ⟨rfl, hb⟩
    have hA5 := HA4.out.trans (hb.mono z4)
    have z5 : w.heap.size + 1 ≤ w5.heap.size := by have := hA5.size; simpa using this
    have HA5 := Lib.hid hA5; clear hb hA5
    go_wp2_with fail
    refine (HKW.out _).mono ?_
    rintro e w6 ⟨rfl, hb⟩
    have hA6 := HA5.out.trans (hb.mono z5)
    have z6 : w.heap.size + 1 ≤ w6.heap.size := by have := hA6.size; simpa using this
    have HA6 := Lib.hid hA6; clear hb hA6
    clear HK HKW HV HWT
    cases wt
    all_goals
      go_wp2_with fail
      go_loopg [65] len (fun kx s65 wr => ∃ j : Nat, s65 = .int .i64 j ∧ j ≤ len ∧ len - j ≤ kx ∧ Aside (Below (w.heap.size + 1) (w.alloc (.cells (cnds nm op k n x s y) 26)) wr))
      case atStart => exact ⟨0, rfl, Nat.zero_le _, by omega, HA6.out⟩
      case round =>
        obtain ⟨j, rfl, hj, hjx, HA⟩ := hrel
        have zr : w.heap.size + 1 ≤ wr.heap.size := by have := HA.out.size; simpa using this
        by_cases hlt : j < len
        · rcases HVB.out _ HA.out with h0 | ⟨b, off, hao, hbs, hbz, hrow⟩
          · rw [h0] at HLen; exact absurd HLen.out (by simp; omega)
          subst hao
          have hrow1 := hrow j (by rw [← HLen.out]; exact hlt)
          clear hrow
          have HHj : Aside (_ → ∀ W, Calls Tryz.prog 18 #[cnd nm op k n x s y, val es[j]!.k es[j]!.n es[j]!.x es[j]!.s es[j]!.y] W fun e w' => e = .returned (.bool false) ∧ Below W.heap.size W w') := fun h => HH.out h j hlt
          generalize es[j]! = a at hrow1 HHj
          obtain ⟨nm2, k2, n2, x2, s2, y2⟩ := a
          have c0 := hrow1 0 _ rfl; have c1 := hrow1 1 _ rfl; have c2 := hrow1 2 _ rfl; have c3 := hrow1 3 _ rfl; have c4 := hrow1 4 _ rfl
          simp only [Nat.add_zero] at c0
          clear hrow1 HH
          have hltz : (j : Int) < len := by omega
          have hjz : (0 : Int) ≤ (j : Int) := by omega
          by_cases h3 : (300 : Int) < (s2.size : Int)
          · go_wp2_with fail
            go_ret
            exact ⟨rfl, HB0.out.trans ((HA.out.alloc (by omega) _).mono (by omega))⟩
          · go_upto_region 13 with fail
            have hA9 : Below (w.heap.size + 1) (w.alloc (.cells (cnds nm op k n x s y) 26)) (wr.alloc (.cells (vals k2 n2 x2 s2 y2) 24)) := HA.out.alloc (by omega) _
            have vv := World.cell?_alloc_new wr (vals k2 n2 x2 s2 y2) 24
            have v0 := vv 0; have v1 := vv 1; have v2 := vv 2; have v3 := vv 3; have v4 := vv 4
            simp only [List.getElem?_toArray, List.getElem?_cons_zero, List.getElem?_cons_succ] at v0 v1 v2 v3 v4
            have z9 : w.heap.size + 1 ≤ (wr.alloc (.cells (vals k2 n2 x2 s2 y2) 24)).heap.size := by simp; omega
            have HA9 := Lib.hid hA9
            clear hA9 vv c0 c1 c2 c3 c4
            generalize (wr.alloc (.cells (vals k2 n2 x2 s2 y2) 24)) = w9 at *
            generalize wr.heap.size = V at *
            obtain ⟨a0, a1, a2, a3, a4, a5, a6⟩ := HKP.out _ HA9.out
            first
            | (go_wp2_with fail
               go_roundg (len - (j + 1))
               case measure => omega
               case rel => exact ⟨j + 1, by go_num, hlt, Nat.le_refl _, HA9.out⟩)
            | (go_wp2_with fail
               clear a0 a1 a2 a3 a4 a5 a6 v0 v1 v2 v3 v4
               refine (HHj.out trivial _).mono ?_
               rintro e w10 ⟨rfl, hb⟩
               have HA10 := Lib.hid (HA9.out.trans (hb.mono z9)); clear hb
               go_wp2_with fail
               go_roundg (len - (j + 1))
               case measure => omega
               case rel => exact ⟨j + 1, by go_num, hlt, Nat.le_refl _, HA10.out⟩)
        · obtain rfl : j = len := by omega
          obtain ⟨a0, a1, a2, a3, a4, a5, a6⟩ := HKP.out _ HA.out
          clear HH
          first
          | (go_wp2_with fail
             go_ret
             exact ⟨rfl, HB0.out.trans (HA.out.mono (by omega))⟩)
          | (go_wp2_with fail
             clear a0 a1 a2 a3 a4 a5 a6
             refine (HI.out trivial _).mono ?_
             rintro e w11 ⟨rfl, hb⟩
             have HA11 := Lib.hid (HA.out.trans (hb.mono zr)); clear hb
             go_wp2_with fail
             go_ret
             exact ⟨rfl, HB0.out.trans (HA11.out.mono (by omega))⟩)
end Go.Proofs.YtjeippdfgojdnaaGreatDoor
