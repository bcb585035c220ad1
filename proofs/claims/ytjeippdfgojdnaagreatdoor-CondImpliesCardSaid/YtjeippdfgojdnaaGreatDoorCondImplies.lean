/- CondImplies: one condition implies another one by the rules of the document; whatever value the one holds for, the other one does. (Written by gen_imp.py.) -/
import Derived.Test.YtjeippdfgojdnaaGreatDoorCondT
import Derived.Test.YtjeippdfgojdnaaGreatDoorCondR3
import Derived.Test.YtjeippdfgojdnaaGreatDoorCondApp
import Derived.Test.YtjeippdfgojdnaaGreatDoorCondChains
import Derived.Deep.DeepCutAuto
namespace Go.Proofs.YtjeippdfgojdnaaGreatDoor
open Go.RowKit Go.Shelf
open Go.Proofs
set_option maxRecDepth 100000
attribute [local go_sem ↓] append_pre

theorem holds_nm (c : Cn) (a : At) (nm : ByteArray) : holdsB c ⟨nm, a.k, a.n, a.x, a.s, a.y⟩ = holdsB c a := rfl
theorem vals_here {W : World} {B : Nat} {ao : Option Addr} {es : List At} (h : ValsB W B ao es) : ValsB W W.heap.size ao es := by
  rcases h with h | ⟨b, off, h1, _, h3, h4⟩
  · exact Or.inl h
  · exact Or.inr ⟨b, off, h1, h3, h3, h4⟩
set_option maxHeartbeats 8000000 in
theorem condImplies_c (nm1 : ByteArray) (op1 k1 n1 : Int) (x1 : Nat) (s1 : ByteArray) (y1 : Bool) (nm2 : ByteArray) (op2 k2 n2 : Int) (x2 : Nat) (s2 : ByteArray) (y2 : Bool) (ao : Option Addr) (cap : Nat) (es : List At) (hx1 : x1 < 18446744073709551616) (hx2 : x2 < 18446744073709551616) (hs1 : s1.size ≤ 9223372036854775807) (hs2 : s2.size ≤ 9223372036854775807) (w : World) (hw : Wds w)
    (hv : ValsB w w.heap.size ao es) (ho : ∀ a ∈ es, AtOk a) (hlen : es.length ≤ 9223372036854775807) :
    Calls Tryz.prog 4 #[cnd nm1 op1 k1 n1 x1 s1 y1, cnd nm2 op2 k2 n2 x2 s2 y2, .slice ao es.length cap] w fun e w' => e = .returned (.bool true) ∧ Below w.heap.size w w' := by
  obtain ⟨len, hL⟩ : ∃ len, len = es.length := ⟨_, rfl⟩
  have HLen : Aside (len = es.length) := hL
  rw [← hL] at hlen ⊢
  have B0 : Below w.heap.size w ((w.alloc (.cells (cnds nm1 op1 k1 n1 x1 s1 y1) 26)).alloc (.cells (cnds nm2 op2 k2 n2 x2 s2 y2) 26)) := ((Below.refl _ _).alloc (Nat.le_refl _) _).alloc (by simp) _
  have HB0 := Lib.hid B0
  have HF : Aside (∀ W, Below w.heap.size w W → Calls Tryz.prog 13 #[] W fun e w' => e = .returned (.bool true) ∧ Below W.heap.size W w') := fun W hW => fit6_c W (hw.on hW)
  have hl1 := fun W => clight_c nm1 op1 k1 n1 x1 s1 y1 W
  have hl2 := fun W => clight_c nm2 op2 k2 n2 x2 s2 y2 W
  have hr1 := fun W => cright_c nm1 op1 k1 n1 x1 s1 y1 W
  have hr2 := fun W => cright_c nm2 op2 k2 n2 x2 s2 y2 W
  have hi12 := fun W => implies_c nm1 op1 k1 n1 x1 s1 y1 nm2 op2 k2 n2 x2 s2 y2 hx1 hx2 W
  have hri : crightB ⟨⟨nm1, k1, n1, x1, s1, y1⟩, op1⟩ = true → ∀ W, Calls Tryz.prog 23 #[cnd nm1 op1 k1 n1 x1 s1 y1, cnd nm2 op2 k2 n2 x2 s2 y2] W fun e w' => e = .returned (.bool (impliesB ⟨⟨nm1, k1, n1, x1, s1, y1⟩, op1⟩ ⟨⟨nm2, k2, n2, x2, s2, y2⟩, op2⟩)) ∧ Below W.heap.size W w' := fun hr W => rimplies_c nm1 op1 k1 n1 x1 s1 y1 nm2 op2 k2 n2 x2 s2 y2 hx1 hx2 hs1 hs2 (opB_of hr) W
  have hi11 : crightB ⟨⟨nm1, k1, n1, x1, s1, y1⟩, op1⟩ = true → ∀ W, Calls Tryz.prog 22 #[cnd nm1 op1 k1 n1 x1 s1 y1, cnd nm1 op1 k1 n1 x1 s1 y1] W fun e w' => e = .returned (.bool true) ∧ Below W.heap.size W w' := fun hr W => by
    have := implies_c nm1 op1 k1 n1 x1 s1 y1 nm1 op1 k1 n1 x1 s1 y1 hx1 hx1 W
    rw [implies_self (opB_of hr)] at this
    exact this
  obtain ⟨zs, hzs⟩ : ∃ zs, zs = (⟨⟨#[]⟩, k1, n1, x1, s1, y1⟩ : At) :: ⟨⟨#[]⟩, k2, n2, x2, s2, y2⟩ :: es := ⟨_, rfl⟩
  have hzo : ∀ a ∈ zs, AtOk a := fun a ha => by
    rw [hzs] at ha
    rcases List.mem_cons.1 ha with rfl | ha
    · exact hx1
    · rcases List.mem_cons.1 ha with rfl | ha
      · exact hx2
      · exact ho a ha
  have HZL : Aside (zs.length = 2 + len) := by show _ = _; rw [hzs, hL]; simp; omega
  have hh1 : ∀ a ∈ zs, ∀ W, Calls Tryz.prog 18 #[cnd nm1 op1 k1 n1 x1 s1 y1, val a.k a.n a.x a.s a.y] W fun e w' => e = .returned (.bool (holdsB ⟨⟨nm1, k1, n1, x1, s1, y1⟩, op1⟩ a)) ∧ Below W.heap.size W w' := fun a ha W => holds_c nm1 op1 k1 n1 x1 s1 y1 a.nm a.k a.n a.x a.s a.y hx1 (hzo a ha) W
  have hh2 : ∀ a ∈ zs, ∀ W, Calls Tryz.prog 18 #[cnd nm2 op2 k2 n2 x2 s2 y2, val a.k a.n a.x a.s a.y] W fun e w' => e = .returned (.bool (holdsB ⟨⟨nm2, k2, n2, x2, s2, y2⟩, op2⟩ a)) ∧ Below W.heap.size W w' := fun a ha W => holds_c nm2 op2 k2 n2 x2 s2 y2 a.nm a.k a.n a.x a.s a.y hx2 (hzo a ha) W
  have hsn : crightB ⟨⟨nm1, k1, n1, x1, s1, y1⟩, op1⟩ = true → crightB ⟨⟨nm2, k2, n2, x2, s2, y2⟩, op2⟩ = true → impliesB ⟨⟨nm1, k1, n1, x1, s1, y1⟩, op1⟩ ⟨⟨nm2, k2, n2, x2, s2, y2⟩, op2⟩ = true → ∀ v, holdsB ⟨⟨nm1, k1, n1, x1, s1, y1⟩, op1⟩ v = true → holdsB ⟨⟨nm2, k2, n2, x2, s2, y2⟩, op2⟩ v = true := fun q1 q2 q3 v q4 => implies_sound v (opB_of q1) (opB_of q2) q3 q4
  have HVB : Aside (∀ W, Below (w.heap.size + 2) ((w.alloc (.cells (cnds nm1 op1 k1 n1 x1 s1 y1) 26)).alloc (.cells (cnds nm2 op2 k2 n2 x2 s2 y2) 26)) W → ValsB W w.heap.size ao es) := fun W hW => hv.under (B0.trans (hW.mono (by omega)))
  have HKP : Aside (∀ W, Below (w.heap.size + 2) ((w.alloc (.cells (cnds nm1 op1 k1 n1 x1 s1 y1) 26)).alloc (.cells (cnds nm2 op2 k2 n2 x2 s2 y2) 26)) W → W.cell? ⟨w.heap.size, 0, none⟩ = some (.string nm1) ∧ W.cell? ⟨w.heap.size, 1, none⟩ = some (.int .i64 op1) ∧ W.cell? ⟨w.heap.size, 2, none⟩ = some (.int .i64 k1) ∧ W.cell? ⟨w.heap.size, 3, none⟩ = some (.int .i64 n1) ∧ W.cell? ⟨w.heap.size, 4, none⟩ = some (.float .f64 x1) ∧ W.cell? ⟨w.heap.size, 5, none⟩ = some (.string s1) ∧ W.cell? ⟨w.heap.size, 6, none⟩ = some (.bool y1) ∧ W.cell? ⟨w.heap.size + 1, 0, none⟩ = some (.string nm2) ∧ W.cell? ⟨w.heap.size + 1, 1, none⟩ = some (.int .i64 op2) ∧ W.cell? ⟨w.heap.size + 1, 2, none⟩ = some (.int .i64 k2) ∧ W.cell? ⟨w.heap.size + 1, 3, none⟩ = some (.int .i64 n2) ∧ W.cell? ⟨w.heap.size + 1, 4, none⟩ = some (.float .f64 x2) ∧ W.cell? ⟨w.heap.size + 1, 5, none⟩ = some (.string s2) ∧ W.cell? ⟨w.heap.size + 1, 6, none⟩ = some (.bool y2)) := fun W hW => by
    obtain ⟨va, vb⟩ := two_lay hW
    exact ⟨va 0 _ rfl, va 1 _ rfl, va 2 _ rfl, va 3 _ rfl, va 4 _ rfl, va 5 _ rfl, va 6 _ rfl, vb 0 _ rfl, vb 1 _ rfl, vb 2 _ rfl, vb 3 _ rfl, vb 4 _ rfl, vb 5 _ rfl, vb 6 _ rfl⟩
  generalize clightB nm1 s1 = l1 at *
  generalize clightB nm2 s2 = l2 at *
  generalize crightB ⟨⟨nm1, k1, n1, x1, s1, y1⟩, op1⟩ = r1 at *
  generalize crightB ⟨⟨nm2, k2, n2, x2, s2, y2⟩, op2⟩ = r2 at *
  generalize impliesB ⟨⟨nm1, k1, n1, x1, s1, y1⟩, op1⟩ ⟨⟨nm2, k2, n2, x2, s2, y2⟩, op2⟩ = i1 at *
  generalize holdsB ⟨⟨nm1, k1, n1, x1, s1, y1⟩, op1⟩ = h1 at *
  generalize holdsB ⟨⟨nm2, k2, n2, x2, s2, y2⟩, op2⟩ = h2 at *
  have HL1 := Lib.hid hl1; have HL2 := Lib.hid hl2; have HR1 := Lib.hid hr1; have HR2 := Lib.hid hr2; have HI12 := Lib.hid hi12; have HRI := Lib.hid hri; have HI11 := Lib.hid hi11; have HH1 := Lib.hid hh1; have HH2 := Lib.hid hh2; have HSN := Lib.hid hsn; have HZS := Lib.hid hzs
  clear hl1 hl2 hr1 hr2 hi12 hri hi11 hh1 hh2 hsn hzs hzo hw hv ho hL hx1 hx2 hs1 hs2 B0
  go_enter Tryz.func4, Tryz.ntmps4
  go_wp2_with fail
  refine (HF.out _ HB0.out).mono ?_
  rintro e w1 ⟨rfl, hb⟩
  have hA1 : Below (w.heap.size + 2) ((w.alloc (.cells (cnds nm1 op1 k1 n1 x1 s1 y1) 26)).alloc (.cells (cnds nm2 op2 k2 n2 x2 s2 y2) 26)) w1 := by simpa using hb
  have z1 : w.heap.size + 2 ≤ w1.heap.size := by have := hA1.size; simpa using this
  have HA1 := Lib.hid hA1; clear hb hA1
  obtain ⟨a0, a1, a2, a3, a4, a5, a6, b0, b1, b2, b3, b4, b5, b6⟩ := HKP.out _ HA1.out
  go_wp2_with fail
  clear a0 a1 a2 a3 a4 a5 a6 b0 b1 b2 b3 b4 b5 b6
  refine (HL1.out _).mono ?_
  rintro e w2 ⟨rfl, hb⟩
  have hA2 := HA1.out.trans (hb.mono z1)
  cases l1
  · clear hb
    go_wp2_with fail
    go_ret
    exact ⟨rfl, HB0.out.trans (hA2.mono (by omega))⟩
  have z2 : w.heap.size + 2 ≤ w2.heap.size := by have := hA2.size; simpa using this
  have HA2 := Lib.hid hA2; clear hb hA2
  obtain ⟨a0, a1, a2, a3, a4, a5, a6, b0, b1, b2, b3, b4, b5, b6⟩ := HKP.out _ HA2.out
  go_wp2_with fail
  clear a0 a1 a2 a3 a4 a5 a6 b0 b1 b2 b3 b4 b5 b6
  refine (HL2.out _).mono ?_
  rintro e w3 ⟨rfl, hb⟩
  have hA3 := HA2.out.trans (hb.mono z2)
  cases l2
  · clear hb
    go_wp2_with fail
    go_ret
    exact ⟨rfl, HB0.out.trans (hA3.mono (by omega))⟩
  have z3 : w.heap.size + 2 ≤ w3.heap.size := by have := hA3.size; simpa using this
  have HA3 := Lib.hid hA3; clear hb hA3
  obtain ⟨a0, a1, a2, a3, a4, a5, a6, b0, b1, b2, b3, b4, b5, b6⟩ := HKP.out _ HA3.out
  by_cases h40 : (40 : Int) < (len : Int)
  · go_wp2_with fail
    go_ret
    exact ⟨rfl, HB0.out.trans (HA3.out.mono (by omega))⟩
  go_wp2_with fail
  clear a0 a1 a2 a3 a4 a5 a6 b0 b1 b2 b3 b4 b5 b6
  refine (HR1.out _).mono ?_
  rintro e w4 ⟨rfl, hb⟩
  have hA4 := HA3.out.trans (hb.mono z3)
  cases r1
  · clear hb
    go_wp2_with fail
    go_ret
    exact ⟨rfl, HB0.out.trans (hA4.mono (by omega))⟩
  have z4 : w.heap.size + 2 ≤ w4.heap.size := by have := hA4.size; simpa using this
  have HA4 := Lib.hid hA4; clear hb hA4
  obtain ⟨a0, a1, a2, a3, a4, a5, a6, b0, b1, b2, b3, b4, b5, b6⟩ := HKP.out _ HA4.out
  go_wp2_with fail
  clear a0 a1 a2 a3 a4 a5 a6 b0 b1 b2 b3 b4 b5 b6
  refine (HR2.out _).mono ?_
  rintro e w5 ⟨rfl, hb⟩
  have hA5 := HA4.out.trans (hb.mono z4)
  cases r2
  · clear hb
    go_wp2_with fail
    go_ret
    exact ⟨rfl, HB0.out.trans (hA5.mono (by omega))⟩
  have z5 : w.heap.size + 2 ≤ w5.heap.size := by have := hA5.size; simpa using this
  have HA5 := Lib.hid hA5; clear hb hA5
  obtain ⟨a0, a1, a2, a3, a4, a5, a6, b0, b1, b2, b3, b4, b5, b6⟩ := HKP.out _ HA5.out
  have HRI' := Lib.hid (HRI.out trivial); have HI11' := Lib.hid (HI11.out trivial); have HSN' := Lib.hid (HSN.out (by first | exact trivial | rfl) (by first | exact trivial | rfl))
  clear HRI HI11 HSN HF HL1 HL2 HR1 HR2
  have hii : (i1 != i1) = false := by simp
  go_wp2_with fail
  clear a0 a1 a2 a3 a4 a5 a6 b0 b1 b2 b3 b4 b5 b6
  refine (HI12.out _).mono ?_
  rintro e w6 ⟨rfl, hb⟩
  have hA6 := HA5.out.trans (hb.mono z5)
  have z6 : w.heap.size + 2 ≤ w6.heap.size := by have := hA6.size; simpa using this
  have HA6 := Lib.hid hA6; clear hb hA6
  obtain ⟨a0, a1, a2, a3, a4, a5, a6, b0, b1, b2, b3, b4, b5, b6⟩ := HKP.out _ HA6.out
  go_wp2_with fail
  clear a0 a1 a2 a3 a4 a5 a6 b0 b1 b2 b3 b4 b5 b6
  refine (HRI'.out _).mono ?_
  rintro e w7 ⟨rfl, hb⟩
  have hA7 := HA6.out.trans (hb.mono z6)
  have z7 : w.heap.size + 2 ≤ w7.heap.size := by have := hA7.size; simpa using this
  have HA7 := Lib.hid hA7; clear hb hA7
  obtain ⟨a0, a1, a2, a3, a4, a5, a6, b0, b1, b2, b3, b4, b5, b6⟩ := HKP.out _ HA7.out
  go_wp2_with fail
  clear a0 a1 a2 a3 a4 a5 a6 b0 b1 b2 b3 b4 b5 b6
  refine (HI11'.out _).mono ?_
  rintro e w8 ⟨rfl, hb⟩
  have hA8 := HA7.out.trans (hb.mono z7)
  have z8 : w.heap.size + 2 ≤ w8.heap.size := by have := hA8.size; simpa using this
  have HA8 := Lib.hid hA8; clear hb hA8
  obtain ⟨a0, a1, a2, a3, a4, a5, a6, b0, b1, b2, b3, b4, b5, b6⟩ := HKP.out _ HA8.out
  clear HI12 HRI' HI11' HA1 HA2 HA3 HA4 HA5 HA6 HA7 z1 z2 z3 z4 z5 z6 z7
  obtain ⟨g, cap1, w9, hrun, hA⟩ := append_two w8 k1 n1 x1 s1 y1 k2 n2 x2 s2 y2 ao cap es (vals_here (HVB.out _ HA8.out)) (by rw [← HLen.out]; omega)
  rw [← HLen.out] at hrun
  obtain ⟨hb9, hg9, hgz, hrow9⟩ := hA.out
  rw [← HZS.out] at hrow9
  obtain ⟨N, hN⟩ : ∃ N, N = 2 + len := ⟨_, rfl⟩
  rw [← hN] at hrun
  have HNZ : Aside (zs.length = N) := HZL.out.trans hN.symm
  have HA9 : Aside (Below (w.heap.size + 2) ((w.alloc (.cells (cnds nm1 op1 k1 n1 x1 s1 y1) 26)).alloc (.cells (cnds nm2 op2 k2 n2 x2 s2 y2) 26)) w9) := HA8.out.trans (hb9.mono z8)
  have HR9 := Lib.hid hrow9
  have z9 : w.heap.size + 2 ≤ w9.heap.size := by have := HA9.out.size; simpa using this
  have HKW : Aside (∀ W, Below w9.heap.size w9 W → Below (w.heap.size + 2) ((w.alloc (.cells (cnds nm1 op1 k1 n1 x1 s1 y1) 26)).alloc (.cells (cnds nm2 op2 k2 n2 x2 s2 y2) 26)) W ∧ RowV W g 0 zs) := fun W hW => ⟨HA9.out.trans (hW.mono z9), fun j hj c v hv => (hW.cell (p := ⟨g, 0 + j * 5 + c, none⟩) hg9).trans (HR9.out j hj c v hv)⟩
  have hNb : N ≤ 42 := by omega
  clear hA hb9 hrow9 HZS HZL HLen hN HR9 HVB hgz h40 hlen
  cases i1
  all_goals
    go_wp2_with fail
    clear a0 a1 a2 a3 a4 a5 a6 b0 b1 b2 b3 b4 b5 b6 hrun
    go_loopg [57] N (fun kx s57 wr => ∃ j : Nat, s57 = .int .i64 j ∧ j ≤ N ∧ N - j ≤ kx ∧ Aside (Below w9.heap.size w9 wr))
    case atStart => exact ⟨0, rfl, Nat.zero_le _, by omega, Below.refl _ _⟩
    case round =>
      obtain ⟨j, rfl, hj, hjx, HA⟩ := hrel
      obtain ⟨hF, hrow⟩ := HKW.out _ HA.out
      have HFr := Lib.hid hF
      by_cases hlt : j < N
      · have hrow1 := hrow j (by rw [HNZ.out]; exact hlt)
        have hmem := get_mem zs j (by rw [HNZ.out]; exact hlt)
        have HH1j := Lib.hid (HH1.out _ hmem); have HH2j := Lib.hid (HH2.out _ hmem)
        clear hrow hmem hF
        have HSj : Aside (_ → h1 zs[j]! = true → h2 zs[j]! = true) := fun h => HSN'.out h zs[j]!
        generalize h1 zs[j]! = p1 at HH1j HSj
        generalize h2 zs[j]! = p2 at HH2j HSj
        generalize zs[j]! = a at hrow1 HH1j HH2j
        obtain ⟨nma, ka, na, xa, sa, ya⟩ := a
        have c0 := hrow1 0 _ rfl; have c1 := hrow1 1 _ rfl; have c2 := hrow1 2 _ rfl; have c3 := hrow1 3 _ rfl; have c4 := hrow1 4 _ rfl
        simp only [Nat.zero_add, Nat.add_zero] at c0 c1 c2 c3 c4
        clear hrow1 HH1 HH2 HSN'
        have hltz : (j : Int) < N := by omega
        have hjz : (0 : Int) ≤ (j : Int) := by omega
        have zr : w9.heap.size ≤ wr.heap.size := HA.out.size
        by_cases h3 : (300 : Int) < (sa.size : Int)
        · go_wp2_with fail
          go_ret
          exact ⟨rfl, HB0.out.trans ((HFr.out.alloc (by omega) _).mono (by omega))⟩
        · go_upto_region 13 with fail
          have hA10 : Below w9.heap.size w9 (wr.alloc (.cells (vals ka na xa sa ya) 24)) := HA.out.alloc zr _
          have vv := World.cell?_alloc_new wr (vals ka na xa sa ya) 24
          have v0 := vv 0; have v1 := vv 1; have v2 := vv 2; have v3 := vv 3; have v4 := vv 4
          simp only [List.getElem?_toArray, List.getElem?_cons_zero, List.getElem?_cons_succ] at v0 v1 v2 v3 v4
          have zv : wr.heap.size < (wr.alloc (.cells (vals ka na xa sa ya) 24)).heap.size := by simp
          have HA10 := Lib.hid hA10
          clear hA10 vv c0 c1 c2 c3 c4 HFr
          generalize (wr.alloc (.cells (vals ka na xa sa ya) 24)) = w10 at *
          generalize wr.heap.size = V at *
          obtain ⟨a0, a1, a2, a3, a4, a5, a6, b0, b1, b2, b3, b4, b5, b6⟩ := HKP.out _ (HKW.out _ HA10.out).1
          first
          | (go_wp2_with fail
             go_roundg (N - (j + 1))
             case measure => omega
             case rel => exact ⟨j + 1, by go_num, hlt, Nat.le_refl _, HA10.out⟩)
          | (go_wp2_with fail
             clear a0 a1 a2 a3 a4 a5 a6 b0 b1 b2 b3 b4 b5 b6
             refine (HH1j.out _).mono ?_
             rintro e w11 ⟨rfl, hb⟩
             have v0 := (hb.cell (p := ⟨V, 0, none⟩) zv).trans v0; have v1 := (hb.cell (p := ⟨V, 1, none⟩) zv).trans v1; have v2 := (hb.cell (p := ⟨V, 2, none⟩) zv).trans v2; have v3 := (hb.cell (p := ⟨V, 3, none⟩) zv).trans v3; have v4 := (hb.cell (p := ⟨V, 4, none⟩) zv).trans v4
             have HA11 := Lib.hid (HA10.out.trans (hb.mono HA10.out.size)); clear hb
             obtain ⟨a0, a1, a2, a3, a4, a5, a6, b0, b1, b2, b3, b4, b5, b6⟩ := HKP.out _ (HKW.out _ HA11.out).1
             cases p1
             · go_wp2_with fail
               go_roundg (N - (j + 1))
               case measure => omega
               case rel => exact ⟨j + 1, by go_num, hlt, Nat.le_refl _, HA11.out⟩
             · obtain rfl : p2 = true := HSj.out (by first | exact trivial | rfl) (by first | exact trivial | rfl)
               go_wp2_with fail
               clear a0 a1 a2 a3 a4 a5 a6 b0 b1 b2 b3 b4 b5 b6 v0 v1 v2 v3 v4
               refine (HH2j.out _).mono ?_
               rintro e w12 ⟨rfl, hb⟩
               have HA12 := Lib.hid (HA11.out.trans (hb.mono HA11.out.size)); clear hb
               go_wp2_with fail
               go_roundg (N - (j + 1))
               case measure => omega
               case rel => exact ⟨j + 1, by go_num, hlt, Nat.le_refl _, HA12.out⟩)
      · obtain rfl : j = N := by omega
        go_wp2_with fail
        go_ret
        exact ⟨rfl, HB0.out.trans (HFr.out.mono (by omega))⟩
end Go.Proofs.YtjeippdfgojdnaaGreatDoor
