/- CondMatches: an event matches by the value of the attribute of that name alone. -/
import Derived.Test.YtcbccioibpjkgaaGreatDoorGaC
import Derived.Test.YtcbccioibpjkgaaGreatDoorGaD
import Derived.Test.YtcbccioibpjkgaaGreatDoorNormP
import Derived.Test.YtcbccioibpjkgaaGreatDoorGaI
import Derived.Test.YtcbccioibpjkgaaGreatDoorWithout
import Derived.Deep.RegionWith
import Derived.Deep.RegionHeld3
import Derived.Deep.DeepCutAuto
namespace Go.Proofs.YtcbccioibpjkgaaGreatDoor
open Go.RowKit Go.Shelf Go.Sort
open Go.Proofs
set_option maxRecDepth 100000

theorem mat1_canon (c : Cn) (hk : KindB c.a) (l : List At) : matchB (canonC c) l = matchB c l := by
  unfold matchB
  congr 1
  funext a
  unfold mat1
  rw [canonC_nm, holds_canon c a hk]
theorem match_without (c : Cn) (l : List At) : matchB c (withoutL l [c.a.nm]) = false := by
  unfold matchB withoutL
  rw [List.any_eq_false]
  intro a ha hm
  obtain ⟨h1, h2⟩ := List.mem_filter.1 ha
  unfold mat1 at hm
  rw [Bool.and_eq_true, beq_iff_eq, bytes_toList, bytes_toList] at hm
  have e : a.nm = c.a.nm := ByteArray.ext (Array.ext' hm.1)
  have hc : Lib.containsS [c.a.nm] c.a.nm = true := (Lib.containsS_iff _ _).2 (by simp)
  rw [e, hc] at h2
  cases h2
/-- The law's calls behind its tests. -/
structure MatchK (w9 : World) (nm : ByteArray) (op k n : Int) (x : Nat) (s : ByteArray) (y : Bool) (sc : ByteArray) (G cap r : Nat) (res : List At) (mb : Bool) (nmc : ByteArray) (opc kc nc : Int) (xc : Nat) (sx : ByteArray) (yc : Bool) : Prop where
  m1 : ∀ W, Below w9.heap.size w9 W → Calls Tryz.prog 13 #[cnd nm op k n x s y, .agg #[.string sc, .slice (some ⟨G, 0, none⟩) r cap]] W fun e w' => e = .returned (.bool mb) ∧ Below W.heap.size W w'
  can : ∀ W, Calls Tryz.prog 14 #[cnd nm op k n x s y] W fun e w' => e = .returned (cnd nmc opc kc nc xc sx yc) ∧ Below W.heap.size W w'
  m2 : ∀ W, Below w9.heap.size w9 W → Calls Tryz.prog 13 #[cnd nmc opc kc nc xc sx yc, .agg #[.string sc, .slice (some ⟨G, 0, none⟩) r cap]] W fun e w' => e = .returned (.bool mb) ∧ Below W.heap.size W w'
  wo : ∀ W, Below w9.heap.size w9 W → ∀ b, b < W.heap.size → W.cell? ⟨b, 0, none⟩ = some (.string nm) → Calls Tryz.prog 15 #[.agg #[.string sc, .slice (some ⟨G, 0, none⟩) r cap], .slice (some ⟨b, 0, none⟩) 1 1] W fun e w' => ∃ ro rl rcap, e = .returned (.agg #[.string sc, .slice ro rl rcap]) ∧
    Aside (Below W.heap.size W w' ∧ ∀ W', Below w'.heap.size w' W' → Calls Tryz.prog 13 #[cnd nm op k n x s y, .agg #[.string sc, .slice ro rl rcap]] W' fun e w' => e = .returned (.bool false) ∧ Below W'.heap.size W' w')
  hol : ∀ a ∈ res, ∀ W, Calls Tryz.prog 12 #[cnd nm op k n x s y, val a.k a.n a.x a.s a.y] W fun e w' => e = .returned (.bool (holdsB ⟨⟨nm, k, n, x, s, y⟩, op⟩ a)) ∧ Below W.heap.size W w'
  eq : mb = res.any (mat1 ⟨⟨nm, k, n, x, s, y⟩, op⟩)
theorem matchK (w9 : World) (nm : ByteArray) (op k n : Int) (x : Nat) (s : ByteArray) (y : Bool) (sc : ByteArray) (G cap : Nat) (res : List At) (hx : x < 18446744073709551616) (hr : crightB ⟨⟨nm, k, n, x, s, y⟩, op⟩ = true) (hS : SliceA w9 (some ⟨G, 0, none⟩) res) (hl : res.length ≤ 20) (hok : ∀ a ∈ res, AtOk a) :
    ∃ mb nmc opc kc nc xc sx yc, MatchK w9 nm op k n x s y sc G cap res.length res mb nmc opc kc nc xc sx yc := by
  have hcx : (canonC ⟨⟨nm, k, n, x, s, y⟩, op⟩).a.x < 18446744073709551616 := by
    unfold canonC
    split
    · show (0 : Nat) < _; decide
    · exact canon_x ⟨nm, k, n, x, s, y⟩ hx
  have hcm := mat1_canon ⟨⟨nm, k, n, x, s, y⟩, op⟩ (right_kind hr) res
  have hcc := fun W => ccanon_c nm op k n x s y W
  have hmw := match_without ⟨⟨nm, k, n, x, s, y⟩, op⟩ res
  generalize canonC ⟨⟨nm, k, n, x, s, y⟩, op⟩ = d at *
  obtain ⟨⟨nmc, kc, nc, xc, sx, yc⟩, opc⟩ := d
  refine ⟨matchB ⟨⟨nm, k, n, x, s, y⟩, op⟩ res, nmc, opc, kc, nc, xc, sx, yc, ?_⟩
  exact {
    m1 := fun W hW => cmatch_c nm op k n x s y sc (some ⟨G, 0, none⟩) cap res hx W (hS.under hW) hok (by omega)
    can := fun W => hcc W
    m2 := fun W hW => by
      have := cmatch_c nmc opc kc nc xc sx yc sc (some ⟨G, 0, none⟩) cap res hcx W (hS.under hW) hok (by omega)
      rwa [hcm] at this
    wo := fun W hW b hb hc => by
      refine (without_c sc (some ⟨G, 0, none⟩) (some ⟨b, 0, none⟩) cap 1 res [nm] W (hS.under hW) (Or.inr ⟨b, 0, rfl, hb, fun j hj => ?_⟩) (by omega) (by simp)).mono ?_
      · obtain rfl : j = 0 := by simpa using hj
        exact hc
      · rintro e w' ⟨ro, rcap, rfl, H⟩
        refine ⟨ro, _, rcap, rfl, (⟨H.out.2, fun W' hW' => ?_⟩ : _ ∧ _)⟩
        have := cmatch_c nm op k n x s y sc ro rcap (withoutL res [nm]) hx W' (H.out.1.under hW') (fun a ha => hok a (List.mem_filter.1 ha).1) (Nat.le_trans (List.length_filter_le _ _) (by omega))
        rwa [hmw] at this
    hol := fun a ha W => holds_c nm op k n x s y a.nm a.k a.n a.x a.s a.y hx (hok a ha) W
    eq := rfl }

set_option maxHeartbeats 8000000 in
theorem condMatches_c (nm : ByteArray) (op k n : Int) (x : Nat) (s : ByteArray) (y : Bool) (ao : Option Addr) (cap : Nat) (l : List At) (sc : ByteArray) (hx : x < 18446744073709551616) (w : World) (hw : Wds w) (hl : SliceA w ao l) (ho : ∀ a ∈ l, AtOk a) (hlen : l.length ≤ 9223372036854775807) :
    Calls Tryz.prog 3 #[cnd nm op k n x s y, .slice ao l.length cap, .string sc] w fun e w' => e = .returned (.bool true) ∧ Below w.heap.size w w' := by
  have HFT : Aside (∀ W, Below w.heap.size w W → Calls Tryz.prog 8 #[] W fun e w' => e = .returned (.bool true) ∧ Below W.heap.size W w') := fun W hW => fit6_c W (hw.on hW)
  have HLI := Lib.hid (fun W => clight_c nm op k n x s y W)
  have HRI := Lib.hid (fun W => cright_c nm op k n x s y W)
  have HNW : Aside (l.length ≤ 20 → ∀ W, Below w.heap.size w W → Calls Tryz.prog 11 #[.string sc, .slice ao l.length cap] W fun e w' => ∃ (G : Nat) (res : List At), e = .returned (.agg #[.string sc, .slice (some ⟨G, 0, none⟩) res.length l.length]) ∧
      Aside (SliceA w' (some ⟨G, 0, none⟩) res ∧ res.length ≤ 20 ∧ (∀ a ∈ res, AtOk a) ∧ Below W.heap.size W w')) := fun h W hW => by
    refine (new_c sc ao cap l (by omega) W (hl.under hW)).mono ?_
    rintro e w' ⟨G, res, rfl, H⟩
    obtain ⟨a1, a2, a3, a4, a5⟩ := H.out
    have hlen := a4.len
    exact ⟨G, res, rfl, (⟨Or.inr ⟨G, 0, rfl, a2, a3⟩, by omega, fun a ha => by
      obtain ⟨z, hz, rfl⟩ := a4.mem a ha
      exact canon_x z (ho z hz), a5⟩ : _ ∧ _)⟩
  have HMK : Aside (crightB ⟨⟨nm, k, n, x, s, y⟩, op⟩ = true → ∀ (w9 : World) (G c : Nat) (res : List At), SliceA w9 (some ⟨G, 0, none⟩) res → res.length ≤ 20 → (∀ a ∈ res, AtOk a) → ∃ mb nmc opc kc nc xc sx yc, MatchK w9 nm op k n x s y sc G c res.length res mb nmc opc kc nc xc sx yc) := fun hr w9 G c res h1 h2 h3 => matchK w9 nm op k n x s y sc G c res hx hr h1 h2 h3
  have HSL : Aside (∀ W, Below w.heap.size w W → l = [] ∨ ∃ b off, ao = some ⟨b, off, none⟩ ∧ RowAt W b off l) := fun W hW => by
    rcases hl with h | ⟨b, off, h1, h2, h3⟩
    · exact Or.inl h
    · exact Or.inr ⟨b, off, h1, RowAt.below hW h2 h3⟩
  have HB0 : Aside (Below w.heap.size w (w.alloc (.cells (cnds nm op k n x s y) 26))) := (Below.refl _ _).alloc (Nat.le_refl _) _
  have HKP : Aside (∀ W, Below (w.heap.size + 1) (w.alloc (.cells (cnds nm op k n x s y) 26)) W → W.cell? ⟨w.heap.size, 0, none⟩ = some (.string nm) ∧ W.cell? ⟨w.heap.size, 1, none⟩ = some (.int .i64 op) ∧ W.cell? ⟨w.heap.size, 2, none⟩ = some (.int .i64 k) ∧ W.cell? ⟨w.heap.size, 3, none⟩ = some (.int .i64 n) ∧ W.cell? ⟨w.heap.size, 4, none⟩ = some (.float .f64 x) ∧ W.cell? ⟨w.heap.size, 5, none⟩ = some (.string s) ∧ W.cell? ⟨w.heap.size, 6, none⟩ = some (.bool y)) := fun W hW => ⟨one_lay hW 0 _ rfl, one_lay hW 1 _ rfl, one_lay hW 2 _ rfl, one_lay hW 3 _ rfl, one_lay hW 4 _ rfl, one_lay hW 5 _ rfl, one_lay hW 6 _ rfl⟩
  have z1 : w.heap.size + 1 ≤ (w.alloc (.cells (cnds nm op k n x s y) 26)).heap.size := by simp
  have HM1 : Aside (∀ a, mat1 ⟨⟨nm, k, n, x, s, y⟩, op⟩ a = (a.nm.toList == nm.toList && holdsB ⟨⟨nm, k, n, x, s, y⟩, op⟩ a)) := fun a => rfl
  generalize crightB ⟨⟨nm, k, n, x, s, y⟩, op⟩ = rt at *
  generalize clightB nm s = lt at *
  obtain ⟨len, hL⟩ : ∃ len, len = l.length := ⟨_, rfl⟩
  rw [← hL] at HNW hlen ⊢
  have HLen : Aside (len = l.length) := hL
  clear hx hw hl ho hL
  go_enter Tryz.func3, Tryz.ntmps3
  go_wp2_with fail
  generalize hW0 : w.alloc (.cells (cnds nm op k n x s y) 26) = w0 at *
  refine (HFT.out _ HB0.out).mono ?_
  rintro e w1 ⟨rfl, hb⟩
  have HA1 : Aside (Below (w.heap.size + 1) w0 w1) := hb.mono z1
  clear hb HFT
  obtain ⟨a0, a1, a2, a3, a4, a5, a6⟩ := HKP.out _ HA1.out
  go_wp2_with fail
  clear a0 a1 a2 a3 a4 a5 a6
  refine (HLI.out _).mono ?_
  rintro e w2 ⟨rfl, hb⟩
  have HA2 : Aside (Below (w.heap.size + 1) w0 w2) := HA1.out.trans (hb.mono (Nat.le_trans z1 HA1.out.size))
  clear hb HA1 HLI
  cases lt
  · go_wp2_with fail
    go_ret
    exact ⟨rfl, HB0.out.trans (HA2.out.mono (by omega))⟩
  by_cases h20 : (20 : Int) < (len : Int)
  · go_wp2_with fail
    go_ret
    exact ⟨rfl, HB0.out.trans (HA2.out.mono (by omega))⟩
  have F20 : ((20 : Int) < (len : Int)) = False := eq_false h20
  replace HNW := Lib.hid (HNW.out (by omega))
  have h20n : len ≤ 20 := by omega
  obtain ⟨a0, a1, a2, a3, a4, a5, a6⟩ := HKP.out _ HA2.out
  go_wp2_with fail
  clear a0 a1 a2 a3 a4 a5 a6
  refine (HRI.out _).mono ?_
  rintro e w3 ⟨rfl, hb⟩
  have HA3 : Aside (Below (w.heap.size + 1) w0 w3) := HA2.out.trans (hb.mono (Nat.le_trans z1 HA2.out.size))
  clear hb HA2 HRI
  cases rt
  · go_wp2_with fail
    go_ret
    exact ⟨rfl, HB0.out.trans (HA3.out.mono (by omega))⟩
  replace HMK := Lib.hid (HMK.out (by first | trivial | rfl))
  clear F20 h20
  go_wp2_with fail
  go_loopg [30] len (fun kx s30 wr => ∃ j : Nat, s30 = .int .i64 j ∧ j ≤ len ∧ len - j ≤ kx ∧ Aside (Below (w.heap.size + 1) w0 wr))
  case atStart => exact ⟨0, rfl, Nat.zero_le _, by omega, HA3.out⟩
  case round =>
    clear HA3
    obtain ⟨j, rfl, hj, hjx, HA⟩ := hrel
    have zr : w.heap.size + 1 ≤ wr.heap.size := Nat.le_trans z1 HA.out.size
    by_cases hlt : j < len
    · rcases HSL.out _ (HB0.out.trans (HA.out.mono (by omega))) with h0 | ⟨b, off, hao, hrow⟩
      · rw [h0] at HLen; exact absurd HLen.out (by simp; omega)
      subst hao
      have hrow1 := hrow j (by rw [← HLen.out]; exact hlt)
      generalize l[j]! = a at hrow1
      obtain ⟨nma, ka, na, xa, sa, ya⟩ := a
      have c0 := hrow1 0 _ rfl; have c1 := hrow1 1 _ rfl; have c2 := hrow1 2 _ rfl; have c3 := hrow1 3 _ rfl; have c4 := hrow1 4 _ rfl; have c5 := hrow1 5 _ rfl
      simp only [Nat.add_zero] at c0
      clear hrow1 hrow
      have hltz : (j : Int) < len := by omega
      have hjz : (0 : Int) ≤ (j : Int) := by omega
      have HA9 : Aside (Below (w.heap.size + 1) w0 (wr.alloc (.cells #[.string nma, .int .i64 ka, .int .i64 na, .float .f64 xa, .string sa, .bool ya] 31))) := HA.out.alloc zr _
      clear HA
      by_cases h300 : (300 : Int) < wrap64 ((nma.size : Int) + (sa.size : Int))
      · go_wp2_with fail
        go_ret
        exact ⟨rfl, HB0.out.trans (HA9.out.mono (by omega))⟩
      · have F300 : ((300 : Int) < wrap64 ((nma.size : Int) + (sa.size : Int))) = False := eq_false h300
        go_wp2_with fail
        go_roundg (len - (j + 1))
        case measure => omega
        case rel => exact ⟨j + 1, by go_num, hlt, Nat.le_refl _, HA9.out⟩
    · obtain rfl : j = len := by omega
      clear HSL hjx hj hlt
      go_wp2_with fail
      refine (HNW.out _ (HB0.out.trans (HA.out.mono (by omega)))).mono ?_
      rintro e w5 ⟨G, res, rfl, X⟩
      have HA5 : Aside (Below (w.heap.size + 1) w0 w5) := HA.out.trans (X.out.2.2.2.mono zr)
      have z5 : w.heap.size + 1 ≤ w5.heap.size := Nat.le_trans z1 HA5.out.size
      have HS5 := Lib.hid X.out.1
      have HR5 := Lib.hid (And.intro X.out.2.1 X.out.2.2.1)
      clear X HNW HA
      have hb6 : Below w5.heap.size w5 (w5.alloc (.cells #[.string sc, .slice (some ⟨G, 0, none⟩) res.length j] 33)) := (Below.refl _ _).alloc (Nat.le_refl _) _
      have HA6 : Aside (Below (w.heap.size + 1) w0 (w5.alloc (.cells #[.string sc, .slice (some ⟨G, 0, none⟩) res.length j] 33))) := HA5.out.trans (hb6.mono z5)
      have HE6 : Aside (∀ W, Below (w5.heap.size + 1) (w5.alloc (.cells #[.string sc, .slice (some ⟨G, 0, none⟩) res.length j] 33)) W → W.cell? ⟨w5.heap.size, 0, none⟩ = some (.string sc) ∧ W.cell? ⟨w5.heap.size, 1, none⟩ = some (.slice (some ⟨G, 0, none⟩) res.length j)) := fun W hW => ⟨one_lay hW 0 _ rfl, one_lay hW 1 _ rfl⟩
      have HS6 := Lib.hid (HS5.out.under hb6)
      have hz6 : (w5.alloc (.cells #[.string sc, .slice (some ⟨G, 0, none⟩) res.length j] 33)).heap.size = w5.heap.size + 1 := by simp
      obtain ⟨mb, nmc, opc, kc, nc, xc, sx, yc, hK⟩ := HMK.out _ G j res HS6.out HR5.out.1 HR5.out.2
      have HK := Lib.hid hK
      clear hK HMK hb6 HS5
      go_upto_region 13 with fail
      generalize (w5.alloc (.cells #[.string sc, .slice (some ⟨G, 0, none⟩) res.length j] 33)) = w6 at *
      have HX : Aside (∀ W, Below w6.heap.size w6 W → (W.cell? ⟨w.heap.size, 0, none⟩ = some (.string nm) ∧ W.cell? ⟨w.heap.size, 1, none⟩ = some (.int .i64 op) ∧ W.cell? ⟨w.heap.size, 2, none⟩ = some (.int .i64 k) ∧ W.cell? ⟨w.heap.size, 3, none⟩ = some (.int .i64 n) ∧ W.cell? ⟨w.heap.size, 4, none⟩ = some (.float .f64 x) ∧ W.cell? ⟨w.heap.size, 5, none⟩ = some (.string s) ∧ W.cell? ⟨w.heap.size, 6, none⟩ = some (.bool y)) ∧ W.cell? ⟨w5.heap.size, 0, none⟩ = some (.string sc) ∧ W.cell? ⟨w5.heap.size, 1, none⟩ = some (.slice (some ⟨G, 0, none⟩) res.length j)) := fun W hW =>
        ⟨HKP.out W (HA6.out.trans (hW.mono (by omega))), HE6.out W (by rw [← hz6]; exact hW)⟩
      have HY : Aside (∀ W, Below w6.heap.size w6 W → Below w.heap.size w W) := fun W hW => HB0.out.trans ((HA6.out.trans (hW.mono (by omega))).mono (by omega))
      have HROW : Aside (∀ i, i < res.length → ∀ W, Below w6.heap.size w6 W → ∀ c v, (encA res[i]!)[c]? = some v → W.cell? ⟨G, i * 6 + c, none⟩ = some v) := fun i hi W hW c v hv => by
        rcases HS6.out.under hW with h | ⟨b, off, h1, h2, h3⟩
        · rw [h] at hi; simp at hi
        · injection h1 with h1
          injection h1 with e1 e2
          subst e1; subst e2
          have := h3 i hi c v hv
          rwa [Nat.zero_add] at this
      generalize hEE : w5.heap.size = E at *
      obtain ⟨r, hr⟩ : ∃ r, r = res.length := ⟨_, rfl⟩
      rw [← hr] at HX HK HROW ⊢
      have HRE : Aside (r = res.length) := hr
      have hr20 : r ≤ 20 := by rw [hr]; exact HR5.out.1
      clear HE6 HS6 HR5 HA5 HA6 hr hEE hz6 z5 HKP HB0
      obtain ⟨_, x0, x1⟩ := HX.out _ (Below.refl _ _)
      go_wp2_with fail
      clear x0 x1
      go_loopg [10, 50] r (fun kx s10 s50 wr => ∃ (i : Nat) (q : Bool), s10 = .bool q ∧ s50 = .int .i64 i ∧ i ≤ r ∧ r - i ≤ kx ∧ Aside (q = (res.take i).any (mat1 ⟨⟨nm, k, n, x, s, y⟩, op⟩)) ∧ Aside (Below w6.heap.size w6 wr))
      case atStart => exact ⟨0, false, rfl, rfl, Nat.zero_le _, by omega, by simp [Aside], Below.refl _ _⟩
      case round =>
        obtain ⟨i, q, rfl, rfl, hi, hix, HQ, HA⟩ := hrel
        have zr : w6.heap.size ≤ wr.heap.size := HA.out.size
        by_cases hlt : i < r
        · have c_ := fun c v h => HROW.out i hlt wr HA.out c v h
          have hil : i < res.length := by rw [← HRE.out]; exact hlt
          have HHi := Lib.hid (HK.out.hol _ (get_mem res i hil))
          have HMi := HM1.out res[i]!
          have HTi : Aside ((res.take (i + 1)).any (mat1 ⟨⟨nm, k, n, x, s, y⟩, op⟩) = (q || mat1 ⟨⟨nm, k, n, x, s, y⟩, op⟩ res[i]!)) := by
            show _ = _
            rw [take_succ res i hil, List.any_append, ← HQ.out]; simp
          generalize mat1 ⟨⟨nm, k, n, x, s, y⟩, op⟩ res[i]! = mi at HMi HTi
          generalize holdsB ⟨⟨nm, k, n, x, s, y⟩, op⟩ res[i]! = hv at HHi HMi
          generalize res[i]! = a at c_ HHi HMi
          obtain ⟨nma, ka, na, xa, sa, ya⟩ := a
          simp only at HMi
          have c0 := c_ 0 _ rfl; have c1 := c_ 1 _ rfl; have c2 := c_ 2 _ rfl; have c3 := c_ 3 _ rfl; have c4 := c_ 4 _ rfl; have c5 := c_ 5 _ rfl
          simp only [Nat.add_zero] at c0
          have hltz : (i : Int) < r := by omega
          have hiz : (0 : Int) ≤ (i : Int) := by omega
          have HMI := Lib.hid HMi
          clear c_ hil HMi HQ
          have HA9 : Aside (Below w6.heap.size w6 (wr.alloc (.cells #[.string nma, .int .i64 ka, .int .i64 na, .float .f64 xa, .string sa, .bool ya] 31))) := HA.out.alloc zr _
          obtain ⟨⟨a0, a1, a2, a3, a4, a5, a6⟩, _, _⟩ := HX.out _ HA9.out
          clear HA zr
          cases q
          · cases hn : (nma.toList == nm.toList)
            · have hq : mi = false := by rw [HMI.out, hn, Bool.false_and]
              have HT2 := Lib.hid (HTi.out.trans (by rw [hq]; rfl : (false || mi) = false))
              clear HMI HTi HHi hq
              go_wp2_with fail
              go_roundg (r - (i + 1))
              case measure => omega
              case rel => exact ⟨i + 1, false, rfl, by go_num, hlt, Nat.le_refl _, HT2.out.symm, HA9.out⟩
            · have hq : mi = hv := by rw [HMI.out, hn, Bool.true_and]
              have HT2 := Lib.hid (HTi.out.trans (by rw [hq, Bool.false_or] : (false || mi) = hv))
              clear HMI HTi hq
              go_wp2_with fail
              clear a0 a1 a2 a3 a4 a5 a6 c0 c1 c2 c3 c4 c5
              refine (HHi.out _).mono ?_
              rintro e w10 ⟨rfl, hb⟩
              have HA10 := Lib.hid (HA9.out.trans (hb.mono HA9.out.size))
              clear hb
              go_wp2_with fail
              go_roundg (r - (i + 1))
              case measure => omega
              case rel => exact ⟨i + 1, hv, rfl, by go_num, hlt, Nat.le_refl _, HT2.out.symm, HA10.out⟩
          · have HT2 := Lib.hid (HTi.out.trans (by rw [Bool.true_or] : (true || mi) = true))
            clear HMI HTi HHi
            go_wp2_with fail
            go_roundg (r - (i + 1))
            case measure => omega
            case rel => exact ⟨i + 1, true, rfl, by go_num, hlt, Nat.le_refl _, HT2.out.symm, HA9.out⟩
        · obtain rfl : i = r := by omega
          have hq : q = mb := by rw [HQ.out, HK.out.eq, HRE.out, List.take_length]
          subst hq
          clear HQ HROW HM1 HRE hix hi hlt
          go_upto_region 18 with fail
          have D0 : Aside (Below w6.heap.size w6 wr.drew) := HA.out.trans ⟨rfl, rfl, rfl, Nat.le_refl _, fun _ _ => rfl⟩
          have hqq : (q == q) = true := by simp
          have KP : Aside (∀ W, Below w6.heap.size w6 W → W.cell? ⟨w.heap.size, 0, none⟩ = some (.string nm) ∧ W.cell? ⟨w.heap.size, 1, none⟩ = some (.int .i64 op) ∧ W.cell? ⟨w.heap.size, 2, none⟩ = some (.int .i64 k) ∧ W.cell? ⟨w.heap.size, 3, none⟩ = some (.int .i64 n) ∧ W.cell? ⟨w.heap.size, 4, none⟩ = some (.float .f64 x) ∧ W.cell? ⟨w.heap.size, 5, none⟩ = some (.string s) ∧ W.cell? ⟨w.heap.size, 6, none⟩ = some (.bool y) ∧ W.cell? ⟨E, 0, none⟩ = some (.string sc) ∧ W.cell? ⟨E, 1, none⟩ = some (.slice (some ⟨G, 0, none⟩) i j)) := fun W hW => by
            obtain ⟨⟨b0, b1, b2, b3, b4, b5, b6⟩, b7, b8⟩ := HX.out W hW
            exact ⟨b0, b1, b2, b3, b4, b5, b6, b7, b8⟩
          have M1 : Aside (∀ W, Below w6.heap.size w6 W → Calls Tryz.prog 13 #[cnd nm op k n x s y, .agg #[.string sc, .slice (some ⟨G, 0, none⟩) i j]] W fun e w' => e = .returned (.bool q) ∧ Below W.heap.size W w') := HK.out.m1
          have M2 : Aside (∀ W, Below w6.heap.size w6 W → Calls Tryz.prog 13 #[cnd nmc opc kc nc xc sx yc, .agg #[.string sc, .slice (some ⟨G, 0, none⟩) i j]] W fun e w' => e = .returned (.bool q) ∧ Below W.heap.size W w') := HK.out.m2
          have CN : Aside (∀ W, Calls Tryz.prog 14 #[cnd nm op k n x s y] W fun e w' => e = .returned (cnd nmc opc kc nc xc sx yc) ∧ Below W.heap.size W w') := HK.out.can
          have WO : Aside (∀ W, Below w6.heap.size w6 W → Calls Tryz.prog 15 #[.agg #[.string sc, .slice (some ⟨G, 0, none⟩) i j], .slice (some ⟨W.heap.size, 0, none⟩) 1 1] (W.alloc (.cells #[.string nm] 9)) fun e w' => ∃ ro rl rcap, e = .returned (.agg #[.string sc, .slice ro rl rcap]) ∧
            Aside (Below (W.alloc (.cells #[.string nm] 9)).heap.size (W.alloc (.cells #[.string nm] 9)) w' ∧ ∀ W', Below w'.heap.size w' W' → Calls Tryz.prog 13 #[cnd nm op k n x s y, .agg #[.string sc, .slice ro rl rcap]] W' fun e w' => e = .returned (.bool false) ∧ Below W'.heap.size W' w')) := fun W hW =>
            HK.out.wo _ (hW.trans (((Below.refl _ _).alloc (Nat.le_refl _) _).mono hW.size)) W.heap.size (by simp) (by rw [World.cell?_alloc_new]; rfl)
          clear HK HX HA
          go_region_held3 (fun W => W.cell? ⟨w.heap.size, 0, none⟩ = some (.string nm) ∧ W.cell? ⟨w.heap.size, 1, none⟩ = some (.int .i64 op) ∧ W.cell? ⟨w.heap.size, 2, none⟩ = some (.int .i64 k) ∧ W.cell? ⟨w.heap.size, 3, none⟩ = some (.int .i64 n) ∧ W.cell? ⟨w.heap.size, 4, none⟩ = some (.float .f64 x) ∧ W.cell? ⟨w.heap.size, 5, none⟩ = some (.string s) ∧ W.cell? ⟨w.heap.size, 6, none⟩ = some (.bool y) ∧ W.cell? ⟨E, 0, none⟩ = some (.string sc) ∧ W.cell? ⟨E, 1, none⟩ = some (.slice (some ⟨G, 0, none⟩) i j))
            (first | exact KP.out _ H5.out | exact KP.out _ H4.out | exact KP.out _ H3A.out | exact KP.out _ H3.out | exact KP.out _ H2.out | exact KP.out _ H1.out | exact KP.out _ D0.out)
            (first
              | (go_at_call 13; (with_reducible refine (M1.out _ D0.out).mono ?_); rintro e w1 ⟨rfl, hb⟩; have H1 : Aside (Below w6.heap.size w6 w1) := D0.out.trans (hb.mono D0.out.size); clear hb)
              | (go_at_call 14; (with_reducible refine (CN.out _).mono ?_); rintro e w2 ⟨rfl, hb⟩; have H2 : Aside (Below w6.heap.size w6 w2) := H1.out.trans (hb.mono H1.out.size); clear hb)
              | (go_at_call 13; (with_reducible refine (M2.out _ H2.out).mono ?_); rintro e w3 ⟨rfl, hb⟩; have H3 : Aside (Below w6.heap.size w6 w3) := H2.out.trans (hb.mono H2.out.size); have H3A : Aside (Below w6.heap.size w6 (w3.alloc (.cells #[.string nm] 9))) := H3.out.alloc H3.out.size _; clear hb)
              | (go_at_call 15; (with_reducible refine (WO.out _ H3.out).mono ?_); rintro e w4 ⟨ro, rl, rcap, rfl, hX4⟩; have H4 : Aside (Below w6.heap.size w6 w4) := H3A.out.trans (hX4.out.1.mono H3A.out.size); have M3 := Lib.hid hX4.out.2; clear hX4)
              | (go_at_call 13; (with_reducible refine (M3.out _ (Below.refl _ _)).mono ?_); rintro e w5 ⟨rfl, hb⟩; have H5 : Aside (Below w6.heap.size w6 w5) := H4.out.trans (hb.mono H4.out.size); clear hb))
          all_goals
            go_wp2_with fail
            go_ret
            exact ⟨rfl, HY.out _ H5.out⟩
end Go.Proofs.YtcbccioibpjkgaaGreatDoor
