/- EventScopes: events in unlike scopes are unlike; the order in which attributes are told plays no part, if each name is told once. -/
import Derived.Test.YtecfbbddhnkilaaGreatDoorMapN
import Derived.Test.YtecfbbddhnkilaaGreatDoorLight
import Derived.Test.YtecfbbddhnkilaaGreatDoorGetsL
import Derived.Test.YtecfbbddhnkilaaGreatDoorOpenZ
import Derived.Deep.DeepCutAuto
import Derived.Deep.RegionWith
namespace Go.Proofs.YtecfbbddhnkilaaGreatDoor
open Go.RowKit Go.Shelf Go.Sort
open Go.Proofs Go.Maps
set_option maxRecDepth 100000
attribute [local go_sem ↓] append_pre

/-! ### Plainly -/
def Names (l : List At) : Prop := l.Pairwise (fun a b => keyA a ≠ keyA b)
theorem find_perm (c : List UInt8) {l m : List At} (hp : l.Perm m) (hd : Names l) : l.find? (fun a => keyA a == c) = m.find? (fun a => keyA a == c) := by
  induction hp with
  | nil => rfl
  | cons x _ ih =>
    rw [List.find?_cons, List.find?_cons]
    split
    · rfl
    · exact ih (List.pairwise_cons.1 hd).2
  | swap x y l =>
    have hne := (List.pairwise_cons.1 hd).1 x List.mem_cons_self
    rw [List.find?_cons, List.find?_cons, List.find?_cons, List.find?_cons]
    cases hx : (keyA x == c) <;> cases hy : (keyA y == c)
    · rfl
    · rfl
    · rfl
    · exact absurd ((by simpa using hy : keyA y = c).trans (by simpa using hx : keyA x = c).symm) hne
  | trans h1 _ ih1 ih2 => exact (ih1 hd).trans (ih2 (h1.pairwise hd (fun h e => h e.symm)))
theorem rot_new {l m res res2 : List At} (hp : l.Perm m) (hd : Names l) (h1 : NewOf l res) (h2 : NewOf m res2) : res = res2 :=
  rise_unique res res2 h1.rise h2.rise fun c => by
    rw [h1.find c, h2.find c, find_perm c ((List.reverse_perm l).trans (hp.trans (List.reverse_perm m).symm)) ?_]
    exact (List.reverse_perm l).symm.pairwise hd (fun h e => h e.symm)
theorem rot_perm (l : List At) (k : Nat) : l.Perm (l.drop k ++ l.take k) := by
  have := (List.perm_append_comm (l₁ := l.take k) (l₂ := l.drop k))
  rwa [List.take_append_drop] at this
theorem names_snoc {l : List At} {j : Nat} (hj : j < l.length) (h : Names (l.take j)) (hn : (l.take j).reverse.find? (fun a => keyA a == keyA l[j]!) = none) : Names (l.take (j + 1)) := by
  rw [take_succ l j hj]
  refine List.pairwise_append.2 ⟨h, by simp, fun a ha b hb => ?_⟩
  obtain rfl : b = l[j]! := by simpa using hb
  have := List.find?_eq_none.1 hn a (List.mem_reverse.2 ha)
  simpa using this
theorem and64k (n : Int) : ∃ m : Nat, m < 65536 ∧ bits .and .i64 n 65535 = m := by
  have h : ∃ m : Nat, m < 65536 ∧ bits .and .i64 n 65535 = IntKind.i64.wrap m := by
    refine ⟨((BitVec.ofInt 64 n) &&& (BitVec.ofInt 64 65535)).toNat, ?_, rfl⟩
    rw [BitVec.toNat_and, show (BitVec.ofInt 64 65535).toNat = 2 ^ 16 - 1 from by decide, Nat.and_two_pow_sub_one_eq_mod]
    omega
  obtain ⟨m, hm, h⟩ := h
  exact ⟨m, hm, by rw [h, IntKind.wrap_i64]; omega⟩

/-! ### The program -/
theorem lawN : Keyed Tryz.prog 9 := string_keyed Tryz.underlying9
theorem zeroB (w : World) : (zeroValue 4).run Tryz.prog w = .ok (.bool false) w := by kernel_rfl
theorem SliceA.drop {w : World} {ao : Option Addr} {l : List At} (h : SliceA w ao l) (k : Nat) (cap : Nat) (hc : l.length ≤ cap) : SliceA w (if cap = k then ao else Option.map (fun x => x.add (k * 6)) ao) (l.drop k) := by
  by_cases hl : l.length ≤ k
  · exact Or.inl (List.drop_of_length_le hl)
  rw [if_neg (by omega)]
  rcases h with h | ⟨b, off, rfl, h2, h3⟩
  · rw [h] at hl; simp at hl
  · refine Or.inr ⟨b, off + k * 6, by simp [Addr.add_lit], h2, fun i hi c v hv => ?_⟩
    rw [List.length_drop] at hi
    have := h3 (k + i) (by omega) c v (by
      have e : (l.drop k)[i]! = l[k + i]! := by
        rw [List.getElem!_eq_getElem?_getD, List.getElem!_eq_getElem?_getD, List.getElem?_drop]
      rw [← e]; exact hv)
    rw [show off + k * 6 + i * 6 + c = off + (k + i) * 6 + c by omega]
    exact this
theorem SliceA.take {w : World} {ao : Option Addr} {l : List At} (h : SliceA w ao l) (k : Nat) : SliceA w ao (l.take k) := by
  rcases h with h | ⟨b, off, rfl, h2, h3⟩
  · exact Or.inl (by rw [h]; simp)
  · refine Or.inr ⟨b, off, rfl, h2, fun i hi c v hv => ?_⟩
    rw [List.length_take] at hi
    refine h3 i (by omega) c v ?_
    have e : (l.take k)[i]! = l[i]! := by
      rw [List.getElem!_eq_getElem?_getD, List.getElem!_eq_getElem?_getD, List.getElem?_take_of_lt (by omega)]
    rw [← e]; exact hv

set_option maxHeartbeats 8000000 in
theorem eventScopes_c (ao : Option Addr) (cap : Nat) (l : List At) (s t : ByteArray) (turn : Int) (w : World) (hl : SliceA w ao l) (ho : ∀ a ∈ l, AtAll a) (hlen : l.length ≤ 9223372036854775807) (hlc : l.length ≤ cap) :
    Calls Tryz.prog 9 #[.slice ao l.length cap, .agg #[.string s, .string t], .int .i64 turn] w fun e w' => e = .returned (.bool true) ∧ Below w.heap.size w w' := by
  have HS : Aside (SliceA w ao l) := hl
  have HO : Aside (∀ a ∈ l, AtAll a) := ho
  have HLI : Aside (∀ W, SliceA W ao l → Calls Tryz.prog 19 #[.slice ao l.length cap] W fun e w' => e = .returned (.bool (lightB l)) ∧ Below W.heap.size W w') := fun W h => light_c ao cap l W h hlen
  have hmm := @run_makeMap Tryz.prog
  obtain ⟨len, hL⟩ : ∃ len, len = l.length := ⟨_, rfl⟩
  have HLen : Aside (len = l.length) := hL
  rw [← hL] at HLI hlen hlc ⊢
  clear hL hl ho
  go_enter Tryz.func9, Tryz.ntmps9
  go_wp2_with fail
  refine (fit_c _).mono ?_
  rintro e w1 ⟨rfl, hb1⟩
  have c0 := (hb1.cell (p := ⟨w.heap.size, 0, none⟩) (by simp)).trans (World.cell?_alloc_new w #[.string s, .string t] 49 0)
  have c1 := (hb1.cell (p := ⟨w.heap.size, 1, none⟩) (by simp)).trans (World.cell?_alloc_new w #[.string s, .string t] 49 1)
  simp only [List.getElem?_toArray, List.getElem?_cons_zero, List.getElem?_cons_succ] at c0 c1
  have HB1 : Aside (Below w.heap.size w w1) := ((Below.refl _ _).alloc (Nat.le_refl _) _).trans (hb1.mono (by simp))
  clear hb1
  go_upto_region 3 with fail
  go_region
  go_wp2_with fail
  have HBd : Aside (Below w.heap.size w w1.drew) := ⟨HB1.out.os, HB1.out.tape, HB1.out.output, HB1.out.size, HB1.out.block⟩
  clear c0 c1 HB1
  generalize w1.drew = w1d at *
  refine (HLI.out w1d (HS.out.below HBd.out)).mono ?_
  rintro e w2 ⟨rfl, hb2⟩
  have HB2 : Aside (Below w.heap.size w w2) := HBd.out.trans (hb2.mono HBd.out.size)
  clear hb2 HBd HLI
  cases hli : lightB l
  · go_wp2_with fail
    go_ret
    exact ⟨rfl, HB2.out⟩
  have hl30 : len ≤ 30 := by rw [HLen.out]; exact light_len hli
  by_cases h200 : (200 : Int) < wrap64 ((s.size : Int) + (t.size : Int))
  · go_wp2_with fail
    go_ret
    exact ⟨rfl, HB2.out⟩
  have hMd := World.ownsMap_made (H := Value) w2 Tryz.prog 9 asIs
  have hbm : Below w2.heap.size w2 (w2.alloc (.map #[] 0)) := (Below.refl _ _).alloc (Nat.le_refl _) _
  have hmz : w2.heap.size < (w2.alloc (.map #[] 0)).heap.size := by simp
  have HB3 : Aside (Below w.heap.size w (w2.alloc (.map #[] 0))) := HB2.out.trans (hbm.mono HB2.out.size)
  have hwM : w.heap.size ≤ w2.heap.size := HB2.out.size
  have HMd := Lib.hid hMd
  clear hMd hbm HB2
  go_wp2_with fail
  generalize (w2.alloc (.map #[] 0)) = w3 at *
  generalize w2.heap.size = M at *
  go_loopg [34] len (fun kx s34 wr => ∃ j : Nat, s34 = .int .i64 j ∧ j ≤ len ∧ len - j ≤ kx ∧ Aside (Names (l.take j)) ∧ Aside (wr.ownsMap Tryz.prog 9 asIs M j (mapOf (fun _ => .bool true) (l.take j).reverse)) ∧ Aside (Below w.heap.size w wr) ∧ M < wr.heap.size)
  case atStart => exact ⟨0, rfl, Nat.zero_le _, by omega, List.Pairwise.nil, HMd.out, HB3.out, hmz⟩
  case round =>
    clear HMd HB3 hmz
    obtain ⟨j, rfl, hj, hjx, HNm, HMp, HB, hMz⟩ := hrel
    by_cases hlt : j < len
    · have hjl : j < l.length := by rw [← HLen.out]; exact hlt
      rcases HS.out.below HB.out with h0 | ⟨b, off, hao, hbs, hrow⟩
      · rw [h0] at hjl; cases hjl
      subst hao
      have hrow1 := hrow j hjl
      have hok := HO.out _ (get_mem l j hjl)
      have HSn : Aside ((l.take j).reverse.find? (fun a => keyA a == keyA l[j]!) = none → Names (l.take (j + 1))) := names_snoc hjl HNm.out
      have HTk : Aside (l.take (j + 1) = l.take j ++ [l[j]!]) := take_succ l j hjl
      obtain ⟨a, ha⟩ : ∃ a, a = l[j]! := ⟨_, rfl⟩
      rw [← ha] at hrow1 hok HSn HTk
      clear hrow ha hjl
      obtain ⟨nm, k, nn, x, sx, y⟩ := a
      have r0 := hrow1 0 _ rfl; have r1 := hrow1 1 _ rfl; have r2 := hrow1 2 _ rfl; have r3 := hrow1 3 _ rfl; have r4 := hrow1 4 _ rfl; have r5 := hrow1 5 _ rfl
      simp only [Nat.add_zero] at r0
      have hkey : keyOf Tryz.prog 9 (.string nm) = some (keyN nm) := WideMaps.keyOf_string_mk Tryz.underlying9 (by have := hok.2.1; unfold maxLen; exact this)
      have hown := HMp.out.alloc (.cells #[.string nm, .int .i64 k, .int .i64 nn, .float .f64 x, .string sx, .bool y] 40)
      obtain ⟨v, ps, hrun, hv⟩ := hown.lookup lawN Tryz.underlying50 (zeroB _) (zd := .held (.bool false)) (zp := []) rfl hkey
      rw [mapOf_at] at hv
      have hjz : (j : Int) < (len : Int) := by omega
      have hj0 : (0 : Int) ≤ (j : Int) := by omega
      have HB4 : Aside (Below w.heap.size w (wr.alloc (.cells #[.string nm, .int .i64 k, .int .i64 nn, .float .f64 x, .string sx, .bool y] 40))) := HB.out.alloc HB.out.size _
      clear hrow1 hok
      cases hf : (l.take j).reverse.find? (fun a => keyA a == nm.data.toList) with
      | some a0 =>
        rw [hf] at hv
        obtain rfl : v = .bool true := by simp only [asIs, Option.some.injEq, Prod.mk.injEq, DataW.held.injEq] at hv; exact hv.1
        clear hv hown hf hkey
        go_wp2_with fail
        go_ret
        exact ⟨rfl, HB4.out⟩
      | none =>
        rw [hf] at hv
        obtain rfl : v = .bool false := by simp only [asIs, Option.some.injEq, Prod.mk.injEq, DataW.held.injEq] at hv; exact hv.1
        have HNx : Aside (Names (l.take (j + 1))) := HSn.out hf
        obtain ⟨w5, hrun2, hown2, hgr⟩ := hown.update lawN Tryz.underlying50 (by unfold maxLen; omega) hkey (val := .bool true) (d := .held (.bool true)) (ps := []) rfl
        have HMx : Aside (w5.ownsMap Tryz.prog 9 asIs M (j + 1) (mapOf (fun _ => .bool true) (l.take (j + 1)).reverse)) := by
          show World.ownsMap _ _ _ _ _ _ _
          rw [HTk.out, List.reverse_append]
          exact hown2
        have HB5 : Aside (Below w.heap.size w w5) := HB4.out.grown hgr (Nat.le_of_lt (Nat.lt_of_le_of_lt hwM (by simp; omega))) (fun k e => by injection e with e; omega)
        have hM5 : M < w5.heap.size := hown2.lt
        clear hv hown hf hkey hown2 hgr HSn HTk HNm HMp
        go_wp2_with fail
        go_roundg (len - (j + 1))
        case measure => omega
        case rel => exact ⟨j + 1, by go_num, hlt, Nat.le_refl _, HNx, HMx, HB5, hM5⟩
    · obtain rfl : j = len := by omega
      have HNa : Aside (Names l) := by
        have := HNm.out
        rw [HLen.out, List.take_length] at this
        exact this
      clear hlt hjx hj HNm HMp
      go_upto_if 48 with fail
      go_cut [12] (fun s12 wx => ∃ k : Nat, s12 = .int .i64 k ∧ k ≤ j ∧ (k < j ∨ j = 0) ∧ wx = wr)
      case first =>
        by_cases h0 : (0 : Int) < (j : Int)
        · obtain ⟨m, hm, hbit⟩ := and64k turn
          have hrem : Int.tmod (m : Int) (j : Int) = ((m % j : Nat) : Int) := by rw [Int.ofNat_tmod]
          have hne : ¬ (j : Int) = 0 := by omega
          have hml : m % j < j := Nat.mod_lt _ (by omega)
          go_wp2_with fail
          go_meet
          exact ⟨m % j, by first | exact congrArg _ hrem | rfl | go_num, Nat.le_of_lt hml, Or.inl hml, rfl⟩
        · go_wp2_with fail
          go_meet
          exact ⟨0, rfl, Nat.zero_le _, Or.inr (by omega), rfl⟩
      case rest =>
        obtain ⟨k, rfl, hk, hk2, hwc⟩ := hcut
        rw [hwc]
        clear hwc wc
        go_upto_region 17 with fail
        have hkz : (k : Int) ≤ (j : Int) := by omega
        have hkz0 : (0 : Int) ≤ (k : Int) := by omega
        have hjc : (j : Int) ≤ (cap : Int) := by omega
        have hkc : (k : Int) ≤ (cap : Int) := by omega
        have hSd : SliceA wr.drew ao l := HS.out.below ⟨HB.out.os, HB.out.tape, HB.out.output, HB.out.size, HB.out.block⟩
        have hjk : (l.drop k).length = j - k := by rw [List.length_drop, HLen.out]
        have hkl : (l.take k).length = k := by rw [List.length_take, ← HLen.out]; omega
        obtain ⟨ao1, cp1, w6, hrun1, hA6⟩ := append_attrs wr.heap.size wr.drew none (if cap = k then ao else Option.map (fun x => x.add (k * 6)) ao) 0 (cap - k) [] (l.drop k) (World.ownsRow_nil _ _ _ _) (hSd.drop k cap (by rw [← HLen.out]; exact hlc)) (Nat.le_refl _) (by simp) (by rw [hjk]; omega)
        rw [List.nil_append, hjk] at hrun1
        rw [List.nil_append] at hA6
        simp only [List.length_nil] at hrun1
        obtain ⟨ho6, hb6⟩ := hA6.out
        have hb6w : Below wr.heap.size wr w6 := ⟨hb6.os, hb6.tape, hb6.output, hb6.size, hb6.block⟩
        have hS6 : SliceA w6 ao l := HS.out.below (HB.out.trans (hb6w.mono HB.out.size))
        obtain ⟨ao2, cp2, w7, hrun2, hA7⟩ := append_attrs wr.heap.size w6 ao1 ao cp1 cap (l.drop k) (l.take k) ho6 (hS6.take k) hb6w.size (by rw [hjk]; omega) (by rw [hkl]; omega)
        have hml : (l.drop k ++ l.take k).length = j := by rw [List.length_append, hjk, hkl]; omega
        rw [hjk, hkl, hml] at hrun2
        obtain ⟨ho7, hb7⟩ := hA7.out
        obtain ⟨ao3, cp3, hv3, hS7⟩ := own_slice ho7
        rw [hml] at hv3
        injection hv3 with e1 e2 e3
        subst e1 e3
        have HM7 : Aside (SliceA w7 ao2 (l.drop k ++ l.take k)) := hS7
        have HB7 : Aside (Below w.heap.size w w7) := HB.out.trans ((hb6w.trans hb7).mono HB.out.size)
        obtain ⟨m, hm⟩ : ∃ m, m = l.drop k ++ l.take k := ⟨_, rfl⟩
        have HPm : Aside (l.Perm m) := by show _ ; rw [hm]; exact rot_perm l k
        have HOm : Aside (∀ a ∈ m, AtAll a) := fun a ha => HO.out a (HPm.out.mem_iff.2 ha)
        rw [← hm] at hml HM7
        have HMl : Aside (m.length = j) := hml
        clear hSd hjk hkl hA6 ho6 hb6 hb6w hS6 hA7 ho7 hb7 hS7 e2 hm hml HB
        have HNW : Aside (∀ W, SliceA W ao l → Calls Tryz.prog 20 #[.string s, .slice ao j cap] W fun e w' => ∃ (G : Nat) (res : List At), e = .returned (.agg #[.string s, .slice (some ⟨G, 0, none⟩) res.length j]) ∧
            Aside (W.heap.size ≤ G ∧ G < w'.heap.size ∧ RowAt w' G 0 res ∧ NewOf l res ∧ Below W.heap.size W w')) := fun W h => by
          have := new_c s ao cap l (by rw [← HLen.out]; omega) W h
          rw [← HLen.out] at this
          exact this
        have HNV : Aside (∀ W, SliceA W ao2 m → Calls Tryz.prog 20 #[.string t, .slice ao2 j cp2] W fun e w' => ∃ (G : Nat) (res : List At), e = .returned (.agg #[.string t, .slice (some ⟨G, 0, none⟩) res.length j]) ∧
            Aside (W.heap.size ≤ G ∧ G < w'.heap.size ∧ RowAt w' G 0 res ∧ NewOf m res ∧ Below W.heap.size W w')) := fun W h => by
          have := new_c t ao2 cp2 m (by rw [HMl.out]; omega) W h
          rw [HMl.out] at this
          exact this
        go_cut [13] (fun s13 wx => s13 = .slice ao2 j cp2 ∧ wx = w7)
        case first =>
          clear HNW HNV HM7 HB7 HPm HOm HMl
          by_cases hck : cap = k
          · have hck2 : (cap = k) = True := eq_true hck
            rw [if_pos hck] at hrun1
            clear hck
            go_region
            go_wp2_with fail
            go_meet
            exact ⟨rfl, rfl⟩
          · have hck2 : (cap = k) = False := eq_false hck
            rw [if_neg hck] at hrun1
            clear hck
            go_region
            go_wp2_with fail
            go_meet
            exact ⟨rfl, rfl⟩
        case rest =>
        obtain ⟨rfl, hwc⟩ := hcut
        rw [hwc]
        clear hwc wc hrun1 hrun2
        go_wp2_with fail
        refine (HNW.out w7 (HS.out.below HB7.out)).mono ?_
        rintro e w8 ⟨G, res, rfl, hA8⟩
        obtain ⟨hG1, hG2, hrow, hno, hb8⟩ := hA8.out
        have HR8 : Aside (RowAt w8 G 0 res) := hrow
        have HN8 : Aside (NewOf l res) := hno
        have HB8 : Aside (Below w.heap.size w w8) := HB7.out.trans (hb8.mono HB7.out.size)
        have HM8 : Aside (SliceA w8 ao2 m) := HM7.out.under hb8
        obtain ⟨rl, hrle⟩ : ∃ rl, rl = res.length := ⟨_, rfl⟩
        have HRL : Aside (rl = res.length) := hrle
        rw [← hrle]
        clear hA8 hG1 hrow hno hb8 hrle HM7 HB7
        go_wp2_with fail
        refine (HNV.out w8 HM8.out).mono ?_
        rintro e w9 ⟨G2, res2, rfl, hA9⟩
        obtain ⟨hg1, hg2, hrow, hno, hb9⟩ := hA9.out
        obtain rfl : res = res2 := rot_new HPm.out HNa.out HN8.out hno
        have HR9 : Aside (RowAt w9 G 0 res) := RowAt.below hb9 hG2 HR8.out
        have HR9' : Aside (RowAt w9 G2 0 res) := hrow
        have HB9 : Aside (Below w.heap.size w w9) := HB8.out.trans (hb9.mono HB8.out.size)
        have hG9 : G < w9.heap.size := Nat.lt_of_lt_of_le hG2 hb9.size
        have hrx : ∀ a ∈ res, a.x < 18446744073709551616 := fun a ha => by
          obtain ⟨z, hz, rfl⟩ := HN8.out.mem a ha
          exact canon_x z (HO.out z hz).1.1
        have hrlz : res.length ≤ 30 := Nat.le_trans HN8.out.len (by rw [← HLen.out]; omega)
        have hsm := sameE_c s t (some ⟨G, 0, none⟩) (some ⟨G2, 0, none⟩) j j res res w9 (Or.inr ⟨G, 0, rfl, hG9, HR9.out⟩) (Or.inr ⟨G2, 0, rfl, hg2, hrow⟩) hrx hrx (by omega) (by omega)
        rw [sameL_refl, Bool.and_true, ← HRL.out] at hsm
        rw [← HRL.out]
        have HSm := Lib.hid hsm
        clear hA9 hg1 hrow hno hb9 hrx hrlz hsm HR8 HN8 HB8 HM8
        go_wp2_with fail
        refine HSm.out.mono ?_
        rintro e wA ⟨rfl, hbA⟩
        have HBA : Aside (Below w.heap.size w wA) := HB9.out.trans (hbA.mono HB9.out.size)
        have hss : ((s.toList == t.toList) == (s.toList == t.toList)) = true := by simp
        clear hbA
        go_wp2_with fail
        go_ret
        exact ⟨rfl, HBA.out⟩
end Go.Proofs.YtecfbbddhnkilaaGreatDoor
