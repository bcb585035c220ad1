/- EventNews: attributes stand in the order of their names; of one name the last one counts. -/
import Derived.Test.YtjeippdfgojdnaaGreatDoorReg18
import Derived.Test.YtjeippdfgojdnaaGreatDoorNewsP
import Derived.Test.YtjeippdfgojdnaaGreatDoorFitE
import Derived.Sort.Walk0
import Derived.Test.YtjeippdfgojdnaaGreatDoorLight
import Derived.Test.YtjeippdfgojdnaaGreatDoorOpenZ
import Derived.Deep.DeepCutAuto
import Derived.Deep.RegionWith
namespace Go.Proofs.YtjeippdfgojdnaaGreatDoor
open Go.RowKit Go.Shelf Go.Sort
open Go.Proofs Go.Maps
set_option maxRecDepth 100000

set_option maxHeartbeats 8000000 in
theorem eventNews_c (ao : Option Addr) (cap : Nat) (l : List At) (s : ByteArray) (w : World) (hl : SliceA w ao l) (ho : ∀ a ∈ l, AtAll a) (hlen : l.length ≤ 9223372036854775807) :
    Calls Tryz.prog 12 #[.slice ao l.length cap, .string s] w fun e w' => e = .returned (.bool true) ∧ Below w.heap.size w w' := by
  have HS : Aside (SliceA w ao l) := hl
  have HO : Aside (∀ a ∈ l, AtAll a) := ho
  have HLI : Aside (∀ W, SliceA W ao l → Calls Tryz.prog 33 #[.slice ao l.length cap] W fun e w' => e = .returned (.bool (lightB l)) ∧ Below W.heap.size W w') := fun W h => light_c ao cap l W h hlen
  have HNW : Aside (∀ W, SliceA W ao l → l.length ≤ 39 → Calls Tryz.prog 24 #[.string s, .slice ao l.length cap] W fun e w' => ∃ (G : Nat) (res : List At), e = .returned (.agg #[.string s, .slice (some ⟨G, 0, none⟩) res.length l.length]) ∧
      Aside (W.heap.size ≤ G ∧ G < w'.heap.size ∧ RowAt w' G 0 res ∧ NewOf l res ∧ Below W.heap.size W w')) := fun W h h2 => new_c s ao cap l h2 W h
  have hmm := @run_makeMap Tryz.prog
  obtain ⟨len, hL⟩ : ∃ len, len = l.length := ⟨_, rfl⟩
  have HLen : Aside (len = l.length) := hL
  rw [← hL] at HLI HNW hlen ⊢
  clear hL hl ho
  go_enter Tryz.func12, Tryz.ntmps12
  go_wp2_with fail
  refine (fit_c w).mono ?_
  rintro e w1 ⟨rfl, hb1⟩
  have HB1 : Aside (Below w.heap.size w w1) := hb1
  clear hb1
  go_wp2_with fail
  refine (HLI.out w1 (HS.out.below HB1.out)).mono ?_
  rintro e w2 ⟨rfl, hb2⟩
  have HB2 : Aside (Below w.heap.size w w2) := HB1.out.trans (hb2.mono HB1.out.size)
  clear hb2 HB1 HLI
  cases hli : lightB l
  · go_wp2_with fail
    go_ret
    exact ⟨rfl, HB2.out⟩
  have hl30 : len ≤ 30 := by rw [HLen.out]; exact light_len hli
  by_cases hnm : (100 : Int) < (s.size : Int)
  · go_wp2_with fail
    go_ret
    exact ⟨rfl, HB2.out⟩
  go_wp2_with fail
  refine (HNW.out w2 (HS.out.below HB2.out) (by omega)).mono ?_
  rintro e w3 ⟨G, res, rfl, hA⟩
  obtain ⟨hG1, hG2, hrow, hno, hb3⟩ := hA.out
  have HB3 : Aside (Below w.heap.size w w3) := HB2.out.trans (hb3.mono HB2.out.size)
  have HNo : Aside (NewOf l res) := hno
  have hrl : res.length ≤ len := by rw [HLen.out]; exact hno.len
  obtain ⟨n, hn⟩ : ∃ n, n = res.length := ⟨_, rfl⟩
  have HN : Aside (n = res.length) := hn
  rw [← hn] at hrl ⊢
  have be : Below w3.heap.size w3 ((w3.alloc (.cells #[.string s, .slice (some ⟨G, 0, none⟩) n len] 40)).alloc (.map #[] 0)) := ((Below.refl _ _).alloc (Nat.le_refl _) _).alloc (by simp) _
  have hM : (w3.alloc (.cells #[.string s, .slice (some ⟨G, 0, none⟩) n len] 40)).heap.size = w3.heap.size + 1 := by simp
  have e0 := (World.cell?_alloc_lt (w3.alloc (.cells #[.string s, .slice (some ⟨G, 0, none⟩) n len] 40)) (.map #[] 0) ⟨w3.heap.size, 0, none⟩ (by simp)).trans (World.cell?_alloc_new w3 #[.string s, .slice (some ⟨G, 0, none⟩) n len] 40 0)
  have e1 := (World.cell?_alloc_lt (w3.alloc (.cells #[.string s, .slice (some ⟨G, 0, none⟩) n len] 40)) (.map #[] 0) ⟨w3.heap.size, 1, none⟩ (by simp)).trans (World.cell?_alloc_new w3 #[.string s, .slice (some ⟨G, 0, none⟩) n len] 40 1)
  simp only [List.getElem?_toArray, List.getElem?_cons_zero, List.getElem?_cons_succ] at e0 e1
  have hMd := World.ownsMap_made (H := Value) (w3.alloc (.cells #[.string s, .slice (some ⟨G, 0, none⟩) n len] 40)) Tryz.prog 9 asIs
  rw [hM] at hMd
  have HMd := Lib.hid hMd
  have HR4 : Aside (RowAt ((w3.alloc (.cells #[.string s, .slice (some ⟨G, 0, none⟩) n len] 40)).alloc (.map #[] 0)) G 0 res) := RowAt.below be hG2 hrow
  have HB4 : Aside (Below w.heap.size w ((w3.alloc (.cells #[.string s, .slice (some ⟨G, 0, none⟩) n len] 40)).alloc (.map #[] 0))) := HB3.out.trans (be.mono HB3.out.size)
  have hz4 : w3.heap.size + 1 < ((w3.alloc (.cells #[.string s, .slice (some ⟨G, 0, none⟩) n len] 40)).alloc (.map #[] 0)).heap.size := by simp
  have hwE : w.heap.size ≤ w3.heap.size := HB3.out.size
  clear hA hG1 hrow hno hb3 hn be hMd hM HNW HB2 HB3
  go_wp2_with fail
  generalize ((w3.alloc (.cells #[.string s, .slice (some ⟨G, 0, none⟩) n len] 40)).alloc (.map #[] 0)) = w4 at *
  have HGE : Aside (G < w3.heap.size) := hG2
  clear hG2
  generalize w3.heap.size = E at *
  have hEw : E < w4.heap.size := by omega
  go_loopg [35] len (fun kx s35 wr => ∃ j : Nat, s35 = .int .i64 j ∧ j ≤ len ∧ len - j ≤ kx ∧ Aside (wr.ownsMap Tryz.prog 9 asIs (E + 1) j (mapOf valA (l.take j).reverse)) ∧ Aside (Below (E + 1) w4 wr) ∧ E + 1 < wr.heap.size)
  case atStart => exact ⟨0, rfl, Nat.zero_le _, by omega, HMd.out, Below.refl _ _, hz4⟩
  case round =>
    clear HMd
    obtain ⟨j, rfl, hj, hjx, HMp, HBr, hMz⟩ := hrel
    by_cases hlt : j < len
    · have hjl : j < l.length := by rw [← HLen.out]; exact hlt
      rcases HS.out with h0 | ⟨b, off, hao, hbs, hrow⟩
      · rw [h0] at hjl; cases hjl
      subst hao
      have hrow1 := RowAt.below HBr.out (by omega) (RowAt.below HB4.out hbs hrow) j hjl
      have hok := HO.out _ (get_mem l j hjl)
      have HTk : Aside (l.take (j + 1) = l.take j ++ [l[j]!]) := take_succ l j hjl
      obtain ⟨a, ha⟩ : ∃ a, a = l[j]! := ⟨_, rfl⟩
      rw [← ha] at hrow1 hok HTk
      clear hrow ha hjl
      obtain ⟨nm, k, nn, x, sx, y⟩ := a
      have r0 := hrow1 0 _ rfl; have r1 := hrow1 1 _ rfl; have r2 := hrow1 2 _ rfl; have r3 := hrow1 3 _ rfl; have r4 := hrow1 4 _ rfl; have r5 := hrow1 5 _ rfl
      simp only [Nat.add_zero] at r0
      have hkey : keyOf Tryz.prog 9 (.string nm) = some (keyN nm) := WideMaps.keyOf_string_mk Tryz.underlying9 (by have := hok.2.1; unfold maxLen; exact this)
      have hown := HMp.out.alloc (.cells #[.string nm, .int .i64 k, .int .i64 nn, .float .f64 x, .string sx, .bool y] 38)
      have hjz : (j : Int) < (len : Int) := by omega
      have hj0 : (0 : Int) ≤ (j : Int) := by omega
      have HB5 : Aside (Below (E + 1) w4 (wr.alloc (.cells #[.string nm, .int .i64 k, .int .i64 nn, .float .f64 x, .string sx, .bool y] 38))) := HBr.out.alloc (Nat.le_of_lt hMz) _
      obtain ⟨w5, hrun2, hown2, hgr⟩ := hown.update lawNm Tryz.underlying58 (by unfold maxLen; omega) hkey (val := .agg #[.int .i64 k, .int .i64 nn, .float .f64 x, .string sx, .bool y]) (d := .held (valA ⟨nm, k, nn, x, sx, y⟩)) (ps := []) rfl
      have HMx : Aside (w5.ownsMap Tryz.prog 9 asIs (E + 1) (j + 1) (mapOf valA (l.take (j + 1)).reverse)) := by
        show World.ownsMap _ _ _ _ _ _ _
        rw [HTk.out, List.reverse_append]
        exact hown2
      have HB6 : Aside (Below (E + 1) w4 w5) := HB5.out.grown hgr (by simp; omega) (fun k e => by injection e with e; omega)
      have hM5 : E + 1 < w5.heap.size := hown2.lt
      clear hrow1 hok hown hkey hown2 hgr HTk HMp HBr HB5
      go_wp2_with fail
      go_roundg (len - (j + 1))
      case measure => omega
      case rel => exact ⟨j + 1, by go_num, hlt, Nat.le_refl _, HMx, HB6, hM5⟩
    · obtain rfl : j = len := by omega
      have hown : wr.ownsMap Tryz.prog 9 asIs (E + 1) j (mapOf valA l.reverse) := by
        have := HMp.out
        rw [HLen.out, List.take_length, ← HLen.out] at this
        exact this
      have hsz : Maps.size (mapOf valA l.reverse) = n := by
        rw [HN.out]; exact mapOf_size valA l.reverse res (rise_apart HNo.out.rise) (new_any HNo.out)
      have hln := fun ty => hown.len Tryz.underlying58 ty
      rw [hsz] at hln
      have HOw := Lib.hid hown
      have f0 := (HBr.out.cell (p := ⟨E, 0, none⟩) (by show E < E + 1; omega)).trans e0
      have f1 := (HBr.out.cell (p := ⟨E, 1, none⟩) (by show E < E + 1; omega)).trans e1
      have HR6 : Aside (RowAt wr G 0 res) := RowAt.below HBr.out (by have := HGE.out; omega) HR4.out
      have HBw : Aside (Below w.heap.size w wr) := HB4.out.trans (HBr.out.mono (by omega))
      have hGr : G < wr.heap.size := by have := HGE.out; omega
      clear hown hsz hlt hjx hj HMp HBr HR4 e0 e1 HS hz4 hEw
      go_wp2_with fail
      generalize wr = w6 at *
      clear hln
      go_loopg [60] n (fun kx s60 wr => ∃ i : Nat, s60 = .int .i64 i ∧ i ≤ n ∧ n - i ≤ kx ∧ Aside (Below w6.heap.size w6 wr))
      case atStart => exact ⟨0, rfl, Nat.zero_le _, by omega, Below.refl _ _⟩
      case round =>
        obtain ⟨i, rfl, hi, hix, HB⟩ := hrel
        have hE6 : E < w6.heap.size := by omega
        have g0 := (HB.out.cell (p := ⟨E, 0, none⟩) hE6).trans f0
        have g1 := (HB.out.cell (p := ⟨E, 1, none⟩) hE6).trans f1
        have HRr : Aside (RowAt wr G 0 res) := RowAt.below HB.out hGr HR6.out
        have hsr := HB.out.size
        by_cases hlt : i < n
        · have hil : i < res.length := by rw [← HN.out]; exact hlt
          have hrow1 := HRr.out i hil
          obtain ⟨z, hzl, hzf, haz⟩ := new_from HNo.out (get_mem res i hil)
          have hga := get_at HNo.out (get_mem res i hil)
          have hzx := (HO.out z hzl).1.1
          obtain ⟨a, ha⟩ : ∃ a, a = res[i]! := ⟨_, rfl⟩
          have HAi : Aside (a = res[i]!) := ha
          rw [← ha] at hrow1 haz hga hzf
          clear ha
          have hnmz : a.nm.size ≤ 9223372036854775807 := by rw [haz, canonA_nm]; exact (HO.out z hzl).2.1
          have hax : a.x < 18446744073709551616 := by rw [haz]; exact canon_x z hzx
          have hcz := fun W => canonA_c z W
          rw [← haz] at hcz
          obtain ⟨nm, k, nn, x, sx, y⟩ := a
          obtain ⟨znm, zk, zn, zx, zs, zy⟩ := z
          simp only [] at hnmz hax hcz hga
          have r0 := hrow1 0 _ rfl; have r1 := hrow1 1 _ rfl; have r2 := hrow1 2 _ rfl; have r3 := hrow1 3 _ rfl; have r4 := hrow1 4 _ rfl; have r5 := hrow1 5 _ rfl
          simp only [Nat.add_zero, Nat.zero_add] at r0 r1 r2 r3 r4 r5
          have hkey : keyOf Tryz.prog 9 (.string nm) = some (keyN nm) := WideMaps.keyOf_string_mk Tryz.underlying9 (by unfold maxLen; exact hnmz)
          have hown : (wr.alloc (.cells #[.string nm, .int .i64 k, .int .i64 nn, .float .f64 x, .string sx, .bool y] 38)).ownsMap Tryz.prog 9 asIs (E + 1) j (mapOf valA l.reverse) := (HOw.out.kept (row := none) ⟨HB.out.os, HB.out.tape, HB.out.output, HB.out.size, fun k hk _ => HB.out.block k hk⟩ (by simp)).alloc _
          obtain ⟨v, ps, hrun, hv⟩ := hown.look_ok lawNm Tryz.underlying58 (zeroV _) (zd := .held (val 0 0 0 ⟨#[]⟩ false)) (zp := []) rfl hkey
          rw [mapOf_at, hzf] at hv
          have hhas : Maps.has (mapOf valA l.reverse) (keyN nm) = true := by
            rw [mapOf_has, ← List.isSome_find?, hzf]; rfl
          rw [hhas] at hrun
          obtain rfl : v = .agg #[.int .i64 zk, .int .i64 zn, .float .f64 zx, .string zs, .bool zy] := by simp only [asIs, Option.some.injEq, Prod.mk.injEq, DataW.held.injEq] at hv; exact hv.1
          have hiz : (i : Int) < (n : Int) := by omega
          have hi0 : (0 : Int) ≤ (i : Int) := by omega
          have HGetA : Aside (getA res nm = some ⟨nm, k, nn, x, sx, y⟩) := hga
          have HCz : Aside (∀ W, Calls Tryz.prog 35 #[.agg #[.int .i64 zk, .int .i64 zn, .float .f64 zx, .string zs, .bool zy]] W fun e w' => e = .returned (.agg #[.int .i64 k, .int .i64 nn, .float .f64 x, .string sx, .bool y]) ∧ Below W.heap.size W w') := hcz
          have hvs : (k == k && sameV k nn nn x x sx sx y y) = true := by unfold sameV; simp
          have HSM : Aside (∀ W, Calls Tryz.prog 34 #[.agg #[.int .i64 k, .int .i64 nn, .float .f64 x, .string sx, .bool y], .agg #[.int .i64 k, .int .i64 nn, .float .f64 x, .string sx, .bool y]] W fun e w' => e = .returned (.bool true) ∧ Below W.heap.size W w') := fun W => by
            have := vsame_c k k nn nn x x sx sx y y W hax hax
            rw [hvs] at this
            exact this
          clear hrow1 hga hzf hcz hv hhas hkey hown haz hvs hzx
          go_upto_region 18 with fail
          have yy := World.cell?_alloc_new wr #[.string nm, .int .i64 k, .int .i64 nn, .float .f64 x, .string sx, .bool y] 38
          have y0 := yy 0; have y1 := yy 1; have y2 := yy 2; have y3 := yy 3; have y4 := yy 4; have y5 := yy 5
          simp only [List.getElem?_toArray, List.getElem?_cons_zero, List.getElem?_cons_succ] at y0 y1 y2 y3 y4 y5
          have hA1 : (wr.alloc (.cells #[.string nm, .int .i64 k, .int .i64 nn, .float .f64 x, .string sx, .bool y] 38)).heap.size = wr.heap.size + 1 := by simp
          have hA0 : wr.heap.size < (wr.alloc (.cells #[.string nm, .int .i64 k, .int .i64 nn, .float .f64 x, .string sx, .bool y] 38)).heap.size := by simp
          have hb2 : Below (wr.alloc (.cells #[.string nm, .int .i64 k, .int .i64 nn, .float .f64 x, .string sx, .bool y] 38)).heap.size (wr.alloc (.cells #[.string nm, .int .i64 k, .int .i64 nn, .float .f64 x, .string sx, .bool y] 38)) ((wr.alloc (.cells #[.string nm, .int .i64 k, .int .i64 nn, .float .f64 x, .string sx, .bool y] 38)).alloc (.cells #[.int .i64 zk, .int .i64 zn, .float .f64 zx, .string zs, .bool zy] 24)) := (Below.refl _ _).alloc (Nat.le_refl _) _
          have vv := World.cell?_alloc_new (wr.alloc (.cells #[.string nm, .int .i64 k, .int .i64 nn, .float .f64 x, .string sx, .bool y] 38)) #[.int .i64 zk, .int .i64 zn, .float .f64 zx, .string zs, .bool zy] 24
          have v0 := vv 0; have v1 := vv 1; have v2 := vv 2; have v3 := vv 3; have v4 := vv 4
          rw [hA1] at v0 v1 v2 v3 v4
          simp only [List.getElem?_toArray, List.getElem?_cons_zero, List.getElem?_cons_succ] at v0 v1 v2 v3 v4
          have hb1 : Below wr.heap.size wr ((wr.alloc (.cells #[.string nm, .int .i64 k, .int .i64 nn, .float .f64 x, .string sx, .bool y] 38)).alloc (.cells #[.int .i64 zk, .int .i64 zn, .float .f64 zx, .string zs, .bool zy] 24)) := ((Below.refl _ wr).alloc (Nat.le_refl _) _).trans (hb2.mono (Nat.le_of_lt hA0))
          have a0 := (hb2.cell (p := ⟨wr.heap.size, 0, none⟩) hA0).trans y0; have a1 := (hb2.cell (p := ⟨wr.heap.size, 1, none⟩) hA0).trans y1; have a2 := (hb2.cell (p := ⟨wr.heap.size, 2, none⟩) hA0).trans y2; have a3 := (hb2.cell (p := ⟨wr.heap.size, 3, none⟩) hA0).trans y3; have a4 := (hb2.cell (p := ⟨wr.heap.size, 4, none⟩) hA0).trans y4; have a5 := (hb2.cell (p := ⟨wr.heap.size, 5, none⟩) hA0).trans y5
          have k0 := (hb1.cell (p := ⟨E, 0, none⟩) (by show E < _; omega)).trans g0
          have k1 := (hb1.cell (p := ⟨E, 1, none⟩) (by show E < _; omega)).trans g1
          have HR2 : Aside (RowAt ((wr.alloc (.cells #[.string nm, .int .i64 k, .int .i64 nn, .float .f64 x, .string sx, .bool y] 38)).alloc (.cells #[.int .i64 zk, .int .i64 zn, .float .f64 zx, .string zs, .bool zy] 24)) G 0 res) := RowAt.below hb1 (by omega) HRr.out
          have HB2 : Aside (Below w6.heap.size w6 ((wr.alloc (.cells #[.string nm, .int .i64 k, .int .i64 nn, .float .f64 x, .string sx, .bool y] 38)).alloc (.cells #[.int .i64 zk, .int .i64 zn, .float .f64 zx, .string zs, .bool zy] 24))) := HB.out.trans (hb1.mono hsr)
          have hz2 : wr.heap.size + 1 < ((wr.alloc (.cells #[.string nm, .int .i64 k, .int .i64 nn, .float .f64 x, .string sx, .bool y] 38)).alloc (.cells #[.int .i64 zk, .int .i64 zn, .float .f64 zx, .string zs, .bool zy] 24)).heap.size := by simp
          clear yy vv y0 y1 y2 y3 y4 y5 r0 r1 r2 r3 r4 r5 hA1 hA0 hb1 hb2 hrun g0 g1 HRr HB
          generalize ((wr.alloc (.cells #[.string nm, .int .i64 k, .int .i64 nn, .float .f64 x, .string sx, .bool y] 38)).alloc (.cells #[.int .i64 zk, .int .i64 zn, .float .f64 zx, .string zs, .bool zy] 24)) = w2 at *
          generalize wr.heap.size = A at *
          have hAz : A < w2.heap.size := by omega
          have hEz : E < w2.heap.size := by omega
          have hGz : G < w2.heap.size := by omega
          go_cut [97] (fun s97 wx => s97 = .bool false ∧ Aside (Below w2.heap.size w2 wx))
          case first =>
            have wk : ∀ (K : Act → World → Prop) (Q : Exit → Act → World → Prop) (e : Exit) (a : Act) (w : World), Exit.then K (fun _ _ _ => False) e a w → Exit.then K Q e a w := fun K Q e a w h => by
              cases e <;> first | exact h | exact (h : False).elim
            by_cases hie : i = 0
            · refine Code.wp_mono (wk _ _) (reg18_a E A (A + 1) i k nn zk zn x zx sx zs y zy w2 _ hAz hz2 a1 a2 a3 a4 a5 v0 v1 v2 v3 v4 hie HCz.out HSM.out ?_)
              intro o72 o73 o74 o75 o76 o77 o78 o79 o80 o81 o82 o83 o84 o85 o86 o87 o88 o89 o90 o91 o92 o93 o94 o95 o96 W8 hb8
              clear hie
              go_wp2_with fail
              go_meet
              exact ⟨rfl, hb8⟩
            · obtain ⟨q, hq⟩ : ∃ q, i = q + 1 := ⟨i - 1, by omega⟩
              have hlt2 := rise_at HNo.out.rise q (by rw [← hq]; exact hil)
              rw [← hq, ← HAi.out] at hlt2
              obtain ⟨p, hp⟩ : ∃ p, p = res[q]! := ⟨_, rfl⟩
              have cp := HR2.out q (by omega)
              rw [← hp] at cp hlt2
              have cp0 := cp 0 _ rfl
              simp only [Nat.add_zero, Nat.zero_add] at cp0
              have lk : Op.bytesLess p.nm.toList nm.toList = ltKey keyA p ⟨nm, k, nn, x, sx, y⟩ := by
                rw [bytes_toList, bytes_toList, bytesLess_eq]; rfl
              rw [hlt2] at lk
              refine Code.wp_mono (wk _ _) (reg18_b E A (A + 1) G i k nn zk zn x zx sx zs y zy w2 _ hAz hz2 a1 a2 a3 a4 a5 v0 v1 v2 v3 v4 q n j p.nm nm a0 k1 cp0 lk hEz hGz hq hlt (by omega) HCz.out HSM.out ?_)
              intro o72 o73 o74 o75 o76 o77 o78 o79 o80 o81 o82 o83 o84 o85 o86 o87 o88 o89 o90 o91 o92 o93 o94 o95 o96 W8 hb8
              clear hq hie hlt2 hp cp cp0 lk HAi
              go_wp2_with fail
              go_meet
              exact ⟨rfl, hb8⟩
          case rest =>
            obtain ⟨rfl, hbc⟩ := hcut
            have hb := hbc.out
            have q0 := (hb.cell (p := ⟨A, 0, none⟩) hAz).trans a0; have q1 := (hb.cell (p := ⟨A, 1, none⟩) hAz).trans a1; have q2 := (hb.cell (p := ⟨A, 2, none⟩) hAz).trans a2; have q3 := (hb.cell (p := ⟨A, 3, none⟩) hAz).trans a3; have q4 := (hb.cell (p := ⟨A, 4, none⟩) hAz).trans a4; have q5 := (hb.cell (p := ⟨A, 5, none⟩) hAz).trans a5
            have h0 := (hb.cell (p := ⟨E, 0, none⟩) hEz).trans k0
            have h1 := (hb.cell (p := ⟨E, 1, none⟩) hEz).trans k1
            have HRc : Aside (RowAt wc G 0 res) := RowAt.below hb hGz HR2.out
            have HBc : Aside (Below w6.heap.size w6 wc) := HB2.out.trans (hb.mono HB2.out.size)
            have hAc : A < wc.heap.size := Nat.lt_of_lt_of_le hAz hb.size
            have hGc : G < wc.heap.size := Nat.lt_of_lt_of_le hGz hb.size
            have hgt : Calls Tryz.prog 36 #[.agg #[.string s, .slice (some ⟨G, 0, none⟩) n j], .string nm] wc fun e w' => e = .returned (.tuple #[.agg #[.int .i64 k, .int .i64 nn, .float .f64 x, .string sx, .bool y], .bool true]) ∧ Below wc.heap.size wc w' := by
              have := get_c s nm (some ⟨G, 0, none⟩) j res wc (Or.inr ⟨G, 0, rfl, hGc, HRc.out⟩) (by rw [← HN.out]; omega)
              rw [HGetA.out, ← HN.out] at this
              exact this
            have HGt := Lib.hid hgt
            clear hbc hb a0 a1 a2 a3 a4 a5 v0 v1 v2 v3 v4 k0 k1 HR2 HB2 hz2 hAz hEz hGz hgt HGetA HAi HRc hGc
            go_wp2_with fail
            refine HGt.out.mono ?_
            rintro e w9 ⟨rfl, hb9⟩
            have m1 := (hb9.cell (p := ⟨A, 1, none⟩) hAc).trans q1; have m2 := (hb9.cell (p := ⟨A, 2, none⟩) hAc).trans q2; have m3 := (hb9.cell (p := ⟨A, 3, none⟩) hAc).trans q3; have m4 := (hb9.cell (p := ⟨A, 4, none⟩) hAc).trans q4; have m5 := (hb9.cell (p := ⟨A, 5, none⟩) hAc).trans q5
            have hA9 : A < w9.heap.size := Nat.lt_of_lt_of_le hAc hb9.size
            have HB9 : Aside (Below w6.heap.size w6 w9) := HBc.out.trans (hb9.mono HBc.out.size)
            clear q0 q1 q2 q3 q4 q5 hb9 HBc HGt
            go_wp2_with fail
            refine (HSM.out _).mono ?_
            rintro e wA ⟨rfl, hbA⟩
            have HBA : Aside (Below w6.heap.size w6 wA) := (HB9.out.alloc HB9.out.size _).trans (hbA.mono (by have := HB9.out.size; simp; omega))
            clear hbA m1 m2 m3 m4 m5
            go_wp2_with fail
            go_roundg (n - (i + 1))
            case measure => omega
            case rel => exact ⟨i + 1, by go_num, hlt, Nat.le_refl _, HBA.out⟩
        · obtain rfl : i = n := by omega
          obtain ⟨bb, hbb⟩ : ∃ bb, bb = Maps.has (mapOf valA l.reverse) (keyN ⟨#[126]⟩) := ⟨_, rfl⟩
          obtain ⟨k, nn, x, sx, y, hgv⟩ : ∃ (k nn : Int) (x : Nat) (sx : ByteArray) (y : Bool), getV (getA res ⟨#[126]⟩) = .tuple #[.agg #[.int .i64 k, .int .i64 nn, .float .f64 x, .string sx, .bool y], .bool bb] := by
            rw [hbb, mapOf_has, ← List.isSome_find?, get_new HNo.out, getA_key]
            cases l.reverse.find? (fun a => keyA a == (⟨#[126]⟩ : ByteArray).data.toList) with
            | none => exact ⟨0, 0, 0, ⟨#[]⟩, false, rfl⟩
            | some a => exact ⟨_, _, _, _, _, rfl⟩
          have hlen9 : res.length < 4611686018427387904 := by rw [← HN.out]; omega
          have hgt := get_c s ⟨#[126]⟩ (some ⟨G, 0, none⟩) j res wr (Or.inr ⟨G, 0, rfl, by omega, HRr.out⟩) hlen9
          rw [hgv, ← HN.out] at hgt
          have HGt := Lib.hid hgt
          have HBb : Aside (bb = Maps.has (mapOf valA l.reverse) (keyN ⟨#[126]⟩)) := hbb
          have hEr : E < wr.heap.size := by omega
          have hGw : G < wr.heap.size := by omega
          clear hgt hgv hbb hlt hix hi
          go_wp2_with fail
          refine HGt.out.mono ?_
          rintro e w9 ⟨rfl, hb9⟩
          have hbB : Below wr.heap.size wr (w9.alloc (.cells #[.int .i64 k, .int .i64 nn, .float .f64 x, .string sx, .bool y] 24)) := hb9.alloc hb9.size _
          have hBB : Below w6.heap.size w6 (w9.alloc (.cells #[.int .i64 k, .int .i64 nn, .float .f64 x, .string sx, .bool y] 24)) := HB.out.trans (hbB.mono hsr)
          have hown : (w9.alloc (.cells #[.int .i64 k, .int .i64 nn, .float .f64 x, .string sx, .bool y] 24)).ownsMap Tryz.prog 9 asIs (E + 1) j (mapOf valA l.reverse) := HOw.out.kept (row := none) ⟨hBB.os, hBB.tape, hBB.output, hBB.size, fun k hk _ => hBB.block k hk⟩ (by simp)
          have hkey : keyOf Tryz.prog 9 (.string ⟨#[126]⟩) = some (keyN ⟨#[126]⟩) := WideMaps.keyOf_string_mk Tryz.underlying9 (by decide)
          obtain ⟨v, ps, hrun, hv⟩ := hown.look_ok lawNm Tryz.underlying58 (zeroV _) (zd := .held (val 0 0 0 ⟨#[]⟩ false)) (zp := []) rfl hkey
          rw [mapOf_at] at hv
          rw [← HBb.out] at hrun
          obtain ⟨zk, zn, zx, zs, zy, rfl⟩ : ∃ (zk zn : Int) (zx : Nat) (zs : ByteArray) (zy : Bool), v = .agg #[.int .i64 zk, .int .i64 zn, .float .f64 zx, .string zs, .bool zy] := by
            cases hf : l.reverse.find? (fun a => keyA a == (⟨#[126]⟩ : ByteArray).data.toList) with
            | none =>
              rw [hf] at hv
              simp only [asIs, Option.some.injEq, Prod.mk.injEq, DataW.held.injEq] at hv
              exact ⟨_, _, _, _, _, hv.1⟩
            | some a =>
              rw [hf] at hv
              simp only [asIs, Option.some.injEq, Prod.mk.injEq, DataW.held.injEq] at hv
              exact ⟨_, _, _, _, _, hv.1⟩
          have hbC : Below wr.heap.size wr ((w9.alloc (.cells #[.int .i64 k, .int .i64 nn, .float .f64 x, .string sx, .bool y] 24)).alloc (.cells #[.int .i64 zk, .int .i64 zn, .float .f64 zx, .string zs, .bool zy] 24)) := hbB.alloc hbB.size _
          have h0 := (hbC.cell (p := ⟨E, 0, none⟩) hEr).trans g0
          have h1 := (hbC.cell (p := ⟨E, 1, none⟩) hEr).trans g1
          have HRc : Aside (RowAt ((w9.alloc (.cells #[.int .i64 k, .int .i64 nn, .float .f64 x, .string sx, .bool y] 24)).alloc (.cells #[.int .i64 zk, .int .i64 zn, .float .f64 zx, .string zs, .bool zy] 24)) G 0 res) := RowAt.below hbC hGw HRr.out
          have HBC : Aside (Below w.heap.size w ((w9.alloc (.cells #[.int .i64 k, .int .i64 nn, .float .f64 x, .string sx, .bool y] 24)).alloc (.cells #[.int .i64 zk, .int .i64 zn, .float .f64 zx, .string zs, .bool zy] 24))) := HBw.out.trans ((HB.out.trans (hbC.mono hsr)).mono HBw.out.size)
          have hEc : E < ((w9.alloc (.cells #[.int .i64 k, .int .i64 nn, .float .f64 x, .string sx, .bool y] 24)).alloc (.cells #[.int .i64 zk, .int .i64 zn, .float .f64 zx, .string zs, .bool zy] 24)).heap.size := Nat.lt_of_lt_of_le hEr hbC.size
          have hGc : G < ((w9.alloc (.cells #[.int .i64 k, .int .i64 nn, .float .f64 x, .string sx, .bool y] 24)).alloc (.cells #[.int .i64 zk, .int .i64 zn, .float .f64 zx, .string zs, .bool zy] 24)).heap.size := Nat.lt_of_lt_of_le hGw hbC.size
          clear hb9 hbB hBB hown hkey hv hbC g0 g1 HRr HBb HGt
          go_upto_region 26 with fail
          clear hrun
          generalize ((w9.alloc (.cells #[.int .i64 k, .int .i64 nn, .float .f64 x, .string sx, .bool y] 24)).alloc (.cells #[.int .i64 zk, .int .i64 zn, .float .f64 zx, .string zs, .bool zy] 24)) = wC at *
          have hrx : ∀ a ∈ res, a.x < 18446744073709551616 := fun a ha => by
            obtain ⟨z, hz, rfl⟩ := HNo.out.mem a ha
            exact canon_x z (HO.out z hz).1.1
          have HNw : Aside (∀ W, Below wC.heap.size wC W → Calls Tryz.prog 24 #[.string s, .slice (some ⟨G, 0, none⟩) i j] W fun e w' => ∃ (G2 : Nat), e = .returned (.agg #[.string s, .slice (some ⟨G2, 0, none⟩) i i]) ∧
              Aside (G2 < w'.heap.size ∧ RowAt w' G2 0 res ∧ Below W.heap.size W w')) := fun W hW => by
            have := new_c s (some ⟨G, 0, none⟩) j res (by rw [← HN.out]; omega) W (Or.inr ⟨G, 0, rfl, Nat.lt_of_lt_of_le hGc hW.size, RowAt.below hW hGc HRc.out⟩)
            rw [← HN.out] at this
            refine this.mono ?_
            rintro e w' ⟨G2, res2, rfl, hA⟩
            obtain ⟨_, h2, h3, h4, h5⟩ := hA.out
            obtain rfl := new_again HNo.out h4
            exact ⟨G2, by rw [← HN.out], h2, h3, h5⟩
          have HSm : Aside (∀ W G2, Below wC.heap.size wC W → G2 < W.heap.size → RowAt W G2 0 res → Calls Tryz.prog 37 #[.agg #[.string s, .slice (some ⟨G, 0, none⟩) i j], .agg #[.string s, .slice (some ⟨G2, 0, none⟩) i i]] W fun e w' => e = .returned (.bool true) ∧ Below W.heap.size W w') := fun W G2 hW hg hr => by
            have := sameE_c s s (some ⟨G, 0, none⟩) (some ⟨G2, 0, none⟩) j i res res W (Or.inr ⟨G, 0, rfl, Nat.lt_of_lt_of_le hGc hW.size, RowAt.below hW hGc HRc.out⟩) (Or.inr ⟨G2, 0, rfl, hg, hr⟩) hrx hrx hlen9 hlen9
            rw [sameL_refl, show (s.toList == s.toList && true) = true by simp, ← HN.out] at this
            exact this
          have hbbb : (bb == bb) = true := by simp
          have HD : Aside (Below wC.heap.size wC wC.drew) := ⟨rfl, rfl, rfl, Nat.le_refl _, fun _ _ => rfl⟩
          clear hrx HNo HO HOw HN HRc HR6 HBw HB hlen9
          go_region_with (first
            | (go_at_call 24; (with_reducible refine (HNw.out _ HD.out).mono ?_); rintro e wD ⟨G2, rfl, hA⟩
               have hbD := HD.out.trans (hA.out.2.2.mono HD.out.size)
               have d0 := (hbD.cell (p := ⟨E, 0, none⟩) hEc).trans h0; have d1 := (hbD.cell (p := ⟨E, 1, none⟩) hEc).trans h1
               have HBD := Lib.hid hbD
               clear hbD)
            | (go_at_call 37; (with_reducible refine (HSm.out _ _ HBD.out hA.out.1 hA.out.2.1).mono ?_); rintro e wE ⟨rfl, hbE⟩
               have HBE := Lib.hid (HBC.out.trans ((HBD.out.trans (hbE.mono HBD.out.size)).mono HBC.out.size))
               clear hbE))
          all_goals
            go_wp2_with fail
            go_ret
            exact ⟨rfl, HBE.out⟩
end Go.Proofs.YtjeippdfgojdnaaGreatDoor
