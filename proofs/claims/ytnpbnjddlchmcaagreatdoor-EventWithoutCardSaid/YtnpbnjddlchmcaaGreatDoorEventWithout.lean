/- EventWithout: without some attributes an event has all others. -/
import Derived.Test.YtnpbnjddlchmcaaGreatDoorGetsL
import Derived.Test.YtnpbnjddlchmcaaGreatDoorOpenS
namespace Go.Proofs.YtnpbnjddlchmcaaGreatDoor
open Go.RowKit Go.Shelf Go.Sort
open Go.Proofs
set_option maxRecDepth 100000

/-- Is the name among the first of those? -/
def goneB (ns : List ByteArray) (nm : ByteArray) : Bool := ns.any fun s => s.toList == nm.toList
theorem goneB_eq (ns : List ByteArray) (nm : ByteArray) : goneB ns nm = Lib.containsS ns nm := by
  rw [Bool.eq_iff_iff, Lib.containsS_iff]
  unfold goneB
  simp only [List.any_eq_true, beq_iff_eq]
  constructor
  · rintro ⟨s, hs, he⟩
    have : s = nm := by
      apply ByteArray.ext
      apply Array.toList_inj.1
      rw [← bytes_toList, ← bytes_toList]; exact he
    rw [← this]; exact hs
  · intro h; exact ⟨nm, h, rfl⟩
theorem goneB_snoc (ns : List ByteArray) (s nm : ByteArray) : goneB (ns ++ [s]) nm = (goneB ns nm || (s.toList == nm.toList)) := by
  unfold goneB; simp [List.any_append]

theorem fl_at (res : List At) (ns : List ByteArray) (j : Nat) (h : j < res.length) (hc : Lib.containsS ns res[j]!.nm = false) :
    (withoutL (res.take j) ns).length < (withoutL res ns).length ∧ (withoutL res ns)[(withoutL (res.take j) ns).length]! = res[j]! := by
  have h1 := List.take_append_drop j res
  rw [List.drop_eq_getElem_cons h, ← getElem!_pos res j h] at h1
  have h2 : withoutL res ns = withoutL (res.take j) ns ++ (res[j]! :: withoutL (res.drop (j + 1)) ns) := by
    conv => lhs; rw [← h1]
    unfold withoutL
    rw [List.filter_append, List.filter_cons, hc]; rfl
  generalize withoutL (res.take j) ns = p at h2
  generalize withoutL (res.drop (j + 1)) ns = t at h2
  generalize res[j]! = a at h2
  rw [h2]
  refine ⟨by simp, ?_⟩
  rw [getElem!_pos _ _ (by simp)]
  simp

set_option maxHeartbeats 8000000 in
theorem eventWithout_c (ao bo : Option Addr) (cap cap2 : Nat) (l : List At) (ns : List ByteArray) (w : World) (hl : SliceA w ao l) (ho : ∀ a ∈ l, AtOk a) (hlen : l.length ≤ 9223372036854775807) (hns : StrsA w bo ns) (hnl : ns.length ≤ 9223372036854775807) :
    Calls Tryz.prog 5 #[.slice ao l.length cap, .slice bo ns.length cap2] w fun e w' => e = .returned (.bool true) ∧ Below w.heap.size w w' := by
  have HS : Aside (SliceA w ao l) := hl
  have HN : Aside (StrsA w bo ns) := hns
  have HO : Aside (∀ a ∈ l, AtOk a) := ho
  have HLI : Aside (∀ W, SliceA W ao l → Calls Tryz.prog 8 #[.slice ao l.length cap] W fun e w' => e = .returned (.bool (lightB l)) ∧ Below W.heap.size W w') := fun W h => light_c ao cap l W h hlen
  have HNW : Aside (∀ W, SliceA W ao l → l.length ≤ 39 → Calls Tryz.prog 9 #[.string ⟨#[115]⟩, .slice ao l.length cap] W fun e w' => ∃ (G : Nat) (res : List At), e = .returned (.agg #[.string ⟨#[115]⟩, .slice (some ⟨G, 0, none⟩) res.length l.length]) ∧
      Aside (W.heap.size ≤ G ∧ G < w'.heap.size ∧ RowAt w' G 0 res ∧ NewOf l res ∧ Below W.heap.size W w')) := fun W h h2 => new_c ⟨#[115]⟩ ao cap l h2 W h
  clear hl ho hns
  obtain ⟨len, hL⟩ : ∃ len, len = l.length := ⟨_, rfl⟩
  have HLen : Aside (len = l.length) := hL
  obtain ⟨nlen, hNL⟩ : ∃ len, len = ns.length := ⟨_, rfl⟩
  have HNLen : Aside (nlen = ns.length) := hNL
  rw [← hL] at HLI HNW hlen ⊢
  rw [← hNL] at hnl ⊢
  clear hL hNL
  go_enter Tryz.func5, Tryz.ntmps5
  go_wp2_with fail
  refine (fit_c w).mono ?_
  rintro e w1 ⟨rfl, hb1⟩
  have HB1 : Aside (Below w.heap.size w w1) := hb1
  clear hb1
  go_wp2_with fail
  refine (HLI.out w1 (HS.out.below HB1.out)).mono ?_
  rintro e w2 ⟨rfl, hb2⟩
  have HB2 : Aside (Below w.heap.size w w2) := HB1.out.trans (hb2.mono HB1.out.size)
  clear hb2 HB1 HLI
  cases hli : lightB l
  · go_wp2_with fail
    go_ret
    exact ⟨rfl, HB2.out⟩
  have hl30 : len ≤ 30 := by rw [HLen.out]; exact light_len hli
  by_cases hnm : (20 : Int) < (nlen : Int)
  · go_wp2_with fail
    go_ret
    exact ⟨rfl, HB2.out⟩
  have hn20 : nlen ≤ 20 := by omega
  go_wp2_with fail
  refine (HNW.out w2 (HS.out.below HB2.out) (by omega)).mono ?_
  rintro e w3 ⟨G, res, rfl, hA⟩
  obtain ⟨hG1, hG2, hrow, hno, hb3⟩ := hA.out
  have HB3 : Aside (Below w.heap.size w w3) := HB2.out.trans (hb3.mono HB2.out.size)
  have hrl : res.length ≤ len := by rw [HLen.out]; exact hno.len
  have hrx : ∀ a ∈ res, a.x < 18446744073709551616 := fun a ha => by
    obtain ⟨z, hz, rfl⟩ := hno.mem a ha
    exact canon_x z (HO.out z hz)
  have HR : Aside (RowAt w3 G 0 res) := hrow
  have HRX : Aside _ := hrx
  have hz3 := HB3.out.size
  clear hrow hno hb3 hA hrx HNW hnm hG1 HB2 HS HO HLen hli
  obtain ⟨rl, hrle⟩ : ∃ rl, rl = res.length := ⟨_, rfl⟩
  have HRL : Aside (rl = res.length) := hrle
  have HW1 : Aside (∀ W, SliceA W (some ⟨G, 0, none⟩) res → StrsA W bo ns → Calls Tryz.prog 17 #[.agg #[.string ⟨#[115]⟩, .slice (some ⟨G, 0, none⟩) rl len], .slice bo nlen cap2] W fun e w' => ∃ ro rcap, e = .returned (.agg #[.string ⟨#[115]⟩, .slice ro (withoutL res ns).length rcap]) ∧
      Aside (SliceA w' ro (withoutL res ns) ∧ Below W.heap.size W w')) := fun W h h2 => by
    have := without_c ⟨#[115]⟩ (some ⟨G, 0, none⟩) bo len cap2 res ns W h h2 (by omega) (by rw [← HNLen.out]; exact hnl)
    rw [← HNLen.out, ← hrle] at this
    exact this
  rw [← hrle] at hrl ⊢
  clear hrle
  go_wp2_with fail
  have hb4 : Below w3.heap.size w3 (w3.alloc (.cells #[.string ⟨#[115]⟩, .slice (some ⟨G, 0, none⟩) rl len] 26)) := (Below.refl _ _).alloc (Nat.le_refl _) _
  refine (HW1.out _ (Or.inr ⟨G, 0, rfl, by simp; omega, RowAt.below hb4 hG2 HR.out⟩) ((HN.out.below HB3.out rfl).below hb4 rfl)).mono ?_
  rintro e w4 ⟨ro, rcap, rfl, hA4⟩
  obtain ⟨hs4, hb5⟩ := hA4.out
  have e0 := (hb5.cell (p := ⟨w3.heap.size, 0, none⟩) (by simp)).trans (World.cell?_alloc_new w3 #[.string ⟨#[115]⟩, .slice (some ⟨G, 0, none⟩) rl len] 26 0)
  have e1 := (hb5.cell (p := ⟨w3.heap.size, 1, none⟩) (by simp)).trans (World.cell?_alloc_new w3 #[.string ⟨#[115]⟩, .slice (some ⟨G, 0, none⟩) rl len] 26 1)
  simp only [List.getElem?_toArray, List.getElem?_cons_zero, List.getElem?_cons_succ] at e0 e1
  have hz4 : w3.heap.size < w4.heap.size := by have := hb5.size; simp at this; omega
  have HR4 : Aside (RowAt w4 G 0 res) := RowAt.below (hb4.trans (hb5.mono (by simp))) hG2 HR.out
  have HB4 : Aside (Below w.heap.size w w4) := (HB3.out.alloc hz3 _).trans (hb5.mono (by simp; omega))
  have HS4 : Aside (SliceA w4 ro (withoutL res ns)) := hs4
  have hG4 : G < w4.heap.size := by omega
  clear hb4 hb5 HR HB3 HW1 hs4 hA4
  generalize hEE : w3.heap.size = E at *
  have HE : Aside (w.heap.size ≤ E) := hz3
  have hGE : Aside (G < E) := hG2
  clear hz3 hG2 hEE
  go_wp2_with fail
  obtain ⟨fn, hfn⟩ : ∃ fn, fn = (withoutL res ns).length := ⟨_, rfl⟩
  have HFN : Aside (fn = (withoutL res ns).length) := hfn
  rw [← hfn]
  have HB5 : Aside (Below w.heap.size w (w4.alloc (.cells #[.string ⟨#[115]⟩, .slice ro fn rcap] 26))) := HB4.out.alloc HB4.out.size _
  have hb45 : Below w4.heap.size w4 (w4.alloc (.cells #[.string ⟨#[115]⟩, .slice ro fn rcap] 26)) := (Below.refl _ _).alloc (Nat.le_refl _) _
  have HS5 : Aside (SliceA (w4.alloc (.cells #[.string ⟨#[115]⟩, .slice ro fn rcap] 26)) ro (withoutL res ns)) := HS4.out.below hb45
  have HR5 : Aside (RowAt (w4.alloc (.cells #[.string ⟨#[115]⟩, .slice ro fn rcap] 26)) G 0 res) := RowAt.below hb45 hG4 HR4.out
  have HN5 : Aside (StrsA (w4.alloc (.cells #[.string ⟨#[115]⟩, .slice ro fn rcap] 26)) bo ns) := HN.out.below HB5.out rfl
  have k0 := (hb45.cell (p := ⟨E, 0, none⟩) hz4).trans e0
  have k1 := (hb45.cell (p := ⟨E, 1, none⟩) hz4).trans e1
  have vv := World.cell?_alloc_new w4 #[.string ⟨#[115]⟩, .slice ro fn rcap] 26
  have g0 := vv 0; have g1 := vv 1
  simp only [List.getElem?_toArray, List.getElem?_cons_zero, List.getElem?_cons_succ] at g0 g1
  have hzE : E < (w4.alloc (.cells #[.string ⟨#[115]⟩, .slice ro fn rcap] 26)).heap.size := by simp; omega
  have hzF : w4.heap.size < (w4.alloc (.cells #[.string ⟨#[115]⟩, .slice ro fn rcap] 26)).heap.size := by simp
  have hzG : G < (w4.alloc (.cells #[.string ⟨#[115]⟩, .slice ro fn rcap] 26)).heap.size := by simp; omega
  clear hb45 vv HR4 HS4 HB4 HN e0 e1 hfn hz4
  generalize w4.alloc (.cells #[.string ⟨#[115]⟩, .slice ro fn rcap] 26) = w5 at *
  generalize w4.heap.size = F at *
  have HZ : Aside (E < w5.heap.size ∧ F < w5.heap.size ∧ G < w5.heap.size) := ⟨hzE, hzF, hzG⟩
  have HK : Aside (w5.cell? ⟨E, 0, none⟩ = some (.string ⟨#[115]⟩) ∧ w5.cell? ⟨E, 1, none⟩ = some (.slice (some ⟨G, 0, none⟩) rl len)) := ⟨k0, k1⟩
  have HFK : Aside (w5.cell? ⟨F, 0, none⟩ = some (.string ⟨#[115]⟩) ∧ w5.cell? ⟨F, 1, none⟩ = some (.slice ro fn rcap)) := ⟨g0, g1⟩
  clear hzE hzF hzG k0 k1 g0 g1 hG4 HE hGE
  have rlz : (rl : Int) ≤ 30 := by omega
  go_loopg [7, 31] rl (fun kx s7 s31 wr => ∃ j : Nat, s31 = .int .i64 j ∧ j ≤ rl ∧ rl - j ≤ kx ∧ s7 = .int .i64 ((withoutL (res.take j) ns).length : Int) ∧ Aside (Below w5.heap.size w5 wr))
  case atStart => exact ⟨0, rfl, Nat.zero_le _, by omega, rfl, Below.refl _ _⟩
  case round =>
    obtain ⟨j, rfl, hj, hjx, rfl, HW⟩ := hrel
    have hwz := HW.out.size
    by_cases hlt : j < rl
    · have hjr : j < res.length := by rw [← HRL.out]; exact hlt
      have hrow1 := RowAt.below HW.out HZ.out.2.2 HR5.out j hjr
      have hfa := fl_at res ns j hjr
      have hsn := withoutL_snoc (res.take j) ns res[j]!
      rw [← take_succ res j hjr] at hsn
      have hok := HRX.out _ (get_mem res j hjr)
      obtain ⟨a, ha⟩ : ∃ a, a = res[j]! := ⟨_, rfl⟩
      rw [← ha] at hrow1 hfa hsn hok
      have HFA : Aside _ := hfa
      have HSN : Aside _ := hsn
      clear ha hfa hsn hjr
      obtain ⟨nm, k, n, x, s, y⟩ := a
      have c0 := hrow1 0 _ rfl; have c1 := hrow1 1 _ rfl; have c2 := hrow1 2 _ rfl; have c3 := hrow1 3 _ rfl; have c4 := hrow1 4 _ rfl; have c5 := hrow1 5 _ rfl
      simp only [Nat.add_zero, Nat.zero_add] at c0 c1 c2 c3 c4 c5
      clear hrow1
      have hjz : (j : Int) < (rl : Int) := by omega
      have hjz0 : (0 : Int) ≤ (j : Int) := by omega
      obtain ⟨nn, hnn⟩ : ∃ nn, nn = (withoutL (res.take j) ns).length := ⟨_, rfl⟩
      have HNN : Aside (nn = (withoutL (res.take j) ns).length) := hnn
      rw [← hnn] at HFA ⊢
      clear hnn
      go_wp2_with fail
      have hbA : Below wr.heap.size wr (wr.alloc (.cells #[.string nm, .int .i64 k, .int .i64 n, .float .f64 x, .string s, .bool y] 33)) := (Below.refl _ _).alloc (Nat.le_refl _) _
      have HW6 : Aside (Below w5.heap.size w5 (wr.alloc (.cells #[.string nm, .int .i64 k, .int .i64 n, .float .f64 x, .string s, .bool y] 33))) := HW.out.alloc hwz _
      have yy := World.cell?_alloc_new wr #[.string nm, .int .i64 k, .int .i64 n, .float .f64 x, .string s, .bool y] 33
      have y0 := yy 0; have y1 := yy 1; have y2 := yy 2; have y3 := yy 3; have y4 := yy 4; have y5 := yy 5
      simp only [List.getElem?_toArray, List.getElem?_cons_zero, List.getElem?_cons_succ] at y0 y1 y2 y3 y4 y5
      have hzA : wr.heap.size < (wr.alloc (.cells #[.string nm, .int .i64 k, .int .i64 n, .float .f64 x, .string s, .bool y] 33)).heap.size := by simp
      clear hbA yy c0 c1 c2 c3 c4 c5 HW
      generalize wr.alloc (.cells #[.string nm, .int .i64 k, .int .i64 n, .float .f64 x, .string s, .bool y] 33) = w6 at *
      generalize wr.heap.size = A at *
      have HN6 : Aside (StrsA w6 bo ns) := HN5.out.below HW6.out rfl
      have nz : (nlen : Int) ≤ 20 := by omega
      go_loop [10, 37] (fun v10 v37 => ∃ q : Nat, q ≤ nlen ∧ v37 = .int .i64 q ∧ v10 = .bool (goneB (ns.take q) nm)) (fun _ v37 => nlen - (RowKit.intOf v37).toNat)
      case atStart => exact ⟨0, Nat.zero_le _, rfl, rfl⟩
      case round =>
        obtain ⟨q, hq, rfl, rfl⟩ := hrel
        by_cases hlq : q < nlen
        · rcases HN6.out with h0 | ⟨bb, boff, hbo, hbb, hbc⟩
          · rw [h0] at HNLen; exact absurd HNLen.out (by simp; omega)
          subst hbo
          have hql : q < ns.length := by rw [← HNLen.out]; exact hlq
          have hcs := hbc q hql
          have hgs : goneB (ns.take (q + 1)) nm = (goneB (ns.take q) nm || ((ns.getD q ByteArray.empty).toList == nm.toList)) := by
            rw [List.take_add_one, List.getElem?_eq_getElem hql, ← goneB_snoc]
            simp [List.getD, List.getElem?_eq_getElem hql]
          have HGS : Aside _ := hgs
          clear hgs hbc hql
          generalize ns.getD q ByteArray.empty = sn at *
          have hqz : (q : Int) < (nlen : Int) := by omega
          have hqz0 : (0 : Int) ≤ (q : Int) := by omega
          cases hg : goneB (ns.take q) nm
          · have hg2 := HGS.out
            rw [hg, Bool.false_or] at hg2
            have HG2 : Aside _ := hg2
            clear hg2 HGS
            go_wp2_with fail
            go_round
            case rel => exact ⟨q + 1, hlq, by go_num, by rw [HG2.out]⟩
            case measure => simp only [RowKit.intOf]; omega
          · have hg2 := HGS.out
            rw [hg, Bool.true_or] at hg2
            have HG2 : Aside _ := hg2
            clear hg2 HGS
            go_wp2_with fail
            go_round
            case rel => exact ⟨q + 1, hlq, by go_num, by rw [HG2.out]⟩
            case measure => simp only [RowKit.intOf]; omega
        · obtain rfl : q = nlen := by omega
          have hgc : goneB (ns.take q) nm = Lib.containsS ns nm := by rw [HNLen.out, List.take_length, goneB_eq]
          rw [hgc]
          have hsn := HSN.out
          cases hc : Lib.containsS ns nm
          · rw [hc] at hsn
            simp only [Bool.false_eq_true, if_false] at hsn
            obtain ⟨hnf, hfe⟩ := HFA.out hc
            rw [← HFN.out] at hnf
            rcases HS5.out with h0 | ⟨fb, foff, hro, hfb, hfrow⟩
            · rw [h0] at HFN; exact absurd HFN.out (by simp; omega)
            subst hro
            have hrow2 := RowAt.below HW6.out hfb hfrow nn (by rw [← HFN.out]; exact hnf)
            rw [hfe] at hrow2
            have d0 := hrow2 0 _ rfl; have d1 := hrow2 1 _ rfl; have d2 := hrow2 2 _ rfl; have d3 := hrow2 3 _ rfl; have d4 := hrow2 4 _ rfl; have d5 := hrow2 5 _ rfl
            simp only [Nat.add_zero] at d0
            have f0 := (HW6.out.cell (p := ⟨F, 0, none⟩) HZ.out.2.1).trans HFK.out.1
            have f1 := (HW6.out.cell (p := ⟨F, 1, none⟩) HZ.out.2.1).trans HFK.out.2
            have hnz : (nn : Int) < (fn : Int) := by omega
            have hdn : decide (fn ≤ nn) = false := by simp; omega
            have hdn2 : ¬ fn ≤ nn := by omega
            have hne2 : (nm.toList == nm.toList) = true := by simp
            have hnz0 : (0 : Int) ≤ (nn : Int) := by omega
            have hlen : ((withoutL (res.take (j + 1)) ns).length : Int) = (nn : Int) + 1 := by rw [hsn, List.length_append, ← HNN.out]; simp
            have HLN : Aside _ := hlen
            have hsm := fun W => vsame_c k k n n x x s s y y W hok hok
            rw [show (k == k && sameV k n n x x s s y y) = true by unfold sameV; simp] at hsm
            have HSM : Aside _ := hsm
            have hn30 : (fn : Int) ≤ 30 := by
              have h1 : (withoutL res ns).length ≤ res.length := List.length_filter_le _ _
              rw [← HFN.out, ← HRL.out] at h1; omega
            clear hsn hgc hfe hrow2 hfrow hlen hsm hok
            go_wp2_with fail
            go_region_with (go_at_call 10; refine (HSM.out _).mono ?_; rintro e w7 ⟨rfl, hb7⟩; have HW7 : Aside (Below w5.heap.size w5 w7) := HW6.out.trans (Below.mono ⟨hb7.os, hb7.tape, hb7.output, hb7.size, hb7.block⟩ HW6.out.size))
            all_goals
              go_wp2_with fail
              go_roundg (rl - (j + 1))
              case measure => omega
              case rel => exact ⟨j + 1, by go_num, hlt, Nat.le_refl _, by rw [HLN.out], HW7⟩
          · rw [hc] at hsn
            simp only [if_true] at hsn
            have HSN2 : Aside _ := hsn
            clear hsn hgc
            go_wp2_with fail
            go_roundg (rl - (j + 1))
            case measure => omega
            case rel => exact ⟨j + 1, by go_num, hlt, Nat.le_refl _, by rw [HSN2.out, HNN.out], HW6⟩
    · obtain rfl : j = rl := by omega
      have hwf : (withoutL (res.take j) ns) = withoutL res ns := by rw [HRL.out, List.take_length]
      rw [hwf, ← HFN.out]
      have e0 := (HW.out.cell (p := ⟨E, 0, none⟩) HZ.out.1).trans HK.out.1
      have e1 := (HW.out.cell (p := ⟨E, 1, none⟩) HZ.out.1).trans HK.out.2
      have f0 := (HW.out.cell (p := ⟨F, 0, none⟩) HZ.out.2.1).trans HFK.out.1
      have f1 := (HW.out.cell (p := ⟨F, 1, none⟩) HZ.out.2.1).trans HFK.out.2
      have HN5b : Aside (∀ W, Below w5.heap.size w5 W → StrsA W bo ns) := fun W hb => HN5.out.below hb rfl
      have HWE : Aside (∀ W, Below w5.heap.size w5 W → Calls Tryz.prog 17 #[.agg #[.string ⟨#[115]⟩, .slice (some ⟨G, 0, none⟩) j len], .slice none 0 0] W fun e w' => ∃ ro rcap, e = .returned (.agg #[.string ⟨#[115]⟩, .slice ro j rcap]) ∧ Aside (SliceA w' ro res ∧ Below W.heap.size W w')) := fun W hb => by
        have hsl : SliceA W (some ⟨G, 0, none⟩) res := Or.inr ⟨G, 0, rfl, Nat.lt_of_lt_of_le HZ.out.2.2 hb.size, RowAt.below hb HZ.out.2.2 HR5.out⟩
        have := without_c ⟨#[115]⟩ (some ⟨G, 0, none⟩) none len 0 res [] W hsl (Or.inl rfl) (by rw [← HRL.out]; omega) (by simp)
        rw [withoutL_nil, ← HRL.out] at this
        exact this
      have HWF : Aside (∀ W, Below w5.heap.size w5 W → Calls Tryz.prog 17 #[.agg #[.string ⟨#[115]⟩, .slice ro fn rcap], .slice bo nlen cap2] W fun e w' => ∃ ro2 rcap2, e = .returned (.agg #[.string ⟨#[115]⟩, .slice ro2 fn rcap2]) ∧ Aside (SliceA w' ro2 (withoutL res ns) ∧ Below W.heap.size W w')) := fun W hb => by
        have := without_c ⟨#[115]⟩ ro bo rcap cap2 (withoutL res ns) ns W (HS5.out.below hb) (HN5b.out W hb) (by
          have h1 : (withoutL res ns).length ≤ res.length := List.length_filter_le _ _
          rw [← HRL.out] at h1; omega) (by rw [← HNLen.out]; exact hnl)
        rw [withoutL_twice, ← HFN.out, ← HNLen.out] at this
        exact this
      have HSE : Aside (∀ W ro2 rcap2, Below w5.heap.size w5 W → SliceA W ro2 res → Calls Tryz.prog 13 #[.agg #[.string ⟨#[115]⟩, .slice ro2 j rcap2], .agg #[.string ⟨#[115]⟩, .slice (some ⟨G, 0, none⟩) j len]] W fun e w' => e = .returned (.bool true) ∧ Below W.heap.size W w') := fun W ro2 rcap2 hb hs => by
        have hsl : SliceA W (some ⟨G, 0, none⟩) res := Or.inr ⟨G, 0, rfl, Nat.lt_of_lt_of_le HZ.out.2.2 hb.size, RowAt.below hb HZ.out.2.2 HR5.out⟩
        have := sameE_c ⟨#[115]⟩ ⟨#[115]⟩ ro2 (some ⟨G, 0, none⟩) rcap2 len res res W hs hsl HRX.out HRX.out (by rw [← HRL.out]; omega) (by rw [← HRL.out]; omega)
        have hee : ((⟨#[115]⟩ : ByteArray).toList == (⟨#[115]⟩ : ByteArray).toList && true) = true := by simp
        rw [sameL_refl, ← HRL.out, hee] at this
        exact this
      have HSF : Aside (∀ W ro2 rcap2, Below w5.heap.size w5 W → SliceA W ro2 (withoutL res ns) → Calls Tryz.prog 13 #[.agg #[.string ⟨#[115]⟩, .slice ro2 fn rcap2], .agg #[.string ⟨#[115]⟩, .slice ro fn rcap]] W fun e w' => e = .returned (.bool true) ∧ Below W.heap.size W w') := fun W ro2 rcap2 hb hs => by
        have h1 : (withoutL res ns).length ≤ res.length := List.length_filter_le _ _
        rw [← HRL.out] at h1
        have hrx : ∀ a ∈ withoutL res ns, a.x < 18446744073709551616 := fun a ha => HRX.out a ((List.mem_filter.1 ha).1)
        have := sameE_c ⟨#[115]⟩ ⟨#[115]⟩ ro2 ro rcap2 rcap (withoutL res ns) (withoutL res ns) W hs (HS5.out.below hb) hrx hrx (by omega) (by omega)
        have hee : ((⟨#[115]⟩ : ByteArray).toList == (⟨#[115]⟩ : ByteArray).toList && true) = true := by simp
        rw [sameL_refl, ← HFN.out, hee] at this
        exact this
      have hzE := Nat.lt_of_lt_of_le HZ.out.1 hwz
      have hzF := Nat.lt_of_lt_of_le HZ.out.2.1 hwz
      have hfz : (fn : Int) ≤ 30 := by
        have h1 : (withoutL res ns).length ≤ res.length := List.length_filter_le _ _
        rw [← HFN.out, ← HRL.out] at h1; omega
      clear hwf HR5 HRX HN5b HN5 HS5 HRL HFN HNLen hj hjx hlt
      go_wp2_with fail
      go_region_with (first
        | (go_at_call_of 17 (Value.slice none 0 0); refine (HWE.out _ HW.out.drew).mono ?_; rintro e w7 ⟨ro7, rcap7, rfl, hA7⟩; have hb7 : Below wr.heap.size wr w7 := ⟨hA7.out.2.os, hA7.out.2.tape, hA7.out.2.output, hA7.out.2.size, hA7.out.2.block⟩; have HS7 : Aside _ := hA7.out.1; have p0 := (hb7.cell (p := ⟨E, 0, none⟩) hzE).trans e0; have p1 := (hb7.cell (p := ⟨E, 1, none⟩) hzE).trans e1; have q0 := (hb7.cell (p := ⟨F, 0, none⟩) hzF).trans f0; have q1 := (hb7.cell (p := ⟨F, 1, none⟩) hzF).trans f1; have hzF7 : F < w7.heap.size := Nat.lt_of_lt_of_le hzF hb7.size; have HW7 : Aside (Below w5.heap.size w5 w7) := HW.out.trans (hb7.mono HW.out.size); clear hA7 hb7)
        | (go_at_call_of 13 (Value.slice (some ⟨G, 0, none⟩) j len); refine (HSE.out _ _ _ HW7.out HS7.out).mono ?_; rintro e w8 ⟨rfl, hb8⟩; have r0 := (hb8.cell (p := ⟨F, 0, none⟩) hzF7).trans q0; have r1 := (hb8.cell (p := ⟨F, 1, none⟩) hzF7).trans q1; have hzF8 : F < w8.heap.size := Nat.lt_of_lt_of_le hzF7 hb8.size; have HW8 : Aside (Below w5.heap.size w5 w8) := HW7.out.trans (hb8.mono HW7.out.size); clear hb8)
        | (go_at_call_of 17 (Value.slice bo nlen cap2); refine (HWF.out _ HW8.out).mono ?_; rintro e w9 ⟨ro9, rcap9, rfl, hA9⟩; have hb9 := hA9.out.2; have HS9 : Aside _ := hA9.out.1; have t0 := (hb9.cell (p := ⟨F, 0, none⟩) hzF8).trans r0; have t1 := (hb9.cell (p := ⟨F, 1, none⟩) hzF8).trans r1; have HW9 : Aside (Below w5.heap.size w5 w9) := HW8.out.trans (hb9.mono HW8.out.size); clear hA9 hb9)
        | (go_at_call_of 13 (Value.slice ro fn rcap); refine (HSF.out _ _ _ HW9.out HS9.out).mono ?_; rintro e w10 ⟨rfl, hb10⟩; have HW10 : Aside (Below w.heap.size w w10) := HB5.out.trans ((HW9.out.trans (hb10.mono HW9.out.size)).mono HB5.out.size))
        )
      all_goals (go_wp2_with fail; go_ret; exact ⟨rfl, HW10.out⟩)
end Go.Proofs.YtnpbnjddlchmcaaGreatDoor
