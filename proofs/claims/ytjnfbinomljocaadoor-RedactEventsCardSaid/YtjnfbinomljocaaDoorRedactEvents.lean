/- RedactEvents: a principal sees of an event what is not hidden from it there. -/
import Derived.Test.YtjnfbinomljocaaDoorHdF
import Derived.Test.YtjnfbinomljocaaDoorSameE
import Derived.Test.YtjnfbinomljocaaDoorGetsL
import Derived.Deep.DeepCutAuto
import Derived.Deep.RegionWith
namespace Go.Proofs.YtjnfbinomljocaaDoor
open Go.RowKit Go.Shelf
open Go.Proofs
set_option maxRecDepth 100000
attribute [local irreducible] wpQuiet

set_option maxHeartbeats 16000000 in
theorem redactEvents_c (ao : Option Addr) (cap : Nat) (rs : List Ru) (a b : Int) (s : ByteArray) (co : Option Addr) (ccap : Nat) (zs : List At) (w : World) (hm : MaxI w) (hR : RulesB w.heap.size w ao rs) (hI : ∀ q ∈ rs, RuIs MB w q) (hb : rs.length * 104 ≤ MB) (hz : SliceA w co zs) (hzo : ∀ x ∈ zs, AtW MB x) (hzb : zs.length * 64 ≤ MB) (_hsz : s.size ≤ MB) :
    Calls Tryd.prog 3 #[.slice ao rs.length cap, .agg #[.int .i64 a, .int .i64 b], evt s co zs.length ccap] w fun e w' => e = .returned (.bool true) ∧ Below w.heap.size w w' := by
  have hlr : rs.length ≤ 4611686018427387904 := by unfold MB at hb; omega
  have hlz : zs.length ≤ 4611686018427387904 := by unfold MB at hzb; omega
  have HFT : Aside (∀ W, Below w.heap.size w W → Calls Tryd.prog 6 #[] W fun e w' => e = .returned (.bool true) ∧ Below W.heap.size W w') := fun W hW => fit11_c W (hm.below hW)
  have HLT : Aside (∀ W, Below w.heap.size w W → Calls Tryd.prog 7 #[.slice ao rs.length cap] W fun e w' => e = .returned (.bool (lightR rs)) ∧ Below W.heap.size W w') := fun W hW => light10_c ao cap rs W (hR.on hW) hlr (fun r hr => (ruIs_ok2 (hI r hr)).2)
  have HRS : Aside (lightR rs = true → ∀ W, Below w.heap.size w W → Calls Tryd.prog 8 #[.slice ao rs.length cap] W fun e w' => ∃ bo bcap, e = .returned (.slice bo (rs.filter rrightB).length bcap) ∧ Aside (RowsN W.heap.size w' bo (rs.filter rrightB) ∧ Below W.heap.size W w')) := fun h W hW => by
    obtain ⟨h1, h2⟩ := lightR_all h hI
    exact rights_c ao cap rs W (hR.on hW) (by omega) (fun r hr => ⟨(ruIs_ok2 (hI r hr)).2, Nat.le_trans (h2 r hr).1 (by decide)⟩) (hm.below hW)
  have HEV : Aside (s.size ≤ 60 → zs.length ≤ 20 → ∀ W, Below w.heap.size w W → Calls Tryd.prog 9 #[.string s, .slice co zs.length ccap] W fun e w' => ∃ bo bcap es, e = .returned (.agg #[.string (scopeE s), .slice bo es.length bcap]) ∧ Aside (EvtIs W w' bo zs es) ∧ Aside (∀ g off, bo = some ⟨g, off, none⟩ → W.heap.size ≤ g)) := fun h h2 W hW =>
    event_cN s co ccap zs W (by omega) (hz.under hW) (by omega) (hm.below hW)
  have HOK : Aside (∀ (W1 W2 : World) (eo : Option Addr) (es : List At), EvtIs W1 W2 eo zs es → (∀ x ∈ es, AtOk x ∧ x.s.size ≤ 9223372036854775807) ∧ es.length ≤ 8 ∧ Below W1.heap.size W1 W2 ∧ SliceA W2 eo es) := fun W1 W2 eo es h => by
    have h1 := evt_ok h hzo
    have h2 := evt_len h
    obtain ⟨_, _, _, h3, h4⟩ := h
    exact ⟨fun x hx => ⟨(h1 x hx).1, Nat.le_trans (h1 x hx).2 (by decide)⟩, h2, h4, h3⟩
  obtain ⟨L, hL⟩ : ∃ L, L = rs.filter rrightB := ⟨_, rfl⟩
  have hLm : ∀ r ∈ L, r ∈ rs ∧ rrightB r = true := fun r hr => by rw [hL] at hr; exact List.mem_filter.1 hr
  have hLn : lightR rs = true → L.length ≤ 80 := fun h => by
    rw [hL]; exact Nat.le_trans (List.length_filter_le _ _) (lightR_all h hI).1
  have HRL : Aside (∀ W, Below w.heap.size w W → ∀ r ∈ L, CondsB W.heap.size W r.co r.cs) := fun W h r hr => (hR.2 r (hLm r hr).1).on h
  have HXL : ∀ r ∈ L, ∀ tn who, ofR r 3 tn who = true → r.sc.size ≤ 300 := fun r hr tn who h => Nat.le_trans (hide_scope (hLm r hr).2 h) (by decide)
  have HRE : Aside (lightR rs = true → ∀ (bo : Option Addr) (bcap : Nat) (eo : Option Addr) (ecap : Nat) (es : List At) (W : World) (tn : Int) (who : ByteArray), es.length ≤ 8 → SliceA W eo es → RulesB W.heap.size W bo L → Calls Tryd.prog 10 #[.slice bo L.length bcap, .int .i64 tn, .string who, evt (scopeE s) eo es.length ecap] W fun e w' => ∃ ro rcap, e = .returned (.agg #[.string (scopeE s), .slice ro (withoutL es (hidN L tn who (scopeE s))).length rcap]) ∧ Aside (SliceA w' ro (withoutL es (hidN L tn who (scopeE s))) ∧ Below W.heap.size W w')) := fun h bo bcap eo ecap es W tn who h8 hS hR => revent_c bo bcap L tn who (scopeE s) eo ecap es W hR (by have := hLn h; omega) (fun r hr => HXL r hr tn who) hS (by omega)
  have HSE : Aside (lightR rs = true → ∀ (bo : Option Addr) (bcap : Nat) (eo : Option Addr) (ecap : Nat) (es : List At) (W : World) (tn : Int) (who : ByteArray), es.length ≤ 8 → SliceA W eo es → RulesB W.heap.size W bo L → Calls Tryd.prog 12 #[.slice bo L.length bcap, .int .i64 tn, .string who, evt (scopeE s) eo es.length ecap] W fun e w' => ∃ ro rcap, e = .returned (.agg #[.string (scopeE s), .slice ro (withoutL es (hidN L tn who (scopeE s))).length rcap]) ∧ Aside (SliceA w' ro (withoutL es (hidN L tn who (scopeE s))) ∧ Below W.heap.size W w')) := fun h bo bcap eo ecap es W tn who h8 hS hR => by
    have := seen_c bo bcap L tn who (scopeE s) eo ecap es W hR (by have := hLn h; omega) hS (by omega)
    rw [seen_without] at this
    exact this
  have HRT : Aside (∀ (W1 W2 : World) (eo : Option Addr) (es : List At), EvtIs W1 W2 eo zs es → ∀ ns, rightE (withoutL es ns) = true) := fun W1 W2 eo es h ns => right_without h ns
  rw [← hL] at HRS
  generalize lightR rs = lt at *
  generalize scopeE s = sE at *
  obtain ⟨N, hN⟩ : ∃ N, N = L.length := ⟨_, rfl⟩
  rw [← hN] at HRS HRE HSE
  obtain ⟨n, hn⟩ : ∃ n, n = zs.length := ⟨_, rfl⟩
  rw [← hn] at HEV ⊢
  generalize rs.length = nr at *
  have z2 : w.heap.size + 2 ≤ ((w.alloc (.cells #[.int .i64 a, .int .i64 b] 23)).alloc (.cells #[.string s, .slice co n ccap] 26)).heap.size := by simp
  have HB0 : Aside (Below w.heap.size w ((w.alloc (.cells #[.int .i64 a, .int .i64 b] 23)).alloc (.cells #[.string s, .slice co n ccap] 26))) := ((Below.refl _ _).alloc (Nat.le_refl _) _).alloc (by simp) _
  have HKP : Aside (∀ W, Below (w.heap.size + 2) ((w.alloc (.cells #[.int .i64 a, .int .i64 b] 23)).alloc (.cells #[.string s, .slice co n ccap] 26)) W → (W.cell? ⟨w.heap.size, 0, none⟩ = some (.int .i64 a) ∧ W.cell? ⟨w.heap.size, 1, none⟩ = some (.int .i64 b)) ∧ W.cell? ⟨w.heap.size + 1, 0, none⟩ = some (.string s) ∧ W.cell? ⟨w.heap.size + 1, 1, none⟩ = some (.slice co n ccap) ∧ W.frozen? ⟨w.heap.size + 1, 0, none⟩ = false ∧ W.frozen? ⟨w.heap.size + 1, 1, none⟩ = false) := fun W hW => by
    obtain ⟨va, vb⟩ := two_lay hW
    have ho : W.heap[w.heap.size + 1]? = some (.cells #[.string s, .slice co n ccap] 26) := by
      refine (hW.block (w.heap.size + 1) (by omega)).trans ?_
      rw [show w.heap.size + 1 = (w.alloc (.cells #[.int .i64 a, .int .i64 b] 23)).heap.size by simp]
      exact Array.getElem?_push_size
    exact ⟨⟨va 0 _ rfl, va 1 _ rfl⟩, vb 0 _ rfl, vb 1 _ rfl, by simp [World.frozen?, ho], by simp [World.frozen?, ho]⟩
  clear hm hR hI hb hz hzo hzb hlr hlz hLm hLn hL hN hn HXL
  go_enter Tryd.func3, Tryd.ntmps3
  go_wp2_with fail
  generalize hW0 : ((w.alloc (.cells #[.int .i64 a, .int .i64 b] 23)).alloc (.cells #[.string s, .slice co n ccap] 26)) = w0 at *
  refine (HFT.out _ HB0.out).mono ?_
  rintro e w1 ⟨rfl, hb⟩
  have HA1 : Aside (Below (w.heap.size + 2) w0 w1) := hb.mono z2
  clear hb HFT
  go_wp2_with fail
  refine (HLT.out _ (HB0.out.trans (HA1.out.mono (by omega)))).mono ?_
  rintro e w2 ⟨rfl, hb⟩
  have HA2 : Aside (Below (w.heap.size + 2) w0 w2) := HA1.out.trans (hb.mono (Nat.le_trans z2 HA1.out.size))
  clear hb HLT HA1
  cases lt
  · go_wp2_with fail
    go_ret
    exact ⟨rfl, HB0.out.trans (HA2.out.mono (by omega))⟩
  obtain ⟨⟨y0, y1⟩, x0, x1, _, _⟩ := HKP.out _ HA2.out
  by_cases h60 : 60 < s.size
  · have h60z : (60 : Int) < (s.size : Int) := by omega
    have hd : decide ((60 : Int) < (s.size : Int)) = true := decide_eq_true h60z
    go_wp2_with fail
    go_ret
    exact ⟨rfl, HB0.out.trans (HA2.out.mono (by omega))⟩
  have h60z : ¬ (60 : Int) < (s.size : Int) := by omega
  have hd : decide ((60 : Int) < (s.size : Int)) = false := decide_eq_false h60z
  by_cases h20 : 20 < n
  · have h20z : (20 : Int) < (n : Int) := by omega
    have hd2 : decide ((20 : Int) < (n : Int)) = true := decide_eq_true h20z
    go_wp2_with fail
    go_ret
    exact ⟨rfl, HB0.out.trans (HA2.out.mono (by omega))⟩
  have h20z : ¬ (20 : Int) < (n : Int) := by omega
  have hd2 : decide ((20 : Int) < (n : Int)) = false := decide_eq_false h20z
  have HRS' := Lib.hid (HRS.out (by first | trivial | rfl))
  have HRE' := Lib.hid (HRE.out (by first | trivial | rfl))
  have HSE' := Lib.hid (HSE.out (by first | trivial | rfl))
  have HEV' := Lib.hid (HEV.out (by omega) (by omega))
  clear HRS HRE HSE HEV
  go_wp2_with fail
  clear h60z hd h20z hd2 h60 h20 y0 y1 x0 x1
  refine (HRS'.out _ (HB0.out.trans (HA2.out.mono (by omega)))).mono ?_
  rintro e w5 ⟨bo, bcap, rfl, HN5⟩
  have HA5 : Aside (Below (w.heap.size + 2) w0 w5) := HA2.out.trans (HN5.out.2.mono (Nat.le_trans z2 HA2.out.size))
  have HR5 : Aside (RowsN (w.heap.size + 2) w5 bo L) := HN5.out.1.down (Nat.le_trans z2 HA2.out.size)
  clear HRS' HN5 HA2
  obtain ⟨⟨y0, y1⟩, x0, x1, _, _⟩ := HKP.out _ HA5.out
  go_wp2_with fail
  clear y0 y1 x0 x1
  refine (HEV'.out _ (HB0.out.trans (HA5.out.mono (by omega)))).mono ?_
  rintro e w6 ⟨eo, ecap, es, rfl, HE6, HG6⟩
  obtain ⟨hok, hl8, hb6, hs6⟩ := HOK.out _ _ _ _ HE6.out
  have HOK6 := Lib.hid hok
  have HL8 := Lib.hid hl8
  have HRT6 := Lib.hid (HRT.out _ _ _ _ HE6.out)
  have HA6 : Aside (Below (w.heap.size + 2) w0 w6) := HA5.out.trans (hb6.mono (Nat.le_trans z2 HA5.out.size))
  obtain ⟨⟨y0, y1⟩, x0, x1, f0, f1⟩ := HKP.out _ HA6.out
  have HP7 : Aside (PubW w w5 a b L bo sE eo es ecap ((w6.setCell ⟨w.heap.size + 1, 0, none⟩ (.string sE)).setCell ⟨w.heap.size + 1, 1, none⟩ (.slice eo es.length ecap))) := by
    have hbw : Below w.heap.size w ((w6.setCell ⟨w.heap.size + 1, 0, none⟩ (.string sE)).setCell ⟨w.heap.size + 1, 1, none⟩ (.slice eo es.length ecap)) := ((HB0.out.trans (HA6.out.mono (by omega))).setCell (p := ⟨w.heap.size + 1, 0, none⟩) (by show w.heap.size ≤ w.heap.size + 1; omega) _).setCell (p := ⟨w.heap.size + 1, 1, none⟩) (by show w.heap.size ≤ w.heap.size + 1; omega) _
    have hg : ∀ g off, eo = some ⟨g, off, none⟩ → w.heap.size + 1 < g := fun g off e => by
      have := HG6.out g off e
      have := Nat.le_trans z2 HA5.out.size
      omega
    have ne0 : ∀ i j, (⟨w.heap.size + 1, i, none⟩ : Addr) ≠ ⟨w.heap.size, j, none⟩ := fun i j e => by injection e; omega
    have ne1 : (⟨w.heap.size + 1, 1, none⟩ : Addr) ≠ ⟨w.heap.size + 1, 0, none⟩ := fun e => by injection e; omega
    have oth : ∀ (W : World) (p q : Addr) (v : Value), p ≠ q → (W.setCell p v).cell? q = W.cell? q := fun W p q v h => by rw [World.cell?_setCell_other _ _ _ _ (by first | exact h | exact h.symm)]
    refine ⟨?_, ?_, ?_, ?_, hbw, ?_, ?_, by have := Nat.le_trans z2 HA6.out.size; simpa using this⟩
    · rw [oth _ _ _ _ (ne0 1 0), oth _ _ _ _ (ne0 0 0)]; exact y0
    · rw [oth _ _ _ _ (ne0 1 1), oth _ _ _ _ (ne0 0 1)]; exact y1
    · rw [oth _ _ _ _ ne1]; exact World.cell?_setCell_same _ _ _ x0
    · exact World.cell?_setCell_same _ _ _ ((oth _ _ _ _ ne1.symm).trans x1)
    · exact (((HR5.out.on hb6).set (by omega) _).set (by omega) _).rules (HRL.out _ hbw)
    · exact sliceA_set (sliceA_set hs6 hg _) hg _
  clear hok hl8 hb6 hs6 HE6 HG6 HOK HRL HR5 HA5 HA6 HRT
  go_upto_region 7 with fail
  clear y0 y1 x0 x1 f0 f1 HKP
  generalize ((w6.setCell ⟨w.heap.size + 1, 0, none⟩ (.string sE)).setCell ⟨w.heap.size + 1, 1, none⟩ (.slice eo es.length ecap)) = w7 at *
  have y0 := HP7.out.i0
  have y1 := HP7.out.i1
  go_cut [7, 8] (fun s7 s8 wx => s7 = .int .i64 (bits .and .i64 a 1) ∧ s8 = .string (who4 b) ∧ Aside (Below w7.heap.size w7 wx))
  case first =>
    have HD : Aside (∀ o : Obj, Below w7.heap.size w7 (w7.alloc o) ∧ Below w7.heap.size w7 (w7.drew.alloc o) ∧ Below w7.heap.size w7 (w7.alloc o).drew) := fun o => ⟨(Below.refl _ _).alloc (Nat.le_refl _) _, (below_drew1 w7).alloc (Nat.le_refl _) _, ((Below.refl _ _).alloc (Nat.le_refl _) _).trans ((below_drew1 (w7.alloc o)).mono (show w7.heap.size ≤ (w7.alloc o).heap.size by simp))⟩
    have hW4 : Aside (who4 b = if bits .and .i64 b 3 = 0 then ⟨#[97]⟩ else if bits .and .i64 b 3 = 1 then ⟨#[98]⟩ else if bits .and .i64 b 3 = 2 then ⟨#[99]⟩ else ⟨#[100]⟩) := rfl
    generalize who4 b = wh at *
    have c4 := World.cell?_alloc_new w7 #[.string ⟨#[97]⟩, .string ⟨#[98]⟩, .string ⟨#[99]⟩, .string ⟨#[100]⟩] 9
    have g0 := c4 0; have g1 := c4 1; have g2 := c4 2; have g3 := c4 3
    simp only [List.getElem?_toArray, List.getElem?_cons_zero, List.getElem?_cons_succ] at g0 g1 g2 g3
    have y0a := fun o => Lib.cell?_alloc_some (W := w7) o y0
    have y1a := fun o => Lib.cell?_alloc_some (W := w7) o y1
    clear c4
    rcases and4 b with h4 | h4 | h4 | h4
    all_goals
      rw [h4] at hW4
      have hw4 := hW4.out
      simp only [reduceIte, Int.reduceEq] at hw4
      subst hw4
      clear hW4
      go_region
      all_goals
        go_wp2_with fail
        go_meet
        first | exact ⟨rfl, rfl, (HD.out _).2.2⟩ | exact ⟨rfl, rfl, (HD.out _).1⟩ | exact ⟨rfl, rfl, (HD.out _).2.1⟩
  case rest =>
    obtain ⟨rfl, rfl, HB8⟩ := hcut
    have HP8 := Lib.hid (HP7.out.on HB8.out)
    generalize bits .and .i64 a 1 = tn at *
    generalize who4 b = who at *
    have hrt := HRT6.out (hidN L tn who sE)
    obtain ⟨ls, hls⟩ : ∃ ls, ls = withoutL es (hidN L tn who sE) := ⟨_, rfl⟩
    have hl2 : withoutL ls (hidN L tn who sE) = ls := by rw [hls, without_twice]
    have hl8 : ls.length ≤ 8 := by rw [hls]; exact Nat.le_trans (without_len _ _) HL8.out
    have hlx : ∀ x ∈ ls, x.x < 18446744073709551616 := fun x hx => by
      rw [hls] at hx
      exact (HOK6.out x (mem_without x hx)).1
    have HEV8 : Aside (∀ W, Below wc.heap.size wc W → Calls Tryd.prog 10 #[.slice bo N bcap, .int .i64 tn, .string who, evt sE eo es.length ecap] W fun e w' => ∃ ro rcap, e = .returned (.agg #[.string sE, .slice ro ls.length rcap]) ∧ Aside (SliceA w' ro ls ∧ Below W.heap.size W w')) := fun W hW => by
      have hp := HP8.out.on hW
      rw [hls]; exact HRE'.out bo bcap eo ecap es W tn who HL8.out hp.attrs hp.rules
    have HSN8 : Aside (∀ W, Below wc.heap.size wc W → Calls Tryd.prog 12 #[.slice bo N bcap, .int .i64 tn, .string who, evt sE eo es.length ecap] W fun e w' => ∃ ro rcap, e = .returned (.agg #[.string sE, .slice ro ls.length rcap]) ∧ Aside (SliceA w' ro ls ∧ Below W.heap.size W w')) := fun W hW => by
      have hp := HP8.out.on hW
      rw [hls]; exact HSE'.out bo bcap eo ecap es W tn who HL8.out hp.attrs hp.rules
    have HEX8 : Aside (∀ W (xo : Option Addr) (xcap : Nat), Below wc.heap.size wc W → SliceA W xo ls → Calls Tryd.prog 10 #[.slice bo N bcap, .int .i64 tn, .string who, evt sE xo ls.length xcap] W fun e w' => ∃ ro rcap, e = .returned (.agg #[.string sE, .slice ro ls.length rcap]) ∧ Aside (SliceA w' ro ls ∧ Below W.heap.size W w')) := fun W xo xcap hW hS => by
      have hp := HP8.out.on hW
      have := HRE'.out bo bcap xo xcap ls W tn who hl8 hS hp.rules
      rw [hl2] at this
      exact this
    have HSM8 : Aside (∀ W (xo yo : Option Addr) (xcap ycap : Nat), SliceA W xo ls → SliceA W yo ls → Calls Tryd.prog 11 #[.agg #[.string sE, .slice xo ls.length xcap], .agg #[.string sE, .slice yo ls.length ycap]] W fun e w' => e = .returned (.bool true) ∧ Below W.heap.size W w') := fun W xo yo xcap ycap h1 h2 => by
      have := sameE_c sE sE xo yo xcap ycap ls ls W h1 h2 hlx hlx (by omega) (by omega)
      rw [sameL_refl, show (sE.toList == sE.toList) = true by simp] at this
      exact this
    have HRG8 : Aside (∀ W (xo : Option Addr) (xcap : Nat), SliceA W xo ls → Calls Tryd.prog 13 #[.agg #[.string sE, .slice xo ls.length xcap]] W fun e w' => e = .returned (.bool true) ∧ Below W.heap.size W w') := fun W xo xcap h1 => by
      have := right_c sE xo xcap ls W h1
      rw [hls, hrt, ← hls] at this
      exact this
    have HTR : Aside (∀ W W', Below wc.heap.size wc W → Below W.heap.size W W' → Below wc.heap.size wc W') := fun W W' h h2 => h.trans (h2.mono h.size)
    have HKE : Aside (∀ W, Below wc.heap.size wc W → W.cell? ⟨w.heap.size + 1, 0, none⟩ = some (.string sE) ∧ W.cell? ⟨w.heap.size + 1, 1, none⟩ = some (.slice eo es.length ecap) ∧ Below w.heap.size w W) := fun W hW => by
      have hp := HP8.out.on hW
      exact ⟨hp.e0, hp.e1, hp.below⟩
    have HR0 : Aside (Below wc.heap.size wc wc) := Below.refl _ _
    clear hls hl2 hl8 hlx hrt HRT6 HRE' HSE' HL8 HOK6 y0 y1 HP7 HB8 HP8 HB0 hW0 z2
    generalize ls.length = ln at *
    generalize es.length = en at *
    obtain ⟨y0, y1, _⟩ := HKE.out _ HR0.out
    go_wp2_with fail
    refine (HEV8.out _ HR0.out).mono ?_
    rintro e w9 ⟨xo, xcap, rfl, h9⟩
    have HS9 : Aside (SliceA w9 xo ls) := h9.out.1
    have HB9 : Aside (Below wc.heap.size wc w9) := h9.out.2
    clear h9 y0 y1 HEV8
    go_upto_region 9 with fail
    have HX : Aside (∀ W, Below (w9.heap.size + 1) (w9.alloc (.cells #[.string sE, .slice xo ln xcap] 26)) W → Below wc.heap.size wc W ∧ SliceA W xo ls ∧ W.cell? ⟨w9.heap.size, 0, none⟩ = some (.string sE) ∧ W.cell? ⟨w9.heap.size, 1, none⟩ = some (.slice xo ln xcap)) := fun W hW => by
      have h1 : Below w9.heap.size w9 W := ((Below.refl _ _).alloc (Nat.le_refl _) _).trans (hW.mono (by omega))
      exact ⟨HTR.out _ _ HB9.out h1, HS9.out.under h1, one_lay hW 0 _ rfl, one_lay hW 1 _ rfl⟩
    have hz : w9.heap.size + 1 ≤ (w9.alloc (.cells #[.string sE, .slice xo ln xcap] 26)).heap.size := by simp
    generalize hWX : (w9.alloc (.cells #[.string sE, .slice xo ln xcap] 26)) = wX at *
    have KK : Aside (∀ W, Below (w9.heap.size + 1) wX W → (W.cell? ⟨w9.heap.size, 0, none⟩ = some (.string sE) ∧ W.cell? ⟨w9.heap.size, 1, none⟩ = some (.slice xo ln xcap)) ∧ W.cell? ⟨w.heap.size + 1, 0, none⟩ = some (.string sE) ∧ W.cell? ⟨w.heap.size + 1, 1, none⟩ = some (.slice eo en ecap)) := fun W hW => by
      obtain ⟨h1, h2, h3, h4⟩ := HX.out W hW
      exact ⟨⟨h3, h4⟩, (HKE.out W h1).1, (HKE.out W h1).2.1⟩
    have HT2 : Aside (∀ W W', Below (w9.heap.size + 1) wX W → Below W.heap.size W W' → Below (w9.heap.size + 1) wX W') := fun W W' h h2 => h.trans (h2.mono (Nat.le_trans hz h.size))
    have HD : Aside (Below (w9.heap.size + 1) wX wX.drew) := below_drew1 wX
    have HXF : Aside (∀ W, Below (w9.heap.size + 1) wX W → Below w.heap.size w W) := fun W hW => (HKE.out W (HX.out W hW).1).2.2
    have HU : Aside (∀ (W W' : World) (so : Option Addr), SliceA W so ls → Below W.heap.size W W' → SliceA W' so ls) := fun W W' so h1 h2 => h1.under h2
    obtain ⟨⟨x0, x1⟩, y0, y1⟩ := KK.out _ (Below.refl _ _)
    clear hWX HKE HTR hz HS9 HB9 HR0
    generalize w9.heap.size = V at *
    go_region_with (first
      | (go_at_call 12; (with_reducible refine (HSN8.out _ (HX.out _ HD.out).1).mono ?_); rintro e w1 ⟨so, scap, rfl, h1⟩; have HB1 : Aside (Below (V + 1) wX w1) := HT2.out _ _ HD.out h1.out.2; have HS1 : Aside (SliceA w1 so ls) := h1.out.1; obtain ⟨⟨p0, p1⟩, p2, p3⟩ := KK.out _ HB1.out; clear h1)
      | (go_at_call 11; (with_reducible refine (HSM8.out _ _ _ _ _ (HX.out _ HB1.out).2.1 HS1.out).mono ?_); rintro e w2 ⟨rfl, h1⟩; have HB2 : Aside (Below (V + 1) wX w2) := HT2.out _ _ HB1.out h1; obtain ⟨⟨q0, q1⟩, q2, q3⟩ := KK.out _ HB2.out; clear h1)
      | (go_at_call 13; (with_reducible refine (HRG8.out _ _ _ (HX.out _ HB2.out).2.1).mono ?_); rintro e w3 ⟨rfl, h1⟩; have HB3 : Aside (Below (V + 1) wX w3) := HT2.out _ _ HB2.out h1; obtain ⟨⟨r0, r1⟩, r2, r3⟩ := KK.out _ HB3.out; clear h1)
      | (go_at_call 10; (with_reducible refine (HEX8.out _ _ _ (HX.out _ HB3.out).1 (HX.out _ HB3.out).2.1).mono ?_); rintro e w4 ⟨vo, vcap, rfl, h1⟩; have HB4 : Aside (Below (V + 1) wX w4) := HT2.out _ _ HB3.out h1.out.2; have HS4 : Aside (SliceA w4 vo ls) := h1.out.1; obtain ⟨⟨s0, s1⟩, s2, s3⟩ := KK.out _ HB4.out; clear h1)
      | (go_at_call 11; (with_reducible refine (HSM8.out _ _ _ _ _ HS4.out (HX.out _ HB4.out).2.1).mono ?_); rintro e w5 ⟨rfl, h1⟩; have HB5 : Aside (Below (V + 1) wX w5) := HT2.out _ _ HB4.out h1; clear h1))
    all_goals
      go_wp2_with fail
      go_ret
      exact ⟨rfl, HXF.out _ HB5.out⟩
end Go.Proofs.YtjnfbinomljocaaDoor
