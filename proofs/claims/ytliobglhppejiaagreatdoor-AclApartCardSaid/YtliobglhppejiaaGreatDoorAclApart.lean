/- AclApart: rules of one principal, or tenant, play no part for another one. -/
import Derived.Test.YtliobglhppejiaaGreatDoorAcE
namespace Go.Proofs.YtliobglhppejiaaGreatDoor
open Go.RowKit Go.Shelf
open Go.Proofs
set_option maxRecDepth 100000
attribute [local go_sem ↓] append_pre
attribute [local irreducible] wpQuiet

set_option maxHeartbeats 16000000 in
theorem aclApart_c (ao : Option Addr) (cap : Nat) (rs : List Ru) (a b : Int) (s : ByteArray) (co : Option Addr) (ccap : Nat) (zs : List At) (w : World) (hm : MaxI w) (hR : RulesB w.heap.size w ao rs) (hI : ∀ q ∈ rs, RuIs MB w q) (hb : rs.length * 104 ≤ MB) (hz : SliceA w co zs) (hzo : ∀ x ∈ zs, AtW MB x) (hzb : zs.length * 64 ≤ MB) (_hsz : s.size ≤ MB) :
    Calls Tryz.prog 3 #[.slice ao rs.length cap, .agg #[.int .i64 a, .int .i64 b], evt s co zs.length ccap] w fun e w' => e = .returned (.bool true) ∧ Below w.heap.size w w' := by
  have hlr : rs.length ≤ 4611686018427387904 := by unfold MB at hb; omega
  have hlz : zs.length ≤ 4611686018427387904 := by unfold MB at hzb; omega
  have HFT : Aside (∀ W, Below w.heap.size w W → Calls Tryz.prog 4 #[] W fun e w' => e = .returned (.bool true) ∧ Below W.heap.size W w') := fun W hW => fit10_c W (hm.below hW)
  have HLT : Aside (∀ W, Below w.heap.size w W → Calls Tryz.prog 5 #[.slice ao rs.length cap] W fun e w' => e = .returned (.bool (lightR rs)) ∧ Below W.heap.size W w') := fun W hW => light10_c ao cap rs W (hR.on hW) hlr (fun r hr => (ruIs_ok2 (hI r hr)).2)
  have HRS : Aside (lightR rs = true → ∀ W, Below w.heap.size w W → Calls Tryz.prog 6 #[.slice ao rs.length cap] W fun e w' => ∃ bo bcap, e = .returned (.slice bo (rs.filter rrightB).length bcap) ∧ Aside (RowsN W.heap.size w' bo (rs.filter rrightB) ∧ Below W.heap.size W w')) := fun h W hW => by
    obtain ⟨h1, h2⟩ := lightR_all h hI
    exact rights_c ao cap rs W (hR.on hW) (by omega) (fun r hr => ⟨(ruIs_ok2 (hI r hr)).2, Nat.le_trans (h2 r hr).1 (by decide)⟩) (hm.below hW)
  have HEV : Aside (s.size ≤ 60 → zs.length ≤ 20 → ∀ W, Below w.heap.size w W → Calls Tryz.prog 7 #[.string s, .slice co zs.length ccap] W fun e w' => ∃ bo bcap es, e = .returned (.agg #[.string (scopeE s), .slice bo es.length bcap]) ∧ Aside (EvtIs W w' bo zs es) ∧ Aside (∀ g off, bo = some ⟨g, off, none⟩ → W.heap.size ≤ g)) := fun h h2 W hW =>
    event_cN s co ccap zs W (by omega) (hz.under hW) (by omega) (hm.below hW)
  have HOK : Aside (∀ (W1 W2 : World) (eo : Option Addr) (es : List At), EvtIs W1 W2 eo zs es → (∀ x ∈ es, AtOk x ∧ x.s.size ≤ 9223372036854775807) ∧ es.length ≤ 8 ∧ Below W1.heap.size W1 W2 ∧ SliceA W2 eo es) := fun W1 W2 eo es h => by
    have h1 := evt_ok h hzo
    have h2 := evt_len h
    obtain ⟨_, _, _, h3, h4⟩ := h
    exact ⟨fun x hx => ⟨(h1 x hx).1, Nat.le_trans (h1 x hx).2 (by decide)⟩, h2, h4, h3⟩
  obtain ⟨L, hL⟩ : ∃ L, L = rs.filter rrightB := ⟨_, rfl⟩
  have hLm : ∀ r ∈ L, r ∈ rs ∧ rrightB r = true := fun r hr => by rw [hL] at hr; exact List.mem_filter.1 hr
  have hLn : lightR rs = true → L.length ≤ 80 := fun h => by
    rw [hL]; exact Nat.le_trans (List.length_filter_le _ _) (lightR_all h hI).1
  have HRL : Aside (∀ W, Below w.heap.size w W → ∀ r ∈ L, CondsB W.heap.size W r.co r.cs) := fun W h r hr => (hR.2 r (hLm r hr).1).on h
  have HHO : Aside (lightR rs = true → ∀ (bo : Option Addr) (bcap : Nat) (W : World) (tn : Int) (who : ByteArray), RulesB W.heap.size W bo L → Calls Tryz.prog 8 #[.slice bo L.length bcap, .int .i64 tn, .string who] W fun e w' => e = .returned (.tuple #[.int .i64 (homeI L tn who), .bool (homeB L tn who)]) ∧ Below W.heap.size W w') := fun h bo bcap W tn who hRW => home_c bo bcap L tn who W hRW (by have := hLn h; omega)
  have HMP : Aside (lightR rs = true → ∀ (bo : Option Addr) (bcap : Nat) (eo : Option Addr) (ecap : Nat) (es : List At) (W : World) (tn : Int) (who : ByteArray), (∀ x ∈ es, AtOk x ∧ x.s.size ≤ 9223372036854775807) → es.length ≤ 8 → SliceA W eo es → RulesB W.heap.size W bo L → Calls Tryz.prog 9 #[.slice bo L.length bcap, .int .i64 tn, .string who, evt (scopeE s) eo es.length ecap] W fun e w' => e = .returned (.bool (mayPub L tn who (scopeE s) es)) ∧ Below W.heap.size W w') := fun h bo bcap eo ecap es W tn who ho hl8 hsE hRW =>
    mayPublish_c bo bcap L tn who (scopeE s) eo ecap es W hRW (by have := hLn h; omega) (fun r hr hk => ruIs_ok (hI r (hLm r hr).1) (hLm r hr).2 (Or.inl hk)) hsE (fun x hx => (ho x hx).1) (by omega)
  have HMO : Aside (lightR rs = true → ∀ (bo : Option Addr) (bcap : Nat) (W : World) (tn : Int) (who : ByteArray), RulesB W.heap.size W bo L → Calls Tryz.prog 10 #[.slice bo L.length bcap, .int .i64 tn, .string who, fil (scopeE s) none 0 0] W fun e w' => e = .returned (.bool (mayObs L tn who (scopeE s) [])) ∧ Below W.heap.size W w') := fun h bo bcap W tn who hRW =>
    mayObserve_c bo bcap L tn who (scopeE s) none 0 [] W hRW (by have := hLn h; omega) (fun r hr hk => ruIs_ok (hI r (hLm r hr).1) (hLm r hr).2 (Or.inr hk)) (Or.inl rfl) (by simp) (by simp)
  have HH2 : Aside (lightR rs = true → ∀ (bo : Option Addr) (bcap : Nat) (W : World) (tn : Int) (who : ByteArray), RulesB W.heap.size W bo (L.filter (ownP tn who)) → Calls Tryz.prog 8 #[.slice bo (L.filter (ownP tn who)).length bcap, .int .i64 tn, .string who] W fun e w' => e = .returned (.tuple #[.int .i64 (homeI L tn who), .bool (homeB L tn who)]) ∧ Below W.heap.size W w') := fun h bo bcap W tn who hRW => by
    have h2 := home_c bo bcap (L.filter (ownP tn who)) tn who W hRW (by have := hLn h; have := List.length_filter_le (ownP tn who) L; omega)
    unfold homeI homeB at h2 ⊢
    rw [homeR_own] at h2
    exact h2
  have HMP2 : Aside (lightR rs = true → ∀ (bo : Option Addr) (bcap : Nat) (eo : Option Addr) (ecap : Nat) (es : List At) (W : World) (tn : Int) (who : ByteArray), (∀ x ∈ es, AtOk x ∧ x.s.size ≤ 9223372036854775807) → es.length ≤ 8 → SliceA W eo es → RulesB W.heap.size W bo (L.filter (ownP tn who)) → Calls Tryz.prog 9 #[.slice bo (L.filter (ownP tn who)).length bcap, .int .i64 tn, .string who, evt (scopeE s) eo es.length ecap] W fun e w' => e = .returned (.bool (mayPub L tn who (scopeE s) es)) ∧ Below W.heap.size W w') := fun h bo bcap eo ecap es W tn who ho hl8 hsE hRW => by
    have h2 := mayPublish_c bo bcap (L.filter (ownP tn who)) tn who (scopeE s) eo ecap es W hRW (by have := hLn h; have := List.length_filter_le (ownP tn who) L; omega) (fun r hr hk => ruIs_ok (hI r (hLm r (List.mem_filter.1 hr).1).1) (hLm r (List.mem_filter.1 hr).1).2 (Or.inl hk)) hsE (fun x hx => (ho x hx).1) (by omega)
    unfold mayPub at h2 ⊢
    rw [mayR_own _ _ _ _ _ (by decide)] at h2
    exact h2
  have HMO2 : Aside (lightR rs = true → ∀ (bo : Option Addr) (bcap : Nat) (W : World) (tn : Int) (who : ByteArray), RulesB W.heap.size W bo (L.filter (ownP tn who)) → Calls Tryz.prog 10 #[.slice bo (L.filter (ownP tn who)).length bcap, .int .i64 tn, .string who, fil (scopeE s) none 0 0] W fun e w' => e = .returned (.bool (mayObs L tn who (scopeE s) [])) ∧ Below W.heap.size W w') := fun h bo bcap W tn who hRW => by
    have h2 := mayObserve_c bo bcap (L.filter (ownP tn who)) tn who (scopeE s) none 0 [] W hRW (by have := hLn h; have := List.length_filter_le (ownP tn who) L; omega) (fun r hr hk => ruIs_ok (hI r (hLm r (List.mem_filter.1 hr).1).1) (hLm r (List.mem_filter.1 hr).1).2 (Or.inr hk)) (Or.inl rfl) (by simp) (by simp)
    unfold mayObs at h2 ⊢
    rw [mayR_own _ _ _ _ _ (by decide)] at h2
    exact h2
  have HLN : Aside (lightR rs = true → L.length ≤ 80) := hLn
  rw [← hL] at HRS
  generalize lightR rs = lt at *
  generalize scopeE s = sE at *
  obtain ⟨N, hN⟩ : ∃ N, N = L.length := ⟨_, rfl⟩
  have HNL : Aside (N = L.length) := hN
  rw [← hN] at HRS HMP HMO HHO HLN
  obtain ⟨n, hn⟩ : ∃ n, n = zs.length := ⟨_, rfl⟩
  rw [← hn] at HEV ⊢
  generalize rs.length = nr at *
  have z2 : w.heap.size + 2 ≤ ((w.alloc (.cells #[.int .i64 a, .int .i64 b] 23)).alloc (.cells #[.string s, .slice co n ccap] 26)).heap.size := by simp
  have HB0 : Aside (Below w.heap.size w ((w.alloc (.cells #[.int .i64 a, .int .i64 b] 23)).alloc (.cells #[.string s, .slice co n ccap] 26))) := ((Below.refl _ _).alloc (Nat.le_refl _) _).alloc (by simp) _
  have HKP : Aside (∀ W, Below (w.heap.size + 2) ((w.alloc (.cells #[.int .i64 a, .int .i64 b] 23)).alloc (.cells #[.string s, .slice co n ccap] 26)) W → (W.cell? ⟨w.heap.size, 0, none⟩ = some (.int .i64 a) ∧ W.cell? ⟨w.heap.size, 1, none⟩ = some (.int .i64 b)) ∧ W.cell? ⟨w.heap.size + 1, 0, none⟩ = some (.string s) ∧ W.cell? ⟨w.heap.size + 1, 1, none⟩ = some (.slice co n ccap) ∧ W.frozen? ⟨w.heap.size + 1, 0, none⟩ = false ∧ W.frozen? ⟨w.heap.size + 1, 1, none⟩ = false) := fun W hW => by
    obtain ⟨va, vb⟩ := two_lay hW
    have ho : W.heap[w.heap.size + 1]? = some (.cells #[.string s, .slice co n ccap] 26) := by
      refine (hW.block (w.heap.size + 1) (by omega)).trans ?_
      rw [show w.heap.size + 1 = (w.alloc (.cells #[.int .i64 a, .int .i64 b] 23)).heap.size by simp]
      exact Array.getElem?_push_size
    exact ⟨⟨va 0 _ rfl, va 1 _ rfl⟩, vb 0 _ rfl, vb 1 _ rfl, by simp [World.frozen?, ho], by simp [World.frozen?, ho]⟩
  clear hm hR hI hb hz hzo hzb hlr hlz hLm hLn hL hN hn
  go_enter Tryz.func3, Tryz.ntmps3
  go_wp2_with fail
  generalize hW0 : ((w.alloc (.cells #[.int .i64 a, .int .i64 b] 23)).alloc (.cells #[.string s, .slice co n ccap] 26)) = w0 at *
  refine (HFT.out _ HB0.out).mono ?_
  rintro e w1 ⟨rfl, hb⟩
  have HA1 : Aside (Below (w.heap.size + 2) w0 w1) := hb.mono z2
  clear hb HFT
  go_wp2_with fail
  refine (HLT.out _ (HB0.out.trans (HA1.out.mono (by omega)))).mono ?_
  rintro e w2 ⟨rfl, hb⟩
  have HA2 : Aside (Below (w.heap.size + 2) w0 w2) := HA1.out.trans (hb.mono (Nat.le_trans z2 HA1.out.size))
  clear hb HLT HA1
  cases lt
  · go_wp2_with fail
    go_ret
    exact ⟨rfl, HB0.out.trans (HA2.out.mono (by omega))⟩
  obtain ⟨⟨y0, y1⟩, x0, x1, _, _⟩ := HKP.out _ HA2.out
  by_cases h60 : 60 < s.size
  · have h60z : (60 : Int) < (s.size : Int) := by omega
    have hd : decide ((60 : Int) < (s.size : Int)) = true := decide_eq_true h60z
    go_wp2_with fail
    go_ret
    exact ⟨rfl, HB0.out.trans (HA2.out.mono (by omega))⟩
  have h60z : ¬ (60 : Int) < (s.size : Int) := by omega
  have hd : decide ((60 : Int) < (s.size : Int)) = false := decide_eq_false h60z
  by_cases h20 : 20 < n
  · have h20z : (20 : Int) < (n : Int) := by omega
    have hd2 : decide ((20 : Int) < (n : Int)) = true := decide_eq_true h20z
    go_wp2_with fail
    go_ret
    exact ⟨rfl, HB0.out.trans (HA2.out.mono (by omega))⟩
  have h20z : ¬ (20 : Int) < (n : Int) := by omega
  have hd2 : decide ((20 : Int) < (n : Int)) = false := decide_eq_false h20z
  have HRS' := Lib.hid (HRS.out (by first | trivial | rfl))
  have HHO' := Lib.hid (HHO.out (by first | trivial | rfl))
  have HMP' := Lib.hid (HMP.out (by first | trivial | rfl))
  have HMO' := Lib.hid (HMO.out (by first | trivial | rfl))
  have HH2' := Lib.hid (HH2.out (by first | trivial | rfl))
  have HMP2' := Lib.hid (HMP2.out (by first | trivial | rfl))
  have HMO2' := Lib.hid (HMO2.out (by first | trivial | rfl))
  have HLN' := Lib.hid (HLN.out (by first | trivial | rfl))
  have HEV' := Lib.hid (HEV.out (by omega) (by omega))
  clear HRS HHO HMP HMO HH2 HMP2 HMO2 HLN HEV
  go_wp2_with fail
  clear h60z hd h20z hd2 h60 h20 y0 y1 x0 x1
  refine (HRS'.out _ (HB0.out.trans (HA2.out.mono (by omega)))).mono ?_
  rintro e w5 ⟨bo, bcap, rfl, HN5⟩
  have HA5 : Aside (Below (w.heap.size + 2) w0 w5) := HA2.out.trans (HN5.out.2.mono (Nat.le_trans z2 HA2.out.size))
  have HR5 : Aside (RowsN (w.heap.size + 2) w5 bo L) := HN5.out.1.down (Nat.le_trans z2 HA2.out.size)
  clear HRS' HN5 HA2
  obtain ⟨⟨y0, y1⟩, x0, x1, _, _⟩ := HKP.out _ HA5.out
  go_wp2_with fail
  clear y0 y1 x0 x1
  refine (HEV'.out _ (HB0.out.trans (HA5.out.mono (by omega)))).mono ?_
  rintro e w6 ⟨eo, ecap, es, rfl, HE6, HG6⟩
  obtain ⟨hok, hl8, hb6, hs6⟩ := HOK.out _ _ _ _ HE6.out
  have HOK6 := Lib.hid hok
  have HL8 := Lib.hid hl8
  have HA6 : Aside (Below (w.heap.size + 2) w0 w6) := HA5.out.trans (hb6.mono (Nat.le_trans z2 HA5.out.size))
  obtain ⟨⟨y0, y1⟩, x0, x1, f0, f1⟩ := HKP.out _ HA6.out
  have HP7 : Aside (PubW w w5 a b L bo sE eo es ecap ((w6.setCell ⟨w.heap.size + 1, 0, none⟩ (.string sE)).setCell ⟨w.heap.size + 1, 1, none⟩ (.slice eo es.length ecap))) := by
    have hbw : Below w.heap.size w ((w6.setCell ⟨w.heap.size + 1, 0, none⟩ (.string sE)).setCell ⟨w.heap.size + 1, 1, none⟩ (.slice eo es.length ecap)) := ((HB0.out.trans (HA6.out.mono (by omega))).setCell (p := ⟨w.heap.size + 1, 0, none⟩) (by show w.heap.size ≤ w.heap.size + 1; omega) _).setCell (p := ⟨w.heap.size + 1, 1, none⟩) (by show w.heap.size ≤ w.heap.size + 1; omega) _
    have hg : ∀ g off, eo = some ⟨g, off, none⟩ → w.heap.size + 1 < g := fun g off e => by
      have := HG6.out g off e
      have := Nat.le_trans z2 HA5.out.size
      omega
    have ne0 : ∀ i j, (⟨w.heap.size + 1, i, none⟩ : Addr) ≠ ⟨w.heap.size, j, none⟩ := fun i j e => by injection e; omega
    have ne1 : (⟨w.heap.size + 1, 1, none⟩ : Addr) ≠ ⟨w.heap.size + 1, 0, none⟩ := fun e => by injection e; omega
    have oth : ∀ (W : World) (p q : Addr) (v : Value), p ≠ q → (W.setCell p v).cell? q = W.cell? q := fun W p q v h => by rw [World.cell?_setCell_other _ _ _ _ (by first | exact h | exact h.symm)]
    refine ⟨?_, ?_, ?_, ?_, hbw, ?_, ?_, by have := Nat.le_trans z2 HA6.out.size; simpa using this⟩
    · rw [oth _ _ _ _ (ne0 1 0), oth _ _ _ _ (ne0 0 0)]; exact y0
    · rw [oth _ _ _ _ (ne0 1 1), oth _ _ _ _ (ne0 0 1)]; exact y1
    · rw [oth _ _ _ _ ne1]; exact World.cell?_setCell_same _ _ _ x0
    · exact World.cell?_setCell_same _ _ _ ((oth _ _ _ _ ne1.symm).trans x1)
    · exact (((HR5.out.on hb6).set (by omega) _).set (by omega) _).rules (HRL.out _ hbw)
    · exact sliceA_set (sliceA_set hs6 hg _) hg _
  clear hok hl8 hb6 hs6 HE6 HG6 HOK HRL HR5 HA5 HA6
  go_upto_region 7 with fail
  clear y0 y1 x0 x1 f0 f1 HKP
  generalize ((w6.setCell ⟨w.heap.size + 1, 0, none⟩ (.string sE)).setCell ⟨w.heap.size + 1, 1, none⟩ (.slice eo es.length ecap)) = w7 at *
  have y0 := HP7.out.i0
  have y1 := HP7.out.i1
  go_cut [7, 8] (fun s7 s8 wx => s7 = .int .i64 (bits .and .i64 a 1) ∧ s8 = .string (who4 b) ∧ Aside (Below w7.heap.size w7 wx))
  case first =>
    have HD : Aside (∀ o : Obj, Below w7.heap.size w7 (w7.alloc o) ∧ Below w7.heap.size w7 (w7.drew.alloc o) ∧ Below w7.heap.size w7 (w7.alloc o).drew) := fun o => ⟨(Below.refl _ _).alloc (Nat.le_refl _) _, (below_drew1 w7).alloc (Nat.le_refl _) _, ((Below.refl _ _).alloc (Nat.le_refl _) _).trans ((below_drew1 (w7.alloc o)).mono (show w7.heap.size ≤ (w7.alloc o).heap.size by simp))⟩
    have hW4 : Aside (who4 b = if bits .and .i64 b 3 = 0 then ⟨#[97]⟩ else if bits .and .i64 b 3 = 1 then ⟨#[98]⟩ else if bits .and .i64 b 3 = 2 then ⟨#[99]⟩ else ⟨#[100]⟩) := rfl
    generalize who4 b = wh at *
    have c4 := World.cell?_alloc_new w7 #[.string ⟨#[97]⟩, .string ⟨#[98]⟩, .string ⟨#[99]⟩, .string ⟨#[100]⟩] 9
    have g0 := c4 0; have g1 := c4 1; have g2 := c4 2; have g3 := c4 3
    simp only [List.getElem?_toArray, List.getElem?_cons_zero, List.getElem?_cons_succ] at g0 g1 g2 g3
    have y0a := fun o => Lib.cell?_alloc_some (W := w7) o y0
    have y1a := fun o => Lib.cell?_alloc_some (W := w7) o y1
    clear c4
    rcases and4 b with h4 | h4 | h4 | h4
    all_goals
      rw [h4] at hW4
      have hw4 := hW4.out
      simp only [reduceIte, Int.reduceEq] at hw4
      subst hw4
      clear hW4
      go_region
      all_goals
        go_wp2_with fail
        go_meet
        first | exact ⟨rfl, rfl, (HD.out _).2.2⟩ | exact ⟨rfl, rfl, (HD.out _).1⟩ | exact ⟨rfl, rfl, (HD.out _).2.1⟩
  case rest =>
    obtain ⟨rfl, rfl, HB8⟩ := hcut
    have HP8 := Lib.hid (HP7.out.on HB8.out)
    generalize bits .and .i64 a 1 = tn at *
    generalize who4 b = who at *
    have HH9 := Lib.hid (fun W hW => HHO'.out bo bcap W tn who hW)
    have HH10 := Lib.hid (fun oo ocap W hW => HH2'.out oo ocap W tn who hW)
    have HM1 := Lib.hid (fun W (hW : PubW w w5 a b L bo sE eo es ecap W) => HMP'.out bo bcap eo ecap es W tn who HOK6.out HL8.out hW.attrs hW.rules)
    have HM2 := Lib.hid (fun oo ocap W (hW : PubW w w5 a b L bo sE eo es ecap W) hR => HMP2'.out oo ocap eo ecap es W tn who HOK6.out HL8.out hW.attrs hR)
    have HO1 := Lib.hid (fun W (hW : PubW w w5 a b L bo sE eo es ecap W) => HMO'.out bo bcap W tn who hW.rules)
    have HO2 := Lib.hid (fun oo ocap W hR => HMO2'.out oo ocap W tn who hR)
    generalize homeB L tn who = hB at *
    generalize homeI L tn who = hI at *
    generalize mayPub L tn who sE es = m1 at *
    generalize mayObs L tn who sE [] = m2 at *
    obtain ⟨p, hp⟩ : ∃ p, p = ownP tn who := ⟨_, rfl⟩
    rw [← hp] at HH10 HM2 HO2
    have HPD : Aside (∀ r, p r = ((r.tn == tn) && ((r.who.toList == who.toList) && (r.k != 4)))) := fun r => by rw [hp]; rfl
    have HBW8 := Lib.hid HP8.out.below
    have HSL : Aside (∀ W, Below wc.heap.size wc W → 0 < L.length → ∃ b off, bo = some ⟨b, off, none⟩ ∧ b < W.heap.size ∧ RowR W b off L) := fun W hW h => row_of (HP8.out.on hW).rules (Below.refl _ _) h
    have hN80 : N ≤ 80 := HLN'.out
    have HC0 : Aside (Below wc.heap.size wc wc) := Below.refl _ _
    clear HHO' HH2' HMP' HMP2' HMO' HMO2' y0 y1 HP7 HB8 HB0 hW0 z2 hp HLN' HOK6 HL8
    go_wp2_with fail
    go_loopg [9, 52] N (fun kx s9 s52 wr => ∃ (j m cap : Nat) (ao : Option Addr), s9 = .slice ao m cap ∧ s52 = .int .i64 j ∧ j ≤ N ∧ N - j ≤ kx ∧ Aside (((L.take j).filter p).length = m) ∧ Aside (OwnR wr wc.heap.size (.slice ao m cap) ((L.take j).filter p)) ∧ Aside (Below wc.heap.size wc wr))
    case atStart => exact ⟨0, 0, 0, none, rfl, rfl, Nat.zero_le _, by omega, rfl, World.ownsRow_nil _ _ _ _, HC0.out⟩
    case round =>
      obtain ⟨j, m, cap2, ao2, rfl, rfl, hj, hjx, HM, HO, HA⟩ := hrel
      have zr : wc.heap.size ≤ wr.heap.size := HA.out.size
      by_cases hlt : j < N
      · have hjl : j < L.length := by rw [← HNL.out]; exact hlt
        obtain ⟨b, off, rfl, hbs, hrow⟩ := HSL.out _ HA.out (by omega)
        have hrow1 := hrow j hjl
        have HKN : Aside ((L.take (j + 1)).filter p = if p L[j]! then (L.take j).filter p ++ [L[j]!] else (L.take j).filter p) := filter_take_r L p j hjl
        have HPj : Aside (p L[j]! = (((L[j]!).tn == tn) && (((L[j]!).who.toList == who.toList) && ((L[j]!).k != 4)))) := HPD.out _
        have HML : Aside (m ≤ j) := by
          show m ≤ j
          rw [← HM.out]
          exact Nat.le_trans (List.length_filter_le _ _) (by simp; omega)
        generalize p L[j]! = sp at HKN HPj
        generalize L[j]! = c at hrow1 HKN HPj
        have HAP : Aside (∀ W, Below wr.heap.size wr W → ∃ g' cap' w3, Sem.run Tryz.prog (appendS #[22, 22] 22 #[.slice ao2 m cap2, .slice (some ⟨W.heap.size, 0, none⟩) 1 1])
          (W.alloc (.cells (ruls c.k c.tn c.who c.br c.sc c.co c.cs.length c.cap c.nm c.ix) 36)) = .ok (.slice (some ⟨g', 0, none⟩) (m + 1) cap') w3 ∧
            Aside (OwnR w3 wc.heap.size (.slice (some ⟨g', 0, none⟩) (m + 1) cap') ((L.take j).filter p ++ [c]) ∧ Below wc.heap.size wc w3)) := fun W hW => by
          obtain ⟨g', cap', w3, h1, h2⟩ := appendR_run wc.heap.size ((L.take j).filter p) c (.slice ao2 m cap2) W (ownR_below HO.out hW) (Nat.le_trans zr hW.size) (by have := HML.out; rw [HM.out]; omega)
          rw [HM.out] at h1 h2
          exact ⟨g', cap', w3, h1, h2.out.1, (HA.out.trans (hW.mono zr)).trans h2.out.2⟩
        obtain ⟨rk, rt, rw1, rb, rsc, rco, rcap, rcs, rn, rix⟩ := c
        have c0 := hrow1 0 _ rfl; have c1 := hrow1 1 _ rfl; have c2 := hrow1 2 _ rfl; have c3 := hrow1 3 _ rfl; have c4 := hrow1 4 _ rfl; have c5 := hrow1 5 _ rfl; have c6 := hrow1 6 _ rfl; have c7 := hrow1 7 _ rfl
        simp only [Nat.add_zero] at c0
        dsimp only at c0 c1 c2 c3 c4 c5 c6 c7 HAP HPj
        generalize rcs.length = rcn at *
        clear hrow1 hrow HSL hjl HML HPD
        have hltz : (j : Int) < N := by omega
        have hjz : (0 : Int) ≤ (j : Int) := by omega
        go_upto_region 12 with fail
        clear c0 c1 c2 c3 c4 c5 c6 c7
        have HX : Aside (Below wr.heap.size wr (wr.alloc (.cells (ruls rk rt rw1 rb rsc rco rcn rcap rn rix) 36))) := (Below.refl wr.heap.size wr).alloc (Nat.le_refl _) _
        obtain ⟨r0, r1, r2, r3, r4, r5, r6, r7⟩ := rul_lay (w := wr) (Below.refl (wr.heap.size + 1) (wr.alloc (.cells (ruls rk rt rw1 rb rsc rco rcn rcap rn rix) 36)))
        obtain ⟨g', cap', w6', hrun, HR6⟩ := HAP.out _ HX.out
        have HO5 := Lib.hid (ownR_below HO.out HX.out)
        have HB5 := Lib.hid (HA.out.trans (HX.out.mono zr))
        clear HAP HO HX HA
        generalize (wr.alloc (.cells (ruls rk rt rw1 rb rsc rco rcn rcap rn rix) 36)) = wx at *
        generalize wr.heap.size = V at *
        have hne4 : (rk != 4) = !(rk == 4) := rfl
        have hways : ((rt == tn) = false ∨ (rt == tn) = true ∧ (rw1.toList == who.toList) = false ∨ (rt == tn) = true ∧ (rw1.toList == who.toList) = true ∧ (rk != 4) = false) ∨ ((rt == tn) = true ∧ (rw1.toList == who.toList) = true ∧ (rk != 4) = true) := by
          cases (rt == tn) <;> cases (rw1.toList == who.toList) <;> cases (rk != 4) <;> simp
        clear hne4
        rcases hways with (e1 | ⟨e1, e2⟩ | ⟨e1, e2, e3⟩) | ⟨e1, e2, e3⟩
        rotate_left 3
        · have HK2 : Aside ((L.take (j + 1)).filter p = (L.take j).filter p ++ [⟨rk, rt, rw1, rb, rsc, rco, rcap, rcs, rn, rix⟩]) := by
            show _ = _
            rw [HKN.out, HPj.out, e1, e2, e3]; rfl
          clear HKN HPj HO5
          go_wp2_with fail
          go_roundg (N - (j + 1))
          case measure => omega
          case rel => exact ⟨j + 1, m + 1, cap', some ⟨g', 0, none⟩, by go_num, by go_num, hlt, Nat.le_refl _, by rw [HK2.out]; simp [Aside, HM.out], by rw [HK2.out]; exact HR6.out.1, HR6.out.2⟩
        all_goals
          have HK2 : Aside ((L.take (j + 1)).filter p = (L.take j).filter p) := by
            show _ = _
            rw [HKN.out, HPj.out]; first | (simp [e1]; done) | (simp [e1, e2]; done) | (simp [e1, e2, e3]; done)
          clear HKN HPj hrun HR6
          go_wp2_with fail
          go_roundg (N - (j + 1))
          case measure => omega
          case rel => exact ⟨j + 1, m, cap2, ao2, rfl, by go_num, hlt, Nat.le_refl _, by rw [HK2.out]; exact HM.out, by rw [HK2.out]; exact HO5.out, HB5.out⟩
      · obtain rfl : j = N := by omega
        have ht : L.take j = L := by rw [HNL.out, List.take_length]
        rw [ht] at HM HO
        obtain ⟨OL, hOL⟩ : ∃ OL, OL = L.filter p := ⟨_, rfl⟩
        rw [← hOL] at HM HO HH10 HM2 HO2
        rw [HM.out] at HH10 HM2 HO2
        have HPr := Lib.hid (HP8.out.on HA.out)
        have hRN : RowsN wc.heap.size wr ao2 OL := by
          obtain ⟨ao', cap', hv, h⟩ := ownR_rows HO.out
          injection hv with q1 q2 q3
          subst q1
          exact h
        have HRO : Aside (∀ W, Below wr.heap.size wr W → RulesB W.heap.size W ao2 OL) := fun W hW => (hRN.on hW).rules fun r hr => (HPr.out.on hW).rules.2 r (by rw [hOL] at hr; exact (List.mem_filter.1 hr).1)
        have x0 := HPr.out.e0
        have x1 := HPr.out.e1
        clear hRN hOL ht HM HO HSL HPD HP8 HA zr
        go_upto_region 16 with fail
        have HPF := Lib.hid (HPr.out.on ((Below.refl wr.heap.size wr).alloc (Nat.le_refl _) (.cells #[.string sE, .slice none 0 0] 34)))
        have HRF : Aside (∀ W, Below (wr.heap.size + 1) (wr.alloc (.cells #[.string sE, .slice none 0 0] 34)) W → RulesB W.heap.size W ao2 OL) := fun W hW => HRO.out W (((Below.refl wr.heap.size wr).alloc (Nat.le_refl _) _).trans (hW.mono (by omega)))
        have HKF : Aside (∀ W, Below (wr.heap.size + 1) (wr.alloc (.cells #[.string sE, .slice none 0 0] 34)) W → W.cell? ⟨wr.heap.size, 0, none⟩ = some (.string sE) ∧ W.cell? ⟨wr.heap.size, 1, none⟩ = some (.slice none 0 0)) := fun W hW => ⟨one_lay hW 0 _ rfl, one_lay hW 1 _ rfl⟩
        have zF : wr.heap.size + 1 ≤ (wr.alloc (.cells #[.string sE, .slice none 0 0] 34)).heap.size := by simp
        clear HRO HPr x0 x1
        generalize (wr.alloc (.cells #[.string sE, .slice none 0 0] 34)) = wf at *
        generalize wr.heap.size = V at *
        have HBF : Aside (Below (V + 1) wf wf) := Below.refl _ _
        go_wp2_with fail
        refine (HH9.out _ HPF.out.rules).mono ?_
        rintro e w9 ⟨rfl, hb⟩
        have HB9 : Aside (Below (V + 1) wf w9) := HBF.out.trans (hb.mono zF)
        have HP9 := Lib.hid (HPF.out.on hb)
        clear hb HH9 HPF HBF
        go_wp2_with fail
        refine (HH10.out _ _ _ (HRF.out _ HB9.out)).mono ?_
        rintro e w10 ⟨rfl, hb⟩
        have HB10 : Aside (Below (V + 1) wf w10) := HB9.out.trans (hb.mono (Nat.le_trans zF HB9.out.size))
        have HP10 := Lib.hid (HP9.out.on hb)
        clear hb HH10 HP9 HB9
        go_upto_region 18 with fail
        have KK := fun q : BW w10 => HP10.out.on q.h
        have KF := fun q : BW w10 => HB10.out.trans (q.h.mono (Nat.le_trans zF HB10.out.size))
        have x0 : ∀ q : BW w10, q.W.cell? ⟨w.heap.size + 1, 0, none⟩ = some (.string sE) := fun q => (KK q).e0
        have x1 : ∀ q : BW w10, q.W.cell? ⟨w.heap.size + 1, 1, none⟩ = some (.slice eo es.length ecap) := fun q => (KK q).e1
        have f0 : ∀ q : BW w10, q.W.cell? ⟨V, 0, none⟩ = some (.string sE) := fun q => (HKF.out _ (KF q)).1
        have f1 : ∀ q : BW w10, q.W.cell? ⟨V, 1, none⟩ = some (.slice none 0 0) := fun q => (HKF.out _ (KF q)).2
        have hA : ∀ q : BW w10, Calls Tryz.prog 9 #[.slice bo j bcap, .int .i64 tn, .string who, evt sE eo es.length ecap] q.W fun e w'' => e = .returned (.bool m1) ∧ ∃ q2 : BW w10, w'' = q2.W := fun q => (HM1.out _ (KK q)).mono fun _ _ h => ⟨h.1, ⟨⟨_, q.h.trans (h.2.mono q.h.size)⟩, rfl⟩⟩
        have hA2 : ∀ q : BW w10, Calls Tryz.prog 9 #[.slice ao2 m cap2, .int .i64 tn, .string who, evt sE eo es.length ecap] q.W fun e w'' => e = .returned (.bool m1) ∧ ∃ q2 : BW w10, w'' = q2.W := fun q => (HM2.out ao2 cap2 _ (KK q) (HRF.out _ (KF q))).mono fun _ _ h => ⟨h.1, ⟨⟨_, q.h.trans (h.2.mono q.h.size)⟩, rfl⟩⟩
        have hC : ∀ q : BW w10, Calls Tryz.prog 10 #[.slice bo j bcap, .int .i64 tn, .string who, fil sE none 0 0] q.W fun e w'' => e = .returned (.bool m2) ∧ ∃ q2 : BW w10, w'' = q2.W := fun q => (HO1.out _ (KK q)).mono fun _ _ h => ⟨h.1, ⟨⟨_, q.h.trans (h.2.mono q.h.size)⟩, rfl⟩⟩
        have hC2 : ∀ q : BW w10, Calls Tryz.prog 10 #[.slice ao2 m cap2, .int .i64 tn, .string who, fil sE none 0 0] q.W fun e w'' => e = .returned (.bool m2) ∧ ∃ q2 : BW w10, w'' = q2.W := fun q => (HO2.out ao2 cap2 _ (HRF.out _ (KF q))).mono fun _ _ h => ⟨h.1, ⟨⟨_, q.h.trans (h.2.mono q.h.size)⟩, rfl⟩⟩
        have HFIN := Lib.hid (fun q : BW w10 => (KK q).below)
        generalize es.length = en at *
        clear KK KF HM1 HM2 HO1 HO2 HP10 HB10 HRF HKF
        have h1 : (m1 == m1) = true := by simp
        have h2 : (m2 == m2) = true := by simp
        have h3 : (hI == hI) = true := by simp
        have h4 : (hB == hB) = true := by simp
        refine wp_region_bw (by kernel_rfl) (by kernel_rfl) ?_
        repeat (quiet_step (first | (go_at_call 9; first | (with_reducible exact hA _) | (with_reducible exact hA2 _)) | (go_at_call 10; first | (with_reducible exact hC _) | (with_reducible exact hC2 _))))
        refine wpQuiet_nil ?_
        intro w2 hw'
        obtain ⟨pw, hw2⟩ := hw'
        have hX := HFIN.out pw
        rw [← hw2] at hX
        have HX := Lib.hid hX
        clear x0 x1 f0 f1 hA hA2 hC hC2 hX hw2 pw HFIN
        go_wp2_with fail
        go_ret
        exact ⟨by first | rfl | (rw [h2]) | simp, HX.out⟩
end Go.Proofs.YtliobglhppejiaaGreatDoor
