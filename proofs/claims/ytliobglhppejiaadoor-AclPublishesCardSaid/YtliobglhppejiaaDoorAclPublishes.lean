/- AclPublishes: who is there may publish what one of its rules matches, and nothing else. -/
import Derived.Test.YtliobglhppejiaaDoorAcW
namespace Go.Proofs.YtliobglhppejiaaDoor
open Go.RowKit Go.Shelf
open Go.Proofs
set_option maxRecDepth 100000
attribute [local irreducible] wpQuiet

/-- What behind the law's own store of the event is so in every later world. -/
structure PubW (w w5 : World) (a b : Int) (L : List Ru) (bo : Option Addr) (sE : ByteArray) (eo : Option Addr) (es : List At) (ecap : Nat) (W : World) : Prop where
  i0 : W.cell? ⟨w.heap.size, 0, none⟩ = some (.int .i64 a)
  i1 : W.cell? ⟨w.heap.size, 1, none⟩ = some (.int .i64 b)
  e0 : W.cell? ⟨w.heap.size + 1, 0, none⟩ = some (.string sE)
  e1 : W.cell? ⟨w.heap.size + 1, 1, none⟩ = some (.slice eo es.length ecap)
  below : Below w.heap.size w W
  rules : RulesB W.heap.size W bo L
  attrs : SliceA W eo es
  size : w.heap.size + 2 ≤ W.heap.size
theorem PubW.on {w w5 : World} {a b : Int} {L : List Ru} {bo : Option Addr} {sE : ByteArray} {eo : Option Addr} {es : List At} {ecap : Nat} {W W' : World} (h : PubW w w5 a b L bo sE eo es ecap W) (hb : Below W.heap.size W W') : PubW w w5 a b L bo sE eo es ecap W' := by
  have hs := h.size
  exact ⟨(hb.cell (p := ⟨w.heap.size, 0, none⟩) (by show w.heap.size < _; omega)).trans h.i0, (hb.cell (p := ⟨w.heap.size, 1, none⟩) (by show w.heap.size < _; omega)).trans h.i1, (hb.cell (p := ⟨w.heap.size + 1, 0, none⟩) (by show w.heap.size + 1 < _; omega)).trans h.e0, (hb.cell (p := ⟨w.heap.size + 1, 1, none⟩) (by show w.heap.size + 1 < _; omega)).trans h.e1, h.below.trans (hb.mono h.below.size), h.rules.on hb, h.attrs.under hb, Nat.le_trans hs hb.size⟩
theorem sliceA_set {w : World} {E i : Nat} {ao : Option Addr} {zs : List At} (h : SliceA w ao zs) (hE : ∀ g off, ao = some ⟨g, off, none⟩ → E < g) (v : Value) : SliceA (w.setCell ⟨E, i, none⟩ v) ao zs := by
  rcases h with h | ⟨b, off, h1, h3, h4⟩
  · exact Or.inl h
  · have hb := hE b off h1
    refine Or.inr ⟨b, off, h1, by simpa using h3, fun j hj c u hu => ?_⟩
    have hne : (⟨E, i, none⟩ : Addr) ≠ ⟨b, off + j * 6 + c, none⟩ := fun e => by injection e; omega
    rw [World.cell?_setCell_other _ _ _ _ (by first | exact hne | exact hne.symm)]
    exact h4 j hj c u hu

set_option maxHeartbeats 16000000 in
theorem aclPublishes_c (ao : Option Addr) (cap : Nat) (rs : List Ru) (a b : Int) (s : ByteArray) (co : Option Addr) (ccap : Nat) (zs : List At) (w : World) (hm : MaxI w) (hR : RulesB w.heap.size w ao rs) (hI : ∀ q ∈ rs, RuIs MB w q) (hb : rs.length * 104 ≤ MB) (hz : SliceA w co zs) (hzo : ∀ x ∈ zs, AtW MB x) (hzb : zs.length * 64 ≤ MB) (_hsz : s.size ≤ MB) :
    Calls Tryd.prog 4 #[.slice ao rs.length cap, .agg #[.int .i64 a, .int .i64 b], evt s co zs.length ccap] w fun e w' => e = .returned (.bool true) ∧ Below w.heap.size w w' := by
  have hlr : rs.length ≤ 4611686018427387904 := by unfold MB at hb; omega
  have hlz : zs.length ≤ 4611686018427387904 := by unfold MB at hzb; omega
  have HFT : Aside (∀ W, Below w.heap.size w W → Calls Tryd.prog 7 #[] W fun e w' => e = .returned (.bool true) ∧ Below W.heap.size W w') := fun W hW => fit10_c W (hm.below hW)
  have HLT : Aside (∀ W, Below w.heap.size w W → Calls Tryd.prog 8 #[.slice ao rs.length cap] W fun e w' => e = .returned (.bool (lightR rs)) ∧ Below W.heap.size W w') := fun W hW => light10_c ao cap rs W (hR.on hW) hlr (fun r hr => (ruIs_ok2 (hI r hr)).2)
  have HRS : Aside (lightR rs = true → ∀ W, Below w.heap.size w W → Calls Tryd.prog 13 #[.slice ao rs.length cap] W fun e w' => ∃ bo bcap, e = .returned (.slice bo (rs.filter rrightB).length bcap) ∧ Aside (RowsN W.heap.size w' bo (rs.filter rrightB) ∧ Below W.heap.size W w')) := fun h W hW => by
    obtain ⟨h1, h2⟩ := lightR_all h hI
    exact rights_c ao cap rs W (hR.on hW) (by omega) (fun r hr => ⟨(ruIs_ok2 (hI r hr)).2, Nat.le_trans (h2 r hr).1 (by decide)⟩) (hm.below hW)
  have HEV : Aside (s.size ≤ 60 → zs.length ≤ 20 → ∀ W, Below w.heap.size w W → Calls Tryd.prog 14 #[.string s, .slice co zs.length ccap] W fun e w' => ∃ bo bcap es, e = .returned (.agg #[.string (scopeE s), .slice bo es.length bcap]) ∧ Aside (EvtIs W w' bo zs es) ∧ Aside (∀ g off, bo = some ⟨g, off, none⟩ → W.heap.size ≤ g)) := fun h h2 W hW =>
    event_cN s co ccap zs W (by omega) (hz.under hW) (by omega) (hm.below hW)
  have HOK : Aside (∀ (W1 W2 : World) (eo : Option Addr) (es : List At), EvtIs W1 W2 eo zs es → (∀ x ∈ es, AtOk x ∧ x.s.size ≤ 9223372036854775807) ∧ es.length ≤ 8 ∧ Below W1.heap.size W1 W2 ∧ SliceA W2 eo es) := fun W1 W2 eo es h => by
    have h1 := evt_ok h hzo
    have h2 := evt_len h
    obtain ⟨_, _, _, h3, h4⟩ := h
    exact ⟨fun x hx => ⟨(h1 x hx).1, Nat.le_trans (h1 x hx).2 (by decide)⟩, h2, h4, h3⟩
  obtain ⟨L, hL⟩ : ∃ L, L = rs.filter rrightB := ⟨_, rfl⟩
  have hLm : ∀ r ∈ L, r ∈ rs ∧ rrightB r = true := fun r hr => by rw [hL] at hr; exact List.mem_filter.1 hr
  have hLn : lightR rs = true → L.length ≤ 80 := fun h => by
    rw [hL]; exact Nat.le_trans (List.length_filter_le _ _) (lightR_all h hI).1
  have HRL : Aside (∀ W, Below w.heap.size w W → ∀ r ∈ L, CondsB W.heap.size W r.co r.cs) := fun W h r hr => (hR.2 r (hLm r hr).1).on h
  have HHO : Aside (lightR rs = true → ∀ (bo : Option Addr) (bcap : Nat) (W : World) (tn : Int) (who : ByteArray), RulesB W.heap.size W bo L → Calls Tryd.prog 15 #[.slice bo L.length bcap, .int .i64 tn, .string who] W fun e w' => e = .returned (.tuple #[.int .i64 (homeI L tn who), .bool (homeB L tn who)]) ∧ Below W.heap.size W w') := fun h bo bcap W tn who hRW => home_c bo bcap L tn who W hRW (by have := hLn h; omega)
  have HRH : Aside (lightR rs = true → ∀ (bo : Option Addr) (bcap : Nat) (W : World) (tn : Int) (who : ByteArray), RulesB W.heap.size W bo L → Calls Tryd.prog 16 #[.slice bo L.length bcap, .int .i64 tn, .string who] W fun e w' => e = .returned (.int .i64 (rhomeI L tn who)) ∧ W = w') := fun h bo bcap W tn who hRW => rhome_c bo bcap L tn who W hRW (by have := hLn h; omega)
  have HMP : Aside (lightR rs = true → ∀ (bo : Option Addr) (bcap : Nat) (eo : Option Addr) (ecap : Nat) (es : List At) (W : World) (tn : Int) (who : ByteArray), (∀ x ∈ es, AtOk x ∧ x.s.size ≤ 9223372036854775807) → es.length ≤ 8 → SliceA W eo es → RulesB W.heap.size W bo L → Calls Tryd.prog 17 #[.slice bo L.length bcap, .int .i64 tn, .string who, evt (scopeE s) eo es.length ecap] W fun e w' => e = .returned (.bool (mayPub L tn who (scopeE s) es)) ∧ Below W.heap.size W w') := fun h bo bcap eo ecap es W tn who ho hl8 hsE hRW =>
    mayPublish_c bo bcap L tn who (scopeE s) eo ecap es W hRW (by have := hLn h; omega) (fun r hr hk => ruIs_ok (hI r (hLm r hr).1) (hLm r hr).2 (Or.inl hk)) hsE (fun x hx => (ho x hx).1) (by omega)
  have HRP : Aside (lightR rs = true → ∀ (bo : Option Addr) (bcap : Nat) (eo : Option Addr) (ecap : Nat) (es : List At) (W : World) (tn : Int) (who : ByteArray), (∀ x ∈ es, AtOk x ∧ x.s.size ≤ 9223372036854775807) → es.length ≤ 8 → SliceA W eo es → RulesB W.heap.size W bo L → Calls Tryd.prog 18 #[.slice bo L.length bcap, .int .i64 tn, .string who, evt (scopeE s) eo es.length ecap] W fun e w' => e = .returned (.bool (mayPub L tn who (scopeE s) es)) ∧ Below W.heap.size W w') := fun h bo bcap eo ecap es W tn who ho hl8 hsE hRW => by
    have h2 := rMayPublish_c bo bcap L tn who (scopeE s) eo ecap es W hRW (by have := hLn h; omega) (fun r hr => ruIs_ok2 (hI r (hLm r hr).1)) hsE ho (by omega)
    rw [mayPub_ref (fun r hr => (hLm r hr).2)] at h2
    exact h2
  have HHW : Aside (∀ tn who, (homeB L tn who = false ∧ homeI L tn who = 0 ∧ rhomeI L tn who = -1) ∨ (homeB L tn who = true ∧ rhomeI L tn who = homeI L tn who ∧ 0 ≤ homeI L tn who)) := home_ways fun r hr => (hLm r hr).2
  rw [← hL] at HRS
  generalize lightR rs = lt at *
  generalize scopeE s = sE at *
  obtain ⟨N, hN⟩ : ∃ N, N = L.length := ⟨_, rfl⟩
  rw [← hN] at HRS HMP HRP HHO HRH
  obtain ⟨n, hn⟩ : ∃ n, n = zs.length := ⟨_, rfl⟩
  rw [← hn] at HEV ⊢
  generalize rs.length = nr at *
  have z2 : w.heap.size + 2 ≤ ((w.alloc (.cells #[.int .i64 a, .int .i64 b] 33)).alloc (.cells #[.string s, .slice co n ccap] 36)).heap.size := by simp
  have HB0 : Aside (Below w.heap.size w ((w.alloc (.cells #[.int .i64 a, .int .i64 b] 33)).alloc (.cells #[.string s, .slice co n ccap] 36))) := ((Below.refl _ _).alloc (Nat.le_refl _) _).alloc (by simp) _
  have HKP : Aside (∀ W, Below (w.heap.size + 2) ((w.alloc (.cells #[.int .i64 a, .int .i64 b] 33)).alloc (.cells #[.string s, .slice co n ccap] 36)) W → (W.cell? ⟨w.heap.size, 0, none⟩ = some (.int .i64 a) ∧ W.cell? ⟨w.heap.size, 1, none⟩ = some (.int .i64 b)) ∧ W.cell? ⟨w.heap.size + 1, 0, none⟩ = some (.string s) ∧ W.cell? ⟨w.heap.size + 1, 1, none⟩ = some (.slice co n ccap) ∧ W.frozen? ⟨w.heap.size + 1, 0, none⟩ = false ∧ W.frozen? ⟨w.heap.size + 1, 1, none⟩ = false) := fun W hW => by
    obtain ⟨va, vb⟩ := two_lay hW
    have ho : W.heap[w.heap.size + 1]? = some (.cells #[.string s, .slice co n ccap] 36) := by
      refine (hW.block (w.heap.size + 1) (by omega)).trans ?_
      rw [show w.heap.size + 1 = (w.alloc (.cells #[.int .i64 a, .int .i64 b] 33)).heap.size by simp]
      exact Array.getElem?_push_size
    exact ⟨⟨va 0 _ rfl, va 1 _ rfl⟩, vb 0 _ rfl, vb 1 _ rfl, by simp [World.frozen?, ho], by simp [World.frozen?, ho]⟩
  clear hm hR hI hb hz hzo hzb hlr hlz hLm hLn hL hN hn
  go_enter Tryd.func4, Tryd.ntmps4
  go_wp2_with fail
  generalize hW0 : ((w.alloc (.cells #[.int .i64 a, .int .i64 b] 33)).alloc (.cells #[.string s, .slice co n ccap] 36)) = w0 at *
  refine (HFT.out _ HB0.out).mono ?_
  rintro e w1 ⟨rfl, hb⟩
  have HA1 : Aside (Below (w.heap.size + 2) w0 w1) := hb.mono z2
  clear hb HFT
  go_wp2_with fail
  refine (HLT.out _ (HB0.out.trans (HA1.out.mono (by omega)))).mono ?_
  rintro e w2 ⟨rfl, hb⟩
  have HA2 : Aside (Below (w.heap.size + 2) w0 w2) := HA1.out.trans (hb.mono (Nat.le_trans z2 HA1.out.size))
  clear hb HLT HA1
  cases lt
  · go_wp2_with fail
    go_ret
    exact ⟨rfl, HB0.out.trans (HA2.out.mono (by omega))⟩
  obtain ⟨⟨y0, y1⟩, x0, x1, _, _⟩ := HKP.out _ HA2.out
  by_cases h60 : 60 < s.size
  · have h60z : (60 : Int) < (s.size : Int) := by omega
    have hd : decide ((60 : Int) < (s.size : Int)) = true := decide_eq_true h60z
    go_wp2_with fail
    go_ret
    exact ⟨rfl, HB0.out.trans (HA2.out.mono (by omega))⟩
  have h60z : ¬ (60 : Int) < (s.size : Int) := by omega
  have hd : decide ((60 : Int) < (s.size : Int)) = false := decide_eq_false h60z
  by_cases h20 : 20 < n
  · have h20z : (20 : Int) < (n : Int) := by omega
    have hd2 : decide ((20 : Int) < (n : Int)) = true := decide_eq_true h20z
    go_wp2_with fail
    go_ret
    exact ⟨rfl, HB0.out.trans (HA2.out.mono (by omega))⟩
  have h20z : ¬ (20 : Int) < (n : Int) := by omega
  have hd2 : decide ((20 : Int) < (n : Int)) = false := decide_eq_false h20z
  have HRS' := Lib.hid (HRS.out (by first | trivial | rfl))
  have HHO' := Lib.hid (HHO.out (by first | trivial | rfl))
  have HRH' := Lib.hid (HRH.out (by first | trivial | rfl))
  have HMP' := Lib.hid (HMP.out (by first | trivial | rfl))
  have HRP' := Lib.hid (HRP.out (by first | trivial | rfl))
  have HEV' := Lib.hid (HEV.out (by omega) (by omega))
  clear HRS HHO HRH HMP HRP HEV
  go_wp2_with fail
  clear h60z hd h20z hd2 h60 h20 y0 y1 x0 x1
  refine (HRS'.out _ (HB0.out.trans (HA2.out.mono (by omega)))).mono ?_
  rintro e w5 ⟨bo, bcap, rfl, HN5⟩
  have HA5 : Aside (Below (w.heap.size + 2) w0 w5) := HA2.out.trans (HN5.out.2.mono (Nat.le_trans z2 HA2.out.size))
  have HR5 : Aside (RowsN (w.heap.size + 2) w5 bo L) := HN5.out.1.down (Nat.le_trans z2 HA2.out.size)
  clear HRS' HN5 HA2
  obtain ⟨⟨y0, y1⟩, x0, x1, _, _⟩ := HKP.out _ HA5.out
  go_wp2_with fail
  clear y0 y1 x0 x1
  refine (HEV'.out _ (HB0.out.trans (HA5.out.mono (by omega)))).mono ?_
  rintro e w6 ⟨eo, ecap, es, rfl, HE6, HG6⟩
  obtain ⟨hok, hl8, hb6, hs6⟩ := HOK.out _ _ _ _ HE6.out
  have HOK6 := Lib.hid hok
  have HL8 := Lib.hid hl8
  have HA6 : Aside (Below (w.heap.size + 2) w0 w6) := HA5.out.trans (hb6.mono (Nat.le_trans z2 HA5.out.size))
  obtain ⟨⟨y0, y1⟩, x0, x1, f0, f1⟩ := HKP.out _ HA6.out
  have HP7 : Aside (PubW w w5 a b L bo sE eo es ecap ((w6.setCell ⟨w.heap.size + 1, 0, none⟩ (.string sE)).setCell ⟨w.heap.size + 1, 1, none⟩ (.slice eo es.length ecap))) := by
    have hbw : Below w.heap.size w ((w6.setCell ⟨w.heap.size + 1, 0, none⟩ (.string sE)).setCell ⟨w.heap.size + 1, 1, none⟩ (.slice eo es.length ecap)) := ((HB0.out.trans (HA6.out.mono (by omega))).setCell (p := ⟨w.heap.size + 1, 0, none⟩) (by show w.heap.size ≤ w.heap.size + 1; omega) _).setCell (p := ⟨w.heap.size + 1, 1, none⟩) (by show w.heap.size ≤ w.heap.size + 1; omega) _
    have hg : ∀ g off, eo = some ⟨g, off, none⟩ → w.heap.size + 1 < g := fun g off e => by
      have := HG6.out g off e
      have := Nat.le_trans z2 HA5.out.size
      omega
    have ne0 : ∀ i j, (⟨w.heap.size + 1, i, none⟩ : Addr) ≠ ⟨w.heap.size, j, none⟩ := fun i j e => by injection e; omega
    have ne1 : (⟨w.heap.size + 1, 1, none⟩ : Addr) ≠ ⟨w.heap.size + 1, 0, none⟩ := fun e => by injection e; omega
    have oth : ∀ (W : World) (p q : Addr) (v : Value), p ≠ q → (W.setCell p v).cell? q = W.cell? q := fun W p q v h => by rw [World.cell?_setCell_other _ _ _ _ (by first | exact h | exact h.symm)]
    refine ⟨?_, ?_, ?_, ?_, hbw, ?_, ?_, by have := Nat.le_trans z2 HA6.out.size; simpa using this⟩
    · rw [oth _ _ _ _ (ne0 1 0), oth _ _ _ _ (ne0 0 0)]; exact y0
    · rw [oth _ _ _ _ (ne0 1 1), oth _ _ _ _ (ne0 0 1)]; exact y1
    · rw [oth _ _ _ _ ne1]; exact World.cell?_setCell_same _ _ _ x0
    · exact World.cell?_setCell_same _ _ _ ((oth _ _ _ _ ne1.symm).trans x1)
    · exact (((HR5.out.on hb6).set (by omega) _).set (by omega) _).rules (HRL.out _ hbw)
    · exact sliceA_set (sliceA_set hs6 hg _) hg _
  clear hok hl8 hb6 hs6 HE6 HG6 HOK HRL HR5 HA5 HA6
  go_upto_region 7 with fail
  clear y0 y1 x0 x1 f0 f1 HKP
  generalize ((w6.setCell ⟨w.heap.size + 1, 0, none⟩ (.string sE)).setCell ⟨w.heap.size + 1, 1, none⟩ (.slice eo es.length ecap)) = w7 at *
  have y0 := HP7.out.i0
  have y1 := HP7.out.i1
  go_cut [7, 8] (fun s7 s8 wx => s7 = .int .i64 (bits .and .i64 a 1) ∧ s8 = .string (who4 b) ∧ Aside (Below w7.heap.size w7 wx))
  case first =>
    have HD : Aside (∀ o : Obj, Below w7.heap.size w7 (w7.alloc o) ∧ Below w7.heap.size w7 (w7.drew.alloc o) ∧ Below w7.heap.size w7 (w7.alloc o).drew) := fun o => ⟨(Below.refl _ _).alloc (Nat.le_refl _) _, (below_drew1 w7).alloc (Nat.le_refl _) _, ((Below.refl _ _).alloc (Nat.le_refl _) _).trans ((below_drew1 (w7.alloc o)).mono (show w7.heap.size ≤ (w7.alloc o).heap.size by simp))⟩
    have hW4 : Aside (who4 b = if bits .and .i64 b 3 = 0 then ⟨#[97]⟩ else if bits .and .i64 b 3 = 1 then ⟨#[98]⟩ else if bits .and .i64 b 3 = 2 then ⟨#[99]⟩ else ⟨#[100]⟩) := rfl
    generalize who4 b = wh at *
    have c4 := World.cell?_alloc_new w7 #[.string ⟨#[97]⟩, .string ⟨#[98]⟩, .string ⟨#[99]⟩, .string ⟨#[100]⟩] 9
    have g0 := c4 0; have g1 := c4 1; have g2 := c4 2; have g3 := c4 3
    simp only [List.getElem?_toArray, List.getElem?_cons_zero, List.getElem?_cons_succ] at g0 g1 g2 g3
    have y0a := fun o => Lib.cell?_alloc_some (W := w7) o y0
    have y1a := fun o => Lib.cell?_alloc_some (W := w7) o y1
    clear c4
    rcases and4 b with h4 | h4 | h4 | h4
    all_goals
      rw [h4] at hW4
      have hw4 := hW4.out
      simp only [reduceIte, Int.reduceEq] at hw4
      subst hw4
      clear hW4
      go_region
      all_goals
        go_wp2_with fail
        go_meet
        first | exact ⟨rfl, rfl, (HD.out _).2.2⟩ | exact ⟨rfl, rfl, (HD.out _).1⟩ | exact ⟨rfl, rfl, (HD.out _).2.1⟩
  case rest =>
    obtain ⟨rfl, rfl, HB8⟩ := hcut
    have HP8 := Lib.hid (HP7.out.on HB8.out)
    generalize bits .and .i64 a 1 = tn at *
    generalize who4 b = who at *
    have HH9 := Lib.hid (HHO'.out bo bcap wc tn who HP8.out.rules)
    have HW := Lib.hid (HHW.out tn who)
    generalize homeB L tn who = hB at *
    generalize homeI L tn who = hI at *
    clear HHO' y0 y1 HP7 HB8 HHW HB0 hW0 z2
    go_wp2_with fail
    refine HH9.out.mono ?_
    rintro e w9 ⟨rfl, hb⟩
    have HP9 := Lib.hid (HP8.out.on hb)
    clear hb HH9 HP8
    have HR9 := Lib.hid (HRH'.out bo bcap w9 tn who HP9.out.rules)
    generalize rhomeI L tn who = rI at *
    clear HRH'
    go_wp2_with fail
    refine HR9.out.mono ?_
    rintro e w10 ⟨rfl, rfl⟩
    clear HR9
    go_upto_region 10 with fail
    have KK := fun p : BW w9 => HP9.out.on p.h
    have x0 : ∀ p : BW w9, p.W.cell? ⟨w.heap.size + 1, 0, none⟩ = some (.string sE) := fun p => (KK p).e0
    have x1 : ∀ p : BW w9, p.W.cell? ⟨w.heap.size + 1, 1, none⟩ = some (.slice eo es.length ecap) := fun p => (KK p).e1
    have hA : ∀ p : BW w9, Calls Tryd.prog 17 #[.slice bo N bcap, .int .i64 tn, .string who, evt sE eo es.length ecap] p.W fun e w'' => e = .returned (.bool (mayPub L tn who sE es)) ∧ ∃ q : BW w9, w'' = q.W := fun p => (HMP'.out bo bcap eo ecap es p.W tn who HOK6.out HL8.out (KK p).attrs (KK p).rules).mono fun _ _ q => ⟨q.1, ⟨⟨_, p.h.trans (q.2.mono p.h.size)⟩, rfl⟩⟩
    have hC : ∀ p : BW w9, Calls Tryd.prog 18 #[.slice bo N bcap, .int .i64 tn, .string who, evt sE eo es.length ecap] p.W fun e w'' => e = .returned (.bool (mayPub L tn who sE es)) ∧ ∃ q : BW w9, w'' = q.W := fun p => (HRP'.out bo bcap eo ecap es p.W tn who HOK6.out HL8.out (KK p).attrs (KK p).rules).mono fun _ _ q => ⟨q.1, ⟨⟨_, p.h.trans (q.2.mono p.h.size)⟩, rfl⟩⟩
    have HFIN := Lib.hid (fun p : BW w9 => (KK p).below)
    generalize mayPub L tn who sE es = m at *
    generalize es.length = en at *
    clear KK HMP' HRP' HOK6 HL8 HP9
    have hmm : (m == m) = true := by simp
    have htt : (true == true) = true := rfl
    have hff : (false == false) = true := rfl
    rcases HW.out with ⟨rfl, rfl, rfl⟩ | ⟨rfl, rfl, h0⟩
    · clear HW
      have hdn : decide ((0 : Int) ≤ -1) = false := by decide
      refine wp_region_bw (by kernel_rfl) (by kernel_rfl) ?_
      repeat (quiet_step (first | (go_at_call 17; exact hA _) | (go_at_call 18; exact hC _)))
      refine wpQuiet_nil ?_
      intro w2 hw'
      obtain ⟨pw, hw2⟩ := hw'
      have hX := HFIN.out pw
      rw [← hw2] at hX
      have HX := Lib.hid hX
      clear x0 x1 hA hC hX hw2 pw HFIN
      go_wp2_with fail
      go_ret
      exact ⟨by first | rfl | (rw [hmm]) | simp, HX.out⟩
    · clear HW
      have hdn : decide ((0 : Int) ≤ rI) = true := decide_eq_true h0
      have hrr : (rI == rI) = true := by simp
      refine wp_region_bw (by kernel_rfl) (by kernel_rfl) ?_
      repeat (quiet_step (first | (go_at_call 17; exact hA _) | (go_at_call 18; exact hC _)))
      refine wpQuiet_nil ?_
      intro w2 hw'
      obtain ⟨pw, hw2⟩ := hw'
      have hX := HFIN.out pw
      rw [← hw2] at hX
      have HX := Lib.hid hX
      clear x0 x1 hA hC hX hw2 pw HFIN
      go_wp2_with fail
      go_ret
      exact ⟨by first | rfl | (rw [hmm]) | simp, HX.out⟩
end Go.Proofs.YtliobglhppejiaaDoor
