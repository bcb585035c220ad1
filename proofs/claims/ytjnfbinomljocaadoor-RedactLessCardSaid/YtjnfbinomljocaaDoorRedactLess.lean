/- RedactLess: what a principal may see is never more than there is; a filter that has it has the whole event. -/
import Derived.Test.YtjnfbinomljocaaDoorHdF
import Derived.Test.YtjnfbinomljocaaDoorGetsL
import Derived.Deep.DeepCutAuto
import Derived.Deep.RegionWith
namespace Go.Proofs.YtjnfbinomljocaaDoor
open Go.RowKit Go.Shelf Go.Sort
open Go.Proofs
set_option maxRecDepth 100000
attribute [local irreducible] wpQuiet

/-! ### Plainly -/
/-- As many as are kept of the first j; the next one that is kept. -/
def keptK (es : List At) (H : List ByteArray) (j : Nat) : Nat := (withoutL (es.take j) H).length
theorem keptK_succ (es : List At) (H : List ByteArray) (j : Nat) (hj : j < es.length) : keptK es H (j + 1) = if Lib.containsS H (es[j]!).nm then keptK es H j else keptK es H j + 1 := by
  unfold keptK
  rw [take_succ es j hj, withoutL_snoc]
  cases Lib.containsS H (es[j]!).nm <;> simp
theorem kept_split (es : List At) (H : List ByteArray) (j : Nat) : withoutL es H = withoutL (es.take j) H ++ withoutL (es.drop j) H := by
  unfold withoutL
  rw [← List.filter_append, List.take_append_drop]
theorem kept_yes (es : List At) (H : List ByteArray) (j : Nat) (hj : j < es.length) (h : Lib.containsS H (es[j]!).nm = false) : keptK es H j < (withoutL es H).length ∧ (withoutL es H)[keptK es H j]! = es[j]! := by
  have hd : es.drop j = es[j]! :: es.drop (j + 1) := by
    rw [getElem!_pos es j hj]; exact (List.drop_eq_getElem_cons hj)
  have e : withoutL es H = withoutL (es.take j) H ++ (es[j]! :: withoutL (es.drop (j + 1)) H) := by
    rw [kept_split es H j, hd]
    congr 1
    unfold withoutL
    rw [List.filter_cons_of_pos (by rw [h]; rfl)]
  have hl : keptK es H j < (withoutL es H).length := by
    rw [e]; unfold keptK; simp
  refine ⟨hl, ?_⟩
  rw [getElem!_pos (withoutL es H) _ hl]
  have e2 : (withoutL es H)[keptK es H j]? = some es[j]! := by
    rw [e]
    unfold keptK
    rw [List.getElem?_append_right (Nat.le_refl _), Nat.sub_self]; rfl
  exact (List.getElem?_eq_some_iff.1 e2).2
theorem kept_no (es : List At) (H : List ByteArray) (j k : Nat) (hk : k < (withoutL es H).length) (h : Lib.containsS H (es[j]!).nm = true) : (((withoutL es H)[k]!).nm.toList == (es[j]!).nm.toList) = false := by
  have hm : (withoutL es H)[k]! ∈ withoutL es H := by rw [getElem!_pos (withoutL es H) _ hk]; exact List.getElem_mem _
  have h2 := (List.mem_filter.1 hm).2
  cases hq : (((withoutL es H)[k]!).nm.toList == (es[j]!).nm.toList) with
  | false => rfl
  | true =>
    have h3 := eq_of_beq hq
    rw [bytes_toList, bytes_toList] at h3
    have h4 : ((withoutL es H)[k]!).nm = (es[j]!).nm := by rw [← bsOf_data ((withoutL es H)[k]!).nm, h3, bsOf_data]
    rw [h4, h] at h2
    cases h2
/-- What behind the law's own store of the event is so in every later world. -/
structure LessW (w : World) (L : List Ru) (bo : Option Addr) (sE : ByteArray) (eo : Option Addr) (es : List At) (ecap : Nat) (sc : ByteArray) (fo : Option Addr) (fn fcap : Nat) (W : World) : Prop where
  e0 : W.cell? ⟨w.heap.size, 0, none⟩ = some (.string sE)
  e1 : W.cell? ⟨w.heap.size, 1, none⟩ = some (.slice eo es.length ecap)
  g0 : W.cell? ⟨w.heap.size + 1, 0, none⟩ = some (.string sc)
  g1 : W.cell? ⟨w.heap.size + 1, 1, none⟩ = some (.slice fo fn fcap)
  below : Below w.heap.size w W
  rules : RulesB W.heap.size W bo L
  attrs : SliceA W eo es
  size : w.heap.size + 2 ≤ W.heap.size
theorem LessW.on {w : World} {L : List Ru} {bo : Option Addr} {sE : ByteArray} {eo : Option Addr} {es : List At} {ecap : Nat} {sc : ByteArray} {fo : Option Addr} {fn fcap : Nat} {W W' : World} (h : LessW w L bo sE eo es ecap sc fo fn fcap W) (hb : Below W.heap.size W W') : LessW w L bo sE eo es ecap sc fo fn fcap W' := by
  have hs := h.size
  exact ⟨(hb.cell (p := ⟨w.heap.size, 0, none⟩) (by show w.heap.size < _; omega)).trans h.e0, (hb.cell (p := ⟨w.heap.size, 1, none⟩) (by show w.heap.size < _; omega)).trans h.e1, (hb.cell (p := ⟨w.heap.size + 1, 0, none⟩) (by show w.heap.size + 1 < _; omega)).trans h.g0, (hb.cell (p := ⟨w.heap.size + 1, 1, none⟩) (by show w.heap.size + 1 < _; omega)).trans h.g1, h.below.trans (hb.mono h.below.size), h.rules.on hb, h.attrs.under hb, Nat.le_trans hs hb.size⟩

set_option maxHeartbeats 16000000 in
theorem redactLess_c (ao : Option Addr) (cap : Nat) (rs : List Ru) (s : ByteArray) (co : Option Addr) (ccap : Nat) (zs : List At) (sc : ByteArray) (fo : Option Addr) (fcap : Nat) (cs : List Cn) (w : World) (hm : MaxI w) (hR : RulesB w.heap.size w ao rs) (hI : ∀ q ∈ rs, RuIs MB w q) (hb : rs.length * 104 ≤ MB) (hz : SliceA w co zs) (hzo : ∀ x ∈ zs, AtW MB x) (hzb : zs.length * 64 ≤ MB) (_hsz : s.size ≤ MB) (hF : FilIs MB w sc fo cs) :
    Calls Tryd.prog 5 #[.slice ao rs.length cap, evt s co zs.length ccap, fil sc fo cs.length fcap] w fun e w' => e = .returned (.bool true) ∧ Below w.heap.size w w' := by
  have hlc : cs.length ≤ 4611686018427387904 := by have := hF.2.2.1; unfold MB at this; omega
  have hlr : rs.length ≤ 4611686018427387904 := by unfold MB at hb; omega
  have hlz : zs.length ≤ 4611686018427387904 := by unfold MB at hzb; omega
  have HFT : Aside (∀ W, Below w.heap.size w W → Calls Tryd.prog 6 #[] W fun e w' => e = .returned (.bool true) ∧ Below W.heap.size W w') := fun W hW => fit11_c W (hm.below hW)
  have HLT : Aside (∀ W, Below w.heap.size w W → Calls Tryd.prog 7 #[.slice ao rs.length cap] W fun e w' => e = .returned (.bool (lightR rs)) ∧ Below W.heap.size W w') := fun W hW => light10_c ao cap rs W (hR.on hW) hlr (fun r hr => (ruIs_ok2 (hI r hr)).2)
  have HRS : Aside (lightR rs = true → ∀ W, Below w.heap.size w W → Calls Tryd.prog 8 #[.slice ao rs.length cap] W fun e w' => ∃ bo bcap, e = .returned (.slice bo (rs.filter rrightB).length bcap) ∧ Aside (RowsN W.heap.size w' bo (rs.filter rrightB) ∧ Below W.heap.size W w')) := fun h W hW => by
    obtain ⟨h1, h2⟩ := lightR_all h hI
    exact rights_c ao cap rs W (hR.on hW) (by omega) (fun r hr => ⟨(ruIs_ok2 (hI r hr)).2, Nat.le_trans (h2 r hr).1 (by decide)⟩) (hm.below hW)
  have HEV : Aside (s.size ≤ 60 → zs.length ≤ 20 → ∀ W, Below w.heap.size w W → Calls Tryd.prog 9 #[.string s, .slice co zs.length ccap] W fun e w' => ∃ bo bcap es, e = .returned (.agg #[.string (scopeE s), .slice bo es.length bcap]) ∧ Aside (EvtIs W w' bo zs es) ∧ Aside (∀ g off, bo = some ⟨g, off, none⟩ → W.heap.size ≤ g)) := fun h h2 W hW =>
    event_cN s co ccap zs W (by omega) (hz.under hW) (by omega) (hm.below hW)
  have HOK : Aside (∀ (W1 W2 : World) (eo : Option Addr) (es : List At), EvtIs W1 W2 eo zs es → (∀ x ∈ es, AtOk x ∧ x.s.size ≤ 9223372036854775807) ∧ es.length ≤ 8 ∧ Below W1.heap.size W1 W2 ∧ SliceA W2 eo es) := fun W1 W2 eo es h => by
    have h1 := evt_ok h hzo
    have h2 := evt_len h
    obtain ⟨_, _, _, h3, h4⟩ := h
    exact ⟨fun x hx => ⟨(h1 x hx).1, Nat.le_trans (h1 x hx).2 (by decide)⟩, h2, h4, h3⟩
  obtain ⟨L, hL⟩ : ∃ L, L = rs.filter rrightB := ⟨_, rfl⟩
  have hLm : ∀ r ∈ L, r ∈ rs ∧ rrightB r = true := fun r hr => by rw [hL] at hr; exact List.mem_filter.1 hr
  have hLn : lightR rs = true → L.length ≤ 80 := fun h => by
    rw [hL]; exact Nat.le_trans (List.length_filter_le _ _) (lightR_all h hI).1
  have HRL : Aside (∀ W, Below w.heap.size w W → ∀ r ∈ L, CondsB W.heap.size W r.co r.cs) := fun W h r hr => (hR.2 r (hLm r hr).1).on h
  have HXL : ∀ r ∈ L, ∀ tn who, ofR r 3 tn who = true → r.sc.size ≤ 300 := fun r hr tn who h => Nat.le_trans (hide_scope (hLm r hr).2 h) (by decide)
  have HRE : Aside (lightR rs = true → ∀ (bo : Option Addr) (bcap : Nat) (eo : Option Addr) (ecap : Nat) (es : List At) (W : World) (tn : Int) (who : ByteArray), es.length ≤ 8 → SliceA W eo es → RulesB W.heap.size W bo L → Calls Tryd.prog 10 #[.slice bo L.length bcap, .int .i64 tn, .string who, evt (scopeE s) eo es.length ecap] W fun e w' => ∃ ro rcap, e = .returned (.agg #[.string (scopeE s), .slice ro (withoutL es (hidN L tn who (scopeE s))).length rcap]) ∧ Aside (SliceA w' ro (withoutL es (hidN L tn who (scopeE s))) ∧ Below W.heap.size W w')) := fun h bo bcap eo ecap es W tn who h8 hS hR => revent_c bo bcap L tn who (scopeE s) eo ecap es W hR (by have := hLn h; omega) (fun r hr => HXL r hr tn who) hS (by omega)
  have HLF : Aside (∀ W, Below w.heap.size w W → Calls Tryd.prog 17 #[fil sc fo cs.length fcap] W fun e w' => e = .returned (.bool (lightF sc cs)) ∧ Below W.heap.size W w') := fun W hW => flight_c sc fo fcap cs W (hF.1.on hW) hlc
  have HMT : Aside (∀ (W : World) (xo : Option Addr) (xcap : Nat) (sq : ByteArray) (l : List At), Below w.heap.size w W → SliceA W xo l → (∀ a ∈ l, AtOk a ∧ a.s.size ≤ 9223372036854775807) → l.length ≤ 8 → Calls Tryd.prog 18 #[fil sc fo cs.length fcap, evt sq xo l.length xcap] W fun e w' => e = .returned (.bool (matchF sc cs sq l)) ∧ Below W.heap.size W w') := fun W xo xcap sq l hW hS ho h8 =>
    rmatch_c sc fo fcap cs sq xo xcap l W (hF.1.on hW) (fun c hc => ⟨(hF.2.1 c hc).1, Nat.le_trans (hF.2.1 c hc).2.2.2 (by decide)⟩) hlc hS ho (by omega)
  have HMM : Aside (∀ (sq : ByteArray) (l m : List At), (∀ a ∈ l, a ∈ m) → matchF sc cs sq l = true → matchF sc cs sq m = true) := fun sq l m h1 h2 => match_more h1 h2
  rw [← hL] at HRS
  generalize lightR rs = lt at *
  generalize lightF sc cs = lf at *
  obtain ⟨mt, hmt⟩ : ∃ mt : ByteArray → List At → Bool, ∀ q l, mt q l = matchF sc cs q l := ⟨_, fun _ _ => rfl⟩
  simp only [← hmt] at HMT HMM
  generalize scopeE s = sE at *
  obtain ⟨N, hN⟩ : ∃ N, N = L.length := ⟨_, rfl⟩
  rw [← hN] at HRS HRE
  obtain ⟨n, hn⟩ : ∃ n, n = zs.length := ⟨_, rfl⟩
  rw [← hn] at HEV ⊢
  generalize rs.length = nr at *
  generalize cs.length = fn at *
  have z2 : w.heap.size + 2 ≤ ((w.alloc (.cells #[.string s, .slice co n ccap] 26)).alloc (.cells #[.string sc, .slice fo fn fcap] 41)).heap.size := by simp
  have HB0 : Aside (Below w.heap.size w ((w.alloc (.cells #[.string s, .slice co n ccap] 26)).alloc (.cells #[.string sc, .slice fo fn fcap] 41))) := ((Below.refl _ _).alloc (Nat.le_refl _) _).alloc (by simp) _
  have HKP : Aside (∀ W, Below (w.heap.size + 2) ((w.alloc (.cells #[.string s, .slice co n ccap] 26)).alloc (.cells #[.string sc, .slice fo fn fcap] 41)) W → (W.cell? ⟨w.heap.size, 0, none⟩ = some (.string s) ∧ W.cell? ⟨w.heap.size, 1, none⟩ = some (.slice co n ccap)) ∧ W.cell? ⟨w.heap.size + 1, 0, none⟩ = some (.string sc) ∧ W.cell? ⟨w.heap.size + 1, 1, none⟩ = some (.slice fo fn fcap) ∧ W.frozen? ⟨w.heap.size, 0, none⟩ = false ∧ W.frozen? ⟨w.heap.size, 1, none⟩ = false) := fun W hW => by
    obtain ⟨va, vb⟩ := two_lay hW
    have ho : W.heap[w.heap.size]? = some (.cells #[.string s, .slice co n ccap] 26) := by
      refine (hW.block w.heap.size (by omega)).trans ?_
      refine (((Below.refl (w.heap.size + 1) _).alloc (by simp) _).block w.heap.size (by omega)).trans ?_
      exact Array.getElem?_push_size
    exact ⟨⟨va 0 _ rfl, va 1 _ rfl⟩, vb 0 _ rfl, vb 1 _ rfl, by simp [World.frozen?, ho], by simp [World.frozen?, ho]⟩
  clear hm hR hI hb hz hzo hzb hlr hlz hLm hLn hL hN hn HXL hF hlc hmt
  go_enter Tryd.func5, Tryd.ntmps5
  go_wp2_with fail
  generalize hW0 : ((w.alloc (.cells #[.string s, .slice co n ccap] 26)).alloc (.cells #[.string sc, .slice fo fn fcap] 41)) = w0 at *
  refine (HFT.out _ HB0.out).mono ?_
  rintro e w1 ⟨rfl, hb⟩
  have HA1 : Aside (Below (w.heap.size + 2) w0 w1) := hb.mono z2
  clear hb HFT
  go_wp2_with fail
  refine (HLT.out _ (HB0.out.trans (HA1.out.mono (by omega)))).mono ?_
  rintro e w2 ⟨rfl, hb⟩
  have HA2 : Aside (Below (w.heap.size + 2) w0 w2) := HA1.out.trans (hb.mono (Nat.le_trans z2 HA1.out.size))
  clear hb HLT HA1
  cases lt
  · go_wp2_with fail
    go_ret
    exact ⟨rfl, HB0.out.trans (HA2.out.mono (by omega))⟩
  obtain ⟨⟨y0, y1⟩, x0, x1, _, _⟩ := HKP.out _ HA2.out
  by_cases h60 : 60 < s.size
  · have h60z : (60 : Int) < (s.size : Int) := by omega
    have hd : decide ((60 : Int) < (s.size : Int)) = true := decide_eq_true h60z
    go_wp2_with fail
    go_ret
    exact ⟨rfl, HB0.out.trans (HA2.out.mono (by omega))⟩
  have h60z : ¬ (60 : Int) < (s.size : Int) := by omega
  have hd : decide ((60 : Int) < (s.size : Int)) = false := decide_eq_false h60z
  by_cases h20 : 20 < n
  · have h20z : (20 : Int) < (n : Int) := by omega
    have hd2 : decide ((20 : Int) < (n : Int)) = true := decide_eq_true h20z
    go_wp2_with fail
    go_ret
    exact ⟨rfl, HB0.out.trans (HA2.out.mono (by omega))⟩
  have h20z : ¬ (20 : Int) < (n : Int) := by omega
  have hd2 : decide ((20 : Int) < (n : Int)) = false := decide_eq_false h20z
  go_wp2_with fail
  refine (HLF.out _ (HB0.out.trans (HA2.out.mono (by omega)))).mono ?_
  rintro e w4 ⟨rfl, hb⟩
  have HA4 : Aside (Below (w.heap.size + 2) w0 w4) := HA2.out.trans (hb.mono (Nat.le_trans z2 HA2.out.size))
  clear hb HLF HA2 y0 y1 x0 x1
  cases lf
  · go_wp2_with fail
    go_ret
    exact ⟨rfl, HB0.out.trans (HA4.out.mono (by omega))⟩
  have HRS' := Lib.hid (HRS.out (by first | trivial | rfl))
  have HRE' := Lib.hid (HRE.out (by first | trivial | rfl))
  have HEV' := Lib.hid (HEV.out (by omega) (by omega))
  clear HRS HRE HEV
  go_wp2_with fail
  clear h60z hd h20z hd2 h60 h20
  refine (HRS'.out _ (HB0.out.trans (HA4.out.mono (by omega)))).mono ?_
  rintro e w5 ⟨bo, bcap, rfl, HN5⟩
  have HA5 : Aside (Below (w.heap.size + 2) w0 w5) := HA4.out.trans (HN5.out.2.mono (Nat.le_trans z2 HA4.out.size))
  have HR5 : Aside (RowsN (w.heap.size + 2) w5 bo L) := HN5.out.1.down (Nat.le_trans z2 HA4.out.size)
  clear HRS' HN5 HA4
  obtain ⟨⟨y0, y1⟩, x0, x1, _, _⟩ := HKP.out _ HA5.out
  go_wp2_with fail
  clear y0 y1 x0 x1
  refine (HEV'.out _ (HB0.out.trans (HA5.out.mono (by omega)))).mono ?_
  rintro e w6 ⟨eo, ecap, es, rfl, HE6, HG6⟩
  obtain ⟨hok, hl8, hb6, hs6⟩ := HOK.out _ _ _ _ HE6.out
  have HOK6 := Lib.hid hok
  have HL8 := Lib.hid hl8
  have HA6 : Aside (Below (w.heap.size + 2) w0 w6) := HA5.out.trans (hb6.mono (Nat.le_trans z2 HA5.out.size))
  obtain ⟨⟨y0, y1⟩, x0, x1, f0, f1⟩ := HKP.out _ HA6.out
  have HP7 : Aside (LessW w L bo sE eo es ecap sc fo fn fcap ((w6.setCell ⟨w.heap.size, 0, none⟩ (.string sE)).setCell ⟨w.heap.size, 1, none⟩ (.slice eo es.length ecap))) := by
    have hbw : Below w.heap.size w ((w6.setCell ⟨w.heap.size, 0, none⟩ (.string sE)).setCell ⟨w.heap.size, 1, none⟩ (.slice eo es.length ecap)) := ((HB0.out.trans (HA6.out.mono (by omega))).setCell (p := ⟨w.heap.size, 0, none⟩) (Nat.le_refl _) _).setCell (p := ⟨w.heap.size, 1, none⟩) (Nat.le_refl _) _
    have hg : ∀ g off, eo = some ⟨g, off, none⟩ → w.heap.size < g := fun g off e => by
      have := HG6.out g off e
      have := Nat.le_trans z2 HA5.out.size
      omega
    have ne0 : ∀ i j, (⟨w.heap.size, i, none⟩ : Addr) ≠ ⟨w.heap.size + 1, j, none⟩ := fun i j e => by injection e; omega
    have ne1 : (⟨w.heap.size, 1, none⟩ : Addr) ≠ ⟨w.heap.size, 0, none⟩ := fun e => by injection e; omega
    have oth : ∀ (W : World) (p q : Addr) (v : Value), p ≠ q → (W.setCell p v).cell? q = W.cell? q := fun W p q v h => by rw [World.cell?_setCell_other _ _ _ _ (by first | exact h | exact h.symm)]
    refine ⟨?_, ?_, ?_, ?_, hbw, ?_, ?_, by have := Nat.le_trans z2 HA6.out.size; simpa using this⟩
    · rw [oth _ _ _ _ ne1]; exact World.cell?_setCell_same _ _ _ y0
    · exact World.cell?_setCell_same _ _ _ ((oth _ _ _ _ ne1.symm).trans y1)
    · rw [oth _ _ _ _ (ne0 1 0), oth _ _ _ _ (ne0 0 0)]; exact x0
    · rw [oth _ _ _ _ (ne0 1 1), oth _ _ _ _ (ne0 0 1)]; exact x1
    · exact (((HR5.out.on hb6).set (by omega) _).set (by omega) _).rules (HRL.out _ hbw)
    · exact sliceA_set (sliceA_set hs6 hg _) hg _
  clear hok hl8 hb6 hs6 HE6 HG6 HOK HRL HR5 HA5 HA6
  go_upto_region 7 with fail
  clear y0 y1 x0 x1 f0 f1 HKP
  generalize ((w6.setCell ⟨w.heap.size, 0, none⟩ (.string sE)).setCell ⟨w.heap.size, 1, none⟩ (.slice eo es.length ecap)) = w7 at *
  obtain ⟨H, hH⟩ : ∃ H, H = hidN L 0 ⟨#[97]⟩ sE := ⟨_, rfl⟩
  obtain ⟨ls, hls⟩ : ∃ ls, ls = withoutL es H := ⟨_, rfl⟩
  have HEV7 := Lib.hid (HRE'.out bo bcap eo ecap es w7 0 ⟨#[97]⟩ HL8.out HP7.out.attrs HP7.out.rules)
  rw [← hH, ← hls] at HEV7
  have HSUB : Aside (∀ a ∈ ls, a ∈ es) := fun a ha => by rw [hls] at ha; exact mem_without a ha
  have HLL : Aside (ls.length ≤ 8) := by show _ ≤ _; rw [hls]; exact Nat.le_trans (without_len _ _) HL8.out
  have HYE : Aside (∀ (j : Nat), j < es.length → Lib.containsS H (es[j]!).nm = false → keptK es H j < ls.length ∧ ls[keptK es H j]! = es[j]!) := fun j hj h => by rw [hls]; exact kept_yes es H j hj h
  have HNN : Aside (∀ (j k : Nat), k < ls.length → Lib.containsS H (es[j]!).nm = true → ((ls[k]!).nm.toList == (es[j]!).nm.toList) = false) := fun j k hk h => by rw [hls] at hk ⊢; exact kept_no es H j k hk h
  have HKS : Aside (∀ (j : Nat), j < es.length → keptK es H (j + 1) = if Lib.containsS H (es[j]!).nm then keptK es H j else keptK es H j + 1) := fun j hj => keptK_succ es H j hj
  have HKZ : Aside (keptK es H 0 = 0) := rfl
  have HKE : Aside (keptK es H es.length = ls.length) := by show _ = _; unfold keptK; rw [List.take_length, hls]
  generalize keptK es H = kk at *
  have HMX : Aside (∀ (W : World) (xo : Option Addr) (xcap : Nat), Below w.heap.size w W → SliceA W xo ls → Calls Tryd.prog 18 #[fil sc fo fn fcap, evt sE xo ls.length xcap] W fun e w' => e = .returned (.bool (mt sE ls)) ∧ Below W.heap.size W w') := fun W xo xcap hW hS => HMT.out W xo xcap sE ls hW hS (fun a ha => HOK6.out a (HSUB.out a ha)) HLL.out
  have HME : Aside (∀ (W : World), Below w.heap.size w W → SliceA W eo es → Calls Tryd.prog 18 #[fil sc fo fn fcap, evt sE eo es.length ecap] W fun e w' => e = .returned (.bool (mt sE es)) ∧ Below W.heap.size W w') := fun W hW hS => HMT.out W eo ecap sE es hW hS HOK6.out HL8.out
  have HMM6 : Aside (mt sE ls = true → mt sE es = true) := fun h => HMM.out sE ls es HSUB.out h
  have y0 := HP7.out.e0
  have y1 := HP7.out.e1
  clear hls hH HRE' HMT HMM HSUB HOK6 HB0 hW0 z2
  generalize mt sE ls = ma at *
  generalize mt sE es = mb at *
  obtain ⟨ln, hln⟩ : ∃ ln, ln = ls.length := ⟨_, rfl⟩
  obtain ⟨en, hen⟩ : ∃ en, en = es.length := ⟨_, rfl⟩
  have HLN := Lib.hid hln
  have HEN := Lib.hid hen
  rw [← hln] at HEV7 HYE HNN HKE HMX HLL
  rw [← hen] at HEV7 HYE HKS HKE HME HL8 y1 ⊢
  clear hln hen
  go_wp2_with fail
  refine HEV7.out.mono ?_
  rintro e w9 ⟨xo, xcap, rfl, h9⟩
  have HS9 : Aside (SliceA w9 xo ls) := h9.out.1
  have HP9 := Lib.hid (HP7.out.on h9.out.2)
  clear h9 y0 y1 HEV7 HP7
  go_upto_region 8 with fail
  have HX : Aside (∀ W, Below (w9.heap.size + 1) (w9.alloc (.cells #[.string sE, .slice xo ln xcap] 26)) W → LessW w L bo sE eo es ecap sc fo fn fcap W ∧ SliceA W xo ls ∧ W.cell? ⟨w9.heap.size, 0, none⟩ = some (.string sE) ∧ W.cell? ⟨w9.heap.size, 1, none⟩ = some (.slice xo ln xcap)) := fun W hW => by
    have h1 : Below w9.heap.size w9 W := ((Below.refl _ _).alloc (Nat.le_refl _) _).trans (hW.mono (by omega))
    exact ⟨HP9.out.on h1, HS9.out.under h1, one_lay hW 0 _ rfl, one_lay hW 1 _ rfl⟩
  have hz : w9.heap.size + 1 ≤ (w9.alloc (.cells #[.string sE, .slice xo ln xcap] 26)).heap.size := by simp
  generalize hWX : (w9.alloc (.cells #[.string sE, .slice xo ln xcap] 26)) = wX at *
  clear hWX HS9 HP9
  generalize w9.heap.size = V at *
  have HKC : Aside (∀ W, Below (V + 1) wX W → (W.cell? ⟨w.heap.size, 0, none⟩ = some (.string sE) ∧ W.cell? ⟨w.heap.size, 1, none⟩ = some (.slice eo en ecap)) ∧ (W.cell? ⟨w.heap.size + 1, 0, none⟩ = some (.string sc) ∧ W.cell? ⟨w.heap.size + 1, 1, none⟩ = some (.slice fo fn fcap)) ∧ W.cell? ⟨V, 0, none⟩ = some (.string sE) ∧ W.cell? ⟨V, 1, none⟩ = some (.slice xo ln xcap)) := fun W hW => by
    obtain ⟨h1, _, h3, h4⟩ := HX.out W hW
    rw [HEN.out]
    exact ⟨⟨h1.e0, h1.e1⟩, ⟨h1.g0, h1.g1⟩, h3, h4⟩
  have HR0 : Aside (Below (V + 1) wX wX) := Below.refl _ _
  obtain ⟨⟨y0, y1⟩, _, _, _⟩ := HKC.out _ HR0.out
  go_wp2_with fail
  clear y0 y1
  go_loopg [8, 46] en (fun kx s8 s46 wr => ∃ j : Nat, s46 = .int .i64 j ∧ s8 = .int .i64 (kk j) ∧ j ≤ en ∧ en - j ≤ kx ∧ kk j ≤ j ∧ Aside (Below (V + 1) wX wr))
  case atStart => exact ⟨0, rfl, by rw [HKZ.out]; rfl, Nat.zero_le _, by omega, by rw [HKZ.out]; exact Nat.le_refl _, HR0.out⟩
  case round =>
    obtain ⟨j, rfl, rfl, hj, hjx, hkj, HA⟩ := hrel
    have hen8 : en ≤ 8 := HL8.out
    by_cases hlt : j < en
    · have hjl : j < es.length := by rw [← HEN.out]; exact hlt
      obtain ⟨hp, hsx, _, _⟩ := HX.out _ HA.out
      rcases hp.attrs with h0 | ⟨b, off, hao, hbs, hrow⟩
      · rw [h0] at hjl; cases hjl
      subst hao
      have hrow1 := hrow j hjl
      have HYj := Lib.hid (HYE.out j hlt)
      have HNj := Lib.hid (HNN.out j)
      have HKj := Lib.hid (HKS.out j hlt)
      have HAX : Aside (∀ k, k < ln → ∃ b2 off2, xo = some ⟨b2, off2, none⟩ ∧ b2 < wr.heap.size ∧ wr.cell? ⟨b2, off2 + k * 6, none⟩ = some (.string (ls[k]!).nm)) := fun k hk => by
        rcases hsx with h0 | ⟨b2, off2, h1, h2, h3⟩
        · rw [HLN.out, h0] at hk; cases hk
        · refine ⟨b2, off2, h1, h2, ?_⟩
          have := h3 k (by rw [← HLN.out]; exact hk) 0 _ rfl
          simpa using this
      generalize es[j]! = a at hrow1 HYj HNj HKj
      obtain ⟨nm, ak, an, ax, asx, ay⟩ := a
      have c0 := hrow1 0 _ rfl; have c1 := hrow1 1 _ rfl; have c2 := hrow1 2 _ rfl; have c3 := hrow1 3 _ rfl; have c4 := hrow1 4 _ rfl; have c5 := hrow1 5 _ rfl
      simp only [Nat.add_zero] at c0
      dsimp only at HYj HNj HKj
      generalize hct : Lib.containsS H nm = ct at *
      generalize hk0 : kk j = k at *
      have HK1 : Aside (kk (j + 1) = if ct = true then k else k + 1) := HKj.out
      clear hrow hrow1 hp hsx hjl HKj hct
      have hltz : (j : Int) < en := by omega
      have hjz : (0 : Int) ≤ (j : Int) := by omega
      have hkz : (0 : Int) ≤ (k : Int) := by omega
      go_upto_region 12 with fail
      clear c0 c1 c2 c3 c4 c5
      have HA2 : Aside (Below (V + 1) wX (wr.alloc (.cells #[.string nm, .int .i64 ak, .int .i64 an, .float .f64 ax, .string asx, .bool ay] 51))) := HA.out.alloc (Nat.le_trans hz HA.out.size) _
      have v0 := World.cell?_alloc_new wr #[.string nm, .int .i64 ak, .int .i64 an, .float .f64 ax, .string asx, .bool ay] 51 0
      simp only [List.getElem?_toArray, List.getElem?_cons_zero] at v0
      obtain ⟨_, _, x0, x1⟩ := HKC.out _ HA2.out
      cases ct
      · obtain ⟨hk1, hk2⟩ := HYj.out rfl
        have hk1z : (k : Int) < (ln : Int) := by omega
        obtain ⟨b2, off2, rfl, hb2, hc2⟩ := HAX.out k hk1
        rw [hk2] at hc2
        have hc3 := Lib.cell?_alloc_some (.cells #[.string nm, .int .i64 ak, .int .i64 an, .float .f64 ax, .string asx, .bool ay] 51) hc2
        have heq : (nm.toList == nm.toList) = true := by simp
        clear hc2 hk2 HAX HNj HYj
        generalize (wr.alloc (.cells #[.string nm, .int .i64 ak, .int .i64 an, .float .f64 ax, .string asx, .bool ay] 51)) = w10 at *
        go_region
        all_goals
          go_wp2_with fail
          go_roundg (en - (j + 1))
          case measure => omega
          case rel => exact ⟨j + 1, by go_num, by rw [show kk (j + 1) = k + 1 from HK1.out]; go_num, hlt, Nat.le_refl _, by rw [show kk (j + 1) = k + 1 from HK1.out]; omega, by first | exact HA2.out | exact HA2.out.trans (below_drew1 _)⟩
      · by_cases hk1 : k < ln
        · have hk1z : (k : Int) < (ln : Int) := by omega
          obtain ⟨b2, off2, rfl, hb2, hc2⟩ := HAX.out k hk1
          have hc3 := Lib.cell?_alloc_some (.cells #[.string nm, .int .i64 ak, .int .i64 an, .float .f64 ax, .string asx, .bool ay] 51) hc2
          have hne := HNj.out k hk1 rfl
          clear hc2 HAX HNj HYj
          generalize (ls[k]!).nm = nm2 at *
          generalize (wr.alloc (.cells #[.string nm, .int .i64 ak, .int .i64 an, .float .f64 ax, .string asx, .bool ay] 51)) = w10 at *
          go_region
          all_goals
            go_wp2_with fail
            go_roundg (en - (j + 1))
            case measure => omega
            case rel => exact ⟨j + 1, by go_num, by rw [show kk (j + 1) = k from HK1.out], hlt, Nat.le_refl _, by rw [show kk (j + 1) = k from HK1.out]; omega, by first | exact HA2.out | exact HA2.out.trans (below_drew1 _)⟩
        · have hk1z : ¬ (k : Int) < (ln : Int) := by omega
          clear HAX HNj HYj
          generalize (wr.alloc (.cells #[.string nm, .int .i64 ak, .int .i64 an, .float .f64 ax, .string asx, .bool ay] 51)) = w10 at *
          go_region
          all_goals
            go_wp2_with fail
            go_roundg (en - (j + 1))
            case measure => omega
            case rel => exact ⟨j + 1, by go_num, by rw [show kk (j + 1) = k from HK1.out], hlt, Nat.le_refl _, by rw [show kk (j + 1) = k from HK1.out]; omega, by first | exact HA2.out | exact HA2.out.trans (below_drew1 _)⟩
    · obtain rfl : j = en := by omega
      rw [HKE.out] at *
      obtain ⟨hp, hsx, _, _⟩ := HX.out _ HA.out
      have HMX1 := Lib.hid (HMX.out _ xo xcap hp.below hsx)
      have HBW := Lib.hid hp.below
      have HMEj : Aside (∀ W, Below wr.heap.size wr W → Calls Tryd.prog 18 #[fil sc fo fn fcap, evt sE eo j ecap] W fun e w' => e = .returned (.bool mb) ∧ Below W.heap.size W w') := fun W hW => HME.out W (hp.on hW).below (hp.on hW).attrs
      obtain ⟨⟨y0, y1⟩, ⟨g0, g1⟩, x0, x1⟩ := HKC.out _ HA.out
      have hzw : V + 1 ≤ wr.heap.size := Nat.le_trans hz HA.out.size
      have hll : ((ln : Int) == (ln : Int)) = true := by simp
      have hss : (sE.toList == sE.toList) = true := by simp
      clear hp hsx HX HMX HME HYE HNN HKS HKE HKZ
      go_wp2_with fail
      refine HMX1.out.mono ?_
      rintro e w11 ⟨rfl, hb⟩
      have HB11 := Lib.hid hb
      have HA11 : Aside (Below (V + 1) wX w11) := HA.out.trans (hb.mono hzw)
      clear hb y0 y1 g0 g1 x0 x1 HMX1
      cases ma
      · go_wp2_with fail
        go_ret
        exact ⟨rfl, HBW.out.trans (HB11.out.mono HBW.out.size)⟩
      · have hmb : mb = true := HMM6.out (by first | trivial | rfl)
        subst hmb
        obtain ⟨⟨y0, y1⟩, ⟨g0, g1⟩, x0, x1⟩ := HKC.out _ HA11.out
        have HM2 := Lib.hid (HMEj.out _ HB11.out)
        clear HMEj HKC HMM6
        go_wp2_with fail
        refine HM2.out.mono ?_
        rintro e w12 ⟨rfl, hb⟩
        have HB12 := Lib.hid (HB11.out.trans (hb.mono HB11.out.size))
        clear hb y0 y1 g0 g1 x0 x1 HM2
        go_wp2_with fail
        go_ret
        exact ⟨rfl, HBW.out.trans (HB12.out.mono HBW.out.size)⟩
end Go.Proofs.YtjnfbinomljocaaDoor
