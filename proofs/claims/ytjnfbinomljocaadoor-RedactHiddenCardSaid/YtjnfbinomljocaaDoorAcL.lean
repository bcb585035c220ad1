/- gazettelaw10's Light, Rights, fit. -/
import Derived.Test.YtjnfbinomljocaaDoorAcN
import Derived.Test.YtjnfbinomljocaaDoorAcRt
import Derived.Test.YtjnfbinomljocaaDoorAcO
import Derived.Test.YtjnfbinomljocaaDoorGaE
import Derived.Test.YtjnfbinomljocaaDoorGaI
import Derived.Test.YtjnfbinomljocaaDoorBwV
namespace Go.Proofs.YtjnfbinomljocaaDoor
open Go.RowKit Go.Shelf Go.Sort
open Go.Proofs
set_option maxRecDepth 100000
attribute [local go_sem ↓] append_pre
attribute [local irreducible] wpQuiet

def lightR (rs : List Ru) : Bool := rs.all (light1 lightF) && decide (rs.length ≤ 80)
theorem rules_row {w W : World} {ao : Option Addr} {rs : List Ru} (h : RulesB w.heap.size w ao rs) (hW : Below w.heap.size w W) (hlt : 0 < rs.length) : ∃ b off, ao = some ⟨b, off, none⟩ ∧ b < w.heap.size ∧ RowR W b off rs := by
  rcases h.1 with h | ⟨b, off, h1, h2, h3⟩
  · rw [h] at hlt; simp at hlt
  · exact ⟨b, off, h1, h2, RowR.below hW h2 h3⟩
theorem all_take_r {α : Type} [Inhabited α] (P : List α) (f : α → Bool) (j : Nat) (hj : j < P.length) (h : (P.take j).all f = true) (hf : f P[j]! = true) : (P.take (j + 1)).all f = true := by
  rw [List.take_add_one, List.getElem?_eq_getElem hj, List.all_append, h]
  rw [getElem!_pos P j hj] at hf
  simp [hf]
theorem all_false_r {α : Type} [Inhabited α] (P : List α) (f : α → Bool) (j : Nat) (hj : j < P.length) (hf : f P[j]! = false) : P.all f = false := by
  rw [List.all_eq_false]
  refine ⟨P[j]!, ?_, by rw [hf]; exact Bool.false_ne_true⟩
  rw [getElem!_pos P j hj]; exact List.getElem_mem _

set_option maxHeartbeats 4000000 in
theorem light10_c (ao : Option Addr) (cap : Nat) (rs : List Ru) (w : World) (hl : RulesB w.heap.size w ao rs) (hn : rs.length ≤ 4611686018427387904) (hx : ∀ r ∈ rs, r.cs.length ≤ 4611686018427387904) :
    Calls Tryd.prog 7 #[.slice ao rs.length cap] w fun e w' => e = .returned (.bool (lightR rs)) ∧ Below w.heap.size w w' := by
  obtain ⟨len, hL⟩ : ∃ len, len = rs.length := ⟨_, rfl⟩
  have HLen : Aside (len = rs.length) := hL
  rw [← hL] at hn ⊢
  have HSL : Aside (∀ W, Below w.heap.size w W → 0 < rs.length → ∃ b off, ao = some ⟨b, off, none⟩ ∧ b < w.heap.size ∧ RowR W b off rs) := fun W hW h => rules_row hl hW h
  have HFL : Aside (∀ r ∈ rs, ∀ W, Below w.heap.size w W → Calls Tryd.prog 17 #[fil r.sc r.co r.cs.length r.cap] W fun e w' => e = .returned (.bool (lightF r.sc r.cs)) ∧ Below W.heap.size W w') := fun r hr W hW => flight_c r.sc r.co r.cap r.cs W ((hl.2 r hr).on hW) (hx r hr)
  obtain ⟨r, hr⟩ : ∃ r, r = lightR rs := ⟨_, rfl⟩
  have HR : Aside (r = (rs.all (light1 lightF) && decide (len ≤ 80))) := by
    show r = _
    rw [hr, hL]; rfl
  rw [← hr]
  have HBR : Aside (Below w.heap.size w w) := Below.refl _ _
  clear hl hx hr hL
  generalize lightF = lf at *
  go_enter Tryd.func7, Tryd.ntmps7
  go_wp2_with fail
  go_loopg [7] len (fun kx s10 wr => ∃ j : Nat, s10 = .int .i64 j ∧ j ≤ len ∧ len - j ≤ kx ∧ Aside ((rs.take j).all (light1 lf) = true) ∧ Aside (Below w.heap.size w wr))
  case atStart => exact ⟨0, rfl, Nat.zero_le _, by omega, by simp [Aside], HBR.out⟩
  case round =>
    obtain ⟨j, rfl, hj, hjx, HN, HA⟩ := hrel
    have zr : w.heap.size ≤ wr.heap.size := HA.out.size
    by_cases hlt : j < len
    · have hjl : j < rs.length := by rw [← HLen.out]; exact hlt
      obtain ⟨b, off, rfl, hbs, hrow⟩ := HSL.out _ HA.out (by omega)
      have hrow1 := hrow j hjl
      have HMj := Lib.hid (HFL.out _ (memR rs j hjl))
      have HT : Aside (light1 lf rs[j]! = true → (rs.take (j + 1)).all (light1 lf) = true) := fun h => all_take_r rs _ j hjl HN.out h
      have HF : Aside (light1 lf rs[j]! = false → r = false) := fun h => by rw [HR.out, all_false_r rs _ j hjl h]; rfl
      have HQ : Aside (light1 lf rs[j]! = (!decide (200 < wrap64 (((rs[j]!).who.size : Int) + ((rs[j]!).nm.size : Int))) && lf (rs[j]!).sc (rs[j]!).cs)) := rfl
      generalize light1 lf rs[j]! = q at HT HF HQ
      generalize lf (rs[j]!).sc (rs[j]!).cs = lq at HQ HMj
      generalize rs[j]! = c at hrow1 HMj HQ
      obtain ⟨rk, rt, rw1, rb, rsc, rco, rcap, rcs, rn, rix⟩ := c
      have c0 := hrow1 0 _ rfl; have c1 := hrow1 1 _ rfl; have c2 := hrow1 2 _ rfl; have c3 := hrow1 3 _ rfl; have c4 := hrow1 4 _ rfl; have c5 := hrow1 5 _ rfl; have c6 := hrow1 6 _ rfl; have c7 := hrow1 7 _ rfl
      simp only [Nat.add_zero] at c0
      dsimp only at HQ HMj
      generalize rcs.length = rcn at *
      clear hrow1 hrow HSL HFL hjl
      have hltz : (j : Int) < len := by omega
      have hjz : (0 : Int) ≤ (j : Int) := by omega
      go_upto_region 4 with fail
      clear c0 c1 c2 c3 c4 c5 c6 c7
      have hA9 : Below w.heap.size w (wr.alloc (.cells (ruls rk rt rw1 rb rsc rco rcn rcap rn rix) 43)) := HA.out.alloc (by omega) _
      have HA9 := Lib.hid hA9
      obtain ⟨x0, x1, x2, x3, x4, x5, x6, x7⟩ := rul_lay (w := wr) (Below.refl (wr.heap.size + 1) (wr.alloc (.cells (ruls rk rt rw1 rb rsc rco rcn rcap rn rix) 43)))
      have z9 : w.heap.size ≤ (wr.alloc (.cells (ruls rk rt rw1 rb rsc rco rcn rcap rn rix) 43)).heap.size := by simp; omega
      clear hA9
      generalize (wr.alloc (.cells (ruls rk rt rw1 rb rsc rco rcn rcap rn rix) 43)) = w9 at *
      generalize wr.heap.size = V at *
      by_cases h200 : 200 < wrap64 ((rw1.size : Int) + (rn.size : Int))
      · have hd : decide ((200 : Int) < wrap64 ((rw1.size : Int) + (rn.size : Int))) = true := decide_eq_true h200
        have hq : q = false := by rw [HQ.out, hd]; rfl
        have hrf : r = false := HF.out hq
        subst hrf
        clear HQ HT HF hq
        go_wp2_with fail
        go_ret
        exact ⟨rfl, HA9.out⟩
      · have hd : decide ((200 : Int) < wrap64 ((rw1.size : Int) + (rn.size : Int))) = false := decide_eq_false h200
        have HQ' : Aside (q = lq) := by show _ = _; rw [HQ.out, hd]; simp
        clear HQ
        go_wp2_with fail
        clear x0 x1 x2 x3 x4 x5 x6 x7
        refine (HMj.out _ HA9.out).mono ?_
        rintro e w10 ⟨rfl, hb⟩
        have HA10 := Lib.hid (HA9.out.trans (hb.mono z9)); clear hb
        cases lq
        · have hrf : r = false := HF.out HQ'.out
          subst hrf
          go_wp2_with fail
          go_ret
          exact ⟨rfl, HA10.out⟩
        · go_wp2_with fail
          go_roundg (len - (j + 1))
          case measure => omega
          case rel => exact ⟨j + 1, by go_num, hlt, Nat.le_refl _, HT.out HQ'.out, HA10.out⟩
    · obtain rfl : j = len := by omega
      have hrt : r = decide ((j : Int) ≤ 80) := by
        rw [HR.out]
        have := HN.out
        rw [HLen.out, List.take_length] at this
        rw [this, Bool.true_and, HLen.out]
        by_cases h : rs.length ≤ 80
        · rw [decide_eq_true h, decide_eq_true (by omega)]
        · rw [decide_eq_false h, decide_eq_false (by omega)]
      subst hrt
      go_wp2_with fail
      go_ret
      exact ⟨rfl, HA.out⟩

theorem filter_take_r {α : Type} [Inhabited α] (P : List α) (f : α → Bool) (j : Nat) (hj : j < P.length) : (P.take (j + 1)).filter f = if f P[j]! then (P.take j).filter f ++ [P[j]!] else (P.take j).filter f := by
  rw [List.take_add_one, List.getElem?_eq_getElem hj, List.filter_append, getElem!_pos P j hj]
  cases h : f P[j]
  · simp [h]
  · simp [h]
set_option maxHeartbeats 4000000 in
theorem rights_c (ao : Option Addr) (cap : Nat) (rs : List Ru) (w : World) (hl : RulesB w.heap.size w ao rs) (hn : rs.length ≤ 200) (hx : ∀ r ∈ rs, r.cs.length ≤ 4611686018427387904 ∧ r.sc.size ≤ 3000) (hm : MaxI w) :
    Calls Tryd.prog 8 #[.slice ao rs.length cap] w fun e w' => ∃ bo bcap, e = .returned (.slice bo (rs.filter rrightB).length bcap) ∧ Aside (RowsN w.heap.size w' bo (rs.filter rrightB) ∧ Below w.heap.size w w') := by
  obtain ⟨len, hL⟩ : ∃ len, len = rs.length := ⟨_, rfl⟩
  have HLen : Aside (len = rs.length) := hL
  rw [← hL] at hn ⊢
  have HSL : Aside (∀ W, Below w.heap.size w W → 0 < rs.length → ∃ b off, ao = some ⟨b, off, none⟩ ∧ b < w.heap.size ∧ RowR W b off rs) := fun W hW h => rules_row hl hW h
  have HRT : Aside (∀ r ∈ rs, ∀ W, Below w.heap.size w W → Calls Tryd.prog 19 #[rul r.k r.tn r.who r.br r.sc r.co r.cs.length r.cap r.nm r.ix] W fun e w' => e = .returned (.bool (rrightB r)) ∧ Below W.heap.size W w') := fun r hr W hW => aright_c r.k r.tn r.who r.br r.sc r.co r.cap r.cs r.nm r.ix W ((hl.2 r hr).on hW) (hx r hr).1 (hx r hr).2 (hm.below hW)
  have HBR : Aside (Below w.heap.size w w) := Below.refl _ _
  generalize rrightB = rr at *
  clear hl hx hL hm
  go_enter Tryd.func8, Tryd.ntmps8
  go_wp2_with fail
  go_loopg [3, 8] len (fun kx s4 s12 wr => ∃ (j m cap : Nat) (ao : Option Addr), s4 = .slice ao m cap ∧ s12 = .int .i64 j ∧ j ≤ len ∧ len - j ≤ kx ∧ Aside (((rs.take j).filter rr).length = m) ∧ Aside (OwnR wr w.heap.size (.slice ao m cap) ((rs.take j).filter rr)) ∧ Aside (Below w.heap.size w wr))
  case atStart => exact ⟨0, 0, 0, none, rfl, rfl, Nat.zero_le _, by omega, rfl, World.ownsRow_nil _ _ _ _, HBR.out⟩
  case round =>
    obtain ⟨j, m, cap2, ao2, rfl, rfl, hj, hjx, HM, HO, HA⟩ := hrel
    have zr : w.heap.size ≤ wr.heap.size := HA.out.size
    by_cases hlt : j < len
    · have hjl : j < rs.length := by rw [← HLen.out]; exact hlt
      obtain ⟨b, off, rfl, hbs, hrow⟩ := HSL.out _ HA.out (by omega)
      have hrow1 := hrow j hjl
      have HKN : Aside ((rs.take (j + 1)).filter rr = if rr rs[j]! then (rs.take j).filter rr ++ [rs[j]!] else (rs.take j).filter rr) := filter_take_r rs rr j hjl
      have HRj := Lib.hid (HRT.out _ (memR rs j hjl))
      have HML : Aside (m ≤ j) := by
        show m ≤ j
        rw [← HM.out]
        exact Nat.le_trans (List.length_filter_le _ _) (by simp; omega)
      generalize rr rs[j]! = sp at HKN HRj
      generalize rs[j]! = c at hrow1 HKN HRj
      have HAP : Aside (∀ W, Below wr.heap.size wr W → ∃ g' cap' w3, Sem.run Tryd.prog (appendS #[22, 22] 22 #[.slice ao2 m cap2, .slice (some ⟨W.heap.size, 0, none⟩) 1 1])
        (W.alloc (.cells (ruls c.k c.tn c.who c.br c.sc c.co c.cs.length c.cap c.nm c.ix) 43)) = .ok (.slice (some ⟨g', 0, none⟩) (m + 1) cap') w3 ∧
          Aside (OwnR w3 w.heap.size (.slice (some ⟨g', 0, none⟩) (m + 1) cap') ((rs.take j).filter rr ++ [c]) ∧ Below w.heap.size w w3)) := fun W hW => by
        obtain ⟨g', cap', w3, h1, h2⟩ := appendR_run w.heap.size ((rs.take j).filter rr) c (.slice ao2 m cap2) W (ownR_below HO.out hW) (Nat.le_trans zr hW.size) (by have := HML.out; rw [HM.out]; omega)
        rw [HM.out] at h1 h2
        exact ⟨g', cap', w3, h1, h2.out.1, (HA.out.trans (hW.mono zr)).trans h2.out.2⟩
      have HOX : Aside (∀ W, Below wr.heap.size wr W → OwnR W w.heap.size (.slice ao2 m cap2) ((rs.take j).filter rr)) := fun W hW => ownR_below HO.out hW
      obtain ⟨rk, rt, rw1, rb, rsc, rco, rcap, rcs, rn, rix⟩ := c
      have c0 := hrow1 0 _ rfl; have c1 := hrow1 1 _ rfl; have c2 := hrow1 2 _ rfl; have c3 := hrow1 3 _ rfl; have c4 := hrow1 4 _ rfl; have c5 := hrow1 5 _ rfl; have c6 := hrow1 6 _ rfl; have c7 := hrow1 7 _ rfl
      simp only [Nat.add_zero] at c0
      dsimp only at HRj HAP
      obtain ⟨rcn, hrcn⟩ : ∃ x, x = rcs.length := ⟨_, rfl⟩
      rw [← hrcn] at HRj HAP c5
      clear hrow1 hrow HSL HRT hjl HO HML hrcn
      have hltz : (j : Int) < len := by omega
      have hjz : (0 : Int) ≤ (j : Int) := by omega
      go_upto_region 5 with fail
      clear c0 c1 c2 c3 c4 c5 c6 c7
      have HX := Lib.hid ((Below.refl wr.heap.size wr).alloc (Nat.le_refl _) (.cells (ruls rk rt rw1 rb rsc rco rcn rcap rn rix) 43))
      have HV : Aside (∀ W, Below (wr.heap.size + 1) (wr.alloc (.cells (ruls rk rt rw1 rb rsc rco rcn rcap rn rix) 43)) W → _) := fun W hW => rul_lay hW
      have HZX : Aside ((wr.alloc (.cells (ruls rk rt rw1 rb rsc rco rcn rcap rn rix) 43)).heap.size = wr.heap.size + 1) := by simp [Aside]
      have HBX : Aside (Below (wr.heap.size + 1) (wr.alloc (.cells (ruls rk rt rw1 rb rsc rco rcn rcap rn rix) 43)) (wr.alloc (.cells (ruls rk rt rw1 rb rsc rco rcn rcap rn rix) 43))) := Below.refl _ _
      obtain ⟨x0, x1, x2, x3, x4, x5, x6, x7⟩ := HV.out _ HBX.out
      generalize (wr.alloc (.cells (ruls rk rt rw1 rb rsc rco rcn rcap rn rix) 43)) = wx at *
      have HAX : Aside (Below w.heap.size w wx) := HA.out.trans (HX.out.mono zr)
      generalize wr.heap.size = V at *
      go_wp2_with fail
      refine (HRj.out _ HAX.out).mono ?_
      rintro e w5 ⟨rfl, hb5⟩
      have hX5 : Below V wr w5 := HX.out.trans (hb5.mono (by have := HZX.out; omega))
      have hb6 : Below (V + 1) wx w5 := hb5.mono (by have := HZX.out; omega)
      have HB5 : Aside (Below w.heap.size w w5) := HA.out.trans (hX5.mono zr)
      clear x0 x1 x2 x3 x4 x5 x6 x7
      cases sp
      · have HK2 : Aside ((rs.take (j + 1)).filter rr = (rs.take j).filter rr) := HKN.out
        have HO5 := Lib.hid (HOX.out w5 hX5)
        clear HAP HKN HOX HV HX HZX HAX hb5 hX5 hb6 HRj HBX
        go_wp2_with fail
        go_roundg (len - (j + 1))
        case measure => omega
        case rel => exact ⟨j + 1, m, cap2, ao2, rfl, by go_num, hlt, Nat.le_refl _, by rw [HK2.out]; exact HM.out, by rw [HK2.out]; exact HO5.out, HB5.out⟩
      · have HK2 : Aside ((rs.take (j + 1)).filter rr = (rs.take j).filter rr ++ [⟨rk, rt, rw1, rb, rsc, rco, rcap, rcs, rn, rix⟩]) := HKN.out
        obtain ⟨g', cap', w6, hrun, HR6⟩ := HAP.out w5 hX5
        obtain ⟨x0, x1, x2, x3, x4, x5, x6, x7⟩ := HV.out w5 hb6
        clear HAP HKN HOX HV HX HZX HAX hb5 hX5 hb6 HRj HBX
        go_wp2_with fail
        go_roundg (len - (j + 1))
        case measure => omega
        case rel => exact ⟨j + 1, m + 1, cap', some ⟨g', 0, none⟩, by go_num, by go_num, hlt, Nat.le_refl _, by rw [HK2.out]; simp [Aside, HM.out], by rw [HK2.out]; exact HR6.out.1, HR6.out.2⟩
    · obtain rfl : j = len := by omega
      have ht : rs.take j = rs := by rw [HLen.out, List.take_length]
      rw [ht] at HM HO
      have HFIN : Aside (RowsN w.heap.size wr ao2 (rs.filter rr) ∧ Below w.heap.size w wr) := by
        refine ⟨?_, HA.out⟩
        obtain ⟨ao', cap', hv, h⟩ := ownR_rows HO.out
        injection hv with e1 e2 e3
        subst e1
        exact h
      clear HO HSL HRT ht
      go_wp2_with fail
      go_ret
      exact ⟨ao2, cap2, by rw [HM.out]; rfl, HFIN⟩

/-! ### fit -/
def fitR (k : Int) : Ru := ⟨k, 0, ⟨#[97]⟩, 0, ⟨#[]⟩, none, 0, [], ⟨#[]⟩, 0⟩
end Go.Proofs.YtjnfbinomljocaaDoor
