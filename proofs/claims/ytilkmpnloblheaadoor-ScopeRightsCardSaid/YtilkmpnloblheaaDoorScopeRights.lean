/- ScopeRights: a scope may be just as the document says. -/
import Derived.Test.YtilkmpnloblheaaDoorScopeF
namespace Go.Proofs.YtilkmpnloblheaaDoor
open Go.RowKit Go.Shelf
open Go.Proofs
set_option maxRecDepth 100000

theorem all_take_or (P : List ByteArray) (f : ByteArray → Bool) (j : Nat) (hj : j < P.length) : (P.take (j + 1)).all f = ((P.take j).all f && f P[j]!) := by
  rw [List.take_add_one, List.getElem?_eq_getElem hj, List.all_append, ← getElem!_pos P j hj]; simp

set_option maxHeartbeats 2000000 in
theorem scopeRights_c (s : ByteArray) (w : World) (hsz : s.size ≤ 140737488351232) (hm : MaxI w) :
    Calls Tryd.prog 3 #[.string s] w fun e w' => e = .returned (.bool true) ∧ Below w.heap.size w w' := by
  have FIT := Lib.hid (fit5_c hm w (Below.refl _ _))
  by_cases h200 : 200 < s.size
  · have h1 : (200 : Int) < (s.size : Int) := by omega
    clear hm
    go_enter Tryd.func3, Tryd.ntmps3
    go_wp2_with fail
    refine FIT.out.mono ?_
    rintro e w1 ⟨rfl, hb1⟩
    have H1 := Lib.hid hb1
    clear hb1
    go_wp2_with fail
    go_ret
    exact ⟨rfl, H1.out⟩
  have h1 : (s.size : Int) ≤ 200 := by omega
  have h2 : decide ((200 : Int) < (s.size : Int)) = false := by simp; omega
  have PW := Lib.hid (partsW s w (by omega))
  have rw0 := rightW s hm (by omega)
  obtain ⟨R, eR⟩ : ∃ x, x = scopeOk s := ⟨_, rfl⟩
  rw [← eR] at rw0
  have RW := Lib.hid rw0
  have hz : (s.toList == []) = (s.size == 0) := by
    rw [bytes_toList, ← ByteArray.size_data, ← Array.length_toList]
    cases s.data.toList <;> simp
  obtain ⟨P, eP⟩ : ∃ x, x = cutB s := ⟨_, rfl⟩
  have hR : R = ((decide (P.length ≤ 4) && P.all nameOk) || (s.toList == [])) := by
    rw [eR, eP, hz]; unfold scopeOk; rw [Bool.or_comm]
  have HR := Lib.hid hR
  have EP := Lib.hid eP
  clear rw0 eR hR hz hm h200 eP
  go_enter Tryd.func3, Tryd.ntmps3
  go_wp2_with fail
  refine FIT.out.mono ?_
  rintro e w1 ⟨rfl, hb1⟩
  have H1 := Lib.hid hb1
  clear hb1
  go_wp2_with fail
  refine (PW.out _ H1.out).mono ?_
  rintro e w2 ⟨b, cap, rfl, ht2, hb2, _⟩
  rw [← EP.out] at ht2 ⊢
  have H2 := Lib.hid hb2
  have T2 := Lib.hid ht2
  clear hb2 ht2
  obtain ⟨L, hL⟩ : ∃ L, L = P.length := ⟨_, rfl⟩
  rw [← hL] at HR ⊢
  have hLb : L ≤ 201 := by
    have h3 := Sc.cutL_le s.data.toList
    have h4 : s.data.toList.length = s.size := Array.length_toList
    rw [hL, EP.out]; unfold cutB; rw [List.length_map]; omega
  have HL := Lib.hid hL
  clear hL
  go_wp2_with fail
  go_loop [4, 19] (fun v4 k => ∃ (j : Nat) (q : Bool), j ≤ L ∧ k = .int .i64 j ∧ v4 = .bool q ∧ Aside (q = (decide (L ≤ 4) && (P.take j).all nameOk))) (fun _ k => L - (RowKit.intOf k).toNat)
  case atStart => exact ⟨0, decide ((L : Int) ≤ 4), Nat.zero_le _, rfl, rfl, by
    show decide ((L : Int) ≤ 4) = _
    simp [show ((L : Int) ≤ 4) = (L ≤ 4) by simp only [eq_iff_iff]; omega]⟩
  case round =>
    obtain ⟨j, q, hj, rfl, rfl, HQ⟩ := hrel
    by_cases hlt : j < L
    · have hstep : (decide (L ≤ 4) && (P.take (j + 1)).all nameOk) = (q && nameOk P[j]!) := by
        rw [all_take_or P nameOk j (by rw [← HL.out]; exact hlt), HQ.out, Bool.and_assoc]
      have hcell := T2.out.2.2 j (by rw [← HL.out]; exact hlt)
      obtain ⟨p, hp⟩ : ∃ p, p = P[j]! := ⟨_, rfl⟩
      rw [← hp] at hcell hstep
      have hjz : (j : Int) < (L : Int) := by omega
      have HS := Lib.hid hstep
      have HN := Lib.hid (name_c p)
      clear hstep hp
      cases q
      · go_wp2_with fail
        go_round
        case rel => exact ⟨j + 1, false, by omega, by go_num, rfl, by show false = _; rw [HS.out]; rfl⟩
        case measure => simp only [RowKit.intOf]; omega
      · go_wp2_with fail
        refine (HN.out _).mono ?_
        rintro e w' ⟨rfl, rfl⟩
        go_wp2_with fail
        go_round
        case rel => exact ⟨j + 1, nameOk p, by omega, by go_num, rfl, by show nameOk p = _; rw [HS.out]; rfl⟩
        case measure => simp only [RowKit.intOf]; omega
    · obtain rfl : j = L := by omega
      have hq := HQ.out
      rw [HL.out, List.take_length, ← HL.out] at hq
      have hr := HR.out
      rw [← hq] at hr
      clear hq HQ
      rcases (show (s.toList = [] ∧ s.toList.isEmpty = true ∧ R = true) ∨ ((s.toList == []) = false ∧ s.toList.isEmpty = false ∧ R = q) by
        cases hE : (s.toList == [])
        · right; rw [hE, Bool.or_false] at hr
          exact ⟨rfl, by simpa using hE, hr⟩
        · left; rw [hE, Bool.or_true] at hr
          have := beq_iff_eq.1 hE
          exact ⟨this, by rw [this]; rfl, hr⟩) with ⟨hE1, hE2, hrq⟩ | ⟨hE1, hE2, hrq⟩
      all_goals
        clear hr HR
        cases q <;> subst hrq
        all_goals
          go_wp2_with fail
          refine (RW.out _ H2.out).mono ?_
          rintro e w3 ⟨rfl, hb3⟩
          have H3 := Lib.hid hb3
          clear hb3
          go_wp2_with fail
          go_ret
          exact ⟨rfl, H3.out⟩
end Go.Proofs.YtilkmpnloblheaaDoor
