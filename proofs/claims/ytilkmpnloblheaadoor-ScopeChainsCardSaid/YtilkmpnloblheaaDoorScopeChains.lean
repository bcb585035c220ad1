/- ScopeChains: what is below what is below a third one is below that. -/
import Derived.Test.YtilkmpnloblheaaDoorScopeF
namespace Go.Proofs.YtilkmpnloblheaaDoor
open Go.RowKit Go.Shelf
open Go.Proofs
set_option maxRecDepth 100000

theorem underB_trans {a b c : ByteArray} (h : underB a b = true) (h2 : underB b c = true) : underB a c = true := Sc.underL_trans h h2
theorem underB_anti {a b : ByteArray} (h : underB a b = true) (h2 : underB b a = true) : a = b := by
  have := Sc.underL_anti h h2
  rw [← bsOf_data a, ← bsOf_data b, this]

set_option maxHeartbeats 2000000 in
theorem scopeChains_c (a b c : ByteArray) (w : World) (ha : a.size ≤ 140737488351232) (hb : b.size ≤ 140737488351232) (hc : c.size ≤ 140737488351232) (hm : MaxI w) :
    Calls Tryd.prog 6 #[.string a, .string b, .string c] w fun e w' => e = .returned (.bool true) ∧ Below w.heap.size w w' := by
  have FIT := Lib.hid (fit5_c hm w (Below.refl _ _))
  by_cases h300 : 300 < a.size + b.size + c.size
  · have h1 : (300 : Int) < (a.size : Int) + (b.size : Int) + (c.size : Int) := by omega
    clear hm
    go_enter Tryd.func6, Tryd.ntmps6
    go_wp2_with fail
    refine FIT.out.mono ?_
    rintro e w1 ⟨rfl, hb1⟩
    have H1 := Lib.hid hb1
    clear hb1
    go_wp2_with fail
    go_ret
    exact ⟨rfl, H1.out⟩
  have h1 : (a.size : Int) + (b.size : Int) + (c.size : Int) ≤ 300 := by omega
  have h2 : decide ((300 : Int) < (a.size : Int) + (b.size : Int) + (c.size : Int)) = false := by simp; omega
  have ra := rightW a hm (by omega)
  have rb := rightW b hm (by omega)
  have rc := rightW c hm (by omega)
  have uab := underW a b w (by omega)
  have uba := underW b a w (by omega)
  have ubc := underW b c w (by omega)
  have uac := underW a c w (by omega)
  obtain ⟨A, eA⟩ : ∃ x, x = scopeOk a := ⟨_, rfl⟩
  obtain ⟨B, eB⟩ : ∃ x, x = scopeOk b := ⟨_, rfl⟩
  obtain ⟨C, eC⟩ : ∃ x, x = scopeOk c := ⟨_, rfl⟩
  obtain ⟨AB, eAB⟩ : ∃ x, x = underB a b := ⟨_, rfl⟩
  obtain ⟨BA, eBA⟩ : ∃ x, x = underB b a := ⟨_, rfl⟩
  obtain ⟨BC, eBC⟩ : ∃ x, x = underB b c := ⟨_, rfl⟩
  obtain ⟨AC, eAC⟩ : ∃ x, x = underB a c := ⟨_, rfl⟩
  have HTR : Hid (AB = true → BC = true → AC = true) := Lib.hid (by rw [eAB, eBC, eAC]; exact underB_trans)
  have HAN : Hid (AB = true → BA = true → (a.toList == b.toList) = true) := Lib.hid (by rw [eAB, eBA]; intro h h2; rw [underB_anti h h2]; simp)
  rw [← eA] at ra
  rw [← eB] at rb
  rw [← eC] at rc
  rw [← eAB] at uab
  rw [← eBA] at uba
  rw [← eBC] at ubc
  rw [← eAC] at uac
  clear eA eB eC eAB eBA eBC eAC h300 hm
  have RA := Lib.hid ra
  have RB := Lib.hid rb
  have RC := Lib.hid rc
  have UAB := Lib.hid uab
  have UBA := Lib.hid uba
  have UBC := Lib.hid ubc
  have UAC := Lib.hid uac
  clear ra rb rc uab uba ubc uac
  go_enter Tryd.func6, Tryd.ntmps6
  go_wp2_with fail
  refine FIT.out.mono ?_
  rintro e w1 ⟨rfl, hb1⟩
  have H1 := Lib.hid hb1
  clear hb1
  go_wp2_with fail
  refine (RA.out _ H1.out).mono ?_
  rintro e w2 ⟨rfl, hb2⟩
  have H2 := Lib.hid hb2
  clear hb2
  cases A
  · go_wp2_with fail
    go_ret
    exact ⟨rfl, H2.out⟩
  go_wp2_with fail
  refine (RB.out _ H2.out).mono ?_
  rintro e w3 ⟨rfl, hb3⟩
  have H3 := Lib.hid hb3
  clear hb3
  cases B
  · go_wp2_with fail
    go_ret
    exact ⟨rfl, H3.out⟩
  go_wp2_with fail
  refine (RC.out _ H3.out).mono ?_
  rintro e w4 ⟨rfl, hb4⟩
  have H4 := Lib.hid hb4
  clear hb4
  cases C
  · go_wp2_with fail
    go_ret
    exact ⟨rfl, H4.out⟩
  go_wp2_with fail
  refine (UAB.out _ H4.out).mono ?_
  rintro e w5 ⟨rfl, hb5⟩
  have H5 := Lib.hid hb5
  clear hb5
  cases AB
  · go_wp2_with fail
    refine (UAB.out _ H5.out).mono ?_
    rintro e w6 ⟨rfl, hb6⟩
    have H6 := Lib.hid hb6
    clear hb6
    go_wp2_with fail
    go_ret
    exact ⟨rfl, H6.out⟩
  go_wp2_with fail
  refine (UBA.out _ H5.out).mono ?_
  rintro e w6 ⟨rfl, hb6⟩
  have H6 := Lib.hid hb6
  clear hb6
  rcases (show BA = false ∨ (BA = true ∧ (a.toList == b.toList) = true) by
    cases hba : BA
    · exact Or.inl rfl
    · exact Or.inr ⟨rfl, HAN.out (by trivial) hba⟩) with rfl | ⟨rfl, hne2⟩
  all_goals
    go_wp2_with fail
    refine (UAB.out _ H6.out).mono ?_
    rintro e w7 ⟨rfl, hb7⟩
    have H7 := Lib.hid hb7
    clear hb7
    go_wp2_with fail
    refine (UBC.out _ H7.out).mono ?_
    rintro e w8 ⟨rfl, hb8⟩
    have H8 := Lib.hid hb8
    clear hb8
    rcases (show BC = false ∨ (BC = true ∧ AC = true) by
      cases hbc : BC
      · exact Or.inl rfl
      · exact Or.inr ⟨rfl, HTR.out (by trivial) hbc⟩) with rfl | ⟨rfl, rfl⟩
    · go_wp2_with fail
      go_ret
      exact ⟨rfl, H8.out⟩
    · go_wp2_with fail
      refine (UAC.out _ H8.out).mono ?_
      rintro e w9 ⟨rfl, hb9⟩
      have H9 := Lib.hid hb9
      clear hb9
      go_wp2_with fail
      go_ret
      exact ⟨rfl, H9.out⟩
end Go.Proofs.YtilkmpnloblheaaDoor
