/- ScopeUnders: a scope is below another one, if it begins with its names. -/
import Derived.Test.YtilkmpnloblheaaDoorScopeF
import Derived.Deep.QuietTactic
import Derived.BigQuiet
namespace Go.Proofs.YtilkmpnloblheaaDoor
open Go.RowKit Go.Shelf
open Go.Proofs
set_option maxRecDepth 100000

theorem underL_cut (s t : List UInt8) (ht : t ≠ []) : Sc.underL s t = true ↔ Sc.cutL t <+: Sc.cutL s := by
  rw [Sc.underL_iff, Sc.pieces_cut ht]
  by_cases hs : s = []
  · subst hs
    constructor
    · intro h
      have := List.prefix_nil.1 h
      exact absurd this (Sc.cutL_ne t)
    · intro h
      have h2 : Sc.cutL t = [[]] := by
        have hle := h.length_le
        have hne := Sc.cutL_ne t
        obtain ⟨r, hr⟩ := h
        cases hc : Sc.cutL t with
        | nil => exact absurd hc hne
        | cons p q =>
          rw [hc] at hr hle
          simp only [Sc.cutL, List.length_cons, List.length_nil] at hle
          have hq : q = [] := List.eq_nil_of_length_eq_zero (by omega)
          subst hq
          simp [Sc.cutL] at hr
          rw [hr.1]
      have := Sc.joinL_cut t
      rw [h2] at this
      exact absurd this.symm ht
  · rw [Sc.pieces_cut hs]
theorem prefix_iff_all {α : Type} [Inhabited α] (a b : List α) : (b <+: a) ↔ (b.length ≤ a.length ∧ ∀ i, i < b.length → a[i]! = b[i]!) := by
  constructor
  · rintro ⟨r, rfl⟩
    refine ⟨by simp, fun i hi => ?_⟩
    rw [getElem!_pos (b ++ r) i (by simp; omega), getElem!_pos b i hi, List.getElem_append_left hi]
  · rintro ⟨h1, h2⟩
    have : b = a.take b.length := by
      apply List.ext_getElem
      · simp; omega
      · intro i hi hi2
        have := h2 i hi
        rw [getElem!_pos a i (by omega), getElem!_pos b i hi] at this
        rw [List.getElem_take, this]
    rw [this]; exact List.take_prefix _ _
/-- What the law holds it against. -/
def wantU (A B : List ByteArray) (j : Nat) : Bool := decide (B.length ≤ A.length) && (List.range j).all fun i => A[i]!.toList == B[i]!.toList
theorem wantU_succ (A B : List ByteArray) (j : Nat) : wantU A B (j + 1) = (wantU A B j && (A[j]!.toList == B[j]!.toList)) := by
  unfold wantU; rw [List.range_succ, List.all_append, ← Bool.and_assoc]; simp
theorem toList_inj {a b : ByteArray} (h : a.toList = b.toList) : a = b := by
  rw [bytes_toList, bytes_toList] at h
  rw [← bsOf_data a, ← bsOf_data b, h]
theorem wantU_end (s t : ByteArray) (ht : t.data.toList ≠ []) : wantU (cutB s) (cutB t) (min (cutB s).length (cutB t).length) = underB s t := by
  rw [Bool.eq_iff_iff]
  unfold underB
  rw [underL_cut _ _ ht]
  have hm : (Sc.cutL t.data.toList <+: Sc.cutL s.data.toList) ↔ (cutB t <+: cutB s) := by
    unfold cutB
    constructor
    · rintro ⟨r, hr⟩; exact ⟨r.map bsOf, by rw [← hr]; simp⟩
    · rintro ⟨r, hr⟩
      refine ⟨r.map (·.data.toList), ?_⟩
      have := congrArg (fun l : List ByteArray => l.map (·.data.toList)) hr
      simpa [List.map_append, List.map_map, Function.comp_def, data_bsOf] using this
  rw [hm, prefix_iff_all]
  unfold wantU
  simp only [Bool.and_eq_true, decide_eq_true_eq, List.all_eq_true, List.mem_range, beq_iff_eq]
  constructor
  · rintro ⟨h1, h2⟩
    exact ⟨h1, fun i hi => toList_inj (h2 i (by omega))⟩
  · rintro ⟨h1, h2⟩
    exact ⟨h1, fun i hi => by rw [h2 i (by omega)]⟩

theorem below_drewN (w : World) (n : Nat) : Below w.heap.size w (w.drewN n) := ⟨rfl, rfl, rfl, Nat.le_refl _, fun _ _ => rfl⟩
theorem TextsAt.drewN {B : Nat} {w : World} {b : Nat} {l : List ByteArray} (h : TextsAt B w b l) (n : Nat) : TextsAt B (w.drewN n) b l := h

set_option maxHeartbeats 4000000 in
theorem scopeUnders_c (s t : ByteArray) (w : World) (hs : s.size ≤ 140737488351232) (ht : t.size ≤ 140737488351232) (hm : MaxI w) :
    Calls Tryd.prog 4 #[.string s, .string t] w fun e w' => e = .returned (.bool true) ∧ Below w.heap.size w w' := by
  have FIT := Lib.hid (fit5_c hm w (Below.refl _ _))
  by_cases h1 : 200 < s.size
  · have h1' : (200 : Int) < (s.size : Int) := by omega
    clear hm
    go_enter Tryd.func4, Tryd.ntmps4
    go_wp2_with fail
    refine FIT.out.mono ?_
    rintro e w1 ⟨rfl, hb1⟩
    have H1 := Lib.hid hb1
    clear hb1
    go_wp2_with fail
    go_ret
    exact ⟨rfl, H1.out⟩
  have h1' : (s.size : Int) ≤ 200 := by omega
  have h1d : decide ((200 : Int) < (s.size : Int)) = false := by simp; omega
  by_cases h2 : 200 < t.size
  · have h2' : (200 : Int) < (t.size : Int) := by omega
    clear hm
    go_enter Tryd.func4, Tryd.ntmps4
    go_wp2_with fail
    refine FIT.out.mono ?_
    rintro e w1 ⟨rfl, hb1⟩
    have H1 := Lib.hid hb1
    clear hb1
    go_wp2_with fail
    go_ret
    exact ⟨rfl, H1.out⟩
  have h2' : (t.size : Int) ≤ 200 := by omega
  have h2d : decide ((200 : Int) < (t.size : Int)) = false := by simp; omega
  have rs := rightW s hm (by omega)
  have rt := rightW t hm (by omega)
  have PS := Lib.hid (partsW s w (by omega))
  have PT := Lib.hid (partsW t w (by omega))
  have ust := underW s t w (by omega)
  have uss := underW s s w (by omega)
  have us0 := underW s ⟨#[]⟩ w (by decide)
  rw [show underB s s = true from Sc.underL_refl _] at uss
  rw [show underB s ⟨#[]⟩ = true from Sc.underL_nil _] at us0
  obtain ⟨U, eU⟩ : ∃ x, x = underB s t := ⟨_, rfl⟩
  rw [← eU] at ust
  obtain ⟨RS, eRS⟩ : ∃ x, x = scopeOk s := ⟨_, rfl⟩
  rw [← eRS] at rs
  obtain ⟨RT, eRT⟩ : ∃ x, x = scopeOk t := ⟨_, rfl⟩
  rw [← eRT] at rt
  have HRS := Lib.hid rs
  have HRT := Lib.hid rt
  have UST := Lib.hid ust
  have USS := Lib.hid uss
  have US0 := Lib.hid us0
  obtain ⟨A, eA⟩ : ∃ x, x = cutB s := ⟨_, rfl⟩
  obtain ⟨B, eB⟩ : ∃ x, x = cutB t := ⟨_, rfl⟩
  have hAB : A.length ≤ 201 ∧ B.length ≤ 201 := by
    have h3 := Sc.cutL_le s.data.toList
    have h4 : s.data.toList.length = s.size := Array.length_toList
    have h5 := Sc.cutL_le t.data.toList
    have h6 : t.data.toList.length = t.size := Array.length_toList
    rw [eA, eB]; unfold cutB; rw [List.length_map, List.length_map]; omega
  obtain ⟨hAb, hBb⟩ := hAB
  have HE : Hid ((t.toList = [] ∧ t.toList.isEmpty = true ∧ U = true) ∨ ((t.toList == []) = false ∧ t.toList.isEmpty = false ∧ U = wantU A B (min A.length B.length))) := Lib.hid (by
    cases hE : (t.toList == [])
    · right
      have hE2 : t.data.toList ≠ [] := by rw [← bytes_toList]; simpa using hE
      exact ⟨rfl, by simpa using hE, by rw [eU, eA, eB, wantU_end s t hE2]⟩
    · left
      have := beq_iff_eq.1 hE
      refine ⟨this, by rw [this]; rfl, ?_⟩
      rw [eU]; unfold underB
      rw [← bytes_toList t, this]; exact Sc.underL_nil _)
  have EA := Lib.hid eA
  have EB := Lib.hid eB
  clear rs rt ust uss us0 eU eRS eRT eA eB hm h1 h2
  go_enter Tryd.func4, Tryd.ntmps4
  go_wp2_with fail
  refine FIT.out.mono ?_
  rintro e w1 ⟨rfl, hb1⟩
  have H1 := Lib.hid hb1
  clear hb1
  go_wp2_with fail
  refine (HRS.out _ H1.out).mono ?_
  rintro e w2 ⟨rfl, hb2⟩
  have H2 := Lib.hid hb2
  clear hb2
  cases RS
  · go_wp2_with fail
    go_ret
    exact ⟨rfl, H2.out⟩
  go_wp2_with fail
  refine (HRT.out _ H2.out).mono ?_
  rintro e w3 ⟨rfl, hb3⟩
  have H3 := Lib.hid hb3
  clear hb3
  cases RT
  · go_wp2_with fail
    go_ret
    exact ⟨rfl, H3.out⟩
  go_wp2_with fail
  refine (PS.out _ H3.out).mono ?_
  rintro e w4 ⟨b1, cap1, rfl, ht4, hb4, _⟩
  rw [← EA.out] at ht4 ⊢
  have H4 := Lib.hid hb4
  have T4 := Lib.hid ht4
  clear hb4 ht4
  go_wp2_with fail
  refine (PT.out _ H4.out).mono ?_
  rintro e w5 ⟨b2, cap2, rfl, ht5, hb5, hbb5⟩
  rw [← EB.out] at ht5 ⊢
  have H5 := Lib.hid hb5
  have T5 := Lib.hid ht5
  have T5A := Lib.hid (T4.out.below hbb5 rfl)
  clear hb5 ht5 hbb5 T4 H4 H3 H2 H1 PS PT HRS HRT FIT EA EB
  obtain ⟨LA, hLA⟩ : ∃ L, L = A.length := ⟨_, rfl⟩
  obtain ⟨LB, hLB⟩ : ∃ L, L = B.length := ⟨_, rfl⟩
  rw [← hLA, ← hLB] at HE ⊢
  rw [← hLA] at hAb
  rw [← hLB] at hBb
  have HLA := Lib.hid hLA
  have HLB := Lib.hid hLB
  clear hLA hLB
  have hmin : min (LA : Int) (LB : Int) = ((min LA LB : Nat) : Int) := by omega
  obtain ⟨M, hM⟩ : ∃ M, M = min LA LB := ⟨_, rfl⟩
  rw [← hM] at HE hmin
  have hMA : M ≤ LA := by omega
  have hMB : M ≤ LB := by omega
  clear hM
  rcases HE.out with ⟨hE1, hE2, rfl⟩ | ⟨hE1, hE2, hU⟩
  · clear HE
    go_wp2_with fail
    go_loopg [7, 47] M (fun kx v7 v47 wr => ∃ j : Nat, j ≤ M ∧ M - j ≤ kx ∧ v47 = .int .i64 j ∧ v7 = .bool true ∧ Aside (Below w.heap.size w wr))
    case atStart => exact ⟨0, Nat.zero_le _, by omega, rfl, rfl, H5.out⟩
    case round =>
      obtain ⟨j, hj, hjx, rfl, rfl, HB⟩ := hrel
      by_cases hlt : j < M
      · have hjz : (j : Int) < (M : Int) := by omega
        go_wp2_with fail
        go_quiet (fail)
        go_wp2_with fail
        go_roundg (M - (j + 1))
        case measure => omega
        case rel => exact ⟨j + 1, hlt, Nat.le_refl _, by go_num, rfl, HB.out.trans ((below_drewN wr _).mono HB.out.size)⟩
      · obtain rfl : j = M := by omega
        go_wp2_with fail
        refine (UST.out _ HB.out).mono ?_
        rintro e w6 ⟨rfl, hb6⟩
        have H6 := Lib.hid hb6
        clear hb6
        go_wp2_with fail
        refine (USS.out _ H6.out).mono ?_
        rintro e w7 ⟨rfl, hb7⟩
        have H7 := Lib.hid hb7
        clear hb7
        go_wp2_with fail
        refine (US0.out _ H7.out).mono ?_
        rintro e w8 ⟨rfl, hb8⟩
        have H8 := Lib.hid hb8
        clear hb8
        go_wp2_with fail
        go_ret
        exact ⟨rfl, H8.out⟩
  · clear HE
    have HU := Lib.hid hU
    clear hU
    have T6A := T5A
    obtain ⟨q0, hq0⟩ : ∃ q, q = decide (LB ≤ LA) := ⟨_, rfl⟩
    have hq0' : decide ((LB : Int) ≤ (LA : Int)) = q0 := by rw [hq0]; simp
    have HQ0 : Hid (q0 = wantU A B 0) := Lib.hid (by rw [hq0]; unfold wantU; rw [← HLA.out, ← HLB.out]; simp)
    have hq0N : Hid (decide (LB ≤ LA) = q0) := Lib.hid hq0.symm
    clear hq0
    go_wp2_with fail
    go_loopg [7, 47] M (fun kx v7 v47 wr => ∃ (j : Nat) (q : Bool), j ≤ M ∧ M - j ≤ kx ∧ v47 = .int .i64 j ∧ v7 = .bool q ∧ Aside (q = wantU A B j) ∧ Aside (TextsAt w.heap.size wr b1 A) ∧ Aside (TextsAt w.heap.size wr b2 B) ∧ Aside (Below w.heap.size w wr))
    case atStart => exact ⟨0, q0, Nat.zero_le _, by omega, rfl, congrArg Value.bool hq0N.out, HQ0.out, T5A.out, T5.out, H5.out⟩
    case round =>
      clear hq0' hq0N HQ0 T6A T5A T5 H5
      obtain ⟨j, q, hj, hjx, rfl, rfl, HQ, TA, TB, HB⟩ := hrel
      by_cases hlt : j < M
      · have hjz : (j : Int) < (M : Int) := by omega
        have hjA : (j : Int) < (LA : Int) := by omega
        have hjB : (j : Int) < (LB : Int) := by omega
        have hj0 : (0 : Int) ≤ (j : Int) := by omega
        have hsx := wantU_succ A B j
        rw [← HQ.out] at hsx
        have ca := TA.out.2.2 j (by rw [← HLA.out]; omega)
        have cb := TB.out.2.2 j (by rw [← HLB.out]; omega)
        obtain ⟨x, hx⟩ : ∃ x, x = A[j]! := ⟨_, rfl⟩
        obtain ⟨y, hy⟩ : ∃ y, y = B[j]! := ⟨_, rfl⟩
        rw [← hx] at ca hsx
        rw [← hy] at cb hsx
        have HS := Lib.hid hsx
        clear hsx hx hy
        cases q
        · clear ca cb
          go_wp2_with fail
          go_quiet (fail)
          go_wp2_with fail
          go_roundg (M - (j + 1))
          case measure => omega
          case rel => exact ⟨j + 1, false, hlt, Nat.le_refl _, by go_num, rfl, by show false = _; rw [HS.out]; rfl, TA.out.drewN _, TB.out.drewN _, HB.out.trans ((below_drewN wr _).mono HB.out.size)⟩
        · go_wp2_with fail
          go_quiet (fail)
          go_wp2_with fail
          go_roundg (M - (j + 1))
          case measure => omega
          case rel => exact ⟨j + 1, x.toList == y.toList, hlt, Nat.le_refl _, by go_num, rfl, by show _ = _; rw [HS.out]; rfl, TA.out.drewN _, TB.out.drewN _, HB.out.trans ((below_drewN wr _).mono HB.out.size)⟩
      · obtain rfl : j = M := by omega
        have hUq : U = q := HU.out.trans HQ.out.symm
        subst hUq
        cases U
        all_goals
          go_wp2_with fail
          refine (UST.out _ HB.out).mono ?_
          rintro e w6 ⟨rfl, hb6⟩
          have H6 := Lib.hid hb6
          clear hb6
          go_wp2_with fail
          refine (USS.out _ H6.out).mono ?_
          rintro e w7 ⟨rfl, hb7⟩
          have H7 := Lib.hid hb7
          clear hb7
          go_wp2_with fail
          refine (US0.out _ H7.out).mono ?_
          rintro e w8 ⟨rfl, hb8⟩
          have H8 := Lib.hid hb8
          clear hb8
          go_wp2_with fail
          go_ret
          exact ⟨rfl, H8.out⟩
end Go.Proofs.YtilkmpnloblheaaDoor
