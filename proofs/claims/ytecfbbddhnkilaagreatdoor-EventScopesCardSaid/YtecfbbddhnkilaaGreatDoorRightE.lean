/- event.Right of any event. -/
import Derived.Test.YtecfbbddhnkilaaGreatDoorKeptB
import Derived.Sort.Walk0
namespace Go.Proofs.YtecfbbddhnkilaaGreatDoor
open Go.RowKit Go.Shelf Go.Sort
open Go.Proofs
set_option maxRecDepth 100000

def okAt (l : List At) (i : Nat) : Bool := (decide (i = 0) || ltKey keyA l[i - 1]! l[i]!) && nameOk l[i]!.nm && vrightB l[i]!.k l[i]!.s && keptB l[i]!
/-- What event.Right says. -/
def rightE (l : List At) : Bool := decide (l.length ≤ 8) && (List.range l.length).all (okAt l)

theorem rightE_bad {l : List At} {j : Nat} (hj : j < l.length) (h : okAt l j = false) : rightE l = false := by
  cases hn : rightE l with
  | false => rfl
  | true =>
    simp only [rightE, Bool.and_eq_true, List.all_eq_true, List.mem_range] at hn
    rw [hn.2 j hj] at h; cases h
theorem ok_succ {l : List At} {j : Nat} (h : (List.range j).all (okAt l) = true) (hp : okAt l j = true) : (List.range (j + 1)).all (okAt l) = true := by
  rw [List.range_succ, List.all_append, h]; simp [hp]

theorem less_key (a b : At) : Op.bytesLess a.nm.toList b.nm.toList = ltKey keyA a b := by
  rw [bytes_toList, bytes_toList, bytesLess_eq]; rfl

set_option maxHeartbeats 4000000 in
theorem right_c (scope : ByteArray) (ao : Option Addr) (cap : Nat) (l : List At) (w : World) (hl : SliceA w ao l) :
    Calls Tryz.prog 25 #[.agg #[.string scope, .slice ao l.length cap]] w fun e w' => e = .returned (.bool (rightE l)) ∧ Below w.heap.size w w' := by
  obtain ⟨len, hL⟩ : ∃ len, len = l.length := ⟨_, rfl⟩
  have HLen : Aside (len = l.length) := hL
  rw [← hL]
  by_cases h8 : 8 < len
  · have hr : rightE l = false := by unfold rightE; rw [← hL, show decide (len ≤ 8) = false by simpa using h8]; rfl
    have h8z : (8 : Int) < len := by omega
    rw [hr]
    clear hL h8
    go_enter Tryz.func25, Tryz.ntmps25
    go_wp2
    go_ret
    exact ⟨rfl, ((Below.refl _ _).alloc (Nat.le_refl _) _)⟩
  have h8z : ¬ (8 : Int) < len := by omega
  have h8n : len ≤ 8 := by omega
  have HN : Aside ((List.range len).all (okAt l) = true → rightE l = true) := fun h => by unfold rightE; rw [← HLen.out, h]; simpa using h8n
  have HF : Aside (∀ j, j < len → okAt l j = false → rightE l = false) := fun j h h' => rightE_bad (by rw [← HLen.out]; exact h) h'
  have HS : Aside (SliceA w ao l) := hl
  clear hl hL
  go_enter Tryz.func25, Tryz.ntmps25
  go_wp2_with fail
  go_loopg [12] len (fun kx s12 wr => ∃ j : Nat, s12 = .int .i64 j ∧ j ≤ len ∧ len - j ≤ kx ∧ Aside ((List.range j).all (okAt l) = true) ∧ Aside (Below w.heap.size w wr) ∧ w.heap.size < wr.heap.size ∧ wr.cell? ⟨w.heap.size, 1, none⟩ = some (.slice ao len cap))
  case atStart => exact ⟨0, rfl, Nat.zero_le _, by omega, by simp [Aside], (Below.refl _ _).alloc (Nat.le_refl _) _, by simp, by simp [World.cell?_alloc_new]⟩
  case round =>
    obtain ⟨j, rfl, hj, hjx, hall, HB, hz, he1⟩ := hrel
    by_cases hlt : j < len
    · rcases HS.out with h0 | ⟨b, off, hao, hbs, hrow⟩
      · rw [h0] at HLen; exact absurd HLen.out (by simp; omega)
      subst hao
      have hR := RowAt.below HB.out hbs hrow
      have hrow1 := hR j (by rw [← HLen.out]; exact hlt)
      have HRow : Aside (RowAt w b off l) := hrow
      have HR : Aside (RowAt wr b off l) := hR
      clear hrow hR
      obtain ⟨a, ha⟩ : ∃ a, a = l[j]! := ⟨_, rfl⟩
      have HA : Aside (a = l[j]!) := ha
      rw [← ha] at hrow1
      clear ha
      obtain ⟨nm, k, n, x, s, y⟩ := a
      have c0 := hrow1 0 _ rfl; have c1 := hrow1 1 _ rfl; have c2 := hrow1 2 _ rfl; have c3 := hrow1 3 _ rfl; have c4 := hrow1 4 _ rfl; have c5 := hrow1 5 _ rfl
      simp only [Nat.add_zero] at c0
      clear hrow1
      have hltz : (j : Int) < len := by omega
      have hjz : (0 : Int) ≤ (j : Int) := by omega
      go_wp2_with fail
      have HB2 : Aside (Below w.heap.size w (wr.alloc (.cells #[.string nm, .int .i64 k, .int .i64 n, .float .f64 x, .string s, .bool y] 40))) := HB.out.alloc (Nat.le_of_lt hz) _
      have hA2 : wr.heap.size < (wr.alloc (.cells #[.string nm, .int .i64 k, .int .i64 n, .float .f64 x, .string s, .bool y] 40)).heap.size := by simp
      have yy : ∀ i, (wr.alloc (.cells #[.string nm, .int .i64 k, .int .i64 n, .float .f64 x, .string s, .bool y] 40)).cell? ⟨wr.heap.size, i, none⟩ = (#[Value.string nm, .int .i64 k, .int .i64 n, .float .f64 x, .string s, .bool y])[i]? := fun i => by rw [World.cell?_alloc_new]
      have he2 := (World.cell?_alloc_lt wr (.cells #[.string nm, .int .i64 k, .int .i64 n, .float .f64 x, .string s, .bool y] 40) ⟨w.heap.size, 1, none⟩ hz).trans he1
      have y0 := yy 0; have y1 := yy 1; have y2 := yy 2; have y3 := yy 3; have y4 := yy 4; have y5 := yy 5
      simp only [List.getElem?_toArray, List.getElem?_cons_zero, List.getElem?_cons_succ] at y0 y1 y2 y3 y4 y5
      clear yy c0 c1 c2 c3 c4 c5 he1 HR HB
      generalize (wr.alloc (.cells #[.string nm, .int .i64 k, .int .i64 n, .float .f64 x, .string s, .bool y] 40)) = w2 at *
      have hzA : w.heap.size < wr.heap.size := hz
      generalize wr.heap.size = A at *
      rcases j with _ | q
      · have h0z : ¬ (0 : Int) < ((0 : Nat) : Int) := by decide
        have OK : Aside (okAt l 0 = (nameOk nm && vrightB k s && keptB ⟨nm, k, n, x, s, y⟩)) := by
          unfold okAt; rw [← HA.out]; rfl
        go_region
        have HD : Aside (Below w.heap.size w w2.drew) := ⟨HB2.out.os, HB2.out.tape, HB2.out.output, HB2.out.size, HB2.out.block⟩
        have he3 : w2.drew.cell? ⟨w.heap.size, 1, none⟩ = some (.slice (some ⟨b, off, none⟩) len cap) := he2
        have hA3 : A < w2.drew.heap.size := hA2
        have z0 : w2.drew.cell? ⟨A, 0, none⟩ = some (.string nm) := y0
        have z1 : w2.drew.cell? ⟨A, 1, none⟩ = some (.int .i64 k) := y1
        have z2 : w2.drew.cell? ⟨A, 2, none⟩ = some (.int .i64 n) := y2
        have z3 : w2.drew.cell? ⟨A, 3, none⟩ = some (.float .f64 x) := y3
        have z4 : w2.drew.cell? ⟨A, 4, none⟩ = some (.string s) := y4
        have z5 : w2.drew.cell? ⟨A, 5, none⟩ = some (.bool y) := y5
        clear y0 y1 y2 y3 y4 y5 he2 hA2 HB2
        generalize w2.drew = w3 at *
        cases hn : nameOk nm
        · go_wp2_with (go_at_call 23; refine (name_c _ _).mono ?_; rintro e w4 ⟨rfl, rfl⟩; rw [hn])
          go_ret
          exact ⟨congrArg (fun b => Ending.returned (Value.bool b)) (HF.out 0 hlt (by rw [OK.out, hn]; rfl)).symm, HD.out⟩
        go_wp2_with (go_at_call 23; refine (name_c _ _).mono ?_; rintro e w4 ⟨rfl, rfl⟩; rw [hn])
        refine (vright_c k n x s y _).mono ?_
        rintro e w4 ⟨rfl, hb4⟩
        have HD4 : Aside (Below w.heap.size w w4) := HD.out.trans (hb4.mono HD.out.size)
        have v0 := (hb4.cell (p := ⟨A, 0, none⟩) hA3).trans z0; have v1 := (hb4.cell (p := ⟨A, 1, none⟩) hA3).trans z1; have v2 := (hb4.cell (p := ⟨A, 2, none⟩) hA3).trans z2; have v3 := (hb4.cell (p := ⟨A, 3, none⟩) hA3).trans z3; have v4 := (hb4.cell (p := ⟨A, 4, none⟩) hA3).trans z4; have v5 := (hb4.cell (p := ⟨A, 5, none⟩) hA3).trans z5
        have he4 := (hb4.cell (p := ⟨w.heap.size, 1, none⟩) (Nat.lt_trans hzA hA3)).trans he3
        have hz4 := Nat.lt_of_lt_of_le (Nat.lt_trans hzA hA3) hb4.size
        clear z0 z1 z2 z3 z4 z5 he3 hA3 hb4
        cases hv : vrightB k s
        · go_wp2_with fail
          go_ret
          exact ⟨congrArg (fun b => Ending.returned (Value.bool b)) (HF.out 0 hlt (by rw [OK.out, hn, hv]; rfl)).symm, HD4.out⟩
        go_wp2_with fail
        refine (kept_c nm k n x s y _).mono ?_
        rintro e w5 ⟨rfl, hb5⟩
        have HD5 : Aside (Below w.heap.size w w5) := HD4.out.trans (hb5.mono HD4.out.size)
        have he5 := (hb5.cell (p := ⟨w.heap.size, 1, none⟩) hz4).trans he4
        have hz5 := Nat.lt_of_lt_of_le hz4 hb5.size
        clear v0 v1 v2 v3 v4 v5 he4 hz4 hb5
        cases hk : keptB ⟨nm, k, n, x, s, y⟩
        · go_wp2_with fail
          go_ret
          exact ⟨congrArg (fun b => Ending.returned (Value.bool b)) (HF.out 0 hlt (by rw [OK.out, hn, hv, hk]; rfl)).symm, HD5.out⟩
        have hOK : okAt l (0) = true := by rw [OK.out, hn, hv, hk]; rfl
        go_wp2_with fail
        go_roundg (len - (0 + 1))
        case measure => omega
        case rel => exact ⟨0 + 1, by go_num, hlt, Nat.le_refl _, ok_succ hall.out hOK, HD5, hz5, he5⟩
      · obtain ⟨p, hp⟩ : ∃ p, p = l[q]! := ⟨_, rfl⟩
        have HP : Aside (p = l[q]!) := hp
        have cp := RowAt.below HB2.out hbs HRow.out q (by rw [← HLen.out]; omega)
        rw [← hp] at cp
        have cp0 := cp 0 _ rfl
        simp only [Nat.add_zero] at cp0
        clear cp hp
        have h0z : (0 : Int) < ((q + 1 : Nat) : Int) := by omega
        have e0 : (((q + 1 : Nat) : Int) - 1).toNat = q := by omega
        have e1 : IntKind.i64.wrap (((q + 1 : Nat) : Int) - 1) = (q : Int) := by rw [IntKind.wrap_i64]; omega
        have r1 : (q : Int) < len := by omega
        have r2 : (0 : Int) ≤ q := by omega
        have lk := less_key p ⟨nm, k, n, x, s, y⟩
        simp only [] at lk
        have OK0 : Aside (okAt l (q + 1) = (ltKey keyA p ⟨nm, k, n, x, s, y⟩ && nameOk nm && vrightB k s && keptB ⟨nm, k, n, x, s, y⟩)) := by
          unfold okAt; rw [← HA.out, Nat.add_sub_cancel, ← HP.out, show decide (q + 1 = 0) = false by simp]; rfl
        cases hlk : ltKey keyA p ⟨nm, k, n, x, s, y⟩
        · rw [hlk] at lk
          have HD : Aside (Below w.heap.size w w2.drew) := ⟨HB2.out.os, HB2.out.tape, HB2.out.output, HB2.out.size, HB2.out.block⟩
          go_region
          go_wp2_with fail
          go_ret
          exact ⟨congrArg (fun b => Ending.returned (Value.bool b)) (HF.out (q + 1) hlt (by rw [OK0.out, hlk]; rfl)).symm, HD.out⟩
        have OK : Aside (okAt l (q + 1) = (nameOk nm && vrightB k s && keptB ⟨nm, k, n, x, s, y⟩)) := by rw [OK0.out, hlk]; rfl
        rw [hlk] at lk
        clear OK0 hlk
        go_region
        have HD : Aside (Below w.heap.size w w2.drew) := ⟨HB2.out.os, HB2.out.tape, HB2.out.output, HB2.out.size, HB2.out.block⟩
        have he3 : w2.drew.cell? ⟨w.heap.size, 1, none⟩ = some (.slice (some ⟨b, off, none⟩) len cap) := he2
        have hA3 : A < w2.drew.heap.size := hA2
        have z0 : w2.drew.cell? ⟨A, 0, none⟩ = some (.string nm) := y0
        have z1 : w2.drew.cell? ⟨A, 1, none⟩ = some (.int .i64 k) := y1
        have z2 : w2.drew.cell? ⟨A, 2, none⟩ = some (.int .i64 n) := y2
        have z3 : w2.drew.cell? ⟨A, 3, none⟩ = some (.float .f64 x) := y3
        have z4 : w2.drew.cell? ⟨A, 4, none⟩ = some (.string s) := y4
        have z5 : w2.drew.cell? ⟨A, 5, none⟩ = some (.bool y) := y5
        clear y0 y1 y2 y3 y4 y5 he2 hA2 HB2
        generalize w2.drew = w3 at *
        cases hn : nameOk nm
        · go_wp2_with (go_at_call 23; refine (name_c _ _).mono ?_; rintro e w4 ⟨rfl, rfl⟩; rw [hn])
          go_ret
          exact ⟨congrArg (fun b => Ending.returned (Value.bool b)) (HF.out (q + 1) hlt (by rw [OK.out, hn]; rfl)).symm, HD.out⟩
        go_wp2_with (go_at_call 23; refine (name_c _ _).mono ?_; rintro e w4 ⟨rfl, rfl⟩; rw [hn])
        refine (vright_c k n x s y _).mono ?_
        rintro e w4 ⟨rfl, hb4⟩
        have HD4 : Aside (Below w.heap.size w w4) := HD.out.trans (hb4.mono HD.out.size)
        have v0 := (hb4.cell (p := ⟨A, 0, none⟩) hA3).trans z0; have v1 := (hb4.cell (p := ⟨A, 1, none⟩) hA3).trans z1; have v2 := (hb4.cell (p := ⟨A, 2, none⟩) hA3).trans z2; have v3 := (hb4.cell (p := ⟨A, 3, none⟩) hA3).trans z3; have v4 := (hb4.cell (p := ⟨A, 4, none⟩) hA3).trans z4; have v5 := (hb4.cell (p := ⟨A, 5, none⟩) hA3).trans z5
        have he4 := (hb4.cell (p := ⟨w.heap.size, 1, none⟩) (Nat.lt_trans hzA hA3)).trans he3
        have hz4 := Nat.lt_of_lt_of_le (Nat.lt_trans hzA hA3) hb4.size
        clear z0 z1 z2 z3 z4 z5 he3 hA3 hb4
        cases hv : vrightB k s
        · go_wp2_with fail
          go_ret
          exact ⟨congrArg (fun b => Ending.returned (Value.bool b)) (HF.out (q + 1) hlt (by rw [OK.out, hn, hv]; rfl)).symm, HD4.out⟩
        go_wp2_with fail
        refine (kept_c nm k n x s y _).mono ?_
        rintro e w5 ⟨rfl, hb5⟩
        have HD5 : Aside (Below w.heap.size w w5) := HD4.out.trans (hb5.mono HD4.out.size)
        have he5 := (hb5.cell (p := ⟨w.heap.size, 1, none⟩) hz4).trans he4
        have hz5 := Nat.lt_of_lt_of_le hz4 hb5.size
        clear v0 v1 v2 v3 v4 v5 he4 hz4 hb5
        cases hk : keptB ⟨nm, k, n, x, s, y⟩
        · go_wp2_with fail
          go_ret
          exact ⟨congrArg (fun b => Ending.returned (Value.bool b)) (HF.out (q + 1) hlt (by rw [OK.out, hn, hv, hk]; rfl)).symm, HD5.out⟩
        have hOK : okAt l ((q + 1)) = true := by rw [OK.out, hn, hv, hk]; rfl
        go_wp2_with fail
        go_roundg (len - ((q + 1) + 1))
        case measure => omega
        case rel => exact ⟨(q + 1) + 1, by go_num, hlt, Nat.le_refl _, ok_succ hall.out hOK, HD5, hz5, he5⟩
    · obtain rfl : j = len := by omega
      go_wp2
      go_ret
      exact ⟨congrArg (fun b => Ending.returned (Value.bool b)) (HN.out hall.out).symm, HB.out⟩
end Go.Proofs.YtecfbbddhnkilaaGreatDoor
