/- codec.Reader: num, shortText, yes. -/
import Derived.Test.YtecfbbddhnkilaaRd3
import Derived.Test.YtecfbbddhnkilaaBack
namespace Go.Proofs.Ytecfbbddhnkilaa
open Go.RowKit
open Go.Proofs
set_option maxRecDepth 100000

def rNum (l : List UInt8) : Option (Nat × List UInt8) := match rLong l with
  | none => none
  | some (k, t) => if (fback k).2 then some ((fback k).1, t) else none
def rShort (l : List UInt8) : Option (ByteArray × List UInt8) := match rText l with
  | none => none
  | some (s, t) => if (s.size : Int) ≤ 40 then some (s, t) else none
def rYes (l : List UInt8) : Option (Bool × List UInt8) := match rByte l with
  | none => none
  | some (x, t) => if x ≤ 1 then some (x == 1, t) else none
theorem rLong_some {l t : List UInt8} {k : Int} (h : rLong l = some (k, t)) : 8 ≤ l.length ∧ k = be (l.take 8) ∧ t = l.drop 8 ∧ 0 ≤ k ∧ k < 18446744073709551616 := by
  unfold rLong at h
  by_cases hc : 8 ≤ l.length
  · rw [if_pos hc] at h
    simp only [Option.some.injEq, Prod.mk.injEq] at h
    have hb := be_lt (l.take 8)
    rw [List.length_take, Nat.min_eq_left hc] at hb
    refine ⟨hc, h.1.symm, h.2.symm, by omega, ?_⟩
    rw [← h.1]; omega
  · rw [if_neg hc] at h; cases h

set_option maxHeartbeats 1000000 in
theorem num_ok (R : Nat) (l t : List UInt8) (x : Nat) (w : World) (h : Rd w R l) (hn : rNum l = some (x, t)) :
    Calls Try.prog 40 #[.pointer (some ⟨R, 0, none⟩)] w fun e w' => e = .returned (.float .f64 x) ∧ Aside (Rd w' R t ∧ Kb (· = R) w w') := by
  cases hl : rLong l with
  | none => simp only [rNum, hl] at hn; cases hn
  | some p =>
    obtain ⟨k, t2⟩ := p
    obtain ⟨h8, rfl, rfl, hk0, hk1⟩ := rLong_some hl
    have hc := long_ok R l w h h8
    simp only [rNum, hl] at hn
    have hbk := fun W => back_c (be (l.take 8)) hk0 hk1 W
    generalize ((be (l.take 8) : Nat) : Int) = k at *
    by_cases hb : (fback k).2 = true
    · rw [if_pos hb] at hn
      simp only [Option.some.injEq, Prod.mk.injEq] at hn
      obtain ⟨rfl, rfl⟩ := hn
      rw [hb] at hbk
      generalize (fback k).1 = z at *
      clear h hl hk0 hk1 h8 hb
      go_enter Try.func40, Try.ntmps40
      go_wp2_with fail
      refine hc.mono ?_
      rintro e w1 ⟨rfl, hA⟩
      go_wp2_with fail
      refine (hbk _).mono ?_
      rintro e w2 ⟨rfl, rfl⟩
      go_wp2_with fail
      go_ret
      exact ⟨rfl, hA⟩
    · rw [if_neg hb] at hn; cases hn
set_option maxHeartbeats 1000000 in
theorem num_no (R : Nat) (l : List UInt8) (w : World) (h : Rd w R l) (hn : rNum l = none) :
    Calls Try.prog 40 #[.pointer (some ⟨R, 0, none⟩)] w fun e w' => e = .panicked gv ∧ Kb (· = R) w w' := by
  cases hl : rLong l with
  | none =>
    have hc := long_no R l w h hl
    clear h hn hl
    go_enter Try.func40, Try.ntmps40
    go_wp2_with fail
    refine hc.mono ?_
    rintro e w1 ⟨rfl, rfl⟩
    exact ⟨rfl, rfl, Kb.refl _ _⟩
  | some p =>
    obtain ⟨k, t2⟩ := p
    obtain ⟨h8, rfl, rfl, hk0, hk1⟩ := rLong_some hl
    have hc := long_ok R l w h h8
    simp only [rNum, hl] at hn
    have hbk := fun W => back_c (be (l.take 8)) hk0 hk1 W
    generalize ((be (l.take 8) : Nat) : Int) = k at *
    by_cases hb : (fback k).2 = true
    · rw [if_pos hb] at hn; cases hn
    · rw [Bool.not_eq_true] at hb
      rw [hb] at hbk
      generalize (fback k).1 = z at *
      clear h hl hk0 hk1 h8 hb hn
      go_enter Try.func40, Try.ntmps40
      go_wp2_with fail
      refine hc.mono ?_
      rintro e w1 ⟨rfl, hA⟩
      go_wp2_with fail
      refine (hbk _).mono ?_
      rintro e w2 ⟨rfl, rfl⟩
      go_wp2_with fail
      refine (giveUp_c _).mono ?_
      rintro e w' ⟨rfl, rfl⟩
      exact ⟨rfl, rfl, hA.out.2⟩

set_option maxHeartbeats 1000000 in
theorem short_ok (R : Nat) (l t : List UInt8) (s : ByteArray) (w : World) (h : Rd w R l) (hn : rShort l = some (s, t)) :
    Calls Try.prog 41 #[.pointer (some ⟨R, 0, none⟩)] w fun e w' => e = .returned (.string s) ∧ Aside (Rd w' R t ∧ Kb (· = R) w w') := by
  cases hl : rText l with
  | none => simp only [rShort, hl] at hn; cases hn
  | some p =>
    obtain ⟨s2, t2⟩ := p
    have hc := text_ok R l t2 s2 w h hl
    simp only [rShort, hl] at hn
    by_cases hb : (s2.size : Int) ≤ 40
    · rw [if_pos hb] at hn
      simp only [Option.some.injEq, Prod.mk.injEq] at hn
      obtain ⟨rfl, rfl⟩ := hn
      clear h hl
      go_enter Try.func41, Try.ntmps41
      go_wp2_with fail
      refine hc.mono ?_
      rintro e w1 ⟨rfl, hA⟩
      go_wp2_with fail
      go_ret
      exact ⟨rfl, hA⟩
    · rw [if_neg hb] at hn; cases hn
set_option maxHeartbeats 1000000 in
theorem short_no (R : Nat) (l : List UInt8) (w : World) (h : Rd w R l) (hn : rShort l = none) :
    Calls Try.prog 41 #[.pointer (some ⟨R, 0, none⟩)] w fun e w' => e = .panicked gv ∧ Kb (· = R) w w' := by
  cases hl : rText l with
  | none =>
    have hc := text_no R l w h hl
    clear h hn hl
    go_enter Try.func41, Try.ntmps41
    go_wp2_with fail
    refine hc.mono ?_
    rintro e w1 ⟨rfl, hA⟩
    exact ⟨rfl, rfl, hA⟩
  | some p =>
    obtain ⟨s2, t2⟩ := p
    have hc := text_ok R l t2 s2 w h hl
    simp only [rShort, hl] at hn
    by_cases hb : (s2.size : Int) ≤ 40
    · rw [if_pos hb] at hn; cases hn
    · have hb2 : (40 : Int) < (s2.size : Int) := by omega
      clear h hl hn hb
      go_enter Try.func41, Try.ntmps41
      go_wp2_with fail
      refine hc.mono ?_
      rintro e w1 ⟨rfl, hA⟩
      go_wp2_with fail
      refine (giveUp_c _).mono ?_
      rintro e w' ⟨rfl, rfl⟩
      exact ⟨rfl, rfl, hA.out.2⟩

set_option maxHeartbeats 1000000 in
theorem yes_ok (R : Nat) (l t : List UInt8) (y : Bool) (w : World) (h : Rd w R l) (hn : rYes l = some (y, t)) :
    Calls Try.prog 42 #[.pointer (some ⟨R, 0, none⟩)] w fun e w' => e = .returned (.bool y) ∧ Aside (Rd w' R t ∧ Kb (· = R) w w') := by
  cases l with
  | nil => cases hn
  | cons c t0 =>
    have hc := byte_ok R c t0 w h
    simp only [rYes, rByte] at hn
    generalize (c.toNat : Int) = v at *
    by_cases hb : v ≤ 1
    · rw [if_pos hb] at hn
      simp only [Option.some.injEq, Prod.mk.injEq] at hn
      obtain ⟨rfl, rfl⟩ := hn
      clear h
      go_enter Try.func42, Try.ntmps42
      go_wp2_with fail
      refine hc.mono ?_
      rintro e w1 ⟨rfl, hA⟩
      go_wp2_with fail
      go_ret
      exact ⟨rfl, hA⟩
    · rw [if_neg hb] at hn; cases hn
set_option maxHeartbeats 1000000 in
theorem yes_no (R : Nat) (l : List UInt8) (w : World) (h : Rd w R l) (hn : rYes l = none) :
    Calls Try.prog 42 #[.pointer (some ⟨R, 0, none⟩)] w fun e w' => e = .panicked gv ∧ Kb (· = R) w w' := by
  cases l with
  | nil =>
    have hc := byte_no R w h
    clear h hn
    go_enter Try.func42, Try.ntmps42
    go_wp2_with fail
    refine hc.mono ?_
    rintro e w1 ⟨rfl, rfl⟩
    exact ⟨rfl, rfl, Kb.refl _ _⟩
  | cons c t0 =>
    have hc := byte_ok R c t0 w h
    simp only [rYes, rByte] at hn
    generalize (c.toNat : Int) = v at *
    by_cases hb : v ≤ 1
    · rw [if_pos hb] at hn; cases hn
    · have hb2 : 1 < v := by omega
      clear h hn hb
      go_enter Try.func42, Try.ntmps42
      go_wp2_with fail
      refine hc.mono ?_
      rintro e w1 ⟨rfl, hA⟩
      go_wp2_with fail
      refine (giveUp_c _).mono ?_
      rintro e w' ⟨rfl, rfl⟩
      exact ⟨rfl, rfl, hA.out.2⟩
end Go.Proofs.Ytecfbbddhnkilaa
