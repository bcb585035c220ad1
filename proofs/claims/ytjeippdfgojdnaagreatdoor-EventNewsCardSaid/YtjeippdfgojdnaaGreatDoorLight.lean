/- gazettelaw03.light, event.Get of any attributes. -/
import Derived.Test.YtjeippdfgojdnaaGreatDoorManyL
namespace Go.Proofs.YtjeippdfgojdnaaGreatDoor
open Go.RowKit Go.Shelf Go.Sort
open Go.Proofs
set_option maxRecDepth 100000

def shortB (a : At) : Bool := decide (¬ (300 : Int) < wrap64 ((a.nm.size : Int) + (a.s.size : Int)))
def lightB (l : List At) : Bool := l.all shortB && decide (l.length ≤ 30)

set_option maxHeartbeats 2000000 in
theorem light_c (ao : Option Addr) (cap : Nat) (l : List At) (w : World) (hl : SliceA w ao l) (hlen : l.length ≤ 9223372036854775807) :
    Calls Tryz.prog 33 #[.slice ao l.length cap] w fun e w' => e = .returned (.bool (lightB l)) ∧ Below w.heap.size w w' := by
  obtain ⟨len, hL⟩ : ∃ len, len = l.length := ⟨_, rfl⟩
  have HLen : Aside (len = l.length) := hL
  have HS : Aside (SliceA w ao l) := hl
  rw [← hL] at hlen ⊢
  clear hL hl
  go_enter Tryz.func33, Tryz.ntmps33
  go_wp2_with fail
  go_loopg [7] len (fun kx s7 wr => ∃ j : Nat, s7 = .int .i64 j ∧ j ≤ len ∧ len - j ≤ kx ∧ Aside ((l.take j).all shortB = true) ∧ Aside (Below w.heap.size w wr))
  case atStart => exact ⟨0, rfl, Nat.zero_le _, by omega, by simp [Aside], Below.refl _ _⟩
  case round =>
    obtain ⟨j, rfl, hj, hjx, hall, HB⟩ := hrel
    by_cases hlt : j < len
    · rcases HS.out with h0 | ⟨b, off, hao, hbs, hrow⟩
      · rw [h0] at HLen; exact absurd HLen.out (by simp; omega)
      subst hao
      have hrow1 := RowAt.below HB.out hbs hrow j (by rw [← HLen.out]; exact hlt)
      clear hrow
      have hts := take_succ l j (by rw [← HLen.out]; exact hlt)
      have HBad : Aside (shortB l[j]! = false → lightB l = false) := fun hb => by
        cases hn : lightB l with
        | false => rfl
        | true =>
          simp only [lightB, Bool.and_eq_true, List.all_eq_true] at hn
          rw [hn.1 _ (get_mem l j (by rw [← HLen.out]; exact hlt))] at hb; cases hb
      obtain ⟨a, ha⟩ : ∃ a, a = l[j]! := ⟨_, rfl⟩
      rw [← ha] at hrow1 hts HBad
      clear ha
      obtain ⟨nm, k, n, x, s, y⟩ := a
      have c0 := hrow1 0 _ rfl; have c1 := hrow1 1 _ rfl; have c2 := hrow1 2 _ rfl; have c3 := hrow1 3 _ rfl; have c4 := hrow1 4 _ rfl; have c5 := hrow1 5 _ rfl
      simp only [Nat.add_zero] at c0
      clear hrow1
      have hltz : (j : Int) < len := by omega
      have hjz : (0 : Int) ≤ (j : Int) := by omega
      by_cases h3 : (300 : Int) < wrap64 ((nm.size : Int) + (s.size : Int))
      · go_wp2_with fail
        go_ret
        exact ⟨congrArg (fun b => Ending.returned (Value.bool b)) (HBad.out (by unfold shortB; simpa using h3)).symm, HB.out.alloc HB.out.size _⟩
      · go_wp2_with fail
        go_roundg (len - (j + 1))
        case measure => omega
        case rel => exact ⟨j + 1, by go_num, hlt, Nat.le_refl _, by
          show (l.take (j + 1)).all shortB = true
          rw [hts, List.all_append, hall.out]; simp only [List.all_cons, List.all_nil, Bool.and_true, Bool.true_and, shortB, decide_eq_true_eq]; exact Int.not_lt.2 h3, HB.out.alloc HB.out.size _⟩
    · obtain rfl : j = len := by omega
      have hl1 : lightB l = decide ((j : Int) ≤ 30) := by
        have := hall.out
        rw [HLen.out, List.take_length] at this
        unfold lightB; rw [this, ← HLen.out, Bool.true_and]
        exact decide_eq_decide.2 (by omega)
      go_wp2
      go_ret
      exact ⟨congrArg (fun b => Ending.returned (Value.bool b)) hl1.symm, HB.out⟩
end Go.Proofs.YtjeippdfgojdnaaGreatDoor
