/- TreeChecks' closure by its contract. -/
import Derived.Test.YtnkceajhhiidcaaTreeR
namespace Go.Proofs.Ytnkceajhhiidcaa
open Go.RowKit Go.Shelf Go.Sort
open Go.Proofs
set_option maxRecDepth 100000

abbrev BitsAt (W : World) (S : Nat) (ty : TypeId) (n m : Nat) : Prop := W.rowIs S ty n (fun k => .bool (m.testBit k))
theorem bits_set {W : World} {S : Nat} {ty : TypeId} {n m i j s : Nat} (h : BitsAt W S ty n s) (v : Bool) (hv : v = (s.testBit j || (s.testBit i && m.testBit (6 * i + j)))) : BitsAt (W.setCell ⟨S, j, none⟩ (.bool v)) S ty n (sJ m i s j) :=
  (h.set j (.bool v)).congr fun k _ => by
    by_cases hk : k = j
    · subst hk
      rw [if_pos rfl, sJ_bit, hv]; simp
    · rw [if_neg hk, sJ_bit, decide_eq_false (fun e => hk e.symm)]; simp
set_option maxHeartbeats 4000000 in
theorem reach_c (A : Nat) (ty : TypeId) (m a b : Nat) (ha : a < 6) (hb : b < 6) (w : World) (hN : BitsAt w A ty 36 m) :
    Calls Try.prog 9 #[.int .i64 a, .int .i64 b, .pointer (some ⟨A, 0, none⟩)] w fun e w' => e = .returned (.bool (reachB m a b)) ∧ Below w.heap.size w w' := by
  have HN : Aside (∀ W, Below w.heap.size w W → ∀ i j, i < 6 → j < 6 → W.cell? ⟨A, i * 6 + j, none⟩ = some (.bool (m.testBit (6 * i + j)))) := fun W hW i j hi hj => by
    rw [hW.cell (p := ⟨A, i * 6 + j, none⟩) hN.lt, hN.cell (by omega), Nat.mul_comm]
  have hz0 : (0 : Int) ≤ (a : Int) := by omega
  have hza : (a : Int) < 6 := by omega
  have hzb0 : (0 : Int) ≤ (b : Int) := by omega
  have hzb : (b : Int) < 6 := by omega
  have HB6 := Lib.hid hb
  clear hN hb
  obtain ⟨W0, hW0⟩ : ∃ W0, W0 = w.alloc (.cells ([Value.bool false, .bool false, .bool false, .bool false, .bool false, .bool false].set a (.bool true)).toArray 28) := ⟨_, rfl⟩
  have HS0 : Aside (BitsAt W0 w.heap.size 28 6 (1 <<< a)) := by
    rw [hW0]
    have h := World.rowIs_alloc w ([Value.bool false, .bool false, .bool false, .bool false, .bool false, .bool false].set a (.bool true)).toArray 28 (fun k => .bool ((1 <<< a).testBit k)) (fun i hi => by
      have hi : i < 6 := by simpa using hi
      rw [List.getElem?_toArray, List.getElem?_set, Nat.one_shiftLeft, Nat.testBit_two_pow]
      by_cases hk : a = i
      · subst hk; simp [hi]
      · rw [if_neg hk, decide_eq_false hk]
        have : i = 0 ∨ i = 1 ∨ i = 2 ∨ i = 3 ∨ i = 4 ∨ i = 5 := by omega
        rcases this with rfl | rfl | rfl | rfl | rfl | rfl <;> rfl)
    have e : ([Value.bool false, .bool false, .bool false, .bool false, .bool false, .bool false].set a (.bool true)).toArray.size = 6 := by simp
    rw [e] at h
    exact h
  have HA0 : Aside (Below w.heap.size w W0) := by rw [hW0]; exact (Below.refl _ _).alloc (Nat.le_refl _) _
  go_enter Try.func9, Try.ntmps9
  go_wp2_with fail
  rw [← hW0]
  obtain ⟨S, hS⟩ : ∃ S, S = w.heap.size := ⟨_, rfl⟩
  have HSS := Lib.hid hS
  rw [← hS] at HS0 ⊢
  clear hW0 hS
  obtain ⟨s0, hs0⟩ : ∃ s0, s0 = 1 <<< a := ⟨_, rfl⟩
  have HR0 := Lib.hid hs0
  rw [← hs0] at HS0
  clear hs0
  go_loopg [11] 6 (fun kx s11 wr => ∃ k : Nat, s11 = .int .i64 k ∧ k ≤ 6 ∧ 6 - k ≤ kx ∧ Aside (BitsAt wr S 28 6 (rK m s0 k)) ∧ Aside (Below w.heap.size w wr))
  case atStart => exact ⟨0, rfl, by omega, by omega, HS0.out, HA0.out⟩
  case round =>
    clear HS0 HA0
    obtain ⟨k, rfl, hk, hkx, HS, HA⟩ := hrel
    by_cases hkl : k < 6
    · have hkz : (k : Int) < 6 := by omega
      have hk0 : (0 : Int) ≤ (k : Int) := by omega
      obtain ⟨s1, hs1⟩ : ∃ s1, s1 = rK m s0 k := ⟨_, rfl⟩
      have HRK : Aside (rK m s0 (k + 1) = rI m s1 6) := by rw [hs1]; rfl
      rw [← hs1] at HS
      clear hs1
      go_wp2_with fail
      go_loopg [13] 6 (fun kx s13 wr => ∃ i : Nat, s13 = .int .i64 i ∧ i ≤ 6 ∧ 6 - i ≤ kx ∧ Aside (BitsAt wr S 28 6 (rI m s1 i)) ∧ Aside (Below w.heap.size w wr))
      case atStart => exact ⟨0, rfl, by omega, by omega, HS.out, HA.out⟩
      case round =>
        clear HS HA
        obtain ⟨i, rfl, hi, hix, HS, HA⟩ := hrel
        by_cases hil : i < 6
        · have hiz : (i : Int) < 6 := by omega
          have hi0 : (0 : Int) ≤ (i : Int) := by omega
          obtain ⟨s2, hs2⟩ : ∃ s2, s2 = rI m s1 i := ⟨_, rfl⟩
          have HRI : Aside (rI m s1 (i + 1) = rJ m i s2 6) := by rw [hs2]; rfl
          rw [← hs2] at HS
          clear hs2
          go_wp2_with fail
          go_loopg [16] 6 (fun kx s16 wr => ∃ j : Nat, s16 = .int .i64 j ∧ j ≤ 6 ∧ 6 - j ≤ kx ∧ Aside (BitsAt wr S 28 6 (rJ m i s2 j)) ∧ Aside (Below w.heap.size w wr))
          case atStart => exact ⟨0, rfl, by omega, by omega, HS.out, HA.out⟩
          case round =>
            clear HS HA
            obtain ⟨j, rfl, hj, hjx, HS, HA⟩ := hrel
            by_cases hjl : j < 6
            · have hjz : (j : Int) < 6 := by omega
              have hj0 : (0 : Int) ≤ (j : Int) := by omega
              obtain ⟨s3, hs3⟩ : ∃ s3, s3 = rJ m i s2 j := ⟨_, rfl⟩
              have HRJ : Aside (rJ m i s2 (j + 1) = sJ m i s3 j) := by rw [hs3]; rfl
              rw [← hs3] at HS
              clear hs3
              have cj := HS.out.cell hjl
              have ci := HS.out.cell hil
              have fj := HS.out.frozen j
              have ce := HN.out _ HA.out i j hil hjl
              have HNX : Aside (∀ v, v = (s3.testBit j || (s3.testBit i && m.testBit (6 * i + j))) → BitsAt (wr.setCell ⟨S, j, none⟩ (.bool v)) S 28 6 (sJ m i s3 j)) := fun v hv => bits_set HS.out v hv
              have HBX : Aside (∀ v, Below w.heap.size w (wr.setCell ⟨S, j, none⟩ v)) := fun v => HA.out.setCell (by rw [HSS.out]; exact Nat.le_refl _) v
              generalize s3.testBit j = pj at *
              generalize s3.testBit i = pi at *
              generalize m.testBit (6 * i + j) = pe at *
              clear HS HA HN
              cases pj
              · cases pi
                · go_wp2_with fail
                  go_roundg (6 - (j + 1))
                  case measure => omega
                  case rel => exact ⟨j + 1, by go_num, by omega, by omega, by rw [HRJ.out]; exact HNX.out _ rfl, HBX.out _⟩
                · cases pe
                  · go_wp2_with fail
                    go_roundg (6 - (j + 1))
                    case measure => omega
                    case rel => exact ⟨j + 1, by go_num, by omega, by omega, by rw [HRJ.out]; exact HNX.out _ rfl, HBX.out _⟩
                  · go_wp2_with fail
                    go_roundg (6 - (j + 1))
                    case measure => omega
                    case rel => exact ⟨j + 1, by go_num, by omega, by omega, by rw [HRJ.out]; exact HNX.out _ rfl, HBX.out _⟩
              · go_wp2_with fail
                go_roundg (6 - (j + 1))
                case measure => omega
                case rel => exact ⟨j + 1, by go_num, by omega, by omega, by rw [HRJ.out]; exact HNX.out _ rfl, HBX.out _⟩
            · obtain rfl : j = 6 := by omega
              go_wp2_with fail
              go_roundg (6 - (i + 1))
              case measure => omega
              case rel => exact ⟨i + 1, by go_num, by omega, by omega, by rw [HRI.out]; exact HS.out, HA.out⟩
        · obtain rfl : i = 6 := by omega
          go_wp2_with fail
          go_roundg (6 - (k + 1))
          case measure => omega
          case rel => exact ⟨k + 1, by go_num, by omega, by omega, by rw [HRK.out]; exact HS.out, HA.out⟩
    · obtain rfl : k = 6 := by omega
      have cb := HS.out.cell HB6.out
      have HRB : Aside (reachB m a b = (rK m s0 6).testBit b) := by rw [HR0.out]; rfl
      generalize (rK m s0 6).testBit b = r at *
      go_wp2_with fail
      go_ret
      exact ⟨congrArg (fun b => Ending.returned (Value.bool b)) HRB.out.symm, HA.out⟩
end Go.Proofs.Ytnkceajhhiidcaa
