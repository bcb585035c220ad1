/- event.Name of any text. -/
import Derived.Test.YtjeippdfgojdnaaGreatDoorBytes0
namespace Go.Proofs.YtjeippdfgojdnaaGreatDoor
open Go.RowKit Go.Shelf
open Go.Proofs
set_option maxRecDepth 100000

def letB (n : Int) : Bool := decide (97 ≤ n) && decide (n ≤ 122)
def digB (n : Int) : Bool := decide (48 ≤ n) && decide (n ≤ 57)
set_option maxHeartbeats 400000 in
theorem letter_c (n : Int) (w : World) : Calls Tryz.prog 38 #[.int .u8 n] w fun e w' => e = .returned (.bool (letB n)) ∧ w = w' := by
  unfold letB
  go_enter Tryz.func38, Tryz.ntmps38
  cases h1 : decide (97 ≤ n) <;> (go_wp2; go_ret; simp_all)
set_option maxHeartbeats 400000 in
theorem digit_c (n : Int) (w : World) : Calls Tryz.prog 39 #[.int .u8 n] w fun e w' => e = .returned (.bool (digB n)) ∧ w = w' := by
  unfold digB
  go_enter Tryz.func39, Tryz.ntmps39
  cases h1 : decide (48 ≤ n) <;> (go_wp2; go_ret; simp_all)

/-- The i-th letter. -/
def byt (s : ByteArray) (i : Nat) : Int := (s.data[i]!.toNat : Int)
def partB (s : ByteArray) (i : Nat) : Bool := letB (byt s i) || digB (byt s i)
/-- May it be a name? -/
def nameOk (s : ByteArray) : Bool := decide (0 < s.size) && decide (s.size ≤ 12) && letB (byt s 0) && (List.range s.size).all (partB s)

theorem byt_eq (s : ByteArray) (i : Nat) (h : i < s.size) : ((s[i]'h).toNat : Int) = byt s i := by
  have h2 : i < s.data.size := h
  unfold byt
  rw [getElem!_pos s.data i h2]
  rfl
theorem nameOk_part {s : ByteArray} {j : Nat} (hj : j < s.size) (h : partB s j = false) : nameOk s = false := by
  cases hn : nameOk s with
  | false => rfl
  | true =>
    simp only [nameOk, Bool.and_eq_true, List.all_eq_true, List.mem_range] at hn
    rw [hn.2 j hj] at h; cases h
theorem all_succ {s : ByteArray} {j : Nat} (h : (List.range j).all (partB s) = true) (hp : partB s j = true) : (List.range (j + 1)).all (partB s) = true := by
  rw [List.range_succ, List.all_append, h]; simp [hp]

set_option maxHeartbeats 1000000 in
theorem name_c (s : ByteArray) (w : World) : Calls Tryz.prog 15 #[.string s] w fun e w' => e = .returned (.bool (nameOk s)) ∧ w = w' := by
  by_cases h0 : s.size = 0
  · have : s = ⟨#[]⟩ := by
      cases s with | mk d => simp [ByteArray.size] at h0; rw [h0]
    subst this
    go_enter Tryz.func15, Tryz.ntmps15
    go_wp2
    go_ret
    exact ⟨rfl, rfl⟩
  have h0' : 0 < s.size := by omega
  have hne : ¬ s.toList = [] := fun e => h0 (by rw [bytes_toList] at e; have := congrArg List.length e; simpa using this)
  have hie0 : s.toList.isEmpty = false := by simpa using hne
  by_cases h1 : 12 < s.size
  · have hn : nameOk s = false := by
      unfold nameOk; rw [show decide (s.size ≤ 12) = false by simpa using h1]; simp
    have h2 : 12 < (s.size : Int) := by omega
    rw [hn]
    go_enter Tryz.func15, Tryz.ntmps15
    go_wp2
    go_ret
    exact ⟨rfl, rfl⟩
  have h2 : (s.size : Int) ≤ 12 := by omega
  have hie : s.toList.isEmpty = false := by simpa using hne
  have h4 : decide (12 < (s.size : Int)) = false := by simpa using h2
  have h5 : ¬ (s.toList.isEmpty = true ∨ 12 < (s.size : Int)) := by rw [hie]; simp; omega
  have h3 : decide (s.size ≤ 12) = true := by simpa using Nat.not_lt.1 h1
  clear h1 h0
  cases hl : letB (byt s 0)
  · have hn : nameOk s = false := by unfold nameOk; rw [hl]; simp
    rw [hn]
    go_enter Tryz.func15, Tryz.ntmps15
    go_wp2_with (go_at_call 38; rw [byt_eq _ 0 h0']; refine (letter_c _ _).mono ?_; rintro e w' ⟨rfl, rfl⟩; rw [hl])
    go_ret
    exact ⟨rfl, rfl⟩
  · have HN : Aside ((List.range s.size).all (partB s) = true → nameOk s = true) := fun h => by
      unfold nameOk; rw [hl, h3, h]; simpa using h0'
    have HF : Aside (∀ j, j < s.size → partB s j = false → nameOk s = false) := fun j h h' => nameOk_part h h'
    go_enter Tryz.func15, Tryz.ntmps15
    go_wp2_with (go_at_call 38; rw [byt_eq _ 0 h0']; refine (letter_c _ _).mono ?_; rintro e w' ⟨rfl, rfl⟩; rw [hl])
    clear hl h3 hne hie h4 h5
    go_loop [19] (fun k => ∃ j : Nat, j ≤ s.size ∧ k = .int .i64 j ∧ Aside ((List.range j).all (partB s) = true)) (fun k => s.size - (RowKit.intOf k).toNat)
    case atStart => exact ⟨0, Nat.zero_le _, rfl, by simp [Aside]⟩
    case round =>
      obtain ⟨j, hj, rfl, hall⟩ := hrel
      by_cases hlt : j < s.size
      · cases hl : letB (byt s j)
        · cases hd : digB (byt s j)
          · go_wp2_with (first
              | (go_at_call 38; rw [byt_eq _ j hlt]; refine (letter_c _ _).mono ?_; rintro e w' ⟨rfl, rfl⟩; rw [hl])
              | (go_at_call 39; rw [byt_eq _ j hlt]; refine (digit_c _ _).mono ?_; rintro e w' ⟨rfl, rfl⟩; rw [hd]))
            go_ret
            rw [HF.out j hlt (by unfold partB; rw [hl, hd]; rfl)]
            exact ⟨rfl, rfl⟩
          · go_wp2_with (first
              | (go_at_call 38; rw [byt_eq _ j hlt]; refine (letter_c _ _).mono ?_; rintro e w' ⟨rfl, rfl⟩; rw [hl])
              | (go_at_call 39; rw [byt_eq _ j hlt]; refine (digit_c _ _).mono ?_; rintro e w' ⟨rfl, rfl⟩; rw [hd]))
            go_round
            case rel => exact ⟨j + 1, by omega, by go_num, all_succ hall.out (by unfold partB; rw [hl, hd]; rfl)⟩
            case measure => simp only [RowKit.intOf]; omega
        · go_wp2_with (go_at_call 38; rw [byt_eq _ j hlt]; refine (letter_c _ _).mono ?_; rintro e w' ⟨rfl, rfl⟩; rw [hl])
          go_round
          case rel => exact ⟨j + 1, by omega, by go_num, all_succ hall.out (by unfold partB; rw [hl]; rfl)⟩
          case measure => simp only [RowKit.intOf]; omega
      · obtain rfl : j = s.size := by omega
        go_wp2
        go_ret
        rw [HN.out hall.out]
        exact ⟨rfl, rfl⟩
end Go.Proofs.YtjeippdfgojdnaaGreatDoor
