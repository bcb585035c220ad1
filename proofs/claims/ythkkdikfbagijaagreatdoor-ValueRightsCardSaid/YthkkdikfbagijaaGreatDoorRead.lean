/- value.Right, Print at each kind, Read at the text 3.0. -/
import Derived.Test.YthkkdikfbagijaaGreatDoorFitThree
import Derived.Test.YthkkdikfbagijaaGreatDoorVal
namespace Go.Proofs.YthkkdikfbagijaaGreatDoor
open Go.RowKit
set_option maxRecDepth 100000

def rightB (k : Int) (s : ByteArray) : Bool := decide (0 ≤ k) && decide (k ≤ 3) && decide ((s.size : Int) ≤ 40)
set_option maxHeartbeats 1000000 in
theorem right_c (k n : Int) (x : Nat) (s : ByteArray) (y : Bool) (w : World) :
    Calls Tryz.prog 7 #[val k n x s y] w fun e w' => e = .returned (.bool (rightB k s)) ∧ Below w.heap.size w w' := by
  unfold rightB
  by_cases h1 : 0 ≤ k
  · by_cases h2 : k ≤ 3
    · rw [decide_eq_true h1, decide_eq_true h2, Bool.true_and, Bool.true_and]
      go_enter Tryz.func7, Tryz.ntmps7
      go_wp2
      go_ret
      exact ⟨rfl, (Below.refl _ _).alloc (Nat.le_refl _) _⟩
    · have h2' : decide (k ≤ 3) = false := decide_eq_false h2
      rw [decide_eq_true h1, h2']
      go_enter Tryz.func7, Tryz.ntmps7
      go_wp2
      go_ret
      exact ⟨rfl, (Below.refl _ _).alloc (Nat.le_refl _) _⟩
  · have h1' : decide (0 ≤ k) = false := decide_eq_false h1
    rw [h1']
    go_enter Tryz.func7, Tryz.ntmps7
    go_wp2
    go_ret
    exact ⟨rfl, (Below.refl _ _).alloc (Nat.le_refl _) _⟩

set_option maxHeartbeats 1000000 in
theorem printNumThree_c (w : World) (hT : Tabs w) (hg : 20 < w.heap.size) :
    Calls Tryz.prog 12 #[.float .f64 4613937818241073152] w fun e w' => e = .returned (.string ⟨#[51, 46, 48]⟩) ∧ Below w.heap.size w w' := by
  have HT := Lib.hid hT; clear hT
  go_enter Tryz.func12, Tryz.ntmps12
  go_wp2_with fail
  refine (canon_c _ _).mono ?_; rintro e w' ⟨rfl, rfl⟩
  rw [show fcanon 4613937818241073152 = 4613937818241073152 from by decide +kernel]
  go_wp2_with fail
  refine (formatThree_c _ HT.out hg).mono ?_
  rintro e w1 ⟨rfl, hb⟩
  have HB := Lib.hid hb; clear hb
  go_wp2_with fail
  refine (Tryz.strings_ContainsAny_laid ⟨#[51]⟩ ⟨#[46, 101, 73, 78]⟩ _ (by decide) (by decide) (by intro j b h; match j, h with | 0, h => simp at h; subst h; decide) (by intro j b h; match j, h with
    | 0, h => simp at h; subst h; decide
    | 1, h => simp at h; subst h; decide
    | 2, h => simp at h; subst h; decide
    | 3, h => simp at h; subst h; decide)).mono ?_
  rintro e w2 ⟨rfl, hb2⟩
  rw [show Lib.containsAny (⟨#[51]⟩ : ByteArray).data.toList (⟨#[46, 101, 73, 78]⟩ : ByteArray).data.toList = false from by decide +kernel]
  have HB2 := Lib.hid hb2; clear hb2
  go_wp2
  go_ret
  exact ⟨rfl, HB.out.trans (HB2.out.mono HB.out.size)⟩

set_option maxHeartbeats 1000000 in
theorem printThree_c (n : Int) (s : ByteArray) (y : Bool) (w : World) (hT : Tabs w) (hg : 20 < w.heap.size) :
    Calls Tryz.prog 6 #[val 1 n 4613937818241073152 s y] w fun e w' => e = .returned (.string ⟨#[51, 46, 48]⟩) ∧ Below w.heap.size w w' := by
  have hT1 : Tabs (w.alloc (.cells (vals 1 n 4613937818241073152 s y) 24)) := hT.on ((Below.refl _ _).alloc (Nat.le_refl _) _)
  have HT := Lib.hid hT1; clear hT hT1
  go_enter Tryz.func6, Tryz.ntmps6
  go_wp2_with fail
  refine (printNumThree_c _ HT.out (by simp; omega)).mono ?_
  rintro e w1 ⟨rfl, hb⟩
  have HB := Lib.hid hb; clear hb
  go_wp2
  go_ret
  exact ⟨rfl, ((Below.refl _ _).alloc (Nat.le_refl _) _).trans (HB.out.mono (by simp))⟩

def quoteA : ByteArray := ⟨#[34, 97, 34]⟩
set_option maxHeartbeats 1000000 in
theorem printA_c (n : Int) (x : Nat) (y : Bool) (w : World) (hT : Tabs w) :
    Calls Tryz.prog 6 #[val 2 n x ⟨#[97]⟩ y] w fun e w' => e = .returned (.string ⟨#[34, 97, 34]⟩) ∧ Below w.heap.size w w' := by
  have hT1 : Tabs (w.alloc (.cells (vals 2 n x ⟨#[97]⟩ y) 24)) := hT.on ((Below.refl _ _).alloc (Nat.le_refl _) _)
  have HT := Lib.hid hT1; clear hT hT1
  go_enter Tryz.func6, Tryz.ntmps6
  go_wp2_with fail
  refine (Tryz.strconv_Quote Lib.goPrintTabs ⟨#[97]⟩ _ (by decide) HT.out.pr HT.out.u8).mono ?_
  rw [show strOfNums (Lib.quoteZ Lib.goPrintTabs ⟨#[97]⟩) = ⟨#[34, 97, 34]⟩ from by decide +kernel]
  rintro e w1 ⟨rfl, hb⟩
  have HB := Lib.hid hb; clear hb
  go_wp2
  go_ret
  exact ⟨rfl, ((Below.refl _ _).alloc (Nat.le_refl _) _).trans (HB.out.mono (by simp))⟩
end Go.Proofs.YthkkdikfbagijaaGreatDoor
