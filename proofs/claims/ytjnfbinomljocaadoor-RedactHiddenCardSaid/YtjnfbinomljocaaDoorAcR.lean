/- acl's of, name, inScope, ofSomeone, Right, of any rule. -/
import Derived.Test.YtjnfbinomljocaaDoorRuP
import Derived.Test.YtjnfbinomljocaaDoorGaE
import Derived.Deep.RegionHeld3
namespace Go.Proofs.YtjnfbinomljocaaDoor
open Go.RowKit Go.Shelf
open Go.Proofs
set_option maxRecDepth 100000

/-- A rule's cells in a block of its own. -/
abbrev ruls (k tn : Int) (who : ByteArray) (br : Int) (sc : ByteArray) (co : Option Addr) (n cap : Nat) (nm : ByteArray) (ix : Int) : Array Value := #[.int .i64 k, .int .i64 tn, .string who, .int .i64 br, .string sc, .slice co n cap, .string nm, .int .i64 ix]
theorem rul_lay {w W : World} {k tn : Int} {who : ByteArray} {br : Int} {sc : ByteArray} {co : Option Addr} {n cap : Nat} {nm : ByteArray} {ix : Int} (hW : Below (w.heap.size + 1) (w.alloc (.cells (ruls k tn who br sc co n cap nm ix) 43)) W) :
    W.cell? ⟨w.heap.size, 0, none⟩ = some (.int .i64 k) ∧ W.cell? ⟨w.heap.size, 1, none⟩ = some (.int .i64 tn) ∧ W.cell? ⟨w.heap.size, 2, none⟩ = some (.string who) ∧ W.cell? ⟨w.heap.size, 3, none⟩ = some (.int .i64 br) ∧ W.cell? ⟨w.heap.size, 4, none⟩ = some (.string sc) ∧ W.cell? ⟨w.heap.size, 5, none⟩ = some (.slice co n cap) ∧ W.cell? ⟨w.heap.size, 6, none⟩ = some (.string nm) ∧ W.cell? ⟨w.heap.size, 7, none⟩ = some (.int .i64 ix) :=
  ⟨one_lay hW 0 _ rfl, one_lay hW 1 _ rfl, one_lay hW 2 _ rfl, one_lay hW 3 _ rfl, one_lay hW 4 _ rfl, one_lay hW 5 _ rfl, one_lay hW 6 _ rfl, one_lay hW 7 _ rfl⟩

set_option maxHeartbeats 1000000 in
theorem aname_c (s : ByteArray) (w : World) (hm : MaxI w) :
    Calls Tryd.prog 37 #[.string s] w fun e w' => e = .returned (.bool (nameOk s)) ∧ Below w.heap.size w w' := by
  have hB : Below w.heap.size w (w.alloc (.cells (cnds s 7 0 0 0 ⟨#[]⟩ false) 66)) := (Below.refl _ _).alloc (Nat.le_refl _) _
  have h := fright_c ⟨#[]⟩ (some ⟨w.heap.size, 0, none⟩) 1 [⟨⟨s, 0, 0, 0, ⟨#[]⟩, false⟩, 7⟩] (w.alloc (.cells (cnds s 7 0 0 0 ⟨#[]⟩ false) 66)) (Or.inr ⟨w.heap.size, 0, rfl, by simp, fun j hj c v hv => by
    obtain rfl : j = 0 := by simpa using hj
    simp only [Nat.zero_mul, Nat.zero_add]
    rw [World.cell?_alloc_new]
    simpa [encC] using hv⟩) (by simp) (by decide) (hm.below hB)
  have e : rightF ⟨#[]⟩ [⟨⟨s, 0, 0, 0, ⟨#[]⟩, false⟩, 7⟩] = nameOk s := by
    unfold rightF
    have e1 : scopeOk ⟨#[]⟩ = true := rfl
    have e2 : vrightB 0 ⟨#[]⟩ = true := by decide
    rw [e1]
    simp [crightB, e2]
  rw [e] at h
  have HF := Lib.hid h
  have HB := Lib.hid hB
  generalize nameOk s = q at *
  clear h hB e hm
  go_enter Tryd.func37, Tryd.ntmps37
  go_wp2_with fail
  refine HF.out.mono ?_
  rintro e w1 ⟨rfl, hb⟩
  have HB1 := Lib.hid hb; clear hb
  go_wp2_with fail
  go_ret
  exact ⟨rfl, HB.out.trans (HB1.out.mono (by simp))⟩
set_option maxHeartbeats 1000000 in
theorem ainscope_c (sc : ByteArray) (co : Option Addr) (n cap : Nat) (w : World) (hs : sc.size ≤ 3000) (hm : MaxI w) :
    Calls Tryd.prog 38 #[fil sc co n cap] w fun e w' => e = .returned (.bool (scopeOk sc)) ∧ Below w.heap.size w w' := by
  have hB : Below w.heap.size w (w.alloc (.cells #[.string sc, .slice co n cap] 41)) := (Below.refl _ _).alloc (Nat.le_refl _) _
  have h := fright_c sc none 0 [] (w.alloc (.cells #[.string sc, .slice co n cap] 41)) (Or.inl rfl) (by simp) hs (hm.below hB)
  have e : rightF sc [] = scopeOk sc := by unfold rightF; simp
  rw [e] at h
  have HF := Lib.hid h
  have HB := Lib.hid hB
  generalize scopeOk sc = q at *
  clear h hB e hm
  go_enter Tryd.func38, Tryd.ntmps38
  go_wp2_with fail
  refine HF.out.mono ?_
  rintro e w1 ⟨rfl, hb⟩
  have HB1 := Lib.hid hb; clear hb
  go_wp2_with fail
  go_ret
  exact ⟨rfl, HB.out.trans (HB1.out.mono (by simp))⟩
set_option maxHeartbeats 2000000 in
theorem someone_c (k tn : Int) (who : ByteArray) (br : Int) (sc : ByteArray) (co : Option Addr) (n cap : Nat) (nm : ByteArray) (ix : Int) (w : World) (hm : MaxI w) :
    Calls Tryd.prog 35 #[rul k tn who br sc co n cap nm ix] w fun e w' => e = .returned (.bool ((decide (0 ≤ tn) && decide (tn < 4)) && nameOk who)) ∧ Below w.heap.size w w' := by
  have hB : Below w.heap.size w (w.alloc (.cells (ruls k tn who br sc co n cap nm ix) 43)) := (Below.refl _ _).alloc (Nat.le_refl _) _
  have HF := Lib.hid (aname_c who _ (hm.below hB))
  have HB := Lib.hid hB
  generalize nameOk who = q at *
  clear hB hm
  by_cases h0 : 0 ≤ tn
  rotate_left
  · have e0 : decide (0 ≤ tn) = false := decide_eq_false h0
    rw [e0]
    go_enter Tryd.func35, Tryd.ntmps35
    go_wp2_with fail
    go_ret
    exact ⟨rfl, HB.out⟩
  by_cases h1 : tn < 4
  rotate_left
  · have e0 : decide (0 ≤ tn) = true := decide_eq_true h0
    have e1 : decide (tn < 4) = false := decide_eq_false h1
    rw [e0, e1]
    go_enter Tryd.func35, Tryd.ntmps35
    go_wp2_with fail
    go_ret
    exact ⟨rfl, HB.out⟩
  have e0 : decide (0 ≤ tn) = true := decide_eq_true h0
  have e1 : decide (tn < 4) = true := decide_eq_true h1
  rw [e0, e1]
  go_enter Tryd.func35, Tryd.ntmps35
  go_wp2_with fail
  refine HF.out.mono ?_
  rintro e w1 ⟨rfl, hb⟩
  have HB1 := Lib.hid hb; clear hb
  go_wp2_with fail
  go_ret
  exact ⟨rfl, HB.out.trans (HB1.out.mono (by simp))⟩
end Go.Proofs.YtjnfbinomljocaaDoor
