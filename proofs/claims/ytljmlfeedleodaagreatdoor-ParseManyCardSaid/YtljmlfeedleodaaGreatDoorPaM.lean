/- The texts of ParseMany. -/
import Derived.Test.YtljmlfeedleodaaGreatDoorPaS
namespace Go.Proofs.YtljmlfeedleodaaGreatDoor
open Go.RowKit Go.Shelf
open Go.Proofs
set_option maxRecDepth 100000

def chM (i : Nat) : UInt8 := UInt8.ofNat (97 + i)
/-- A condition's text. -/
def segM (q : Bool) (i : Nat) : List UInt8 := if q then [97, 32, 33, 61, 32, 34, 120, 38, chM i, 34] else [104, 97, 115, 32, 110, chM i]
/-- What stands behind the scope. -/
def askL (q : Bool) : Nat → List UInt8
  | 0 => []
  | i + 1 => (if 0 < i then askL q i ++ [32, 38] else askL q i) ++ 32 :: segM q i
/-- The text that is built. -/
def manyT (q : Bool) (n : Nat) : ByteArray := bs (97 :: 58 :: askL q n)
def pM (q : Bool) (n j : Nat) : List UInt8 := ((if 0 < j then [32] else []) ++ segM q j) ++ (if j + 1 < n then [32] else [])
def sMk (q : Bool) (n : Nat) : Nat → List UInt8
  | 0 => []
  | k + 1 => pM q n (n - (k + 1)) ++ (if 0 < k then 38 :: sMk q n k else [])
def sM (q : Bool) (n j : Nat) : List UInt8 := sMk q n (n - j)
def cM (q : Bool) (j : Nat) : Cn := if q then ⟨⟨⟨#[97]⟩, 2, 0, 0, bs [120, 38, chM j], false⟩, 1⟩ else ⟨⟨bs [110, chM j], 0, 0, 0, ⟨#[]⟩, false⟩, 7⟩
theorem cut_list (l P R : List UInt8) (h : scanL l 0 false false = some P.length) (hl : l = P ++ 38 :: R) : cutP (bs l) = (bs P, bs R, true) := by
  unfold cutP
  show cutR (bs l) (scanL l 0 false false) = _
  rw [h]
  show ((bs l).extract 0 P.length, (bs l).extract (P.length + 1) (bs l).size, true) = _
  rw [Lib.extract_upto, Lib.extract_from]
  show (bs (l.take P.length), bs (l.drop (P.length + 1)), true) = _
  rw [hl, List.take_left, List.drop_append]
  simp
theorem cut_last (l : List UInt8) (h : scanL l 0 false false = none) : cutP (bs l) = (bs l, ⟨#[]⟩, false) := by
  unfold cutP
  show cutR (bs l) (scanL l 0 false false) = _
  rw [h]; rfl
theorem ask_len : ∀ q : Bool, ∀ n, n < 16 → (askL q n).length ≤ 1000 := by decide +kernel
theorem ask_tr : ∀ q : Bool, ∀ n, n < 16 → Lib.trimB (askL q n) 32 = sM q n 0 := by decide +kernel
theorem sM_len : ∀ q : Bool, ∀ n, n < 16 → ∀ j, j < n → (sM q n j).length ≤ 1000 := by decide +kernel
theorem sM_scan : ∀ q : Bool, ∀ n, n < 16 → ∀ j, j < n → scanL (sM q n j) 0 false false = if j + 1 < n then some (pM q n j).length else none := by decide +kernel
theorem sM_step (q : Bool) (n j : Nat) (h : j + 1 < n) : sM q n j = pM q n j ++ 38 :: sM q n (j + 1) := by
  obtain ⟨k, hk⟩ : ∃ k, n = j + 1 + (k + 1) := ⟨n - j - 2, by omega⟩
  have e1 : n - j = k + 1 + 1 := by omega
  have e2 : n - (j + 1) = k + 1 := by omega
  have e3 : n - (k + 1 + 1) = j := by omega
  unfold sM
  rw [e1, e2]
  show pM q n (n - (k + 1 + 1)) ++ (if 0 < k + 1 then 38 :: sMk q n (k + 1) else []) = _
  rw [e3, if_pos (by omega)]
theorem sM_cut (q : Bool) (n : Nat) (hn : n < 16) (j : Nat) (hj : j < n) : cutP (bs (sM q n j)) = (bs (pM q n j), bs (sM q n (j + 1)), decide (j + 1 < n)) := by
  have h := sM_scan q n hn j hj
  by_cases h2 : j + 1 < n
  · rw [if_pos h2] at h
    rw [decide_eq_true h2]
    exact cut_list _ _ _ h (sM_step q n j h2)
  · rw [if_neg h2] at h
    rw [decide_eq_false h2, cut_last _ h]
    obtain rfl : n = j + 1 := by omega
    have e1 : sM q (j + 1) (j + 1) = [] := by unfold sM; rw [Nat.sub_self]; rfl
    have e2 : sM q (j + 1) j = pM q (j + 1) j := by
      unfold sM
      rw [show j + 1 - j = 0 + 1 by omega]
      show pM q (j + 1) (j + 1 - (0 + 1)) ++ [] = _
      rw [List.append_nil]
      congr 1
    rw [e1, e2]
theorem many_right : ∀ q : Bool, ∀ n, n < 7 → rightF ⟨#[97]⟩ (firstC (cM q) n) = true := by decide +kernel
theorem ch_plain : ∀ j, j < 16 → (Lib.indexByte [120, 38, chM j, 34] 34 = 3 ∧ Lib.indexByte (quoT (bs [120, 38, chM j])).data.toList 92 = -1 ∧ Lib.indexByte (quoT (bs [120, 38, chM j])).data.toList 10 = -1) ∧ Lib.validD [120, 38, chM j] = true := by decide +kernel
theorem ch_quote : ∀ j, j < 16 → strOfNums (Lib.quoteZ Lib.goPrintTabs (bs [120, 38, chM j])) = quoT (bs [120, 38, chM j]) := by decide +kernel
theorem ch_words : ∀ j, j < 16 → (quoT (bs [120, 38, chM j])).toList ≠ [121, 101, 115] ∧ (quoT (bs [120, 38, chM j])).toList ≠ [110, 111] := by decide +kernel
theorem plainM (j : Nat) (h : j < 16) : Plain (bs [120, 38, chM j]) := by
  have h1 := ch_plain j h
  have h2 := ch_words j h
  exact ⟨by show 3 ≤ 40; decide, h1.1.1, h1.1.2.1, h1.1.2.2, h1.2, ch_quote j h, h2.1, h2.2⟩
end Go.Proofs.YtljmlfeedleodaaGreatDoor
