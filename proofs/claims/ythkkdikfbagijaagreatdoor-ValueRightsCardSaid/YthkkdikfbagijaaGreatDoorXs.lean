/- A text of n letters x, and the same between quotes: how it is cut, quoted and searched. -/
import Derived.Test.YthkkdikfbagijaaGreatDoorTabs
import Derived.Lib.ValidLaws
import Derived.Laws.RangeString
namespace Go.Proofs.YthkkdikfbagijaaGreatDoor
open Go.RowKit
set_option maxRecDepth 100000

def xs (n : Nat) : ByteArray := ⟨(List.replicate n (120 : UInt8)).toArray⟩
def quo (n : Nat) : ByteArray := ⟨(34 :: (List.replicate n (120 : UInt8) ++ [34])).toArray⟩
theorem xs_size (n : Nat) : (xs n).size = n := by simp [xs, ByteArray.size]
theorem quo_size (n : Nat) : (quo n).size = n + 2 := by simp [quo, ByteArray.size]
theorem xs_succ (n : Nat) : (xs n ++ ⟨#[120]⟩) = xs (n + 1) := by
  apply ByteArray.ext
  rw [ByteArray.data_append]
  apply Array.ext'
  simp [xs, List.replicate_succ']
theorem xs_zero : xs 0 = ⟨#[]⟩ := by simp [xs]
theorem xs_tail (n : Nat) : (xs (n + 1)).extract 1 (n + 1) = xs n := by
  apply ByteArray.ext
  rw [ByteArray.data_extract]
  apply Array.ext'
  simp [xs]
theorem quo_all (n : Nat) : (quo n).extract 0 (n + 2) = quo n := by
  apply ByteArray.ext
  rw [ByteArray.data_extract]
  apply Array.ext'
  simp [quo, List.extract, List.take_of_length_le]
theorem quo_in (n : Nat) : (quo n).extract 1 (n + 1) = xs n := by
  apply ByteArray.ext
  rw [ByteArray.data_extract]
  apply Array.ext'
  simp [quo, xs, List.extract]
theorem quo_rest (n : Nat) : ((quo n).extract 1 (n + 2)).data.toList = List.replicate n 120 ++ [34] := by
  rw [ByteArray.data_extract]
  simp [quo, List.extract, List.take_of_length_le]
theorem quo_end (n : Nat) : (quo n).extract (n + 2) (n + 2) = ⟨#[]⟩ := by
  apply ByteArray.ext
  rw [ByteArray.data_extract]
  apply Array.ext'
  simp [quo, List.extract]
theorem index_rep (n : Nat) : Lib.indexByte (List.replicate n 120 ++ [34]) 34 = (n : Int) := by
  induction n with
  | zero => decide
  | succ n ih =>
    rw [List.replicate_succ, List.cons_append]
    unfold Lib.indexByte
    rw [ih]
    have h1 : ((120 : UInt8) == 34) = false := by decide
    have h2 : ((n : Int) == -1) = false := by simp
    simp only [h1, h2]
    simp
theorem at_quote (n : Nat) : Lib.indexByte ((quo n).extract 1 (n + 2)).data.toList 34 = (n : Int) := by rw [quo_rest, index_rep]
theorem index_no (c : UInt8) : ∀ l : List UInt8, (∀ b ∈ l, b ≠ c) → Lib.indexByte l c = -1
  | [], _ => rfl
  | b :: l, h => by
    unfold Lib.indexByte
    rw [index_no c l (fun x hx => h x (by simp [hx]))]
    have h1 : (b == c) = false := by simpa using h b (by simp)
    simp [h1]
theorem quo_bytes {n : Nat} {b : UInt8} (h : b ∈ (quo n).data.toList) : b = 34 ∨ b = 120 := by
  simp [quo] at h
  rcases h with h | h | h
  · exact .inl h
  · exact .inr h.2
  · exact .inl h
theorem no_slash (n : Nat) : Lib.indexByte (quo n).data.toList 92 = -1 := index_no _ _ fun b h => by rcases quo_bytes h with rfl | rfl <;> decide
theorem no_line (n : Nat) : Lib.indexByte (quo n).data.toList 10 = -1 := index_no _ _ fun b h => by rcases quo_bytes h with rfl | rfl <;> decide
theorem valid_xs (n : Nat) : Lib.validD (xs n).data.toList = true := by
  simp only [xs]
  induction n with
  | zero => rfl
  | succ n ih => rw [List.replicate_succ, Lib.validD_cons _ _ (by decide)]; exact ih
theorem quoteFromX (n : Nat) : Lib.quoteFrom Lib.goPrintTabs n (xs n) = List.replicate n 120 := by
  induction n with
  | zero => rfl
  | succ n ih =>
    have hd : Utf8.decode (xs (n + 1)) 0 = (120, 1) := by
      have h : 0 < (xs (n + 1)).size := by rw [xs_size]; omega
      have e : (xs (n + 1))[0]'h = 120 := by simp [xs, ByteArray.getElem_eq_getElem_data]
      rw [decode_ascii _ 0 h (by rw [e]; decide), e]
      rfl
    have hs : Lib.quoteStep Lib.goPrintTabs (xs (n + 1)) = [120] := by
      unfold Lib.quoteStep
      rw [hd, if_neg (by decide)]
      decide +kernel
    unfold Lib.quoteFrom
    rw [hd, hs, xs_size, if_pos (by omega), xs_tail, ih]
    rfl
theorem quoteX (n : Nat) : strOfNums (Lib.quoteZ Lib.goPrintTabs (xs n)) = quo n := by
  unfold Lib.quoteZ
  rw [xs_size, quoteFromX]
  apply ByteArray.ext
  apply Array.ext'
  simp [strOfNums, quo]
end Go.Proofs.YthkkdikfbagijaaGreatDoor
