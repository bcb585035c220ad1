/- What every text of a seat without event.New begins with. -/
import Derived.Test.YtjeippdfgojdnaaGreatDoorRows
import Derived.WalkKit
import Derived.WalkLawsBesides
import Derived.KernelRfl
import Derived.Lib.Hide
import Derived.LoopTactic
import Derived.Deep.LoopGhost
import Derived.Below
import Derived.Shelf.Abstract
import Derived.Laws.IdiomStrings
namespace Go.Proofs.YtjeippdfgojdnaaGreatDoor
open Go.RowKit Go.Shelf
open Go.Proofs
theorem bytes_toList (b : ByteArray) : b.toList = b.data.toList := by
  have h : ∀ (n i : Nat) (r : List UInt8), b.size - i = n → ByteArray.toList.loop b i r = r.reverse ++ b.data.toList.drop i := by
    intro n
    induction n with
    | zero =>
      intro i r h
      unfold ByteArray.toList.loop
      have hz : b.data.toList.length = b.size := Array.length_toList
      rw [if_neg (by omega), List.drop_of_length_le (by omega)]; simp
    | succ n ih =>
      intro i r h
      unfold ByteArray.toList.loop
      rw [if_pos (by omega), ih (i + 1) _ (by omega)]
      have hz : b.data.toList.length = b.size := Array.length_toList
      have hlt : i < b.data.toList.length := by omega
      rw [List.drop_eq_getElem_cons hlt]
      have : b.get! i = b.data.toList[i] := by
        have hlt2 : i < b.data.size := by simpa using hlt
        show b.data[i]! = _
        rw [getElem!_pos b.data i hlt2, Array.getElem_toList]
      rw [this]; simp
  have := h _ 0 [] rfl
  simpa [ByteArray.toList] using this
end Go.Proofs.YtjeippdfgojdnaaGreatDoor
