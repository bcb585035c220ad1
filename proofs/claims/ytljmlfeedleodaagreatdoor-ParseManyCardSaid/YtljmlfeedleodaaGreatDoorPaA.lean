/- parse.cut and parse.step by their contracts. -/
import Derived.Test.YtljmlfeedleodaaGreatDoorRows
import Derived.Test.YtljmlfeedleodaaGreatDoorShelf
import Derived.WalkKit
import Derived.Deep.LoopGhost
import Derived.Deep.DeepCutAuto
import Derived.RegionTactic
import Derived.Deep.QuietTactic
import Derived.BigQuiet
import Derived.KernelRfl
import Derived.Lib.Hide
namespace Go.Proofs.YtljmlfeedleodaaGreatDoor
open Go.RowKit Go.Shelf
open Go.Proofs
set_option maxRecDepth 100000

/-- Where the first & that parts stands; sk: the next one is meant as it stands. -/
def scanL : List UInt8 → Nat → Bool → Bool → Option Nat
  | [], _, _, _ => none
  | _ :: l, i, q, true => scanL l (i + 1) q false
  | c :: l, i, q, false => if q && c == 92 then scanL l (i + 1) q true else if c == 34 then scanL l (i + 1) (!q) false else if c == 38 && !q then some i else scanL l (i + 1) q false
/-- What stands ahead of it, and behind. -/
def cutR (s : ByteArray) : Option Nat → ByteArray × ByteArray × Bool
  | some i => (s.extract 0 i, s.extract (i + 1) s.size, true)
  | none => (s, ⟨#[]⟩, false)
def cutP (s : ByteArray) : ByteArray × ByteArray × Bool := cutR s (scanL s.data.toList 0 false false)
theorem scan_at {s : ByteArray} {i : Nat} {q : Bool} (h : i < s.size) : scanL (s.data.toList.drop i) i q false =
    if q && s[i] == 92 then scanL (s.data.toList.drop (i + 2)) (i + 2) q false else if s[i] == 34 then scanL (s.data.toList.drop (i + 1)) (i + 1) (!q) false else if s[i] == 38 && !q then some i else scanL (s.data.toList.drop (i + 1)) (i + 1) q false := by
  have hl : i < s.data.toList.length := by simpa using h
  rw [List.drop_eq_getElem_cons hl]
  have e : s.data.toList[i] = s[i] := rfl
  rw [e]
  show (if q && s[i] == 92 then scanL (s.data.toList.drop (i + 1)) (i + 1) q true else _) = _
  have e2 : scanL (s.data.toList.drop (i + 1)) (i + 1) q true = scanL (s.data.toList.drop (i + 2)) (i + 2) q false := by
    by_cases h2 : i + 1 < s.data.toList.length
    · rw [List.drop_eq_getElem_cons h2]; rfl
    · rw [List.drop_of_length_le (by omega), List.drop_of_length_le (by omega)]; rfl
  rw [e2]
theorem scan_end {s : ByteArray} {i : Nat} {q : Bool} (h : ¬ i < s.size) : scanL (s.data.toList.drop i) i q false = none := by
  rw [List.drop_of_length_le (by simp; omega)]; rfl
theorem below_drewN (w : World) (k : Nat) : Below w.heap.size w (w.drewN k) := ⟨rfl, rfl, rfl, Nat.le_refl _, fun _ _ => rfl⟩
set_option maxHeartbeats 4000000 in
theorem cut_c (s : ByteArray) (hs : s.size ≤ 100000) (w : World) :
    Calls Tryz.prog 18 #[.string s] w fun e w' => e = .returned (.tuple #[.string (cutP s).1, .string (cutP s).2.1, .bool (cutP s).2.2]) ∧ Below w.heap.size w w' := by
  obtain ⟨R, hR⟩ : ∃ R, R = scanL (s.data.toList.drop 0) 0 false false := ⟨_, rfl⟩
  have HP : Aside (cutP s = cutR s R) := by rw [hR, List.drop_zero]; rfl
  have HR := Lib.hid hR.symm
  clear hR
  obtain ⟨P, hP⟩ : ∃ P, P = cutP s := ⟨_, rfl⟩
  rw [← hP] at HP ⊢
  clear hP
  obtain ⟨p1, p2, p3⟩ := P
  simp only at HP ⊢
  go_enter Tryz.func18, Tryz.ntmps18
  go_wp2_with fail
  go_loopg [5, 6] s.size (fun kx s5 s6 wr => ∃ (i : Nat) (q : Bool), s5 = .bool q ∧ s6 = .int .i64 i ∧ i ≤ s.size + 1 ∧ s.size - i ≤ kx ∧ Aside (scanL (s.data.toList.drop i) i q false = R) ∧ wr = w)
  case atStart => exact ⟨0, false, rfl, rfl, Nat.zero_le _, by omega, HR.out, rfl⟩
  case round =>
    clear HR
    obtain ⟨i, q, rfl, rfl, hi, hix, HJ, rfl⟩ := hrel
    by_cases hlt : i < s.size
    · have hsc := HJ.out
      rw [scan_at hlt] at hsc
      have hc : ∀ h, ((s[i]'h).toNat : Int) = ((s[i].toNat : Nat) : Int) := fun h => rfl
      have e92 : (s[i] == 92) = ((s[i].toNat : Int) == 92) := by rw [Bool.eq_iff_iff, beq_iff_eq, beq_iff_eq, ← UInt8.toNat_inj]; show _ = 92 ↔ _; omega
      have e34 : (s[i] == 34) = ((s[i].toNat : Int) == 34) := by rw [Bool.eq_iff_iff, beq_iff_eq, beq_iff_eq, ← UInt8.toNat_inj]; show _ = 34 ↔ _; omega
      have e38 : (s[i] == 38) = ((s[i].toNat : Int) == 38) := by rw [Bool.eq_iff_iff, beq_iff_eq, beq_iff_eq, ← UInt8.toNat_inj]; show _ = 38 ↔ _; omega
      rw [e92, e34, e38] at hsc
      clear e92 e34 e38 HJ
      have hltz : (i : Int) < s.size := by omega
      have hi0 : (0 : Int) ≤ (i : Int) := by omega
      obtain ⟨c, hcc⟩ : ∃ c, c = s[i].toNat := ⟨_, rfl⟩
      have hc2 : ∀ h, ((s[i]'h).toNat : Int) = (c : Int) := fun h => by rw [hcc]
      rw [← hcc] at hsc
      clear hc hcc
      cases q
      · cases h34 : ((c : Int) == 34)
        · cases h38 : ((c : Int) == 38)
          · rw [h34, h38] at hsc
            have HS := Lib.hid hsc
            clear hsc
            go_wp2_with fail
            go_roundg (s.size - (i + 1))
            case measure => omega
            case rel => exact ⟨i + 1, false, rfl, by go_num, by omega, Nat.le_refl _, HS.out, rfl⟩
          · rw [h34, h38] at hsc
            have HS : Aside (R = some i) := hsc.symm
            clear hsc
            obtain ⟨rfl, rfl, rfl⟩ : p1 = s.extract 0 i ∧ p2 = s.extract (i + 1) s.size ∧ p3 = true := by
              have h := HP.out
              rw [HS.out] at h
              have h : (p1, p2, p3) = (s.extract 0 i, s.extract (i + 1) s.size, true) := h
              simp only [Prod.mk.injEq] at h; exact h
            have hw1 : IntKind.i64.wrap ((i : Int) + 1) = (i : Int) + 1 := by rw [IntKind.wrap_i64]; omega
            have ht1 : ((i : Int) + 1).toNat = i + 1 := by omega
            have hle1 : (i : Int) + 1 ≤ s.size := by omega
            have hle2 : (i : Int) ≤ s.size := by omega
            clear HP HS
            go_wp2_with fail
            go_quiet (fail)
            go_wp2_with fail
            go_ret3
            exact ⟨rfl, below_drewN _ _⟩
        · rw [h34] at hsc
          have HS := Lib.hid hsc
          clear hsc
          go_wp2_with fail
          go_roundg (s.size - (i + 1))
          case measure => omega
          case rel => exact ⟨i + 1, true, rfl, by go_num, by omega, Nat.le_refl _, HS.out, rfl⟩
      · cases h92 : ((c : Int) == 92)
        · cases h34 : ((c : Int) == 34)
          · rw [h92, h34] at hsc
            simp only [Bool.and_false, Bool.false_eq_true, if_false, Bool.not_true] at hsc
            have HS := Lib.hid hsc
            clear hsc
            cases h38 : ((c : Int) == 38)
            all_goals
              go_wp2_with fail
              go_roundg (s.size - (i + 1))
              case measure => omega
              case rel => exact ⟨i + 1, true, rfl, by go_num, by omega, Nat.le_refl _, HS.out, rfl⟩
          · rw [h92, h34] at hsc
            have HS := Lib.hid hsc
            clear hsc
            go_wp2_with fail
            go_roundg (s.size - (i + 1))
            case measure => omega
            case rel => exact ⟨i + 1, false, rfl, by go_num, by omega, Nat.le_refl _, HS.out, rfl⟩
        · rw [h92] at hsc
          have HS := Lib.hid hsc
          clear hsc
          go_wp2_with fail
          go_roundg (s.size - (i + 2))
          case measure => omega
          case rel => exact ⟨i + 2, true, rfl, by go_num, by omega, Nat.le_refl _, HS.out, rfl⟩
    · have hsc := HJ.out
      rw [scan_end hlt] at hsc
      have HS : Aside ((p1, p2, p3) = (s, ⟨#[]⟩, false)) := by rw [HP.out, ← hsc]; rfl
      clear hsc HJ
      obtain ⟨rfl, rfl, rfl⟩ : p1 = s ∧ p2 = ⟨#[]⟩ ∧ p3 = false := by have := HS.out; simp only [Prod.mk.injEq] at this; exact this
      go_wp2_with fail
      go_ret3
      exact ⟨rfl, Below.refl _ _⟩
end Go.Proofs.YtljmlfeedleodaaGreatDoor
