/- CodecWrong, plainly: the bytes of an event of one attribute named a. -/
import Derived.Test.YtnpbnjddlchmcaaEnc3
import Derived.Test.YtnpbnjddlchmcaaKeptB
import Derived.Test.YtnpbnjddlchmcaaManyL
import Derived.Test.YtnpbnjddlchmcaaZeros
import Derived.Test.YtnpbnjddlchmcaaNewC
namespace Go.Proofs.Ytnpbnjddlchmcaa
open Go.RowKit Go.Shelf Go.Sort
open Go.Proofs
set_option maxRecDepth 100000

def nmA : ByteArray := ⟨#[97]⟩
theorem rText_a (t : List UInt8) : rText (1 :: 97 :: t) = some (nmA, t) := by
  have := rText_enc nmA (by decide) t
  exact this
theorem rText_0 (t : List UInt8) : rText (0 :: t) = some (⟨#[]⟩, t) := by
  have := rText_enc ⟨#[]⟩ (by decide) t
  exact this
theorem nameOk_a : nameOk nmA = true := by decide +kernel
theorem evOf_a (c : UInt8) (t : List UInt8) : evOf (0 :: 1 :: 1 :: 97 :: c :: t) = match rValue nmA (c :: t) with
    | some (a, []) => if rightE [a] = true then some (⟨#[]⟩, [a]) else none
    | _ => none := by
  unfold evOf rEvent
  rw [rText_0]
  simp only [show (1 : UInt8).toNat = 1 from rfl, rAttrs, rAttr, rText_a]
  cases hr : rValue nmA (c :: t) with
  | none => rfl
  | some p =>
    obtain ⟨a, t2⟩ := p
    simp only [Option.map_some]
    by_cases h : rightE [a] = true
    · rw [if_pos h]
      cases t2 with
      | nil => simp [h]
      | cons d t2 => rfl
    · rw [if_neg h]
      cases t2 with
      | nil => simp [h]
      | cons d t2 => rfl
theorem feq_zero : feq 0 0 = true := by decide +kernel
theorem fcanon_zero : fcanon 0 = 0 := by decide +kernel
theorem keptB_can (a : At) (h : canonA a = a) (hf : a.k = 1 → fnan a.x = false → feq a.x a.x = true) : keptB a = true := by
  obtain ⟨nm, k, n, x, s, y⟩ := a
  unfold canonA at h
  simp only [] at h hf
  by_cases h0 : (k == 0) = true
  · rw [if_pos h0] at h
    injection h with e1 e2 e3 e4 e5 e6
    subst e2 e4 e5 e6
    simp [keptB, eqV, asideX, voidB, canonA, feq_zero]
  · rw [if_neg h0] at h
    by_cases h1 : (k == 1) = true
    · rw [if_pos h1] at h
      injection h with e1 e2 e3 e4 e5 e6
      subst e2 e3 e5 e6
      cases hn : fnan x
      · simp [keptB, eqV, asideX, voidB, canonA, hn, e4, hf rfl hn]
      · simp [keptB, eqV, asideX, voidB, canonA, hn, fcanon_zero, feq_zero]
    · rw [if_neg h1] at h
      by_cases h2 : (k == 2) = true
      · rw [if_pos h2] at h
        injection h with e1 e2 e3 e4 e5 e6
        subst e2 e3 e4 e6
        simp [keptB, eqV, asideX, voidB, canonA, feq_zero]
      · rw [if_neg h2] at h
        by_cases h3 : (k == 3) = true
        · rw [if_pos h3] at h
          injection h with e1 e2 e3 e4 e5 e6
          subst e2 e3 e4 e5
          simp [keptB, eqV, asideX, voidB, canonA, feq_zero]
        · rw [if_neg h3] at h
          injection h with e1 e2 e3 e4 e5 e6
          subst e2
          simp at h0
theorem rightE_a (a : At) (hn : a.nm = nmA) (hv : vrightB a.k a.s = true) (h : canonA a = a) (hf : a.k = 1 → fnan a.x = false → feq a.x a.x = true) : rightE [a] = true := by
  rw [rightE_rise (List.pairwise_singleton _ _) (fun b hb => by
    obtain rfl : b = a := by simpa using hb
    rw [hn, nameOk_a, hv, keptB_can b h hf]; rfl)]
  rfl
theorem feq_self (x : Nat) (h : fnan x = false) : feq x x = true := by
  have := neq_self x
  rw [h] at this
  unfold feq
  simpa [bne] using this
theorem isSome_a {c : UInt8} {t : List UInt8} {a : At} (hr : rValue nmA (c :: t) = some (a, [])) (hn : a.nm = nmA) (hv : vrightB a.k a.s = true) (h : canonA a = a) : (evOf (0 :: 1 :: 1 :: 97 :: c :: t)).isSome = true := by
  rw [evOf_a, hr]
  simp only [rightE_a a hn hv h (fun _ hf => feq_self _ hf), if_true]
  rfl
theorem isSome_no {c : UInt8} {t : List UInt8} (hr : rValue nmA (c :: t) = none) : (evOf (0 :: 1 :: 1 :: 97 :: c :: t)).isSome = false := by
  rw [evOf_a, hr]
  rfl
theorem ev0 (k : Nat) (hk : k < 2 ^ 64) : (evOf (0 :: 1 :: 1 :: 97 :: 0 :: encL k)).isSome = true := by
  have h := rLong_enc k hk []
  rw [List.append_nil] at h
  exact isSome_a (a := ⟨nmA, 0, wrap64 (k : Int), 0, ⟨#[]⟩, false⟩) (by simp [rValue, h]) rfl (by simp [vrightB, ByteArray.size]) (by simp [canonA])
theorem ev1 (k : Nat) (hk : k < 2 ^ 64) : (evOf (0 :: 1 :: 1 :: 97 :: 1 :: encL k)).isSome = (fback (k : Int)).2 := by
  have h := rLong_enc k hk []
  rw [List.append_nil] at h
  cases hb : (fback (k : Int)).2
  · exact isSome_no (by simp [rValue, rNum, h, hb])
  · have hc : fcanon (fback (k : Int)).1 = (fback (k : Int)).1 := by
      unfold fback at hb ⊢
      by_cases hf : fkey (fbk (k : Int)) = (k : Int)
      · rw [if_pos hf]
        show fcanon (fbk (k : Int)) = fbk (k : Int)
        rw [fbk_eq, fcanon_idem]
      · rw [if_neg hf] at hb; cases hb
    exact isSome_a (a := ⟨nmA, 1, 0, (fback (k : Int)).1, ⟨#[]⟩, false⟩) (by simp [rValue, rNum, h, hb]) rfl (by simp [vrightB, ByteArray.size]) (by simp [canonA, hc])
theorem ev2 (n : Nat) (hn : n ≤ 255) : (evOf (0 :: 1 :: 1 :: 97 :: 2 :: encT (zerosB n))).isSome = decide (n ≤ 40) := by
  have h := rText_enc (zerosB n) (by rw [zerosB_size]; exact hn) []
  rw [List.append_nil] at h
  by_cases h4 : n ≤ 40
  · rw [decide_eq_true h4]
    exact isSome_a (a := ⟨nmA, 2, 0, 0, zerosB n, false⟩) (by simp [rValue, rShort, h, zerosB_size]; omega) rfl (by simp [vrightB, zerosB_size]; omega) (by simp [canonA])
  · rw [decide_eq_false h4]
    exact isSome_no (by simp [rValue, rShort, h, zerosB_size]; omega)
theorem ev3 (c : UInt8) : (evOf [0, 1, 1, 97, 3, c]).isSome = decide (c.toNat ≤ 1) := by
  by_cases h4 : c.toNat ≤ 1
  · rw [decide_eq_true h4]
    exact isSome_a (a := ⟨nmA, 3, 0, 0, ⟨#[]⟩, (c.toNat : Int) == 1⟩) (by simp [rValue, rYes, rByte]; omega) rfl (by simp [vrightB, ByteArray.size]) (by simp [canonA])
  · rw [decide_eq_false h4]
    exact isSome_no (by simp [rValue, rYes, rByte]; omega)
theorem ev4 (k c : UInt8) (h : 4 ≤ k.toNat) : (evOf [0, 1, 1, 97, k, c]).isSome = false :=
  isSome_no (by
    unfold rValue
    dsimp only
    rw [if_neg (by omega), if_neg (by omega), if_neg (by omega), if_neg (by omega)])
/-- What ReadEvent says, as a yes or no. -/
theorem readEvent_is (ao : Option Addr) (cap : Nat) (l : List UInt8) (w : World) (hl : l.length ≤ cap) (hb : BytesB w w.heap.size ao l) :
    Calls Try.prog 16 #[.slice ao l.length cap] w fun e w' => ∃ s a n c, e = .returned (.tuple #[.agg #[.string s, .slice a n c], .bool (evOf l).isSome]) ∧ Below w.heap.size w w' :=
  (readEvent_c ao cap l w hl hb).mono fun e w' h => by
    obtain ⟨hb, h⟩ := h
    cases hr : evOf l with
    | none => rw [hr] at h; exact ⟨_, _, _, _, h, hb⟩
    | some p =>
      obtain ⟨sc, es⟩ := p
      rw [hr] at h
      obtain ⟨ao, cap, he, _⟩ := h
      exact ⟨_, _, _, _, he, hb⟩
end Go.Proofs.Ytnpbnjddlchmcaa
