/- codec.Reader: Byte, Text. -/
import Derived.Test.YtecfbbddhnkilaaRd1
namespace Go.Proofs.Ytecfbbddhnkilaa
open Go.RowKit
open Go.Proofs
set_option maxRecDepth 100000

/-- What a text of bytes is. -/
def bstr (l : List UInt8) : ByteArray := ⟨l.toArray⟩
def rByte : List UInt8 → Option (Int × List UInt8)
  | [] => none
  | c :: t => some (c.toNat, t)
def rText : List UInt8 → Option (ByteArray × List UInt8)
  | [] => none
  | c :: t => if c.toNat ≤ t.length then some (bstr (t.take c.toNat), t.drop c.toNat) else none

set_option maxHeartbeats 1000000 in
theorem byte_no (R : Nat) (w : World) (h : Rd w R []) :
    Calls Try.prog 24 #[.pointer (some ⟨R, 0, none⟩)] w fun e w' => e = .panicked gv ∧ w = w' := by
  have ht := take_no R 1 [] w h (by simp)
  clear h
  go_enter Try.func24, Try.ntmps24
  go_wp2_with fail
  refine ht.mono ?_
  rintro e w' ⟨rfl, rfl⟩
  exact ⟨rfl, rfl, rfl⟩

set_option maxHeartbeats 1000000 in
theorem byte_ok (R : Nat) (c : UInt8) (t : List UInt8) (w : World) (h : Rd w R (c :: t)) :
    Calls Try.prog 24 #[.pointer (some ⟨R, 0, none⟩)] w fun e w' => e = .returned (.int .i64 (c.toNat : Int)) ∧ Aside (Rd w' R t ∧ Kb (· = R) w w') := by
  have ht := take_ok R 1 (c :: t) w h (by simp)
  obtain ⟨v, hv⟩ : ∃ v : Int, v = c.toNat := ⟨_, rfl⟩
  have hlt : v ≤ 255 := by have := c.toNat_lt; omega
  have hge : 0 ≤ v := by omega
  rw [← hv]
  have HV : Aside _ := hv
  clear h hv
  go_enter Try.func24, Try.ntmps24
  go_wp2_with fail
  refine ht.mono ?_
  rintro e w1 ⟨ao, cap, rfl, hA⟩
  obtain ⟨hb, hr⟩ := hA.out
  have HR : Aside _ := hr
  simp only [List.take_succ_cons, List.take_zero, List.drop_succ_cons, List.drop_zero] at hb HR
  rcases hb with h0 | ⟨b, off, rfl, _, _, hc⟩
  · cases h0
  have c0 := hc 0 (by simp)
  simp only [Nat.add_zero, List.getD_cons_zero] at c0
  rw [← HV.out] at c0
  clear hc hr hA ht
  go_wp2_with fail
  go_ret
  exact ⟨rfl, HR⟩

theorem BytesB.string {W : World} {B : Nat} {ao : Option Addr} {l : List UInt8} (h : BytesB W B ao l) (cap : Nat) :
    (convert 32 9 (.slice ao l.length cap)).run Try.prog W = .ok (.string (bstr l)) W := by
  rcases h with rfl | ⟨b, off, rfl, _, _, hc⟩
  · cases ao with
    | none => exact run_convert_bytes_nil W 32 5 Try.underlying32 Try.underlying5 0 cap 9 Try.underlying9
    | some a => exact run_convert_bytes_back W 32 9 5 a cap [] Try.underlying32 Try.underlying5 Try.underlying9 (fun j hj => absurd hj (by simp))
  · refine run_convert_bytes_back W 32 9 5 ⟨b, off, none⟩ cap l Try.underlying32 Try.underlying5 Try.underlying9 (fun j hj => ?_)
    have := hc j hj
    rw [List.getD_eq_getElem?_getD, List.getElem?_eq_getElem hj, Option.getD_some] at this
    rw [show (({ block := b, off := off } : Addr).add j) = ⟨b, off + j, none⟩ by
      by_cases h0 : j = 0
      · subst h0; simp [Addr.add]
      · simp [Addr.add, h0]]
    exact this

set_option maxHeartbeats 1000000 in
theorem text_no (R : Nat) (l : List UInt8) (w : World) (h : Rd w R l) (hn : rText l = none) :
    Calls Try.prog 23 #[.pointer (some ⟨R, 0, none⟩)] w fun e w' => e = .panicked gv ∧ Kb (· = R) w w' := by
  cases l with
  | nil =>
    have hb := byte_no R w h
    clear h hn
    go_enter Try.func23, Try.ntmps23
    go_wp2_with fail
    refine hb.mono ?_
    rintro e w' ⟨rfl, rfl⟩
    exact ⟨rfl, rfl, Kb.refl _ _⟩
  | cons c t =>
    have hb := byte_ok R c t w h
    have ht : ∀ W, Rd W R t → Calls Try.prog 38 #[.pointer (some ⟨R, 0, none⟩), .int .i64 c.toNat] W fun e w' => e = .panicked gv ∧ W = w' := fun W hW => take_no R c.toNat t W hW (by
      simp only [rText] at hn
      by_cases hc : c.toNat ≤ t.length
      · rw [if_pos hc] at hn; cases hn
      · omega)
    have HT : Aside _ := ht
    clear h hn ht
    go_enter Try.func23, Try.ntmps23
    go_wp2_with fail
    refine hb.mono ?_
    rintro e w1 ⟨rfl, hA⟩
    go_wp2_with fail
    refine (HT.out w1 hA.out.1).mono ?_
    rintro e w' ⟨rfl, rfl⟩
    exact ⟨rfl, rfl, hA.out.2⟩

set_option maxHeartbeats 1000000 in
theorem text_ok (R : Nat) (l t : List UInt8) (s : ByteArray) (w : World) (h : Rd w R l) (hn : rText l = some (s, t)) :
    Calls Try.prog 23 #[.pointer (some ⟨R, 0, none⟩)] w fun e w' => e = .returned (.string s) ∧ Aside (Rd w' R t ∧ Kb (· = R) w w') := by
  cases l with
  | nil => cases hn
  | cons c t0 =>
    have hb := byte_ok R c t0 w h
    simp only [rText] at hn
    by_cases hc : c.toNat ≤ t0.length
    · rw [if_pos hc] at hn
      simp only [Option.some.injEq, Prod.mk.injEq] at hn
      obtain ⟨rfl, rfl⟩ := hn
      have HT : Aside (∀ W, Rd W R t0 → Calls Try.prog 38 #[.pointer (some ⟨R, 0, none⟩), .int .i64 c.toNat] W fun e w' =>
        ∃ ao cap, e = .returned (.slice ao c.toNat cap) ∧ Aside (BytesB w' R ao (t0.take c.toNat) ∧ Rd w' R (t0.drop c.toNat) ∧ Kb (· = R) W w')) := fun W hW => take_ok R c.toNat t0 W hW hc
      have hlen : (t0.take c.toNat).length = c.toNat := by rw [List.length_take]; omega
      have HLen : Aside _ := hlen
      clear h hlen
      go_enter Try.func23, Try.ntmps23
      go_wp2_with fail
      refine hb.mono ?_
      rintro e w1 ⟨rfl, hA⟩
      go_wp2_with fail
      refine (HT.out w1 hA.out.1).mono ?_
      rintro e w2 ⟨ao, cap, rfl, hB⟩
      have hcv := hB.out.1.string cap
      rw [HLen.out] at hcv
      clear hc
      go_wp2_with fail
      go_ret
      exact ⟨rfl, hB.out.2.1, hA.out.2.trans hB.out.2.2⟩
    · rw [if_neg hc] at hn; cases hn
end Go.Proofs.Ytecfbbddhnkilaa
