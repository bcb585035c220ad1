/- CondPrefixes: a longer beginning implies a shorter one, and no other text. (Written by gen_prefixes.py.) -/
import Derived.Test.YtjeippdfgojdnaaGreatDoorCondT
import Derived.Test.YtjeippdfgojdnaaGreatDoorCondI
import Derived.Deep.DeepCutAuto
namespace Go.Proofs.YtjeippdfgojdnaaGreatDoor
open Go.RowKit Go.Shelf
open Go.Proofs
set_option maxRecDepth 100000

/-- The law's conditions on texts. -/
def txtC (op : Int) (s : ByteArray) : Cn := ⟨⟨⟨#[97]⟩, 2, 0, 0, s, false⟩, op⟩
theorem px66 (s t : ByteArray) : impliesB (txtC 6 s) (txtC 6 t) = preB s t := by simp [impliesB, txtC, cvoidB, coreB, prefixI]
theorem px61 (s t : ByteArray) : impliesB (txtC 6 s) (txtC 1 t) = !preB t s := by simp [impliesB, txtC, cvoidB, voidB, coreB, prefixI]
theorem px60 (s t : ByteArray) : impliesB (txtC 6 s) (txtC 0 t) = false := by simp [impliesB, txtC, cvoidB, voidB, coreB, prefixI]
theorem px06 (s t : ByteArray) : impliesB (txtC 0 s) (txtC 6 t) = preB s t := by simp [impliesB, txtC, cvoidB, voidB, coreB, holdsB]
theorem px01 (s t : ByteArray) : impliesB (txtC 0 s) (txtC 1 t) = !(s.toList == t.toList) := by
  have hc : cmpA (txtC 0 s).a (txtC 1 t).a = sgs s t := rfl
  have hz : (sgs s t != 0) = !(s.toList == t.toList) := by
    rw [sgs_eq]
    by_cases h1 : s.toList < t.toList
    · have : ¬ s.toList = t.toList := fun e => by rw [e] at h1; exact List.lt_irrefl _ h1
      simp [h1, this]
    · by_cases h2 : s.toList = t.toList
      · rw [h2]; simp [List.lt_irrefl]
      · simp [h1, h2]
  have hh : holdsB (txtC 1 t) (txtC 0 s).a = (sgs s t != 0) := by
    unfold holdsB
    rw [hc]
    rfl
  rw [← hz, ← hh]
  unfold impliesB coreB
  have v0 : cvoidB (txtC 0 s) = false := rfl
  have v1 : cvoidB (txtC 1 t) = false := rfl
  rw [v0, v1]
  simp [txtC]
set_option maxHeartbeats 1000000 in
theorem txt_c (op : Int) (s : ByteArray) (w : World) : Calls Tryz.prog 31 #[.int .i64 op, .string s] w fun e w' => e = .returned (cnd ⟨#[97]⟩ op 2 0 0 s false) ∧ Below w.heap.size w w' := by
  go_enter Tryz.func31, Tryz.ntmps31
  go_wp2
  refine bodyPost_ret (v := cnd ⟨#[97]⟩ op 2 0 0 s false) (by simp [results, Tryz.results31, go_sem]) rfl ⟨rfl, ?_⟩
  exact (Below.refl _ _).alloc (Nat.le_refl _) _
theorem pre_slice (s p : ByteArray) (_ : p.size ≤ s.size) : ((s.extract 0 p.size).toList == p.toList) = preB s p := by
  have ld : ∀ a : ByteArray, a.data.toList.length = a.size := fun a => Array.length_toList
  unfold preB Lib.hasPrefix
  rw [Bool.eq_iff_iff, List.isPrefixOf_iff_prefix, beq_iff_eq, bytes_toList, bytes_toList]
  have e : (s.extract 0 p.size).data.toList = s.data.toList.take p.size := by simp
  rw [e, List.prefix_iff_eq_take, ld]
  exact ⟨fun h => h.symm, fun h => h.symm⟩
theorem pre_short (s p : ByteArray) (h : ¬ p.size ≤ s.size) : preB s p = false := by
  have ld : ∀ a : ByteArray, a.data.toList.length = a.size := fun a => Array.length_toList
  cases hb : preB s p
  · rfl
  · unfold preB Lib.hasPrefix at hb
    rw [List.isPrefixOf_iff_prefix] at hb
    have := hb.length_le
    rw [ld, ld] at this
    exact absurd this h

set_option maxHeartbeats 8000000 in
theorem condPrefixes_c (s t : ByteArray) (w : World) (hw : Wds w) :
    Calls Tryz.prog 10 #[.string s, .string t] w fun e w' => e = .returned (.bool true) ∧ Below w.heap.size w w' := by
  have HF : Aside (∀ W, Below w.heap.size w W → Calls Tryz.prog 13 #[] W fun e w' => e = .returned (.bool true) ∧ Below W.heap.size W w') := fun W hW => fit6_c W (hw.on hW)
  have HM : Aside (∀ op u W, Calls Tryz.prog 31 #[.int .i64 op, .string u] W fun e w' => e = .returned (cnd ⟨#[97]⟩ op 2 0 0 u false) ∧ Below W.heap.size W w') := txt_c
  have imp : ∀ (o1 o2 : Int) (b : Bool), impliesB (txtC o1 s) (txtC o2 t) = b → ∀ W, Calls Tryz.prog 22 #[cnd ⟨#[97]⟩ o1 2 0 0 s false, cnd ⟨#[97]⟩ o2 2 0 0 t false] W fun e w' => e = .returned (.bool b) ∧ Below W.heap.size W w' := fun o1 o2 b hb W => by
    have := implies_c ⟨#[97]⟩ o1 2 0 0 s false ⟨#[97]⟩ o2 2 0 0 t false (by decide) (by decide) W
    unfold txtC at hb
    rw [hb] at this
    exact this
  have HI1 := Lib.hid (imp 6 6 _ (px66 s t)); have HI2 := Lib.hid (imp 6 1 _ (px61 s t)); have HI3 := Lib.hid (imp 0 6 _ (px06 s t)); have HI4 := Lib.hid (imp 6 0 _ (px60 s t)); have HI5 := Lib.hid (imp 0 1 _ (px01 s t))
  obtain ⟨B, hB⟩ : ∃ B, B = preB s t := ⟨_, rfl⟩
  obtain ⟨U, hU⟩ : ∃ U, U = preB t s := ⟨_, rfl⟩
  obtain ⟨E, hE⟩ : ∃ E, (s.toList == t.toList) = E := ⟨_, rfl⟩
  rw [← hB] at HI1 HI3
  rw [← hU] at HI2
  rw [hE] at HI5
  have hE2 : (s.toList != t.toList) = !E := by rw [bne, hE]
  have HBp : Aside (B = preB s t) := hB
  have HUp : Aside (U = preB t s) := hU
  clear imp hB hU hw
  go_enter Tryz.func10, Tryz.ntmps10
  go_wp2_with fail
  refine (HF.out _ (Below.refl _ _)).mono ?_
  rintro e w1 ⟨rfl, hb⟩
  have HA1 := Lib.hid hb; clear hb HF
  by_cases hs : (40 : Int) < (s.size : Int)
  · go_wp2_with fail
    go_ret
    exact ⟨rfl, HA1.out⟩
  have es : ((40 : Int) < (s.size : Int)) = False := eq_false hs
  by_cases ht : (40 : Int) < (t.size : Int)
  · go_wp2_with fail
    go_ret
    exact ⟨rfl, HA1.out⟩
  have et : ((40 : Int) < (t.size : Int)) = False := eq_false ht
  go_upto_region 6 with fail
  go_cut [6] (fun s6 wx => s6 = .bool B ∧ wx = w1)
  case first =>
    clear HI1 HI2 HI3 HI4 HI5 HM hE hE2
    by_cases h : t.size ≤ s.size
    · have hz : (t.size : Int) ≤ (s.size : Int) := by omega
      have hz0 : (0 : Int) ≤ (t.size : Int) := by omega
      have hp : ((s.extract 0 t.size).toList == t.toList) = B := (pre_slice s t h).trans HBp.out.symm
      go_wp2_with fail
      go_meet
      exact ⟨rfl, rfl⟩
    · have hz : ((t.size : Int) ≤ (s.size : Int)) = False := eq_false (by omega)
      have hp : B = false := HBp.out.trans (pre_short s t h)
      subst hp
      go_wp2_with fail
      go_meet
      exact ⟨rfl, rfl⟩
  case rest =>
  obtain ⟨rfl, hwc⟩ := hcut
  rw [hwc]
  clear hwc wc
  go_upto_region 7 with fail
  go_cut [7] (fun s7 wx => s7 = .bool U ∧ wx = w1)
  case first =>
    clear HI1 HI2 HI3 HI4 HI5 HM hE hE2
    by_cases h : s.size ≤ t.size
    · have hz : (s.size : Int) ≤ (t.size : Int) := by omega
      have hz0 : (0 : Int) ≤ (s.size : Int) := by omega
      have hp : ((t.extract 0 s.size).toList == s.toList) = U := (pre_slice t s h).trans HUp.out.symm
      go_wp2_with fail
      go_meet
      exact ⟨rfl, rfl⟩
    · have hz : ((s.size : Int) ≤ (t.size : Int)) = False := eq_false (by omega)
      have hp : U = false := HUp.out.trans (pre_short t s h)
      subst hp
      go_wp2_with fail
      go_meet
      exact ⟨rfl, rfl⟩
  case rest =>
  obtain ⟨rfl, hwc⟩ := hcut
  rw [hwc]
  clear hwc wc HBp HUp hs ht es et
  have hbb : ∀ b : Bool, (b == b) = true := fun b => by simp
  go_wp2_with fail
  refine (HM.out _ _ _).mono ?_
  rintro e w2 ⟨rfl, hb⟩
  have HA2 := Lib.hid (HA1.out.trans (hb.mono HA1.out.size)); clear hb
  go_wp2_with fail
  refine (HM.out _ _ _).mono ?_
  rintro e w3 ⟨rfl, hb⟩
  have HA3 := Lib.hid (HA2.out.trans (hb.mono HA2.out.size)); clear hb
  go_wp2_with fail
  refine (HI1.out _).mono ?_
  rintro e w4 ⟨rfl, hb⟩
  have HA4 := Lib.hid (HA3.out.trans (hb.mono HA3.out.size)); clear hb
  go_wp2_with fail
  refine (HM.out _ _ _).mono ?_
  rintro e w5 ⟨rfl, hb⟩
  have HA5 := Lib.hid (HA4.out.trans (hb.mono HA4.out.size)); clear hb
  go_wp2_with fail
  refine (HM.out _ _ _).mono ?_
  rintro e w6 ⟨rfl, hb⟩
  have HA6 := Lib.hid (HA5.out.trans (hb.mono HA5.out.size)); clear hb
  go_wp2_with fail
  refine (HI2.out _).mono ?_
  rintro e w7 ⟨rfl, hb⟩
  have HA7 := Lib.hid (HA6.out.trans (hb.mono HA6.out.size)); clear hb
  go_wp2_with fail
  refine (HM.out _ _ _).mono ?_
  rintro e w8 ⟨rfl, hb⟩
  have HA8 := Lib.hid (HA7.out.trans (hb.mono HA7.out.size)); clear hb
  go_wp2_with fail
  refine (HM.out _ _ _).mono ?_
  rintro e w9 ⟨rfl, hb⟩
  have HA9 := Lib.hid (HA8.out.trans (hb.mono HA8.out.size)); clear hb
  go_wp2_with fail
  refine (HI3.out _).mono ?_
  rintro e w10 ⟨rfl, hb⟩
  have HA10 := Lib.hid (HA9.out.trans (hb.mono HA9.out.size)); clear hb
  go_wp2_with fail
  refine (HM.out _ _ _).mono ?_
  rintro e w11 ⟨rfl, hb⟩
  have HA11 := Lib.hid (HA10.out.trans (hb.mono HA10.out.size)); clear hb
  go_wp2_with fail
  refine (HM.out _ _ _).mono ?_
  rintro e w12 ⟨rfl, hb⟩
  have HA12 := Lib.hid (HA11.out.trans (hb.mono HA11.out.size)); clear hb
  go_wp2_with fail
  refine (HI4.out _).mono ?_
  rintro e w13 ⟨rfl, hb⟩
  have HA13 := Lib.hid (HA12.out.trans (hb.mono HA12.out.size)); clear hb
  go_wp2_with fail
  refine (HM.out _ _ _).mono ?_
  rintro e w14 ⟨rfl, hb⟩
  have HA14 := Lib.hid (HA13.out.trans (hb.mono HA13.out.size)); clear hb
  go_wp2_with fail
  refine (HM.out _ _ _).mono ?_
  rintro e w15 ⟨rfl, hb⟩
  have HA15 := Lib.hid (HA14.out.trans (hb.mono HA14.out.size)); clear hb
  go_wp2_with fail
  refine (HI5.out _).mono ?_
  rintro e w16 ⟨rfl, hb⟩
  have HA16 := Lib.hid (HA15.out.trans (hb.mono HA15.out.size)); clear hb
  go_wp2_with fail
  go_ret
  exact ⟨rfl, HA16.out⟩
end Go.Proofs.YtjeippdfgojdnaaGreatDoor
