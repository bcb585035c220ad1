/- ParseMany: as many conditions as may be are read, and no more. -/
import Derived.Test.YtljmlfeedleodaaGreatDoorPaN
import Derived.Laws.IdiomStrings
namespace Go.Proofs.YtljmlfeedleodaaGreatDoor
open Go.RowKit Go.Shelf
open Go.Proofs
set_option maxRecDepth 100000

theorem and_mask (n : Int) (c : Nat) (hc : c ≤ 16) : ∃ m : Nat, m < 2 ^ c ∧ bits .and .i64 n ((2 ^ c - 1 : Nat) : Int) = m := by
  have h : ∃ m : Nat, m < 2 ^ c ∧ bits .and .i64 n ((2 ^ c - 1 : Nat) : Int) = IntKind.i64.wrap m := by
    refine ⟨((BitVec.ofInt 64 n) &&& (BitVec.ofInt 64 ((2 ^ c - 1 : Nat) : Int))).toNat, ?_, rfl⟩
    have h16 : 2 ^ c ≤ 2 ^ 16 := Nat.pow_le_pow_right (by decide) hc
    have hpos : 0 < 2 ^ c := Nat.pow_pos (by decide)
    rw [BitVec.toNat_and, BitVec.ofInt_natCast, BitVec.toNat_ofNat, Nat.mod_eq_of_lt (by omega : 2 ^ c - 1 < 2 ^ 64), Nat.and_two_pow_sub_one_eq_mod]
    exact Nat.mod_lt _ hpos
  obtain ⟨m, hm, h⟩ := h
  have h16 : 2 ^ c ≤ 2 ^ 16 := Nat.pow_le_pow_right (by decide) hc
  exact ⟨m, hm, by rw [h, IntKind.wrap_i64]; omega⟩
theorem and15 (n : Int) : ∃ m : Nat, m < 16 ∧ bits .and .i64 n 15 = m := and_mask n 4 (by decide)
theorem conv_one (B cap c : Nat) (hc : c < 256) (W : World) (h : W.cell? ⟨B, 0, none⟩ = some (.int .u8 (c : Int))) : (convert 23 9 (.slice (some ⟨B, 0, none⟩) 1 cap)).run Tryz.prog W = .ok (.string ⟨#[UInt8.ofNat c]⟩) W :=
  run_convert_bytes_back W 23 9 5 ⟨B, 0, none⟩ cap [UInt8.ofNat c] Tryz.underlying23 Tryz.underlying5 Tryz.underlying9 (fun j hj => by
    obtain rfl : j = 0 := by simpa using hj
    show W.cell? ⟨B, 0, none⟩ = _
    rw [h]
    simp [Nat.mod_eq_of_lt hc])
theorem bs_app (a b : List UInt8) : bs a ++ bs b = bs (a ++ b) := by
  apply ByteArray.ext
  simp [ByteArray.data_append]
theorem many_first (q : Bool) (x : ByteArray) (hx : x = bs (32 :: segM q 0)) : manyT q 0 ++ x = manyT q 1 := by
  subst hx
  unfold manyT
  rw [bs_app]; rfl
theorem many_next (q : Bool) (i : Nat) (h : 0 < i) (x : ByteArray) (hx : x = bs (32 :: segM q i)) : (manyT q i ++ ⟨#[32, 38]⟩) ++ x = manyT q (i + 1) := by
  subst hx
  unfold manyT
  rw [show (⟨#[32, 38]⟩ : ByteArray) = bs [32, 38] from rfl, bs_app, bs_app, askL, if_pos h]
  simp
theorem seg_h (i : Nat) : (⟨#[32, 104, 97, 115, 32, 110]⟩ : ByteArray) ++ ⟨#[chM i]⟩ = bs (32 :: segM false i) := bs_app [32, 104, 97, 115, 32, 110] [chM i]
theorem seg_q (i : Nat) : ((⟨#[32, 97, 32, 33, 61, 32, 34, 120, 38]⟩ : ByteArray) ++ ⟨#[chM i]⟩) ++ ⟨#[34]⟩ = bs (32 :: segM true i) := by
  rw [show (⟨#[32, 97, 32, 33, 61, 32, 34, 120, 38]⟩ : ByteArray) ++ ⟨#[chM i]⟩ = bs ([32, 97, 32, 33, 61, 32, 34, 120, 38] ++ [chM i]) from bs_app _ _]
  exact bs_app _ [34]
set_option maxHeartbeats 4000000 in
theorem parseMany_c (n0 : Int) (q : Bool) (w : World) (hm : MaxI w) (hw : Wds w) (hT : Tabs w) :
    Calls Tryz.prog 3 #[.int .i64 n0, .bool q] w fun e w' => e = .returned (.bool true) ∧ Below w.heap.size w w' := by
  have FIT := Lib.hid (fit8_c w hT hw hm)
  obtain ⟨n, hn, hne⟩ := and15 n0
  have HMW := Lib.hid hm
  have HWW := Lib.hid hw
  have HTW := Lib.hid hT
  clear hT hw hm
  have HN := Lib.hid hn
  clear hn
  go_enter Tryz.func3, Tryz.ntmps3
  go_wp2_with fail
  refine FIT.out.mono ?_
  rintro e w1 ⟨rfl, hb1⟩
  have H1 := Lib.hid hb1
  clear hb1 FIT
  go_wp2_with fail
  go_loopg [5, 14] n (fun kx s5 s14 wr => ∃ i : Nat, s5 = .string (manyT q i) ∧ s14 = .int .i64 i ∧ i ≤ n ∧ n - i ≤ kx ∧ Aside (Below w.heap.size w wr))
  case atStart => exact ⟨0, rfl, rfl, Nat.zero_le _, by omega, H1.out⟩
  case round =>
    obtain ⟨i, rfl, rfl, hi, hix, HB⟩ := hrel
    by_cases hlt : i < n
    · have hltz : (i : Int) < (n : Int) := by omega
      have h16 : i < 16 := by have := HN.out; omega
      have hu : IntKind.u8.wrap (97 + (i : Int)) = 97 + (i : Int) := by have := HN.out; rw [IntKind.wrap_u8]; omega
      have hu2 : IntKind.i64.wrap (97 + (i : Int)) = 97 + (i : Int) := by have := HN.out; rw [IntKind.wrap_i64]; omega
      have hcv : ∀ W : World, (convert 23 9 (.slice (some ⟨W.heap.size, 0, none⟩) 1 1)).run Tryz.prog (W.alloc (.cells #[.int .u8 (97 + (i : Int))] 5)) = .ok (.string ⟨#[chM i]⟩) (W.alloc (.cells #[.int .u8 (97 + (i : Int))] 5)) := fun W =>
        conv_one W.heap.size 1 (97 + i) (by have := HN.out; omega) _ (by rw [World.cell?_alloc_new]; show some (Value.int .u8 (97 + (i : Int))) = some (Value.int .u8 ((97 + i : Nat) : Int)); rw [Int.natCast_add]; rfl)
      have hcv0 := hcv wr
      have HB2 : Aside (Below w.heap.size w (wr.alloc (.cells #[.int .u8 (97 + (i : Int))] 5))) := HB.out.alloc HB.out.size _
      clear hcv
      obtain ⟨t, ht⟩ : ∃ t, t = manyT q i := ⟨_, rfl⟩
      have hz : (t.size : Int) ≤ 10000 := by
        rw [ht]
        have := ask_len q i (by have := HN.out; omega)
        show ((97 :: 58 :: askL q i).length : Int) ≤ _
        simp only [List.length_cons]; omega
      rw [← ht]
      by_cases h0 : 0 < i
      · have h0z : (0 : Int) < (i : Int) := by omega
        have HX : Aside (∀ x, x = bs (32 :: segM q i) → (t ++ ⟨#[32, 38]⟩) ++ x = manyT q (i + 1)) := fun x hx => by rw [ht]; exact many_next q i h0 x hx
        clear ht
        cases q
        · go_wp2_with fail
          go_roundg (n - (i + 1))
          case measure => omega
          case rel => exact ⟨i + 1, congrArg Value.string (HX.out _ (seg_h i)), by go_num, by omega, Nat.le_refl _, HB2.out⟩
        · go_wp2_with fail
          go_roundg (n - (i + 1))
          case measure => omega
          case rel => exact ⟨i + 1, congrArg Value.string (HX.out _ (seg_q i)), by go_num, by omega, Nat.le_refl _, HB2.out⟩
      · obtain rfl : i = 0 := by omega
        have HX : Aside (∀ x, x = bs (32 :: segM q 0) → t ++ x = manyT q 1) := fun x hx => by rw [ht]; exact many_first q x hx
        clear ht
        simp only [Int.natCast_zero, Int.add_zero] at hcv0 HB2
        cases q
        · go_wp2_with fail
          go_roundg (n - 1)
          case measure => omega
          case rel => exact ⟨1, congrArg Value.string (HX.out _ (seg_h 0)), by go_num, by omega, Nat.le_refl _, HB2.out⟩
        · go_wp2_with fail
          go_roundg (n - 1)
          case measure => omega
          case rel => exact ⟨1, congrArg Value.string (HX.out _ (seg_q 0)), by go_num, by omega, Nat.le_refl _, HB2.out⟩
    · obtain rfl : i = n := by omega
      have HB1 := Lib.hid HB.out
      clear HB H1
      by_cases h7 : 7 ≤ i
      · have h7z : (6 : Int) < (i : Int) := by omega
        have HF := Lib.hid (many_long q i h7 HN.out wr (HTW.out.on HB1.out) (HWW.out.on HB1.out) (HMW.out.below HB1.out))
        generalize manyT q i = t at *
        go_wp2_with fail
        refine HF.out.mono ?_
        rintro e w2 ⟨rfl, hb2⟩
        have H2 : Aside (Below w.heap.size w w2) := HB1.out.trans (hb2.mono HB1.out.size)
        clear hb2 HF
        go_wp2_with fail
        go_ret
        exact ⟨rfl, H2.out.alloc H2.out.size _⟩
      · have h7z : (i : Int) ≤ 6 := by omega
        have HF := Lib.hid (many_ok q i (by omega) wr (HTW.out.on HB1.out) (HWW.out.on HB1.out) (HMW.out.below HB1.out))
        generalize manyT q i = t at *
        go_wp2_with fail
        refine HF.out.mono ?_
        rintro e w2 ⟨ro, rcap, rfl, HR2⟩
        have H2 : Aside (Below w.heap.size w w2) := HB1.out.trans (HR2.out.2.mono HB1.out.size)
        clear HR2 HF
        go_wp2_with fail
        go_ret
        exact ⟨rfl, H2.out.alloc H2.out.size _⟩
end Go.Proofs.YtljmlfeedleodaaGreatDoor
