/- strconv's index, contains and Unquote at a text of letters x between quotes; what value.Print says of such a text. -/
import Derived.Test.YthkkdikfbagijaaGreatDoorXs
import Derived.Test.YthkkdikfbagijaaGreatDoorFitTwo
import Derived.Test.YthkkdikfbagijaaGreatDoorCanonV
import Derived.Test.YthkkdikfbagijaaGreatDoorValid
import Derived.Lib.Bytealg
namespace Go.Proofs.YthkkdikfbagijaaGreatDoor
open Go.RowKit
set_option maxRecDepth 100000

theorem valid_c (s : ByteArray) (w : World) (hs : s.size ≤ 9223372036854775807) (hT : Tabs w) :
    Calls Tryz.prog 39 #[.string s] w fun e w' => e = .returned (.bool (Lib.validD s.data.toList)) ∧ Below w.heap.size w w' := Any.utf8_ValidString Tryz.lays196 s w hs hT.u8
@[go_sem] theorem call_index (s : ByteArray) (c : Int) (w : World) : (callFunc 61 #[.string s, .int .u8 c]).run Tryz.prog w = .ok (.value (.int .i64 (Lib.indexByte s.data.toList c.toNat.toUInt8))) w := by
  rw [run_callFunc_extern (fn := Tryz.f61) (e := Extern.BytealgIndexByte.indexByte) Tryz.func61 (by kernel_rfl) (by kernel_rfl) (by kernel_rfl) (by kernel_rfl)]
  rw [Lib.run_indexByteString]
  rfl
set_option maxHeartbeats 400000 in
theorem index_c (s : ByteArray) (c : Int) (w : World) : Calls Tryz.prog 37 #[.string s, .int .u8 c] w fun e w' => e = .returned (.int .i64 (Lib.indexByte s.data.toList c.toNat.toUInt8)) ∧ w = w' := by
  go_enter Tryz.func37, Tryz.ntmps37
  go_wp2
  go_ret
  exact ⟨rfl, rfl⟩
set_option maxHeartbeats 400000 in
theorem contains_c (s : ByteArray) (c : Int) (w : World) : Calls Tryz.prog 38 #[.string s, .int .u8 c] w fun e w' => e = .returned (.bool (Lib.indexByte s.data.toList c.toNat.toUInt8 != -1)) ∧ w = w' := by
  go_enter Tryz.func38, Tryz.ntmps38
  go_wp2_with (go_at_call 37; refine (index_c _ _ _).mono ?_; rintro e w' ⟨rfl, rfl⟩)
  go_ret
  exact ⟨rfl, rfl⟩

set_option maxHeartbeats 1000000 in
theorem printX_c (n : Int) (x m : Nat) (y : Bool) (w : World) (hT : Tabs w) (hm : m < 128) :
    Calls Tryz.prog 6 #[val 2 n x (xs m) y] w fun e w' => e = .returned (.string (quo m)) ∧ Below w.heap.size w w' := by
  have hT1 : Tabs (w.alloc (.cells (vals 2 n x (xs m) y) 24)) := hT.on ((Below.refl _ _).alloc (Nat.le_refl _) _)
  have HT := Lib.hid hT1; have HM := Lib.hid hm; clear hT hT1 hm
  go_enter Tryz.func6, Tryz.ntmps6
  go_wp2_with fail
  refine (Tryz.strconv_Quote Lib.goPrintTabs (xs m) _ (by rw [xs_size]; have := HM.out; omega) HT.out.pr HT.out.u8).mono ?_
  rw [quoteX]
  rintro e w1 ⟨rfl, hb⟩
  have HB := Lib.hid hb; clear hb
  go_wp2
  go_ret
  exact ⟨rfl, ((Below.refl _ _).alloc (Nat.le_refl _) _).trans (HB.out.mono (by simp))⟩

set_option maxHeartbeats 1000000 in
theorem unquoteX_c (m : Nat) (hm : m < 128) (w : World) (hT : Tabs w) :
    Calls Tryz.prog 15 #[.string (quo m)] w fun e w' => e = .returned (.tuple #[.string (xs m), .nilIface]) ∧ Below w.heap.size w w' := by
  have HT := Lib.hid hT; clear hT
  have hq : (quo m).size = m + 2 := quo_size m
  have q0 : ∀ h, (((quo m)[0]'h).toNat : Int) = 34 := fun h => by simp [quo, ByteArray.getElem_eq_getElem_data]
  have xa := quo_all m
  have xi := quo_in m
  have xe := quo_end m
  have t1 : ((m : Int) + 2).toNat = m + 2 := by omega
  have t2 : ((m : Int) + 1).toNat = m + 1 := by omega
  have h1 : Calls Tryz.prog 24 #[.string (quo m), .bool true] w fun e w' => e = .returned (.tuple #[.string (xs m), .string ⟨#[]⟩, .nilIface]) ∧ Below w.heap.size w w' := by
    go_enter Tryz.func24, Tryz.ntmps24
    go_wp2_with fail
    refine (index_c _ _ _).mono ?_
    rw [show (34 : Int).toNat.toUInt8 = 34 from rfl, at_quote]
    rintro e w' ⟨rfl, rfl⟩
    go_wp2_with fail
    refine (contains_c _ _ _).mono ?_
    rw [show (92 : Int).toNat.toUInt8 = 92 from rfl, no_slash]
    rintro e w' ⟨rfl, rfl⟩
    go_wp2_with fail
    refine (contains_c _ _ _).mono ?_
    rw [show (10 : Int).toNat.toUInt8 = 10 from rfl, no_line]
    rintro e w' ⟨rfl, rfl⟩
    go_wp2_with fail
    refine (valid_c _ _ (by rw [xs_size]; omega) HT.out).mono ?_
    rw [valid_xs]
    rintro e w1 ⟨rfl, hb⟩
    have HB := Lib.hid hb; clear hb
    go_wp2_with fail
    go_quiet (fail)
    go_wp2
    go_ret3
    exact ⟨rfl, HB.out.trans (drewN_below _ _ _)⟩
  have H1 := Lib.hid h1; clear h1 q0 xa xi xe t1 t2
  go_enter Tryz.func15, Tryz.ntmps15
  go_wp2_with fail
  refine H1.out.mono ?_; rintro e w' ⟨rfl, hb⟩
  have HB := Lib.hid hb; clear hb
  go_wp2
  go_ret2
  exact ⟨rfl, HB.out⟩

set_option maxHeartbeats 1000000 in
theorem guessX_c (m : Nat) (hm : m < 128) (w : World) (hT : Tabs w) :
    Calls Tryz.prog 10 #[.string (quo m)] w fun e w' => e = .returned (.tuple #[val 2 0 0 (xs m) false, .bool true]) ∧ Below w.heap.size w w' := by
  have B0 : Below w.heap.size w (w.alloc (.cells (vals 0 0 0 ⟨#[]⟩ false) 24)) := (Below.refl _ _).alloc (Nat.le_refl _) _
  have HT := Lib.hid (hT.on B0); have HB0 := Lib.hid B0; have HM := Lib.hid hm; clear hT B0 hm
  have ny' : ¬ (quo m).toList = [121, 101, 115] := by rw [ByteArray.toList_eq]; simp [quo]
  have nn' : ¬ (quo m).toList = [110, 111] := by rw [ByteArray.toList_eq]; simp [quo]
  have ny : ((quo m).toList == [121, 101, 115]) = false := by rw [beq_eq_false_iff_ne]; exact ny'
  have nn : ((quo m).toList == [110, 111]) = false := by rw [beq_eq_false_iff_ne]; exact nn'
  go_enter Tryz.func10, Tryz.ntmps10
  go_wp2_with fail
  refine (unquoteX_c m HM.out _ HT.out).mono ?_
  rintro e w1 ⟨rfl, hb1⟩
  have hb1' : Below (w.heap.size + 1) (w.alloc (.cells (vals 0 0 0 ⟨#[]⟩ false) 24)) w1 := by simpa using hb1
  have HB1 := Lib.hid hb1'; have HT1 := Lib.hid (HT.out.on hb1); clear hb1 hb1'
  go_wp2_with fail
  refine (of_string _ _).mono ?_
  rintro e w3 ⟨rfl, hb3⟩
  have hb4 : Below (w.heap.size + 1) (w.alloc (.cells (vals 0 0 0 ⟨#[]⟩ false) 24)) w3 := HB1.out.trans (hb3.mono (by have := HB1.out.size; simpa using this))
  have hc := val_cells 0 0 0 ⟨#[]⟩ false hb4
  obtain ⟨c0, f0⟩ := hc 0 _ rfl
  obtain ⟨c1, f1⟩ := hc 1 _ rfl
  obtain ⟨c2, f2⟩ := hc 2 _ rfl
  obtain ⟨c3, f3⟩ := hc 3 _ rfl
  obtain ⟨c4, f4⟩ := hc 4 _ rfl
  have HB4 := Lib.hid hb4; clear hb4 hb3 hc
  go_wp2
  refine bodyPost_ret (v := .tuple #[val 2 0 0 (xs m) false, .bool true]) (by simp [results, Tryz.results10, go_sem, c0, c1, c2, c3, c4]) rfl ⟨rfl, ?_⟩
  have hB : Below w.heap.size w w3 := HB0.out.trans (HB4.out.mono (by omega))
  repeat (first | exact hB | refine Below.setCell (B := w.heap.size) ?_ (p := ⟨w.heap.size, _, none⟩) (Nat.le_refl _) _)

set_option maxHeartbeats 1000000 in
theorem readX_no (m : Nat) (hm : m < 128) (w : World) (hT : Tabs w) (h40 : rightB 2 (xs m) = false) :
    Calls Tryz.prog 5 #[.string (quo m)] w fun e w' => e = .returned (.tuple #[val 0 0 0 ⟨#[]⟩ false, .bool false]) ∧ Below w.heap.size w w' := by
  have B0 : Below w.heap.size w (w.alloc (.cells (vals 0 0 0 ⟨#[]⟩ false) 24)) := (Below.refl _ _).alloc (Nat.le_refl _) _
  have HT := Lib.hid (hT.on B0); have HB0 := Lib.hid B0; have HM := Lib.hid hm; have H40 := Lib.hid h40; clear hT B0 hm h40
  go_enter Tryz.func5, Tryz.ntmps5
  go_wp2_with fail
  refine (guessX_c m HM.out _ HT.out).mono ?_
  rintro e w1 ⟨rfl, hb1⟩
  have HB1 := Lib.hid (show Below (w.heap.size + 1) (w.alloc (.cells (vals 0 0 0 ⟨#[]⟩ false) 24)) w1 from by simpa using hb1); clear hb1
  go_wp2_with fail
  refine (right_c 2 0 0 (xs m) false _).mono ?_
  rw [H40.out]
  rintro e w2 ⟨rfl, hb2⟩
  have hb2' : Below (w1.heap.size + 1) (w1.alloc (.cells (vals 2 0 0 (xs m) false) 24)) w2 := by simpa using hb2
  have z1 : w.heap.size + 1 ≤ w1.heap.size := by have := HB1.out.size; simpa using this
  have hR : Below (w.heap.size + 1) (w.alloc (.cells (vals 0 0 0 ⟨#[]⟩ false) 24)) w2 := HB1.out.trans (((step_of hb2').1).mono z1)
  have hr3 := val_cells 0 0 0 ⟨#[]⟩ false hR
  obtain ⟨d0, g0⟩ := hr3 0 _ rfl
  obtain ⟨d1, g1⟩ := hr3 1 _ rfl
  obtain ⟨d2, g2⟩ := hr3 2 _ rfl
  obtain ⟨d3, g3⟩ := hr3 3 _ rfl
  obtain ⟨d4, g4⟩ := hr3 4 _ rfl
  have HR := Lib.hid hR; clear hR hr3 hb2 hb2'
  go_wp2
  refine bodyPost_ret (v := .tuple #[val 0 0 0 ⟨#[]⟩ false, .bool false]) (by simp [results, Tryz.results5, go_sem, d0, d1, d2, d3, d4]) rfl ⟨rfl, ?_⟩
  have hB : Below w.heap.size w w2 := HB0.out.trans (HR.out.mono (by omega))
  repeat (first | exact hB | refine Below.setCell (B := w.heap.size) ?_ (p := ⟨w.heap.size, _, none⟩) (Nat.le_refl _) _)

set_option maxHeartbeats 1000000 in
theorem readX_yes (m : Nat) (hm : m < 128) (w : World) (hT : Tabs w) (h40 : rightB 2 (xs m) = true) :
    Calls Tryz.prog 5 #[.string (quo m)] w fun e w' => e = .returned (.tuple #[val 2 0 0 (xs m) false, .bool true]) ∧ Below w.heap.size w w' := by
  have B0 : Below w.heap.size w (w.alloc (.cells (vals 0 0 0 ⟨#[]⟩ false) 24)) := (Below.refl _ _).alloc (Nat.le_refl _) _
  have HT := Lib.hid (hT.on B0); have HB0 := Lib.hid B0; have HM := Lib.hid hm; have H40 := Lib.hid h40; clear hT B0 hm h40
  have es : ((quo m).toList == (quo m).toList) = true := by simp
  go_enter Tryz.func5, Tryz.ntmps5
  go_wp2_with fail
  refine (guessX_c m HM.out _ HT.out).mono ?_
  rintro e w1 ⟨rfl, hb1⟩
  have HT1 := Lib.hid (HT.out.on hb1)
  have HB1 := Lib.hid (show Below (w.heap.size + 1) (w.alloc (.cells (vals 0 0 0 ⟨#[]⟩ false) 24)) w1 from by simpa using hb1); clear hb1
  go_wp2_with fail
  have B1 : Below w1.heap.size w1 (w1.alloc (.cells (vals 2 0 0 (xs m) false) 24)) := (Below.refl _ _).alloc (Nat.le_refl _) _
  refine (right_c 2 0 0 (xs m) false _).mono ?_
  rw [H40.out]
  rintro e w2 ⟨rfl, hb2⟩
  have hb2' : Below (w1.heap.size + 1) (w1.alloc (.cells (vals 2 0 0 (xs m) false) 24)) w2 := by simpa using hb2
  have z1 : w.heap.size + 1 ≤ w1.heap.size := by have := HB1.out.size; simpa using this
  have z2 : w1.heap.size + 1 ≤ w2.heap.size := by have := hb2'.size; simpa using this
  have hT2 := (HT1.out.on B1).on hb2
  have hv2 := val_cells 2 0 0 (xs m) false hb2'
  obtain ⟨c0, f0⟩ := hv2 0 _ rfl
  obtain ⟨c1, f1⟩ := hv2 1 _ rfl
  obtain ⟨c2, f2⟩ := hv2 2 _ rfl
  obtain ⟨c3, f3⟩ := hv2 3 _ rfl
  obtain ⟨c4, f4⟩ := hv2 4 _ rfl
  have HT2 := Lib.hid hT2; have HB2 := Lib.hid hb2'; clear hT2 hb2 hb2' hv2 B1
  go_wp2_with fail
  clear c0 c1 c2 c3 c4 f0 f1 f2 f3 f4
  refine (printX_c 0 0 m false _ HT2.out HM.out).mono ?_
  rintro e w3 ⟨rfl, hb3⟩
  have hA : Below (w1.heap.size + 1) (w1.alloc (.cells (vals 2 0 0 (xs m) false) 24)) w3 := HB2.out.trans (hb3.mono z2)
  have hR : Below (w.heap.size + 1) (w.alloc (.cells (vals 0 0 0 ⟨#[]⟩ false) 24)) w3 := HB1.out.trans (((step_of hA).1).mono z1)
  have hv3 := val_cells 2 0 0 (xs m) false hA
  obtain ⟨c0, f0⟩ := hv3 0 _ rfl
  obtain ⟨c1, f1⟩ := hv3 1 _ rfl
  obtain ⟨c2, f2⟩ := hv3 2 _ rfl
  obtain ⟨c3, f3⟩ := hv3 3 _ rfl
  obtain ⟨c4, f4⟩ := hv3 4 _ rfl
  have hr3 := val_cells 0 0 0 ⟨#[]⟩ false hR
  obtain ⟨d0, g0⟩ := hr3 0 _ rfl
  obtain ⟨d1, g1⟩ := hr3 1 _ rfl
  obtain ⟨d2, g2⟩ := hr3 2 _ rfl
  obtain ⟨d3, g3⟩ := hr3 3 _ rfl
  obtain ⟨d4, g4⟩ := hr3 4 _ rfl
  have HR := Lib.hid hR; clear hR hr3 hv3 hA hb3
  go_wp2
  refine bodyPost_ret (v := .tuple #[val 2 0 0 (xs m) false, .bool true]) (by simp [results, Tryz.results5, go_sem, d0, d1, d2, d3, d4]) rfl ⟨rfl, ?_⟩
  have hB : Below w.heap.size w w3 := HB0.out.trans (HR.out.mono (by omega))
  repeat (first | exact hB | refine Below.setCell (B := w.heap.size) ?_ (p := ⟨w.heap.size, _, none⟩) (Nat.le_refl _) _)
end Go.Proofs.YthkkdikfbagijaaGreatDoor
