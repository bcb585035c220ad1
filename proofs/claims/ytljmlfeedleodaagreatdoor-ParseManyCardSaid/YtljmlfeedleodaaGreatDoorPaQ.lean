/- value.Read at a plain text between quotes. -/
import Derived.Test.YtljmlfeedleodaaGreatDoorGaE
import Derived.Test.YtljmlfeedleodaaGreatDoorPaA
import Derived.Test.YtljmlfeedleodaaGreatDoorValid
import Derived.Lib.Bytealg
import Derived.Lib.ValidLaws
import Derived.Laws.RangeString
import Derived.Deep.QuietTactic
import Derived.BigQuiet
namespace Go.Proofs.YtljmlfeedleodaaGreatDoor
open Go.RowKit
open Go.Proofs
set_option maxRecDepth 100000

/-- A text between quotes. -/
def quoT (t : ByteArray) : ByteArray := ⟨(34 :: (t.data.toList ++ [34])).toArray⟩
theorem quoT_size (t : ByteArray) : (quoT t).size = t.size + 2 := by
  show (34 :: (t.data.toList ++ [34])).toArray.size = t.data.size + 2
  rw [List.size_toArray, List.length_cons, List.length_append, Array.length_toList]; rfl
theorem quoT_all (t : ByteArray) : (quoT t).extract 0 (t.size + 2) = quoT t := by
  have h : t.data.toList.length = t.size := Array.length_toList
  apply ByteArray.ext
  rw [ByteArray.data_extract]
  apply Array.ext'
  rw [Array.toList_extract]
  simp only [quoT, List.extract, List.drop_zero, Nat.sub_zero]
  rw [List.take_of_length_le (by simp)]
theorem quoT_in (t : ByteArray) : (quoT t).extract 1 (t.size + 1) = t := by
  have h : t.data.toList.length = t.size := Array.length_toList
  apply ByteArray.ext
  rw [ByteArray.data_extract]
  apply Array.ext'
  rw [Array.toList_extract]
  simp only [quoT, List.extract]
  rw [show t.size + 1 - 1 = t.data.toList.length by omega]
  simp
theorem quoT_rest (t : ByteArray) : ((quoT t).extract 1 (t.size + 2)).data.toList = t.data.toList ++ [34] := by
  have h : t.data.toList.length = t.size := Array.length_toList
  rw [ByteArray.data_extract, Array.toList_extract]
  simp only [quoT, List.extract]
  rw [List.take_of_length_le (by simp)]
  rfl
theorem quoT_end (t : ByteArray) : (quoT t).extract (t.size + 2) (t.size + 2) = ⟨#[]⟩ := by
  apply ByteArray.ext
  rw [ByteArray.data_extract]
  apply Array.ext'
  rw [Array.toList_extract]
  simp [List.extract]
/-- What is asked of a text that needs no escapes. -/
structure Plain (t : ByteArray) : Prop where
  sz : t.size ≤ 40
  q : Lib.indexByte (t.data.toList ++ [34]) 34 = (t.size : Int)
  slash : Lib.indexByte (quoT t).data.toList 92 = -1
  line : Lib.indexByte (quoT t).data.toList 10 = -1
  valid : Lib.validD t.data.toList = true
  quote : strOfNums (Lib.quoteZ Lib.goPrintTabs t) = quoT t
  ny : (quoT t).toList ≠ [121, 101, 115]
  nn : (quoT t).toList ≠ [110, 111]
theorem at_quoT {t : ByteArray} (h : Plain t) : Lib.indexByte ((quoT t).extract 1 (t.size + 2)).data.toList 34 = (t.size : Int) := by rw [quoT_rest, h.q]
theorem val_cells {w w' : World} (k n : Int) (x : Nat) (s : ByteArray) (y : Bool) (hb : Below (w.heap.size + 1) (w.alloc (.cells (vals k n x s y) 35)) w') :
    (∀ i v, (vals k n x s y)[i]? = some v → w'.cell? ⟨w.heap.size, i, none⟩ = some v ∧ w'.frozen? ⟨w.heap.size, i, none⟩ = false) := by
  intro i v h
  rw [hb.cell (p := ⟨w.heap.size, i, none⟩) (by simp), hb.frozen (p := ⟨w.heap.size, i, none⟩) (by simp)]
  exact ⟨by rw [World.cell?_alloc_new]; exact h, World.frozen?_alloc_new _ _ _ _⟩
theorem step_of {w w' : World} {vs : Array Value} {t : TypeId} (hb : Below (w.heap.size + 1) (w.alloc (.cells vs t)) w') : Below w.heap.size w w' ∧ w.heap.size < w'.heap.size :=
  ⟨((Below.refl _ _).alloc (Nat.le_refl _) _).trans (hb.mono (by omega)), by have := hb.size; simp at this; omega⟩
@[go_sem] theorem ta_string_int (v : Value) (w : World) : (Instr.typeAssert (.iface 9 v) 20 3 true).run Tryz.prog w = .ok (.tuple #[.int .i64 0, .bool false]) w := by kernel_rfl
@[go_sem] theorem ta_string_int64 (v : Value) (w : World) : (Instr.typeAssert (.iface 9 v) 20 2 true).run Tryz.prog w = .ok (.tuple #[.int .i64 0, .bool false]) w := by kernel_rfl
@[go_sem] theorem ta_string_float64 (v : Value) (w : World) : (Instr.typeAssert (.iface 9 v) 20 33 true).run Tryz.prog w = .ok (.tuple #[.float .f64 0, .bool false]) w := by kernel_rfl
@[go_sem] theorem ta_string (s : ByteArray) (w : World) : (Instr.typeAssert (.iface 9 (.string s)) 20 9 true).run Tryz.prog w = .ok (.tuple #[.string s, .bool true]) w := by kernel_rfl
@[go_sem] theorem ta_string_bool (v : Value) (w : World) : (Instr.typeAssert (.iface 9 v) 20 4 true).run Tryz.prog w = .ok (.tuple #[.bool false, .bool false]) w := by kernel_rfl
set_option maxHeartbeats 1000000 in
theorem of_string (s : ByteArray) (w : World) : Calls Tryz.prog 60 #[.iface 9 (.string s)] w fun e w' => e = .returned (.tuple #[val 2 0 0 s false, .bool true]) ∧ Below w.heap.size w w' := by
  go_enter Tryz.func60, Tryz.ntmps60
  go_wp2
  refine bodyPost_ret (v := .tuple #[val 2 0 0 s false, .bool true]) (by simp [results, Tryz.results60, go_sem]) rfl ⟨rfl, ?_⟩
  exact (((Below.refl _ _).alloc (Nat.le_refl _) _))
theorem valid_c (s : ByteArray) (w : World) (hs : s.size ≤ 9223372036854775807) (hT : Tabs w) :
    Calls Tryz.prog 86 #[.string s] w fun e w' => e = .returned (.bool (Lib.validD s.data.toList)) ∧ Below w.heap.size w w' := Any.utf8_ValidString Tryz.lays196 s w hs hT.u8
@[go_sem] theorem call_index (s : ByteArray) (c : Int) (w : World) : (callFunc 55 #[.string s, .int .u8 c]).run Tryz.prog w = .ok (.value (.int .i64 (Lib.indexByte s.data.toList c.toNat.toUInt8))) w := by
  rw [run_callFunc_extern (fn := Tryz.f55) (e := Extern.BytealgIndexByte.indexByte) Tryz.func55 (by kernel_rfl) (by kernel_rfl) (by kernel_rfl) (by kernel_rfl)]
  rw [Lib.run_indexByteString]
  rfl
set_option maxHeartbeats 400000 in
theorem index_c (s : ByteArray) (c : Int) (w : World) : Calls Tryz.prog 84 #[.string s, .int .u8 c] w fun e w' => e = .returned (.int .i64 (Lib.indexByte s.data.toList c.toNat.toUInt8)) ∧ w = w' := by
  go_enter Tryz.func84, Tryz.ntmps84
  go_wp2
  go_ret
  exact ⟨rfl, rfl⟩
set_option maxHeartbeats 400000 in
theorem contains_c (s : ByteArray) (c : Int) (w : World) : Calls Tryz.prog 85 #[.string s, .int .u8 c] w fun e w' => e = .returned (.bool (Lib.indexByte s.data.toList c.toNat.toUInt8 != -1)) ∧ w = w' := by
  go_enter Tryz.func85, Tryz.ntmps85
  go_wp2_with (go_at_call 84; refine (index_c _ _ _).mono ?_; rintro e w' ⟨rfl, rfl⟩)
  go_ret
  exact ⟨rfl, rfl⟩

set_option maxHeartbeats 1000000 in
theorem printT2_c (n : Int) (x : Nat) (t : ByteArray) (y : Bool) (w : World) (hT : Tabs w) (hm : Plain t) :
    Calls Tryz.prog 49 #[val 2 n x t y] w fun e w' => e = .returned (.string (quoT t)) ∧ Below w.heap.size w w' := by
  have hT1 : Tabs (w.alloc (.cells (vals 2 n x t y) 35)) := hT.on ((Below.refl _ _).alloc (Nat.le_refl _) _)
  have HT := Lib.hid hT1; have HM := Lib.hid hm; clear hT hT1 hm
  go_enter Tryz.func49, Tryz.ntmps49
  go_wp2_with fail
  refine (Tryz.strconv_Quote Lib.goPrintTabs t _ (by have := HM.out.sz; omega) HT.out.pr HT.out.u8).mono ?_
  rw [HM.out.quote]
  rintro e w1 ⟨rfl, hb⟩
  have HB := Lib.hid hb; clear hb
  go_wp2
  go_ret
  exact ⟨rfl, ((Below.refl _ _).alloc (Nat.le_refl _) _).trans (HB.out.mono (by simp))⟩

set_option maxHeartbeats 1000000 in
theorem unquoteT_c (t : ByteArray) (hm : Plain t) (w : World) (hT : Tabs w) :
    Calls Tryz.prog 61 #[.string (quoT t)] w fun e w' => e = .returned (.tuple #[.string t, .nilIface]) ∧ Below w.heap.size w w' := by
  have HT := Lib.hid hT; clear hT
  have h40 := hm.sz
  have hq : (quoT t).size = t.size + 2 := quoT_size t
  have q0 : ∀ h, (((quoT t)[0]'h).toNat : Int) = 34 := fun h => by simp [quoT, ByteArray.getElem_eq_getElem_data]
  have xa := quoT_all t
  have xi := quoT_in t
  have xe := quoT_end t
  have t1 : ((t.size : Int) + 2).toNat = t.size + 2 := by omega
  have t2 : ((t.size : Int) + 1).toNat = t.size + 1 := by omega
  have h1 : Calls Tryz.prog 73 #[.string (quoT t), .bool true] w fun e w' => e = .returned (.tuple #[.string t, .string ⟨#[]⟩, .nilIface]) ∧ Below w.heap.size w w' := by
    go_enter Tryz.func73, Tryz.ntmps73
    go_wp2_with fail
    refine (index_c _ _ _).mono ?_
    rw [show (34 : Int).toNat.toUInt8 = 34 from rfl, at_quoT hm]
    rintro e w' ⟨rfl, rfl⟩
    go_wp2_with fail
    refine (contains_c _ _ _).mono ?_
    rw [show (92 : Int).toNat.toUInt8 = 92 from rfl, hm.slash]
    rintro e w' ⟨rfl, rfl⟩
    go_wp2_with fail
    refine (contains_c _ _ _).mono ?_
    rw [show (10 : Int).toNat.toUInt8 = 10 from rfl, hm.line]
    rintro e w' ⟨rfl, rfl⟩
    go_wp2_with fail
    refine (valid_c _ _ (by have := hm.sz; omega) HT.out).mono ?_
    rw [hm.valid]
    rintro e w1 ⟨rfl, hb⟩
    have HB := Lib.hid hb; clear hb
    go_wp2_with fail
    go_quiet (fail)
    go_wp2
    go_ret3
    exact ⟨rfl, HB.out.trans ((below_drewN _ _).mono HB.out.size)⟩
  have H1 := Lib.hid h1; clear h1 q0 xa xi xe t1 t2
  go_enter Tryz.func61, Tryz.ntmps61
  go_wp2_with fail
  refine H1.out.mono ?_; rintro e w' ⟨rfl, hb⟩
  have HB := Lib.hid hb; clear hb
  go_wp2
  go_ret2
  exact ⟨rfl, HB.out⟩

set_option maxHeartbeats 1000000 in
theorem guessT_c (t : ByteArray) (hm : Plain t) (w : World) (hT : Tabs w) :
    Calls Tryz.prog 48 #[.string (quoT t)] w fun e w' => e = .returned (.tuple #[val 2 0 0 t false, .bool true]) ∧ Below w.heap.size w w' := by
  have B0 : Below w.heap.size w (w.alloc (.cells (vals 0 0 0 ⟨#[]⟩ false) 35)) := (Below.refl _ _).alloc (Nat.le_refl _) _
  have HT := Lib.hid (hT.on B0); have HB0 := Lib.hid B0; have HM := Lib.hid hm; clear hT B0 hm
  have ny' := HM.out.ny
  have nn' := HM.out.nn
  have ny : ((quoT t).toList == [121, 101, 115]) = false := by rw [beq_eq_false_iff_ne]; exact ny'
  have nn : ((quoT t).toList == [110, 111]) = false := by rw [beq_eq_false_iff_ne]; exact nn'
  go_enter Tryz.func48, Tryz.ntmps48
  go_wp2_with fail
  refine (unquoteT_c t HM.out _ HT.out).mono ?_
  rintro e w1 ⟨rfl, hb1⟩
  have hb1' : Below (w.heap.size + 1) (w.alloc (.cells (vals 0 0 0 ⟨#[]⟩ false) 35)) w1 := by simpa using hb1
  have HB1 := Lib.hid hb1'; have HT1 := Lib.hid (HT.out.on hb1); clear hb1 hb1'
  go_wp2_with fail
  refine (of_string _ _).mono ?_
  rintro e w3 ⟨rfl, hb3⟩
  have hb4 : Below (w.heap.size + 1) (w.alloc (.cells (vals 0 0 0 ⟨#[]⟩ false) 35)) w3 := HB1.out.trans (hb3.mono (by have := HB1.out.size; simpa using this))
  have hc := val_cells 0 0 0 ⟨#[]⟩ false hb4
  obtain ⟨c0, f0⟩ := hc 0 _ rfl
  obtain ⟨c1, f1⟩ := hc 1 _ rfl
  obtain ⟨c2, f2⟩ := hc 2 _ rfl
  obtain ⟨c3, f3⟩ := hc 3 _ rfl
  obtain ⟨c4, f4⟩ := hc 4 _ rfl
  have HB4 := Lib.hid hb4; clear hb4 hb3 hc
  go_wp2
  refine bodyPost_ret (v := .tuple #[val 2 0 0 t false, .bool true]) (by simp [results, Tryz.results48, go_sem, c0, c1, c2, c3, c4]) rfl ⟨rfl, ?_⟩
  have hB : Below w.heap.size w w3 := HB0.out.trans (HB4.out.mono (by omega))
  repeat (first | exact hB | refine Below.setCell (B := w.heap.size) ?_ (p := ⟨w.heap.size, _, none⟩) (Nat.le_refl _) _)

set_option maxHeartbeats 1000000 in
theorem readT_c (t : ByteArray) (hm : Plain t) (w : World) (hT : Tabs w) :
    Calls Tryz.prog 33 #[.string (quoT t)] w fun e w' => e = .returned (.tuple #[val 2 0 0 t false, .bool true]) ∧ Below w.heap.size w w' := by
  have B0 : Below w.heap.size w (w.alloc (.cells (vals 0 0 0 ⟨#[]⟩ false) 35)) := (Below.refl _ _).alloc (Nat.le_refl _) _
  have HT := Lib.hid (hT.on B0); have HB0 := Lib.hid B0; have HM := Lib.hid hm; clear hT B0 hm
  have es : ((quoT t).toList == (quoT t).toList) = true := by simp
  go_enter Tryz.func33, Tryz.ntmps33
  go_wp2_with fail
  refine (guessT_c t HM.out _ HT.out).mono ?_
  rintro e w1 ⟨rfl, hb1⟩
  have HT1 := Lib.hid (HT.out.on hb1)
  have HB1 := Lib.hid (show Below (w.heap.size + 1) (w.alloc (.cells (vals 0 0 0 ⟨#[]⟩ false) 35)) w1 from by simpa using hb1); clear hb1
  go_wp2_with fail
  have B1 : Below w1.heap.size w1 (w1.alloc (.cells (vals 2 0 0 t false) 35)) := (Below.refl _ _).alloc (Nat.le_refl _) _
  refine (vright_c 2 0 0 t false _).mono ?_
  rw [show vrightB 2 t = true by unfold vrightB; have := HM.out.sz; simp; omega]
  rintro e w2 ⟨rfl, hb2⟩
  have hb2' : Below (w1.heap.size + 1) (w1.alloc (.cells (vals 2 0 0 t false) 35)) w2 := by simpa using hb2
  have z1 : w.heap.size + 1 ≤ w1.heap.size := by have := HB1.out.size; simpa using this
  have z2 : w1.heap.size + 1 ≤ w2.heap.size := by have := hb2'.size; simpa using this
  have hT2 := (HT1.out.on B1).on hb2
  have hv2 := val_cells 2 0 0 t false hb2'
  obtain ⟨c0, f0⟩ := hv2 0 _ rfl
  obtain ⟨c1, f1⟩ := hv2 1 _ rfl
  obtain ⟨c2, f2⟩ := hv2 2 _ rfl
  obtain ⟨c3, f3⟩ := hv2 3 _ rfl
  obtain ⟨c4, f4⟩ := hv2 4 _ rfl
  have HT2 := Lib.hid hT2; have HB2 := Lib.hid hb2'; clear hT2 hb2 hb2' hv2 B1
  go_wp2_with fail
  clear c0 c1 c2 c3 c4 f0 f1 f2 f3 f4
  refine (printT2_c 0 0 t false _ HT2.out HM.out).mono ?_
  rintro e w3 ⟨rfl, hb3⟩
  have hA : Below (w1.heap.size + 1) (w1.alloc (.cells (vals 2 0 0 t false) 35)) w3 := HB2.out.trans (hb3.mono z2)
  have hR : Below (w.heap.size + 1) (w.alloc (.cells (vals 0 0 0 ⟨#[]⟩ false) 35)) w3 := HB1.out.trans (((step_of hA).1).mono z1)
  have hv3 := val_cells 2 0 0 t false hA
  obtain ⟨c0, f0⟩ := hv3 0 _ rfl
  obtain ⟨c1, f1⟩ := hv3 1 _ rfl
  obtain ⟨c2, f2⟩ := hv3 2 _ rfl
  obtain ⟨c3, f3⟩ := hv3 3 _ rfl
  obtain ⟨c4, f4⟩ := hv3 4 _ rfl
  have hr3 := val_cells 0 0 0 ⟨#[]⟩ false hR
  obtain ⟨d0, g0⟩ := hr3 0 _ rfl
  obtain ⟨d1, g1⟩ := hr3 1 _ rfl
  obtain ⟨d2, g2⟩ := hr3 2 _ rfl
  obtain ⟨d3, g3⟩ := hr3 3 _ rfl
  obtain ⟨d4, g4⟩ := hr3 4 _ rfl
  have HR := Lib.hid hR; clear hR hr3 hv3 hA hb3
  go_wp2
  refine bodyPost_ret (v := .tuple #[val 2 0 0 t false, .bool true]) (by simp [results, Tryz.results33, go_sem, d0, d1, d2, d3, d4]) rfl ⟨rfl, ?_⟩
  have hB : Below w.heap.size w w3 := HB0.out.trans (HR.out.mono (by omega))
  repeat (first | exact hB | refine Below.setCell (B := w.heap.size) ?_ (p := ⟨w.heap.size, _, none⟩) (Nat.le_refl _) _)
end Go.Proofs.YtljmlfeedleodaaGreatDoor
