/- strconv.FormatFloat at 3.0. -/
import Derived.Test.YthkkdikfbagijaaGreatDoorEfgThree
import Derived.Deep.RegionWith
namespace Go.Proofs.YthkkdikfbagijaaGreatDoor
open Go.RowKit
set_option maxRecDepth 100000

@[go_sem] theorem call_bits89 (x : Nat) (w : World) : (callFunc 77 #[.float .f64 x]).run Tryz.prog w = .ok (.value (.int .u64 x)) w := by
  have h : (callFunc 77 #[.float .f64 x]).run Tryz.prog w = .ok (.value (.int .u64 x)) w := by kernel_rfl
  exact h
theorem three_d : shortD 13835058055282163712 (-62) = 3000000000000000 := by decide +kernel
theorem three_p : shortP 13835058055282163712 (-62) = -15 := by decide +kernel
theorem three_n : nDig 3000000000000000 = 16 := by decide +kernel
theorem three_z : nzd 3000000000000000 = 1 := by decide +kernel
theorem three_dg : Lib.dg 3000000000000000 15 = 51 := by decide +kernel

theorem ownBuf_on {B : Nat} {e : TypeId} {v : Value} {n : Nat} {xs : List Value} {W0 w w' : World} (h : Lib.OwnBuf B e v n xs W0 w) (hb : Below w.heap.size w w') : Lib.OwnBuf B e v n xs W0 w' := by
  obtain ⟨⟨hl, ho⟩, h2, h3⟩ := h
  refine ⟨⟨hl, ?_⟩, h2.trans (hb.mono h3), Nat.le_trans h3 hb.size⟩
  rcases ho with ho | ⟨g, cap, cur, fz, hv, hg, hh, r⟩
  · exact .inl ho
  · refine .inr ⟨g, cap, cur, fz, hv, hg, ?_, r⟩
    have hlt : g < w.heap.size := by
      rcases Nat.lt_or_ge g w.heap.size with h | h
      · exact h
      · rw [Array.getElem?_eq_none h] at hh; cases hh
    rw [hb.block g hlt]; exact hh

set_option maxHeartbeats 2000000 in
theorem ftoaThree_c (B : Nat) (v : Value) (W0 w : World) (hT : Tabs w) (hg : 20 < w.heap.size) (hb : Lib.OwnBuf B 5 v 0 [] W0 w) :
    Calls Tryz.prog 55 #[v, .float .f64 4613937818241073152, .int .u8 103, .int .i64 (-1)] w fun e w' =>
      ∃ v', e = .returned v' ∧ Lib.OwnBuf B 5 v' 1 [.int .u8 51] W0 w' := by
  have e1 : bits BinOp.and IntKind.i64 1024 2047 = 1024 := by decide +kernel
  have e2 : bits BinOp.and IntKind.u64 4613937818241073152 4503599627370495 = 2251799813685248 := by decide +kernel
  have e3 : bits BinOp.or IntKind.u64 2251799813685248 4503599627370496 = 6755399441055744 := by decide +kernel
  have hw : ∀ n : Nat, Tabs ((w.drewN n).alloc (.cells (Array.replicate 32 (.int .u8 0)) 119)) := fun n => (hT.drew n).on ((Below.refl _ _).alloc (Nat.le_refl _) _)
  go_enter Tryz.func55, Tryz.ntmps55
  go_wp2_with fail
  go_quiet (fail)
  go_wp2_with fail
  refine (Tryz.bits_Len64 6755399441055744 _ (by decide) (by decide)).mono ?_; rintro e w' ⟨rfl, rfl⟩
  rw [show Lib.bitLen (6755399441055744 : Int).toNat = 53 from by decide +kernel]
  go_wp2_with fail
  refine (shortFloat_c 13835058055282163712 (-62) _ (hw nq) (by decide) (by decide) (by decide) (by simp; omega)).mono ?_
  rw [three_d, three_p]
  rintro e w1 ⟨rfl, hb1⟩
  go_wp2_with fail
  have hz : Sort.Holds u8e w1.drew w.heap.size 0 (Array.replicate (nDig 3000000000000000) 0) := by
    intro j hj
    have hj' : j < 16 := by simpa [three_n] using hj
    have e1 : w1.cell? ⟨w.heap.size, 0 + j, none⟩ = some (.int .u8 0) := by
      rw [hb1.cell (p := ⟨w.heap.size, 0 + j, none⟩) (by simp), show w.heap.size = (w.drewN nq).heap.size from rfl, World.cell?_alloc_new]
      rw [Array.getElem?_eq_getElem (by rw [Array.size_replicate]; omega), Array.getElem_replicate]
    have e2 : w1.frozen? ⟨w.heap.size, 0 + j, none⟩ = false := by
      rw [hb1.frozen (p := ⟨w.heap.size, 0 + j, none⟩) (by simp), show w.heap.size = (w.drewN nq).heap.size from rfl]
      exact World.frozen?_alloc_new _ _ _ _
    refine ⟨?_, e2⟩
    rw [getElem!_pos _ j hj, Array.getElem_replicate]
    exact e1
  have hT1 : Tabs w1.drew := ((hw nq).on hb1).drew 1
  have cS := setDigits_c w.heap.size 3000000000000000 (-15) (by decide) (by decide) (by decide) _ hz
  have cN := numDigits_c 3000000000000000 (by decide) _ hT1
  simp only [three_n, three_z] at cS cN
  have hB : Below w.heap.size w w1 := ((drewN_below _ w nq).trans ((Below.refl _ _).alloc (Nat.le_refl _) _)).trans (hb1.mono (by simp))
  have CS := Lib.hid cS; have CN := Lib.hid cN; have HB := Lib.hid hB; have H1 := Lib.hid hb1; clear cS cN hB hb1 hz hT1 hw
  go_region_with (first | (go_at_call 29; refine CN.out.mono ?_; rintro e w' ⟨rfl, rfl⟩) | (go_at_call 82; refine CS.out.mono ?_; rintro e w2 ⟨rfl, hc, hb2, _⟩))
  go_wp2_with fail
  have c0 : w2.cell? ⟨w.heap.size, 0, none⟩ = some (.int .u8 51) := by
    have h := hc 0 (by decide)
    rw [show 16 - 1 - 0 = 15 from rfl, three_dg] at h
    exact h
  have hb3 := ownBuf_on hb (HB.out.drew.trans hb2)
  refine (efgThree_c B w.heap.size v W0 w2 hb3 c0).mono ?_
  rintro e w3 ⟨v', rfl, hb4⟩
  go_wp2_with fail
  go_ret
  exact ⟨_, rfl, hb4⟩

/-- What the first buffer of FormatFloat owns. -/
theorem ownBuf_new (w : World) : Lib.OwnBuf w.heap.size 5 (.slice (some ⟨w.heap.size, 0, none⟩) 0 24) 0 [] w (w.alloc (.cells (Array.replicate 24 (.int .u8 0)) 5)) := by
  refine ⟨⟨rfl, .inr ⟨w.heap.size, 24, Array.replicate 24 (.int .u8 0), (0, 0), rfl, Nat.le_refl _, ?_, by decide, by decide, by decide, by simp, by simp⟩⟩, (Below.refl _ _).alloc (Nat.le_refl _) _, by simp⟩
  show (w.heap.push _)[w.heap.size]? = _
  simp
/-- What a buffer that a call owns reads as. -/
theorem ownBuf_text {B n : Nat} {v : Value} {xs : List Value} {W0 w : World} (h : Lib.OwnBuf B 5 v n xs W0 w) (l : List UInt8) (hl : xs = l.map u8e) (hn : 0 < n) :
    (convert 58 9 v).run Tryz.prog w = .ok (.string ⟨l.toArray⟩) w := by
  obtain ⟨⟨hlen, ho⟩, h2, h3⟩ := h
  rcases ho with ⟨_, ho⟩ | ⟨g, cap, cur, fz, rfl, hg, hh, hfz, hnc, hcm, hcur, hx⟩
  · omega
  · have hln : l.length = n := by rw [hl] at hlen; simpa using hlen
    have := run_convert_bytes_back (P := Tryz.prog) w 58 9 5 ⟨g, 0, none⟩ cap l Tryz.underlying58 Tryz.underlying5 Tryz.underlying9 (fun j hj => by
      have e1 : (xs)[j]? = some (u8e l[j]) := by rw [hl]; simp [hj]
      rw [Lib.add_plain]
      have hc : w.cell? ⟨g, 0 + j, none⟩ = cur[0 + j]? := by simp [World.cell?, hh]
      rw [hc, Nat.zero_add, ← Array.getElem?_toList]
      rw [← hx, List.getElem?_take_of_lt (by omega)] at e1
      exact e1)
    rw [hln] at this
    exact this

set_option maxHeartbeats 1000000 in
theorem formatIn_c (w : World) (hT : Tabs w) (hg : 20 < w.heap.size) :
    Calls Tryz.prog 32 #[.float .f64 4613937818241073152, .int .u8 103, .int .i64 (-1), .int .i64 64] w fun e w' => e = .returned (.string ⟨#[51]⟩) ∧ Below w.heap.size w w' := by
  have hmk : ∀ w, (Instr.makeSlice 58 (.int .i64 0) (.int .i64 24)).run Tryz.prog w = .ok (.slice (some ⟨w.heap.size, 0, none⟩) 0 24) (w.alloc (.cells (Array.replicate 24 (.int .u8 0)) 5)) := fun _ => by kernel_rfl
  have hmx : max (3 : Int) 24 = 24 := by decide
  have hT1 : Tabs (w.alloc (.cells (Array.replicate 24 (.int .u8 0)) 5)) := hT.on ((Below.refl _ _).alloc (Nat.le_refl _) _)
  have hb := ownBuf_new w
  have cF := ftoaThree_c w.heap.size _ w _ hT1 (by simp; omega) hb
  have CF := Lib.hid cF; clear cF hT1 hb
  go_enter Tryz.func32, Tryz.ntmps32
  go_wp2_with fail
  refine CF.out.mono ?_
  rintro e w1 ⟨v, rfl, hb1⟩
  have hcv := ownBuf_text hb1 [51] rfl (by decide)
  have HB := Lib.hid hb1; clear hb1
  go_wp2
  go_ret
  exact ⟨rfl, HB.out.2.1⟩

set_option maxHeartbeats 1000000 in
theorem formatThree_c (w : World) (hT : Tabs w) (hg : 20 < w.heap.size) :
    Calls Tryz.prog 19 #[.float .f64 4613937818241073152, .int .u8 103, .int .i64 (-1), .int .i64 64] w fun e w' => e = .returned (.string ⟨#[51]⟩) ∧ Below w.heap.size w w' := by
  go_enter Tryz.func19, Tryz.ntmps19
  go_wp2_with fail
  refine (formatIn_c _ hT hg).mono ?_
  rintro e w1 ⟨rfl, hb⟩
  have HB := Lib.hid hb; clear hb
  go_wp2
  go_ret
  exact ⟨rfl, HB.out⟩
end Go.Proofs.YthkkdikfbagijaaGreatDoor
