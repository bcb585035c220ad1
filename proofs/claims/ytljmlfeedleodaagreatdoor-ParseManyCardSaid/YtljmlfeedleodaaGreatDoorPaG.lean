/- gazettelaw08.fit. -/
import Derived.Test.YtljmlfeedleodaaGreatDoorPaF
import Derived.Test.YtljmlfeedleodaaGreatDoorPaQ
namespace Go.Proofs.YtljmlfeedleodaaGreatDoor
open Go.RowKit Go.Shelf
open Go.Proofs
set_option maxRecDepth 100000

abbrev bs (l : List UInt8) : ByteArray := ⟨l.toArray⟩
def fitS (j : Nat) : ByteArray := if j = 0 then ⟨#[120, 32, 94, 32, 34, 112, 34, 32, 38, 32, 104, 97, 115, 32, 121]⟩ else if j = 1 then ⟨#[32, 104, 97, 115, 32, 121]⟩ else ⟨#[]⟩
def fitP (j : Nat) : ByteArray := if j = 0 then ⟨#[120, 32, 94, 32, 34, 112, 34, 32]⟩ else ⟨#[32, 104, 97, 115, 32, 121]⟩
def fitC (j : Nat) : Cn := if j = 0 then ⟨⟨⟨#[120]⟩, 2, 0, 0, ⟨#[112]⟩, false⟩, 6⟩ else ⟨⟨⟨#[121]⟩, 0, 0, 0, ⟨#[]⟩, false⟩, 7⟩
theorem plain_p : Plain ⟨#[112]⟩ := ⟨by decide, by decide +kernel, by decide +kernel, by decide +kernel, by decide +kernel, by decide +kernel, by decide +kernel, by decide +kernel⟩
theorem fit_cut : ∀ j, j < 2 → cutP (fitS j) = (fitP j, fitS (j + 1), decide (j + 1 < 2)) := by decide +kernel
theorem fit_conds (w : World) (hT : Tabs w) (hw : Wds w) (hm : MaxI w) : Calls Tryz.prog 12 #[.string (fitS 0)] w (AskedR 2 [fitC 0, fitC 1] w) :=
  conditions_c 2 fitS fitP fitC (by omega) (by decide +kernel) (by decide +kernel) fit_cut w (fun j hj W hW => by
    have h2 : j = 0 ∨ j = 1 := by omega
    rcases h2 with rfl | rfl
    · exact condVal_c (fitP 0) ⟨#[120]⟩ ⟨#[94, 32, 34, 112, 34]⟩ (quoT ⟨#[112]⟩) 6 (by omega) 2 0 0 ⟨#[112]⟩ false (by decide) (by decide +kernel) (by decide +kernel) (by decide +kernel) (by decide +kernel) (by decide +kernel) (by decide) W (hm.below hW) (hw.on hW) (fun W2 hW2 => readT_c ⟨#[112]⟩ plain_p W2 (hT.on (hW.trans (hW2.mono hW.size))))
    · exact condHas_c (fitP 1) ⟨#[121]⟩ (by decide) (by decide +kernel) (by decide +kernel) (by decide +kernel) (by decide +kernel) (by decide +kernel) W (hm.below hW))
theorem fit_filter (w : World) (hT : Tabs w) (hw : Wds w) (hm : MaxI w) : Calls Tryz.prog 6 #[.string ⟨#[97, 58, 32, 120, 32, 94, 32, 34, 112, 34, 32, 38, 32, 104, 97, 115, 32, 121]⟩] w (FilterR ⟨#[97]⟩ 2 [fitC 0, fitC 1] w) := by
  have e : trimS ⟨#[97]⟩ = ⟨#[97]⟩ := by decide +kernel
  have e2 : trimS ⟨#[32, 120, 32, 94, 32, 34, 112, 34, 32, 38, 32, 104, 97, 115, 32, 121]⟩ = fitS 0 := by decide +kernel
  have := filter_ok ⟨#[97, 58, 32, 120, 32, 94, 32, 34, 112, 34, 32, 38, 32, 104, 97, 115, 32, 121]⟩ ⟨#[97]⟩ ⟨#[32, 120, 32, 94, 32, 34, 112, 34, 32, 38, 32, 104, 97, 115, 32, 121]⟩ 2 [fitC 0, fitC 1] (by decide) (by decide +kernel) (by decide) (by decide) (by rw [e]; decide) (by omega) rfl (by rw [e]; decide +kernel) w hm (fun W hW => by
    rw [e2]
    exact fit_conds W (hT.on hW) (hw.on hW) (hm.below hW))
  rw [e] at this
  exact this
set_option maxHeartbeats 4000000 in
theorem fit8_c (w : World) (hT : Tabs w) (hw : Wds w) (hm : MaxI w) : Calls Tryz.prog 5 #[] w fun e w' => e = .returned (.bool true) ∧ Below w.heap.size w w' := by
  have HF := Lib.hid (fit_filter w hT hw hm)
  have HW : Aside (∀ W, Below w.heap.size w W → Calls Tryz.prog 8 #[.int .i64 7] W fun e W' => e = .returned (.string ⟨#[104, 97, 115]⟩) ∧ W = W') := fun W hW => word_c 7 (by decide) W (hw.on hW)
  have HV : Aside (∀ W, Calls Tryz.prog 9 #[.agg #[.int .i64 2, .int .i64 0, .float .f64 0, .string ⟨#[112]⟩, .bool false]] W fun e w' => e = .returned (.bool true) ∧ Below W.heap.size W w') := fun W => vright_c 2 0 0 ⟨#[112]⟩ false W
  have HL : Aside (∀ ro rcap W, CondsB W.heap.size W ro [fitC 0, fitC 1] → Calls Tryz.prog 10 #[.agg #[.string ⟨#[97]⟩, .slice ro 2 rcap]] W fun e w' => e = .returned (.bool true) ∧ Below W.heap.size W w') := fun ro rcap W h => by
    have := flight_c ⟨#[97]⟩ ro rcap [fitC 0, fitC 1] W h (by simp)
    rw [show lightF ⟨#[97]⟩ [fitC 0, fitC 1] = true by decide +kernel] at this
    exact this
  have HRW : Aside (∀ ro W, CondsB W.heap.size W ro [fitC 0, fitC 1] → ∃ b off, ro = some ⟨b, off, none⟩ ∧ b < W.heap.size ∧ RowC W b off [fitC 0, fitC 1]) := fun ro W h => by
    rcases h with h | ⟨b, off, h1, h2, h3⟩
    · cases h
    · exact ⟨b, off, h1, h2, h3⟩
  clear hT hw hm
  go_enter Tryz.func5, Tryz.ntmps5
  go_wp2_with fail
  refine HF.out.mono ?_
  rintro e w1 ⟨ro, rcap, rfl, H1⟩
  have HB1 := Lib.hid H1.out.2
  obtain ⟨b, off, rfl, hbs, hrow⟩ := HRW.out ro w1 H1.out.1
  have HROW := Lib.hid hrow
  have HCB1 := Lib.hid H1.out.1
  have r0 := hrow 0 (by decide)
  have r1 := hrow 1 (by decide)
  have d1 := r0 1 _ rfl; have d2 := r0 2 _ rfl; have d3 := r0 3 _ rfl; have d4 := r0 4 _ rfl; have d5 := r0 5 _ rfl; have d6 := r0 6 _ rfl
  have e1 := r1 1 _ rfl
  simp only [Nat.zero_mul, Nat.add_zero, Nat.one_mul] at d1 d2 d3 d4 d5 d6 e1
  have e2 : w1.cell? ⟨b, off + 8, none⟩ = some (.int .i64 7) := e1
  have HBX : Aside (Below w1.heap.size w1 (w1.alloc (.cells #[.string ⟨#[97]⟩, .slice (some ⟨b, off, none⟩) 2 rcap] 26))) := (Below.refl _ _).alloc (Nat.le_refl _) _
  have HY : Aside (∀ W, Below (w1.heap.size + 1) (w1.alloc (.cells #[.string ⟨#[97]⟩, .slice (some ⟨b, off, none⟩) 2 rcap] 26)) W → W.cell? ⟨w1.heap.size, 0, none⟩ = some (.string ⟨#[97]⟩) ∧ W.cell? ⟨w1.heap.size, 1, none⟩ = some (.slice (some ⟨b, off, none⟩) 2 rcap)) := fun W hW => ⟨one_lay hW 0 _ rfl, one_lay hW 1 _ rfl⟩
  have hz : w1.heap.size + 1 ≤ (w1.alloc (.cells #[.string ⟨#[97]⟩, .slice (some ⟨b, off, none⟩) 2 rcap] 26)).heap.size := by simp
  clear hrow H1 HF HRW r0 r1
  go_wp2_with fail
  refine (HW.out _ (HB1.out.trans (HBX.out.mono HB1.out.size))).mono ?_
  rintro e w3 ⟨rfl, rfl⟩
  go_wp2_with fail
  refine (HV.out _).mono ?_
  rintro e w4 ⟨rfl, hb4⟩
  have HB4 : Aside (Below (w1.heap.size + 1) (w1.alloc (.cells #[.string ⟨#[97]⟩, .slice (some ⟨b, off, none⟩) 2 rcap] 26)) w4) := hb4.mono hz
  obtain ⟨y0, y1⟩ := HY.out _ HB4.out
  have HB5 : Aside (Below w1.heap.size w1 w4) := HBX.out.trans (HB4.out.mono (by omega))
  have HCB4 := Lib.hid (HCB1.out.on HB5.out)
  clear hb4 HB4 HY HBX HV HW d1 d2 d3 d4 d5 d6 e1 e2 hz
  go_wp2_with fail
  refine (HL.out _ _ _ HCB4.out).mono ?_
  rintro e w5 ⟨rfl, hb5⟩
  have HB6 : Aside (Below w.heap.size w w5) := HB1.out.trans ((HB5.out.trans (hb5.mono HB5.out.size)).mono HB1.out.size)
  clear hb5
  go_wp2_with fail
  go_ret
  exact ⟨rfl, HB6.out⟩
end Go.Proofs.YtljmlfeedleodaaGreatDoor
