/- CodecWrong: values of kinds that are none, keys of no number, and others than yes and no make bytes none. -/
import Derived.Test.YtnpbnjddlchmcaaWrong1
namespace Go.Proofs.Ytnpbnjddlchmcaa
open Go.RowKit Go.Shelf Go.Sort
open Go.Proofs
set_option maxRecDepth 100000
attribute [local go_sem ↓] append_pre

theorem own5 (w : World) (c : UInt8) : (w.alloc (.cells #[.int .u8 0, .int .u8 1, .int .u8 1, .int .u8 97, .int .u8 (c.toNat : Int)] 5)).ownsRow w.heap.size 5 1 (.slice (some ⟨w.heap.size, 0, none⟩) [0, 1, 1, 97, c].length 5) [0, 1, 1, 97, c].length ([0, 1, 1, 97, c].map encB) :=
  ⟨rfl, Or.inr ⟨w.heap.size, 5, _, rfl, Nat.le_refl _, heap_alloc_new w _, by simp, by unfold maxLen; decide, rfl, rfl⟩⟩

/-- One byte behind it: what is wanted of it. -/
theorem own_one (w : World) (B cap : Nat) (ao : Option Addr) (l : List UInt8) (c : UInt8) (h : w.ownsRow B 5 1 (.slice ao l.length cap) l.length (l.map encB)) (hB : B ≤ w.heap.size) (hl : l.length < 1000000) :
    ∃ ao2 cap2 w2, Sem.run Try.prog (appendS #[29, 29] 29 #[.slice ao l.length cap, .slice (some ⟨w.heap.size, 0, none⟩) 1 1]) (w.alloc (.cells #[.int .u8 (c.toNat : Int)] 5)) = .ok (.slice ao2 (l.length + 1) cap2) w2 ∧
      Aside (w2.ownsRow B 5 1 (.slice ao2 (l ++ [c]).length cap2) (l ++ [c]).length ((l ++ [c]).map encB) ∧ Below B w w2) := by
  obtain ⟨i0, z0, hi, hz0, hz1, hz2, hz3⟩ := u8_info
  have hown2 := h.alloc (.cells #[.int .u8 (c.toNat : Int)] 5)
  obtain ⟨v2, w2, hrun2, hown3, hg2, _⟩ := run_append_own (P := Try.prog) (w.alloc (.cells #[.int .u8 (c.toNat : Int)] 5)) B 29 29 5 i0 z0 1 1 Try.underlying29 hi hz0 hz1 hz2 hz3 (by decide) _ _ _ hown2 ⟨w.heap.size, 0, none⟩ 1 1 ([c].map encB) (by simp) (one_news w c 5) (encB_one _) (by unfold maxLen; omega) (by omega) (by simp; omega)
  rw [← List.map_append] at hown3
  obtain ⟨ao2, cap2, rfl, _⟩ := row1_slice hown3
  exact ⟨ao2, cap2, w2, hrun2, by simpa using hown3, ((Below.refl _ _).alloc hB _).grown hg2 (by simp; omega) (fun k e => (hown2.lt k e).1)⟩

set_option maxHeartbeats 4000000 in
theorem codecWrong4_c (c d : UInt8) (k : Nat) (w : World) (hc : 3 ≤ c.toNat) :
    Calls Try.prog 9 #[.int .u8 (c.toNat : Int), .int .u8 (d.toNat : Int), .int .u64 (k : Int)] w fun e w' => e = .returned (.bool true) ∧ Below w.heap.size w w' := by
  have hev : (evOf [0, 1, 1, 97, c, d]).isSome = (((c.toNat : Int) == 3) && decide ((d.toNat : Int) ≤ 1)) := by
    by_cases h3 : c.toNat = 3
    · obtain rfl : c = 3 := by
        have := u8_ofNat_toNat c
        rw [h3] at this
        exact this.symm
      rw [ev3]
      simp only [show (((3 : UInt8).toNat : Int) == 3) = true from rfl, Bool.true_and]
      exact decide_eq_decide.2 (by omega)
    · rw [ev4 c d (by omega)]
      have : ((c.toNat : Int) == 3) = false := by simp; omega
      rw [this, Bool.false_and]
  obtain ⟨b3, h3⟩ : ∃ b, ((c.toNat : Int) == 3) = b := ⟨_, rfl⟩
  obtain ⟨bd, hd⟩ : ∃ b, decide ((d.toNat : Int) ≤ 1) = b := ⟨_, rfl⟩
  rw [h3, hd] at hev
  have HEv := Lib.hid hev
  have h0 : ((c.toNat : Int) == 0) = false := by simp; omega
  have h1 : ((c.toNat : Int) == 1) = false := by simp; omega
  have h2 : ((c.toNat : Int) == 2) = false := by simp; omega
  have hst : ∀ w1 : World, ∃ ao2 cap2 w2, Sem.run Try.prog (appendS #[29, 29] 29 #[.slice (some ⟨w1.heap.size, 0, none⟩) 5 5, .slice (some ⟨w1.heap.size + 1, 0, none⟩) 1 1]) ((w1.alloc (.cells #[.int .u8 0, .int .u8 1, .int .u8 1, .int .u8 97, .int .u8 (c.toNat : Int)] 5)).alloc (.cells #[.int .u8 (d.toNat : Int)] 5)) = .ok (.slice ao2 6 cap2) w2 ∧
      Aside (w1.heap.size ≤ w2.heap.size ∧ Below w1.heap.size w1 w2 ∧ Calls Try.prog 16 #[.slice ao2 6 cap2] w2 fun e w' => ∃ s a n c, e = .returned (.tuple #[.agg #[.string s, .slice a n c], .bool (b3 && bd)]) ∧ Below w2.heap.size w2 w') := fun w1 => by
    obtain ⟨ao2, cap2, w2, hrun, hA2⟩ := own_one _ w1.heap.size 5 _ _ d (own5 w1 c) (by simp) (by simp)
    simp only [List.length_cons, List.length_nil, Nat.zero_add, Nat.reduceAdd, World.size_alloc] at hrun
    have hb : Below w1.heap.size w1 w2 := ((Below.refl _ _).alloc (Nat.le_refl _) _).trans hA2.out.2
    obtain ⟨q1, q2, _⟩ := own1_bytes hA2.out.1
    have hr := readEvent_is ao2 cap2 _ w2 q2 q1
    simp only [List.cons_append, List.nil_append] at hr
    rw [HEv.out] at hr
    exact ⟨ao2, cap2, w2, hrun, hb.size, hb, hr⟩
  have HSt := Lib.hid hst
  clear hev hc hst HEv
  rcases b3 with _ | _ <;> rcases bd with _ | _
  all_goals (
    go_enter Try.func9, Try.ntmps9
    go_wp2_with fail
    refine (fit4_c w).mono ?_
    rintro e w1 ⟨rfl, hb1⟩
    have HB1 : Aside (Below w.heap.size w w1) := hb1
    obtain ⟨ao2, cap2, w2, hrun, hA2⟩ := HSt.out w1
    clear hb1
    go_wp2_with fail
    refine hA2.out.2.2.mono ?_
    rintro e w3 ⟨s, a, n, cp, rfl, hb3⟩
    have HB3 : Aside (Below w.heap.size w w3) := (HB1.out.trans (hA2.out.2.1.mono HB1.out.size)).trans (hb3.mono (Nat.le_trans HB1.out.size hA2.out.1))
    clear hb3 hA2 hrun
    go_wp2_with fail
    go_ret
    exact ⟨rfl, HB3.out.alloc HB3.out.size _⟩)

/-- So many noughts behind a row of the call's own. -/
theorem own_zeros (w : World) (B cap : Nat) (ao : Option Addr) (l : List UInt8) (d : UInt8) (h : w.ownsRow B 5 1 (.slice ao l.length cap) l.length (l.map encB)) (hB : B ≤ w.heap.size) (hl : l.length ≤ 1000) :
    ∃ ao2 cap2 w2, Sem.run Try.prog (appendS #[29, 5] 29 #[.slice ao l.length cap, .int .u8 (d.toNat : Int)]) w = .ok (.slice ao2 (l.length + d.toNat) cap2) w2 ∧
      Aside (w2.ownsRow B 5 1 (.slice ao2 (l ++ (zerosB d.toNat).data.toList).length cap2) (l ++ (zerosB d.toNat).data.toList).length ((l ++ (zerosB d.toNat).data.toList).map encB) ∧ Below B w w2) := by
  obtain ⟨i0, z0, hi, hz0, hz1, hz2, hz3⟩ := u8_info
  have hd := d.toNat_lt
  have hz : i0.zero = some (.int .u8 0) := by
    have := show (Try.prog.info? 5).bind (fun i => i.zero) = some (.int .u8 0) by kernel_rfl
    rw [hi] at this; exact this
  have hlc := (own1_bytes h).2.1
  obtain ⟨v2, w2, hrun2, hown3, hg2, _⟩ := Lib.run_append_own_string (P := Try.prog) w B 29 9 29 5 i0 Try.underlying29 Try.underlying9 hi hz hz1 hz2 _ _ _ h (zerosB d.toNat) (by rw [zerosB_size]; unfold maxLen; omega) (by rw [zerosB_size]; omega) hB
  rw [strCells_enc, ← List.map_append] at hown3
  obtain ⟨ao2, cap2, rfl, _⟩ := row1_slice hown3
  have hsz : (zerosB d.toNat).data.toList.length = d.toNat := by simp [zerosB]
  have hrun3 := (append_zeros 29 ao l.length cap d.toNat w hlc hl (by omega)).trans hrun2
  rw [zerosB_size] at hrun3 hown3
  exact ⟨ao2, cap2, w2, hrun3, by rw [List.length_append, hsz]; exact hown3, (Below.refl _ _).grown hg2 hB (fun k e => (h.lt k e).1)⟩

set_option maxHeartbeats 4000000 in
theorem codecWrong2_c (c d : UInt8) (k : Nat) (w : World) (hc : c.toNat = 2) :
    Calls Try.prog 9 #[.int .u8 (c.toNat : Int), .int .u8 (d.toNat : Int), .int .u64 (k : Int)] w fun e w' => e = .returned (.bool true) ∧ Below w.heap.size w w' := by
  have hd255 := d.toNat_lt
  have hev : (evOf ([0, 1, 1, 97, c] ++ [d] ++ (zerosB d.toNat).data.toList)).isSome = decide ((d.toNat : Int) ≤ 40) := by
    obtain rfl : c = 2 := by
      have := u8_ofNat_toNat c
      rw [hc] at this
      exact this.symm
    have := ev2 d.toNat (by omega)
    unfold encT at this
    rw [zerosB_size, u8_ofNat_toNat] at this
    rw [show [0, 1, 1, 97, 2] ++ [d] ++ (zerosB d.toNat).data.toList = 0 :: 1 :: 1 :: 97 :: 2 :: (d :: (zerosB d.toNat).data.toList) from rfl, this]
    exact decide_eq_decide.2 (by omega)
  obtain ⟨bd, hd⟩ : ∃ b, decide ((d.toNat : Int) ≤ 40) = b := ⟨_, rfl⟩
  rw [hd] at hev
  have HEv := Lib.hid hev
  have h0 : ((c.toNat : Int) == 0) = false := by simp; omega
  have h1 : ((c.toNat : Int) == 1) = false := by simp; omega
  have h2 : ((c.toNat : Int) == 2) = true := by simp; omega
  have hst : ∀ w1 : World, ∃ ao2 cap2 w2, Sem.run Try.prog (appendS #[29, 29] 29 #[.slice (some ⟨w1.heap.size, 0, none⟩) 5 5, .slice (some ⟨w1.heap.size + 1, 0, none⟩) 1 1]) ((w1.alloc (.cells #[.int .u8 0, .int .u8 1, .int .u8 1, .int .u8 97, .int .u8 (c.toNat : Int)] 5)).alloc (.cells #[.int .u8 (d.toNat : Int)] 5)) = .ok (.slice ao2 6 cap2) w2 ∧
      ∃ ao3 cap3 w3, Sem.run Try.prog (appendS #[29, 5] 29 #[.slice ao2 6 cap2, .int .u8 (d.toNat : Int)]) w2 = .ok (.slice ao3 (6 + d.toNat) cap3) w3 ∧
      Aside (w1.heap.size ≤ w3.heap.size ∧ Below w1.heap.size w1 w3 ∧ Calls Try.prog 16 #[.slice ao3 (6 + d.toNat) cap3] w3 fun e w' => ∃ s a n c, e = .returned (.tuple #[.agg #[.string s, .slice a n c], .bool bd]) ∧ Below w3.heap.size w3 w') := fun w1 => by
    obtain ⟨ao2, cap2, w2, hrun, hA2⟩ := own_one _ w1.heap.size 5 _ _ d (own5 w1 c) (by simp) (by simp)
    simp only [List.length_cons, List.length_nil, Nat.zero_add, Nat.reduceAdd, World.size_alloc] at hrun
    have hb : Below w1.heap.size w1 w2 := ((Below.refl _ _).alloc (Nat.le_refl _) _).trans hA2.out.2
    obtain ⟨ao3, cap3, w3, hrun3, hA3⟩ := own_zeros w2 w1.heap.size cap2 ao2 _ d hA2.out.1 hb.size (by simp)
    have hb3 : Below w1.heap.size w1 w3 := hb.trans hA3.out.2
    obtain ⟨q1, q2, _⟩ := own1_bytes hA3.out.1
    have hr := readEvent_is ao3 cap3 _ w3 q2 q1
    rw [HEv.out] at hr
    have hl6 : ([0, 1, 1, 97, c] ++ [d]).length = 6 := rfl
    have hsz : (zerosB d.toNat).data.toList.length = d.toNat := by simp [zerosB]
    rw [List.length_append, hl6, hsz] at hr
    rw [hl6] at hrun3
    exact ⟨ao2, cap2, w2, hrun, ao3, cap3, w3, hrun3, hb3.size, hb3, hr⟩
  have HSt := Lib.hid hst
  clear hev hc hst HEv hd255
  rcases bd with _ | _
  all_goals (
    go_enter Try.func9, Try.ntmps9
    go_wp2_with fail
    refine (fit4_c w).mono ?_
    rintro e w1 ⟨rfl, hb1⟩
    have HB1 : Aside (Below w.heap.size w w1) := hb1
    obtain ⟨ao2, cap2, w2, hrun, ao3, cap3, w3, hrun3, hA2⟩ := HSt.out w1
    clear hb1
    go_wp2_with fail
    refine hA2.out.2.2.mono ?_
    rintro e w4 ⟨s, a, n, cp, rfl, hb3⟩
    have HB3 : Aside (Below w.heap.size w w4) := (HB1.out.trans (hA2.out.2.1.mono HB1.out.size)).trans (hb3.mono (Nat.le_trans HB1.out.size hA2.out.1))
    clear hb3 hA2 hrun hrun3
    go_wp2_with fail
    go_ret
    exact ⟨rfl, HB3.out.alloc HB3.out.size _⟩)
end Go.Proofs.Ytnpbnjddlchmcaa
