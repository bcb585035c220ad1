/- The document's own answers for conditions (gazetteref06): they are what package cond's are. (Written by gen_condr.py.) -/
import Derived.Test.YtjnfbinomljocaaDoorCondI
import Derived.Deep.RegionWith
namespace Go.Proofs.YtjnfbinomljocaaDoor
open Go.RowKit Go.Shelf
open Go.Proofs
set_option maxRecDepth 100000

set_option maxHeartbeats 400000 in
theorem rvoid_c (k n : Int) (x : Nat) (s : ByteArray) (y : Bool) (w : World) :
    Calls Tryd.prog 79 #[val k n x s y] w fun e w' => e = .returned (.bool (voidB k x)) ∧ Below w.heap.size w w' := by
  have hnx := neq_self x
  unfold voidB
  cases h : (k == 1)
  · go_enter Tryd.func79, Tryd.ntmps79
    go_wp2
    go_ret
    exact ⟨rfl, (Below.refl _ _).alloc (Nat.le_refl _) _⟩
  · generalize fnan x = b at *
    go_enter Tryd.func79, Tryd.ntmps79
    go_wp2
    go_ret
    exact ⟨rfl, (Below.refl _ _).alloc (Nat.le_refl _) _⟩

/-! ### Texts -/
theorem len_data (a : ByteArray) : a.data.toList.length = a.size := Array.length_toList
theorem byt_at (a : ByteArray) (j : Nat) (h : j < a.data.toList.length) : byt a j = ((a.data.toList[j]'h).toNat : Int) := by
  have h2 : j < a.data.size := by simpa using h
  unfold byt
  rw [getElem!_pos a.data j h2]
  simp
theorem sgs_at (a b : ByteArray) (j : Nat) (ha : j < a.size) (hb : j < b.size) (he : ∀ i, i < j → byt a i = byt b i) (h : byt a j < byt b j) : sgs a b = -1 := by
  have ha' : j < a.data.toList.length := by rw [len_data]; exact ha
  have hb' : j < b.data.toList.length := by rw [len_data]; exact hb
  have hlt : a.toList < b.toList := by
    rw [bytes_toList, bytes_toList, List.lt_iff_exists]
    refine Or.inr ⟨j, ha', hb', fun i hi => ?_, ?_⟩
    · have e := he i hi
      rw [byt_at a i (by omega), byt_at b i (by omega)] at e
      exact UInt8.toNat_inj.1 (by omega)
    · rw [byt_at a j ha', byt_at b j hb'] at h
      exact UInt8.lt_iff_toNat_lt.2 (by omega)
  rw [sgs_eq, if_pos hlt]
theorem sgs_short (a b : ByteArray) (he : ∀ i, i < a.size → byt a i = byt b i) (h : a.size < b.size) : sgs a b = -1 := by
  have hlt : a.toList < b.toList := by
    rw [bytes_toList, bytes_toList, List.lt_iff_exists]
    have la := len_data a
    have lb := len_data b
    refine Or.inl ⟨?_, by omega⟩
    apply List.ext_getElem
    · rw [List.length_take]; omega
    · intro i h1 h2
      have e := he i (by omega)
      rw [byt_at a i h1, byt_at b i (by omega)] at e
      rw [List.getElem_take]
      exact UInt8.toNat_inj.1 (by omega)
  rw [sgs_eq, if_pos hlt]
theorem sgs_same (a b : ByteArray) (he : ∀ i, i < a.size → byt a i = byt b i) (h : a.size = b.size) : sgs a b = 0 := by
  have la := len_data a
  have lb := len_data b
  have : a.toList = b.toList := by
    rw [bytes_toList, bytes_toList]
    apply List.ext_getElem
    · omega
    · intro i h1 h2
      have e := he i (by omega)
      rw [byt_at a i h1, byt_at b i h2] at e
      exact UInt8.toNat_inj.1 (by omega)
  rw [sgs_eq, this, if_neg (List.lt_irrefl _), if_pos rfl]
set_option maxHeartbeats 2000000 in
theorem texts_c (a b : ByteArray) (ha : a.size ≤ 9223372036854775807) (_ : b.size ≤ 9223372036854775807) (w : World) :
    Calls Tryd.prog 80 #[.string a, .string b] w fun e w' => e = .returned (.int .i64 (sgs a b)) ∧ Below w.heap.size w w' := by
  obtain ⟨r, hr⟩ : ∃ r, r = sgs a b := ⟨_, rfl⟩
  have HLo : Aside (∀ j, j < a.size → j < b.size → (∀ i, i < j → byt a i = byt b i) → byt a j < byt b j → r = -1) := fun j h1 h2 h3 h4 => hr.trans (sgs_at a b j h1 h2 h3 h4)
  have HHi : Aside (∀ j, j < a.size → j < b.size → (∀ i, i < j → byt a i = byt b i) → byt b j < byt a j → r = 1) := fun j h1 h2 h3 h4 => by
    have := sgs_at b a j h2 h1 (fun i hi => (h3 i hi).symm) h4
    rw [sgs_neg a b] at this; omega
  have HSh : Aside ((∀ i, i < a.size → byt a i = byt b i) → a.size < b.size → r = -1) := fun h1 h2 => hr.trans (sgs_short a b h1 h2)
  have HLg : Aside ((∀ i, i < b.size → byt a i = byt b i) → b.size < a.size → r = 1) := fun h1 h2 => by
    have := sgs_short b a (fun i hi => (h1 i hi).symm) h2
    rw [sgs_neg a b] at this; omega
  have HEq : Aside ((∀ i, i < a.size → byt a i = byt b i) → a.size = b.size → r = 0) := fun h1 h2 => hr.trans (sgs_same a b h1 h2)
  rw [← hr]
  clear hr
  go_enter Tryd.func80, Tryd.ntmps80
  go_wp2_with fail
  go_loopg [5] (a.size + 1) (fun kx s5 wr => ∃ j : Nat, s5 = .int .i64 j ∧ j ≤ a.size ∧ j ≤ b.size ∧ a.size + 1 - j ≤ kx ∧ Aside (∀ i, i < j → byt a i = byt b i) ∧ Aside (Below w.heap.size w wr))
  case atStart => exact ⟨0, rfl, Nat.zero_le _, Nat.zero_le _, by omega, fun i hi => by omega, Below.refl _ _⟩
  case round =>
    obtain ⟨j, rfl, hja, hjb, hjx, HE, HB⟩ := hrel
    by_cases hla : j < a.size
    · have hza : (j : Int) < (a.size : Int) := by omega
      have hz0 : (0 : Int) ≤ (j : Int) := by omega
      by_cases hlb : j < b.size
      · have hzb : (j : Int) < (b.size : Int) := by omega
        have e1 := byt_eq a j hla
        have e2 := byt_eq b j hlb
        have HD : Aside (Below w.heap.size w wr.drew) := HB.out.trans ⟨rfl, rfl, rfl, Nat.le_refl _, fun _ _ => rfl⟩
        have HD2 : Aside (Below w.heap.size w wr.drew.drew) := HD.out.trans ⟨rfl, rfl, rfl, Nat.le_refl _, fun _ _ => rfl⟩
        have HLoj := Lib.hid (HLo.out j hla hlb HE.out)
        have HHij := Lib.hid (HHi.out j hla hlb HE.out)
        have HEj : Aside (byt a j = byt b j → ∀ i, i < j + 1 → byt a i = byt b i) := fun h i hi => by
          by_cases he : i = j
          · rw [he]; exact h
          · exact HE.out i (by omega)
        obtain ⟨p, hp⟩ : ∃ p, p = byt a j := ⟨_, rfl⟩
        obtain ⟨q, hq⟩ : ∃ q, q = byt b j := ⟨_, rfl⟩
        rw [← hp] at e1 HLoj HHij HEj
        rw [← hq] at e2 HLoj HHij HEj
        clear hp hq HE
        rcases (by omega : p < q ∨ p = q ∨ q < p) with h | h | h
        · have hne : (p != q) = true := by simp; omega
          go_wp2_with fail
          go_region_with (fail)
          all_goals
            go_wp2_with fail
            go_region_with (fail)
          all_goals
            go_wp2_with fail
            go_ret
            exact ⟨by rw [HLoj.out h]; rfl, HD2.out⟩
        · have hne : (p != q) = false := by simp [h]
          go_wp2_with fail
          go_region_with (fail)
          all_goals
            go_wp2_with fail
            go_roundg (a.size + 1 - (j + 1))
            case measure => omega
            case rel => exact ⟨j + 1, by go_num, hla, hlb, Nat.le_refl _, HEj.out h, HD.out⟩
        · have hne : (p != q) = true := by simp; omega
          have hnl : ¬ p < q := by omega
          go_wp2_with fail
          go_region_with (fail)
          all_goals
            go_wp2_with fail
            go_region_with (fail)
          all_goals
            go_wp2_with fail
            go_ret
            exact ⟨by rw [HHij.out h]; rfl, HD2.out⟩
      · obtain rfl : j = b.size := by omega
        have hzb : ¬ ((b.size : Int) < (b.size : Int)) := by omega
        have hzc : ¬ ((a.size : Int) < (b.size : Int)) := by omega
        have hR := HLg.out HE.out hla
        go_wp2_with fail
        go_ret
        exact ⟨by first | rfl | (rw [hR]; rfl), HB.out⟩
    · obtain rfl : j = a.size := by omega
      have hza : ¬ ((a.size : Int) < (a.size : Int)) := by omega
      by_cases hlb : a.size < b.size
      · have hzb : (a.size : Int) < (b.size : Int) := by omega
        have hR := HSh.out HE.out hlb
        go_wp2_with fail
        go_ret
        exact ⟨by first | rfl | (rw [hR]; rfl), HB.out⟩
      · have hzb : ¬ (a.size : Int) < (b.size : Int) := by omega
        have hzc : ¬ (b.size : Int) < (a.size : Int) := by omega
        have hR := HEq.out HE.out (by omega)
        go_wp2_with fail
        go_ret
        exact ⟨by first | rfl | (rw [hR]; rfl), HB.out⟩
set_option maxHeartbeats 2000000 in
theorem begins_c (s p : ByteArray) (w : World) : Calls Tryd.prog 56 #[.string s, .string p] w fun e w' => e = .returned (.bool (preB s p)) ∧ w = w' := by
  by_cases h : p.size ≤ s.size
  · have hz : (p.size : Int) ≤ (s.size : Int) := by omega
    have hz0 : (0 : Int) ≤ (p.size : Int) := by omega
    have hp : ((s.extract 0 p.size).toList == p.toList) = preB s p := by
      unfold preB Lib.hasPrefix
      rw [Bool.eq_iff_iff, List.isPrefixOf_iff_prefix, beq_iff_eq, bytes_toList, bytes_toList]
      have e : (s.extract 0 p.size).data.toList = s.data.toList.take p.size := by simp
      rw [e, List.prefix_iff_eq_take, len_data]
      exact ⟨fun h => h.symm, fun h => h.symm⟩
    generalize preB s p = b at *
    go_enter Tryd.func56, Tryd.ntmps56
    go_wp2
    go_ret
    exact ⟨rfl, rfl⟩
  · have hz : ¬ (p.size : Int) ≤ (s.size : Int) := by omega
    have hp : preB s p = false := by
      cases hb : preB s p
      · rfl
      · unfold preB Lib.hasPrefix at hb
        rw [List.isPrefixOf_iff_prefix] at hb
        have := hb.length_le
        rw [len_data, len_data] at this
        exact absurd this h
    rw [hp]
    clear hp
    go_enter Tryd.func56, Tryd.ntmps56
    go_wp2
    go_ret
    exact ⟨rfl, rfl⟩

theorem fl_tri2 (x x2 : Nat) (h1 : fnan x = false) (h2 : fnan x2 = false) : (sgn (fkey x) (fkey x2) = -1 ∧ (FloatKind.f64.format.order x x2 == some .lt) = true ∧ (FloatKind.f64.format.order x x2 == some .gt) = false) ∨
    (sgn (fkey x) (fkey x2) = 0 ∧ (FloatKind.f64.format.order x x2 == some .lt) = false ∧ (FloatKind.f64.format.order x x2 == some .gt) = false) ∨
    (sgn (fkey x) (fkey x2) = 1 ∧ (FloatKind.f64.format.order x x2 == some .lt) = false ∧ (FloatKind.f64.format.order x x2 == some .gt) = true) := by
  have k1 := @fkey_lt x x2 h1 h2
  have k2 := @fkey_lt x2 x h2 h1
  unfold sgn
  rcases (by omega : fpos x < fpos x2 ∨ fpos x = fpos x2 ∨ fpos x2 < fpos x) with h | h | h
  · have o := ford_of_lt h1 h2 _ (ford_lt h)
    rw [o]
    exact .inl ⟨if_pos (k1.2 h), rfl, rfl⟩
  · have o := ford_of_lt h1 h2 _ (ford_eq h)
    rw [o]
    exact .inr (.inl ⟨by rw [if_neg (by omega), if_neg (by omega)], rfl, rfl⟩)
  · have o := ford_of_lt h1 h2 _ (ford_gt h)
    rw [o]
    exact .inr (.inr ⟨by rw [if_neg (by omega), if_pos (k2.2 h)], rfl, rfl⟩)

set_option maxHeartbeats 2000000 in
theorem rcmp_ne (k n : Int) (x : Nat) (s : ByteArray) (y : Bool) (k2 n2 : Int) (x2 : Nat) (s2 : ByteArray) (y2 : Bool) (w : World) (hk : (k != k2) = true) :
    Calls Tryd.prog 55 #[val k n x s y, val k2 n2 x2 s2 y2] w fun e w' => e = .returned (.tuple #[.int .i64 (0), .bool false]) ∧ Below w.heap.size w w' := by
  have B0 : Below w.heap.size w ((w.alloc (.cells (vals k n x s y) 49)).alloc (.cells (vals k2 n2 x2 s2 y2) 49)) := ((Below.refl _ _).alloc (Nat.le_refl _) _).alloc (by simp) _
  have HB0 := Lib.hid B0; clear B0
  have HVA := Lib.hid (fun W => rvoid_c k n x s y W); have HVB := Lib.hid (fun W => rvoid_c k2 n2 x2 s2 y2 W)
  clear HVA HVB
  go_enter Tryd.func55, Tryd.ntmps55
  go_wp2_with fail
  go_ret2
  exact ⟨rfl, HB0.out⟩
set_option maxHeartbeats 2000000 in
theorem rcmp_va (k n : Int) (x : Nat) (s : ByteArray) (y : Bool) (k2 n2 : Int) (x2 : Nat) (s2 : ByteArray) (y2 : Bool) (w : World) (hk : (k != k2) = false) (hvA : voidB k x = true) :
    Calls Tryd.prog 55 #[val k n x s y, val k2 n2 x2 s2 y2] w fun e w' => e = .returned (.tuple #[.int .i64 (0), .bool false]) ∧ Below w.heap.size w w' := by
  have B0 : Below w.heap.size w ((w.alloc (.cells (vals k n x s y) 49)).alloc (.cells (vals k2 n2 x2 s2 y2) 49)) := ((Below.refl _ _).alloc (Nat.le_refl _) _).alloc (by simp) _
  have HB0 := Lib.hid B0; clear B0
  have HVA := Lib.hid (fun W => rvoid_c k n x s y W); have HVB := Lib.hid (fun W => rvoid_c k2 n2 x2 s2 y2 W)
  go_enter Tryd.func55, Tryd.ntmps55
  go_wp2_with fail
  refine (HVA.out _).mono ?_
  rw [hvA]
  rintro e w1 ⟨rfl, hb⟩
  have hA1 : Below (w.heap.size + 2) ((w.alloc (.cells (vals k n x s y) 49)).alloc (.cells (vals k2 n2 x2 s2 y2) 49)) w1 := by simpa using hb
  have z1 : w.heap.size + 2 ≤ w1.heap.size := by have := hA1.size; simpa using this
  obtain ⟨va, vb⟩ := two_lay hA1
  have a0 := va 0 _ rfl; have a1 := va 1 _ rfl; have a2 := va 2 _ rfl; have a3 := va 3 _ rfl; have a4 := va 4 _ rfl
  have b0 := vb 0 _ rfl; have b1 := vb 1 _ rfl; have b2 := vb 2 _ rfl; have b3 := vb 3 _ rfl; have b4 := vb 4 _ rfl
  clear va vb
  have HA1 := Lib.hid hA1; clear hb hA1
  go_wp2_with fail
  go_ret2
  exact ⟨rfl, HB0.out.trans (HA1.out.mono (by omega))⟩
set_option maxHeartbeats 2000000 in
theorem rcmp_vb (k n : Int) (x : Nat) (s : ByteArray) (y : Bool) (k2 n2 : Int) (x2 : Nat) (s2 : ByteArray) (y2 : Bool) (w : World) (hk : (k != k2) = false) (hvA : voidB k x = false) (hvB : voidB k2 x2 = true) :
    Calls Tryd.prog 55 #[val k n x s y, val k2 n2 x2 s2 y2] w fun e w' => e = .returned (.tuple #[.int .i64 (0), .bool false]) ∧ Below w.heap.size w w' := by
  have B0 : Below w.heap.size w ((w.alloc (.cells (vals k n x s y) 49)).alloc (.cells (vals k2 n2 x2 s2 y2) 49)) := ((Below.refl _ _).alloc (Nat.le_refl _) _).alloc (by simp) _
  have HB0 := Lib.hid B0; clear B0
  have HVA := Lib.hid (fun W => rvoid_c k n x s y W); have HVB := Lib.hid (fun W => rvoid_c k2 n2 x2 s2 y2 W)
  go_enter Tryd.func55, Tryd.ntmps55
  go_wp2_with fail
  refine (HVA.out _).mono ?_
  rw [hvA]
  rintro e w1 ⟨rfl, hb⟩
  have hA1 : Below (w.heap.size + 2) ((w.alloc (.cells (vals k n x s y) 49)).alloc (.cells (vals k2 n2 x2 s2 y2) 49)) w1 := by simpa using hb
  have z1 : w.heap.size + 2 ≤ w1.heap.size := by have := hA1.size; simpa using this
  obtain ⟨va, vb⟩ := two_lay hA1
  have a0 := va 0 _ rfl; have a1 := va 1 _ rfl; have a2 := va 2 _ rfl; have a3 := va 3 _ rfl; have a4 := va 4 _ rfl
  have b0 := vb 0 _ rfl; have b1 := vb 1 _ rfl; have b2 := vb 2 _ rfl; have b3 := vb 3 _ rfl; have b4 := vb 4 _ rfl
  clear va vb
  have HA1 := Lib.hid hA1; clear hb hA1
  go_wp2_with fail
  clear a0 a1 a2 a3 a4 b0 b1 b2 b3 b4
  refine (HVB.out _).mono ?_
  rw [hvB]
  rintro e w2 ⟨rfl, hb⟩
  have hA2 := HA1.out.trans (hb.mono z1)
  have z2 : w.heap.size + 2 ≤ w2.heap.size := by have := hA2.size; simpa using this
  obtain ⟨va, vb⟩ := two_lay hA2
  have a0 := va 0 _ rfl; have a1 := va 1 _ rfl; have a2 := va 2 _ rfl; have a3 := va 3 _ rfl; have a4 := va 4 _ rfl
  have b0 := vb 0 _ rfl; have b1 := vb 1 _ rfl; have b2 := vb 2 _ rfl; have b3 := vb 3 _ rfl; have b4 := vb 4 _ rfl
  clear va vb
  have HA2 := Lib.hid hA2; clear hb hA2
  go_wp2_with fail
  go_ret2
  exact ⟨rfl, HB0.out.trans (HA2.out.mono (by omega))⟩
set_option maxHeartbeats 2000000 in
theorem rcmp_k0 (k n : Int) (x : Nat) (s : ByteArray) (y : Bool) (k2 n2 : Int) (x2 : Nat) (s2 : ByteArray) (y2 : Bool) (w : World) (hk : (k != k2) = false) (hvA : voidB k x = false) (hvB : voidB k2 x2 = false) (h0 : (k == 0) = true) :
    Calls Tryd.prog 55 #[val k n x s y, val k2 n2 x2 s2 y2] w fun e w' => e = .returned (.tuple #[.int .i64 (sgn n n2), .bool true]) ∧ Below w.heap.size w w' := by
  have B0 : Below w.heap.size w ((w.alloc (.cells (vals k n x s y) 49)).alloc (.cells (vals k2 n2 x2 s2 y2) 49)) := ((Below.refl _ _).alloc (Nat.le_refl _) _).alloc (by simp) _
  have HB0 := Lib.hid B0; clear B0
  have HVA := Lib.hid (fun W => rvoid_c k n x s y W); have HVB := Lib.hid (fun W => rvoid_c k2 n2 x2 s2 y2 W)
  unfold sgn
  rcases (by omega : n < n2 ∨ (¬ n < n2 ∧ n2 < n) ∨ (¬ n < n2 ∧ ¬ n2 < n)) with h | ⟨h, h2⟩ | ⟨h, h2⟩
  all_goals
    try have h2 : ¬ n2 < n := by omega
    go_enter Tryd.func55, Tryd.ntmps55
    go_wp2_with fail
    refine (HVA.out _).mono ?_
    rw [hvA]
    rintro e w1 ⟨rfl, hb⟩
    have hA1 : Below (w.heap.size + 2) ((w.alloc (.cells (vals k n x s y) 49)).alloc (.cells (vals k2 n2 x2 s2 y2) 49)) w1 := by simpa using hb
    have z1 : w.heap.size + 2 ≤ w1.heap.size := by have := hA1.size; simpa using this
    obtain ⟨va, vb⟩ := two_lay hA1
    have a0 := va 0 _ rfl; have a1 := va 1 _ rfl; have a2 := va 2 _ rfl; have a3 := va 3 _ rfl; have a4 := va 4 _ rfl
    have b0 := vb 0 _ rfl; have b1 := vb 1 _ rfl; have b2 := vb 2 _ rfl; have b3 := vb 3 _ rfl; have b4 := vb 4 _ rfl
    clear va vb
    have HA1 := Lib.hid hA1; clear hb hA1
    go_wp2_with fail
    clear a0 a1 a2 a3 a4 b0 b1 b2 b3 b4
    refine (HVB.out _).mono ?_
    rw [hvB]
    rintro e w2 ⟨rfl, hb⟩
    have hA2 := HA1.out.trans (hb.mono z1)
    have z2 : w.heap.size + 2 ≤ w2.heap.size := by have := hA2.size; simpa using this
    obtain ⟨va, vb⟩ := two_lay hA2
    have a0 := va 0 _ rfl; have a1 := va 1 _ rfl; have a2 := va 2 _ rfl; have a3 := va 3 _ rfl; have a4 := va 4 _ rfl
    have b0 := vb 0 _ rfl; have b1 := vb 1 _ rfl; have b2 := vb 2 _ rfl; have b3 := vb 3 _ rfl; have b4 := vb 4 _ rfl
    clear va vb
    have HA2 := Lib.hid hA2; clear hb hA2
    go_wp2_with fail
    go_ret2
    exact ⟨rfl, HB0.out.trans (HA2.out.mono (by omega))⟩
set_option maxHeartbeats 2000000 in
theorem rcmp_k1 (k n : Int) (x : Nat) (s : ByteArray) (y : Bool) (k2 n2 : Int) (x2 : Nat) (s2 : ByteArray) (y2 : Bool) (w : World) (hk : (k != k2) = false) (hvA : voidB k x = false) (hvB : voidB k2 x2 = false) (h0 : (k == 0) = false) (h1 : (k == 1) = true) (f1 : fnan x = false) (f2 : fnan x2 = false) :
    Calls Tryd.prog 55 #[val k n x s y, val k2 n2 x2 s2 y2] w fun e w' => e = .returned (.tuple #[.int .i64 (sgn (fkey x) (fkey x2)), .bool true]) ∧ Below w.heap.size w w' := by
  have B0 : Below w.heap.size w ((w.alloc (.cells (vals k n x s y) 49)).alloc (.cells (vals k2 n2 x2 s2 y2) 49)) := ((Below.refl _ _).alloc (Nat.le_refl _) _).alloc (by simp) _
  have HB0 := Lib.hid B0; clear B0
  have HVA := Lib.hid (fun W => rvoid_c k n x s y W); have HVB := Lib.hid (fun W => rvoid_c k2 n2 x2 s2 y2 W)
  have tri := fl_tri2 x x2 f1 f2
  clear f1 f2
  generalize sgn (fkey x) (fkey x2) = r at *
  rcases tri with ⟨rfl, l1, l2⟩ | ⟨rfl, l1, l2⟩ | ⟨rfl, l1, l2⟩
  all_goals
    go_enter Tryd.func55, Tryd.ntmps55
    go_wp2_with fail
    refine (HVA.out _).mono ?_
    rw [hvA]
    rintro e w1 ⟨rfl, hb⟩
    have hA1 : Below (w.heap.size + 2) ((w.alloc (.cells (vals k n x s y) 49)).alloc (.cells (vals k2 n2 x2 s2 y2) 49)) w1 := by simpa using hb
    have z1 : w.heap.size + 2 ≤ w1.heap.size := by have := hA1.size; simpa using this
    obtain ⟨va, vb⟩ := two_lay hA1
    have a0 := va 0 _ rfl; have a1 := va 1 _ rfl; have a2 := va 2 _ rfl; have a3 := va 3 _ rfl; have a4 := va 4 _ rfl
    have b0 := vb 0 _ rfl; have b1 := vb 1 _ rfl; have b2 := vb 2 _ rfl; have b3 := vb 3 _ rfl; have b4 := vb 4 _ rfl
    clear va vb
    have HA1 := Lib.hid hA1; clear hb hA1
    go_wp2_with fail
    clear a0 a1 a2 a3 a4 b0 b1 b2 b3 b4
    refine (HVB.out _).mono ?_
    rw [hvB]
    rintro e w2 ⟨rfl, hb⟩
    have hA2 := HA1.out.trans (hb.mono z1)
    have z2 : w.heap.size + 2 ≤ w2.heap.size := by have := hA2.size; simpa using this
    obtain ⟨va, vb⟩ := two_lay hA2
    have a0 := va 0 _ rfl; have a1 := va 1 _ rfl; have a2 := va 2 _ rfl; have a3 := va 3 _ rfl; have a4 := va 4 _ rfl
    have b0 := vb 0 _ rfl; have b1 := vb 1 _ rfl; have b2 := vb 2 _ rfl; have b3 := vb 3 _ rfl; have b4 := vb 4 _ rfl
    clear va vb
    have HA2 := Lib.hid hA2; clear hb hA2
    go_wp2_with fail
    go_ret2
    exact ⟨rfl, HB0.out.trans (HA2.out.mono (by omega))⟩
set_option maxHeartbeats 2000000 in
theorem rcmp_k2 (k n : Int) (x : Nat) (s : ByteArray) (y : Bool) (k2 n2 : Int) (x2 : Nat) (s2 : ByteArray) (y2 : Bool) (w : World) (hk : (k != k2) = false) (hvA : voidB k x = false) (hvB : voidB k2 x2 = false) (h0 : (k == 0) = false) (h1 : (k == 1) = false) (h2 : (k == 2) = true) (hs : s.size ≤ 9223372036854775807) (hs2 : s2.size ≤ 9223372036854775807) :
    Calls Tryd.prog 55 #[val k n x s y, val k2 n2 x2 s2 y2] w fun e w' => e = .returned (.tuple #[.int .i64 (sgs s s2), .bool true]) ∧ Below w.heap.size w w' := by
  have B0 : Below w.heap.size w ((w.alloc (.cells (vals k n x s y) 49)).alloc (.cells (vals k2 n2 x2 s2 y2) 49)) := ((Below.refl _ _).alloc (Nat.le_refl _) _).alloc (by simp) _
  have HB0 := Lib.hid B0; clear B0
  have HVA := Lib.hid (fun W => rvoid_c k n x s y W); have HVB := Lib.hid (fun W => rvoid_c k2 n2 x2 s2 y2 W)
  have HTX := Lib.hid (fun W => texts_c s s2 hs hs2 W); clear hs hs2
  go_enter Tryd.func55, Tryd.ntmps55
  go_wp2_with fail
  refine (HVA.out _).mono ?_
  rw [hvA]
  rintro e w1 ⟨rfl, hb⟩
  have hA1 : Below (w.heap.size + 2) ((w.alloc (.cells (vals k n x s y) 49)).alloc (.cells (vals k2 n2 x2 s2 y2) 49)) w1 := by simpa using hb
  have z1 : w.heap.size + 2 ≤ w1.heap.size := by have := hA1.size; simpa using this
  obtain ⟨va, vb⟩ := two_lay hA1
  have a0 := va 0 _ rfl; have a1 := va 1 _ rfl; have a2 := va 2 _ rfl; have a3 := va 3 _ rfl; have a4 := va 4 _ rfl
  have b0 := vb 0 _ rfl; have b1 := vb 1 _ rfl; have b2 := vb 2 _ rfl; have b3 := vb 3 _ rfl; have b4 := vb 4 _ rfl
  clear va vb
  have HA1 := Lib.hid hA1; clear hb hA1
  go_wp2_with fail
  clear a0 a1 a2 a3 a4 b0 b1 b2 b3 b4
  refine (HVB.out _).mono ?_
  rw [hvB]
  rintro e w2 ⟨rfl, hb⟩
  have hA2 := HA1.out.trans (hb.mono z1)
  have z2 : w.heap.size + 2 ≤ w2.heap.size := by have := hA2.size; simpa using this
  obtain ⟨va, vb⟩ := two_lay hA2
  have a0 := va 0 _ rfl; have a1 := va 1 _ rfl; have a2 := va 2 _ rfl; have a3 := va 3 _ rfl; have a4 := va 4 _ rfl
  have b0 := vb 0 _ rfl; have b1 := vb 1 _ rfl; have b2 := vb 2 _ rfl; have b3 := vb 3 _ rfl; have b4 := vb 4 _ rfl
  clear va vb
  have HA2 := Lib.hid hA2; clear hb hA2
  go_wp2_with fail
  clear a0 a1 a2 a3 a4 b0 b1 b2 b3 b4
  refine (HTX.out _).mono ?_
  rintro e w3 ⟨rfl, hb⟩
  have HA3 := Lib.hid (HA2.out.trans (hb.mono z2)); clear hb
  go_wp2_with fail
  go_ret2
  exact ⟨rfl, HB0.out.trans (HA3.out.mono (by omega))⟩
set_option maxHeartbeats 2000000 in
theorem rcmp_k3_tt (k n : Int) (x : Nat) (s : ByteArray) (k2 n2 : Int) (x2 : Nat) (s2 : ByteArray) (w : World) (hk : (k != k2) = false) (hvA : voidB k x = false) (hvB : voidB k2 x2 = false) (h0 : (k == 0) = false) (h1 : (k == 1) = false) (h2 : (k == 2) = false) :
    Calls Tryd.prog 55 #[val k n x s true, val k2 n2 x2 s2 true] w fun e w' => e = .returned (.tuple #[.int .i64 (0), .bool true]) ∧ Below w.heap.size w w' := by
  have B0 : Below w.heap.size w ((w.alloc (.cells (vals k n x s true) 49)).alloc (.cells (vals k2 n2 x2 s2 true) 49)) := ((Below.refl _ _).alloc (Nat.le_refl _) _).alloc (by simp) _
  have HB0 := Lib.hid B0; clear B0
  have HVA := Lib.hid (fun W => rvoid_c k n x s true W); have HVB := Lib.hid (fun W => rvoid_c k2 n2 x2 s2 true W)
  go_enter Tryd.func55, Tryd.ntmps55
  go_wp2_with fail
  refine (HVA.out _).mono ?_
  rw [hvA]
  rintro e w1 ⟨rfl, hb⟩
  have hA1 : Below (w.heap.size + 2) ((w.alloc (.cells (vals k n x s true) 49)).alloc (.cells (vals k2 n2 x2 s2 true) 49)) w1 := by simpa using hb
  have z1 : w.heap.size + 2 ≤ w1.heap.size := by have := hA1.size; simpa using this
  obtain ⟨va, vb⟩ := two_lay hA1
  have a0 := va 0 _ rfl; have a1 := va 1 _ rfl; have a2 := va 2 _ rfl; have a3 := va 3 _ rfl; have a4 := va 4 _ rfl
  have b0 := vb 0 _ rfl; have b1 := vb 1 _ rfl; have b2 := vb 2 _ rfl; have b3 := vb 3 _ rfl; have b4 := vb 4 _ rfl
  clear va vb
  have HA1 := Lib.hid hA1; clear hb hA1
  go_wp2_with fail
  clear a0 a1 a2 a3 a4 b0 b1 b2 b3 b4
  refine (HVB.out _).mono ?_
  rw [hvB]
  rintro e w2 ⟨rfl, hb⟩
  have hA2 := HA1.out.trans (hb.mono z1)
  have z2 : w.heap.size + 2 ≤ w2.heap.size := by have := hA2.size; simpa using this
  obtain ⟨va, vb⟩ := two_lay hA2
  have a0 := va 0 _ rfl; have a1 := va 1 _ rfl; have a2 := va 2 _ rfl; have a3 := va 3 _ rfl; have a4 := va 4 _ rfl
  have b0 := vb 0 _ rfl; have b1 := vb 1 _ rfl; have b2 := vb 2 _ rfl; have b3 := vb 3 _ rfl; have b4 := vb 4 _ rfl
  clear va vb
  have HA2 := Lib.hid hA2; clear hb hA2
  go_wp2_with fail
  go_ret2
  exact ⟨rfl, HB0.out.trans (HA2.out.mono (by omega))⟩
set_option maxHeartbeats 2000000 in
theorem rcmp_k3_tf (k n : Int) (x : Nat) (s : ByteArray) (k2 n2 : Int) (x2 : Nat) (s2 : ByteArray) (w : World) (hk : (k != k2) = false) (hvA : voidB k x = false) (hvB : voidB k2 x2 = false) (h0 : (k == 0) = false) (h1 : (k == 1) = false) (h2 : (k == 2) = false) :
    Calls Tryd.prog 55 #[val k n x s true, val k2 n2 x2 s2 false] w fun e w' => e = .returned (.tuple #[.int .i64 (1), .bool true]) ∧ Below w.heap.size w w' := by
  have B0 : Below w.heap.size w ((w.alloc (.cells (vals k n x s true) 49)).alloc (.cells (vals k2 n2 x2 s2 false) 49)) := ((Below.refl _ _).alloc (Nat.le_refl _) _).alloc (by simp) _
  have HB0 := Lib.hid B0; clear B0
  have HVA := Lib.hid (fun W => rvoid_c k n x s true W); have HVB := Lib.hid (fun W => rvoid_c k2 n2 x2 s2 false W)
  go_enter Tryd.func55, Tryd.ntmps55
  go_wp2_with fail
  refine (HVA.out _).mono ?_
  rw [hvA]
  rintro e w1 ⟨rfl, hb⟩
  have hA1 : Below (w.heap.size + 2) ((w.alloc (.cells (vals k n x s true) 49)).alloc (.cells (vals k2 n2 x2 s2 false) 49)) w1 := by simpa using hb
  have z1 : w.heap.size + 2 ≤ w1.heap.size := by have := hA1.size; simpa using this
  obtain ⟨va, vb⟩ := two_lay hA1
  have a0 := va 0 _ rfl; have a1 := va 1 _ rfl; have a2 := va 2 _ rfl; have a3 := va 3 _ rfl; have a4 := va 4 _ rfl
  have b0 := vb 0 _ rfl; have b1 := vb 1 _ rfl; have b2 := vb 2 _ rfl; have b3 := vb 3 _ rfl; have b4 := vb 4 _ rfl
  clear va vb
  have HA1 := Lib.hid hA1; clear hb hA1
  go_wp2_with fail
  clear a0 a1 a2 a3 a4 b0 b1 b2 b3 b4
  refine (HVB.out _).mono ?_
  rw [hvB]
  rintro e w2 ⟨rfl, hb⟩
  have hA2 := HA1.out.trans (hb.mono z1)
  have z2 : w.heap.size + 2 ≤ w2.heap.size := by have := hA2.size; simpa using this
  obtain ⟨va, vb⟩ := two_lay hA2
  have a0 := va 0 _ rfl; have a1 := va 1 _ rfl; have a2 := va 2 _ rfl; have a3 := va 3 _ rfl; have a4 := va 4 _ rfl
  have b0 := vb 0 _ rfl; have b1 := vb 1 _ rfl; have b2 := vb 2 _ rfl; have b3 := vb 3 _ rfl; have b4 := vb 4 _ rfl
  clear va vb
  have HA2 := Lib.hid hA2; clear hb hA2
  go_wp2_with fail
  go_ret2
  exact ⟨rfl, HB0.out.trans (HA2.out.mono (by omega))⟩
set_option maxHeartbeats 2000000 in
theorem rcmp_k3_ft (k n : Int) (x : Nat) (s : ByteArray) (k2 n2 : Int) (x2 : Nat) (s2 : ByteArray) (w : World) (hk : (k != k2) = false) (hvA : voidB k x = false) (hvB : voidB k2 x2 = false) (h0 : (k == 0) = false) (h1 : (k == 1) = false) (h2 : (k == 2) = false) :
    Calls Tryd.prog 55 #[val k n x s false, val k2 n2 x2 s2 true] w fun e w' => e = .returned (.tuple #[.int .i64 (-1), .bool true]) ∧ Below w.heap.size w w' := by
  have B0 : Below w.heap.size w ((w.alloc (.cells (vals k n x s false) 49)).alloc (.cells (vals k2 n2 x2 s2 true) 49)) := ((Below.refl _ _).alloc (Nat.le_refl _) _).alloc (by simp) _
  have HB0 := Lib.hid B0; clear B0
  have HVA := Lib.hid (fun W => rvoid_c k n x s false W); have HVB := Lib.hid (fun W => rvoid_c k2 n2 x2 s2 true W)
  go_enter Tryd.func55, Tryd.ntmps55
  go_wp2_with fail
  refine (HVA.out _).mono ?_
  rw [hvA]
  rintro e w1 ⟨rfl, hb⟩
  have hA1 : Below (w.heap.size + 2) ((w.alloc (.cells (vals k n x s false) 49)).alloc (.cells (vals k2 n2 x2 s2 true) 49)) w1 := by simpa using hb
  have z1 : w.heap.size + 2 ≤ w1.heap.size := by have := hA1.size; simpa using this
  obtain ⟨va, vb⟩ := two_lay hA1
  have a0 := va 0 _ rfl; have a1 := va 1 _ rfl; have a2 := va 2 _ rfl; have a3 := va 3 _ rfl; have a4 := va 4 _ rfl
  have b0 := vb 0 _ rfl; have b1 := vb 1 _ rfl; have b2 := vb 2 _ rfl; have b3 := vb 3 _ rfl; have b4 := vb 4 _ rfl
  clear va vb
  have HA1 := Lib.hid hA1; clear hb hA1
  go_wp2_with fail
  clear a0 a1 a2 a3 a4 b0 b1 b2 b3 b4
  refine (HVB.out _).mono ?_
  rw [hvB]
  rintro e w2 ⟨rfl, hb⟩
  have hA2 := HA1.out.trans (hb.mono z1)
  have z2 : w.heap.size + 2 ≤ w2.heap.size := by have := hA2.size; simpa using this
  obtain ⟨va, vb⟩ := two_lay hA2
  have a0 := va 0 _ rfl; have a1 := va 1 _ rfl; have a2 := va 2 _ rfl; have a3 := va 3 _ rfl; have a4 := va 4 _ rfl
  have b0 := vb 0 _ rfl; have b1 := vb 1 _ rfl; have b2 := vb 2 _ rfl; have b3 := vb 3 _ rfl; have b4 := vb 4 _ rfl
  clear va vb
  have HA2 := Lib.hid hA2; clear hb hA2
  go_wp2_with fail
  go_ret2
  exact ⟨rfl, HB0.out.trans (HA2.out.mono (by omega))⟩
set_option maxHeartbeats 2000000 in
theorem rcmp_k3_ff (k n : Int) (x : Nat) (s : ByteArray) (k2 n2 : Int) (x2 : Nat) (s2 : ByteArray) (w : World) (hk : (k != k2) = false) (hvA : voidB k x = false) (hvB : voidB k2 x2 = false) (h0 : (k == 0) = false) (h1 : (k == 1) = false) (h2 : (k == 2) = false) :
    Calls Tryd.prog 55 #[val k n x s false, val k2 n2 x2 s2 false] w fun e w' => e = .returned (.tuple #[.int .i64 (0), .bool true]) ∧ Below w.heap.size w w' := by
  have B0 : Below w.heap.size w ((w.alloc (.cells (vals k n x s false) 49)).alloc (.cells (vals k2 n2 x2 s2 false) 49)) := ((Below.refl _ _).alloc (Nat.le_refl _) _).alloc (by simp) _
  have HB0 := Lib.hid B0; clear B0
  have HVA := Lib.hid (fun W => rvoid_c k n x s false W); have HVB := Lib.hid (fun W => rvoid_c k2 n2 x2 s2 false W)
  go_enter Tryd.func55, Tryd.ntmps55
  go_wp2_with fail
  refine (HVA.out _).mono ?_
  rw [hvA]
  rintro e w1 ⟨rfl, hb⟩
  have hA1 : Below (w.heap.size + 2) ((w.alloc (.cells (vals k n x s false) 49)).alloc (.cells (vals k2 n2 x2 s2 false) 49)) w1 := by simpa using hb
  have z1 : w.heap.size + 2 ≤ w1.heap.size := by have := hA1.size; simpa using this
  obtain ⟨va, vb⟩ := two_lay hA1
  have a0 := va 0 _ rfl; have a1 := va 1 _ rfl; have a2 := va 2 _ rfl; have a3 := va 3 _ rfl; have a4 := va 4 _ rfl
  have b0 := vb 0 _ rfl; have b1 := vb 1 _ rfl; have b2 := vb 2 _ rfl; have b3 := vb 3 _ rfl; have b4 := vb 4 _ rfl
  clear va vb
  have HA1 := Lib.hid hA1; clear hb hA1
  go_wp2_with fail
  clear a0 a1 a2 a3 a4 b0 b1 b2 b3 b4
  refine (HVB.out _).mono ?_
  rw [hvB]
  rintro e w2 ⟨rfl, hb⟩
  have hA2 := HA1.out.trans (hb.mono z1)
  have z2 : w.heap.size + 2 ≤ w2.heap.size := by have := hA2.size; simpa using this
  obtain ⟨va, vb⟩ := two_lay hA2
  have a0 := va 0 _ rfl; have a1 := va 1 _ rfl; have a2 := va 2 _ rfl; have a3 := va 3 _ rfl; have a4 := va 4 _ rfl
  have b0 := vb 0 _ rfl; have b1 := vb 1 _ rfl; have b2 := vb 2 _ rfl; have b3 := vb 3 _ rfl; have b4 := vb 4 _ rfl
  clear va vb
  have HA2 := Lib.hid hA2; clear hb hA2
  go_wp2_with fail
  go_ret2
  exact ⟨rfl, HB0.out.trans (HA2.out.mono (by omega))⟩
theorem rcmp_k3 (k n : Int) (x : Nat) (s : ByteArray) (y : Bool) (k2 n2 : Int) (x2 : Nat) (s2 : ByteArray) (y2 : Bool) (w : World) (hk : (k != k2) = false) (hvA : voidB k x = false) (hvB : voidB k2 x2 = false) (h0 : (k == 0) = false) (h1 : (k == 1) = false) (h2 : (k == 2) = false) :
    Calls Tryd.prog 55 #[val k n x s y, val k2 n2 x2 s2 y2] w fun e w' => e = .returned (.tuple #[.int .i64 (sgn (b01 y) (b01 y2)), .bool true]) ∧ Below w.heap.size w w' := by
  cases y <;> cases y2
  · exact rcmp_k3_ff k n x s k2 n2 x2 s2 w hk hvA hvB h0 h1 h2
  · exact rcmp_k3_ft k n x s k2 n2 x2 s2 w hk hvA hvB h0 h1 h2
  · exact rcmp_k3_tf k n x s k2 n2 x2 s2 w hk hvA hvB h0 h1 h2
  · exact rcmp_k3_tt k n x s k2 n2 x2 s2 w hk hvA hvB h0 h1 h2
theorem rcompare_c (k n : Int) (x : Nat) (s : ByteArray) (y : Bool) (k2 n2 : Int) (x2 : Nat) (s2 : ByteArray) (y2 : Bool) (_ : x < 18446744073709551616) (_ : x2 < 18446744073709551616) (hs : s.size ≤ 9223372036854775807) (hs2 : s2.size ≤ 9223372036854775807) (w : World) :
    Calls Tryd.prog 55 #[val k n x s y, val k2 n2 x2 s2 y2] w fun e w' => e = .returned (.tuple #[.int .i64 (cmpR k n x s y k2 n2 x2 s2 y2), .bool (cmpOk k x k2 x2)]) ∧ Below w.heap.size w w' := by
  unfold cmpR
  by_cases hk : k = k2
  · subst hk
    have hkk : (k != k) = false := by simp
    cases h1 : voidB k x
    · cases h2 : voidB k x2
      · have e1 : cmpOk k x k x2 = true := by simp [cmpOk, h1, h2]
        rw [e1, if_pos rfl]
        unfold cmpV
        cases q0 : (k == 0)
        · cases q1 : (k == 1)
          · cases q2 : (k == 2)
            · exact rcmp_k3 k n x s y k n2 x2 s2 y2 w hkk h1 h2 q0 q1 q2
            · exact rcmp_k2 k n x s y k n2 x2 s2 y2 w hkk h1 h2 q0 q1 q2 hs hs2
          · have f1 : fnan x = false := by unfold voidB at h1; rw [q1] at h1; simpa using h1
            have f2 : fnan x2 = false := by unfold voidB at h2; rw [q1] at h2; simpa using h2
            exact rcmp_k1 k n x s y k n2 x2 s2 y2 w hkk h1 h2 q0 q1 f1 f2
        · exact rcmp_k0 k n x s y k n2 x2 s2 y2 w hkk h1 h2 q0
      · have e1 : cmpOk k x k x2 = false := by simp [cmpOk, h1, h2]
        rw [e1, if_neg Bool.false_ne_true]
        exact rcmp_vb k n x s y k n2 x2 s2 y2 w hkk h1 h2
    · have e1 : cmpOk k x k x2 = false := by simp [cmpOk, h1]
      rw [e1, if_neg Bool.false_ne_true]
      exact rcmp_va k n x s y k n2 x2 s2 y2 w hkk h1
  · have e1 : cmpOk k x k2 x2 = false := by simp [cmpOk, hk]
    rw [e1, if_neg Bool.false_ne_true]
    exact rcmp_ne k n x s y k2 n2 x2 s2 y2 w (by simp [hk])
end Go.Proofs.YtjnfbinomljocaaDoor
