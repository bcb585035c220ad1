/- CodecEvents: events come back from their bytes; what is cut off, or stands behind, makes them none. -/
import Derived.Test.YtnpbnjddlchmcaaNewC
import Derived.Test.YtnpbnjddlchmcaaOpenN
namespace Go.Proofs.Ytnpbnjddlchmcaa
open Go.RowKit Go.Shelf Go.Sort
open Go.Proofs
set_option maxRecDepth 100000
attribute [local go_sem ↓] append_pre

theorem and_16 (n : Int) : ∃ m : Nat, m < 65536 ∧ bits .and .i64 n 65535 = m := by
  have h : ∃ m : Nat, m < 65536 ∧ bits .and .i64 n 65535 = IntKind.i64.wrap m := by
    refine ⟨((BitVec.ofInt 64 n) &&& (BitVec.ofInt 64 65535)).toNat, ?_, rfl⟩
    rw [BitVec.toNat_and, show (BitVec.ofInt 64 65535).toNat = 2 ^ 16 - 1 from by decide, Nat.and_two_pow_sub_one_eq_mod]
    omega
  obtain ⟨m, hm, h⟩ := h
  exact ⟨m, hm, by rw [h, IntKind.wrap_i64]; omega⟩
theorem encE_pos (sc : ByteArray) (es : List At) : 0 < (encE sc es).length := by
  simp [encE, encT]

/-- Bytes copied onto nothing, and one behind them. -/
theorem copy_more (w : World) (ao : Option Addr) (cap : Nat) (l : List UInt8) (hb : BytesB w w.heap.size ao l) (hl : l.length < 1000000) (hp : 0 < l.length) :
    ∃ ao1 cap1 w1, Sem.run Try.prog (appendS #[29, 29] 29 #[.slice none 0 0, .slice ao l.length cap]) w = .ok (.slice ao1 l.length cap1) w1 ∧
      ∃ ao2 cap2 w2, Sem.run Try.prog (appendS #[29, 29] 29 #[.slice ao1 l.length cap1, .slice (some ⟨w1.heap.size, 0, none⟩) 1 1]) (w1.alloc (.cells #[.int .u8 0] 5)) = .ok (.slice ao2 (l.length + 1) cap2) w2 ∧
        Aside (BytesB w2 w2.heap.size ao2 (l ++ [0]) ∧ l.length + 1 ≤ cap2 ∧ Below w.heap.size w w2) := by
  obtain ⟨i0, z0, hi, hz0, hz1, hz2, hz3⟩ := u8_info
  rcases hb with h | ⟨b, off, rfl, _, h3, h4⟩
  · rw [h] at hp; simp at hp
  have hnews : ∀ j u, (l.map encB)[j]? = some u → w.cell? ((⟨b, off, none⟩ : Addr).add j) = some u := fun j u hj => by
    rw [List.getElem?_map] at hj
    cases hlj : l[j]? with
    | none => rw [hlj] at hj; cases hj
    | some c =>
      rw [hlj] at hj
      injection hj with hj
      have := h4 j (List.getElem?_eq_some_iff.1 hlj).1
      rw [List.getD_eq_getElem?_getD, hlj] at this
      rw [Addr.add_lit, this, ← hj]; rfl
  obtain ⟨v1, w1, hrun1, hown1, hg1, _⟩ := run_append_own (P := Try.prog) w w.heap.size 29 29 5 i0 z0 1 1 Try.underlying29 hi hz0 hz1 hz2 hz3 (by decide) _ _ _ (World.ownsRow_nil w w.heap.size 5 1) ⟨b, off, none⟩ l.length cap (l.map encB) (by simp) hnews (encB_one l) (by unfold maxLen; omega) (by omega) (Nat.le_refl _)
  rw [Nat.zero_add, List.nil_append] at hown1
  obtain ⟨ao1, cap1, rfl, _⟩ := row1_slice hown1
  have hb1 : Below w.heap.size w w1 := (Below.refl _ _).grown hg1 (Nat.le_refl _) (fun k e => by simp [Value.ownBlock] at e)
  have hown2 : (w1.alloc (.cells #[.int .u8 0] 5)).ownsRow w.heap.size 5 1 (.slice ao1 l.length cap1) l.length (l.map encB) := hown1.alloc _
  obtain ⟨v2, w2, hrun2, hown3, hg2, _⟩ := run_append_own (P := Try.prog) (w1.alloc (.cells #[.int .u8 0] 5)) w.heap.size 29 29 5 i0 z0 1 1 Try.underlying29 hi hz0 hz1 hz2 hz3 (by decide) _ _ _ hown2 ⟨w1.heap.size, 0, none⟩ 1 1 ([(0 : UInt8)].map encB) (by simp) (one_news w1 0 5) (encB_one _) (by unfold maxLen; omega) (by omega) (by have := hb1.size; simp; omega)
  rw [← List.map_append] at hown3
  obtain ⟨ao2, cap2, rfl, _⟩ := row1_slice hown3
  have hown4 : w2.ownsRow w.heap.size 5 1 (.slice ao2 (l ++ [0]).length cap2) (l ++ [0]).length ((l ++ [0]).map encB) := by simpa using hown3
  obtain ⟨q1, q2, _⟩ := own1_bytes hown4
  exact ⟨ao1, cap1, w1, hrun1, ao2, cap2, w2, hrun2, q1, by simpa using q2, (hb1.alloc hb1.size _).grown hg2 (by have := hb1.size; simp; omega) (fun k e => (hown2.lt k e).1)⟩

set_option maxHeartbeats 8000000 in
theorem codecEvents_c (ao : Option Addr) (cap : Nat) (l : List At) (s : ByteArray) (n : Int) (w : World) (hl : SliceA w ao l) (ho : ∀ a ∈ l, AtOk a ∧ -9223372036854775808 ≤ a.n ∧ a.n ≤ 9223372036854775807) (hlen : l.length ≤ 9223372036854775807) :
    Calls Try.prog 3 #[.slice ao l.length cap, .string s, .int .i64 n] w fun e w' => e = .returned (.bool true) ∧ Below w.heap.size w w' := by
  have HS : Aside (SliceA w ao l) := hl
  have HO : Aside (∀ a ∈ l, AtOk a ∧ -9223372036854775808 ≤ a.n ∧ a.n ≤ 9223372036854775807) := ho
  have HLI : Aside (∀ W, SliceA W ao l → Calls Try.prog 12 #[.slice ao l.length cap] W fun e w' => e = .returned (.bool (lightB l)) ∧ Below W.heap.size W w') := fun W h => light_c ao cap l W h hlen
  have HNW : Aside (∀ W, SliceA W ao l → l.length ≤ 39 → Calls Try.prog 13 #[.string s, .slice ao l.length cap] W fun e w' => ∃ (G : Nat) (res : List At), e = .returned (.agg #[.string s, .slice (some ⟨G, 0, none⟩) res.length l.length]) ∧
      Aside (W.heap.size ≤ G ∧ G < w'.heap.size ∧ RowAt w' G 0 res ∧ NewOf l res ∧ Below W.heap.size W w')) := fun W h h2 => new_c s ao cap l h2 W h
  clear hl ho
  obtain ⟨len, hL⟩ : ∃ len, len = l.length := ⟨_, rfl⟩
  have HLen : Aside (len = l.length) := hL
  rw [← hL] at HLI HNW hlen ⊢
  clear hL
  go_enter Try.func3, Try.ntmps3
  go_wp2_with fail
  refine (fit4_c w).mono ?_
  rintro e w1 ⟨rfl, hb1⟩
  have HB1 : Aside (Below w.heap.size w w1) := hb1
  clear hb1
  go_wp2_with fail
  refine (HLI.out w1 (HS.out.under HB1.out)).mono ?_
  rintro e w2 ⟨rfl, hb2⟩
  have HB2 : Aside (Below w.heap.size w w2) := HB1.out.trans (hb2.mono HB1.out.size)
  clear hb2 HB1 HLI
  cases hli : lightB l
  · go_wp2_with fail
    go_ret
    exact ⟨rfl, HB2.out⟩
  have hl30 : len ≤ 30 := by rw [HLen.out]; exact light_len4 hli
  by_cases hnm : (255 : Int) < (s.size : Int)
  · go_wp2_with fail
    go_ret
    exact ⟨rfl, HB2.out⟩
  have hs255 : s.size ≤ 255 := by omega
  have HS255 := Lib.hid hs255
  go_wp2_with fail
  refine (HNW.out w2 (HS.out.under HB2.out) (by omega)).mono ?_
  rintro e w3 ⟨G, res, rfl, hA⟩
  obtain ⟨hG1, hG2, hrow, hno, hb3⟩ := hA.out
  have HB3 : Aside (Below w.heap.size w w3) := HB2.out.trans (hb3.mono HB2.out.size)
  have hGd : rightE res = true → Good4 res := fun h => good_new hno HO.out h
  have HGd := Lib.hid hGd
  have HRow : Aside (RowAt w3 G 0 res) := hrow
  clear hrow hno hb3 hA HNW hnm hG1 HB2 hGd hs255 hli
  obtain ⟨rl, hrle⟩ : ∃ rl, rl = res.length := ⟨_, rfl⟩
  have HRL : Aside (rl = res.length) := hrle
  rw [← hrle]
  clear hrle
  go_wp2_with fail
  have hz3 := HB3.out.size
  have HB4 : Aside (Below w.heap.size w (w3.alloc (.cells #[.string s, .slice (some ⟨G, 0, none⟩) rl len] 26))) := HB3.out.alloc hz3 _
  have hb34 : Below w3.heap.size w3 (w3.alloc (.cells #[.string s, .slice (some ⟨G, 0, none⟩) rl len] 26)) := (Below.refl _ _).alloc (Nat.le_refl _) _
  have HSL : Aside (∀ W, Below (w3.alloc (.cells #[.string s, .slice (some ⟨G, 0, none⟩) rl len] 26)).heap.size (w3.alloc (.cells #[.string s, .slice (some ⟨G, 0, none⟩) rl len] 26)) W → G < W.heap.size ∧ RowAt W G 0 res) := fun W hW => by
    have hbW : Below w3.heap.size w3 W := hb34.trans (hW.mono hb34.size)
    exact ⟨Nat.lt_of_lt_of_le hG2 hbW.size, RowAt.below hbW hG2 HRow.out⟩
  have e0 := World.cell?_alloc_new w3 #[.string s, .slice (some ⟨G, 0, none⟩) rl len] 26 0
  have e1 := World.cell?_alloc_new w3 #[.string s, .slice (some ⟨G, 0, none⟩) rl len] 26 1
  simp only [List.getElem?_toArray, List.getElem?_cons_zero, List.getElem?_cons_succ] at e0 e1
  have hzE : w3.heap.size < (w3.alloc (.cells #[.string s, .slice (some ⟨G, 0, none⟩) rl len] 26)).heap.size := by simp
  clear hb34 HRow hG2 hz3 HB3
  generalize (w3.alloc (.cells #[.string s, .slice (some ⟨G, 0, none⟩) rl len] 26)) = w4 at *
  generalize w3.heap.size = E at *
  have hR := right_c s (some ⟨G, 0, none⟩) len res w4 (Or.inr ⟨G, 0, rfl, (HSL.out w4 (Below.refl _ _)).1, (HSL.out w4 (Below.refl _ _)).2⟩)
  rw [← HRL.out] at hR
  refine hR.mono ?_
  rintro e w5 ⟨rfl, hb5⟩
  have HB5 : Aside (Below w.heap.size w w5) := HB4.out.trans (hb5.mono HB4.out.size)
  have HB45 : Aside (Below w4.heap.size w4 w5) := hb5
  have f0 := (hb5.cell (p := ⟨E, 0, none⟩) hzE).trans e0
  have f1 := (hb5.cell (p := ⟨E, 1, none⟩) hzE).trans e1
  clear hR hb5 e0 e1
  cases hre : rightE res
  · go_wp2_with fail
    go_ret
    exact ⟨rfl, HB5.out⟩
  have hgood := HGd.out hre
  have HG4 : Aside (Good4 res) := hgood
  have HRE : Aside (rightE res = true) := hre
  have hce := codecEvent_c s (some ⟨G, 0, none⟩) len res w5 (Or.inr ⟨G, 0, rfl, (HSL.out w5 HB45.out).1, (HSL.out w5 HB45.out).2⟩) hgood.tell HS255.out hgood.len
  rw [← HRL.out] at hce
  have HEnc : Aside (evOf (encE s res) = some (s, res)) := evOf_enc s res HS255.out hgood.len hgood.can hre
  have HLess : Aside (∀ q, q < (encE s res).length → evOf ((encE s res).take q) = none) := fun q hq => evOf_less s res q hq HS255.out hgood.len hgood.can hre
  have HMore : Aside (evOf (encE s res ++ [0]) = none) := evOf_more s res 0 HS255.out hgood.len hgood.can hre
  have hpos := encE_pos s res
  have hbig : (encE s res).length < 900000 := by
    have h1 := encAts_len res hgood.tell
    have := hgood.len
    have := HS255.out
    simp only [encE, List.length_append, encT_len, List.length_cons]; omega
  obtain ⟨bs, hbs⟩ : ∃ bs, bs = encE s res := ⟨_, rfl⟩
  rw [← hbs] at hce HEnc HLess HMore hpos hbig
  obtain ⟨L, hL⟩ : ∃ L, L = bs.length := ⟨_, rfl⟩
  have HLL : Aside (L = bs.length) := hL
  rw [← hL] at hce HLess hpos hbig
  have HCE := Lib.hid hce
  clear hbs hL hgood hre hce HGd
  go_wp2_with fail
  refine HCE.out.mono ?_
  rintro e w6 ⟨aoB, capB, rfl, hA6⟩
  have hown := hA6.out.1
  rw [HLL.out] at hown
  obtain ⟨hby, hLc, _⟩ := own1_bytes hown
  rw [← HLL.out] at hLc
  have HBy : Aside (BytesB w6 w6.heap.size aoB bs) := hby
  have HB6 : Aside (Below w.heap.size w w6) := HB5.out.trans (hA6.out.2.mono HB5.out.size)
  have HB46 : Aside (Below w4.heap.size w4 w6) := HB45.out.trans (hA6.out.2.mono HB45.out.size)
  have hE5 : E < w5.heap.size := Nat.lt_of_lt_of_le hzE HB45.out.size
  have g0 := (hA6.out.2.cell (p := ⟨E, 0, none⟩) hE5).trans f0
  have g1 := (hA6.out.2.cell (p := ⟨E, 1, none⟩) hE5).trans f1
  have hE6 : E < w6.heap.size := Nat.lt_of_lt_of_le hE5 hA6.out.2.size
  clear hown hby hA6 f0 f1 hE5 HB5 HB45 HCE
  -- the event of these bytes
  have h7 := readEvent_c aoB capB bs w6 (by rw [← HLL.out]; exact hLc) HBy.out
  rw [HEnc.out, ← HLL.out] at h7
  have H7 := Lib.hid h7
  clear h7
  go_wp2_with fail
  refine H7.out.mono ?_
  rintro e w7 ⟨hb7, ao7, cap7, he7, hsl7⟩
  rw [← HRL.out] at he7
  subst he7
  have HB7 : Aside (Below w.heap.size w w7) := HB6.out.trans (hb7.mono HB6.out.size)
  have HBy7 : Aside (BytesB w7 w6.heap.size aoB bs) := HBy.out.under hb7
  have h0 := (hb7.cell (p := ⟨E, 0, none⟩) hE6).trans g0
  have h1 := (hb7.cell (p := ⟨E, 1, none⟩) hE6).trans g1
  have hE7 : E < w7.heap.size := Nat.lt_of_lt_of_le hE6 hb7.size
  have HSL7 : Aside (SliceA w7 ao7 res) := hsl7
  have HB47 : Aside (Below w4.heap.size w4 w7) := HB46.out.trans (hb7.mono HB46.out.size)
  have hs67 := hb7.size
  clear hb7 hsl7 g0 g1 HBy HB6 HB46 H7
  obtain ⟨m, hm, hand⟩ := and_16 n
  have hmz : (0 : Int) ≤ (m : Int) := by omega
  have hLz : (0 : Int) < (L : Int) := by omega
  obtain ⟨q, hq⟩ : ∃ q, q = m % L := ⟨_, rfl⟩
  have hqL : q < L := by rw [hq]; exact Nat.mod_lt _ hpos
  have hmod : (m : Int) % (L : Int) = (q : Int) := by rw [hq]; omega
  have hq0 : (0 : Int) ≤ (q : Int) := by omega
  have hqc : (q : Int) ≤ (capB : Int) := by omega
  clear hq
  go_wp2_with fail
  have HB8 : Aside (Below w.heap.size w (w7.alloc (.cells #[.string s, .slice ao7 rl cap7] 26))) := HB7.out.alloc HB7.out.size _
  have hb78 : Below w7.heap.size w7 (w7.alloc (.cells #[.string s, .slice ao7 rl cap7] 26)) := (Below.refl _ _).alloc (Nat.le_refl _) _
  have HB48 : Aside (Below w4.heap.size w4 (w7.alloc (.cells #[.string s, .slice ao7 rl cap7] 26))) := HB47.out.alloc HB47.out.size _
  have HBy8 : Aside (BytesB (w7.alloc (.cells #[.string s, .slice ao7 rl cap7] 26)) w6.heap.size aoB bs) := HBy7.out.under (hb78.mono hs67)
  have HSL8 : Aside (SliceA (w7.alloc (.cells #[.string s, .slice ao7 rl cap7] 26)) ao7 res) := HSL7.out.under hb78
  have k0 := (hb78.cell (p := ⟨E, 0, none⟩) hE7).trans h0
  have k1 := (hb78.cell (p := ⟨E, 1, none⟩) hE7).trans h1
  have j0 := World.cell?_alloc_new w7 #[.string s, .slice ao7 rl cap7] 26 0
  have j1 := World.cell?_alloc_new w7 #[.string s, .slice ao7 rl cap7] 26 1
  simp only [List.getElem?_toArray, List.getElem?_cons_zero, List.getElem?_cons_succ] at j0 j1
  have hF8 : w7.heap.size < (w7.alloc (.cells #[.string s, .slice ao7 rl cap7] 26)).heap.size := by simp
  have hE8 : E < (w7.alloc (.cells #[.string s, .slice ao7 rl cap7] 26)).heap.size := by simp; omega
  have h68 : w6.heap.size ≤ (w7.alloc (.cells #[.string s, .slice ao7 rl cap7] 26)).heap.size := by simp; omega
  clear h0 h1 hE7 HB7 HB47 HBy7 HSL7 hb78 hs67
  generalize (w7.alloc (.cells #[.string s, .slice ao7 rl cap7] 26)) = w8 at *
  generalize w7.heap.size = F at *
  have hql : (bs.take q).length = q := by rw [List.length_take, ← HLL.out]; omega
  have h9 := readEvent_c aoB capB (bs.take q) w8 (by omega) ((HBy8.out.more h68).take q)
  rw [hql, HLess.out q hqL] at h9
  refine h9.mono ?_
  rintro e w9 ⟨hb9, rfl⟩
  have HB9 : Aside (Below w.heap.size w w9) := HB8.out.trans (hb9.mono HB8.out.size)
  have HB49 : Aside (Below w4.heap.size w4 w9) := HB48.out.trans (hb9.mono HB48.out.size)
  have HBy9 : Aside (BytesB w9 w6.heap.size aoB bs) := HBy8.out.under (hb9.mono h68)
  have HSL9 : Aside (SliceA w9 ao7 res) := HSL8.out.under hb9
  have l0 := (hb9.cell (p := ⟨E, 0, none⟩) hE8).trans k0
  have l1 := (hb9.cell (p := ⟨E, 1, none⟩) hE8).trans k1
  have i0 := (hb9.cell (p := ⟨F, 0, none⟩) hF8).trans j0
  have i1 := (hb9.cell (p := ⟨F, 1, none⟩) hF8).trans j1
  have hE9 : E < w9.heap.size := Nat.lt_of_lt_of_le hE8 hb9.size
  have hF9 : F < w9.heap.size := Nat.lt_of_lt_of_le hF8 hb9.size
  have h69 : w6.heap.size ≤ w9.heap.size := Nat.le_trans h68 hb9.size
  clear h9 hql hb9 k0 k1 j0 j1 hE8 hF8 h68 HB8 HB48 HBy8 HSL8 hand hmz hLz hmod hq0 hqc hm hqL HLess
  -- the world behind the box of nothing, and the copy with one more
  have hbox : Below w9.heap.size w9 (w9.alloc (.cells #[.string ⟨#[]⟩, .slice none 0 0] 26)) := (Below.refl _ _).alloc (Nat.le_refl _) _
  obtain ⟨ao1, cap1, wa, hrun1, ao2, cap2, wb, hrun2, HC⟩ := copy_more (w9.alloc (.cells #[.string ⟨#[]⟩, .slice none 0 0] 26)) aoB capB bs ((HBy9.out.under (hbox.mono h69)).more (Nat.le_trans h69 hbox.size)) (by rw [← HLL.out]; omega) (by rw [← HLL.out]; exact hpos)
  rw [← HLL.out] at hrun1 hrun2 HC
  have HBox := Lib.hid hbox
  clear hbox
  go_wp2_with fail
  have hlb : (bs ++ [0]).length = L + 1 := by rw [List.length_append, ← HLL.out]; rfl
  have h10 := readEvent_c ao2 cap2 (bs ++ [0]) wb (by rw [hlb]; exact HC.out.2.1) HC.out.1
  rw [hlb, HMore.out] at h10
  have hbb : Below w9.heap.size w9 wb := HBox.out.trans (HC.out.2.2.mono HBox.out.size)
  have l0b := (hbb.cell (p := ⟨E, 0, none⟩) hE9).trans l0
  have l1b := (hbb.cell (p := ⟨E, 1, none⟩) hE9).trans l1
  have i0b := (hbb.cell (p := ⟨F, 0, none⟩) hF9).trans i0
  have i1b := (hbb.cell (p := ⟨F, 1, none⟩) hF9).trans i1
  refine h10.mono ?_
  rintro e w10 ⟨hb10, rfl⟩
  have hbc : Below w9.heap.size w9 w10 := hbb.trans (hb10.mono hbb.size)
  have l0 := (hbc.cell (p := ⟨E, 0, none⟩) hE9).trans l0
  have l1 := (hbc.cell (p := ⟨E, 1, none⟩) hE9).trans l1
  have i0 := (hbc.cell (p := ⟨F, 0, none⟩) hF9).trans i0
  have i1 := (hbc.cell (p := ⟨F, 1, none⟩) hF9).trans i1
  have hE10 : E < w10.heap.size := Nat.lt_of_lt_of_le hE9 hbc.size
  have hF10 : F < w10.heap.size := Nat.lt_of_lt_of_le hF9 hbc.size
  have HBC := Lib.hid hbc
  clear h10 hlb hbb l0b l1b i0b i1b hb10 hrun1 hrun2 HC HBox hbc
  go_wp2_with fail
  have hbz : Below w9.heap.size w9 (w10.alloc (.cells #[.string ⟨#[]⟩, .slice none 0 0] 26)) := HBC.out.alloc HBC.out.size _
  have hb4z : Below w4.heap.size w4 (w10.alloc (.cells #[.string ⟨#[]⟩, .slice none 0 0] 26)) := HB49.out.trans (hbz.mono HB49.out.size)
  have hx : ∀ a ∈ res, a.x < 18446744073709551616 := fun a ha => (HG4.out.can a ha).1.x
  have hln := HG4.out.len
  have hsm := sameE_c s s (some ⟨G, 0, none⟩) ao7 len cap7 res res _ (Or.inr ⟨G, 0, rfl, (HSL.out _ hb4z).1, (HSL.out _ hb4z).2⟩) (HSL9.out.under hbz) hx hx (by omega) (by omega)
  rw [show (s.toList == s.toList && sameL res res) = true by rw [sameL_refl4]; simp, ← HRL.out] at hsm
  refine hsm.mono ?_
  rintro e w11 ⟨rfl, hb11⟩
  have HBF : Aside (Below w.heap.size w w11) := HB9.out.trans ((hbz.trans (hb11.mono hbz.size)).mono HB9.out.size)
  clear hsm hb11 hbz hb4z hx hln l0 l1 i0 i1
  go_wp2_with fail
  go_ret
  exact ⟨rfl, HBF.out⟩
end Go.Proofs.Ytnpbnjddlchmcaa
