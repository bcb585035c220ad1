/- CodecReads: numbers and texts come back in order; who reads too much gives up, and nothing goes on. -/
import Derived.Test.YtnpbnjddlchmcaaReads1
namespace Go.Proofs.Ytnpbnjddlchmcaa
open Go.RowKit Go.Shelf Go.Sort
open Go.Proofs
set_option maxRecDepth 100000
attribute [local go_sem ↓] append_pre

theorem and_2 (n : Int) : ∃ m : Nat, m ≤ 3 ∧ bits .and .i64 n 3 = m := by
  have h : ∃ m : Nat, m < 4 ∧ bits .and .i64 n 3 = IntKind.i64.wrap m := by
    refine ⟨((BitVec.ofInt 64 n) &&& (BitVec.ofInt 64 3)).toNat, ?_, rfl⟩
    rw [BitVec.toNat_and, show (BitVec.ofInt 64 3).toNat = 2 ^ 2 - 1 from by decide, Nat.and_two_pow_sub_one_eq_mod]
    omega
  obtain ⟨m, hm, h⟩ := h
  exact ⟨m, by omega, by rw [h, IntKind.wrap_i64]; omega⟩

/-- One byte behind a row of the call's own. -/
theorem own_more (w : World) (B cap : Nat) (ao : Option Addr) (l : List UInt8) (c : UInt8) (h : w.ownsRow B 5 1 (.slice ao l.length cap) l.length (l.map encB)) (hB : B ≤ w.heap.size) (hl : l.length < 1000000) :
    ∃ ao2 cap2 w2, Sem.run Try.prog (appendS #[29, 29] 29 #[.slice ao l.length cap, .slice (some ⟨w.heap.size, 0, none⟩) 1 1]) (w.alloc (.cells #[.int .u8 (c.toNat : Int)] 5)) = .ok (.slice ao2 (l.length + 1) cap2) w2 ∧
      Aside (BytesB w2 w2.heap.size ao2 (l ++ [c]) ∧ l.length + 1 ≤ cap2 ∧ Below B w w2) := by
  obtain ⟨i0, z0, hi, hz0, hz1, hz2, hz3⟩ := u8_info
  have hown2 := h.alloc (.cells #[.int .u8 (c.toNat : Int)] 5)
  obtain ⟨v2, w2, hrun2, hown3, hg2, _⟩ := run_append_own (P := Try.prog) (w.alloc (.cells #[.int .u8 (c.toNat : Int)] 5)) B 29 29 5 i0 z0 1 1 Try.underlying29 hi hz0 hz1 hz2 hz3 (by decide) _ _ _ hown2 ⟨w.heap.size, 0, none⟩ 1 1 ([c].map encB) (by simp) (one_news w c 5) (encB_one _) (by unfold maxLen; omega) (by omega) (by simp; omega)
  rw [← List.map_append] at hown3
  obtain ⟨ao2, cap2, rfl, _⟩ := row1_slice hown3
  have hown4 : w2.ownsRow B 5 1 (.slice ao2 (l ++ [c]).length cap2) (l ++ [c]).length ((l ++ [c]).map encB) := by simpa using hown3
  obtain ⟨q1, q2, _⟩ := own1_bytes hown4
  exact ⟨ao2, cap2, w2, hrun2, q1, by simpa using q2, ((Below.refl _ _).alloc hB _).grown hg2 (by simp; omega) (fun k e => (hown2.lt k e).1)⟩

theorem encR_snoc : ∀ (xs : List Nat) (i x : Nat), encR (xs ++ [x]) i = encR xs i ++ (encL x ++ [UInt8.ofNat (i + xs.length)])
  | [], i, x => by simp [encR]
  | y :: ys, i, x => by
    have := encR_snoc ys (i + 1) x
    simp only [List.cons_append, encR, this, List.length_cons, List.append_assoc]
    rw [show i + 1 + ys.length = i + (ys.length + 1) by omega]
theorem encR_take (xs : List Nat) (j : Nat) (h : j < xs.length) : encR (xs.take (j + 1)) 0 = encR (xs.take j) 0 ++ encL (xs.getD j 0) ++ [UInt8.ofNat j] := by
  rw [List.take_add_one, List.getElem?_eq_getElem h, Option.toList_some, encR_snoc, List.getD_eq_getElem?_getD, List.getElem?_eq_getElem h, Option.getD_some, List.length_take, Nat.min_eq_left (Nat.le_of_lt h), Nat.zero_add, List.append_assoc]
theorem encR_len : ∀ (xs : List Nat) (i : Nat), (encR xs i).length = 9 * xs.length
  | [], _ => rfl
  | x :: xs, i => by simp only [encR, List.length_append, encL_length, List.length_cons, encR_len xs (i + 1)]; omega

set_option maxHeartbeats 4000000 in
theorem codecReads_c (ao : Option Addr) (cap : Nat) (xs : List Nat) (s : ByteArray) (more : Int) (w : World) (hxs : LongsB w w.heap.size ao xs) (hx : ∀ x ∈ xs, x < 2 ^ 64) :
    Calls Try.prog 6 #[.slice ao xs.length cap, .string s, .int .i64 more] w fun e w' => e = .returned (.bool true) ∧ Below w.heap.size w w' := by
  have hmf : ∀ (fn : Fn) (first cap : Array Value) (w : World), (Instr.makeFunc fn first cap).run Try.prog w = .ok (.func fn first cap) w := fun _ _ _ _ => rfl
  have hF1 : ∀ args w, (callFunc 28 args).run Try.prog w = .ok (.enter 28 args) w := enters_of Try.func28 (by kernel_rfl) rfl
  have hF2 : ∀ args w, (callFunc 32 args).run Try.prog w = .ok (.enter 32 args) w := enters_of Try.func32 (by kernel_rfl) rfl
  have hF3 : ∀ args w, (callFunc 33 args).run Try.prog w = .ok (.enter 33 args) w := enters_of Try.func33 (by kernel_rfl) rfl
  have HF1 := Lib.hid hF1
  have HF2 := Lib.hid hF2
  have HF3 := Lib.hid hF3
  clear hF1 hF2 hF3
  have HXS : Aside (LongsB w w.heap.size ao xs) := hxs
  have HX := Lib.hid hx
  obtain ⟨n, hnn⟩ : ∃ n, n = xs.length := ⟨_, rfl⟩
  have HN : Aside (n = xs.length) := hnn
  rw [← hnn]
  clear hxs hx hnn
  obtain ⟨wC, hwC⟩ : ∃ wC, wC = ((w.alloc (.cells #[.slice ao n cap] 56)).alloc (.cells #[.string s] 9)).alloc (.cells #[.int .i64 more] 3) := ⟨_, rfl⟩
  have zC : wC.heap.size = w.heap.size + 3 := by rw [hwC]; simp
  have a0 : wC.cell? ⟨w.heap.size, 0, none⟩ = some (.slice ao n cap) := by
    rw [hwC]
    exact (World.cell?_alloc_lt _ _ ⟨w.heap.size, 0, none⟩ (by simp; omega)).trans ((World.cell?_alloc_lt _ _ ⟨w.heap.size, 0, none⟩ (by simp)).trans (World.cell?_alloc_new w #[.slice ao n cap] 56 0))
  have a1 : wC.cell? ⟨w.heap.size + 1, 0, none⟩ = some (.string s) := by
    rw [hwC]
    refine (World.cell?_alloc_lt _ _ ⟨w.heap.size + 1, 0, none⟩ (by simp)).trans ?_
    simp only [← World.size_alloc w (.cells #[.slice ao n cap] 56)]
    exact World.cell?_alloc_new (w.alloc (.cells #[.slice ao n cap] 56)) #[.string s] 9 0
  have a2 : wC.cell? ⟨w.heap.size + 2, 0, none⟩ = some (.int .i64 more) := by
    rw [hwC]
    have := World.cell?_alloc_new ((w.alloc (.cells #[.slice ao n cap] 56)).alloc (.cells #[.string s] 9)) #[.int .i64 more] 3 0
    simp only [World.size_alloc] at this
    exact this
  have f2 : wC.frozen? ⟨w.heap.size + 2, 0, none⟩ = false := by
    rw [hwC]
    have := alloc_frozen ((w.alloc (.cells #[.slice ao n cap] 56)).alloc (.cells #[.string s] 9)) #[.int .i64 more] 3 0
    simp only [World.size_alloc] at this
    exact this
  have hbC : Below w.heap.size w wC := by
    rw [hwC]
    exact (((Below.refl _ _).alloc (Nat.le_refl _) _).alloc (by simp) _).alloc (by simp; omega) _
  have HBC := Lib.hid hbC
  clear hbC
  go_enter Try.func6, Try.ntmps6
  go_wp2_with fail
  rw [← hwC]
  refine (fit4_c _).mono ?_
  rintro e w1 ⟨rfl, hb1⟩
  have c0 := (hb1.cell (p := ⟨w.heap.size, 0, none⟩) (by show w.heap.size < _; omega)).trans a0
  have c1 := (hb1.cell (p := ⟨w.heap.size + 1, 0, none⟩) (by show w.heap.size + 1 < _; omega)).trans a1
  have c2 := (hb1.cell (p := ⟨w.heap.size + 1 + 1, 0, none⟩) (by show w.heap.size + 1 + 1 < _; omega)).trans a2
  have cf := (hb1.frozen (p := ⟨w.heap.size + 1 + 1, 0, none⟩) (by show w.heap.size + 1 + 1 < _; omega)).trans f2
  have hz1 : w.heap.size + 1 + 1 < w1.heap.size := by have := hb1.size; omega
  have HB1 : Aside (Below w.heap.size w w1) := HBC.out.trans (hb1.mono (by omega))
  have hLS : w.heap.size < w.heap.size + 1 := Nat.lt_succ_self _
  have hSM : w.heap.size + 1 < w.heap.size + 1 + 1 := Nat.lt_succ_self _
  clear hb1 a0 a1 a2 f2 HBC zC hwC
  generalize w.heap.size + 1 + 1 = M at *
  generalize w.heap.size + 1 = S at *
  by_cases h30 : (30 : Int) < (n : Int)
  · go_wp2_with fail
    go_ret
    exact ⟨rfl, HB1.out⟩
  by_cases h255 : (255 : Int) < (s.size : Int)
  · go_wp2_with fail
    go_ret
    exact ⟨rfl, HB1.out⟩
  obtain ⟨m, hm, hand⟩ := and_2 more
  obtain ⟨w4, hw4⟩ : ∃ w4, w4 = (w1.setCell ⟨M, 0, none⟩ (.int .i64 m)).alloc (.cells #[.slice none 0 0] 46) := ⟨_, rfl⟩
  have d0 : ((w1.setCell ⟨M, 0, none⟩ (.int .i64 m)).alloc (.cells #[.slice none 0 0] 46)).cell? ⟨w.heap.size, 0, none⟩ = some (.slice ao n cap) := (World.cell?_alloc_lt _ _ ⟨w.heap.size, 0, none⟩ (by simp; omega)).trans ((World.cell?_setCell_other w1 ⟨M, 0, none⟩ ⟨w.heap.size, 0, none⟩ _ (by intro e; injection e; omega)).trans c0)
  have d1 : ((w1.setCell ⟨M, 0, none⟩ (.int .i64 m)).alloc (.cells #[.slice none 0 0] 46)).cell? ⟨S, 0, none⟩ = some (.string s) := (World.cell?_alloc_lt _ _ ⟨S, 0, none⟩ (by simp; omega)).trans ((World.cell?_setCell_other w1 ⟨M, 0, none⟩ ⟨S, 0, none⟩ _ (by intro e; injection e; omega)).trans c1)
  have d2 : ((w1.setCell ⟨M, 0, none⟩ (.int .i64 m)).alloc (.cells #[.slice none 0 0] 46)).cell? ⟨M, 0, none⟩ = some (.int .i64 m) := (World.cell?_alloc_lt _ _ ⟨M, 0, none⟩ (by simp; omega)).trans (World.cell?_setCell_same w1 ⟨M, 0, none⟩ _ c2)
  have hWn : Wr ((w1.setCell ⟨M, 0, none⟩ (.int .i64 m)).alloc (.cells #[.slice none 0 0] 46)) w1.heap.size (w1.heap.size + 1) [] := by
    have := Wr.new (w1.setCell ⟨M, 0, none⟩ (.int .i64 m))
    simpa using this
  have hb4 : Below w.heap.size w ((w1.setCell ⟨M, 0, none⟩ (.int .i64 m)).alloc (.cells #[.slice none 0 0] 46)) := (HB1.out.setCell (p := ⟨M, 0, none⟩) (by show w.heap.size ≤ M; omega) _).alloc (by simp; omega) _
  have HWn := Lib.hid hWn
  have HB4 := Lib.hid hb4
  clear hWn hb4
  go_wp2_with fail
  rw [← hw4] at d0 d1 d2 HWn HB4 ⊢
  clear hw4 c0 c1 c2 cf hand h30 h255 HB1
  generalize w1.heap.size = P at *
  have HD : Aside (w4.cell? ⟨w.heap.size, 0, none⟩ = some (.slice ao n cap) ∧ w4.cell? ⟨S, 0, none⟩ = some (.string s) ∧ w4.cell? ⟨M, 0, none⟩ = some (.int .i64 m)) := ⟨d0, d1, d2⟩
  have HXS4 : Aside (∀ W, Below P w4 W → LongsB W w.heap.size ao xs) := fun W hW => HXS.out.kb (Kb.of_below (S := fun k => w.heap.size ≤ k) (HB4.out.trans (hW.mono (by omega))) (fun _ _ h => h)) (fun k h _ h2 => by omega)
  have hz4 : P < w4.heap.size := Nat.lt_of_lt_of_le HWn.out.pb HWn.out.bw
  have hn30 : n ≤ 30 := by omega
  have hs255 : s.size ≤ 255 := by omega
  clear d0 d1 d2 HXS
  go_loopg [28] n (fun kx s28 wr => ∃ j : Nat, s28 = .int .i64 j ∧ j ≤ n ∧ n - j ≤ kx ∧ Aside (Wr wr P (P + 1) (encR (xs.take j) 0)) ∧ Aside (Below P w4 wr))
  case atStart => exact ⟨0, rfl, Nat.zero_le _, by omega, HWn.out, Below.refl _ _⟩
  case round =>
    obtain ⟨j, rfl, hj, hjx, HW, HB⟩ := hrel
    have hlj : (encR (xs.take j) 0).length ≤ 270 := by rw [encR_len, List.length_take]; omega
    by_cases hlt : j < n
    · have hjx2 : j < xs.length := by rw [← HN.out]; exact hlt
      have hx64 : xs.getD j 0 < 2 ^ 64 := HX.out _ (by rw [List.getD_eq_getElem?_getD, List.getElem?_eq_getElem hjx2, Option.getD_some]; exact List.getElem_mem _)
      have HTk : Aside (encR (xs.take (j + 1)) 0 = encR (xs.take j) 0 ++ encL (xs.getD j 0) ++ [UInt8.ofNat j]) := encR_take xs j hjx2
      rcases HXS4.out wr HB.out with h0 | ⟨b, off, rfl, hbB, hbw, hc⟩
      · rw [h0] at hjx2; cases hjx2
      have hxc := hc j hjx2
      generalize xs.getD j 0 = x at *
      have hlg := wlong_c P (P + 1) x _ wr HW.out hx64 (by omega)
      have HLg := Lib.hid hlg
      have hPw : P < wr.heap.size := Nat.lt_of_lt_of_le HW.out.pb HW.out.bw
      have HBy : Aside (∀ W, Wr W P (P + 1) (encR (xs.take j) 0 ++ encL x) → Calls Try.prog 26 #[.pointer (some ⟨P, 0, none⟩), .slice (some ⟨W.heap.size, 0, none⟩) 1 1] (W.alloc (.cells #[.int .i64 j] 3)) fun e w' => e = .returned (.pointer (some ⟨P, 0, none⟩)) ∧ Aside (Wr w' P (P + 1) (encR (xs.take j) 0 ++ encL x ++ [UInt8.ofNat j]) ∧ Wk P (W.alloc (.cells #[.int .i64 j] 3)) w')) := fun W hW => by
        have := wbyte_c P (P + 1) W.heap.size 1 (j : Int) _ _ (hW.alloc _) (by omega) (by omega) (World.cell?_alloc_new W #[.int .i64 j] 3 0) (by rw [List.length_append, encL_length]; omega)
        simpa only [Int.toNat_natCast] using this
      have hjz : (j : Int) < (n : Int) := by omega
      have hj0 : (0 : Int) ≤ (j : Int) := by omega
      clear hlg hc hx64 hjx2
      go_wp2_with fail
      refine HLg.out.mono ?_
      rintro e w5 ⟨rfl, hA⟩
      go_wp2_with fail
      refine (HBy.out w5 hA.out.1).mono ?_
      rintro e w6 ⟨rfl, hA6⟩
      have hP5 : P < w5.heap.size := Nat.lt_of_lt_of_le hA.out.1.pb hA.out.1.bw
      have HB6 : Aside (Below P w4 w6) := HB.out.trans (((hA.out.2.trans (Wk.alloc w5 hP5 _)).trans hA6.out.2).under HW.out (Nat.le_refl _))
      have HW6 : Aside (Wr w6 P (P + 1) (encR (xs.take (j + 1)) 0)) := by rw [Aside, HTk.out]; exact hA6.out.1
      clear hA hA6 HLg HBy
      go_wp2_with fail
      go_roundg (n - (j + 1))
      case measure => omega
      case rel => exact ⟨j + 1, by go_num, hlt, Nat.le_refl _, HW6.out, HB6.out⟩
    · obtain rfl : j = n := by omega
      have hW := HW.out
      rw [show xs.take j = xs by rw [HN.out, List.take_length]] at hW hlj
      have htx := wtext_c P (P + 1) s _ wr hW hs255 (by omega)
      have HTx := Lib.hid htx
      have hPw : P < wr.heap.size := Nat.lt_of_lt_of_le hW.pb hW.bw
      have d1 := (HB.out.cell (p := ⟨S, 0, none⟩) (by show S < P; omega)).trans HD.out.2.1
      clear hW htx hj hjx hlt hz4
      go_wp2_with fail
      refine HTx.out.mono ?_
      rintro e w5 ⟨rfl, hA⟩
      have HB5 : Aside (Below P w4 w5) := HB.out.trans (hA.out.2.under (HW.out) (Nat.le_refl _))
      have HW5 : Aside (Wr w5 P (P + 1) (encR xs 0 ++ encT s)) := hA.out.1
      have hz5 : P + 1 ≤ w5.heap.size := hA.out.1.bw
      clear hA HTx HW HB d1 hPw
      have hlb : (encR xs 0 ++ encT s).length ≤ 600 := by rw [List.length_append, encT_len]; omega
      go_wp2_with fail
      have b7 : Below w5.heap.size w5 ((w5.alloc (.cells #[.bool true] 4)).alloc (.cells #[.bool false] 4)) := ((Below.refl _ _).alloc (Nat.le_refl _) _).alloc (by simp) _
      have z7 : ((w5.alloc (.cells #[.bool true] 4)).alloc (.cells #[.bool false] 4)).heap.size = w5.heap.size + 1 + 1 := by simp
      have gG : ∀ i, ((w5.alloc (.cells #[.bool true] 4)).alloc (.cells #[.bool false] 4)).cell? ⟨w5.heap.size, i, none⟩ = (#[Value.bool true])[i]? := fun i => (World.cell?_alloc_lt _ _ ⟨w5.heap.size, i, none⟩ (by simp)).trans (World.cell?_alloc_new w5 #[.bool true] 4 i)
      have gE : ∀ i, ((w5.alloc (.cells #[.bool true] 4)).alloc (.cells #[.bool false] 4)).cell? ⟨w5.heap.size + 1, i, none⟩ = (#[Value.bool false])[i]? := fun i => by
        have := World.cell?_alloc_new (w5.alloc (.cells #[.bool true] 4)) #[.bool false] 4 i
        simp only [World.size_alloc] at this
        exact this
      have fG : ((w5.alloc (.cells #[.bool true] 4)).alloc (.cells #[.bool false] 4)).frozen? ⟨w5.heap.size, 0, none⟩ = false := (Below.frozen (((Below.refl _ _).alloc (Nat.le_refl _) _) : Below (w5.alloc (.cells #[.bool true] 4)).heap.size (w5.alloc (.cells #[.bool true] 4)) _) (p := ⟨w5.heap.size, 0, none⟩) (by simp)).trans (alloc_frozen w5 #[.bool true] 4 0)
      have fE : ((w5.alloc (.cells #[.bool true] 4)).alloc (.cells #[.bool false] 4)).frozen? ⟨w5.heap.size + 1, 0, none⟩ = false := by
        have := alloc_frozen (w5.alloc (.cells #[.bool true] 4)) #[.bool false] 4 0
        simp only [World.size_alloc] at this
        exact this
      generalize ((w5.alloc (.cells #[.bool true] 4)).alloc (.cells #[.bool false] 4)) = w7 at *
      have nG : NI w7 w5.heap.size := fun i c e => by
        rw [gG i] at e
        rcases i with _ | i
        · cases e
        · simp at e
      have nE : NI w7 (w5.heap.size + 1) := fun i c e => by
        rw [gE i] at e
        rcases i with _ | i
        · cases e
        · simp at e
      have g0 := gG 0
      have e0 := gE 0
      simp only [List.getElem?_toArray, List.getElem?_cons_zero] at g0 e0
      have HW7 : Aside (∀ W, Below w5.heap.size w5 W → Wr W P (P + 1) (encR xs 0 ++ encT s)) := fun W hW => HW5.out.kb (Kb.of_below (S := fun k => w5.heap.size ≤ k) hW (fun _ _ h => h)) (fun k h _ h2 => by omega)
      have HO : Aside (∀ W, Below w5.heap.size w5 W → W.cell? ⟨w.heap.size, 0, none⟩ = some (.slice ao j cap) ∧ W.cell? ⟨S, 0, none⟩ = some (.string s) ∧ W.cell? ⟨M, 0, none⟩ = some (.int .i64 m) ∧ LongsB W w.heap.size ao xs ∧ Below w.heap.size w W) := fun W hW => by
        have h4 : Below P w4 W := HB5.out.trans (hW.mono (by omega))
        exact ⟨(h4.cell (p := ⟨w.heap.size, 0, none⟩) (by show w.heap.size < P; omega)).trans HD.out.1, (h4.cell (p := ⟨S, 0, none⟩) (by show S < P; omega)).trans HD.out.2.1, (h4.cell (p := ⟨M, 0, none⟩) (by show M < P; omega)).trans HD.out.2.2, HXS4.out W h4, HB4.out.trans (h4.mono (by omega))⟩
      have HO7 : Aside (∀ W, Below w7.heap.size w7 W → W.cell? ⟨w5.heap.size, 0, none⟩ = some (.bool true) ∧ W.cell? ⟨w5.heap.size + 1, 0, none⟩ = some (.bool false) ∧ W.frozen? ⟨w5.heap.size, 0, none⟩ = false ∧ W.frozen? ⟨w5.heap.size + 1, 0, none⟩ = false ∧ NI W w5.heap.size ∧ NI W (w5.heap.size + 1)) := fun W hW =>
        ⟨(hW.cell (p := ⟨w5.heap.size, 0, none⟩) (by show w5.heap.size < _; omega)).trans g0, (hW.cell (p := ⟨w5.heap.size + 1, 0, none⟩) (by show w5.heap.size + 1 < _; omega)).trans e0, (hW.frozen (p := ⟨w5.heap.size, 0, none⟩) (by show w5.heap.size < _; omega)).trans fG, (hW.frozen (p := ⟨w5.heap.size + 1, 0, none⟩) (by show w5.heap.size + 1 < _; omega)).trans fE,
          nG.kb (Kb.of_below (S := fun k => w7.heap.size ≤ k) hW (fun _ _ h => h)) (by omega) (by omega), nE.kb (Kb.of_below (S := fun k => w7.heap.size ≤ k) hW (fun _ _ h => h)) (by omega) (by omega)⟩
      have HB7 := Lib.hid b7
      clear gG gE g0 e0 nG nE fG fE b7 HW5 HB5 HD HXS4 HB4
      have hBP : w.heap.size < P := by omega
      obtain ⟨G, hG⟩ : ∃ G, G = w5.heap.size := ⟨_, rfl⟩
      have HG : Aside (G = w5.heap.size) := hG
      rw [← hG] at HW7 HO HO7 HB7 z7 hz5 ⊢
      clear hG
      obtain ⟨bs, hbs⟩ : ∃ bs, bs = encR xs 0 ++ encT s := ⟨_, rfl⟩
      have HBS : Aside (bs = encR xs 0 ++ encT s) := hbs
      rw [← hbs] at HW7 hlb
      clear hbs
      have hby := wbytes_c P (P + 1) bs w7 (HW7.out w7 HB7.out) (by omega)
      obtain ⟨Q, hQ⟩ : ∃ Q, Q = bs.length := ⟨_, rfl⟩
      have HQ : Aside (Q = bs.length) := hQ
      rw [← hQ] at hby hlb
      clear hQ
      refine hby.mono ?_
      rintro e w8 ⟨ao8, cap8, rfl, hA8⟩
      have hown8 := hA8.out.1
      rw [HQ.out] at hown8
      obtain ⟨q1, q2, _⟩ := own1_bytes hown8
      have HY8 : Aside (BytesB w8 w8.heap.size ao8 bs ∧ bs.length ≤ cap8) := ⟨q1, q2⟩
      have HB78 : Aside (Below w7.heap.size w7 w8) := hA8.out.2
      have HB8 : Aside (Below G w5 w8) := HB7.out.trans (hA8.out.2.mono (by omega))
      clear hby hA8 hown8 q1 q2
      go_wp2_with fail
      have hz8 : G + 1 < w8.heap.size := by have := HB78.out.size; omega
      have hrd := read_c 28 HF1.out ao8 cap8 bs #[.pointer (some ⟨w.heap.size, 0, none⟩), .pointer (some ⟨G, 0, none⟩), .pointer (some ⟨S, 0, none⟩), .pointer (some ⟨M, 0, none⟩), .pointer (some ⟨G + 1, 0, none⟩)] w8 (fun k => k = G ∨ k = G + 1)
        (fun l' W => l' = [] ∧ m = 0 ∧ W.cell? ⟨G, 0, none⟩ = some (.bool true) ∧ W.cell? ⟨G + 1, 0, none⟩ = some (.bool true)) (fun W => m ≠ 0 ∧ W.cell? ⟨G, 0, none⟩ = some (.bool true) ∧ W.cell? ⟨G + 1, 0, none⟩ = some (.bool false)) HY8.out.2 HY8.out.1
        (fun W R hW hR hRd => by
          obtain ⟨k0, k1, k2, k3, _⟩ := HO.out W (HB8.out.trans (hW.mono (by omega)))
          obtain ⟨k4, k5, k6, k7, k8, k9⟩ := HO7.out W (HB78.out.trans (hW.mono HB78.out.size))
          rw [HBS.out] at hRd
          rw [HN.out] at k0
          exact reads1_c R w.heap.size G S M (G + 1) w.heap.size cap m ao xs s W hRd HX.out (by rw [← HN.out]; exact hn30) hs255 hm k3 (by omega) (by omega) (by omega) (by omega) (by omega) (by omega) (by omega) (by omega) k0 k4 k1 k2 k5 k6 k7 k8 k9)
        (fun k hk => by omega)
        (fun l' W W' hx hk => ⟨hx.1, hx.2.1, (hk.cell (p := ⟨G, 0, none⟩) (World.block_lt_of_cell? W _ hx.2.2.1) (by show ¬ G = w8.heap.size; omega)).trans hx.2.2.1, (hk.cell (p := ⟨G + 1, 0, none⟩) (World.block_lt_of_cell? W _ hx.2.2.2) (by show ¬ G + 1 = w8.heap.size; omega)).trans hx.2.2.2⟩)
        (fun W W' hy hk => ⟨hy.1, (hk.cell (p := ⟨G, 0, none⟩) (World.block_lt_of_cell? W _ hy.2.1) (by show ¬ G = w8.heap.size; omega)).trans hy.2.1, (hk.cell (p := ⟨G + 1, 0, none⟩) (World.block_lt_of_cell? W _ hy.2.2) (by show ¬ G + 1 = w8.heap.size; omega)).trans hy.2.2⟩)
      rw [← HQ.out] at hrd
      refine hrd.mono ?_
      rintro e w9 ⟨hk9, hw9⟩
      have HB9 : Aside (Below G w5 w9) := HB8.out.trans (hk9.below (by omega) (fun k hk e => by omega))
      have hz9 : G + 1 < w9.heap.size := Nat.lt_of_lt_of_le hz8 hk9.size
      obtain ⟨okb, enb, rfl, hm9, gG, gE⟩ : ∃ okb enb : Bool, e = .returned (.bool okb) ∧ (okb = true ∧ enb = true ∧ m = 0 ∨ okb = false ∧ enb = false ∧ m ≠ 0) ∧ w9.cell? ⟨G, 0, none⟩ = some (.bool true) ∧ w9.cell? ⟨G + 1, 0, none⟩ = some (.bool enb) := by
        rcases hw9 with ⟨l', he, hl', hm0, hg, hE⟩ | ⟨he, hm0, hg, hE⟩
        · exact ⟨true, true, by rw [he, hl']; rfl, Or.inl ⟨rfl, rfl, hm0⟩, hg, hE⟩
        · exact ⟨false, false, he, Or.inr ⟨rfl, rfl, hm0⟩, hg, hE⟩
      have HM9 := Lib.hid hm9
      have HG9 : Aside (w9.cell? ⟨G, 0, none⟩ = some (.bool true) ∧ w9.cell? ⟨G + 1, 0, none⟩ = some (.bool enb)) := ⟨gG, gE⟩
      clear hrd hk9 hw9 hm9 gG gE HO7 HB78 HY8 HB8 HB7 hz8 z7
      go_wp2_with fail
      have hby := wbytes_c P (P + 1) bs w9 (HW7.out w9 HB9.out) (by rw [← HQ.out]; omega)
      rw [← HQ.out] at hby
      refine hby.mono ?_
      rintro e w10 ⟨ao10, cap10, rfl, hA10⟩
      have hown := hA10.out.1
      have hz10 := hA10.out.2.size
      rw [HQ.out] at hown
      obtain ⟨ao11, cap11, w11, hrun, hA11⟩ := own_more w10 w9.heap.size cap10 ao10 bs 7 hown hz10 (by rw [← HQ.out]; omega)
      rw [← HQ.out] at hrun
      simp only [show ((7 : UInt8).toNat : Int) = 7 from rfl] at hrun
      have HB11 : Aside (Below w9.heap.size w9 w11) := hA10.out.2.trans hA11.out.2.2
      have HY11 : Aside (BytesB w11 w11.heap.size ao11 (bs ++ [7]) ∧ (bs ++ [7]).length ≤ cap11) := ⟨hA11.out.1, by have := hA11.out.2.1; simp only [List.length_append, List.length_cons, List.length_nil]; omega⟩
      clear hA11 hA10 hby hown
      go_wp2_with fail
      have hB5_11 : Below G w5 w11 := HB9.out.trans (HB11.out.mono (by omega))
      have hrd2 := read_c 32 HF2.out ao11 cap11 (bs ++ [7]) #[.pointer (some ⟨w.heap.size, 0, none⟩)] w11 (fun _ => False) (fun l' _ => l' = [7]) (fun _ => False) HY11.out.2 HY11.out.1
        (fun W R hW hR hRd => by
          have k0 := (HO.out W (hB5_11.trans (hW.mono (by have := HB11.out.size; omega)))).1
          rw [HN.out] at k0
          rw [HBS.out] at hRd
          refine (reads2_c R w.heap.size cap ao xs s [7] W hRd HX.out (by rw [← HN.out]; exact hn30) hs255 k0).mono ?_
          rintro e w' ⟨hk, he, hr⟩
          exact ⟨hk.mono (fun _ _ h => Or.inl h), Or.inl ⟨[7], he, hr, rfl⟩⟩)
        (fun _ hk => hk.elim) (fun _ _ _ hx _ => hx) (fun _ _ hy _ => hy)
      have hq1 : (bs ++ [(7 : UInt8)]).length = Q + 1 := by rw [List.length_append, ← HQ.out]; rfl
      rw [hq1] at hrd2
      clear hq1
      refine hrd2.mono ?_
      rintro e w12 ⟨hk12, hw12⟩
      obtain rfl : e = .returned (.bool false) := by
        rcases hw12 with ⟨l', he, rfl⟩ | ⟨_, h⟩
        · exact he
        · exact h.elim
      have HB12 : Aside (Below G w5 w12) := hB5_11.trans (hk12.below (by have := HB11.out.size; omega) (fun _ _ h => h))
      have hb912 : Below w9.heap.size w9 w12 := HB11.out.trans (hk12.below HB11.out.size (fun _ _ h => h))
      have p0 := (hb912.cell (p := ⟨G, 0, none⟩) (by show G < _; omega)).trans HG9.out.1
      have p1 := (hb912.cell (p := ⟨G + 1, 0, none⟩) (by show G + 1 < _; omega)).trans HG9.out.2
      have p2 := (HO.out w12 HB12.out).2.2.1
      have hrd3 := read_c 33 HF3.out none 0 [] #[] w12 (fun _ => False) (fun l' _ => l' = []) (fun _ => False) (Nat.le_refl _) (Or.inl rfl)
        (fun W R hW hR hRd => by
          refine (reads3_c R W).mono ?_
          rintro e w' ⟨rfl, rfl⟩
          exact ⟨Kb.refl _ _, Or.inl ⟨[], rfl, hRd, rfl⟩⟩)
        (fun _ hk => hk.elim) (fun _ _ _ hx _ => hx) (fun _ _ hy _ => hy)
      have HR3 : Aside (Calls Try.prog 20 #[.slice none 0 0, .func (.func 33) #[] #[]] w12 fun e w' => e = .returned (.bool true) ∧ Below w.heap.size w w') := hrd3.mono fun e w' h => by
        refine ⟨?_, (HO.out w12 HB12.out).2.2.2.2.trans (h.1.below (HO.out w12 HB12.out).2.2.2.2.size (fun _ _ h => h))⟩
        rcases h.2 with ⟨l', he, rfl⟩ | ⟨_, h⟩
        · exact he
        · exact h.elim
      clear hrd2 hrd3 hk12 hw12 hb912 hB5_11 HY11 HG9 HF1 HF2 HF3
      rcases HM9.out with ⟨rfl, rfl, hm0⟩ | ⟨rfl, rfl, hm0⟩
      · have hmz : ((m : Int) == (0 : Int)) = true := by simp [hm0]
        clear hm0 HM9
        go_wp2_with fail
        refine HR3.out.mono ?_
        rintro e w13 ⟨rfl, hb⟩
        go_wp2_with fail
        go_ret
        exact ⟨rfl, hb⟩
      · have hmz : ((m : Int) == (0 : Int)) = false := by simp; omega
        clear hm0 HM9
        go_wp2_with fail
        refine HR3.out.mono ?_
        rintro e w13 ⟨rfl, hb⟩
        go_wp2_with fail
        go_ret
        exact ⟨rfl, hb⟩
end Go.Proofs.Ytnpbnjddlchmcaa
