/- codec.Writer: tellsValue, Value. -/
import Derived.Test.YtecfbbddhnkilaaWr3
namespace Go.Proofs.Ytecfbbddhnkilaa
open Go.RowKit Go.Shelf Go.Sort
open Go.Proofs
set_option maxRecDepth 100000

/-- Do bytes tell that value? -/
def tellsV (k : Int) (s : ByteArray) : Bool := decide (0 ≤ k) && decide (k ≤ 3) && (k != 2 || decide ((s.size : Int) ≤ 255))
set_option maxHeartbeats 1000000 in
theorem tellsV_c (k n : Int) (x : Nat) (s : ByteArray) (y : Bool) (w : World) :
    Calls Try.prog 35 #[val k n x s y] w fun e w' => e = .returned (.bool (tellsV k s)) ∧ Below w.heap.size w w' := by
  have hfc := fun W => fits_c (s.size : Int) W
  have h0s : decide ((0 : Int) ≤ (s.size : Int)) = true := by simp
  rw [h0s, Bool.true_and] at hfc
  unfold tellsV
  cases h0 : decide (0 ≤ k)
  · go_enter Try.func35, Try.ntmps35
    go_wp2_with fail
    go_ret
    exact ⟨rfl, (Below.refl _ _).alloc (Nat.le_refl _) _⟩
  · cases h3 : decide (k ≤ 3)
    · go_enter Try.func35, Try.ntmps35
      go_wp2_with fail
      go_ret
      exact ⟨rfl, (Below.refl _ _).alloc (Nat.le_refl _) _⟩
    · cases h2 : (k != 2)
      · go_enter Try.func35, Try.ntmps35
        go_wp2_with fail
        refine (hfc _).mono ?_
        rintro e w2 ⟨rfl, rfl⟩
        go_wp2_with fail
        go_ret
        exact ⟨rfl, (Below.refl _ _).alloc (Nat.le_refl _) _⟩
      · go_enter Try.func35, Try.ntmps35
        go_wp2_with fail
        go_ret
        exact ⟨rfl, (Below.refl _ _).alloc (Nat.le_refl _) _⟩

/-- A value's bytes. -/
def encV (a : At) : List UInt8 :=
  if a.k = 0 then 0 :: encL (BitVec.ofInt 64 a.n).toNat
  else if a.k = 1 then 1 :: encL (fkey a.x).toNat
  else if a.k = 2 then 2 :: encT a.s
  else [3, if a.y then 1 else 0]

theorem u64_of_i64 (n : Int) : IntKind.u64.wrap n = ((BitVec.ofInt 64 n).toNat : Int) := by
  rw [IntKind.wrap_u64, BitVec.toNat_ofInt]; omega

theorem RowOf.kb {S : Nat → Prop} {w w' : World} {P k : Nat} (hr : RowOf w' P k) (h : Kb S w w') (hP : P < w.heap.size) (hS : ¬ S P) : RowOf w P k := by
  obtain ⟨ao, n, cap, h1, h2⟩ := hr
  exact ⟨ao, n, cap, (h.cell (p := ⟨P, 0, none⟩) hP hS).symm.trans h1, h2⟩
theorem Wk.notRow {P k : Nat} {a b : World} (h : Wk P a b) (hk : k < a.heap.size) (hn : ¬ RowOf a P k) : ¬ RowOf b P k := fun hr => by
  rcases h.row k hr with e | e
  · exact hn e
  · omega

set_option maxHeartbeats 4000000 in
theorem wvalue0_c (P B : Nat) (n : Int) (x : Nat) (s : ByteArray) (y : Bool) (l : List UInt8) (w : World) (h : Wr w P B l) (hl : l.length < 800000) :
    Calls Try.prog 20 #[.pointer (some ⟨P, 0, none⟩), val 0 n x s y] w fun e w' => e = .returned (.pointer (some ⟨P, 0, none⟩)) ∧ Aside (Wr w' P B (l ++ 0 :: encL (BitVec.ofInt 64 n).toNat) ∧ Wk P w w') := by
  have H := Lib.hid h
  have HL : Aside (l.length < 800000) := hl
  have htv := fun W => tellsV_c 0 n x s y W
  have htt : tellsV 0 s = true := rfl
  rw [htt] at htv
  have hcv : IntKind.u64.wrap n = ((BitVec.ofInt 64 n).toNat : Int) := u64_of_i64 n
  have hq64 : (BitVec.ofInt 64 n).toNat < 2 ^ 64 := (BitVec.ofInt 64 n).isLt
  have HQ := Lib.hid hq64
  generalize (BitVec.ofInt 64 n).toNat = q at *
  clear htt hq64
  have HPw : Aside (P < w.heap.size) := Nat.lt_of_lt_of_le h.pb h.bw
  have HNR : Aside (¬ RowOf w P w.heap.size) := fun hr => by have := (h.row hr).2; omega
  clear h hl
  go_enter Try.func20, Try.ntmps20
  go_wp2_with fail
  refine (htv _).mono ?_
  rintro e w1 ⟨rfl, hb1⟩
  have yy := fun i => (hb1.cell (p := ⟨w.heap.size, i, none⟩) (by simp)).trans (World.cell?_alloc_new w #[.int .i64 0, .int .i64 n, .float .f64 x, .string s, .bool y] 28 i)
  have y0 := yy 0; have y1 := yy 1; have y2 := yy 2; have y3 := yy 3; have y4 := yy 4
  simp only [List.getElem?_toArray, List.getElem?_cons_zero, List.getElem?_cons_succ] at y0 y1 y2 y3 y4
  have hk1 : Kb (fun _ => False) w w1 := (Kb.alloc _ _ _).trans (Kb.of_below hb1 (fun k h1 h2 => absurd h1 (by omega)))
  have HW1 : Aside (Wr w1 P B l) := H.out.kb hk1 (fun _ _ _ h => h)
  have HK1 : Aside (Wk P w w1) := Wk.of_kb hk1 HPw.out (fun _ _ h => h)
  have hAw : w.heap.size < w1.heap.size := by have := hb1.size; simp at this; omega
  have HN1 : Aside (¬ RowOf w1 P w.heap.size) := fun hr => HNR.out (hr.kb hk1 HPw.out (fun h => h))
  clear yy hb1 hk1 htv
  go_wp2_with fail
  refine (wbyte_c P B w1.heap.size 1 0 l (w1.alloc (.cells #[.int .i64 0] 3)) (HW1.out.alloc _) (by decide) (by decide) (by rw [World.cell?_alloc_new]; rfl) (by have := HL.out; omega)).mono ?_
  rintro e w2 ⟨rfl, hA⟩
  have hA1 : w.heap.size < (w1.alloc (.cells #[.int .i64 0] 3)).heap.size := by simp; omega
  have hPA : w.heap.size ≠ P := by have := HPw.out; omega
  have hP1 : P < w1.heap.size := by have := HPw.out; omega
  have hNR1 : ¬ RowOf (w1.alloc (.cells #[.int .i64 0] 3)) P w.heap.size := fun hr => HN1.out (hr.kb (Kb.alloc (fun _ => False) w1 _) hP1 (fun h => h))
  have zz := fun i => (hA.out.2.cell hA1 hPA hNR1 i).trans (World.cell?_alloc_lt w1 (.cells #[.int .i64 0] 3) ⟨w.heap.size, i, none⟩ hAw)
  have z0 := (zz 0).trans y0; have z1 := (zz 1).trans y1; have z2 := (zz 2).trans y2; have z3 := (zz 3).trans y3; have z4 := (zz 4).trans y4
  have HW2 : Aside (Wr w2 P B (l ++ [0])) := hA.out.1
  have HK2 : Aside (Wk P w w2) := HK1.out.trans ((Wk.alloc w1 hP1 _).trans hA.out.2)
  clear y0 y1 y2 y3 y4 zz hA HW1 HK1 hNR1 hA1 hAw
  generalize w.heap.size = A at *
  go_wp2_with fail
  refine (wlong_c P B q _ w2 HW2.out HQ.out (by have := HL.out; simp; omega)).mono ?_
  rintro e w3 ⟨rfl, hC⟩
  go_wp2_with fail
  go_ret
  have he : l ++ 0 :: encL q = l ++ [0] ++ encL q := by simp
  exact ⟨rfl, by rw [he]; exact hC.out.1, HK2.out.trans hC.out.2⟩
set_option maxHeartbeats 4000000 in
theorem wvalue1_c (P B : Nat) (n : Int) (x : Nat) (s : ByteArray) (y : Bool) (l : List UInt8) (w : World) (h : Wr w P B l) (hl : l.length < 800000) (hx : x < 18446744073709551616) :
    Calls Try.prog 20 #[.pointer (some ⟨P, 0, none⟩), val 1 n x s y] w fun e w' => e = .returned (.pointer (some ⟨P, 0, none⟩)) ∧ Aside (Wr w' P B (l ++ 1 :: encL (fkey x).toNat) ∧ Wk P w w') := by
  have H := Lib.hid h
  have HL : Aside (l.length < 800000) := hl
  have htv := fun W => tellsV_c 1 n x s y W
  have htt : tellsV 1 s = true := rfl
  rw [htt] at htv
  have hbd := fkey_bd x
  have hkc := fun W => key_c x hx W
  obtain ⟨q, hq⟩ : ∃ q, q = (fkey x).toNat := ⟨_, rfl⟩
  have hq2 : fkey x = (q : Int) := by omega
  have HQ : Aside (q < 2 ^ 64) := by show q < 2 ^ 64; omega
  rw [hq2] at hkc
  rw [← hq]
  clear htt hbd hq hq2 hx
  have HPw : Aside (P < w.heap.size) := Nat.lt_of_lt_of_le h.pb h.bw
  have HNR : Aside (¬ RowOf w P w.heap.size) := fun hr => by have := (h.row hr).2; omega
  clear h hl
  go_enter Try.func20, Try.ntmps20
  go_wp2_with fail
  refine (htv _).mono ?_
  rintro e w1 ⟨rfl, hb1⟩
  have yy := fun i => (hb1.cell (p := ⟨w.heap.size, i, none⟩) (by simp)).trans (World.cell?_alloc_new w #[.int .i64 1, .int .i64 n, .float .f64 x, .string s, .bool y] 28 i)
  have y0 := yy 0; have y1 := yy 1; have y2 := yy 2; have y3 := yy 3; have y4 := yy 4
  simp only [List.getElem?_toArray, List.getElem?_cons_zero, List.getElem?_cons_succ] at y0 y1 y2 y3 y4
  have hk1 : Kb (fun _ => False) w w1 := (Kb.alloc _ _ _).trans (Kb.of_below hb1 (fun k h1 h2 => absurd h1 (by omega)))
  have HW1 : Aside (Wr w1 P B l) := H.out.kb hk1 (fun _ _ _ h => h)
  have HK1 : Aside (Wk P w w1) := Wk.of_kb hk1 HPw.out (fun _ _ h => h)
  have hAw : w.heap.size < w1.heap.size := by have := hb1.size; simp at this; omega
  have HN1 : Aside (¬ RowOf w1 P w.heap.size) := fun hr => HNR.out (hr.kb hk1 HPw.out (fun h => h))
  clear yy hb1 hk1 htv
  go_wp2_with fail
  refine (wbyte_c P B w1.heap.size 1 1 l (w1.alloc (.cells #[.int .i64 1] 3)) (HW1.out.alloc _) (by decide) (by decide) (by rw [World.cell?_alloc_new]; rfl) (by have := HL.out; omega)).mono ?_
  rintro e w2 ⟨rfl, hA⟩
  have hA1 : w.heap.size < (w1.alloc (.cells #[.int .i64 1] 3)).heap.size := by simp; omega
  have hPA : w.heap.size ≠ P := by have := HPw.out; omega
  have hP1 : P < w1.heap.size := by have := HPw.out; omega
  have hNR1 : ¬ RowOf (w1.alloc (.cells #[.int .i64 1] 3)) P w.heap.size := fun hr => HN1.out (hr.kb (Kb.alloc (fun _ => False) w1 _) hP1 (fun h => h))
  have zz := fun i => (hA.out.2.cell hA1 hPA hNR1 i).trans (World.cell?_alloc_lt w1 (.cells #[.int .i64 1] 3) ⟨w.heap.size, i, none⟩ hAw)
  have z0 := (zz 0).trans y0; have z1 := (zz 1).trans y1; have z2 := (zz 2).trans y2; have z3 := (zz 3).trans y3; have z4 := (zz 4).trans y4
  have HW2 : Aside (Wr w2 P B (l ++ [1])) := hA.out.1
  have HK2 : Aside (Wk P w w2) := HK1.out.trans ((Wk.alloc w1 hP1 _).trans hA.out.2)
  clear y0 y1 y2 y3 y4 zz hA HW1 HK1 hNR1 hA1 hAw
  generalize w.heap.size = A at *
  go_wp2_with fail
  refine (hkc _).mono ?_
  rintro e w4 ⟨rfl, rfl⟩
  go_wp2_with fail
  refine (wlong_c P B q _ _ HW2.out HQ.out (by have := HL.out; simp; omega)).mono ?_
  rintro e w3 ⟨rfl, hC⟩
  go_wp2_with fail
  go_ret
  have he : l ++ 1 :: encL q = l ++ [1] ++ encL q := by simp
  exact ⟨rfl, by rw [he]; exact hC.out.1, HK2.out.trans hC.out.2⟩
set_option maxHeartbeats 4000000 in
theorem wvalue2_c (P B : Nat) (n : Int) (x : Nat) (s : ByteArray) (y : Bool) (l : List UInt8) (w : World) (h : Wr w P B l) (hl : l.length < 800000) (hs : s.size ≤ 255) :
    Calls Try.prog 20 #[.pointer (some ⟨P, 0, none⟩), val 2 n x s y] w fun e w' => e = .returned (.pointer (some ⟨P, 0, none⟩)) ∧ Aside (Wr w' P B (l ++ 2 :: encT s) ∧ Wk P w w') := by
  have H := Lib.hid h
  have HL : Aside (l.length < 800000) := hl
  have htv := fun W => tellsV_c 2 n x s y W
  have htt : tellsV 2 s = true := by simp [tellsV]; omega
  rw [htt] at htv
  have HS : Aside (s.size ≤ 255) := hs
  clear htt hs
  have HPw : Aside (P < w.heap.size) := Nat.lt_of_lt_of_le h.pb h.bw
  have HNR : Aside (¬ RowOf w P w.heap.size) := fun hr => by have := (h.row hr).2; omega
  clear h hl
  go_enter Try.func20, Try.ntmps20
  go_wp2_with fail
  refine (htv _).mono ?_
  rintro e w1 ⟨rfl, hb1⟩
  have yy := fun i => (hb1.cell (p := ⟨w.heap.size, i, none⟩) (by simp)).trans (World.cell?_alloc_new w #[.int .i64 2, .int .i64 n, .float .f64 x, .string s, .bool y] 28 i)
  have y0 := yy 0; have y1 := yy 1; have y2 := yy 2; have y3 := yy 3; have y4 := yy 4
  simp only [List.getElem?_toArray, List.getElem?_cons_zero, List.getElem?_cons_succ] at y0 y1 y2 y3 y4
  have hk1 : Kb (fun _ => False) w w1 := (Kb.alloc _ _ _).trans (Kb.of_below hb1 (fun k h1 h2 => absurd h1 (by omega)))
  have HW1 : Aside (Wr w1 P B l) := H.out.kb hk1 (fun _ _ _ h => h)
  have HK1 : Aside (Wk P w w1) := Wk.of_kb hk1 HPw.out (fun _ _ h => h)
  have hAw : w.heap.size < w1.heap.size := by have := hb1.size; simp at this; omega
  have HN1 : Aside (¬ RowOf w1 P w.heap.size) := fun hr => HNR.out (hr.kb hk1 HPw.out (fun h => h))
  clear yy hb1 hk1 htv
  go_wp2_with fail
  refine (wbyte_c P B w1.heap.size 1 2 l (w1.alloc (.cells #[.int .i64 2] 3)) (HW1.out.alloc _) (by decide) (by decide) (by rw [World.cell?_alloc_new]; rfl) (by have := HL.out; omega)).mono ?_
  rintro e w2 ⟨rfl, hA⟩
  have hA1 : w.heap.size < (w1.alloc (.cells #[.int .i64 2] 3)).heap.size := by simp; omega
  have hPA : w.heap.size ≠ P := by have := HPw.out; omega
  have hP1 : P < w1.heap.size := by have := HPw.out; omega
  have hNR1 : ¬ RowOf (w1.alloc (.cells #[.int .i64 2] 3)) P w.heap.size := fun hr => HN1.out (hr.kb (Kb.alloc (fun _ => False) w1 _) hP1 (fun h => h))
  have zz := fun i => (hA.out.2.cell hA1 hPA hNR1 i).trans (World.cell?_alloc_lt w1 (.cells #[.int .i64 2] 3) ⟨w.heap.size, i, none⟩ hAw)
  have z0 := (zz 0).trans y0; have z1 := (zz 1).trans y1; have z2 := (zz 2).trans y2; have z3 := (zz 3).trans y3; have z4 := (zz 4).trans y4
  have HW2 : Aside (Wr w2 P B (l ++ [2])) := hA.out.1
  have HK2 : Aside (Wk P w w2) := HK1.out.trans ((Wk.alloc w1 hP1 _).trans hA.out.2)
  clear y0 y1 y2 y3 y4 zz hA HW1 HK1 hNR1 hA1 hAw
  generalize w.heap.size = A at *
  go_wp2_with fail
  refine (wtext_c P B s _ w2 HW2.out HS.out (by have := HL.out; simp; omega)).mono ?_
  rintro e w3 ⟨rfl, hC⟩
  go_wp2_with fail
  go_ret
  have he : l ++ 2 :: encT s = l ++ [2] ++ encT s := by simp
  exact ⟨rfl, by rw [he]; exact hC.out.1, HK2.out.trans hC.out.2⟩
set_option maxHeartbeats 4000000 in
theorem wvalue3_c (P B : Nat) (n : Int) (x : Nat) (s : ByteArray) (y : Bool) (l : List UInt8) (w : World) (h : Wr w P B l) (hl : l.length < 800000) :
    Calls Try.prog 20 #[.pointer (some ⟨P, 0, none⟩), val 3 n x s y] w fun e w' => e = .returned (.pointer (some ⟨P, 0, none⟩)) ∧ Aside (Wr w' P B (l ++ [3, if y then 1 else 0]) ∧ Wk P w w') := by
  have H := Lib.hid h
  have HL : Aside (l.length < 800000) := hl
  have htv := fun W => tellsV_c 3 n x s y W
  have htt : tellsV 3 s = true := rfl
  rw [htt] at htv
  clear htt
  have HPw : Aside (P < w.heap.size) := Nat.lt_of_lt_of_le h.pb h.bw
  have HNR : Aside (¬ RowOf w P w.heap.size) := fun hr => by have := (h.row hr).2; omega
  clear h hl
  go_enter Try.func20, Try.ntmps20
  go_wp2_with fail
  refine (htv _).mono ?_
  rintro e w1 ⟨rfl, hb1⟩
  have yy := fun i => (hb1.cell (p := ⟨w.heap.size, i, none⟩) (by simp)).trans (World.cell?_alloc_new w #[.int .i64 3, .int .i64 n, .float .f64 x, .string s, .bool y] 28 i)
  have y0 := yy 0; have y1 := yy 1; have y2 := yy 2; have y3 := yy 3; have y4 := yy 4
  simp only [List.getElem?_toArray, List.getElem?_cons_zero, List.getElem?_cons_succ] at y0 y1 y2 y3 y4
  have hk1 : Kb (fun _ => False) w w1 := (Kb.alloc _ _ _).trans (Kb.of_below hb1 (fun k h1 h2 => absurd h1 (by omega)))
  have HW1 : Aside (Wr w1 P B l) := H.out.kb hk1 (fun _ _ _ h => h)
  have HK1 : Aside (Wk P w w1) := Wk.of_kb hk1 HPw.out (fun _ _ h => h)
  have hAw : w.heap.size < w1.heap.size := by have := hb1.size; simp at this; omega
  have HN1 : Aside (¬ RowOf w1 P w.heap.size) := fun hr => HNR.out (hr.kb hk1 HPw.out (fun h => h))
  clear yy hb1 hk1 htv
  go_wp2_with fail
  refine (wbyte_c P B w1.heap.size 1 3 l (w1.alloc (.cells #[.int .i64 3] 3)) (HW1.out.alloc _) (by decide) (by decide) (by rw [World.cell?_alloc_new]; rfl) (by have := HL.out; omega)).mono ?_
  rintro e w2 ⟨rfl, hA⟩
  have hA1 : w.heap.size < (w1.alloc (.cells #[.int .i64 3] 3)).heap.size := by simp; omega
  have hPA : w.heap.size ≠ P := by have := HPw.out; omega
  have hP1 : P < w1.heap.size := by have := HPw.out; omega
  have hNR1 : ¬ RowOf (w1.alloc (.cells #[.int .i64 3] 3)) P w.heap.size := fun hr => HN1.out (hr.kb (Kb.alloc (fun _ => False) w1 _) hP1 (fun h => h))
  have zz := fun i => (hA.out.2.cell hA1 hPA hNR1 i).trans (World.cell?_alloc_lt w1 (.cells #[.int .i64 3] 3) ⟨w.heap.size, i, none⟩ hAw)
  have z0 := (zz 0).trans y0; have z1 := (zz 1).trans y1; have z2 := (zz 2).trans y2; have z3 := (zz 3).trans y3; have z4 := (zz 4).trans y4
  have HW2 : Aside (Wr w2 P B (l ++ [3])) := hA.out.1
  have HK2 : Aside (Wk P w w2) := HK1.out.trans ((Wk.alloc w1 hP1 _).trans hA.out.2)
  clear y0 y1 y2 y3 y4 zz hA HW1 HK1 hNR1 hA1 hAw
  generalize w.heap.size = A at *
  have hP2 : P < w2.heap.size := Nat.lt_of_lt_of_le HW2.out.pb HW2.out.bw
  cases y
  · go_wp2_with fail
    refine (wbyte_c P B w2.heap.size 1 0 _ (w2.alloc (.cells #[.int .i64 0] 3)) (HW2.out.alloc _) (by decide) (by decide) (by rw [World.cell?_alloc_new]; rfl) (by have := HL.out; simp; omega)).mono ?_
    rintro e w3 ⟨rfl, hC⟩
    go_wp2_with fail
    go_ret
    have he : l ++ [3, (0 : UInt8)] = l ++ [3] ++ [UInt8.ofNat (0 : Int).toNat] := by simp
    exact ⟨rfl, by rw [he]; exact hC.out.1, HK2.out.trans ((Wk.alloc w2 hP2 _).trans hC.out.2)⟩
  · go_wp2_with fail
    refine (wbyte_c P B w2.heap.size 1 1 _ (w2.alloc (.cells #[.int .i64 1] 3)) (HW2.out.alloc _) (by decide) (by decide) (by rw [World.cell?_alloc_new]; rfl) (by have := HL.out; simp; omega)).mono ?_
    rintro e w3 ⟨rfl, hC⟩
    go_wp2_with fail
    go_ret
    have he : l ++ [3, (1 : UInt8)] = l ++ [3] ++ [UInt8.ofNat (1 : Int).toNat] := by simp
    exact ⟨rfl, by rw [he]; exact hC.out.1, HK2.out.trans ((Wk.alloc w2 hP2 _).trans hC.out.2)⟩

/-- A value that bytes tell. -/
theorem wvalue_c (a : At) (P B : Nat) (l : List UInt8) (w : World) (h : Wr w P B l) (hl : l.length < 800000) (hx : a.x < 18446744073709551616) (ht : tellsV a.k a.s = true) :
    Calls Try.prog 20 #[.pointer (some ⟨P, 0, none⟩), valQ a] w fun e w' => e = .returned (.pointer (some ⟨P, 0, none⟩)) ∧ Aside (Wr w' P B (l ++ encV a) ∧ Wk P w w') := by
  obtain ⟨nm, k, n, x, s, y⟩ := a
  simp only [tellsV, Bool.and_eq_true, Bool.or_eq_true, decide_eq_true_eq, bne_iff_ne] at ht
  rcases (show k = 0 ∨ k = 1 ∨ k = 2 ∨ k = 3 by omega) with rfl | rfl | rfl | rfl
  · exact wvalue0_c P B n x s y l w h hl
  · exact wvalue1_c P B n x s y l w h hl hx
  · exact wvalue2_c P B n x s y l w h hl (by omega)
  · exact wvalue3_c P B n x s y l w h hl
end Go.Proofs.Ytecfbbddhnkilaa
