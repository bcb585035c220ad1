/- parse.Filter by its contracts. -/
import Derived.Test.YtljmlfeedleodaaGreatDoorPaE
namespace Go.Proofs.YtljmlfeedleodaaGreatDoor
open Go.RowKit Go.Shelf
open Go.Proofs
set_option maxRecDepth 100000

/-- What conditions answers of the text that is asked: L, of which there are q. -/
def AskedR (q : Nat) (L : List Cn) (w : World) (e : Ending) (w' : World) : Prop := ∃ ro rcap, e = .returned (.tuple #[.slice ro q rcap, .bool true]) ∧ Aside (CondsB w'.heap.size w' ro L ∧ Below w.heap.size w w' ∧ ∀ b off, ro = some ⟨b, off, none⟩ → w.heap.size ≤ b)
/-- What Filter answers, where there is a filter. -/
def FilterR (sc : ByteArray) (q : Nat) (L : List Cn) (w : World) (e : Ending) (w' : World) : Prop := ∃ ro rcap, e = .returned (.tuple #[fil sc ro q rcap, .int .i64 0]) ∧ Aside (CondsB w'.heap.size w' ro L ∧ Below w.heap.size w w')
theorem conds_set {W : World} {ro : Option Addr} {L : List Cn} {P o : Nat} {v : Value} (h : CondsB W.heap.size W ro L) (hne : ∀ b off, ro = some ⟨b, off, none⟩ → P < b) : CondsB (W.setCell ⟨P, o, none⟩ v).heap.size (W.setCell ⟨P, o, none⟩ v) ro L := by
  rcases h with h | ⟨b, off, h1, h2, h3⟩
  · exact Or.inl h
  · have := hne b off h1
    refine Or.inr ⟨b, off, h1, by simpa using h2, fun j hj c u hu => ?_⟩
    rw [World.cell?_of_block (w := W) (Below.heap_setCell W _ _ b (by show b ≠ P; omega))]
    exact h3 j hj c u hu
abbrev zf : Array Value := #[.string ⟨#[]⟩, .slice none 0 0]
set_option maxHeartbeats 4000000 in
theorem filter_long (s sc ak : ByteArray) (q : Nat) (L : List Cn) (hs : s.size ≤ 100000) (hcb : cb s 58 = (sc, ak, true)) (hak : ak.size ≤ 100000) (hq : 6 < q) (w : World) (hm : MaxI w)
    (hc : ∀ W, Below w.heap.size w W → Calls Tryz.prog 12 #[.string (trimS ak)] W (AskedR q L W)) :
    Calls Tryz.prog 6 #[.string s] w fun e w' => e = .returned (.tuple #[fil ⟨#[]⟩ none 0 0, .int .i64 2]) ∧ Below w.heap.size w w' := by
  have HCB : Aside (∀ W, Below w.heap.size w W → Calls Tryz.prog 11 #[.string s, .string ⟨#[58]⟩] W fun e w' => e = .returned (.tuple #[.string sc, .string ak, .bool true]) ∧ Below W.heap.size W w') := fun W hW => by
    have := cutStr_c s 58 hs W (hm.below hW)
    rw [hcb] at this
    exact this
  have HT : Aside (∀ W, Calls Tryz.prog 13 #[.string ak, .string ⟨#[32]⟩] W fun e w' => e = .returned (.string (trimS ak)) ∧ Below W.heap.size W w') := fun W => trim_c ak hak W
  have HC := Lib.hid hc
  generalize trimS ak = t at *
  have hqz : (6 : Int) < (q : Int) := by omega
  have HB0 : Aside (Below w.heap.size w (w.alloc (.cells zf 26))) := (Below.refl _ _).alloc (Nat.le_refl _) _
  have hz0 : w.heap.size + 1 ≤ (w.alloc (.cells zf 26)).heap.size := by simp
  have HZ : Aside (∀ W, Below (w.heap.size + 1) (w.alloc (.cells zf 26)) W → (W.cell? ⟨w.heap.size, 0, none⟩ = some (.string ⟨#[]⟩) ∧ W.cell? ⟨w.heap.size, 1, none⟩ = some (.slice none 0 0)) ∧ ∀ i, W.frozen? ⟨w.heap.size, i, none⟩ = false) := fun W hW =>
    ⟨⟨one_lay hW 0 _ rfl, one_lay hW 1 _ rfl⟩, fun i => by rw [hW.frozen (p := ⟨w.heap.size, i, none⟩) (Nat.lt_succ_self _)]; exact alloc_frozen _ _ _ _⟩
  clear hs hcb hak hm hc
  go_enter Tryz.func6, Tryz.ntmps6
  go_wp2_with fail
  generalize (w.alloc (.cells zf 26)) = w0 at *
  refine (HCB.out _ HB0.out).mono ?_
  rintro e w1 ⟨rfl, hb1⟩
  have HB1 : Aside (Below (w.heap.size + 1) w0 w1) := hb1.mono hz0
  clear hb1 HCB
  go_wp2_with fail
  refine (HT.out _).mono ?_
  rintro e w2 ⟨rfl, hb2⟩
  have HB2 : Aside (Below (w.heap.size + 1) w0 w2) := HB1.out.trans (hb2.mono (Nat.le_trans hz0 HB1.out.size))
  clear hb2 HT
  go_wp2_with fail
  refine (HC.out _ (HB0.out.trans (HB2.out.mono (by omega)))).mono ?_
  rintro e w3 ⟨ro, rcap, rfl, H3⟩
  have HB3 : Aside (Below (w.heap.size + 1) w0 w3) := HB2.out.trans (H3.out.2.1.mono (Nat.le_trans hz0 HB2.out.size))
  clear H3 HC
  obtain ⟨⟨x0, x1⟩, hf⟩ := HZ.out _ HB3.out
  have f0 := hf 0; have f1 := hf 1
  clear hf
  go_wp2_with fail
  refine bodyPost_ret (v := .tuple #[fil ⟨#[]⟩ none 0 0, .int .i64 2]) (by simp [results, Tryz.results6, go_sem, x0, x1]) rfl ⟨rfl, ?_⟩
  exact ((HB0.out.trans (HB3.out.mono (by omega))).setCell (Nat.le_refl _) _).setCell (Nat.le_refl _) _
set_option maxHeartbeats 4000000 in
theorem filter_no (s sc ak : ByteArray) (q : Nat) (L : List Cn) (hs : s.size ≤ 100000) (hcb : cb s 58 = (sc, ak, true)) (hak : ak.size ≤ 100000) (hsc : sc.size ≤ 100000) (hts : (trimS sc).size ≤ 3000) (hq : q ≤ 6) (hL : L.length = q) (hr : rightF (trimS sc) L = false) (w : World) (hm : MaxI w)
    (hc : ∀ W, Below w.heap.size w W → Calls Tryz.prog 12 #[.string (trimS ak)] W (AskedR q L W)) :
    Calls Tryz.prog 6 #[.string s] w fun e w' => e = .returned (.tuple #[fil ⟨#[]⟩ none 0 0, .int .i64 1]) ∧ Below w.heap.size w w' := by
  have HCB : Aside (∀ W, Below w.heap.size w W → Calls Tryz.prog 11 #[.string s, .string ⟨#[58]⟩] W fun e w' => e = .returned (.tuple #[.string sc, .string ak, .bool true]) ∧ Below W.heap.size W w') := fun W hW => by
    have := cutStr_c s 58 hs W (hm.below hW)
    rw [hcb] at this
    exact this
  have HT : Aside (∀ W, Calls Tryz.prog 13 #[.string ak, .string ⟨#[32]⟩] W fun e w' => e = .returned (.string (trimS ak)) ∧ Below W.heap.size W w') := fun W => trim_c ak hak W
  have HT2 : Aside (∀ W, Calls Tryz.prog 13 #[.string sc, .string ⟨#[32]⟩] W fun e w' => e = .returned (.string (trimS sc)) ∧ Below W.heap.size W w') := fun W => trim_c sc hsc W
  have HC := Lib.hid hc
  have HR : Aside (∀ ro rcap W, Below w.heap.size w W → CondsB W.heap.size W ro L → Calls Tryz.prog 7 #[.agg #[.string (trimS sc), .slice ro q rcap]] W fun e w' => e = .returned (.bool false) ∧ Below W.heap.size W w') := fun ro rcap W hW hcs => by
    have := fright_c (trimS sc) ro rcap L W hcs (by omega) hts (hm.below hW)
    rw [hr, hL] at this
    exact this
  generalize trimS ak = t at *
  generalize trimS sc = ts at *
  have hqz : (q : Int) ≤ 6 := by omega
  have HB0 : Aside (Below w.heap.size w (w.alloc (.cells zf 26))) := (Below.refl _ _).alloc (Nat.le_refl _) _
  have hz0 : w.heap.size + 1 ≤ (w.alloc (.cells zf 26)).heap.size := by simp
  have HZ : Aside (∀ W, Below (w.heap.size + 1) (w.alloc (.cells zf 26)) W → (W.cell? ⟨w.heap.size, 0, none⟩ = some (.string ⟨#[]⟩) ∧ W.cell? ⟨w.heap.size, 1, none⟩ = some (.slice none 0 0)) ∧ ∀ i, W.frozen? ⟨w.heap.size, i, none⟩ = false) := fun W hW =>
    ⟨⟨one_lay hW 0 _ rfl, one_lay hW 1 _ rfl⟩, fun i => by rw [hW.frozen (p := ⟨w.heap.size, i, none⟩) (Nat.lt_succ_self _)]; exact alloc_frozen _ _ _ _⟩
  clear hs hcb hak hm hc hsc hts hr hL
  go_enter Tryz.func6, Tryz.ntmps6
  go_wp2_with fail
  generalize (w.alloc (.cells zf 26)) = w0 at *
  refine (HCB.out _ HB0.out).mono ?_
  rintro e w1 ⟨rfl, hb1⟩
  have HB1 : Aside (Below (w.heap.size + 1) w0 w1) := hb1.mono hz0
  clear hb1 HCB
  go_wp2_with fail
  refine (HT.out _).mono ?_
  rintro e w2 ⟨rfl, hb2⟩
  have HB2 : Aside (Below (w.heap.size + 1) w0 w2) := HB1.out.trans (hb2.mono (Nat.le_trans hz0 HB1.out.size))
  clear hb2 HT
  go_wp2_with fail
  refine (HC.out _ (HB0.out.trans (HB2.out.mono (by omega)))).mono ?_
  rintro e w3 ⟨ro, rcap, rfl, H3⟩
  have HB3 : Aside (Below (w.heap.size + 1) w0 w3) := HB2.out.trans (H3.out.2.1.mono (Nat.le_trans hz0 HB2.out.size))
  have HCS3 := Lib.hid H3.out.1
  have HGE : Aside (∀ b off, ro = some ⟨b, off, none⟩ → w.heap.size < b) := fun b off h => by
    have h1 := H3.out.2.2 b off h
    have h2 := HB2.out.size
    omega
  clear H3 HC
  go_wp2_with fail
  refine (HT2.out _).mono ?_
  rintro e w4 ⟨rfl, hb4⟩
  have HB4 : Aside (Below (w.heap.size + 1) w0 w4) := HB3.out.trans (hb4.mono (Nat.le_trans hz0 HB3.out.size))
  have HCS4 := Lib.hid (HCS3.out.on hb4)
  have z4 : w.heap.size + 1 ≤ w4.heap.size := Nat.le_trans hz0 HB4.out.size
  clear hb4 HT2 HCS3
  go_wp2_with fail
  have HB5 : Aside (Below (w.heap.size + 1) w0 (w4.alloc (.cells #[.string ts, .slice ro q rcap] 26))) := HB4.out.alloc z4 _
  have HCS5 := Lib.hid (HCS4.out.on ((Below.refl w4.heap.size w4).alloc (Nat.le_refl _) (.cells #[.string ts, .slice ro q rcap] 26)))
  have y0 : ∀ W, Below (w4.heap.size + 1) (w4.alloc (.cells #[.string ts, .slice ro q rcap] 26)) W → W.cell? ⟨w4.heap.size, 0, none⟩ = some (.string ts) ∧ W.cell? ⟨w4.heap.size, 1, none⟩ = some (.slice ro q rcap) := fun W hW => ⟨one_lay hW 0 _ rfl, one_lay hW 1 _ rfl⟩
  have HY := Lib.hid y0
  have z5 : w4.heap.size + 1 ≤ (w4.alloc (.cells #[.string ts, .slice ro q rcap] 26)).heap.size := by simp
  clear y0
  generalize (w4.alloc (.cells #[.string ts, .slice ro q rcap] 26)) = w5 at *
  refine (HR.out ro rcap _ (HB0.out.trans (HB5.out.mono (by omega))) HCS5.out).mono ?_
  rintro e w6 ⟨rfl, hb6⟩
  have HB6 : Aside (Below (w.heap.size + 1) w0 w6) := HB5.out.trans (hb6.mono (by omega))
  obtain ⟨y0, y1⟩ := HY.out _ (hb6.mono z5)
  have HCS6 := Lib.hid (HCS5.out.on hb6)
  clear hb6 HR HCS5 HCS4 HY
  obtain ⟨⟨x0, x1⟩, hf⟩ := HZ.out _ HB6.out
  have f0 := hf 0; have f1 := hf 1
  clear hf
  go_wp2_with fail
  refine bodyPost_ret (v := .tuple #[fil ⟨#[]⟩ none 0 0, .int .i64 1]) (by simp [results, Tryz.results6, go_sem, x0, x1]) rfl ⟨rfl, ?_⟩
  exact ((HB0.out.trans (HB6.out.mono (by omega))).setCell (Nat.le_refl _) _).setCell (Nat.le_refl _) _
set_option maxHeartbeats 4000000 in
theorem filter_ok (s sc ak : ByteArray) (q : Nat) (L : List Cn) (hs : s.size ≤ 100000) (hcb : cb s 58 = (sc, ak, true)) (hak : ak.size ≤ 100000) (hsc : sc.size ≤ 100000) (hts : (trimS sc).size ≤ 3000) (hq : q ≤ 6) (hL : L.length = q) (hr : rightF (trimS sc) L = true) (w : World) (hm : MaxI w)
    (hc : ∀ W, Below w.heap.size w W → Calls Tryz.prog 12 #[.string (trimS ak)] W (AskedR q L W)) :
    Calls Tryz.prog 6 #[.string s] w (FilterR (trimS sc) q L w) := by
  have HCB : Aside (∀ W, Below w.heap.size w W → Calls Tryz.prog 11 #[.string s, .string ⟨#[58]⟩] W fun e w' => e = .returned (.tuple #[.string sc, .string ak, .bool true]) ∧ Below W.heap.size W w') := fun W hW => by
    have := cutStr_c s 58 hs W (hm.below hW)
    rw [hcb] at this
    exact this
  have HT : Aside (∀ W, Calls Tryz.prog 13 #[.string ak, .string ⟨#[32]⟩] W fun e w' => e = .returned (.string (trimS ak)) ∧ Below W.heap.size W w') := fun W => trim_c ak hak W
  have HT2 : Aside (∀ W, Calls Tryz.prog 13 #[.string sc, .string ⟨#[32]⟩] W fun e w' => e = .returned (.string (trimS sc)) ∧ Below W.heap.size W w') := fun W => trim_c sc hsc W
  have HC := Lib.hid hc
  have HR : Aside (∀ ro rcap W, Below w.heap.size w W → CondsB W.heap.size W ro L → Calls Tryz.prog 7 #[.agg #[.string (trimS sc), .slice ro q rcap]] W fun e w' => e = .returned (.bool true) ∧ Below W.heap.size W w') := fun ro rcap W hW hcs => by
    have := fright_c (trimS sc) ro rcap L W hcs (by omega) hts (hm.below hW)
    rw [hr, hL] at this
    exact this
  generalize trimS ak = t at *
  generalize trimS sc = ts at *
  have hqz : (q : Int) ≤ 6 := by omega
  have HB0 : Aside (Below w.heap.size w (w.alloc (.cells zf 26))) := (Below.refl _ _).alloc (Nat.le_refl _) _
  have hz0 : w.heap.size + 1 ≤ (w.alloc (.cells zf 26)).heap.size := by simp
  have HZ : Aside (∀ W, Below (w.heap.size + 1) (w.alloc (.cells zf 26)) W → (W.cell? ⟨w.heap.size, 0, none⟩ = some (.string ⟨#[]⟩) ∧ W.cell? ⟨w.heap.size, 1, none⟩ = some (.slice none 0 0)) ∧ ∀ i, W.frozen? ⟨w.heap.size, i, none⟩ = false) := fun W hW =>
    ⟨⟨one_lay hW 0 _ rfl, one_lay hW 1 _ rfl⟩, fun i => by rw [hW.frozen (p := ⟨w.heap.size, i, none⟩) (Nat.lt_succ_self _)]; exact alloc_frozen _ _ _ _⟩
  clear hs hcb hak hm hc hsc hts hr hL
  go_enter Tryz.func6, Tryz.ntmps6
  go_wp2_with fail
  generalize (w.alloc (.cells zf 26)) = w0 at *
  refine (HCB.out _ HB0.out).mono ?_
  rintro e w1 ⟨rfl, hb1⟩
  have HB1 : Aside (Below (w.heap.size + 1) w0 w1) := hb1.mono hz0
  clear hb1 HCB
  go_wp2_with fail
  refine (HT.out _).mono ?_
  rintro e w2 ⟨rfl, hb2⟩
  have HB2 : Aside (Below (w.heap.size + 1) w0 w2) := HB1.out.trans (hb2.mono (Nat.le_trans hz0 HB1.out.size))
  clear hb2 HT
  go_wp2_with fail
  refine (HC.out _ (HB0.out.trans (HB2.out.mono (by omega)))).mono ?_
  rintro e w3 ⟨ro, rcap, rfl, H3⟩
  have HB3 : Aside (Below (w.heap.size + 1) w0 w3) := HB2.out.trans (H3.out.2.1.mono (Nat.le_trans hz0 HB2.out.size))
  have HCS3 := Lib.hid H3.out.1
  have HGE : Aside (∀ b off, ro = some ⟨b, off, none⟩ → w.heap.size < b) := fun b off h => by
    have h1 := H3.out.2.2 b off h
    have h2 := HB2.out.size
    omega
  clear H3 HC
  go_wp2_with fail
  refine (HT2.out _).mono ?_
  rintro e w4 ⟨rfl, hb4⟩
  have HB4 : Aside (Below (w.heap.size + 1) w0 w4) := HB3.out.trans (hb4.mono (Nat.le_trans hz0 HB3.out.size))
  have HCS4 := Lib.hid (HCS3.out.on hb4)
  have z4 : w.heap.size + 1 ≤ w4.heap.size := Nat.le_trans hz0 HB4.out.size
  clear hb4 HT2 HCS3
  go_wp2_with fail
  have HB5 : Aside (Below (w.heap.size + 1) w0 (w4.alloc (.cells #[.string ts, .slice ro q rcap] 26))) := HB4.out.alloc z4 _
  have HCS5 := Lib.hid (HCS4.out.on ((Below.refl w4.heap.size w4).alloc (Nat.le_refl _) (.cells #[.string ts, .slice ro q rcap] 26)))
  have y0 : ∀ W, Below (w4.heap.size + 1) (w4.alloc (.cells #[.string ts, .slice ro q rcap] 26)) W → W.cell? ⟨w4.heap.size, 0, none⟩ = some (.string ts) ∧ W.cell? ⟨w4.heap.size, 1, none⟩ = some (.slice ro q rcap) := fun W hW => ⟨one_lay hW 0 _ rfl, one_lay hW 1 _ rfl⟩
  have HY := Lib.hid y0
  have z5 : w4.heap.size + 1 ≤ (w4.alloc (.cells #[.string ts, .slice ro q rcap] 26)).heap.size := by simp
  clear y0
  generalize (w4.alloc (.cells #[.string ts, .slice ro q rcap] 26)) = w5 at *
  refine (HR.out ro rcap _ (HB0.out.trans (HB5.out.mono (by omega))) HCS5.out).mono ?_
  rintro e w6 ⟨rfl, hb6⟩
  have HB6 : Aside (Below (w.heap.size + 1) w0 w6) := HB5.out.trans (hb6.mono (by omega))
  obtain ⟨y0, y1⟩ := HY.out _ (hb6.mono z5)
  have HCS6 := Lib.hid (HCS5.out.on hb6)
  clear hb6 HR HCS5 HCS4 HY
  obtain ⟨⟨x0, x1⟩, hf⟩ := HZ.out _ HB6.out
  have f0 := hf 0; have f1 := hf 1
  clear hf
  go_wp2_with fail
  have HBE : Aside (Below w.heap.size w ((w6.setCell ⟨w.heap.size, 0, none⟩ (.string ts)).setCell ⟨w.heap.size, 1, none⟩ (.slice ro q rcap))) := ((HB0.out.trans (HB6.out.mono (by omega))).setCell (Nat.le_refl _) _).setCell (Nat.le_refl _) _
  have HCE := Lib.hid (conds_set (P := w.heap.size) (o := 1) (v := .slice ro q rcap) (conds_set (P := w.heap.size) (o := 0) (v := .string ts) HCS6.out HGE.out) HGE.out)
  refine bodyPost_ret (v := .tuple #[fil ts ro q rcap, .int .i64 0]) (by simp [results, Tryz.results6, go_sem, x0, x1]) rfl ⟨ro, rcap, rfl, HCE.out, HBE.out⟩
end Go.Proofs.YtljmlfeedleodaaGreatDoor
