/- codec.Writer: tellsFilter, Filter, of conditions that bytes tell. -/
import Derived.Test.YtecfbbddhnkilaaCn
import Derived.Deep.DeepCutAuto
namespace Go.Proofs.Ytecfbbddhnkilaa
open Go.RowKit Go.Shelf Go.Sort
open Go.Proofs
set_option maxRecDepth 100000

set_option maxHeartbeats 4000000 in
theorem tellsF_c (sc : ByteArray) (ao : Option Addr) (cap : Nat) (cs : List Cn) (w : World) (hs : CondsB w.heap.size w ao cs) (ht : ∀ c ∈ cs, TellC c) (hsc : sc.size ≤ 255) (hl : cs.length ≤ 255) :
    Calls Try.prog 17 #[.agg #[.string sc, .slice ao cs.length cap]] w fun e w' => e = .returned (.bool true) ∧ Below w.heap.size w w' := by
  have HS : Aside (CondsB w.heap.size w ao cs) := hs
  have HT : Aside (∀ c ∈ cs, TellC c) := ht
  obtain ⟨n, hn⟩ : ∃ n, n = cs.length := ⟨_, rfl⟩
  have HN : Aside (n = cs.length) := hn
  have hfs := fun W => fits_c (sc.size : Int) W
  have hfn := fun W => fits_c (n : Int) W
  rw [show (decide ((0 : Int) ≤ (sc.size : Int)) && decide ((sc.size : Int) ≤ 255)) = true by simp; omega] at hfs
  rw [show (decide ((0 : Int) ≤ (n : Int)) && decide ((n : Int) ≤ 255)) = true by simp; omega] at hfn
  have HFS := Lib.hid hfs
  have HFN := Lib.hid hfn
  rw [← hn] at hl ⊢
  clear hs ht hn hfs hfn
  go_enter Try.func17, Try.ntmps17
  go_wp2_with fail
  go_loopg [8] n (fun kx s8 wr => ∃ j : Nat, s8 = .int .i64 j ∧ j ≤ n ∧ n - j ≤ kx ∧ Aside (Below w.heap.size w wr) ∧ w.heap.size < wr.heap.size ∧ wr.cell? ⟨w.heap.size, 0, none⟩ = some (.string sc) ∧ wr.cell? ⟨w.heap.size, 1, none⟩ = some (.slice ao n cap))
  case atStart => exact ⟨0, rfl, Nat.zero_le _, by omega, (Below.refl _ _).alloc (Nat.le_refl _) _, by simp, by simp [World.cell?_alloc_new], by simp [World.cell?_alloc_new]⟩
  case round =>
    obtain ⟨j, rfl, hj, hjx, HB, hz, c0, c1⟩ := hrel
    by_cases hlt : j < n
    · rcases (HS.out.below HB.out (Nat.le_refl _)) with h0 | ⟨b, off, hao, hbs, hrow⟩
      · rw [h0] at HN; exact absurd HN.out (by simp; omega)
      subst hao
      have hjl : j < cs.length := by rw [← HN.out]; exact hlt
      have hrow1 := hrow j hjl
      have hta := HT.out _ (memC cs j hjl)
      clear hrow
      obtain ⟨a, ha⟩ : ∃ a, a = cs[j]! := ⟨_, rfl⟩
      rw [← ha] at hrow1 hta
      clear ha hjl
      obtain ⟨⟨nm, k, m, x, s, y⟩, op⟩ := a
      obtain ⟨⟨t1, t2, _⟩, t3, t4⟩ := hta
      simp only [] at t1 t2 t3 t4
      have r0 := hrow1 0 _ rfl; have r1 := hrow1 1 _ rfl; have r2 := hrow1 2 _ rfl; have r3 := hrow1 3 _ rfl; have r4 := hrow1 4 _ rfl; have r5 := hrow1 5 _ rfl; have r6 := hrow1 6 _ rfl
      simp only [Nat.add_zero] at r0
      have hfm := fun W => fits_c (nm.size : Int) W
      rw [show (decide ((0 : Int) ≤ (nm.size : Int)) && decide ((nm.size : Int) ≤ 255)) = true by simp; omega] at hfm
      have hfo := fun W => fits_c op W
      rw [show (decide ((0 : Int) ≤ op) && decide (op ≤ 255)) = true by simp; omega] at hfo
      have htv := fun W => tellsV_c k m x s y W
      rw [t2] at htv
      have hjz : (j : Int) < (n : Int) := by omega
      have hjz0 : (0 : Int) ≤ (j : Int) := by omega
      have HFM := Lib.hid hfm
      have HFO := Lib.hid hfo
      have HTV := Lib.hid htv
      clear hrow1 t1 t2 t3 t4 hfm htv hfo
      go_wp2_with fail
      have q0 := (World.cell?_alloc_lt wr (.cells #[.string nm, .int .i64 op, .int .i64 k, .int .i64 m, .float .f64 x, .string s, .bool y] 30) ⟨w.heap.size, 0, none⟩ hz).trans c0
      have q1 := (World.cell?_alloc_lt wr (.cells #[.string nm, .int .i64 op, .int .i64 k, .int .i64 m, .float .f64 x, .string s, .bool y] 30) ⟨w.heap.size, 1, none⟩ hz).trans c1
      have HB2 : Aside (Below w.heap.size w (wr.alloc (.cells #[.string nm, .int .i64 op, .int .i64 k, .int .i64 m, .float .f64 x, .string s, .bool y] 30))) := HB.out.alloc (Nat.le_of_lt hz) _
      have yy := World.cell?_alloc_new wr #[.string nm, .int .i64 op, .int .i64 k, .int .i64 m, .float .f64 x, .string s, .bool y] 30
      have y0 := yy 0; have y1 := yy 1; have y2 := yy 2; have y3 := yy 3; have y4 := yy 4; have y5 := yy 5; have y6 := yy 6
      simp only [List.getElem?_toArray, List.getElem?_cons_zero, List.getElem?_cons_succ] at y0 y1 y2 y3 y4 y5 y6
      have hz2 : w.heap.size < (wr.alloc (.cells #[.string nm, .int .i64 op, .int .i64 k, .int .i64 m, .float .f64 x, .string s, .bool y] 30)).heap.size := by simp; omega
      clear yy r0 r1 r2 r3 r4 r5 r6 c0 c1 HB hz
      generalize (wr.alloc (.cells #[.string nm, .int .i64 op, .int .i64 k, .int .i64 m, .float .f64 x, .string s, .bool y] 30)) = w2 at *
      generalize wr.heap.size = A at *
      refine (HFM.out _).mono ?_
      rintro e w3 ⟨rfl, rfl⟩
      go_wp2_with fail
      refine (HFO.out _).mono ?_
      rintro e w3 ⟨rfl, rfl⟩
      go_wp2_with fail
      refine (HTV.out _).mono ?_
      rintro e w3 ⟨rfl, hb3⟩
      have p0 := (hb3.cell (p := ⟨w.heap.size, 0, none⟩) hz2).trans q0
      have p1 := (hb3.cell (p := ⟨w.heap.size, 1, none⟩) hz2).trans q1
      have HB3 : Aside (Below w.heap.size w w3) := HB2.out.trans (hb3.mono HB2.out.size)
      have hz3 : w.heap.size < w3.heap.size := Nat.lt_of_lt_of_le hz2 hb3.size
      clear q0 q1 y0 y1 y2 y3 y4 y5 y6 hb3
      go_wp2_with fail
      go_roundg (n - (j + 1))
      case measure => omega
      case rel => exact ⟨j + 1, by go_num, hlt, Nat.le_refl _, HB3, hz3, p0, p1⟩
    · obtain rfl : j = n := by omega
      clear hlt hj hjx
      go_wp2_with fail
      refine (HFS.out _).mono ?_
      rintro e w3 ⟨rfl, rfl⟩
      go_wp2_with fail
      refine (HFN.out _).mono ?_
      rintro e w3 ⟨rfl, rfl⟩
      go_wp2_with fail
      go_ret
      exact ⟨rfl, HB.out⟩

/-- Behind some calls of the Writer at P: what it has laid; block A lies as it lay. -/
structure Wa (P B A : Nat) (w0 : World) (L : List UInt8) (W : World) : Prop where
  wr : Wr W P B L
  wk : Wk P w0 W
  cell : ∀ i, W.cell? ⟨A, i, none⟩ = w0.cell? ⟨A, i, none⟩
  lt : A < W.heap.size
  nr : ¬ RowOf W P A
theorem Wr.pw {W : World} {P B : Nat} {l : List UInt8} (h : Wr W P B l) : P < W.heap.size := Nat.lt_of_lt_of_le h.pb h.bw
theorem Wk.refl (P : Nat) (w : World) (h : P < w.heap.size) : Wk P w w := Wk.of_kb (Kb.refl (fun _ => False) w) h (fun _ _ h => h)
theorem Wa.start {P B A : Nat} {w0 : World} {L : List UInt8} (h : Wr w0 P B L) (hA : A < w0.heap.size) (hn : ¬ RowOf w0 P A) : Wa P B A w0 L w0 := ⟨h, Wk.refl P w0 h.pw, fun _ => rfl, hA, hn⟩
theorem Wa.step {P B A : Nat} {w0 W W' : World} {L L' : List UInt8} (h : Wa P B A w0 L W) (hP : A ≠ P) (h1 : Wr W' P B L') (h2 : Wk P W W') : Wa P B A w0 L' W' :=
  ⟨h1, h.wk.trans h2, fun i => (h2.cell h.lt hP h.nr i).trans (h.cell i), Nat.lt_of_lt_of_le h.lt h2.kb.size, h2.notRow h.lt h.nr⟩
theorem Wa.alloc {P B A : Nat} {w0 W : World} {L : List UInt8} (h : Wa P B A w0 L W) (hP : A ≠ P) (o : Obj) : Wa P B A w0 L (W.alloc o) := h.step hP (h.wr.alloc o) (Wk.alloc W h.wr.pw o)
theorem Wa.drew {P B A : Nat} {w0 W : World} {L : List UInt8} (h : Wa P B A w0 L W) (hP : A ≠ P) : Wa P B A w0 L W.drew := h.step hP h.wr.drew (Wk.of_kb (Kb.drew (fun _ => False) W) h.wr.pw (fun _ _ h => h))
theorem newRow {W : World} {P B : Nat} {l : List UInt8} (h : Wr W P B l) (o : Obj) : ¬ RowOf (W.alloc o) P W.heap.size := fun hr => by
  have := (h.row (hr.kb (Kb.alloc (fun _ => False) W o) h.pw (fun h => h))).2; omega
theorem newRowD {W : World} {P B : Nat} {l : List UInt8} (h : Wr W P B l) (o : Obj) : ¬ RowOf (W.alloc o).drew P W.heap.size := fun hr => by
  have := (h.row (hr.kb ((Kb.alloc (fun _ => False) W o).trans (Kb.drew _ _)) h.pw (fun h => h))).2; omega

set_option maxHeartbeats 8000000 in
theorem wfilter_c (P B : Nat) (sc : ByteArray) (ao : Option Addr) (cap : Nat) (cs : List Cn) (w : World) (h : Wr w P B []) (hs : CondsB P w ao cs) (ht : ∀ c ∈ cs, TellC c) (hsc : sc.size ≤ 255) (hl : cs.length ≤ 255) :
    Calls Try.prog 6 #[.pointer (some ⟨P, 0, none⟩), .agg #[.string sc, .slice ao cs.length cap]] w fun e w' => e = .returned (.pointer (some ⟨P, 0, none⟩)) ∧ Aside (Wr w' P B (encF sc cs) ∧ Wk P w w') := by
  have hPw : P < w.heap.size := h.pw
  have hba : Below w.heap.size w (w.alloc (.cells #[.string sc, .slice ao cs.length cap] 24)) := (Below.refl _ _).alloc (Nat.le_refl _) _
  have hte := tellsF_c sc ao cap cs (w.alloc (.cells #[.string sc, .slice ao cs.length cap] 24)) (by
    rcases hs.below hba (Nat.le_of_lt hPw) with h | ⟨b, off, h1, h2, h3⟩
    · exact Or.inl h
    · exact Or.inr ⟨b, off, h1, by simp; omega, h3⟩) ht hsc hl
  have HTE := Lib.hid hte
  have HS : Aside (CondsB P w ao cs) := hs
  have HT : Aside (∀ c ∈ cs, TellC c) := ht
  have HSC : Aside (sc.size ≤ 255) := hsc
  have HW : Aside (Wr w P B []) := h
  have HPw : Aside (P < w.heap.size) := hPw
  obtain ⟨n, hn⟩ : ∃ n, n = cs.length := ⟨_, rfl⟩
  have HN : Aside (n = cs.length) := hn
  rw [← hn] at hl HTE ⊢
  clear h hs ht hsc hn hba hte hPw
  go_enter Try.func6, Try.ntmps6
  go_wp2_with fail
  refine HTE.out.mono ?_
  rintro e w1 ⟨rfl, hb1⟩
  have hPA : w.heap.size ≠ P := by have := HPw.out; omega
  have hW0 : Wa P B w.heap.size (w.alloc (.cells #[.string sc, .slice ao n cap] 24)) [] (w.alloc (.cells #[.string sc, .slice ao n cap] 24)) := Wa.start (HW.out.alloc _) (by simp) (newRow HW.out _)
  have hk1 : Kb (fun _ => False) (w.alloc (.cells #[.string sc, .slice ao n cap] 24)) w1 := Kb.of_below hb1 (fun k h1 h2 => absurd h1 (by omega))
  have hW1 := hW0.step hPA (hW0.wr.kb hk1 (fun _ _ _ h => h)) (Wk.of_kb hk1 hW0.wr.pw (fun _ _ h => h))
  have hww : Wk P w (w.alloc (.cells #[.string sc, .slice ao n cap] 24)) := Wk.alloc w HPw.out _
  have c0 := (hW1.cell 0).trans (World.cell?_alloc_new w #[.string sc, .slice ao n cap] 24 0)
  have c1 := (hW1.cell 1).trans (World.cell?_alloc_new w #[.string sc, .slice ao n cap] 24 1)
  simp only [List.getElem?_toArray, List.getElem?_cons_zero, List.getElem?_cons_succ] at c0 c1
  have hW1' : Wa P B w.heap.size w1 [] w1 := Wa.start hW1.wr hW1.lt hW1.nr
  have HK1 : Aside (Wk P w w1) := hww.trans hW1.wk
  have HW1 : Aside (Wa P B w.heap.size w1 [] w1) := hW1'
  have hAw : w.heap.size < w1.heap.size := hW1.lt
  clear hb1 hW0 hk1 hW1 hww hW1' HTE
  have hTa : Calls Try.prog 18 #[.pointer (some ⟨P, 0, none⟩), .string sc] w1.drew fun e w' => e = .returned (.pointer (some ⟨P, 0, none⟩)) ∧ Aside (Wr w' P B (encT sc) ∧ Wk P w1.drew w') := wtext_c P B sc [] w1.drew HW1.out.wr.drew HSC.out (by simp)
  have hTb : Calls Try.prog 18 #[.pointer (some ⟨P, 0, none⟩), .string sc] (w1.alloc (.cells #[.int .i64 n] 3)).drew fun e w' => e = .returned (.pointer (some ⟨P, 0, none⟩)) ∧ Aside (Wr w' P B (encT sc) ∧ Wk P (w1.alloc (.cells #[.int .i64 n] 3)).drew w') := wtext_c P B sc [] _ (HW1.out.wr.alloc _).drew HSC.out (by simp)
  have HTX := Lib.hid hTa
  have HTY := Lib.hid hTb
  have hnz : (n : Int) ≤ 255 := by omega
  have hnz0 : (0 : Int) ≤ (n : Int) := by omega
  have hby : ∀ W b c2, Wa P B w.heap.size w1 (encT sc) W → W.cell? ⟨b, 0, none⟩ = some (.int .i64 n) → Calls Try.prog 19 #[.pointer (some ⟨P, 0, none⟩), .slice (some ⟨b, 0, none⟩) 1 c2] W fun e w' => e = .returned (.pointer (some ⟨P, 0, none⟩)) ∧ Aside (Wa P B w.heap.size w1 (encT sc ++ [UInt8.ofNat (n : Int).toNat]) w') := fun W b c2 hW hc =>
    (wbyte_c P B b c2 (n : Int) (encT sc) W hW.wr hnz0 hnz hc (by rw [encT_len]; have := HSC.out; omega)).mono fun e w' q => ⟨q.1, hW.step hPA q.2.out.1 q.2.out.2⟩
  have HBY := Lib.hid hby
  clear hTa hTb hby
  go_upto_region 3 with fail
  go_cut [19] (fun _ wx => Aside (Wa P B w.heap.size w1 (encT sc ++ [UInt8.ofNat (n : Int).toNat]) wx))
  case first =>
    go_region_with (first
    | (go_at_call 18; (with_reducible refine HTX.out.mono ?_); rintro e w2 ⟨rfl, hA2⟩
       have hW2 := (HW1.out.drew hPA).step hPA hA2.out.1 hA2.out.2
       have p0 := (hW2.cell 0).trans c0; have p1 := (hW2.cell 1).trans c1
       have HW5 : Aside (Wa P B w.heap.size w1 (encT sc) (w2.alloc (.cells #[.int .i64 n] 3))) := hW2.alloc hPA _
       have HC5 : Aside ((w2.alloc (.cells #[.int .i64 n] 3)).cell? ⟨w2.heap.size, 0, none⟩ = some (.int .i64 n)) := (by show _ = _; rw [World.cell?_alloc_new]; rfl)
       clear hW2)
    | (go_at_call 18; (with_reducible refine HTY.out.mono ?_); rintro e w2 ⟨rfl, hA2⟩
       have HW5 : Aside (Wa P B w.heap.size w1 (encT sc) w2) := ((HW1.out.alloc hPA _).drew hPA).step hPA hA2.out.1 hA2.out.2
       have HC5 : Aside (w2.cell? ⟨w1.heap.size, 0, none⟩ = some (.int .i64 n)) := (hA2.out.2.cell (k := w1.heap.size) (by show _ < (w1.alloc _).heap.size; simp) (by have := HW1.out.wr.pw; omega) (newRowD HW1.out.wr _) 0).trans ((by show (w1.alloc (.cells #[.int .i64 n] 3)).cell? _ = _; rw [World.cell?_alloc_new]; rfl)))
    | (go_at_call 19; (with_reducible refine (HBY.out _ _ _ HW5.out HC5.out).mono ?_); rintro e w3 ⟨rfl, hA3⟩))
    all_goals (go_wp2_with fail; go_meet; exact hA3)
  case rest =>
    clear HTX HTY HBY
    have d1 := (hcut.out.cell 1).trans c1
    have HW3 : Aside (Wr wc P B (encT sc ++ [UInt8.ofNat (n : Int).toNat])) := hcut.out.wr
    have HK3 : Aside (Wk P w wc) := HK1.out.trans hcut.out.wk
    clear hcut c0 c1 hAw HK1 HW1 w1
    go_wp2_with fail
    go_loopg [23] n (fun kx s23 wr => ∃ j : Nat, s23 = .int .i64 j ∧ j ≤ n ∧ n - j ≤ kx ∧ Aside (Wr wr P B (encT sc ++ [UInt8.ofNat (n : Int).toNat] ++ (cs.take j).flatMap encCn)) ∧ Aside (Wk P w wr))
    case atStart => exact ⟨0, rfl, Nat.zero_le _, by omega, by show Wr wc P B _; simpa using HW3.out, HK3.out⟩
    case round =>
      clear HW3 HK3 d1
      obtain ⟨j, rfl, hj, hjx, HW3, HK3⟩ := hrel
      by_cases hlt : j < n
      · rcases (HS.out.below (HK3.out.under HW.out (Nat.le_refl P)) (Nat.le_refl _)) with h0 | ⟨b, off, hao, hbs, hrow⟩
        · rw [h0] at HN; exact absurd HN.out (by simp; omega)
        subst hao
        have hjl : j < cs.length := by rw [← HN.out]; exact hlt
        have hrow1 := hrow j hjl
        have hta := HT.out _ (memC cs j hjl)
        have htk : cs.take (j + 1) = cs.take j ++ [cs[j]!] := takeC cs j hjl
        have hLl : (encT sc ++ [UInt8.ofNat (n : Int).toNat] ++ (cs.take j).flatMap encCn).length < 700000 := by
          have h1 := encCns_len (cs.take j) (fun a ha => HT.out a (List.mem_of_mem_take ha))
          have h2 := HSC.out
          have h3 : (cs.take j).length ≤ 255 := by rw [List.length_take]; omega
          simp only [List.length_append, encT_len, List.length_cons, List.length_nil]
          omega
        clear hrow
        obtain ⟨L, hL⟩ : ∃ L, L = encT sc ++ [UInt8.ofNat (n : Int).toNat] ++ (cs.take j).flatMap encCn := ⟨_, rfl⟩
        rw [← hL] at HW3 hLl
        have HLL : Aside (L.length < 700000) := hLl
        obtain ⟨a, ha⟩ : ∃ a, a = cs[j]! := ⟨_, rfl⟩
        rw [← ha] at hrow1 hta htk
        have HLn : Aside (encT sc ++ [UInt8.ofNat (n : Int).toNat] ++ (cs.take (j + 1)).flatMap encCn = L ++ encT a.a.nm ++ [UInt8.ofNat a.op.toNat] ++ encV a.a) := by
          show _ = _
          rw [hL, htk, List.flatMap_append]; simp [encCn]
        clear ha hjl htk hL hLl
        obtain ⟨ta, t3, t4⟩ := hta
        have hv := fun L' W hW hl' => wvalue_c a.a P B L' W hW hl' ta.2.2 ta.2.1
        obtain ⟨⟨nm, k, m, x, s, y⟩, op⟩ := a
        obtain ⟨t1, t2, _⟩ := ta
        simp only [] at t1 t3 t4 HLn
        simp only [valQ, val, vals] at hv
        have HV := Lib.hid hv
        have HT1 : Aside (nm.size ≤ 255) := t1
        have HT3 : Aside (0 ≤ op ∧ op ≤ 255) := ⟨t3, t4⟩
        have r0 := hrow1 0 _ rfl; have r1 := hrow1 1 _ rfl; have r2 := hrow1 2 _ rfl; have r3 := hrow1 3 _ rfl; have r4 := hrow1 4 _ rfl; have r5 := hrow1 5 _ rfl; have r6 := hrow1 6 _ rfl
        simp only [Nat.add_zero] at r0
        have hjz : (j : Int) < (n : Int) := by omega
        have hjz0 : (0 : Int) ≤ (j : Int) := by omega
        clear hrow1 t1 t2 t3 t4 hv
        go_wp2_with fail
        have hbP : wr.heap.size ≠ P := by have := HW3.out.pw; omega
        have yy := World.cell?_alloc_new wr #[.string nm, .int .i64 op, .int .i64 k, .int .i64 m, .float .f64 x, .string s, .bool y] 30
        have y0 := yy 0; have y1 := yy 1; have y2 := yy 2; have y3 := yy 3; have y4 := yy 4; have y5 := yy 5; have y6 := yy 6
        simp only [List.getElem?_toArray, List.getElem?_cons_zero, List.getElem?_cons_succ] at y0 y1 y2 y3 y4 y5 y6
        have HW4 : Aside (Wa P B wr.heap.size (wr.alloc (.cells #[.string nm, .int .i64 op, .int .i64 k, .int .i64 m, .float .f64 x, .string s, .bool y] 30)) L (wr.alloc (.cells #[.string nm, .int .i64 op, .int .i64 k, .int .i64 m, .float .f64 x, .string s, .bool y] 30))) := Wa.start (HW3.out.alloc _) (by simp) (newRow HW3.out _)
        have HK4 : Aside (Wk P w (wr.alloc (.cells #[.string nm, .int .i64 op, .int .i64 k, .int .i64 m, .float .f64 x, .string s, .bool y] 30))) := HK3.out.trans (Wk.alloc wr HW3.out.pw _)
        have hz4 : wr.heap.size < (wr.alloc (.cells #[.string nm, .int .i64 op, .int .i64 k, .int .i64 m, .float .f64 x, .string s, .bool y] 30)).heap.size := by simp
        clear yy r0 r1 r2 r3 r4 r5 r6
        generalize (wr.alloc (.cells #[.string nm, .int .i64 op, .int .i64 k, .int .i64 m, .float .f64 x, .string s, .bool y] 30)) = w4 at *
        generalize wr.heap.size = A at *
        have hTa : Calls Try.prog 18 #[.pointer (some ⟨P, 0, none⟩), .string nm] w4.drew fun e w' => e = .returned (.pointer (some ⟨P, 0, none⟩)) ∧ Aside (Wr w' P B (L ++ encT nm) ∧ Wk P w4.drew w') := wtext_c P B nm L w4.drew HW4.out.wr.drew HT1.out (by have := HLL.out; omega)
        have hTb : Calls Try.prog 18 #[.pointer (some ⟨P, 0, none⟩), .string nm] (w4.alloc (.cells #[.int .i64 op] 3)).drew fun e w' => e = .returned (.pointer (some ⟨P, 0, none⟩)) ∧ Aside (Wr w' P B (L ++ encT nm) ∧ Wk P (w4.alloc (.cells #[.int .i64 op] 3)).drew w') := wtext_c P B nm L _ (HW4.out.wr.alloc _).drew HT1.out (by have := HLL.out; omega)
        have hby : ∀ W b c2, Wa P B A w4 (L ++ encT nm) W → W.cell? ⟨b, 0, none⟩ = some (.int .i64 op) → Calls Try.prog 19 #[.pointer (some ⟨P, 0, none⟩), .slice (some ⟨b, 0, none⟩) 1 c2] W fun e w' => e = .returned (.pointer (some ⟨P, 0, none⟩)) ∧ Aside (Wa P B A w4 (L ++ encT nm ++ [UInt8.ofNat op.toNat]) w') := fun W b c2 hW hc =>
          (wbyte_c P B b c2 op (L ++ encT nm) W hW.wr HT3.out.1 HT3.out.2 hc (by rw [List.length_append, encT_len]; have := HLL.out; have := HT1.out; omega)).mono fun e w' q => ⟨q.1, hW.step hbP q.2.out.1 q.2.out.2⟩
        have hvl : ∀ W, Wa P B A w4 (L ++ encT nm ++ [UInt8.ofNat op.toNat]) W → Calls Try.prog 20 #[.pointer (some ⟨P, 0, none⟩), .agg #[.int .i64 k, .int .i64 m, .float .f64 x, .string s, .bool y]] W fun e w' => e = .returned (.pointer (some ⟨P, 0, none⟩)) ∧ Aside (Wa P B A w4 (L ++ encT nm ++ [UInt8.ofNat op.toNat] ++ encV ⟨nm, k, m, x, s, y⟩) w') := fun W hW =>
          (HV.out _ W hW.wr (by rw [List.length_append, List.length_append, encT_len]; have := HLL.out; have := HT1.out; simp only [List.length_cons, List.length_nil]; omega)).mono fun e w' q => ⟨q.1, hW.step hbP q.2.out.1 q.2.out.2⟩
        have HTX := Lib.hid hTa
        have HTY := Lib.hid hTb
        have HBY := Lib.hid hby
        have HVL := Lib.hid hvl
        have HLN : Aside (encT sc ++ [UInt8.ofNat (n : Int).toNat] ++ (cs.take (j + 1)).flatMap encCn = L ++ encT nm ++ [UInt8.ofNat op.toNat] ++ encV ⟨nm, k, m, x, s, y⟩) := HLn.out
        clear hTa hTb hby hvl HV HLn
        go_region_with (first
          | (go_at_call 18; (with_reducible refine HTX.out.mono ?_); rintro e w5 ⟨rfl, hA5⟩
             have hW5 := (HW4.out.drew hbP).step hbP hA5.out.1 hA5.out.2
             have z0 := (hW5.cell 0).trans y0; have z1 := (hW5.cell 1).trans y1; have z2 := (hW5.cell 2).trans y2; have z3 := (hW5.cell 3).trans y3; have z4 := (hW5.cell 4).trans y4; have z5 := (hW5.cell 5).trans y5; have z6 := (hW5.cell 6).trans y6
             have hz5 := hW5.lt
             have HW6 : Aside (Wa P B A w4 (L ++ encT nm) (w5.alloc (.cells #[.int .i64 op] 3))) := hW5.alloc hbP _
             have HC6 : Aside ((w5.alloc (.cells #[.int .i64 op] 3)).cell? ⟨w5.heap.size, 0, none⟩ = some (.int .i64 op)) := (by show _ = _; rw [World.cell?_alloc_new]; rfl)
             clear hW5)
          | (go_at_call 18; (with_reducible refine HTY.out.mono ?_); rintro e w5 ⟨rfl, hA5⟩
             have hW5 := ((HW4.out.alloc hbP _).drew hbP).step hbP hA5.out.1 hA5.out.2
             have z0 := (hW5.cell 0).trans y0; have z1 := (hW5.cell 1).trans y1; have z2 := (hW5.cell 2).trans y2; have z3 := (hW5.cell 3).trans y3; have z4 := (hW5.cell 4).trans y4; have z5 := (hW5.cell 5).trans y5; have z6 := (hW5.cell 6).trans y6
             have hz5 := hW5.lt
             have HW6 : Aside (Wa P B A w4 (L ++ encT nm) w5) := hW5
             have HC6 : Aside (w5.cell? ⟨w4.heap.size, 0, none⟩ = some (.int .i64 op)) := (hA5.out.2.cell (k := w4.heap.size) (by show _ < (w4.alloc _).heap.size; simp) (by have := HW4.out.wr.pw; omega) (newRowD HW4.out.wr _) 0).trans ((by show (w4.alloc (.cells #[.int .i64 op] 3)).cell? _ = _; rw [World.cell?_alloc_new]; rfl))
             clear hW5)
          | (go_at_call 19; (with_reducible refine (HBY.out _ _ _ HW6.out HC6.out).mono ?_); rintro e w6 ⟨rfl, hA6⟩
             have g0 := (hA6.out.cell 0).trans y0; have g1 := (hA6.out.cell 1).trans y1; have g2 := (hA6.out.cell 2).trans y2; have g3 := (hA6.out.cell 3).trans y3; have g4 := (hA6.out.cell 4).trans y4; have g5 := (hA6.out.cell 5).trans y5; have g6 := (hA6.out.cell 6).trans y6
             have hz6 := hA6.out.lt)
          | (go_at_call 20; (with_reducible refine (HVL.out _ hA6.out).mono ?_); rintro e w7 ⟨rfl, hA7⟩))
        all_goals
          go_wp2_with fail
          go_roundg (n - (j + 1))
          case measure => omega
          case rel => exact ⟨j + 1, by go_num, hlt, Nat.le_refl _, by show Wr _ P B _; rw [HLN.out]; exact hA7.out.wr, HK4.out.trans hA7.out.wk⟩
      · obtain rfl : j = n := by omega
        have hfin : encF sc cs = encT sc ++ [UInt8.ofNat (j : Int).toNat] ++ (cs.take j).flatMap encCn := by
          rw [HN.out, List.take_length]; simp [encF]
        have HFin : Aside (encF sc cs = encT sc ++ [UInt8.ofNat (j : Int).toNat] ++ (cs.take j).flatMap encCn) := hfin
        clear hfin
        go_wp2_with fail
        go_ret
        exact ⟨rfl, by rw [HFin.out]; exact HW3.out, HK3.out⟩
end Go.Proofs.Ytecfbbddhnkilaa
