/- codec.Writer: tellsEvent, Event; codec.Event of events that bytes tell. -/
import Derived.Test.YtecfbbddhnkilaaWr4
import Derived.Deep.DeepCutAuto
namespace Go.Proofs.Ytecfbbddhnkilaa
open Go.RowKit Go.Shelf Go.Sort
open Go.Proofs
set_option maxRecDepth 100000

/-- An attribute that bytes tell. -/
def TellA (a : At) : Prop := a.nm.size ≤ 255 ∧ tellsV a.k a.s = true ∧ a.x < 18446744073709551616
def encAt (a : At) : List UInt8 := encT a.nm ++ encV a
def encE (sc : ByteArray) (es : List At) : List UInt8 := encT sc ++ UInt8.ofNat es.length :: es.flatMap encAt
theorem encT_len (s : ByteArray) : (encT s).length = s.size + 1 := by simp [encT]
theorem encV_len (a : At) (h : tellsV a.k a.s = true) : (encV a).length ≤ 257 := by
  simp only [tellsV, Bool.and_eq_true, Bool.or_eq_true, decide_eq_true_eq, bne_iff_ne] at h
  unfold encV
  split
  · simp [encL]
  · split
    · simp [encL]
    · split
      · rw [List.length_cons, encT_len]; omega
      · simp
theorem encAt_len (a : At) (h : TellA a) : (encAt a).length ≤ 513 := by
  unfold encAt
  have := encV_len a h.2.1
  have := h.1
  rw [List.length_append, encT_len]; omega
theorem encAts_len : ∀ (es : List At), (∀ a ∈ es, TellA a) → (es.flatMap encAt).length ≤ 513 * es.length
  | [], _ => by simp
  | a :: es, h => by
    have h1 := encAt_len a (h a List.mem_cons_self)
    have h2 := encAts_len es (fun b hb => h b (List.mem_cons_of_mem _ hb))
    rw [List.flatMap_cons, List.length_append, List.length_cons]; omega

/-- Attributes that lie below block B. -/
def SliceU (B : Nat) (w : World) (ao : Option Addr) (es : List At) : Prop := es = [] ∨ ∃ b off, ao = some ⟨b, off, none⟩ ∧ b < B ∧ RowAt w b off es
theorem SliceU.below {B n : Nat} {w w' : World} {ao : Option Addr} {es : List At} (h : SliceU B w ao es) (hb : Below n w w') (hn : B ≤ n) : SliceU B w' ao es := by
  rcases h with h | ⟨b, off, h1, h2, h3⟩
  · exact Or.inl h
  · exact Or.inr ⟨b, off, h1, h2, fun j hj c v hv => (hb.cell (p := ⟨b, off + j * 6 + c, none⟩) (by show b < n; omega)).trans (h3 j hj c v hv)⟩

set_option maxHeartbeats 4000000 in
theorem tellsE_c (sc : ByteArray) (ao : Option Addr) (cap : Nat) (es : List At) (w : World) (hs : SliceU w.heap.size w ao es) (ht : ∀ a ∈ es, TellA a) (hsc : sc.size ≤ 255) (hl : es.length ≤ 255) :
    Calls Try.prog 45 #[.agg #[.string sc, .slice ao es.length cap]] w fun e w' => e = .returned (.bool true) ∧ Below w.heap.size w w' := by
  have HS : Aside (SliceU w.heap.size w ao es) := hs
  have HT : Aside _ := ht
  obtain ⟨n, hn⟩ : ∃ n, n = es.length := ⟨_, rfl⟩
  have HN : Aside (n = es.length) := hn
  have hfs := fun W => fits_c (sc.size : Int) W
  have hfn := fun W => fits_c (n : Int) W
  rw [show (decide ((0 : Int) ≤ (sc.size : Int)) && decide ((sc.size : Int) ≤ 255)) = true by simp; omega] at hfs
  rw [show (decide ((0 : Int) ≤ (n : Int)) && decide ((n : Int) ≤ 255)) = true by simp; omega] at hfn
  have HFS := Lib.hid hfs
  have HFN := Lib.hid hfn
  rw [← hn] at hl ⊢
  clear hs ht hn hfs hfn
  go_enter Try.func45, Try.ntmps45
  go_wp2_with fail
  go_loopg [8] n (fun kx s8 wr => ∃ j : Nat, s8 = .int .i64 j ∧ j ≤ n ∧ n - j ≤ kx ∧ Aside (Below w.heap.size w wr) ∧ w.heap.size < wr.heap.size ∧ wr.cell? ⟨w.heap.size, 0, none⟩ = some (.string sc) ∧ wr.cell? ⟨w.heap.size, 1, none⟩ = some (.slice ao n cap))
  case atStart => exact ⟨0, rfl, Nat.zero_le _, by omega, (Below.refl _ _).alloc (Nat.le_refl _) _, by simp, by simp [World.cell?_alloc_new], by simp [World.cell?_alloc_new]⟩
  case round =>
    obtain ⟨j, rfl, hj, hjx, HB, hz, c0, c1⟩ := hrel
    by_cases hlt : j < n
    · rcases (HS.out.below HB.out (Nat.le_refl _)) with h0 | ⟨b, off, hao, hbs, hrow⟩
      · rw [h0] at HN; exact absurd HN.out (by simp; omega)
      subst hao
      have hjl : j < es.length := by rw [← HN.out]; exact hlt
      have hrow1 := hrow j hjl
      have hta := HT.out _ (get_mem es j hjl)
      clear hrow
      obtain ⟨a, ha⟩ : ∃ a, a = es[j]! := ⟨_, rfl⟩
      rw [← ha] at hrow1 hta
      clear ha hjl
      obtain ⟨nm, k, m, x, s, y⟩ := a
      obtain ⟨t1, t2, _⟩ := hta
      simp only [] at t1 t2
      have r0 := hrow1 0 _ rfl; have r1 := hrow1 1 _ rfl; have r2 := hrow1 2 _ rfl; have r3 := hrow1 3 _ rfl; have r4 := hrow1 4 _ rfl; have r5 := hrow1 5 _ rfl
      simp only [Nat.add_zero] at r0
      have hfm := fun W => fits_c (nm.size : Int) W
      rw [show (decide ((0 : Int) ≤ (nm.size : Int)) && decide ((nm.size : Int) ≤ 255)) = true by simp; omega] at hfm
      have htv := fun W => tellsV_c k m x s y W
      rw [t2] at htv
      have hjz : (j : Int) < (n : Int) := by omega
      have hjz0 : (0 : Int) ≤ (j : Int) := by omega
      have HFM := Lib.hid hfm
      have HTV := Lib.hid htv
      clear hrow1 t1 t2 hfm htv
      go_wp2_with fail
      have q0 := (World.cell?_alloc_lt wr (.cells #[.string nm, .int .i64 k, .int .i64 m, .float .f64 x, .string s, .bool y] 79) ⟨w.heap.size, 0, none⟩ hz).trans c0
      have q1 := (World.cell?_alloc_lt wr (.cells #[.string nm, .int .i64 k, .int .i64 m, .float .f64 x, .string s, .bool y] 79) ⟨w.heap.size, 1, none⟩ hz).trans c1
      have HB2 : Aside (Below w.heap.size w (wr.alloc (.cells #[.string nm, .int .i64 k, .int .i64 m, .float .f64 x, .string s, .bool y] 79))) := HB.out.alloc (Nat.le_of_lt hz) _
      have yy := World.cell?_alloc_new wr #[.string nm, .int .i64 k, .int .i64 m, .float .f64 x, .string s, .bool y] 79
      have y0 := yy 0; have y1 := yy 1; have y2 := yy 2; have y3 := yy 3; have y4 := yy 4; have y5 := yy 5
      simp only [List.getElem?_toArray, List.getElem?_cons_zero, List.getElem?_cons_succ] at y0 y1 y2 y3 y4 y5
      have hz2 : w.heap.size < (wr.alloc (.cells #[.string nm, .int .i64 k, .int .i64 m, .float .f64 x, .string s, .bool y] 79)).heap.size := by simp; omega
      clear yy r0 r1 r2 r3 r4 r5 c0 c1 HB hz
      generalize (wr.alloc (.cells #[.string nm, .int .i64 k, .int .i64 m, .float .f64 x, .string s, .bool y] 79)) = w2 at *
      generalize wr.heap.size = A at *
      refine (HFM.out _).mono ?_
      rintro e w3 ⟨rfl, rfl⟩
      go_wp2_with fail
      refine (HTV.out _).mono ?_
      rintro e w3 ⟨rfl, hb3⟩
      have p0 := (hb3.cell (p := ⟨w.heap.size, 0, none⟩) hz2).trans q0
      have p1 := (hb3.cell (p := ⟨w.heap.size, 1, none⟩) hz2).trans q1
      have HB3 : Aside (Below w.heap.size w w3) := HB2.out.trans (hb3.mono HB2.out.size)
      have hz3 : w.heap.size < w3.heap.size := Nat.lt_of_lt_of_le hz2 hb3.size
      clear q0 q1 y0 y1 y2 y3 y4 y5 hb3
      go_wp2_with fail
      go_roundg (n - (j + 1))
      case measure => omega
      case rel => exact ⟨j + 1, by go_num, hlt, Nat.le_refl _, HB3, hz3, p0, p1⟩
    · obtain rfl : j = n := by omega
      clear hlt hj hjx
      go_wp2_with fail
      refine (HFS.out _).mono ?_
      rintro e w3 ⟨rfl, rfl⟩
      go_wp2_with fail
      refine (HFN.out _).mono ?_
      rintro e w3 ⟨rfl, rfl⟩
      go_wp2_with fail
      go_ret
      exact ⟨rfl, HB.out⟩

set_option maxHeartbeats 8000000 in
theorem wevent_c (P B : Nat) (sc : ByteArray) (ao : Option Addr) (cap : Nat) (es : List At) (w : World) (h : Wr w P B []) (hs : SliceU P w ao es) (ht : ∀ a ∈ es, TellA a) (hsc : sc.size ≤ 255) (hl : es.length ≤ 255) :
    Calls Try.prog 29 #[.pointer (some ⟨P, 0, none⟩), .agg #[.string sc, .slice ao es.length cap]] w fun e w' => e = .returned (.pointer (some ⟨P, 0, none⟩)) ∧ Aside (Wr w' P B (encE sc es) ∧ Wk P w w') := by
  have hPw : P < w.heap.size := Nat.lt_of_lt_of_le h.pb h.bw
  have hba : Below w.heap.size w (w.alloc (.cells #[.string sc, .slice ao es.length cap] 46)) := (Below.refl _ _).alloc (Nat.le_refl _) _
  have hte := tellsE_c sc ao cap es (w.alloc (.cells #[.string sc, .slice ao es.length cap] 46)) (by
    rcases hs.below hba (Nat.le_of_lt hPw) with h | ⟨b, off, h1, h2, h3⟩
    · exact Or.inl h
    · exact Or.inr ⟨b, off, h1, by simp; omega, h3⟩) ht hsc hl
  have HTE := Lib.hid hte
  have HS : Aside (SliceU P w ao es) := hs
  have HT : Aside (∀ a ∈ es, TellA a) := ht
  have HSC : Aside (sc.size ≤ 255) := hsc
  have HW : Aside (Wr w P B []) := h
  have HPw : Aside (P < w.heap.size) := hPw
  have HNR : Aside (¬ RowOf w P w.heap.size) := fun hr => by have := (h.row hr).2; omega
  obtain ⟨n, hn⟩ : ∃ n, n = es.length := ⟨_, rfl⟩
  have HN : Aside (n = es.length) := hn
  rw [← hn] at hl HTE ⊢
  clear h hs ht hsc hn hba hte hPw
  go_enter Try.func29, Try.ntmps29
  go_wp2_with fail
  refine HTE.out.mono ?_
  rintro e w1 ⟨rfl, hb1⟩
  have c0 := (hb1.cell (p := ⟨w.heap.size, 0, none⟩) (by simp)).trans (World.cell?_alloc_new w #[.string sc, .slice ao n cap] 46 0)
  have c1 := (hb1.cell (p := ⟨w.heap.size, 1, none⟩) (by simp)).trans (World.cell?_alloc_new w #[.string sc, .slice ao n cap] 46 1)
  simp only [List.getElem?_toArray, List.getElem?_cons_zero, List.getElem?_cons_succ] at c0 c1
  have hk1 : Kb (fun _ => False) w w1 := (Kb.alloc _ _ _).trans (Kb.of_below hb1 (fun k h1 h2 => absurd h1 (by omega)))
  have HW1 : Aside (Wr w1 P B []) := HW.out.kb hk1 (fun _ _ _ h => h)
  have HK1 : Aside (Wk P w w1) := Wk.of_kb hk1 HPw.out (fun _ _ h => h)
  have hAw : w.heap.size < w1.heap.size := by have := hb1.size; simp at this; omega
  have hN1 : ¬ RowOf w1 P w.heap.size := fun hr => HNR.out (hr.kb hk1 HPw.out (fun h => h))
  have hPA : w.heap.size ≠ P := by have := HPw.out; omega
  have hP1 : P < w1.heap.size := by have := HPw.out; omega
  have hT : Calls Try.prog 18 #[.pointer (some ⟨P, 0, none⟩), .string sc] w1.drew fun e w' => e = .returned (.pointer (some ⟨P, 0, none⟩)) ∧ Aside (Wr w' P B (encT sc) ∧ Wk P w1.drew w') := wtext_c P B sc [] w1.drew HW1.out.drew HSC.out (by simp)
  have hT2 : Calls Try.prog 18 #[.pointer (some ⟨P, 0, none⟩), .string sc] (w1.alloc (.cells #[.int .i64 n] 3)).drew fun e w' => e = .returned (.pointer (some ⟨P, 0, none⟩)) ∧ Aside (Wr w' P B (encT sc) ∧ Wk P (w1.alloc (.cells #[.int .i64 n] 3)).drew w') := wtext_c P B sc [] _ (HW1.out.alloc _).drew HSC.out (by simp)
  have HTX := Lib.hid hT
  have HTY := Lib.hid hT2
  have HN1 := Lib.hid hN1
  have HKD := Lib.hid (HK1.out.trans (Wk.of_kb (Kb.drew (fun _ => False) w1) hP1 (fun _ _ h => h)))
  have HKE := Lib.hid (HK1.out.trans (Wk.of_kb ((Kb.alloc (fun _ => False) w1 (.cells #[.int .i64 n] 3)).trans (Kb.drew _ _)) hP1 (fun _ _ h => h)))
  have hN2 : ¬ RowOf (w1.alloc (.cells #[.int .i64 n] 3)).drew P w1.heap.size := fun hr => by
    have := (HW1.out.row (hr.kb ((Kb.alloc (fun _ => False) w1 (.cells #[.int .i64 n] 3)).trans (Kb.drew _ _)) hP1 (fun h => h))).2; omega
  have HN2 := Lib.hid hN2
  have hc5 : (w1.alloc (.cells #[.int .i64 n] 3)).drew.cell? ⟨w1.heap.size, 0, none⟩ = some (.int .i64 n) := by
    show (w1.alloc (.cells #[.int .i64 n] 3)).cell? _ = _
    rw [World.cell?_alloc_new]; rfl
  have HC5 := Lib.hid hc5
  have hae : w.heap.size < (w1.alloc (.cells #[.int .i64 n] 3)).drew.heap.size := by show _ < (w1.alloc _).heap.size; simp; omega
  have HAE := Lib.hid hae
  have hn3 : ¬ RowOf (w1.alloc (.cells #[.int .i64 n] 3)).drew P w.heap.size := fun hr => HN1.out (hr.kb ((Kb.alloc (fun _ => False) w1 (.cells #[.int .i64 n] 3)).trans (Kb.drew _ _)) hP1 (fun h => h))
  have HN3 := Lib.hid hn3
  have hc6 : (w1.alloc (.cells #[.int .i64 n] 3)).drew.cell? ⟨w.heap.size, 1, none⟩ = some (.slice ao n cap) := (World.cell?_alloc_lt w1 (.cells #[.int .i64 n] 3) ⟨w.heap.size, 1, none⟩ hAw).trans c1
  have HC6 := Lib.hid hc6
  clear hae hn3 hc6
  clear hb1 hk1 hT hT2 hN1 hN2 hc5 HTE
  have hnz : (n : Int) ≤ 255 := by omega
  have hnz0 : (0 : Int) ≤ (n : Int) := by omega
  go_upto_region 3 with fail
  go_cut [19] (fun _ wx => Aside (Wr wx P B (encT sc ++ [UInt8.ofNat (n : Int).toNat]) ∧ Wk P w wx ∧ wx.cell? ⟨w.heap.size, 1, none⟩ = some (.slice ao n cap)))
  case first =>
    go_region_with (first
    | (go_at_call 18; (with_reducible refine HTX.out.mono ?_); rintro e w2 ⟨rfl, hA2⟩; have p0 := (hA2.out.2.cell hAw hPA HN1.out 0).trans c0; have p1 := (hA2.out.2.cell hAw hPA HN1.out 1).trans c1; have HW2 : Aside (Wr w2 P B (encT sc)) := hA2.out.1; have HK2 : Aside (Wk P w w2) := HKD.out.trans hA2.out.2; have HBY : Hid (Calls Try.prog 19 #[.pointer (some ⟨P, 0, none⟩), .slice (some ⟨w2.heap.size, 0, none⟩) 1 1] (w2.alloc (.cells #[.int .i64 n] 3)) fun e w' => e = .returned (.pointer (some ⟨P, 0, none⟩)) ∧ Aside (Wr w' P B (encT sc ++ [UInt8.ofNat (n : Int).toNat]) ∧ Wk P w w' ∧ w'.cell? ⟨w.heap.size, 1, none⟩ = some (.slice ao n cap))) := (wbyte_c P B w2.heap.size 1 (n : Int) (encT sc) _ (HW2.out.alloc _) hnz0 hnz (by rw [World.cell?_alloc_new]; rfl) (by rw [encT_len]; have := HSC.out; omega)).mono fun e w' q => ⟨q.1, q.2.out.1, HK2.out.trans ((Wk.alloc w2 (Nat.lt_of_lt_of_le HW2.out.pb HW2.out.bw) _).trans q.2.out.2), (q.2.out.2.cell (by have := hA2.out.2.kb.size; have : w1.drew.heap.size = w1.heap.size := rfl; simp; omega) hPA (fun hr => hA2.out.2.notRow hAw HN1.out (hr.kb (Kb.alloc (fun _ => False) w2 _) (Nat.lt_of_lt_of_le HW2.out.pb HW2.out.bw) (fun h => h))) 1).trans ((World.cell?_alloc_lt w2 _ ⟨w.heap.size, 1, none⟩ (by have := hA2.out.2.kb.size; have : w1.drew.heap.size = w1.heap.size := rfl; show w.heap.size < _; omega)).trans p1)⟩)
    | (go_at_call 18; (with_reducible refine HTY.out.mono ?_); rintro e w2 ⟨rfl, hA2⟩; have HBY : Hid (Calls Try.prog 19 #[.pointer (some ⟨P, 0, none⟩), .slice (some ⟨w1.heap.size, 0, none⟩) 1 1] w2 fun e w' => e = .returned (.pointer (some ⟨P, 0, none⟩)) ∧ Aside (Wr w' P B (encT sc ++ [UInt8.ofNat (n : Int).toNat]) ∧ Wk P w w' ∧ w'.cell? ⟨w.heap.size, 1, none⟩ = some (.slice ao n cap))) := (wbyte_c P B w1.heap.size 1 (n : Int) (encT sc) w2 hA2.out.1 hnz0 hnz ((hA2.out.2.cell (by show _ < (w1.alloc _).heap.size; simp) (by omega) HN2.out 0).trans HC5.out) (by rw [encT_len]; have := HSC.out; omega)).mono fun e w' q => ⟨q.1, q.2.out.1, HKE.out.trans (hA2.out.2.trans q.2.out.2), (q.2.out.2.cell (Nat.lt_of_lt_of_le HAE.out hA2.out.2.kb.size) hPA (hA2.out.2.notRow HAE.out HN3.out) 1).trans ((hA2.out.2.cell HAE.out hPA HN3.out 1).trans HC6.out)⟩)
    | (go_at_call 19; (with_reducible refine HBY.out.mono ?_); rintro e w3 ⟨rfl, hA3⟩))
    all_goals (go_wp2_with fail; go_meet; exact hA3)
  case rest =>
    clear HTX HTY HN1 HKD HKE HN2 HC5 HAE HN3 HC6 c0 c1 hAw HK1 HW1 hP1 w1
    have d1 := hcut.out.2.2
    have HW3 : Aside (Wr wc P B (encT sc ++ [UInt8.ofNat (n : Int).toNat])) := hcut.out.1
    have HK3 : Aside (Wk P w wc) := hcut.out.2.1
    clear hcut
    go_wp2_with fail
    go_loopg [23] n (fun kx s23 wr => ∃ j : Nat, s23 = .int .i64 j ∧ j ≤ n ∧ n - j ≤ kx ∧ Aside (Wr wr P B (encT sc ++ [UInt8.ofNat (n : Int).toNat] ++ (es.take j).flatMap encAt)) ∧ Aside (Wk P w wr))
    case atStart => exact ⟨0, rfl, Nat.zero_le _, by omega, by show Wr wc P B _; simpa using HW3.out, HK3.out⟩
    case round =>
      clear HW3 HK3 d1
      obtain ⟨j, rfl, hj, hjx, HW3, HK3⟩ := hrel
      by_cases hlt : j < n
      · rcases (HS.out.below (HK3.out.under HW.out (Nat.le_refl P)) (Nat.le_refl _)) with h0 | ⟨b, off, hao, hbs, hrow⟩
        · rw [h0] at HN; exact absurd HN.out (by simp; omega)
        subst hao
        have hjl : j < es.length := by rw [← HN.out]; exact hlt
        have hrow1 := hrow j hjl
        have hta := HT.out _ (get_mem es j hjl)
        have htk : es.take (j + 1) = es.take j ++ [es[j]!] := by rw [List.take_add_one, List.getElem?_eq_getElem hjl, getElem!_pos es j hjl]; rfl
        have hLl : (encT sc ++ [UInt8.ofNat (n : Int).toNat] ++ (es.take j).flatMap encAt).length < 700000 := by
          have h1 := encAts_len (es.take j) (fun a ha => HT.out a (List.mem_of_mem_take ha))
          have h2 := HSC.out
          have h3 : (es.take j).length ≤ 255 := by rw [List.length_take]; omega
          simp only [List.length_append, encT_len, List.length_cons, List.length_nil]
          omega
        clear hrow
        obtain ⟨L, hL⟩ : ∃ L, L = encT sc ++ [UInt8.ofNat (n : Int).toNat] ++ (es.take j).flatMap encAt := ⟨_, rfl⟩
        rw [← hL] at HW3 hLl
        have HLL : Aside (L.length < 700000) := hLl
        obtain ⟨a, ha⟩ : ∃ a, a = es[j]! := ⟨_, rfl⟩
        rw [← ha] at hrow1 hta htk
        have HLn : Aside (encT sc ++ [UInt8.ofNat (n : Int).toNat] ++ (es.take (j + 1)).flatMap encAt = L ++ encT a.nm ++ encV a) := by
          show _ = _
          rw [hL, htk, List.flatMap_append]; simp [encAt]
        clear ha hjl htk hL hLl
        have hv := fun L' W hW hl' => wvalue_c a P B L' W hW hl' hta.2.2 hta.2.1
        obtain ⟨nm, k, m, x, s, y⟩ := a
        obtain ⟨t1, t2, _⟩ := hta
        simp only [] at t1 HLn
        simp only [valQ, val, vals] at hv
        have HV := Lib.hid hv
        have HT1 : Aside (nm.size ≤ 255) := t1
        have r0 := hrow1 0 _ rfl; have r1 := hrow1 1 _ rfl; have r2 := hrow1 2 _ rfl; have r3 := hrow1 3 _ rfl; have r4 := hrow1 4 _ rfl; have r5 := hrow1 5 _ rfl
        simp only [Nat.add_zero] at r0
        have hjz : (j : Int) < (n : Int) := by omega
        have hjz0 : (0 : Int) ≤ (j : Int) := by omega
        clear hrow1 t1 t2 hv
        go_wp2_with fail
        have hPr : P < wr.heap.size := Nat.lt_of_lt_of_le HW3.out.pb HW3.out.bw
        have hbP : wr.heap.size ≠ P := by omega
        have yy := World.cell?_alloc_new wr #[.string nm, .int .i64 k, .int .i64 m, .float .f64 x, .string s, .bool y] 79
        have y0 := yy 0; have y1 := yy 1; have y2 := yy 2; have y3 := yy 3; have y4 := yy 4; have y5 := yy 5
        simp only [List.getElem?_toArray, List.getElem?_cons_zero, List.getElem?_cons_succ] at y0 y1 y2 y3 y4 y5
        have HW4 : Aside (Wr (wr.alloc (.cells #[.string nm, .int .i64 k, .int .i64 m, .float .f64 x, .string s, .bool y] 79)) P B L) := HW3.out.alloc _
        have HK4 : Aside (Wk P w (wr.alloc (.cells #[.string nm, .int .i64 k, .int .i64 m, .float .f64 x, .string s, .bool y] 79))) := HK3.out.trans (Wk.alloc wr hPr _)
        have HN4 : Aside (¬ RowOf (wr.alloc (.cells #[.string nm, .int .i64 k, .int .i64 m, .float .f64 x, .string s, .bool y] 79)) P wr.heap.size) := fun hr => by
          have := (HW3.out.row (hr.kb (Kb.alloc (fun _ => False) wr _) hPr (fun h => h))).2; omega
        have hz4 : wr.heap.size < (wr.alloc (.cells #[.string nm, .int .i64 k, .int .i64 m, .float .f64 x, .string s, .bool y] 79)).heap.size := by simp
        clear yy r0 r1 r2 r3 r4 r5
        generalize (wr.alloc (.cells #[.string nm, .int .i64 k, .int .i64 m, .float .f64 x, .string s, .bool y] 79)) = w4 at *
        generalize wr.heap.size = A at *
        have hT := wtext_c P B nm L w4.drew HW4.out.drew HT1.out (by have := HLL.out; omega)
        have HTX := Lib.hid hT
        clear hT
        go_region_with (first
          | (go_at_call 18; (with_reducible refine HTX.out.mono ?_); rintro e w5 ⟨rfl, hA5⟩; have z0 := (hA5.out.2.cell hz4 hbP HN4.out 0).trans y0; have z1 := (hA5.out.2.cell hz4 hbP HN4.out 1).trans y1; have z2 := (hA5.out.2.cell hz4 hbP HN4.out 2).trans y2; have z3 := (hA5.out.2.cell hz4 hbP HN4.out 3).trans y3; have z4 := (hA5.out.2.cell hz4 hbP HN4.out 4).trans y4; have z5 := (hA5.out.2.cell hz4 hbP HN4.out 5).trans y5; have HVX := Lib.hid (HV.out (L ++ encT nm) w5 hA5.out.1 (by rw [List.length_append, encT_len]; have := HLL.out; have := HT1.out; omega)))
          | (go_at_call 20; (with_reducible refine HVX.out.mono ?_); rintro e w6 ⟨rfl, hA6⟩))
        all_goals
          go_wp2_with fail
          go_roundg (n - (j + 1))
          case measure => omega
          case rel => exact ⟨j + 1, by go_num, hlt, Nat.le_refl _, by show Wr _ P B _; rw [HLn.out]; exact hA6.out.1, HK4.out.trans ((Wk.of_kb (Kb.drew (fun _ => False) w4) (by have := HW4.out.pb; have := HW4.out.bw; omega) (fun _ _ h => h)).trans (hA5.out.2.trans hA6.out.2))⟩
      · obtain rfl : j = n := by omega
        have hfin : encE sc es = encT sc ++ [UInt8.ofNat (j : Int).toNat] ++ (es.take j).flatMap encAt := by
          rw [HN.out, List.take_length]; simp [encE]
        have HFin : Aside _ := hfin
        clear hfin
        go_wp2_with fail
        go_ret
        exact ⟨rfl, by rw [HFin.out]; exact HW3.out, HK3.out⟩
end Go.Proofs.Ytecfbbddhnkilaa
