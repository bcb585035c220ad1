/- CodecValues: values come back from their bytes, each of its own length. -/
import Derived.Test.YtnpbnjddlchmcaaValues2
namespace Go.Proofs.Ytnpbnjddlchmcaa
open Go.RowKit Go.Shelf Go.Sort
open Go.Proofs
set_option maxRecDepth 100000
attribute [local go_sem ↓] append_pre

theorem take_encs (es : List At) (j : Nat) (h : j < es.length) : (es.take (j + 1)).flatMap encV = (es.take j).flatMap encV ++ encV es[j]! := by
  rw [List.take_add_one, List.getElem?_eq_getElem h, getElem!_pos es j h, List.flatMap_append]
  simp
theorem encV_lens (a : At) (k : Int) (hk : a.k = k) (h : vrightB a.k a.s = true) : (encV a).length = if k = 0 ∨ k = 1 then 9 else if k = 2 then 2 + a.s.size else 2 := by
  obtain ⟨nm, k', n, x, s, y⟩ := a
  obtain rfl : k' = k := hk
  simp only [vrightB, Bool.and_eq_true, decide_eq_true_eq] at h
  rcases (show k' = 0 ∨ k' = 1 ∨ k' = 2 ∨ k' = 3 by omega) with rfl | rfl | rfl | rfl
  · simp [encV, encL_length]
  · simp [encV, encL_length]
  · simp [encV, encT_len]; omega
  · simp [encV]

theorem vright_canon (a : At) (h : vrightB a.k a.s = true) : vrightB (canonA a).k (canonA a).s = true := by
  obtain ⟨nm, k, n, x, s, y⟩ := a
  simp only [vrightB, Bool.and_eq_true, decide_eq_true_eq] at h
  rcases (show k = 0 ∨ k = 1 ∨ k = 2 ∨ k = 3 by omega) with rfl | rfl | rfl | rfl
  · simp [canonA, vrightB, ByteArray.size]
  · simp [canonA, vrightB, ByteArray.size]
  · simp [canonA, vrightB]; omega
  · simp [canonA, vrightB, ByteArray.size]
theorem encs_canon (es : List At) (h : ∀ a ∈ es, vrightB a.k a.s = true) : (es.map canonA).flatMap encV = es.flatMap encV := by
  induction es with
  | nil => rfl
  | cons a es ih =>
    simp only [List.map_cons, List.flatMap_cons, encV_canon a (h a (List.mem_cons_self ..)), ih (fun b hb => h b (List.mem_cons_of_mem _ hb))]

set_option maxHeartbeats 8000000 in
theorem codecValues_c (ao : Option Addr) (cap : Nat) (es : List At) (w : World) (hv : ValsB w w.heap.size ao es) (ho : ∀ a ∈ es, AtOk a ∧ -9223372036854775808 ≤ a.n ∧ a.n ≤ 9223372036854775807) :
    Calls Try.prog 8 #[.slice ao es.length cap] w fun e w' => e = .returned (.bool true) ∧ Below w.heap.size w w' := by
  have hmf : ∀ (fn : Fn) (first cap : Array Value) (w : World), (Instr.makeFunc fn first cap).run Try.prog w = .ok (.func fn first cap) w := fun _ _ _ _ => rfl
  have hF1 : ∀ args w, (callFunc 37 args).run Try.prog w = .ok (.enter 37 args) w := enters_of Try.func37 (by kernel_rfl) rfl
  have HF1 := Lib.hid hF1
  have HV : Aside (ValsB w w.heap.size ao es) := hv
  have HO := Lib.hid ho
  obtain ⟨n, hnn⟩ : ∃ n, n = es.length := ⟨_, rfl⟩
  have HN : Aside (n = es.length) := hnn
  rw [← hnn]
  clear hv ho hF1 hnn
  go_enter Try.func8, Try.ntmps8
  go_wp2_with fail
  refine (fit4_c _).mono ?_
  rintro e w1 ⟨rfl, hb1⟩
  have c0 := (hb1.cell (p := ⟨w.heap.size, 0, none⟩) (by simp)).trans (World.cell?_alloc_new w #[.slice ao n cap] 66 0)
  have f0 := (hb1.frozen (p := ⟨w.heap.size, 0, none⟩) (by simp)).trans (alloc_frozen w #[.slice ao n cap] 66 0)
  simp only [List.getElem?_toArray, List.getElem?_cons_zero] at c0
  have hz1 : w.heap.size < w1.heap.size := by have := hb1.size; simp at this; omega
  have HB1 : Aside (Below w.heap.size w w1) := ((Below.refl _ _).alloc (Nat.le_refl _) _).trans (hb1.mono (by simp))
  clear hb1
  by_cases h30 : (30 : Int) < (n : Int)
  · go_wp2_with fail
    go_ret
    exact ⟨rfl, HB1.out⟩
  have hn30 : n ≤ 30 := by omega
  have hV1 : ValsB w1 w1.heap.size ao es := by
    rcases HV.out with h | ⟨b, off, h1, h2, h3, h4⟩
    · exact Or.inl h
    · exact Or.inr ⟨b, off, h1, by omega, by omega, fun j hj c v hv => (HB1.out.cell (p := ⟨b, off + j * 5 + c, none⟩) h2).trans (h4 j hj c v hv)⟩
  obtain ⟨ao1, cap1, w2, hrun, hA2⟩ := copy_vals w1 ao cap es hV1 (by rw [← HN.out]; exact hn30)
  rw [← HN.out] at hrun
  obtain ⟨hb2, hr2⟩ := hA2.out
  have hz2 : w1.heap.size ≤ w2.heap.size := hb2.size
  have c02 := (hb2.cell (p := ⟨w.heap.size, 0, none⟩) hz1).trans c0
  have f02 := (hb2.frozen (p := ⟨w.heap.size, 0, none⟩) hz1).trans f0
  obtain ⟨g, hg0, hg1, hg2⟩ : ∃ g, w.heap.size ≤ g ∧ g < w2.heap.size ∧ (es = [] ∨ (ao1 = some ⟨g, 0, none⟩ ∧ w.heap.size < g ∧ RowV w2 g 0 es ∧ ∀ i, w2.frozen? ⟨g, i, none⟩ = false)) := by
    rcases hr2 with h | ⟨g, h1, h2, h3, h4, h5⟩
    · exact ⟨w.heap.size, Nat.le_refl _, by omega, Or.inl h⟩
    · exact ⟨g, by omega, h3, Or.inr ⟨h1, by omega, h4, h5⟩⟩
  have HG2 := Lib.hid hg2
  have HB2 : Aside (Below w.heap.size w w2) := HB1.out.trans (hb2.mono (by omega))
  clear hb2 hr2 hA2 hV1 HV hg2 HB1
  have hWn : Wr ((w2.setCell ⟨w.heap.size, 0, none⟩ (.slice ao1 n cap1)).alloc (.cells #[.slice none 0 0] 46)) w2.heap.size (w2.heap.size + 1) [] := by
    have := Wr.new (w2.setCell ⟨w.heap.size, 0, none⟩ (.slice ao1 n cap1))
    simpa using this
  have hk4 : Kb (fun k => k = w.heap.size) w2 ((w2.setCell ⟨w.heap.size, 0, none⟩ (.slice ao1 n cap1)).alloc (.cells #[.slice none 0 0] 46)) := (Kb.setCell (S := fun k => k = w.heap.size) w2 ⟨w.heap.size, 0, none⟩ rfl _).trans (Kb.alloc _ _ _)
  have d0 : ((w2.setCell ⟨w.heap.size, 0, none⟩ (.slice ao1 n cap1)).alloc (.cells #[.slice none 0 0] 46)).cell? ⟨w.heap.size, 0, none⟩ = some (.slice ao1 n cap1) := (World.cell?_alloc_lt _ _ ⟨w.heap.size, 0, none⟩ (by simp; omega)).trans (World.cell?_setCell_same w2 ⟨w.heap.size, 0, none⟩ _ c02)
  have HK4 := Lib.hid hk4
  have HWn := Lib.hid hWn
  obtain ⟨w4, hw4⟩ : ∃ w4, w4 = (w2.setCell ⟨w.heap.size, 0, none⟩ (.slice ao1 n cap1)).alloc (.cells #[.slice none 0 0] 46) := ⟨_, rfl⟩
  clear hk4 hWn
  go_wp2_with fail
  rw [← hw4] at d0 HK4 HWn ⊢
  clear hw4 c0 f0 c02 f02 hrun h30
  have HB4 : Aside (Below w.heap.size w w4) := HB2.out.trans (HK4.out.below (by omega) (fun k hk e => by omega))
  have HRow4 : Aside (es = [] ∨ (ao1 = some ⟨g, 0, none⟩ ∧ w.heap.size < g ∧ RowV w4 g 0 (curV es 0) ∧ ∀ i, w4.frozen? ⟨g, i, none⟩ = false)) := by
    rcases HG2.out with h | ⟨h1, h2, h3, h4⟩
    · exact Or.inl h
    · exact Or.inr ⟨h1, h2, fun j hj c v hv => (HK4.out.cell (p := ⟨g, 0 + j * 5 + c, none⟩) hg1 (by show ¬ g = w.heap.size; omega)).trans (h3 j (by simpa [curV] using hj) c v (by simpa [curV] using hv)), fun i => (HK4.out.frozen (p := ⟨g, i, none⟩) hg1 (by show ¬ g = w.heap.size; omega)).trans (h4 i)⟩
  clear HK4 HG2 HB2
  generalize w2.heap.size = P at *
  have hPL : w.heap.size < P := by omega
  go_loopg [4, 18] n (fun kx s4 s18 wr => ∃ j T : Nat, s18 = .int .i64 j ∧ s4 = .int .i64 T ∧ Aside (T = ((es.take j).flatMap encV).length) ∧ T ≤ 300 * j ∧ j ≤ n ∧ n - j ≤ kx ∧ Aside (Wr wr P (P + 1) ((es.take j).flatMap encV)) ∧ Aside (Below w.heap.size w wr) ∧ wr.cell? ⟨w.heap.size, 0, none⟩ = some (.slice ao1 n cap1) ∧
    Aside (∀ i, i < j → vrightB es[i]!.k es[i]!.s = true) ∧ Aside (es = [] ∨ (ao1 = some ⟨g, 0, none⟩ ∧ w.heap.size < g ∧ RowV wr g 0 (curV es j) ∧ ∀ i, wr.frozen? ⟨g, i, none⟩ = false)))
  case atStart => exact ⟨0, 0, rfl, rfl, (by show 0 = _; simp), Nat.le_refl _, Nat.zero_le _, by omega, HWn.out, HB4.out, d0, (fun i hi => absurd hi (by omega)), HRow4.out⟩
  case round =>
    clear HWn HB4 d0 HRow4
    obtain ⟨j, T, rfl, rfl, HT, hT, hj, hjx, HW, HB, c0, HVr, HRow⟩ := hrel
    by_cases hlt : j < n
    · have hjx2 : j < es.length := by rw [← HN.out]; exact hlt
      rcases HRow.out with h0 | ⟨rfl, hLg, hrw, hfz⟩
      · rw [h0] at hjx2; cases hjx2
      have hcl := fun c v hv => hrw j (by rw [curV_len]; exact hjx2) c v hv
      rw [curV_at es j hjx2] at hcl
      have HFz := Lib.hid hfz
      have HRw := Lib.hid hrw
      have hok := HO.out es[j]! (by rw [getElem!_pos es j hjx2]; exact List.getElem_mem _)
      have HOk : Aside (AtOk es[j]! ∧ -9223372036854775808 ≤ es[j]!.n ∧ es[j]!.n ≤ 9223372036854775807) := hok
      clear hrw hfz hok HRow
      obtain ⟨a, ha⟩ : ∃ a, a = es[j]! := ⟨_, rfl⟩
      have HA : Aside (a = es[j]!) := ha
      rw [← ha] at hcl HOk
      clear ha
      obtain ⟨nm, k, nn, x, s, y⟩ := a
      have k0 := hcl 0 _ rfl; have k1 := hcl 1 _ rfl; have k2 := hcl 2 _ rfl; have k3 := hcl 3 _ rfl; have k4 := hcl 4 _ rfl
      simp only [Nat.add_zero, Nat.zero_add] at k0 k1 k2 k3 k4
      have hjz : (j : Int) < (n : Int) := by omega
      have hj0 : (0 : Int) ≤ (j : Int) := by omega
      have hPw : P < wr.heap.size := Nat.lt_of_lt_of_le HW.out.pb HW.out.bw
      clear hcl hjx2
      have hbv : Below wr.heap.size wr (wr.alloc (.cells #[.int .i64 k, .int .i64 nn, .float .f64 x, .string s, .bool y] 41)) := (Below.refl _ _).alloc (Nat.le_refl _) _
      have a0 := World.cell?_alloc_new wr #[.int .i64 k, .int .i64 nn, .float .f64 x, .string s, .bool y] 41 0
      have a1 := World.cell?_alloc_new wr #[.int .i64 k, .int .i64 nn, .float .f64 x, .string s, .bool y] 41 1
      have a2 := World.cell?_alloc_new wr #[.int .i64 k, .int .i64 nn, .float .f64 x, .string s, .bool y] 41 2
      have a3 := World.cell?_alloc_new wr #[.int .i64 k, .int .i64 nn, .float .f64 x, .string s, .bool y] 41 3
      have a4 := World.cell?_alloc_new wr #[.int .i64 k, .int .i64 nn, .float .f64 x, .string s, .bool y] 41 4
      simp only [List.getElem?_toArray, List.getElem?_cons_zero, List.getElem?_cons_succ] at a0 a1 a2 a3 a4
      have hzv : wr.heap.size < (wr.alloc (.cells #[.int .i64 k, .int .i64 nn, .float .f64 x, .string s, .bool y] 41)).heap.size := by simp
      have hvr := vright_c k nn x s y (wr.alloc (.cells #[.int .i64 k, .int .i64 nn, .float .f64 x, .string s, .bool y] 41))
      have HVq := Lib.hid hvr
      clear hvr
      go_wp2_with fail
      refine HVq.out.mono ?_
      rintro e w6 ⟨rfl, hb6⟩
      have hb6r : Below wr.heap.size wr w6 := hbv.trans (hb6.mono (Nat.le_of_lt hzv))
      have b0 := (hb6.cell (p := ⟨wr.heap.size, 0, none⟩) hzv).trans a0
      have b1 := (hb6.cell (p := ⟨wr.heap.size, 1, none⟩) hzv).trans a1
      have b2 := (hb6.cell (p := ⟨wr.heap.size, 2, none⟩) hzv).trans a2
      have b3 := (hb6.cell (p := ⟨wr.heap.size, 3, none⟩) hzv).trans a3
      have b4 := (hb6.cell (p := ⟨wr.heap.size, 4, none⟩) hzv).trans a4
      have hgw : g < wr.heap.size := by omega
      have hLw : w.heap.size < wr.heap.size := by omega
      have m0 := (hb6r.cell (p := ⟨g, j * 5, none⟩) hgw).trans k0
      have m1 := (hb6r.cell (p := ⟨g, j * 5 + 1, none⟩) hgw).trans k1
      have m2 := (hb6r.cell (p := ⟨g, j * 5 + 2, none⟩) hgw).trans k2
      have m3 := (hb6r.cell (p := ⟨g, j * 5 + 3, none⟩) hgw).trans k3
      have m4 := (hb6r.cell (p := ⟨g, j * 5 + 4, none⟩) hgw).trans k4
      have l0 := (hb6r.cell (p := ⟨w.heap.size, 0, none⟩) hLw).trans c0
      have hB6 := HB.out.trans (hb6r.mono (by omega))
      have HB6 := Lib.hid hB6
      have HR6 := Lib.hid hb6r
      have hV6 : wr.heap.size < w6.heap.size := Nat.lt_of_lt_of_le hzv hb6.size
      clear hb6 hb6r hB6 a0 a1 a2 a3 a4 k0 k1 k2 k3 k4 c0 HVq hbv hzv
      generalize hVV : wr.heap.size = V at *
      have HVV : Aside (wr.heap.size = V) := hVV
      clear hVV
      cases hvb : vrightB k s
      · go_wp2_with fail
        go_ret
        exact ⟨rfl, HB6.out⟩
      have HVb : Aside (vrightB k s = true) := hvb
      clear hvb
      have hfz6 : ∀ i, w6.frozen? ⟨g, i, none⟩ = false := fun i => (HR6.out.frozen (p := ⟨g, i, none⟩) hgw).trans (HFz.out i)
      have ff0 := hfz6 (j * 5); have ff1 := hfz6 (j * 5 + 1); have ff2 := hfz6 (j * 5 + 2); have ff3 := hfz6 (j * 5 + 3); have ff4 := hfz6 (j * 5 + 4)
      have HFz6 := Lib.hid hfz6
      have hcn : Calls Try.prog 18 #[.agg #[.int .i64 k, .int .i64 nn, .float .f64 x, .string s, .bool y]] w6.drew fun e w' => e = .returned (val (canonA ⟨nm, k, nn, x, s, y⟩).k (canonA ⟨nm, k, nn, x, s, y⟩).n (canonA ⟨nm, k, nn, x, s, y⟩).x (canonA ⟨nm, k, nn, x, s, y⟩).s (canonA ⟨nm, k, nn, x, s, y⟩).y) ∧ Below w6.heap.size w6 w' :=
        (canonA_c ⟨nm, k, nn, x, s, y⟩ w6.drew).mono fun e w' h => ⟨h.1, h.2.os, h.2.tape, h.2.output, h.2.size, h.2.block⟩
      obtain ⟨cc, hcc⟩ : ∃ cc, cc = canonA ⟨nm, k, nn, x, s, y⟩ := ⟨_, rfl⟩
      have HCC : Aside (cc = canonA ⟨nm, k, nn, x, s, y⟩) := hcc
      rw [← hcc] at hcn
      obtain ⟨nmc, kc, nc, xc, sc, yc⟩ := cc
      simp only [] at hcn
      have HCn := Lib.hid hcn
      clear hcn hcc hfz6
      have hg6 : g < w6.heap.size := by omega
      have hL6 : w.heap.size < w6.heap.size := by omega
      go_wp2_with fail
      go_region_with (go_at_call 18; refine HCn.out.mono ?_; rintro e w7 ⟨rfl, hb⟩
                      have o0 := (hb.cell (p := ⟨g, j * 5, none⟩) hg6).trans m0
                      have o1 := (hb.cell (p := ⟨g, j * 5 + 1, none⟩) hg6).trans m1
                      have o2 := (hb.cell (p := ⟨g, j * 5 + 2, none⟩) hg6).trans m2
                      have o3 := (hb.cell (p := ⟨g, j * 5 + 3, none⟩) hg6).trans m3
                      have o4 := (hb.cell (p := ⟨g, j * 5 + 4, none⟩) hg6).trans m4
                      have of0 := (hb.frozen (p := ⟨g, j * 5, none⟩) hg6).trans ff0
                      have of1 := (hb.frozen (p := ⟨g, j * 5 + 1, none⟩) hg6).trans ff1
                      have of2 := (hb.frozen (p := ⟨g, j * 5 + 2, none⟩) hg6).trans ff2
                      have of3 := (hb.frozen (p := ⟨g, j * 5 + 3, none⟩) hg6).trans ff3
                      have of4 := (hb.frozen (p := ⟨g, j * 5 + 4, none⟩) hg6).trans ff4
                      have lo := (hb.cell (p := ⟨w.heap.size, 0, none⟩) hL6).trans l0
                      have u0 := (hb.cell (p := ⟨V, 0, none⟩) hV6).trans b0
                      have u1 := (hb.cell (p := ⟨V, 1, none⟩) hV6).trans b1
                      have u2 := (hb.cell (p := ⟨V, 2, none⟩) hV6).trans b2
                      have u3 := (hb.cell (p := ⟨V, 3, none⟩) hV6).trans b3
                      have u4 := (hb.cell (p := ⟨V, 4, none⟩) hV6).trans b4
                      have HB7 := Lib.hid hb)
      all_goals (
        have hset : (((((w7.setCell ⟨g, j * 5, none⟩ (.int .i64 kc)).setCell ⟨g, j * 5 + 1, none⟩ (.int .i64 nc)).setCell ⟨g, j * 5 + 2, none⟩ (.float .f64 xc)).setCell ⟨g, j * 5 + 3, none⟩ (.string sc)).setCell ⟨g, j * 5 + 4, none⟩ (.bool yc)) = (set5 w7 g (j * 5) ⟨nmc, kc, nc, xc, sc, yc⟩) := rfl
        rw [hset]
        clear hset
        have hs5 := set5_kb w7 g (j * 5) ⟨nmc, kc, nc, xc, sc, yc⟩
        have hz7 : w6.heap.size ≤ w7.heap.size := HB7.out.size
        have hVg : ¬ V = g := by omega
        have p0 := (hs5.cell (p := ⟨V, 0, none⟩) (by show V < _; omega) hVg).trans u0
        have p1 := (hs5.cell (p := ⟨V, 1, none⟩) (by show V < _; omega) hVg).trans u1
        have p2 := (hs5.cell (p := ⟨V, 2, none⟩) (by show V < _; omega) hVg).trans u2
        have p3 := (hs5.cell (p := ⟨V, 3, none⟩) (by show V < _; omega) hVg).trans u3
        have p4 := (hs5.cell (p := ⟨V, 4, none⟩) (by show V < _; omega) hVg).trans u4
        have pl := (hs5.cell (p := ⟨w.heap.size, 0, none⟩) (by show w.heap.size < _; omega) (by show ¬ w.heap.size = g; omega)).trans lo
        have hjl : j < es.length := by rw [← HN.out]; exact hlt
        have HRow8 : Aside (RowV (set5 w7 g (j * 5) ⟨nmc, kc, nc, xc, sc, yc⟩) g 0 (curV es (j + 1))) := by
          have h7 : RowV w7 g 0 (curV es j) := fun i hi c v hv => (HB7.out.cell (p := ⟨g, 0 + i * 5 + c, none⟩) hg6).trans ((HR6.out.cell (p := ⟨g, 0 + i * 5 + c, none⟩) hgw).trans (HRw.out i hi c v hv))
          have := rowV_set hjl h7
          rw [← HA.out, ← HCC.out] at this
          exact this
        have HFz8 : Aside (∀ i, (set5 w7 g (j * 5) ⟨nmc, kc, nc, xc, sc, yc⟩).frozen? ⟨g, i, none⟩ = false) := fun i => by
          rw [set5_frozen]
          exact (HB7.out.frozen (p := ⟨g, i, none⟩) hg6).trans (HFz6.out i)
        have HB8 : Aside (Below w.heap.size w (set5 w7 g (j * 5) ⟨nmc, kc, nc, xc, sc, yc⟩)) := (HB6.out.trans (HB7.out.mono (by omega))).trans (hs5.below (by omega) (fun k hk e => by omega))
        have HW8 : Aside (Wr (set5 w7 g (j * 5) ⟨nmc, kc, nc, xc, sc, yc⟩) P (P + 1) ((es.take j).flatMap encV)) := by
          refine HW.out.kb (S := fun k => k = g ∨ V ≤ k) ?_ (fun k h1 h2 h3 => by have := HVV.out; omega)
          have q1 : Kb (fun k => k = g ∨ V ≤ k) wr w6 := Kb.of_below HR6.out (fun k _ h => Or.inr h)
          have q2 : Kb (fun k => k = g ∨ V ≤ k) w6 w7 := Kb.of_below HB7.out (fun k h1 h2 => absurd h1 (by omega))
          exact (q1.trans q2).trans (hs5.mono (fun k _ h => Or.inl h))
        have HP8 : Aside ((set5 w7 g (j * 5) ⟨nmc, kc, nc, xc, sc, yc⟩).cell? ⟨P, 0, none⟩ = wr.cell? ⟨P, 0, none⟩) := (hs5.cell (p := ⟨P, 0, none⟩) (by show P < _; omega) (by show ¬ P = g; omega)).trans ((HB7.out.cell (p := ⟨P, 0, none⟩) (by show P < _; omega)).trans (HR6.out.cell (p := ⟨P, 0, none⟩) (by show P < V; omega)))
        have hV8 : V < (set5 w7 g (j * 5) ⟨nmc, kc, nc, xc, sc, yc⟩).heap.size := Nat.lt_of_lt_of_le (by omega) hs5.size
        clear hs5 o0 o1 o2 o3 o4 of0 of1 of2 of3 of4 u0 u1 u2 u3 u4 lo b0 b1 b2 b3 b4 m0 m1 m2 m3 m4 l0 ff0 ff1 ff2 ff3 ff4 HFz6 HFz HRw HB7 HB6 HCn HCC hV6 hg6 hL6 hz7
        generalize (set5 w7 g (j * 5) ⟨nmc, kc, nc, xc, sc, yc⟩) = w8 at *
        have hvb := HVb.out
        have HTk : Aside ((es.take (j + 1)).flatMap encV = (es.take j).flatMap encV ++ encV ⟨nm, k, nn, x, s, y⟩) := by
          have := take_encs es j hjl
          rw [← HA.out] at this
          exact this
        have hlen := encV_lens ⟨nm, k, nn, x, s, y⟩ k rfl hvb
        simp only [vrightB, Bool.and_eq_true, decide_eq_true_eq] at hvb
        have hwv : Calls Try.prog 36 #[.pointer (some ⟨P, 0, none⟩), .agg #[.int .i64 k, .int .i64 nn, .float .f64 x, .string s, .bool y]] w8 fun e w' => e = .returned (.pointer (some ⟨P, 0, none⟩)) ∧ Aside (Wr w' P (P + 1) ((es.take (j + 1)).flatMap encV) ∧ Wk P w8 w') := by
          rw [HTk.out]
          exact wvalue_c ⟨nm, k, nn, x, s, y⟩ P (P + 1) _ w8 HW8.out (by rw [← HT.out]; omega) HOk.out.1 (by simp only [tellsV, Bool.and_eq_true, Bool.or_eq_true, decide_eq_true_eq]; omega)
        have HWv := Lib.hid hwv
        clear hwv
        go_wp2_with fail
        refine HWv.out.mono ?_
        rintro e w9 ⟨rfl, hA9⟩
        have hwk := hA9.out.2
        have hb89 : Below P w8 w9 := hwk.under HW8.out (Nat.le_refl _)
        have hnr : ¬ RowOf w8 P V := fun ⟨ao', n', cap', h1, h2⟩ => by
          have h3 := (HW.out.row (k := V) ⟨ao', n', cap', by rw [← HP8.out]; exact h1, h2⟩).2
          have := HVV.out
          omega
        have r0 := (hwk.cell hV8 (by omega) hnr 0).trans p0
        have r3 := (hwk.cell hV8 (by omega) hnr 3).trans p3
        have rl := (hb89.cell (p := ⟨w.heap.size, 0, none⟩) (by show w.heap.size < P; omega)).trans pl
        have HR9 : Aside (RowV w9 g 0 (curV es (j + 1))) := fun i hi c v hv => (hb89.cell (p := ⟨g, 0 + i * 5 + c, none⟩) (by show g < P; omega)).trans (HRow8.out i hi c v hv)
        have HFz9 : Aside (∀ i, w9.frozen? ⟨g, i, none⟩ = false) := fun i => (hb89.frozen (p := ⟨g, i, none⟩) (by show g < P; omega)).trans (HFz8.out i)
        have HB9 : Aside (Below w.heap.size w w9) := HB8.out.trans (hb89.mono (by omega))
        have HW9 : Aside (Wr w9 P (P + 1) ((es.take (j + 1)).flatMap encV)) := hA9.out.1
        have HT9 : Aside (((es.take (j + 1)).flatMap encV).length = T + (encV ⟨nm, k, nn, x, s, y⟩).length) := by rw [Aside, HTk.out, List.length_append, ← HT.out]
        have HVr9 : Aside (∀ i, i < j + 1 → vrightB es[i]!.k es[i]!.s = true) := fun i hi => by
          by_cases hij : i = j
          · subst hij; rw [← HA.out]; exact HVb.out
          · exact HVr.out i (by omega)
        have hV9 : V < w9.heap.size := World.block_lt_of_cell? w9 _ r0
        have hz9 : P < w9.heap.size := Nat.lt_of_lt_of_le HW9.out.pb HW9.out.bw
        clear hwk hb89 hnr hA9 HWv p0 p1 p2 p3 p4 pl HRow8 HFz8 HB8 HW8 HP8 hV8 HTk HW HB HVr HR6 HVb HT
        rcases (show k = 0 ∨ k = 1 ∨ k = 2 ∨ k = 3 by omega) with rfl | rfl | rfl | rfl
        · have hl9 : (encV ⟨nm, 0, nn, x, s, y⟩).length = 9 := hlen
          rw [hl9] at HT9
          clear hlen hl9
          go_wp2_with fail
          go_roundg (n - (j + 1))
          case measure => omega
          case rel => exact ⟨j + 1, T + 9, by go_num, by go_num, HT9.out.symm, by omega, hlt, Nat.le_refl _, HW9.out.alloc _, HB9.out.alloc HB9.out.size _, (World.cell?_alloc_lt w9 _ ⟨w.heap.size, 0, none⟩ (by show w.heap.size < _; omega)).trans rl, HVr9.out,
              Or.inr ⟨by trivial, hLg, fun i hi c v hv => (World.cell?_alloc_lt w9 _ ⟨g, 0 + i * 5 + c, none⟩ (by show g < _; omega)).trans (HR9.out i hi c v hv), fun i => (Below.frozen (((Below.refl _ w9).alloc (Nat.le_refl _) _)) (p := ⟨g, i, none⟩) (by show g < _; omega)).trans (HFz9.out i)⟩⟩
        · have hl9 : (encV ⟨nm, 1, nn, x, s, y⟩).length = 9 := hlen
          rw [hl9] at HT9
          clear hlen hl9
          go_wp2_with fail
          go_roundg (n - (j + 1))
          case measure => omega
          case rel => exact ⟨j + 1, T + 9, by go_num, by go_num, HT9.out.symm, by omega, hlt, Nat.le_refl _, HW9.out.alloc _, HB9.out.alloc HB9.out.size _, (World.cell?_alloc_lt w9 _ ⟨w.heap.size, 0, none⟩ (by show w.heap.size < _; omega)).trans rl, HVr9.out,
              Or.inr ⟨by trivial, hLg, fun i hi c v hv => (World.cell?_alloc_lt w9 _ ⟨g, 0 + i * 5 + c, none⟩ (by show g < _; omega)).trans (HR9.out i hi c v hv), fun i => (Below.frozen (((Below.refl _ w9).alloc (Nat.le_refl _) _)) (p := ⟨g, i, none⟩) (by show g < _; omega)).trans (HFz9.out i)⟩⟩
        · have hl9 : (encV ⟨nm, 2, nn, x, s, y⟩).length = (2 + s.size) := hlen
          rw [hl9] at HT9
          clear hlen hl9
          go_wp2_with fail
          go_roundg (n - (j + 1))
          case measure => omega
          case rel => exact ⟨j + 1, T + (2 + s.size), by go_num, by go_num, HT9.out.symm, by omega, hlt, Nat.le_refl _, HW9.out.alloc _, HB9.out.alloc HB9.out.size _, (World.cell?_alloc_lt w9 _ ⟨w.heap.size, 0, none⟩ (by show w.heap.size < _; omega)).trans rl, HVr9.out,
              Or.inr ⟨by trivial, hLg, fun i hi c v hv => (World.cell?_alloc_lt w9 _ ⟨g, 0 + i * 5 + c, none⟩ (by show g < _; omega)).trans (HR9.out i hi c v hv), fun i => (Below.frozen (((Below.refl _ w9).alloc (Nat.le_refl _) _)) (p := ⟨g, i, none⟩) (by show g < _; omega)).trans (HFz9.out i)⟩⟩
        · have hl9 : (encV ⟨nm, 3, nn, x, s, y⟩).length = 2 := hlen
          rw [hl9] at HT9
          clear hlen hl9
          go_wp2_with fail
          go_roundg (n - (j + 1))
          case measure => omega
          case rel => exact ⟨j + 1, T + 2, by go_num, by go_num, HT9.out.symm, by omega, hlt, Nat.le_refl _, HW9.out.alloc _, HB9.out.alloc HB9.out.size _, (World.cell?_alloc_lt w9 _ ⟨w.heap.size, 0, none⟩ (by show w.heap.size < _; omega)).trans rl, HVr9.out,
              Or.inr ⟨by trivial, hLg, fun i hi c v hv => (World.cell?_alloc_lt w9 _ ⟨g, 0 + i * 5 + c, none⟩ (by show g < _; omega)).trans (HR9.out i hi c v hv), fun i => (Below.frozen (((Below.refl _ w9).alloc (Nat.le_refl _) _)) (p := ⟨g, i, none⟩) (by show g < _; omega)).trans (HFz9.out i)⟩⟩)
    · obtain rfl : j = n := by omega
      have hW := HW.out
      have hT2 := HT.out
      have hvr : ∀ a ∈ es, vrightB a.k a.s = true := fun a ha => by
        obtain ⟨i, hi, rfl⟩ := List.getElem_of_mem ha
        have := HVr.out i (by rw [HN.out]; exact hi)
        rwa [getElem!_pos es i hi] at this
      have HVR := Lib.hid hvr
      rw [show es.take j = es by rw [HN.out, List.take_length]] at hW hT2
      have HRe : Aside (es = [] ∨ (ao1 = some ⟨g, 0, none⟩ ∧ RowV wr g 0 (es.map canonA))) := by
        rcases HRow.out with h | ⟨h1, _, h3, _⟩
        · exact Or.inl h
        · rw [HN.out, curV_end] at h3
          exact Or.inr ⟨h1, h3⟩
      obtain ⟨bs, hbs⟩ : ∃ bs, bs = es.flatMap encV := ⟨_, rfl⟩
      have HBS : Aside (bs = es.flatMap encV) := hbs
      rw [← hbs] at hW hT2
      have HTb : Aside (T = bs.length) := hT2
      have HWe := Lib.hid hW
      have hPw : P < wr.heap.size := Nat.lt_of_lt_of_le hW.pb hW.bw
      clear hbs hW hT2 hvr HT HVr HRow hj hjx hlt HW
      go_wp2_with fail
      have g0 := World.cell?_alloc_new wr #[.bool true] 4 0
      have gf := alloc_frozen wr #[.bool true] 4 0
      have gn : NI (wr.alloc (.cells #[.bool true] 4)) wr.heap.size := fun i c e => by
        rw [World.cell?_alloc_new wr #[.bool true] 4 i] at e
        rcases i with _ | i
        · cases e
        · simp at e
      have b7 : Below wr.heap.size wr (wr.alloc (.cells #[.bool true] 4)) := (Below.refl _ _).alloc (Nat.le_refl _) _
      have z7 : (wr.alloc (.cells #[.bool true] 4)).heap.size = wr.heap.size + 1 := by simp
      simp only [List.getElem?_toArray, List.getElem?_cons_zero] at g0
      generalize (wr.alloc (.cells #[.bool true] 4)) = w7 at *
      have HW7 : Aside (∀ W, Below wr.heap.size wr W → Wr W P (P + 1) bs) := fun W hW => HWe.out.kb (Kb.of_below (S := fun k => wr.heap.size ≤ k) hW (fun _ _ h => h)) (fun k h _ h2 => by omega)
      have HO7 : Aside (∀ W, Below wr.heap.size wr W → W.cell? ⟨w.heap.size, 0, none⟩ = some (.slice ao1 j cap1) ∧ (es = [] ∨ (ao1 = some ⟨g, 0, none⟩ ∧ RowV W g 0 (es.map canonA))) ∧ Below w.heap.size w W) := fun W hW =>
        ⟨(hW.cell (p := ⟨w.heap.size, 0, none⟩) (by show w.heap.size < _; omega)).trans c0, HRe.out.imp id (fun h => ⟨h.1, fun i hi c v hv => (hW.cell (p := ⟨g, 0 + i * 5 + c, none⟩) (by show g < _; omega)).trans (h.2 i hi c v hv)⟩), HB.out.trans (hW.mono (by omega))⟩
      obtain ⟨G, hG⟩ : ∃ G, G = wr.heap.size := ⟨_, rfl⟩
      rw [← hG] at HW7 HO7 b7 z7 g0 gf gn hPw ⊢
      clear hG c0 HB HRe HWe
      have HB7 := Lib.hid b7
      have HNG := Lib.hid gn
      clear b7 gn
      have hbig : T ≤ 9000 := by omega
      have hby := wbytes_c P (P + 1) bs w7 (HW7.out w7 HB7.out) (by rw [← HTb.out]; omega)
      rw [← HTb.out] at hby
      refine hby.mono ?_
      rintro e w8 ⟨ao8, cap8, rfl, hA8⟩
      have hown8 := hA8.out.1
      rw [HTb.out] at hown8
      obtain ⟨q1, q2, _⟩ := own1_bytes hown8
      have HY8 : Aside (BytesB w8 w8.heap.size ao8 bs ∧ bs.length ≤ cap8) := ⟨q1, q2⟩
      have hb78 := hA8.out.2
      have HB78 : Aside (Below w7.heap.size w7 w8) := hb78
      have HB8 : Aside (Below G wr w8) := HB7.out.trans (hb78.mono (by omega))
      have hz8 : G < w8.heap.size := by have := hb78.size; omega
      clear hby hA8 hown8 q1 q2 hb78
      go_wp2_with fail
      have hrd := read_c 37 HF1.out ao8 cap8 bs #[.pointer (some ⟨w.heap.size, 0, none⟩), .pointer (some ⟨G, 0, none⟩)] w8 (fun k => k = G)
        (fun l' W => l' = [] ∧ W.cell? ⟨G, 0, none⟩ = some (.bool true)) (fun _ => False) HY8.out.2 HY8.out.1
        (fun W R hW hR hRd => by
          obtain ⟨k0, k1, _⟩ := HO7.out W (HB8.out.trans (hW.mono (by omega)))
          have hW7 : Below w7.heap.size w7 W := HB78.out.trans (hW.mono HB78.out.size)
          have k2 := (hW7.cell (p := ⟨G, 0, none⟩) (by show G < _; omega)).trans g0
          have k3 := (hW7.frozen (p := ⟨G, 0, none⟩) (by show G < _; omega)).trans gf
          have k4 : NI W G := HNG.out.kb (Kb.of_below (S := fun k => w7.heap.size ≤ k) hW7 (fun _ _ h => h)) (by omega) (by omega)
          rw [HBS.out, ← encs_canon es HVR.out] at hRd
          rw [HN.out, ← List.length_map (f := canonA)] at k0
          refine (values1_c R w.heap.size G g cap1 ao1 (es.map canonA) W hRd (fun a ha => by
            obtain ⟨z, hz, rfl⟩ := List.mem_map.1 ha
            obtain ⟨h1, h2, h3⟩ := HO.out z hz
            obtain ⟨e1, e2, e3⟩ := canonA_bd z h1 h2 h3
            exact ⟨canonA_idem z, e2, e3, e1, vright_canon z (HVR.out z hz)⟩) (by rw [List.length_map, ← HN.out]; exact hn30)
            (k1.imp (fun h => by rw [h]; rfl) id) (by omega) (by omega) (by omega) k0 k2 k3 k4).mono ?_
          rintro e w' ⟨h1, h2, h3, h4⟩
          exact ⟨h1, Or.inl ⟨[], h2, h3, rfl, h4⟩⟩)
        (fun k hk => by omega)
        (fun l' W W' hx hk => ⟨hx.1, (hk.cell (p := ⟨G, 0, none⟩) (World.block_lt_of_cell? W _ hx.2) (by show ¬ G = w8.heap.size; omega)).trans hx.2⟩)
        (fun _ _ hy _ => hy)
      rw [← HTb.out] at hrd
      refine hrd.mono ?_
      rintro e w9 ⟨hk9, hw9⟩
      obtain ⟨rfl, g9⟩ : e = .returned (.bool true) ∧ w9.cell? ⟨G, 0, none⟩ = some (.bool true) := by
        rcases hw9 with ⟨l', he, rfl, hg⟩ | ⟨_, h⟩
        · exact ⟨he, hg⟩
        · exact h.elim
      have HB9 : Aside (Below G wr w9) := HB8.out.trans (hk9.below (by omega) (fun k hk e => by omega))
      have hby := wbytes_c P (P + 1) bs w9 (HW7.out w9 HB9.out) (by rw [← HTb.out]; omega)
      rw [← HTb.out] at hby
      have HBy := Lib.hid hby
      have hTT : ((T : Int) == (T : Int)) = true := by simp
      clear hrd hk9 hw9 hby HF1 HY8 HB78 HB8 g0 gf
      go_wp2_with fail
      refine HBy.out.mono ?_
      rintro e w10 ⟨ao10, cap10, rfl, hA10⟩
      have HBend : Aside (Below w.heap.size w w10) := (HO7.out w9 HB9.out).2.2.trans (hA10.out.2.mono (HO7.out w9 HB9.out).2.2.size)
      clear hA10
      go_wp2_with fail
      go_ret
      exact ⟨rfl, HBend.out⟩
end Go.Proofs.Ytnpbnjddlchmcaa
