/- CodecFilters: filters come back from their bytes, as they are. -/
import Derived.Test.YtecfbbddhnkilaaCnF
import Derived.Test.YtecfbbddhnkilaaCnW
import Derived.Test.YtecfbbddhnkilaaFit4
import Derived.Test.YtecfbbddhnkilaaOpenF
namespace Go.Proofs.Ytecfbbddhnkilaa
open Go.RowKit Go.Shelf Go.Sort
open Go.Proofs
set_option maxRecDepth 100000
attribute [local go_sem ↓] append_pre

set_option maxHeartbeats 8000000 in
theorem codecFilters_c (sc : ByteArray) (ao : Option Addr) (cap : Nat) (cs : List Cn) (w : World) (hv : CondsB w.heap.size w ao cs) (ho : ∀ c ∈ cs, CnOk c) :
    Calls Try.prog 3 #[.agg #[.string sc, .slice ao cs.length cap]] w fun e w' => e = .returned (.bool true) ∧ Below w.heap.size w w' := by
  have hmf : ∀ (fn : Fn) (first cap : Array Value) (w : World), (Instr.makeFunc fn first cap).run Try.prog w = .ok (.func fn first cap) w := fun _ _ _ _ => rfl
  have hF1 : ∀ args w, (callFunc 9 args).run Try.prog w = .ok (.enter 9 args) w := enters_of Try.func9 (by kernel_rfl) rfl
  have HF1 := Lib.hid hF1
  have HV : Aside (CondsB w.heap.size w ao cs) := hv
  have HO := Lib.hid ho
  obtain ⟨n, hnn⟩ : ∃ n, n = cs.length := ⟨_, rfl⟩
  have HN : Aside (n = cs.length) := hnn
  rw [← hnn]
  clear hv ho hF1 hnn
  go_enter Try.func3, Try.ntmps3
  go_wp2_with fail
  refine (fit4_c _).mono ?_
  rintro e w1 ⟨rfl, hb1⟩
  have c0 := (hb1.cell (p := ⟨w.heap.size, 0, none⟩) (by simp)).trans (World.cell?_alloc_new w #[.string sc, .slice ao n cap] 24 0)
  have c1 := (hb1.cell (p := ⟨w.heap.size, 1, none⟩) (by simp)).trans (World.cell?_alloc_new w #[.string sc, .slice ao n cap] 24 1)
  have f1 := (hb1.frozen (p := ⟨w.heap.size, 1, none⟩) (by simp)).trans (alloc_frozen w #[.string sc, .slice ao n cap] 24 1)
  simp only [List.getElem?_toArray, List.getElem?_cons_zero, List.getElem?_cons_succ] at c0 c1
  have hz1 : w.heap.size < w1.heap.size := by have := hb1.size; simp at this; omega
  have HB1 : Aside (Below w.heap.size w w1) := ((Below.refl _ _).alloc (Nat.le_refl _) _).trans (hb1.mono (by simp))
  clear hb1
  by_cases h20 : (20 : Int) < (n : Int)
  · go_wp2_with fail
    go_ret
    exact ⟨rfl, HB1.out⟩
  by_cases h255 : (255 : Int) < (sc.size : Int)
  · go_wp2_with fail
    go_ret
    exact ⟨rfl, HB1.out⟩
  have hn20 : n ≤ 20 := by omega
  have HSC : Aside (sc.size ≤ 255) := by show _ ≤ _; omega
  have hV1 : CondsB w1.heap.size w1 ao cs := by
    rcases HV.out with h | ⟨b, off, h1, h2, h4⟩
    · exact Or.inl h
    · exact Or.inr ⟨b, off, h1, by omega, RowC.below HB1.out h2 h4⟩
  obtain ⟨ao1, cap1, w2, hrun, hA2⟩ := copy_conds w1 ao cap cs hV1 (by rw [← HN.out]; omega)
  rw [← HN.out] at hrun
  obtain ⟨hb2, hr2⟩ := hA2.out
  have hz2 : w1.heap.size ≤ w2.heap.size := hb2.size
  have c02 := (hb2.cell (p := ⟨w.heap.size, 0, none⟩) hz1).trans c0
  have c12 := (hb2.cell (p := ⟨w.heap.size, 1, none⟩) hz1).trans c1
  have f12 := (hb2.frozen (p := ⟨w.heap.size, 1, none⟩) hz1).trans f1
  obtain ⟨g, hg0, hg1, hg2⟩ : ∃ g, w.heap.size ≤ g ∧ g < w2.heap.size ∧ (cs = [] ∨ (ao1 = some ⟨g, 0, none⟩ ∧ w.heap.size < g ∧ RowC w2 g 0 cs ∧ ∀ i, w2.frozen? ⟨g, i, none⟩ = false)) := by
    rcases hr2 with h | ⟨g, h1, h2, h3, h4, h5⟩
    · exact ⟨w.heap.size, Nat.le_refl _, by omega, Or.inl h⟩
    · exact ⟨g, by omega, h3, Or.inr ⟨h1, by omega, h4, h5⟩⟩
  have HG2 := Lib.hid hg2
  have HB2 : Aside (Below w.heap.size w w2) := HB1.out.trans (hb2.mono (by omega))
  have hk3 : Kb (fun k => k = w.heap.size) w2 (w2.setCell ⟨w.heap.size, 1, none⟩ (.slice ao1 n cap1)) := Kb.setCell (S := fun k => k = w.heap.size) w2 ⟨w.heap.size, 1, none⟩ rfl _
  have HK3 := Lib.hid hk3
  have d0 : (w2.setCell ⟨w.heap.size, 1, none⟩ (.slice ao1 n cap1)).cell? ⟨w.heap.size, 0, none⟩ = some (.string sc) := (oth (by decide)).trans c02
  have d1 : (w2.setCell ⟨w.heap.size, 1, none⟩ (.slice ao1 n cap1)).cell? ⟨w.heap.size, 1, none⟩ = some (.slice ao1 n cap1) := World.cell?_setCell_same w2 ⟨w.heap.size, 1, none⟩ _ c12
  obtain ⟨w3, hw3⟩ : ∃ w3, w3 = w2.setCell ⟨w.heap.size, 1, none⟩ (.slice ao1 n cap1) := ⟨_, rfl⟩
  have hbo : (decide ((20 : Int) < (n : Int)) || decide ((255 : Int) < (sc.size : Int))) = false := by simp; omega
  clear hb2 hr2 hA2 hV1 HV hg2 HB1 hk3
  go_wp2_with fail
  rw [← hw3] at d0 d1 HK3 ⊢
  clear hw3 c0 c1 f1 c02 c12 f12 hrun h20 h255 hbo
  have HB3 : Aside (Below w.heap.size w w3) := HB2.out.trans (HK3.out.below (by omega) (fun k hk e => by omega))
  have hz3 : g < w3.heap.size := Nat.lt_of_lt_of_le hg1 HK3.out.size
  have HRow3 : Aside (cs = [] ∨ (ao1 = some ⟨g, 0, none⟩ ∧ w.heap.size < g ∧ RowC w3 g 0 (curC cs 0) ∧ ∀ i, w3.frozen? ⟨g, i, none⟩ = false)) := by
    rcases HG2.out with h | ⟨h1, h2, h3, h4⟩
    · exact Or.inl h
    · exact Or.inr ⟨h1, h2, fun j hj c v hv => (HK3.out.cell (p := ⟨g, 0 + j * 7 + c, none⟩) hg1 (by show ¬ g = w.heap.size; omega)).trans (h3 j (by rw [curC_zero] at hj; exact hj) c v (by rw [curC_zero] at hv; exact hv)), fun i => (HK3.out.frozen (p := ⟨g, i, none⟩) hg1 (by show ¬ g = w.heap.size; omega)).trans (h4 i)⟩
  clear HK3 HG2 HB2 hg1 hz2 hz1
  go_loopg [30] n (fun kx s30 wr => ∃ j : Nat, s30 = .int .i64 j ∧ j ≤ n ∧ n - j ≤ kx ∧ g < wr.heap.size ∧ Aside (Below w.heap.size w wr) ∧ wr.cell? ⟨w.heap.size, 0, none⟩ = some (.string sc) ∧ wr.cell? ⟨w.heap.size, 1, none⟩ = some (.slice ao1 n cap1) ∧
    Aside (∀ i, i < j → okC cs[i]! = true) ∧ Aside (cs = [] ∨ (ao1 = some ⟨g, 0, none⟩ ∧ w.heap.size < g ∧ RowC wr g 0 (curC cs j) ∧ ∀ i, wr.frozen? ⟨g, i, none⟩ = false)))
  case atStart => exact ⟨0, rfl, Nat.zero_le _, by omega, hz3, HB3.out, d0, d1, (fun i hi => absurd hi (by omega)), HRow3.out⟩
  case round =>
    clear HB3 d0 d1 HRow3 hz3
    obtain ⟨j, rfl, hj, hjx, hgw, HB, c0, c1, HVr, HRow⟩ := hrel
    by_cases hlt : j < n
    · have hjl : j < cs.length := by rw [← HN.out]; exact hlt
      rcases HRow.out with h0 | ⟨rfl, hLg, hrw, hfz⟩
      · rw [h0] at hjl; cases hjl
      have hcl := fun c v hv => hrw j (by rw [curC_len]; exact hjl) c v hv
      rw [curC_at cs j hjl] at hcl
      have HFz := Lib.hid hfz
      have HRw := Lib.hid hrw
      clear hrw hfz HRow
      obtain ⟨a, ha⟩ : ∃ a, a = cs[j]! := ⟨_, rfl⟩
      have HA : Aside (a = cs[j]!) := ha
      rw [← ha] at hcl
      clear ha hjl
      obtain ⟨⟨nm, k, nn, x, s, y⟩, op⟩ := a
      have k0 := hcl 0 _ rfl; have k1 := hcl 1 _ rfl; have k2 := hcl 2 _ rfl; have k3 := hcl 3 _ rfl; have k4 := hcl 4 _ rfl; have k5 := hcl 5 _ rfl; have k6 := hcl 6 _ rfl
      simp only [Nat.add_zero, Nat.zero_add] at k0 k1 k2 k3 k4 k5 k6
      have hjz : (j : Int) < (n : Int) := by omega
      have hj0 : (0 : Int) ≤ (j : Int) := by omega
      have HBa : Aside (Below w.heap.size w (wr.alloc (.cells #[.string nm, .int .i64 op, .int .i64 k, .int .i64 nn, .float .f64 x, .string s, .bool y] 30))) := HB.out.alloc HB.out.size _
      clear hcl
      by_cases q1 : (255 : Int) < (nm.size : Int)
      · go_wp2_with fail
        go_ret
        exact ⟨rfl, HBa.out⟩
      by_cases q2 : (40 : Int) < (s.size : Int)
      · go_wp2_with fail
        go_ret
        exact ⟨rfl, HBa.out⟩
      by_cases q3 : op < 0
      · go_wp2_with fail
        go_ret
        exact ⟨rfl, HBa.out⟩
      by_cases q4 : (255 : Int) < op
      · go_wp2_with fail
        go_ret
        exact ⟨rfl, HBa.out⟩
      by_cases q5 : k < 0
      · go_wp2_with fail
        go_ret
        exact ⟨rfl, HBa.out⟩
      by_cases q6 : (3 : Int) < k
      · go_wp2_with fail
        go_ret
        exact ⟨rfl, HBa.out⟩
      have HOk : Aside (okC ⟨⟨nm, k, nn, x, s, y⟩, op⟩ = true) := by
        show _ = _
        simp only [okC, Bool.and_eq_true, decide_eq_true_eq]; omega
      go_wp2_with fail
      have yy := World.cell?_alloc_new wr #[.string nm, .int .i64 op, .int .i64 k, .int .i64 nn, .float .f64 x, .string s, .bool y] 30
      have y2 := yy 2; have y3 := yy 3; have y4 := yy 4; have y5 := yy 5; have y6 := yy 6
      simp only [List.getElem?_toArray, List.getElem?_cons_zero, List.getElem?_cons_succ] at y2 y3 y4 y5 y6
      have hba : Below wr.heap.size wr (wr.alloc (.cells #[.string nm, .int .i64 op, .int .i64 k, .int .i64 nn, .float .f64 x, .string s, .bool y] 30)) := (Below.refl _ _).alloc (Nat.le_refl _) _
      have hzA : wr.heap.size < (wr.alloc (.cells #[.string nm, .int .i64 op, .int .i64 k, .int .i64 nn, .float .f64 x, .string s, .bool y] 30)).heap.size := by simp
      have hLw : w.heap.size < wr.heap.size := by omega
      have m2 := (hba.cell (p := ⟨g, j * 7 + 2, none⟩) hgw).trans k2
      have m3 := (hba.cell (p := ⟨g, j * 7 + 3, none⟩) hgw).trans k3
      have m4 := (hba.cell (p := ⟨g, j * 7 + 4, none⟩) hgw).trans k4
      have m5 := (hba.cell (p := ⟨g, j * 7 + 5, none⟩) hgw).trans k5
      have m6 := (hba.cell (p := ⟨g, j * 7 + 6, none⟩) hgw).trans k6
      have l0 := (hba.cell (p := ⟨w.heap.size, 0, none⟩) hLw).trans c0
      have l1 := (hba.cell (p := ⟨w.heap.size, 1, none⟩) hLw).trans c1
      have HRwA : Aside (RowC (wr.alloc (.cells #[.string nm, .int .i64 op, .int .i64 k, .int .i64 nn, .float .f64 x, .string s, .bool y] 30)) g 0 (curC cs j)) := RowC.below hba hgw HRw.out
      have hfzA : ∀ i, (wr.alloc (.cells #[.string nm, .int .i64 op, .int .i64 k, .int .i64 nn, .float .f64 x, .string s, .bool y] 30)).frozen? ⟨g, i, none⟩ = false := fun i => (hba.frozen (p := ⟨g, i, none⟩) hgw).trans (HFz.out i)
      have ff2 := hfzA (j * 7 + 2); have ff3 := hfzA (j * 7 + 3); have ff4 := hfzA (j * 7 + 4); have ff5 := hfzA (j * 7 + 5); have ff6 := hfzA (j * 7 + 6)
      have HFzA := Lib.hid hfzA
      clear yy hba hfzA k0 k1 k2 k3 k4 k5 k6 c0 c1 HRw HFz q1 q2 q3 q4 q5 q6
      generalize (wr.alloc (.cells #[.string nm, .int .i64 op, .int .i64 k, .int .i64 nn, .float .f64 x, .string s, .bool y] 30)) = w4 at *
      generalize wr.heap.size = A at *
      have hcn : Calls Try.prog 5 #[.agg #[.int .i64 k, .int .i64 nn, .float .f64 x, .string s, .bool y]] w4.drew fun e w' => e = .returned (val (canonA ⟨nm, k, nn, x, s, y⟩).k (canonA ⟨nm, k, nn, x, s, y⟩).n (canonA ⟨nm, k, nn, x, s, y⟩).x (canonA ⟨nm, k, nn, x, s, y⟩).s (canonA ⟨nm, k, nn, x, s, y⟩).y) ∧ Below w4.heap.size w4 w' :=
        (canonA_c ⟨nm, k, nn, x, s, y⟩ w4.drew).mono fun e w' h => ⟨h.1, h.2.os, h.2.tape, h.2.output, h.2.size, h.2.block⟩
      obtain ⟨cc, hcc⟩ : ∃ cc, cc = canonA ⟨nm, k, nn, x, s, y⟩ := ⟨_, rfl⟩
      have HCC : Aside (cc = canonA ⟨nm, k, nn, x, s, y⟩) := hcc
      rw [← hcc] at hcn
      obtain ⟨nmc, kc, nc, xc, s2, yc⟩ := cc
      simp only [] at hcn
      have HCn := Lib.hid hcn
      clear hcn hcc
      have hg4 : g < w4.heap.size := by omega
      have hL4 : w.heap.size < w4.heap.size := by omega
      go_region_with (go_at_call 5; refine HCn.out.mono ?_; rintro e w7 ⟨rfl, hb⟩
                      have o2 := (hb.cell (p := ⟨g, j * 7 + 2, none⟩) hg4).trans m2
                      have o3 := (hb.cell (p := ⟨g, j * 7 + 3, none⟩) hg4).trans m3
                      have o4 := (hb.cell (p := ⟨g, j * 7 + 4, none⟩) hg4).trans m4
                      have o5 := (hb.cell (p := ⟨g, j * 7 + 5, none⟩) hg4).trans m5
                      have o6 := (hb.cell (p := ⟨g, j * 7 + 6, none⟩) hg4).trans m6
                      have of2 := (hb.frozen (p := ⟨g, j * 7 + 2, none⟩) hg4).trans ff2
                      have of3 := (hb.frozen (p := ⟨g, j * 7 + 3, none⟩) hg4).trans ff3
                      have of4 := (hb.frozen (p := ⟨g, j * 7 + 4, none⟩) hg4).trans ff4
                      have of5 := (hb.frozen (p := ⟨g, j * 7 + 5, none⟩) hg4).trans ff5
                      have of6 := (hb.frozen (p := ⟨g, j * 7 + 6, none⟩) hg4).trans ff6
                      have lo0 := (hb.cell (p := ⟨w.heap.size, 0, none⟩) hL4).trans l0
                      have lo1 := (hb.cell (p := ⟨w.heap.size, 1, none⟩) hL4).trans l1
                      have HB7 := Lib.hid hb)
      all_goals (
        have hset : (((((w7.setCell ⟨g, j * 7 + 2, none⟩ (.int .i64 kc)).setCell ⟨g, j * 7 + 3, none⟩ (.int .i64 nc)).setCell ⟨g, j * 7 + 4, none⟩ (.float .f64 xc)).setCell ⟨g, j * 7 + 5, none⟩ (.string s2)).setCell ⟨g, j * 7 + 6, none⟩ (.bool yc)) = (set5 w7 g (j * 7 + 2) ⟨nmc, kc, nc, xc, s2, yc⟩) := rfl
        rw [hset]
        clear hset
        have hs5 := set5_kb w7 g (j * 7 + 2) ⟨nmc, kc, nc, xc, s2, yc⟩
        have hgL : ¬ w.heap.size = g := by omega
        have hz7 : w4.heap.size ≤ w7.heap.size := HB7.out.size
        have p0 := (hs5.cell (p := ⟨w.heap.size, 0, none⟩) (by show w.heap.size < _; omega) hgL).trans lo0
        have p1 := (hs5.cell (p := ⟨w.heap.size, 1, none⟩) (by show w.heap.size < _; omega) hgL).trans lo1
        have hjl : j < cs.length := by rw [← HN.out]; exact hlt
        have HR8 : Aside (RowC (set5 w7 g (j * 7 + 2) ⟨nmc, kc, nc, xc, s2, yc⟩) g 0 (curC cs (j + 1))) := row_set w7 g j cs hjl ⟨⟨nmc, kc, nc, xc, s2, yc⟩, op⟩ (RowC.below HB7.out hg4 HRwA.out) (by rw [← HA.out, HCC.out]; rfl)
        have HF8 : Aside (∀ i, (set5 w7 g (j * 7 + 2) ⟨nmc, kc, nc, xc, s2, yc⟩).frozen? ⟨g, i, none⟩ = false) := fun i => (set5_frozen _ _ _ _ _).trans ((HB7.out.frozen (p := ⟨g, i, none⟩) hg4).trans (HFzA.out i))
        have hg8 : g < (set5 w7 g (j * 7 + 2) ⟨nmc, kc, nc, xc, s2, yc⟩).heap.size := Nat.lt_of_lt_of_le (by omega) hs5.size
        have HB8 : Aside (Below w.heap.size w (set5 w7 g (j * 7 + 2) ⟨nmc, kc, nc, xc, s2, yc⟩)) := HBa.out.trans ((HB7.out.mono (by omega)).trans (hs5.below (by omega) (fun k hk e => by omega)))
        have HV8 : Aside (∀ i, i < j + 1 → okC cs[i]! = true) := fun i hi => by
          by_cases hij : i = j
          · subst hij; rw [← HA.out]; exact HOk.out
          · exact HVr.out i (by omega)
        clear hs5 lo0 lo1 o2 o3 o4 o5 o6 of2 of3 of4 of5 of6 HB7 m2 m3 m4 m5 m6 ff2 ff3 ff4 ff5 ff6 l0 l1 y2 y3 y4 y5 y6 HRwA HFzA HCn hjl HVr HBa HB HOk HCC HA
        generalize (set5 w7 g (j * 7 + 2) ⟨nmc, kc, nc, xc, s2, yc⟩) = w8 at *
        go_wp2_with fail
        go_roundg (n - (j + 1))
        case measure => omega
        case rel => exact ⟨j + 1, by go_num, hlt, Nat.le_refl _, hg8, HB8.out, p0, p1, HV8.out, Or.inr ⟨by trivial, hLg, HR8.out, HF8.out⟩⟩)
    · obtain rfl : j = n := by omega
      clear hjx hlt hj
      -- what has been kept
      obtain ⟨ds, hds⟩ : ∃ ds, ds = cs.map canC := ⟨_, rfl⟩
      have hdl : ds.length = j := by rw [hds, List.length_map, HN.out]
      have HGd : Aside (∀ c ∈ ds, GoodC c) := fun c hc => by
        rw [hds] at hc
        obtain ⟨z, hz, rfl⟩ := List.mem_map.1 hc
        obtain ⟨i, hi, rfl⟩ := List.getElem_of_mem hz
        have h1 := HVr.out i (by rw [HN.out]; exact hi)
        rw [getElem!_pos cs i hi] at h1
        exact good_canC _ h1 (HO.out _ hz)
      have HRd : Aside (CondsB wr.heap.size wr ao1 ds) := by
        rcases HRow.out with h | ⟨h1, h2, h3, _⟩
        · exact Or.inl (by rw [hds, h]; rfl)
        · rw [HN.out, curC_end, ← hds] at h3
          exact Or.inr ⟨g, 0, h1, hgw, h3⟩
      have hLw : w.heap.size < wr.heap.size := by omega
      clear hds HVr HRow HO
      -- the Writer
      have hWn := Wr.new wr
      have hbP : Below wr.heap.size wr (wr.alloc (.cells #[.slice none 0 0] 34)) := (Below.refl _ _).alloc (Nat.le_refl _) _
      have hwf := wfilter_c wr.heap.size (wr.heap.size + 1) sc ao1 cap1 ds (wr.alloc (.cells #[.slice none 0 0] 34)) hWn (HRd.out.below hbP (Nat.le_refl _)) (fun c hc => tell_good c (HGd.out c hc)) HSC.out (by omega)
      rw [hdl] at hwf
      have p0 := (hbP.cell (p := ⟨w.heap.size, 0, none⟩) hLw).trans c0
      have p1 := (hbP.cell (p := ⟨w.heap.size, 1, none⟩) hLw).trans c1
      have HBP := Lib.hid hbP
      have HWF := Lib.hid hwf
      have HWn := Lib.hid hWn
      have hlen : (encF sc ds).length < 600000 := by
        have h1 := encCns_len ds (fun c hc => tell_good c (HGd.out c hc))
        have h2 := HSC.out
        simp only [encF, List.length_append, encT_len, List.length_cons]; omega
      obtain ⟨bs, hbs⟩ : ∃ bs, bs = encF sc ds := ⟨_, rfl⟩
      have HBS : Aside (bs = encF sc ds) := hbs
      rw [← hbs] at HWF hlen
      have HLen : Aside (bs.length < 600000) := hlen
      clear hbP hwf hWn hlen hbs c0 c1
      go_wp2_with fail
      refine HWF.out.mono ?_
      rintro e w2 ⟨rfl, hA2⟩
      have HW2 : Aside (Wr w2 wr.heap.size (wr.heap.size + 1) bs) := hA2.out.1
      have hb2 : Below wr.heap.size (wr.alloc (.cells #[.slice none 0 0] 34)) w2 := hA2.out.2.under HWn.out (Nat.le_refl _)
      have HB2 : Aside (Below wr.heap.size wr w2) := HBP.out.trans hb2
      have c0 := (hb2.cell (p := ⟨w.heap.size, 0, none⟩) hLw).trans p0
      have c1 := (hb2.cell (p := ⟨w.heap.size, 1, none⟩) hLw).trans p1
      have hPw2 : wr.heap.size < w2.heap.size := HW2.out.pw
      clear hA2 hb2 HWF HWn HBP p0 p1
      go_wp2_with fail
      -- the box of what is read
      have g0 := World.cell?_alloc_new w2 #[.string ⟨#[]⟩, .slice none 0 0] 24 0
      have g1 := World.cell?_alloc_new w2 #[.string ⟨#[]⟩, .slice none 0 0] 24 1
      have gf := fun i => alloc_frozen w2 #[.string ⟨#[]⟩, .slice none 0 0] 24 i
      have gn : NI (w2.alloc (.cells #[.string ⟨#[]⟩, .slice none 0 0] 24)) w2.heap.size := fun i c e => by
        rw [World.cell?_alloc_new w2 #[.string ⟨#[]⟩, .slice none 0 0] 24 i] at e
        rcases i with _ | _ | i
        · cases e
        · cases e
        · simp at e
      have b7 : Below w2.heap.size w2 (w2.alloc (.cells #[.string ⟨#[]⟩, .slice none 0 0] 24)) := (Below.refl _ _).alloc (Nat.le_refl _) _
      have z7 : (w2.alloc (.cells #[.string ⟨#[]⟩, .slice none 0 0] 24)).heap.size = w2.heap.size + 1 := by simp
      simp only [List.getElem?_toArray, List.getElem?_cons_zero, List.getElem?_cons_succ] at g0 g1
      generalize (w2.alloc (.cells #[.string ⟨#[]⟩, .slice none 0 0] 24)) = w7 at *
      obtain ⟨G, hG⟩ : ∃ G, G = w2.heap.size := ⟨_, rfl⟩
      have HO7 : Aside (∀ W, Below w2.heap.size w2 W → Wr W wr.heap.size (wr.heap.size + 1) bs ∧ W.cell? ⟨w.heap.size, 0, none⟩ = some (.string sc) ∧ W.cell? ⟨w.heap.size, 1, none⟩ = some (.slice ao1 j cap1) ∧ CondsB wr.heap.size W ao1 ds ∧ Below w.heap.size w W) := fun W hW =>
        ⟨HW2.out.kb (Kb.of_below (S := fun k => w2.heap.size ≤ k) hW (fun _ _ h => h)) (fun k h _ h2 => by omega),
         (hW.cell (p := ⟨w.heap.size, 0, none⟩) (by show w.heap.size < _; omega)).trans c0, (hW.cell (p := ⟨w.heap.size, 1, none⟩) (by show w.heap.size < _; omega)).trans c1,
         (HRd.out.below HB2.out (Nat.le_refl _)).below hW (Nat.le_of_lt hPw2), HB.out.trans ((HB2.out.mono (Nat.le_of_lt hLw)).trans (hW.mono (by omega)))⟩
      rw [← hG] at HO7 b7 z7 g0 g1 gf gn ⊢
      have HGf := Lib.hid gf
      have HNG := Lib.hid gn
      have HB7 := Lib.hid b7
      obtain ⟨P, hP⟩ : ∃ P, P = wr.heap.size := ⟨_, rfl⟩
      have hPG : P < G := by rw [hP, hG]; exact hPw2
      have hLP : w.heap.size < P := by rw [hP]; exact hLw
      rw [← hP] at HO7 ⊢
      clear gf gn b7 c0 c1 HW2 HB2 HRd HB hgw hLw hPw2 hG hP
      have hby := wbytes_c P (P + 1) bs w7 (HO7.out w7 HB7.out).1 (by have := HLen.out; omega)
      obtain ⟨T, hT⟩ : ∃ T, T = bs.length := ⟨_, rfl⟩
      have HT : Aside (T = bs.length) := hT
      rw [← hT] at hby
      refine hby.mono ?_
      rintro e w8 ⟨ao8, cap8, rfl, hA8⟩
      have hown8 := hA8.out.1
      rw [HT.out] at hown8
      obtain ⟨q1, q2, _⟩ := own1_bytes hown8
      have HY8 : Aside (BytesB w8 w8.heap.size ao8 bs ∧ bs.length ≤ cap8) := ⟨q1, q2⟩
      have hb78 := hA8.out.2
      have HB78 : Aside (Below w7.heap.size w7 w8) := hb78
      have HB8 : Aside (Below G w2 w8) := HB7.out.trans (hb78.mono (by omega))
      have hz8 : G < w8.heap.size := by have := hb78.size; omega
      clear hby hA8 hown8 q1 q2 hb78 hT
      go_wp2_with fail
      have hrd := read_c 9 HF1.out ao8 cap8 bs #[.pointer (some ⟨G, 0, none⟩)] w8 (fun k => k = G)
        (fun l' W => l' = [] ∧ ∃ ao cap, W.cell? ⟨G, 0, none⟩ = some (.string sc) ∧ W.cell? ⟨G, 1, none⟩ = some (.slice ao ds.length cap) ∧ CondsN (w8.heap.size + 1) W ao ds) (fun _ => False) HY8.out.2 HY8.out.1
        (fun W R hW hR hRd => by
          have hW7 : Below w7.heap.size w7 W := HB78.out.trans (hW.mono HB78.out.size)
          have k0 := (hW7.cell (p := ⟨G, 0, none⟩) (by show G < _; omega)).trans g0
          have k1 := (hW7.cell (p := ⟨G, 1, none⟩) (by show G < _; omega)).trans g1
          have k2 := fun i => (hW7.frozen (p := ⟨G, i, none⟩) (by show G < _; omega)).trans (HGf.out i)
          have k4 : NI W G := HNG.out.kb (Kb.of_below (S := fun k => w7.heap.size ≤ k) hW7 (fun _ _ h => h)) (by omega) (by omega)
          rw [HBS.out] at hRd
          refine (filters1_c G R sc ds _ _ W hRd HGd.out HSC.out (by omega) (by omega) k0 k1 (k2 0) (k2 1) k4).mono ?_
          rintro e w' ⟨h1, h2, h3, ao, cap, h4, h5, h6⟩
          refine ⟨h1, Or.inl ⟨[], h2, h3, rfl, ao, cap, h4, h5, ?_⟩⟩
          rcases h6 with h | ⟨b, e1, e2, e3⟩
          · exact Or.inl h
          · exact Or.inr ⟨b, e1, by omega, e3⟩)
        (fun k hk => by omega)
        (fun l' W W' hx hk => by
          obtain ⟨hl, ao, cap, h4, h5, h6⟩ := hx
          refine ⟨hl, ao, cap, (hk.cell (p := ⟨G, 0, none⟩) (World.block_lt_of_cell? W _ h4) (by show ¬ G = w8.heap.size; omega)).trans h4, (hk.cell (p := ⟨G, 1, none⟩) (World.block_lt_of_cell? W _ h5) (by show ¬ G = w8.heap.size; omega)).trans h5, ?_⟩
          rcases h6 with h | ⟨b, e1, e2, e3, e4⟩
          · exact Or.inl h
          · exact Or.inr ⟨b, e1, e2, Nat.lt_of_lt_of_le e3 hk.size, fun i hi c v hv => (hk.cell (p := ⟨b, 0 + i * 7 + c, none⟩) e3 (by show ¬ b = w8.heap.size; omega)).trans (e4 i hi c v hv)⟩)
        (fun _ _ hy _ => hy)
      rw [← HT.out] at hrd
      refine hrd.mono ?_
      rintro e w9 ⟨hk9, hw9⟩
      obtain ⟨rfl, aoR, capR, r0, r1, r2⟩ : e = .returned (.bool true) ∧ ∃ ao cap, w9.cell? ⟨G, 0, none⟩ = some (.string sc) ∧ w9.cell? ⟨G, 1, none⟩ = some (.slice ao ds.length cap) ∧ CondsN (w8.heap.size + 1) w9 ao ds := by
        rcases hw9 with ⟨l', he, rfl, h⟩ | ⟨_, h⟩
        · exact ⟨he, h⟩
        · exact h.elim
      rw [hdl] at r1
      have HB9 : Aside (Below G w2 w9) := HB8.out.trans (hk9.below (by omega) (fun k hk e => by omega))
      obtain ⟨_, c0, c1, hcd, _⟩ := HO7.out w9 HB9.out
      have HRf : Aside (CondsB w9.heap.size w9 ao1 ds) := by
        rcases hcd with h | ⟨b, off, e1, e2, e3⟩
        · exact Or.inl h
        · exact Or.inr ⟨b, off, e1, by have := HB9.out.size; have := World.block_lt_of_cell? w9 _ r0; simp only at this; omega, e3⟩
      have HRr : Aside (CondsB w9.heap.size w9 aoR ds) := by
        rcases r2 with h | ⟨b, e1, e2, e3, e4⟩
        · exact Or.inl h
        · exact Or.inr ⟨b, 0, e1, e3, e4⟩
      have hG9 : G < w9.heap.size := World.block_lt_of_cell? w9 _ r0
      have hL9 : w.heap.size < w9.heap.size := by omega
      have HBw : Aside (Below w.heap.size w w9) := (HO7.out w9 HB9.out).2.2.2.2
      have hss : (sc.toList == sc.toList) = true := by simp
      clear hrd hk9 hw9 HF1 HY8 HB78 HB8 g0 g1 HGf HNG HB7 HO7 HB9 HBS HLen HT hcd r2 z7 hz8
      go_wp2_with fail
      clear c0 hss r0
      go_loopg [103] j (fun kx s103 wr2 => ∃ i : Nat, s103 = .int .i64 i ∧ i ≤ j ∧ j - i ≤ kx ∧ Aside (Below w9.heap.size w9 wr2))
      case atStart => exact ⟨0, rfl, Nat.zero_le _, by omega, Below.refl _ _⟩
      case round =>
        obtain ⟨i, rfl, hi, hix, HBr⟩ := hrel
        by_cases hlt : i < j
        · have hil : i < ds.length := by omega
          have hsz := HBr.out.size
          have d1 := (HBr.out.cell (p := ⟨G, 1, none⟩) hG9).trans r1
          rcases HRf.out with h0 | ⟨bf, of, rfl, hbf, hrf⟩
          · rw [h0] at hil; cases hil
          rcases HRr.out with h0 | ⟨br, or', rfl, hbr, hrr⟩
          · rw [h0] at hil; cases hil
          have hcf := RowC.below HBr.out hbf hrf i hil
          have hcr := RowC.below HBr.out hbr hrr i hil
          have hgc := (HGd.out _ (memC ds i hil)).can.x
          clear hrf hrr
          generalize ds[i]! = a at *
          obtain ⟨⟨nm, k, nn, x, s, y⟩, op⟩ := a
          simp only [] at hgc
          have k0 := hcf 0 _ rfl; have k1 := hcf 1 _ rfl; have k2 := hcf 2 _ rfl; have k3 := hcf 3 _ rfl; have k4 := hcf 4 _ rfl; have k5 := hcf 5 _ rfl; have k6 := hcf 6 _ rfl
          have m0 := hcr 0 _ rfl; have m1 := hcr 1 _ rfl; have m2 := hcr 2 _ rfl; have m3 := hcr 3 _ rfl; have m4 := hcr 4 _ rfl; have m5 := hcr 5 _ rfl; have m6 := hcr 6 _ rfl
          simp only [Nat.add_zero] at k0 m0
          have hiz : (i : Int) < (j : Int) := by omega
          have hi0 : (0 : Int) ≤ (i : Int) := by omega
          have hsr := sameV_refl k nn x s y
          have HSm : Aside (∀ W, Calls Try.prog 11 #[.agg #[.int .i64 k, .int .i64 nn, .float .f64 x, .string s, .bool y], .agg #[.int .i64 k, .int .i64 nn, .float .f64 x, .string s, .bool y]] W fun e w' => e = .returned (.bool true) ∧ Below W.heap.size W w') := fun W => by
            have := vsame_c k k nn nn x x s s y y W hgc hgc
            rw [hsr] at this
            exact this
          have hnn : (nm.toList == nm.toList) = true := by simp
          clear hsr hcf hcr
          have hbr2 : br < wr.heap.size := by omega
          have hG2 : G < wr.heap.size := by omega
          have hba : Below wr.heap.size wr (wr.alloc (.cells #[.string nm, .int .i64 op, .int .i64 k, .int .i64 nn, .float .f64 x, .string s, .bool y] 30)) := (Below.refl _ _).alloc (Nat.le_refl _) _
          have n0 := (hba.cell (p := ⟨br, _, none⟩) hbr2).trans m0
          have n1 := (hba.cell (p := ⟨br, _, none⟩) hbr2).trans m1
          have n2 := (hba.cell (p := ⟨br, _, none⟩) hbr2).trans m2
          have n3 := (hba.cell (p := ⟨br, _, none⟩) hbr2).trans m3
          have n4 := (hba.cell (p := ⟨br, _, none⟩) hbr2).trans m4
          have n5 := (hba.cell (p := ⟨br, _, none⟩) hbr2).trans m5
          have n6 := (hba.cell (p := ⟨br, _, none⟩) hbr2).trans m6
          have e1 := (hba.cell (p := ⟨G, 1, none⟩) hG2).trans d1
          have HBq : Aside (Below w9.heap.size w9 ((wr.alloc (.cells #[.string nm, .int .i64 op, .int .i64 k, .int .i64 nn, .float .f64 x, .string s, .bool y] 30)).alloc (.cells #[.string nm, .int .i64 op, .int .i64 k, .int .i64 nn, .float .f64 x, .string s, .bool y] 30))) := (HBr.out.alloc hsz _).alloc (by simp; omega) _
          clear hba m0 m1 m2 m3 m4 m5 m6 d1
          go_wp2_with fail
          refine (HSm.out _).mono ?_
          rintro e w6 ⟨rfl, hb6⟩
          have HB6 : Aside (Below w9.heap.size w9 w6) := HBq.out.trans (hb6.mono HBq.out.size)
          clear hb6 HBq n0 n1 n2 n3 n4 n5 n6 e1 k0 k1 k2 k3 k4 k5 k6
          go_wp2_with fail
          go_roundg (j - (i + 1))
          case measure => omega
          case rel => exact ⟨i + 1, by go_num, hlt, Nat.le_refl _, HB6.out⟩
        · obtain rfl : i = j := by omega
          clear hi hix hlt
          go_wp2_with fail
          go_ret
          exact ⟨rfl, HBw.out.trans (HBr.out.mono (Nat.le_of_lt hL9))⟩
end Go.Proofs.Ytecfbbddhnkilaa
