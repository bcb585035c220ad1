/- codec.Writer: Long. -/
import Derived.Test.YtecfbbddhnkilaaWr2
import Derived.Deep.RegionWith
namespace Go.Proofs.Ytecfbbddhnkilaa
open Go.RowKit Go.Shelf Go.Sort
open Go.Proofs
set_option maxRecDepth 100000
attribute [local go_sem ↓] append_pre

def encL (x : Nat) : List UInt8 := [UInt8.ofNat (x / 2 ^ 56), UInt8.ofNat (x / 2 ^ 48), UInt8.ofNat (x / 2 ^ 40), UInt8.ofNat (x / 2 ^ 32), UInt8.ofNat (x / 2 ^ 24), UInt8.ofNat (x / 2 ^ 16), UInt8.ofNat (x / 2 ^ 8), UInt8.ofNat x]

set_option maxHeartbeats 4000000 in
theorem wlong_c (P B : Nat) (x : Nat) (l : List UInt8) (w : World) (h : Wr w P B l) (hx : x < 2 ^ 64) (hl : l.length < 900000) :
    Calls Try.prog 36 #[.pointer (some ⟨P, 0, none⟩), .int .u64 x] w fun e w' => e = .returned (.pointer (some ⟨P, 0, none⟩)) ∧ Aside (Wr w' P B (l ++ encL x) ∧ Wk P w w') := by
  have H := Lib.hid h
  have HL : Aside (l.length < 900000) := hl
  have HPw : Aside (P < w.heap.size) := Nat.lt_of_lt_of_le h.pb h.bw
  clear h hl
  go_enter Try.func36, Try.ntmps36
  go_wp2_with fail
  go_loopg [6] 8 (fun kx s6 wr => ∃ j : Nat, s6 = .int .i64 j ∧ j ≤ 8 ∧ 8 - j ≤ kx ∧ Aside (Wr wr P B (l ++ (encL x).take j)) ∧ Aside (Wk P w wr))
  case atStart => exact ⟨0, rfl, by omega, by omega, by show Wr w P B _; simpa using H.out, Wk.below (Below.refl _ _) HPw.out⟩
  case round =>
    obtain ⟨j, rfl, hj, hjx, HW, HK⟩ := hrel
    by_cases hlt : j < 8
    · obtain ⟨ao, cap, hc, _⟩ := HW.out.is
      have hf := HW.out.fr
      obtain ⟨n, hn⟩ : ∃ n, n = (l ++ (encL x).take j).length := ⟨_, rfl⟩
      rw [← hn] at hc
      have HN : Aside _ := hn
      clear hn
      have HX := Lib.hid hx
      have HF := Lib.hid hf
      clear hx hf
      rcases (show j = 0 ∨ j = 1 ∨ j = 2 ∨ j = 3 ∨ j = 4 ∨ j = 5 ∨ j = 6 ∨ j = 7 by omega) with rfl | rfl | rfl | rfl | rfl | rfl | rfl | rfl
      · obtain ⟨q, hq⟩ : ∃ q, q = x / 2 ^ 56 := ⟨_, rfl⟩
        have hsh : Op.shift .shr .u64 (x : Int) .i64 (IntKind.i64.wrap (8 * IntKind.i64.wrap 7)) = pure (.int .u64 (q : Int)) := by
          rw [show IntKind.i64.wrap (8 * IntKind.i64.wrap 7) = 56 by decide, shift_shr .u64 .i64 (x : Int) 56 (by decide) (by decide), hq]; rfl
        have hcv : IntKind.u8.wrap (q : Int) = ((UInt8.ofNat q).toNat : Int) := by
          rw [IntKind.wrap_u8]; simp [UInt8.toNat_ofNat']
        have HQ : Aside ((encL x).take 1 = (encL x).take 0 ++ [UInt8.ofNat q]) := by rw [hq]; rfl
        obtain ⟨ao', cap', w3, hrun, ⟨u, hu⟩, hf3, HZ⟩ := wr_append HW.out (HN.out ▸ hc) ((Kb.alloc (fun _ => False) wr (.cells #[.int .u8 ((UInt8.ofNat q).toNat : Int)] 5)).trans (Kb.drew _ _)) (by have := HL.out; simp [encL]; omega) ⟨wr.heap.size, 0, none⟩ 1 [UInt8.ofNat q] (by simp) (fun j u h => one_news wr (UInt8.ofNat q) 5 j u h)
        rw [← HN.out] at hrun HZ
        simp only [List.length_cons, List.length_nil, Nat.zero_add] at hrun HZ
        have cP := (World.cell?_alloc_lt wr (.cells #[.int .u8 ((UInt8.ofNat q).toNat : Int)] 5) ⟨P, 0, none⟩ (Nat.lt_of_lt_of_le HW.out.pb HW.out.bw)).trans hc
        generalize (UInt8.ofNat q) = c at *
        generalize (c.toNat : Int) = cv at *
        simp only [Int.cast_ofNat_Int]
        clear hq
        go_wp2_with fail
        go_region_with (fail)
        all_goals
          go_wp2_with fail
          go_roundg 7
          case measure => omega
          case rel => exact ⟨1, by go_num, by omega, by omega, by rw [HQ.out, ← List.append_assoc]; exact HZ.out.1, HK.out.trans HZ.out.2⟩
      · obtain ⟨q, hq⟩ : ∃ q, q = x / 2 ^ 48 := ⟨_, rfl⟩
        have hsh : Op.shift .shr .u64 (x : Int) .i64 (IntKind.i64.wrap (8 * IntKind.i64.wrap 6)) = pure (.int .u64 (q : Int)) := by
          rw [show IntKind.i64.wrap (8 * IntKind.i64.wrap 6) = 48 by decide, shift_shr .u64 .i64 (x : Int) 48 (by decide) (by decide), hq]; rfl
        have hcv : IntKind.u8.wrap (q : Int) = ((UInt8.ofNat q).toNat : Int) := by
          rw [IntKind.wrap_u8]; simp [UInt8.toNat_ofNat']
        have HQ : Aside ((encL x).take 2 = (encL x).take 1 ++ [UInt8.ofNat q]) := by rw [hq]; rfl
        obtain ⟨ao', cap', w3, hrun, ⟨u, hu⟩, hf3, HZ⟩ := wr_append HW.out (HN.out ▸ hc) ((Kb.alloc (fun _ => False) wr (.cells #[.int .u8 ((UInt8.ofNat q).toNat : Int)] 5)).trans (Kb.drew _ _)) (by have := HL.out; simp [encL]; omega) ⟨wr.heap.size, 0, none⟩ 1 [UInt8.ofNat q] (by simp) (fun j u h => one_news wr (UInt8.ofNat q) 5 j u h)
        rw [← HN.out] at hrun HZ
        simp only [List.length_cons, List.length_nil, Nat.zero_add] at hrun HZ
        have cP := (World.cell?_alloc_lt wr (.cells #[.int .u8 ((UInt8.ofNat q).toNat : Int)] 5) ⟨P, 0, none⟩ (Nat.lt_of_lt_of_le HW.out.pb HW.out.bw)).trans hc
        generalize (UInt8.ofNat q) = c at *
        generalize (c.toNat : Int) = cv at *
        simp only [Int.cast_ofNat_Int]
        clear hq
        go_wp2_with fail
        go_region_with (fail)
        all_goals
          go_wp2_with fail
          go_roundg 6
          case measure => omega
          case rel => exact ⟨2, by go_num, by omega, by omega, by rw [HQ.out, ← List.append_assoc]; exact HZ.out.1, HK.out.trans HZ.out.2⟩
      · obtain ⟨q, hq⟩ : ∃ q, q = x / 2 ^ 40 := ⟨_, rfl⟩
        have hsh : Op.shift .shr .u64 (x : Int) .i64 (IntKind.i64.wrap (8 * IntKind.i64.wrap 5)) = pure (.int .u64 (q : Int)) := by
          rw [show IntKind.i64.wrap (8 * IntKind.i64.wrap 5) = 40 by decide, shift_shr .u64 .i64 (x : Int) 40 (by decide) (by decide), hq]; rfl
        have hcv : IntKind.u8.wrap (q : Int) = ((UInt8.ofNat q).toNat : Int) := by
          rw [IntKind.wrap_u8]; simp [UInt8.toNat_ofNat']
        have HQ : Aside ((encL x).take 3 = (encL x).take 2 ++ [UInt8.ofNat q]) := by rw [hq]; rfl
        obtain ⟨ao', cap', w3, hrun, ⟨u, hu⟩, hf3, HZ⟩ := wr_append HW.out (HN.out ▸ hc) ((Kb.alloc (fun _ => False) wr (.cells #[.int .u8 ((UInt8.ofNat q).toNat : Int)] 5)).trans (Kb.drew _ _)) (by have := HL.out; simp [encL]; omega) ⟨wr.heap.size, 0, none⟩ 1 [UInt8.ofNat q] (by simp) (fun j u h => one_news wr (UInt8.ofNat q) 5 j u h)
        rw [← HN.out] at hrun HZ
        simp only [List.length_cons, List.length_nil, Nat.zero_add] at hrun HZ
        have cP := (World.cell?_alloc_lt wr (.cells #[.int .u8 ((UInt8.ofNat q).toNat : Int)] 5) ⟨P, 0, none⟩ (Nat.lt_of_lt_of_le HW.out.pb HW.out.bw)).trans hc
        generalize (UInt8.ofNat q) = c at *
        generalize (c.toNat : Int) = cv at *
        simp only [Int.cast_ofNat_Int]
        clear hq
        go_wp2_with fail
        go_region_with (fail)
        all_goals
          go_wp2_with fail
          go_roundg 5
          case measure => omega
          case rel => exact ⟨3, by go_num, by omega, by omega, by rw [HQ.out, ← List.append_assoc]; exact HZ.out.1, HK.out.trans HZ.out.2⟩
      · obtain ⟨q, hq⟩ : ∃ q, q = x / 2 ^ 32 := ⟨_, rfl⟩
        have hsh : Op.shift .shr .u64 (x : Int) .i64 (IntKind.i64.wrap (8 * IntKind.i64.wrap 4)) = pure (.int .u64 (q : Int)) := by
          rw [show IntKind.i64.wrap (8 * IntKind.i64.wrap 4) = 32 by decide, shift_shr .u64 .i64 (x : Int) 32 (by decide) (by decide), hq]; rfl
        have hcv : IntKind.u8.wrap (q : Int) = ((UInt8.ofNat q).toNat : Int) := by
          rw [IntKind.wrap_u8]; simp [UInt8.toNat_ofNat']
        have HQ : Aside ((encL x).take 4 = (encL x).take 3 ++ [UInt8.ofNat q]) := by rw [hq]; rfl
        obtain ⟨ao', cap', w3, hrun, ⟨u, hu⟩, hf3, HZ⟩ := wr_append HW.out (HN.out ▸ hc) ((Kb.alloc (fun _ => False) wr (.cells #[.int .u8 ((UInt8.ofNat q).toNat : Int)] 5)).trans (Kb.drew _ _)) (by have := HL.out; simp [encL]; omega) ⟨wr.heap.size, 0, none⟩ 1 [UInt8.ofNat q] (by simp) (fun j u h => one_news wr (UInt8.ofNat q) 5 j u h)
        rw [← HN.out] at hrun HZ
        simp only [List.length_cons, List.length_nil, Nat.zero_add] at hrun HZ
        have cP := (World.cell?_alloc_lt wr (.cells #[.int .u8 ((UInt8.ofNat q).toNat : Int)] 5) ⟨P, 0, none⟩ (Nat.lt_of_lt_of_le HW.out.pb HW.out.bw)).trans hc
        generalize (UInt8.ofNat q) = c at *
        generalize (c.toNat : Int) = cv at *
        simp only [Int.cast_ofNat_Int]
        clear hq
        go_wp2_with fail
        go_region_with (fail)
        all_goals
          go_wp2_with fail
          go_roundg 4
          case measure => omega
          case rel => exact ⟨4, by go_num, by omega, by omega, by rw [HQ.out, ← List.append_assoc]; exact HZ.out.1, HK.out.trans HZ.out.2⟩
      · obtain ⟨q, hq⟩ : ∃ q, q = x / 2 ^ 24 := ⟨_, rfl⟩
        have hsh : Op.shift .shr .u64 (x : Int) .i64 (IntKind.i64.wrap (8 * IntKind.i64.wrap 3)) = pure (.int .u64 (q : Int)) := by
          rw [show IntKind.i64.wrap (8 * IntKind.i64.wrap 3) = 24 by decide, shift_shr .u64 .i64 (x : Int) 24 (by decide) (by decide), hq]; rfl
        have hcv : IntKind.u8.wrap (q : Int) = ((UInt8.ofNat q).toNat : Int) := by
          rw [IntKind.wrap_u8]; simp [UInt8.toNat_ofNat']
        have HQ : Aside ((encL x).take 5 = (encL x).take 4 ++ [UInt8.ofNat q]) := by rw [hq]; rfl
        obtain ⟨ao', cap', w3, hrun, ⟨u, hu⟩, hf3, HZ⟩ := wr_append HW.out (HN.out ▸ hc) ((Kb.alloc (fun _ => False) wr (.cells #[.int .u8 ((UInt8.ofNat q).toNat : Int)] 5)).trans (Kb.drew _ _)) (by have := HL.out; simp [encL]; omega) ⟨wr.heap.size, 0, none⟩ 1 [UInt8.ofNat q] (by simp) (fun j u h => one_news wr (UInt8.ofNat q) 5 j u h)
        rw [← HN.out] at hrun HZ
        simp only [List.length_cons, List.length_nil, Nat.zero_add] at hrun HZ
        have cP := (World.cell?_alloc_lt wr (.cells #[.int .u8 ((UInt8.ofNat q).toNat : Int)] 5) ⟨P, 0, none⟩ (Nat.lt_of_lt_of_le HW.out.pb HW.out.bw)).trans hc
        generalize (UInt8.ofNat q) = c at *
        generalize (c.toNat : Int) = cv at *
        simp only [Int.cast_ofNat_Int]
        clear hq
        go_wp2_with fail
        go_region_with (fail)
        all_goals
          go_wp2_with fail
          go_roundg 3
          case measure => omega
          case rel => exact ⟨5, by go_num, by omega, by omega, by rw [HQ.out, ← List.append_assoc]; exact HZ.out.1, HK.out.trans HZ.out.2⟩
      · obtain ⟨q, hq⟩ : ∃ q, q = x / 2 ^ 16 := ⟨_, rfl⟩
        have hsh : Op.shift .shr .u64 (x : Int) .i64 (IntKind.i64.wrap (8 * IntKind.i64.wrap 2)) = pure (.int .u64 (q : Int)) := by
          rw [show IntKind.i64.wrap (8 * IntKind.i64.wrap 2) = 16 by decide, shift_shr .u64 .i64 (x : Int) 16 (by decide) (by decide), hq]; rfl
        have hcv : IntKind.u8.wrap (q : Int) = ((UInt8.ofNat q).toNat : Int) := by
          rw [IntKind.wrap_u8]; simp [UInt8.toNat_ofNat']
        have HQ : Aside ((encL x).take 6 = (encL x).take 5 ++ [UInt8.ofNat q]) := by rw [hq]; rfl
        obtain ⟨ao', cap', w3, hrun, ⟨u, hu⟩, hf3, HZ⟩ := wr_append HW.out (HN.out ▸ hc) ((Kb.alloc (fun _ => False) wr (.cells #[.int .u8 ((UInt8.ofNat q).toNat : Int)] 5)).trans (Kb.drew _ _)) (by have := HL.out; simp [encL]; omega) ⟨wr.heap.size, 0, none⟩ 1 [UInt8.ofNat q] (by simp) (fun j u h => one_news wr (UInt8.ofNat q) 5 j u h)
        rw [← HN.out] at hrun HZ
        simp only [List.length_cons, List.length_nil, Nat.zero_add] at hrun HZ
        have cP := (World.cell?_alloc_lt wr (.cells #[.int .u8 ((UInt8.ofNat q).toNat : Int)] 5) ⟨P, 0, none⟩ (Nat.lt_of_lt_of_le HW.out.pb HW.out.bw)).trans hc
        generalize (UInt8.ofNat q) = c at *
        generalize (c.toNat : Int) = cv at *
        simp only [Int.cast_ofNat_Int]
        clear hq
        go_wp2_with fail
        go_region_with (fail)
        all_goals
          go_wp2_with fail
          go_roundg 2
          case measure => omega
          case rel => exact ⟨6, by go_num, by omega, by omega, by rw [HQ.out, ← List.append_assoc]; exact HZ.out.1, HK.out.trans HZ.out.2⟩
      · obtain ⟨q, hq⟩ : ∃ q, q = x / 2 ^ 8 := ⟨_, rfl⟩
        have hsh : Op.shift .shr .u64 (x : Int) .i64 (IntKind.i64.wrap (8 * IntKind.i64.wrap 1)) = pure (.int .u64 (q : Int)) := by
          rw [show IntKind.i64.wrap (8 * IntKind.i64.wrap 1) = 8 by decide, shift_shr .u64 .i64 (x : Int) 8 (by decide) (by decide), hq]; rfl
        have hcv : IntKind.u8.wrap (q : Int) = ((UInt8.ofNat q).toNat : Int) := by
          rw [IntKind.wrap_u8]; simp [UInt8.toNat_ofNat']
        have HQ : Aside ((encL x).take 7 = (encL x).take 6 ++ [UInt8.ofNat q]) := by rw [hq]; rfl
        obtain ⟨ao', cap', w3, hrun, ⟨u, hu⟩, hf3, HZ⟩ := wr_append HW.out (HN.out ▸ hc) ((Kb.alloc (fun _ => False) wr (.cells #[.int .u8 ((UInt8.ofNat q).toNat : Int)] 5)).trans (Kb.drew _ _)) (by have := HL.out; simp [encL]; omega) ⟨wr.heap.size, 0, none⟩ 1 [UInt8.ofNat q] (by simp) (fun j u h => one_news wr (UInt8.ofNat q) 5 j u h)
        rw [← HN.out] at hrun HZ
        simp only [List.length_cons, List.length_nil, Nat.zero_add] at hrun HZ
        have cP := (World.cell?_alloc_lt wr (.cells #[.int .u8 ((UInt8.ofNat q).toNat : Int)] 5) ⟨P, 0, none⟩ (Nat.lt_of_lt_of_le HW.out.pb HW.out.bw)).trans hc
        generalize (UInt8.ofNat q) = c at *
        generalize (c.toNat : Int) = cv at *
        simp only [Int.cast_ofNat_Int]
        clear hq
        go_wp2_with fail
        go_region_with (fail)
        all_goals
          go_wp2_with fail
          go_roundg 1
          case measure => omega
          case rel => exact ⟨7, by go_num, by omega, by omega, by rw [HQ.out, ← List.append_assoc]; exact HZ.out.1, HK.out.trans HZ.out.2⟩
      · obtain ⟨q, hq⟩ : ∃ q, q = x := ⟨_, rfl⟩
        have hsh : Op.shift .shr .u64 (x : Int) .i64 (IntKind.i64.wrap (8 * IntKind.i64.wrap 0)) = pure (.int .u64 (q : Int)) := by
          rw [show IntKind.i64.wrap (8 * IntKind.i64.wrap 0) = 0 by decide, shift_shr .u64 .i64 (x : Int) 0 (by decide) (by decide)]; simp [hq]
        have hcv : IntKind.u8.wrap (q : Int) = ((UInt8.ofNat q).toNat : Int) := by
          rw [IntKind.wrap_u8]; simp [UInt8.toNat_ofNat']
        have HQ : Aside ((encL x).take 8 = (encL x).take 7 ++ [UInt8.ofNat q]) := by rw [hq]; rfl
        obtain ⟨ao', cap', w3, hrun, ⟨u, hu⟩, hf3, HZ⟩ := wr_append HW.out (HN.out ▸ hc) ((Kb.alloc (fun _ => False) wr (.cells #[.int .u8 ((UInt8.ofNat q).toNat : Int)] 5)).trans (Kb.drew _ _)) (by have := HL.out; simp [encL]; omega) ⟨wr.heap.size, 0, none⟩ 1 [UInt8.ofNat q] (by simp) (fun j u h => one_news wr (UInt8.ofNat q) 5 j u h)
        rw [← HN.out] at hrun HZ
        simp only [List.length_cons, List.length_nil, Nat.zero_add] at hrun HZ
        have cP := (World.cell?_alloc_lt wr (.cells #[.int .u8 ((UInt8.ofNat q).toNat : Int)] 5) ⟨P, 0, none⟩ (Nat.lt_of_lt_of_le HW.out.pb HW.out.bw)).trans hc
        generalize (UInt8.ofNat q) = c at *
        generalize (c.toNat : Int) = cv at *
        simp only [Int.cast_ofNat_Int]
        clear hq
        go_wp2_with fail
        go_region_with (fail)
        all_goals
          go_wp2_with fail
          go_roundg 0
          case measure => omega
          case rel => exact ⟨8, by go_num, by omega, by omega, by rw [HQ.out, ← List.append_assoc]; exact HZ.out.1, HK.out.trans HZ.out.2⟩
    · obtain rfl : j = 8 := by omega
      go_wp2_with fail
      go_ret
      exact ⟨rfl, HW.out, HK.out⟩
end Go.Proofs.Ytecfbbddhnkilaa
