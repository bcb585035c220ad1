/- CodecWrong at kinds 0 and 1; at any kind. -/
import Derived.Test.YtnpbnjddlchmcaaCodecWrong
namespace Go.Proofs.Ytnpbnjddlchmcaa
open Go.RowKit Go.Shelf Go.Sort
open Go.Proofs
set_option maxRecDepth 100000
attribute [local go_sem ↓] append_pre

set_option maxHeartbeats 8000000 in
theorem codecWrong0_c (c d : UInt8) (k : Nat) (w : World) (hc : c.toNat = 0) (hk : k < 2 ^ 64) :
    Calls Try.prog 9 #[.int .u8 (c.toNat : Int), .int .u8 (d.toNat : Int), .int .u64 (k : Int)] w fun e w' => e = .returned (.bool true) ∧ Below w.heap.size w w' := by
  have hev : (evOf ([0, 1, 1, 97, c] ++ encL k)).isSome = true := by
    obtain rfl : c = 0 := by
      have := u8_ofNat_toNat c
      rw [hc] at this
      exact this.symm
    exact ev0 k hk
  have HEv := Lib.hid hev
  have h0 : ((c.toNat : Int) == 0) = true := by simp; omega
  have h1 : ((c.toNat : Int) == 1) = false := by simp; omega
  have HK : Aside (k < 2 ^ 64) := hk
  clear hev hc hk
  go_enter Try.func9, Try.ntmps9
  go_wp2_with fail
  refine (fit4_c w).mono ?_
  rintro e w1 ⟨rfl, hb1⟩
  have HB1 : Aside (Below w.heap.size w w1) := hb1
  have HO5 := Lib.hid (own5 w1 c)
  have HB2 : Aside (Below w1.heap.size w1 (w1.alloc (.cells #[.int .u8 0, .int .u8 1, .int .u8 1, .int .u8 97, .int .u8 (c.toNat : Int)] 5))) := (Below.refl _ _).alloc (Nat.le_refl _) _
  clear hb1
  go_wp2_with fail
  go_loopg [7, 8] 9 (fun kx s7 s8 wr => ∃ (j n cap : Nat) (ao : Option Addr) (v : Int), v = 56 - 8 * (j : Int) ∧ s8 = .int .i64 v ∧ s7 = .slice ao n cap ∧ j ≤ 8 ∧ 9 - j ≤ kx ∧ Aside (n = ([0, 1, 1, 97, c] ++ (encL k).take j).length) ∧
    Aside (wr.ownsRow w1.heap.size 5 1 (.slice ao ([0, 1, 1, 97, c] ++ (encL k).take j).length cap) ([0, 1, 1, 97, c] ++ (encL k).take j).length (([0, 1, 1, 97, c] ++ (encL k).take j).map encB)) ∧ Aside (Below w1.heap.size w1 wr))
  case atStart => exact ⟨0, 5, 5, some ⟨w1.heap.size, 0, none⟩, 56, rfl, rfl, rfl, by omega, by omega, rfl, HO5.out, HB2.out⟩
  case round =>
    clear HO5 HB2
    obtain ⟨j, n, cap, ao, v, hv, rfl, rfl, hj, hjx, HNn, HOwn, HB⟩ := hrel
    have hn13 : n ≤ 13 := by rw [HNn.out]; simp [encL]; omega
    by_cases hlt : j < 8
    · rcases (show j = 0 ∨ j = 1 ∨ j = 2 ∨ j = 3 ∨ j = 4 ∨ j = 5 ∨ j = 6 ∨ j = 7 by omega) with rfl | rfl | rfl | rfl | rfl | rfl | rfl | rfl
      · obtain rfl : v = 56 := by omega
        obtain ⟨q, hq⟩ : ∃ q, q = k / 2 ^ 56 := ⟨_, rfl⟩
        have hsh : Op.shift .shr .u64 (k : Int) .i64 56 = pure (.int .u64 (q : Int)) := by
          rw [shift_shr .u64 .i64 (k : Int) 56 (by decide) (by decide), hq]; rfl
        have hcv : IntKind.u8.wrap (q : Int) = ((UInt8.ofNat q).toNat : Int) := by
          rw [IntKind.wrap_u8]; simp [UInt8.toNat_ofNat']
        have HQ : Aside ((encL k).take 1 = (encL k).take 0 ++ [UInt8.ofNat q]) := by rw [hq]; rfl
        obtain ⟨ao2, cap2, w2, hrun, hA2⟩ := own_one wr w1.heap.size cap ao _ (UInt8.ofNat q) HOwn.out HB.out.size (by rw [← HNn.out]; omega)
        rw [← HNn.out] at hrun
        generalize (UInt8.ofNat q) = cc at *
        have HA2 := Lib.hid hA2
        clear hq hv hA2
        go_wp2_with fail
        go_roundg 8
        case measure => omega
        case rel => exact ⟨1, n + 1, cap2, ao2, 48, by omega, by go_num, by go_num, by omega, by omega, by rw [Aside, HQ.out, ← List.append_assoc, List.length_append, ← HNn.out]; rfl, by rw [HQ.out, ← List.append_assoc]; exact HA2.out.out.1, HB.out.trans HA2.out.out.2⟩
      · obtain rfl : v = 48 := by omega
        obtain ⟨q, hq⟩ : ∃ q, q = k / 2 ^ 48 := ⟨_, rfl⟩
        have hsh : Op.shift .shr .u64 (k : Int) .i64 48 = pure (.int .u64 (q : Int)) := by
          rw [shift_shr .u64 .i64 (k : Int) 48 (by decide) (by decide), hq]; rfl
        have hcv : IntKind.u8.wrap (q : Int) = ((UInt8.ofNat q).toNat : Int) := by
          rw [IntKind.wrap_u8]; simp [UInt8.toNat_ofNat']
        have HQ : Aside ((encL k).take 2 = (encL k).take 1 ++ [UInt8.ofNat q]) := by rw [hq]; rfl
        obtain ⟨ao2, cap2, w2, hrun, hA2⟩ := own_one wr w1.heap.size cap ao _ (UInt8.ofNat q) HOwn.out HB.out.size (by rw [← HNn.out]; omega)
        rw [← HNn.out] at hrun
        generalize (UInt8.ofNat q) = cc at *
        have HA2 := Lib.hid hA2
        clear hq hv hA2
        go_wp2_with fail
        go_roundg 7
        case measure => omega
        case rel => exact ⟨2, n + 1, cap2, ao2, 40, by omega, by go_num, by go_num, by omega, by omega, by rw [Aside, HQ.out, ← List.append_assoc, List.length_append, ← HNn.out]; rfl, by rw [HQ.out, ← List.append_assoc]; exact HA2.out.out.1, HB.out.trans HA2.out.out.2⟩
      · obtain rfl : v = 40 := by omega
        obtain ⟨q, hq⟩ : ∃ q, q = k / 2 ^ 40 := ⟨_, rfl⟩
        have hsh : Op.shift .shr .u64 (k : Int) .i64 40 = pure (.int .u64 (q : Int)) := by
          rw [shift_shr .u64 .i64 (k : Int) 40 (by decide) (by decide), hq]; rfl
        have hcv : IntKind.u8.wrap (q : Int) = ((UInt8.ofNat q).toNat : Int) := by
          rw [IntKind.wrap_u8]; simp [UInt8.toNat_ofNat']
        have HQ : Aside ((encL k).take 3 = (encL k).take 2 ++ [UInt8.ofNat q]) := by rw [hq]; rfl
        obtain ⟨ao2, cap2, w2, hrun, hA2⟩ := own_one wr w1.heap.size cap ao _ (UInt8.ofNat q) HOwn.out HB.out.size (by rw [← HNn.out]; omega)
        rw [← HNn.out] at hrun
        generalize (UInt8.ofNat q) = cc at *
        have HA2 := Lib.hid hA2
        clear hq hv hA2
        go_wp2_with fail
        go_roundg 6
        case measure => omega
        case rel => exact ⟨3, n + 1, cap2, ao2, 32, by omega, by go_num, by go_num, by omega, by omega, by rw [Aside, HQ.out, ← List.append_assoc, List.length_append, ← HNn.out]; rfl, by rw [HQ.out, ← List.append_assoc]; exact HA2.out.out.1, HB.out.trans HA2.out.out.2⟩
      · obtain rfl : v = 32 := by omega
        obtain ⟨q, hq⟩ : ∃ q, q = k / 2 ^ 32 := ⟨_, rfl⟩
        have hsh : Op.shift .shr .u64 (k : Int) .i64 32 = pure (.int .u64 (q : Int)) := by
          rw [shift_shr .u64 .i64 (k : Int) 32 (by decide) (by decide), hq]; rfl
        have hcv : IntKind.u8.wrap (q : Int) = ((UInt8.ofNat q).toNat : Int) := by
          rw [IntKind.wrap_u8]; simp [UInt8.toNat_ofNat']
        have HQ : Aside ((encL k).take 4 = (encL k).take 3 ++ [UInt8.ofNat q]) := by rw [hq]; rfl
        obtain ⟨ao2, cap2, w2, hrun, hA2⟩ := own_one wr w1.heap.size cap ao _ (UInt8.ofNat q) HOwn.out HB.out.size (by rw [← HNn.out]; omega)
        rw [← HNn.out] at hrun
        generalize (UInt8.ofNat q) = cc at *
        have HA2 := Lib.hid hA2
        clear hq hv hA2
        go_wp2_with fail
        go_roundg 5
        case measure => omega
        case rel => exact ⟨4, n + 1, cap2, ao2, 24, by omega, by go_num, by go_num, by omega, by omega, by rw [Aside, HQ.out, ← List.append_assoc, List.length_append, ← HNn.out]; rfl, by rw [HQ.out, ← List.append_assoc]; exact HA2.out.out.1, HB.out.trans HA2.out.out.2⟩
      · obtain rfl : v = 24 := by omega
        obtain ⟨q, hq⟩ : ∃ q, q = k / 2 ^ 24 := ⟨_, rfl⟩
        have hsh : Op.shift .shr .u64 (k : Int) .i64 24 = pure (.int .u64 (q : Int)) := by
          rw [shift_shr .u64 .i64 (k : Int) 24 (by decide) (by decide), hq]; rfl
        have hcv : IntKind.u8.wrap (q : Int) = ((UInt8.ofNat q).toNat : Int) := by
          rw [IntKind.wrap_u8]; simp [UInt8.toNat_ofNat']
        have HQ : Aside ((encL k).take 5 = (encL k).take 4 ++ [UInt8.ofNat q]) := by rw [hq]; rfl
        obtain ⟨ao2, cap2, w2, hrun, hA2⟩ := own_one wr w1.heap.size cap ao _ (UInt8.ofNat q) HOwn.out HB.out.size (by rw [← HNn.out]; omega)
        rw [← HNn.out] at hrun
        generalize (UInt8.ofNat q) = cc at *
        have HA2 := Lib.hid hA2
        clear hq hv hA2
        go_wp2_with fail
        go_roundg 4
        case measure => omega
        case rel => exact ⟨5, n + 1, cap2, ao2, 16, by omega, by go_num, by go_num, by omega, by omega, by rw [Aside, HQ.out, ← List.append_assoc, List.length_append, ← HNn.out]; rfl, by rw [HQ.out, ← List.append_assoc]; exact HA2.out.out.1, HB.out.trans HA2.out.out.2⟩
      · obtain rfl : v = 16 := by omega
        obtain ⟨q, hq⟩ : ∃ q, q = k / 2 ^ 16 := ⟨_, rfl⟩
        have hsh : Op.shift .shr .u64 (k : Int) .i64 16 = pure (.int .u64 (q : Int)) := by
          rw [shift_shr .u64 .i64 (k : Int) 16 (by decide) (by decide), hq]; rfl
        have hcv : IntKind.u8.wrap (q : Int) = ((UInt8.ofNat q).toNat : Int) := by
          rw [IntKind.wrap_u8]; simp [UInt8.toNat_ofNat']
        have HQ : Aside ((encL k).take 6 = (encL k).take 5 ++ [UInt8.ofNat q]) := by rw [hq]; rfl
        obtain ⟨ao2, cap2, w2, hrun, hA2⟩ := own_one wr w1.heap.size cap ao _ (UInt8.ofNat q) HOwn.out HB.out.size (by rw [← HNn.out]; omega)
        rw [← HNn.out] at hrun
        generalize (UInt8.ofNat q) = cc at *
        have HA2 := Lib.hid hA2
        clear hq hv hA2
        go_wp2_with fail
        go_roundg 3
        case measure => omega
        case rel => exact ⟨6, n + 1, cap2, ao2, 8, by omega, by go_num, by go_num, by omega, by omega, by rw [Aside, HQ.out, ← List.append_assoc, List.length_append, ← HNn.out]; rfl, by rw [HQ.out, ← List.append_assoc]; exact HA2.out.out.1, HB.out.trans HA2.out.out.2⟩
      · obtain rfl : v = 8 := by omega
        obtain ⟨q, hq⟩ : ∃ q, q = k / 2 ^ 8 := ⟨_, rfl⟩
        have hsh : Op.shift .shr .u64 (k : Int) .i64 8 = pure (.int .u64 (q : Int)) := by
          rw [shift_shr .u64 .i64 (k : Int) 8 (by decide) (by decide), hq]; rfl
        have hcv : IntKind.u8.wrap (q : Int) = ((UInt8.ofNat q).toNat : Int) := by
          rw [IntKind.wrap_u8]; simp [UInt8.toNat_ofNat']
        have HQ : Aside ((encL k).take 7 = (encL k).take 6 ++ [UInt8.ofNat q]) := by rw [hq]; rfl
        obtain ⟨ao2, cap2, w2, hrun, hA2⟩ := own_one wr w1.heap.size cap ao _ (UInt8.ofNat q) HOwn.out HB.out.size (by rw [← HNn.out]; omega)
        rw [← HNn.out] at hrun
        generalize (UInt8.ofNat q) = cc at *
        have HA2 := Lib.hid hA2
        clear hq hv hA2
        go_wp2_with fail
        go_roundg 2
        case measure => omega
        case rel => exact ⟨7, n + 1, cap2, ao2, 0, by omega, by go_num, by go_num, by omega, by omega, by rw [Aside, HQ.out, ← List.append_assoc, List.length_append, ← HNn.out]; rfl, by rw [HQ.out, ← List.append_assoc]; exact HA2.out.out.1, HB.out.trans HA2.out.out.2⟩
      · obtain rfl : v = 0 := by omega
        obtain ⟨q, hq⟩ : ∃ q, q = k / 2 ^ 0 := ⟨_, rfl⟩
        have hsh : Op.shift .shr .u64 (k : Int) .i64 0 = pure (.int .u64 (q : Int)) := by
          rw [shift_shr .u64 .i64 (k : Int) 0 (by decide) (by decide), hq]; simp
        have hcv : IntKind.u8.wrap (q : Int) = ((UInt8.ofNat q).toNat : Int) := by
          rw [IntKind.wrap_u8]; simp [UInt8.toNat_ofNat']
        have HQ : Aside ((encL k).take 8 = (encL k).take 7 ++ [UInt8.ofNat q]) := by rw [hq]; simp [encL, Aside]
        obtain ⟨ao2, cap2, w2, hrun, hA2⟩ := own_one wr w1.heap.size cap ao _ (UInt8.ofNat q) HOwn.out HB.out.size (by rw [← HNn.out]; omega)
        rw [← HNn.out] at hrun
        generalize (UInt8.ofNat q) = cc at *
        have HA2 := Lib.hid hA2
        clear hq hv hA2
        go_wp2_with fail
        go_roundg 1
        case measure => omega
        case rel => exact ⟨8, n + 1, cap2, ao2, -8, by omega, by go_num, by go_num, by omega, by omega, by rw [Aside, HQ.out, ← List.append_assoc, List.length_append, ← HNn.out]; rfl, by rw [HQ.out, ← List.append_assoc]; exact HA2.out.out.1, HB.out.trans HA2.out.out.2⟩
    · obtain rfl : j = 8 := by omega
      obtain rfl : v = -8 := by omega
      obtain ⟨q1, q2, _⟩ := own1_bytes HOwn.out
      have hr := readEvent_is ao cap _ wr q2 q1
      rw [← HNn.out] at hr
      simp only [show (encL k).take 8 = encL k from rfl] at hr
      rw [HEv.out] at hr
      have HR := Lib.hid hr
      clear hr q1 q2 hlt hj hjx hn13 hv
      go_wp2_with fail
      refine HR.out.mono ?_
      rintro e w4 ⟨s, a, n2, cp, rfl, hb3⟩
      have HB5 : Aside (Below w.heap.size w w4) := (HB1.out.trans (HB.out.mono HB1.out.size)).trans (hb3.mono (Nat.le_trans HB1.out.size HB.out.size))
      clear hb3 HR HB HOwn HNn HB1
      go_wp2_with fail
      go_ret
      exact ⟨rfl, HB5.out.alloc HB5.out.size _⟩

set_option maxHeartbeats 8000000 in
theorem codecWrong1_c (c d : UInt8) (k : Nat) (w : World) (hc : c.toNat = 1) (hk : k < 2 ^ 64) :
    Calls Try.prog 9 #[.int .u8 (c.toNat : Int), .int .u8 (d.toNat : Int), .int .u64 (k : Int)] w fun e w' => e = .returned (.bool true) ∧ Below w.heap.size w w' := by
  have hev : (evOf ([0, 1, 1, 97, c] ++ encL k)).isSome = (fback (k : Int)).2 := by
    obtain rfl : c = 1 := by
      have := u8_ofNat_toNat c
      rw [hc] at this
      exact this.symm
    exact ev1 k hk
  have HEv := Lib.hid hev
  have h0 : ((c.toNat : Int) == 0) = false := by simp; omega
  have h1 : ((c.toNat : Int) == 1) = true := by simp; omega
  have HK : Aside (k < 2 ^ 64) := hk
  clear hev hc hk
  go_enter Try.func9, Try.ntmps9
  go_wp2_with fail
  refine (fit4_c w).mono ?_
  rintro e w1 ⟨rfl, hb1⟩
  have HB1 : Aside (Below w.heap.size w w1) := hb1
  have HO5 := Lib.hid (own5 w1 c)
  have HB2 : Aside (Below w1.heap.size w1 (w1.alloc (.cells #[.int .u8 0, .int .u8 1, .int .u8 1, .int .u8 97, .int .u8 (c.toNat : Int)] 5))) := (Below.refl _ _).alloc (Nat.le_refl _) _
  clear hb1
  go_wp2_with fail
  go_loopg [7, 8] 9 (fun kx s7 s8 wr => ∃ (j n cap : Nat) (ao : Option Addr) (v : Int), v = 56 - 8 * (j : Int) ∧ s8 = .int .i64 v ∧ s7 = .slice ao n cap ∧ j ≤ 8 ∧ 9 - j ≤ kx ∧ Aside (n = ([0, 1, 1, 97, c] ++ (encL k).take j).length) ∧
    Aside (wr.ownsRow w1.heap.size 5 1 (.slice ao ([0, 1, 1, 97, c] ++ (encL k).take j).length cap) ([0, 1, 1, 97, c] ++ (encL k).take j).length (([0, 1, 1, 97, c] ++ (encL k).take j).map encB)) ∧ Aside (Below w1.heap.size w1 wr))
  case atStart => exact ⟨0, 5, 5, some ⟨w1.heap.size, 0, none⟩, 56, rfl, rfl, rfl, by omega, by omega, rfl, HO5.out, HB2.out⟩
  case round =>
    clear HO5 HB2
    obtain ⟨j, n, cap, ao, v, hv, rfl, rfl, hj, hjx, HNn, HOwn, HB⟩ := hrel
    have hn13 : n ≤ 13 := by rw [HNn.out]; simp [encL]; omega
    by_cases hlt : j < 8
    · rcases (show j = 0 ∨ j = 1 ∨ j = 2 ∨ j = 3 ∨ j = 4 ∨ j = 5 ∨ j = 6 ∨ j = 7 by omega) with rfl | rfl | rfl | rfl | rfl | rfl | rfl | rfl
      · obtain rfl : v = 56 := by omega
        obtain ⟨q, hq⟩ : ∃ q, q = k / 2 ^ 56 := ⟨_, rfl⟩
        have hsh : Op.shift .shr .u64 (k : Int) .i64 56 = pure (.int .u64 (q : Int)) := by
          rw [shift_shr .u64 .i64 (k : Int) 56 (by decide) (by decide), hq]; rfl
        have hcv : IntKind.u8.wrap (q : Int) = ((UInt8.ofNat q).toNat : Int) := by
          rw [IntKind.wrap_u8]; simp [UInt8.toNat_ofNat']
        have HQ : Aside ((encL k).take 1 = (encL k).take 0 ++ [UInt8.ofNat q]) := by rw [hq]; rfl
        obtain ⟨ao2, cap2, w2, hrun, hA2⟩ := own_one wr w1.heap.size cap ao _ (UInt8.ofNat q) HOwn.out HB.out.size (by rw [← HNn.out]; omega)
        rw [← HNn.out] at hrun
        generalize (UInt8.ofNat q) = cc at *
        have HA2 := Lib.hid hA2
        clear hq hv hA2
        go_wp2_with fail
        go_roundg 8
        case measure => omega
        case rel => exact ⟨1, n + 1, cap2, ao2, 48, by omega, by go_num, by go_num, by omega, by omega, by rw [Aside, HQ.out, ← List.append_assoc, List.length_append, ← HNn.out]; rfl, by rw [HQ.out, ← List.append_assoc]; exact HA2.out.out.1, HB.out.trans HA2.out.out.2⟩
      · obtain rfl : v = 48 := by omega
        obtain ⟨q, hq⟩ : ∃ q, q = k / 2 ^ 48 := ⟨_, rfl⟩
        have hsh : Op.shift .shr .u64 (k : Int) .i64 48 = pure (.int .u64 (q : Int)) := by
          rw [shift_shr .u64 .i64 (k : Int) 48 (by decide) (by decide), hq]; rfl
        have hcv : IntKind.u8.wrap (q : Int) = ((UInt8.ofNat q).toNat : Int) := by
          rw [IntKind.wrap_u8]; simp [UInt8.toNat_ofNat']
        have HQ : Aside ((encL k).take 2 = (encL k).take 1 ++ [UInt8.ofNat q]) := by rw [hq]; rfl
        obtain ⟨ao2, cap2, w2, hrun, hA2⟩ := own_one wr w1.heap.size cap ao _ (UInt8.ofNat q) HOwn.out HB.out.size (by rw [← HNn.out]; omega)
        rw [← HNn.out] at hrun
        generalize (UInt8.ofNat q) = cc at *
        have HA2 := Lib.hid hA2
        clear hq hv hA2
        go_wp2_with fail
        go_roundg 7
        case measure => omega
        case rel => exact ⟨2, n + 1, cap2, ao2, 40, by omega, by go_num, by go_num, by omega, by omega, by rw [Aside, HQ.out, ← List.append_assoc, List.length_append, ← HNn.out]; rfl, by rw [HQ.out, ← List.append_assoc]; exact HA2.out.out.1, HB.out.trans HA2.out.out.2⟩
      · obtain rfl : v = 40 := by omega
        obtain ⟨q, hq⟩ : ∃ q, q = k / 2 ^ 40 := ⟨_, rfl⟩
        have hsh : Op.shift .shr .u64 (k : Int) .i64 40 = pure (.int .u64 (q : Int)) := by
          rw [shift_shr .u64 .i64 (k : Int) 40 (by decide) (by decide), hq]; rfl
        have hcv : IntKind.u8.wrap (q : Int) = ((UInt8.ofNat q).toNat : Int) := by
          rw [IntKind.wrap_u8]; simp [UInt8.toNat_ofNat']
        have HQ : Aside ((encL k).take 3 = (encL k).take 2 ++ [UInt8.ofNat q]) := by rw [hq]; rfl
        obtain ⟨ao2, cap2, w2, hrun, hA2⟩ := own_one wr w1.heap.size cap ao _ (UInt8.ofNat q) HOwn.out HB.out.size (by rw [← HNn.out]; omega)
        rw [← HNn.out] at hrun
        generalize (UInt8.ofNat q) = cc at *
        have HA2 := Lib.hid hA2
        clear hq hv hA2
        go_wp2_with fail
        go_roundg 6
        case measure => omega
        case rel => exact ⟨3, n + 1, cap2, ao2, 32, by omega, by go_num, by go_num, by omega, by omega, by rw [Aside, HQ.out, ← List.append_assoc, List.length_append, ← HNn.out]; rfl, by rw [HQ.out, ← List.append_assoc]; exact HA2.out.out.1, HB.out.trans HA2.out.out.2⟩
      · obtain rfl : v = 32 := by omega
        obtain ⟨q, hq⟩ : ∃ q, q = k / 2 ^ 32 := ⟨_, rfl⟩
        have hsh : Op.shift .shr .u64 (k : Int) .i64 32 = pure (.int .u64 (q : Int)) := by
          rw [shift_shr .u64 .i64 (k : Int) 32 (by decide) (by decide), hq]; rfl
        have hcv : IntKind.u8.wrap (q : Int) = ((UInt8.ofNat q).toNat : Int) := by
          rw [IntKind.wrap_u8]; simp [UInt8.toNat_ofNat']
        have HQ : Aside ((encL k).take 4 = (encL k).take 3 ++ [UInt8.ofNat q]) := by rw [hq]; rfl
        obtain ⟨ao2, cap2, w2, hrun, hA2⟩ := own_one wr w1.heap.size cap ao _ (UInt8.ofNat q) HOwn.out HB.out.size (by rw [← HNn.out]; omega)
        rw [← HNn.out] at hrun
        generalize (UInt8.ofNat q) = cc at *
        have HA2 := Lib.hid hA2
        clear hq hv hA2
        go_wp2_with fail
        go_roundg 5
        case measure => omega
        case rel => exact ⟨4, n + 1, cap2, ao2, 24, by omega, by go_num, by go_num, by omega, by omega, by rw [Aside, HQ.out, ← List.append_assoc, List.length_append, ← HNn.out]; rfl, by rw [HQ.out, ← List.append_assoc]; exact HA2.out.out.1, HB.out.trans HA2.out.out.2⟩
      · obtain rfl : v = 24 := by omega
        obtain ⟨q, hq⟩ : ∃ q, q = k / 2 ^ 24 := ⟨_, rfl⟩
        have hsh : Op.shift .shr .u64 (k : Int) .i64 24 = pure (.int .u64 (q : Int)) := by
          rw [shift_shr .u64 .i64 (k : Int) 24 (by decide) (by decide), hq]; rfl
        have hcv : IntKind.u8.wrap (q : Int) = ((UInt8.ofNat q).toNat : Int) := by
          rw [IntKind.wrap_u8]; simp [UInt8.toNat_ofNat']
        have HQ : Aside ((encL k).take 5 = (encL k).take 4 ++ [UInt8.ofNat q]) := by rw [hq]; rfl
        obtain ⟨ao2, cap2, w2, hrun, hA2⟩ := own_one wr w1.heap.size cap ao _ (UInt8.ofNat q) HOwn.out HB.out.size (by rw [← HNn.out]; omega)
        rw [← HNn.out] at hrun
        generalize (UInt8.ofNat q) = cc at *
        have HA2 := Lib.hid hA2
        clear hq hv hA2
        go_wp2_with fail
        go_roundg 4
        case measure => omega
        case rel => exact ⟨5, n + 1, cap2, ao2, 16, by omega, by go_num, by go_num, by omega, by omega, by rw [Aside, HQ.out, ← List.append_assoc, List.length_append, ← HNn.out]; rfl, by rw [HQ.out, ← List.append_assoc]; exact HA2.out.out.1, HB.out.trans HA2.out.out.2⟩
      · obtain rfl : v = 16 := by omega
        obtain ⟨q, hq⟩ : ∃ q, q = k / 2 ^ 16 := ⟨_, rfl⟩
        have hsh : Op.shift .shr .u64 (k : Int) .i64 16 = pure (.int .u64 (q : Int)) := by
          rw [shift_shr .u64 .i64 (k : Int) 16 (by decide) (by decide), hq]; rfl
        have hcv : IntKind.u8.wrap (q : Int) = ((UInt8.ofNat q).toNat : Int) := by
          rw [IntKind.wrap_u8]; simp [UInt8.toNat_ofNat']
        have HQ : Aside ((encL k).take 6 = (encL k).take 5 ++ [UInt8.ofNat q]) := by rw [hq]; rfl
        obtain ⟨ao2, cap2, w2, hrun, hA2⟩ := own_one wr w1.heap.size cap ao _ (UInt8.ofNat q) HOwn.out HB.out.size (by rw [← HNn.out]; omega)
        rw [← HNn.out] at hrun
        generalize (UInt8.ofNat q) = cc at *
        have HA2 := Lib.hid hA2
        clear hq hv hA2
        go_wp2_with fail
        go_roundg 3
        case measure => omega
        case rel => exact ⟨6, n + 1, cap2, ao2, 8, by omega, by go_num, by go_num, by omega, by omega, by rw [Aside, HQ.out, ← List.append_assoc, List.length_append, ← HNn.out]; rfl, by rw [HQ.out, ← List.append_assoc]; exact HA2.out.out.1, HB.out.trans HA2.out.out.2⟩
      · obtain rfl : v = 8 := by omega
        obtain ⟨q, hq⟩ : ∃ q, q = k / 2 ^ 8 := ⟨_, rfl⟩
        have hsh : Op.shift .shr .u64 (k : Int) .i64 8 = pure (.int .u64 (q : Int)) := by
          rw [shift_shr .u64 .i64 (k : Int) 8 (by decide) (by decide), hq]; rfl
        have hcv : IntKind.u8.wrap (q : Int) = ((UInt8.ofNat q).toNat : Int) := by
          rw [IntKind.wrap_u8]; simp [UInt8.toNat_ofNat']
        have HQ : Aside ((encL k).take 7 = (encL k).take 6 ++ [UInt8.ofNat q]) := by rw [hq]; rfl
        obtain ⟨ao2, cap2, w2, hrun, hA2⟩ := own_one wr w1.heap.size cap ao _ (UInt8.ofNat q) HOwn.out HB.out.size (by rw [← HNn.out]; omega)
        rw [← HNn.out] at hrun
        generalize (UInt8.ofNat q) = cc at *
        have HA2 := Lib.hid hA2
        clear hq hv hA2
        go_wp2_with fail
        go_roundg 2
        case measure => omega
        case rel => exact ⟨7, n + 1, cap2, ao2, 0, by omega, by go_num, by go_num, by omega, by omega, by rw [Aside, HQ.out, ← List.append_assoc, List.length_append, ← HNn.out]; rfl, by rw [HQ.out, ← List.append_assoc]; exact HA2.out.out.1, HB.out.trans HA2.out.out.2⟩
      · obtain rfl : v = 0 := by omega
        obtain ⟨q, hq⟩ : ∃ q, q = k / 2 ^ 0 := ⟨_, rfl⟩
        have hsh : Op.shift .shr .u64 (k : Int) .i64 0 = pure (.int .u64 (q : Int)) := by
          rw [shift_shr .u64 .i64 (k : Int) 0 (by decide) (by decide), hq]; simp
        have hcv : IntKind.u8.wrap (q : Int) = ((UInt8.ofNat q).toNat : Int) := by
          rw [IntKind.wrap_u8]; simp [UInt8.toNat_ofNat']
        have HQ : Aside ((encL k).take 8 = (encL k).take 7 ++ [UInt8.ofNat q]) := by rw [hq]; simp [encL, Aside]
        obtain ⟨ao2, cap2, w2, hrun, hA2⟩ := own_one wr w1.heap.size cap ao _ (UInt8.ofNat q) HOwn.out HB.out.size (by rw [← HNn.out]; omega)
        rw [← HNn.out] at hrun
        generalize (UInt8.ofNat q) = cc at *
        have HA2 := Lib.hid hA2
        clear hq hv hA2
        go_wp2_with fail
        go_roundg 1
        case measure => omega
        case rel => exact ⟨8, n + 1, cap2, ao2, -8, by omega, by go_num, by go_num, by omega, by omega, by rw [Aside, HQ.out, ← List.append_assoc, List.length_append, ← HNn.out]; rfl, by rw [HQ.out, ← List.append_assoc]; exact HA2.out.out.1, HB.out.trans HA2.out.out.2⟩
    · obtain rfl : j = 8 := by omega
      obtain rfl : v = -8 := by omega
      obtain ⟨q1, q2, _⟩ := own1_bytes HOwn.out
      have hr := readEvent_is ao cap _ wr q2 q1
      rw [← HNn.out] at hr
      simp only [show (encL k).take 8 = encL k from rfl] at hr
      rw [HEv.out] at hr
      have HR := Lib.hid hr
      clear hr q1 q2 hlt hj hjx hn13 hv
      go_wp2_with fail
      refine HR.out.mono ?_
      rintro e w4 ⟨s, a, n2, cp, rfl, hb3⟩
      have HB5 : Aside (Below w.heap.size w w4) := (HB1.out.trans (HB.out.mono HB1.out.size)).trans (hb3.mono (Nat.le_trans HB1.out.size HB.out.size))
      clear hb3 HR HB HOwn HNn HB1
      have hbk := back_c (k : Int) (by omega) (by have := HK.out; omega)
      have HBk := Lib.hid hbk
      generalize (fback (k : Int)).2 = bb at *
      clear hbk
      go_wp2_with fail
      refine (HBk.out _).mono ?_
      rintro e w6 ⟨rfl, rfl⟩
      cases bb
      all_goals (
        go_wp2_with fail
        go_ret
        exact ⟨rfl, HB5.out.alloc HB5.out.size _⟩)

theorem codecWrong_c (kd nd k : Int) (hk : 0 ≤ kd ∧ kd ≤ 255) (hn : 0 ≤ nd ∧ nd ≤ 255) (hq : 0 ≤ k ∧ k ≤ 18446744073709551615) (w : World) :
    Calls Try.prog 9 #[.int .u8 kd, .int .u8 nd, .int .u64 k] w fun e w' => e = .returned (.bool true) ∧ Below w.heap.size w w' := by
  obtain ⟨c, rfl⟩ : ∃ c : UInt8, kd = (c.toNat : Int) := ⟨UInt8.ofNat kd.toNat, by rw [UInt8.toNat_ofNat_of_lt' (by show kd.toNat < 256; omega)]; omega⟩
  obtain ⟨d, rfl⟩ : ∃ d : UInt8, nd = (d.toNat : Int) := ⟨UInt8.ofNat nd.toNat, by rw [UInt8.toNat_ofNat_of_lt' (by show nd.toNat < 256; omega)]; omega⟩
  obtain ⟨q, rfl⟩ : ∃ q : Nat, k = (q : Int) := ⟨k.toNat, by omega⟩
  rcases (show c.toNat = 0 ∨ c.toNat = 1 ∨ c.toNat = 2 ∨ 3 ≤ c.toNat by omega) with h | h | h | h
  · exact codecWrong0_c c d q w h (by omega)
  · exact codecWrong1_c c d q w h (by omega)
  · exact codecWrong2_c c d q w h
  · exact codecWrong4_c c d q w h
end Go.Proofs.Ytnpbnjddlchmcaa
