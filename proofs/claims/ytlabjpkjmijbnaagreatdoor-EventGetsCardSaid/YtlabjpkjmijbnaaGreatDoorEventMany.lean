/- EventMany: as many attributes as may be are right, and no more. -/
import Derived.Test.YtlabjpkjmijbnaaGreatDoorManyL
import Derived.Maps.AppendAt
import Derived.Laws.IdiomStrings
namespace Go.Proofs.YtlabjpkjmijbnaaGreatDoor
open Go.RowKit Go.Shelf Go.Sort
open Go.Proofs
set_option maxRecDepth 100000

theorem attr_info : ∃ i z, Tryz.prog.info? 33 = some i ∧ i.zero = some z ∧ i.size = 6 ∧ i.bytes = 64 ∧ z.cells.size = 6 := by
  obtain ⟨i, hi, h⟩ := Option.bind_eq_some_iff.1 (show (Tryz.prog.info? 33).bind (fun i => i.zero.map fun z => (i.size, i.bytes, z.cells.size)) = some (6, 64, 6) by kernel_rfl)
  obtain ⟨z, hz, h⟩ := Option.map_eq_some_iff.1 h
  simp only [Prod.mk.injEq] at h
  exact ⟨i, z, hi, hz, h.1, h.2.1, h.2.2⟩
theorem row_cells (a : At) (W : World) (ty : TypeId) : ∀ (j : Nat) u, (encA a)[j]? = some u → (W.alloc (.cells (encA a).toArray ty)).cell? ((⟨W.heap.size, 0, none⟩ : Addr).add j) = some u := fun j u h => by
  have : (W.alloc (.cells (encA a).toArray ty)).cell? ⟨W.heap.size, j, none⟩ = some u := by rw [World.cell?_alloc_new]; simpa using h
  by_cases h0 : j = 0
  · subst h0; exact this
  · simpa [Addr.add, h0] using this
theorem conv_one (B cap c : Nat) (hc : c < 256) (W : World) (h : W.cell? ⟨B, 0, none⟩ = some (.int .u8 (c : Int))) : (convert 40 9 (.slice (some ⟨B, 0, none⟩) 1 cap)).run Tryz.prog W = .ok (.string ⟨#[UInt8.ofNat c]⟩) W :=
  run_convert_bytes_back W 40 9 5 ⟨B, 0, none⟩ cap [UInt8.ofNat c] Tryz.underlying40 Tryz.underlying5 Tryz.underlying9 (fun j hj => by
    obtain rfl : j = 0 := by simpa using hj
    show W.cell? ⟨B, 0, none⟩ = _
    rw [h]
    simp [Nat.mod_eq_of_lt hc])
theorem cat_one (c : UInt8) : ((⟨#[110]⟩ : ByteArray) ++ ⟨#[c]⟩) = ⟨#[110, c]⟩ := by
  apply ByteArray.ext
  simp [ByteArray.data_append]
theorem many_cells (j : Nat) : (manyL (j + 1)).flatMap encA = (manyL j).flatMap encA ++ encA (many j) := by
  rw [manyL_succ, List.flatMap_append]; simp
attribute [local go_sem] cat_one

set_option maxHeartbeats 4000000 in
theorem eventMany_c (n : Int) (w : World) :
    Calls Tryz.prog 9 #[.int .i64 n] w fun e w' => e = .returned (.bool true) ∧ Below w.heap.size w w' := by
  obtain ⟨i0, z0, hi, hz0, hz1, hz2, hz3⟩ := attr_info
  obtain ⟨m, hm, hmn⟩ := and15 n
  go_enter Tryz.func9, Tryz.ntmps9
  go_wp2_with fail
  refine (fit_c w).mono ?_
  rintro e w1 ⟨rfl, hb1⟩
  have HB1 : Aside (Below w.heap.size w w1) := hb1
  have hs1 := hb1.size
  clear hb1
  go_wp2_with fail
  go_loopg [3, 11] m (fun kx v i wr => ∃ j : Nat, i = .int .i64 j ∧ j ≤ m ∧ m - j ≤ kx ∧ Aside (wr.ownsRow w.heap.size 33 6 v j ((manyL j).flatMap encA)) ∧ Aside (Below w.heap.size w wr))
  case atStart => exact ⟨0, rfl, Nat.zero_le _, by omega, World.ownsRow_nil _ _ _ _, HB1⟩
  case round =>
    clear HB1
    obtain ⟨j, rfl, hj, hjx, hown, HB⟩ := hrel
    have hsr := HB.out.size
    by_cases hlt : j < m
    · rcases (show j = 0 ∨ j = 1 ∨ j = 2 ∨ j = 3 ∨ j = 4 ∨ j = 5 ∨ j = 6 ∨ j = 7 ∨ j = 8 ∨ j = 9 ∨ j = 10 ∨ j = 11 ∨ j = 12 ∨ j = 13 ∨ j = 14 by omega) with rfl | rfl | rfl | rfl | rfl | rfl | rfl | rfl | rfl | rfl | rfl | rfl | rfl | rfl | rfl
      all_goals have hltz := Int.ofNat_lt.2 hlt
      all_goals simp only [Int.cast_ofNat_Int] at hltz
      · go_wp2_with fail
        rw [conv_one wr.heap.size 1 97 (by decide) _ (by rw [World.cell?_alloc_new]; rfl)]
        simp only [Result.andThen]
        rw [Oper.upon_value]
        have hrc := row_cells (many 0) (wr.alloc (.cells #[.int .u8 97] 5)) 33
        rw [World.size_alloc] at hrc
        go_wp2_with (at_builtin; refine wpList_append_own _ rfl _ _ 22 rfl w.heap.size 33 i0 z0 6 64 Tryz.underlying22 hi hz0 hz1 hz2 hz3 (by decide) _ _ _ rfl ((hown.out.alloc _).alloc _) ⟨wr.heap.size + 1, 0, none⟩ 1 1 (encA (many 0)) rfl rfl hrc (encA_one _) (by unfold maxLen; omega) (by omega) (by simp; omega) ?_; intro v' w3 hown' hgrow3 hnil3)
        go_roundg (m - 1)
        case measure => omega
        case rel => exact ⟨1, by first | rfl | go_num, hlt, Nat.le_refl _, by rw [many_cells 0]; exact hown', ((HB.out.alloc hsr _).alloc (by simp; omega) _).grown hgrow3 (by simp; omega) (fun q hq => (hown.out.lt q hq).1)⟩
      · go_wp2_with fail
        rw [conv_one wr.heap.size 1 104 (by decide) _ (by rw [World.cell?_alloc_new]; rfl)]
        simp only [Result.andThen]
        rw [Oper.upon_value]
        have hrc := row_cells (many 1) (wr.alloc (.cells #[.int .u8 104] 5)) 33
        rw [World.size_alloc] at hrc
        go_wp2_with (at_builtin; refine wpList_append_own _ rfl _ _ 22 rfl w.heap.size 33 i0 z0 6 64 Tryz.underlying22 hi hz0 hz1 hz2 hz3 (by decide) _ _ _ rfl ((hown.out.alloc _).alloc _) ⟨wr.heap.size + 1, 0, none⟩ 1 1 (encA (many 1)) rfl rfl hrc (encA_one _) (by unfold maxLen; omega) (by omega) (by simp; omega) ?_; intro v' w3 hown' hgrow3 hnil3)
        go_roundg (m - 2)
        case measure => omega
        case rel => exact ⟨2, by first | rfl | go_num, hlt, Nat.le_refl _, by rw [many_cells 1]; exact hown', ((HB.out.alloc hsr _).alloc (by simp; omega) _).grown hgrow3 (by simp; omega) (fun q hq => (hown.out.lt q hq).1)⟩
      · go_wp2_with fail
        rw [conv_one wr.heap.size 1 111 (by decide) _ (by rw [World.cell?_alloc_new]; rfl)]
        simp only [Result.andThen]
        rw [Oper.upon_value]
        have hrc := row_cells (many 2) (wr.alloc (.cells #[.int .u8 111] 5)) 33
        rw [World.size_alloc] at hrc
        go_wp2_with (at_builtin; refine wpList_append_own _ rfl _ _ 22 rfl w.heap.size 33 i0 z0 6 64 Tryz.underlying22 hi hz0 hz1 hz2 hz3 (by decide) _ _ _ rfl ((hown.out.alloc _).alloc _) ⟨wr.heap.size + 1, 0, none⟩ 1 1 (encA (many 2)) rfl rfl hrc (encA_one _) (by unfold maxLen; omega) (by omega) (by simp; omega) ?_; intro v' w3 hown' hgrow3 hnil3)
        go_roundg (m - 3)
        case measure => omega
        case rel => exact ⟨3, by first | rfl | go_num, hlt, Nat.le_refl _, by rw [many_cells 2]; exact hown', ((HB.out.alloc hsr _).alloc (by simp; omega) _).grown hgrow3 (by simp; omega) (fun q hq => (hown.out.lt q hq).1)⟩
      · go_wp2_with fail
        rw [conv_one wr.heap.size 1 102 (by decide) _ (by rw [World.cell?_alloc_new]; rfl)]
        simp only [Result.andThen]
        rw [Oper.upon_value]
        have hrc := row_cells (many 3) (wr.alloc (.cells #[.int .u8 102] 5)) 33
        rw [World.size_alloc] at hrc
        go_wp2_with (at_builtin; refine wpList_append_own _ rfl _ _ 22 rfl w.heap.size 33 i0 z0 6 64 Tryz.underlying22 hi hz0 hz1 hz2 hz3 (by decide) _ _ _ rfl ((hown.out.alloc _).alloc _) ⟨wr.heap.size + 1, 0, none⟩ 1 1 (encA (many 3)) rfl rfl hrc (encA_one _) (by unfold maxLen; omega) (by omega) (by simp; omega) ?_; intro v' w3 hown' hgrow3 hnil3)
        go_roundg (m - 4)
        case measure => omega
        case rel => exact ⟨4, by first | rfl | go_num, hlt, Nat.le_refl _, by rw [many_cells 3]; exact hown', ((HB.out.alloc hsr _).alloc (by simp; omega) _).grown hgrow3 (by simp; omega) (fun q hq => (hown.out.lt q hq).1)⟩
      · go_wp2_with fail
        rw [conv_one wr.heap.size 1 109 (by decide) _ (by rw [World.cell?_alloc_new]; rfl)]
        simp only [Result.andThen]
        rw [Oper.upon_value]
        have hrc := row_cells (many 4) (wr.alloc (.cells #[.int .u8 109] 5)) 33
        rw [World.size_alloc] at hrc
        go_wp2_with (at_builtin; refine wpList_append_own _ rfl _ _ 22 rfl w.heap.size 33 i0 z0 6 64 Tryz.underlying22 hi hz0 hz1 hz2 hz3 (by decide) _ _ _ rfl ((hown.out.alloc _).alloc _) ⟨wr.heap.size + 1, 0, none⟩ 1 1 (encA (many 4)) rfl rfl hrc (encA_one _) (by unfold maxLen; omega) (by omega) (by simp; omega) ?_; intro v' w3 hown' hgrow3 hnil3)
        go_roundg (m - 5)
        case measure => omega
        case rel => exact ⟨5, by first | rfl | go_num, hlt, Nat.le_refl _, by rw [many_cells 4]; exact hown', ((HB.out.alloc hsr _).alloc (by simp; omega) _).grown hgrow3 (by simp; omega) (fun q hq => (hown.out.lt q hq).1)⟩
      · go_wp2_with fail
        rw [conv_one wr.heap.size 1 100 (by decide) _ (by rw [World.cell?_alloc_new]; rfl)]
        simp only [Result.andThen]
        rw [Oper.upon_value]
        have hrc := row_cells (many 5) (wr.alloc (.cells #[.int .u8 100] 5)) 33
        rw [World.size_alloc] at hrc
        go_wp2_with (at_builtin; refine wpList_append_own _ rfl _ _ 22 rfl w.heap.size 33 i0 z0 6 64 Tryz.underlying22 hi hz0 hz1 hz2 hz3 (by decide) _ _ _ rfl ((hown.out.alloc _).alloc _) ⟨wr.heap.size + 1, 0, none⟩ 1 1 (encA (many 5)) rfl rfl hrc (encA_one _) (by unfold maxLen; omega) (by omega) (by simp; omega) ?_; intro v' w3 hown' hgrow3 hnil3)
        go_roundg (m - 6)
        case measure => omega
        case rel => exact ⟨6, by first | rfl | go_num, hlt, Nat.le_refl _, by rw [many_cells 5]; exact hown', ((HB.out.alloc hsr _).alloc (by simp; omega) _).grown hgrow3 (by simp; omega) (fun q hq => (hown.out.lt q hq).1)⟩
      · go_wp2_with fail
        rw [conv_one wr.heap.size 1 107 (by decide) _ (by rw [World.cell?_alloc_new]; rfl)]
        simp only [Result.andThen]
        rw [Oper.upon_value]
        have hrc := row_cells (many 6) (wr.alloc (.cells #[.int .u8 107] 5)) 33
        rw [World.size_alloc] at hrc
        go_wp2_with (at_builtin; refine wpList_append_own _ rfl _ _ 22 rfl w.heap.size 33 i0 z0 6 64 Tryz.underlying22 hi hz0 hz1 hz2 hz3 (by decide) _ _ _ rfl ((hown.out.alloc _).alloc _) ⟨wr.heap.size + 1, 0, none⟩ 1 1 (encA (many 6)) rfl rfl hrc (encA_one _) (by unfold maxLen; omega) (by omega) (by simp; omega) ?_; intro v' w3 hown' hgrow3 hnil3)
        go_roundg (m - 7)
        case measure => omega
        case rel => exact ⟨7, by first | rfl | go_num, hlt, Nat.le_refl _, by rw [many_cells 6]; exact hown', ((HB.out.alloc hsr _).alloc (by simp; omega) _).grown hgrow3 (by simp; omega) (fun q hq => (hown.out.lt q hq).1)⟩
      · go_wp2_with fail
        rw [conv_one wr.heap.size 1 98 (by decide) _ (by rw [World.cell?_alloc_new]; rfl)]
        simp only [Result.andThen]
        rw [Oper.upon_value]
        have hrc := row_cells (many 7) (wr.alloc (.cells #[.int .u8 98] 5)) 33
        rw [World.size_alloc] at hrc
        go_wp2_with (at_builtin; refine wpList_append_own _ rfl _ _ 22 rfl w.heap.size 33 i0 z0 6 64 Tryz.underlying22 hi hz0 hz1 hz2 hz3 (by decide) _ _ _ rfl ((hown.out.alloc _).alloc _) ⟨wr.heap.size + 1, 0, none⟩ 1 1 (encA (many 7)) rfl rfl hrc (encA_one _) (by unfold maxLen; omega) (by omega) (by simp; omega) ?_; intro v' w3 hown' hgrow3 hnil3)
        go_roundg (m - 8)
        case measure => omega
        case rel => exact ⟨8, by first | rfl | go_num, hlt, Nat.le_refl _, by rw [many_cells 7]; exact hown', ((HB.out.alloc hsr _).alloc (by simp; omega) _).grown hgrow3 (by simp; omega) (fun q hq => (hown.out.lt q hq).1)⟩
      · go_wp2_with fail
        rw [conv_one wr.heap.size 1 105 (by decide) _ (by rw [World.cell?_alloc_new]; rfl)]
        simp only [Result.andThen]
        rw [Oper.upon_value]
        have hrc := row_cells (many 8) (wr.alloc (.cells #[.int .u8 105] 5)) 33
        rw [World.size_alloc] at hrc
        go_wp2_with (at_builtin; refine wpList_append_own _ rfl _ _ 22 rfl w.heap.size 33 i0 z0 6 64 Tryz.underlying22 hi hz0 hz1 hz2 hz3 (by decide) _ _ _ rfl ((hown.out.alloc _).alloc _) ⟨wr.heap.size + 1, 0, none⟩ 1 1 (encA (many 8)) rfl rfl hrc (encA_one _) (by unfold maxLen; omega) (by omega) (by simp; omega) ?_; intro v' w3 hown' hgrow3 hnil3)
        go_roundg (m - 9)
        case measure => omega
        case rel => exact ⟨9, by first | rfl | go_num, hlt, Nat.le_refl _, by rw [many_cells 8]; exact hown', ((HB.out.alloc hsr _).alloc (by simp; omega) _).grown hgrow3 (by simp; omega) (fun q hq => (hown.out.lt q hq).1)⟩
      · go_wp2_with fail
        rw [conv_one wr.heap.size 1 112 (by decide) _ (by rw [World.cell?_alloc_new]; rfl)]
        simp only [Result.andThen]
        rw [Oper.upon_value]
        have hrc := row_cells (many 9) (wr.alloc (.cells #[.int .u8 112] 5)) 33
        rw [World.size_alloc] at hrc
        go_wp2_with (at_builtin; refine wpList_append_own _ rfl _ _ 22 rfl w.heap.size 33 i0 z0 6 64 Tryz.underlying22 hi hz0 hz1 hz2 hz3 (by decide) _ _ _ rfl ((hown.out.alloc _).alloc _) ⟨wr.heap.size + 1, 0, none⟩ 1 1 (encA (many 9)) rfl rfl hrc (encA_one _) (by unfold maxLen; omega) (by omega) (by simp; omega) ?_; intro v' w3 hown' hgrow3 hnil3)
        go_roundg (m - 10)
        case measure => omega
        case rel => exact ⟨10, by first | rfl | go_num, hlt, Nat.le_refl _, by rw [many_cells 9]; exact hown', ((HB.out.alloc hsr _).alloc (by simp; omega) _).grown hgrow3 (by simp; omega) (fun q hq => (hown.out.lt q hq).1)⟩
      · go_wp2_with fail
        rw [conv_one wr.heap.size 1 103 (by decide) _ (by rw [World.cell?_alloc_new]; rfl)]
        simp only [Result.andThen]
        rw [Oper.upon_value]
        have hrc := row_cells (many 10) (wr.alloc (.cells #[.int .u8 103] 5)) 33
        rw [World.size_alloc] at hrc
        go_wp2_with (at_builtin; refine wpList_append_own _ rfl _ _ 22 rfl w.heap.size 33 i0 z0 6 64 Tryz.underlying22 hi hz0 hz1 hz2 hz3 (by decide) _ _ _ rfl ((hown.out.alloc _).alloc _) ⟨wr.heap.size + 1, 0, none⟩ 1 1 (encA (many 10)) rfl rfl hrc (encA_one _) (by unfold maxLen; omega) (by omega) (by simp; omega) ?_; intro v' w3 hown' hgrow3 hnil3)
        go_roundg (m - 11)
        case measure => omega
        case rel => exact ⟨11, by first | rfl | go_num, hlt, Nat.le_refl _, by rw [many_cells 10]; exact hown', ((HB.out.alloc hsr _).alloc (by simp; omega) _).grown hgrow3 (by simp; omega) (fun q hq => (hown.out.lt q hq).1)⟩
      · go_wp2_with fail
        rw [conv_one wr.heap.size 1 110 (by decide) _ (by rw [World.cell?_alloc_new]; rfl)]
        simp only [Result.andThen]
        rw [Oper.upon_value]
        have hrc := row_cells (many 11) (wr.alloc (.cells #[.int .u8 110] 5)) 33
        rw [World.size_alloc] at hrc
        go_wp2_with (at_builtin; refine wpList_append_own _ rfl _ _ 22 rfl w.heap.size 33 i0 z0 6 64 Tryz.underlying22 hi hz0 hz1 hz2 hz3 (by decide) _ _ _ rfl ((hown.out.alloc _).alloc _) ⟨wr.heap.size + 1, 0, none⟩ 1 1 (encA (many 11)) rfl rfl hrc (encA_one _) (by unfold maxLen; omega) (by omega) (by simp; omega) ?_; intro v' w3 hown' hgrow3 hnil3)
        go_roundg (m - 12)
        case measure => omega
        case rel => exact ⟨12, by first | rfl | go_num, hlt, Nat.le_refl _, by rw [many_cells 11]; exact hown', ((HB.out.alloc hsr _).alloc (by simp; omega) _).grown hgrow3 (by simp; omega) (fun q hq => (hown.out.lt q hq).1)⟩
      · go_wp2_with fail
        rw [conv_one wr.heap.size 1 101 (by decide) _ (by rw [World.cell?_alloc_new]; rfl)]
        simp only [Result.andThen]
        rw [Oper.upon_value]
        have hrc := row_cells (many 12) (wr.alloc (.cells #[.int .u8 101] 5)) 33
        rw [World.size_alloc] at hrc
        go_wp2_with (at_builtin; refine wpList_append_own _ rfl _ _ 22 rfl w.heap.size 33 i0 z0 6 64 Tryz.underlying22 hi hz0 hz1 hz2 hz3 (by decide) _ _ _ rfl ((hown.out.alloc _).alloc _) ⟨wr.heap.size + 1, 0, none⟩ 1 1 (encA (many 12)) rfl rfl hrc (encA_one _) (by unfold maxLen; omega) (by omega) (by simp; omega) ?_; intro v' w3 hown' hgrow3 hnil3)
        go_roundg (m - 13)
        case measure => omega
        case rel => exact ⟨13, by first | rfl | go_num, hlt, Nat.le_refl _, by rw [many_cells 12]; exact hown', ((HB.out.alloc hsr _).alloc (by simp; omega) _).grown hgrow3 (by simp; omega) (fun q hq => (hown.out.lt q hq).1)⟩
      · go_wp2_with fail
        rw [conv_one wr.heap.size 1 108 (by decide) _ (by rw [World.cell?_alloc_new]; rfl)]
        simp only [Result.andThen]
        rw [Oper.upon_value]
        have hrc := row_cells (many 13) (wr.alloc (.cells #[.int .u8 108] 5)) 33
        rw [World.size_alloc] at hrc
        go_wp2_with (at_builtin; refine wpList_append_own _ rfl _ _ 22 rfl w.heap.size 33 i0 z0 6 64 Tryz.underlying22 hi hz0 hz1 hz2 hz3 (by decide) _ _ _ rfl ((hown.out.alloc _).alloc _) ⟨wr.heap.size + 1, 0, none⟩ 1 1 (encA (many 13)) rfl rfl hrc (encA_one _) (by unfold maxLen; omega) (by omega) (by simp; omega) ?_; intro v' w3 hown' hgrow3 hnil3)
        go_roundg (m - 14)
        case measure => omega
        case rel => exact ⟨14, by first | rfl | go_num, hlt, Nat.le_refl _, by rw [many_cells 13]; exact hown', ((HB.out.alloc hsr _).alloc (by simp; omega) _).grown hgrow3 (by simp; omega) (fun q hq => (hown.out.lt q hq).1)⟩
      · go_wp2_with fail
        rw [conv_one wr.heap.size 1 99 (by decide) _ (by rw [World.cell?_alloc_new]; rfl)]
        simp only [Result.andThen]
        rw [Oper.upon_value]
        have hrc := row_cells (many 14) (wr.alloc (.cells #[.int .u8 99] 5)) 33
        rw [World.size_alloc] at hrc
        go_wp2_with (at_builtin; refine wpList_append_own _ rfl _ _ 22 rfl w.heap.size 33 i0 z0 6 64 Tryz.underlying22 hi hz0 hz1 hz2 hz3 (by decide) _ _ _ rfl ((hown.out.alloc _).alloc _) ⟨wr.heap.size + 1, 0, none⟩ 1 1 (encA (many 14)) rfl rfl hrc (encA_one _) (by unfold maxLen; omega) (by omega) (by simp; omega) ?_; intro v' w3 hown' hgrow3 hnil3)
        go_roundg (m - 15)
        case measure => omega
        case rel => exact ⟨15, by first | rfl | go_num, hlt, Nat.le_refl _, by rw [many_cells 14]; exact hown', ((HB.out.alloc hsr _).alloc (by simp; omega) _).grown hgrow3 (by simp; omega) (fun q hq => (hown.out.lt q hq).1)⟩
    · obtain rfl : j = m := by omega
      obtain ⟨ao, cap, hv, hsl⟩ := own_slice (l := manyL j) (by rw [manyL_len]; exact hown.out)
      rw [manyL_len] at hv
      subst hv
      have hnew := new_c ⟨#[]⟩ ao cap (manyL j) (by rw [manyL_len]; omega) wr hsl
      rw [manyL_len] at hnew
      go_wp2_with fail
      refine hnew.mono ?_
      rintro e w2 ⟨G, res, rfl, hA⟩
      obtain ⟨hG1, hG2, hrow, hno, hb2⟩ := hA.out
      obtain ⟨hl, hr⟩ := many_right hm hno
      have HB2 : Aside (Below w.heap.size w w2) := HB.out.trans (hb2.mono hsr)
      have HR : Aside (RowAt w2 G 0 res) := hrow
      clear hrow hno hb2 hA hnew hsl hown
      have hright := fun W h => right_c ⟨#[]⟩ (some ⟨G, 0, none⟩) j res W h
      rw [hl, hr] at hright
      rw [hl]
      go_wp2_with fail
      refine (hright _ (Or.inr ⟨G, 0, rfl, by simp; omega, RowAt.below ((Below.refl w2.heap.size w2).alloc (Nat.le_refl _) _) hG2 HR.out⟩)).mono ?_
      rintro e w3 ⟨rfl, hb3⟩
      have HB3 : Aside (Below w.heap.size w w3) := (HB2.out.alloc HB2.out.size _).trans (hb3.mono (by have := HB2.out.size; simp; omega))
      clear hb3 hright
      by_cases h8 : (j : Int) ≤ 8
      · have h8n : decide (j ≤ 8) = true := by simp; omega
        rw [h8n]
        go_wp2_with fail
        go_ret
        exact ⟨rfl, HB3.out⟩
      · have h8n : decide (j ≤ 8) = false := by simp; omega
        have h8z : decide ((j : Int) ≤ 8) = false := by simpa using h8
        rw [h8n]
        go_wp2_with fail
        go_ret
        exact ⟨rfl, HB3.out⟩
end Go.Proofs.YtlabjpkjmijbnaaGreatDoor
