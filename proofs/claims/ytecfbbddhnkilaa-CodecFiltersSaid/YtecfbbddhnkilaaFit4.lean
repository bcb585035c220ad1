/- What each law of layer 4 begins with. -/
import Derived.Test.YtecfbbddhnkilaaWr6
namespace Go.Proofs.Ytecfbbddhnkilaa
open Go.RowKit Go.Shelf Go.Sort
open Go.Proofs
set_option maxRecDepth 100000

theorem two_bytes (W : World) (c d : UInt8) (ty : TypeId) : BytesB (W.alloc (.cells #[.int .u8 (c.toNat : Int), .int .u8 (d.toNat : Int)] ty)) (W.heap.size + 1) (some ⟨W.heap.size, 0, none⟩) [c, d] :=
  Or.inr ⟨W.heap.size, 0, rfl, Nat.lt_succ_self _, by simp, fun j hj => by
    rw [Nat.zero_add, World.cell?_alloc_new]
    rcases j with _ | _ | j
    · rfl
    · rfl
    · simp at hj; omega⟩

set_option maxHeartbeats 2000000 in
theorem fit4_c (w : World) :
    Calls Try.prog 4 #[] w fun e w' => e = .returned (.bool true) ∧ Below w.heap.size w w' := by
  have he1 : evOf [0, 0] = some (⟨#[]⟩, []) := by kernel_rfl
  have he2 : evOf [0, 1] = none := by kernel_rfl
  have h1 := readEvent_c (some ⟨w.heap.size, 0, none⟩) 2 [0, 0] (w.alloc (.cells #[.int .u8 0, .int .u8 0] 5)) (by decide) (by
    have := two_bytes w 0 0 5
    rw [World.size_alloc]; exact this)
  rw [he1] at h1
  have H1 := Lib.hid h1
  have hnm : nameOk ⟨#[97]⟩ = true := by decide +kernel
  have hlt : flt 4607182418800017408 4611686018427387904 = true := by decide +kernel
  have hna := fun W => name_c ⟨#[97]⟩ W
  rw [hnm] at hna
  have hle := fun W => less_c 4607182418800017408 4611686018427387904 W
  rw [hlt] at hle
  have HNA := Lib.hid hna
  have HLE := Lib.hid hle
  clear he1 h1 hnm hlt hna hle
  have HE2 := Lib.hid he2
  clear he2
  go_enter Try.func4, Try.ntmps4
  go_wp2_with fail
  refine H1.out.mono ?_
  rintro e w1 ⟨hb1, ao, cap, rfl, _⟩
  have HB1 : Aside (Below w.heap.size w w1) := ((Below.refl _ _).alloc (Nat.le_refl _) _).trans (hb1.mono (by simp))
  clear hb1 H1
  simp only [List.length_nil]
  go_wp2_with fail
  have HB2 : Aside (Below w.heap.size w (w1.alloc (.cells #[.string ⟨#[]⟩, .slice ao 0 cap] 46))) := HB1.out.alloc HB1.out.size _
  have c0 := World.cell?_alloc_new w1 #[.string ⟨#[]⟩, .slice ao 0 cap] 46 0
  have c1 := World.cell?_alloc_new w1 #[.string ⟨#[]⟩, .slice ao 0 cap] 46 1
  simp only [List.getElem?_toArray, List.getElem?_cons_zero, List.getElem?_cons_succ] at c0 c1
  have hz2 : w1.heap.size < (w1.alloc (.cells #[.string ⟨#[]⟩, .slice ao 0 cap] 46)).heap.size := by simp
  have hs2 : w1.heap.size + 1 = (w1.alloc (.cells #[.string ⟨#[]⟩, .slice ao 0 cap] 46)).heap.size := by simp
  rw [hs2]
  generalize (w1.alloc (.cells #[.string ⟨#[]⟩, .slice ao 0 cap] 46)) = w2 at *
  have h2 := readEvent_c (some ⟨w2.heap.size, 0, none⟩) 2 [0, 1] (w2.alloc (.cells #[.int .u8 0, .int .u8 1] 5)) (by decide) (by
    have := two_bytes w2 0 1 5
    rw [World.size_alloc]; exact this)
  rw [HE2.out] at h2
  refine h2.mono ?_
  rintro e w3 ⟨hb3, rfl⟩
  have HB3 : Aside (Below w.heap.size w w3) := (HB2.out.alloc HB2.out.size _).trans (hb3.mono (by have := HB2.out.size; simp; omega))
  have d0 := (hb3.cell (p := ⟨w1.heap.size, 0, none⟩) (by simp; omega)).trans ((World.cell?_alloc_lt w2 _ ⟨w1.heap.size, 0, none⟩ hz2).trans c0)
  have d1 := (hb3.cell (p := ⟨w1.heap.size, 1, none⟩) (by simp; omega)).trans ((World.cell?_alloc_lt w2 _ ⟨w1.heap.size, 1, none⟩ hz2).trans c1)
  have hz3 : w1.heap.size < w3.heap.size := by have := hb3.size; simp at this; omega
  clear h2 hb3 HE2 c0 c1 hs2 HB2 hz2
  generalize w1.heap.size = A at *
  go_wp2_with fail
  have HB4 : Aside (Below w.heap.size w (w3.alloc (.cells #[.string ⟨#[]⟩, .slice none 0 0] 46))) := HB3.out.alloc HB3.out.size _
  have q0 := (World.cell?_alloc_lt w3 (.cells #[.string ⟨#[]⟩, .slice none 0 0] 46) ⟨A, 0, none⟩ hz3).trans d0
  have q1 := (World.cell?_alloc_lt w3 (.cells #[.string ⟨#[]⟩, .slice none 0 0] 46) ⟨A, 1, none⟩ hz3).trans d1
  clear d0 d1 hz3
  generalize (w3.alloc (.cells #[.string ⟨#[]⟩, .slice none 0 0] 46)) = w4 at *
  have h5 := codecEvent_c ⟨#[]⟩ ao cap [] w4 (Or.inl rfl) (by simp) (by decide) (by decide)
  have hln : (encE ⟨#[]⟩ []).length = 2 := by decide +kernel
  rw [hln] at h5
  simp only [List.length_nil] at h5
  refine h5.mono ?_
  rintro e w5 ⟨ao5, cap5, rfl, hA5⟩
  have HB5 : Aside (Below w.heap.size w w5) := HB4.out.trans (hA5.out.2.mono HB4.out.size)
  clear h5 hln hA5 q0 q1
  go_wp2_with fail
  refine (HNA.out _).mono ?_
  rintro e w6 ⟨rfl, rfl⟩
  go_wp2_with fail
  refine (HLE.out _).mono ?_
  rintro e w6 ⟨rfl, rfl⟩
  go_wp2_with fail
  go_ret
  exact ⟨rfl, HB5.out⟩
end Go.Proofs.Ytecfbbddhnkilaa
