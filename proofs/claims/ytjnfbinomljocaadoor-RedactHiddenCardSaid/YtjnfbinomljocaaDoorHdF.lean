/- gazettelaw11's fit; what the laws of layer 11 share. -/
import Derived.Test.YtjnfbinomljocaaDoorHdE
import Derived.Test.YtjnfbinomljocaaDoorHdS
import Derived.Test.YtjnfbinomljocaaDoorAcE
import Derived.Test.YtjnfbinomljocaaDoorManyL
namespace Go.Proofs.YtjnfbinomljocaaDoor
open Go.RowKit Go.Shelf Go.Sort
open Go.Proofs
set_option maxRecDepth 100000

/-- A rule that may be and hides something has a short scope. -/
theorem hide_scope {r : Ru} {tn : Int} {who : ByteArray} (hr : rrightB r = true) (h : ofR r 3 tn who = true) : r.sc.size ≤ 52 := by
  unfold ofR at h
  simp only [Bool.and_eq_true, beq_iff_eq] at h
  unfold rrightB at hr
  rw [if_neg (by omega), if_neg (by omega), if_pos h.1] at hr
  simp only [Bool.and_eq_true] at hr
  exact scopeOk_size hr.2.2
/-- What is left of an event that may be may be. -/
theorem right_without {w w' : World} {bo : Option Addr} {zs es : List At} (h : EvtIs w w' bo zs es) (ns : List ByteArray) : rightE (withoutL es ns) = true := by
  obtain ⟨res, h1, rfl, _⟩ := h
  have hp : (withoutL (pick8 res) ns).Pairwise (fun a b => ltKey keyA a b = true) := by
    unfold withoutL pick8
    exact ((h1.rise.filter _).sublist (List.take_sublist _ _)).filter _
  have hl : (withoutL (pick8 res) ns).length ≤ 8 := Nat.le_trans (without_len _ _) (pick8_len res)
  rw [rightE_rise hp, decide_eq_true hl]
  intro a ha
  have := (pick8_sub (mem_without a ha)).2
  unfold rightE at this
  rw [Bool.and_eq_true, List.all_eq_true] at this
  have h0 := this.2 0 (by simp)
  unfold okAt at h0
  simpa using h0
theorem encA_at : ∀ (l : List At) (j : Nat), j < l.length → ∀ c u, (encA l[j]!)[c]? = some u → (l.flatMap encA)[j * 6 + c]? = some u := by
  intro l
  induction l with
  | nil => intro j hj; simp at hj
  | cons a l ih =>
    intro j hj c u hu
    cases j with
    | zero =>
      have hc : c < (encA a).length := by
        have := (List.getElem?_eq_some_iff.1 hu).1; simpa using this
      simp only [List.flatMap_cons, Nat.zero_mul, Nat.zero_add]
      rw [List.getElem?_append_left hc]; simpa using hu
    | succ j =>
      have := ih j (by simpa using hj) c u (by simpa using hu)
      simp only [List.flatMap_cons]
      rw [List.getElem?_append_right (by rw [encA_len]; omega), encA_len, show (j + 1) * 6 + c - 6 = j * 6 + c by omega]
      exact this

/-! ### fit -/
def fitH : Ru := ⟨3, 0, ⟨#[112]⟩, 0, ⟨#[97]⟩, none, 0, [], ⟨#[120]⟩, 0⟩
def fitN (c : UInt8) : At := ⟨⟨#[c]⟩, 0, 0, 0, ⟨#[]⟩, false⟩
theorem fit_seen : withoutL [fitN 120, fitN 121] (hidN [fitH] 0 ⟨#[112]⟩ ⟨#[97, 47, 98]⟩) = [fitN 121] := by
  rw [← seen_without]
  have h1 : ([fitH].any (nameHid 0 ⟨#[112]⟩ ⟨#[97, 47, 98]⟩ (fitN 120).nm)) = true := by decide +kernel
  have h2 : ([fitH].any (nameHid 0 ⟨#[112]⟩ ⟨#[97, 47, 98]⟩ (fitN 121).nm)) = false := by decide +kernel
  unfold seenL
  rw [List.filter_cons_of_neg (by rw [h1]; decide), List.filter_cons_of_pos (by rw [h2]; rfl), List.filter_nil]
theorem fit_none : hidN [fitH] 0 ⟨#[112]⟩ ⟨#[98]⟩ = [] := by
  have h : ([fitH].filter (hideB 0 ⟨#[112]⟩ ⟨#[98]⟩)) = [] := by
    have h1 : hideB 0 ⟨#[112]⟩ ⟨#[98]⟩ fitH = false := by decide +kernel
    rw [List.filter_cons_of_neg (by rw [h1]; decide), List.filter_nil]
  unfold hidN hidL
  rw [h]
  simp [sortL, Lib.compact, Lib.compactUpTo]
set_option maxHeartbeats 4000000 in
theorem fit11_c (w : World) (hm : MaxI w) : Calls Tryd.prog 6 #[] w fun e w' => e = .returned (.bool true) ∧ Below w.heap.size w w' := by
  obtain ⟨w2, hw2⟩ : ∃ w2, w2 = (w.alloc (.cells ([fitH].flatMap encR).toArray 43)).alloc (.cells ([fitN 120, fitN 121].flatMap encA).toArray 51) := ⟨_, rfl⟩
  have hB : Below w.heap.size w w2 := by rw [hw2]; exact ((Below.refl _ w).alloc (Nat.le_refl _) _).alloc (by simp) _
  have hz : w2.heap.size = w.heap.size + 2 := by rw [hw2]; simp
  have hrow : RowR w2 w.heap.size 0 [fitH] := fun j hj c v hv => by
    rw [hw2, Nat.zero_add]
    have h := World.cell?_alloc_new w ([fitH].flatMap encR).toArray 43 (j * 8 + c)
    rw [List.getElem?_toArray, encR_at [fitH] j hj c v hv] at h
    exact Lib.cell?_alloc_some _ h
  have hrowA : RowAt w2 (w.heap.size + 1) 0 [fitN 120, fitN 121] := fun j hj c v hv => by
    rw [hw2, Nat.zero_add]
    have h := World.cell?_alloc_new (w.alloc (.cells ([fitH].flatMap encR).toArray 43)) ([fitN 120, fitN 121].flatMap encA).toArray 51 (j * 6 + c)
    rw [List.getElem?_toArray, encA_at [fitN 120, fitN 121] j hj c v hv, World.size_alloc] at h
    exact h
  have hRB : RulesB w2.heap.size w2 (some ⟨w.heap.size, 0, none⟩) [fitH] := ⟨Or.inr ⟨_, _, rfl, by omega, hrow⟩, fun r hr => Or.inl (by rw [List.mem_singleton.1 hr]; rfl)⟩
  have hxf : ∀ r ∈ [fitH], ofR r 3 0 ⟨#[112]⟩ = true → r.sc.size ≤ 300 := fun r hr _ => by rw [List.mem_singleton.1 hr]; decide
  have HEV : Aside (Calls Tryd.prog 10 #[.slice (some ⟨w.heap.size, 0, none⟩) 1 1, .int .i64 0, .string ⟨#[112]⟩, evt ⟨#[97, 47, 98]⟩ (some ⟨w.heap.size + 1, 0, none⟩) 2 2] w2 fun e w' => ∃ ro rcap, e = .returned (.agg #[.string ⟨#[97, 47, 98]⟩, .slice ro 1 rcap]) ∧ Aside (SliceA w' ro [fitN 121] ∧ Below w2.heap.size w2 w')) := by
    have h := revent_c (some ⟨w.heap.size, 0, none⟩) 1 [fitH] 0 ⟨#[112]⟩ ⟨#[97, 47, 98]⟩ (some ⟨w.heap.size + 1, 0, none⟩) 2 [fitN 120, fitN 121] w2 hRB (by decide) hxf (Or.inr ⟨_, _, rfl, by omega, hrowA⟩) (by decide)
    rw [fit_seen] at h
    exact h
  have HHD : Aside (∀ W, Below w2.heap.size w2 W → Calls Tryd.prog 15 #[.slice (some ⟨w.heap.size, 0, none⟩) 1 1, .int .i64 0, .string ⟨#[112]⟩, .string ⟨#[98]⟩] W fun e w' => ∃ bo bcap, e = .returned (.slice bo 0 bcap) ∧ Aside (Below W.heap.size W w')) := fun W hW => by
    have h := hidden_c (some ⟨w.heap.size, 0, none⟩) 1 [fitH] 0 ⟨#[112]⟩ ⟨#[98]⟩ W (hRB.on hW) (by decide) hxf
    rw [fit_none] at h
    exact h.mono fun _ _ ⟨bo, bcap, h1, h2⟩ => ⟨bo, bcap, h1, h2.out.2⟩
  have HSR : Aside (∀ W, Below w2.heap.size w2 W → Calls Tryd.prog 14 #[.string ⟨#[97]⟩] W fun e w' => e = .returned (.bool true) ∧ Below W.heap.size W w') := fun W hW => scright_c ⟨#[97]⟩ W (by decide) (hm.below (hB.trans (hW.mono hB.size)))
  have HRG : Aside (∀ W, Below w2.heap.size w2 W → Calls Tryd.prog 8 #[.slice none 0 0] W fun e w' => ∃ bo bcap, e = .returned (.slice bo 0 bcap) ∧ Aside (Below W.heap.size W w')) := fun W hW =>
    (rights_c none 0 [] W ⟨Or.inl rfl, fun r hr => by cases hr⟩ (by decide) (fun r hr => by cases hr) (hm.below (hB.trans (hW.mono hB.size)))).mono fun _ _ ⟨bo, bcap, h1, h2⟩ => ⟨bo, bcap, h1, h2.out.2⟩
  have HW2 : Aside (w2 = (w.alloc (.cells (ruls 3 0 ⟨#[112]⟩ 0 ⟨#[97]⟩ none 0 0 ⟨#[120]⟩ 0) 43)).alloc (.cells #[.string ⟨#[120]⟩, .int .i64 0, .int .i64 0, .float .f64 0, .string ⟨#[]⟩, .bool false, .string ⟨#[121]⟩, .int .i64 0, .int .i64 0, .float .f64 0, .string ⟨#[]⟩, .bool false] 51)) := hw2
  have HB := Lib.hid hB
  have HTR : Aside (∀ W W', Below w2.heap.size w2 W → Below W.heap.size W W' → Below w2.heap.size w2 W') := fun W W' h h2 => h.trans (h2.mono h.size)
  have hzz : w.heap.size + 2 ≤ w2.heap.size := by omega
  clear hw2 hB hz hrow hrowA hRB hxf hm
  go_enter Tryd.func6, Tryd.ntmps6
  go_upto_region 2 with fail
  go_wp2_with fail
  rw [← HW2.out]
  refine HEV.out.mono ?_
  rintro e w3 ⟨ro, rcap, rfl, h3⟩
  have HB3 : Aside (Below w2.heap.size w2 w3) := h3.out.2
  rcases h3.out.1 with h0 | ⟨b, off, rfl, hb, hr⟩
  · cases h0
  have n0 : w3.cell? ⟨b, off, none⟩ = some (.string ⟨#[121]⟩) := by
    have := hr 0 (by decide) 0 _ rfl
    simp only [Nat.zero_mul, Nat.add_zero] at this
    exact this
  clear h3 hr HEV HW2
  go_upto_region 3 with fail
  have HB4 : Aside (Below w2.heap.size w2 (w3.alloc (.cells #[.string ⟨#[97, 47, 98]⟩, .slice (some ⟨b, off, none⟩) 1 rcap] 26))) := HB3.out.alloc HB3.out.size _
  have x1 := World.cell?_alloc_new w3 #[.string ⟨#[97, 47, 98]⟩, .slice (some ⟨b, off, none⟩) 1 rcap] 26 1
  have n1 := Lib.cell?_alloc_some (.cells #[.string ⟨#[97, 47, 98]⟩, .slice (some ⟨b, off, none⟩) 1 rcap] 26) n0
  simp only [List.getElem?_toArray, List.getElem?_cons_zero, List.getElem?_cons_succ] at x1
  clear n0
  generalize (w3.alloc (.cells #[.string ⟨#[97, 47, 98]⟩, .slice (some ⟨b, off, none⟩) 1 rcap] 26)) = w4 at *
  go_wp2_with fail
  refine (HHD.out _ HB4.out).mono ?_
  rintro e w5 ⟨bo, bcap, rfl, h5⟩
  have HB5 : Aside (Below w2.heap.size w2 w5) := HTR.out _ _ HB4.out h5.out
  clear h5 x1 n1
  go_wp2_with fail
  refine (HSR.out _ HB5.out).mono ?_
  rintro e w6 ⟨rfl, h6⟩
  have HB6 : Aside (Below w2.heap.size w2 w6) := HTR.out _ _ HB5.out h6
  clear h6
  go_wp2_with fail
  refine (HRG.out _ HB6.out).mono ?_
  rintro e w7 ⟨bo2, bcap2, rfl, h7⟩
  have HB7 : Aside (Below w2.heap.size w2 w7) := HTR.out _ _ HB6.out h7.out
  clear h7
  go_wp2_with fail
  go_ret
  exact ⟨rfl, HB.out.trans (HB7.out.mono HB.out.size)⟩
end Go.Proofs.YtjnfbinomljocaaDoor
