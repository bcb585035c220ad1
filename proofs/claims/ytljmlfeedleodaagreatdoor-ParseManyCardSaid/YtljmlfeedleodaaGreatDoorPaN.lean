/- What Filter answers of the texts of ParseMany. -/
import Derived.Test.YtljmlfeedleodaaGreatDoorPaM
namespace Go.Proofs.YtljmlfeedleodaaGreatDoor
open Go.RowKit Go.Shelf
open Go.Proofs
set_option maxRecDepth 100000

theorem trim_bs (l m : List UInt8) (h : Lib.trimB l 32 = m) : trimS (bs l) = bs m := by rw [← h]; rfl
theorem pM_trim : ∀ q : Bool, ∀ n, n < 16 → ∀ j, j < n → Lib.trimB (pM q n j) 32 = segM q j := by decide +kernel
theorem pM_len : ∀ q : Bool, ∀ n, n < 16 → ∀ j, j < n → (pM q n j).length ≤ 1000 := by decide +kernel
theorem seg_has : ∀ j, j < 16 → (stepP (bs (segM false j))).1.toList = [104, 97, 115] ∧ (stepP (bs (segM false j))).2 = bs [110, chM j] ∧ ((bs [110, chM j]).toList == []) = false ∧ decide (0 ≤ Lib.indexByte [110, chM j] 32) = false := by decide +kernel
theorem seg_val : ∀ j, j < 16 → (stepP (bs (segM true j))).1 = ⟨#[97]⟩ ∧ (stepP (bs (segM true j))).2 = bs [33, 61, 32, 34, 120, 38, chM j, 34] ∧ stepP (bs [33, 61, 32, 34, 120, 38, chM j, 34]) = (wordS 1, quoT (bs [120, 38, chM j])) := by decide +kernel
theorem seg_len : ∀ q : Bool, ∀ j, j < 16 → (segM q j).length ≤ 1000 := by decide +kernel
theorem many_cond (q : Bool) (n : Nat) (hn : n < 16) (j : Nat) (hj : j < n) (w : World) (hT : Tabs w) (hw : Wds w) (hm : MaxI w) :
    Calls Tryz.prog 19 #[.string (bs (pM q n j))] w fun e w' => e = .returned (.tuple #[cndC (cM q j), .bool true]) ∧ Below w.heap.size w w' := by
  have ht := trim_bs _ _ (pM_trim q n hn j hj)
  have hl : (bs (pM q n j)).size ≤ 100000 := Nat.le_trans (pM_len q n hn j hj) (by decide)
  have hl2 : (trimS (bs (pM q n j))).size ≤ 100000 := by rw [ht]; exact Nat.le_trans (seg_len q j (by omega)) (by decide)
  cases q
  · obtain ⟨h1, h2, h3, h4⟩ := seg_has j (by omega)
    exact condHas_c _ (bs [110, chM j]) hl (by rw [ht]; exact h1) (by rw [ht]; exact h2) h3 h4 hl2 w hm
  · obtain ⟨h1, h2, h3⟩ := seg_val j (by omega)
    exact condVal_c _ ⟨#[97]⟩ (bs [33, 61, 32, 34, 120, 38, chM j, 34]) (quoT (bs [120, 38, chM j])) 1 (by omega) 2 0 0 (bs [120, 38, chM j]) false hl (by rw [ht]; exact h1) (by rw [ht]; exact h2) (by decide +kernel) h3 hl2 (by show 8 ≤ 100000; decide) w hm hw (fun W hW => readT_c _ (plainM j (by omega)) W (hT.on hW))
theorem many_conds (q : Bool) (n : Nat) (hn : n < 16) (h0 : 0 < n) (w : World) (hT : Tabs w) (hw : Wds w) (hm : MaxI w) :
    Calls Tryz.prog 12 #[.string (bs (sM q n 0))] w (AskedR (min n 7) (firstC (cM q) (min n 7)) w) :=
  conditions_c n (fun j => bs (sM q n j)) (fun j => bs (pM q n j)) (cM q) h0 (by
    have h := sM_scan q n hn 0 h0
    rw [bytes_toList, beq_eq_false_iff_ne]
    intro e
    have e1 : sM q n 0 = [] := e
    rw [e1] at h
    have hp : 0 < (pM q n 0).length := by
      have := pM_trim q n hn 0 h0
      cases hx : pM q n 0 with
      | nil => rw [hx] at this; cases q <;> cases this
      | cons a l => simp
    by_cases h1 : 0 + 1 < n
    · rw [if_pos h1] at h; cases h
    · obtain rfl : n = 1 := by omega
      have e2 : sM q 1 0 = pM q 1 0 := by
        show pM q 1 0 ++ [] = _
        rw [List.append_nil]
      rw [e2] at e1
      rw [e1] at hp
      exact absurd hp (by decide))
    (fun j hj => Nat.le_trans (sM_len q n hn j hj) (by decide)) (fun j hj => sM_cut q n hn j hj) w (fun j hj W hW => many_cond q n hn j hj W (hT.on hW) (hw.on hW) (hm.below hW))
set_option maxHeartbeats 1000000 in
theorem no_conds (w : World) : Calls Tryz.prog 12 #[.string ⟨#[]⟩] w (AskedR 0 [] w) := by
  have he : ((⟨#[]⟩ : ByteArray).toList == []) = true := by decide +kernel
  have he' : (⟨#[]⟩ : ByteArray).toList = [] := by decide +kernel
  go_enter Tryz.func12, Tryz.ntmps12
  go_wp2_with fail
  go_loopg [0, 4, 5] 0 (fun kx s0 s4 s5 wr => s4 = .slice none 0 0 ∧ s5 = .bool false ∧ wr = w)
  case atStart => exact ⟨rfl, rfl, rfl⟩
  case round =>
    obtain ⟨rfl, rfl, hwr⟩ := hrel
    subst wr
    go_wp2_with fail
    go_ret2
    exact ⟨none, 0, rfl, Or.inl rfl, Below.refl _ _, fun b off e => by cases e⟩
theorem many_cb (q : Bool) (n : Nat) : cb (manyT q n) 58 = (⟨#[97]⟩, bs (askL q n), true) := by
  have h := cb_colon ⟨#[97]⟩ (askL q n) (by decide)
  have e : (⟨#[97]⟩ : ByteArray) ++ ⟨(58 :: askL q n).toArray⟩ = manyT q n := by
    unfold manyT
    apply ByteArray.ext
    simp [ByteArray.data_append]
  rwa [e] at h
theorem many_size (q : Bool) (n : Nat) (hn : n < 16) : (manyT q n).size ≤ 100000 := by
  have := ask_len q n hn
  show (97 :: 58 :: askL q n).length ≤ _
  simp; omega
theorem trim_a : trimS ⟨#[97]⟩ = ⟨#[97]⟩ := by decide +kernel
theorem many_ok (q : Bool) (n : Nat) (hn : n < 7) (w : World) (hT : Tabs w) (hw : Wds w) (hm : MaxI w) :
    Calls Tryz.prog 6 #[.string (manyT q n)] w (FilterR ⟨#[97]⟩ n (firstC (cM q) n) w) := by
  have h16 : n < 16 := by omega
  have := filter_ok (manyT q n) ⟨#[97]⟩ (bs (askL q n)) n (firstC (cM q) n) (many_size q n h16) (many_cb q n) (Nat.le_trans (ask_len q n h16) (by decide)) (by decide) (by rw [trim_a]; decide) (by omega) (firstC_len _ _) (by rw [trim_a]; exact many_right q n hn) w hm (fun W hW => by
    rw [trim_bs _ _ (ask_tr q n h16)]
    by_cases h0 : 0 < n
    · have := many_conds q n h16 h0 W (hT.on hW) (hw.on hW) (hm.below hW)
      rw [show min n 7 = n by omega] at this
      exact this
    · obtain rfl : n = 0 := by omega
      exact no_conds W)
  rw [trim_a] at this
  exact this
theorem many_long (q : Bool) (n : Nat) (h7 : 7 ≤ n) (hn : n < 16) (w : World) (hT : Tabs w) (hw : Wds w) (hm : MaxI w) :
    Calls Tryz.prog 6 #[.string (manyT q n)] w fun e w' => e = .returned (.tuple #[fil ⟨#[]⟩ none 0 0, .int .i64 2]) ∧ Below w.heap.size w w' :=
  filter_long (manyT q n) ⟨#[97]⟩ (bs (askL q n)) 7 (firstC (cM q) 7) (many_size q n hn) (many_cb q n) (Nat.le_trans (ask_len q n hn) (by decide)) (by omega) w hm (fun W hW => by
    rw [trim_bs _ _ (ask_tr q n hn)]
    have := many_conds q n hn (by omega) W (hT.on hW) (hw.on hW) (hm.below hW)
    rw [show min n 7 = 7 by omega] at this
    exact this)
end Go.Proofs.YtljmlfeedleodaaGreatDoor
