/- ParseScopes: the blanks about a scope don't count. -/
import Derived.Test.YtljmlfeedleodaaGreatDoorPaS
namespace Go.Proofs.YtljmlfeedleodaaGreatDoor
open Go.RowKit Go.Shelf
open Go.Proofs
set_option maxRecDepth 100000

set_option maxHeartbeats 4000000 in
theorem parseScopes_c (s : ByteArray) (w : World) (hm : MaxI w) (hw : Wds w) (hT : Tabs w) :
    Calls Tryz.prog 4 #[.string s] w fun e w' => e = .returned (.bool true) ∧ Below w.heap.size w w' := by
  have FIT := Lib.hid (fit8_c w hT hw hm)
  clear hT hw
  by_cases h200 : 200 < s.size
  · have h1 : (200 : Int) < (s.size : Int) := by omega
    clear hm
    go_enter Tryz.func4, Tryz.ntmps4
    go_wp2_with fail
    refine FIT.out.mono ?_
    rintro e w1 ⟨rfl, hb1⟩
    have H1 := Lib.hid hb1
    clear hb1
    go_wp2_with fail
    go_ret
    exact ⟨rfl, H1.out⟩
  have h1 : (s.size : Int) ≤ 200 := by omega
  have h2 : decide ((200 : Int) < (s.size : Int)) = false := by simp; omega
  have hs : s.size ≤ 200 := by omega
  have HS := Lib.hid hs
  have HM := Lib.hid hm
  clear hm h200 hs
  go_enter Tryz.func4, Tryz.ntmps4
  go_wp2_with fail
  refine FIT.out.mono ?_
  rintro e w1 ⟨rfl, hb1⟩
  have H1 := Lib.hid hb1
  clear hb1 FIT
  go_wp2_with fail
  go_loopg [15] s.size (fun kx s15 wr => ∃ i : Nat, s15 = .int .i64 i ∧ i ≤ s.size ∧ s.size - i ≤ kx ∧ Aside (∀ k, k < i → s.data.toList[k]? ≠ some 58) ∧ wr = w1)
  case atStart => exact ⟨0, rfl, Nat.zero_le _, by omega, fun k hk => absurd hk (by omega), rfl⟩
  case round =>
    obtain ⟨i, rfl, hi, hix, HN, hwr⟩ := hrel
    subst wr
    by_cases hlt : i < s.size
    · have hltz : (i : Int) < s.size := by omega
      have hi0 : (0 : Int) ≤ (i : Int) := by omega
      have hat : s.data.toList[i]? = some s[i] := Lib.data_getElem? s i hlt
      obtain ⟨c, hcc⟩ : ∃ c, c = s[i].toNat := ⟨_, rfl⟩
      have hc2 : ∀ h, ((s[i]'h).toNat : Int) = (c : Int) := fun h => by rw [hcc]
      have e58 : ((c : Int) == 58) = false → s.data.toList[i]? ≠ some 58 := fun h e => by
        rw [hat] at e
        injection e with e
        rw [hcc, e] at h
        exact absurd h (by decide)
      clear hcc hat
      cases h58 : ((c : Int) == 58)
      · have HE := Lib.hid (e58 h58)
        clear e58
        go_wp2_with fail
        go_roundg (s.size - (i + 1))
        case measure => omega
        case rel => exact ⟨i + 1, by go_num, by omega, Nat.le_refl _, fun k hk => by
          by_cases he : k < i
          · exact HN.out k he
          · obtain rfl : k = i := by omega
            exact HE.out, rfl⟩
      · clear e58
        go_wp2_with fail
        go_ret
        exact ⟨rfl, H1.out⟩
    · obtain rfl : i = s.size := by omega
      have hn : 58 ∉ s.data.toList := fun hm => by
        obtain ⟨k, hk, he⟩ := List.getElem_of_mem hm
        have : s.data.toList.length = s.size := Array.length_toList
        exact HN.out k (by omega) (by rw [List.getElem?_eq_getElem hk, he])
      have HNC := Lib.hid hn
      clear hn HN hlt
      go_wp2_with fail
      go_loopg [3] s.size (fun kx s3 wr => ∃ t : ByteArray, s3 = .string t ∧ t.size ≤ s.size ∧ t.size ≤ kx ∧ Aside (Lib.trimLeftB t.data.toList 32 = Lib.trimLeftB s.data.toList 32) ∧ wr = w1)
      case atStart => exact ⟨s, rfl, Nat.le_refl _, Nat.le_refl _, rfl, rfl⟩
      case round =>
        obtain ⟨t, rfl, hts, htx, HT, hwr⟩ := hrel
        subst wr
        by_cases h0 : 0 < t.size
        · have h0z : (0 : Int) < t.size := by omega
          have hte : (t.toList == []) = false := by
            rw [bytes_toList, beq_eq_false_iff_ne]
            intro e
            have : t.data.toList.length = t.size := Array.length_toList
            rw [e, List.length_nil] at this; omega
          have hte' : ¬ t.toList = [] := by rwa [beq_eq_false_iff_ne] at hte
          obtain ⟨c, hcc⟩ : ∃ c, c = t[0].toNat := ⟨_, rfl⟩
          have hc2 : ∀ h, ((t[0]'h).toNat : Int) = (c : Int) := fun h => by rw [hcc]
          have e32 : ((c : Int) == 32) = (t[0] == 32) := by rw [Bool.eq_iff_iff, beq_iff_eq, beq_iff_eq, ← UInt8.toNat_inj, hcc]; show _ ↔ _ = 32; omega
          cases h32 : ((c : Int) == 32)
          · rw [h32] at e32
            have HR : Aside (t.data.toList = Lib.trimLeftB s.data.toList 32) := by rw [← HT.out]; exact (left_stop1 h0 (by simpa using e32.symm)).symm
            clear e32 HT hcc
            go_wp2_with fail
            go_loopg [3] s.size (fun kx s3 wr => ∃ t : ByteArray, s3 = .string t ∧ t.size ≤ s.size ∧ t.size ≤ kx ∧ Aside (Lib.trimRightB t.data.toList 32 = Lib.trimB s.data.toList 32) ∧ wr = w1)
            case atStart => exact ⟨t, rfl, hts, hts, (by show Lib.trimRightB _ 32 = _; rw [HR.out, trim_comm]), rfl⟩
            case round =>
              clear HR hts htx
              obtain ⟨t, rfl, hts, htx, HT, hwr⟩ := hrel
              subst wr
              by_cases h0 : 0 < t.size
              · have h0z : (0 : Int) < t.size := by omega
                have hte : (t.toList == []) = false := by
                  rw [bytes_toList, beq_eq_false_iff_ne]
                  intro e
                  have : t.data.toList.length = t.size := Array.length_toList
                  rw [e, List.length_nil] at this; omega
                have hte' : ¬ t.toList = [] := by rwa [beq_eq_false_iff_ne] at hte
                have hw1 : IntKind.i64.wrap ((t.size : Int) - 1) = (t.size : Int) - 1 := by rw [IntKind.wrap_i64]; omega
                have ht1 : ((t.size : Int) - 1).toNat = t.size - 1 := by omega
                have hlt1 : (t.size : Int) - 1 < t.size := by omega
                have hge1 : (0 : Int) ≤ (t.size : Int) - 1 := by omega
                have hle1 : (t.size : Int) - 1 ≤ t.size := by omega
                obtain ⟨c, hcc⟩ : ∃ c, c = t[t.size - 1].toNat := ⟨_, rfl⟩
                have hc2 : ∀ h, ((t[t.size - 1]'h).toNat : Int) = (c : Int) := fun h => by rw [hcc]
                have e32 : ((c : Int) == 32) = (t[t.size - 1] == 32) := by rw [Bool.eq_iff_iff, beq_iff_eq, beq_iff_eq, ← UInt8.toNat_inj, hcc]; show _ ↔ _ = 32; omega
                cases h32 : ((c : Int) == 32)
                · rw [h32] at e32
                  have HR : Aside (t.data.toList = Lib.trimB s.data.toList 32) := by rw [← HT.out]; exact (right_stop1 h0 (by simpa using e32.symm)).symm
                  clear e32 HT hcc
                  go_wp2_with fail
                  obtain rfl : t = trimS s := by
                    obtain ⟨⟨l⟩⟩ := t
                    have h := HR.out
                    show (⟨⟨l⟩⟩ : ByteArray) = ⟨⟨Lib.trimB s.data.toList 32⟩⟩
                    rw [← h]
                  have h3 : (trimS s).size ≤ 3000 := by omega
                  cases hr : scopeOk (trimS s)
                  · have HF := Lib.hid (ask_no s HS.out HNC.out hr h3 w1 (HM.out.below H1.out))
                    have HG : Aside (∀ W, Below w.heap.size w W → Calls Tryz.prog 7 #[fil (trimS s) none 0 0] W fun e w' => e = .returned (.bool false) ∧ Below W.heap.size W w') := fun W hW => by
                      rw [← hr]; exact rightT_c (trimS s) W h3 (HM.out.below hW)
                    clear hr h3
                    generalize trimS s = ts at *
                    refine HF.out.mono ?_
                    rintro e w2 ⟨rfl, hb2⟩
                    have H2 : Aside (Below w.heap.size w w2) := H1.out.trans (hb2.mono H1.out.size)
                    have z2 : w.heap.size ≤ w2.heap.size := H2.out.size
                    clear hb2 HF
                    go_wp2_with fail
                    refine (HG.out _ (by first | exact H2.out | exact H2.out.alloc z2 _)).mono ?_
                    rintro e w3 ⟨rfl, hb3⟩
                    have H3 : Aside (Below w.heap.size w w3) := (by first | exact H2.out | exact H2.out.alloc z2 _ : Below w.heap.size w _).trans (hb3.mono (by simp; omega))
                    clear hb3 HG
                    go_wp2_with fail
                    go_ret
                    exact ⟨rfl, H3.out⟩
                  · have HF := Lib.hid (ask_ok s HS.out HNC.out hr h3 w1 (HM.out.below H1.out))
                    have HG : Aside (∀ W, Below w.heap.size w W → Calls Tryz.prog 7 #[fil (trimS s) none 0 0] W fun e w' => e = .returned (.bool true) ∧ Below W.heap.size W w') := fun W hW => by
                      rw [← hr]; exact rightT_c (trimS s) W h3 (HM.out.below hW)
                    clear hr h3
                    generalize trimS s = ts at *
                    refine HF.out.mono ?_
                    rintro e w2 ⟨ro, rcap, rfl, HR2⟩
                    have hb2 := HR2.out.2
                    have H2 : Aside (Below w.heap.size w w2) := H1.out.trans (hb2.mono H1.out.size)
                    have z2 : w.heap.size ≤ w2.heap.size := H2.out.size
                    clear hb2 HF HR2
                    go_wp2_with fail
                    refine (HG.out _ (by first | exact H2.out | exact H2.out.alloc z2 _)).mono ?_
                    rintro e w3 ⟨rfl, hb3⟩
                    have y0 : w3.cell? ⟨w2.heap.size, 0, none⟩ = some (.string ts) := one_lay (hb3.mono (by simp)) 0 _ rfl
                    have y1 : w3.cell? ⟨w2.heap.size, 1, none⟩ = some (.slice ro 1 rcap) := one_lay (hb3.mono (by simp)) 1 _ rfl
                    have H3 : Aside (Below w.heap.size w w3) := (by first | exact H2.out | exact H2.out.alloc z2 _ : Below w.heap.size w _).trans (hb3.mono (by simp; omega))
                    clear hb3 HG
                    go_wp2_with fail
                    go_ret
                    exact ⟨rfl, H3.out⟩
                · rw [h32] at e32
                  have HR : Aside (Lib.trimRightB (t.extract 0 (t.size - 1)).data.toList 32 = Lib.trimB s.data.toList 32) := by rw [← HT.out]; exact right_step1 h0 (by simpa using e32.symm)
                  clear e32 HT hcc
                  go_wp2_with fail
                  go_roundg (t.size - 1)
                  case measure => omega
                  case rel => exact ⟨t.extract 0 (t.size - 1), rfl, by rw [ByteArray.size_extract]; omega, by rw [ByteArray.size_extract]; omega, HR.out, rfl⟩
              · have HR : Aside (t.data.toList = Lib.trimB s.data.toList 32) := by
                  have e : t.data.toList = [] := List.eq_nil_of_length_eq_zero (by have : t.data.toList.length = t.size := Array.length_toList; omega)
                  rw [← HT.out, e]; rfl
                have hte : (t.toList == []) = true := by
                  rw [bytes_toList, beq_iff_eq]
                  exact List.eq_nil_of_length_eq_zero (by have : t.data.toList.length = t.size := Array.length_toList; omega)
                have hte' : t.toList = [] := by rwa [beq_iff_eq] at hte
                clear HT
                go_wp2_with fail
                obtain rfl : t = trimS s := by
                  obtain ⟨⟨l⟩⟩ := t
                  have h := HR.out
                  show (⟨⟨l⟩⟩ : ByteArray) = ⟨⟨Lib.trimB s.data.toList 32⟩⟩
                  rw [← h]
                have h3 : (trimS s).size ≤ 3000 := by omega
                cases hr : scopeOk (trimS s)
                · have HF := Lib.hid (ask_no s HS.out HNC.out hr h3 w1 (HM.out.below H1.out))
                  have HG : Aside (∀ W, Below w.heap.size w W → Calls Tryz.prog 7 #[fil (trimS s) none 0 0] W fun e w' => e = .returned (.bool false) ∧ Below W.heap.size W w') := fun W hW => by
                    rw [← hr]; exact rightT_c (trimS s) W h3 (HM.out.below hW)
                  clear hr h3
                  generalize trimS s = ts at *
                  refine HF.out.mono ?_
                  rintro e w2 ⟨rfl, hb2⟩
                  have H2 : Aside (Below w.heap.size w w2) := H1.out.trans (hb2.mono H1.out.size)
                  have z2 : w.heap.size ≤ w2.heap.size := H2.out.size
                  clear hb2 HF
                  go_wp2_with fail
                  refine (HG.out _ (by first | exact H2.out | exact H2.out.alloc z2 _)).mono ?_
                  rintro e w3 ⟨rfl, hb3⟩
                  have H3 : Aside (Below w.heap.size w w3) := (by first | exact H2.out | exact H2.out.alloc z2 _ : Below w.heap.size w _).trans (hb3.mono (by simp; omega))
                  clear hb3 HG
                  go_wp2_with fail
                  go_ret
                  exact ⟨rfl, H3.out⟩
                · have HF := Lib.hid (ask_ok s HS.out HNC.out hr h3 w1 (HM.out.below H1.out))
                  have HG : Aside (∀ W, Below w.heap.size w W → Calls Tryz.prog 7 #[fil (trimS s) none 0 0] W fun e w' => e = .returned (.bool true) ∧ Below W.heap.size W w') := fun W hW => by
                    rw [← hr]; exact rightT_c (trimS s) W h3 (HM.out.below hW)
                  clear hr h3
                  generalize trimS s = ts at *
                  refine HF.out.mono ?_
                  rintro e w2 ⟨ro, rcap, rfl, HR2⟩
                  have hb2 := HR2.out.2
                  have H2 : Aside (Below w.heap.size w w2) := H1.out.trans (hb2.mono H1.out.size)
                  have z2 : w.heap.size ≤ w2.heap.size := H2.out.size
                  clear hb2 HF HR2
                  go_wp2_with fail
                  refine (HG.out _ (by first | exact H2.out | exact H2.out.alloc z2 _)).mono ?_
                  rintro e w3 ⟨rfl, hb3⟩
                  have y0 : w3.cell? ⟨w2.heap.size, 0, none⟩ = some (.string ts) := one_lay (hb3.mono (by simp)) 0 _ rfl
                  have y1 : w3.cell? ⟨w2.heap.size, 1, none⟩ = some (.slice ro 1 rcap) := one_lay (hb3.mono (by simp)) 1 _ rfl
                  have H3 : Aside (Below w.heap.size w w3) := (by first | exact H2.out | exact H2.out.alloc z2 _ : Below w.heap.size w _).trans (hb3.mono (by simp; omega))
                  clear hb3 HG
                  go_wp2_with fail
                  go_ret
                  exact ⟨rfl, H3.out⟩
          · rw [h32] at e32
            have HR : Aside (Lib.trimLeftB (t.extract 1 t.size).data.toList 32 = Lib.trimLeftB s.data.toList 32) := by rw [← HT.out]; exact left_step h0 (by simpa using e32.symm)
            clear e32 HT hcc
            have h1le : (1 : Int) ≤ t.size := by omega
            go_wp2_with fail
            go_roundg (t.size - 1)
            case measure => omega
            case rel => exact ⟨t.extract 1 t.size, rfl, by rw [ByteArray.size_extract]; omega, by rw [ByteArray.size_extract]; omega, HR.out, rfl⟩
        · have HR : Aside (t.data.toList = Lib.trimLeftB s.data.toList 32) := by
            have e : t.data.toList = [] := List.eq_nil_of_length_eq_zero (by have : t.data.toList.length = t.size := Array.length_toList; omega)
            rw [← HT.out, e]; rfl
          have hte : (t.toList == []) = true := by
            rw [bytes_toList, beq_iff_eq]
            exact List.eq_nil_of_length_eq_zero (by have : t.data.toList.length = t.size := Array.length_toList; omega)
          have hte' : t.toList = [] := by rwa [beq_iff_eq] at hte
          clear HT
          go_wp2_with fail
          go_loopg [3] s.size (fun kx s3 wr => ∃ t : ByteArray, s3 = .string t ∧ t.size ≤ s.size ∧ t.size ≤ kx ∧ Aside (Lib.trimRightB t.data.toList 32 = Lib.trimB s.data.toList 32) ∧ wr = w1)
          case atStart => exact ⟨t, rfl, hts, hts, (by show Lib.trimRightB _ 32 = _; rw [HR.out, trim_comm]), rfl⟩
          case round =>
            clear HR hts htx
            obtain ⟨t, rfl, hts, htx, HT, hwr⟩ := hrel
            subst wr
            by_cases h0 : 0 < t.size
            · have h0z : (0 : Int) < t.size := by omega
              have hte : (t.toList == []) = false := by
                rw [bytes_toList, beq_eq_false_iff_ne]
                intro e
                have : t.data.toList.length = t.size := Array.length_toList
                rw [e, List.length_nil] at this; omega
              have hte' : ¬ t.toList = [] := by rwa [beq_eq_false_iff_ne] at hte
              have hw1 : IntKind.i64.wrap ((t.size : Int) - 1) = (t.size : Int) - 1 := by rw [IntKind.wrap_i64]; omega
              have ht1 : ((t.size : Int) - 1).toNat = t.size - 1 := by omega
              have hlt1 : (t.size : Int) - 1 < t.size := by omega
              have hge1 : (0 : Int) ≤ (t.size : Int) - 1 := by omega
              have hle1 : (t.size : Int) - 1 ≤ t.size := by omega
              obtain ⟨c, hcc⟩ : ∃ c, c = t[t.size - 1].toNat := ⟨_, rfl⟩
              have hc2 : ∀ h, ((t[t.size - 1]'h).toNat : Int) = (c : Int) := fun h => by rw [hcc]
              have e32 : ((c : Int) == 32) = (t[t.size - 1] == 32) := by rw [Bool.eq_iff_iff, beq_iff_eq, beq_iff_eq, ← UInt8.toNat_inj, hcc]; show _ ↔ _ = 32; omega
              cases h32 : ((c : Int) == 32)
              · rw [h32] at e32
                have HR : Aside (t.data.toList = Lib.trimB s.data.toList 32) := by rw [← HT.out]; exact (right_stop1 h0 (by simpa using e32.symm)).symm
                clear e32 HT hcc
                go_wp2_with fail
                obtain rfl : t = trimS s := by
                  obtain ⟨⟨l⟩⟩ := t
                  have h := HR.out
                  show (⟨⟨l⟩⟩ : ByteArray) = ⟨⟨Lib.trimB s.data.toList 32⟩⟩
                  rw [← h]
                have h3 : (trimS s).size ≤ 3000 := by omega
                cases hr : scopeOk (trimS s)
                · have HF := Lib.hid (ask_no s HS.out HNC.out hr h3 w1 (HM.out.below H1.out))
                  have HG : Aside (∀ W, Below w.heap.size w W → Calls Tryz.prog 7 #[fil (trimS s) none 0 0] W fun e w' => e = .returned (.bool false) ∧ Below W.heap.size W w') := fun W hW => by
                    rw [← hr]; exact rightT_c (trimS s) W h3 (HM.out.below hW)
                  clear hr h3
                  generalize trimS s = ts at *
                  refine HF.out.mono ?_
                  rintro e w2 ⟨rfl, hb2⟩
                  have H2 : Aside (Below w.heap.size w w2) := H1.out.trans (hb2.mono H1.out.size)
                  have z2 : w.heap.size ≤ w2.heap.size := H2.out.size
                  clear hb2 HF
                  go_wp2_with fail
                  refine (HG.out _ (by first | exact H2.out | exact H2.out.alloc z2 _)).mono ?_
                  rintro e w3 ⟨rfl, hb3⟩
                  have H3 : Aside (Below w.heap.size w w3) := (by first | exact H2.out | exact H2.out.alloc z2 _ : Below w.heap.size w _).trans (hb3.mono (by simp; omega))
                  clear hb3 HG
                  go_wp2_with fail
                  go_ret
                  exact ⟨rfl, H3.out⟩
                · have HF := Lib.hid (ask_ok s HS.out HNC.out hr h3 w1 (HM.out.below H1.out))
                  have HG : Aside (∀ W, Below w.heap.size w W → Calls Tryz.prog 7 #[fil (trimS s) none 0 0] W fun e w' => e = .returned (.bool true) ∧ Below W.heap.size W w') := fun W hW => by
                    rw [← hr]; exact rightT_c (trimS s) W h3 (HM.out.below hW)
                  clear hr h3
                  generalize trimS s = ts at *
                  refine HF.out.mono ?_
                  rintro e w2 ⟨ro, rcap, rfl, HR2⟩
                  have hb2 := HR2.out.2
                  have H2 : Aside (Below w.heap.size w w2) := H1.out.trans (hb2.mono H1.out.size)
                  have z2 : w.heap.size ≤ w2.heap.size := H2.out.size
                  clear hb2 HF HR2
                  go_wp2_with fail
                  refine (HG.out _ (by first | exact H2.out | exact H2.out.alloc z2 _)).mono ?_
                  rintro e w3 ⟨rfl, hb3⟩
                  have y0 : w3.cell? ⟨w2.heap.size, 0, none⟩ = some (.string ts) := one_lay (hb3.mono (by simp)) 0 _ rfl
                  have y1 : w3.cell? ⟨w2.heap.size, 1, none⟩ = some (.slice ro 1 rcap) := one_lay (hb3.mono (by simp)) 1 _ rfl
                  have H3 : Aside (Below w.heap.size w w3) := (by first | exact H2.out | exact H2.out.alloc z2 _ : Below w.heap.size w _).trans (hb3.mono (by simp; omega))
                  clear hb3 HG
                  go_wp2_with fail
                  go_ret
                  exact ⟨rfl, H3.out⟩
              · rw [h32] at e32
                have HR : Aside (Lib.trimRightB (t.extract 0 (t.size - 1)).data.toList 32 = Lib.trimB s.data.toList 32) := by rw [← HT.out]; exact right_step1 h0 (by simpa using e32.symm)
                clear e32 HT hcc
                go_wp2_with fail
                go_roundg (t.size - 1)
                case measure => omega
                case rel => exact ⟨t.extract 0 (t.size - 1), rfl, by rw [ByteArray.size_extract]; omega, by rw [ByteArray.size_extract]; omega, HR.out, rfl⟩
            · have HR : Aside (t.data.toList = Lib.trimB s.data.toList 32) := by
                have e : t.data.toList = [] := List.eq_nil_of_length_eq_zero (by have : t.data.toList.length = t.size := Array.length_toList; omega)
                rw [← HT.out, e]; rfl
              have hte : (t.toList == []) = true := by
                rw [bytes_toList, beq_iff_eq]
                exact List.eq_nil_of_length_eq_zero (by have : t.data.toList.length = t.size := Array.length_toList; omega)
              have hte' : t.toList = [] := by rwa [beq_iff_eq] at hte
              clear HT
              go_wp2_with fail
              obtain rfl : t = trimS s := by
                obtain ⟨⟨l⟩⟩ := t
                have h := HR.out
                show (⟨⟨l⟩⟩ : ByteArray) = ⟨⟨Lib.trimB s.data.toList 32⟩⟩
                rw [← h]
              have h3 : (trimS s).size ≤ 3000 := by omega
              cases hr : scopeOk (trimS s)
              · have HF := Lib.hid (ask_no s HS.out HNC.out hr h3 w1 (HM.out.below H1.out))
                have HG : Aside (∀ W, Below w.heap.size w W → Calls Tryz.prog 7 #[fil (trimS s) none 0 0] W fun e w' => e = .returned (.bool false) ∧ Below W.heap.size W w') := fun W hW => by
                  rw [← hr]; exact rightT_c (trimS s) W h3 (HM.out.below hW)
                clear hr h3
                generalize trimS s = ts at *
                refine HF.out.mono ?_
                rintro e w2 ⟨rfl, hb2⟩
                have H2 : Aside (Below w.heap.size w w2) := H1.out.trans (hb2.mono H1.out.size)
                have z2 : w.heap.size ≤ w2.heap.size := H2.out.size
                clear hb2 HF
                go_wp2_with fail
                refine (HG.out _ (by first | exact H2.out | exact H2.out.alloc z2 _)).mono ?_
                rintro e w3 ⟨rfl, hb3⟩
                have H3 : Aside (Below w.heap.size w w3) := (by first | exact H2.out | exact H2.out.alloc z2 _ : Below w.heap.size w _).trans (hb3.mono (by simp; omega))
                clear hb3 HG
                go_wp2_with fail
                go_ret
                exact ⟨rfl, H3.out⟩
              · have HF := Lib.hid (ask_ok s HS.out HNC.out hr h3 w1 (HM.out.below H1.out))
                have HG : Aside (∀ W, Below w.heap.size w W → Calls Tryz.prog 7 #[fil (trimS s) none 0 0] W fun e w' => e = .returned (.bool true) ∧ Below W.heap.size W w') := fun W hW => by
                  rw [← hr]; exact rightT_c (trimS s) W h3 (HM.out.below hW)
                clear hr h3
                generalize trimS s = ts at *
                refine HF.out.mono ?_
                rintro e w2 ⟨ro, rcap, rfl, HR2⟩
                have hb2 := HR2.out.2
                have H2 : Aside (Below w.heap.size w w2) := H1.out.trans (hb2.mono H1.out.size)
                have z2 : w.heap.size ≤ w2.heap.size := H2.out.size
                clear hb2 HF HR2
                go_wp2_with fail
                refine (HG.out _ (by first | exact H2.out | exact H2.out.alloc z2 _)).mono ?_
                rintro e w3 ⟨rfl, hb3⟩
                have y0 : w3.cell? ⟨w2.heap.size, 0, none⟩ = some (.string ts) := one_lay (hb3.mono (by simp)) 0 _ rfl
                have y1 : w3.cell? ⟨w2.heap.size, 1, none⟩ = some (.slice ro 1 rcap) := one_lay (hb3.mono (by simp)) 1 _ rfl
                have H3 : Aside (Below w.heap.size w w3) := (by first | exact H2.out | exact H2.out.alloc z2 _ : Below w.heap.size w _).trans (hb3.mono (by simp; omega))
                clear hb3 HG
                go_wp2_with fail
                go_ret
                exact ⟨rfl, H3.out⟩
end Go.Proofs.YtljmlfeedleodaaGreatDoor
