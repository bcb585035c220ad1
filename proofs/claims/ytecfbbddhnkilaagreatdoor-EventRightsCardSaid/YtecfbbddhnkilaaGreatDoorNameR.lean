/- gazettelaw03.nameRight of any text; what an event's rightness is, field by field. -/
import Derived.Test.YtecfbbddhnkilaaGreatDoorRightE
import Derived.Laws.IdiomStrings
import Derived.Lib.ConvBytes
import Derived.Deep.DeepCutAuto
namespace Go.Proofs.YtecfbbddhnkilaaGreatDoor
open Go.RowKit Go.Shelf Go.Sort
open Go.Proofs
set_option maxRecDepth 100000

/-! ### Plainly -/
theorem feq_canon {x : Nat} (h : fnan x = false) : feq x (fcanon x) = true := by
  unfold feq
  have hc := canon_num h
  rw [order_num x (fcanon x) h hc.1, hc.2]
  unfold ford
  simp
/-- Nothing in other fields than that of its kind. -/
def fieldsB (a : At) : Bool := (a.k == 0 || a.n == 0) && (a.k == 1 || feq a.x 0) && (a.k == 2 || a.s.toList == []) && (a.k == 3 || !a.y)
theorem kept_fields (a : At) (h : vrightB a.k a.s = true) : keptB a = fieldsB a := by
  obtain ⟨nm, k, n, x, s, y⟩ := a
  simp only [vrightB, Bool.and_eq_true, decide_eq_true_eq] at h
  have e0 : (⟨#[]⟩ : ByteArray).toList = [] := by rw [bytes_toList]
  rcases (show k = 0 ∨ k = 1 ∨ k = 2 ∨ k = 3 by omega) with rfl | rfl | rfl | rfl
  · have hx : asideX 0 x = x := by simp [asideX, voidB]
    simp only [keptB, fieldsB, hx, canonA, eqV]
    simp [e0]
  · cases hn : fnan x
    · have hx : asideX 1 x = x := by simp [asideX, voidB, hn]
      simp only [keptB, fieldsB, hx, canonA, eqV]
      simp [e0, feq_canon hn]
    · have hx : asideX 1 x = 0 := by simp [asideX, voidB, hn]
      simp only [keptB, fieldsB, hx, canonA, eqV]
      have : feq 0 (fcanon 0) = true := by decide +kernel
      simp [e0, this]
  · have hx : asideX 2 x = x := by simp [asideX, voidB]
    simp only [keptB, fieldsB, hx, canonA, eqV]
    simp
  · have hx : asideX 3 x = x := by simp [asideX, voidB]
    simp only [keptB, fieldsB, hx, canonA, eqV]
    simp [e0]

/-- A letter, or behind the first place a digit. -/
def partN (s : ByteArray) (i : Nat) : Bool := letB (byt s i) || (decide (0 < i) && digB (byt s i))
theorem all_snoc (p : Nat → Bool) (j : Nat) : (List.range (j + 1)).all p = ((List.range j).all p && p j) := by
  rw [List.range_succ, List.all_append]; simp
theorem byt_0 (s : ByteArray) : 0 ≤ byt s 0 := by unfold byt; omega
theorem nameN (s : ByteArray) : (decide (0 < s.size) && decide (s.size ≤ 12) && (List.range s.size).all (partN s)) = nameOk s := by
  unfold nameOk
  by_cases h0 : 0 < s.size
  · obtain ⟨m, hm⟩ : ∃ m, s.size = m + 1 := ⟨s.size - 1, by omega⟩
    have key : (List.range s.size).all (partN s) = (letB (byt s 0) && (List.range s.size).all (partB s)) := by
      rw [Bool.eq_iff_iff]
      simp only [Bool.and_eq_true, List.all_eq_true, List.mem_range]
      constructor
      · intro h
        have h00 := h 0 h0
        simp [partN] at h00
        refine ⟨h00, fun i hi => ?_⟩
        have := h i hi
        simp only [partN, partB, Bool.or_eq_true, Bool.and_eq_true] at this ⊢
        rcases this with h | h
        · exact Or.inl h
        · exact Or.inr h.2
      · rintro ⟨hl, h⟩ i hi
        have := h i hi
        simp only [partN, partB, Bool.or_eq_true, Bool.and_eq_true, decide_eq_true_eq] at this ⊢
        by_cases hi0 : i = 0
        · subst hi0; exact Or.inl hl
        · rcases this with h | h
          · exact Or.inl h
          · exact Or.inr ⟨by omega, h⟩
    rw [key, Bool.and_assoc, Bool.and_assoc, Bool.and_assoc]
  · have : decide (0 < s.size) = false := by simpa using h0
    simp [this]
theorem nameL (s : ByteArray) : (decide (1 ≤ (s.size : Int)) && decide ((s.size : Int) ≤ 12) && decide (97 ≤ byt s 0) && (List.range s.size).all (partB s)) = nameOk s := by
  unfold nameOk
  by_cases h0 : 0 < s.size
  · have e1 : decide (1 ≤ (s.size : Int)) = true := by simpa using (by omega : 1 ≤ (s.size : Int))
    have e2 : decide (0 < s.size) = true := by simpa using h0
    have e3 : decide ((s.size : Int) ≤ 12) = decide (s.size ≤ 12) := decide_eq_decide.2 (by omega)
    rw [e1, e2, e3, Bool.true_and]
    cases ha : (List.range s.size).all (partB s)
    · simp
    · have hp : partB s 0 = true := List.all_eq_true.1 ha 0 (List.mem_range.2 h0)
      have : letB (byt s 0) = decide (97 ≤ byt s 0) := by
        simp only [partB, Bool.or_eq_true, letB, digB, Bool.and_eq_true, decide_eq_true_eq] at hp
        rw [Bool.eq_iff_iff]
        simp only [letB, Bool.and_eq_true, decide_eq_true_eq]
        omega
      rw [this]
  · have : decide (0 < s.size) = false := by simpa using h0
    have e1 : decide (1 ≤ (s.size : Int)) = false := by simpa using (by omega : (s.size : Int) < 1)
    simp [this, e1]

/-! ### The program -/
/-- A text's bytes, laid in a new block. -/
theorem bytes_run (s : ByteArray) (w : World) : ∃ cap W, (convert 9 44 (.string s)).run Tryz.prog w = .ok (.slice (some ⟨w.heap.size, 0, none⟩) s.size cap) W ∧
    Aside (Below w.heap.size w W ∧ w.heap.size < W.heap.size ∧ ∀ i, i < s.size → W.cell? ⟨w.heap.size, i, none⟩ = some (.int .u8 (byt s i))) := by
  refine ⟨_, _, Lib.run_convert_string_bytes (P := Tryz.prog) w 9 44 5 s Tryz.underlying9 Tryz.underlying44 Tryz.underlying5, ?_, ?_, ?_⟩
  · exact ⟨rfl, rfl, rfl, by rw [Lib.bytesWorld_size]; omega, fun k hk => Lib.bytesWorld_at_old w 5 s k hk⟩
  · rw [Lib.bytesWorld_size]; omega
  · intro i hi
    have hi2 : i < s.data.size := hi
    have e : byt s i = (s.data[i].toNat : Int) := by unfold byt; rw [getElem!_pos s.data i hi2]
    rw [e, Lib.bytesWorld_cell w 5 s i hi, List.getD_eq_getElem?_getD, Array.getElem?_toList, Array.getElem?_eq_getElem hi2]
    rfl
theorem empty_of {s : ByteArray} (h : s.size = 0) : s = ⟨#[]⟩ := by
  cases s with | mk d => simp [ByteArray.size] at h; rw [h]
set_option maxHeartbeats 2000000 in
theorem nameRight_c (s : ByteArray) (w : World) (hs : s.size ≤ 9223372036854775807) : Calls Tryz.prog 24 #[.string s] w fun e w' => e = .returned (.bool (nameOk s)) ∧ Below w.heap.size w w' := by
  have HE : Aside ((decide (0 < s.size) && decide (s.size ≤ 12) && (List.range s.size).all (partN s)) = nameOk s) := nameN s
  obtain ⟨cap, W, hcv, hA⟩ := bytes_run s w
  obtain ⟨b0, hb0⟩ : ∃ b0, b0 = (decide (0 < s.size) && decide (s.size ≤ 12)) := ⟨_, rfl⟩
  have HB0 : Aside (b0 = (decide (0 < s.size) && decide (s.size ≤ 12))) := hb0
  rw [← hb0] at HE
  clear hb0
  go_enter Tryz.func24, Tryz.ntmps24
  go_upto_region 1 with fail
  go_cut [3] (fun s3 wx => s3 = .bool b0 ∧ wx = w)
  case first =>
    by_cases h0 : s.size = 0
    · have HF : Aside (b0 = false) := by show _ = _; rw [HB0.out]; simp [h0]
      obtain rfl := empty_of h0
      have e0 : (⟨#[]⟩ : ByteArray).toList = [] := by rw [bytes_toList]
      clear h0
      go_wp2_with fail
      go_meet
      exact ⟨congrArg Value.bool HF.out.symm, rfl⟩
    · have hne : ¬ s.toList = [] := fun e => h0 (by rw [bytes_toList] at e; have := congrArg List.length e; simpa using this)
      have hie : s.toList.isEmpty = false := by simpa using hne
      have hbe : (s.toList == []) = false := by simpa using hne
      by_cases h12 : (s.size : Int) ≤ 12
      · have HF : Aside (b0 = true) := by show _ = _; rw [HB0.out]; simp; omega
        clear h0
        go_wp2_with fail
        go_meet
        exact ⟨congrArg Value.bool HF.out.symm, rfl⟩
      · have HF : Aside (b0 = false) := by show _ = _; rw [HB0.out]; simp; omega
        clear h0
        go_wp2_with fail
        go_meet
        exact ⟨congrArg Value.bool HF.out.symm, rfl⟩
  case rest =>
    obtain ⟨rfl, rfl⟩ := hcut
    obtain ⟨n, hn⟩ : ∃ n, n = s.size := ⟨_, rfl⟩
    have HN : Aside (n = s.size) := hn
    rw [← hn] at hcv hs
    clear hn
    go_wp2_with fail
    clear hcv
    go_loopg [16, 3] n (fun kx s16 s3 wr => ∃ j : Nat, s16 = .int .i64 j ∧ j ≤ n ∧ n - j ≤ kx ∧ wr = W ∧ s3 = .bool (b0 && (List.range j).all (partN s)))
    case atStart => exact ⟨0, rfl, Nat.zero_le _, by omega, rfl, by simp⟩
    case round =>
      obtain ⟨j, rfl, hj, hjx, rfl, rfl⟩ := hrel
      by_cases hlt : j < n
      · have hc := hA.out.2.2 j (by rw [← HN.out]; exact hlt)
        have hjz : (j : Int) < (n : Int) := by omega
        have hj0 : (0 : Int) ≤ (j : Int) := by omega
        have HS : Aside ((b0 && (List.range (j + 1)).all (partN s)) = ((b0 && (List.range j).all (partN s)) && partN s j)) := by
          show _ = _; rw [all_snoc, Bool.and_assoc]
        have HP : Aside (partN s j = ((decide (97 ≤ byt s j) && decide (byt s j ≤ 122)) || (decide (0 < j) && (decide (48 ≤ byt s j) && decide (byt s j ≤ 57))))) := by
          show _ = _
          unfold partN letB digB; rfl
        have hcz : byt s j ≤ 255 := by unfold byt; have := (s.data[j]!).toNat_lt; omega
        generalize (b0 && (List.range j).all (partN s)) = o at *
        generalize byt s j = c at *
        cases o
        · have HR : Aside ((b0 && (List.range (j + 1)).all (partN s)) = false) := by
            show _ = _; rw [HS.out]; simp
          go_wp2_with fail
          go_roundg (n - (j + 1))
          case measure => omega
          case rel => exact ⟨j + 1, by go_num, hlt, Nat.le_refl _, rfl, congrArg Value.bool HR.out.symm⟩
        have ways : (decide (97 ≤ c) = true ∧ decide (c ≤ 122) = true) ∨ (decide (97 ≤ c) = false ∧ decide (0 < j) = false) ∨ (decide (97 ≤ c) = false ∧ decide (0 < j) = true ∧ decide (48 ≤ c) = false)
          ∨ (decide (97 ≤ c) = false ∧ decide (0 < j) = true ∧ decide (48 ≤ c) = true ∧ decide (c ≤ 57) = false) ∨ (decide (97 ≤ c) = false ∧ decide (0 < j) = true ∧ decide (48 ≤ c) = true ∧ decide (c ≤ 57) = true)
          ∨ (decide (97 ≤ c) = true ∧ decide (c ≤ 122) = false ∧ decide (0 < j) = false) ∨ (decide (97 ≤ c) = true ∧ decide (c ≤ 122) = false ∧ decide (0 < j) = true ∧ decide (48 ≤ c) = true ∧ decide (c ≤ 57) = false) := by
          simp only [decide_eq_true_eq, decide_eq_false_iff_not]; omega
        rcases ways with ⟨h1, h2⟩ | ⟨h1, h3⟩ | ⟨h1, h3, h4⟩ | ⟨h1, h3, h4, h5⟩ | ⟨h1, h3, h4, h5⟩ | ⟨h1, h2, h3⟩ | ⟨h1, h2, h3, h4, h5⟩
        · have HR : Aside ((b0 && (List.range (j + 1)).all (partN s)) = true) := by
            show _ = _; rw [HS.out, HP.out, h1, h2]; rfl
          go_wp2_with fail
          go_roundg (n - (j + 1))
          case measure => omega
          case rel => exact ⟨j + 1, by go_num, hlt, Nat.le_refl _, rfl, congrArg Value.bool (by first | exact HR.out.symm | (rw [HR.out]; assumption))⟩
        · have HR : Aside ((b0 && (List.range (j + 1)).all (partN s)) = false) := by
            show _ = _; rw [HS.out, HP.out, h1, h3]; rfl
          have h3p := of_decide_eq_false h3
          go_wp2_with fail
          go_roundg (n - (j + 1))
          case measure => omega
          case rel => exact ⟨j + 1, by go_num, hlt, Nat.le_refl _, rfl, congrArg Value.bool (by first | exact HR.out.symm | (rw [HR.out]; assumption))⟩
        · have HR : Aside ((b0 && (List.range (j + 1)).all (partN s)) = false) := by
            show _ = _; rw [HS.out, HP.out, h1, h3, h4]; rfl
          have h3p := of_decide_eq_true h3
          go_wp2_with fail
          go_roundg (n - (j + 1))
          case measure => omega
          case rel => exact ⟨j + 1, by go_num, hlt, Nat.le_refl _, rfl, congrArg Value.bool (by first | exact HR.out.symm | (rw [HR.out]; assumption))⟩
        · have HR : Aside ((b0 && (List.range (j + 1)).all (partN s)) = false) := by
            show _ = _; rw [HS.out, HP.out, h1, h3, h4, h5]; rfl
          have h3p := of_decide_eq_true h3
          go_wp2_with fail
          go_roundg (n - (j + 1))
          case measure => omega
          case rel => exact ⟨j + 1, by go_num, hlt, Nat.le_refl _, rfl, congrArg Value.bool (by first | exact HR.out.symm | (rw [HR.out]; assumption))⟩
        · have HR : Aside ((b0 && (List.range (j + 1)).all (partN s)) = true) := by
            show _ = _; rw [HS.out, HP.out, h1, h3, h4, h5]; rfl
          have h3p := of_decide_eq_true h3
          go_wp2_with fail
          go_roundg (n - (j + 1))
          case measure => omega
          case rel => exact ⟨j + 1, by go_num, hlt, Nat.le_refl _, rfl, congrArg Value.bool (by first | exact HR.out.symm | (rw [HR.out]; assumption))⟩
        · have HR : Aside ((b0 && (List.range (j + 1)).all (partN s)) = false) := by
            show _ = _; rw [HS.out, HP.out, h1, h2, h3]; rfl
          have h3p := of_decide_eq_false h3
          go_wp2_with fail
          go_roundg (n - (j + 1))
          case measure => omega
          case rel => exact ⟨j + 1, by go_num, hlt, Nat.le_refl _, rfl, congrArg Value.bool (by first | exact HR.out.symm | (rw [HR.out]; assumption))⟩
        · have HR : Aside ((b0 && (List.range (j + 1)).all (partN s)) = false) := by
            show _ = _; rw [HS.out, HP.out, h1, h2, h3, h4, h5]; rfl
          have h3p := of_decide_eq_true h3
          go_wp2_with fail
          go_roundg (n - (j + 1))
          case measure => omega
          case rel => exact ⟨j + 1, by go_num, hlt, Nat.le_refl _, rfl, congrArg Value.bool (by first | exact HR.out.symm | (rw [HR.out]; assumption))⟩
      · obtain rfl : j = n := by omega
        have HZ : Aside ((b0 && (List.range j).all (partN s)) = nameOk s) := by show _ = _; rw [HN.out]; exact HE.out
        clear hlt hj hjx
        go_wp2_with fail
        go_ret
        exact ⟨congrArg (fun b => Ending.returned (Value.bool b)) HZ.out, hA.out.1⟩
end Go.Proofs.YtecfbbddhnkilaaGreatDoor
