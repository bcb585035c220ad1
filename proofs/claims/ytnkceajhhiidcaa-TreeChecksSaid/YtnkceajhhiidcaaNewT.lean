/- tree.New by its contract; Path, Near, Linked. -/
import Derived.Test.YtnkceajhhiidcaaJoin
namespace Go.Proofs.Ytnkceajhhiidcaa
open Go.RowKit Go.Shelf Go.Sort
open Go.Proofs
set_option maxRecDepth 100000

/-- Pairs that lie one behind the other. -/
def PairsB (W : World) (ao : Option Addr) (ps : List (Int × Int)) : Prop :=
  ps = [] ∨ ∃ b off, ao = some ⟨b, off, none⟩ ∧ b < W.heap.size ∧ ∀ i, i < ps.length → W.cell? ⟨b, off + i * 2, none⟩ = some (.int .i64 ps[i]!.1) ∧ W.cell? ⟨b, off + i * 2 + 1, none⟩ = some (.int .i64 ps[i]!.2)
theorem PairsB.below {w W : World} {ao : Option Addr} {ps : List (Int × Int)} (h : PairsB w ao ps) (hb : Below w.heap.size w W) : PairsB W ao ps := by
  rcases h with h | ⟨b, off, h1, h2, h3⟩
  · exact Or.inl h
  · exact Or.inr ⟨b, off, h1, Nat.lt_of_lt_of_le h2 hb.size, fun i hi => ⟨(hb.cell (p := ⟨b, _, none⟩) h2).trans (h3 i hi).1, (hb.cell (p := ⟨b, _, none⟩) h2).trans (h3 i hi).2⟩⟩
theorem allP_drop {n m : Nat} {ps : List (Int × Int)} {j : Nat} (h : j < ps.length) :
    allP n m (ps.drop j) = match stepP n m ps[j]! with
      | none => none
      | some (.error e) => some (.error e)
      | some (.ok m') => allP n m' (ps.drop (j + 1)) := by
  rw [List.drop_eq_getElem_cons h, getElem!_pos ps j h]; rfl
theorem row_zero (i : Nat) : row 0 i = [] := by
  unfold row
  rw [List.filter_eq_nil_iff]
  simp
theorem tr_new (w : World) (n : Nat) (hn : n ≤ 6) :
    Tr ((w.alloc (.cells (madeCells #[.slice none 0 0] n) 33)).alloc (.cells #[.slice (some ⟨w.heap.size, 0, none⟩) n n] 43)) (w.heap.size + 1) w.heap.size n 0 := by
  refine ⟨hn, by omega, ?_, ⟨fun _ => .slice none 0 0, ?_, ?_, ?_⟩, ?_⟩
  · have h := World.rowIs_alloc (w.alloc (.cells (madeCells #[.slice none 0 0] n) 33)) #[.slice (some ⟨w.heap.size, 0, none⟩) n n] 43 (fun _ => .slice (some ⟨w.heap.size, 0, none⟩) n n) (fun i hi => by
      obtain rfl : i = 0 := by simp at hi; omega
      rfl)
    simpa using h
  · exact (World.rowIs_made w (.slice none 0 0) n 33).alloc _
  · intro i hi
    rw [row_zero]
    exact World.ownsRow_nil _ _ _ _
  · intro i j _ _ _ g hg
    simp [Value.ownBlock] at hg
  · intro i _ x hx
    rw [row_zero] at hx
    simp at hx
theorem newP_ok {n : Nat} {ps : List (Int × Int)} {m : Nat} (h : newP n ps = some (.ok m)) : allP n 0 ps = some (.ok m) ∧ (ps.length : Int) = (n : Int) - 1 := by
  unfold newP at h
  split at h
  · cases h
  · simp at h
  · rename_i m' hm
    split at h
    · simp at h
    · rename_i hl
      injection h with h; injection h with h
      subst h
      exact ⟨hm, by omega⟩
theorem newP_err {n : Nat} {ps : List (Int × Int)} {c : Nat} (h : newP n ps = some (.error c)) : allP n 0 ps = some (.error c) ∨ (∃ m, allP n 0 ps = some (.ok m)) ∧ (ps.length : Int) ≠ (n : Int) - 1 ∧ c = 1 := by
  unfold newP at h
  split at h
  · cases h
  · rename_i e he
    injection h with h; injection h with h
    subst h
    exact Or.inl he
  · rename_i m' hm
    split at h
    · rename_i hl
      injection h with h; injection h with h
      exact Or.inr ⟨⟨m', hm⟩, hl, h.symm⟩
    · simp at h
/-- What New answers. -/
def NewIs (n : Nat) (r : Except Nat Nat) (w : World) (e : Ending) (w' : World) : Prop :=
  match r with
  | .error c => e = .returned (.tuple #[.pointer none, .int .i64 c]) ∧ c ≠ 0 ∧ Below w.heap.size w w'
  | .ok m => ∃ T N, e = .returned (.tuple #[tp T, .int .i64 0]) ∧ Aside (Tr w' T N n m ∧ Sym m ∧ w.heap.size ≤ N ∧ Below w.heap.size w w')
set_option maxHeartbeats 1000000 in
theorem new_no (n : Int) (ao : Option Addr) (cap len : Nat) (hn : n < 1 ∨ 6 < n) (w : World) :
    Calls Try.prog 8 #[.int .i64 n, .slice ao len cap] w fun e w' => e = .returned (.tuple #[.pointer none, .int .i64 3]) ∧ w = w' := by
  rcases hn with h | h
  · have d : decide (n < 1) = true := by simpa using h
    go_enter Try.func8, Try.ntmps8
    go_wp2_with fail
    go_ret2
    exact ⟨rfl, rfl⟩
  · have d : decide (n < 1) = false := by simp; omega
    have d2 : decide (n > 6) = true := by simpa using h
    go_enter Try.func8, Try.ntmps8
    go_wp2_with fail
    go_ret2
    exact ⟨rfl, rfl⟩
set_option maxHeartbeats 4000000 in
theorem new_c (n : Nat) (h1 : 1 ≤ n) (h6 : n ≤ 6) (ao : Option Addr) (cap : Nat) (ps : List (Int × Int)) (r : Except Nat Nat) (hr : newP n ps = some r) (hpl : ps.length ≤ 4611686018427387904) (w : World) (hp : PairsB w ao ps) :
    Calls Try.prog 8 #[.int .i64 n, .slice ao ps.length cap] w (NewIs n r w) := by
  have hmk := fun W => run_make_row' (P := Try.prog) 41 33 (.slice none 0 0) 24 Try.underlying41 (by kernel_rfl) rfl .i64 .i64 n (by omega) (by omega) W
  have HTR := Lib.hid (tr_new w n h6)
  obtain ⟨len, hL⟩ : ∃ len, len = ps.length := ⟨_, rfl⟩
  have HL := Lib.hid hL
  have HP := Lib.hid hp
  have HR : Aside (newP n ps = some r) := hr
  rw [← hL] at hpl ⊢
  clear hp hr hL
  have d1 : decide ((n : Int) < 1) = false := by simp; omega
  have d2 : decide ((n : Int) > 6) = false := by simp; omega
  have HB0 : Aside (Below w.heap.size w ((w.alloc (.cells (madeCells #[.slice none 0 0] n) 33)).alloc (.cells #[.slice (some ⟨w.heap.size, 0, none⟩) n n] 43))) := ((Below.refl _ _).alloc (Nat.le_refl _) _).alloc (by simp) _
  go_enter Try.func8, Try.ntmps8
  go_wp2_with fail
  clear hmk d1 d2
  generalize ((w.alloc (.cells (madeCells #[.slice none 0 0] n) 33)).alloc (.cells #[.slice (some ⟨w.heap.size, 0, none⟩) n n] 43)) = w1 at *
  obtain ⟨S, hS⟩ : ∃ S, S = w.heap.size := ⟨_, rfl⟩
  rw [← hS] at HTR HB0 ⊢
  have HSS := Lib.hid hS
  clear hS
  obtain ⟨A, hA⟩ : ∃ A, A = allP n 0 ps := ⟨_, rfl⟩
  have HA0 : Aside (allP n 0 (ps.drop 0) = A) := by rw [List.drop_zero]; exact hA.symm
  have HF : Aside (A ≠ none ∧ (∀ c, A = some (.error c) → r = .error c) ∧ (∀ m, A = some (.ok m) → r = if (len : Int) ≠ (n : Int) - 1 then .error 1 else .ok m)) := by
    have h := HR.out
    unfold newP at h
    rw [← hA, ← HL.out] at h
    refine ⟨fun e => ?_, fun c e => ?_, fun m e => ?_⟩
    · rw [e] at h; cases h
    · rw [e] at h; injection h with h; exact h.symm
    · rw [e] at h
      simp only at h
      split at h
      · rename_i hl; injection h with h; rw [if_pos hl]; exact h.symm
      · rename_i hl; injection h with h; rw [if_neg hl]; exact h.symm
  have HD : Aside (∀ j m, j < len → allP n m (ps.drop j) = match stepP n m ps[j]! with
      | none => none
      | some (.error e) => some (.error e)
      | some (.ok m') => allP n m' (ps.drop (j + 1))) := fun j m hj => allP_drop (by rw [← HL.out]; exact hj)
  have HE : Aside (∀ m, allP n m (ps.drop len) = some (.ok m)) := fun m => by rw [HL.out, List.drop_length]; rfl
  have HPC : Aside (∀ W, Below S w W → ∀ j, j < len → ∃ b off, ao = some ⟨b, off, none⟩ ∧ W.cell? ⟨b, off + j * 2, none⟩ = some (.int .i64 ps[j]!.1) ∧ W.cell? ⟨b, off + j * 2 + 1, none⟩ = some (.int .i64 ps[j]!.2)) := fun W hW j hj => by
    rw [HSS.out] at hW
    rcases HP.out.below hW with h | ⟨b, off, h1, _, h3⟩
    · have := HL.out; rw [h] at this; simp at this; omega
    · exact ⟨b, off, h1, h3 j (by rw [← HL.out]; exact hj)⟩
  have HNI : Aside (∀ e w', (match r with
      | .error c => e = .returned (.tuple #[.pointer none, .int .i64 c]) ∧ c ≠ 0 ∧ Below S w w'
      | .ok m => ∃ T N, e = .returned (.tuple #[tp T, .int .i64 0]) ∧ Aside (Tr w' T N n m ∧ Sym m ∧ S ≤ N ∧ Below S w w')) → NewIs n r w e w') := fun e w' h => by
    unfold NewIs; rw [← HSS.out]; exact h
  clear HR HL HP hA
  go_loopg [22] len (fun kx s22 wr => ∃ j m : Nat, s22 = .int .i64 j ∧ j ≤ len ∧ len - j ≤ kx ∧ Aside (allP n m (ps.drop j) = A) ∧ Aside (Tr wr (S + 1) S n m ∧ Sym m) ∧ Aside (Below S w wr))
  case atStart => exact ⟨0, 0, rfl, Nat.zero_le _, by omega, HA0.out, ⟨HTR.out, sym_zero⟩, HB0.out⟩
  case round =>
    clear HA0 HTR HB0
    obtain ⟨j, m, rfl, hj, hjx, HJ, HT, HA⟩ := hrel
    by_cases hlt : j < len
    · obtain ⟨pb, po, rfl, c0, c1⟩ := HPC.out _ HA.out j hlt
      have hd := HD.out j m hlt
      rw [HJ.out] at hd
      clear HPC HD HE HSS
      generalize ps[j]! = p at c0 c1 hd
      obtain ⟨a, b⟩ := p
      simp only at c0 c1
      have hltz : (j : Int) < len := by omega
      have hjz : (0 : Int) ≤ (j : Int) := by omega
      cases hs : stepP n m (a, b) with
      | none => rw [hs] at hd; exact absurd hd HF.out.1
      | some q =>
        rw [hs] at hd
        cases q with
        | error c =>
          have hrc := HF.out.2.1 c hd
          subst hrc
          have HJE := Lib.hid (fun W hW => join_err (S + 1) S n m a b c hs W hW)
          clear hs hd HJ
          go_wp2_with fail
          have HB2 : Aside (Below S w (wr.alloc (.cells #[.int .i64 a, .int .i64 b] 31))) := HA.out.trans ((Below.refl _ _).alloc (by
            obtain ⟨⟨_, ord, ht, _, _⟩, _⟩ := HT.out
            have := ht.lt
            omega) _)
          have HT2 : Aside (Tr (wr.alloc (.cells #[.int .i64 a, .int .i64 b] 31)) (S + 1) S n m) := HT.out.1.below ((Below.refl _ _).alloc (Nat.le_refl _) _)
          have hsz : S ≤ (wr.alloc (.cells #[.int .i64 a, .int .i64 b] 31)).heap.size := by
            obtain ⟨⟨_, ord, ht, _, _⟩, _⟩ := HT.out
            have := ht.lt
            simp; omega
          clear c0 c1
          generalize (wr.alloc (.cells #[.int .i64 a, .int .i64 b] 31)) = w2 at *
          refine (HJE.out _ HT2.out).mono ?_
          rintro e w3 ⟨rfl, hc0, hb3⟩
          have hcq : ((c : Int) == 0) = false := by rw [beq_eq_false_iff_ne]; omega
          have HB3 : Aside (Below S w w3) := HB2.out.trans (hb3.mono hsz)
          have HC0 := Lib.hid hc0
          clear hb3 hc0
          go_wp2_with fail
          go_ret2
          exact HNI.out _ _ ⟨rfl, HC0.out, HB3.out⟩
        | ok m' =>
          have HJO := Lib.hid (fun W hW => join_ok (S + 1) S n m m' a b hs HT.out.2 W hW)
          have HD2 := Lib.hid hd.symm
          clear hs hd HJ
          go_wp2_with fail
          have HB2 : Aside (Below S w (wr.alloc (.cells #[.int .i64 a, .int .i64 b] 31))) := HA.out.trans ((Below.refl _ _).alloc (by
            obtain ⟨⟨_, ord, ht, _, _⟩, _⟩ := HT.out
            have := ht.lt
            omega) _)
          have HT2 : Aside (Tr (wr.alloc (.cells #[.int .i64 a, .int .i64 b] 31)) (S + 1) S n m) := HT.out.1.below ((Below.refl _ _).alloc (Nat.le_refl _) _)
          clear c0 c1
          generalize (wr.alloc (.cells #[.int .i64 a, .int .i64 b] 31)) = w2 at *
          refine (HJO.out _ HT2.out).mono ?_
          rintro e w3 ⟨rfl, H3⟩
          have HB3 : Aside (Below S w w3) := HB2.out.trans H3.out.2.2
          go_wp2_with fail
          go_roundg (len - (j + 1))
          case measure => omega
          case rel => exact ⟨j + 1, m', by go_num, hlt, Nat.le_refl _, HD2.out, ⟨H3.out.1, H3.out.2.1⟩, HB3.out⟩
    · obtain rfl : j = len := by omega
      have hf := HF.out.2.2 m (HJ.out.symm.trans (HE.out m))
      have h1z : (1 : Int) ≤ (n : Int) := by omega
      clear HPC HD HE HJ HF HSS
      by_cases hl : (j : Int) ≠ (n : Int) - 1
      · rw [if_pos hl] at hf
        subst hf
        have hq : ((j : Int) == (n : Int) - 1) = false := by rw [beq_eq_false_iff_ne]; exact hl
        clear hl
        go_wp2_with fail
        go_ret2
        exact HNI.out _ _ ⟨rfl, by decide, HA.out⟩
      · rw [if_neg hl] at hf
        subst hf
        have hq : ((j : Int) == (n : Int) - 1) = true := by rw [beq_iff_eq]; omega
        clear hl
        go_wp2_with fail
        go_ret2
        exact HNI.out _ _ ⟨_, _, rfl, HT.out.1, HT.out.2, Nat.le_refl _, HA.out⟩
end Go.Proofs.Ytnkceajhhiidcaa
