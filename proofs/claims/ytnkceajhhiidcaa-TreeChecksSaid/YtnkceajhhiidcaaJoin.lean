/- tree.join by its contract; what is told of pairs one by one. -/
import Derived.Test.YtnkceajhhiidcaaAddC
namespace Go.Proofs.Ytnkceajhhiidcaa
open Go.RowKit Go.Shelf Go.Sort
open Go.Proofs
set_option maxRecDepth 100000

/-- Whoever is a neighbour has one. -/
def Sym (m : Nat) : Prop := ∀ x y, x < 6 → y < 6 → m.testBit (6 * x + y) = m.testBit (6 * y + x)
theorem sym_zero : Sym 0 := fun x y _ _ => by simp
theorem sym_put {m a b : Nat} (h : Sym m) (ha : a < 6) (hb : b < 6) : Sym (putE m a b) := fun x y hx hy => by
  unfold putE
  rw [put1_bit, put1_bit, put1_bit, put1_bit, h x y hx hy]
  have e1 : decide (6 * b + a = 6 * x + y) = decide (6 * a + b = 6 * y + x) := decide_eq_decide.2 ⟨fun h => by omega, fun h => by omega⟩
  have e2 : decide (6 * a + b = 6 * x + y) = decide (6 * b + a = 6 * y + x) := decide_eq_decide.2 ⟨fun h => by omega, fun h => by omega⟩
  rw [e1, e2, Bool.or_assoc, Bool.or_assoc, Bool.or_comm (decide _) (decide _)]
theorem scan_nomem {g : Nat → Option (List Nat)} {a : Nat} {fr : Int} {b : Nat} {y : Nat} {r : List Nat} (hb : g b = some (y :: r)) (hfr : (b : Int) ≠ fr) : ∀ l, scanW g a fr l = some [] → b ∉ l
  | [], _ => by simp
  | x :: l, h => by
    unfold scanW at h
    rw [List.mem_cons]
    rintro (rfl | hm)
    · rw [if_neg hfr, hb] at h
      simp at h
    · split at h
      · exact scan_nomem hb hfr l h hm
      · split at h
        · cases h
        · exact scan_nomem hb hfr l h hm
        · simp at h
theorem way_nomem {k m a b : Nat} (h : wayF (k + 2) m a b (-1) = some []) (hab : a ≠ b) : b ∉ row m a := by
  unfold wayF at h
  rw [if_neg hab] at h
  exact scan_nomem (y := b) (r := []) (by unfold wayF; rw [if_pos rfl]) (by omega) _ h

set_option maxHeartbeats 4000000 in
theorem join_err (T N n m : Nat) (a b : Int) (c : Nat) (hs : stepP n m (a, b) = some (.error c)) (w : World) (h : Tr w T N n m) :
    Calls Try.prog 14 #[tp T, .int .i64 a, .int .i64 b] w fun e w' => e = .returned (.int .i64 c) ∧ c ≠ 0 ∧ Below w.heap.size w w' := by
  have HA := Lib.hid (fun w h => has_c T N n m a w h)
  have HB := Lib.hid (fun w h => has_c T N n m b w h)
  have HT := Lib.hid h
  have e1 : decide (0 ≤ a) = true ↔ 0 ≤ a := by simp
  unfold stepP at hs
  simp only at hs
  by_cases h0 : a = b
  · rw [if_pos (Or.inl h0)] at hs
    injection hs with hs; injection hs with hs; subst hs
    have hq : (a == b) = true := beq_iff_eq.2 h0
    clear h e1 h0
    go_enter Try.func14, Try.ntmps14
    go_wp2_with fail
    go_ret
    exact ⟨rfl, by decide, Below.refl _ _⟩
  · have hq : (a == b) = false := beq_eq_false_iff_ne.2 h0
    by_cases h1 : 0 ≤ a ∧ a < n
    · have hha : hasB n a = true := by unfold hasB; simp [h1]
      rw [hha] at HA
      by_cases h2 : 0 ≤ b ∧ b < n
      · have hhb : hasB n b = true := by unfold hasB; simp [h2]
        rw [hhb] at HB
        rw [if_neg (by rintro (h | h | h); exact h0 h; exact h h1; exact h h2)] at hs
        obtain ⟨x, rfl⟩ := Int.eq_ofNat_of_zero_le h1.1
        obtain ⟨y, rfl⟩ := Int.eq_ofNat_of_zero_le h2.1
        simp only [Int.toNat_natCast] at hs
        have hx : x < n := by omega
        cases hw : wayF 7 m x y (-1) with
        | none => rw [hw] at hs; cases hs
        | some l =>
          rw [hw] at hs
          cases l with
          | nil => simp at hs
          | cons z r =>
            simp at hs
            subst hs
            have HW : Aside (Calls Try.prog 17 #[tp T, .int .i64 x, .int .i64 y, .int .i64 (-1)] w fun e w' => ∃ g c L, e = .returned (.slice (some ⟨g, 0, none⟩) L c) ∧ Below w.heap.size w w') :=
              (way_c T N n m y 7 x (-1) (z :: r) (by omega) hw hx w h).mono fun e w' ⟨g, c, h1, _, _, h4⟩ => ⟨g, c, _, h1, h4⟩
            clear h h0 h1 h2 e1 hw hha hhb
            go_enter Try.func14, Try.ntmps14
            go_wp2_with (first | (go_at_call 15; first | (with_reducible refine (HA.out _ HT.out).mono ?_) | (with_reducible refine (HB.out _ HT.out).mono ?_)); rintro e w' ⟨rfl, rfl⟩)
            refine HW.out.mono ?_
            rintro e w2 ⟨g, c, L, rfl, hb⟩
            go_wp2_with fail
            go_ret
            exact ⟨rfl, by decide, hb⟩
      · have hhb : hasB n b = false := by unfold hasB; simp; omega
        rw [hhb] at HB
        rw [if_pos (Or.inr (Or.inr h2))] at hs
        injection hs with hs; injection hs with hs; subst hs
        clear h h0 h1 h2 e1 hha hhb
        go_enter Try.func14, Try.ntmps14
        go_wp2_with (first | (go_at_call 15; first | (with_reducible refine (HA.out _ HT.out).mono ?_) | (with_reducible refine (HB.out _ HT.out).mono ?_)); rintro e w' ⟨rfl, rfl⟩)
        go_ret
        exact ⟨rfl, by decide, Below.refl _ _⟩
    · have hha : hasB n a = false := by unfold hasB; simp; omega
      rw [hha] at HA
      rw [if_pos (Or.inr (Or.inl h1))] at hs
      injection hs with hs; injection hs with hs; subst hs
      clear h h0 h1 e1 hha
      go_enter Try.func14, Try.ntmps14
      go_wp2_with (first | (go_at_call 15; first | (with_reducible refine (HA.out _ HT.out).mono ?_)); rintro e w' ⟨rfl, rfl⟩)
      go_ret
      exact ⟨rfl, by decide, Below.refl _ _⟩
/-- What a pair that may be tells of itself. -/
theorem step_ok {n m m' : Nat} {a b : Int} (hs : stepP n m (a, b) = some (.ok m')) : ∃ x y : Nat, a = x ∧ b = y ∧ x < n ∧ y < n ∧ x ≠ y ∧ wayF 7 m x y (-1) = some [] ∧ m' = putE m x y := by
  unfold stepP at hs
  simp only at hs
  split at hs
  · simp at hs
  · rename_i h
    have h0 : a ≠ b := fun e => h (Or.inl e)
    have h1 : 0 ≤ a ∧ a < n := Classical.byContradiction fun e => h (Or.inr (Or.inl e))
    have h2 : 0 ≤ b ∧ b < n := Classical.byContradiction fun e => h (Or.inr (Or.inr e))
    obtain ⟨x, rfl⟩ := Int.eq_ofNat_of_zero_le h1.1
    obtain ⟨y, rfl⟩ := Int.eq_ofNat_of_zero_le h2.1
    simp only [Int.toNat_natCast] at hs
    refine ⟨x, y, rfl, rfl, by omega, by omega, by omega, ?_⟩
    split at hs
    · simp at hs
    · rename_i hw
      injection hs with hs; injection hs with hs
      exact ⟨hw, hs.symm⟩
    · simp at hs
set_option maxHeartbeats 4000000 in
theorem join_ok (T N n m m' : Nat) (a b : Int) (hs : stepP n m (a, b) = some (.ok m')) (hsy : Sym m) (w : World) (h : Tr w T N n m) :
    Calls Try.prog 14 #[tp T, .int .i64 a, .int .i64 b] w fun e w' => e = .returned (.int .i64 0) ∧ Aside (Tr w' T N n m' ∧ Sym m' ∧ Below N w w') := by
  obtain ⟨x, y, rfl, rfl, hx, hy, hxy, hw, rfl⟩ := step_ok hs
  have hn := h.hn
  have hha : hasB n x = true := by unfold hasB; simp [hx]
  have hhb : hasB n y = true := by unfold hasB; simp [hy]
  have HA := Lib.hid (fun w h => has_c T N n m x w h)
  have HB := Lib.hid (fun w h => has_c T N n m y w h)
  rw [hha] at HA
  rw [hhb] at HB
  have HT := Lib.hid h
  have n1 : y ∉ row m x := way_nomem hw hxy
  have n2 : x ∉ row m y := fun e => n1 (mem_row.2 ⟨by omega, by rw [hsy x y (by omega) (by omega)]; exact (mem_row.1 e).2⟩)
  have n3 : y ∉ row (put1 m x y) x := by rw [row_other (by omega) hxy]; exact n1
  have HW : Aside (Calls Try.prog 17 #[tp T, .int .i64 x, .int .i64 y, .int .i64 (-1)] w fun e w' => e = .returned (.slice none 0 0) ∧ Below w.heap.size w w') :=
    (way_c T N n m y 7 x (-1) [] (by omega) hw hx w h).mono fun e w' ⟨g, c, h1, _, _, h4⟩ => ⟨h1, h4⟩
  have H1 : Aside (∀ W, Tr W T N n m → Calls Try.prog 18 #[tp T, .int .i64 x, .int .i64 y] W fun e w' => e = .returned (.tuple #[]) ∧ Aside (Tr w' T N n (put1 m x y) ∧ Below N W w')) := fun W hW => add_c T N n m x y hx hy n2 W hW
  have H2 : Aside (∀ W, Tr W T N n (put1 m x y) → Calls Try.prog 18 #[tp T, .int .i64 y, .int .i64 x] W fun e w' => e = .returned (.tuple #[]) ∧ Aside (Tr w' T N n (putE m x y) ∧ Below N W w')) := fun W hW => add_c T N n (put1 m x y) y x hy hx n3 W hW
  have HS : Aside (Sym (putE m x y)) := sym_put hsy (by omega) (by omega)
  have hq : ((x : Int) == (y : Int)) = false := by rw [beq_eq_false_iff_ne]; omega
  have HNl : Aside (N ≤ w.heap.size) := by
    obtain ⟨_, ord, ht, _, _⟩ := h
    have := ht.lt
    show _ ≤ _
    omega
  clear h hs hsy hw hha hhb n1 n2 n3 hxy
  go_enter Try.func14, Try.ntmps14
  go_wp2_with (first | (go_at_call 15; first | (with_reducible refine (HA.out _ HT.out).mono ?_) | (with_reducible refine (HB.out _ HT.out).mono ?_)); rintro e w' ⟨rfl, rfl⟩)
  refine HW.out.mono ?_
  rintro e w2 ⟨rfl, hb⟩
  have HT2 := Lib.hid (HT.out.below hb)
  have HB2 : Aside (Below N w w2) := hb.mono HNl.out
  clear hb
  go_wp2_with fail
  refine (H1.out _ HT2.out).mono ?_
  rintro e w3 ⟨rfl, HR3⟩
  go_wp2_with fail
  refine (H2.out _ HR3.out.1).mono ?_
  rintro e w4 ⟨rfl, HR4⟩
  go_wp2_with fail
  go_ret
  exact ⟨rfl, HR4.out.1, HS.out, HB2.out.trans (HR3.out.2.trans HR4.out.2)⟩
end Go.Proofs.Ytnkceajhhiidcaa
