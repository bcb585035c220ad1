/- CodecGives' closure: it reads byte by byte, and holds each against the text. -/
import Derived.Test.YtnpbnjddlchmcaaNewC
namespace Go.Proofs.Ytnpbnjddlchmcaa
open Go.RowKit Go.Shelf Go.Sort
open Go.Proofs
set_option maxRecDepth 100000

theorem bstr_size (l : List UInt8) : (bstr l).size = l.length := by simp [bstr, ByteArray.size]
theorem drop_cons (l : List UInt8) (j : Nat) (h : j < l.length) : l.drop j = l.getD j 0 :: l.drop (j + 1) := by
  rw [List.drop_eq_getElem_cons h, List.getD_eq_getElem?_getD, List.getElem?_eq_getElem h, Option.getD_some]
/-- No cell of the block holds a byte. -/
def NI (W : World) (K : Nat) : Prop := ∀ i c, W.cell? ⟨K, i, none⟩ ≠ some (.int .u8 c)
theorem NI.kb {S : Nat → Prop} {w w' : World} {K : Nat} (h : NI w K) (hk : Kb S w w') (hK : K < w.heap.size) (hS : ¬ S K) : NI w' K := fun i c e => h i c ((hk.cell (p := ⟨K, i, none⟩) hK hS).symm.trans e)
theorem NI.set {w : World} {K : Nat} (h : NI w K) (v : Int) (u : Value) (hu : w.cell? ⟨K, 0, none⟩ = some u) : NI (w.setCell ⟨K, 0, none⟩ (.int .i64 v)) K := fun i c e => by
  by_cases hi : i = 0
  · subst hi
    rw [World.cell?_setCell_same w ⟨K, 0, none⟩ _ hu] at e
    cases e
  · rw [World.cell?_setCell_other w ⟨K, 0, none⟩ ⟨K, i, none⟩ _ (by intro e; injection e; omega)] at e
    exact h i c e
theorem Rd.set {w : World} {R K : Nat} {l : List UInt8} (h : Rd w R l) (hn : NI w K) (hK : K < R) (u : Value) : Rd (w.setCell ⟨K, 0, none⟩ u) R l := by
  have hk : Kb (fun k => k = K) w (w.setCell ⟨K, 0, none⟩ u) := Kb.setCell (S := fun k => k = K) w ⟨K, 0, none⟩ rfl u
  obtain ⟨ao, cap, h1, h2, h3⟩ := h.is
  refine ⟨Nat.lt_of_lt_of_le h.lt hk.size, (hk.frozen (p := ⟨R, 0, none⟩) h.lt (by show ¬ R = K; omega)).trans h.fr, ao, cap, (hk.cell (p := ⟨R, 0, none⟩) h.lt (by show ¬ R = K; omega)).trans h1, h2, ?_⟩
  rcases h3 with q | ⟨b, off, q3, q4, q5, q6⟩
  · exact Or.inl q
  · by_cases hl : l = []
    · exact Or.inl hl
    · have hbE : ¬ b = K := by
        rintro rfl
        exact hn _ _ (q6 0 (by cases l <;> simp_all))
      exact Or.inr ⟨b, off, q3, q4, Nat.lt_of_lt_of_le q5 hk.size, fun j hj => (hk.cell (p := ⟨b, off + j, none⟩) q5 hbE).trans (q6 j hj)⟩

/-- What it leaves: so many read, and counted. -/
def GivesPost (R K : Nat) (l : List UInt8) (n : Nat) (w : World) (e : Ending) (w' : World) : Prop :=
  Kb (fun k => k = R ∨ k = K) w w' ∧ ((∃ l', e = .returned (.tuple #[]) ∧ Rd w' R l' ∧ (l' = l.drop n ∧ n ≤ l.length ∧ w'.cell? ⟨K, 0, none⟩ = some (.int .i64 n))) ∨ (e = .panicked gv ∧ (l.length < n ∧ w'.cell? ⟨K, 0, none⟩ = some (.int .i64 l.length))))

set_option maxHeartbeats 4000000 in
theorem gives1_c (R N S K n : Nat) (l : List UInt8) (w : World) (h : Rd w R l) (hS : S < R) (hK : K < R) (hSK : S ≠ K) (hn : n ≤ 255)
    (c0 : w.cell? ⟨N, 0, none⟩ = some (.int .i64 n)) (c1 : w.cell? ⟨S, 0, none⟩ = some (.string (bstr l))) (c2 : w.cell? ⟨K, 0, none⟩ = some (.int .i64 0)) (cf : w.frozen? ⟨K, 0, none⟩ = false) (hni : NI w K) :
    Calls Try.prog 34 #[.pointer (some ⟨R, 0, none⟩), .pointer (some ⟨N, 0, none⟩), .pointer (some ⟨S, 0, none⟩), .pointer (some ⟨K, 0, none⟩)] w (GivesPost R K l n w) := by
  have hRw := h.lt
  have H := Lib.hid h
  have HNI : Aside (NI w K) := hni
  clear h hni
  go_enter Try.func34, Try.ntmps34
  go_wp2_with fail
  go_loopg [7] n (fun kx s7 wr => ∃ j : Nat, s7 = .int .i64 j ∧ j ≤ n ∧ j ≤ l.length ∧ n - j ≤ kx ∧ Aside (Rd wr R (l.drop j)) ∧ Aside (Kb (fun k => k = R ∨ k = K) w wr) ∧ wr.cell? ⟨S, 0, none⟩ = some (.string (bstr l)) ∧ wr.cell? ⟨K, 0, none⟩ = some (.int .i64 j) ∧ wr.frozen? ⟨K, 0, none⟩ = false ∧ Aside (NI wr K))
  case atStart => exact ⟨0, rfl, Nat.zero_le _, Nat.zero_le _, by omega, by show Rd w R _; simpa using H.out, Kb.refl _ _, c1, c2, cf, HNI.out⟩
  case round =>
    clear c0 c1 c2 cf HNI
    obtain ⟨j, rfl, hj, hjl, hjx, HR, HK, c1, c2, cf, HNI⟩ := hrel
    have hSw : S < wr.heap.size := by have := HR.out.lt; omega
    have hKw : K < wr.heap.size := by have := HR.out.lt; omega
    by_cases hlt : j < n
    · have hjz : (j : Int) < (n : Int) := by omega
      by_cases hjn : j < l.length
      · have hR := HR.out
        rw [drop_cons l j hjn] at hR
        have hb := byte_ok R (l.getD j 0) (l.drop (j + 1)) wr hR
        have HBt := Lib.hid hb
        have hjs : j < (bstr l).size := by rw [bstr_size]; exact hjn
        have hne : (((l[j]'hjn).toNat : Int) != wrap64 (((bstr l)[j]'hjs).toNat : Int)) = false := by
          have := (l[j]'hjn).toNat_lt
          rw [show (bstr l)[j]'hjs = l[j]'hjn from rfl]
          unfold wrap64
          simp only [bne_eq_false_iff_eq]
          omega
        have hsz : (j : Int) < ((bstr l).size : Int) := by rw [bstr_size]; omega
        have hj0 : (0 : Int) ≤ (j : Int) := by omega
        clear hR hb
        go_wp2_with fail
        refine HBt.out.mono ?_
        rintro e w2 ⟨rfl, hA⟩
        have d1 := (hA.out.2.cell (p := ⟨S, 0, none⟩) hSw (by show ¬ S = R; omega)).trans c1
        have d2 := (hA.out.2.cell (p := ⟨K, 0, none⟩) hKw (by show ¬ K = R; omega)).trans c2
        have df := (hA.out.2.frozen (p := ⟨K, 0, none⟩) hKw (by show ¬ K = R; omega)).trans cf
        have HK2 : Aside (Kb (fun k => k = R ∨ k = K) w w2) := HK.out.trans (hA.out.2.mono (fun _ _ h => Or.inl h))
        have HR2 : Aside (Rd w2 R (l.drop (j + 1))) := hA.out.1
        have HNI2 : Aside (NI w2 K) := HNI.out.kb hA.out.2 hKw (by show ¬ K = R; omega)
        have hS2 : S < w2.heap.size := Nat.lt_of_lt_of_le hSw hA.out.2.size
        clear hA HBt c1 c2 cf
        go_wp2_with fail
        go_roundg (n - (j + 1))
        case measure => omega
        case rel => exact ⟨j + 1, by go_num, hlt, hjn, Nat.le_refl _, HR2.out.set HNI2.out hK _, HK2.out.trans (Kb.setCell (S := fun k => k = R ∨ k = K) w2 ⟨K, 0, none⟩ (Or.inr rfl) _),
            (World.cell?_setCell_other w2 ⟨K, 0, none⟩ ⟨S, 0, none⟩ _ (by intro e; injection e; omega)).trans d1, by rw [World.cell?_setCell_same w2 ⟨K, 0, none⟩ _ d2]; rfl, by rw [World.frozen?_setCell]; exact df, HNI2.out.set _ _ d2⟩
      · obtain rfl : j = l.length := by omega
        have hR := HR.out
        rw [List.drop_length] at hR
        have hb := byte_no R wr hR
        have HBt := Lib.hid hb
        clear hR hb
        go_wp2_with fail
        refine HBt.out.mono ?_
        rintro e w2 ⟨rfl, rfl⟩
        exact ⟨rfl, HK.out, Or.inr ⟨rfl, hlt, c2⟩⟩
    · obtain rfl : j = n := by omega
      clear hj hjx hlt
      go_wp2_with fail
      go_end0
      exact ⟨HK.out, Or.inl ⟨_, rfl, HR.out, rfl, hjl, c2⟩⟩
end Go.Proofs.Ytnpbnjddlchmcaa
