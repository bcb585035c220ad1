/- Blocks that hold no bytes; a Reader while such a block is set; numbers and bytes that were laid, read. -/
import Derived.Test.YtecfbbddhnkilaaEnc
import Derived.Test.YtecfbbddhnkilaaRd8
namespace Go.Proofs.Ytecfbbddhnkilaa
open Go.RowKit Go.Shelf Go.Sort
open Go.Proofs
set_option maxRecDepth 100000

theorem bstr_size (l : List UInt8) : (bstr l).size = l.length := by simp [bstr, ByteArray.size]
theorem drop_cons (l : List UInt8) (j : Nat) (h : j < l.length) : l.drop j = l.getD j 0 :: l.drop (j + 1) := by
  rw [List.drop_eq_getElem_cons h, List.getD_eq_getElem?_getD, List.getElem?_eq_getElem h, Option.getD_some]
/-- No cell of the block holds a byte. -/
def NI (W : World) (K : Nat) : Prop := ∀ i c, W.cell? ⟨K, i, none⟩ ≠ some (.int .u8 c)
theorem NI.kb {S : Nat → Prop} {w w' : World} {K : Nat} (h : NI w K) (hk : Kb S w w') (hK : K < w.heap.size) (hS : ¬ S K) : NI w' K := fun i c e => h i c ((hk.cell (p := ⟨K, i, none⟩) hK hS).symm.trans e)
theorem NI.set {w : World} {K : Nat} (h : NI w K) (v : Int) (u : Value) (hu : w.cell? ⟨K, 0, none⟩ = some u) : NI (w.setCell ⟨K, 0, none⟩ (.int .i64 v)) K := fun i c e => by
  by_cases hi : i = 0
  · subst hi
    rw [World.cell?_setCell_same w ⟨K, 0, none⟩ _ hu] at e
    cases e
  · rw [World.cell?_setCell_other w ⟨K, 0, none⟩ ⟨K, i, none⟩ _ (by intro e; injection e; omega)] at e
    exact h i c e
theorem Rd.set {w : World} {R K : Nat} {l : List UInt8} (h : Rd w R l) (hn : NI w K) (hK : K < R) (u : Value) : Rd (w.setCell ⟨K, 0, none⟩ u) R l := by
  have hk : Kb (fun k => k = K) w (w.setCell ⟨K, 0, none⟩ u) := Kb.setCell (S := fun k => k = K) w ⟨K, 0, none⟩ rfl u
  obtain ⟨ao, cap, h1, h2, h3⟩ := h.is
  refine ⟨Nat.lt_of_lt_of_le h.lt hk.size, (hk.frozen (p := ⟨R, 0, none⟩) h.lt (by show ¬ R = K; omega)).trans h.fr, ao, cap, (hk.cell (p := ⟨R, 0, none⟩) h.lt (by show ¬ R = K; omega)).trans h1, h2, ?_⟩
  rcases h3 with q | ⟨b, off, q3, q4, q5, q6⟩
  · exact Or.inl q
  · by_cases hl : l = []
    · exact Or.inl hl
    · have hbE : ¬ b = K := by
        rintro rfl
        exact hn _ _ (q6 0 (by cases l <;> simp_all))
      exact Or.inr ⟨b, off, q3, q4, Nat.lt_of_lt_of_le q5 hk.size, fun j hj => (hk.cell (p := ⟨b, off + j, none⟩) q5 hbE).trans (q6 j hj)⟩
theorem long_enc (R x : Nat) (t : List UInt8) (w : World) (h : Rd w R (encL x ++ t)) (hx : x < 2 ^ 64) :
    Calls Try.prog 39 #[.pointer (some ⟨R, 0, none⟩)] w fun e w' => e = .returned (.int .u64 (x : Int)) ∧ Aside (Rd w' R t ∧ Kb (· = R) w w') := by
  have := long_ok R _ w h (by simp [encL_length])
  have h1 : (encL x ++ t).take 8 = encL x := rfl
  have h2 : (encL x ++ t).drop 8 = t := rfl
  rw [h1, h2, be_encL x hx] at this
  exact this
theorem byte_enc (R j : Nat) (t : List UInt8) (w : World) (h : Rd w R (UInt8.ofNat j :: t)) (hj : j < 256) :
    Calls Try.prog 24 #[.pointer (some ⟨R, 0, none⟩)] w fun e w' => e = .returned (.int .i64 (j : Int)) ∧ Aside (Rd w' R t ∧ Kb (· = R) w w') := by
  have := byte_ok R _ t w h
  rw [UInt8.toNat_ofNat_of_lt' (by show j < 256; exact hj)] at this
  exact this
theorem NI.setB {w : World} {K : Nat} (h : NI w K) (v : Bool) (u : Value) (hu : w.cell? ⟨K, 0, none⟩ = some u) : NI (w.setCell ⟨K, 0, none⟩ (.bool v)) K := fun i c e => by
  by_cases hi : i = 0
  · subst hi
    rw [World.cell?_setCell_same w ⟨K, 0, none⟩ _ hu] at e
    cases e
  · rw [World.cell?_setCell_other w ⟨K, 0, none⟩ ⟨K, i, none⟩ _ (by intro e; injection e; omega)] at e
    exact h i c e
end Go.Proofs.Ytecfbbddhnkilaa
