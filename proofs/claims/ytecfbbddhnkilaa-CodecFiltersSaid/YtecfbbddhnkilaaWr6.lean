/- codec.Event; what each law of layer 4 begins with. -/
import Derived.Test.YtecfbbddhnkilaaWr5
namespace Go.Proofs.Ytecfbbddhnkilaa
open Go.RowKit Go.Shelf Go.Sort
open Go.Proofs
set_option maxRecDepth 100000

theorem Wr.new (w : World) : Wr (w.alloc (.cells #[.slice none 0 0] 34)) w.heap.size (w.heap.size + 1) [] :=
  ⟨Nat.lt_succ_self _, by simp, alloc_frozen _ _ _ _, none, 0, World.cell?_alloc_new _ _ _ 0, World.ownsRow_nil _ _ _ _⟩

set_option maxHeartbeats 2000000 in
theorem codecEvent_c (sc : ByteArray) (ao : Option Addr) (cap : Nat) (es : List At) (w : World) (hs : SliceU w.heap.size w ao es) (ht : ∀ a ∈ es, TellA a) (hsc : sc.size ≤ 255) (hl : es.length ≤ 255) :
    Calls Try.prog 13 #[.agg #[.string sc, .slice ao es.length cap]] w fun e w' => ∃ ao' cap', e = .returned (.slice ao' (encE sc es).length cap') ∧ Aside (w'.ownsRow w.heap.size 5 1 (.slice ao' (encE sc es).length cap') (encE sc es).length ((encE sc es).map encB) ∧ Below w.heap.size w w') := by
  obtain ⟨w1, hw1⟩ : ∃ w1, w1 = w.alloc (.cells #[.string sc, .slice ao es.length cap] 46) := ⟨_, rfl⟩
  have hz : w1.heap.size = w.heap.size + 1 := by rw [hw1]; simp
  have hb1 : Below w.heap.size w w1 := by rw [hw1]; exact (Below.refl _ _).alloc (Nat.le_refl _) _
  have hW := Wr.new w1
  have hbA : Below w.heap.size w (w1.alloc (.cells #[.slice none 0 0] 34)) := hb1.alloc hb1.size _
  have hen : (encE sc es).length < 900000 := by
    have h1 := encAts_len es ht
    simp only [encE, List.length_append, encT_len, List.length_cons]; omega
  have hE := wevent_c w1.heap.size (w1.heap.size + 1) sc ao cap es _ hW (by
    rcases hs.below hbA (Nat.le_refl _) with h | ⟨b, off, h1, h2, h3⟩
    · exact Or.inl h
    · exact Or.inr ⟨b, off, h1, by omega, h3⟩) ht hsc hl
  have HE := Lib.hid hE
  have HWn := Lib.hid hW
  have HEN := Lib.hid hen
  have HBA := Lib.hid hbA
  generalize encE sc es = bs at *
  generalize es.length = n at *
  clear hs ht hsc hl hE hW hen hbA hb1
  rw [hw1] at HE HWn HBA hz
  clear hw1 w1
  have e1 : (w.alloc (.cells #[.string sc, .slice ao n cap] 46)).heap.size = w.heap.size + 1 := by simp
  rw [e1] at HE HWn
  clear hz e1
  go_enter Try.func13, Try.ntmps13
  go_wp2_with fail
  refine HE.out.mono ?_
  rintro e w2 ⟨rfl, hA⟩
  go_wp2_with fail
  refine (wbytes_c _ _ bs w2 hA.out.1 (by have := HEN.out; omega)).mono ?_
  rintro e w3 ⟨ao', cap', rfl, hB⟩
  have hb2 : Below w.heap.size w w2 := HBA.out.trans (hA.out.2.under HWn.out (Nat.le_succ _))
  have hown : w3.ownsRow w.heap.size 5 1 (.slice ao' bs.length cap') bs.length (bs.map encB) := by
    have := hB.out.1
    refine ⟨this.1, ?_⟩
    rcases this.2 with h | ⟨g, c2, cur, hv, hg, hr⟩
    · exact Or.inl h
    · exact Or.inr ⟨g, c2, cur, hv, Nat.le_trans hb2.size hg, hr⟩
  have HF : Aside (w3.ownsRow w.heap.size 5 1 (.slice ao' bs.length cap') bs.length (bs.map encB) ∧ Below w.heap.size w w3) := ⟨hown, hb2.trans (hB.out.2.mono hb2.size)⟩
  clear hB hown hb2 HE
  go_wp2_with fail
  go_ret
  exact ⟨_, _, rfl, HF.out⟩
end Go.Proofs.Ytecfbbddhnkilaa
