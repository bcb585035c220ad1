/- What the laws of layer 10 share. -/
import Derived.Test.YtjnfbinomljocaaDoorAcL
import Derived.Test.YtjnfbinomljocaaDoorAcQ
import Derived.Test.YtjnfbinomljocaaDoorOpenRu
import Derived.Test.YtjnfbinomljocaaDoorGaJ
namespace Go.Proofs.YtjnfbinomljocaaDoor
open Go.RowKit Go.Shelf Go.Sort
open Go.Proofs
set_option maxRecDepth 100000

theorem and4 (n : Int) : bits .and .i64 n 3 = 0 ∨ bits .and .i64 n 3 = 1 ∨ bits .and .i64 n 3 = 2 ∨ bits .and .i64 n 3 = 3 := by
  have h : ∃ m : Nat, m < 4 ∧ bits .and .i64 n 3 = IntKind.i64.wrap m := by
    refine ⟨((BitVec.ofInt 64 n) &&& (BitVec.ofInt 64 3)).toNat, ?_, rfl⟩
    rw [BitVec.toNat_and, show (BitVec.ofInt 64 3).toNat = 2 ^ 2 - 1 from by decide, Nat.and_two_pow_sub_one_eq_mod]
    omega
  obtain ⟨m, hm, h⟩ := h
  rw [h]
  have : m = 0 ∨ m = 1 ∨ m = 2 ∨ m = 3 := by omega
  rcases this with rfl | rfl | rfl | rfl <;> decide
/-- One of four names. -/
def who4 (b : Int) : ByteArray := if bits .and .i64 b 3 = 0 then ⟨#[97]⟩ else if bits .and .i64 b 3 = 1 then ⟨#[98]⟩ else if bits .and .i64 b 3 = 2 then ⟨#[99]⟩ else ⟨#[100]⟩
/-- What a law knows of its rules when they are few and short. -/
theorem lightR_all {rs : List Ru} {w : World} (h : lightR rs = true) (hq : ∀ q ∈ rs, RuIs MB w q) : rs.length ≤ 80 ∧ ∀ q ∈ rs, q.sc.size ≤ 2000 ∧ q.cs.length ≤ 20 := by
  unfold lightR at h
  simp only [Bool.and_eq_true, List.all_eq_true, decide_eq_true_eq] at h
  refine ⟨h.2, fun q hm => ?_⟩
  have h1 := h.1 q hm
  unfold light1 at h1
  rw [Bool.and_eq_true] at h1
  have := light_all (by decide) h1.2 (hq q hm).1
  exact ⟨this.1, this.2.1⟩
theorem ruIs_ok {q : Ru} {w : World} (hq : RuIs MB w q) (hr : rrightB q = true) (hk : q.k = 1 ∨ q.k = 2) : OkR q := by
  refine ⟨fun c hc => (hq.1.2.1 c hc).1, by have := hq.1.2.2.1; unfold MB at this; omega, ?_⟩
  unfold rrightB at hr
  have h0 : ¬ q.k = 0 := by omega
  rw [if_neg h0, if_pos hk, Bool.and_eq_true] at hr
  have := rightF_size hr.2
  omega
theorem ruIs_ok2 {q : Ru} {w : World} (hq : RuIs MB w q) : (∀ c ∈ q.cs, AtOk c.a ∧ c.a.s.size ≤ 9223372036854775807) ∧ q.cs.length ≤ 4611686018427387904 :=
  ⟨fun c hc => ⟨(hq.1.2.1 c hc).1, Nat.le_trans (hq.1.2.1 c hc).2.2.2 (by decide)⟩, by have := hq.1.2.2.1; unfold MB at this; omega⟩
theorem mayPub_ref {rs : List Ru} (h : ∀ r ∈ rs, rrightB r = true) (tn : Int) (who es : ByteArray) (l : List At) : (!decide (rhomeI rs tn who < 0) && rs.any fun r => ofR r 1 tn who && matchF r.sc r.cs es l) = mayPub rs tn who es l := by
  rw [rhome_sign h, Bool.not_not]; rfl
theorem mayObs_ref {rs : List Ru} (h : ∀ r ∈ rs, rrightB r = true) (tn : Int) (who gs : ByteArray) (ds : List Cn) : (!decide (rhomeI rs tn who < 0) && rs.any fun r => ofR r 2 tn who && coversF r.sc r.cs gs ds) = mayObs rs tn who gs ds := by
  rw [rhome_sign h, Bool.not_not]; rfl
/-- Home, and the reference's: either none, or both one. -/
theorem home_ways {rs : List Ru} (h : ∀ r ∈ rs, rrightB r = true) (tn : Int) (who : ByteArray) : (homeB rs tn who = false ∧ homeI rs tn who = 0 ∧ rhomeI rs tn who = -1) ∨ (homeB rs tn who = true ∧ rhomeI rs tn who = homeI rs tn who ∧ 0 ≤ homeI rs tn who) := by
  rw [rhomeI_home tn who _ rs rfl]
  unfold homeB homeI
  cases hr : homeR rs tn who with
  | none => exact Or.inl ⟨rfl, rfl, rfl⟩
  | some b => exact Or.inr ⟨rfl, rfl, homeR_nonneg h b hr⟩
end Go.Proofs.YtjnfbinomljocaaDoor
