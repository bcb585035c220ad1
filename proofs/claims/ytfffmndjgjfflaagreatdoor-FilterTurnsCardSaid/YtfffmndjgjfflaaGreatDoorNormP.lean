/- Filters brought to their Norm, plainly: conditions kept as they are, those spared that another one implies. -/
import Derived.Test.YtfffmndjgjfflaaGreatDoorGaD
import Derived.Test.YtfffmndjgjfflaaGreatDoorGaC
namespace Go.Proofs.YtfffmndjgjfflaaGreatDoor
open Go.RowKit Go.Shelf
open Go.Proofs
set_option maxRecDepth 100000

theorem right_kind {c : Cn} (h : crightB c = true) : KindB c.a := by
  unfold crightB vrightB at h
  simp only [Bool.and_eq_true, decide_eq_true_eq] at h
  unfold KindB
  omega
theorem canonC_not7 {c : Cn} (h : c.op ≠ 7) : canonC c = ⟨canonA c.a, c.op⟩ := by
  unfold canonC
  rw [if_neg (by simpa using h)]
theorem canonA_text {a : At} (h : a.k = 2) : (canonA a).s = a.s := by
  unfold canonA
  simp [h]
theorem canon_right {c : Cn} (h : crightB c = true) : crightB (canonC c) = true := by
  have hk := right_kind h
  unfold crightB at h ⊢
  rw [canonC_nm, canonC_op]
  simp only [Bool.and_eq_true] at h ⊢
  refine ⟨h.1, h.2.1, ?_⟩
  unfold canonC
  split
  · rfl
  · have e := canonA_k hk
    show vrightB (canonA c.a).k (canonA c.a).s = true
    rw [e]
    have h2 := h.2.2
    unfold vrightB at h2 ⊢
    simp only [Bool.and_eq_true, decide_eq_true_eq] at h2 ⊢
    refine ⟨h2.1, ?_⟩
    unfold canonA
    repeat' split
    all_goals first | exact h2.2 | (show (0 : Nat) ≤ 40; decide) | (show ((⟨#[]⟩ : ByteArray).size : Int) ≤ 40; decide) | skip
/-- What is kept says the same. -/
theorem canon_imp {c : Cn} (ho : OpB c) (hk : KindB c.a) : impliesB c (canonC c) = true ∧ impliesB (canonC c) c = true := by
  have nm := canonC_nm c
  have op := canonC_op c
  by_cases h7 : c.op = 7
  · rw [impliesB_iff, impliesB_iff]
    exact ⟨⟨by rw [nm], Or.inr (Or.inl (by rw [op]; exact h7))⟩, ⟨by rw [nm], Or.inr (Or.inl h7)⟩⟩
  · have hv2 := cvoid_canon c hk
    cases hv : cvoidB c
    · rw [hv] at hv2
      obtain ⟨nv, n6⟩ := notvoid hv h7
      have ek := canonA_k hk
      have c0 : cmpA c.a (canonA c.a) = 0 := by rw [cmpA_canon c.a c.a hk rfl, cmpA_self]
      have c1 : cmpA (canonA c.a) c.a = 0 := by rw [cmpA_neg c.a (canonA c.a) ek.symm, c0]; rfl
      have nv2 : voidB (canonA c.a).k (canonA c.a).x = false := by rw [voidB_canon c.a hk]; exact nv
      rw [impliesB_iff, impliesB_iff]
      have e := canonC_not7 h7
      have k1 : coreB c (canonC c) = true ∧ coreB (canonC c) c = true := by
        rw [e]
        obtain ⟨a, o⟩ := c
        simp only at *
        have h0 := ho.1; have h1 := ho.2
        simp only at h0 h1
        rcases (show o = 0 ∨ o = 1 ∨ o = 2 ∨ o = 3 ∨ o = 4 ∨ o = 5 ∨ o = 6 by omega) with rfl | rfl | rfl | rfl | rfl | rfl | rfl
        · unfold coreB holdsB
          simp [okA_mk (p := a) (q := canonA a) ek.symm nv nv2, okA_mk (p := canonA a) (q := a) ek nv2 nv, c0, c1, standsB]
        · unfold coreB
          simp [vsame_iff, c0, c1, ek]
        · simp [coreB, boundI, c0, c1]
        · simp [coreB, boundI, c0, c1]
        · simp [coreB, boundI, c0, c1]
        · simp [coreB, boundI, c0, c1]
        · have et := canonA_text (n6 rfl)
          simp [coreB, prefixI, et, preB_refl]
      exact ⟨⟨by rw [nm], Or.inr (Or.inr ⟨hv, by rw [op]; exact h7, h7, hv2, by rw [e]; exact ek.symm, k1.1⟩)⟩, ⟨by rw [nm], Or.inr (Or.inr ⟨hv2, h7, by rw [op]; exact h7, hv, by rw [e]; exact ek, k1.2⟩)⟩⟩
    · rw [hv] at hv2
      rw [impliesB_iff, impliesB_iff]
      exact ⟨⟨by rw [nm], Or.inl hv⟩, ⟨by rw [nm], Or.inl hv2⟩⟩

/-- Is the condition at a place spare: does another one imply it, and it not that one, unless it stands behind? -/
def betterB (l : List Cn) (k i : Nat) : Bool := k != i && (impliesB l[k]! l[i]! && (decide (k < i) || !impliesB l[i]! l[k]!))
def spareB (l : List Cn) (i : Nat) : Bool := (List.range l.length).any fun k => betterB l k i
def keptN (l : List Cn) (j : Nat) : List Cn := ((List.range j).filter fun i => !spareB l i).map fun i => l[i]!
def keptL (l : List Cn) : List Cn := keptN l l.length
theorem keptN_succ (l : List Cn) (j : Nat) : keptN l (j + 1) = if spareB l j then keptN l j else keptN l j ++ [l[j]!] := by
  unfold keptN
  rw [List.range_succ, List.filter_append, List.map_append]
  cases h : spareB l j <;> simp [h]
theorem keptN_len (l : List Cn) (j : Nat) : (keptN l j).length ≤ j := by
  unfold keptN
  rw [List.length_map]
  exact Nat.le_trans (List.length_filter_le _ _) (by simp)
theorem keptL_mem {l : List Cn} {c : Cn} (h : c ∈ keptL l) : ∃ i, i < l.length ∧ spareB l i = false ∧ c = l[i]! := by
  obtain ⟨i, hi, rfl⟩ := List.mem_map.1 h
  obtain ⟨h1, h2⟩ := List.mem_filter.1 hi
  exact ⟨i, List.mem_range.1 h1, by simpa using h2, rfl⟩
theorem keptL_sub {l : List Cn} {c : Cn} (h : c ∈ keptL l) : c ∈ l := by
  obtain ⟨i, hi, _, rfl⟩ := keptL_mem h
  exact memC l i hi
theorem mem_keptL {l : List Cn} {i : Nat} (hi : i < l.length) (h : spareB l i = false) : l[i]! ∈ keptL l :=
  List.mem_map.2 ⟨i, List.mem_filter.2 ⟨List.mem_range.2 hi, by simp [h]⟩, rfl⟩
theorem better_iff (l : List Cn) (k i : Nat) : betterB l k i = true ↔ k ≠ i ∧ impliesB l[k]! l[i]! = true ∧ (k < i ∨ impliesB l[i]! l[k]! = false) := by
  unfold betterB
  simp
theorem better_trans {l : List Cn} (ho : OpsB l) {a b c : Nat} (ha : a < l.length) (hb : b < l.length) (hc : c < l.length) (h : betterB l a b = true) (h2 : betterB l b c = true) : betterB l a c = true := by
  rw [better_iff] at *
  have oa := ho _ (memC l a ha); have ob := ho _ (memC l b hb); have oc := ho _ (memC l c hc)
  have t := implies_trans oa ob oc h.2.1 h2.2.1
  cases hca : impliesB l[c]! l[a]!
  · refine ⟨fun e => ?_, t, Or.inr rfl⟩
    subst e
    rw [implies_self oa] at hca; cases hca
  · have h3 := implies_trans ob oc oa h2.2.1 hca
    have h4 := implies_trans oc oa ob hca h.2.1
    rcases h.2.2 with h5 | h5
    · rcases h2.2.2 with h6 | h6
      · exact ⟨by omega, t, Or.inl (by omega)⟩
      · rw [h4] at h6; cases h6
    · rw [h3] at h5; cases h5
theorem count_lt {α : Type} (p q : α → Bool) : ∀ (l : List α), (∀ x ∈ l, p x = true → q x = true) → (∃ x ∈ l, q x = true ∧ p x = false) → l.countP p < l.countP q
  | [], _, h => by obtain ⟨x, hx, _⟩ := h; simp at hx
  | a :: l, h1, h2 => by
    have hle : l.countP p ≤ l.countP q := List.countP_mono_left fun x hx => h1 x (List.mem_cons_of_mem _ hx)
    rw [List.countP_cons, List.countP_cons]
    obtain ⟨x, hx, hq, hp⟩ := h2
    rcases List.mem_cons.1 hx with rfl | hx
    · rw [hq, hp]; simp; omega
    · have ih := count_lt p q l (fun x hx => h1 x (List.mem_cons_of_mem _ hx)) ⟨x, hx, hq, hp⟩
      have := h1 a List.mem_cons_self
      cases hpa : p a
      · cases hqa : q a <;> simp <;> omega
      · rw [this hpa]; simp; omega
/-- Of those that imply a condition one is kept. -/
theorem kept_cov {l : List Cn} (ho : OpsB l) : ∀ (n i : Nat), (List.range l.length).countP (fun k => betterB l k i) ≤ n → i < l.length → ∃ d ∈ keptL l, impliesB d l[i]! = true
  | n, i, hn, hi => by
    cases hs : spareB l i
    · exact ⟨l[i]!, mem_keptL hi hs, implies_self (ho _ (memC l i hi))⟩
    · obtain ⟨k, hk, hb⟩ := List.any_eq_true.1 hs
      have hkl := List.mem_range.1 hk
      have hlt : (List.range l.length).countP (fun j => betterB l j k) < (List.range l.length).countP (fun j => betterB l j i) :=
        count_lt _ _ _ (fun x hx hp => better_trans ho (List.mem_range.1 hx) hkl hi hp hb) ⟨k, hk, hb, by
          rw [Bool.eq_false_iff]; intro e
          exact ((better_iff l k k).1 e).1 rfl⟩
      match n, hn with
      | 0, hn => omega
      | n + 1, hn =>
        obtain ⟨d, hd, h1⟩ := kept_cov ho n k (by omega) hkl
        exact ⟨d, hd, implies_trans (ho d (keptL_sub hd)) (ho _ (memC l k hkl)) (ho _ (memC l i hi)) h1 ((better_iff l k i).1 hb).2.1⟩
/-- A filter's conditions, and those that it is brought to: L has each of them as it is kept, nothing else. -/
def NormOf (cs L : List Cn) : Prop := (∀ c ∈ L, ∃ d ∈ cs, c = canonC d) ∧ ∀ d ∈ cs, canonC d ∈ L
theorem norm_right {cs L : List Cn} (h : NormOf cs L) (hr : ∀ c ∈ cs, crightB c = true) : ∀ c ∈ L, crightB c = true := fun c hc => by
  obtain ⟨d, hd, rfl⟩ := h.1 c hc
  exact canon_right (hr d hd)
theorem norm_covers {fs : ByteArray} {cs L : List Cn} (h : NormOf cs L) (hr : ∀ c ∈ cs, crightB c = true) : coversF fs (keptL L) fs cs = true := by
  unfold coversF
  rw [under_refl, Bool.true_and, Bool.or_eq_true]
  refine Or.inr (List.all_eq_true.2 fun c hc => ?_)
  obtain ⟨d, hd, rfl⟩ := h.1 c (keptL_sub hc)
  exact List.any_eq_true.2 ⟨d, hd, (canon_imp (opB_right (hr d hd)) (right_kind (hr d hd))).1⟩
theorem covers_norm {fs : ByteArray} {cs L : List Cn} (h : NormOf cs L) (hr : ∀ c ∈ cs, crightB c = true) : coversF fs cs fs (keptL L) = true := by
  unfold coversF
  rw [under_refl, Bool.true_and, Bool.or_eq_true]
  refine Or.inr (List.all_eq_true.2 fun d hd => ?_)
  have hL := norm_right h hr
  have hoL : OpsB L := fun c hc => opB_right (hL c hc)
  have hm := h.2 d hd
  obtain ⟨i, hi, he⟩ := List.getElem_of_mem hm
  obtain ⟨e, hk, hi2⟩ := kept_cov hoL _ i (Nat.le_refl _) hi
  rw [getElem!_pos L i hi, he] at hi2
  exact List.any_eq_true.2 ⟨e, hk, implies_trans (hoL e (keptL_sub hk)) (hoL _ hm) (opB_right (hr d hd)) hi2 (canon_imp (opB_right (hr d hd)) (right_kind (hr d hd))).2⟩
/-- Two filters cover one another just as their Norms do. -/
theorem norms_covers {fs gs : ByteArray} {cs ds L M : List Cn} (h : NormOf cs L) (h2 : NormOf ds M) (hr : ∀ c ∈ cs, crightB c = true) (hr2 : ∀ c ∈ ds, crightB c = true) : coversF fs (keptL L) gs (keptL M) = coversF fs cs gs ds := by
  have oc : OpsB cs := fun c hc => opB_right (hr c hc)
  have od : OpsB ds := fun c hc => opB_right (hr2 c hc)
  have oL : OpsB (keptL L) := fun c hc => opB_right (norm_right h hr c (keptL_sub hc))
  have oM : OpsB (keptL M) := fun c hc => opB_right (norm_right h2 hr2 c (keptL_sub hc))
  rw [Bool.eq_iff_iff]
  constructor
  · intro hh
    exact covers_trans oc oL od (covers_norm h hr) (covers_trans oL oM od hh (norm_covers h2 hr2))
  · intro hh
    exact covers_trans oL oc oM (norm_covers h hr) (covers_trans oc od oM hh (covers_norm h2 hr2))
end Go.Proofs.YtfffmndjgjfflaaGreatDoor
