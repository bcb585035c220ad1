/- Conditions, plainly: when one holds, is void, implies another one; what follows. -/
import Derived.Test.YtjeippdfgojdnaaGreatDoorCmpP
import Derived.Test.YtjeippdfgojdnaaGreatDoorCnP
import Derived.Lib.Strings
namespace Go.Proofs.YtjeippdfgojdnaaGreatDoor
open Go.RowKit Go.Shelf
open Go.Proofs

/-- Does a text begin with another one? -/
def preB (s t : ByteArray) : Bool := Lib.hasPrefix s.data.toList t.data.toList
/-- Can two values be held against one another? -/
def okA (p q : At) : Bool := cmpOk p.k p.x q.k q.x
def cmpA (p q : At) : Int := cmpV p.k p.n q.n p.x q.x p.s q.s p.y q.y
/-- Does an op do of a value that is so held against the condition's own? -/
def standsB (op o : Int) : Bool :=
  if op == 0 then o == 0 else if op == 1 then o != 0 else if op == 2 then decide (o < 0) else if op == 3 then decide (o ≤ 0) else if op == 4 then decide (0 < o) else if op == 5 then decide (0 ≤ o) else false
def holdsB (c : Cn) (v : At) : Bool :=
  if c.op == 7 then true else if c.op == 6 then c.a.k == 2 && (v.k == 2 && preB v.s c.a.s) else okA v c.a && standsB c.op (cmpA v c.a)
def cvoidB (c : Cn) : Bool := if c.op == 7 then false else if c.op == 6 then c.a.k != 2 else voidB c.a.k c.a.x
def prefixI (s : ByteArray) (b : Cn) : Bool := if b.op == 6 then preB s b.a.s else if b.op == 1 then !preB b.a.s s else false
/-- On one side: o is how the one's value stands to the other one's, on that side. -/
def boundI (aop bop o strict loose : Int) : Bool :=
  if bop == strict || bop == 1 then decide (o < 0) || (o == 0 && aop == strict) else if bop == loose then decide (o ≤ 0) else false
def coreB (a b : Cn) : Bool :=
  if a.op == 0 then holdsB b a.a
  else if a.op == 1 then b.op == 1 && vsame a.a b.a
  else if a.op == 6 then prefixI a.a.s b
  else if a.op == 2 || a.op == 3 then boundI a.op b.op (cmpA a.a b.a) 2 3
  else if a.op == 4 || a.op == 5 then boundI a.op b.op (-cmpA a.a b.a) 4 5
  else false
def impliesB (a b : Cn) : Bool :=
  if !(a.a.nm.toList == b.a.nm.toList) then false
  else if cvoidB a || b.op == 7 then true
  else if a.op == 7 || (cvoidB b || a.a.k != b.a.k) then false
  else coreB a b

theorem sgn_neg (a b : Int) : sgn b a = -sgn a b := by unfold sgn; repeat' split
                                                       all_goals omega
theorem sgs_neg (s t : ByteArray) : sgs t s = -sgs s t := by
  simp only [sgs_eq]
  generalize s.toList = l
  generalize t.toList = m
  by_cases h1 : l < m
  · have h2 : ¬ m < l := fun h => List.lt_irrefl l (List.lt_trans h1 h)
    have h3 : ¬ m = l := fun h => by subst h; exact List.lt_irrefl m h1
    simp [h1, h2, h3]
  · by_cases h2 : l = m
    · subst h2; simp [h1]
    · have h3 : m < l := by
        rcases Std.lt_trichotomy l m with h | h | h
        · exact absurd h h1
        · exact absurd h h2
        · exact h
      simp [h1, h2, h3]
theorem cmpA_neg (p q : At) (h : p.k = q.k) : cmpA q p = -cmpA p q := by
  unfold cmpA cmpV
  rw [h]
  split
  · exact sgn_neg _ _
  · split
    · exact sgn_neg _ _
    · split
      · exact sgs_neg _ _
      · exact sgn_neg _ _
theorem cmpA_self (p : At) : cmpA p p = 0 := by have := cmpA_neg p p rfl; omega
/-- Of three values of one kind. -/
theorem cmpA_three (p q r : At) (h : p.k = q.k) (h2 : q.k = r.k) :
    (cmpA p q ≤ 0 → cmpA q r ≤ 0 → cmpA p r ≤ 0 ∧ (cmpA p r < 0 ↔ cmpA p q < 0 ∨ cmpA q r < 0)) ∧
    (0 ≤ cmpA p q → 0 ≤ cmpA q r → 0 ≤ cmpA p r ∧ (0 < cmpA p r ↔ 0 < cmpA p q ∨ 0 < cmpA q r)) := by
  have T : ∀ p q r : At, p.k = q.k → q.k = r.k → cmpA p q ≤ 0 → cmpA q r ≤ 0 → cmpA p r ≤ 0 ∧ (cmpA p r < 0 ↔ cmpA p q < 0 ∨ cmpA q r < 0) := by
    intro p q r h h2 h3 h4
    unfold cmpA at *
    rw [h] at h3 ⊢
    exact cmpV_trans h3 h4
  refine ⟨T p q r h h2, fun h3 h4 => ?_⟩
  have n1 := cmpA_neg p q h
  have n2 := cmpA_neg q r h2
  have n3 := cmpA_neg p r (h.trans h2)
  have t := T r q p h2.symm h.symm (by omega) (by omega)
  refine ⟨by omega, ?_⟩
  rw [show 0 < cmpA p r ↔ cmpA r p < 0 by omega, t.2]
  omega
theorem vsame_iff (p q : At) : vsame p q = (p.k == q.k && cmpA p q == 0) := by
  unfold vsame
  cases h : (p.k == q.k)
  · rfl
  · rw [Bool.true_and, Bool.true_and]
    unfold sameV cmpA cmpV
    split
    · unfold sgn; rw [Bool.eq_iff_iff]; simp only [beq_iff_eq]; repeat' split
      all_goals omega
    · split
      · unfold sgn; rw [Bool.eq_iff_iff]; simp only [beq_iff_eq]; repeat' split
        all_goals omega
      · split
        · rw [sgs_eq, Bool.eq_iff_iff]; simp only [beq_iff_eq]
          by_cases h1 : p.s.toList < q.s.toList
          · have : ¬ p.s.toList = q.s.toList := fun e => by rw [e] at h1; exact List.lt_irrefl _ h1
            simp [h1, this]
          · by_cases h2 : p.s.toList = q.s.toList
            · rw [h2]; simp [List.lt_irrefl]
            · simp [h1, h2]
        · cases p.y <;> cases q.y <;> rfl
theorem texts_eq {p q : At} (hk : p.k = 2) (h : cmpA p q = 0) : p.s.toList = q.s.toList := by
  unfold cmpA cmpV at h
  rw [hk] at h
  simp only [show ((2 : Int) == 0) = false from rfl, show ((2 : Int) == 1) = false from rfl, show ((2 : Int) == 2) = true from rfl, Bool.false_eq_true, if_false, if_true] at h
  rw [sgs_eq] at h
  by_cases h1 : p.s.toList < q.s.toList
  · simp [h1] at h
  · by_cases h2 : p.s.toList = q.s.toList
    · exact h2
    · simp [h1, h2] at h
theorem texts_data {s t : ByteArray} (h : s.toList = t.toList) : s = t := by
  rw [bytes_toList, bytes_toList] at h
  exact ByteArray.ext (Array.ext' h)
theorem preB_refl (s : ByteArray) : preB s s = true := by
  unfold preB Lib.hasPrefix; rw [List.isPrefixOf_iff_prefix]
  exact List.prefix_refl _
theorem preB_trans {s t u : ByteArray} (h : preB s t = true) (h2 : preB t u = true) : preB s u = true := by
  unfold preB Lib.hasPrefix at *; rw [List.isPrefixOf_iff_prefix] at *
  exact List.IsPrefix.trans h2 h

theorem void_no {c : Cn} (v : At) (h : cvoidB c = true) : holdsB c v = false := by
  unfold cvoidB at h
  unfold holdsB
  split
  · rename_i h7; rw [if_pos h7] at h; cases h
  · rename_i h7; rw [if_neg h7] at h
    split
    · rename_i h6; rw [if_pos h6] at h
      have : (c.a.k == 2) = false := by simpa [bne] using h
      rw [this]; rfl
    · rename_i h6; rw [if_neg h6] at h
      unfold okA cmpOk
      rw [h]; simp
theorem okA_k {p q : At} (h : okA p q = true) : p.k = q.k ∧ voidB p.k p.x = false ∧ voidB q.k q.x = false := by
  unfold okA cmpOk at h
  simp only [Bool.and_eq_true, beq_iff_eq, Bool.not_eq_true'] at h
  exact ⟨h.1, h.2.1, h.2.2⟩
theorem okA_mk {p q : At} (h : p.k = q.k) (h1 : voidB p.k p.x = false) (h2 : voidB q.k q.x = false) : okA p q = true := by
  unfold okA cmpOk
  rw [h1, h2, h]; simp
/-- What is not void, and neither Has nor a beginning: its value is none of those that are no number. -/
theorem notvoid {c : Cn} (h : cvoidB c = false) (h7 : c.op ≠ 7) : voidB c.a.k c.a.x = false ∧ (c.op = 6 → c.a.k = 2) := by
  unfold cvoidB at h
  rw [if_neg (by simpa using h7)] at h
  split at h
  · have : c.a.k = 2 := by simpa [bne] using h
    refine ⟨?_, fun _ => this⟩
    rw [this]; rfl
  · rename_i h6
    exact ⟨h, fun e => absurd e (by simpa using h6)⟩
theorem impliesB_iff (a b : Cn) : impliesB a b = true ↔ a.a.nm.toList = b.a.nm.toList ∧ (cvoidB a = true ∨ b.op = 7 ∨ (cvoidB a = false ∧ b.op ≠ 7 ∧ a.op ≠ 7 ∧ cvoidB b = false ∧ a.a.k = b.a.k ∧ coreB a b = true)) := by
  unfold impliesB
  by_cases h1 : a.a.nm.toList = b.a.nm.toList
  · cases h2 : cvoidB a
    · by_cases h3 : b.op = 7
      · simp [h1, h3]
      · by_cases h4 : a.op = 7
        · simp [h1, h3, h4]
        · cases h5 : cvoidB b
          · by_cases h6 : a.a.k = b.a.k
            · simp [h1, h3, h4, h6]
            · simp [h1, h3, h4, h6]
          · simp [h1, h3, h4]
    · simp [h1]
  · simp [h1]
/-- An op that is one. -/
def OpB (c : Cn) : Prop := 0 ≤ c.op ∧ c.op ≤ 7
/-- Where one implies another one, whatever value the one holds for, the other one does. -/
theorem core_sound {a b : Cn} (v : At) (ha : OpB a) (hb : OpB b) (va : cvoidB a = false) (b7 : b.op ≠ 7) (a7 : a.op ≠ 7) (vb : cvoidB b = false) (hk : a.a.k = b.a.k) (h : coreB a b = true) (hv : holdsB a v = true) : holdsB b v = true := by
  obtain ⟨vb1, vb2⟩ := notvoid vb b7
  obtain ⟨va1, va2⟩ := notvoid va a7
  obtain ⟨a, ao⟩ := a
  obtain ⟨b, bo⟩ := b
  simp only [OpB] at *
  -- where neither is a beginning
  have KEY : v.k = a.k → voidB v.k v.x = false → ∀ o, o = cmpA v a → (∀ o2 o3, o2 = cmpA a b → o3 = cmpA v b → ((o ≤ 0 → o2 ≤ 0 → o3 ≤ 0 ∧ (o3 < 0 ↔ o < 0 ∨ o2 < 0)) ∧ (0 ≤ o → 0 ≤ o2 → 0 ≤ o3 ∧ (0 < o3 ↔ 0 < o ∨ 0 < o2))) → bo ≠ 6 → standsB bo o3 = true) → bo ≠ 6 → holdsB ⟨b, bo⟩ v = true := by
    intro hvk hvv o ho hh h6
    have t := hh _ _ rfl rfl (by rw [ho]; exact cmpA_three v a b hvk hk) h6
    unfold holdsB
    simp only []
    rw [if_neg (by simpa using b7), if_neg (by simpa using h6), okA_mk (hvk.trans hk) hvv vb1, t]; rfl
  by_cases a6 : ao = 6
  · subst a6
    have ak := va2 rfl
    have hp : v.k = 2 ∧ preB v.s a.s = true := by
      unfold holdsB at hv
      simpa [ak] using hv
    have hc : prefixI a.s ⟨b, bo⟩ = true := by simpa [coreB] using h
    by_cases b6 : bo = 6
    · subst b6
      have hc2 : preB a.s b.s = true := by simpa [prefixI] using hc
      unfold holdsB
      simp [hp.1, ← hk, ak, preB_trans hp.2 hc2]
    · by_cases b1 : bo = 1
      · subst b1
        have hc2 : preB b.s a.s = false := by simpa [prefixI] using hc
        unfold holdsB
        simp only [show ((1 : Int) == 7) = false from rfl, show ((1 : Int) == 6) = false from rfl, Bool.false_eq_true, if_false]
        rw [okA_mk (by rw [hp.1, ← hk, ak]) (by rw [hp.1]; rfl) vb1, Bool.true_and]
        show (cmpA v b != 0) = true
        rw [bne_iff_ne]
        intro e
        have := texts_data (texts_eq hp.1 e)
        rw [← this, hp.2] at hc2
        cases hc2
      · simp [prefixI, b6, b1] at hc
  · have hv2 : okA v a = true ∧ standsB ao (cmpA v a) = true := by
      unfold holdsB at hv
      simpa [a7, a6] using hv
    obtain ⟨hvk, hvv, _⟩ := okA_k hv2.1
    have hs := hv2.2
    by_cases a0 : ao = 0
    · subst a0
      have h0 : cmpA v a = 0 := by simpa [standsB] using hs
      have hb' : holdsB ⟨b, bo⟩ a = true := by simpa [coreB] using h
      by_cases b6 : bo = 6
      · subst b6
        have ak : b.k = 2 := vb2 rfl
        have hp : preB a.s b.s = true := by
          unfold holdsB at hb'
          simp [ak] at hb'
          exact hb'.2
        have hs2 := texts_data (texts_eq (by rw [hvk, hk, ak]) h0)
        unfold holdsB
        simp [ak, hvk, hk, hs2, hp]
      · have hb2 : standsB bo (cmpA a b) = true := by
          unfold holdsB at hb'
          simp [b7, b6] at hb'
          exact hb'.2
        refine KEY hvk hvv _ rfl (fun o2 o3 e2 e3 t _ => ?_) b6
        rw [h0] at t
        rw [← e2] at hb2
        have hh := hb.1; have hh2 := hb.2
        rcases (show bo = 0 ∨ bo = 1 ∨ bo = 2 ∨ bo = 3 ∨ bo = 4 ∨ bo = 5 by omega) with rfl | rfl | rfl | rfl | rfl | rfl <;> simp [standsB] at hb2 ⊢ <;> omega
    · by_cases a1 : ao = 1
      · subst a1
        have h1 : bo = 1 ∧ vsame a b = true := by simpa [coreB] using h
        obtain ⟨rfl, hsm⟩ := h1
        rw [vsame_iff] at hsm
        simp only [Bool.and_eq_true, beq_iff_eq] at hsm
        refine KEY hvk hvv _ rfl (fun o2 o3 e2 e3 t _ => ?_) (by decide)
        rw [hsm.2] at e2
        have : cmpA v a ≠ 0 := by simpa [standsB] using hs
        simp [standsB]; omega
      · by_cases b6 : bo = 6
        · subst b6
          have hh := ha.1; have hh2 := ha.2
          rcases (show ao = 2 ∨ ao = 3 ∨ ao = 4 ∨ ao = 5 by omega) with rfl | rfl | rfl | rfl <;> simp [coreB, boundI] at h
        · refine KEY hvk hvv _ rfl (fun o2 o3 e2 e3 t _ => ?_) b6
          have hh := ha.1; have hh2 := ha.2
          have hh3 := hb.1; have hh4 := hb.2
          rcases (show ao = 2 ∨ ao = 3 ∨ ao = 4 ∨ ao = 5 by omega) with rfl | rfl | rfl | rfl <;>
          rcases (show bo = 0 ∨ bo = 1 ∨ bo = 2 ∨ bo = 3 ∨ bo = 4 ∨ bo = 5 by omega) with rfl | rfl | rfl | rfl | rfl | rfl <;>
          simp [coreB, boundI, standsB, ← e2] at h hs ⊢ <;> omega
theorem implies_sound {a b : Cn} (v : At) (ha : OpB a) (hb : OpB b) (h : impliesB a b = true) (hv : holdsB a v = true) : holdsB b v = true := by
  rcases ((impliesB_iff a b).1 h).2 with h1 | h1 | ⟨h1, h2, h3, h4, h5, h6⟩
  · rw [void_no v h1] at hv; cases hv
  · unfold holdsB; rw [h1]; rfl
  · exact core_sound v ha hb h1 h2 h3 h4 h5 h6 hv
theorem implies_self {a : Cn} (ha : OpB a) : impliesB a a = true := by
  rw [impliesB_iff]
  refine ⟨rfl, ?_⟩
  cases hv : cvoidB a
  · by_cases h7 : a.op = 7
    · exact Or.inr (Or.inl h7)
    · refine Or.inr (Or.inr ⟨rfl, h7, h7, rfl, rfl, ?_⟩)
      obtain ⟨v1, v2⟩ := notvoid hv h7
      have hz := cmpA_self a.a
      have hok := okA_mk (p := a.a) (q := a.a) rfl v1 v1
      obtain ⟨a, ao⟩ := a
      simp only [OpB] at *
      have hh := ha.1; have hh2 := ha.2
      rcases (show ao = 0 ∨ ao = 1 ∨ ao = 2 ∨ ao = 3 ∨ ao = 4 ∨ ao = 5 ∨ ao = 6 by omega) with rfl | rfl | rfl | rfl | rfl | rfl | rfl
      · simp [coreB, holdsB, hok, hz, standsB]
      · simp [coreB, vsame_iff, hz]
      · simp [coreB, boundI, hz]
      · simp [coreB, boundI, hz]
      · simp [coreB, boundI, hz]
      · simp [coreB, boundI, hz]
      · simp [coreB, prefixI, preB_refl]
  · exact Or.inl rfl
theorem implies_trans {a b c : Cn} (ha : OpB a) (hb : OpB b) (hc : OpB c) (h : impliesB a b = true) (h2 : impliesB b c = true) : impliesB a c = true := by
  obtain ⟨n1, h⟩ := (impliesB_iff a b).1 h
  obtain ⟨n2, h2⟩ := (impliesB_iff b c).1 h2
  rw [impliesB_iff]
  refine ⟨n1.trans n2, ?_⟩
  cases va : cvoidB a
  · by_cases c7 : c.op = 7
    · exact Or.inr (Or.inl c7)
    · rw [va] at h
      rcases h with h | h | ⟨_, b7, a7, vb, hk, hcore⟩
      · cases h
      · have : cvoidB b = false := by unfold cvoidB; rw [h]; rfl
        rw [this] at h2
        rcases h2 with h2 | h2 | ⟨_, _, b7, _⟩
        · cases h2
        · exact absurd h2 c7
        · exact absurd h b7
      · rw [vb] at h2
        rcases h2 with h2 | h2 | ⟨_, _, _, vc, hk2, hcore2⟩
        · cases h2
        · exact absurd h2 c7
        · refine Or.inr (Or.inr ⟨rfl, c7, a7, vc, hk.trans hk2, ?_⟩)
          have SND := fun v => core_sound v hb hc vb c7 b7 vc hk2 hcore2
          have T := cmpA_three a.a b.a c.a hk hk2
          obtain ⟨a, ao⟩ := a
          obtain ⟨b, bo⟩ := b
          obtain ⟨c, co⟩ := c
          simp only [OpB] at *
          have hh := ha.1; have hh2 := ha.2; have hh3 := hb.1; have hh4 := hb.2; have hh5 := hc.1; have hh6 := hc.2
          generalize hx : cmpA a b = x at *
          generalize hy : cmpA b c = y at *
          generalize hz : cmpA a c = z at *
          have key : a.k = b.k ∧ b.k = c.k := ⟨hk, hk2⟩
          rcases (show ao = 0 ∨ ao = 1 ∨ ao = 2 ∨ ao = 3 ∨ ao = 4 ∨ ao = 5 ∨ ao = 6 by omega) with rfl | rfl | rfl | rfl | rfl | rfl | rfl
          · have : holdsB ⟨b, bo⟩ a = true := by simpa [coreB] using hcore
            simpa [coreB] using SND a this
          · have h1 : bo = 1 ∧ vsame a b = true := by simpa [coreB] using hcore
            obtain ⟨rfl, e1⟩ := h1
            have h1 : co = 1 ∧ vsame b c = true := by simpa [coreB] using hcore2
            obtain ⟨rfl, e2⟩ := h1
            rw [vsame_iff] at e1 e2
            simp only [Bool.and_eq_true, beq_iff_eq] at e1 e2
            have : vsame a c = true := by rw [vsame_iff]; simp only [Bool.and_eq_true, beq_iff_eq]; omega
            simpa [coreB] using this
          all_goals first
            | (rcases (show bo = 0 ∨ bo = 1 ∨ bo = 2 ∨ bo = 3 ∨ bo = 4 ∨ bo = 5 ∨ bo = 6 by omega) with rfl | rfl | rfl | rfl | rfl | rfl | rfl
               all_goals
                 rcases (show co = 0 ∨ co = 1 ∨ co = 2 ∨ co = 3 ∨ co = 4 ∨ co = 5 ∨ co = 6 by omega) with rfl | rfl | rfl | rfl | rfl | rfl | rfl
                 all_goals
                   simp [coreB, boundI, vsame_iff, hx, hy, hz] at hcore hcore2 ⊢
                   try omega
               done)
            | skip
          -- a beginning
          have hc1 : prefixI a.s ⟨b, bo⟩ = true := by simpa [coreB] using hcore
          by_cases b6 : bo = 6
          · subst b6
            have p1 : preB a.s b.s = true := by simpa [prefixI] using hc1
            have hc2 : prefixI b.s ⟨c, co⟩ = true := by simpa [coreB] using hcore2
            by_cases c6 : co = 6
            · subst c6
              have p2 : preB b.s c.s = true := by simpa [prefixI] using hc2
              simp [coreB, prefixI, preB_trans p1 p2]
            · by_cases c1 : co = 1
              · subst c1
                have p2 : preB c.s b.s = false := by simpa [prefixI] using hc2
                have p3 : preB c.s a.s = false := by
                  cases hp : preB c.s a.s
                  · rfl
                  · rw [preB_trans hp p1] at p2; cases p2
                simp [coreB, prefixI, p3]
              · simp [prefixI, c6, c1] at hc2
          · by_cases b1 : bo = 1
            · subst b1
              have p1 : preB b.s a.s = false := by simpa [prefixI] using hc1
              have h1 : co = 1 ∧ vsame b c = true := by simpa [coreB] using hcore2
              obtain ⟨rfl, e2⟩ := h1
              rw [vsame_iff] at e2
              simp only [Bool.and_eq_true, beq_iff_eq] at e2
              have ak := (notvoid va a7).2 rfl
              have := texts_data (texts_eq (by rw [← hk]; exact ak) e2.2)
              simp [coreB, prefixI, ← this, p1]
            · simp [prefixI, b6, b1] at hc1
  · exact Or.inl rfl
end Go.Proofs.YtjeippdfgojdnaaGreatDoor
