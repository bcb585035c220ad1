/- Conditions: a name, an op, a value: plainly, in bytes, in memory (seven cells). -/
import Derived.Test.YtecfbbddhnkilaaAtP
import Derived.Test.YtecfbbddhnkilaaWr5
import Derived.Deep.Upon
namespace Go.Proofs.Ytecfbbddhnkilaa
open Go.RowKit
open Go.Shelf Go.Sort
open Go.Proofs
set_option maxRecDepth 100000

/-- A condition: the name and value of an attribute, and its op. -/
structure Cn where
  a : At
  op : Int
instance : Inhabited Cn := ⟨⟨default, 0⟩⟩
/-- Its cells. -/
def encC (c : Cn) : List Value := [.string c.a.nm, .int .i64 c.op, .int .i64 c.a.k, .int .i64 c.a.n, .float .f64 c.a.x, .string c.a.s, .bool c.a.y]
theorem encC_len (a : Cn) : (encC a).length = 7 := rfl
theorem encC_one (a : Cn) : ∀ v ∈ encC a, v.oneCell' = true := fun v h => by
  simp only [encC, List.mem_cons, List.mem_nil_iff, or_false] at h
  rcases h with rfl | rfl | rfl | rfl | rfl | rfl | rfl <;> rfl
theorem encC_at : ∀ (l : List Cn) (j : Nat), j < l.length → ∀ c u, (encC l[j]!)[c]? = some u → (l.flatMap encC)[j * 7 + c]? = some u := by
  intro l
  induction l with
  | nil => intro j hj; simp at hj
  | cons a l ih =>
    intro j hj c u hu
    cases j with
    | zero =>
      have hc : c < (encC a).length := by
        have := (List.getElem?_eq_some_iff.1 hu).1; simpa using this
      simp only [List.flatMap_cons, Nat.zero_mul, Nat.zero_add]
      rw [List.getElem?_append_left hc]; simpa using hu
    | succ j =>
      have := ih j (by simpa using hj) c u (by simpa using hu)
      simp only [List.flatMap_cons]
      rw [List.getElem?_append_right (by rw [encC_len]; omega), encC_len, show (j + 1) * 7 + c - 7 = j * 7 + c by omega]
      exact this
theorem encC_flat_len (l : List Cn) : (l.flatMap encC).length = l.length * 7 := by
  induction l with
  | nil => rfl
  | cons a l ih => simp only [List.flatMap_cons, List.length_append, encC_len, List.length_cons, ih]; omega
theorem cond_info : ∃ i z, Try.prog.info? 30 = some i ∧ i.zero = some z ∧ i.size = 7 ∧ i.bytes = 72 ∧ z.cells.size = 7 := by
  obtain ⟨i, hi, h⟩ := Option.bind_eq_some_iff.1 (show (Try.prog.info? 30).bind (fun i => i.zero.map fun z => (i.size, i.bytes, z.cells.size)) = some (7, 72, 7) by kernel_rfl)
  obtain ⟨z, hz, h⟩ := Option.map_eq_some_iff.1 h
  simp only [Prod.mk.injEq] at h
  exact ⟨i, z, hi, hz, h.1, h.2.1, h.2.2⟩

/-- Conditions one behind the other. -/
def RowC (W : World) (b off : Nat) (cs : List Cn) : Prop := ∀ j, j < cs.length → ∀ c v, (encC cs[j]!)[c]? = some v → W.cell? ⟨b, off + j * 7 + c, none⟩ = some v
theorem RowC.below {B : Nat} {w w' : World} {b off : Nat} {cs : List Cn} (hb : Below B w w') (hl : b < B) (h : RowC w b off cs) : RowC w' b off cs :=
  fun j hj c v hv => (hb.cell (p := ⟨b, off + j * 7 + c, none⟩) hl).trans (h j hj c v hv)
/-- Conditions that lie below block B. -/
def CondsB (B : Nat) (W : World) (ao : Option Addr) (cs : List Cn) : Prop := cs = [] ∨ ∃ b off, ao = some ⟨b, off, none⟩ ∧ b < B ∧ RowC W b off cs
theorem CondsB.below {B n : Nat} {w w' : World} {ao : Option Addr} {cs : List Cn} (h : CondsB B w ao cs) (hb : Below n w w') (hn : B ≤ n) : CondsB B w' ao cs := by
  rcases h with h | ⟨b, off, h1, h2, h3⟩
  · exact Or.inl h
  · exact Or.inr ⟨b, off, h1, h2, fun j hj c v hv => (hb.cell (p := ⟨b, off + j * 7 + c, none⟩) (by show b < n; omega)).trans (h3 j hj c v hv)⟩
/-- Conditions that lie in blocks from B on; or none. -/
def CondsN (B : Nat) (w : World) (ao : Option Addr) (cs : List Cn) : Prop := cs = [] ∨ ∃ b, ao = some ⟨b, 0, none⟩ ∧ B ≤ b ∧ b < w.heap.size ∧ RowC w b 0 cs

/-- A condition that bytes tell. -/
def TellC (c : Cn) : Prop := TellA c.a ∧ 0 ≤ c.op ∧ c.op ≤ 255
/-- Its bytes; those of a filter. -/
def encCn (c : Cn) : List UInt8 := encT c.a.nm ++ UInt8.ofNat c.op.toNat :: encV c.a
def encF (sc : ByteArray) (cs : List Cn) : List UInt8 := encT sc ++ UInt8.ofNat cs.length :: cs.flatMap encCn
theorem encCn_len (c : Cn) (h : TellC c) : (encCn c).length ≤ 514 := by
  unfold encCn
  have := encV_len c.a h.1.2.1
  have := h.1.1
  rw [List.length_append, encT_len, List.length_cons]; omega
theorem encCns_len : ∀ (cs : List Cn), (∀ c ∈ cs, TellC c) → (cs.flatMap encCn).length ≤ 514 * cs.length
  | [], _ => by simp
  | a :: cs, h => by
    have h1 := encCn_len a (h a List.mem_cons_self)
    have h2 := encCns_len cs (fun b hb => h b (List.mem_cons_of_mem _ hb))
    rw [List.flatMap_cons, List.length_append, List.length_cons]; omega
theorem memC (l : List Cn) (j : Nat) (h : j < l.length) : l[j]! ∈ l := by rw [getElem!_pos l j h]; exact List.getElem_mem _
theorem takeC (l : List Cn) (j : Nat) (h : j < l.length) : l.take (j + 1) = l.take j ++ [l[j]!] := by
  rw [List.take_add_one, List.getElem?_eq_getElem h, getElem!_pos l j h]; rfl
theorem dropC (l : List Cn) (j : Nat) (h : j < l.length) : l.drop j = l[j]! :: l.drop (j + 1) := by
  rw [List.drop_eq_getElem_cons h, getElem!_pos l j h]
/-- A list's copy, laid for a call of its own. -/
theorem copy_conds (w : World) (ao : Option Addr) (cap : Nat) (cs : List Cn) (hb : CondsB w.heap.size w ao cs) (hl : cs.length ≤ 255) :
    ∃ ao1 cap1 w1, Sem.run Try.prog (appendS #[22, 22] 22 #[.slice none 0 0, .slice ao cs.length cap]) w = .ok (.slice ao1 cs.length cap1) w1 ∧
      Aside (Below w.heap.size w w1 ∧ (cs = [] ∨ ∃ g, ao1 = some ⟨g, 0, none⟩ ∧ w.heap.size ≤ g ∧ g < w1.heap.size ∧ RowC w1 g 0 cs ∧ ∀ i, w1.frozen? ⟨g, i, none⟩ = false)) := by
  obtain ⟨i0, z0, hi, hz0, hz1, hz2, hz3⟩ := cond_info
  rcases hb with h | ⟨b, off, rfl, _, h4⟩
  · subst h
    cases ao with
    | none => exact ⟨none, 0, w, run_append_nothing w 22 22 22 30 i0 Try.underlying22 hi none 0 0 (Nat.le_refl _) _ (Src.ofNil w Try.underlying22 cap), Below.refl _ _, Or.inl rfl⟩
    | some a => exact ⟨none, 0, w, run_append_nothing w 22 22 22 30 i0 Try.underlying22 hi none 0 0 (Nat.le_refl _) _ (Src.ofSlice w Try.underlying22 a 0 cap [] (by simp) (by simp) (by simp)), Below.refl _ _, Or.inl rfl⟩
  · have hnews : ∀ j u, (cs.flatMap encC)[j]? = some u → w.cell? ((⟨b, off, none⟩ : Addr).add j) = some u := fun j u hj => by
      have hjl : j < cs.length * 7 := by have := (List.getElem?_eq_some_iff.1 hj).1; rw [encC_flat_len] at this; exact this
      have hc5 : j % 7 < (encC cs[j / 7]!).length := by rw [encC_len]; omega
      have h1 := encC_at cs (j / 7) (by omega) (j % 7) _ (List.getElem?_eq_getElem hc5)
      rw [show j / 7 * 7 + j % 7 = j by omega, hj] at h1
      have h2 := h4 (j / 7) (by omega) (j % 7) _ (List.getElem?_eq_getElem hc5)
      rw [show off + j / 7 * 7 + j % 7 = off + j by omega] at h2
      rw [Addr.add_lit, h2, h1]
    obtain ⟨v1, w1, hrun1, hown1, hg1, _⟩ := run_append_own (P := Try.prog) w w.heap.size 22 22 30 i0 z0 7 72 Try.underlying22 hi hz0 hz1 hz2 hz3 (by decide) _ _ _ (World.ownsRow_nil w w.heap.size 30 7) ⟨b, off, none⟩ cs.length cap (cs.flatMap encC) (encC_flat_len cs) hnews (fun u hu => by
      obtain ⟨a, _, ha⟩ := List.mem_flatMap.1 hu
      exact encC_one a u ha) (by unfold maxLen; omega) (by omega) (Nat.le_refl _)
    rw [Nat.zero_add, List.nil_append] at hown1
    have hb1 : Below w.heap.size w w1 := (Below.refl _ _).grown hg1 (Nat.le_refl _) (fun k e => by simp [Value.ownBlock] at e)
    have hown := hown1
    rcases hown1.2 with ⟨rfl, h0⟩ | ⟨g, cap1, cur, rfl, hbg, hg, hnc, hcm, hcs, htake⟩
    · have : cs = [] := List.eq_nil_of_length_eq_zero h0
      subst this
      exact ⟨none, 0, w1, hrun1, hb1, Or.inl rfl⟩
    · refine ⟨_, _, w1, hrun1, hb1, Or.inr ⟨g, rfl, hbg, (Array.getElem?_eq_some_iff.1 hg).1, fun j hj c u hu => ?_, fun i => hown.frozenAt i⟩⟩
      have hcell := hown.cells (g := g) rfl (j * 7 + c) u (encC_at cs j hj c u hu)
      rw [Nat.zero_add]
      generalize j * 7 + c = q at hcell ⊢
      by_cases h0 : q = 0
      · subst h0; simpa [Addr.add] using hcell
      · simpa [Addr.add, h0] using hcell
end Go.Proofs.Ytecfbbddhnkilaa
