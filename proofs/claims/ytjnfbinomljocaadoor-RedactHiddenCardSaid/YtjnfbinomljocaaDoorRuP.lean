/- Rules: plainly, and in memory (eight cells); who may do what, as plain functions. -/
import Derived.Test.YtjnfbinomljocaaDoorGaE
namespace Go.Proofs.YtjnfbinomljocaaDoor
open Go.RowKit Go.Shelf Go.Sort
open Go.Proofs
set_option maxRecDepth 100000

/-- A rule. -/
structure Ru where
  k : Int
  tn : Int
  who : ByteArray
  br : Int
  sc : ByteArray
  co : Option Addr
  cap : Nat
  cs : List Cn
  nm : ByteArray
  ix : Int
instance : Inhabited Ru := ⟨⟨0, 0, ⟨#[]⟩, 0, ⟨#[]⟩, none, 0, [], ⟨#[]⟩, 0⟩⟩
/-- Its cells. -/
def encR (r : Ru) : List Value := [.int .i64 r.k, .int .i64 r.tn, .string r.who, .int .i64 r.br, .string r.sc, .slice r.co r.cs.length r.cap, .string r.nm, .int .i64 r.ix]
abbrev rul (k tn : Int) (who : ByteArray) (br : Int) (sc : ByteArray) (co : Option Addr) (n cap : Nat) (nm : ByteArray) (ix : Int) : Value := .agg #[.int .i64 k, .int .i64 tn, .string who, .int .i64 br, .string sc, .slice co n cap, .string nm, .int .i64 ix]
abbrev rulR (r : Ru) : Value := rul r.k r.tn r.who r.br r.sc r.co r.cs.length r.cap r.nm r.ix
theorem encR_len (r : Ru) : (encR r).length = 8 := rfl
theorem encR_one (r : Ru) : ∀ v ∈ encR r, v.oneCell' = true := fun v h => by
  simp only [encR, List.mem_cons, List.mem_nil_iff, or_false] at h
  rcases h with rfl | rfl | rfl | rfl | rfl | rfl | rfl | rfl <;> rfl
theorem encR_at : ∀ (l : List Ru) (j : Nat), j < l.length → ∀ c u, (encR l[j]!)[c]? = some u → (l.flatMap encR)[j * 8 + c]? = some u := by
  intro l
  induction l with
  | nil => intro j hj; simp at hj
  | cons a l ih =>
    intro j hj c u hu
    cases j with
    | zero =>
      have hc : c < (encR a).length := by
        have := (List.getElem?_eq_some_iff.1 hu).1; simpa using this
      simp only [List.flatMap_cons, Nat.zero_mul, Nat.zero_add]
      rw [List.getElem?_append_left hc]; simpa using hu
    | succ j =>
      have := ih j (by simpa using hj) c u (by simpa using hu)
      simp only [List.flatMap_cons]
      rw [List.getElem?_append_right (by rw [encR_len]; omega), encR_len, show (j + 1) * 8 + c - 8 = j * 8 + c by omega]
      exact this
theorem rule_info : ∃ i z, Tryd.prog.info? 43 = some i ∧ i.zero = some z ∧ i.size = 8 ∧ i.bytes = 104 ∧ z.cells.size = 8 := by
  obtain ⟨i, hi, h⟩ := Option.bind_eq_some_iff.1 (show (Tryd.prog.info? 43).bind (fun i => i.zero.map fun z => (i.size, i.bytes, z.cells.size)) = some (8, 104, 8) by kernel_rfl)
  obtain ⟨z, hz, h⟩ := Option.map_eq_some_iff.1 h
  simp only [Prod.mk.injEq] at h
  exact ⟨i, z, hi, hz, h.1, h.2.1, h.2.2⟩
theorem rule_cells (r : Ru) (W : World) (ty : TypeId) : ∀ (j : Nat) u, (encR r)[j]? = some u → (W.alloc (.cells (encR r).toArray ty)).cell? ((⟨W.heap.size, 0, none⟩ : Addr).add j) = some u := fun j u h => by
  have h2 : (W.alloc (.cells (encR r).toArray ty)).cell? ⟨W.heap.size, j, none⟩ = some u := by rw [World.cell?_alloc_new, List.getElem?_toArray]; exact h
  generalize W.alloc (.cells (encR r).toArray ty) = W2 at *
  by_cases h0 : j = 0
  · subst h0; exact h2
  · have e : (⟨W.heap.size, 0, none⟩ : Addr).add j = ⟨W.heap.size, j, none⟩ := by simp [Addr.add, h0]
    rw [e]; exact h2

/-- Rules one behind the other. -/
def RowR (W : World) (b off : Nat) (rs : List Ru) : Prop := ∀ j, j < rs.length → ∀ c v, (encR rs[j]!)[c]? = some v → W.cell? ⟨b, off + j * 8 + c, none⟩ = some v
theorem RowR.below {B : Nat} {w w' : World} {b off : Nat} {rs : List Ru} (hb : Below B w w') (hl : b < B) (h : RowR w b off rs) : RowR w' b off rs :=
  fun j hj c v hv => (hb.cell (p := ⟨b, off + j * 8 + c, none⟩) hl).trans (h j hj c v hv)
/-- Rules that lie below block B, each with its conditions. -/
def RulesB (B : Nat) (W : World) (ao : Option Addr) (rs : List Ru) : Prop := (rs = [] ∨ ∃ b off, ao = some ⟨b, off, none⟩ ∧ b < B ∧ RowR W b off rs) ∧ ∀ r ∈ rs, CondsB B W r.co r.cs
theorem RulesB.below {B n : Nat} {w w' : World} {ao : Option Addr} {rs : List Ru} (h : RulesB B w ao rs) (hb : Below n w w') (hn : B ≤ n) : RulesB B w' ao rs := by
  refine ⟨?_, fun r hr => (h.2 r hr).below hb hn⟩
  rcases h.1 with h | ⟨b, off, h1, h2, h3⟩
  · exact Or.inl h
  · exact Or.inr ⟨b, off, h1, h2, fun j hj c v hv => (hb.cell (p := ⟨b, off + j * 8 + c, none⟩) (by show b < n; omega)).trans (h3 j hj c v hv)⟩
theorem CondsB.up {B B' : Nat} {w : World} {ao : Option Addr} {cs : List Cn} (h : CondsB B w ao cs) (hB : B ≤ B') : CondsB B' w ao cs := by
  rcases h with h | ⟨b, off, h1, h2, h3⟩
  · exact Or.inl h
  · exact Or.inr ⟨b, off, h1, Nat.lt_of_lt_of_le h2 hB, h3⟩
theorem RulesB.up {B B' : Nat} {w : World} {ao : Option Addr} {rs : List Ru} (h : RulesB B w ao rs) (hB : B ≤ B') : RulesB B' w ao rs := by
  refine ⟨?_, fun r hr => (h.2 r hr).up hB⟩
  rcases h.1 with h | ⟨b, off, h1, h2, h3⟩
  · exact Or.inl h
  · exact Or.inr ⟨b, off, h1, Nat.lt_of_lt_of_le h2 hB, h3⟩
theorem RulesB.on {w W : World} {ao : Option Addr} {rs : List Ru} (h : RulesB w.heap.size w ao rs) (hb : Below w.heap.size w W) : RulesB W.heap.size W ao rs := (h.below hb (Nat.le_refl _)).up hb.size
/-- Rules in a block from B on; or none. -/
def RowsN (B : Nat) (w : World) (ao : Option Addr) (rs : List Ru) : Prop := rs = [] ∨ ∃ b off, ao = some ⟨b, off, none⟩ ∧ B ≤ b ∧ b < w.heap.size ∧ RowR w b off rs
theorem RowsN.on {B : Nat} {w W : World} {ao : Option Addr} {rs : List Ru} (h : RowsN B w ao rs) (hb : Below w.heap.size w W) : RowsN B W ao rs := by
  rcases h with h | ⟨b, off, h1, h2, h3, h4⟩
  · exact Or.inl h
  · exact Or.inr ⟨b, off, h1, h2, Nat.lt_of_lt_of_le h3 hb.size, h4.below hb h3⟩
theorem RowsN.down {B B' : Nat} {w : World} {ao : Option Addr} {rs : List Ru} (h : RowsN B w ao rs) (hB : B' ≤ B) : RowsN B' w ao rs := by
  rcases h with h | ⟨b, off, h1, h2, h3, h4⟩
  · exact Or.inl h
  · exact Or.inr ⟨b, off, h1, Nat.le_trans hB h2, h3, h4⟩
theorem RowsN.set {B E i : Nat} {w : World} {ao : Option Addr} {rs : List Ru} (h : RowsN B w ao rs) (hE : E < B) (v : Value) : RowsN B (w.setCell ⟨E, i, none⟩ v) ao rs := by
  rcases h with h | ⟨b, off, h1, h2, h3, h4⟩
  · exact Or.inl h
  · refine Or.inr ⟨b, off, h1, h2, by simpa using h3, fun j hj c u hu => ?_⟩
    have hne : (⟨E, i, none⟩ : Addr) ≠ ⟨b, off + j * 8 + c, none⟩ := fun e => by injection e; omega
    rw [World.cell?_setCell_other _ _ _ _ (by first | exact hne | exact hne.symm)]
    exact h4 j hj c u hu
theorem RowsN.rules {B : Nat} {w : World} {ao : Option Addr} {rs : List Ru} (h : RowsN B w ao rs) (hc : ∀ r ∈ rs, CondsB w.heap.size w r.co r.cs) : RulesB w.heap.size w ao rs := by
  refine ⟨?_, hc⟩
  rcases h with h | ⟨b, off, h1, _, h3, h4⟩
  · exact Or.inl h
  · exact Or.inr ⟨b, off, h1, h3, h4⟩
theorem memR (rs : List Ru) (j : Nat) (hj : j < rs.length) : rs[j]! ∈ rs := by rw [getElem!_pos rs j hj]; exact List.getElem_mem _
theorem takeR (l : List Ru) (j : Nat) (hj : j < l.length) : l.take (j + 1) = l.take j ++ [l[j]!] := by
  rw [List.take_add_one, List.getElem?_eq_getElem hj, getElem!_pos l j hj]; rfl

/-! ### Plainly -/
def someoneB (r : Ru) : Bool := (decide (0 ≤ r.tn) && decide (r.tn < 4)) && nameOk r.who
def rrightB (r : Ru) : Bool :=
  if r.k = 0 then someoneB r && (decide (0 ≤ r.br) && decide (r.br < 6))
  else if r.k = 1 ∨ r.k = 2 then someoneB r && rightF r.sc r.cs
  else if r.k = 3 then someoneB r && (nameOk r.nm && scopeOk r.sc)
  else if r.k = 4 then decide (0 ≤ r.ix)
  else false
def ofR (r : Ru) (k tn : Int) (who : ByteArray) : Bool := (r.k == k) && ((r.tn == tn) && (r.who.toList == who.toList))
/-- The broker of the last Join; none: it isn't there. -/
def homeR (rs : List Ru) (tn : Int) (who : ByteArray) : Option Int := (rs.reverse.find? fun r => ofR r 0 tn who).map (·.br)
def mayR (rs : List Ru) (k tn : Int) (who : ByteArray) (q : Ru → Bool) : Bool := (homeR rs tn who).isSome && rs.any fun r => ofR r k tn who && q r
def mayPub (rs : List Ru) (tn : Int) (who : ByteArray) (es : ByteArray) (l : List At) : Bool := mayR rs 1 tn who fun r => matchF r.sc r.cs es l
def mayObs (rs : List Ru) (tn : Int) (who : ByteArray) (gs : ByteArray) (ds : List Cn) : Bool := mayR rs 2 tn who fun r => coversF r.sc r.cs gs ds
def light1 (l : ByteArray → List Cn → Bool) (r : Ru) : Bool := !decide (200 < wrap64 ((r.who.size : Int) + (r.nm.size : Int))) && l r.sc r.cs
end Go.Proofs.YtjnfbinomljocaaDoor
