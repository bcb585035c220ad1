/- Conditions: a name, an op, a value: plainly, and in memory (seven cells). (Wants no codec.) -/
import Derived.Test.YtjeippdfgojdnaaGreatDoorAtP
import Derived.Deep.Upon
namespace Go.Proofs.YtjeippdfgojdnaaGreatDoor
open Go.RowKit
open Go.Shelf Go.Sort
open Go.Proofs
set_option maxRecDepth 100000

/-- A condition: the name and value of an attribute, and its op. -/
structure Cn where
  a : At
  op : Int
instance : Inhabited Cn := ⟨⟨default, 0⟩⟩
/-- Its cells. -/
def encC (c : Cn) : List Value := [.string c.a.nm, .int .i64 c.op, .int .i64 c.a.k, .int .i64 c.a.n, .float .f64 c.a.x, .string c.a.s, .bool c.a.y]
theorem encC_len (a : Cn) : (encC a).length = 7 := rfl
theorem encC_one (a : Cn) : ∀ v ∈ encC a, v.oneCell' = true := fun v h => by
  simp only [encC, List.mem_cons, List.mem_nil_iff, or_false] at h
  rcases h with rfl | rfl | rfl | rfl | rfl | rfl | rfl <;> rfl
theorem encC_at : ∀ (l : List Cn) (j : Nat), j < l.length → ∀ c u, (encC l[j]!)[c]? = some u → (l.flatMap encC)[j * 7 + c]? = some u := by
  intro l
  induction l with
  | nil => intro j hj; simp at hj
  | cons a l ih =>
    intro j hj c u hu
    cases j with
    | zero =>
      have hc : c < (encC a).length := by
        have := (List.getElem?_eq_some_iff.1 hu).1; simpa using this
      simp only [List.flatMap_cons, Nat.zero_mul, Nat.zero_add]
      rw [List.getElem?_append_left hc]; simpa using hu
    | succ j =>
      have := ih j (by simpa using hj) c u (by simpa using hu)
      simp only [List.flatMap_cons]
      rw [List.getElem?_append_right (by rw [encC_len]; omega), encC_len, show (j + 1) * 7 + c - 7 = j * 7 + c by omega]
      exact this
theorem encC_flat_len (l : List Cn) : (l.flatMap encC).length = l.length * 7 := by
  induction l with
  | nil => rfl
  | cons a l ih => simp only [List.flatMap_cons, List.length_append, encC_len, List.length_cons, ih]; omega
theorem cond_info : ∃ i z, Tryz.prog.info? 26 = some i ∧ i.zero = some z ∧ i.size = 7 ∧ i.bytes = 72 ∧ z.cells.size = 7 := by
  obtain ⟨i, hi, h⟩ := Option.bind_eq_some_iff.1 (show (Tryz.prog.info? 26).bind (fun i => i.zero.map fun z => (i.size, i.bytes, z.cells.size)) = some (7, 72, 7) by kernel_rfl)
  obtain ⟨z, hz, h⟩ := Option.map_eq_some_iff.1 h
  simp only [Prod.mk.injEq] at h
  exact ⟨i, z, hi, hz, h.1, h.2.1, h.2.2⟩

/-- Conditions one behind the other. -/
def RowC (W : World) (b off : Nat) (cs : List Cn) : Prop := ∀ j, j < cs.length → ∀ c v, (encC cs[j]!)[c]? = some v → W.cell? ⟨b, off + j * 7 + c, none⟩ = some v
theorem RowC.below {B : Nat} {w w' : World} {b off : Nat} {cs : List Cn} (hb : Below B w w') (hl : b < B) (h : RowC w b off cs) : RowC w' b off cs :=
  fun j hj c v hv => (hb.cell (p := ⟨b, off + j * 7 + c, none⟩) hl).trans (h j hj c v hv)
/-- Conditions that lie below block B. -/
def CondsB (B : Nat) (W : World) (ao : Option Addr) (cs : List Cn) : Prop := cs = [] ∨ ∃ b off, ao = some ⟨b, off, none⟩ ∧ b < B ∧ RowC W b off cs
theorem CondsB.below {B n : Nat} {w w' : World} {ao : Option Addr} {cs : List Cn} (h : CondsB B w ao cs) (hb : Below n w w') (hn : B ≤ n) : CondsB B w' ao cs := by
  rcases h with h | ⟨b, off, h1, h2, h3⟩
  · exact Or.inl h
  · exact Or.inr ⟨b, off, h1, h2, fun j hj c v hv => (hb.cell (p := ⟨b, off + j * 7 + c, none⟩) (by show b < n; omega)).trans (h3 j hj c v hv)⟩
/-- Conditions that lie in blocks from B on; or none. -/
def CondsN (B : Nat) (w : World) (ao : Option Addr) (cs : List Cn) : Prop := cs = [] ∨ ∃ b, ao = some ⟨b, 0, none⟩ ∧ B ≤ b ∧ b < w.heap.size ∧ RowC w b 0 cs

theorem memC (l : List Cn) (j : Nat) (h : j < l.length) : l[j]! ∈ l := by rw [getElem!_pos l j h]; exact List.getElem_mem _
theorem takeC (l : List Cn) (j : Nat) (h : j < l.length) : l.take (j + 1) = l.take j ++ [l[j]!] := by
  rw [List.take_add_one, List.getElem?_eq_getElem h, getElem!_pos l j h]; rfl
theorem dropC (l : List Cn) (j : Nat) (h : j < l.length) : l.drop j = l[j]! :: l.drop (j + 1) := by
  rw [List.drop_eq_getElem_cons h, getElem!_pos l j h]
end Go.Proofs.YtjeippdfgojdnaaGreatDoor
