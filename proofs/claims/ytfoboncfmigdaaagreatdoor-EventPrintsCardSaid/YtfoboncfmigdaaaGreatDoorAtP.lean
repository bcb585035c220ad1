/- Attributes: six cells, names, what is kept; rows of them in memory; value.Canon, value.Same of them. (Wants value.Canon, value.Same; not event.New.) -/
import Derived.Test.YtfoboncfmigdaaaGreatDoorGaA
import Derived.Maps.AppendAt
import Derived.Test.YtfoboncfmigdaaaGreatDoorStab
namespace Go.Proofs.YtfoboncfmigdaaaGreatDoor
open Go.RowKit Go.Shelf Go.Sort
open Go.Proofs
set_option maxRecDepth 100000

/-- An attribute: its name, its value's five fields. -/
structure At where
  nm : ByteArray
  k : Int
  n : Int
  x : Nat
  s : ByteArray
  y : Bool
instance : Inhabited At := ⟨⟨⟨#[]⟩, 0, 0, 0, ⟨#[]⟩, false⟩⟩
/-- Its cells. -/
def encA (a : At) : List Value := [.string a.nm, .int .i64 a.k, .int .i64 a.n, .float .f64 a.x, .string a.s, .bool a.y]
/-- Its name's letters. -/
def keyA (a : At) : List UInt8 := a.nm.data.toList
theorem encA_len (a : At) : (encA a).length = 6 := rfl
theorem encA_one (a : At) : ∀ v ∈ encA a, v.oneCell' = true := fun v h => by
  simp only [encA, List.mem_cons, List.mem_nil_iff, or_false] at h
  rcases h with rfl | rfl | rfl | rfl | rfl | rfl <;> rfl

/-- A row of attributes lies in the world: element j's six cells. -/
def RowAt (W : World) (b off : Nat) (zs : List At) : Prop := ∀ j, j < zs.length → ∀ c v, (encA zs[j]!)[c]? = some v → W.cell? ⟨b, off + j * 6 + c, none⟩ = some v
theorem RowAt.below {n₀ b off : Nat} {A B : World} {zs : List At} (h : Below n₀ A B) (hb : b < n₀) (r : RowAt A b off zs) : RowAt B b off zs := fun j hj c v hv => (h.cell (p := ⟨b, off + j * 6 + c, none⟩) hb).trans (r j hj c v hv)
/-- A slice's elements lie in the world; or there are none. -/
def SliceA (w : World) (ao : Option Addr) (zs : List At) : Prop := zs = [] ∨ ∃ b off, ao = some ⟨b, off, none⟩ ∧ b < w.heap.size ∧ RowAt w b off zs
theorem SliceA.under {w w' : World} {ao : Option Addr} {l : List At} (h : SliceA w ao l) (hb : Below w.heap.size w w') : SliceA w' ao l := by
  rcases h with h | ⟨b, off, h1, h2, h3⟩
  · exact Or.inl h
  · exact Or.inr ⟨b, off, h1, Nat.lt_of_lt_of_le h2 hb.size, RowAt.below hb h2 h3⟩
/-- An attribute with its value kept. -/
def canonA (a : At) : At :=
  if a.k == 0 then ⟨a.nm, 0, a.n, 0, ⟨#[]⟩, false⟩ else if a.k == 1 then ⟨a.nm, 1, 0, fcanon a.x, ⟨#[]⟩, false⟩ else if a.k == 2 then ⟨a.nm, 2, 0, 0, a.s, false⟩ else if a.k == 3 then ⟨a.nm, 3, 0, 0, ⟨#[]⟩, a.y⟩ else ⟨a.nm, 0, 0, 0, ⟨#[]⟩, false⟩
theorem canonA_nm (a : At) : (canonA a).nm = a.nm := by unfold canonA; repeat' split
                                                        all_goals rfl
theorem keyA_canon (a : At) : keyA (canonA a) = keyA a := by unfold keyA; rw [canonA_nm]
/-- A value as the program holds it. -/
def valA (a : At) : Value := val a.k a.n a.x a.s a.y
theorem canonA_c (a : At) (w : World) : Calls Tryz.prog 14 #[val a.k a.n a.x a.s a.y] w fun e w' => e = .returned (val (canonA a).k (canonA a).n (canonA a).x (canonA a).s (canonA a).y) ∧ Below w.heap.size w w' := by
  obtain ⟨nm, k, n, x, s, y⟩ := a
  unfold canonA
  simp only []
  cases h0 : (k == 0)
  · cases h1 : (k == 1)
    · cases h2 : (k == 2)
      · cases h3 : (k == 3)
        · simp only [Bool.false_eq_true, if_false]; exact canon4_v k n x s y w h0 h1 h2 h3
        · obtain rfl : k = 3 := by simpa using h3
          exact canon3_v n x s y w
      · obtain rfl : k = 2 := by simpa using h2
        exact canon2_v n x s y w
    · obtain rfl : k = 1 := by simpa using h1
      exact canon1_v n x s y w
  · obtain rfl : k = 0 := by simpa using h0
    exact canon0_v n x s y w
def appendS (tys : Array TypeId) (ty : TypeId) (args : Array Value) : Sem Value := Builtin.append_ tys ty args
theorem append_pre (tys : Array TypeId) (ty : TypeId) (args : Array Value) : Builtin.append_ tys ty args = appendS tys ty args := rfl
theorem get_mem (l : List At) (i : Nat) (h : i < l.length) : l[i]! ∈ l := by
  rw [getElem!_pos l i h]; exact List.getElem_mem h
/-- A row that the call owns is a slice whose elements lie in the world. -/
theorem own_slice {w : World} {base : Nat} {e : TypeId} {v : Value} {l : List At} (h : w.ownsRow base e 6 v l.length (l.flatMap encA)) : ∃ ao cap, v = .slice ao l.length cap ∧ SliceA w ao l := by
  rcases h.2 with ⟨rfl, h0⟩ | ⟨g, cap, cur, rfl, hbg, hg, hnc, hcm, hcs, htake⟩
  · have : l = [] := List.eq_nil_of_length_eq_zero (by first | exact h0 | exact h0.symm | omega)
    subst this
    exact ⟨none, 0, rfl, Or.inl rfl⟩
  · refine ⟨_, _, rfl, Or.inr ⟨g, 0, rfl, ?_, ?_⟩⟩
    · exact (Array.getElem?_eq_some_iff.1 hg).1
    · intro j hj c u hu
      have hlen : ∀ (l : List At) (j : Nat), j < l.length → ∀ c u, (encA l[j]!)[c]? = some u → (l.flatMap encA)[j * 6 + c]? = some u := by
        intro l
        induction l with
        | nil => intro j hj; simp at hj
        | cons a l ih =>
          intro j hj c u hu
          cases j with
          | zero =>
            have hc : c < (encA a).length := by
              have := (List.getElem?_eq_some_iff.1 hu).1; simpa using this
            simp only [List.flatMap_cons, Nat.zero_mul, Nat.zero_add]
            rw [List.getElem?_append_left hc]; simpa using hu
          | succ j =>
            have := ih j (by simpa using hj) c u (by simpa using hu)
            simp only [List.flatMap_cons]
            rw [List.getElem?_append_right (by rw [encA_len]; omega), encA_len, show (j + 1) * 6 + c - 6 = j * 6 + c by omega]
            exact this
      have hx := hlen l j hj c u hu
      have hcell := h.cells (g := g) rfl (j * 6 + c) u hx
      rw [Nat.zero_add]
      generalize j * 6 + c = q at hcell ⊢
      by_cases h0 : q = 0
      · subst h0; simpa [Addr.add] using hcell
      · simpa [Addr.add, h0] using hcell
/-- What Go's own memory allows of an attribute. -/
def AtOk (a : At) : Prop := a.x < 18446744073709551616
theorem take_succ (l : List At) (j : Nat) (h : j < l.length) : l.take (j + 1) = l.take j ++ [l[j]!] := by
  rw [List.take_add_one, List.getElem?_eq_getElem h, getElem!_pos l j h]; rfl
/-- Are two values the same? -/
def vsame (p q : At) : Bool := p.k == q.k && sameV p.k p.n q.n p.x q.x p.s q.s p.y q.y
def sameA (p q : At) : Bool := p.nm.toList == q.nm.toList && vsame p q
set_option maxHeartbeats 1000000 in
theorem vsame_c (k k2 n n2 : Int) (x x2 : Nat) (s s2 : ByteArray) (y y2 : Bool) (w : World) (hx : x < 18446744073709551616) (hx2 : x2 < 18446744073709551616) :
    Calls Tryz.prog 29 #[val k n x s y, val k2 n2 x2 s2 y2] w fun e w' => e = .returned (.bool (k == k2 && sameV k n n2 x x2 s s2 y y2)) ∧ Below w.heap.size w w' := by
  cases h : (k == k2)
  · have hne : (k != k2) = true := by rw [bne, h]; rfl
    rw [Bool.false_and]
    go_enter Tryz.func29, Tryz.ntmps29
    go_wp2
    go_ret
    exact ⟨rfl, ((Below.refl _ _).alloc (Nat.le_refl _) _).alloc (by simp) _⟩
  · obtain rfl : k = k2 := by simpa using h
    rw [Bool.true_and]
    exact same_v k n n2 x x2 s s2 y y2 w hx hx2
theorem oth {W : World} {R i j : Nat} {v : Value} (h : i ≠ j) : (W.setCell ⟨R, i, none⟩ v).cell? ⟨R, j, none⟩ = W.cell? ⟨R, j, none⟩ :=
  World.cell?_setCell_other W ⟨R, i, none⟩ ⟨R, j, none⟩ v (by intro e; injection e; first | exact h ‹i = j› | exact h ‹j = i›.symm)
theorem alloc_frozen (W : World) (cs : Array Value) (ty : TypeId) (i : Nat) : (W.alloc (.cells cs ty)).frozen? ⟨W.heap.size, i, none⟩ = false := by
  have hh := heap_alloc_new W (.cells cs ty)
  simp only [World.frozen?]
  rw [hh]; simp
end Go.Proofs.YtfoboncfmigdaaaGreatDoor
