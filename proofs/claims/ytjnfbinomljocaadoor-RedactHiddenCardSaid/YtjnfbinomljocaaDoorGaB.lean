/- AtP, Name, Kept, CmpP, CnP, CondP: merged by merge.py. -/
import Derived.Test.YtjnfbinomljocaaDoorGaA
import Derived.Maps.AppendAt
import Derived.Test.YtjnfbinomljocaaDoorStab
import Derived.Laws.StructEq
import Derived.Laws.IdiomStrings
import Derived.Sort.Walk0
import Derived.Deep.QuietTactic
import Derived.Deep.Upon
import Derived.Lib.Strings
/- Attributes: six cells, names, what is kept; rows of them in memory; value.Canon, value.Same of them. (Wants value.Canon, value.Same; not event.New.) -/
namespace Go.Proofs.YtjnfbinomljocaaDoor
open Go.RowKit Go.Shelf Go.Sort
open Go.Proofs
set_option maxRecDepth 100000

/-- An attribute: its name, its value's five fields. -/
structure At where
  nm : ByteArray
  k : Int
  n : Int
  x : Nat
  s : ByteArray
  y : Bool
instance : Inhabited At := ⟨⟨⟨#[]⟩, 0, 0, 0, ⟨#[]⟩, false⟩⟩
/-- Its cells. -/
def encA (a : At) : List Value := [.string a.nm, .int .i64 a.k, .int .i64 a.n, .float .f64 a.x, .string a.s, .bool a.y]
/-- Its name's letters. -/
def keyA (a : At) : List UInt8 := a.nm.data.toList
theorem encA_len (a : At) : (encA a).length = 6 := rfl
theorem encA_one (a : At) : ∀ v ∈ encA a, v.oneCell' = true := fun v h => by
  simp only [encA, List.mem_cons, List.mem_nil_iff, or_false] at h
  rcases h with rfl | rfl | rfl | rfl | rfl | rfl <;> rfl

/-- A row of attributes lies in the world: element j's six cells. -/
def RowAt (W : World) (b off : Nat) (zs : List At) : Prop := ∀ j, j < zs.length → ∀ c v, (encA zs[j]!)[c]? = some v → W.cell? ⟨b, off + j * 6 + c, none⟩ = some v
theorem RowAt.below {n₀ b off : Nat} {A B : World} {zs : List At} (h : Below n₀ A B) (hb : b < n₀) (r : RowAt A b off zs) : RowAt B b off zs := fun j hj c v hv => (h.cell (p := ⟨b, off + j * 6 + c, none⟩) hb).trans (r j hj c v hv)
/-- A slice's elements lie in the world; or there are none. -/
def SliceA (w : World) (ao : Option Addr) (zs : List At) : Prop := zs = [] ∨ ∃ b off, ao = some ⟨b, off, none⟩ ∧ b < w.heap.size ∧ RowAt w b off zs
theorem SliceA.under {w w' : World} {ao : Option Addr} {l : List At} (h : SliceA w ao l) (hb : Below w.heap.size w w') : SliceA w' ao l := by
  rcases h with h | ⟨b, off, h1, h2, h3⟩
  · exact Or.inl h
  · exact Or.inr ⟨b, off, h1, Nat.lt_of_lt_of_le h2 hb.size, RowAt.below hb h2 h3⟩
/-- An attribute with its value kept. -/
def canonA (a : At) : At :=
  if a.k == 0 then ⟨a.nm, 0, a.n, 0, ⟨#[]⟩, false⟩ else if a.k == 1 then ⟨a.nm, 1, 0, fcanon a.x, ⟨#[]⟩, false⟩ else if a.k == 2 then ⟨a.nm, 2, 0, 0, a.s, false⟩ else if a.k == 3 then ⟨a.nm, 3, 0, 0, ⟨#[]⟩, a.y⟩ else ⟨a.nm, 0, 0, 0, ⟨#[]⟩, false⟩
theorem canonA_nm (a : At) : (canonA a).nm = a.nm := by unfold canonA; repeat' split
                                                        all_goals rfl
theorem keyA_canon (a : At) : keyA (canonA a) = keyA a := by unfold keyA; rw [canonA_nm]
/-- A value as the program holds it. -/
def valA (a : At) : Value := val a.k a.n a.x a.s a.y
theorem canonA_c (a : At) (w : World) : Calls Tryd.prog 40 #[val a.k a.n a.x a.s a.y] w fun e w' => e = .returned (val (canonA a).k (canonA a).n (canonA a).x (canonA a).s (canonA a).y) ∧ Below w.heap.size w w' := by
  obtain ⟨nm, k, n, x, s, y⟩ := a
  unfold canonA
  simp only []
  cases h0 : (k == 0)
  · cases h1 : (k == 1)
    · cases h2 : (k == 2)
      · cases h3 : (k == 3)
        · simp only [Bool.false_eq_true, if_false]; exact canon4_v k n x s y w h0 h1 h2 h3
        · obtain rfl : k = 3 := by simpa using h3
          exact canon3_v n x s y w
      · obtain rfl : k = 2 := by simpa using h2
        exact canon2_v n x s y w
    · obtain rfl : k = 1 := by simpa using h1
      exact canon1_v n x s y w
  · obtain rfl : k = 0 := by simpa using h0
    exact canon0_v n x s y w
def appendS (tys : Array TypeId) (ty : TypeId) (args : Array Value) : Sem Value := Builtin.append_ tys ty args
theorem append_pre (tys : Array TypeId) (ty : TypeId) (args : Array Value) : Builtin.append_ tys ty args = appendS tys ty args := rfl
theorem get_mem (l : List At) (i : Nat) (h : i < l.length) : l[i]! ∈ l := by
  rw [getElem!_pos l i h]; exact List.getElem_mem h
/-- A row that the call owns is a slice whose elements lie in the world. -/
theorem own_slice {w : World} {base : Nat} {e : TypeId} {v : Value} {l : List At} (h : w.ownsRow base e 6 v l.length (l.flatMap encA)) : ∃ ao cap, v = .slice ao l.length cap ∧ SliceA w ao l := by
  rcases h.2 with ⟨rfl, h0⟩ | ⟨g, cap, cur, rfl, hbg, hg, hnc, hcm, hcs, htake⟩
  · have : l = [] := List.eq_nil_of_length_eq_zero (by first | exact h0 | exact h0.symm | omega)
    subst this
    exact ⟨none, 0, rfl, Or.inl rfl⟩
  · refine ⟨_, _, rfl, Or.inr ⟨g, 0, rfl, ?_, ?_⟩⟩
    · exact (Array.getElem?_eq_some_iff.1 hg).1
    · intro j hj c u hu
      have hlen : ∀ (l : List At) (j : Nat), j < l.length → ∀ c u, (encA l[j]!)[c]? = some u → (l.flatMap encA)[j * 6 + c]? = some u := by
        intro l
        induction l with
        | nil => intro j hj; simp at hj
        | cons a l ih =>
          intro j hj c u hu
          cases j with
          | zero =>
            have hc : c < (encA a).length := by
              have := (List.getElem?_eq_some_iff.1 hu).1; simpa using this
            simp only [List.flatMap_cons, Nat.zero_mul, Nat.zero_add]
            rw [List.getElem?_append_left hc]; simpa using hu
          | succ j =>
            have := ih j (by simpa using hj) c u (by simpa using hu)
            simp only [List.flatMap_cons]
            rw [List.getElem?_append_right (by rw [encA_len]; omega), encA_len, show (j + 1) * 6 + c - 6 = j * 6 + c by omega]
            exact this
      have hx := hlen l j hj c u hu
      have hcell := h.cells (g := g) rfl (j * 6 + c) u hx
      rw [Nat.zero_add]
      generalize j * 6 + c = q at hcell ⊢
      by_cases h0 : q = 0
      · subst h0; simpa [Addr.add] using hcell
      · simpa [Addr.add, h0] using hcell
/-- What Go's own memory allows of an attribute. -/
def AtOk (a : At) : Prop := a.x < 18446744073709551616
theorem take_succ (l : List At) (j : Nat) (h : j < l.length) : l.take (j + 1) = l.take j ++ [l[j]!] := by
  rw [List.take_add_one, List.getElem?_eq_getElem h, getElem!_pos l j h]; rfl
/-- Are two values the same? -/
def vsame (p q : At) : Bool := p.k == q.k && sameV p.k p.n q.n p.x q.x p.s q.s p.y q.y
def sameA (p q : At) : Bool := p.nm.toList == q.nm.toList && vsame p q
set_option maxHeartbeats 1000000 in
theorem vsame_c (k k2 n n2 : Int) (x x2 : Nat) (s s2 : ByteArray) (y y2 : Bool) (w : World) (hx : x < 18446744073709551616) (hx2 : x2 < 18446744073709551616) :
    Calls Tryd.prog 24 #[val k n x s y, val k2 n2 x2 s2 y2] w fun e w' => e = .returned (.bool (k == k2 && sameV k n n2 x x2 s s2 y y2)) ∧ Below w.heap.size w w' := by
  cases h : (k == k2)
  · have hne : (k != k2) = true := by rw [bne, h]; rfl
    rw [Bool.false_and]
    go_enter Tryd.func24, Tryd.ntmps24
    go_wp2
    go_ret
    exact ⟨rfl, ((Below.refl _ _).alloc (Nat.le_refl _) _).alloc (by simp) _⟩
  · obtain rfl : k = k2 := by simpa using h
    rw [Bool.true_and]
    exact same_v k n n2 x x2 s s2 y y2 w hx hx2
theorem oth {W : World} {R i j : Nat} {v : Value} (h : i ≠ j) : (W.setCell ⟨R, i, none⟩ v).cell? ⟨R, j, none⟩ = W.cell? ⟨R, j, none⟩ :=
  World.cell?_setCell_other W ⟨R, i, none⟩ ⟨R, j, none⟩ v (by intro e; injection e; first | exact h ‹i = j› | exact h ‹j = i›.symm)
theorem alloc_frozen (W : World) (cs : Array Value) (ty : TypeId) (i : Nat) : (W.alloc (.cells cs ty)).frozen? ⟨W.heap.size, i, none⟩ = false := by
  have hh := heap_alloc_new W (.cells cs ty)
  simp only [World.frozen?]
  rw [hh]; simp
end Go.Proofs.YtjnfbinomljocaaDoor

/- event.Name of any text. -/
namespace Go.Proofs.YtjnfbinomljocaaDoor
open Go.RowKit Go.Shelf
open Go.Proofs
set_option maxRecDepth 100000

def letB (n : Int) : Bool := decide (97 ≤ n) && decide (n ≤ 122)
def digB (n : Int) : Bool := decide (48 ≤ n) && decide (n ≤ 57)
set_option maxHeartbeats 400000 in
theorem letter_c (n : Int) (w : World) : Calls Tryd.prog 48 #[.int .u8 n] w fun e w' => e = .returned (.bool (letB n)) ∧ w = w' := by
  unfold letB
  go_enter Tryd.func48, Tryd.ntmps48
  cases h1 : decide (97 ≤ n) <;> (go_wp2; go_ret; simp_all)
set_option maxHeartbeats 400000 in
theorem digit_c (n : Int) (w : World) : Calls Tryd.prog 49 #[.int .u8 n] w fun e w' => e = .returned (.bool (digB n)) ∧ w = w' := by
  unfold digB
  go_enter Tryd.func49, Tryd.ntmps49
  cases h1 : decide (48 ≤ n) <;> (go_wp2; go_ret; simp_all)

/-- The i-th letter. -/
def byt (s : ByteArray) (i : Nat) : Int := (s.data[i]!.toNat : Int)
def partB (s : ByteArray) (i : Nat) : Bool := letB (byt s i) || digB (byt s i)
/-- May it be a name? -/
def nameOk (s : ByteArray) : Bool := decide (0 < s.size) && decide (s.size ≤ 12) && letB (byt s 0) && (List.range s.size).all (partB s)

theorem byt_eq (s : ByteArray) (i : Nat) (h : i < s.size) : ((s[i]'h).toNat : Int) = byt s i := by
  have h2 : i < s.data.size := h
  unfold byt
  rw [getElem!_pos s.data i h2]
  rfl
theorem nameOk_part {s : ByteArray} {j : Nat} (hj : j < s.size) (h : partB s j = false) : nameOk s = false := by
  cases hn : nameOk s with
  | false => rfl
  | true =>
    simp only [nameOk, Bool.and_eq_true, List.all_eq_true, List.mem_range] at hn
    rw [hn.2 j hj] at h; cases h
theorem all_succ {s : ByteArray} {j : Nat} (h : (List.range j).all (partB s) = true) (hp : partB s j = true) : (List.range (j + 1)).all (partB s) = true := by
  rw [List.range_succ, List.all_append, h]; simp [hp]

set_option maxHeartbeats 1000000 in
theorem name_c (s : ByteArray) (w : World) : Calls Tryd.prog 26 #[.string s] w fun e w' => e = .returned (.bool (nameOk s)) ∧ w = w' := by
  by_cases h0 : s.size = 0
  · have : s = ⟨#[]⟩ := by
      cases s with | mk d => simp [ByteArray.size] at h0; rw [h0]
    subst this
    go_enter Tryd.func26, Tryd.ntmps26
    go_wp2
    go_ret
    exact ⟨rfl, rfl⟩
  have h0' : 0 < s.size := by omega
  have hne : ¬ s.toList = [] := fun e => h0 (by rw [bytes_toList] at e; have := congrArg List.length e; simpa using this)
  have hie0 : s.toList.isEmpty = false := by simpa using hne
  by_cases h1 : 12 < s.size
  · have hn : nameOk s = false := by
      unfold nameOk; rw [show decide (s.size ≤ 12) = false by simpa using h1]; simp
    have h2 : 12 < (s.size : Int) := by omega
    rw [hn]
    go_enter Tryd.func26, Tryd.ntmps26
    go_wp2
    go_ret
    exact ⟨rfl, rfl⟩
  have h2 : (s.size : Int) ≤ 12 := by omega
  have hie : s.toList.isEmpty = false := by simpa using hne
  have h4 : decide (12 < (s.size : Int)) = false := by simpa using h2
  have h5 : ¬ (s.toList.isEmpty = true ∨ 12 < (s.size : Int)) := by rw [hie]; simp; omega
  have h3 : decide (s.size ≤ 12) = true := by simpa using Nat.not_lt.1 h1
  clear h1 h0
  cases hl : letB (byt s 0)
  · have hn : nameOk s = false := by unfold nameOk; rw [hl]; simp
    rw [hn]
    go_enter Tryd.func26, Tryd.ntmps26
    go_wp2_with (go_at_call 48; rw [byt_eq _ 0 h0']; refine (letter_c _ _).mono ?_; rintro e w' ⟨rfl, rfl⟩; rw [hl])
    go_ret
    exact ⟨rfl, rfl⟩
  · have HN : Aside ((List.range s.size).all (partB s) = true → nameOk s = true) := fun h => by
      unfold nameOk; rw [hl, h3, h]; simpa using h0'
    have HF : Aside (∀ j, j < s.size → partB s j = false → nameOk s = false) := fun j h h' => nameOk_part h h'
    go_enter Tryd.func26, Tryd.ntmps26
    go_wp2_with (go_at_call 48; rw [byt_eq _ 0 h0']; refine (letter_c _ _).mono ?_; rintro e w' ⟨rfl, rfl⟩; rw [hl])
    clear hl h3 hne hie h4 h5
    go_loop [19] (fun k => ∃ j : Nat, j ≤ s.size ∧ k = .int .i64 j ∧ Aside ((List.range j).all (partB s) = true)) (fun k => s.size - (RowKit.intOf k).toNat)
    case atStart => exact ⟨0, Nat.zero_le _, rfl, by simp [Aside]⟩
    case round =>
      obtain ⟨j, hj, rfl, hall⟩ := hrel
      by_cases hlt : j < s.size
      · cases hl : letB (byt s j)
        · cases hd : digB (byt s j)
          · go_wp2_with (first
              | (go_at_call 48; rw [byt_eq _ j hlt]; refine (letter_c _ _).mono ?_; rintro e w' ⟨rfl, rfl⟩; rw [hl])
              | (go_at_call 49; rw [byt_eq _ j hlt]; refine (digit_c _ _).mono ?_; rintro e w' ⟨rfl, rfl⟩; rw [hd]))
            go_ret
            rw [HF.out j hlt (by unfold partB; rw [hl, hd]; rfl)]
            exact ⟨rfl, rfl⟩
          · go_wp2_with (first
              | (go_at_call 48; rw [byt_eq _ j hlt]; refine (letter_c _ _).mono ?_; rintro e w' ⟨rfl, rfl⟩; rw [hl])
              | (go_at_call 49; rw [byt_eq _ j hlt]; refine (digit_c _ _).mono ?_; rintro e w' ⟨rfl, rfl⟩; rw [hd]))
            go_round
            case rel => exact ⟨j + 1, by omega, by go_num, all_succ hall.out (by unfold partB; rw [hl, hd]; rfl)⟩
            case measure => simp only [RowKit.intOf]; omega
        · go_wp2_with (go_at_call 48; rw [byt_eq _ j hlt]; refine (letter_c _ _).mono ?_; rintro e w' ⟨rfl, rfl⟩; rw [hl])
          go_round
          case rel => exact ⟨j + 1, by omega, by go_num, all_succ hall.out (by unfold partB; rw [hl]; rfl)⟩
          case measure => simp only [RowKit.intOf]; omega
      · obtain rfl : j = s.size := by omega
        go_wp2
        go_ret
        rw [HN.out hall.out]
        exact ⟨rfl, rfl⟩
end Go.Proofs.YtjnfbinomljocaaDoor

/- value.Void, value.Right, event.kept of any value. -/
namespace Go.Proofs.YtjnfbinomljocaaDoor
open Go.RowKit Go.Shelf
open Go.Proofs
set_option maxRecDepth 100000

theorem run_equalIn_f64 (P : Program) (w : World) (d : Nat) (t : TypeId) (a b : Nat) (k' : FloatKind) (h : P.underlying t = some (.float k')) : (Op.equalIn (d + 1) t (.float .f64 a) (.float .f64 b)).run P w = .ok (FloatKind.f64.format.order a b == some .eq) w := by
  simp [Op.equalIn, run_underlying h, Op.floatEq]

/-- '==' of two numbers with a point. -/
def feq (a b : Nat) : Bool := FloatKind.f64.format.order a b == some .eq
/-- '==' of two values, field by field. -/
def eqV (k k2 n n2 : Int) (x x2 : Nat) (s s2 : ByteArray) (y y2 : Bool) : Bool := k == k2 && n == n2 && feq x x2 && s.toList == s2.toList && y == y2

section
attribute [local go_sem] run_equalIn_f64
set_option maxHeartbeats 2000000 in
theorem run_eqV (k k2 n n2 : Int) (x x2 : Nat) (s s2 : ByteArray) (y y2 : Bool) (w : World) :
    (binOp .eql 49 (val k n x s y) (val k2 n2 x2 s2 y2)).run Tryd.prog w = .ok (.bool (eqV k k2 n n2 x x2 s s2 y y2)) w := by
  unfold eqV feq val
  rw [run_eql_struct]
  cases h1 : (k == k2) <;> cases h2 : (n == n2) <;> cases h3 : (FloatKind.f64.format.order x x2 == some .eq) <;> cases h4 : (s.toList == s2.toList) <;> cases h5 : (y == y2) <;> simp [go_sem, h1, h2, h3, h4, h5]
end

def voidB (k : Int) (x : Nat) : Bool := k == 1 && fnan x
set_option maxHeartbeats 400000 in
theorem void_c (k n : Int) (x : Nat) (s : ByteArray) (y : Bool) (w : World) :
    Calls Tryd.prog 50 #[val k n x s y] w fun e w' => e = .returned (.bool (voidB k x)) ∧ Below w.heap.size w w' := by
  unfold voidB
  cases h : (k == 1)
  · go_enter Tryd.func50, Tryd.ntmps50
    go_wp2
    go_ret
    exact ⟨rfl, (Below.refl _ _).alloc (Nat.le_refl _) _⟩
  · go_enter Tryd.func50, Tryd.ntmps50
    go_wp2_with (go_at_call 64; refine (none_c _ _).mono ?_; rintro e w' ⟨rfl, rfl⟩)
    go_ret
    exact ⟨rfl, (Below.refl _ _).alloc (Nat.le_refl _) _⟩

def vrightB (k : Int) (s : ByteArray) : Bool := decide (0 ≤ k) && decide (k ≤ 3) && decide ((s.size : Int) ≤ 40)
set_option maxHeartbeats 400000 in
theorem vright_c (k n : Int) (x : Nat) (s : ByteArray) (y : Bool) (w : World) :
    Calls Tryd.prog 27 #[val k n x s y] w fun e w' => e = .returned (.bool (vrightB k s)) ∧ Below w.heap.size w w' := by
  unfold vrightB
  cases h1 : decide (0 ≤ k)
  · go_enter Tryd.func27, Tryd.ntmps27
    go_wp2
    go_ret
    exact ⟨rfl, (Below.refl _ _).alloc (Nat.le_refl _) _⟩
  · cases h2 : decide (k ≤ 3)
    · go_enter Tryd.func27, Tryd.ntmps27
      go_wp2
      go_ret
      exact ⟨rfl, (Below.refl _ _).alloc (Nat.le_refl _) _⟩
    · go_enter Tryd.func27, Tryd.ntmps27
      go_wp2
      go_ret
      exact ⟨rfl, (Below.refl _ _).alloc (Nat.le_refl _) _⟩
end Go.Proofs.YtjnfbinomljocaaDoor

/- value.Compare of any two values; how values stand. (For seats of later layers; drawn off Cmp and ValueOrders.) -/
namespace Go.Proofs.YtjnfbinomljocaaDoor
open Go.RowKit
set_option maxRecDepth 100000

/-- Two values, boxed one behind the other, in every world in which only what is younger has turned. -/
theorem two_cells {w w' : World} (k n k2 n2 : Int) (x x2 : Nat) (s s2 : ByteArray) (y y2 : Bool)
    (hb : Below (w.heap.size + 2) ((w.alloc (.cells (vals k n x s y) 49)).alloc (.cells (vals k2 n2 x2 s2 y2) 49)) w') :
    (∀ i v, (vals k n x s y)[i]? = some v → w'.cell? ⟨w.heap.size, i, none⟩ = some v) ∧ (∀ i v, (vals k2 n2 x2 s2 y2)[i]? = some v → w'.cell? ⟨w.heap.size + 1, i, none⟩ = some v) := by
  refine ⟨fun i v h => ?_, fun i v h => ?_⟩
  · rw [hb.cell (p := ⟨w.heap.size, i, none⟩) (by simp), World.cell?_alloc_lt _ _ _ (by simp), World.cell?_alloc_new]; exact h
  · rw [hb.cell (p := ⟨w.heap.size + 1, i, none⟩) (by simp)]
    have := World.cell?_alloc_new (w.alloc (.cells (vals k n x s y) 49)) (vals k2 n2 x2 s2 y2) 49 i
    rw [World.size_alloc] at this
    rw [this]; exact h
def sgn (a b : Int) : Int := if a < b then -1 else if b < a then 1 else 0
def sgs (s t : ByteArray) : Int := if Op.bytesLess s.toList t.toList then -1 else if s.toList == t.toList then 0 else 1
set_option maxHeartbeats 400000 in
theorem isNaN_str (s : ByteArray) (w : World) : Calls Tryd.prog 97 #[.string s] w fun e w' => e = .returned (.bool false) ∧ w = w' := by
  go_enter Tryd.func97, Tryd.ntmps97
  go_wp2
  go_ret
  exact ⟨by simp, rfl⟩
def b01 (b : Bool) : Int := if b then 1 else 0
/-- How two values of one kind stand. -/
def cmpV (k n n2 : Int) (x x2 : Nat) (s s2 : ByteArray) (y y2 : Bool) : Int :=
  if k == 0 then sgn n n2 else if k == 1 then sgn (fkey x) (fkey x2) else if k == 2 then sgs s s2 else sgn (b01 y) (b01 y2)
/-- What Compare answers of any two values. -/
def cmpOk (k : Int) (x : Nat) (k2 : Int) (x2 : Nat) : Bool := k == k2 && (!voidB k x && !voidB k2 x2)
def cmpR (k n : Int) (x : Nat) (s : ByteArray) (y : Bool) (k2 n2 : Int) (x2 : Nat) (s2 : ByteArray) (y2 : Bool) : Int := if cmpOk k x k2 x2 then cmpV k n n2 x x2 s s2 y y2 else 0
theorem sgn_trans {a b c : Int} (h1 : sgn a b ≤ 0) (h2 : sgn b c ≤ 0) : sgn a c ≤ 0 ∧ (sgn a c < 0 ↔ sgn a b < 0 ∨ sgn b c < 0) := by
  unfold sgn at *
  split at h1 <;> split at h2 <;> (repeat' split) <;> (repeat' split at h1) <;> (repeat' split at h2) <;> omega
theorem sgs_eq (s t : ByteArray) : sgs s t = if s.toList < t.toList then -1 else if s.toList = t.toList then 0 else 1 := by
  unfold sgs
  rw [bytesLess_eq]
  simp only [decide_eq_true_eq, beq_iff_eq]
theorem sgs_trans {a b c : ByteArray} (h1 : sgs a b ≤ 0) (h2 : sgs b c ≤ 0) : sgs a c ≤ 0 ∧ (sgs a c < 0 ↔ sgs a b < 0 ∨ sgs b c < 0) := by
  simp only [sgs_eq] at *
  generalize a.toList = l at *
  generalize b.toList = m at *
  generalize c.toList = r at *
  have irr : ∀ u : List UInt8, ¬ u < u := fun u => List.lt_irrefl u
  by_cases h3 : l < m
  · by_cases h4 : m < r
    · have h5 : l < r := List.lt_trans h3 h4
      simp [h3, h4, h5]
    · by_cases h6 : m = r
      · subst h6; simp [h3, h4]
      · simp [h4, h6] at h2
  · by_cases h6 : l = m
    · subst h6
      by_cases h4 : l < r
      · simp [h3, h4]
      · by_cases h7 : l = r
        · subst h7; simp [h3]
        · simp [h4, h7] at h2
    · simp [h3, h6] at h1
theorem cmpV_trans {k n n2 n3 : Int} {x x2 x3 : Nat} {s s2 s3 : ByteArray} {y y2 y3 : Bool} (h1 : cmpV k n n2 x x2 s s2 y y2 ≤ 0) (h2 : cmpV k n2 n3 x2 x3 s2 s3 y2 y3 ≤ 0) :
    cmpV k n n3 x x3 s s3 y y3 ≤ 0 ∧ (cmpV k n n3 x x3 s s3 y y3 < 0 ↔ cmpV k n n2 x x2 s s2 y y2 < 0 ∨ cmpV k n2 n3 x2 x3 s2 s3 y2 y3 < 0) := by
  unfold cmpV at *
  cases h0 : (k == 0)
  · cases h3 : (k == 1)
    · cases h4 : (k == 2)
      · simp only [h0, h3, h4, Bool.false_eq_true, if_false] at *; exact sgn_trans h1 h2
      · simp only [h0, h3, h4, Bool.false_eq_true, if_false, if_true] at *; exact sgs_trans h1 h2
    · simp only [h0, h3, Bool.false_eq_true, if_false, if_true] at *; exact sgn_trans h1 h2
  · simp only [h0, if_true] at *; exact sgn_trans h1 h2

theorem sgn_tri (a b : Int) : (sgn a b = -1 ∧ sgn b a = 1 ∧ decide (a < b) = true ∧ (a == b) = false) ∨ (sgn a b = 0 ∧ sgn b a = 0 ∧ decide (a < b) = false ∧ (a == b) = true) ∨ (sgn a b = 1 ∧ sgn b a = -1 ∧ decide (a < b) = false ∧ (a == b) = false) := by
  unfold sgn
  rcases (by omega : a < b ∨ a = b ∨ b < a) with h | h | h
  · exact .inl ⟨if_pos h, by rw [if_neg (by omega), if_pos h], decide_eq_true h, beq_eq_false_iff_ne.2 (by omega)⟩
  · subst h; exact .inr (.inl ⟨by rw [if_neg (by omega), if_neg (by omega)], by rw [if_neg (by omega), if_neg (by omega)], decide_eq_false (by omega), beq_self_eq_true a⟩)
  · exact .inr (.inr ⟨by rw [if_neg (by omega), if_pos h], if_pos h, decide_eq_false (by omega), beq_eq_false_iff_ne.2 (by omega)⟩)
theorem sgs_tri (a b : ByteArray) : (sgs a b = -1 ∧ sgs b a = 1 ∧ Op.bytesLess a.toList b.toList = true ∧ (a.toList == b.toList) = false) ∨ (sgs a b = 0 ∧ sgs b a = 0 ∧ Op.bytesLess a.toList b.toList = false ∧ (a.toList == b.toList) = true) ∨ (sgs a b = 1 ∧ sgs b a = -1 ∧ Op.bytesLess a.toList b.toList = false ∧ (a.toList == b.toList) = false) := by
  rw [sgs_eq, sgs_eq, bytesLess_eq]
  generalize a.toList = l
  generalize b.toList = m
  have irr : ∀ u : List UInt8, ¬ u < u := fun u => List.lt_irrefl u
  by_cases h : l < m
  · have h2 : ¬ m < l := fun h3 => irr _ (List.lt_trans h h3)
    have h3 : l ≠ m := fun e => by subst e; exact irr _ h
    exact .inl ⟨if_pos h, by rw [if_neg h2, if_neg (Ne.symm h3)], decide_eq_true h, beq_eq_false_iff_ne.2 h3⟩
  · by_cases e : l = m
    · subst e; exact .inr (.inl ⟨by rw [if_neg h, if_pos rfl], by rw [if_neg h, if_pos rfl], decide_eq_false h, beq_self_eq_true l⟩)
    · have h2 : m < l := by
        rcases List.le_total l m with h3 | h3
        · exact absurd (List.le_antisymm h3 (List.not_lt.1 h)) e
        · exact Decidable.byContradiction fun h4 => e (List.le_antisymm (List.not_lt.1 h4) h3)
      exact .inr (.inr ⟨by rw [if_neg h, if_neg e], if_pos h2, decide_eq_false h, beq_eq_false_iff_ne.2 e⟩)
theorem fl_tri (x x2 : Nat) (h1 : fnan x = false) (h2 : fnan x2 = false) : (sgn (fkey x) (fkey x2) = -1 ∧ sgn (fkey x2) (fkey x) = 1 ∧ (FloatKind.f64.format.order x x2 == some .lt) = true ∧ (FloatKind.f64.format.order x x2 == some .eq) = false ∧ (fkey x == fkey x2) = false) ∨
    (sgn (fkey x) (fkey x2) = 0 ∧ sgn (fkey x2) (fkey x) = 0 ∧ (FloatKind.f64.format.order x x2 == some .lt) = false ∧ (FloatKind.f64.format.order x x2 == some .eq) = true ∧ (fkey x == fkey x2) = true) ∨
    (sgn (fkey x) (fkey x2) = 1 ∧ sgn (fkey x2) (fkey x) = -1 ∧ (FloatKind.f64.format.order x x2 == some .lt) = false ∧ (FloatKind.f64.format.order x x2 == some .eq) = false ∧ (fkey x == fkey x2) = false) := by
  have k1 := @fkey_lt x x2 h1 h2
  have k2 := @fkey_lt x2 x h2 h1
  have k3 := @fkey_eq x x2 h1 h2
  unfold sgn
  rcases (by omega : fpos x < fpos x2 ∨ fpos x = fpos x2 ∨ fpos x2 < fpos x) with h | h | h
  · have o := ford_of_lt h1 h2 _ (ford_lt h)
    rw [o]
    exact .inl ⟨if_pos (k1.2 h), by rw [if_neg (by omega), if_pos (k1.2 h)], rfl, rfl, beq_eq_false_iff_ne.2 (by omega)⟩
  · have o := ford_of_lt h1 h2 _ (ford_eq h)
    rw [o]
    exact .inr (.inl ⟨by rw [if_neg (by omega), if_neg (by omega)], by rw [if_neg (by omega), if_neg (by omega)], rfl, rfl, beq_iff_eq.2 (k3.2 h)⟩)
  · have o := ford_of_lt h1 h2 _ (ford_gt h)
    rw [o]
    exact .inr (.inr ⟨by rw [if_neg (by omega), if_pos (k2.2 h)], if_pos (k2.2 h), rfl, rfl, beq_eq_false_iff_ne.2 (by omega)⟩)

end Go.Proofs.YtjnfbinomljocaaDoor

/- Conditions: a name, an op, a value: plainly, and in memory (seven cells). (Wants no codec.) -/
namespace Go.Proofs.YtjnfbinomljocaaDoor
open Go.RowKit
open Go.Shelf Go.Sort
open Go.Proofs
set_option maxRecDepth 100000

/-- A condition: the name and value of an attribute, and its op. -/
structure Cn where
  a : At
  op : Int
instance : Inhabited Cn := ⟨⟨default, 0⟩⟩
/-- Its cells. -/
def encC (c : Cn) : List Value := [.string c.a.nm, .int .i64 c.op, .int .i64 c.a.k, .int .i64 c.a.n, .float .f64 c.a.x, .string c.a.s, .bool c.a.y]
theorem encC_len (a : Cn) : (encC a).length = 7 := rfl
theorem encC_one (a : Cn) : ∀ v ∈ encC a, v.oneCell' = true := fun v h => by
  simp only [encC, List.mem_cons, List.mem_nil_iff, or_false] at h
  rcases h with rfl | rfl | rfl | rfl | rfl | rfl | rfl <;> rfl
theorem encC_at : ∀ (l : List Cn) (j : Nat), j < l.length → ∀ c u, (encC l[j]!)[c]? = some u → (l.flatMap encC)[j * 7 + c]? = some u := by
  intro l
  induction l with
  | nil => intro j hj; simp at hj
  | cons a l ih =>
    intro j hj c u hu
    cases j with
    | zero =>
      have hc : c < (encC a).length := by
        have := (List.getElem?_eq_some_iff.1 hu).1; simpa using this
      simp only [List.flatMap_cons, Nat.zero_mul, Nat.zero_add]
      rw [List.getElem?_append_left hc]; simpa using hu
    | succ j =>
      have := ih j (by simpa using hj) c u (by simpa using hu)
      simp only [List.flatMap_cons]
      rw [List.getElem?_append_right (by rw [encC_len]; omega), encC_len, show (j + 1) * 7 + c - 7 = j * 7 + c by omega]
      exact this
theorem encC_flat_len (l : List Cn) : (l.flatMap encC).length = l.length * 7 := by
  induction l with
  | nil => rfl
  | cons a l ih => simp only [List.flatMap_cons, List.length_append, encC_len, List.length_cons, ih]; omega
theorem cond_info : ∃ i z, Tryd.prog.info? 66 = some i ∧ i.zero = some z ∧ i.size = 7 ∧ i.bytes = 72 ∧ z.cells.size = 7 := by
  obtain ⟨i, hi, h⟩ := Option.bind_eq_some_iff.1 (show (Tryd.prog.info? 66).bind (fun i => i.zero.map fun z => (i.size, i.bytes, z.cells.size)) = some (7, 72, 7) by kernel_rfl)
  obtain ⟨z, hz, h⟩ := Option.map_eq_some_iff.1 h
  simp only [Prod.mk.injEq] at h
  exact ⟨i, z, hi, hz, h.1, h.2.1, h.2.2⟩

/-- Conditions one behind the other. -/
def RowC (W : World) (b off : Nat) (cs : List Cn) : Prop := ∀ j, j < cs.length → ∀ c v, (encC cs[j]!)[c]? = some v → W.cell? ⟨b, off + j * 7 + c, none⟩ = some v
theorem RowC.below {B : Nat} {w w' : World} {b off : Nat} {cs : List Cn} (hb : Below B w w') (hl : b < B) (h : RowC w b off cs) : RowC w' b off cs :=
  fun j hj c v hv => (hb.cell (p := ⟨b, off + j * 7 + c, none⟩) hl).trans (h j hj c v hv)
/-- Conditions that lie below block B. -/
def CondsB (B : Nat) (W : World) (ao : Option Addr) (cs : List Cn) : Prop := cs = [] ∨ ∃ b off, ao = some ⟨b, off, none⟩ ∧ b < B ∧ RowC W b off cs
theorem CondsB.below {B n : Nat} {w w' : World} {ao : Option Addr} {cs : List Cn} (h : CondsB B w ao cs) (hb : Below n w w') (hn : B ≤ n) : CondsB B w' ao cs := by
  rcases h with h | ⟨b, off, h1, h2, h3⟩
  · exact Or.inl h
  · exact Or.inr ⟨b, off, h1, h2, fun j hj c v hv => (hb.cell (p := ⟨b, off + j * 7 + c, none⟩) (by show b < n; omega)).trans (h3 j hj c v hv)⟩
/-- Conditions that lie in blocks from B on; or none. -/
def CondsN (B : Nat) (w : World) (ao : Option Addr) (cs : List Cn) : Prop := cs = [] ∨ ∃ b, ao = some ⟨b, 0, none⟩ ∧ B ≤ b ∧ b < w.heap.size ∧ RowC w b 0 cs

theorem memC (l : List Cn) (j : Nat) (h : j < l.length) : l[j]! ∈ l := by rw [getElem!_pos l j h]; exact List.getElem_mem _
theorem takeC (l : List Cn) (j : Nat) (h : j < l.length) : l.take (j + 1) = l.take j ++ [l[j]!] := by
  rw [List.take_add_one, List.getElem?_eq_getElem h, getElem!_pos l j h]; rfl
theorem dropC (l : List Cn) (j : Nat) (h : j < l.length) : l.drop j = l[j]! :: l.drop (j + 1) := by
  rw [List.drop_eq_getElem_cons h, getElem!_pos l j h]
end Go.Proofs.YtjnfbinomljocaaDoor

/- Conditions, plainly: when one holds, is void, implies another one; what follows. -/
namespace Go.Proofs.YtjnfbinomljocaaDoor
open Go.RowKit Go.Shelf
open Go.Proofs

/-- Does a text begin with another one? -/
def preB (s t : ByteArray) : Bool := Lib.hasPrefix s.data.toList t.data.toList
/-- Can two values be held against one another? -/
def okA (p q : At) : Bool := cmpOk p.k p.x q.k q.x
def cmpA (p q : At) : Int := cmpV p.k p.n q.n p.x q.x p.s q.s p.y q.y
/-- Does an op do of a value that is so held against the condition's own? -/
def standsB (op o : Int) : Bool :=
  if op == 0 then o == 0 else if op == 1 then o != 0 else if op == 2 then decide (o < 0) else if op == 3 then decide (o ≤ 0) else if op == 4 then decide (0 < o) else if op == 5 then decide (0 ≤ o) else false
def holdsB (c : Cn) (v : At) : Bool :=
  if c.op == 7 then true else if c.op == 6 then c.a.k == 2 && (v.k == 2 && preB v.s c.a.s) else okA v c.a && standsB c.op (cmpA v c.a)
def cvoidB (c : Cn) : Bool := if c.op == 7 then false else if c.op == 6 then c.a.k != 2 else voidB c.a.k c.a.x
def prefixI (s : ByteArray) (b : Cn) : Bool := if b.op == 6 then preB s b.a.s else if b.op == 1 then !preB b.a.s s else false
/-- On one side: o is how the one's value stands to the other one's, on that side. -/
def boundI (aop bop o strict loose : Int) : Bool :=
  if bop == strict || bop == 1 then decide (o < 0) || (o == 0 && aop == strict) else if bop == loose then decide (o ≤ 0) else false
def coreB (a b : Cn) : Bool :=
  if a.op == 0 then holdsB b a.a
  else if a.op == 1 then b.op == 1 && vsame a.a b.a
  else if a.op == 6 then prefixI a.a.s b
  else if a.op == 2 || a.op == 3 then boundI a.op b.op (cmpA a.a b.a) 2 3
  else if a.op == 4 || a.op == 5 then boundI a.op b.op (-cmpA a.a b.a) 4 5
  else false
def impliesB (a b : Cn) : Bool :=
  if !(a.a.nm.toList == b.a.nm.toList) then false
  else if cvoidB a || b.op == 7 then true
  else if a.op == 7 || (cvoidB b || a.a.k != b.a.k) then false
  else coreB a b

theorem sgn_neg (a b : Int) : sgn b a = -sgn a b := by unfold sgn; repeat' split
                                                       all_goals omega
theorem sgs_neg (s t : ByteArray) : sgs t s = -sgs s t := by
  simp only [sgs_eq]
  generalize s.toList = l
  generalize t.toList = m
  by_cases h1 : l < m
  · have h2 : ¬ m < l := fun h => List.lt_irrefl l (List.lt_trans h1 h)
    have h3 : ¬ m = l := fun h => by subst h; exact List.lt_irrefl m h1
    simp [h1, h2, h3]
  · by_cases h2 : l = m
    · subst h2; simp [h1]
    · have h3 : m < l := by
        rcases Std.lt_trichotomy l m with h | h | h
        · exact absurd h h1
        · exact absurd h h2
        · exact h
      simp [h1, h2, h3]
theorem cmpA_neg (p q : At) (h : p.k = q.k) : cmpA q p = -cmpA p q := by
  unfold cmpA cmpV
  rw [h]
  split
  · exact sgn_neg _ _
  · split
    · exact sgn_neg _ _
    · split
      · exact sgs_neg _ _
      · exact sgn_neg _ _
theorem cmpA_self (p : At) : cmpA p p = 0 := by have := cmpA_neg p p rfl; omega
/-- Of three values of one kind. -/
theorem cmpA_three (p q r : At) (h : p.k = q.k) (h2 : q.k = r.k) :
    (cmpA p q ≤ 0 → cmpA q r ≤ 0 → cmpA p r ≤ 0 ∧ (cmpA p r < 0 ↔ cmpA p q < 0 ∨ cmpA q r < 0)) ∧
    (0 ≤ cmpA p q → 0 ≤ cmpA q r → 0 ≤ cmpA p r ∧ (0 < cmpA p r ↔ 0 < cmpA p q ∨ 0 < cmpA q r)) := by
  have T : ∀ p q r : At, p.k = q.k → q.k = r.k → cmpA p q ≤ 0 → cmpA q r ≤ 0 → cmpA p r ≤ 0 ∧ (cmpA p r < 0 ↔ cmpA p q < 0 ∨ cmpA q r < 0) := by
    intro p q r h h2 h3 h4
    unfold cmpA at *
    rw [h] at h3 ⊢
    exact cmpV_trans h3 h4
  refine ⟨T p q r h h2, fun h3 h4 => ?_⟩
  have n1 := cmpA_neg p q h
  have n2 := cmpA_neg q r h2
  have n3 := cmpA_neg p r (h.trans h2)
  have t := T r q p h2.symm h.symm (by omega) (by omega)
  refine ⟨by omega, ?_⟩
  rw [show 0 < cmpA p r ↔ cmpA r p < 0 by omega, t.2]
  omega
theorem vsame_iff (p q : At) : vsame p q = (p.k == q.k && cmpA p q == 0) := by
  unfold vsame
  cases h : (p.k == q.k)
  · rfl
  · rw [Bool.true_and, Bool.true_and]
    unfold sameV cmpA cmpV
    split
    · unfold sgn; rw [Bool.eq_iff_iff]; simp only [beq_iff_eq]; repeat' split
      all_goals omega
    · split
      · unfold sgn; rw [Bool.eq_iff_iff]; simp only [beq_iff_eq]; repeat' split
        all_goals omega
      · split
        · rw [sgs_eq, Bool.eq_iff_iff]; simp only [beq_iff_eq]
          by_cases h1 : p.s.toList < q.s.toList
          · have : ¬ p.s.toList = q.s.toList := fun e => by rw [e] at h1; exact List.lt_irrefl _ h1
            simp [h1, this]
          · by_cases h2 : p.s.toList = q.s.toList
            · rw [h2]; simp [List.lt_irrefl]
            · simp [h1, h2]
        · cases p.y <;> cases q.y <;> rfl
theorem texts_eq {p q : At} (hk : p.k = 2) (h : cmpA p q = 0) : p.s.toList = q.s.toList := by
  unfold cmpA cmpV at h
  rw [hk] at h
  simp only [show ((2 : Int) == 0) = false from rfl, show ((2 : Int) == 1) = false from rfl, show ((2 : Int) == 2) = true from rfl, Bool.false_eq_true, if_false, if_true] at h
  rw [sgs_eq] at h
  by_cases h1 : p.s.toList < q.s.toList
  · simp [h1] at h
  · by_cases h2 : p.s.toList = q.s.toList
    · exact h2
    · simp [h1, h2] at h
theorem texts_data {s t : ByteArray} (h : s.toList = t.toList) : s = t := by
  rw [bytes_toList, bytes_toList] at h
  exact ByteArray.ext (Array.ext' h)
theorem preB_refl (s : ByteArray) : preB s s = true := by
  unfold preB Lib.hasPrefix; rw [List.isPrefixOf_iff_prefix]
  exact List.prefix_refl _
theorem preB_trans {s t u : ByteArray} (h : preB s t = true) (h2 : preB t u = true) : preB s u = true := by
  unfold preB Lib.hasPrefix at *; rw [List.isPrefixOf_iff_prefix] at *
  exact List.IsPrefix.trans h2 h

theorem void_no {c : Cn} (v : At) (h : cvoidB c = true) : holdsB c v = false := by
  unfold cvoidB at h
  unfold holdsB
  split
  · rename_i h7; rw [if_pos h7] at h; cases h
  · rename_i h7; rw [if_neg h7] at h
    split
    · rename_i h6; rw [if_pos h6] at h
      have : (c.a.k == 2) = false := by simpa [bne] using h
      rw [this]; rfl
    · rename_i h6; rw [if_neg h6] at h
      unfold okA cmpOk
      rw [h]; simp
theorem okA_k {p q : At} (h : okA p q = true) : p.k = q.k ∧ voidB p.k p.x = false ∧ voidB q.k q.x = false := by
  unfold okA cmpOk at h
  simp only [Bool.and_eq_true, beq_iff_eq, Bool.not_eq_true'] at h
  exact ⟨h.1, h.2.1, h.2.2⟩
theorem okA_mk {p q : At} (h : p.k = q.k) (h1 : voidB p.k p.x = false) (h2 : voidB q.k q.x = false) : okA p q = true := by
  unfold okA cmpOk
  rw [h1, h2, h]; simp
/-- What is not void, and neither Has nor a beginning: its value is none of those that are no number. -/
theorem notvoid {c : Cn} (h : cvoidB c = false) (h7 : c.op ≠ 7) : voidB c.a.k c.a.x = false ∧ (c.op = 6 → c.a.k = 2) := by
  unfold cvoidB at h
  rw [if_neg (by simpa using h7)] at h
  split at h
  · have : c.a.k = 2 := by simpa [bne] using h
    refine ⟨?_, fun _ => this⟩
    rw [this]; rfl
  · rename_i h6
    exact ⟨h, fun e => absurd e (by simpa using h6)⟩
theorem impliesB_iff (a b : Cn) : impliesB a b = true ↔ a.a.nm.toList = b.a.nm.toList ∧ (cvoidB a = true ∨ b.op = 7 ∨ (cvoidB a = false ∧ b.op ≠ 7 ∧ a.op ≠ 7 ∧ cvoidB b = false ∧ a.a.k = b.a.k ∧ coreB a b = true)) := by
  unfold impliesB
  by_cases h1 : a.a.nm.toList = b.a.nm.toList
  · cases h2 : cvoidB a
    · by_cases h3 : b.op = 7
      · simp [h1, h3]
      · by_cases h4 : a.op = 7
        · simp [h1, h3, h4]
        · cases h5 : cvoidB b
          · by_cases h6 : a.a.k = b.a.k
            · simp [h1, h3, h4, h6]
            · simp [h1, h3, h4, h6]
          · simp [h1, h3, h4]
    · simp [h1]
  · simp [h1]
/-- An op that is one. -/
def OpB (c : Cn) : Prop := 0 ≤ c.op ∧ c.op ≤ 7
/-- Where one implies another one, whatever value the one holds for, the other one does. -/
theorem core_sound {a b : Cn} (v : At) (ha : OpB a) (hb : OpB b) (va : cvoidB a = false) (b7 : b.op ≠ 7) (a7 : a.op ≠ 7) (vb : cvoidB b = false) (hk : a.a.k = b.a.k) (h : coreB a b = true) (hv : holdsB a v = true) : holdsB b v = true := by
  obtain ⟨vb1, vb2⟩ := notvoid vb b7
  obtain ⟨va1, va2⟩ := notvoid va a7
  obtain ⟨a, ao⟩ := a
  obtain ⟨b, bo⟩ := b
  simp only [OpB] at *
  -- where neither is a beginning
  have KEY : v.k = a.k → voidB v.k v.x = false → ∀ o, o = cmpA v a → (∀ o2 o3, o2 = cmpA a b → o3 = cmpA v b → ((o ≤ 0 → o2 ≤ 0 → o3 ≤ 0 ∧ (o3 < 0 ↔ o < 0 ∨ o2 < 0)) ∧ (0 ≤ o → 0 ≤ o2 → 0 ≤ o3 ∧ (0 < o3 ↔ 0 < o ∨ 0 < o2))) → bo ≠ 6 → standsB bo o3 = true) → bo ≠ 6 → holdsB ⟨b, bo⟩ v = true := by
    intro hvk hvv o ho hh h6
    have t := hh _ _ rfl rfl (by rw [ho]; exact cmpA_three v a b hvk hk) h6
    unfold holdsB
    simp only []
    rw [if_neg (by simpa using b7), if_neg (by simpa using h6), okA_mk (hvk.trans hk) hvv vb1, t]; rfl
  by_cases a6 : ao = 6
  · subst a6
    have ak := va2 rfl
    have hp : v.k = 2 ∧ preB v.s a.s = true := by
      unfold holdsB at hv
      simpa [ak] using hv
    have hc : prefixI a.s ⟨b, bo⟩ = true := by simpa [coreB] using h
    by_cases b6 : bo = 6
    · subst b6
      have hc2 : preB a.s b.s = true := by simpa [prefixI] using hc
      unfold holdsB
      simp [hp.1, ← hk, ak, preB_trans hp.2 hc2]
    · by_cases b1 : bo = 1
      · subst b1
        have hc2 : preB b.s a.s = false := by simpa [prefixI] using hc
        unfold holdsB
        simp only [show ((1 : Int) == 7) = false from rfl, show ((1 : Int) == 6) = false from rfl, Bool.false_eq_true, if_false]
        rw [okA_mk (by rw [hp.1, ← hk, ak]) (by rw [hp.1]; rfl) vb1, Bool.true_and]
        show (cmpA v b != 0) = true
        rw [bne_iff_ne]
        intro e
        have := texts_data (texts_eq hp.1 e)
        rw [← this, hp.2] at hc2
        cases hc2
      · simp [prefixI, b6, b1] at hc
  · have hv2 : okA v a = true ∧ standsB ao (cmpA v a) = true := by
      unfold holdsB at hv
      simpa [a7, a6] using hv
    obtain ⟨hvk, hvv, _⟩ := okA_k hv2.1
    have hs := hv2.2
    by_cases a0 : ao = 0
    · subst a0
      have h0 : cmpA v a = 0 := by simpa [standsB] using hs
      have hb' : holdsB ⟨b, bo⟩ a = true := by simpa [coreB] using h
      by_cases b6 : bo = 6
      · subst b6
        have ak : b.k = 2 := vb2 rfl
        have hp : preB a.s b.s = true := by
          unfold holdsB at hb'
          simp [ak] at hb'
          exact hb'.2
        have hs2 := texts_data (texts_eq (by rw [hvk, hk, ak]) h0)
        unfold holdsB
        simp [ak, hvk, hk, hs2, hp]
      · have hb2 : standsB bo (cmpA a b) = true := by
          unfold holdsB at hb'
          simp [b7, b6] at hb'
          exact hb'.2
        refine KEY hvk hvv _ rfl (fun o2 o3 e2 e3 t _ => ?_) b6
        rw [h0] at t
        rw [← e2] at hb2
        have hh := hb.1; have hh2 := hb.2
        rcases (show bo = 0 ∨ bo = 1 ∨ bo = 2 ∨ bo = 3 ∨ bo = 4 ∨ bo = 5 by omega) with rfl | rfl | rfl | rfl | rfl | rfl <;> simp [standsB] at hb2 ⊢ <;> omega
    · by_cases a1 : ao = 1
      · subst a1
        have h1 : bo = 1 ∧ vsame a b = true := by simpa [coreB] using h
        obtain ⟨rfl, hsm⟩ := h1
        rw [vsame_iff] at hsm
        simp only [Bool.and_eq_true, beq_iff_eq] at hsm
        refine KEY hvk hvv _ rfl (fun o2 o3 e2 e3 t _ => ?_) (by decide)
        rw [hsm.2] at e2
        have : cmpA v a ≠ 0 := by simpa [standsB] using hs
        simp [standsB]; omega
      · by_cases b6 : bo = 6
        · subst b6
          have hh := ha.1; have hh2 := ha.2
          rcases (show ao = 2 ∨ ao = 3 ∨ ao = 4 ∨ ao = 5 by omega) with rfl | rfl | rfl | rfl <;> simp [coreB, boundI] at h
        · refine KEY hvk hvv _ rfl (fun o2 o3 e2 e3 t _ => ?_) b6
          have hh := ha.1; have hh2 := ha.2
          have hh3 := hb.1; have hh4 := hb.2
          rcases (show ao = 2 ∨ ao = 3 ∨ ao = 4 ∨ ao = 5 by omega) with rfl | rfl | rfl | rfl <;>
          rcases (show bo = 0 ∨ bo = 1 ∨ bo = 2 ∨ bo = 3 ∨ bo = 4 ∨ bo = 5 by omega) with rfl | rfl | rfl | rfl | rfl | rfl <;>
          simp [coreB, boundI, standsB, ← e2] at h hs ⊢ <;> omega
theorem implies_sound {a b : Cn} (v : At) (ha : OpB a) (hb : OpB b) (h : impliesB a b = true) (hv : holdsB a v = true) : holdsB b v = true := by
  rcases ((impliesB_iff a b).1 h).2 with h1 | h1 | ⟨h1, h2, h3, h4, h5, h6⟩
  · rw [void_no v h1] at hv; cases hv
  · unfold holdsB; rw [h1]; rfl
  · exact core_sound v ha hb h1 h2 h3 h4 h5 h6 hv
theorem implies_self {a : Cn} (ha : OpB a) : impliesB a a = true := by
  rw [impliesB_iff]
  refine ⟨rfl, ?_⟩
  cases hv : cvoidB a
  · by_cases h7 : a.op = 7
    · exact Or.inr (Or.inl h7)
    · refine Or.inr (Or.inr ⟨rfl, h7, h7, rfl, rfl, ?_⟩)
      obtain ⟨v1, v2⟩ := notvoid hv h7
      have hz := cmpA_self a.a
      have hok := okA_mk (p := a.a) (q := a.a) rfl v1 v1
      obtain ⟨a, ao⟩ := a
      simp only [OpB] at *
      have hh := ha.1; have hh2 := ha.2
      rcases (show ao = 0 ∨ ao = 1 ∨ ao = 2 ∨ ao = 3 ∨ ao = 4 ∨ ao = 5 ∨ ao = 6 by omega) with rfl | rfl | rfl | rfl | rfl | rfl | rfl
      · simp [coreB, holdsB, hok, hz, standsB]
      · simp [coreB, vsame_iff, hz]
      · simp [coreB, boundI, hz]
      · simp [coreB, boundI, hz]
      · simp [coreB, boundI, hz]
      · simp [coreB, boundI, hz]
      · simp [coreB, prefixI, preB_refl]
  · exact Or.inl rfl
theorem implies_trans {a b c : Cn} (ha : OpB a) (hb : OpB b) (hc : OpB c) (h : impliesB a b = true) (h2 : impliesB b c = true) : impliesB a c = true := by
  obtain ⟨n1, h⟩ := (impliesB_iff a b).1 h
  obtain ⟨n2, h2⟩ := (impliesB_iff b c).1 h2
  rw [impliesB_iff]
  refine ⟨n1.trans n2, ?_⟩
  cases va : cvoidB a
  · by_cases c7 : c.op = 7
    · exact Or.inr (Or.inl c7)
    · rw [va] at h
      rcases h with h | h | ⟨_, b7, a7, vb, hk, hcore⟩
      · cases h
      · have : cvoidB b = false := by unfold cvoidB; rw [h]; rfl
        rw [this] at h2
        rcases h2 with h2 | h2 | ⟨_, _, b7, _⟩
        · cases h2
        · exact absurd h2 c7
        · exact absurd h b7
      · rw [vb] at h2
        rcases h2 with h2 | h2 | ⟨_, _, _, vc, hk2, hcore2⟩
        · cases h2
        · exact absurd h2 c7
        · refine Or.inr (Or.inr ⟨rfl, c7, a7, vc, hk.trans hk2, ?_⟩)
          have SND := fun v => core_sound v hb hc vb c7 b7 vc hk2 hcore2
          have T := cmpA_three a.a b.a c.a hk hk2
          obtain ⟨a, ao⟩ := a
          obtain ⟨b, bo⟩ := b
          obtain ⟨c, co⟩ := c
          simp only [OpB] at *
          have hh := ha.1; have hh2 := ha.2; have hh3 := hb.1; have hh4 := hb.2; have hh5 := hc.1; have hh6 := hc.2
          generalize hx : cmpA a b = x at *
          generalize hy : cmpA b c = y at *
          generalize hz : cmpA a c = z at *
          have key : a.k = b.k ∧ b.k = c.k := ⟨hk, hk2⟩
          rcases (show ao = 0 ∨ ao = 1 ∨ ao = 2 ∨ ao = 3 ∨ ao = 4 ∨ ao = 5 ∨ ao = 6 by omega) with rfl | rfl | rfl | rfl | rfl | rfl | rfl
          · have : holdsB ⟨b, bo⟩ a = true := by simpa [coreB] using hcore
            simpa [coreB] using SND a this
          · have h1 : bo = 1 ∧ vsame a b = true := by simpa [coreB] using hcore
            obtain ⟨rfl, e1⟩ := h1
            have h1 : co = 1 ∧ vsame b c = true := by simpa [coreB] using hcore2
            obtain ⟨rfl, e2⟩ := h1
            rw [vsame_iff] at e1 e2
            simp only [Bool.and_eq_true, beq_iff_eq] at e1 e2
            have : vsame a c = true := by rw [vsame_iff]; simp only [Bool.and_eq_true, beq_iff_eq]; omega
            simpa [coreB] using this
          all_goals first
            | (rcases (show bo = 0 ∨ bo = 1 ∨ bo = 2 ∨ bo = 3 ∨ bo = 4 ∨ bo = 5 ∨ bo = 6 by omega) with rfl | rfl | rfl | rfl | rfl | rfl | rfl
               all_goals
                 rcases (show co = 0 ∨ co = 1 ∨ co = 2 ∨ co = 3 ∨ co = 4 ∨ co = 5 ∨ co = 6 by omega) with rfl | rfl | rfl | rfl | rfl | rfl | rfl
                 all_goals
                   simp [coreB, boundI, vsame_iff, hx, hy, hz] at hcore hcore2 ⊢
                   try omega
               done)
            | skip
          -- a beginning
          have hc1 : prefixI a.s ⟨b, bo⟩ = true := by simpa [coreB] using hcore
          by_cases b6 : bo = 6
          · subst b6
            have p1 : preB a.s b.s = true := by simpa [prefixI] using hc1
            have hc2 : prefixI b.s ⟨c, co⟩ = true := by simpa [coreB] using hcore2
            by_cases c6 : co = 6
            · subst c6
              have p2 : preB b.s c.s = true := by simpa [prefixI] using hc2
              simp [coreB, prefixI, preB_trans p1 p2]
            · by_cases c1 : co = 1
              · subst c1
                have p2 : preB c.s b.s = false := by simpa [prefixI] using hc2
                have p3 : preB c.s a.s = false := by
                  cases hp : preB c.s a.s
                  · rfl
                  · rw [preB_trans hp p1] at p2; cases p2
                simp [coreB, prefixI, p3]
              · simp [prefixI, c6, c1] at hc2
          · by_cases b1 : bo = 1
            · subst b1
              have p1 : preB b.s a.s = false := by simpa [prefixI] using hc1
              have h1 : co = 1 ∧ vsame b c = true := by simpa [coreB] using hcore2
              obtain ⟨rfl, e2⟩ := h1
              rw [vsame_iff] at e2
              simp only [Bool.and_eq_true, beq_iff_eq] at e2
              have ak := (notvoid va a7).2 rfl
              have := texts_data (texts_eq (by rw [← hk]; exact ak) e2.2)
              simp [coreB, prefixI, ← this, p1]
            · simp [prefixI, b6, b1] at hc1
  · exact Or.inl rfl
end Go.Proofs.YtjnfbinomljocaaDoor
