/- Name, Kept, KeptB, RightE: merged by merge.py. -/
import Derived.Test.YtfoboncfmigdaaaGreatDoorGaA
import Derived.Test.YtfoboncfmigdaaaGreatDoorAtP
import Derived.Laws.StructEq
import Derived.Laws.IdiomStrings
import Derived.Deep.RegionWith
import Derived.Sort.Walk0
/- event.Name of any text. -/
namespace Go.Proofs.YtfoboncfmigdaaaGreatDoor
open Go.RowKit Go.Shelf
open Go.Proofs
set_option maxRecDepth 100000

def letB (n : Int) : Bool := decide (97 ≤ n) && decide (n ≤ 122)
def digB (n : Int) : Bool := decide (48 ≤ n) && decide (n ≤ 57)
set_option maxHeartbeats 400000 in
theorem letter_c (n : Int) (w : World) : Calls Tryz.prog 31 #[.int .u8 n] w fun e w' => e = .returned (.bool (letB n)) ∧ w = w' := by
  unfold letB
  go_enter Tryz.func31, Tryz.ntmps31
  cases h1 : decide (97 ≤ n) <;> (go_wp2; go_ret; simp_all)
set_option maxHeartbeats 400000 in
theorem digit_c (n : Int) (w : World) : Calls Tryz.prog 32 #[.int .u8 n] w fun e w' => e = .returned (.bool (digB n)) ∧ w = w' := by
  unfold digB
  go_enter Tryz.func32, Tryz.ntmps32
  cases h1 : decide (48 ≤ n) <;> (go_wp2; go_ret; simp_all)

/-- The i-th letter. -/
def byt (s : ByteArray) (i : Nat) : Int := (s.data[i]!.toNat : Int)
def partB (s : ByteArray) (i : Nat) : Bool := letB (byt s i) || digB (byt s i)
/-- May it be a name? -/
def nameOk (s : ByteArray) : Bool := decide (0 < s.size) && decide (s.size ≤ 12) && letB (byt s 0) && (List.range s.size).all (partB s)

theorem byt_eq (s : ByteArray) (i : Nat) (h : i < s.size) : ((s[i]'h).toNat : Int) = byt s i := by
  have h2 : i < s.data.size := h
  unfold byt
  rw [getElem!_pos s.data i h2]
  rfl
theorem nameOk_part {s : ByteArray} {j : Nat} (hj : j < s.size) (h : partB s j = false) : nameOk s = false := by
  cases hn : nameOk s with
  | false => rfl
  | true =>
    simp only [nameOk, Bool.and_eq_true, List.all_eq_true, List.mem_range] at hn
    rw [hn.2 j hj] at h; cases h
theorem all_succ {s : ByteArray} {j : Nat} (h : (List.range j).all (partB s) = true) (hp : partB s j = true) : (List.range (j + 1)).all (partB s) = true := by
  rw [List.range_succ, List.all_append, h]; simp [hp]

set_option maxHeartbeats 1000000 in
theorem name_c (s : ByteArray) (w : World) : Calls Tryz.prog 12 #[.string s] w fun e w' => e = .returned (.bool (nameOk s)) ∧ w = w' := by
  by_cases h0 : s.size = 0
  · have : s = ⟨#[]⟩ := by
      cases s with | mk d => simp [ByteArray.size] at h0; rw [h0]
    subst this
    go_enter Tryz.func12, Tryz.ntmps12
    go_wp2
    go_ret
    exact ⟨rfl, rfl⟩
  have h0' : 0 < s.size := by omega
  have hne : ¬ s.toList = [] := fun e => h0 (by rw [bytes_toList] at e; have := congrArg List.length e; simpa using this)
  have hie0 : s.toList.isEmpty = false := by simpa using hne
  by_cases h1 : 12 < s.size
  · have hn : nameOk s = false := by
      unfold nameOk; rw [show decide (s.size ≤ 12) = false by simpa using h1]; simp
    have h2 : 12 < (s.size : Int) := by omega
    rw [hn]
    go_enter Tryz.func12, Tryz.ntmps12
    go_wp2
    go_ret
    exact ⟨rfl, rfl⟩
  have h2 : (s.size : Int) ≤ 12 := by omega
  have hie : s.toList.isEmpty = false := by simpa using hne
  have h4 : decide (12 < (s.size : Int)) = false := by simpa using h2
  have h5 : ¬ (s.toList.isEmpty = true ∨ 12 < (s.size : Int)) := by rw [hie]; simp; omega
  have h3 : decide (s.size ≤ 12) = true := by simpa using Nat.not_lt.1 h1
  clear h1 h0
  cases hl : letB (byt s 0)
  · have hn : nameOk s = false := by unfold nameOk; rw [hl]; simp
    rw [hn]
    go_enter Tryz.func12, Tryz.ntmps12
    go_wp2_with (go_at_call 31; rw [byt_eq _ 0 h0']; refine (letter_c _ _).mono ?_; rintro e w' ⟨rfl, rfl⟩; rw [hl])
    go_ret
    exact ⟨rfl, rfl⟩
  · have HN : Aside ((List.range s.size).all (partB s) = true → nameOk s = true) := fun h => by
      unfold nameOk; rw [hl, h3, h]; simpa using h0'
    have HF : Aside (∀ j, j < s.size → partB s j = false → nameOk s = false) := fun j h h' => nameOk_part h h'
    go_enter Tryz.func12, Tryz.ntmps12
    go_wp2_with (go_at_call 31; rw [byt_eq _ 0 h0']; refine (letter_c _ _).mono ?_; rintro e w' ⟨rfl, rfl⟩; rw [hl])
    clear hl h3 hne hie h4 h5
    go_loop [19] (fun k => ∃ j : Nat, j ≤ s.size ∧ k = .int .i64 j ∧ Aside ((List.range j).all (partB s) = true)) (fun k => s.size - (RowKit.intOf k).toNat)
    case atStart => exact ⟨0, Nat.zero_le _, rfl, by simp [Aside]⟩
    case round =>
      obtain ⟨j, hj, rfl, hall⟩ := hrel
      by_cases hlt : j < s.size
      · cases hl : letB (byt s j)
        · cases hd : digB (byt s j)
          · go_wp2_with (first
              | (go_at_call 31; rw [byt_eq _ j hlt]; refine (letter_c _ _).mono ?_; rintro e w' ⟨rfl, rfl⟩; rw [hl])
              | (go_at_call 32; rw [byt_eq _ j hlt]; refine (digit_c _ _).mono ?_; rintro e w' ⟨rfl, rfl⟩; rw [hd]))
            go_ret
            rw [HF.out j hlt (by unfold partB; rw [hl, hd]; rfl)]
            exact ⟨rfl, rfl⟩
          · go_wp2_with (first
              | (go_at_call 31; rw [byt_eq _ j hlt]; refine (letter_c _ _).mono ?_; rintro e w' ⟨rfl, rfl⟩; rw [hl])
              | (go_at_call 32; rw [byt_eq _ j hlt]; refine (digit_c _ _).mono ?_; rintro e w' ⟨rfl, rfl⟩; rw [hd]))
            go_round
            case rel => exact ⟨j + 1, by omega, by go_num, all_succ hall.out (by unfold partB; rw [hl, hd]; rfl)⟩
            case measure => simp only [RowKit.intOf]; omega
        · go_wp2_with (go_at_call 31; rw [byt_eq _ j hlt]; refine (letter_c _ _).mono ?_; rintro e w' ⟨rfl, rfl⟩; rw [hl])
          go_round
          case rel => exact ⟨j + 1, by omega, by go_num, all_succ hall.out (by unfold partB; rw [hl]; rfl)⟩
          case measure => simp only [RowKit.intOf]; omega
      · obtain rfl : j = s.size := by omega
        go_wp2
        go_ret
        rw [HN.out hall.out]
        exact ⟨rfl, rfl⟩
end Go.Proofs.YtfoboncfmigdaaaGreatDoor

/- value.Void, value.Right, event.kept of any value. -/
namespace Go.Proofs.YtfoboncfmigdaaaGreatDoor
open Go.RowKit Go.Shelf
open Go.Proofs
set_option maxRecDepth 100000

theorem run_equalIn_f64 (P : Program) (w : World) (d : Nat) (t : TypeId) (a b : Nat) (k' : FloatKind) (h : P.underlying t = some (.float k')) : (Op.equalIn (d + 1) t (.float .f64 a) (.float .f64 b)).run P w = .ok (FloatKind.f64.format.order a b == some .eq) w := by
  simp [Op.equalIn, run_underlying h, Op.floatEq]

/-- '==' of two numbers with a point. -/
def feq (a b : Nat) : Bool := FloatKind.f64.format.order a b == some .eq
/-- '==' of two values, field by field. -/
def eqV (k k2 n n2 : Int) (x x2 : Nat) (s s2 : ByteArray) (y y2 : Bool) : Bool := k == k2 && n == n2 && feq x x2 && s.toList == s2.toList && y == y2

section
attribute [local go_sem] run_equalIn_f64
set_option maxHeartbeats 2000000 in
theorem run_eqV (k k2 n n2 : Int) (x x2 : Nat) (s s2 : ByteArray) (y y2 : Bool) (w : World) :
    (binOp .eql 31 (val k n x s y) (val k2 n2 x2 s2 y2)).run Tryz.prog w = .ok (.bool (eqV k k2 n n2 x x2 s s2 y y2)) w := by
  unfold eqV feq val
  rw [run_eql_struct]
  cases h1 : (k == k2) <;> cases h2 : (n == n2) <;> cases h3 : (FloatKind.f64.format.order x x2 == some .eq) <;> cases h4 : (s.toList == s2.toList) <;> cases h5 : (y == y2) <;> simp [go_sem, h1, h2, h3, h4, h5]
end

def voidB (k : Int) (x : Nat) : Bool := k == 1 && fnan x
set_option maxHeartbeats 400000 in
theorem void_c (k n : Int) (x : Nat) (s : ByteArray) (y : Bool) (w : World) :
    Calls Tryz.prog 36 #[val k n x s y] w fun e w' => e = .returned (.bool (voidB k x)) ∧ Below w.heap.size w w' := by
  unfold voidB
  cases h : (k == 1)
  · go_enter Tryz.func36, Tryz.ntmps36
    go_wp2
    go_ret
    exact ⟨rfl, (Below.refl _ _).alloc (Nat.le_refl _) _⟩
  · go_enter Tryz.func36, Tryz.ntmps36
    go_wp2_with (go_at_call 43; refine (none_c _ _).mono ?_; rintro e w' ⟨rfl, rfl⟩)
    go_ret
    exact ⟨rfl, (Below.refl _ _).alloc (Nat.le_refl _) _⟩

def vrightB (k : Int) (s : ByteArray) : Bool := decide (0 ≤ k) && decide (k ≤ 3) && decide ((s.size : Int) ≤ 40)
set_option maxHeartbeats 400000 in
theorem vright_c (k n : Int) (x : Nat) (s : ByteArray) (y : Bool) (w : World) :
    Calls Tryz.prog 20 #[val k n x s y] w fun e w' => e = .returned (.bool (vrightB k s)) ∧ Below w.heap.size w w' := by
  unfold vrightB
  cases h1 : decide (0 ≤ k)
  · go_enter Tryz.func20, Tryz.ntmps20
    go_wp2
    go_ret
    exact ⟨rfl, (Below.refl _ _).alloc (Nat.le_refl _) _⟩
  · cases h2 : decide (k ≤ 3)
    · go_enter Tryz.func20, Tryz.ntmps20
      go_wp2
      go_ret
      exact ⟨rfl, (Below.refl _ _).alloc (Nat.le_refl _) _⟩
    · go_enter Tryz.func20, Tryz.ntmps20
      go_wp2
      go_ret
      exact ⟨rfl, (Below.refl _ _).alloc (Nat.le_refl _) _⟩
end Go.Proofs.YtfoboncfmigdaaaGreatDoor

/- event.kept of any value. -/
namespace Go.Proofs.YtfoboncfmigdaaaGreatDoor
open Go.RowKit Go.Shelf
open Go.Proofs
set_option maxRecDepth 100000

theorem run_eqV2 (k k2 n n2 : Int) (x x2 : Nat) (s s2 : ByteArray) (y y2 : Bool) (w : World) :
    (binOp .eql 31 (.agg #[.int .i64 k, .int .i64 n, .float .f64 x, .string s, .bool y]) (val k2 n2 x2 s2 y2)).run Tryz.prog w = .ok (.bool (eqV k k2 n n2 x x2 s s2 y y2)) w := run_eqV k k2 n n2 x x2 s s2 y y2 w
attribute [local go_sem ↓] run_eqV2

/-- What event.kept holds against its Canon: the value, its number laid aside if it is none. -/
def asideX (k : Int) (x : Nat) : Nat := if voidB k x then 0 else x
def keptB (a : At) : Bool :=
  eqV a.k (canonA ⟨a.nm, a.k, a.n, asideX a.k a.x, a.s, a.y⟩).k a.n (canonA ⟨a.nm, a.k, a.n, asideX a.k a.x, a.s, a.y⟩).n (asideX a.k a.x) (canonA ⟨a.nm, a.k, a.n, asideX a.k a.x, a.s, a.y⟩).x a.s (canonA ⟨a.nm, a.k, a.n, asideX a.k a.x, a.s, a.y⟩).s a.y (canonA ⟨a.nm, a.k, a.n, asideX a.k a.x, a.s, a.y⟩).y

set_option maxHeartbeats 2000000 in
theorem kept_c (nm : ByteArray) (k n : Int) (x : Nat) (s : ByteArray) (y : Bool) (w : World) :
    Calls Tryz.prog 21 #[val k n x s y] w fun e w' => e = .returned (.bool (keptB ⟨nm, k, n, x, s, y⟩)) ∧ Below w.heap.size w w' := by
  have hcan : ∀ x' W, Calls Tryz.prog 14 #[.agg #[.int .i64 k, .int .i64 n, .float .f64 x', .string s, .bool y]] W fun e w' => e = .returned (val (canonA ⟨nm, k, n, x', s, y⟩).k (canonA ⟨nm, k, n, x', s, y⟩).n (canonA ⟨nm, k, n, x', s, y⟩).x (canonA ⟨nm, k, n, x', s, y⟩).s (canonA ⟨nm, k, n, x', s, y⟩).y) ∧ Below W.heap.size W w' := fun x' W => canonA_c ⟨nm, k, n, x', s, y⟩ W
  have hv := fun W => void_c k n x s y W
  cases h : voidB k x
  · have hk : keptB ⟨nm, k, n, x, s, y⟩ = eqV k (canonA ⟨nm, k, n, x, s, y⟩).k n (canonA ⟨nm, k, n, x, s, y⟩).n x (canonA ⟨nm, k, n, x, s, y⟩).x s (canonA ⟨nm, k, n, x, s, y⟩).s y (canonA ⟨nm, k, n, x, s, y⟩).y := by
      unfold keptB asideX; rw [h]; rfl
    rw [hk]
    have hcn := hcan x
    generalize canonA ⟨nm, k, n, x, s, y⟩ = c at hcn ⊢
    obtain ⟨nm2, k2, n2, x2, s2, y2⟩ := c
    simp only [] at hcn ⊢
    clear hk hcan
    go_enter Tryz.func21, Tryz.ntmps21
    go_wp2_with fail
    refine (hv _).mono ?_
    rintro e w1 ⟨rfl, hb1⟩
    rw [h]
    have hB : Below w.heap.size w w1 := ((Below.refl w.heap.size w).alloc (Nat.le_refl _) _).trans (hb1.mono (by simp))
    have HB : Aside (Below w.heap.size w w1) := hB
    have hz : w.heap.size < w1.heap.size := by have := hb1.size; simp at this; omega
    have yy : ∀ i, w1.cell? ⟨w.heap.size, i, none⟩ = (#[Value.int .i64 k, .int .i64 n, .float .f64 x, .string s, .bool y])[i]? := fun i => by
      rw [hb1.cell (p := ⟨w.heap.size, i, none⟩) (by simp)]; rw [World.cell?_alloc_new]
    have y0 := yy 0; have y1 := yy 1; have y2' := yy 2; have y3 := yy 3; have y4 := yy 4
    simp only [List.getElem?_toArray, List.getElem?_cons_zero, List.getElem?_cons_succ] at y0 y1 y2' y3 y4
    clear yy hB hb1 hv
    go_wp2_with fail
    go_region_with (go_at_call 14; refine (hcn _).mono ?_; rintro e w2 ⟨rfl, hb2⟩; have c0 := (hb2.cell (p := ⟨w.heap.size, 0, none⟩) hz).trans y0; have c1 := (hb2.cell (p := ⟨w.heap.size, 1, none⟩) hz).trans y1; have c2 := (hb2.cell (p := ⟨w.heap.size, 2, none⟩) hz).trans y2'; have c3 := (hb2.cell (p := ⟨w.heap.size, 3, none⟩) hz).trans y3; have c4 := (hb2.cell (p := ⟨w.heap.size, 4, none⟩) hz).trans y4; have HB2 : Aside (Below w.heap.size w w2) := HB.out.trans (Below.mono ⟨hb2.os, hb2.tape, hb2.output, hb2.size, hb2.block⟩ (Nat.le_of_lt hz)))
    all_goals (go_wp2_with fail; go_ret; exact ⟨rfl, HB2.out⟩)
  · have hk : keptB ⟨nm, k, n, x, s, y⟩ = eqV k (canonA ⟨nm, k, n, 0, s, y⟩).k n (canonA ⟨nm, k, n, 0, s, y⟩).n 0 (canonA ⟨nm, k, n, 0, s, y⟩).x s (canonA ⟨nm, k, n, 0, s, y⟩).s y (canonA ⟨nm, k, n, 0, s, y⟩).y := by
      unfold keptB asideX; rw [h]; rfl
    rw [hk]
    have hcn := hcan 0
    generalize canonA ⟨nm, k, n, 0, s, y⟩ = c at hcn ⊢
    obtain ⟨nm2, k2, n2, x2, s2, y2⟩ := c
    simp only [] at hcn ⊢
    clear hk hcan
    go_enter Tryz.func21, Tryz.ntmps21
    go_wp2_with fail
    refine (hv _).mono ?_
    rintro e w1 ⟨rfl, hb1⟩
    rw [h]
    have hz : w.heap.size < w1.heap.size := by have := hb1.size; simp at this; omega
    have yy : ∀ i, w1.cell? ⟨w.heap.size, i, none⟩ = (#[Value.int .i64 k, .int .i64 n, .float .f64 x, .string s, .bool y])[i]? := fun i => by
      rw [hb1.cell (p := ⟨w.heap.size, i, none⟩) (by simp)]; rw [World.cell?_alloc_new]
    have y0 := yy 0; have y1 := yy 1; have y2' := yy 2; have y3 := yy 3; have y4 := yy 4
    simp only [List.getElem?_toArray, List.getElem?_cons_zero, List.getElem?_cons_succ] at y0 y1 y2' y3 y4
    have hfz : w1.frozen? ⟨w.heap.size, 2, none⟩ = false := by
      have hh := hb1.block w.heap.size (by simp)
      simp only [World.frozen?, hh]
      rw [heap_alloc_new]
      rfl
    have HB1 : Aside _ := hb1
    clear yy hb1 hv
    go_wp2_with fail
    have hB : Below w.heap.size w (w1.setCell ⟨w.heap.size, 2, none⟩ (.float .f64 0)) := (((Below.refl w.heap.size w).alloc (Nat.le_refl _) _).trans (HB1.out.mono (by simp))).setCell (p := ⟨w.heap.size, 2, none⟩) (Nat.le_refl _) _
    have d0 := (World.cell?_setCell_other w1 ⟨w.heap.size, 2, none⟩ ⟨w.heap.size, 0, none⟩ (.float .f64 0) (by simp)).trans y0
    have d1 := (World.cell?_setCell_other w1 ⟨w.heap.size, 2, none⟩ ⟨w.heap.size, 1, none⟩ (.float .f64 0) (by simp)).trans y1
    have d3 := (World.cell?_setCell_other w1 ⟨w.heap.size, 2, none⟩ ⟨w.heap.size, 3, none⟩ (.float .f64 0) (by simp)).trans y3
    have d4 := (World.cell?_setCell_other w1 ⟨w.heap.size, 2, none⟩ ⟨w.heap.size, 4, none⟩ (.float .f64 0) (by simp)).trans y4
    have d2 := World.cell?_setCell_same w1 ⟨w.heap.size, 2, none⟩ (.float .f64 0) y2'
    have HB : Aside (Below w.heap.size w (w1.setCell ⟨w.heap.size, 2, none⟩ (.float .f64 0))) := hB
    have hz3 : w.heap.size < (w1.setCell ⟨w.heap.size, 2, none⟩ (.float .f64 0)).heap.size := by simp; exact hz
    clear hB hfz HB1 y0 y1 y2' y3 y4 hz h
    generalize w1.setCell ⟨w.heap.size, 2, none⟩ (.float .f64 0) = w3 at *
    go_region_with (go_at_call 14; refine (hcn _).mono ?_; rintro e w2 ⟨rfl, hb2⟩; have c0 := (hb2.cell (p := ⟨w.heap.size, 0, none⟩) hz3).trans d0; have c1 := (hb2.cell (p := ⟨w.heap.size, 1, none⟩) hz3).trans d1; have c2 := (hb2.cell (p := ⟨w.heap.size, 2, none⟩) hz3).trans d2; have c3 := (hb2.cell (p := ⟨w.heap.size, 3, none⟩) hz3).trans d3; have c4 := (hb2.cell (p := ⟨w.heap.size, 4, none⟩) hz3).trans d4; have HB2 : Aside (Below w.heap.size w w2) := HB.out.trans (Below.mono ⟨hb2.os, hb2.tape, hb2.output, hb2.size, hb2.block⟩ (Nat.le_of_lt hz3)))
    all_goals (go_wp2_with fail; go_ret; exact ⟨rfl, HB2.out⟩)
end Go.Proofs.YtfoboncfmigdaaaGreatDoor

/- event.Right of any event. -/
namespace Go.Proofs.YtfoboncfmigdaaaGreatDoor
open Go.RowKit Go.Shelf Go.Sort
open Go.Proofs
set_option maxRecDepth 100000

def okAt (l : List At) (i : Nat) : Bool := (decide (i = 0) || ltKey keyA l[i - 1]! l[i]!) && nameOk l[i]!.nm && vrightB l[i]!.k l[i]!.s && keptB l[i]!
/-- What event.Right says. -/
def rightE (l : List At) : Bool := decide (l.length ≤ 8) && (List.range l.length).all (okAt l)

theorem rightE_bad {l : List At} {j : Nat} (hj : j < l.length) (h : okAt l j = false) : rightE l = false := by
  cases hn : rightE l with
  | false => rfl
  | true =>
    simp only [rightE, Bool.and_eq_true, List.all_eq_true, List.mem_range] at hn
    rw [hn.2 j hj] at h; cases h
theorem ok_succ {l : List At} {j : Nat} (h : (List.range j).all (okAt l) = true) (hp : okAt l j = true) : (List.range (j + 1)).all (okAt l) = true := by
  rw [List.range_succ, List.all_append, h]; simp [hp]

theorem less_key (a b : At) : Op.bytesLess a.nm.toList b.nm.toList = ltKey keyA a b := by
  rw [bytes_toList, bytes_toList, bytesLess_eq]; rfl

set_option maxHeartbeats 4000000 in
theorem right_c (scope : ByteArray) (ao : Option Addr) (cap : Nat) (l : List At) (w : World) (hl : SliceA w ao l) :
    Calls Tryz.prog 7 #[.agg #[.string scope, .slice ao l.length cap]] w fun e w' => e = .returned (.bool (rightE l)) ∧ Below w.heap.size w w' := by
  obtain ⟨len, hL⟩ : ∃ len, len = l.length := ⟨_, rfl⟩
  have HLen : Aside (len = l.length) := hL
  rw [← hL]
  by_cases h8 : 8 < len
  · have hr : rightE l = false := by unfold rightE; rw [← hL, show decide (len ≤ 8) = false by simpa using h8]; rfl
    have h8z : (8 : Int) < len := by omega
    rw [hr]
    clear hL h8
    go_enter Tryz.func7, Tryz.ntmps7
    go_wp2
    go_ret
    exact ⟨rfl, ((Below.refl _ _).alloc (Nat.le_refl _) _)⟩
  have h8z : ¬ (8 : Int) < len := by omega
  have h8n : len ≤ 8 := by omega
  have HN : Aside ((List.range len).all (okAt l) = true → rightE l = true) := fun h => by unfold rightE; rw [← HLen.out, h]; simpa using h8n
  have HF : Aside (∀ j, j < len → okAt l j = false → rightE l = false) := fun j h h' => rightE_bad (by rw [← HLen.out]; exact h) h'
  have HS : Aside (SliceA w ao l) := hl
  clear hl hL
  go_enter Tryz.func7, Tryz.ntmps7
  go_wp2_with fail
  go_loopg [12] len (fun kx s12 wr => ∃ j : Nat, s12 = .int .i64 j ∧ j ≤ len ∧ len - j ≤ kx ∧ Aside ((List.range j).all (okAt l) = true) ∧ Aside (Below w.heap.size w wr) ∧ w.heap.size < wr.heap.size ∧ wr.cell? ⟨w.heap.size, 1, none⟩ = some (.slice ao len cap))
  case atStart => exact ⟨0, rfl, Nat.zero_le _, by omega, by simp [Aside], (Below.refl _ _).alloc (Nat.le_refl _) _, by simp, by simp [World.cell?_alloc_new]⟩
  case round =>
    obtain ⟨j, rfl, hj, hjx, hall, HB, hz, he1⟩ := hrel
    by_cases hlt : j < len
    · rcases HS.out with h0 | ⟨b, off, hao, hbs, hrow⟩
      · rw [h0] at HLen; exact absurd HLen.out (by simp; omega)
      subst hao
      have hR := RowAt.below HB.out hbs hrow
      have hrow1 := hR j (by rw [← HLen.out]; exact hlt)
      have HRow : Aside (RowAt w b off l) := hrow
      have HR : Aside (RowAt wr b off l) := hR
      clear hrow hR
      obtain ⟨a, ha⟩ : ∃ a, a = l[j]! := ⟨_, rfl⟩
      have HA : Aside (a = l[j]!) := ha
      rw [← ha] at hrow1
      clear ha
      obtain ⟨nm, k, n, x, s, y⟩ := a
      have c0 := hrow1 0 _ rfl; have c1 := hrow1 1 _ rfl; have c2 := hrow1 2 _ rfl; have c3 := hrow1 3 _ rfl; have c4 := hrow1 4 _ rfl; have c5 := hrow1 5 _ rfl
      simp only [Nat.add_zero] at c0
      clear hrow1
      have hltz : (j : Int) < len := by omega
      have hjz : (0 : Int) ≤ (j : Int) := by omega
      go_wp2_with fail
      have HB2 : Aside (Below w.heap.size w (wr.alloc (.cells #[.string nm, .int .i64 k, .int .i64 n, .float .f64 x, .string s, .bool y] 33))) := HB.out.alloc (Nat.le_of_lt hz) _
      have hA2 : wr.heap.size < (wr.alloc (.cells #[.string nm, .int .i64 k, .int .i64 n, .float .f64 x, .string s, .bool y] 33)).heap.size := by simp
      have yy : ∀ i, (wr.alloc (.cells #[.string nm, .int .i64 k, .int .i64 n, .float .f64 x, .string s, .bool y] 33)).cell? ⟨wr.heap.size, i, none⟩ = (#[Value.string nm, .int .i64 k, .int .i64 n, .float .f64 x, .string s, .bool y])[i]? := fun i => by rw [World.cell?_alloc_new]
      have he2 := (World.cell?_alloc_lt wr (.cells #[.string nm, .int .i64 k, .int .i64 n, .float .f64 x, .string s, .bool y] 33) ⟨w.heap.size, 1, none⟩ hz).trans he1
      have y0 := yy 0; have y1 := yy 1; have y2 := yy 2; have y3 := yy 3; have y4 := yy 4; have y5 := yy 5
      simp only [List.getElem?_toArray, List.getElem?_cons_zero, List.getElem?_cons_succ] at y0 y1 y2 y3 y4 y5
      clear yy c0 c1 c2 c3 c4 c5 he1 HR HB
      generalize (wr.alloc (.cells #[.string nm, .int .i64 k, .int .i64 n, .float .f64 x, .string s, .bool y] 33)) = w2 at *
      have hzA : w.heap.size < wr.heap.size := hz
      generalize wr.heap.size = A at *
      rcases j with _ | q
      · have h0z : ¬ (0 : Int) < ((0 : Nat) : Int) := by decide
        have OK : Aside (okAt l 0 = (nameOk nm && vrightB k s && keptB ⟨nm, k, n, x, s, y⟩)) := by
          unfold okAt; rw [← HA.out]; rfl
        go_region
        have HD : Aside (Below w.heap.size w w2.drew) := ⟨HB2.out.os, HB2.out.tape, HB2.out.output, HB2.out.size, HB2.out.block⟩
        have he3 : w2.drew.cell? ⟨w.heap.size, 1, none⟩ = some (.slice (some ⟨b, off, none⟩) len cap) := he2
        have hA3 : A < w2.drew.heap.size := hA2
        have z0 : w2.drew.cell? ⟨A, 0, none⟩ = some (.string nm) := y0
        have z1 : w2.drew.cell? ⟨A, 1, none⟩ = some (.int .i64 k) := y1
        have z2 : w2.drew.cell? ⟨A, 2, none⟩ = some (.int .i64 n) := y2
        have z3 : w2.drew.cell? ⟨A, 3, none⟩ = some (.float .f64 x) := y3
        have z4 : w2.drew.cell? ⟨A, 4, none⟩ = some (.string s) := y4
        have z5 : w2.drew.cell? ⟨A, 5, none⟩ = some (.bool y) := y5
        clear y0 y1 y2 y3 y4 y5 he2 hA2 HB2
        generalize w2.drew = w3 at *
        cases hn : nameOk nm
        · go_wp2_with (go_at_call 12; refine (name_c _ _).mono ?_; rintro e w4 ⟨rfl, rfl⟩; rw [hn])
          go_ret
          exact ⟨congrArg (fun b => Ending.returned (Value.bool b)) (HF.out 0 hlt (by rw [OK.out, hn]; rfl)).symm, HD.out⟩
        go_wp2_with (go_at_call 12; refine (name_c _ _).mono ?_; rintro e w4 ⟨rfl, rfl⟩; rw [hn])
        refine (vright_c k n x s y _).mono ?_
        rintro e w4 ⟨rfl, hb4⟩
        have HD4 : Aside (Below w.heap.size w w4) := HD.out.trans (hb4.mono HD.out.size)
        have v0 := (hb4.cell (p := ⟨A, 0, none⟩) hA3).trans z0; have v1 := (hb4.cell (p := ⟨A, 1, none⟩) hA3).trans z1; have v2 := (hb4.cell (p := ⟨A, 2, none⟩) hA3).trans z2; have v3 := (hb4.cell (p := ⟨A, 3, none⟩) hA3).trans z3; have v4 := (hb4.cell (p := ⟨A, 4, none⟩) hA3).trans z4; have v5 := (hb4.cell (p := ⟨A, 5, none⟩) hA3).trans z5
        have he4 := (hb4.cell (p := ⟨w.heap.size, 1, none⟩) (Nat.lt_trans hzA hA3)).trans he3
        have hz4 := Nat.lt_of_lt_of_le (Nat.lt_trans hzA hA3) hb4.size
        clear z0 z1 z2 z3 z4 z5 he3 hA3 hb4
        cases hv : vrightB k s
        · go_wp2_with fail
          go_ret
          exact ⟨congrArg (fun b => Ending.returned (Value.bool b)) (HF.out 0 hlt (by rw [OK.out, hn, hv]; rfl)).symm, HD4.out⟩
        go_wp2_with fail
        refine (kept_c nm k n x s y _).mono ?_
        rintro e w5 ⟨rfl, hb5⟩
        have HD5 : Aside (Below w.heap.size w w5) := HD4.out.trans (hb5.mono HD4.out.size)
        have he5 := (hb5.cell (p := ⟨w.heap.size, 1, none⟩) hz4).trans he4
        have hz5 := Nat.lt_of_lt_of_le hz4 hb5.size
        clear v0 v1 v2 v3 v4 v5 he4 hz4 hb5
        cases hk : keptB ⟨nm, k, n, x, s, y⟩
        · go_wp2_with fail
          go_ret
          exact ⟨congrArg (fun b => Ending.returned (Value.bool b)) (HF.out 0 hlt (by rw [OK.out, hn, hv, hk]; rfl)).symm, HD5.out⟩
        have hOK : okAt l (0) = true := by rw [OK.out, hn, hv, hk]; rfl
        go_wp2_with fail
        go_roundg (len - (0 + 1))
        case measure => omega
        case rel => exact ⟨0 + 1, by go_num, hlt, Nat.le_refl _, ok_succ hall.out hOK, HD5, hz5, he5⟩
      · obtain ⟨p, hp⟩ : ∃ p, p = l[q]! := ⟨_, rfl⟩
        have HP : Aside (p = l[q]!) := hp
        have cp := RowAt.below HB2.out hbs HRow.out q (by rw [← HLen.out]; omega)
        rw [← hp] at cp
        have cp0 := cp 0 _ rfl
        simp only [Nat.add_zero] at cp0
        clear cp hp
        have h0z : (0 : Int) < ((q + 1 : Nat) : Int) := by omega
        have e0 : (((q + 1 : Nat) : Int) - 1).toNat = q := by omega
        have e1 : IntKind.i64.wrap (((q + 1 : Nat) : Int) - 1) = (q : Int) := by rw [IntKind.wrap_i64]; omega
        have r1 : (q : Int) < len := by omega
        have r2 : (0 : Int) ≤ q := by omega
        have lk := less_key p ⟨nm, k, n, x, s, y⟩
        simp only [] at lk
        have OK0 : Aside (okAt l (q + 1) = (ltKey keyA p ⟨nm, k, n, x, s, y⟩ && nameOk nm && vrightB k s && keptB ⟨nm, k, n, x, s, y⟩)) := by
          unfold okAt; rw [← HA.out, Nat.add_sub_cancel, ← HP.out, show decide (q + 1 = 0) = false by simp]; rfl
        cases hlk : ltKey keyA p ⟨nm, k, n, x, s, y⟩
        · rw [hlk] at lk
          have HD : Aside (Below w.heap.size w w2.drew) := ⟨HB2.out.os, HB2.out.tape, HB2.out.output, HB2.out.size, HB2.out.block⟩
          go_region
          go_wp2_with fail
          go_ret
          exact ⟨congrArg (fun b => Ending.returned (Value.bool b)) (HF.out (q + 1) hlt (by rw [OK0.out, hlk]; rfl)).symm, HD.out⟩
        have OK : Aside (okAt l (q + 1) = (nameOk nm && vrightB k s && keptB ⟨nm, k, n, x, s, y⟩)) := by rw [OK0.out, hlk]; rfl
        rw [hlk] at lk
        clear OK0 hlk
        go_region
        have HD : Aside (Below w.heap.size w w2.drew) := ⟨HB2.out.os, HB2.out.tape, HB2.out.output, HB2.out.size, HB2.out.block⟩
        have he3 : w2.drew.cell? ⟨w.heap.size, 1, none⟩ = some (.slice (some ⟨b, off, none⟩) len cap) := he2
        have hA3 : A < w2.drew.heap.size := hA2
        have z0 : w2.drew.cell? ⟨A, 0, none⟩ = some (.string nm) := y0
        have z1 : w2.drew.cell? ⟨A, 1, none⟩ = some (.int .i64 k) := y1
        have z2 : w2.drew.cell? ⟨A, 2, none⟩ = some (.int .i64 n) := y2
        have z3 : w2.drew.cell? ⟨A, 3, none⟩ = some (.float .f64 x) := y3
        have z4 : w2.drew.cell? ⟨A, 4, none⟩ = some (.string s) := y4
        have z5 : w2.drew.cell? ⟨A, 5, none⟩ = some (.bool y) := y5
        clear y0 y1 y2 y3 y4 y5 he2 hA2 HB2
        generalize w2.drew = w3 at *
        cases hn : nameOk nm
        · go_wp2_with (go_at_call 12; refine (name_c _ _).mono ?_; rintro e w4 ⟨rfl, rfl⟩; rw [hn])
          go_ret
          exact ⟨congrArg (fun b => Ending.returned (Value.bool b)) (HF.out (q + 1) hlt (by rw [OK.out, hn]; rfl)).symm, HD.out⟩
        go_wp2_with (go_at_call 12; refine (name_c _ _).mono ?_; rintro e w4 ⟨rfl, rfl⟩; rw [hn])
        refine (vright_c k n x s y _).mono ?_
        rintro e w4 ⟨rfl, hb4⟩
        have HD4 : Aside (Below w.heap.size w w4) := HD.out.trans (hb4.mono HD.out.size)
        have v0 := (hb4.cell (p := ⟨A, 0, none⟩) hA3).trans z0; have v1 := (hb4.cell (p := ⟨A, 1, none⟩) hA3).trans z1; have v2 := (hb4.cell (p := ⟨A, 2, none⟩) hA3).trans z2; have v3 := (hb4.cell (p := ⟨A, 3, none⟩) hA3).trans z3; have v4 := (hb4.cell (p := ⟨A, 4, none⟩) hA3).trans z4; have v5 := (hb4.cell (p := ⟨A, 5, none⟩) hA3).trans z5
        have he4 := (hb4.cell (p := ⟨w.heap.size, 1, none⟩) (Nat.lt_trans hzA hA3)).trans he3
        have hz4 := Nat.lt_of_lt_of_le (Nat.lt_trans hzA hA3) hb4.size
        clear z0 z1 z2 z3 z4 z5 he3 hA3 hb4
        cases hv : vrightB k s
        · go_wp2_with fail
          go_ret
          exact ⟨congrArg (fun b => Ending.returned (Value.bool b)) (HF.out (q + 1) hlt (by rw [OK.out, hn, hv]; rfl)).symm, HD4.out⟩
        go_wp2_with fail
        refine (kept_c nm k n x s y _).mono ?_
        rintro e w5 ⟨rfl, hb5⟩
        have HD5 : Aside (Below w.heap.size w w5) := HD4.out.trans (hb5.mono HD4.out.size)
        have he5 := (hb5.cell (p := ⟨w.heap.size, 1, none⟩) hz4).trans he4
        have hz5 := Nat.lt_of_lt_of_le hz4 hb5.size
        clear v0 v1 v2 v3 v4 v5 he4 hz4 hb5
        cases hk : keptB ⟨nm, k, n, x, s, y⟩
        · go_wp2_with fail
          go_ret
          exact ⟨congrArg (fun b => Ending.returned (Value.bool b)) (HF.out (q + 1) hlt (by rw [OK.out, hn, hv, hk]; rfl)).symm, HD5.out⟩
        have hOK : okAt l ((q + 1)) = true := by rw [OK.out, hn, hv, hk]; rfl
        go_wp2_with fail
        go_roundg (len - ((q + 1) + 1))
        case measure => omega
        case rel => exact ⟨(q + 1) + 1, by go_num, hlt, Nat.le_refl _, ok_succ hall.out hOK, HD5, hz5, he5⟩
    · obtain rfl : j = len := by omega
      go_wp2
      go_ret
      exact ⟨congrArg (fun b => Ending.returned (Value.bool b)) (HN.out hall.out).symm, HB.out⟩
end Go.Proofs.YtfoboncfmigdaaaGreatDoor
