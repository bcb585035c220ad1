/- FilV, MaxI, FilC, Builder, BuilderK, FilT, FilF, FilL: merged by merge.py. -/
import Derived.Test.YtjnfbinomljocaaDoorGaD
import Derived.Test.YtjnfbinomljocaaDoorCondI
import Derived.Test.YtjnfbinomljocaaDoorRows
import Derived.Test.YtjnfbinomljocaaDoorShelf
import Derived.Lib.Builder
import Derived.Lib.AppendStr
import Derived.Lib.UnsafeStr
import Derived.WalkKit
import Derived.Laws.Externs
import Derived.Laws.IdiomCopy
import Derived.KernelRfl
import Derived.Lib.Hide
import Derived.Deep.Heap
import Derived.Test.YtjnfbinomljocaaDoorGaC
/- filter.Void, implied, Covers, Right of any filter. -/
namespace Go.Proofs.YtjnfbinomljocaaDoor
open Go.RowKit Go.Shelf
open Go.Proofs
set_option maxRecDepth 100000

theorem any_true_at {α : Type} [Inhabited α] (P : List α) (f : α → Bool) (j : Nat) (hj : j < P.length) (hf : f P[j]! = true) : P.any f = true := by
  rw [List.any_eq_true]
  refine ⟨P[j]!, ?_, hf⟩
  rw [getElem!_pos P j hj]; exact List.getElem_mem _
theorem any_take_snoc {α : Type} [Inhabited α] (P : List α) (f : α → Bool) (j : Nat) (hj : j < P.length) (h : (P.take j).any f = false) (hf : f P[j]! = false) : (P.take (j + 1)).any f = false := by
  rw [List.take_add_one, List.getElem?_eq_getElem hj, List.any_append, h]
  rw [getElem!_pos P j hj] at hf
  simp [hf]

end Go.Proofs.YtjnfbinomljocaaDoor

/- What a scope's Right wants of the world: the library's own variable holds some number. -/
namespace Go.Proofs.YtjnfbinomljocaaDoor
open Go.RowKit Go.Shelf
open Go.Proofs
set_option maxRecDepth 100000

/-- The library's own variable holds some number. -/
def MaxI (W : World) : Prop := ∃ m, W.cell? ⟨0, 0, none⟩ = some (.int .i64 m)
theorem maxI_of {W : World} (h : W.ShapedOpen Tryd.prog) : MaxI W := Tryd.laysM219.s1_3 W h
theorem MaxI.below {w W : World} (h : MaxI w) (hb : Below w.heap.size w W) : MaxI W := by
  obtain ⟨m, hm⟩ := h
  exact ⟨m, (hb.cell (p := ⟨0, 0, none⟩) (World.block_lt_of_cell? _ _ hm)).trans hm⟩
end Go.Proofs.YtjnfbinomljocaaDoor

/- filter.Covers, filter.Right of any filters. -/
namespace Go.Proofs.YtjnfbinomljocaaDoor
open Go.RowKit Go.Shelf
open Go.Proofs
set_option maxRecDepth 100000

set_option maxHeartbeats 4000000 in
theorem fright_c (fs : ByteArray) (co : Option Addr) (ccap : Nat) (cs : List Cn) (w : World) (hcs : CondsB w.heap.size w co cs) (hlc : cs.length ≤ 4611686018427387904) (hfs : fs.size ≤ 3000) (hm : MaxI w) :
    Calls Tryd.prog 36 #[fil fs co cs.length ccap] w fun e w' => e = .returned (.bool (rightF fs cs)) ∧ Below w.heap.size w w' := by
  obtain ⟨len, hL⟩ : ∃ len, len = cs.length := ⟨_, rfl⟩
  have HLen : Aside (len = cs.length) := hL
  rw [← hL] at hlc ⊢
  have B0 : Below w.heap.size w (w.alloc (.cells #[.string fs, .slice co len ccap] 41)) := (Below.refl _ _).alloc (Nat.le_refl _) _
  have HB0 := Lib.hid B0
  have HS : Aside (∀ W, Below w.heap.size w W → Calls Tryd.prog 14 #[.string fs] W fun e w' => e = .returned (.bool (scopeOk fs)) ∧ Below W.heap.size W w') := fun W hW => scright_c fs W hfs (hm.below hW)
  have HM : Aside (∀ c : Cn, ∀ W, Calls Tryd.prog 57 #[cndC c] W fun e w' => e = .returned (.bool (crightB c)) ∧ Below W.heap.size W w') := fun c W => cright_c c.a.nm c.op c.a.k c.a.n c.a.x c.a.s c.a.y W
  have HSL : Aside (∀ W, Below w.heap.size w W → cs = [] ∨ ∃ b off, co = some ⟨b, off, none⟩ ∧ b < w.heap.size ∧ RowC W b off cs) := fun W hW => by
    rcases hcs with h | ⟨b, off, h1, h2, h3⟩
    · exact Or.inl h
    · exact Or.inr ⟨b, off, h1, h2, RowC.below hW h2 h3⟩
  obtain ⟨r, hr⟩ : ∃ r, r = rightF fs cs := ⟨_, rfl⟩
  have HR : Aside (r = (decide (len ≤ 6) && (scopeOk fs && cs.all crightB))) := by
    show r = _
    rw [hr, hL]; rfl
  rw [← hr]
  generalize crightB = m1 at *
  generalize scopeOk fs = u at *
  have z1 : w.heap.size + 1 ≤ (w.alloc (.cells #[.string fs, .slice co len ccap] 41)).heap.size := by simp
  have HKP : Aside (∀ W, Below (w.heap.size + 1) (w.alloc (.cells #[.string fs, .slice co len ccap] 41)) W → W.cell? ⟨w.heap.size, 0, none⟩ = some (.string fs) ∧ W.cell? ⟨w.heap.size, 1, none⟩ = some (.slice co len ccap)) := fun W hW => ⟨one_lay hW 0 _ rfl, one_lay hW 1 _ rfl⟩
  have HBR : Aside (Below (w.heap.size + 1) (w.alloc (.cells #[.string fs, .slice co len ccap] 41)) (w.alloc (.cells #[.string fs, .slice co len ccap] 41))) := Below.refl _ _
  obtain ⟨a0, a1⟩ := HKP.out _ HBR.out
  clear B0 hcs hr hfs hL hm
  by_cases h6 : len ≤ 6
  rotate_left
  · have hrf : r = false := by rw [HR.out, decide_eq_false h6]; rfl
    subst hrf
    have h6z : (6 : Int) < len := by omega
    go_enter Tryd.func36, Tryd.ntmps36
    go_wp2_with fail
    go_ret
    exact ⟨rfl, HB0.out⟩
  have h6z : ¬ (6 : Int) < len := by omega
  have HR' : Aside (r = (u && cs.all m1)) := by
    show r = _
    rw [HR.out, decide_eq_true h6, Bool.true_and]
  clear HR h6
  go_enter Tryd.func36, Tryd.ntmps36
  go_wp2_with fail
  generalize hW0 : (w.alloc (.cells #[.string fs, .slice co len ccap] 41)) = w0 at *
  refine (HS.out _ HB0.out).mono ?_
  rintro e w1 ⟨rfl, hb⟩
  have HA1 : Aside (Below (w.heap.size + 1) w0 w1) := hb.mono z1
  clear hb a0 a1
  obtain ⟨a0, a1⟩ := HKP.out _ HA1.out
  cases u
  · have hrf : r = false := by rw [HR'.out]; rfl
    subst hrf
    go_wp2_with fail
    go_ret
    exact ⟨rfl, HB0.out.trans (HA1.out.mono (by omega))⟩
  go_wp2_with fail
  clear a0 a1
  go_loopg [18] len (fun kx s10 wr => ∃ j : Nat, s10 = .int .i64 j ∧ j ≤ len ∧ len - j ≤ kx ∧ Aside ((cs.take j).all m1 = true) ∧ Aside (Below (w.heap.size + 1) w0 wr))
  case atStart => exact ⟨0, rfl, Nat.zero_le _, by omega, by simp [Aside], HA1.out⟩
  case round =>
    obtain ⟨j, rfl, hj, hjx, HN, HA⟩ := hrel
    have zr : w.heap.size + 1 ≤ wr.heap.size := Nat.le_trans z1 HA.out.size
    have hBw : Below w.heap.size w wr := HB0.out.trans (HA.out.mono (by omega))
    by_cases hlt : j < len
    · rcases HSL.out _ hBw with h0 | ⟨b, off, hao, hbs, hrow⟩
      · rw [h0] at HLen; exact absurd HLen.out (by simp; omega)
      subst hao
      have hjl : j < cs.length := by rw [← HLen.out]; exact hlt
      have hrow1 := hrow j hjl
      have HMj := Lib.hid (HM.out cs[j]!)
      have HT : Aside (m1 cs[j]! = true → (cs.take (j + 1)).all m1 = true) := fun h => all_take_snoc cs m1 j hjl HN.out h
      have HF : Aside (m1 cs[j]! = false → r = false) := fun h => by rw [HR'.out, all_false_take cs m1 j hjl h]; rfl
      generalize m1 cs[j]! = q at HT HF HMj
      generalize cs[j]! = c at hrow1 HMj
      obtain ⟨⟨nm, k, n', x, s, y⟩, op⟩ := c
      have c0 := hrow1 0 _ rfl; have c1 := hrow1 1 _ rfl; have c2 := hrow1 2 _ rfl; have c3 := hrow1 3 _ rfl; have c4 := hrow1 4 _ rfl; have c5 := hrow1 5 _ rfl; have c6 := hrow1 6 _ rfl
      simp only [Nat.add_zero] at c0
      clear hrow1 hrow HSL HM hjl
      have hltz : (j : Int) < len := by omega
      have hjz : (0 : Int) ≤ (j : Int) := by omega
      go_upto_region 6 with fail
      have hA9 : Below (w.heap.size + 1) w0 (wr.alloc (.cells (cnds nm op k n' x s y) 66)) := HA.out.alloc (by omega) _
      have vv := World.cell?_alloc_new wr (cnds nm op k n' x s y) 66
      have v0 := vv 0; have v1 := vv 1; have v2 := vv 2; have v3 := vv 3; have v4 := vv 4; have v5 := vv 5; have v6 := vv 6
      simp only [List.getElem?_toArray, List.getElem?_cons_zero, List.getElem?_cons_succ] at v0 v1 v2 v3 v4 v5 v6
      have z9 : w.heap.size + 1 ≤ (wr.alloc (.cells (cnds nm op k n' x s y) 66)).heap.size := by simp; omega
      have HA9 := Lib.hid hA9
      clear hA9 vv c0 c1 c2 c3 c4 c5 c6 hBw
      generalize (wr.alloc (.cells (cnds nm op k n' x s y) 66)) = w9 at *
      generalize wr.heap.size = V at *
      go_wp2_with fail
      clear v0 v1 v2 v3 v4 v5 v6
      refine (HMj.out _).mono ?_
      rintro e w10 ⟨rfl, hb⟩
      have HA10 := Lib.hid (HA9.out.trans (hb.mono z9)); clear hb
      cases q
      · have hrf : r = false := HF.out rfl
        subst hrf
        go_wp2_with fail
        go_ret
        exact ⟨rfl, HB0.out.trans (HA10.out.mono (by omega))⟩
      · go_wp2_with fail
        go_roundg (len - (j + 1))
        case measure => omega
        case rel => exact ⟨j + 1, by go_num, hlt, Nat.le_refl _, HT.out (by first | trivial | rfl), HA10.out⟩
    · obtain rfl : j = len := by omega
      have hrt : r = true := by
        rw [HR'.out]
        have := HN.out
        rw [HLen.out, List.take_length] at this
        rw [this]; rfl
      subst hrt
      go_wp2_with fail
      go_ret
      exact ⟨rfl, HB0.out.trans (HA.out.mono (by omega))⟩
end Go.Proofs.YtjnfbinomljocaaDoor

/- strings.Builder: copyCheck, WriteString, String; at this program's bodies. -/
namespace Go.Proofs.YtjnfbinomljocaaDoor
open Go.RowKit Go.Shelf
open Go.Proofs

end Go.Proofs.YtjnfbinomljocaaDoor

/- strings.Builder's WriteString: blocks of other types than bytes, but for its own, stand as they stood. -/
namespace Go.Proofs.YtjnfbinomljocaaDoor
open Go.RowKit Go.Shelf
open Go.Proofs

/-- Blocks of other types than bytes stand as they stood, but for block b. -/
def KeptNB (b : Nat) (w w' : World) : Prop := ∀ (V : Nat) (cs : Array Value) (t : TypeId) (fz : Nat × Nat), w.heap[V]? = some (.cells cs t fz) → t ≠ 5 → V ≠ b → w'.heap[V]? = w.heap[V]?
theorem row_type {w : World} {base size : Nat} {e : TypeId} {v : Value} {n : Nat} {xs : List Value} (h : w.ownsRow base e size v n xs) {V : Nat} {cs : Array Value} {t : TypeId} {fz : Nat × Nat} (hV : w.heap[V]? = some (.cells cs t fz)) (ht : t ≠ e) : some V ≠ v.ownBlock := by
  intro e1
  rcases h.2 with ⟨rfl, _⟩ | ⟨g, cap, cur, rfl, _, hg, _⟩
  · cases e1
  · injection e1 with e2
    subst e2
    rw [hg] at hV
    injection hV with h1
    injection h1 with h2 h3 h4
    exact ht h3.symm

end Go.Proofs.YtjnfbinomljocaaDoor

/- filter.Print of any filter of few conditions. -/
namespace Go.Proofs.YtjnfbinomljocaaDoor
open Go.RowKit Go.Shelf
open Go.Proofs
set_option maxRecDepth 100000

/-- A filter's text behind its first j conditions. -/
def accT (fs : ByteArray) (T : Cn → ByteArray) (cs : List Cn) : Nat → List UInt8
  | 0 => fs.data.toList ++ [58]
  | j + 1 => accT fs T cs j ++ (if j = 0 then [] else [32, 38]) ++ ([32] ++ (T cs[j]!).data.toList)
def textF (fs : ByteArray) (T : Cn → ByteArray) (cs : List Cn) : ByteArray := ⟨(accT fs T cs cs.length).toArray⟩
theorem accT_ne (fs : ByteArray) (T : Cn → ByteArray) (cs : List Cn) (j : Nat) : accT fs T cs j ≠ [] := by
  cases j <;> simp [accT]
theorem accT_len {fs : ByteArray} {T : Cn → ByteArray} {cs : List Cn} (hT : ∀ c ∈ cs, (T c).size ≤ 100000) (hf : fs.size ≤ 3000) : ∀ j, j ≤ cs.length → (accT fs T cs j).length ≤ 3001 + j * 100003
  | 0, _ => by simp [accT]; exact hf
  | j + 1, h => by
    have ih := accT_len hT hf j (by omega)
    have := hT _ (memC cs j (by omega))
    have e : (T cs[j]!).data.toList.length = (T cs[j]!).size := by simp
    have e2 : (if j = 0 then ([] : List UInt8) else [32, 38]).length ≤ 2 := by split <;> simp
    rw [accT, List.length_append, List.length_append, List.length_append, e]
    simp only [List.length_singleton]
    omega
theorem bytes_app (a b : List UInt8) : Lib.byteCells (a ++ b) = Lib.byteCells a ++ Lib.byteCells b := by simp [Lib.byteCells]
theorem bytes_str (s : ByteArray) : Lib.strCells s = Lib.byteCells s.data.toList := rfl
theorem bytes_len (a : List UInt8) : (Lib.byteCells a).length = a.length := by simp [Lib.byteCells]
end Go.Proofs.YtjnfbinomljocaaDoor

/- What each law of layer 7 begins with: gazettelaw07's fit. -/
namespace Go.Proofs.YtjnfbinomljocaaDoor
open Go.RowKit Go.Shelf
open Go.Proofs
set_option maxRecDepth 100000

/-- The law's own condition: x, an op, a whole number. -/
def cx (op n : Int) : Cn := ⟨⟨⟨#[120]⟩, 0, n, 0, ⟨#[]⟩, false⟩, op⟩
theorem row_on {B : Nat} {cs : List Cn} {w W : World} (h : RowC w B 0 cs) (hB : B < w.heap.size) (hb : Below w.heap.size w W) : CondsB W.heap.size W (some ⟨B, 0, none⟩) cs := Or.inr ⟨B, 0, rfl, Nat.lt_of_lt_of_le hB hb.size, RowC.below hb hB h⟩
end Go.Proofs.YtjnfbinomljocaaDoor

/- gazettelaw07's Light and few: are they few and short? -/
namespace Go.Proofs.YtjnfbinomljocaaDoor
open Go.RowKit Go.Shelf
open Go.Proofs
set_option maxRecDepth 100000

def szA (a : At) : Int := wrap64 ((a.nm.size : Int) + (a.s.size : Int))
def sumA (n : Int) (l : List At) : Int := l.foldl (fun n a => wrap64 (n + szA a)) n
def sumC (n : Int) (l : List Cn) : Int := l.foldl (fun n c => wrap64 (n + szA c.a)) n
def lightF (fs : ByteArray) (cs : List Cn) : Bool := decide (sumC fs.size cs ≤ 2000) && decide (cs.length ≤ 20)
def fewA (l : List At) : Bool := decide (sumA 0 l ≤ 2000) && decide (l.length ≤ 20)
theorem sumC_snoc (n : Int) (l : List Cn) (j : Nat) (hj : j < l.length) : sumC n (l.take (j + 1)) = wrap64 (sumC n (l.take j) + szA l[j]!.a) := by
  rw [takeC l j hj]; unfold sumC; rw [List.foldl_append]; rfl
theorem sumA_snoc (n : Int) (l : List At) (j : Nat) (hj : j < l.length) : sumA n (l.take (j + 1)) = wrap64 (sumA n (l.take j) + szA l[j]!) := by
  rw [take_succ l j hj]; unfold sumA; rw [List.foldl_append]; rfl
/-- What memory allows: no sum goes round. -/
theorem sumA_le : ∀ (l : List At) (n : Int), (∀ a ∈ l, a.nm.size ≤ 140737488355328 ∧ a.s.size ≤ 140737488355328) → 0 ≤ n → n + 281474976710656 * l.length ≤ 9223372036854775807 → n ≤ sumA n l ∧ ∀ a ∈ l, n + a.nm.size + a.s.size ≤ sumA n l
  | [], n, _, _, _ => ⟨Int.le_refl _, fun a h => by simp at h⟩
  | a :: l, n, h, h0, h1 => by
    obtain ⟨b1, b2⟩ := h a List.mem_cons_self
    simp only [List.length_cons] at h1
    have e : wrap64 (n + szA a) = n + a.nm.size + a.s.size := by
      unfold szA wrap64; omega
    have ih := sumA_le l (n + a.nm.size + a.s.size) (fun x hx => h x (List.mem_cons_of_mem _ hx)) (by omega) (by omega)
    have e2 : sumA n (a :: l) = sumA (n + a.nm.size + a.s.size) l := by
      show sumA (wrap64 (n + szA a)) l = _
      rw [e]
    rw [e2]
    refine ⟨by omega, fun x hx => ?_⟩
    rcases List.mem_cons.1 hx with rfl | hx
    · exact ih.1
    · have := ih.2 x hx; omega
theorem sumC_map (n : Int) (l : List Cn) : sumC n l = sumA n (l.map (·.a)) := by
  unfold sumC sumA; rw [List.foldl_map]
theorem lightF_sz {fs : ByteArray} {cs : List Cn} (h : lightF fs cs = true) (hf : fs.size ≤ 140737488355328) (hc : ∀ c ∈ cs, c.a.nm.size ≤ 140737488355328 ∧ c.a.s.size ≤ 140737488355328) : fs.size ≤ 2000 ∧ cs.length ≤ 20 ∧ ∀ c ∈ cs, c.a.nm.size ≤ 2000 ∧ c.a.s.size ≤ 2000 := by
  unfold lightF at h
  simp only [Bool.and_eq_true, decide_eq_true_eq] at h
  obtain ⟨h1, h2⟩ := h
  rw [sumC_map] at h1
  obtain ⟨k1, k2⟩ := sumA_le (cs.map (·.a)) fs.size (fun a ha => by
    obtain ⟨c, hcc, rfl⟩ := List.mem_map.1 ha
    exact hc c hcc) (by omega) (by simp only [List.length_map]; omega)
  refine ⟨by omega, h2, fun c hcc => ?_⟩
  have := k2 c.a (List.mem_map.2 ⟨c, hcc, rfl⟩)
  omega
theorem fewA_sz {l : List At} (h : fewA l = true) (hc : ∀ a ∈ l, a.nm.size ≤ 140737488355328 ∧ a.s.size ≤ 140737488355328) : l.length ≤ 20 ∧ ∀ a ∈ l, a.nm.size ≤ 2000 ∧ a.s.size ≤ 2000 := by
  unfold fewA at h
  simp only [Bool.and_eq_true, decide_eq_true_eq] at h
  obtain ⟨h1, h2⟩ := h
  obtain ⟨k1, k2⟩ := sumA_le l 0 hc (by omega) (by omega)
  refine ⟨h2, fun a ha => ?_⟩
  have := k2 a ha
  omega

set_option maxHeartbeats 4000000 in
theorem flight_c (fs : ByteArray) (co : Option Addr) (ccap : Nat) (cs : List Cn) (w : World) (hcs : CondsB w.heap.size w co cs) (hlc : cs.length ≤ 4611686018427387904) :
    Calls Tryd.prog 17 #[fil fs co cs.length ccap] w fun e w' => e = .returned (.bool (lightF fs cs)) ∧ Below w.heap.size w w' := by
  obtain ⟨len, hL⟩ : ∃ len, len = cs.length := ⟨_, rfl⟩
  have HLen : Aside (len = cs.length) := hL
  rw [← hL] at hlc ⊢
  have B0 : Below w.heap.size w (w.alloc (.cells #[.string fs, .slice co len ccap] 41)) := (Below.refl _ _).alloc (Nat.le_refl _) _
  have HB0 := Lib.hid B0
  have HSL : Aside (∀ W, Below w.heap.size w W → cs = [] ∨ ∃ b off, co = some ⟨b, off, none⟩ ∧ b < w.heap.size ∧ RowC W b off cs) := fun W hW => by
    rcases hcs with h | ⟨b, off, h1, h2, h3⟩
    · exact Or.inl h
    · exact Or.inr ⟨b, off, h1, h2, RowC.below hW h2 h3⟩
  obtain ⟨r, hr⟩ : ∃ r, r = lightF fs cs := ⟨_, rfl⟩
  have HR : Aside (r = (decide (sumC fs.size cs ≤ 2000) && decide (len ≤ 20))) := by
    show r = _
    rw [hr, hL]; rfl
  rw [← hr]
  have HST : Aside (∀ j, j < cs.length → sumC fs.size (cs.take (j + 1)) = wrap64 (sumC fs.size (cs.take j) + szA cs[j]!.a)) := fun j hj => sumC_snoc _ _ j hj
  have HS0 : Aside (sumC fs.size (cs.take 0) = fs.size) := rfl
  generalize sumC (fs.size : Int) = S at *
  have z1 : w.heap.size + 1 ≤ (w.alloc (.cells #[.string fs, .slice co len ccap] 41)).heap.size := by simp
  have HKP : Aside (∀ W, Below (w.heap.size + 1) (w.alloc (.cells #[.string fs, .slice co len ccap] 41)) W → W.cell? ⟨w.heap.size, 0, none⟩ = some (.string fs) ∧ W.cell? ⟨w.heap.size, 1, none⟩ = some (.slice co len ccap)) := fun W hW => ⟨one_lay hW 0 _ rfl, one_lay hW 1 _ rfl⟩
  have HBR : Aside (Below (w.heap.size + 1) (w.alloc (.cells #[.string fs, .slice co len ccap] 41)) (w.alloc (.cells #[.string fs, .slice co len ccap] 41))) := Below.refl _ _
  obtain ⟨a0, a1⟩ := HKP.out _ HBR.out
  clear B0 hcs hr hL
  go_enter Tryd.func17, Tryd.ntmps17
  go_wp2_with fail
  generalize hW0 : (w.alloc (.cells #[.string fs, .slice co len ccap] 41)) = w0 at *
  clear a0 a1
  go_loopg [3, 12] len (fun kx s3 s10 wr => ∃ j : Nat, s10 = .int .i64 j ∧ j ≤ len ∧ len - j ≤ kx ∧ s3 = .int .i64 (S (cs.take j)) ∧ Aside (Below (w.heap.size + 1) w0 wr))
  case atStart => exact ⟨0, rfl, Nat.zero_le _, by omega, by rw [HS0.out], HBR.out⟩
  case round =>
    obtain ⟨j, rfl, hj, hjx, rfl, HA⟩ := hrel
    have zr : w.heap.size + 1 ≤ wr.heap.size := Nat.le_trans z1 HA.out.size
    have hBw : Below w.heap.size w wr := HB0.out.trans (HA.out.mono (by omega))
    by_cases hlt : j < len
    · rcases HSL.out _ hBw with h0 | ⟨b, off, hao, hbs, hrow⟩
      · rw [h0] at HLen; exact absurd HLen.out (by simp; omega)
      subst hao
      have hjl : j < cs.length := by rw [← HLen.out]; exact hlt
      have hrow1 := hrow j hjl
      have HT := Lib.hid (HST.out j hjl)
      generalize S (cs.take j) = acc at *
      generalize hacc : S (cs.take (j + 1)) = acc' at *
      have HAC : Aside (acc' = S (cs.take (j + 1))) := hacc.symm
      generalize cs[j]! = c at hrow1 HT
      obtain ⟨⟨nm, k, n', x, s, y⟩, op⟩ := c
      have c0 := hrow1 0 _ rfl; have c1 := hrow1 1 _ rfl; have c2 := hrow1 2 _ rfl; have c3 := hrow1 3 _ rfl; have c4 := hrow1 4 _ rfl; have c5 := hrow1 5 _ rfl; have c6 := hrow1 6 _ rfl
      simp only [Nat.add_zero] at c0
      clear hrow1 hrow HSL hjl hacc HST HS0
      have hltz : (j : Int) < len := by omega
      have hjz : (0 : Int) ≤ (j : Int) := by omega
      go_upto_region 5 with fail
      have hA9 : Below (w.heap.size + 1) w0 (wr.alloc (.cells (cnds nm op k n' x s y) 66)) := HA.out.alloc (by omega) _
      have vv := World.cell?_alloc_new wr (cnds nm op k n' x s y) 66
      have v0 := vv 0; have v5 := vv 5
      simp only [List.getElem?_toArray, List.getElem?_cons_zero, List.getElem?_cons_succ] at v0 v5
      have HA9 := Lib.hid hA9
      clear hA9 vv c0 c1 c2 c3 c4 c5 c6 hBw
      generalize (wr.alloc (.cells (cnds nm op k n' x s y) 66)) = w9 at *
      generalize wr.heap.size = V at *
      go_wp2_with fail
      go_roundg (len - (j + 1))
      case measure => omega
      case rel => exact ⟨j + 1, by go_num, hlt, Nat.le_refl _, by rw [← HAC.out, HT.out]; rfl, HA9.out⟩
    · obtain rfl : j = len := by omega
      have HR' : Aside (r = (decide (S (cs.take j) ≤ 2000) && decide (j ≤ 20))) := by
        show r = _
        rw [HR.out]; congr 2; rw [HLen.out, List.take_length]
      obtain ⟨a0, a1⟩ := HKP.out _ HA.out
      generalize S (cs.take j) = acc at *
      clear HR HST HS0 hjx hj hlt
      cases h1 : decide (acc ≤ 2000)
      · have hrf : r = false := by rw [HR'.out, h1]; rfl
        subst hrf
        go_wp2_with fail
        go_ret
        exact ⟨rfl, HB0.out.trans (HA.out.mono (by omega))⟩
      · have hrf : r = decide ((j : Int) ≤ 20) := by
          rw [HR'.out, h1, Bool.true_and]
          by_cases hh : j ≤ 20
          · rw [decide_eq_true hh, decide_eq_true (by omega)]
          · rw [decide_eq_false hh, decide_eq_false (by omega)]
        subst hrf
        go_wp2_with fail
        go_ret
        exact ⟨rfl, HB0.out.trans (HA.out.mono (by omega))⟩
end Go.Proofs.YtjnfbinomljocaaDoor
