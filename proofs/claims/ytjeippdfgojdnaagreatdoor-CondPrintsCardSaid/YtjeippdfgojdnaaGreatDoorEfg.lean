/- internal/strconv.fmtEFG in general: a number's digits as a text. -/
import Derived.Test.YtjeippdfgojdnaaGreatDoorDig
import Derived.Lib.BufSteps
import Derived.LoopN
import Derived.Deep.LoopGhost
namespace Go.Proofs.YtjeippdfgojdnaaGreatDoor
open Go.RowKit
set_option maxRecDepth 100000

theorem infoU8' : ∃ i, Tryz.prog.info? 5 = some i ∧ i.zero = some (.int .u8 0) ∧ i.size = 1 ∧ i.bytes = 1 := by
  have h : (Tryz.prog.info? 5).map (fun i => (i.zero, i.size, i.bytes)) = some (some (.int .u8 0), 1, 1) := by kernel_rfl
  cases hi : Tryz.prog.info? 5 with
  | none => rw [hi] at h; cases h
  | some i =>
    rw [hi] at h
    simp only [Option.map_some, Option.some.injEq, Prod.mk.injEq] at h
    exact ⟨i, rfl, h.1, h.2.1, h.2.2⟩

/-- A buffer that the call owns, and the digits' row beside it. -/
structure EfgI (B R : Nat) (cur : Array Value) (fz : Nat × Nat) (v : Value) (xs : List Value) (W0 w : World) : Prop where
  own : Lib.OwnBuf B 5 v xs.length xs W0 w
  row : w.heap[R]? = some (.cells cur 149 fz)
theorem EfgI.alloc {B R : Nat} {cur : Array Value} {fz : Nat × Nat} {v : Value} {xs : List Value} {W0 w : World} (h : EfgI B R cur fz v xs W0 w) (o : Obj) : EfgI B R cur fz v xs W0 (w.alloc o) :=
  ⟨h.own.alloc o, (Lib.alloc_old w o R (Array.getElem?_eq_some_iff.1 h.row).1).trans h.row⟩
theorem EfgI.cell {B R : Nat} {cur : Array Value} {fz : Nat × Nat} {v : Value} {xs : List Value} {W0 w : World} (h : EfgI B R cur fz v xs W0 w) (j : Nat) : w.cell? ⟨R, j, none⟩ = cur[j]? := by
  simp [World.cell?, h.row]
theorem EfgI.grown {B R : Nat} {cur : Array Value} {fz : Nat × Nat} {v v' : Value} {xs xs' : List Value} {W0 w w' : World} (h : EfgI B R cur fz v xs W0 w) (ho : w'.ownsRowF B 5 1 v' xs'.length xs') (hg : w.grownBy w' v.ownBlock) : EfgI B R cur fz v' xs' W0 w' := by
  refine ⟨h.own.grown ho hg, (hg.block R (Array.getElem?_eq_some_iff.1 h.row).1 (fun e => ?_)).trans h.row⟩
  rcases h.own.1.2 with ⟨rfl, _⟩ | ⟨g, cap, c, f, rfl, _, hgb, _⟩
  · simp [Value.ownBlock] at e
  · obtain rfl : R = g := by simpa [Value.ownBlock] using e
    have := h.row.symm.trans hgb
    have e3 : (149 : TypeId) = 5 := by injection this with h1; injection h1
    exact absurd e3 (by decide)

/-- append of cells that lie somewhere. -/
theorem wpList_append_cells {ops : Array Oper} {rest : List Oper} {o : Oper} {a : Act} {Q : Exit → Act → World → Prop} {w : World} (hgd : o.guard = none) (s x : Operand)
    (ho : o.op = .call { callee := .builtin .append, args := #[s, x], argTypes := #[104, 104] })
    (B R : Nat) (cur : Array Value) (fz : Nat × Nat) (W0 : World) (v : Value) (xs : List Value) (hs : a.eval s = v) (hI : EfgI B R cur fz v xs W0 w)
    (src : Addr) (k cap : Nat) (cs : List Value) (hx : a.eval x = .slice (some src) k cap) (hk : cs.length = k) (hc : ∀ j c, cs[j]? = some c → w.cell? (src.add j) = some c) (h1 : ∀ u ∈ cs, u.oneCell' = true) (hlen : xs.length + k ≤ 1000)
    (h : ∀ v' w', EfgI B R cur fz v' (xs ++ cs) W0 w' → wpList Tryz.prog ops Q rest (a.put o.dst v') w') : wpList Tryz.prog ops Q (o :: rest) a w := by
  obtain ⟨i0, hi, hz0, hz1, hz2⟩ := infoU8'
  refine wpList_append_ownF _ hgd s x 104 ho B 5 i0 (.int .u8 0) 1 1 Tryz.underlying104 hi hz0 hz1 hz2 rfl (by decide) v xs.length xs hs hI.own.1 src k cap cs hx (by simp [hk]) hc h1 (by unfold maxLen; omega) (by omega) hI.own.2.2 ?_
  intro v' w' ho' hg _
  have e : xs.length + k = (xs ++ cs).length := by simp [hk]
  rw [e] at ho'
  exact h v' w' (hI.grown ho' hg)
/-- Some of the digits, as cells. -/
def seg (D : Nat → UInt8) (o k : Nat) : List Value := (List.range k).map fun j => u8e (D (o + j))
theorem seg_len (D : Nat → UInt8) (o k : Nat) : (seg D o k).length = k := by simp [seg]
theorem seg_one (D : Nat → UInt8) (o k : Nat) : ∀ u ∈ seg D o k, u.oneCell' = true := by
  intro u hu
  obtain ⟨c, _, rfl⟩ := List.mem_map.1 hu
  rfl
theorem EfgI.seg {B R : Nat} {cur : Array Value} {fz : Nat × Nat} {v : Value} {xs : List Value} {W0 w : World} (h : EfgI B R cur fz v xs W0 w) {D : Nat → UInt8} {nd : Nat} (hc : ∀ j, j < nd → cur[j]? = some (u8e (D j))) (o k : Nat) (hk : o + k ≤ nd) :
    ∀ j c, (YtjeippdfgojdnaaGreatDoor.seg D o k)[j]? = some c → w.cell? ((⟨R, o, none⟩ : Addr).add j) = some c := by
  intro j c hj
  unfold YtjeippdfgojdnaaGreatDoor.seg at hj
  rw [List.getElem?_map] at hj
  obtain ⟨i, hi, rfl⟩ := Option.map_eq_some_iff.1 hj
  obtain ⟨hlt, rfl⟩ := List.getElem?_eq_some_iff.1 hi
  rw [List.length_range] at hlt
  rw [Addr.add_lit, h.cell, hc _ (by omega), List.getElem_range]
/-- append of bytes that the statement has just laid. -/
theorem wpList_append_new {ops : Array Oper} {rest : List Oper} {o : Oper} {a : Act} {Q : Exit → Act → World → Prop} {w0 : World} (hgd : o.guard = none) (s x : Operand)
    (ho : o.op = .call { callee := .builtin .append, args := #[s, x], argTypes := #[104, 104] })
    (B R : Nat) (cur : Array Value) (fz : Nat × Nat) (W0 : World) (v : Value) (xs : List Value) (hs : a.eval s = v) (hI : EfgI B R cur fz v xs W0 w0)
    (arr : Array Value) (hx : a.eval x = .slice (some ⟨w0.heap.size, 0, none⟩) arr.size arr.size) (h1 : ∀ u ∈ arr.toList, u.oneCell' = true) (hlen : xs.length + arr.size ≤ 1000)
    (h : ∀ v' w', EfgI B R cur fz v' (xs ++ arr.toList) W0 w' → wpList Tryz.prog ops Q rest (a.put o.dst v') w') : wpList Tryz.prog ops Q (o :: rest) a (w0.alloc (.cells arr 5)) := by
  refine wpList_append_cells hgd s x ho B R cur fz W0 v xs hs (hI.alloc _) ⟨w0.heap.size, 0, none⟩ arr.size arr.size arr.toList hx (by simp) ?_ h1 hlen h
  intro j c hj
  rw [Addr.add_lit, Nat.zero_add, World.cell?_alloc_new, ← hj]; simp

/-! ### Plainly -/
def sgnL (neg : Bool) : List UInt8 := if neg then [45] else []
/-- An exponent's digits: two, or three. -/
def expL (x : Nat) : List UInt8 := if x < 10 then [48, UInt8.ofNat (x + 48)] else if x < 100 then [UInt8.ofNat (x / 10 + 48), UInt8.ofNat (x % 10 + 48)] else [UInt8.ofNat (x / 100 + 48), UInt8.ofNat (x / 10 % 10 + 48), UInt8.ofNat (x % 10 + 48)]
/-- Digits with an exponent. -/
def eL (neg : Bool) (D : Nat → UInt8) (nd : Nat) (dp : Int) : List UInt8 :=
  sgnL neg ++ [D 0] ++ (if nd = 1 then [] else 46 :: (List.range (nd - 1)).map fun j => D (1 + j)) ++ [101] ++ [if dp - 1 < 0 then 45 else 43] ++ expL (dp - 1).natAbs
/-- Digits without one. -/
def fL (neg : Bool) (D : Nat → UInt8) (nd : Nat) (dp : Int) : List UInt8 :=
  if 0 < dp then sgnL neg ++ (List.range (min nd dp.toNat)).map D ++ List.replicate (dp.toNat - nd) 48 ++ (if dp.toNat < nd then 46 :: (List.range (nd - dp.toNat)).map fun j => D (dp.toNat + j) else [])
  else sgnL neg ++ [48, 46] ++ List.replicate (-dp).toNat 48 ++ (List.range nd).map D
/-- What fmtEFG writes of nd digits D, the point standing behind dp of them. -/
def efgL (neg : Bool) (D : Nat → UInt8) (nd : Nat) (dp : Int) : List UInt8 := if dp - 1 < -4 ∨ 6 ≤ dp - 1 then eL neg D nd dp else fL neg D nd dp
end Go.Proofs.YtjeippdfgojdnaaGreatDoor
