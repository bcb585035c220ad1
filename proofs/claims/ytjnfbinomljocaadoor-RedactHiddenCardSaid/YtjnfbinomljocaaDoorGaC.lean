/- CondW, CondM, CanP, CondC, Tabs, TabsC, RunP, CondT: merged by merge.py. -/
import Derived.Deep.Cut
import Derived.Deep.LoopGhost
import Derived.Test.YtjnfbinomljocaaDoorGaB
import Derived.Test.YtjnfbinomljocaaDoorShelf
import Derived.Test.YtjnfbinomljocaaDoorRows
import Derived.PinnedBridge
import Derived.MakeChecks
import Derived.OpenShut
import Derived.ProofKit
import Derived.WalkSmall
import Derived.Lib.LaidTab
import Derived.Lib.LaidPrint
import Derived.Lib.LaidU8
import Derived.Stop.LaidErr
import Derived.Below
import Derived.KernelRfl
import Derived.WalkKit
import Derived.Tactics2
import Derived.Deep.RegionWith
import Derived.Deep.RegionHeld3
/- Package cond's contracts: stands, Void, Holds, Implies, Right, Canon. (Written by gen_condw.py.) -/
namespace Go.Proofs.YtjnfbinomljocaaDoor
open Go.RowKit Go.Shelf
open Go.Proofs
set_option maxRecDepth 100000

/-- A condition as the program holds it. -/
abbrev cnds (nm : ByteArray) (op k n : Int) (x : Nat) (s : ByteArray) (y : Bool) : Array Value := #[.string nm, .int .i64 op, .int .i64 k, .int .i64 n, .float .f64 x, .string s, .bool y]
abbrev cnd (nm : ByteArray) (op k n : Int) (x : Nat) (s : ByteArray) (y : Bool) : Value := .agg (cnds nm op k n x s y)
/-- One block, two blocks laid behind all others: what they hold in every world in which only what is younger has turned. -/
theorem one_lay {w w' : World} {cs : Array Value} {t : TypeId} (hb : Below (w.heap.size + 1) (w.alloc (.cells cs t)) w') (i : Nat) (v : Value) (h : cs[i]? = some v) : w'.cell? ⟨w.heap.size, i, none⟩ = some v := by
  rw [hb.cell (p := ⟨w.heap.size, i, none⟩) (by simp), World.cell?_alloc_new]; exact h
theorem two_lay {w w' : World} {cs ds : Array Value} {t u : TypeId} (hb : Below (w.heap.size + 2) ((w.alloc (.cells cs t)).alloc (.cells ds u)) w') :
    (∀ i v, cs[i]? = some v → w'.cell? ⟨w.heap.size, i, none⟩ = some v) ∧ (∀ i v, ds[i]? = some v → w'.cell? ⟨w.heap.size + 1, i, none⟩ = some v) := by
  refine ⟨fun i v h => ?_, fun i v h => ?_⟩
  · rw [hb.cell (p := ⟨w.heap.size, i, none⟩) (by simp), World.cell?_alloc_lt _ _ _ (by simp), World.cell?_alloc_new]; exact h
  · rw [hb.cell (p := ⟨w.heap.size + 1, i, none⟩) (by simp)]
    have := World.cell?_alloc_new (w.alloc (.cells cs t)) ds u i
    rw [World.size_alloc] at this
    rw [this]; exact h

end Go.Proofs.YtjnfbinomljocaaDoor

/- cond.Match of any condition and any attributes. -/
namespace Go.Proofs.YtjnfbinomljocaaDoor
open Go.RowKit Go.Shelf
open Go.Proofs
set_option maxRecDepth 100000

/-- Has an event an attribute of that name whose value does? -/
def mat1 (c : Cn) (a : At) : Bool := a.nm.toList == c.a.nm.toList && holdsB c a
def matchB (c : Cn) (l : List At) : Bool := l.any (mat1 c)
end Go.Proofs.YtjnfbinomljocaaDoor

/- What is kept, kept once more; its bounds. -/
namespace Go.Proofs.YtjnfbinomljocaaDoor
open Go.RowKit Go.Shelf Go.Sort
open Go.Proofs
set_option maxRecDepth 100000

theorem fcanon_idem (x : Nat) : fcanon (fcanon x) = fcanon x := by
  cases h : fnan x
  · by_cases hz : frung x = 0
    · have : fcanon x = 0 := by unfold fcanon; rw [h, if_neg Bool.false_ne_true, if_pos hz]
      rw [this]; decide +kernel
    · have : fcanon x = x := by unfold fcanon; rw [h, if_neg Bool.false_ne_true, if_neg hz]
      rw [this, this]
  · rw [canon_nan h]; decide +kernel
theorem canonA_idem (a : At) : canonA (canonA a) = canonA a := by
  obtain ⟨nm, k, n, x, s, y⟩ := a
  unfold canonA
  simp only []
  by_cases h0 : (k == 0) = true
  · rw [if_pos h0]; rfl
  · rw [if_neg h0]
    by_cases h1 : (k == 1) = true
    · rw [if_pos h1]; simp [fcanon_idem]
    · rw [if_neg h1]
      by_cases h2 : (k == 2) = true
      · rw [if_pos h2]; rfl
      · rw [if_neg h2]
        by_cases h3 : (k == 3) = true
        · rw [if_pos h3]; rfl
        · rw [if_neg h3]; rfl
theorem canonA_bd (a : At) (hx : a.x < 18446744073709551616) (h0 : -9223372036854775808 ≤ a.n) (h1 : a.n ≤ 9223372036854775807) : (canonA a).x < 18446744073709551616 ∧ -9223372036854775808 ≤ (canonA a).n ∧ (canonA a).n ≤ 9223372036854775807 := by
  have hf := fcanon_lt a.x hx
  unfold canonA
  repeat' split
  all_goals simp only []
  all_goals omega
theorem canon_x (a : At) (h : AtOk a) : (canonA a).x < 18446744073709551616 := by
  unfold canonA
  repeat' split
  all_goals first | (show (0 : Nat) < _; decide) | skip
  show fcanon a.x < _
  unfold fcanon
  repeat' split
  · decide
  · decide
  · exact h
end Go.Proofs.YtjnfbinomljocaaDoor

/- Conditions as they are kept: they hold, and are void, as they were. -/
namespace Go.Proofs.YtjnfbinomljocaaDoor
open Go.RowKit Go.Shelf
open Go.Proofs

/-- A condition as it is kept. -/
def canonC (c : Cn) : Cn := if c.op == 7 then ⟨⟨c.a.nm, 0, 0, 0, ⟨#[]⟩, false⟩, c.op⟩ else ⟨canonA c.a, c.op⟩
theorem canonC_nm (c : Cn) : (canonC c).a.nm = c.a.nm := by
  unfold canonC; split
  · rfl
  · exact canonA_nm c.a
theorem canonC_op (c : Cn) : (canonC c).op = c.op := by unfold canonC; split <;> rfl
/-- A kind that is one. -/
def KindB (a : At) : Prop := 0 ≤ a.k ∧ a.k ≤ 3
theorem canonA_k {a : At} (h : KindB a) : (canonA a).k = a.k := by
  obtain ⟨nm, k, n, x, s, y⟩ := a
  have h0 := h.1; have h1 := h.2
  simp only [] at h0 h1
  rcases (show k = 0 ∨ k = 1 ∨ k = 2 ∨ k = 3 by omega) with rfl | rfl | rfl | rfl <;> rfl
theorem fnan_canon (x : Nat) : fnan (fcanon x) = fnan x := by
  cases h : fnan x
  · exact (canon_num h).1
  · rw [canon_nan h]; decide +kernel
theorem voidB_canon (a : At) (h : KindB a) : voidB (canonA a).k (canonA a).x = voidB a.k a.x := by
  obtain ⟨nm, k, n, x, s, y⟩ := a
  have h0 := h.1; have h1 := h.2
  simp only [] at h0 h1
  rcases (show k = 0 ∨ k = 1 ∨ k = 2 ∨ k = 3 by omega) with rfl | rfl | rfl | rfl
  · rfl
  · show ((1 : Int) == 1 && fnan (fcanon x)) = ((1 : Int) == 1 && fnan x)
    rw [fnan_canon]
  · rfl
  · rfl
theorem cmpA_canon (v a : At) (h : KindB a) (hk : v.k = a.k) : cmpA v (canonA a) = cmpA v a := by
  obtain ⟨nm, k, n, x, s, y⟩ := a
  obtain ⟨nm2, k2, n2, x2, s2, y2⟩ := v
  have h0 := h.1; have h1 := h.2
  simp only [] at h0 h1 hk
  subst hk
  rcases (show k2 = 0 ∨ k2 = 1 ∨ k2 = 2 ∨ k2 = 3 by omega) with rfl | rfl | rfl | rfl
  · rfl
  · show sgn (fkey x2) (fkey (fcanon x)) = sgn (fkey x2) (fkey x)
    rw [fkey_canon]
  · rfl
  · rfl
theorem holds_canon (c : Cn) (v : At) (h : KindB c.a) : holdsB (canonC c) v = holdsB c v := by
  unfold canonC
  by_cases h7 : (c.op == 7) = true
  · rw [if_pos h7]; unfold holdsB; rw [if_pos h7, if_pos h7]
  · rw [if_neg h7]
    unfold holdsB
    rw [if_neg h7, if_neg h7]
    simp only []
    rw [canonA_k h]
    by_cases h6 : (c.op == 6) = true
    · rw [if_pos h6, if_pos h6]
      by_cases hk : c.a.k = 2
      · have : (canonA c.a).s = c.a.s := by
          unfold canonA; rw [hk]; rfl
        rw [this]
      · have : (c.a.k == 2) = false := by simpa using hk
        rw [this]; rfl
    · rw [if_neg h6, if_neg h6]
      have hok : okA v (canonA c.a) = okA v c.a := by
        unfold okA cmpOk
        rw [canonA_k h]
        have := voidB_canon c.a h
        rw [canonA_k h] at this
        rw [this]
      rw [hok]
      cases ho : okA v c.a
      · rfl
      · rw [cmpA_canon v c.a h (okA_k ho).1]
theorem cvoid_canon (c : Cn) (h : KindB c.a) : cvoidB (canonC c) = cvoidB c := by
  unfold canonC
  by_cases h7 : (c.op == 7) = true
  · rw [if_pos h7]; unfold cvoidB; rw [if_pos h7, if_pos h7]
  · rw [if_neg h7]
    unfold cvoidB
    rw [if_neg h7, if_neg h7]
    simp only []
    have hv := voidB_canon c.a h
    rw [canonA_k h] at hv ⊢
    rw [hv]
end Go.Proofs.YtjnfbinomljocaaDoor

/- What the listed package-level variables hold, cell by cell, in every world in which nothing that stood when the call began has turned. -/
namespace Go.Proofs.YtjnfbinomljocaaDoor
open Go.RowKit Go.Lib

section
variable {H : Type} {enc : TypeId × Value → H} {P : Program} {w : World} {base : Nat} {spare : Nat → Bool} {held : Bool} {fuel : Nat} {t : TypeId} {cs : List Value} {x : DataW H × List MemPlace}
theorem trod_float {k : FloatKind} (ht : P.underlying t = some (.float k)) (h : DataW.trod enc P w base spare held fuel t cs = some x) : ∃ n, cs = [.float k n] ∧ x = (.lit (.float k n), []) := by
  cases fuel with
  | zero => simp [DataW.trod] at h
  | succ n =>
    unfold DataW.trod at h
    rw [ht] at h
    split at h <;> simp_all
end

def fpow10 : List Nat := [4607182418800017408, 4621819117588971520, 4636737291354636288, 4652007308841189376, 4666723172467343360, 4681608360884174848, 4696837146684686336, 4711630319722168320, 4726483295884279808, 4741671816366391296, 4756540486875873280, 4771362005757984768, 4786511204640096256, 4801453603149578240, 4816244402031689728, 4831355200913801216, 4846369599423283200, 4861130398305394688, 4876203697187506176, 4891288408196988160, 4906019910204099648, 4921056587992461136, 4936209963552724370]
def powHi (i : Nat) : Nat := (Go.Pinned.pow10Rows.getD i (0, 0)).1
def powLo (i : Nat) : Nat := (Go.Pinned.pow10Rows.getD i (0, 0)).2

/-- What stood still stands. -/
theorem cell_on {w w' : World} (hb : Below w.heap.size w w') {p : Addr} {v : Value} (h : w.cell? p = some v) : w'.cell? p = some v := by
  rw [hb.cell (World.block_lt_of_cell? w _ h)]; exact h
theorem slice_on {w w' : World} (hb : Below w.heap.size w w') {g : Nat} {k : IntKind} {t : List Nat} (h : TabSlice g k t w) : TabSlice g k t w' := by
  obtain ⟨R, o, c, h1, h2⟩ := h
  exact ⟨R, o, c, cell_on hb h1, fun j hj => cell_on hb (h2 j hj)⟩
end Go.Proofs.YtjnfbinomljocaaDoor

/- (For the seat of package cond.) From a row's list of package-level variables to what the walks ask of them. -/
namespace Go.Proofs.YtjnfbinomljocaaDoor
open Go.RowKit Go.Lib
set_option maxRecDepth 100000

section
variable {H : Type} {enc : TypeId × Value → H} {P : Program} {w : World} {base : Nat} {spare : Nat → Bool} {held : Bool} {fuel : Nat} {t : TypeId} {cs : List Value}
/-- A struct's field that is an integer. -/
theorem field_int {fs : Array Field} {ds : List (DataW H)} {p : List MemPlace} (ht : P.underlying t = some (.struct fs)) (h : DataW.trod enc P w base spare held fuel t cs = some (.agg ds, p)) (i : Nat) (f : Field) (k : IntKind) (z : Int)
    (hf : fs[i]? = some f) (hu : P.underlying f.type = some (.int k)) (hc : P.cellsOf f.type = 1) (hd : ds[i]? = some (.lit (.int k z))) : cs[f.offset]? = some (.int k z) := by
  obtain ⟨xs, n, rfl, hx, hl, hxl, hall⟩ := DataW.trod_struct ht h
  have hxs : xs.map (·.1) = ds := by
    have := congrArg Prod.fst hx
    simpa using this.symm
  have h1 := hall i f hf
  rw [← hxs, List.getElem?_map] at hd
  obtain ⟨b, hb, hb1⟩ := Option.map_eq_some_iff.1 hd
  rw [hb, hc] at h1
  obtain ⟨z', hcz, rfl, _⟩ := DataW.trod_int hu h1
  simp only [DataW.lit.injEq, Lit.int.injEq, true_and] at hb1
  subst hb1
  have := congrArg (·[0]?) hcz
  simpa [List.getElem?_take, List.getElem?_drop] using this

/-- A slice of floats. -/
theorem floats_at {e : TypeId} {k : FloatKind} {l : List Nat} {p : List MemPlace} (ht : P.underlying t = some (.slice e)) (he : P.underlying e = some (.float k)) (hc : P.cellsOf e = 1) (hl : 0 < l.length)
    (h : DataW.trod enc P w base spare held fuel t cs = some (.slice (l.map fun x => .lit (.float k x)) [], p)) :
    ∃ R o c, cs = [.slice (some ⟨R, o, none⟩) l.length c] ∧ ∀ j, j < l.length → w.cell? ⟨R, o + j, none⟩ = some (.float k (l.getD j 0)) := by
  rcases DataW.trod_slice ht h with ⟨_, hx⟩ | ⟨a, len, cap, el, rs, m, rfl, hcs, hx, _, hlc, _, hel, helem, hsp, _⟩
  · cases hx
  have e0 := congrArg Prod.fst hx
  simp only [DataW.slice.injEq] at e0
  obtain ⟨eE, eR⟩ := e0
  have hlen : len = l.length := by
    have := congrArg List.length eE
    simp at this
    omega
  have hcell : ∀ i, i < l.length → w.cell? (a.add i) = some (.float k (l.getD i 0)) := by
    intro i hi
    have h1 := helem i (by omega)
    rw [hc] at h1
    obtain ⟨b, hb⟩ : ∃ b, el[i]? = some b := ⟨el[i]'(by omega), List.getElem?_eq_getElem (by omega)⟩
    rw [hb] at h1
    obtain ⟨ce, hce, hte⟩ := Option.bind_eq_some_iff.1 h1
    obtain ⟨z, hz, hbz⟩ := trod_float he hte
    have hb1 : b.1 = .lit (.float k (l.getD i 0)) := by
      have := congrArg (·[i]?) eE
      simp [hb, hi] at this
      have e2 : l.getD i 0 = l[i] := by simp [List.getD, List.getElem?_eq_getElem hi]
      rw [e2]
      exact this.symm
    rw [hbz] at hb1
    simp only [DataW.lit.injEq, Lit.float.injEq, true_and] at hb1
    obtain ⟨_, _, hcc⟩ := World.cells?_some hce
    have := hcc 0 (by omega)
    rw [hz] at this
    simp only [Nat.mul_one] at this
    have e1 : (a.add i).add 0 = a.add i := by simp [Addr.add]
    rw [e1] at this
    rw [this, ← hb1]
    rfl
  obtain ⟨R, o, sR⟩ := a
  obtain rfl : sR = none := by
    have h00 := hcell 0 hl
    have : (Addr.add ⟨R, o, sR⟩ 0) = ⟨R, o, sR⟩ := by simp [Addr.add]
    rw [this] at h00
    exact Go.Proofs.cell_spot h00
  refine ⟨R, o, cap, by rw [hcs, hlen], fun j hj => ?_⟩
  have := hcell j hj
  rwa [Addr.add_lit] at this
end

theorem reads_of (n : String) (g t : Nat) (h : Tryd.prog.globalNamed n = some g) (k : (Tryd.prog.globals[g]?).map (·.type) = some t) {w : World} {d : DataW Unit} (hr : VarReads Tryd.prog w n d) :
    ∃ cs fuel p, w.var? Tryd.prog n = some cs ∧ DataW.trod (fun _ => ()) Tryd.prog w 0 (fun _ => true) false fuel t cs.toList = some (d, p) ∧ ∀ i, w.cell? ⟨g, i, none⟩ = cs.toList[i]? := by
  obtain ⟨g', t', cs, fuel, p, hg, hty, hvar, hd⟩ := hr
  obtain rfl := Option.some.inj (h.symm.trans hg)
  obtain rfl := Option.some.inj (k.symm.trans hty)
  exact ⟨cs, fuel, p, hvar, hd, fun i => by rw [World.var?_cell hg hvar i, ← Array.getElem?_toList]⟩

theorem ld_drop {P : Program} {W : World} : ∀ (n : Nat) {l : List (String × DataW Unit)}, laidMet P l W → laidMet P (l.drop n) W
  | 0, _, h => h
  | _ + 1, [], h => h
  | n + 1, _ :: r, h => ld_drop n (l := r) h.tail

/-- The ops' words, as package cond's own variable holds them. -/
def wordS (i : Nat) : ByteArray := ⟨(([[61], [33, 61], [60], [60, 61], [62], [62, 61], [94], [104, 97, 115]] : List (List UInt8)).getD i []).toArray⟩
end Go.Proofs.YtjnfbinomljocaaDoor

/- A call that touches no memory, on arguments that are written out, by the kernel's own run of the model, in whatever world it is made. -/
namespace Go.Proofs.YtjnfbinomljocaaDoor
open Go.RowKit
set_option maxRecDepth 100000

/-- The frame in which a lone machine stands. -/
def frameOf (m : Stepped) : Frame := match m with
  | .next m => match m.gs[0]? with | some g => g.frame | none => default
  | _ => default
/-- How many steps till the first frame is about to leave, none above it. -/
def goTo (P : Program) : Nat → Machine → Nat
  | 0, _ => 0
  | n + 1, m => match m.gs[0]? with
    | some g => match g.frame.mode, g.callers with
      | .returning, [] => 0
      | _, _ => match step P m with
        | .next m' => goTo P n m' + 1
        | _ => 0
    | none => 0
theorem calls_run {P : Program} {f : FuncId} {args : Array Value} {v : Value} {w : World} (fn : Func) (N : Nat) (fr : Frame)
    (h : ∀ cs, runN P N (lone (Frame.enter P f args .normal) cs w) = .next (lone fr cs w))
    (hm : fr.mode = .returning) (hd : fr.defers = []) (hk : fr.kind = .normal) (hf : fr.fn = f) (hfn : P.funcs[f]? = some fn) (hr : (results fn fr.tmps).run P w = .ok v w) :
    Calls P f args w fun e w' => e = .returned v ∧ w = w' := by
  intro cs
  refine ⟨.returned v, w, fr, ⟨rfl, rfl⟩, ⟨N, h cs⟩, hf, hm, hd, hk, fn, ?_, hr⟩
  rw [hf]; exact hfn
noncomputable def stepsOf (f : FuncId) (args : Array Value) (w : World) : Nat := goTo Tryd.prog 20000 (lone (Frame.enter Tryd.prog f args .normal) [] w)
noncomputable def endOf (f : FuncId) (args : Array Value) (w : World) : Frame := frameOf (runN Tryd.prog (stepsOf f args w) (lone (Frame.enter Tryd.prog f args .normal) [] w))
end Go.Proofs.YtjnfbinomljocaaDoor

/- cond.known, Word, Right, Print of any condition; what each law of layer 6 begins with. -/
namespace Go.Proofs.YtjnfbinomljocaaDoor
open Go.RowKit Go.Shelf
open Go.Proofs
set_option maxRecDepth 100000

set_option maxHeartbeats 1000000 in
theorem known_c (op : Int) (w : World) : Calls Tryd.prog 81 #[.int .i64 op] w fun e w' => e = .returned (.bool (decide (0 ≤ op) && decide (op < 8))) ∧ w = w' := by
  cases h1 : decide (0 ≤ op)
  · go_enter Tryd.func81, Tryd.ntmps81
    go_wp2
    go_ret
    exact ⟨rfl, rfl⟩
  · go_enter Tryd.func81, Tryd.ntmps81
    go_wp2
    go_ret
    exact ⟨rfl, rfl⟩
/-- May a condition be? -/
def crightB (c : Cn) : Bool := nameOk c.a.nm && ((decide (0 ≤ c.op) && decide (c.op < 8)) && vrightB c.a.k c.a.s)
set_option maxHeartbeats 1000000 in
theorem cright_c (nm : ByteArray) (op k n : Int) (x : Nat) (s : ByteArray) (y : Bool) (w : World) :
    Calls Tryd.prog 57 #[cnd nm op k n x s y] w fun e w' => e = .returned (.bool (crightB ⟨⟨nm, k, n, x, s, y⟩, op⟩)) ∧ Below w.heap.size w w' := by
  have hn := fun W => name_c nm W
  have hk := fun W => known_c op W
  have hv := fun W => vright_c k n x s y W
  unfold crightB
  simp only []
  generalize vrightB k s = v at *
  generalize (decide (0 ≤ op) && decide (op < 8)) = q at *
  generalize nameOk nm = p at *
  have HN := Lib.hid hn; have HK := Lib.hid hk; have HV := Lib.hid hv
  clear hn hk hv
  cases p
  · go_enter Tryd.func57, Tryd.ntmps57
    go_wp2_with fail
    refine (HN.out _).mono ?_
    rintro e w1 ⟨rfl, rfl⟩
    go_wp2_with fail
    go_ret
    exact ⟨rfl, (Below.refl _ _).alloc (Nat.le_refl _) _⟩
  · cases q
    · go_enter Tryd.func57, Tryd.ntmps57
      go_wp2_with fail
      refine (HN.out _).mono ?_
      rintro e w1 ⟨rfl, rfl⟩
      go_wp2_with fail
      refine (HK.out _).mono ?_
      rintro e w1 ⟨rfl, rfl⟩
      go_wp2_with fail
      go_ret
      exact ⟨rfl, (Below.refl _ _).alloc (Nat.le_refl _) _⟩
    · go_enter Tryd.func57, Tryd.ntmps57
      go_wp2_with fail
      refine (HN.out _).mono ?_
      rintro e w1 ⟨rfl, rfl⟩
      go_wp2_with fail
      refine (HK.out _).mono ?_
      rintro e w1 ⟨rfl, rfl⟩
      go_wp2_with fail
      refine (HV.out _).mono ?_
      rintro e w1 ⟨rfl, hb⟩
      have HB := Lib.hid hb; clear hb
      go_wp2_with fail
      go_ret
      exact ⟨rfl, ((Below.refl _ _).alloc (Nat.le_refl _) _).trans (HB.out.mono (by simp))⟩


/-- A condition's text. -/
def cprintS (nm : ByteArray) (i : Nat) (T : ByteArray) : ByteArray := if i = 7 then wordS 7 ++ ⟨#[32]⟩ ++ nm else nm ++ ⟨#[32]⟩ ++ wordS i ++ ⟨#[32]⟩ ++ T
theorem wordS_size (i : Nat) (h : i < 8) : (wordS i).size ≤ 3 := by
  match i, h with
  | 0, _ => decide
  | 1, _ => decide
  | 2, _ => decide
  | 3, _ => decide
  | 4, _ => decide
  | 5, _ => decide
  | 6, _ => decide
  | 7, _ => decide
def clightB (nm s : ByteArray) : Bool := decide (wrap64 ((nm.size : Int) + (s.size : Int)) ≤ 300)
/-- What Go's memory allows, and the law's own bound. -/
theorem clight_size {nm s : ByteArray} (h : clightB nm s = true) (hn : nm.size ≤ 140737488355328) (hs : s.size ≤ 140737488355328) : nm.size ≤ 300 ∧ s.size ≤ 300 := by
  unfold clightB at h
  have := of_decide_eq_true h
  unfold wrap64 at this
  omega
end Go.Proofs.YtjnfbinomljocaaDoor
