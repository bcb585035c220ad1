/- CondW, CondM, CanP, CondC, Tabs, TabsC, RunP, CondT: merged by merge.py. -/
import Derived.Test.YtfffmndjgjfflaaGreatDoorGaB
import Derived.Test.YtfffmndjgjfflaaGreatDoorShelf
import Derived.Test.YtfffmndjgjfflaaGreatDoorRows
import Derived.PinnedBridge
import Derived.MakeChecks
import Derived.OpenShut
import Derived.ProofKit
import Derived.WalkSmall
import Derived.Lib.LaidTab
import Derived.Lib.LaidPrint
import Derived.Lib.LaidU8
import Derived.Stop.LaidErr
import Derived.Below
import Derived.KernelRfl
import Derived.WalkKit
import Derived.Tactics2
import Derived.Deep.RegionWith
import Derived.Deep.RegionHeld3
/- Package cond's contracts: stands, Void, Holds, Implies, Right, Canon. (Written by gen_condw.py.) -/
namespace Go.Proofs.YtfffmndjgjfflaaGreatDoor
open Go.RowKit Go.Shelf
open Go.Proofs
set_option maxRecDepth 100000

/-- A condition as the program holds it. -/
abbrev cnds (nm : ByteArray) (op k n : Int) (x : Nat) (s : ByteArray) (y : Bool) : Array Value := #[.string nm, .int .i64 op, .int .i64 k, .int .i64 n, .float .f64 x, .string s, .bool y]
abbrev cnd (nm : ByteArray) (op k n : Int) (x : Nat) (s : ByteArray) (y : Bool) : Value := .agg (cnds nm op k n x s y)
/-- One block, two blocks laid behind all others: what they hold in every world in which only what is younger has turned. -/
theorem one_lay {w w' : World} {cs : Array Value} {t : TypeId} (hb : Below (w.heap.size + 1) (w.alloc (.cells cs t)) w') (i : Nat) (v : Value) (h : cs[i]? = some v) : w'.cell? ⟨w.heap.size, i, none⟩ = some v := by
  rw [hb.cell (p := ⟨w.heap.size, i, none⟩) (by simp), World.cell?_alloc_new]; exact h
theorem two_lay {w w' : World} {cs ds : Array Value} {t u : TypeId} (hb : Below (w.heap.size + 2) ((w.alloc (.cells cs t)).alloc (.cells ds u)) w') :
    (∀ i v, cs[i]? = some v → w'.cell? ⟨w.heap.size, i, none⟩ = some v) ∧ (∀ i v, ds[i]? = some v → w'.cell? ⟨w.heap.size + 1, i, none⟩ = some v) := by
  refine ⟨fun i v h => ?_, fun i v h => ?_⟩
  · rw [hb.cell (p := ⟨w.heap.size, i, none⟩) (by simp), World.cell?_alloc_lt _ _ _ (by simp), World.cell?_alloc_new]; exact h
  · rw [hb.cell (p := ⟨w.heap.size + 1, i, none⟩) (by simp)]
    have := World.cell?_alloc_new (w.alloc (.cells cs t)) ds u i
    rw [World.size_alloc] at this
    rw [this]; exact h

set_option maxHeartbeats 1000000 in
theorem stands_c (op r : Int) (w : World) : Calls Tryz.prog 60 #[.int .i64 op, .int .i64 r] w fun e w' => e = .returned (.bool (standsB op r)) ∧ w = w' := by
  unfold standsB
  cases h0 : (op == 0)
  · skip
    cases h1 : (op == 1)
    · skip
      cases h2 : (op == 2)
      · skip
        cases h3 : (op == 3)
        · skip
          cases h4 : (op == 4)
          · skip
            cases h5 : (op == 5)
            · skip
              go_enter Tryz.func60, Tryz.ntmps60
              go_wp2
              go_ret
              exact ⟨rfl, rfl⟩
            · skip
              go_enter Tryz.func60, Tryz.ntmps60
              go_wp2
              go_ret
              exact ⟨rfl, rfl⟩
          · skip
            go_enter Tryz.func60, Tryz.ntmps60
            go_wp2
            go_ret
            exact ⟨rfl, rfl⟩
        · skip
          go_enter Tryz.func60, Tryz.ntmps60
          go_wp2
          go_ret
          exact ⟨rfl, rfl⟩
      · skip
        go_enter Tryz.func60, Tryz.ntmps60
        go_wp2
        go_ret
        exact ⟨rfl, rfl⟩
    · skip
      go_enter Tryz.func60, Tryz.ntmps60
      go_wp2
      go_ret
      exact ⟨rfl, rfl⟩
  · skip
    go_enter Tryz.func60, Tryz.ntmps60
    go_wp2
    go_ret
    exact ⟨rfl, rfl⟩

set_option maxHeartbeats 1000000 in
theorem cvoid_c (nm : ByteArray) (op k n : Int) (x : Nat) (s : ByteArray) (y : Bool) (w : World) :
    Calls Tryz.prog 28 #[cnd nm op k n x s y] w fun e w' => e = .returned (.bool (cvoidB ⟨⟨nm, k, n, x, s, y⟩, op⟩)) ∧ Below w.heap.size w w' := by
  have hv := fun W => void_c k n x s y W
  unfold cvoidB
  simp only []
  generalize voidB k x = b at *
  have HV := Lib.hid hv; clear hv
  cases h7 : (op == 7)
  · cases h6 : (op == 6)
    · go_enter Tryz.func28, Tryz.ntmps28
      go_wp2_with fail
      refine (HV.out _).mono ?_
      rintro e w1 ⟨rfl, hb⟩
      have HB := Lib.hid hb; clear hb
      go_wp2
      go_ret
      exact ⟨rfl, ((Below.refl _ _).alloc (Nat.le_refl _) _).trans (HB.out.mono (by simp))⟩
    · go_enter Tryz.func28, Tryz.ntmps28
      go_wp2
      go_ret
      exact ⟨rfl, (Below.refl _ _).alloc (Nat.le_refl _) _⟩
  · go_enter Tryz.func28, Tryz.ntmps28
    go_wp2
    go_ret
    exact ⟨rfl, (Below.refl _ _).alloc (Nat.le_refl _) _⟩

set_option maxHeartbeats 2000000 in
theorem holds_c (nm : ByteArray) (op k n : Int) (x : Nat) (s : ByteArray) (y : Bool) (nm2 : ByteArray) (k2 n2 : Int) (x2 : Nat) (s2 : ByteArray) (y2 : Bool) (hx : x < 18446744073709551616) (hx2 : x2 < 18446744073709551616) (w : World) :
    Calls Tryz.prog 44 #[cnd nm op k n x s y, val k2 n2 x2 s2 y2] w fun e w' => e = .returned (.bool (holdsB ⟨⟨nm, k, n, x, s, y⟩, op⟩ ⟨nm2, k2, n2, x2, s2, y2⟩)) ∧ Below w.heap.size w w' := by
  have B0 : Below w.heap.size w ((w.alloc (.cells (cnds nm op k n x s y) 31)).alloc (.cells (vals k2 n2 x2 s2 y2) 29)) := ((Below.refl _ _).alloc (Nat.le_refl _) _).alloc (by simp) _
  have HB0 := Lib.hid B0; clear B0
  have hc := fun W => compare_any k2 n2 k n x2 x s2 s y2 y W hx2 hx
  have hp := fun W => Tryz.strings_HasPrefix s2 s W
  have hst := fun r W => stands_c op r W
  unfold holdsB okA cmpA preB
  simp only []
  have hcv : cmpOk k2 x2 k x = true → cmpR k2 n2 x2 s2 y2 k n x s y = cmpV k2 n2 n x2 x s2 s y2 y := fun h => by unfold cmpR; rw [h]; rfl
  generalize cmpR k2 n2 x2 s2 y2 k n x s y = r at *
  generalize cmpV k2 n2 n x2 x s2 s y2 y = r2 at *
  generalize cmpOk k2 x2 k x = b at *
  generalize Lib.hasPrefix s2.data.toList s.data.toList = p at *
  have HC := Lib.hid hc; have HP := Lib.hid hp; have HST := Lib.hid hst; have HCV := Lib.hid hcv
  clear hc hp hst hcv hx hx2
  cases h7 : (op == 7)
  · cases h6 : (op == 6)
    · cases b
      · go_enter Tryz.func44, Tryz.ntmps44
        go_wp2_with fail
        refine (HC.out _).mono ?_
        rintro e w1 ⟨rfl, hb⟩
        have hA1 : Below (w.heap.size + 2) ((w.alloc (.cells (cnds nm op k n x s y) 31)).alloc (.cells (vals k2 n2 x2 s2 y2) 29)) w1 := by simpa using hb
        have HA1 := Lib.hid hA1; clear hb hA1
        go_wp2_with fail
        go_ret
        exact ⟨rfl, HB0.out.trans (HA1.out.mono (by omega))⟩
      · have e2 := HCV.out rfl
        subst e2
        generalize hS : standsB op r = q at *
        go_enter Tryz.func44, Tryz.ntmps44
        go_wp2_with fail
        refine (HC.out _).mono ?_
        rintro e w1 ⟨rfl, hb⟩
        have hA1 : Below (w.heap.size + 2) ((w.alloc (.cells (cnds nm op k n x s y) 31)).alloc (.cells (vals k2 n2 x2 s2 y2) 29)) w1 := by simpa using hb
        have c1 := (two_lay hA1).1 1 _ rfl
        have HA1 := Lib.hid hA1; clear hb hA1
        go_wp2_with fail
        refine (HST.out _ _).mono ?_
        rintro e w2 ⟨rfl, rfl⟩
        go_wp2_with fail
        go_ret
        exact ⟨by first | rfl | rw [hS] | (rw [hS]; rfl), HB0.out.trans (HA1.out.mono (by omega))⟩
    · cases hk : (k == 2)
      · go_enter Tryz.func44, Tryz.ntmps44
        go_wp2
        go_ret
        exact ⟨rfl, HB0.out⟩
      · cases hk2 : (k2 == 2)
        · go_enter Tryz.func44, Tryz.ntmps44
          go_wp2
          go_ret
          exact ⟨rfl, HB0.out⟩
        · go_enter Tryz.func44, Tryz.ntmps44
          go_wp2_with fail
          refine (HP.out _).mono ?_
          rintro e w1 ⟨rfl, rfl⟩
          go_wp2_with fail
          go_ret
          exact ⟨rfl, HB0.out⟩
  · go_enter Tryz.func44, Tryz.ntmps44
    go_wp2
    go_ret
    exact ⟨rfl, HB0.out⟩

end Go.Proofs.YtfffmndjgjfflaaGreatDoor

/- cond.Match of any condition and any attributes. -/
namespace Go.Proofs.YtfffmndjgjfflaaGreatDoor
open Go.RowKit Go.Shelf
open Go.Proofs
set_option maxRecDepth 100000

/-- Has an event an attribute of that name whose value does? -/
def mat1 (c : Cn) (a : At) : Bool := a.nm.toList == c.a.nm.toList && holdsB c a
def matchB (c : Cn) (l : List At) : Bool := l.any (mat1 c)
end Go.Proofs.YtfffmndjgjfflaaGreatDoor

/- What is kept, kept once more; its bounds. -/
namespace Go.Proofs.YtfffmndjgjfflaaGreatDoor
open Go.RowKit Go.Shelf Go.Sort
open Go.Proofs
set_option maxRecDepth 100000

theorem fcanon_idem (x : Nat) : fcanon (fcanon x) = fcanon x := by
  cases h : fnan x
  · by_cases hz : frung x = 0
    · have : fcanon x = 0 := by unfold fcanon; rw [h, if_neg Bool.false_ne_true, if_pos hz]
      rw [this]; decide +kernel
    · have : fcanon x = x := by unfold fcanon; rw [h, if_neg Bool.false_ne_true, if_neg hz]
      rw [this, this]
  · rw [canon_nan h]; decide +kernel
theorem canonA_idem (a : At) : canonA (canonA a) = canonA a := by
  obtain ⟨nm, k, n, x, s, y⟩ := a
  unfold canonA
  simp only []
  by_cases h0 : (k == 0) = true
  · rw [if_pos h0]; rfl
  · rw [if_neg h0]
    by_cases h1 : (k == 1) = true
    · rw [if_pos h1]; simp [fcanon_idem]
    · rw [if_neg h1]
      by_cases h2 : (k == 2) = true
      · rw [if_pos h2]; rfl
      · rw [if_neg h2]
        by_cases h3 : (k == 3) = true
        · rw [if_pos h3]; rfl
        · rw [if_neg h3]; rfl
theorem canonA_bd (a : At) (hx : a.x < 18446744073709551616) (h0 : -9223372036854775808 ≤ a.n) (h1 : a.n ≤ 9223372036854775807) : (canonA a).x < 18446744073709551616 ∧ -9223372036854775808 ≤ (canonA a).n ∧ (canonA a).n ≤ 9223372036854775807 := by
  have hf := fcanon_lt a.x hx
  unfold canonA
  repeat' split
  all_goals simp only []
  all_goals omega
theorem canon_x (a : At) (h : AtOk a) : (canonA a).x < 18446744073709551616 := by
  unfold canonA
  repeat' split
  all_goals first | (show (0 : Nat) < _; decide) | skip
  show fcanon a.x < _
  unfold fcanon
  repeat' split
  · decide
  · decide
  · exact h
end Go.Proofs.YtfffmndjgjfflaaGreatDoor

/- Conditions as they are kept: they hold, and are void, as they were. -/
namespace Go.Proofs.YtfffmndjgjfflaaGreatDoor
open Go.RowKit Go.Shelf
open Go.Proofs

/-- A condition as it is kept. -/
def canonC (c : Cn) : Cn := if c.op == 7 then ⟨⟨c.a.nm, 0, 0, 0, ⟨#[]⟩, false⟩, c.op⟩ else ⟨canonA c.a, c.op⟩
theorem canonC_nm (c : Cn) : (canonC c).a.nm = c.a.nm := by
  unfold canonC; split
  · rfl
  · exact canonA_nm c.a
theorem canonC_op (c : Cn) : (canonC c).op = c.op := by unfold canonC; split <;> rfl
/-- A kind that is one. -/
def KindB (a : At) : Prop := 0 ≤ a.k ∧ a.k ≤ 3
theorem canonA_k {a : At} (h : KindB a) : (canonA a).k = a.k := by
  obtain ⟨nm, k, n, x, s, y⟩ := a
  have h0 := h.1; have h1 := h.2
  simp only [] at h0 h1
  rcases (show k = 0 ∨ k = 1 ∨ k = 2 ∨ k = 3 by omega) with rfl | rfl | rfl | rfl <;> rfl
theorem fnan_canon (x : Nat) : fnan (fcanon x) = fnan x := by
  cases h : fnan x
  · exact (canon_num h).1
  · rw [canon_nan h]; decide +kernel
theorem voidB_canon (a : At) (h : KindB a) : voidB (canonA a).k (canonA a).x = voidB a.k a.x := by
  obtain ⟨nm, k, n, x, s, y⟩ := a
  have h0 := h.1; have h1 := h.2
  simp only [] at h0 h1
  rcases (show k = 0 ∨ k = 1 ∨ k = 2 ∨ k = 3 by omega) with rfl | rfl | rfl | rfl
  · rfl
  · show ((1 : Int) == 1 && fnan (fcanon x)) = ((1 : Int) == 1 && fnan x)
    rw [fnan_canon]
  · rfl
  · rfl
theorem cmpA_canon (v a : At) (h : KindB a) (hk : v.k = a.k) : cmpA v (canonA a) = cmpA v a := by
  obtain ⟨nm, k, n, x, s, y⟩ := a
  obtain ⟨nm2, k2, n2, x2, s2, y2⟩ := v
  have h0 := h.1; have h1 := h.2
  simp only [] at h0 h1 hk
  subst hk
  rcases (show k2 = 0 ∨ k2 = 1 ∨ k2 = 2 ∨ k2 = 3 by omega) with rfl | rfl | rfl | rfl
  · rfl
  · show sgn (fkey x2) (fkey (fcanon x)) = sgn (fkey x2) (fkey x)
    rw [fkey_canon]
  · rfl
  · rfl
theorem holds_canon (c : Cn) (v : At) (h : KindB c.a) : holdsB (canonC c) v = holdsB c v := by
  unfold canonC
  by_cases h7 : (c.op == 7) = true
  · rw [if_pos h7]; unfold holdsB; rw [if_pos h7, if_pos h7]
  · rw [if_neg h7]
    unfold holdsB
    rw [if_neg h7, if_neg h7]
    simp only []
    rw [canonA_k h]
    by_cases h6 : (c.op == 6) = true
    · rw [if_pos h6, if_pos h6]
      by_cases hk : c.a.k = 2
      · have : (canonA c.a).s = c.a.s := by
          unfold canonA; rw [hk]; rfl
        rw [this]
      · have : (c.a.k == 2) = false := by simpa using hk
        rw [this]; rfl
    · rw [if_neg h6, if_neg h6]
      have hok : okA v (canonA c.a) = okA v c.a := by
        unfold okA cmpOk
        rw [canonA_k h]
        have := voidB_canon c.a h
        rw [canonA_k h] at this
        rw [this]
      rw [hok]
      cases ho : okA v c.a
      · rfl
      · rw [cmpA_canon v c.a h (okA_k ho).1]
theorem cvoid_canon (c : Cn) (h : KindB c.a) : cvoidB (canonC c) = cvoidB c := by
  unfold canonC
  by_cases h7 : (c.op == 7) = true
  · rw [if_pos h7]; unfold cvoidB; rw [if_pos h7, if_pos h7]
  · rw [if_neg h7]
    unfold cvoidB
    rw [if_neg h7, if_neg h7]
    simp only []
    have hv := voidB_canon c.a h
    rw [canonA_k h] at hv ⊢
    rw [hv]
end Go.Proofs.YtfffmndjgjfflaaGreatDoor

/- What the listed package-level variables hold, cell by cell, in every world in which nothing that stood when the call began has turned. -/
namespace Go.Proofs.YtfffmndjgjfflaaGreatDoor
open Go.RowKit Go.Lib

section
variable {H : Type} {enc : TypeId × Value → H} {P : Program} {w : World} {base : Nat} {spare : Nat → Bool} {held : Bool} {fuel : Nat} {t : TypeId} {cs : List Value} {x : DataW H × List MemPlace}
theorem trod_float {k : FloatKind} (ht : P.underlying t = some (.float k)) (h : DataW.trod enc P w base spare held fuel t cs = some x) : ∃ n, cs = [.float k n] ∧ x = (.lit (.float k n), []) := by
  cases fuel with
  | zero => simp [DataW.trod] at h
  | succ n =>
    unfold DataW.trod at h
    rw [ht] at h
    split at h <;> simp_all
end

def fpow10 : List Nat := [4607182418800017408, 4621819117588971520, 4636737291354636288, 4652007308841189376, 4666723172467343360, 4681608360884174848, 4696837146684686336, 4711630319722168320, 4726483295884279808, 4741671816366391296, 4756540486875873280, 4771362005757984768, 4786511204640096256, 4801453603149578240, 4816244402031689728, 4831355200913801216, 4846369599423283200, 4861130398305394688, 4876203697187506176, 4891288408196988160, 4906019910204099648, 4921056587992461136, 4936209963552724370]
def powHi (i : Nat) : Nat := (Go.Pinned.pow10Rows.getD i (0, 0)).1
def powLo (i : Nat) : Nat := (Go.Pinned.pow10Rows.getD i (0, 0)).2

structure Tabs (w : World) : Prop where
  opt : w.cell? ⟨6, 0, none⟩ = some (.bool true)
  p10 : TabIs Tryz.prog w "internal/strconv.uint64pow10" .u64 pow10Tab
  pow : ∀ i, i < 696 → w.cell? ⟨14, 2 * i, none⟩ = some (.int .u64 (powHi i : Nat)) ∧ w.cell? ⟨14, 2 * i + 1, none⟩ = some (.int .u64 (powLo i : Nat))
  pr : PrintTabsAt 9 10 11 12 goPrintTabs w
  u8 : Utf8Tabs 4 5 w

/-- What stood still stands. -/
theorem cell_on {w w' : World} (hb : Below w.heap.size w w') {p : Addr} {v : Value} (h : w.cell? p = some v) : w'.cell? p = some v := by
  rw [hb.cell (World.block_lt_of_cell? w _ h)]; exact h
theorem slice_on {w w' : World} (hb : Below w.heap.size w w') {g : Nat} {k : IntKind} {t : List Nat} (h : TabSlice g k t w) : TabSlice g k t w' := by
  obtain ⟨R, o, c, h1, h2⟩ := h
  exact ⟨R, o, c, cell_on hb h1, fun j hj => cell_on hb (h2 j hj)⟩
theorem Tabs.on {w w' : World} (h : Tabs w) (hb : Below w.heap.size w w') : Tabs w' := by
  have hg : ∀ {n : String} {g : Nat} {cs : Array Value}, Tryz.prog.globalNamed n = some g → 0 < cs.size → w.var? Tryz.prog n = some cs → w'.var? Tryz.prog n = some cs := by
    intro n g cs hn h0 hv
    have h1 := World.var?_cell hn hv 0
    rw [Array.getElem?_eq_getElem h0] at h1
    exact var?_below hb hn (World.block_lt_of_cell? w _ h1) hv
  exact {
    opt := cell_on hb h.opt
    p10 := hg (g := 3) (by kernel_rfl) (by decide +kernel) h.p10
    pow := fun i hi => ⟨cell_on hb (h.pow i hi).1, cell_on hb (h.pow i hi).2⟩
    pr := let ⟨a, b, c, d, e⟩ := h.pr; ⟨slice_on hb a, slice_on hb b, slice_on hb c, slice_on hb d, e⟩
    u8 := let ⟨a, b⟩ := h.u8; ⟨fun c hc => cell_on hb (a c hc), fun i hi => ⟨cell_on hb (b i hi).1, cell_on hb (b i hi).2⟩⟩ }
theorem Tabs.drew {w : World} (h : Tabs w) (n : Nat) : Tabs (w.drewN n) := h.on ⟨rfl, rfl, rfl, Nat.le_refl _, fun _ _ => rfl⟩

end Go.Proofs.YtfffmndjgjfflaaGreatDoor

/- (For the seat of package cond.) From a row's list of package-level variables to what the walks ask of them. -/
namespace Go.Proofs.YtfffmndjgjfflaaGreatDoor
open Go.RowKit Go.Lib
set_option maxRecDepth 100000

section
variable {H : Type} {enc : TypeId × Value → H} {P : Program} {w : World} {base : Nat} {spare : Nat → Bool} {held : Bool} {fuel : Nat} {t : TypeId} {cs : List Value}
/-- A struct's field that is an integer. -/
theorem field_int {fs : Array Field} {ds : List (DataW H)} {p : List MemPlace} (ht : P.underlying t = some (.struct fs)) (h : DataW.trod enc P w base spare held fuel t cs = some (.agg ds, p)) (i : Nat) (f : Field) (k : IntKind) (z : Int)
    (hf : fs[i]? = some f) (hu : P.underlying f.type = some (.int k)) (hc : P.cellsOf f.type = 1) (hd : ds[i]? = some (.lit (.int k z))) : cs[f.offset]? = some (.int k z) := by
  obtain ⟨xs, n, rfl, hx, hl, hxl, hall⟩ := DataW.trod_struct ht h
  have hxs : xs.map (·.1) = ds := by
    have := congrArg Prod.fst hx
    simpa using this.symm
  have h1 := hall i f hf
  rw [← hxs, List.getElem?_map] at hd
  obtain ⟨b, hb, hb1⟩ := Option.map_eq_some_iff.1 hd
  rw [hb, hc] at h1
  obtain ⟨z', hcz, rfl, _⟩ := DataW.trod_int hu h1
  simp only [DataW.lit.injEq, Lit.int.injEq, true_and] at hb1
  subst hb1
  have := congrArg (·[0]?) hcz
  simpa [List.getElem?_take, List.getElem?_drop] using this

/-- A slice of floats. -/
theorem floats_at {e : TypeId} {k : FloatKind} {l : List Nat} {p : List MemPlace} (ht : P.underlying t = some (.slice e)) (he : P.underlying e = some (.float k)) (hc : P.cellsOf e = 1) (hl : 0 < l.length)
    (h : DataW.trod enc P w base spare held fuel t cs = some (.slice (l.map fun x => .lit (.float k x)) [], p)) :
    ∃ R o c, cs = [.slice (some ⟨R, o, none⟩) l.length c] ∧ ∀ j, j < l.length → w.cell? ⟨R, o + j, none⟩ = some (.float k (l.getD j 0)) := by
  rcases DataW.trod_slice ht h with ⟨_, hx⟩ | ⟨a, len, cap, el, rs, m, rfl, hcs, hx, _, hlc, _, hel, helem, hsp, _⟩
  · cases hx
  have e0 := congrArg Prod.fst hx
  simp only [DataW.slice.injEq] at e0
  obtain ⟨eE, eR⟩ := e0
  have hlen : len = l.length := by
    have := congrArg List.length eE
    simp at this
    omega
  have hcell : ∀ i, i < l.length → w.cell? (a.add i) = some (.float k (l.getD i 0)) := by
    intro i hi
    have h1 := helem i (by omega)
    rw [hc] at h1
    obtain ⟨b, hb⟩ : ∃ b, el[i]? = some b := ⟨el[i]'(by omega), List.getElem?_eq_getElem (by omega)⟩
    rw [hb] at h1
    obtain ⟨ce, hce, hte⟩ := Option.bind_eq_some_iff.1 h1
    obtain ⟨z, hz, hbz⟩ := trod_float he hte
    have hb1 : b.1 = .lit (.float k (l.getD i 0)) := by
      have := congrArg (·[i]?) eE
      simp [hb, hi] at this
      have e2 : l.getD i 0 = l[i] := by simp [List.getD, List.getElem?_eq_getElem hi]
      rw [e2]
      exact this.symm
    rw [hbz] at hb1
    simp only [DataW.lit.injEq, Lit.float.injEq, true_and] at hb1
    obtain ⟨_, _, hcc⟩ := World.cells?_some hce
    have := hcc 0 (by omega)
    rw [hz] at this
    simp only [Nat.mul_one] at this
    have e1 : (a.add i).add 0 = a.add i := by simp [Addr.add]
    rw [e1] at this
    rw [this, ← hb1]
    rfl
  obtain ⟨R, o, sR⟩ := a
  obtain rfl : sR = none := by
    have h00 := hcell 0 hl
    have : (Addr.add ⟨R, o, sR⟩ 0) = ⟨R, o, sR⟩ := by simp [Addr.add]
    rw [this] at h00
    exact Go.Proofs.cell_spot h00
  refine ⟨R, o, cap, by rw [hcs, hlen], fun j hj => ?_⟩
  have := hcell j hj
  rwa [Addr.add_lit] at this
end

theorem reads_of (n : String) (g t : Nat) (h : Tryz.prog.globalNamed n = some g) (k : (Tryz.prog.globals[g]?).map (·.type) = some t) {w : World} {d : DataW Unit} (hr : VarReads Tryz.prog w n d) :
    ∃ cs fuel p, w.var? Tryz.prog n = some cs ∧ DataW.trod (fun _ => ()) Tryz.prog w 0 (fun _ => true) false fuel t cs.toList = some (d, p) ∧ ∀ i, w.cell? ⟨g, i, none⟩ = cs.toList[i]? := by
  obtain ⟨g', t', cs, fuel, p, hg, hty, hvar, hd⟩ := hr
  obtain rfl := Option.some.inj (h.symm.trans hg)
  obtain rfl := Option.some.inj (k.symm.trans hty)
  exact ⟨cs, fuel, p, hvar, hd, fun i => by rw [World.var?_cell hg hvar i, ← Array.getElem?_toList]⟩

theorem ld_drop {P : Program} {W : World} : ∀ (n : Nat) {l : List (String × DataW Unit)}, laidMet P l W → laidMet P (l.drop n) W
  | 0, _, h => h
  | _ + 1, [], h => h
  | n + 1, _ :: r, h => ld_drop n (l := r) h.tail

set_option maxHeartbeats 1000000 in
theorem tabs_of {W : World} (h : laidMetH Tryz.prog Rows.filterTurnsRow.laid W) : Tabs W := by
  rw [MakeChecks.laidMetH_plain _ _ _ (by kernel_rfl)] at h
  have hr : ∀ i n d, Rows.filterTurnsRow.laid[i]? = some (n, d) → VarReads Tryz.prog W n d := fun i n d e => Lib.laidMet.reads h (List.mem_of_getElem? e)
  refine ⟨?_, ?_, ?_, ?_, ?_⟩
  · obtain ⟨cs, f, p, hv, hd, hc⟩ := reads_of "internal/strconv.optimize" 6 4 (by kernel_rfl) (by kernel_rfl) (hr 2 _ _ rfl)
    obtain ⟨b, e1, e2⟩ := DataW.trod_bool Tryz.underlying4 hd
    rw [hc, e1]
    simp only [Rows.laid_internal_strconv_optimize, Prod.mk.injEq, DataW.lit.injEq, Lit.bool.injEq] at e2
    rw [← e2.1]; rfl
  · exact tabIs_of_head (g := 3) (t := 113) (e := 98) (n := 20) (by kernel_rfl) (by kernel_rfl) Tryz.underlying113 Tryz.underlying98 (by kernel_rfl) (by kernel_rfl)
      (rest := Rows.filterTurnsRow.laid.drop 4) (ld_drop 3 h)
  · obtain ⟨cs, f, p, hv, hd, hc⟩ := reads_of "internal/strconv.pow10Tab" 14 176 (by kernel_rfl) (by kernel_rfl) (hr 7 _ _ rfl)
    intro i hi
    have c2 : Tryz.prog.cellsOf 175 = 2 := by kernel_rfl
    obtain ⟨f', d, q, e1, e2⟩ := array_elem Tryz.underlying176 hd i hi
    have hlen : Go.Pinned.pow10Rows.length = 696 := by decide +kernel
    have e3 : (Go.Pinned.pow10Rows.map fun x => (DataW.agg [.lit (.int .u64 x.1), .lit (.int .u64 x.2)] : DataW Unit))[i]? = some d := e1
    rw [List.getElem?_map, List.getElem?_eq_getElem (by omega)] at e3
    simp only [Option.map_some, Option.some.injEq] at e3
    subst e3
    rw [c2] at e2
    have hz := ints_of_struct (k := .u64) (zs := [((Go.Pinned.pow10Rows[i]'(by omega)).1 : Int), ((Go.Pinned.pow10Rows[i]'(by omega)).2 : Int)]) Tryz.underlying175 (fun j f hj => by
      match j, hj with
      | 0, hj => simp at hj; subst hj; exact ⟨by kernel_rfl, rfl, by kernel_rfl⟩
      | 1, hj => simp at hj; subst hj; exact ⟨by kernel_rfl, rfl, by kernel_rfl⟩
      | j + 2, hj => simp at hj) (by rw [c2]; rfl) e2
    have h0 := congrArg (·[0]?) hz
    have h1 := congrArg (·[1]?) hz
    simp only [List.getElem?_take, List.getElem?_drop] at h0 h1
    have g1 : powHi i = (Go.Pinned.pow10Rows[i]'(by omega)).1 := by unfold powHi; rw [List.getD, List.getElem?_eq_getElem (by omega)]; rfl
    have g2 : powLo i = (Go.Pinned.pow10Rows[i]'(by omega)).2 := by unfold powLo; rw [List.getD, List.getElem?_eq_getElem (by omega)]; rfl
    rw [hc, hc, g1, g2]
    exact ⟨by simpa [Nat.mul_comm] using h0, by simpa [Nat.mul_comm] using h1⟩
  · exact printTabs_of_reads Tryz.lays339 ⟨by kernel_rfl, by kernel_rfl, by kernel_rfl, by kernel_rfl, by kernel_rfl, by kernel_rfl, by kernel_rfl, by kernel_rfl, by kernel_rfl, by kernel_rfl⟩
      (by rw [← Go.Pinned.isPrint16_eq]; exact hr 11 _ _ rfl) (by rw [← Go.Pinned.isNotPrint16_eq]; exact hr 9 _ _ rfl) (by rw [← Go.Pinned.isPrint32_eq]; exact hr 12 _ _ rfl) (by rw [← Go.Pinned.isNotPrint32_eq]; exact hr 10 _ _ rfl)
  · exact utf8Tabs_of_reads Tryz.lays260 ⟨by kernel_rfl, by kernel_rfl, by kernel_rfl, by kernel_rfl, by kernel_rfl, by kernel_rfl, by kernel_rfl⟩
      (by rw [← Go.Pinned.utf8First_eq]; exact hr 13 _ _ rfl) (hr 4 _ _ rfl)

/-- The ops' words, as package cond's own variable holds them. -/
def wordS (i : Nat) : ByteArray := ⟨(([[61], [33, 61], [60], [60, 61], [62], [62, 61], [94], [104, 97, 115]] : List (List UInt8)).getD i []).toArray⟩
def Wds (W : World) : Prop := ∀ i, i < 8 → W.cell? ⟨0, i, none⟩ = some (.string (wordS i))
theorem Wds.on {w w' : World} (h : Wds w) (hb : Below w.heap.size w w') : Wds w' := fun i hi => cell_on hb (h i hi)
set_option maxHeartbeats 1000000 in
theorem wds_of {W : World} (h : laidMetH Tryz.prog Rows.filterTurnsRow.laid W) : Wds W := by
  rw [MakeChecks.laidMetH_plain _ _ _ (by kernel_rfl)] at h
  have hr : ∀ i n d, Rows.filterTurnsRow.laid[i]? = some (n, d) → VarReads Tryz.prog W n d := fun i n d e => Lib.laidMet.reads h (List.mem_of_getElem? e)
  obtain ⟨cs, f, p, hv, hd, hc⟩ := reads_of "gazette/cond.words" 0 53 (by kernel_rfl) (by kernel_rfl) (hr 5 _ _ rfl)
  intro i hi
  have c1 : Tryz.prog.cellsOf 9 = 1 := by kernel_rfl
  have one : ∀ (i : Nat) (z : List UInt8), ([.lit (.string [61]), .lit (.string [33, 61]), .lit (.string [60]), .lit (.string [60, 61]), .lit (.string [62]), .lit (.string [62, 61]), .lit (.string [94]), .lit (.string [104, 97, 115])] : List (DataW Unit))[i]? = some (.lit (.string z)) → i < 8 → W.cell? ⟨0, i, none⟩ = some (.string ⟨z.toArray⟩) := by
    intro i z hz hi
    obtain ⟨f', d, q, e1, e2⟩ := array_elem Tryz.underlying53 hd i hi
    have e3 : ([.lit (.string [61]), .lit (.string [33, 61]), .lit (.string [60]), .lit (.string [60, 61]), .lit (.string [62]), .lit (.string [62, 61]), .lit (.string [94]), .lit (.string [104, 97, 115])] : List (DataW Unit))[i]? = some d := e1
    rw [hz] at e3
    obtain rfl := Option.some.inj e3
    rw [c1] at e2
    obtain ⟨s, g1, g2⟩ := DataW.trod_string Tryz.underlying9 e2
    simp only [Prod.mk.injEq, DataW.lit.injEq, Lit.string.injEq] at g2
    have hs : s = ⟨z.toArray⟩ := by
      rw [g2.1.1]
    have := congrArg (·[0]?) g1
    simp only [List.getElem?_take, List.getElem?_drop, Nat.mul_one] at this
    rw [hc, ← hs]
    simpa using this
  match i, hi with
  | 0, hi => exact one 0 _ rfl hi
  | 1, hi => exact one 1 _ rfl hi
  | 2, hi => exact one 2 _ rfl hi
  | 3, hi => exact one 3 _ rfl hi
  | 4, hi => exact one 4 _ rfl hi
  | 5, hi => exact one 5 _ rfl hi
  | 6, hi => exact one 6 _ rfl hi
  | 7, hi => exact one 7 _ rfl hi
theorem globals_lt {W : World} (h : Tabs W) : 14 < W.heap.size := World.block_lt_of_cell? W ⟨14, _, none⟩ (h.pow 0 (by decide)).1
end Go.Proofs.YtfffmndjgjfflaaGreatDoor

/- A call that touches no memory, on arguments that are written out, by the kernel's own run of the model, in whatever world it is made. -/
namespace Go.Proofs.YtfffmndjgjfflaaGreatDoor
open Go.RowKit
set_option maxRecDepth 100000

/-- The frame in which a lone machine stands. -/
def frameOf (m : Stepped) : Frame := match m with
  | .next m => match m.gs[0]? with | some g => g.frame | none => default
  | _ => default
/-- How many steps till the first frame is about to leave, none above it. -/
def goTo (P : Program) : Nat → Machine → Nat
  | 0, _ => 0
  | n + 1, m => match m.gs[0]? with
    | some g => match g.frame.mode, g.callers with
      | .returning, [] => 0
      | _, _ => match step P m with
        | .next m' => goTo P n m' + 1
        | _ => 0
    | none => 0
theorem calls_run {P : Program} {f : FuncId} {args : Array Value} {v : Value} {w : World} (fn : Func) (N : Nat) (fr : Frame)
    (h : ∀ cs, runN P N (lone (Frame.enter P f args .normal) cs w) = .next (lone fr cs w))
    (hm : fr.mode = .returning) (hd : fr.defers = []) (hk : fr.kind = .normal) (hf : fr.fn = f) (hfn : P.funcs[f]? = some fn) (hr : (results fn fr.tmps).run P w = .ok v w) :
    Calls P f args w fun e w' => e = .returned v ∧ w = w' := by
  intro cs
  refine ⟨.returned v, w, fr, ⟨rfl, rfl⟩, ⟨N, h cs⟩, hf, hm, hd, hk, fn, ?_, hr⟩
  rw [hf]; exact hfn
noncomputable def stepsOf (f : FuncId) (args : Array Value) (w : World) : Nat := goTo Tryz.prog 20000 (lone (Frame.enter Tryz.prog f args .normal) [] w)
noncomputable def endOf (f : FuncId) (args : Array Value) (w : World) : Frame := frameOf (runN Tryz.prog (stepsOf f args w) (lone (Frame.enter Tryz.prog f args .normal) [] w))
end Go.Proofs.YtfffmndjgjfflaaGreatDoor

/- cond.known, Word, Right, Print of any condition; what each law of layer 6 begins with. -/
namespace Go.Proofs.YtfffmndjgjfflaaGreatDoor
open Go.RowKit Go.Shelf
open Go.Proofs
set_option maxRecDepth 100000

set_option maxHeartbeats 1000000 in
theorem known_c (op : Int) (w : World) : Calls Tryz.prog 21 #[.int .i64 op] w fun e w' => e = .returned (.bool (decide (0 ≤ op) && decide (op < 8))) ∧ w = w' := by
  cases h1 : decide (0 ≤ op)
  · go_enter Tryz.func21, Tryz.ntmps21
    go_wp2
    go_ret
    exact ⟨rfl, rfl⟩
  · go_enter Tryz.func21, Tryz.ntmps21
    go_wp2
    go_ret
    exact ⟨rfl, rfl⟩
set_option maxHeartbeats 1000000 in
theorem word_c (i : Nat) (hi : i < 8) (w : World) (hw : Wds w) : Calls Tryz.prog 11 #[.int .i64 (i : Int)] w fun e w' => e = .returned (.string (wordS i)) ∧ w = w' := by
  have hk := fun W => known_c (i : Int) W
  rw [show (decide ((0 : Int) ≤ (i : Int)) && decide ((i : Int) < 8)) = true by simp; omega] at hk
  have hc := hw i hi
  have HK := Lib.hid hk; clear hk hw
  generalize wordS i = s at *
  have hz : (0 : Int) ≤ (i : Int) := by omega
  have hz8 : (i : Int) < 8 := by omega
  go_enter Tryz.func11, Tryz.ntmps11
  go_wp2_with fail
  refine (HK.out _).mono ?_
  rintro e w1 ⟨rfl, rfl⟩
  go_wp2_with fail
  go_ret
  exact ⟨rfl, rfl⟩
set_option maxHeartbeats 1000000 in
theorem word_no (op : Int) (h : ¬ (0 ≤ op ∧ op < 8)) (w : World) : Calls Tryz.prog 11 #[.int .i64 op] w fun e w' => e = .returned (.string ⟨#[]⟩) ∧ w = w' := by
  have hk := fun W => known_c op W
  rw [show (decide ((0 : Int) ≤ op) && decide (op < 8)) = false by simp; omega] at hk
  have HK := Lib.hid hk; clear hk h
  go_enter Tryz.func11, Tryz.ntmps11
  go_wp2_with fail
  refine (HK.out _).mono ?_
  rintro e w1 ⟨rfl, rfl⟩
  go_wp2_with fail
  go_ret
  exact ⟨rfl, rfl⟩

/-- May a condition be? -/
def crightB (c : Cn) : Bool := nameOk c.a.nm && ((decide (0 ≤ c.op) && decide (c.op < 8)) && vrightB c.a.k c.a.s)
set_option maxHeartbeats 1000000 in
theorem cright_c (nm : ByteArray) (op k n : Int) (x : Nat) (s : ByteArray) (y : Bool) (w : World) :
    Calls Tryz.prog 13 #[cnd nm op k n x s y] w fun e w' => e = .returned (.bool (crightB ⟨⟨nm, k, n, x, s, y⟩, op⟩)) ∧ Below w.heap.size w w' := by
  have hn := fun W => name_c nm W
  have hk := fun W => known_c op W
  have hv := fun W => vright_c k n x s y W
  unfold crightB
  simp only []
  generalize vrightB k s = v at *
  generalize (decide (0 ≤ op) && decide (op < 8)) = q at *
  generalize nameOk nm = p at *
  have HN := Lib.hid hn; have HK := Lib.hid hk; have HV := Lib.hid hv
  clear hn hk hv
  cases p
  · go_enter Tryz.func13, Tryz.ntmps13
    go_wp2_with fail
    refine (HN.out _).mono ?_
    rintro e w1 ⟨rfl, rfl⟩
    go_wp2_with fail
    go_ret
    exact ⟨rfl, (Below.refl _ _).alloc (Nat.le_refl _) _⟩
  · cases q
    · go_enter Tryz.func13, Tryz.ntmps13
      go_wp2_with fail
      refine (HN.out _).mono ?_
      rintro e w1 ⟨rfl, rfl⟩
      go_wp2_with fail
      refine (HK.out _).mono ?_
      rintro e w1 ⟨rfl, rfl⟩
      go_wp2_with fail
      go_ret
      exact ⟨rfl, (Below.refl _ _).alloc (Nat.le_refl _) _⟩
    · go_enter Tryz.func13, Tryz.ntmps13
      go_wp2_with fail
      refine (HN.out _).mono ?_
      rintro e w1 ⟨rfl, rfl⟩
      go_wp2_with fail
      refine (HK.out _).mono ?_
      rintro e w1 ⟨rfl, rfl⟩
      go_wp2_with fail
      refine (HV.out _).mono ?_
      rintro e w1 ⟨rfl, hb⟩
      have HB := Lib.hid hb; clear hb
      go_wp2_with fail
      go_ret
      exact ⟨rfl, ((Below.refl _ _).alloc (Nat.le_refl _) _).trans (HB.out.mono (by simp))⟩


/-- A condition's text. -/
def cprintS (nm : ByteArray) (i : Nat) (T : ByteArray) : ByteArray := if i = 7 then wordS 7 ++ ⟨#[32]⟩ ++ nm else nm ++ ⟨#[32]⟩ ++ wordS i ++ ⟨#[32]⟩ ++ T
theorem wordS_size (i : Nat) (h : i < 8) : (wordS i).size ≤ 3 := by
  match i, h with
  | 0, _ => decide
  | 1, _ => decide
  | 2, _ => decide
  | 3, _ => decide
  | 4, _ => decide
  | 5, _ => decide
  | 6, _ => decide
  | 7, _ => decide
set_option maxHeartbeats 4000000 in
theorem cprint_c (nm : ByteArray) (i : Nat) (k n : Int) (x : Nat) (s : ByteArray) (y : Bool) (T : ByteArray) (hnm : nm.size ≤ 1000) (hTs : T.size ≤ 4611686018427387904) (hi : i < 8) (w : World) (hw : Wds w)
    (hp : ∀ W, Below w.heap.size w W → Calls Tryz.prog 33 #[val k n x s y] W fun e W' => e = .returned (.string T) ∧ Below W.heap.size W W') :
    Calls Tryz.prog 19 #[cnd nm (i : Int) k n x s y] w fun e w' => e = .returned (.string (cprintS nm i T)) ∧ Below w.heap.size w w' := by
  have HWd : Aside (∀ W, Below w.heap.size w W → Calls Tryz.prog 11 #[.int .i64 (i : Int)] W fun e W' => e = .returned (.string (wordS i)) ∧ W = W') := fun W hW => word_c i hi W (hw.on hW)
  have HP := Lib.hid hp; clear hp hw
  have HKP : Aside (∀ W, Below (w.heap.size + 1) (w.alloc (.cells (cnds nm (i : Int) k n x s y) 31)) W → Below w.heap.size w W ∧ (W.cell? ⟨w.heap.size, 0, none⟩ = some (.string nm) ∧ W.cell? ⟨w.heap.size, 1, none⟩ = some (.int .i64 (i : Int)) ∧ W.cell? ⟨w.heap.size, 2, none⟩ = some (.int .i64 k) ∧ W.cell? ⟨w.heap.size, 3, none⟩ = some (.int .i64 n) ∧ W.cell? ⟨w.heap.size, 4, none⟩ = some (.float .f64 x) ∧ W.cell? ⟨w.heap.size, 5, none⟩ = some (.string s) ∧ W.cell? ⟨w.heap.size, 6, none⟩ = some (.bool y))) :=
    fun W hW => ⟨((Below.refl _ _).alloc (Nat.le_refl _) _).trans (hW.mono (by omega)), one_lay hW 0 _ rfl, one_lay hW 1 _ rfl, one_lay hW 2 _ rfl, one_lay hW 3 _ rfl, one_lay hW 4 _ rfl, one_lay hW 5 _ rfl, one_lay hW 6 _ rfl⟩
  unfold cprintS
  have hq := wordS_size i hi
  by_cases h7 : i = 7
  · rw [if_pos h7]
    subst h7
    generalize wordS 7 = q at *
    have u1 : ¬ 9223372036854775807 < q.size + 1 := by omega
    have u2 : ¬ 9223372036854775807 < q.size + 1 + nm.size := by omega
    clear hnm hTs hi hq
    go_enter Tryz.func19, Tryz.ntmps19
    go_wp2_with fail
    have HB0 : Aside (Below (w.heap.size + 1) (w.alloc (.cells (cnds nm 7 k n x s y) 31)) (w.alloc (.cells (cnds nm 7 k n x s y) 31)).drew) := ⟨rfl, rfl, rfl, Nat.le_refl _, fun _ _ => rfl⟩
    first
    | go_region_held (fun w' => Below (w.heap.size + 1) (w.alloc (.cells (cnds nm 7 k n x s y) 31)) w' ∧ Below w.heap.size w w' ∧ w'.cell? ⟨w.heap.size, 0, none⟩ = some (.string nm) ∧ w'.cell? ⟨w.heap.size, 1, none⟩ = some (.int .i64 7) ∧ w'.cell? ⟨w.heap.size, 2, none⟩ = some (.int .i64 k) ∧ w'.cell? ⟨w.heap.size, 3, none⟩ = some (.int .i64 n) ∧ w'.cell? ⟨w.heap.size, 4, none⟩ = some (.float .f64 x) ∧ w'.cell? ⟨w.heap.size, 5, none⟩ = some (.string s) ∧ w'.cell? ⟨w.heap.size, 6, none⟩ = some (.bool y))
        (exact ⟨HB0.out, HKP.out _ HB0.out⟩)
        (first
          | (go_at_call 11; refine (HWd.out _ (HKP.out _ HB0.out).1).mono ?_; rintro e w1 ⟨rfl, rfl⟩))
    | fail "region"
    all_goals
      go_wp2_with fail
      go_ret
      exact ⟨rfl, (HKP.out _ HB0.out).1⟩
  · rw [if_neg h7]
    generalize wordS i = q at *
    have g7 : ((i : Int) == 7) = false := by simp; omega
    have u1 : ¬ 9223372036854775807 < nm.size + 1 := by omega
    have u2 : ¬ 9223372036854775807 < nm.size + 1 + q.size := by omega
    have u3 : ¬ 9223372036854775807 < nm.size + 1 + q.size + 1 := by omega
    have u4 : ¬ 9223372036854775807 < nm.size + 1 + q.size + 1 + T.size := by omega
    clear hnm hTs hi hq h7
    go_enter Tryz.func19, Tryz.ntmps19
    go_wp2_with fail
    have HB0 : Aside (Below (w.heap.size + 1) (w.alloc (.cells (cnds nm (i : Int) k n x s y) 31)) (w.alloc (.cells (cnds nm (i : Int) k n x s y) 31)).drew) := ⟨rfl, rfl, rfl, Nat.le_refl _, fun _ _ => rfl⟩
    have HSZ : Aside (w.heap.size + 1 ≤ (w.alloc (.cells (cnds nm (i : Int) k n x s y) 31)).drew.heap.size) := by
      show w.heap.size + 1 ≤ (w.alloc _).heap.size
      simp
    first
    | go_region_held (fun w' => Below (w.heap.size + 1) (w.alloc (.cells (cnds nm (i : Int) k n x s y) 31)) w' ∧ Below w.heap.size w w' ∧ w'.cell? ⟨w.heap.size, 0, none⟩ = some (.string nm) ∧ w'.cell? ⟨w.heap.size, 1, none⟩ = some (.int .i64 (i : Int)) ∧ w'.cell? ⟨w.heap.size, 2, none⟩ = some (.int .i64 k) ∧ w'.cell? ⟨w.heap.size, 3, none⟩ = some (.int .i64 n) ∧ w'.cell? ⟨w.heap.size, 4, none⟩ = some (.float .f64 x) ∧ w'.cell? ⟨w.heap.size, 5, none⟩ = some (.string s) ∧ w'.cell? ⟨w.heap.size, 6, none⟩ = some (.bool y))
        (first | exact ⟨HB1.out, HKP.out _ HB1.out⟩ | exact ⟨HB0.out, HKP.out _ HB0.out⟩)
        (first
          | (go_at_call 11; (first | (refine (HWd.out _ (HKP.out _ HB1.out).1).mono ?_) | (refine (HWd.out _ (HKP.out _ HB0.out).1).mono ?_)); rintro e w2 ⟨rfl, rfl⟩)
          | (go_at_call 33; refine (HP.out _ (HKP.out _ HB0.out).1).mono ?_; rintro e w1 ⟨rfl, hb⟩; have HB1 : Aside (Below (w.heap.size + 1) (w.alloc (.cells (cnds nm (i : Int) k n x s y) 31)) w1) := HB0.out.trans (hb.mono HSZ.out); clear hb))
    | fail "region"
    all_goals
      go_wp2_with fail
      go_ret
      exact ⟨rfl, (HKP.out _ HB1.out).1⟩

theorem fmtThree_c (w : World) : Calls Tryz.prog 49 #[.int .i64 3, .int .i64 10] w fun e w' => e = .returned (.string ⟨#[51]⟩) ∧ w = w' :=
  calls_run Tryz.f49 (stepsOf 49 #[.int .i64 3, .int .i64 10] w) (endOf 49 #[.int .i64 3, .int .i64 10] w) (fun cs => by kernel_rfl) (by kernel_rfl) (by kernel_rfl) (by kernel_rfl) (by kernel_rfl) Tryz.func49 (by kernel_rfl)
set_option maxHeartbeats 1000000 in
theorem printThree_c (w : World) : Calls Tryz.prog 33 #[val 0 3 0 ⟨#[]⟩ false] w fun e w' => e = .returned (.string ⟨#[51]⟩) ∧ Below w.heap.size w w' := by
  go_enter Tryz.func33, Tryz.ntmps33
  go_wp2_with (go_at_call 49; refine (fmtThree_c _).mono ?_; rintro e w' ⟨rfl, rfl⟩)
  go_ret
  exact ⟨rfl, ((Below.refl _ _).alloc (Nat.le_refl _) _)⟩

def clightB (nm s : ByteArray) : Bool := decide (wrap64 ((nm.size : Int) + (s.size : Int)) ≤ 300)
/-- What Go's memory allows, and the law's own bound. -/
theorem clight_size {nm s : ByteArray} (h : clightB nm s = true) (hn : nm.size ≤ 140737488355328) (hs : s.size ≤ 140737488355328) : nm.size ≤ 300 ∧ s.size ≤ 300 := by
  unfold clightB at h
  have := of_decide_eq_true h
  unfold wrap64 at this
  omega
end Go.Proofs.YtfffmndjgjfflaaGreatDoor
