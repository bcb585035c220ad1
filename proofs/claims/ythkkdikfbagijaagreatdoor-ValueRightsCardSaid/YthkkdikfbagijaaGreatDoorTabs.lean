/- What the listed package-level variables hold, cell by cell, in every world in which nothing that stood when the call began has turned. -/
import Derived.Test.YthkkdikfbagijaaGreatDoorRows
import Derived.PinnedBridge
import Derived.MakeChecks
import Derived.OpenShut
import Derived.ProofKit
import Derived.WalkSmall
import Derived.Lib.LaidTab
import Derived.Lib.LaidPrint
import Derived.Lib.LaidU8
import Derived.Stop.LaidErr
import Derived.Below
import Derived.Test.YthkkdikfbagijaaGreatDoorShelf
namespace Go.Proofs.YthkkdikfbagijaaGreatDoor
open Go.RowKit Go.Lib

section
variable {H : Type} {enc : TypeId × Value → H} {P : Program} {w : World} {base : Nat} {spare : Nat → Bool} {held : Bool} {fuel : Nat} {t : TypeId} {cs : List Value} {x : DataW H × List MemPlace}
theorem trod_float {k : FloatKind} (ht : P.underlying t = some (.float k)) (h : DataW.trod enc P w base spare held fuel t cs = some x) : ∃ n, cs = [.float k n] ∧ x = (.lit (.float k n), []) := by
  cases fuel with
  | zero => simp [DataW.trod] at h
  | succ n =>
    unfold DataW.trod at h
    rw [ht] at h
    split at h <;> simp_all
end

def fpow10 : List Nat := [4607182418800017408, 4621819117588971520, 4636737291354636288, 4652007308841189376, 4666723172467343360, 4681608360884174848, 4696837146684686336, 4711630319722168320, 4726483295884279808, 4741671816366391296, 4756540486875873280, 4771362005757984768, 4786511204640096256, 4801453603149578240, 4816244402031689728, 4831355200913801216, 4846369599423283200, 4861130398305394688, 4876203697187506176, 4891288408196988160, 4906019910204099648, 4921056587992461136, 4936209963552724370]
def powHi (i : Nat) : Nat := (Go.Pinned.pow10Rows.getD i (0, 0)).1
def powLo (i : Nat) : Nat := (Go.Pinned.pow10Rows.getD i (0, 0)).2

structure Tabs (w : World) : Prop where
  opt : w.cell? ⟨6, 0, none⟩ = some (.bool true)
  fi0 : w.cell? ⟨9, 0, none⟩ = some (.int .u64 52)
  fi1 : w.cell? ⟨9, 1, none⟩ = some (.int .u64 11)
  fi2 : w.cell? ⟨9, 2, none⟩ = some (.int .i64 (-1023))
  p10 : TabIs Tryz.prog w "internal/strconv.uint64pow10" .u64 pow10Tab
  f10 : ∃ R o c, w.cell? ⟨19, 0, none⟩ = some (.slice (some ⟨R, o, none⟩) 23 c) ∧ ∀ i, i < 23 → w.cell? ⟨R, o + i, none⟩ = some (.float .f64 (fpow10.getD i 0))
  pow : ∀ i, i < 696 → w.cell? ⟨20, 2 * i, none⟩ = some (.int .u64 (powHi i : Nat)) ∧ w.cell? ⟨20, 2 * i + 1, none⟩ = some (.int .u64 (powLo i : Nat))
  es : ∃ tp p, w.var? Tryz.prog "strconv.ErrSyntax" = some #[.iface tp p]
  er : ∃ tp p, w.var? Tryz.prog "strconv.ErrRange" = some #[.iface tp p]
  pr : PrintTabsAt 12 13 14 15 goPrintTabs w
  u8 : Utf8Tabs 3 4 w

/-- What stood still stands. -/
theorem cell_on {w w' : World} (hb : Below w.heap.size w w') {p : Addr} {v : Value} (h : w.cell? p = some v) : w'.cell? p = some v := by
  rw [hb.cell (World.block_lt_of_cell? w _ h)]; exact h
theorem slice_on {w w' : World} (hb : Below w.heap.size w w') {g : Nat} {k : IntKind} {t : List Nat} (h : TabSlice g k t w) : TabSlice g k t w' := by
  obtain ⟨R, o, c, h1, h2⟩ := h
  exact ⟨R, o, c, cell_on hb h1, fun j hj => cell_on hb (h2 j hj)⟩
theorem Tabs.on {w w' : World} (h : Tabs w) (hb : Below w.heap.size w w') : Tabs w' := by
  have hg : ∀ {n : String} {g : Nat} {cs : Array Value}, Tryz.prog.globalNamed n = some g → 0 < cs.size → w.var? Tryz.prog n = some cs → w'.var? Tryz.prog n = some cs := by
    intro n g cs hn h0 hv
    have h1 := World.var?_cell hn hv 0
    rw [Array.getElem?_eq_getElem h0] at h1
    exact var?_below hb hn (World.block_lt_of_cell? w _ h1) hv
  exact {
    opt := cell_on hb h.opt
    fi0 := cell_on hb h.fi0
    fi1 := cell_on hb h.fi1
    fi2 := cell_on hb h.fi2
    p10 := hg (g := 2) (by kernel_rfl) (by decide +kernel) h.p10
    f10 := let ⟨R, o, c, h1, h2⟩ := h.f10; ⟨R, o, c, cell_on hb h1, fun i hi => cell_on hb (h2 i hi)⟩
    pow := fun i hi => ⟨cell_on hb (h.pow i hi).1, cell_on hb (h.pow i hi).2⟩
    es := let ⟨tp, p, h1⟩ := h.es; ⟨tp, p, hg (g := 0) (by kernel_rfl) (by simp) h1⟩
    er := let ⟨tp, p, h1⟩ := h.er; ⟨tp, p, hg (g := 5) (by kernel_rfl) (by simp) h1⟩
    pr := let ⟨a, b, c, d, e⟩ := h.pr; ⟨slice_on hb a, slice_on hb b, slice_on hb c, slice_on hb d, e⟩
    u8 := let ⟨a, b⟩ := h.u8; ⟨fun c hc => cell_on hb (a c hc), fun i hi => ⟨cell_on hb (b i hi).1, cell_on hb (b i hi).2⟩⟩ }
theorem Tabs.drew {w : World} (h : Tabs w) (n : Nat) : Tabs (w.drewN n) := h.on ⟨rfl, rfl, rfl, Nat.le_refl _, fun _ _ => rfl⟩

end Go.Proofs.YthkkdikfbagijaaGreatDoor
