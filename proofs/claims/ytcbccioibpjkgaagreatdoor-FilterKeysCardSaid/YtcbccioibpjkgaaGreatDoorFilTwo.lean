/- Two filters that are laid into two blocks of their own, in either order. -/
import Derived.Test.YtcbccioibpjkgaaGreatDoorGaJ
namespace Go.Proofs.YtcbccioibpjkgaaGreatDoor
open Go.RowKit Go.Shelf
open Go.Proofs
set_option maxRecDepth 100000

/-- Two filters' cells, in every world in which the older blocks lie as they lay. -/
def Two (wx : World) (A B : Nat) (s0 : ByteArray) (c0 : Option Addr) (n0 p0 : Nat) (s1 : ByteArray) (c1 : Option Addr) (n1 p1 : Nat) : Prop :=
  ∀ W, Below wx.heap.size wx W → (W.cell? ⟨A, 0, none⟩ = some (.string s0) ∧ W.cell? ⟨A, 1, none⟩ = some (.slice c0 n0 p0)) ∧ W.cell? ⟨B, 0, none⟩ = some (.string s1) ∧ W.cell? ⟨B, 1, none⟩ = some (.slice c1 n1 p1)
theorem Two.on {wx W : World} {A B : Nat} {s0 : ByteArray} {c0 : Option Addr} {n0 p0 : Nat} {s1 : ByteArray} {c1 : Option Addr} {n1 p1 : Nat} (h : Two wx A B s0 c0 n0 p0 s1 c1 n1 p1) (hW : Below wx.heap.size wx W) : Two W A B s0 c0 n0 p0 s1 c1 n1 p1 :=
  fun X hX => h X (hW.trans (hX.mono hW.size))

theorem two_new (w1 : World) (s0 : ByteArray) (c0 : Option Addr) (n0 p0 : Nat) (s1 : ByteArray) (c1 : Option Addr) (n1 p1 : Nat) :
    Two ((w1.alloc (.cells #[.string s0, .slice c0 n0 p0] 42)).alloc (.cells #[.string s1, .slice c1 n1 p1] 42)).drew w1.heap.size (w1.heap.size + 1) s0 c0 n0 p0 s1 c1 n1 p1 ∧
    Two ((w1.alloc (.cells #[.string s0, .slice c0 n0 p0] 42)).alloc (.cells #[.string s1, .slice c1 n1 p1] 42)).drew (w1.heap.size + 1) w1.heap.size s1 c1 n1 p1 s0 c0 n0 p0 := by
  have h : ∀ W, Below ((w1.alloc (.cells #[.string s0, .slice c0 n0 p0] 42)).alloc (.cells #[.string s1, .slice c1 n1 p1] 42)).drew.heap.size ((w1.alloc (.cells #[.string s0, .slice c0 n0 p0] 42)).alloc (.cells #[.string s1, .slice c1 n1 p1] 42)).drew W →
      (W.cell? ⟨w1.heap.size, 0, none⟩ = some (.string s0) ∧ W.cell? ⟨w1.heap.size, 1, none⟩ = some (.slice c0 n0 p0)) ∧ W.cell? ⟨w1.heap.size + 1, 0, none⟩ = some (.string s1) ∧ W.cell? ⟨w1.heap.size + 1, 1, none⟩ = some (.slice c1 n1 p1) := fun W hW => by
    obtain ⟨va, vb⟩ := two_lay ((below_drew1 _).trans (hW.mono (by simp)))
    exact ⟨⟨va 0 _ rfl, va 1 _ rfl⟩, vb 0 _ rfl, vb 1 _ rfl⟩
  exact ⟨h, fun W hW => ⟨(h W hW).2, (h W hW).1⟩⟩
theorem below_two {w w1 : World} (h : Below w.heap.size w w1) (o o2 : Obj) : Below w.heap.size w ((w1.alloc o).alloc o2).drew := ((h.alloc' o).alloc' o2).trans (below_drew1 _)
end Go.Proofs.YtcbccioibpjkgaaGreatDoor
