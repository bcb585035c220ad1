/- codec.Read: the deferred closure, and Read by a call's contract. -/
import Derived.Test.YtecfbbddhnkilaaRd6
import Derived.Defers
import Derived.Recover
import Derived.Laws.Pointers
namespace Go.Proofs.Ytecfbbddhnkilaa
open Go.RowKit
open Go.Proofs
set_option maxRecDepth 100000

theorem catch_idle (p : Addr) (w : World) :
    CallsD Try.prog 21 #[.pointer (some p)] .returning w fun e u' w' => e = .returned (.tuple #[]) ∧ u' = .returning ∧ w' = w := by
  refine callsD_of_wpS Try.func21 rfl fun c₀ cs hu => ?_
  apply wpS_seq
  apply wpS_region
  simp [wpOpsS, go_sem, recoverD, hu, Try.ntmps21, Exit.thenS]
  refine wpS_of_wp ?_
  change Code.wp _ _ _ { tmps := #[.pointer (some p), .nilIface, undef, undef, .nilIface, undef, undef, undef, undef, undef, undef, undef, undef, undef, undef], defers := [] } _
  go_wp2
  cases c₀
  simp_all [bodyPostS, results, Try.results21]

theorem assert_gv (w : World) : (Instr.typeAssert (.iface 57 (.agg #[])) 20 57 true).run Try.prog w = .ok (.tuple #[.agg #[], .bool true]) w := by kernel_rfl
theorem catch_panicking (p : Addr) (x : Bool) (w : World) (hc : w.cell? p = some (.bool x)) (hz : w.frozen? p = false) :
    CallsD Try.prog 21 #[.pointer (some p)] (.panicking gv) w fun e u' w' =>
      e = .returned (.tuple #[]) ∧ u' = .panicking [{ v := .iface 57 (.agg #[]), recovered := true }] ∧ w' = (w.alloc (.cells #[] 57)).setCell p (.bool false) := by
  have hp := World.block_lt_of_cell? w p hc
  refine callsD_of_wpS Try.func21 rfl fun c₀ cs hu => ?_
  unfold gv at hu
  have hta := fun w => assert_gv w
  have hz2 : (w.alloc (.cells #[] 57)).frozen? p = false := (World.frozen?_of_block (w := w) (Below.heap_alloc w _ p.block hp)).trans hz
  apply wpS_seq
  apply wpS_region
  simp [wpOpsS, go_sem, recoverD, hu, Try.ntmps21, Exit.thenS]
  refine wpS_of_wp ?_
  change Code.wp _ _ _ { tmps := #[.pointer (some p), .iface 57 (.agg #[]), undef, undef, .iface 57 (.agg #[]), undef, undef, undef, undef, undef, undef, undef, undef, undef, undef], defers := [] } _
  go_wp2
  simp [bodyPostS, results, Try.results21]

set_option maxHeartbeats 2000000 in
/-- Read, by a contract of what is called: it ends with so many bytes left, or gives up. -/
theorem read_c (F : FuncId) (hF : ∀ args w, (callFunc F args).run Try.prog w = .ok (.enter F args) w) (ao : Option Addr) (cap : Nat) (l : List UInt8) (caps : Array Value) (w : World) (S : Nat → Prop) (X : List UInt8 → World → Prop) (Y : World → Prop)
    (hl : l.length ≤ cap) (hb : BytesB w w.heap.size ao l)
    (hcall : ∀ W R, Below w.heap.size w W → w.heap.size < R → Rd W R l → Calls Try.prog F (#[.pointer (some ⟨R, 0, none⟩)] ++ caps) W fun e w' => Kb (fun k => k = R ∨ S k) W w' ∧ ((∃ l', e = .returned (.tuple #[]) ∧ Rd w' R l' ∧ X l' w') ∨ (e = .panicked gv ∧ Y w')))
    (hS : ∀ k, S k → k < w.heap.size) (hX : ∀ l' W W', X l' W → Kb (fun k => k = w.heap.size) W W' → X l' W') (hY : ∀ W W', Y W → Kb (fun k => k = w.heap.size) W W' → Y W') :
    Calls Try.prog 7 #[.slice ao l.length cap, .func (.func F) #[] caps] w fun e w' => Kb S w w' ∧ ((∃ l', e = .returned (.bool l'.isEmpty) ∧ X l' w') ∨ (e = .returned (.bool false) ∧ Y w')) := by
  have hmf : ∀ (fn : Fn) (first cap : Array Value) (w : World), (Instr.makeFunc fn first cap).run Try.prog w = .ok (.func fn first cap) w := fun _ _ _ _ => rfl
  have hnf : ∀ W, (binOp .eql 41 (.func (.func F) #[] caps) .nilFunc).run Try.prog W = .ok (.bool false) W := fun W => by kernel_rfl
  have HC : Aside _ := hcall
  have HX : Aside _ := hX
  have HY : Aside _ := hY
  have HSS : Aside _ := hS
  have HB : Aside _ := hb
  have HL : Aside _ := hl
  clear hcall hX hY hS hb hl
  go_enter_defers Try.func7, Try.ntmps7
  go_wp2_with fail
  have hb1 : Below w.heap.size w ((w.alloc (.cells #[.bool false] 4)).alloc (.cells #[.slice ao l.length cap] 60)) := ((Below.refl _ _).alloc (Nat.le_refl _) _).alloc (by simp) _
  have hr1 : Rd ((w.alloc (.cells #[.bool false] 4)).alloc (.cells #[.slice ao l.length cap] 60)) (w.heap.size + 1) l := by
    have hz : w.heap.size + 1 = (w.alloc (.cells #[.bool false] 4)).heap.size := by simp
    rw [hz]
    refine ⟨by simp, alloc_frozen _ _ _ _, ao, cap, World.cell?_alloc_new _ _ _ 0, HL.out, ?_⟩
    rcases HB.out with h | ⟨b, off, h1, h2, h3, h4⟩
    · exact Or.inl h
    · exact Or.inr ⟨b, off, h1, by simp; omega, by simp; omega, fun j hj => (hb1.cell (p := ⟨b, off + j, none⟩) h2).trans (h4 j hj)⟩
  have hk0 : ((w.alloc (.cells #[.bool false] 4)).alloc (.cells #[.slice ao l.length cap] 60)).cell? ⟨w.heap.size, 0, none⟩ = some (.bool false) := by
    rw [World.cell?_alloc_lt _ _ _ (by simp), World.cell?_alloc_new]; rfl
  have hf0 : ((w.alloc (.cells #[.bool false] 4)).alloc (.cells #[.slice ao l.length cap] 60)).frozen? ⟨w.heap.size, 0, none⟩ = false :=
    (World.frozen?_of_block (w := w.alloc (.cells #[.bool false] 4)) (Below.heap_alloc _ _ _ (by simp))).trans (alloc_frozen w #[.bool false] 4 0)
  have hs1 : w.heap.size + 1 < ((w.alloc (.cells #[.bool false] 4)).alloc (.cells #[.slice ao l.length cap] 60)).heap.size := by simp
  have hgo := HC.out _ (w.heap.size + 1) hb1 (by omega) hr1
  have HB1 : Aside _ := hb1
  generalize ((w.alloc (.cells #[.bool false] 4)).alloc (.cells #[.slice ao l.length cap] 60)) = w1 at *
  clear hb1 hr1 HC
  have hnS : ∀ k, w.heap.size ≤ k → ¬ S k := fun k h1 h2 => by have := HSS.out k h2; omega
  have HNS : Aside _ := hnS
  -- what becomes of the blocks
  have hfin : ∀ (w2 : World) (w3 : World), Kb (fun k => k = w.heap.size + 1 ∨ S k) w1 w2 → Kb (fun k => k = w.heap.size) w2 w3 → Kb S w w3 := fun w2 w3 h1 h2 => by
    have hb := HB1.out
    refine ⟨h2.os.trans (h1.os.trans hb.os), h2.tape.trans (h1.tape.trans hb.tape), h2.output.trans (h1.output.trans hb.output), Nat.le_trans hb.size (Nat.le_trans h1.size h2.size), fun k hk hn => ?_⟩
    have e1 := h1.block k (by have := hb.size; omega) (by rintro (e | e); omega; exact hn e)
    have e2 := h2.block k (by have := hb.size; have := h1.size; omega) (by omega)
    exact e2.trans (e1.trans (hb.block k hk))
  have HF : Aside _ := hfin
  clear hfin hnS
  refine hgo.mono ?_
  rintro e w2 ⟨hk, ⟨l', rfl, hr, hx⟩ | ⟨rfl, hy⟩⟩
  · obtain ⟨ao2, cap2, hc2, _, _⟩ := hr.is
    have c0 := (hk.cell (p := ⟨w.heap.size, 0, none⟩) (by show w.heap.size < _; omega) (by rintro (e | e); exact absurd e (by simp); exact HNS.out _ (Nat.le_refl _) e)).trans hk0
    have cf := (hk.frozen (p := ⟨w.heap.size, 0, none⟩) (by show w.heap.size < _; omega) (by rintro (e | e); exact absurd e (by simp); exact HNS.out _ (Nat.le_refl _) e)).trans hf0
    have HK : Aside _ := hk
    have HXx : Aside (X l' w2) := hx
    have hb : ((l'.length : Int) == 0) = l'.isEmpty := by cases l' <;> simp <;> omega
    have HBB : Aside _ := hb
    obtain ⟨n, hn⟩ : ∃ n, n = l'.length := ⟨_, rfl⟩
    rw [← hn] at hc2 HBB
    clear hk hr hx hgo hk0 hf0 hb hn
    go_wp2_with fail
    refine leaves_cons (f := 21) (args := #[.pointer (some ⟨w.heap.size, 0, none⟩)]) (by simp) (by simp [go_sem]) ?_
    refine (catch_idle ⟨w.heap.size, 0, none⟩ _).mono ?_
    rintro e u' w'' ⟨rfl, rfl, rfl⟩
    have hkK : Kb (fun k => k = w.heap.size) w2 (w2.setCell ⟨w.heap.size, 0, none⟩ (.bool l'.isEmpty)) := Kb.setCell (S := fun k => k = w.heap.size) w2 ⟨w.heap.size, 0, none⟩ rfl _
    rw [HBB.out]
    have x0 : (w2.setCell ⟨w.heap.size, 0, none⟩ (.bool l'.isEmpty)).cell? ⟨w.heap.size, 0, none⟩ = some (.bool l'.isEmpty) := World.cell?_setCell_same _ _ _ c0
    have hend : Kb S w (w2.setCell ⟨w.heap.size, 0, none⟩ (.bool l'.isEmpty)) ∧ ((∃ l2 : List UInt8, Ending.returned (.bool l'.isEmpty) = Ending.returned (.bool l2.isEmpty) ∧ X l2 (w2.setCell ⟨w.heap.size, 0, none⟩ (.bool l'.isEmpty))) ∨ (Ending.returned (.bool l'.isEmpty) = Ending.returned (.bool false) ∧ Y (w2.setCell ⟨w.heap.size, 0, none⟩ (.bool l'.isEmpty)))) :=
      ⟨HF.out _ _ HK.out hkK, Or.inl ⟨l', rfl, HX.out _ _ _ HXx.out hkK⟩⟩
    generalize w2.setCell ⟨w.heap.size, 0, none⟩ (.bool l'.isEmpty) = w3 at *
    show Leaves _ _ _ _ [] (settle .returning) _
    refine ⟨.bool l'.isEmpty, by simp [results, Try.results7, go_sem, x0], hend⟩
  · have c0 := (hk.cell (p := ⟨w.heap.size, 0, none⟩) (by show w.heap.size < _; omega) (by rintro (e | e); exact absurd e (by simp); exact HNS.out _ (Nat.le_refl _) e)).trans hk0
    have cf := (hk.frozen (p := ⟨w.heap.size, 0, none⟩) (by show w.heap.size < _; omega) (by rintro (e | e); exact absurd e (by simp); exact HNS.out _ (Nat.le_refl _) e)).trans hf0
    refine leaves_cons (f := 21) (args := #[.pointer (some ⟨w.heap.size, 0, none⟩)]) (by simp) (by simp [go_sem]) ?_
    refine (catch_panicking ⟨w.heap.size, 0, none⟩ _ _ c0 cf).mono ?_
    rintro e u' w'' ⟨rfl, rfl, rfl⟩
    have hkK : Kb (fun k => k = w.heap.size) w2 ((w2.alloc (.cells #[] 57)).setCell ⟨w.heap.size, 0, none⟩ (.bool false)) := (Kb.alloc _ w2 _).trans (Kb.setCell (S := fun k => k = w.heap.size) _ ⟨w.heap.size, 0, none⟩ rfl _)
    have x0 : ((w2.alloc (.cells #[] 57)).setCell ⟨w.heap.size, 0, none⟩ (.bool false)).cell? ⟨w.heap.size, 0, none⟩ = some (.bool false) := World.cell?_setCell_same _ _ _ ((World.cell?_alloc_lt _ _ _ (by have := hk.size; show w.heap.size < _; omega)).trans c0)
    have hend := HF.out _ _ hk hkK
    have hy2 := HY.out _ _ hy hkK
    generalize (w2.alloc (.cells #[] 57)).setCell ⟨w.heap.size, 0, none⟩ (.bool false) = w3 at *
    show Leaves _ _ _ _ [] (settle (.panicking [{ v := .iface 57 (.agg #[]), recovered := true }])) _
    refine ⟨.bool false, by simp [results, Try.results7, go_sem, x0], hend, Or.inr ⟨rfl, hy2⟩⟩
end Go.Proofs.Ytecfbbddhnkilaa
