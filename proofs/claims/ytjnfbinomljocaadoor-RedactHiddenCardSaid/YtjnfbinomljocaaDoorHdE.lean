/- redact.Event, of any rules. -/
import Derived.Test.YtjnfbinomljocaaDoorHdH
import Derived.Test.YtjnfbinomljocaaDoorPutE
import Derived.Test.YtjnfbinomljocaaDoorGaD
import Derived.Deep.DeepCutAuto
import Derived.Deep.RegionWith
namespace Go.Proofs.YtjnfbinomljocaaDoor
open Go.RowKit Go.Shelf Go.Sort
open Go.Proofs
set_option maxRecDepth 100000

set_option maxHeartbeats 8000000 in
theorem revent_c (ao : Option Addr) (cap : Nat) (rs : List Ru) (tn : Int) (who sE : ByteArray) (eo : Option Addr) (ecap : Nat) (es : List At) (w : World) (hl : RulesB w.heap.size w ao rs) (hn : rs.length ≤ 200) (hx : ∀ r ∈ rs, ofR r 3 tn who = true → r.sc.size ≤ 300) (hE : SliceA w eo es) (hlen : es.length ≤ 39) :
    Calls Tryd.prog 10 #[.slice ao rs.length cap, .int .i64 tn, .string who, evt sE eo es.length ecap] w fun e w' => ∃ ro rcap, e = .returned (.agg #[.string sE, .slice ro (withoutL es (hidN rs tn who sE)).length rcap]) ∧ Aside (SliceA w' ro (withoutL es (hidN rs tn who sE)) ∧ Below w.heap.size w w') := by
  obtain ⟨W0, hW0⟩ : ∃ W0, W0 = (w.alloc (.cells #[.string sE, .slice eo es.length ecap] 26)).alloc (.cells #[.string ⟨#[]⟩, .slice none 0 0] 26) := ⟨_, rfl⟩
  have hB0 : Below w.heap.size w W0 := by rw [hW0]; exact ((Below.refl _ _).alloc (Nat.le_refl _) _).alloc (by simp) _
  have hz0 : W0.heap.size = w.heap.size + 2 := by rw [hW0]; simp
  have b0 : W0.cell? ⟨w.heap.size, 0, none⟩ = some (.string sE) := by
    rw [hW0, World.cell?_alloc_lt _ _ _ (by simp), World.cell?_alloc_new]; rfl
  have b1 : W0.cell? ⟨w.heap.size, 1, none⟩ = some (.slice eo es.length ecap) := by
    rw [hW0, World.cell?_alloc_lt _ _ _ (by simp), World.cell?_alloc_new]; rfl
  have b2 : W0.heap[w.heap.size + 1]? = some (.cells #[.string ⟨#[]⟩, .slice none 0 0] 26) := by
    rw [hW0]
    have := heap_alloc_new (w.alloc (.cells #[.string sE, .slice eo es.length ecap] 26)) (.cells #[.string ⟨#[]⟩, .slice none 0 0] 26)
    rw [World.size_alloc] at this; exact this
  have HKP : Aside (∀ W, Below W0.heap.size W0 W → W.cell? ⟨w.heap.size, 0, none⟩ = some (.string sE) ∧ W.cell? ⟨w.heap.size, 1, none⟩ = some (.slice eo es.length ecap) ∧ W.heap[w.heap.size + 1]? = some (.cells #[.string ⟨#[]⟩, .slice none 0 0] 26) ∧ Below w.heap.size w W) := fun W hW =>
    ⟨(hW.cell (p := ⟨w.heap.size, 0, none⟩) (by show w.heap.size < _; omega)).trans b0, (hW.cell (p := ⟨w.heap.size, 1, none⟩) (by show w.heap.size < _; omega)).trans b1, (hW.block _ (by omega)).trans b2, hB0.trans (hW.mono hB0.size)⟩
  have HHD : Aside (∀ W, Below W0.heap.size W0 W → Calls Tryd.prog 15 #[.slice ao rs.length cap, .int .i64 tn, .string who, .string sE] W fun e w' => ∃ bo bcap, e = .returned (.slice bo (hidN rs tn who sE).length bcap) ∧ Aside (TxtN W.heap.size w' bo (hidN rs tn who sE) ∧ Below W.heap.size W w')) := fun W hW =>
    hidden_c ao cap rs tn who sE W (hl.on (hB0.trans (hW.mono hB0.size))) hn hx
  have HWO : Aside (∀ (bo : Option Addr) (bcap : Nat) W, Below W0.heap.size W0 W → StrsA W bo (hidN rs tn who sE) → Calls Tryd.prog 21 #[.agg #[.string sE, .slice eo es.length ecap], .slice bo (hidN rs tn who sE).length bcap] W fun e w' => ∃ ro rcap, e = .returned (.agg #[.string sE, .slice ro (withoutL es (hidN rs tn who sE)).length rcap]) ∧
      Aside (SliceA w' ro (withoutL es (hidN rs tn who sE)) ∧ Below W.heap.size W w')) := fun bo bcap W hW hS =>
    without_c sE eo bo ecap bcap es (hidN rs tn who sE) W (hE.under (hB0.trans (hW.mono hB0.size))) hS hlen (by have := hidN_len rs tn who sE; omega)
  have HTR : Aside (∀ W W', Below W0.heap.size W0 W → Below W.heap.size W W' → Below W0.heap.size W0 W') := fun W W' h h2 => h.trans (h2.mono h.size)
  generalize hidN rs tn who sE = H at *
  generalize withoutL es H = ls at *
  generalize H.length = hlen2 at *
  generalize es.length = en at *
  have PUT : Aside (∀ (X : World) (ro : Option Addr) (rcap : Nat), X.heap[w.heap.size + 1]? = some (.cells #[.string ⟨#[]⟩, .slice none 0 0] 26) → SliceA X ro ls → Below w.heap.size w X → _) := fun X ro rcap h1 h2 h3 => putE (B := w.heap.size) (w7 := w) (X := X) (A9 := w.heap.size + 1) (ro := ro) (rcap := rcap) (ls := ls) (sE := sE) (by omega) h1 h2 h3
  have HDr : Aside (Below W0.heap.size W0 W0.drew) := below_drew1 W0
  have HR0 : Aside (Below W0.heap.size W0 W0) := Below.refl _ _
  have HW0 := Lib.hid hW0
  clear hl hx hE hB0 hz0 b0 b1 b2 hW0
  go_enter Tryd.func10, Tryd.ntmps10
  go_upto_region 1 with fail
  rw [← HW0.out]
  clear HW0
  obtain ⟨y0, y1, _, _⟩ := HKP.out _ HR0.out
  go_region_with (first
    | (go_at_call 15; (with_reducible refine (HHD.out _ HDr.out).mono ?_); rintro e w1 ⟨bo, bcap, rfl, h1⟩; have HB1 : Aside (Below W0.heap.size W0 w1) := HTR.out _ _ HDr.out h1.out.2; have HS1 : Aside (StrsA w1 bo H) := h1.out.1.strs; have p0 := (HKP.out _ HB1.out).1; have p1 := (HKP.out _ HB1.out).2.1; clear h1)
    | (go_at_call 21; (with_reducible refine (HWO.out _ _ _ HB1.out HS1.out).mono ?_); rintro e w2 ⟨ro, rcap, rfl, h2⟩; have HB2 : Aside (Below W0.heap.size W0 w2) := HTR.out _ _ HB1.out h2.out.2; have HS2 : Aside (SliceA w2 ro ls) := h2.out.1; obtain ⟨_, _, hE2, hbw2⟩ := HKP.out _ HB2.out; have y0 : w2.cell? ⟨w.heap.size + 1, 0, none⟩ = some (.string ⟨#[]⟩) := (by simp [World.cell?, hE2]); have y1 : w2.cell? ⟨w.heap.size + 1, 1, none⟩ = some (.slice none 0 0) := (by simp [World.cell?, hE2]); have f0 : w2.frozen? ⟨w.heap.size + 1, 0, none⟩ = false := (by simp [World.frozen?, hE2]); have f1 : w2.frozen? ⟨w.heap.size + 1, 1, none⟩ = false := (by simp [World.frozen?, hE2]); have HP2 := Lib.hid (PUT.out w2 ro rcap hE2 HS2.out hbw2); clear h2 hE2 hbw2))
  all_goals
    go_wp2_with fail
    obtain ⟨x0, x1, hS, hb⟩ := HP2.out
    generalize (w2.setCell ⟨w.heap.size + 1, 0, none⟩ (.string sE)).setCell ⟨w.heap.size + 1, 1, none⟩ (.slice ro ls.length rcap) = X at *
    refine bodyPost_ret (v := .agg #[.string sE, .slice ro ls.length rcap]) (by simp [results, Tryd.results10, go_sem, x0, x1]) rfl ⟨ro, rcap, rfl, hS, hb⟩
end Go.Proofs.YtjnfbinomljocaaDoor
