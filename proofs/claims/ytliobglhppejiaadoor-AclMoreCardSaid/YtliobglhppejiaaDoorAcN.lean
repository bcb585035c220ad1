/- acl's MayPublish, MayObserve, of any rules. -/
import Derived.Test.YtliobglhppejiaaDoorAcM
import Derived.Test.YtliobglhppejiaaDoorGaD
namespace Go.Proofs.YtliobglhppejiaaDoor
open Go.RowKit Go.Shelf
open Go.Proofs
set_option maxRecDepth 100000

/-- What the contracts of Match and Covers ask of a rule. -/
def OkR (r : Ru) : Prop := (∀ c ∈ r.cs, AtOk c.a) ∧ r.cs.length ≤ 4611686018427387904 ∧ r.sc.size ≤ 300
theorem ofR_kind {r : Ru} {k tn : Int} {who : ByteArray} (h : ofR r k tn who = true) : r.k = k := by
  unfold ofR at h
  simp only [Bool.and_eq_true, beq_iff_eq] at h
  exact h.1
theorem mp1_enters : ∀ args w, (callFunc 35 args).run Tryd.prog w = .ok (.enter 35 args) w := enters_of Tryd.func35 (by kernel_rfl) rfl
set_option maxHeartbeats 1000000 in
theorem mp1_c (sc : ByteArray) (co : Option Addr) (n cap : Nat) (B : Nat) (es : ByteArray) (bo : Option Addr) (en bcap : Nat) (q : Bool) (w : World) (hB : B < w.heap.size) (h0 : w.cell? ⟨B, 0, none⟩ = some (.string es)) (h1 : w.cell? ⟨B, 1, none⟩ = some (.slice bo en bcap))
    (hM : ∀ W, Below w.heap.size w W → Calls Tryd.prog 36 #[fil sc co n cap, evt es bo en bcap] W fun e w' => e = .returned (.bool q) ∧ Below W.heap.size W w') :
    Calls Tryd.prog 35 #[fil sc co n cap, .pointer (some ⟨B, 0, none⟩)] w fun e w' => e = .returned (.bool q) ∧ Below w.heap.size w w' := by
  have hB0 : Below w.heap.size w (w.alloc (.cells #[.string sc, .slice co n cap] 24)) := (Below.refl _ _).alloc (Nat.le_refl _) _
  have g0 := (hB0.cell (p := ⟨B, 0, none⟩) hB).trans h0
  have g1 := (hB0.cell (p := ⟨B, 1, none⟩) hB).trans h1
  have HM := Lib.hid (hM _ hB0)
  have HB0 := Lib.hid hB0
  clear hB0 hM h0 h1 hB
  go_enter Tryd.func35, Tryd.ntmps35
  go_wp2_with fail
  refine HM.out.mono ?_
  rintro e w1 ⟨rfl, hb⟩
  have HB1 := Lib.hid hb; clear hb
  go_wp2_with fail
  go_ret
  exact ⟨rfl, HB0.out.trans (HB1.out.mono (by simp))⟩
set_option maxHeartbeats 2000000 in
theorem mayPublish_c (ao : Option Addr) (cap : Nat) (rs : List Ru) (tn : Int) (who es : ByteArray) (bo : Option Addr) (bcap : Nat) (l : List At) (w : World) (hl : RulesB w.heap.size w ao rs) (hn : rs.length * 8 ≤ 140737488351232) (hx : ∀ r ∈ rs, r.k = 1 → OkR r)
    (hE : SliceA w bo l) (ho : ∀ a ∈ l, AtOk a) (hlen : l.length ≤ 4611686018427387904) :
    Calls Tryd.prog 17 #[.slice ao rs.length cap, .int .i64 tn, .string who, evt es bo l.length bcap] w fun e w' => e = .returned (.bool (mayPub rs tn who es l)) ∧ Below w.heap.size w w' := by
  obtain ⟨w0, hw0⟩ : ∃ w0, w0 = w.alloc (.cells #[.string es, .slice bo l.length bcap] 36) := ⟨_, rfl⟩
  have hB0 : Below w.heap.size w w0 := by rw [hw0]; exact (Below.refl _ _).alloc (Nat.le_refl _) _
  have hz : w0.heap.size = w.heap.size + 1 := by rw [hw0]; simp
  have h0 : w0.cell? ⟨w.heap.size, 0, none⟩ = some (.string es) := by rw [hw0]; exact World.cell?_alloc_new _ _ _ 0
  have h1 : w0.cell? ⟨w.heap.size, 1, none⟩ = some (.slice bo l.length bcap) := by rw [hw0]; exact World.cell?_alloc_new _ _ _ 1
  have h := may_c ao cap rs 1 tn who 35 #[.pointer (some ⟨w.heap.size, 0, none⟩)] (fun r => matchF r.sc r.cs es l) w0 (hl.on hB0) hn mp1_enters (fun r hr hof W hW => by
    have hbw : Below w.heap.size w W := hB0.trans (hW.mono hB0.size)
    refine mp1_c r.sc r.co r.cs.length r.cap w.heap.size es bo l.length bcap _ W (by have := hW.size; omega) ((hW.cell (p := ⟨w.heap.size, 0, none⟩) (by show w.heap.size < _; omega)).trans h0) ((hW.cell (p := ⟨w.heap.size, 1, none⟩) (by show w.heap.size < _; omega)).trans h1) (fun W2 hW2 => ?_)
    have hbw2 : Below w.heap.size w W2 := hbw.trans (hW2.mono hbw.size)
    obtain ⟨x1, x2, x3⟩ := hx r hr (ofR_kind hof)
    exact fmatch_c r.sc r.co r.cap r.cs es bo bcap l W2 ((hl.2 r hr).on hbw2) x1 x2 (hE.under hbw2) ho hlen x3)
  have HM := Lib.hid (show Calls Tryd.prog _ _ _ fun e w' => e = .returned (.bool (mayPub rs tn who es l)) ∧ _ from h)
  generalize mayPub rs tn who es l = m at *
  generalize rs.length = N at *
  generalize l.length = en at *
  have HB0 := Lib.hid hB0
  have HW0 := Lib.hid hw0
  clear h h0 h1 hB0 hl hn hx hE ho hlen hw0
  go_enter Tryd.func17, Tryd.ntmps17
  go_upto_region 1 with fail
  rw [← HW0.out]
  go_wp2_with fail
  refine HM.out.mono ?_
  rintro e w1 ⟨rfl, hb⟩
  have HB1 := Lib.hid hb; clear hb
  go_wp2_with fail
  go_ret
  exact ⟨rfl, HB0.out.trans (HB1.out.mono HB0.out.size)⟩
theorem mo1_enters : ∀ args w, (callFunc 38 args).run Tryd.prog w = .ok (.enter 38 args) w := enters_of Tryd.func38 (by kernel_rfl) rfl
set_option maxHeartbeats 1000000 in
theorem mo1_c (sc : ByteArray) (co : Option Addr) (n cap : Nat) (B : Nat) (gs : ByteArray) (dd : Option Addr) (dn dcap : Nat) (q : Bool) (w : World) (hB : B < w.heap.size) (h0 : w.cell? ⟨B, 0, none⟩ = some (.string gs)) (h1 : w.cell? ⟨B, 1, none⟩ = some (.slice dd dn dcap))
    (hM : ∀ W, Below w.heap.size w W → Calls Tryd.prog 39 #[fil sc co n cap, fil gs dd dn dcap] W fun e w' => e = .returned (.bool q) ∧ Below W.heap.size W w') :
    Calls Tryd.prog 38 #[fil sc co n cap, .pointer (some ⟨B, 0, none⟩)] w fun e w' => e = .returned (.bool q) ∧ Below w.heap.size w w' := by
  have hB0 : Below w.heap.size w (w.alloc (.cells #[.string sc, .slice co n cap] 24)) := (Below.refl _ _).alloc (Nat.le_refl _) _
  have g0 := (hB0.cell (p := ⟨B, 0, none⟩) hB).trans h0
  have g1 := (hB0.cell (p := ⟨B, 1, none⟩) hB).trans h1
  have HM := Lib.hid (hM _ hB0)
  have HB0 := Lib.hid hB0
  clear hB0 hM h0 h1 hB
  go_enter Tryd.func38, Tryd.ntmps38
  go_wp2_with fail
  refine HM.out.mono ?_
  rintro e w1 ⟨rfl, hb⟩
  have HB1 := Lib.hid hb; clear hb
  go_wp2_with fail
  go_ret
  exact ⟨rfl, HB0.out.trans (HB1.out.mono (by simp))⟩
set_option maxHeartbeats 2000000 in
theorem mayObserve_c (ao : Option Addr) (cap : Nat) (rs : List Ru) (tn : Int) (who gs : ByteArray) (dd : Option Addr) (dcap : Nat) (ds : List Cn) (w : World) (hl : RulesB w.heap.size w ao rs) (hn : rs.length * 8 ≤ 140737488351232) (hx : ∀ r ∈ rs, r.k = 2 → OkR r)
    (hE : CondsB w.heap.size w dd ds) (ho : ∀ c ∈ ds, AtOk c.a) (hlen : ds.length ≤ 4611686018427387904) :
    Calls Tryd.prog 20 #[.slice ao rs.length cap, .int .i64 tn, .string who, fil gs dd ds.length dcap] w fun e w' => e = .returned (.bool (mayObs rs tn who gs ds)) ∧ Below w.heap.size w w' := by
  obtain ⟨w0, hw0⟩ : ∃ w0, w0 = w.alloc (.cells #[.string gs, .slice dd ds.length dcap] 24) := ⟨_, rfl⟩
  have hB0 : Below w.heap.size w w0 := by rw [hw0]; exact (Below.refl _ _).alloc (Nat.le_refl _) _
  have hz : w0.heap.size = w.heap.size + 1 := by rw [hw0]; simp
  have h0 : w0.cell? ⟨w.heap.size, 0, none⟩ = some (.string gs) := by rw [hw0]; exact World.cell?_alloc_new _ _ _ 0
  have h1 : w0.cell? ⟨w.heap.size, 1, none⟩ = some (.slice dd ds.length dcap) := by rw [hw0]; exact World.cell?_alloc_new _ _ _ 1
  have h := may_c ao cap rs 2 tn who 38 #[.pointer (some ⟨w.heap.size, 0, none⟩)] (fun r => coversF r.sc r.cs gs ds) w0 (hl.on hB0) hn mo1_enters (fun r hr hof W hW => by
    have hbw : Below w.heap.size w W := hB0.trans (hW.mono hB0.size)
    refine mo1_c r.sc r.co r.cs.length r.cap w.heap.size gs dd ds.length dcap _ W (by have := hW.size; omega) ((hW.cell (p := ⟨w.heap.size, 0, none⟩) (by show w.heap.size < _; omega)).trans h0) ((hW.cell (p := ⟨w.heap.size, 1, none⟩) (by show w.heap.size < _; omega)).trans h1) (fun W2 hW2 => ?_)
    have hbw2 : Below w.heap.size w W2 := hbw.trans (hW2.mono hbw.size)
    obtain ⟨x1, x2, x3⟩ := hx r hr (ofR_kind hof)
    exact fcovers_c r.sc r.co r.cap r.cs gs dd dcap ds W2 ((hl.2 r hr).on hbw2) x1 x2 (hE.on hbw2) ho hlen x3)
  have HM := Lib.hid (show Calls Tryd.prog _ _ _ fun e w' => e = .returned (.bool (mayObs rs tn who gs ds)) ∧ _ from h)
  generalize mayObs rs tn who gs ds = m at *
  generalize rs.length = N at *
  generalize ds.length = dn at *
  have HB0 := Lib.hid hB0
  have HW0 := Lib.hid hw0
  clear h h0 h1 hB0 hl hn hx hE ho hlen hw0
  go_enter Tryd.func20, Tryd.ntmps20
  go_upto_region 1 with fail
  rw [← HW0.out]
  go_wp2_with fail
  refine HM.out.mono ?_
  rintro e w1 ⟨rfl, hb⟩
  have HB1 := Lib.hid hb; clear hb
  go_wp2_with fail
  go_ret
  exact ⟨rfl, HB0.out.trans (HB1.out.mono HB0.out.size)⟩
end Go.Proofs.YtliobglhppejiaaDoor
