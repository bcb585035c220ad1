/- codec.Reader: Value. -/
import Derived.Test.YtecfbbddhnkilaaRd4
import Derived.Test.YtecfbbddhnkilaaAtP
namespace Go.Proofs.Ytecfbbddhnkilaa
open Go.RowKit
open Go.Proofs
set_option maxRecDepth 100000

/-- An attribute of that name, and the value that bytes are; what is left of them. -/
def rValue (nm : ByteArray) : List UInt8 → Option (At × List UInt8)
  | [] => none
  | c :: t =>
    if c.toNat = 0 then (rLong t).map fun p => (⟨nm, 0, wrap64 p.1, 0, ⟨#[]⟩, false⟩, p.2)
    else if c.toNat = 1 then (rNum t).map fun p => (⟨nm, 1, 0, p.1, ⟨#[]⟩, false⟩, p.2)
    else if c.toNat = 2 then (rShort t).map fun p => (⟨nm, 2, 0, 0, p.1, false⟩, p.2)
    else if c.toNat = 3 then (rYes t).map fun p => (⟨nm, 3, 0, 0, ⟨#[]⟩, p.1⟩, p.2)
    else none
def valQ (a : At) : Value := val a.k a.n a.x a.s a.y

/-- Five cells that have been written. -/
theorem five {W : World} {R : Nat} (v0 v1 v2 v3 v4 : Value) {u0 u1 u2 u3 u4 : Value} (h0 : W.cell? ⟨R, 0, none⟩ = some u0) (h1 : W.cell? ⟨R, 1, none⟩ = some u1) (h2 : W.cell? ⟨R, 2, none⟩ = some u2) (h3 : W.cell? ⟨R, 3, none⟩ = some u3) (h4 : W.cell? ⟨R, 4, none⟩ = some u4) :
    let X := ((((W.setCell ⟨R, 0, none⟩ v0).setCell ⟨R, 1, none⟩ v1).setCell ⟨R, 2, none⟩ v2).setCell ⟨R, 3, none⟩ v3).setCell ⟨R, 4, none⟩ v4
    X.cell? ⟨R, 0, none⟩ = some v0 ∧ X.cell? ⟨R, 1, none⟩ = some v1 ∧ X.cell? ⟨R, 2, none⟩ = some v2 ∧ X.cell? ⟨R, 3, none⟩ = some v3 ∧ X.cell? ⟨R, 4, none⟩ = some v4 := by
  refine ⟨?_, ?_, ?_, ?_, ?_⟩
  · rw [oth (by decide), oth (by decide), oth (by decide), oth (by decide)]; exact World.cell?_setCell_same _ _ _ h0
  · rw [oth (by decide), oth (by decide), oth (by decide)]; exact World.cell?_setCell_same _ _ _ (by rw [oth (by decide)]; exact h1)
  · rw [oth (by decide), oth (by decide)]; exact World.cell?_setCell_same _ _ _ (by rw [oth (by decide), oth (by decide)]; exact h2)
  · rw [oth (by decide)]; exact World.cell?_setCell_same _ _ _ (by rw [oth (by decide), oth (by decide), oth (by decide)]; exact h3)
  · exact World.cell?_setCell_same _ _ _ (by rw [oth (by decide), oth (by decide), oth (by decide), oth (by decide)]; exact h4)

set_option maxHeartbeats 2000000 in
theorem value0_ok (R : Nat) (c : UInt8) (t t2 : List UInt8) (m : Int) (w : World) (h : Rd w R (c :: t)) (hk : c.toNat = 0) (hn : rLong t = some (m, t2)) :
    Calls Try.prog 25 #[.pointer (some ⟨R, 0, none⟩)] w fun e w' => e = .returned (val 0 (wrap64 m) 0 ⟨#[]⟩ false) ∧ Aside (Rd w' R t2 ∧ Kb (· = R) w w') := by
  have hR := h.lt
  have HRL : Aside (R < w.heap.size) := hR
  have HA : Aside (Rd (w.alloc (.cells #[.int .i64 0, .int .i64 0, .float .f64 0, .string ⟨#[]⟩, .bool false] 28)) R (c :: t)) := h.kb (Kb.alloc (fun k => k = w.heap.size) _ _) (by intro k hk e; omega)
  have hc := byte_ok R c t _ HA.out
  rw [hk] at hc
  have HL : Aside (∀ W, Rd W R t → Calls Try.prog 39 #[.pointer (some ⟨R, 0, none⟩)] W fun e w' => e = .returned (.int .u64 m) ∧ Aside (Rd w' R t2 ∧ Kb (· = R) W w')) := fun W hW => by
    obtain ⟨h8, rfl, rfl, _, _⟩ := rLong_some hn
    exact long_ok R t W hW h8
  clear h hk hn hR
  go_enter Try.func25, Try.ntmps25
  go_wp2_with fail
  refine hc.mono ?_
  rintro e w1 ⟨rfl, hB⟩
  have hkb := hB.out.2
  have hsz : w.heap.size < w1.heap.size := by have := hkb.size; simp at this; omega
  have aa := fun i => (hkb.cell (p := ⟨w.heap.size, i, none⟩) (by simp) (by show ¬ w.heap.size = R; have := HRL.out; omega)).trans (World.cell?_alloc_new w #[.int .i64 0, .int .i64 0, .float .f64 0, .string ⟨#[]⟩, .bool false] 28 i)
  have ff := fun i => (hkb.frozen (p := ⟨w.heap.size, i, none⟩) (by simp) (by show ¬ w.heap.size = R; have := HRL.out; omega)).trans (alloc_frozen w #[.int .i64 0, .int .i64 0, .float .f64 0, .string ⟨#[]⟩, .bool false] 28 i)
  have HKB : Aside (Kb (· = R) w w1) := (Kb.alloc _ _ _).trans hkb
  have HR1 : Aside (Rd w1 R t) := hB.out.1
  have AA : Aside _ := aa
  have FF : Aside _ := ff
  clear aa ff hkb hB HA hc
  generalize hAe : w.heap.size = A at *
  go_wp2_with fail
  have hR2 : Rd (w1.alloc (.cells #[.int .i64 0, .int .i64 0, .float .f64 0, .string ⟨#[]⟩, .bool false] 28)) R t := HR1.out.kb (Kb.alloc (fun k => k = w1.heap.size) _ _) (by intro k hk e; have := HR1.out.lt; omega)
  refine (HL.out _ hR2).mono ?_
  rintro e w3 ⟨rfl, hC⟩
  have hkc := hC.out.2
  have hAl : A < (w1.alloc (.cells #[.int .i64 0, .int .i64 0, .float .f64 0, .string ⟨#[]⟩, .bool false] 28)).heap.size := by simp; omega
  have hAR : ¬ A = R := by have := HRL.out; omega
  have hVR : ¬ w1.heap.size = R := by have := HR1.out.lt; omega
  have yy := fun i => (hkc.cell (p := ⟨w1.heap.size, i, none⟩) (by simp) hVR).trans (World.cell?_alloc_new w1 #[.int .i64 0, .int .i64 0, .float .f64 0, .string ⟨#[]⟩, .bool false] 28 i)
  have gg := fun i => (hkc.frozen (p := ⟨w1.heap.size, i, none⟩) (by simp) hVR).trans (alloc_frozen w1 #[.int .i64 0, .int .i64 0, .float .f64 0, .string ⟨#[]⟩, .bool false] 28 i)
  have aa := fun i => (hkc.cell (p := ⟨A, i, none⟩) hAl hAR).trans ((World.cell?_alloc_lt w1 (.cells #[.int .i64 0, .int .i64 0, .float .f64 0, .string ⟨#[]⟩, .bool false] 28) ⟨A, i, none⟩ hsz).trans (AA.out i))
  have ff := fun i => (hkc.frozen (p := ⟨A, i, none⟩) hAl hAR).trans ((World.frozen?_of_block (w := w1) (Below.heap_alloc w1 (.cells #[.int .i64 0, .int .i64 0, .float .f64 0, .string ⟨#[]⟩, .bool false] 28) A hsz)).trans (FF.out i))
  have y0 := yy 0; have y1 := yy 1; have y2 := yy 2; have y3 := yy 3; have y4 := yy 4
  have a0 := aa 0; have a1 := aa 1; have a2 := aa 2; have a3 := aa 3; have a4 := aa 4
  have g1 := gg 1
  have f0 := ff 0; have f1 := ff 1; have f2 := ff 2; have f3 := ff 3; have f4 := ff 4
  simp only [List.getElem?_toArray, List.getElem?_cons_zero, List.getElem?_cons_succ] at y0 y1 y2 y3 y4 a0 a1 a2 a3 a4
  have hne : ¬ A = w1.heap.size := by omega
  have hne2 : ¬ w1.heap.size = A := by omega
  have hRA : R < A := HRL.out
  have hRV : R < w1.heap.size := HR1.out.lt
  have hAV : A < w3.heap.size := by have := hkc.size; simp at this; omega
  have HK3 : Aside (Kb (· = R) w w3) := HKB.out.trans ((Kb.alloc _ _ _).trans hkc)
  have HR3 : Aside (Rd w3 R t2) := hC.out.1
  have hbig : w.heap.size ≤ w1.heap.size := by omega
  generalize w1.heap.size = V at *
  clear yy gg aa ff hkc hC AA FF HKB HR1 HL hR2 hAl HRL hsz
  go_wp2_with fail
  have o0 := (World.cell?_setCell_other w3 ⟨V, 1, none⟩ ⟨A, 0, none⟩ (.int .i64 (wrap64 m)) (by intro e; injection e; omega)).trans a0
  have o1 := (World.cell?_setCell_other w3 ⟨V, 1, none⟩ ⟨A, 1, none⟩ (.int .i64 (wrap64 m)) (by intro e; injection e; omega)).trans a1
  have o2 := (World.cell?_setCell_other w3 ⟨V, 1, none⟩ ⟨A, 2, none⟩ (.int .i64 (wrap64 m)) (by intro e; injection e; omega)).trans a2
  have o3 := (World.cell?_setCell_other w3 ⟨V, 1, none⟩ ⟨A, 3, none⟩ (.int .i64 (wrap64 m)) (by intro e; injection e; omega)).trans a3
  have o4 := (World.cell?_setCell_other w3 ⟨V, 1, none⟩ ⟨A, 4, none⟩ (.int .i64 (wrap64 m)) (by intro e; injection e; omega)).trans a4
  obtain ⟨x0, x1, x2, x3, x4⟩ := five (.int .i64 0) (.int .i64 (wrap64 m)) (.float .f64 0) (.string ⟨#[]⟩) (.bool false) o0 o1 o2 o3 o4
  refine bodyPost_ret (v := val 0 (wrap64 m) 0 ⟨#[]⟩ false) (by simp [results, Try.results25, go_sem, x0, x1, x2, x3, x4]) rfl ⟨rfl, ?_⟩
  have hS : ∀ k, k ≤ R → ¬ (k = V ∨ k = A) := fun k hk e => by rcases e with e | e <;> omega
  have hKK : Kb (fun k => k = V ∨ k = A) w3 ((((((w3.setCell ⟨V, 1, none⟩ (.int .i64 (wrap64 m))).setCell ⟨A, 0, none⟩ (.int .i64 0)).setCell ⟨A, 1, none⟩ (.int .i64 (wrap64 m))).setCell ⟨A, 2, none⟩ (.float .f64 0)).setCell ⟨A, 3, none⟩ (.string ⟨#[]⟩)).setCell ⟨A, 4, none⟩ (.bool false)) :=
    (((((Kb.setCell _ _ (Or.inl rfl) _).trans (Kb.setCell _ _ (Or.inr rfl) _)).trans (Kb.setCell _ _ (Or.inr rfl) _)).trans (Kb.setCell _ _ (Or.inr rfl) _)).trans (Kb.setCell _ _ (Or.inr rfl) _)).trans (Kb.setCell _ _ (Or.inr rfl) _)
  refine ⟨HR3.out.kb hKK hS, ?_⟩
  refine ⟨hKK.os.trans HK3.out.os, hKK.tape.trans HK3.out.tape, hKK.output.trans HK3.out.output, Nat.le_trans HK3.out.size hKK.size, fun k hk hnk => ?_⟩
  exact (hKK.block k (Nat.lt_of_lt_of_le hk HK3.out.size) (by rintro (e | e) <;> omega)).trans (HK3.out.block k hk hnk)
set_option maxHeartbeats 2000000 in
theorem value1_ok (R : Nat) (c : UInt8) (t t2 : List UInt8) (m : Nat) (w : World) (h : Rd w R (c :: t)) (hk : c.toNat = 1) (hn : rNum t = some (m, t2)) :
    Calls Try.prog 25 #[.pointer (some ⟨R, 0, none⟩)] w fun e w' => e = .returned (val 1 0 m ⟨#[]⟩ false) ∧ Aside (Rd w' R t2 ∧ Kb (· = R) w w') := by
  have hR := h.lt
  have HRL : Aside (R < w.heap.size) := hR
  have HA : Aside (Rd (w.alloc (.cells #[.int .i64 0, .int .i64 0, .float .f64 0, .string ⟨#[]⟩, .bool false] 28)) R (c :: t)) := h.kb (Kb.alloc (fun k => k = w.heap.size) _ _) (by intro k hk e; omega)
  have hc := byte_ok R c t _ HA.out
  rw [hk] at hc
  have HL : Aside (∀ W, Rd W R t → Calls Try.prog 40 #[.pointer (some ⟨R, 0, none⟩)] W fun e w' => e = .returned (.float .f64 m) ∧ Aside (Rd w' R t2 ∧ Kb (· = R) W w')) := fun W hW => by
    exact num_ok R t t2 m W hW hn
  clear h hk hn hR
  go_enter Try.func25, Try.ntmps25
  go_wp2_with fail
  refine hc.mono ?_
  rintro e w1 ⟨rfl, hB⟩
  have hkb := hB.out.2
  have hsz : w.heap.size < w1.heap.size := by have := hkb.size; simp at this; omega
  have aa := fun i => (hkb.cell (p := ⟨w.heap.size, i, none⟩) (by simp) (by show ¬ w.heap.size = R; have := HRL.out; omega)).trans (World.cell?_alloc_new w #[.int .i64 0, .int .i64 0, .float .f64 0, .string ⟨#[]⟩, .bool false] 28 i)
  have ff := fun i => (hkb.frozen (p := ⟨w.heap.size, i, none⟩) (by simp) (by show ¬ w.heap.size = R; have := HRL.out; omega)).trans (alloc_frozen w #[.int .i64 0, .int .i64 0, .float .f64 0, .string ⟨#[]⟩, .bool false] 28 i)
  have HKB : Aside (Kb (· = R) w w1) := (Kb.alloc _ _ _).trans hkb
  have HR1 : Aside (Rd w1 R t) := hB.out.1
  have AA : Aside _ := aa
  have FF : Aside _ := ff
  clear aa ff hkb hB HA hc
  generalize hAe : w.heap.size = A at *
  go_wp2_with fail
  have hR2 : Rd (w1.alloc (.cells #[.int .i64 1, .int .i64 0, .float .f64 0, .string ⟨#[]⟩, .bool false] 28)) R t := HR1.out.kb (Kb.alloc (fun k => k = w1.heap.size) _ _) (by intro k hk e; have := HR1.out.lt; omega)
  refine (HL.out _ hR2).mono ?_
  rintro e w3 ⟨rfl, hC⟩
  have hkc := hC.out.2
  have hAl : A < (w1.alloc (.cells #[.int .i64 1, .int .i64 0, .float .f64 0, .string ⟨#[]⟩, .bool false] 28)).heap.size := by simp; omega
  have hAR : ¬ A = R := by have := HRL.out; omega
  have hVR : ¬ w1.heap.size = R := by have := HR1.out.lt; omega
  have yy := fun i => (hkc.cell (p := ⟨w1.heap.size, i, none⟩) (by simp) hVR).trans (World.cell?_alloc_new w1 #[.int .i64 1, .int .i64 0, .float .f64 0, .string ⟨#[]⟩, .bool false] 28 i)
  have gg := fun i => (hkc.frozen (p := ⟨w1.heap.size, i, none⟩) (by simp) hVR).trans (alloc_frozen w1 #[.int .i64 1, .int .i64 0, .float .f64 0, .string ⟨#[]⟩, .bool false] 28 i)
  have aa := fun i => (hkc.cell (p := ⟨A, i, none⟩) hAl hAR).trans ((World.cell?_alloc_lt w1 (.cells #[.int .i64 1, .int .i64 0, .float .f64 0, .string ⟨#[]⟩, .bool false] 28) ⟨A, i, none⟩ hsz).trans (AA.out i))
  have ff := fun i => (hkc.frozen (p := ⟨A, i, none⟩) hAl hAR).trans ((World.frozen?_of_block (w := w1) (Below.heap_alloc w1 (.cells #[.int .i64 1, .int .i64 0, .float .f64 0, .string ⟨#[]⟩, .bool false] 28) A hsz)).trans (FF.out i))
  have y0 := yy 0; have y1 := yy 1; have y2 := yy 2; have y3 := yy 3; have y4 := yy 4
  have a0 := aa 0; have a1 := aa 1; have a2 := aa 2; have a3 := aa 3; have a4 := aa 4
  have g2 := gg 2
  have f0 := ff 0; have f1 := ff 1; have f2 := ff 2; have f3 := ff 3; have f4 := ff 4
  simp only [List.getElem?_toArray, List.getElem?_cons_zero, List.getElem?_cons_succ] at y0 y1 y2 y3 y4 a0 a1 a2 a3 a4
  have hne : ¬ A = w1.heap.size := by omega
  have hne2 : ¬ w1.heap.size = A := by omega
  have hRA : R < A := HRL.out
  have hRV : R < w1.heap.size := HR1.out.lt
  have hAV : A < w3.heap.size := by have := hkc.size; simp at this; omega
  have HK3 : Aside (Kb (· = R) w w3) := HKB.out.trans ((Kb.alloc _ _ _).trans hkc)
  have HR3 : Aside (Rd w3 R t2) := hC.out.1
  have hbig : w.heap.size ≤ w1.heap.size := by omega
  generalize w1.heap.size = V at *
  clear yy gg aa ff hkc hC AA FF HKB HR1 HL hR2 hAl HRL hsz
  go_wp2_with fail
  have o0 := (World.cell?_setCell_other w3 ⟨V, 2, none⟩ ⟨A, 0, none⟩ (.float .f64 m) (by intro e; injection e; omega)).trans a0
  have o1 := (World.cell?_setCell_other w3 ⟨V, 2, none⟩ ⟨A, 1, none⟩ (.float .f64 m) (by intro e; injection e; omega)).trans a1
  have o2 := (World.cell?_setCell_other w3 ⟨V, 2, none⟩ ⟨A, 2, none⟩ (.float .f64 m) (by intro e; injection e; omega)).trans a2
  have o3 := (World.cell?_setCell_other w3 ⟨V, 2, none⟩ ⟨A, 3, none⟩ (.float .f64 m) (by intro e; injection e; omega)).trans a3
  have o4 := (World.cell?_setCell_other w3 ⟨V, 2, none⟩ ⟨A, 4, none⟩ (.float .f64 m) (by intro e; injection e; omega)).trans a4
  obtain ⟨x0, x1, x2, x3, x4⟩ := five (.int .i64 1) (.int .i64 0) (.float .f64 m) (.string ⟨#[]⟩) (.bool false) o0 o1 o2 o3 o4
  refine bodyPost_ret (v := val 1 0 m ⟨#[]⟩ false) (by simp [results, Try.results25, go_sem, x0, x1, x2, x3, x4]) rfl ⟨rfl, ?_⟩
  have hS : ∀ k, k ≤ R → ¬ (k = V ∨ k = A) := fun k hk e => by rcases e with e | e <;> omega
  have hKK : Kb (fun k => k = V ∨ k = A) w3 ((((((w3.setCell ⟨V, 2, none⟩ (.float .f64 m)).setCell ⟨A, 0, none⟩ (.int .i64 1)).setCell ⟨A, 1, none⟩ (.int .i64 0)).setCell ⟨A, 2, none⟩ (.float .f64 m)).setCell ⟨A, 3, none⟩ (.string ⟨#[]⟩)).setCell ⟨A, 4, none⟩ (.bool false)) :=
    (((((Kb.setCell _ _ (Or.inl rfl) _).trans (Kb.setCell _ _ (Or.inr rfl) _)).trans (Kb.setCell _ _ (Or.inr rfl) _)).trans (Kb.setCell _ _ (Or.inr rfl) _)).trans (Kb.setCell _ _ (Or.inr rfl) _)).trans (Kb.setCell _ _ (Or.inr rfl) _)
  refine ⟨HR3.out.kb hKK hS, ?_⟩
  refine ⟨hKK.os.trans HK3.out.os, hKK.tape.trans HK3.out.tape, hKK.output.trans HK3.out.output, Nat.le_trans HK3.out.size hKK.size, fun k hk hnk => ?_⟩
  exact (hKK.block k (Nat.lt_of_lt_of_le hk HK3.out.size) (by rintro (e | e) <;> omega)).trans (HK3.out.block k hk hnk)
set_option maxHeartbeats 2000000 in
theorem value2_ok (R : Nat) (c : UInt8) (t t2 : List UInt8) (m : ByteArray) (w : World) (h : Rd w R (c :: t)) (hk : c.toNat = 2) (hn : rShort t = some (m, t2)) :
    Calls Try.prog 25 #[.pointer (some ⟨R, 0, none⟩)] w fun e w' => e = .returned (val 2 0 0 m false) ∧ Aside (Rd w' R t2 ∧ Kb (· = R) w w') := by
  have hR := h.lt
  have HRL : Aside (R < w.heap.size) := hR
  have HA : Aside (Rd (w.alloc (.cells #[.int .i64 0, .int .i64 0, .float .f64 0, .string ⟨#[]⟩, .bool false] 28)) R (c :: t)) := h.kb (Kb.alloc (fun k => k = w.heap.size) _ _) (by intro k hk e; omega)
  have hc := byte_ok R c t _ HA.out
  rw [hk] at hc
  have HL : Aside (∀ W, Rd W R t → Calls Try.prog 41 #[.pointer (some ⟨R, 0, none⟩)] W fun e w' => e = .returned (.string m) ∧ Aside (Rd w' R t2 ∧ Kb (· = R) W w')) := fun W hW => by
    exact short_ok R t t2 m W hW hn
  clear h hk hn hR
  go_enter Try.func25, Try.ntmps25
  go_wp2_with fail
  refine hc.mono ?_
  rintro e w1 ⟨rfl, hB⟩
  have hkb := hB.out.2
  have hsz : w.heap.size < w1.heap.size := by have := hkb.size; simp at this; omega
  have aa := fun i => (hkb.cell (p := ⟨w.heap.size, i, none⟩) (by simp) (by show ¬ w.heap.size = R; have := HRL.out; omega)).trans (World.cell?_alloc_new w #[.int .i64 0, .int .i64 0, .float .f64 0, .string ⟨#[]⟩, .bool false] 28 i)
  have ff := fun i => (hkb.frozen (p := ⟨w.heap.size, i, none⟩) (by simp) (by show ¬ w.heap.size = R; have := HRL.out; omega)).trans (alloc_frozen w #[.int .i64 0, .int .i64 0, .float .f64 0, .string ⟨#[]⟩, .bool false] 28 i)
  have HKB : Aside (Kb (· = R) w w1) := (Kb.alloc _ _ _).trans hkb
  have HR1 : Aside (Rd w1 R t) := hB.out.1
  have AA : Aside _ := aa
  have FF : Aside _ := ff
  clear aa ff hkb hB HA hc
  generalize hAe : w.heap.size = A at *
  go_wp2_with fail
  have hR2 : Rd (w1.alloc (.cells #[.int .i64 2, .int .i64 0, .float .f64 0, .string ⟨#[]⟩, .bool false] 28)) R t := HR1.out.kb (Kb.alloc (fun k => k = w1.heap.size) _ _) (by intro k hk e; have := HR1.out.lt; omega)
  refine (HL.out _ hR2).mono ?_
  rintro e w3 ⟨rfl, hC⟩
  have hkc := hC.out.2
  have hAl : A < (w1.alloc (.cells #[.int .i64 2, .int .i64 0, .float .f64 0, .string ⟨#[]⟩, .bool false] 28)).heap.size := by simp; omega
  have hAR : ¬ A = R := by have := HRL.out; omega
  have hVR : ¬ w1.heap.size = R := by have := HR1.out.lt; omega
  have yy := fun i => (hkc.cell (p := ⟨w1.heap.size, i, none⟩) (by simp) hVR).trans (World.cell?_alloc_new w1 #[.int .i64 2, .int .i64 0, .float .f64 0, .string ⟨#[]⟩, .bool false] 28 i)
  have gg := fun i => (hkc.frozen (p := ⟨w1.heap.size, i, none⟩) (by simp) hVR).trans (alloc_frozen w1 #[.int .i64 2, .int .i64 0, .float .f64 0, .string ⟨#[]⟩, .bool false] 28 i)
  have aa := fun i => (hkc.cell (p := ⟨A, i, none⟩) hAl hAR).trans ((World.cell?_alloc_lt w1 (.cells #[.int .i64 2, .int .i64 0, .float .f64 0, .string ⟨#[]⟩, .bool false] 28) ⟨A, i, none⟩ hsz).trans (AA.out i))
  have ff := fun i => (hkc.frozen (p := ⟨A, i, none⟩) hAl hAR).trans ((World.frozen?_of_block (w := w1) (Below.heap_alloc w1 (.cells #[.int .i64 2, .int .i64 0, .float .f64 0, .string ⟨#[]⟩, .bool false] 28) A hsz)).trans (FF.out i))
  have y0 := yy 0; have y1 := yy 1; have y2 := yy 2; have y3 := yy 3; have y4 := yy 4
  have a0 := aa 0; have a1 := aa 1; have a2 := aa 2; have a3 := aa 3; have a4 := aa 4
  have g3 := gg 3
  have f0 := ff 0; have f1 := ff 1; have f2 := ff 2; have f3 := ff 3; have f4 := ff 4
  simp only [List.getElem?_toArray, List.getElem?_cons_zero, List.getElem?_cons_succ] at y0 y1 y2 y3 y4 a0 a1 a2 a3 a4
  have hne : ¬ A = w1.heap.size := by omega
  have hne2 : ¬ w1.heap.size = A := by omega
  have hRA : R < A := HRL.out
  have hRV : R < w1.heap.size := HR1.out.lt
  have hAV : A < w3.heap.size := by have := hkc.size; simp at this; omega
  have HK3 : Aside (Kb (· = R) w w3) := HKB.out.trans ((Kb.alloc _ _ _).trans hkc)
  have HR3 : Aside (Rd w3 R t2) := hC.out.1
  have hbig : w.heap.size ≤ w1.heap.size := by omega
  generalize w1.heap.size = V at *
  clear yy gg aa ff hkc hC AA FF HKB HR1 HL hR2 hAl HRL hsz
  go_wp2_with fail
  have o0 := (World.cell?_setCell_other w3 ⟨V, 3, none⟩ ⟨A, 0, none⟩ (.string m) (by intro e; injection e; omega)).trans a0
  have o1 := (World.cell?_setCell_other w3 ⟨V, 3, none⟩ ⟨A, 1, none⟩ (.string m) (by intro e; injection e; omega)).trans a1
  have o2 := (World.cell?_setCell_other w3 ⟨V, 3, none⟩ ⟨A, 2, none⟩ (.string m) (by intro e; injection e; omega)).trans a2
  have o3 := (World.cell?_setCell_other w3 ⟨V, 3, none⟩ ⟨A, 3, none⟩ (.string m) (by intro e; injection e; omega)).trans a3
  have o4 := (World.cell?_setCell_other w3 ⟨V, 3, none⟩ ⟨A, 4, none⟩ (.string m) (by intro e; injection e; omega)).trans a4
  obtain ⟨x0, x1, x2, x3, x4⟩ := five (.int .i64 2) (.int .i64 0) (.float .f64 0) (.string m) (.bool false) o0 o1 o2 o3 o4
  refine bodyPost_ret (v := val 2 0 0 m false) (by simp [results, Try.results25, go_sem, x0, x1, x2, x3, x4]) rfl ⟨rfl, ?_⟩
  have hS : ∀ k, k ≤ R → ¬ (k = V ∨ k = A) := fun k hk e => by rcases e with e | e <;> omega
  have hKK : Kb (fun k => k = V ∨ k = A) w3 ((((((w3.setCell ⟨V, 3, none⟩ (.string m)).setCell ⟨A, 0, none⟩ (.int .i64 2)).setCell ⟨A, 1, none⟩ (.int .i64 0)).setCell ⟨A, 2, none⟩ (.float .f64 0)).setCell ⟨A, 3, none⟩ (.string m)).setCell ⟨A, 4, none⟩ (.bool false)) :=
    (((((Kb.setCell _ _ (Or.inl rfl) _).trans (Kb.setCell _ _ (Or.inr rfl) _)).trans (Kb.setCell _ _ (Or.inr rfl) _)).trans (Kb.setCell _ _ (Or.inr rfl) _)).trans (Kb.setCell _ _ (Or.inr rfl) _)).trans (Kb.setCell _ _ (Or.inr rfl) _)
  refine ⟨HR3.out.kb hKK hS, ?_⟩
  refine ⟨hKK.os.trans HK3.out.os, hKK.tape.trans HK3.out.tape, hKK.output.trans HK3.out.output, Nat.le_trans HK3.out.size hKK.size, fun k hk hnk => ?_⟩
  exact (hKK.block k (Nat.lt_of_lt_of_le hk HK3.out.size) (by rintro (e | e) <;> omega)).trans (HK3.out.block k hk hnk)
set_option maxHeartbeats 2000000 in
theorem value3_ok (R : Nat) (c : UInt8) (t t2 : List UInt8) (m : Bool) (w : World) (h : Rd w R (c :: t)) (hk : c.toNat = 3) (hn : rYes t = some (m, t2)) :
    Calls Try.prog 25 #[.pointer (some ⟨R, 0, none⟩)] w fun e w' => e = .returned (val 3 0 0 ⟨#[]⟩ m) ∧ Aside (Rd w' R t2 ∧ Kb (· = R) w w') := by
  have hR := h.lt
  have HRL : Aside (R < w.heap.size) := hR
  have HA : Aside (Rd (w.alloc (.cells #[.int .i64 0, .int .i64 0, .float .f64 0, .string ⟨#[]⟩, .bool false] 28)) R (c :: t)) := h.kb (Kb.alloc (fun k => k = w.heap.size) _ _) (by intro k hk e; omega)
  have hc := byte_ok R c t _ HA.out
  rw [hk] at hc
  have HL : Aside (∀ W, Rd W R t → Calls Try.prog 42 #[.pointer (some ⟨R, 0, none⟩)] W fun e w' => e = .returned (.bool m) ∧ Aside (Rd w' R t2 ∧ Kb (· = R) W w')) := fun W hW => by
    exact yes_ok R t t2 m W hW hn
  clear h hk hn hR
  go_enter Try.func25, Try.ntmps25
  go_wp2_with fail
  refine hc.mono ?_
  rintro e w1 ⟨rfl, hB⟩
  have hkb := hB.out.2
  have hsz : w.heap.size < w1.heap.size := by have := hkb.size; simp at this; omega
  have aa := fun i => (hkb.cell (p := ⟨w.heap.size, i, none⟩) (by simp) (by show ¬ w.heap.size = R; have := HRL.out; omega)).trans (World.cell?_alloc_new w #[.int .i64 0, .int .i64 0, .float .f64 0, .string ⟨#[]⟩, .bool false] 28 i)
  have ff := fun i => (hkb.frozen (p := ⟨w.heap.size, i, none⟩) (by simp) (by show ¬ w.heap.size = R; have := HRL.out; omega)).trans (alloc_frozen w #[.int .i64 0, .int .i64 0, .float .f64 0, .string ⟨#[]⟩, .bool false] 28 i)
  have HKB : Aside (Kb (· = R) w w1) := (Kb.alloc _ _ _).trans hkb
  have HR1 : Aside (Rd w1 R t) := hB.out.1
  have AA : Aside _ := aa
  have FF : Aside _ := ff
  clear aa ff hkb hB HA hc
  generalize hAe : w.heap.size = A at *
  go_wp2_with fail
  have hR2 : Rd (w1.alloc (.cells #[.int .i64 3, .int .i64 0, .float .f64 0, .string ⟨#[]⟩, .bool false] 28)) R t := HR1.out.kb (Kb.alloc (fun k => k = w1.heap.size) _ _) (by intro k hk e; have := HR1.out.lt; omega)
  refine (HL.out _ hR2).mono ?_
  rintro e w3 ⟨rfl, hC⟩
  have hkc := hC.out.2
  have hAl : A < (w1.alloc (.cells #[.int .i64 3, .int .i64 0, .float .f64 0, .string ⟨#[]⟩, .bool false] 28)).heap.size := by simp; omega
  have hAR : ¬ A = R := by have := HRL.out; omega
  have hVR : ¬ w1.heap.size = R := by have := HR1.out.lt; omega
  have yy := fun i => (hkc.cell (p := ⟨w1.heap.size, i, none⟩) (by simp) hVR).trans (World.cell?_alloc_new w1 #[.int .i64 3, .int .i64 0, .float .f64 0, .string ⟨#[]⟩, .bool false] 28 i)
  have gg := fun i => (hkc.frozen (p := ⟨w1.heap.size, i, none⟩) (by simp) hVR).trans (alloc_frozen w1 #[.int .i64 3, .int .i64 0, .float .f64 0, .string ⟨#[]⟩, .bool false] 28 i)
  have aa := fun i => (hkc.cell (p := ⟨A, i, none⟩) hAl hAR).trans ((World.cell?_alloc_lt w1 (.cells #[.int .i64 3, .int .i64 0, .float .f64 0, .string ⟨#[]⟩, .bool false] 28) ⟨A, i, none⟩ hsz).trans (AA.out i))
  have ff := fun i => (hkc.frozen (p := ⟨A, i, none⟩) hAl hAR).trans ((World.frozen?_of_block (w := w1) (Below.heap_alloc w1 (.cells #[.int .i64 3, .int .i64 0, .float .f64 0, .string ⟨#[]⟩, .bool false] 28) A hsz)).trans (FF.out i))
  have y0 := yy 0; have y1 := yy 1; have y2 := yy 2; have y3 := yy 3; have y4 := yy 4
  have a0 := aa 0; have a1 := aa 1; have a2 := aa 2; have a3 := aa 3; have a4 := aa 4
  have g4 := gg 4
  have f0 := ff 0; have f1 := ff 1; have f2 := ff 2; have f3 := ff 3; have f4 := ff 4
  simp only [List.getElem?_toArray, List.getElem?_cons_zero, List.getElem?_cons_succ] at y0 y1 y2 y3 y4 a0 a1 a2 a3 a4
  have hne : ¬ A = w1.heap.size := by omega
  have hne2 : ¬ w1.heap.size = A := by omega
  have hRA : R < A := HRL.out
  have hRV : R < w1.heap.size := HR1.out.lt
  have hAV : A < w3.heap.size := by have := hkc.size; simp at this; omega
  have HK3 : Aside (Kb (· = R) w w3) := HKB.out.trans ((Kb.alloc _ _ _).trans hkc)
  have HR3 : Aside (Rd w3 R t2) := hC.out.1
  have hbig : w.heap.size ≤ w1.heap.size := by omega
  generalize w1.heap.size = V at *
  clear yy gg aa ff hkc hC AA FF HKB HR1 HL hR2 hAl HRL hsz
  go_wp2_with fail
  have o0 := (World.cell?_setCell_other w3 ⟨V, 4, none⟩ ⟨A, 0, none⟩ (.bool m) (by intro e; injection e; omega)).trans a0
  have o1 := (World.cell?_setCell_other w3 ⟨V, 4, none⟩ ⟨A, 1, none⟩ (.bool m) (by intro e; injection e; omega)).trans a1
  have o2 := (World.cell?_setCell_other w3 ⟨V, 4, none⟩ ⟨A, 2, none⟩ (.bool m) (by intro e; injection e; omega)).trans a2
  have o3 := (World.cell?_setCell_other w3 ⟨V, 4, none⟩ ⟨A, 3, none⟩ (.bool m) (by intro e; injection e; omega)).trans a3
  have o4 := (World.cell?_setCell_other w3 ⟨V, 4, none⟩ ⟨A, 4, none⟩ (.bool m) (by intro e; injection e; omega)).trans a4
  obtain ⟨x0, x1, x2, x3, x4⟩ := five (.int .i64 3) (.int .i64 0) (.float .f64 0) (.string ⟨#[]⟩) (.bool m) o0 o1 o2 o3 o4
  refine bodyPost_ret (v := val 3 0 0 ⟨#[]⟩ m) (by simp [results, Try.results25, go_sem, x0, x1, x2, x3, x4]) rfl ⟨rfl, ?_⟩
  have hS : ∀ k, k ≤ R → ¬ (k = V ∨ k = A) := fun k hk e => by rcases e with e | e <;> omega
  have hKK : Kb (fun k => k = V ∨ k = A) w3 ((((((w3.setCell ⟨V, 4, none⟩ (.bool m)).setCell ⟨A, 0, none⟩ (.int .i64 3)).setCell ⟨A, 1, none⟩ (.int .i64 0)).setCell ⟨A, 2, none⟩ (.float .f64 0)).setCell ⟨A, 3, none⟩ (.string ⟨#[]⟩)).setCell ⟨A, 4, none⟩ (.bool m)) :=
    (((((Kb.setCell _ _ (Or.inl rfl) _).trans (Kb.setCell _ _ (Or.inr rfl) _)).trans (Kb.setCell _ _ (Or.inr rfl) _)).trans (Kb.setCell _ _ (Or.inr rfl) _)).trans (Kb.setCell _ _ (Or.inr rfl) _)).trans (Kb.setCell _ _ (Or.inr rfl) _)
  refine ⟨HR3.out.kb hKK hS, ?_⟩
  refine ⟨hKK.os.trans HK3.out.os, hKK.tape.trans HK3.out.tape, hKK.output.trans HK3.out.output, Nat.le_trans HK3.out.size hKK.size, fun k hk hnk => ?_⟩
  exact (hKK.block k (Nat.lt_of_lt_of_le hk HK3.out.size) (by rintro (e | e) <;> omega)).trans (HK3.out.block k hk hnk)
set_option maxHeartbeats 1000000 in
theorem value_nil (R : Nat)  (w : World) (h : Rd w R []) :
    Calls Try.prog 25 #[.pointer (some ⟨R, 0, none⟩)] w fun e w' => e = .panicked gv ∧ Kb (· = R) w w' := by
  have hR := h.lt
  have HRL : Aside (R < w.heap.size) := hR
  have HA : Aside (Rd (w.alloc (.cells #[.int .i64 0, .int .i64 0, .float .f64 0, .string ⟨#[]⟩, .bool false] 28)) R []) := h.kb (Kb.alloc (fun k => k = w.heap.size) _ _) (by intro k hk e; omega)
  have hc := byte_no R _ HA.out
  clear h hR
  go_enter Try.func25, Try.ntmps25
  go_wp2_with fail
  refine hc.mono ?_
  rintro e w1 ⟨rfl, rfl⟩
  exact ⟨rfl, rfl, Kb.alloc _ _ _⟩
set_option maxHeartbeats 1000000 in
theorem value0_no (R : Nat) (c : UInt8) (t : List UInt8) (w : World) (h : Rd w R (c :: t)) (hk : c.toNat = 0) (hn : rLong t = none) :
    Calls Try.prog 25 #[.pointer (some ⟨R, 0, none⟩)] w fun e w' => e = .panicked gv ∧ Kb (· = R) w w' := by
  have hR := h.lt
  have HRL : Aside (R < w.heap.size) := hR
  have HA : Aside (Rd (w.alloc (.cells #[.int .i64 0, .int .i64 0, .float .f64 0, .string ⟨#[]⟩, .bool false] 28)) R (c :: t)) := h.kb (Kb.alloc (fun k => k = w.heap.size) _ _) (by intro k hk e; omega)
  have hc := byte_ok R c t _ HA.out
  rw [hk] at hc
  have HL : Aside (∀ W, Rd W R t → Calls Try.prog 39 #[.pointer (some ⟨R, 0, none⟩)] W fun e w' => e = .panicked gv ∧ Kb (· = R) W w') := fun W hW => by
    exact (long_no R t W hW hn).mono fun e w' q => ⟨q.1, q.2 ▸ Kb.refl _ _⟩
  clear h hk hn hR
  go_enter Try.func25, Try.ntmps25
  go_wp2_with fail
  refine hc.mono ?_
  rintro e w1 ⟨rfl, hB⟩
  have HKB : Aside (Kb (· = R) w w1) := (Kb.alloc _ _ _).trans hB.out.2
  have HR1 : Aside (Rd w1 R t) := hB.out.1
  clear hB HA hc
  go_wp2_with fail
  have hR2 : Rd (w1.alloc (.cells #[.int .i64 0, .int .i64 0, .float .f64 0, .string ⟨#[]⟩, .bool false] 28)) R t := HR1.out.kb (Kb.alloc (fun k => k = w1.heap.size) _ _) (by intro k hk e; have := HR1.out.lt; omega)
  refine (HL.out _ hR2).mono ?_
  rintro e w3 ⟨rfl, hC⟩
  exact ⟨rfl, rfl, HKB.out.trans ((Kb.alloc _ _ _).trans hC)⟩
set_option maxHeartbeats 1000000 in
theorem value1_no (R : Nat) (c : UInt8) (t : List UInt8) (w : World) (h : Rd w R (c :: t)) (hk : c.toNat = 1) (hn : rNum t = none) :
    Calls Try.prog 25 #[.pointer (some ⟨R, 0, none⟩)] w fun e w' => e = .panicked gv ∧ Kb (· = R) w w' := by
  have hR := h.lt
  have HRL : Aside (R < w.heap.size) := hR
  have HA : Aside (Rd (w.alloc (.cells #[.int .i64 0, .int .i64 0, .float .f64 0, .string ⟨#[]⟩, .bool false] 28)) R (c :: t)) := h.kb (Kb.alloc (fun k => k = w.heap.size) _ _) (by intro k hk e; omega)
  have hc := byte_ok R c t _ HA.out
  rw [hk] at hc
  have HL : Aside (∀ W, Rd W R t → Calls Try.prog 40 #[.pointer (some ⟨R, 0, none⟩)] W fun e w' => e = .panicked gv ∧ Kb (· = R) W w') := fun W hW => by
    exact num_no R t W hW hn
  clear h hk hn hR
  go_enter Try.func25, Try.ntmps25
  go_wp2_with fail
  refine hc.mono ?_
  rintro e w1 ⟨rfl, hB⟩
  have HKB : Aside (Kb (· = R) w w1) := (Kb.alloc _ _ _).trans hB.out.2
  have HR1 : Aside (Rd w1 R t) := hB.out.1
  clear hB HA hc
  go_wp2_with fail
  have hR2 : Rd (w1.alloc (.cells #[.int .i64 1, .int .i64 0, .float .f64 0, .string ⟨#[]⟩, .bool false] 28)) R t := HR1.out.kb (Kb.alloc (fun k => k = w1.heap.size) _ _) (by intro k hk e; have := HR1.out.lt; omega)
  refine (HL.out _ hR2).mono ?_
  rintro e w3 ⟨rfl, hC⟩
  exact ⟨rfl, rfl, HKB.out.trans ((Kb.alloc _ _ _).trans hC)⟩
set_option maxHeartbeats 1000000 in
theorem value2_no (R : Nat) (c : UInt8) (t : List UInt8) (w : World) (h : Rd w R (c :: t)) (hk : c.toNat = 2) (hn : rShort t = none) :
    Calls Try.prog 25 #[.pointer (some ⟨R, 0, none⟩)] w fun e w' => e = .panicked gv ∧ Kb (· = R) w w' := by
  have hR := h.lt
  have HRL : Aside (R < w.heap.size) := hR
  have HA : Aside (Rd (w.alloc (.cells #[.int .i64 0, .int .i64 0, .float .f64 0, .string ⟨#[]⟩, .bool false] 28)) R (c :: t)) := h.kb (Kb.alloc (fun k => k = w.heap.size) _ _) (by intro k hk e; omega)
  have hc := byte_ok R c t _ HA.out
  rw [hk] at hc
  have HL : Aside (∀ W, Rd W R t → Calls Try.prog 41 #[.pointer (some ⟨R, 0, none⟩)] W fun e w' => e = .panicked gv ∧ Kb (· = R) W w') := fun W hW => by
    exact short_no R t W hW hn
  clear h hk hn hR
  go_enter Try.func25, Try.ntmps25
  go_wp2_with fail
  refine hc.mono ?_
  rintro e w1 ⟨rfl, hB⟩
  have HKB : Aside (Kb (· = R) w w1) := (Kb.alloc _ _ _).trans hB.out.2
  have HR1 : Aside (Rd w1 R t) := hB.out.1
  clear hB HA hc
  go_wp2_with fail
  have hR2 : Rd (w1.alloc (.cells #[.int .i64 2, .int .i64 0, .float .f64 0, .string ⟨#[]⟩, .bool false] 28)) R t := HR1.out.kb (Kb.alloc (fun k => k = w1.heap.size) _ _) (by intro k hk e; have := HR1.out.lt; omega)
  refine (HL.out _ hR2).mono ?_
  rintro e w3 ⟨rfl, hC⟩
  exact ⟨rfl, rfl, HKB.out.trans ((Kb.alloc _ _ _).trans hC)⟩
set_option maxHeartbeats 1000000 in
theorem value3_no (R : Nat) (c : UInt8) (t : List UInt8) (w : World) (h : Rd w R (c :: t)) (hk : c.toNat = 3) (hn : rYes t = none) :
    Calls Try.prog 25 #[.pointer (some ⟨R, 0, none⟩)] w fun e w' => e = .panicked gv ∧ Kb (· = R) w w' := by
  have hR := h.lt
  have HRL : Aside (R < w.heap.size) := hR
  have HA : Aside (Rd (w.alloc (.cells #[.int .i64 0, .int .i64 0, .float .f64 0, .string ⟨#[]⟩, .bool false] 28)) R (c :: t)) := h.kb (Kb.alloc (fun k => k = w.heap.size) _ _) (by intro k hk e; omega)
  have hc := byte_ok R c t _ HA.out
  rw [hk] at hc
  have HL : Aside (∀ W, Rd W R t → Calls Try.prog 42 #[.pointer (some ⟨R, 0, none⟩)] W fun e w' => e = .panicked gv ∧ Kb (· = R) W w') := fun W hW => by
    exact yes_no R t W hW hn
  clear h hk hn hR
  go_enter Try.func25, Try.ntmps25
  go_wp2_with fail
  refine hc.mono ?_
  rintro e w1 ⟨rfl, hB⟩
  have HKB : Aside (Kb (· = R) w w1) := (Kb.alloc _ _ _).trans hB.out.2
  have HR1 : Aside (Rd w1 R t) := hB.out.1
  clear hB HA hc
  go_wp2_with fail
  have hR2 : Rd (w1.alloc (.cells #[.int .i64 3, .int .i64 0, .float .f64 0, .string ⟨#[]⟩, .bool false] 28)) R t := HR1.out.kb (Kb.alloc (fun k => k = w1.heap.size) _ _) (by intro k hk e; have := HR1.out.lt; omega)
  refine (HL.out _ hR2).mono ?_
  rintro e w3 ⟨rfl, hC⟩
  exact ⟨rfl, rfl, HKB.out.trans ((Kb.alloc _ _ _).trans hC)⟩
set_option maxHeartbeats 1000000 in
theorem value4_no (R : Nat) (c : UInt8) (t : List UInt8) (w : World) (h : Rd w R (c :: t)) (k0 : ¬ c.toNat = 0) (k1 : ¬ c.toNat = 1) (k2 : ¬ c.toNat = 2) (k3 : ¬ c.toNat = 3) :
    Calls Try.prog 25 #[.pointer (some ⟨R, 0, none⟩)] w fun e w' => e = .panicked gv ∧ Kb (· = R) w w' := by
  have hR := h.lt
  have HRL : Aside (R < w.heap.size) := hR
  have HA : Aside (Rd (w.alloc (.cells #[.int .i64 0, .int .i64 0, .float .f64 0, .string ⟨#[]⟩, .bool false] 28)) R (c :: t)) := h.kb (Kb.alloc (fun k => k = w.heap.size) _ _) (by intro k hk e; omega)
  have hc := byte_ok R c t _ HA.out
  obtain ⟨v, hv⟩ : ∃ v : Int, v = c.toNat := ⟨_, rfl⟩
  have h0 : ¬ v = 0 := by omega
  have h1 : ¬ v = 1 := by omega
  have h2 : ¬ v = 2 := by omega
  have h3 : ¬ v = 3 := by omega
  rw [← hv] at hc
  clear h hR k0 k1 k2 k3 hv
  go_enter Try.func25, Try.ntmps25
  go_wp2_with fail
  refine hc.mono ?_
  rintro e w1 ⟨rfl, hB⟩
  have HKB : Aside (Kb (· = R) w w1) := (Kb.alloc _ _ _).trans hB.out.2
  clear hB HA hc
  go_wp2_with fail
  refine (giveUp_c _).mono ?_
  rintro e w' ⟨rfl, rfl⟩
  exact ⟨rfl, rfl, HKB.out.trans (Kb.alloc _ _ _)⟩

theorem value_ok (nm : ByteArray) (R : Nat) (l t : List UInt8) (a : At) (w : World) (h : Rd w R l) (hn : rValue nm l = some (a, t)) :
    Calls Try.prog 25 #[.pointer (some ⟨R, 0, none⟩)] w fun e w' => e = .returned (valQ a) ∧ Aside (Rd w' R t ∧ Kb (· = R) w w') := by
  cases l with
  | nil => cases hn
  | cons c t0 =>
    simp only [rValue] at hn
    split at hn
    · rename_i hk
      obtain ⟨⟨m, t2⟩, hm, he⟩ := Option.map_eq_some_iff.1 hn
      simp only [Prod.mk.injEq] at he
      obtain ⟨rfl, rfl⟩ := he
      exact value0_ok R c t0 t2 m w h hk hm
    · split at hn
      · rename_i hk
        obtain ⟨⟨m, t2⟩, hm, he⟩ := Option.map_eq_some_iff.1 hn
        simp only [Prod.mk.injEq] at he
        obtain ⟨rfl, rfl⟩ := he
        exact value1_ok R c t0 t2 m w h hk hm
      · split at hn
        · rename_i hk
          obtain ⟨⟨m, t2⟩, hm, he⟩ := Option.map_eq_some_iff.1 hn
          simp only [Prod.mk.injEq] at he
          obtain ⟨rfl, rfl⟩ := he
          exact value2_ok R c t0 t2 m w h hk hm
        · split at hn
          · rename_i hk
            obtain ⟨⟨m, t2⟩, hm, he⟩ := Option.map_eq_some_iff.1 hn
            simp only [Prod.mk.injEq] at he
            obtain ⟨rfl, rfl⟩ := he
            exact value3_ok R c t0 t2 m w h hk hm
          · cases hn
theorem value_no (nm : ByteArray) (R : Nat) (l : List UInt8) (w : World) (h : Rd w R l) (hn : rValue nm l = none) :
    Calls Try.prog 25 #[.pointer (some ⟨R, 0, none⟩)] w fun e w' => e = .panicked gv ∧ Kb (· = R) w w' := by
  cases l with
  | nil => exact value_nil R w h
  | cons c t0 =>
    simp only [rValue] at hn
    split at hn
    · rename_i hk
      exact value0_no R c t0 w h hk (by simpa using hn)
    · split at hn
      · rename_i hk
        exact value1_no R c t0 w h hk (by simpa using hn)
      · split at hn
        · rename_i hk
          exact value2_no R c t0 w h hk (by simpa using hn)
        · split at hn
          · rename_i hk
            exact value3_no R c t0 w h hk (by simpa using hn)
          · rename_i k0 k1 k2 k3
            exact value4_no R c t0 w h k0 k1 k2 k3
end Go.Proofs.Ytecfbbddhnkilaa
