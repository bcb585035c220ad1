/- codec.Writer: fits, Byte of one number. -/
import Derived.Test.YtecfbbddhnkilaaRd8
import Derived.Lib.AppendStr
namespace Go.Proofs.Ytecfbbddhnkilaa
open Go.RowKit Go.Shelf Go.Sort
open Go.Proofs
set_option maxRecDepth 100000
attribute [local go_sem ↓] append_pre

def encB (c : UInt8) : Value := .int .u8 (c.toNat : Int)
/-- A Writer that lies at block P, and has laid so many bytes, in memory of its own from block B on. -/
structure Wr (W : World) (P B : Nat) (l : List UInt8) : Prop where
  pb : P < B
  bw : B ≤ W.heap.size
  fr : W.frozen? ⟨P, 0, none⟩ = false
  is : ∃ ao cap, W.cell? ⟨P, 0, none⟩ = some (.slice ao l.length cap) ∧ W.ownsRow B 5 1 (.slice ao l.length cap) l.length (l.map encB)

theorem own1_kb {S : Nat → Prop} {w w' : World} {base : Nat} {e : TypeId} {v : Value} {n : Nat} {xs : List Value} (h : w.ownsRow base e 1 v n xs) (hk : Kb S w w') (hS : ∀ k, base ≤ k → k < w.heap.size → ¬ S k) : w'.ownsRow base e 1 v n xs := by
  obtain ⟨h1, h2⟩ := h
  refine ⟨h1, ?_⟩
  rcases h2 with h2 | ⟨g, cap, cur, hv, hb, hg, hr⟩
  · exact Or.inl h2
  · have hlt : g < w.heap.size := (Array.getElem?_eq_some_iff.1 hg).1
    exact Or.inr ⟨g, cap, cur, hv, hb, (hk.block g hlt (hS g hb hlt)).trans hg, hr⟩
theorem Wr.kb {S : Nat → Prop} {w w' : World} {P B : Nat} {l : List UInt8} (h : Wr w P B l) (hk : Kb S w w') (hS : ∀ k, k < w.heap.size → (k = P ∨ B ≤ k) → ¬ S k) : Wr w' P B l := by
  obtain ⟨ao, cap, h1, h2⟩ := h.is
  have hP : P < w.heap.size := Nat.lt_of_lt_of_le h.pb h.bw
  exact ⟨h.pb, Nat.le_trans h.bw hk.size, (hk.frozen (p := ⟨P, 0, none⟩) hP (hS P hP (Or.inl rfl))).trans h.fr, ao, cap, (hk.cell (p := ⟨P, 0, none⟩) hP (hS P hP (Or.inl rfl))).trans h1, own1_kb h2 hk fun k h1 h2 => hS k h2 (Or.inr h1)⟩
theorem Wr.alloc {w : World} {P B : Nat} {l : List UInt8} (h : Wr w P B l) (o : Obj) : Wr (w.alloc o) P B l := h.kb (Kb.alloc (fun _ => False) w o) (fun _ _ _ h => h)
theorem Wr.drew {w : World} {P B : Nat} {l : List UInt8} (h : Wr w P B l) : Wr w.drew P B l := h.kb (Kb.drew (fun _ => False) w) (fun _ _ _ h => h)

theorem row1_slice {w : World} {base : Nat} {e : TypeId} {v : Value} {n : Nat} {xs : List Value} (h : w.ownsRow base e 1 v n xs) : ∃ ao cap, v = .slice ao n cap ∧ (n = 0 ∨ ∃ g, ao = some ⟨g, 0, none⟩ ∧ base ≤ g ∧ g < w.heap.size ∧ ∀ j, j < n → w.cell? ⟨g, j, none⟩ = xs[j]?) := by
  have h' := h
  rcases h.2 with ⟨rfl, rfl⟩ | ⟨g, cap, cur, rfl, hbg, hg, _⟩
  · exact ⟨none, 0, rfl, Or.inl rfl⟩
  · exact ⟨some ⟨g, 0, none⟩, cap, rfl, Or.inr ⟨g, rfl, hbg, (Array.getElem?_eq_some_iff.1 hg).1, fun j hj => h'.cellAt j (by omega)⟩⟩

set_option maxHeartbeats 400000 in
theorem fits_c (x : Int) (w : World) : Calls Try.prog 34 #[.int .i64 x] w fun e w' => e = .returned (.bool (decide (0 ≤ x) && decide (x ≤ 255))) ∧ w = w' := by
  cases h : decide (0 ≤ x)
  · go_enter Try.func34, Try.ntmps34
    go_wp2
    go_ret
    exact ⟨rfl, rfl⟩
  · go_enter Try.func34, Try.ntmps34
    go_wp2
    go_ret
    exact ⟨rfl, rfl⟩

theorem u8_info : ∃ i z, Try.prog.info? 5 = some i ∧ i.zero = some z ∧ i.size = 1 ∧ i.bytes = 1 ∧ z.cells.size = 1 := by
  obtain ⟨i, hi, h⟩ := Option.bind_eq_some_iff.1 (show (Try.prog.info? 5).bind (fun i => i.zero.map fun z => (i.size, i.bytes, z.cells.size)) = some (1, 1, 1) by kernel_rfl)
  obtain ⟨z, hz, h⟩ := Option.map_eq_some_iff.1 h
  simp only [Prod.mk.injEq] at h
  exact ⟨i, z, hi, hz, h.1, h.2.1, h.2.2⟩
theorem encB_one (l : List UInt8) : ∀ u ∈ l.map encB, u.oneCell' = true := fun u h => by
  obtain ⟨c, _, rfl⟩ := List.mem_map.1 h
  rfl

/-- Block k is where the Writer at P has its row. -/
def RowOf (W : World) (P k : Nat) : Prop := ∃ ao n cap, W.cell? ⟨P, 0, none⟩ = some (.slice ao n cap) ∧ (Value.slice ao n cap).ownBlock = some k
/-- What a Writer's call turns: its own cell, and its row; which may be a new one behind it. -/
structure Wk (P : Nat) (w w' : World) : Prop where
  kb : Kb (fun k => k = P ∨ RowOf w P k) w w'
  row : ∀ k, RowOf w' P k → RowOf w P k ∨ w.heap.size ≤ k
theorem Wk.trans {P : Nat} {a b c : World} (h : Wk P a b) (k : Wk P b c) : Wk P a c :=
  ⟨⟨k.kb.os.trans h.kb.os, k.kb.tape.trans h.kb.tape, k.kb.output.trans h.kb.output, Nat.le_trans h.kb.size k.kb.size, fun i hi hs =>
    (k.kb.block i (Nat.lt_of_lt_of_le hi h.kb.size) (fun e => by
      rcases e with e | e
      · exact hs (Or.inl e)
      · rcases h.row i e with e | e
        · exact hs (Or.inr e)
        · omega)).trans (h.kb.block i hi hs)⟩, fun i hi => by
    rcases k.row i hi with e | e
    · exact h.row i e
    · exact Or.inr (Nat.le_trans h.kb.size e)⟩
theorem Wk.of_kb {P : Nat} {S : Nat → Prop} {a b : World} (h : Kb S a b) (hP : P < a.heap.size) (hS : ∀ k, k < a.heap.size → ¬ S k) : Wk P a b :=
  ⟨⟨h.os, h.tape, h.output, h.size, fun i hi _ => h.block i hi (hS i hi)⟩, fun _ ⟨ao, n, cap, h1, h2⟩ => Or.inl ⟨ao, n, cap, (h.cell (p := ⟨P, 0, none⟩) hP (hS P hP)).symm.trans h1, h2⟩⟩
theorem Wk.alloc {P : Nat} (a : World) (hP : P < a.heap.size) (o : Obj) : Wk P a (a.alloc o) := Wk.of_kb (Kb.alloc (fun _ => False) a o) hP (fun _ _ h => h)
theorem Wk.below {P : Nat} {a b : World} (h : Below a.heap.size a b) (hP : P < a.heap.size) : Wk P a b := Wk.of_kb (Kb.of_below (S := fun _ => False) h (fun k h1 h2 => absurd h1 (by omega))) hP (fun _ _ h => h)
theorem Wr.row {w : World} {P B : Nat} {l : List UInt8} (h : Wr w P B l) {k : Nat} (hk : RowOf w P k) : B ≤ k ∧ k < w.heap.size := by
  obtain ⟨ao, cap, h1, h2⟩ := h.is
  obtain ⟨ao2, n2, cap2, h3, h4⟩ := hk
  rw [h1] at h3
  injection h3 with h3
  rw [← h3] at h4
  exact h2.lt k h4
/-- What lies below B, but for P, stays. -/
theorem Wk.under {P B : Nat} {l : List UInt8} {a b : World} (h : Wk P a b) (hw : Wr a P B l) {n : Nat} (hn : n ≤ P) : Below n a b :=
  ⟨h.kb.os, h.kb.tape, h.kb.output, h.kb.size, fun k hk => h.kb.block k (by have := hw.pb; have := hw.bw; omega) (fun e => by
    rcases e with e | e
    · omega
    · have := (hw.row e).1; have := hw.pb; omega)⟩
/-- A block that is neither the Writer's nor its row's stays. -/
theorem Wk.cell {P : Nat} {a b : World} (h : Wk P a b) {k : Nat} (hk : k < a.heap.size) (hP : k ≠ P) (hr : ¬ RowOf a P k) (i : Nat) : b.cell? ⟨k, i, none⟩ = a.cell? ⟨k, i, none⟩ :=
  h.kb.cell (p := ⟨k, i, none⟩) hk (fun e => e.elim hP hr)

/-- A Writer's append: what it lays. w1 is the world in which the new bytes lie ready. -/
theorem wr_append {P B : Nat} {l : List UInt8} {w w1 : World} {ao : Option Addr} {cap : Nat} (h : Wr w P B l) (hc : w.cell? ⟨P, 0, none⟩ = some (.slice ao l.length cap)) (hk : Kb (fun _ => False) w w1) (hl : l.length < 1000000)
    (a : Addr) (c2 : Nat) (m : List UInt8) (hm : m.length < 1000000) (hnews : ∀ j u, (m.map encB)[j]? = some u → w1.cell? (a.add j) = some u) :
    ∃ ao' cap' w3, Sem.run Try.prog (appendS #[32, 32] 32 #[.slice ao l.length cap, .slice (some a) m.length c2]) w1 = .ok (.slice ao' (l.length + m.length) cap') w3 ∧
      (∃ u, w3.cell? ⟨P, 0, none⟩ = some u) ∧ w3.frozen? ⟨P, 0, none⟩ = false ∧
      Aside (Wr (w3.setCell ⟨P, 0, none⟩ (.slice ao' (l.length + m.length) cap')) P B (l ++ m) ∧ Wk P w (w3.setCell ⟨P, 0, none⟩ (.slice ao' (l.length + m.length) cap'))) := by
  obtain ⟨i0, z0, hi, hz0, hz1, hz2, hz3⟩ := u8_info
  obtain ⟨ao0, cap0, hc0, hown⟩ := h.is
  rw [hc] at hc0
  injection hc0 with hc0
  injection hc0 with e1 e2 e3
  subst e1 e3
  have hown1 := own1_kb hown hk (fun _ _ _ h => h)
  have hb1 : B ≤ w1.heap.size := Nat.le_trans h.bw hk.size
  obtain ⟨v', w3, hrun, hown4, hg, _, hat⟩ := run_append_own_at (P := Try.prog) w1 B 32 32 5 i0 z0 1 1 Try.underlying32 hi hz0 hz1 hz2 hz3 (by decide) _ _ _ hown1 a m.length c2 (m.map encB) (by simp) hnews (encB_one m) (by unfold maxLen; omega) (by omega) hb1
  obtain ⟨ao', cap', rfl, _⟩ := row1_slice hown4
  have hP : P < w.heap.size := Nat.lt_of_lt_of_le h.pb h.bw
  have hP1 : P < w1.heap.size := Nat.lt_of_lt_of_le hP hk.size
  have hne : some P ≠ (Value.slice ao l.length cap).ownBlock := fun e => by have := (hown1.lt P e.symm).1; have := h.pb; omega
  have c1 := (hk.cell (p := ⟨P, 0, none⟩) hP (fun h => h)).trans hc
  have c3 := hg.cell c1 hne
  have f3 : w3.frozen? ⟨P, 0, none⟩ = false := (World.frozen?_of_block (w := w1) (hg.block P hP1 hne)).trans ((hk.frozen (p := ⟨P, 0, none⟩) hP (fun h => h)).trans h.fr)
  refine ⟨ao', cap', w3, hrun, ⟨_, c3⟩, f3, ?_⟩
  have hrowB : ∀ k, (Value.slice ao l.length cap).ownBlock = some k → RowOf w P k := fun k e => ⟨ao, _, cap, hc, e⟩
  have hk3 : Kb (fun k => k = P ∨ RowOf w P k) w (w3.setCell ⟨P, 0, none⟩ (.slice ao' (l.length + m.length) cap')) := by
    refine ((hk.mono (fun _ _ h => h.elim)).trans ?_).trans (Kb.setCell (S := fun k => k = P ∨ RowOf w P k) w3 ⟨P, 0, none⟩ (Or.inl rfl) _)
    exact ⟨hg.os, hg.tape, hg.output, hg.size, fun k hk hS => hg.block k hk fun e => hS (Or.inr (hrowB k e.symm))⟩
  have hWk : Wk P w (w3.setCell ⟨P, 0, none⟩ (.slice ao' (l.length + m.length) cap')) := ⟨hk3, fun k ⟨ao2, n2, cap2, q1, q2⟩ => by
    rw [World.cell?_setCell_same w3 ⟨P, 0, none⟩ _ c3] at q1
    injection q1 with q1
    rw [← q1] at q2
    rcases hat with e | e
    · rw [q2] at e; exact Or.inl (hrowB k e.symm)
    · rw [q2] at e; injection e with e; right; rw [e]; exact hk.size⟩
  refine ⟨⟨h.pb, Nat.le_trans h.bw hk3.size, ?_, ao', cap', ?_, ?_⟩, hWk⟩
  · rw [World.frozen?_setCell]; exact f3
  · rw [List.length_append]; exact World.cell?_setCell_same w3 ⟨P, 0, none⟩ _ c3
  · rw [List.length_append, List.map_append]
    exact ownsRow_setCell_below hown4 h.pb _
theorem one_news (W : World) (c : UInt8) (ty : TypeId) : ∀ j u, ([c].map encB)[j]? = some u → (W.alloc (.cells #[.int .u8 (c.toNat : Int)] ty)).cell? ((⟨W.heap.size, 0, none⟩ : Addr).add j) = some u := fun j u h => by
  have hj : j = 0 := by
    rcases j with _ | j
    · rfl
    · simp at h
  subst hj
  simp only [List.map_cons, List.map_nil, List.getElem?_cons_zero] at h
  rw [show ((⟨W.heap.size, 0, none⟩ : Addr).add 0) = ⟨W.heap.size, 0, none⟩ from rfl, World.cell?_alloc_new]
  simpa [encB] using h

set_option maxHeartbeats 2000000 in
theorem wbyte_c (P B b cap2 : Nat) (x : Int) (l : List UInt8) (w : World) (h : Wr w P B l) (h0 : 0 ≤ x) (h1 : x ≤ 255) (hb : w.cell? ⟨b, 0, none⟩ = some (.int .i64 x)) (hl : l.length < 1000000) :
    Calls Try.prog 19 #[.pointer (some ⟨P, 0, none⟩), .slice (some ⟨b, 0, none⟩) 1 cap2] w fun e w' => e = .returned (.pointer (some ⟨P, 0, none⟩)) ∧ Aside (Wr w' P B (l ++ [UInt8.ofNat x.toNat]) ∧ Wk P w w') := by
  obtain ⟨i0, z0, hi, hz0, hz1, hz2, hz3⟩ := u8_info
  obtain ⟨ao, cap, hc, hown⟩ := h.is
  have hf := h.fr
  have H := Lib.hid h
  have HOwn := Lib.hid hown
  have HL : Aside (l.length < 1000000) := hl
  have hfit : (decide (0 ≤ x) && decide (x ≤ 255)) = true := by simp [h0, h1]
  have hfc := fun W => fits_c x W
  rw [hfit] at hfc
  have hx : IntKind.u8.wrap x = ((UInt8.ofNat x.toNat).toNat : Int) := by
    rw [UInt8.toNat_ofNat_of_lt' (by show x.toNat < 256; omega), IntKind.wrap_u8]; omega
  have HXv := Lib.hid hx
  have hxc : x = ((UInt8.ofNat x.toNat).toNat : Int) := by
    rw [UInt8.toNat_ofNat_of_lt' (by show x.toNat < 256; omega)]; omega
  have HXx := Lib.hid hxc
  clear hxc
  generalize UInt8.ofNat x.toNat = c at *
  clear hx
  clear h hown hl hfit
  go_enter Try.func19, Try.ntmps19
  go_wp2_with fail
  go_loopg [9] 1 (fun kx s9 wr => ∃ j : Nat, s9 = .int .i64 j ∧ j ≤ 1 ∧ 1 - j ≤ kx ∧ Aside (j = 0 → wr = w) ∧ Aside (j = 1 → Wr wr P B (l ++ [c]) ∧ Wk P w wr))
  case atStart => exact ⟨0, rfl, by omega, by omega, fun _ => rfl, fun h => by omega⟩
  case round =>
    obtain ⟨j, rfl, hj, hjx, hj0, hj1⟩ := hrel
    rcases (show j = 0 ∨ j = 1 by omega) with rfl | rfl
    · obtain rfl := hj0.out rfl
      have e0 : ((0 : Nat) : Int) = 0 := rfl
      rw [e0]
      clear hj0 hj1 hj e0
      go_wp2_with fail
      refine (hfc _).mono ?_
      rintro e w2 ⟨rfl, rfl⟩
      obtain ⟨ao', cap', w3, hrun, ⟨u, hu⟩, hf3, HW⟩ := wr_append H.out hc (Kb.alloc _ wr (.cells #[.int .u8 (c.toNat : Int)] 5)) HL.out ⟨wr.heap.size, 0, none⟩ 1 [c] (by simp) (one_news wr c 5)
      simp only [List.length_cons, List.length_nil, Nat.zero_add] at hrun HW
      rw [← HXx.out] at hrun
      have cP := (World.cell?_alloc_lt wr (.cells #[.int .u8 x] 5) ⟨P, 0, none⟩ (Nat.lt_of_lt_of_le H.out.pb H.out.bw)).trans hc
      go_wp2_with fail
      go_roundg 0
      case measure => omega
      case rel => exact ⟨1, by go_num, Nat.le_refl _, by omega, fun h => by omega, fun _ => HW.out⟩
    · have h1 := hj1.out rfl
      have H1 : Aside _ := h1
      have e0 : ((1 : Nat) : Int) = 1 := rfl
      rw [e0]
      clear hj0 hj1 hj hjx e0 h1
      go_wp2_with fail
      go_ret
      exact ⟨rfl, H1⟩
end Go.Proofs.Ytecfbbddhnkilaa
