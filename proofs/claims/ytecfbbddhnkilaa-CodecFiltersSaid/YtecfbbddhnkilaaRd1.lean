/- codec.Reader: giveUp, take. -/
import Derived.Test.YtecfbbddhnkilaaOrd
import Derived.Deep.LoopGhost
import Derived.Below
import Derived.Laws.IdiomStrings
import Derived.Laws.BytesArg
namespace Go.Proofs.Ytecfbbddhnkilaa
open Go.RowKit
open Go.Proofs
set_option maxRecDepth 100000

/-- Of what was there the blocks outside S are as they were. -/
structure Kb (S : Nat → Prop) (w w' : World) : Prop where
  os : w'.os = w.os
  tape : w'.tape = w.tape
  output : w'.output = w.output
  size : w.heap.size ≤ w'.heap.size
  block : ∀ k, k < w.heap.size → ¬ S k → w'.heap[k]? = w.heap[k]?
theorem Kb.refl (S : Nat → Prop) (w : World) : Kb S w w := ⟨rfl, rfl, rfl, Nat.le_refl _, fun _ _ _ => rfl⟩
theorem Kb.trans {S : Nat → Prop} {a b c : World} (h : Kb S a b) (k : Kb S b c) : Kb S a c :=
  ⟨k.os.trans h.os, k.tape.trans h.tape, k.output.trans h.output, Nat.le_trans h.size k.size, fun i hi hs => (k.block i (Nat.lt_of_lt_of_le hi h.size) hs).trans (h.block i hi hs)⟩
theorem Kb.mono {S T : Nat → Prop} {a b : World} (h : Kb S a b) (hS : ∀ k, k < a.heap.size → S k → T k) : Kb T a b :=
  ⟨h.os, h.tape, h.output, h.size, fun i hi hs => h.block i hi fun q => hs (hS i hi q)⟩
theorem Kb.of_below {S : Nat → Prop} {a b : World} {B : Nat} (h : Below B a b) (hS : ∀ k, k < a.heap.size → B ≤ k → S k) : Kb S a b :=
  ⟨h.os, h.tape, h.output, h.size, fun i hi hs => h.block i (by rcases Nat.lt_or_ge i B with q | q; exact q; exact absurd (hS i hi q) hs)⟩
theorem Kb.below {S : Nat → Prop} {a b : World} {B : Nat} (h : Kb S a b) (hB : B ≤ a.heap.size) (hS : ∀ k, k < B → ¬ S k) : Below B a b :=
  ⟨h.os, h.tape, h.output, h.size, fun i hi => h.block i (by omega) (hS i hi)⟩
theorem Kb.alloc (S : Nat → Prop) (w : World) (o : Obj) : Kb S w (w.alloc o) := Kb.of_below (B := w.heap.size) ((Below.refl _ w).alloc (Nat.le_refl _) o) fun k h1 h2 => absurd h1 (by omega)
theorem Kb.drew (S : Nat → Prop) (w : World) : Kb S w w.drew := ⟨rfl, rfl, rfl, Nat.le_refl _, fun _ _ _ => rfl⟩
theorem Kb.setCell {S : Nat → Prop} (w : World) (p : Addr) (hp : S p.block) (u : Value) : Kb S w (w.setCell p u) :=
  ⟨rfl, rfl, rfl, by simp [World.setCell], fun k _ hk => Below.heap_setCell _ _ _ _ (fun e => hk (by rw [e]; exact hp))⟩
theorem Kb.cell {S : Nat → Prop} {w w' : World} (h : Kb S w w') {p : Addr} (hp : p.block < w.heap.size) (hS : ¬ S p.block) : w'.cell? p = w.cell? p := World.cell?_of_block (w := w) (h.block p.block hp hS)
theorem Kb.frozen {S : Nat → Prop} {w w' : World} (h : Kb S w w') {p : Addr} (hp : p.block < w.heap.size) (hS : ¬ S p.block) : w'.frozen? p = w.frozen? p := World.frozen?_of_block (w := w) (h.block p.block hp hS)

/-- Bytes that lie in the world below block B; or none. -/
def BytesB (W : World) (B : Nat) (ao : Option Addr) (l : List UInt8) : Prop := l = [] ∨ ∃ b off, ao = some ⟨b, off, none⟩ ∧ b < B ∧ b < W.heap.size ∧ ∀ j, j < l.length → W.cell? ⟨b, off + j, none⟩ = some (.int .u8 ((l.getD j 0).toNat : Int))
theorem BytesB.kb {S : Nat → Prop} {w w' : World} {B : Nat} {ao : Option Addr} {l : List UInt8} (h : BytesB w B ao l) (hk : Kb S w w') (hS : ∀ k, k < B → k < w.heap.size → ¬ S k) : BytesB w' B ao l := by
  rcases h with h | ⟨b, off, h1, h2, h3, h4⟩
  · exact Or.inl h
  · exact Or.inr ⟨b, off, h1, h2, Nat.lt_of_lt_of_le h3 hk.size, fun j hj => (hk.cell (p := ⟨b, off + j, none⟩) h3 (hS b h2 h3)).trans (h4 j hj)⟩
theorem BytesB.take {w : World} {B : Nat} {ao : Option Addr} {l : List UInt8} (h : BytesB w B ao l) (n : Nat) : BytesB w B ao (l.take n) := by
  rcases h with h | ⟨b, off, h1, h2, h3, h4⟩
  · exact Or.inl (by rw [h]; simp)
  · refine Or.inr ⟨b, off, h1, h2, h3, fun j hj => ?_⟩
    rw [List.length_take] at hj
    rw [h4 j (by omega)]
    simp only [List.getD_eq_getElem?_getD, List.getElem?_take]
    rw [if_pos (by omega)]
theorem BytesB.drop {w : World} {B : Nat} {ao : Option Addr} {l : List UInt8} (h : BytesB w B ao l) (n cap : Nat) (hc : l.length ≤ cap) : BytesB w B (if cap = n then ao else ao.map (·.add n)) (l.drop n) := by
  by_cases hcn : cap = n
  · exact Or.inl (List.drop_of_length_le (by omega))
  rw [if_neg hcn]
  rcases h with h | ⟨b, off, h1, h2, h3, h4⟩
  · exact Or.inl (by rw [h]; simp)
  · refine Or.inr ⟨b, off + n, ?_, h2, h3, fun j hj => ?_⟩
    · rw [h1]
      by_cases h0 : n = 0
      · subst h0; simp [Addr.add]
      · simp [Addr.add, h0]
    · rw [List.length_drop] at hj
      rw [show off + n + j = off + (n + j) by omega, h4 (n + j) (by omega)]
      simp only [List.getD_eq_getElem?_getD, List.getElem?_drop]

/-- A Reader that lies at block R, and has so many bytes left. -/
structure Rd (W : World) (R : Nat) (l : List UInt8) : Prop where
  lt : R < W.heap.size
  fr : W.frozen? ⟨R, 0, none⟩ = false
  is : ∃ ao cap, W.cell? ⟨R, 0, none⟩ = some (.slice ao l.length cap) ∧ l.length ≤ cap ∧ BytesB W R ao l
theorem Rd.kb {S : Nat → Prop} {w w' : World} {R : Nat} {l : List UInt8} (h : Rd w R l) (hk : Kb S w w') (hS : ∀ k, k ≤ R → ¬ S k) : Rd w' R l := by
  obtain ⟨ao, cap, h1, h2, h3⟩ := h.is
  exact ⟨Nat.lt_of_lt_of_le h.lt hk.size, (hk.frozen (p := ⟨R, 0, none⟩) h.lt (hS R (Nat.le_refl _))).trans h.fr, ao, cap, (hk.cell (p := ⟨R, 0, none⟩) h.lt (hS R (Nat.le_refl _))).trans h1, h2, h3.kb hk fun k hkR _ => hS k (by omega)⟩

/-- What is thrown where a Reader gives up. -/
def gv : List PanicEntry := [{ v := .iface 57 (.agg #[]), recovered := false }]
set_option maxHeartbeats 400000 in
theorem giveUp_c (w : World) : Calls Try.prog 43 #[] w fun e w' => e = .panicked gv ∧ w = w' := by
  go_enter Try.func43, Try.ntmps43
  go_wp2
  exact ⟨rfl, rfl, rfl⟩

set_option maxHeartbeats 1000000 in
theorem take_no (R n : Nat) (l : List UInt8) (w : World) (h : Rd w R l) (hn : l.length < n) :
    Calls Try.prog 38 #[.pointer (some ⟨R, 0, none⟩), .int .i64 n] w fun e w' => e = .panicked gv ∧ w = w' := by
  obtain ⟨ao, cap, h1, h2, h3⟩ := h.is
  have hz : (l.length : Int) < (n : Int) := by omega
  generalize l.length = len at *
  clear h3 h
  go_enter Try.func38, Try.ntmps38
  go_wp2_with fail
  refine (giveUp_c _).mono ?_
  rintro e w' ⟨rfl, rfl⟩
  exact ⟨rfl, rfl, rfl⟩

theorem take_end {R n cap : Nat} {l : List UInt8} {w : World} {ao ao2 : Option Addr} (h : Rd w R l) (h1 : w.cell? ⟨R, 0, none⟩ = some (.slice ao l.length cap)) (h2 : l.length ≤ cap) (h3 : BytesB w R ao l) (hn : n ≤ l.length)
    (h4 : BytesB w R ao2 (l.drop n)) : BytesB (w.setCell ⟨R, 0, none⟩ (.slice ao2 (l.length - n) (cap - n))) R ao (l.take n) ∧ Rd (w.setCell ⟨R, 0, none⟩ (.slice ao2 (l.length - n) (cap - n))) R (l.drop n) ∧ Kb (· = R) w (w.setCell ⟨R, 0, none⟩ (.slice ao2 (l.length - n) (cap - n))) := by
  have hk : Kb (· = R) w (w.setCell ⟨R, 0, none⟩ (.slice ao2 (l.length - n) (cap - n))) := Kb.setCell (S := (· = R)) w ⟨R, 0, none⟩ rfl _
  have hS : ∀ k, k < R → k < w.heap.size → ¬ k = R := fun k h _ e => by omega
  refine ⟨(h3.take n).kb hk hS, ⟨Nat.lt_of_lt_of_le h.lt hk.size, ?_, ao2, cap - n, ?_, ?_, h4.kb hk hS⟩, hk⟩
  · rw [World.frozen?_setCell]; exact h.fr
  · rw [List.length_drop]; exact World.cell?_setCell_same w ⟨R, 0, none⟩ _ h1
  · rw [List.length_drop]; omega

set_option maxHeartbeats 2000000 in
theorem take_ok (R n : Nat) (l : List UInt8) (w : World) (h : Rd w R l) (hn : n ≤ l.length) :
    Calls Try.prog 38 #[.pointer (some ⟨R, 0, none⟩), .int .i64 n] w fun e w' =>
      ∃ ao cap, e = .returned (.slice ao n cap) ∧ Aside (BytesB w' R ao (l.take n) ∧ Rd w' R (l.drop n) ∧ Kb (· = R) w w') := by
  obtain ⟨ao, cap, h1, h2, h3⟩ := h.is
  have hf := h.fr
  have hz : ¬ (l.length : Int) < (n : Int) := by omega
  have hz1 : (n : Int) ≤ (l.length : Int) := by omega
  have hz2 : (l.length : Int) ≤ (cap : Int) := by omega
  have hz3 : (n : Int) ≤ (cap : Int) := by omega
  have H : Aside (Rd w R l) := h
  have H3 : Aside (BytesB w R ao l) := h3
  have HL : Aside (n ≤ l.length) := hn
  have HC : Aside (l.length ≤ cap) := h2
  clear h h3
  go_enter Try.func38, Try.ntmps38
  go_wp2_with fail
  · subst h
    go_ret
    have := take_end (cap := cap) H.out h1 HC.out H3.out HL.out (by have := H3.out.drop cap cap HC.out; rw [if_pos rfl] at this; exact this)
    rw [Nat.sub_self] at this
    exact ⟨_, ⟨_, rfl⟩, this⟩
  · go_ret
    exact ⟨_, ⟨_, rfl⟩, take_end H.out h1 HC.out H3.out HL.out (by have := H3.out.drop n cap HC.out; rw [if_neg h] at this; exact this)⟩
end Go.Proofs.Ytecfbbddhnkilaa
