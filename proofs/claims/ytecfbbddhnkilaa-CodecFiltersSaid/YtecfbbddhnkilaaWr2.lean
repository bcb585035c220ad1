/- codec.Writer: Text, Bytes (slices.Clone). -/
import Derived.Test.YtecfbbddhnkilaaWr1
import Derived.Laws.Cover3
namespace Go.Proofs.Ytecfbbddhnkilaa
open Go.RowKit Go.Shelf Go.Sort
open Go.Proofs
set_option maxRecDepth 100000
attribute [local go_sem ↓] append_pre

def encT (s : ByteArray) : List UInt8 := UInt8.ofNat s.size :: s.data.toList
theorem strCells_enc (s : ByteArray) : Lib.strCells s = s.data.toList.map encB := rfl

/-- Where the row lies behind an append of a text. -/
theorem string_at (w : World) (B : Nat) (i : TypeInfo) (hi : Try.prog.info? 5 = some i) (hz : i.zero = some (.int .u8 0)) (hsize : i.size = 1) (hby : i.bytes = 1) (v v' : Value) (w' : World) (n : Nat) (xs : List Value) (hown : w.ownsRow B 5 1 v n xs) (s : ByteArray)
    (hrun : Sem.run Try.prog (Builtin.append_ #[32, 9] 32 #[v, .string s]) w = .ok v' w') (hn : n + s.size < 2000000) : ∀ k, v'.ownBlock = some k → v.ownBlock = some k ∨ w.heap.size ≤ k := fun k hk => by
  have h' := hown
  rcases hown.2 with ⟨rfl, rfl⟩ | ⟨g, cap, cur, rfl, hbg, hg, hnc, hcm, hcs, htake⟩
  · have hx : xs = [] := List.eq_nil_of_length_eq_zero (by simpa using hown.1)
    subst hx
    obtain ⟨v2, w2, hrun2, hown2, hg2, _⟩ := Lib.run_append_own_string (P := Try.prog) w w.heap.size 32 9 32 5 i Try.underlying32 Try.underlying9 hi hz hsize hby _ _ _ (World.ownsRow_nil w w.heap.size 5 1) s (by unfold maxLen; omega) (by omega) (Nat.le_refl _)
    rw [hrun] at hrun2
    injection hrun2 with e1 e2
    rw [← e1] at hown2
    exact Or.inr (hown2.lt k hk).1
  · by_cases hr : n + s.size ≤ cap
    · have := Lib.run_append_room_string (P := Try.prog) w 32 9 32 5 i Try.underlying32 Try.underlying9 hi hsize g n cap cur hg s hr (by rw [hcs, Nat.mul_one]; exact hr)
      rw [hrun] at this
      injection this with e1 e2
      rw [e1] at hk
      exact Or.inl hk
    · have := Lib.run_append_grow_string (P := Try.prog) w 32 9 32 5 i _ Try.underlying32 Try.underlying9 hi hz ⟨g, 0, none⟩ n cap xs (by rw [hsize]; exact hown.1) (fun j v hv => by
          have hjn : j < n * 1 := by rw [← hown.1]; exact (List.getElem?_eq_some_iff.1 hv).1
          rw [Addr.add_lit, Nat.zero_add, h'.cellAt j hjn]; exact hv) s (by omega) (by omega) (by
          rw [hby, Nat.mul_one]
          have := nextslicecap_le (need := n + s.size) (old := cap) (by omega)
          omega)
      rw [hrun] at this
      injection this with e1 e2
      rw [e1] at hk
      simp only [Value.ownBlock, Option.some.injEq] at hk
      exact Or.inr (by omega)

/-- A Writer's append of a text. -/
theorem wr_appendS {P B : Nat} {l : List UInt8} {w w1 : World} {ao : Option Addr} {cap : Nat} (h : Wr w P B l) (hc : w.cell? ⟨P, 0, none⟩ = some (.slice ao l.length cap)) (hk : Kb (fun _ => False) w w1) (hl : l.length < 1000000)
    (s : ByteArray) (hm : s.size < 1000000) :
    ∃ ao' cap' w3, Sem.run Try.prog (appendS #[32, 9] 32 #[.slice ao l.length cap, .string s]) w1 = .ok (.slice ao' (l.length + s.size) cap') w3 ∧
      (∃ u, w3.cell? ⟨P, 0, none⟩ = some u) ∧ w3.frozen? ⟨P, 0, none⟩ = false ∧
      Aside (Wr (w3.setCell ⟨P, 0, none⟩ (.slice ao' (l.length + s.size) cap')) P B (l ++ s.data.toList) ∧ Wk P w (w3.setCell ⟨P, 0, none⟩ (.slice ao' (l.length + s.size) cap'))) := by
  obtain ⟨i0, z0, hi, hz0, hz1, hz2, hz3⟩ := u8_info
  obtain ⟨ao0, cap0, hc0, hown⟩ := h.is
  rw [hc] at hc0
  injection hc0 with hc0
  injection hc0 with e1 e2 e3
  subst e1 e3
  have hown1 := own1_kb hown hk (fun _ _ _ h => h)
  have hb1 : B ≤ w1.heap.size := Nat.le_trans h.bw hk.size
  have hz : i0.zero = some (.int .u8 0) := by
    have := show (Try.prog.info? 5).bind (fun i => i.zero) = some (.int .u8 0) by kernel_rfl
    rw [hi] at this; exact this
  obtain ⟨v', w3, hrun, hown4, hg, _⟩ := Lib.run_append_own_string (P := Try.prog) w1 B 32 9 32 5 i0 Try.underlying32 Try.underlying9 hi hz hz1 hz2 _ _ _ hown1 s (by unfold maxLen; omega) (by omega) hb1
  obtain ⟨ao', cap', rfl, _⟩ := row1_slice hown4
  have hP : P < w.heap.size := Nat.lt_of_lt_of_le h.pb h.bw
  have hP1 : P < w1.heap.size := Nat.lt_of_lt_of_le hP hk.size
  have hne : some P ≠ (Value.slice ao l.length cap).ownBlock := fun e => by have := (hown1.lt P e.symm).1; have := h.pb; omega
  have c1 := (hk.cell (p := ⟨P, 0, none⟩) hP (fun h => h)).trans hc
  have c3 := hg.cell c1 hne
  have f3 : w3.frozen? ⟨P, 0, none⟩ = false := (World.frozen?_of_block (w := w1) (hg.block P hP1 hne)).trans ((hk.frozen (p := ⟨P, 0, none⟩) hP (fun h => h)).trans h.fr)
  refine ⟨ao', cap', w3, hrun, ⟨_, c3⟩, f3, ?_⟩
  have hrowB : ∀ k, (Value.slice ao l.length cap).ownBlock = some k → RowOf w P k := fun k e => ⟨ao, _, cap, hc, e⟩
  have hk3 : Kb (fun k => k = P ∨ RowOf w P k) w (w3.setCell ⟨P, 0, none⟩ (.slice ao' (l.length + s.size) cap')) := by
    refine ((hk.mono (fun _ _ h => h.elim)).trans ?_).trans (Kb.setCell (S := fun k => k = P ∨ RowOf w P k) w3 ⟨P, 0, none⟩ (Or.inl rfl) _)
    exact ⟨hg.os, hg.tape, hg.output, hg.size, fun k hk hS => hg.block k hk fun e => hS (Or.inr (hrowB k e.symm))⟩
  have hat := string_at w1 B i0 hi hz hz1 hz2 _ _ _ _ _ hown1 s hrun (by omega)
  have hWk : Wk P w (w3.setCell ⟨P, 0, none⟩ (.slice ao' (l.length + s.size) cap')) := ⟨hk3, fun k ⟨ao2, n2, cap2, q1, q2⟩ => by
    rw [World.cell?_setCell_same w3 ⟨P, 0, none⟩ _ c3] at q1
    injection q1 with q1
    rw [← q1] at q2
    rcases hat k q2 with e | e
    · exact Or.inl (hrowB k e)
    · exact Or.inr (Nat.le_trans hk.size e)⟩
  have hsl : s.data.toList.length = s.size := by simp
  refine ⟨⟨h.pb, Nat.le_trans h.bw hk3.size, ?_, ao', cap', ?_, ?_⟩, hWk⟩
  · rw [World.frozen?_setCell]; exact f3
  · rw [List.length_append, hsl]; exact World.cell?_setCell_same w3 ⟨P, 0, none⟩ _ c3
  · rw [List.length_append, List.map_append, hsl, ← strCells_enc]
    exact ownsRow_setCell_below hown4 h.pb _

set_option maxHeartbeats 2000000 in
theorem wtext_c (P B : Nat) (s : ByteArray) (l : List UInt8) (w : World) (h : Wr w P B l) (hs : s.size ≤ 255) (hl : l.length < 900000) :
    Calls Try.prog 18 #[.pointer (some ⟨P, 0, none⟩), .string s] w fun e w' => e = .returned (.pointer (some ⟨P, 0, none⟩)) ∧ Aside (Wr w' P B (l ++ encT s) ∧ Wk P w w') := by
  have hfit : (decide ((0 : Int) ≤ (s.size : Int)) && decide ((s.size : Int) ≤ 255)) = true := by simp; omega
  have hfc := fun W => fits_c (s.size : Int) W
  rw [hfit] at hfc
  have hby := wbyte_c P B w.heap.size 1 (s.size : Int) l (w.alloc (.cells #[.int .i64 s.size] 3)) (h.alloc _) (by omega) (by omega) (by rw [World.cell?_alloc_new]; rfl) (by omega)
  have HBy := Lib.hid hby
  have HP : Aside (P < w.heap.size ∧ B ≤ w.heap.size) := ⟨Nat.lt_of_lt_of_le h.pb h.bw, h.bw⟩
  have HL : Aside (l.length < 900000 ∧ s.size ≤ 255) := ⟨hl, hs⟩
  clear h hfit hby hl hs
  go_enter Try.func18, Try.ntmps18
  go_wp2_with fail
  refine (hfc _).mono ?_
  rintro e w2 ⟨rfl, rfl⟩
  go_wp2_with fail
  refine HBy.out.mono ?_
  rintro e w3 ⟨rfl, hA⟩
  have hA1 := hA.out.1
  simp only [Int.toNat_natCast] at hA1
  obtain ⟨ao, cap, hc, _⟩ := hA1.is
  obtain ⟨ao', cap', w4, hrun, ⟨u, hu⟩, hf4, HW⟩ := wr_appendS hA1 hc (Kb.refl _ w3) (by have := HL.out; simp; omega) s (by have := HL.out; omega)
  have HK : Aside (Wk P w w3) := (Wk.alloc w HP.out.1 _).trans hA.out.2
  have hlen : (l ++ [UInt8.ofNat s.size]).length = l.length + 1 := by simp
  rw [hlen] at hc hrun HW
  clear hA hA1 hfc HBy hlen
  go_wp2_with fail
  go_ret
  have he : l ++ encT s = l ++ [UInt8.ofNat s.size] ++ s.data.toList := by simp [encT]
  exact ⟨rfl, by rw [he]; exact HW.out.1, HK.out.trans HW.out.2⟩

/-- A row of bytes of the call's own, as a slice. -/
theorem own1_bytes {w : World} {B cap : Nat} {ao : Option Addr} {l : List UInt8} (h : w.ownsRow B 5 1 (.slice ao l.length cap) l.length (l.map encB)) : BytesB w w.heap.size ao l ∧ l.length ≤ cap ∧ (l = [] ∨ ∃ b, ao = some ⟨b, 0, none⟩ ∧ B ≤ b) := by
  have h' := h
  rcases h.2 with ⟨h0, h1⟩ | ⟨g, c2, cur, hv, hbg, hg, hn, _⟩
  · injection h0 with e1 e2 e3
    have hl : l = [] := List.length_eq_zero_iff.1 e2
    subst hl
    exact ⟨Or.inl rfl, by simp, Or.inl rfl⟩
  · injection hv with e1 e2 e3
    subst e1 e3
    have hgl := (Array.getElem?_eq_some_iff.1 hg).1
    refine ⟨Or.inr ⟨g, 0, rfl, hgl, hgl, fun j hj => ?_⟩, hn, Or.inr ⟨g, rfl, hbg⟩⟩
    rw [Nat.zero_add, h'.cellAt j (by omega), List.getElem?_map, List.getElem?_eq_getElem hj, List.getD_eq_getElem?_getD, List.getElem?_eq_getElem hj]
    rfl

set_option maxHeartbeats 2000000 in
theorem clone_c (B : Nat) (ao : Option Addr) (cap : Nat) (l : List UInt8) (w : World) (h : w.ownsRow B 5 1 (.slice ao l.length cap) l.length (l.map encB)) (hl : l.length < 1000000) :
    Calls Try.prog 22 #[.slice ao l.length cap] w fun e w' => ∃ ao' cap', e = .returned (.slice ao' l.length cap') ∧ Aside (w'.ownsRow w.heap.size 5 1 (.slice ao' l.length cap') l.length (l.map encB) ∧ Below w.heap.size w w') := by
  cases ao with
  | none =>
    have h0 : l.length = 0 := by
      rcases h.2 with ⟨h0, _⟩ | ⟨g, c2, cur, hv, _⟩
      · injection h0
      · injection hv with e1; cases e1
    have hl0 : l = [] := List.length_eq_zero_iff.1 h0
    subst hl0
    clear h hl h0
    have hnil : ∀ W, (binOp .eql 32 (.slice none 0 cap) (.slice none 0 0)).run Try.prog W = .ok (.bool true) W := fun W => by kernel_rfl
    simp only [List.length_nil]
    go_enter Try.func22, Try.ntmps22
    go_wp2_with fail
    go_ret
    exact ⟨none, 0, rfl, World.ownsRow_nil _ _ _ _, Below.refl _ _⟩
  | some a =>
    obtain ⟨i0, z0, hi, hz0, hz1, hz2, hz3⟩ := u8_info
    have hown0 : (w.alloc (.cells #[] 5)).ownsRow w.heap.size 5 1 (.slice (some ⟨w.heap.size, 0, none⟩) 0 0) 0 [] := World.ownsRow_lit w #[] 0 (Nat.le_refl _) (by unfold maxLen; omega) rfl
    have hnews : ∀ j u, (l.map encB)[j]? = some u → (w.alloc (.cells #[] 5)).cell? (a.add j) = some u := fun j u hj => by
      rcases (own1_bytes h).1 with h0 | ⟨b, off, hab, _, h2, h3⟩
      · rw [h0] at hj; simp at hj
      · injection hab with hab
        subst hab
        rw [List.getElem?_map] at hj
        cases hlj : l[j]? with
        | none => rw [hlj] at hj; cases hj
        | some c =>
          rw [hlj] at hj
          injection hj with hj
          have hjl : j < l.length := (List.getElem?_eq_some_iff.1 hlj).1
          have := h3 j hjl
          rw [List.getD_eq_getElem?_getD, hlj] at this
          rw [Addr.add_lit, World.cell?_alloc_lt _ _ _ h2, this, ← hj]; rfl
    obtain ⟨v', w3, hrun, hown4, hg, _⟩ := run_append_own (P := Try.prog) (w.alloc (.cells #[] 5)) w.heap.size 32 32 5 i0 z0 1 1 Try.underlying32 hi hz0 hz1 hz2 hz3 (by decide) _ _ _ hown0 a l.length cap (l.map encB) (by simp) hnews (encB_one l) (by unfold maxLen; omega) (by omega) (by simp)
    rw [Nat.zero_add, List.nil_append] at hown4
    obtain ⟨ao', cap', rfl, _⟩ := row1_slice hown4
    have hrun2 : Sem.run Try.prog (appendS #[32, 32] 32 #[.slice (some ⟨w.heap.size, 0, none⟩) 0 0, .slice (some a) l.length cap]) (w.alloc (.cells #[] 5)) = .ok (.slice ao' l.length cap') w3 := hrun
    have HE : Aside (w3.ownsRow w.heap.size 5 1 (.slice ao' l.length cap') l.length (l.map encB) ∧ Below w.heap.size w w3) := ⟨hown4, ((Below.refl _ _).alloc (Nat.le_refl _) _).grown hg (by simp) (fun k e => (hown0.lt k e).1)⟩
    clear hrun hown4 hg hnews hown0 h hl
    have hnil : ∀ n W, (binOp .eql 32 (.slice (some a) n cap) (.slice none 0 0)).run Try.prog W = .ok (.bool false) W := fun n W => by kernel_rfl
    generalize l.length = n at *
    go_enter Try.func22, Try.ntmps22
    go_wp2_with fail
    go_ret
    exact ⟨_, _, rfl, HE.out⟩

set_option maxHeartbeats 1000000 in
theorem wbytes_c (P B : Nat) (l : List UInt8) (w : World) (h : Wr w P B l) (hl : l.length < 1000000) :
    Calls Try.prog 8 #[.pointer (some ⟨P, 0, none⟩)] w fun e w' => ∃ ao' cap', e = .returned (.slice ao' l.length cap') ∧ Aside (w'.ownsRow w.heap.size 5 1 (.slice ao' l.length cap') l.length (l.map encB) ∧ Below w.heap.size w w') := by
  obtain ⟨ao, cap, hc, hown⟩ := h.is
  have hcl := clone_c B ao cap l w hown hl
  have HC := Lib.hid hcl
  clear h hown hl hcl
  go_enter Try.func8, Try.ntmps8
  go_wp2_with fail
  refine HC.out.mono ?_
  rintro e w2 ⟨ao', cap', rfl, hA⟩
  go_wp2_with fail
  go_ret
  exact ⟨_, _, rfl, hA⟩
end Go.Proofs.Ytecfbbddhnkilaa
