/- CodecGives: who gives up has read what was there ahead of that; the bytes stay as they were. -/
import Derived.Test.YtnpbnjddlchmcaaGives1
namespace Go.Proofs.Ytnpbnjddlchmcaa
open Go.RowKit Go.Shelf Go.Sort
open Go.Proofs
set_option maxRecDepth 100000

theorem and_8 (n : Int) : ∃ m : Nat, m < 256 ∧ bits .and .i64 n 255 = m := by
  have h : ∃ m : Nat, m < 256 ∧ bits .and .i64 n 255 = IntKind.i64.wrap m := by
    refine ⟨((BitVec.ofInt 64 n) &&& (BitVec.ofInt 64 255)).toNat, ?_, rfl⟩
    rw [BitVec.toNat_and, show (BitVec.ofInt 64 255).toNat = 2 ^ 8 - 1 from by decide, Nat.and_two_pow_sub_one_eq_mod]
    omega
  obtain ⟨m, hm, h⟩ := h
  exact ⟨m, hm, by rw [h, IntKind.wrap_i64]; omega⟩

set_option maxHeartbeats 4000000 in
theorem codecGives_c (ao : Option Addr) (cap : Nat) (l : List UInt8) (n : Int) (w : World) (hb : BytesB w w.heap.size ao l) (hcap : l.length ≤ cap) :
    Calls Try.prog 7 #[.slice ao l.length cap, .int .i64 n] w fun e w' => e = .returned (.bool true) ∧ Below w.heap.size w w' := by
  have hmf : ∀ (fn : Fn) (first cap : Array Value) (w : World), (Instr.makeFunc fn first cap).run Try.prog w = .ok (.func fn first cap) w := fun _ _ _ _ => rfl
  have hF : ∀ args w, (callFunc 34 args).run Try.prog w = .ok (.enter 34 args) w := enters_of Try.func34 (by kernel_rfl) rfl
  have HB : Aside (BytesB w w.heap.size ao l) := hb
  have HCap : Aside (l.length ≤ cap) := hcap
  have HF := Lib.hid hF
  obtain ⟨L, hL⟩ : ∃ L, L = l.length := ⟨_, rfl⟩
  have HL : Aside (L = l.length) := hL
  have HCV : Aside (∀ W, Below w.heap.size w W → (convert 29 9 (.slice ao L cap)).run Try.prog W = .ok (.string (bstr l)) W) := fun W hW => by rw [hL]; exact (hb.under hW).string cap
  rw [← hL]
  clear hb hcap hF hL
  go_enter Try.func7, Try.ntmps7
  go_wp2_with fail
  refine (fit4_c _).mono ?_
  rintro e w1 ⟨rfl, hb1⟩
  have hB1 : Below w.heap.size w w1 := ((Below.refl _ _).alloc (Nat.le_refl _) _).trans (hb1.mono (by simp))
  have n0 := (hb1.cell (p := ⟨w.heap.size, 0, none⟩) (by simp)).trans (World.cell?_alloc_new w #[.int .i64 n] 3 0)
  have nf := (hb1.frozen (p := ⟨w.heap.size, 0, none⟩) (by simp)).trans (alloc_frozen w #[.int .i64 n] 3 0)
  simp only [List.getElem?_toArray, List.getElem?_cons_zero] at n0
  have hz1 : w.heap.size < w1.heap.size := by have := hb1.size; simp at this; omega
  have HB1 : Aside (Below w.heap.size w w1) := hB1
  clear hb1 hB1
  by_cases h2 : (200 : Int) < (L : Int)
  · go_wp2_with fail
    go_ret
    exact ⟨rfl, HB1.out⟩
  obtain ⟨m, hm, hand⟩ := and_8 n
  have hcv := HCV.out (w1.setCell ⟨w.heap.size, 0, none⟩ (.int .i64 m)) (HB1.out.setCell (p := ⟨w.heap.size, 0, none⟩) (Nat.le_refl _) _)
  go_wp2_with fail
  have z3 : (w1.setCell ⟨w.heap.size, 0, none⟩ (.int .i64 m)).heap.size = w1.heap.size := by simp
  have z4 : ((w1.setCell ⟨w.heap.size, 0, none⟩ (.int .i64 m)).alloc (.cells #[.string (bstr l)] 9)).heap.size = w1.heap.size + 1 := by simp
  have cN : (((w1.setCell ⟨w.heap.size, 0, none⟩ (.int .i64 m)).alloc (.cells #[.string (bstr l)] 9)).alloc (.cells #[.int .i64 0] 3)).cell? ⟨w.heap.size, 0, none⟩ = some (.int .i64 m) :=
    (World.cell?_alloc_lt _ _ ⟨w.heap.size, 0, none⟩ (by rw [z4]; show w.heap.size < _; omega)).trans ((World.cell?_alloc_lt _ _ ⟨w.heap.size, 0, none⟩ (by rw [z3]; exact hz1)).trans (World.cell?_setCell_same w1 _ _ n0))
  have cS : (((w1.setCell ⟨w.heap.size, 0, none⟩ (.int .i64 m)).alloc (.cells #[.string (bstr l)] 9)).alloc (.cells #[.int .i64 0] 3)).cell? ⟨w1.heap.size, 0, none⟩ = some (.string (bstr l)) :=
    (World.cell?_alloc_lt _ _ ⟨w1.heap.size, 0, none⟩ (by rw [z4]; exact Nat.lt_succ_self _)).trans (by
      have := World.cell?_alloc_new (w1.setCell ⟨w.heap.size, 0, none⟩ (.int .i64 m)) #[.string (bstr l)] 9 0
      rw [z3] at this; exact this)
  have cK : ∀ i, (((w1.setCell ⟨w.heap.size, 0, none⟩ (.int .i64 m)).alloc (.cells #[.string (bstr l)] 9)).alloc (.cells #[.int .i64 0] 3)).cell? ⟨w1.heap.size + 1, i, none⟩ = (#[Value.int .i64 0])[i]? := fun i => by
      have := World.cell?_alloc_new ((w1.setCell ⟨w.heap.size, 0, none⟩ (.int .i64 m)).alloc (.cells #[.string (bstr l)] 9)) #[.int .i64 0] 3 i
      rw [z4] at this; exact this
  have fK : (((w1.setCell ⟨w.heap.size, 0, none⟩ (.int .i64 m)).alloc (.cells #[.string (bstr l)] 9)).alloc (.cells #[.int .i64 0] 3)).frozen? ⟨w1.heap.size + 1, 0, none⟩ = false := by
      have := alloc_frozen ((w1.setCell ⟨w.heap.size, 0, none⟩ (.int .i64 m)).alloc (.cells #[.string (bstr l)] 9)) #[.int .i64 0] 3 0
      rw [z4] at this; exact this
  have hni : NI (((w1.setCell ⟨w.heap.size, 0, none⟩ (.int .i64 m)).alloc (.cells #[.string (bstr l)] 9)).alloc (.cells #[.int .i64 0] 3)) (w1.heap.size + 1) := fun i c e => by
    rw [cK i] at e
    rcases i with _ | i
    · cases e
    · simp at e
  have hB5 : Below w.heap.size w (((w1.setCell ⟨w.heap.size, 0, none⟩ (.int .i64 m)).alloc (.cells #[.string (bstr l)] 9)).alloc (.cells #[.int .i64 0] 3)) := ((HB1.out.setCell (p := ⟨w.heap.size, 0, none⟩) (Nat.le_refl _) (.int .i64 m)).alloc (by rw [z3]; omega) _).alloc (by rw [z4]; omega) _
  have hz5 : w1.heap.size + 1 < (((w1.setCell ⟨w.heap.size, 0, none⟩ (.int .i64 m)).alloc (.cells #[.string (bstr l)] 9)).alloc (.cells #[.int .i64 0] 3)).heap.size := by simp
  have c0K := cK 0
  simp only [List.getElem?_toArray, List.getElem?_cons_zero] at c0K
  clear cK z3 z4 hcv n0 nf hand
  generalize (((w1.setCell ⟨w.heap.size, 0, none⟩ (.int .i64 m)).alloc (.cells #[.string (bstr l)] 9)).alloc (.cells #[.int .i64 0] 3)) = w5 at *
  generalize w1.heap.size = S at *
  have hN : w.heap.size < S := hz1
  have HB5 : Aside (Below w.heap.size w w5) := hB5
  have hrd := read_c 34 HF.out ao cap l #[.pointer (some ⟨w.heap.size, 0, none⟩), .pointer (some ⟨S, 0, none⟩), .pointer (some ⟨S + 1, 0, none⟩)] w5 (fun k => k = S + 1)
    (fun l' W => l' = l.drop m ∧ m ≤ l.length ∧ W.cell? ⟨S + 1, 0, none⟩ = some (.int .i64 m)) (fun W => l.length < m ∧ W.cell? ⟨S + 1, 0, none⟩ = some (.int .i64 l.length)) HCap.out ((HB.out.under hB5).more hB5.size)
    (fun W R hW hR hRd => by
      have kN := (hW.cell (p := ⟨w.heap.size, 0, none⟩) (by show w.heap.size < _; omega)).trans cN
      have kS := (hW.cell (p := ⟨S, 0, none⟩) (by show S < _; omega)).trans cS
      have kK := (hW.cell (p := ⟨S + 1, 0, none⟩) hz5).trans c0K
      have kf := (hW.frozen (p := ⟨S + 1, 0, none⟩) hz5).trans fK
      exact gives1_c R w.heap.size S (S + 1) m l W hRd (by omega) (by omega) (by omega) (by omega) kN kS kK kf (fun i c e => hni i c ((hW.cell (p := ⟨S + 1, i, none⟩) hz5).symm.trans e)))
    (fun k hk => by omega)
    (fun l' W W' hx hk => ⟨hx.1, hx.2.1, (hk.cell (p := ⟨S + 1, 0, none⟩) (World.block_lt_of_cell? W _ hx.2.2) (by show ¬ S + 1 = w5.heap.size; omega)).trans hx.2.2⟩)
    (fun W W' hy hk => ⟨hy.1, (hk.cell (p := ⟨S + 1, 0, none⟩) (World.block_lt_of_cell? W _ hy.2) (by show ¬ S + 1 = w5.heap.size; omega)).trans hy.2⟩)
  rw [← HL.out] at hrd
  refine hrd.mono ?_
  rintro e w6 ⟨hk6, hw6⟩
  have p0 := (hk6.cell (p := ⟨w.heap.size, 0, none⟩) (by show w.heap.size < _; omega) (by show ¬ w.heap.size = S + 1; omega)).trans cN
  have p1 := (hk6.cell (p := ⟨S, 0, none⟩) (by show S < _; omega) (by show ¬ S = S + 1; omega)).trans cS
  have HB6 : Aside (Below w.heap.size w w6) := hB5.trans (hk6.below hB5.size (fun k hk e => by omega))
  have hcv6 := HCV.out w6 HB6.out
  have hself : ((bstr l).toList == (bstr l).toList) = true := by simp
  clear hrd hk6 cN cS c0K fK hni hB5
  have hLL := HL.out
  rcases hw6 with ⟨l', rfl, hl', hm1, hK⟩ | ⟨rfl, hm1, hK⟩
  · have hl2 : l'.isEmpty = ((m : Int) == (L : Int)) := by
      rw [hl']
      by_cases h : m = l.length
      · rw [h, List.drop_length, ← hLL]; simp
      · have : ¬ l.drop m = [] := by rw [List.drop_eq_nil_iff]; omega
        rw [show ((m : Int) == (L : Int)) = false by simp; omega]
        cases hq : l.drop m with
        | nil => exact absurd hq this
        | cons c t => rfl
    rw [hl2]
    have hmin : min (m : Int) (L : Int) = (m : Int) := by omega
    clear hl' hl2 hm1 hLL
    cases hmq : ((m : Int) == (L : Int))
    · go_wp2_with fail
      go_ret
      exact ⟨rfl, HB6.out⟩
    · go_wp2_with fail
      go_ret
      exact ⟨rfl, HB6.out⟩
  · have hmin : min (m : Int) (L : Int) = (L : Int) := by omega
    have hne : ((m : Int) == (L : Int)) = false := by simp; omega
    clear hm1 hLL
    go_wp2_with fail
    go_ret
    exact ⟨rfl, HB6.out⟩
end Go.Proofs.Ytnpbnjddlchmcaa
