/- CodecAny: any bytes are an event that may be, whose bytes they are, or none. -/
import Derived.Test.YtnpbnjddlchmcaaFit4
import Derived.Test.YtnpbnjddlchmcaaEnc2
namespace Go.Proofs.Ytnpbnjddlchmcaa
open Go.RowKit Go.Shelf Go.Sort
open Go.Proofs
set_option maxRecDepth 100000

theorem BytesB.under {w w' : World} {B : Nat} {ao : Option Addr} {l : List UInt8} (h : BytesB w B ao l) (hb : Below B w w') : BytesB w' B ao l :=
  h.kb (Kb.of_below (S := fun k => B ≤ k) hb (fun _ _ h => h)) (fun k h1 _ h2 => by omega)
theorem BytesB.more {w : World} {B B' : Nat} {ao : Option Addr} {l : List UInt8} (h : BytesB w B ao l) (hB : B ≤ B') : BytesB w B' ao l := by
  rcases h with h | ⟨b, off, h1, h2, h3, h4⟩
  · exact Or.inl h
  · exact Or.inr ⟨b, off, h1, by omega, h3, h4⟩

set_option maxHeartbeats 4000000 in
theorem codecAny_c (ao : Option Addr) (cap : Nat) (l : List UInt8) (w : World) (hb : BytesB w w.heap.size ao l) (hcap : l.length ≤ cap) :
    Calls Try.prog 4 #[.slice ao l.length cap] w fun e w' => e = .returned (.bool true) ∧ Below w.heap.size w w' := by
  have HB : Aside (BytesB w w.heap.size ao l) := hb
  have HCap : Aside (l.length ≤ cap) := hcap
  clear hb hcap
  by_cases h15 : (1500 : Int) < (l.length : Int)
  · obtain ⟨n, hn⟩ : ∃ n, n = l.length := ⟨_, rfl⟩
    rw [← hn] at h15 ⊢
    clear hn
    go_enter Try.func4, Try.ntmps4
    go_wp2_with fail
    refine (fit4_c w).mono ?_
    rintro e w1 ⟨rfl, hb1⟩
    go_wp2_with fail
    go_ret
    exact ⟨rfl, hb1⟩
  have HRE : Aside (∀ W, Below w.heap.size w W → Calls Try.prog 16 #[.slice ao l.length cap] W (EvRes (evOf l) W)) := fun W hW => readEvent_c ao cap l W HCap.out ((HB.out.under hW).more hW.size)
  cases hev : evOf l with
  | none =>
    rw [hev] at HRE
    clear hev HCap HB
    generalize l.length = n at *
    go_enter Try.func4, Try.ntmps4
    go_wp2_with fail
    refine (fit4_c w).mono ?_
    rintro e w1 ⟨rfl, hb1⟩
    have HB1 : Aside (Below w.heap.size w w1) := hb1
    clear hb1
    go_wp2_with fail
    refine (HRE.out w1 HB1.out).mono ?_
    rintro e w2 ⟨hb2, rfl⟩
    have HB2 : Aside (Below w.heap.size w w2) := HB1.out.trans (hb2.mono HB1.out.size)
    clear hb2
    go_wp2_with fail
    go_ret
    exact ⟨rfl, HB2.out.alloc HB2.out.size _⟩
  | some p =>
    obtain ⟨sc, es⟩ := p
    rw [hev] at HRE
    obtain ⟨hl, ht, hsc, hes, hr⟩ := evOf_inv hev
    clear hev
    have HCE : Aside (∀ W ao2 cap2, SliceA W ao2 es → Calls Try.prog 15 #[.agg #[.string sc, .slice ao2 es.length cap2]] W fun e w' => ∃ ao' cap', e = .returned (.slice ao' l.length cap') ∧ Aside (w'.ownsRow W.heap.size 5 1 (.slice ao' l.length cap') l.length (l.map encB) ∧ Below W.heap.size W w')) := fun W ao2 cap2 hs => by
      rw [hl]; exact codecEvent_c sc ao2 cap2 es W hs ht hsc hes
    have HRT : Aside (∀ W ao2 cap2, SliceA W ao2 es → Calls Try.prog 14 #[.agg #[.string sc, .slice ao2 es.length cap2]] W fun e w' => e = .returned (.bool true) ∧ Below W.heap.size W w') := fun W ao2 cap2 hs => by
      have := right_c sc ao2 cap2 es W hs
      rw [hr] at this; exact this
    have HCV : Aside (∀ W, Below w.heap.size w W → (convert 29 9 (.slice ao l.length cap)).run Try.prog W = .ok (.string (bstr l)) W) := fun W hW => (HB.out.under hW).string cap
    have hself : ((bstr l).toList == (bstr l).toList) = true := by simp
    obtain ⟨m, hm⟩ : ∃ m, m = es.length := ⟨_, rfl⟩
    have HM : Aside (m = es.length) := hm
    rw [← hm] at HCE HRT
    clear hl ht hsc hes hr hm
    obtain ⟨n, hn⟩ : ∃ n, n = l.length := ⟨_, rfl⟩
    have HNn : Aside (n = l.length) := hn
    rw [← hn] at h15 HRE HCE HCV ⊢
    clear hn
    go_enter Try.func4, Try.ntmps4
    go_wp2_with fail
    refine (fit4_c w).mono ?_
    rintro e w1 ⟨rfl, hb1⟩
    have HB1 : Aside (Below w.heap.size w w1) := hb1
    clear hb1
    go_wp2_with fail
    refine (HRE.out w1 HB1.out).mono ?_
    rintro e w2 ⟨hb2, ao2, cap2, he2, hsl⟩
    rw [← HM.out] at he2
    subst he2
    have HB2 : Aside (Below w.heap.size w w2) := HB1.out.trans (hb2.mono HB1.out.size)
    have HS2 : Aside (SliceA w2 ao2 es) := hsl
    clear hb2 hsl
    go_wp2_with fail
    have hb3 : Below w2.heap.size w2 (w2.alloc (.cells #[.string sc, .slice ao2 m cap2] 26)) := (Below.refl _ _).alloc (Nat.le_refl _) _
    have HB3 : Aside (Below w.heap.size w (w2.alloc (.cells #[.string sc, .slice ao2 m cap2] 26))) := HB2.out.alloc HB2.out.size _
    have c0 := World.cell?_alloc_new w2 #[.string sc, .slice ao2 m cap2] 26 0
    have c1 := World.cell?_alloc_new w2 #[.string sc, .slice ao2 m cap2] 26 1
    simp only [List.getElem?_toArray, List.getElem?_cons_zero, List.getElem?_cons_succ] at c0 c1
    have hz3 : w2.heap.size < (w2.alloc (.cells #[.string sc, .slice ao2 m cap2] 26)).heap.size := by simp
    have HSX : Aside (∀ W, Below (w2.alloc (.cells #[.string sc, .slice ao2 m cap2] 26)).heap.size (w2.alloc (.cells #[.string sc, .slice ao2 m cap2] 26)) W → SliceA W ao2 es) := fun W hW => by
      have hbW : Below w2.heap.size w2 W := hb3.trans (hW.mono hb3.size)
      rcases HS2.out with h | ⟨b, off, h1, h2, h3⟩
      · exact Or.inl h
      · exact Or.inr ⟨b, off, h1, Nat.lt_of_lt_of_le h2 hbW.size, RowAt.below hbW h2 h3⟩
    clear hb3 HS2 HB2
    generalize (w2.alloc (.cells #[.string sc, .slice ao2 m cap2] 26)) = w3 at *
    generalize w2.heap.size = A at *
    have hR := HRT.out w3.drew ao2 cap2 (HSX.out _ (Below.refl _ _).drew)
    have HR := Lib.hid hR
    clear hR
    go_region_with (first
      | (go_at_call 14; (with_reducible refine HR.out.mono ?_); rintro e w4 ⟨rfl, hb4⟩; have hb4' : Below w3.heap.size w3 w4 := ⟨hb4.os, hb4.tape, hb4.output, hb4.size, hb4.block⟩; have p0 := (hb4'.cell (p := ⟨A, 0, none⟩) hz3).trans c0; have p1 := (hb4'.cell (p := ⟨A, 1, none⟩) hz3).trans c1; have HB4 : Aside (Below w.heap.size w w4) := HB3.out.trans (hb4'.mono HB3.out.size); have hcB4 := HCV.out w4 HB4.out; have HEV := Lib.hid (HCE.out w4 ao2 cap2 (HSX.out _ hb4')); clear hb4 hb4')
      | (go_at_call 15; (with_reducible refine HEV.out.mono ?_); rintro e w5 ⟨ao5, cap5, rfl, hA5⟩; have HB5 : Aside (Below w.heap.size w w5) := HB4.out.trans (hA5.out.2.mono HB4.out.size); have hcB5 := HCV.out w5 HB5.out; have hcA5 : (convert 29 9 (.slice ao5 n cap5)).run Try.prog w5 = .ok (.string (bstr l)) w5 := by have h := hA5.out.1; rw [HNn.out] at h ⊢; exact (own1_bytes h).1.string cap5))
    all_goals (go_wp2_with fail; go_ret; exact ⟨rfl, HB5.out⟩)
end Go.Proofs.Ytnpbnjddlchmcaa
