/- filter.Norm by what it gives, filter.Print of conditions that may be, filter.Key. -/
import Derived.Test.YtfffmndjgjfflaaGreatDoorFilX
namespace Go.Proofs.YtfffmndjgjfflaaGreatDoor
open Go.RowKit Go.Shelf Go.Sort
open Go.Proofs
set_option maxRecDepth 100000

/-- A filter's conditions, few and right. -/
structure CsOk (cs : List Cn) : Prop where
  len : cs.length ≤ 19
  pr : ∀ c ∈ cs, PrOk c
  prc : ∀ c ∈ cs, PrOk (canonC c)
  right : ∀ c ∈ cs, CRight c
theorem csOk_right {M : Nat} {w : World} {sc : ByteArray} {co : Option Addr} {cs : List Cn} (hF : FilIs M w sc co cs) (hr : rightF sc cs = true) : CsOk cs := by
  have hl := rightF_len hr
  have ha := rightF_all hr
  refine ⟨by omega, fun c hc => ?_, fun c hc => prok_right (ha c hc) (hF.2.1 c hc), fun c hc => ⟨ha c hc, (hF.2.1 c hc).1⟩⟩
  obtain ⟨p1, p2, p3⟩ := right_parts (ha c hc)
  have ho := opB_right (ha c hc)
  have h0 := ho.1; have h1 := ho.2
  have p1' : c.a.nm.size ≤ 12 := p1
  have p2' : c.a.s.size ≤ 40 := p2
  exact ⟨⟨h0, by omega⟩, by omega, by omega, (hF.2.1 c hc).1, (hF.2.1 c hc).2.1.1, (hF.2.1 c hc).2.1.2⟩
theorem CsOk.norm {cs : List Cn} (h : CsOk cs) : CsOk (normL cs) := by
  have hm := normL_mem h.right
  have hp : ∀ c ∈ normL cs, PrOk c := fun c hc => by
    obtain ⟨d, hd, rfl⟩ := (normL_of cs).1 c (keptL_sub hc)
    exact h.prc d hd
  refine ⟨Nat.le_trans (normL_len cs) h.len, hp, fun c hc => ?_, fun c hc => (hm c hc).1⟩
  rw [(hm c hc).2]; exact hp c hc
theorem TX_size {c : Cn} (h : PrOk c) : (TX c).size ≤ 100000 := by
  obtain ⟨⟨h0, h8⟩, h1, h2, h3, h4, h5⟩ := h
  have hz := printT_size c.a.k c.a.n c.a.x c.a.s c.a.y h4 h5
  have hw := wordS_size c.op.toNat (by omega)
  have hw7 := wordS_size 7 (by decide)
  have e32 : (⟨#[32]⟩ : ByteArray).size = 1 := rfl
  unfold TX cprintS
  split <;> (simp only [ByteArray.size_append]; omega)
theorem normN_c (sc : ByteArray) (co : Option Addr) (ccap : Nat) (cs : List Cn) (w : World) (hcs : CondsB w.heap.size w co cs) (hk : CsOk cs) (hw : Wds w) (hT : Tabs w) :
    Calls Tryz.prog 14 #[fil sc co cs.length ccap] w fun e w' => ∃ ro rcap, e = .returned (fil sc ro (normL cs).length rcap) ∧ Aside (CondsB w'.heap.size w' ro (normL cs) ∧ Below w.heap.size w w') := by
  refine (norm_c sc co ccap cs w hcs hk.len hk.prc hw hT).mono ?_
  rintro e w' ⟨ro, rcap, L, rfl, H⟩
  obtain ⟨hs, hc, hb⟩ := H.out
  have he := norm_eq hs hk.right
  rw [he] at hc ⊢
  exact ⟨ro, rcap, rfl, (⟨hc, hb⟩ : _ ∧ _)⟩
theorem fprintN_c (sc : ByteArray) (co : Option Addr) (ccap : Nat) (cs : List Cn) (w : World) (hcs : CondsB w.heap.size w co cs) (hk : CsOk cs) (hsc : sc.size ≤ 52) (hw : Wds w) (hT : Tabs w) :
    Calls Tryz.prog 10 #[fil sc co cs.length ccap] w fun e w' => e = .returned (.string (textF sc TX cs)) ∧ Below w.heap.size w w' :=
  fprint_c sc co ccap cs TX w hcs (by have := hk.len; omega) (by omega) (fun c hc => TX_size (hk.pr c hc)) fun c hc W hW => cprintX_c c (hk.pr c hc) W (hw.on hW) (hT.on hW)
set_option maxHeartbeats 2000000 in
theorem keyN_c (sc : ByteArray) (co : Option Addr) (ccap : Nat) (cs : List Cn) (w : World) (hcs : CondsB w.heap.size w co cs) (hk : CsOk cs) (hsc : sc.size ≤ 52) (hw : Wds w) (hT : Tabs w) :
    Calls Tryz.prog 7 #[fil sc co cs.length ccap] w fun e w' => e = .returned (.string (textF sc TX (normL cs))) ∧ Below w.heap.size w w' := by
  have HN : Aside (∀ W, Below w.heap.size w W → Calls Tryz.prog 14 #[fil sc co cs.length ccap] W fun e w' => ∃ ro rcap, e = .returned (fil sc ro (normL cs).length rcap) ∧ Aside (CondsB w'.heap.size w' ro (normL cs) ∧ Below W.heap.size W w')) := fun W hW => normN_c sc co ccap cs W (hcs.on hW) hk (hw.on hW) (hT.on hW)
  have HP : Aside (∀ ro rcap W, Below w.heap.size w W → CondsB W.heap.size W ro (normL cs) → Calls Tryz.prog 10 #[fil sc ro (normL cs).length rcap] W fun e w' => e = .returned (.string (textF sc TX (normL cs))) ∧ Below W.heap.size W w') := fun ro rcap W hW hc => fprintN_c sc ro rcap (normL cs) W hc hk.norm hsc (hw.on hW) (hT.on hW)
  have HKP : Aside (∀ W, Below (w.heap.size + 1) (w.alloc (.cells #[.string sc, .slice co cs.length ccap] 24)) W → W.cell? ⟨w.heap.size, 0, none⟩ = some (.string sc) ∧ W.cell? ⟨w.heap.size, 1, none⟩ = some (.slice co cs.length ccap)) := fil_cells
  have HB0 : Aside (Below w.heap.size w (w.alloc (.cells #[.string sc, .slice co cs.length ccap] 24))) := (Below.refl _ _).alloc (Nat.le_refl _) _
  obtain ⟨a0, a1⟩ := HKP.out _ (Below.refl _ _)
  generalize textF sc TX (normL cs) = K at *
  generalize normL cs = L at *
  generalize cs.length = n at *
  clear hcs hk hsc hw hT HKP
  go_enter Tryz.func7, Tryz.ntmps7
  go_wp2_with fail
  clear a0 a1
  refine (HN.out _ HB0.out).mono ?_
  rintro e w1 ⟨ro, rcap, rfl, H⟩
  have HB1 : Aside (Below w.heap.size w w1) := HB0.out.trans (H.out.2.mono HB0.out.size)
  go_wp2_with fail
  refine (HP.out _ _ _ HB1.out H.out.1).mono ?_
  rintro e w2 ⟨rfl, hb⟩
  have HB2 : Aside (Below w.heap.size w w2) := HB1.out.trans (hb.mono HB1.out.size)
  go_wp2_with fail
  go_ret
  exact ⟨rfl, HB2.out⟩
end Go.Proofs.YtfffmndjgjfflaaGreatDoor
