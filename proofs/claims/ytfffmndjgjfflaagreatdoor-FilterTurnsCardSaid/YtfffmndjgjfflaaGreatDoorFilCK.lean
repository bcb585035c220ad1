/- FilterCovers' calls: what each answers, where both filters are right. -/
import Derived.Test.YtfffmndjgjfflaaGreatDoorGaJ
import Derived.Test.YtfffmndjgjfflaaGreatDoorFilN2
namespace Go.Proofs.YtfffmndjgjfflaaGreatDoor
open Go.RowKit Go.Shelf
open Go.Proofs
set_option maxRecDepth 100000

theorem prok_right {c : Cn} {M : Nat} (h : crightB c = true) (ha : AtW M c.a) : PrOk (canonC c) := by
  obtain ⟨p1, p2, p3⟩ := right_parts h
  obtain ⟨m1, m2, m3, m4⟩ := canonC_n c ha.2.1.1 ha.2.1.2 ha.1 p2
  have ho := opB_right h
  have p1' : c.a.nm.size ≤ 12 := p1
  refine ⟨?_, ?_, by omega, m3, m1, m2⟩
  · rw [canonC_op]; have := ho.1; have := ho.2; omega
  · rw [canonC_nm]; omega
/-- What is known of a filter's conditions brought to its Norm. -/
structure NK (cs L : List Cn) : Prop where
  ok : ∀ c ∈ L, AtOk c.a
  len : L.length ≤ 19
  norm : ∃ L0, NormOf cs L0 ∧ L = keptL L0
theorem normK_c (sc : ByteArray) (co : Option Addr) (ccap : Nat) (cs : List Cn) (w : World) (hF : FilIs MB w sc co cs) (hr : rightF sc cs = true) (hw : Wds w) (hT : Tabs w) (W : World) (hW : Below w.heap.size w W) :
    Calls Tryz.prog 14 #[fil sc co cs.length ccap] W fun e w' => ∃ ro rcap, ∃ L : List Cn, e = .returned (fil sc ro L.length rcap) ∧ Aside (NK cs L ∧ CondsB w'.heap.size w' ro L ∧ Below W.heap.size W w') := by
  have hl := rightF_len hr
  have ha := rightF_all hr
  have hp : ∀ c ∈ cs, PrOk (canonC c) := fun c hc => prok_right (ha c hc) (hF.2.1 c hc)
  refine (norm_c sc co ccap cs W (hF.1.on hW) (by omega) hp (hw.on hW) (hT.on hW)).mono ?_
  rintro e w' ⟨ro, rcap, L, rfl, H⟩
  obtain ⟨hs, hc, hb⟩ := H.out
  obtain ⟨hn, hlen⟩ := sorted_norm hs
  refine ⟨ro, rcap, keptL L, rfl, (⟨⟨fun c hc => ?_, ?_, L, hn, rfl⟩, hc, hb⟩ : _ ∧ _)⟩
  · obtain ⟨d, hd, rfl⟩ := hn.1 c (keptL_sub hc)
    exact (hp d hd).2.2.2.1
  · have := keptN_len L L.length
    show (keptN L L.length).length ≤ 19
    omega
/-- Covers, where all is well. -/
theorem coversK_c (fs : ByteArray) (co : Option Addr) (ccap : Nat) (cs : List Cn) (gs : ByteArray) (dd : Option Addr) (dcap : Nat) (ds : List Cn) (b : Bool) (hb : coversF fs cs gs ds = b) (hx : ∀ c ∈ cs, AtOk c.a) (hlc : cs.length ≤ 19) (hy : ∀ c ∈ ds, AtOk c.a) (hld : ds.length ≤ 19) (hfs : fs.size ≤ 52) (W : World) (hcs : CondsB W.heap.size W co cs) (hds : CondsB W.heap.size W dd ds) :
    Calls Tryz.prog 8 #[fil fs co cs.length ccap, fil gs dd ds.length dcap] W fun e w' => e = .returned (.bool b) ∧ Below W.heap.size W w' := by
  rw [← hb]
  exact fcovers_c fs co ccap cs gs dd dcap ds W hcs hx (by omega) hds hy (by omega) (by omega)

end Go.Proofs.YtfffmndjgjfflaaGreatDoor
