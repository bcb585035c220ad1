/- FilterCovers' calls: what each answers, where both filters are right. -/
import Derived.Test.YtcbccioibpjkgaaGreatDoorGaJ
import Derived.Test.YtcbccioibpjkgaaGreatDoorFilN2
namespace Go.Proofs.YtcbccioibpjkgaaGreatDoor
open Go.RowKit Go.Shelf
open Go.Proofs
set_option maxRecDepth 100000

theorem prok_right {c : Cn} {M : Nat} (h : crightB c = true) (ha : AtW M c.a) : PrOk (canonC c) := by
  obtain ⟨p1, p2, p3⟩ := right_parts h
  obtain ⟨m1, m2, m3, m4⟩ := canonC_n c ha.2.1.1 ha.2.1.2 ha.1 p2
  have ho := opB_right h
  have p1' : c.a.nm.size ≤ 12 := p1
  refine ⟨?_, ?_, by omega, m3, m1, m2⟩
  · rw [canonC_op]; have := ho.1; have := ho.2; omega
  · rw [canonC_nm]; omega
/-- What is known of a filter's conditions brought to its Norm. -/
structure NK (cs L : List Cn) : Prop where
  ok : ∀ c ∈ L, AtOk c.a
  len : L.length ≤ 19
  norm : ∃ L0, NormOf cs L0 ∧ L = keptL L0
theorem normK_c (sc : ByteArray) (co : Option Addr) (ccap : Nat) (cs : List Cn) (w : World) (hF : FilIs MB w sc co cs) (hr : rightF sc cs = true) (hw : Wds w) (hT : Tabs w) (W : World) (hW : Below w.heap.size w W) :
    Calls Tryz.prog 24 #[fil sc co cs.length ccap] W fun e w' => ∃ ro rcap, ∃ L : List Cn, e = .returned (fil sc ro L.length rcap) ∧ Aside (NK cs L ∧ CondsB w'.heap.size w' ro L ∧ Below W.heap.size W w') := by
  have hl := rightF_len hr
  have ha := rightF_all hr
  have hp : ∀ c ∈ cs, PrOk (canonC c) := fun c hc => prok_right (ha c hc) (hF.2.1 c hc)
  refine (norm_c sc co ccap cs W (hF.1.on hW) (by omega) hp (hw.on hW) (hT.on hW)).mono ?_
  rintro e w' ⟨ro, rcap, L, rfl, H⟩
  obtain ⟨hs, hc, hb⟩ := H.out
  obtain ⟨hn, hlen⟩ := sorted_norm hs
  refine ⟨ro, rcap, keptL L, rfl, (⟨⟨fun c hc => ?_, ?_, L, hn, rfl⟩, hc, hb⟩ : _ ∧ _)⟩
  · obtain ⟨d, hd, rfl⟩ := hn.1 c (keptL_sub hc)
    exact (hp d hd).2.2.2.1
  · have := keptN_len L L.length
    show (keptN L L.length).length ≤ 19
    omega
/-- Covers, where all is well. -/
theorem coversK_c (fs : ByteArray) (co : Option Addr) (ccap : Nat) (cs : List Cn) (gs : ByteArray) (dd : Option Addr) (dcap : Nat) (ds : List Cn) (b : Bool) (hb : coversF fs cs gs ds = b) (hx : ∀ c ∈ cs, AtOk c.a) (hlc : cs.length ≤ 19) (hy : ∀ c ∈ ds, AtOk c.a) (hld : ds.length ≤ 19) (hfs : fs.size ≤ 52) (W : World) (hcs : CondsB W.heap.size W co cs) (hds : CondsB W.heap.size W dd ds) :
    Calls Tryz.prog 20 #[fil fs co cs.length ccap, fil gs dd ds.length dcap] W fun e w' => e = .returned (.bool b) ∧ Below W.heap.size W w' := by
  rw [← hb]
  exact fcovers_c fs co ccap cs gs dd dcap ds W hcs hx (by omega) hds hy (by omega) (by omega)

/-- The law's calls behind the test that both are right. -/
structure CovK (w : World) (sc0 : ByteArray) (co0 : Option Addr) (cp0 n0 : Nat) (sc1 : ByteArray) (co1 : Option Addr) (cp1 n1 : Nat) (sE : ByteArray) (cv : Bool) (m0 m1 : List At → Bool) (nk0 nk1 : List Cn → Prop) : Prop where
  cov : ∀ W, Below w.heap.size w W → Calls Tryz.prog 20 #[fil sc0 co0 n0 cp0, fil sc1 co1 n1 cp1] W fun e w' => e = .returned (.bool cv) ∧ Below W.heap.size W w'
  rcov : ∀ W, Below w.heap.size w W → Calls Tryz.prog 22 #[fil sc0 co0 n0 cp0, fil sc1 co1 n1 cp1] W fun e w' => e = .returned (.bool cv) ∧ Below W.heap.size W w'
  self : ∀ W, Below w.heap.size w W → Calls Tryz.prog 20 #[fil sc0 co0 n0 cp0, fil sc0 co0 n0 cp0] W fun e w' => e = .returned (.bool true) ∧ Below W.heap.size W w'
  mat0 : ∀ (bo : Option Addr) (bcap : Nat) (es : List At) (W : World), SliceA W bo es → es.length ≤ 8 → (∀ a ∈ es, AtOk a) → Below w.heap.size w W → Calls Tryz.prog 23 #[fil sc0 co0 n0 cp0, evt sE bo es.length bcap] W fun e w' => e = .returned (.bool (m0 es)) ∧ Below W.heap.size W w'
  mat1 : ∀ (bo : Option Addr) (bcap : Nat) (es : List At) (W : World), SliceA W bo es → es.length ≤ 8 → (∀ a ∈ es, AtOk a) → Below w.heap.size w W → Calls Tryz.prog 23 #[fil sc1 co1 n1 cp1, evt sE bo es.length bcap] W fun e w' => e = .returned (.bool (m1 es)) ∧ Below W.heap.size W w'
  imp : ∀ es, cv = true → m1 es = true → m0 es = true
  nor0 : ∀ W, Below w.heap.size w W → Calls Tryz.prog 24 #[fil sc0 co0 n0 cp0] W fun e w' => ∃ ro rcap, ∃ L : List Cn, e = .returned (fil sc0 ro L.length rcap) ∧ Aside (nk0 L ∧ CondsB w'.heap.size w' ro L ∧ Below W.heap.size W w')
  nor1 : ∀ W, Below w.heap.size w W → Calls Tryz.prog 24 #[fil sc1 co1 n1 cp1] W fun e w' => ∃ ro rcap, ∃ L : List Cn, e = .returned (fil sc1 ro L.length rcap) ∧ Aside (nk1 L ∧ CondsB w'.heap.size w' ro L ∧ Below W.heap.size W w')
  cnf : ∀ (L : List Cn) (ro : Option Addr) (rcap : Nat) (W : World), nk0 L → CondsB W.heap.size W ro L → Below w.heap.size w W → Calls Tryz.prog 20 #[fil sc0 ro L.length rcap, fil sc0 co0 n0 cp0] W fun e w' => e = .returned (.bool true) ∧ Below W.heap.size W w'
  cfn : ∀ (L : List Cn) (ro : Option Addr) (rcap : Nat) (W : World), nk0 L → CondsB W.heap.size W ro L → Below w.heap.size w W → Calls Tryz.prog 20 #[fil sc0 co0 n0 cp0, fil sc0 ro L.length rcap] W fun e w' => e = .returned (.bool true) ∧ Below W.heap.size W w'
  cnm : ∀ (L : List Cn) (ro : Option Addr) (rcap : Nat) (M : List Cn) (r1 : Option Addr) (c1 : Nat) (W : World), nk0 L → nk1 M → CondsB W.heap.size W ro L → CondsB W.heap.size W r1 M → Calls Tryz.prog 20 #[fil sc0 ro L.length rcap, fil sc1 r1 M.length c1] W fun e w' => e = .returned (.bool cv) ∧ Below W.heap.size W w'
theorem covK (w : World) (sc0 : ByteArray) (co0 : Option Addr) (cp0 : Nat) (cs0 : List Cn) (sc1 : ByteArray) (co1 : Option Addr) (cp1 : Nat) (cs1 : List Cn) (sE : ByteArray) (hw : Wds w) (hT : Tabs w) (hF0 : FilIs MB w sc0 co0 cs0) (hF1 : FilIs MB w sc1 co1 cs1) (hr0 : rightF sc0 cs0 = true) (hr1 : rightF sc1 cs1 = true) :
    CovK w sc0 co0 cp0 cs0.length sc1 co1 cp1 cs1.length sE (coversF sc0 cs0 sc1 cs1) (fun es => matchF sc0 cs0 sE es) (fun es => matchF sc1 cs1 sE es) (NK cs0) (NK cs1) where
  cov := fun W hW => coversK_c sc0 co0 cp0 cs0 sc1 co1 cp1 cs1 _ rfl (fun c hc => (hF0.2.1 c hc).1) (by have := rightF_len hr0; omega) (fun c hc => (hF1.2.1 c hc).1) (by have := rightF_len hr1; omega) (rightF_size hr0) W (hF0.1.on hW) (hF1.1.on hW)
  rcov := fun W hW => rcovers_c sc0 co0 cp0 cs0 sc1 co1 cp1 cs1 W (hF0.1.on hW) (fun c hc => ⟨(hF0.2.1 c hc).1, Nat.le_trans (hF0.2.1 c hc).2.2.2 (by decide)⟩) (by have := rightF_len hr0; omega) (hF1.1.on hW) (fun c hc => ⟨(hF1.2.1 c hc).1, Nat.le_trans (hF1.2.1 c hc).2.2.2 (by decide)⟩) (by have := rightF_len hr1; omega) (rightF_ops hr1)
  self := fun W hW => coversK_c sc0 co0 cp0 cs0 sc0 co0 cp0 cs0 _ (covers_self (rightF_ops hr0)) (fun c hc => (hF0.2.1 c hc).1) (by have := rightF_len hr0; omega) (fun c hc => (hF0.2.1 c hc).1) (by have := rightF_len hr0; omega) (rightF_size hr0) W (hF0.1.on hW) (hF0.1.on hW)
  mat0 := fun bo bcap es W hE h8 hok hW => fmatch_c sc0 co0 cp0 cs0 sE bo bcap es W (hF0.1.on hW) (fun c hc => (hF0.2.1 c hc).1) (by have := rightF_len hr0; omega) hE hok (by omega) (Nat.le_trans (rightF_size hr0) (by decide))
  mat1 := fun bo bcap es W hE h8 hok hW => fmatch_c sc1 co1 cp1 cs1 sE bo bcap es W (hF1.1.on hW) (fun c hc => (hF1.2.1 c hc).1) (by have := rightF_len hr1; omega) hE hok (by omega) (Nat.le_trans (rightF_size hr1) (by decide))
  imp := fun es h h2 => covers_match (rightF_ops hr0) (rightF_ops hr1) h h2
  nor0 := fun W hW => normK_c sc0 co0 cp0 cs0 w hF0 hr0 hw hT W hW
  nor1 := fun W hW => normK_c sc1 co1 cp1 cs1 w hF1 hr1 hw hT W hW
  cnf := fun L ro rcap W hk hc hW => by
    obtain ⟨L0, hn, rfl⟩ := hk.norm
    exact coversK_c sc0 ro rcap _ sc0 co0 cp0 cs0 _ (norm_covers hn (rightF_all hr0)) hk.ok hk.len (fun c hc => (hF0.2.1 c hc).1) (by have := rightF_len hr0; omega) (rightF_size hr0) W hc (hF0.1.on hW)
  cfn := fun L ro rcap W hk hc hW => by
    obtain ⟨L0, hn, rfl⟩ := hk.norm
    exact coversK_c sc0 co0 cp0 cs0 sc0 ro rcap _ _ (covers_norm hn (rightF_all hr0)) (fun c hc => (hF0.2.1 c hc).1) (by have := rightF_len hr0; omega) hk.ok hk.len (rightF_size hr0) W (hF0.1.on hW) hc
  cnm := fun L ro rcap M r1 c1 W hk hk1 hc hc1 => by
    obtain ⟨L0, hn, rfl⟩ := hk.norm
    obtain ⟨M0, hn1, rfl⟩ := hk1.norm
    exact coversK_c sc0 ro rcap _ sc1 r1 c1 _ _ (norms_covers hn hn1 (rightF_all hr0) (rightF_all hr1)) hk.ok hk.len hk1.ok hk1.len (rightF_size hr0) W hc hc1
end Go.Proofs.YtcbccioibpjkgaaGreatDoor
