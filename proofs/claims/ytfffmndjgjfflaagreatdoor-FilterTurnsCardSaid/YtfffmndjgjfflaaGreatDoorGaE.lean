/- FilV, MaxI, FilC, Builder, BuilderK, FilT, FilF, FilL: merged by merge.py. -/
import Derived.Test.YtfffmndjgjfflaaGreatDoorGaD
import Derived.Test.YtfffmndjgjfflaaGreatDoorCondI
import Derived.Test.YtfffmndjgjfflaaGreatDoorRows
import Derived.Test.YtfffmndjgjfflaaGreatDoorShelf
import Derived.Lib.Builder
import Derived.Lib.AppendStr
import Derived.Lib.UnsafeStr
import Derived.WalkKit
import Derived.Laws.Externs
import Derived.Laws.IdiomCopy
import Derived.KernelRfl
import Derived.Lib.Hide
import Derived.Deep.Heap
import Derived.Test.YtfffmndjgjfflaaGreatDoorGaC
/- filter.Void, implied, Covers, Right of any filter. -/
namespace Go.Proofs.YtfffmndjgjfflaaGreatDoor
open Go.RowKit Go.Shelf
open Go.Proofs
set_option maxRecDepth 100000

theorem any_true_at {α : Type} [Inhabited α] (P : List α) (f : α → Bool) (j : Nat) (hj : j < P.length) (hf : f P[j]! = true) : P.any f = true := by
  rw [List.any_eq_true]
  refine ⟨P[j]!, ?_, hf⟩
  rw [getElem!_pos P j hj]; exact List.getElem_mem _
theorem any_take_snoc {α : Type} [Inhabited α] (P : List α) (f : α → Bool) (j : Nat) (hj : j < P.length) (h : (P.take j).any f = false) (hf : f P[j]! = false) : (P.take (j + 1)).any f = false := by
  rw [List.take_add_one, List.getElem?_eq_getElem hj, List.any_append, h]
  rw [getElem!_pos P j hj] at hf
  simp [hf]

set_option maxHeartbeats 4000000 in
theorem indexF_c (g : Nat) (cb : Array Value) (q : Cn → Bool) (co : Option Addr) (ccap : Nat) (cs : List Cn) (w : World) (hcs : CondsB w.heap.size w co cs) (hlc : cs.length ≤ 4611686018427387904)
    (eg : ∀ args w, (callFunc g args).run Tryz.prog w = .ok (.enter g args) w)
    (hg : ∀ c ∈ cs, ∀ W, Below w.heap.size w W → Calls Tryz.prog g (#[cndC c] ++ cb) W fun e w' => e = .returned (.bool (q c)) ∧ Below W.heap.size W w') :
    Calls Tryz.prog 41 #[.slice co cs.length ccap, .func (.func g) #[] cb] w fun e w' => ∃ r : Int, e = .returned (.int .i64 r) ∧ decide (0 ≤ r) = cs.any q ∧ Below w.heap.size w w' := by
  obtain ⟨len, hL⟩ : ∃ len, len = cs.length := ⟨_, rfl⟩
  have HLen : Aside (len = cs.length) := hL
  rw [← hL] at hlc ⊢
  have HG := Lib.hid hg
  have HSL : Aside (∀ W, Below w.heap.size w W → cs = [] ∨ ∃ b off, co = some ⟨b, off, none⟩ ∧ b < w.heap.size ∧ RowC W b off cs) := fun W hW => by
    rcases hcs with h | ⟨b, off, h1, h2, h3⟩
    · exact Or.inl h
    · exact Or.inr ⟨b, off, h1, h2, RowC.below hW h2 h3⟩
  obtain ⟨r, hr⟩ : ∃ r, r = cs.any q := ⟨_, rfl⟩
  have HR : Aside (r = cs.any q) := hr
  rw [← hr]
  clear hcs hg hL hr
  go_enter Tryz.func41, Tryz.ntmps41
  go_wp2_with fail
  go_loopg [8] len (fun kx s10 wr => ∃ j : Nat, s10 = .int .i64 j ∧ j ≤ len ∧ len - j ≤ kx ∧ Aside ((cs.take j).any q = false) ∧ Aside (Below w.heap.size w wr))
  case atStart => exact ⟨0, rfl, Nat.zero_le _, by omega, by simp [Aside], Below.refl _ _⟩
  case round =>
    obtain ⟨j, rfl, hj, hjx, HN, HA⟩ := hrel
    have zr : w.heap.size ≤ wr.heap.size := HA.out.size
    by_cases hlt : j < len
    · rcases HSL.out _ HA.out with h0 | ⟨b, off, hao, hbs, hrow⟩
      · rw [h0] at HLen; exact absurd HLen.out (by simp; omega)
      subst hao
      have hjl : j < cs.length := by rw [← HLen.out]; exact hlt
      have hrow1 := hrow j hjl
      have HMj := Lib.hid (HG.out _ (memC cs j hjl) _ HA.out)
      have HT : Aside (q cs[j]! = true → r = true) := fun h => by rw [HR.out, any_true_at cs q j hjl h]
      have HF : Aside (q cs[j]! = false → (cs.take (j + 1)).any q = false) := fun h => any_take_snoc cs q j hjl HN.out h
      generalize q cs[j]! = p at HT HF HMj
      generalize cs[j]! = c at hrow1 HMj
      obtain ⟨⟨nm, k, n', x, s, y⟩, op⟩ := c
      have c0 := hrow1 0 _ rfl; have c1 := hrow1 1 _ rfl; have c2 := hrow1 2 _ rfl; have c3 := hrow1 3 _ rfl; have c4 := hrow1 4 _ rfl; have c5 := hrow1 5 _ rfl; have c6 := hrow1 6 _ rfl
      simp only [Nat.add_zero] at c0
      clear hrow1 hrow HSL HG hjl
      have hltz : (j : Int) < len := by omega
      have hjz : (0 : Int) ≤ (j : Int) := by omega
      go_wp2_with fail
      clear c0 c1 c2 c3 c4 c5 c6
      refine HMj.out.mono ?_
      rintro e w10 ⟨rfl, hb⟩
      have HA10 := Lib.hid (HA.out.trans (hb.mono zr)); clear hb
      cases p
      · go_wp2_with fail
        go_roundg (len - (j + 1))
        case measure => omega
        case rel => exact ⟨j + 1, by go_num, hlt, Nat.le_refl _, HF.out (by first | trivial | rfl), HA10.out⟩
      · have hrt : r = true := HT.out (by first | trivial | rfl)
        subst hrt
        go_wp2_with fail
        go_ret
        exact ⟨j, rfl, by simp, HA10.out⟩
    · obtain rfl : j = len := by omega
      have hrf : r = false := by
        rw [HR.out]
        have := HN.out
        rw [HLen.out, List.take_length] at this
        exact this
      subst hrf
      go_wp2_with fail
      go_ret
      exact ⟨-1, rfl, rfl, HA.out⟩
set_option maxHeartbeats 1000000 in
theorem containsF_c (g : Nat) (cb : Array Value) (q : Cn → Bool) (co : Option Addr) (ccap : Nat) (cs : List Cn) (w : World) (hcs : CondsB w.heap.size w co cs) (hlc : cs.length ≤ 4611686018427387904)
    (eg : ∀ args w, (callFunc g args).run Tryz.prog w = .ok (.enter g args) w)
    (hg : ∀ c ∈ cs, ∀ W, Below w.heap.size w W → Calls Tryz.prog g (#[cndC c] ++ cb) W fun e w' => e = .returned (.bool (q c)) ∧ Below W.heap.size W w') :
    Calls Tryz.prog 27 #[.slice co cs.length ccap, .func (.func g) #[] cb] w fun e w' => e = .returned (.bool (cs.any q)) ∧ Below w.heap.size w w' := by
  have H := Lib.hid (indexF_c g cb q co ccap cs w hcs hlc eg hg)
  generalize cs.any q = b at *
  clear hcs hlc hg
  go_enter Tryz.func27, Tryz.ntmps27
  go_wp2_with fail
  refine H.out.mono ?_
  rintro e w1 ⟨r, rfl, hr, hb⟩
  have HB := Lib.hid hb; clear hb
  have HRr := Lib.hid hr; clear hr
  go_wp2_with fail
  go_ret
  exact ⟨congrArg (fun b => Ending.returned (Value.bool b)) HRr.out, HB.out⟩
theorem cvoid_enters : ∀ args w, (callFunc 28 args).run Tryz.prog w = .ok (.enter 28 args) w := enters_of Tryz.func28 (by kernel_rfl) rfl
set_option maxHeartbeats 1000000 in
theorem fvoid_c (fs : ByteArray) (co : Option Addr) (ccap : Nat) (cs : List Cn) (w : World) (hcs : CondsB w.heap.size w co cs) (hlc : cs.length ≤ 4611686018427387904) :
    Calls Tryz.prog 15 #[fil fs co cs.length ccap] w fun e w' => e = .returned (.bool (voidF cs)) ∧ Below w.heap.size w w' := by
  have B0 : Below w.heap.size w (w.alloc (.cells #[.string fs, .slice co cs.length ccap] 24)) := (Below.refl _ _).alloc (Nat.le_refl _) _
  have h := fun W (hW : Below w.heap.size w W) => containsF_c 28 #[] cvoidB co ccap cs W (hcs.on hW) hlc cvoid_enters (fun c _ W' _ => cvoid_c c.a.nm c.op c.a.k c.a.n c.a.x c.a.s c.a.y W')
  have H := Lib.hid h
  have HB0 := Lib.hid B0
  unfold voidF
  generalize cs.any cvoidB = b at *
  generalize cs.length = len at *
  clear h B0 hcs hlc
  go_enter Tryz.func15, Tryz.ntmps15
  go_wp2_with fail
  refine (H.out _ HB0.out).mono ?_
  rintro e w1 ⟨rfl, hb⟩
  have HB := Lib.hid hb; clear hb
  go_wp2_with fail
  go_ret
  exact ⟨rfl, HB0.out.trans (HB.out.mono (by simp))⟩

/-! ### implied -/
theorem implied_enters : ∀ args w, (callFunc 30 args).run Tryz.prog w = .ok (.enter 30 args) w := enters_of Tryz.func30 (by kernel_rfl) rfl
set_option maxHeartbeats 2000000 in
theorem impl1_c (a c : Cn) (ha : AtOk a.a) (hc : AtOk c.a) (B : Nat) (w : World) (hB : B < w.heap.size) (h : ∀ i v, (encC c)[i]? = some v → w.cell? ⟨B, i, none⟩ = some v) :
    Calls Tryz.prog 30 #[cndC a, .pointer (some ⟨B, 0, none⟩)] w fun e w' => e = .returned (.bool (impliesB a c)) ∧ Below w.heap.size w w' := by
  have hi := fun W => implies_c a.a.nm a.op a.a.k a.a.n a.a.x a.a.s a.a.y c.a.nm c.op c.a.k c.a.n c.a.x c.a.s c.a.y ha hc W
  have HI := Lib.hid hi
  have B0 : Below w.heap.size w (w.alloc (.cells (cnds a.a.nm a.op a.a.k a.a.n a.a.x a.a.s a.a.y) 31)) := (Below.refl _ _).alloc (Nat.le_refl _) _
  have h0 := (B0.cell (p := ⟨B, 0, none⟩) hB).trans (h 0 _ rfl)
  have h1 := (B0.cell (p := ⟨B, 1, none⟩) hB).trans (h 1 _ rfl)
  have h2 := (B0.cell (p := ⟨B, 2, none⟩) hB).trans (h 2 _ rfl)
  have h3 := (B0.cell (p := ⟨B, 3, none⟩) hB).trans (h 3 _ rfl)
  have h4 := (B0.cell (p := ⟨B, 4, none⟩) hB).trans (h 4 _ rfl)
  have h5 := (B0.cell (p := ⟨B, 5, none⟩) hB).trans (h 5 _ rfl)
  have h6 := (B0.cell (p := ⟨B, 6, none⟩) hB).trans (h 6 _ rfl)
  have HB0 := Lib.hid B0
  obtain ⟨⟨nm, k, n, x, s, y⟩, op⟩ := a
  obtain ⟨⟨nm2, k2, n2, x2, s2, y2⟩, op2⟩ := c
  simp only at *
  generalize impliesB ⟨⟨nm, k, n, x, s, y⟩, op⟩ ⟨⟨nm2, k2, n2, x2, s2, y2⟩, op2⟩ = r at *
  clear hi B0 h ha hc
  show Calls _ _ #[cnd nm op k n x s y, .pointer (some ⟨B, 0, none⟩)] w _
  go_enter Tryz.func30, Tryz.ntmps30
  go_wp2_with fail
  refine (HI.out _).mono ?_
  rintro e w1 ⟨rfl, hb⟩
  have HB := Lib.hid hb; clear hb
  go_wp2_with fail
  go_ret
  exact ⟨rfl, HB0.out.trans (HB.out.mono (by simp))⟩
set_option maxHeartbeats 2000000 in
theorem implied_c (co : Option Addr) (ccap : Nat) (cs : List Cn) (c : Cn) (w : World) (hcs : CondsB w.heap.size w co cs) (hx : ∀ a ∈ cs, AtOk a.a) (hc : AtOk c.a) (hlc : cs.length ≤ 4611686018427387904) :
    Calls Tryz.prog 17 #[.slice co cs.length ccap, cndC c] w fun e w' => e = .returned (.bool (impliedF cs c)) ∧ Below w.heap.size w w' := by
  obtain ⟨⟨nm2, k2, n2, x2, s2, y2⟩, op2⟩ := c
  show Calls _ _ #[.slice co cs.length ccap, cnd nm2 op2 k2 n2 x2 s2 y2] w _
  have B0 : Below w.heap.size w (w.alloc (.cells (cnds nm2 op2 k2 n2 x2 s2 y2) 31)) := (Below.refl _ _).alloc (Nat.le_refl _) _
  have h := containsF_c 30 #[.pointer (some ⟨w.heap.size, 0, none⟩)] (fun a => impliesB a ⟨⟨nm2, k2, n2, x2, s2, y2⟩, op2⟩) co ccap cs (w.alloc (.cells (cnds nm2 op2 k2 n2 x2 s2 y2) 31)) (hcs.on B0) hlc implied_enters (fun a ha W' hW' => impl1_c a ⟨⟨nm2, k2, n2, x2, s2, y2⟩, op2⟩ (hx a ha) hc w.heap.size W' (Nat.lt_of_lt_of_le (by simp) hW'.size) (fun i v hv => by
    rw [hW'.cell (p := ⟨w.heap.size, i, none⟩) (by simp), World.cell?_alloc_new]
    simpa [encC] using hv))
  have H := Lib.hid h
  have HB0 := Lib.hid B0
  unfold impliedF
  generalize cs.any (fun a => impliesB a ⟨⟨nm2, k2, n2, x2, s2, y2⟩, op2⟩) = b at *
  generalize cs.length = len at *
  clear h B0 hcs hlc hx hc
  go_enter Tryz.func17, Tryz.ntmps17
  go_wp2_with fail
  refine H.out.mono ?_
  rintro e w1 ⟨rfl, hb⟩
  have HB := Lib.hid hb; clear hb
  go_wp2_with fail
  go_ret
  exact ⟨rfl, HB0.out.trans (HB.out.mono (by simp))⟩
end Go.Proofs.YtfffmndjgjfflaaGreatDoor

/- What a scope's Right wants of the world: the library's own variable holds some number. -/
namespace Go.Proofs.YtfffmndjgjfflaaGreatDoor
open Go.RowKit Go.Shelf
open Go.Proofs
set_option maxRecDepth 100000

/-- The library's own variable holds some number. -/
def MaxI (W : World) : Prop := ∃ m, W.cell? ⟨1, 0, none⟩ = some (.int .i64 m)
theorem maxI_of {W : World} (h : W.ShapedOpen Tryz.prog) : MaxI W := Tryz.laysM219.s1_3 W h
theorem MaxI.below {w W : World} (h : MaxI w) (hb : Below w.heap.size w W) : MaxI W := by
  obtain ⟨m, hm⟩ := h
  exact ⟨m, (hb.cell (p := ⟨1, 0, none⟩) (World.block_lt_of_cell? _ _ hm)).trans hm⟩
end Go.Proofs.YtfffmndjgjfflaaGreatDoor

/- filter.Covers, filter.Right of any filters. -/
namespace Go.Proofs.YtfffmndjgjfflaaGreatDoor
open Go.RowKit Go.Shelf
open Go.Proofs
set_option maxRecDepth 100000

set_option maxHeartbeats 4000000 in
theorem fcovers_c (fs : ByteArray) (co : Option Addr) (ccap : Nat) (cs : List Cn) (gs : ByteArray) (dd : Option Addr) (dcap : Nat) (ds : List Cn) (w : World) (hcs : CondsB w.heap.size w co cs) (hx : ∀ c ∈ cs, AtOk c.a) (hlc : cs.length ≤ 4611686018427387904)
    (hds : CondsB w.heap.size w dd ds) (hy : ∀ c ∈ ds, AtOk c.a) (hld : ds.length ≤ 4611686018427387904) (hfs : fs.size ≤ 300) :
    Calls Tryz.prog 8 #[fil fs co cs.length ccap, fil gs dd ds.length dcap] w fun e w' => e = .returned (.bool (coversF fs cs gs ds)) ∧ Below w.heap.size w w' := by
  obtain ⟨len, hL⟩ : ∃ len, len = cs.length := ⟨_, rfl⟩
  have HLen : Aside (len = cs.length) := hL
  rw [← hL] at hlc ⊢
  have B0 : Below w.heap.size w ((w.alloc (.cells #[.string fs, .slice co len ccap] 24)).alloc (.cells #[.string gs, .slice dd ds.length dcap] 24)) := ((Below.refl _ _).alloc (Nat.le_refl _) _).alloc (by simp) _
  have HB0 := Lib.hid B0
  have HU := Lib.hid (fun W => under_c gs fs hfs W)
  have HV : Aside (∀ W, Below w.heap.size w W → Calls Tryz.prog 15 #[fil gs dd ds.length dcap] W fun e w' => e = .returned (.bool (voidF ds)) ∧ Below W.heap.size W w') := fun W hW => fvoid_c gs dd dcap ds W (hds.on hW) hld
  obtain ⟨m1, hm1⟩ : ∃ m1 : Cn → Bool, ∀ c, m1 c = impliedF ds c := ⟨_, fun _ => rfl⟩
  have HM : Aside (∀ c ∈ cs, ∀ W, Below w.heap.size w W → Calls Tryz.prog 17 #[.slice dd ds.length dcap, cndC c] W fun e w' => e = .returned (.bool (m1 c)) ∧ Below W.heap.size W w') := fun c hc W hW => by
    rw [hm1]; exact implied_c dd dcap ds c W (hds.on hW) hy (hx c hc) hld
  have HSL : Aside (∀ W, Below w.heap.size w W → cs = [] ∨ ∃ b off, co = some ⟨b, off, none⟩ ∧ b < w.heap.size ∧ RowC W b off cs) := fun W hW => by
    rcases hcs with h | ⟨b, off, h1, h2, h3⟩
    · exact Or.inl h
    · exact Or.inr ⟨b, off, h1, h2, RowC.below hW h2 h3⟩
  obtain ⟨r, hr⟩ : ∃ r, r = coversF fs cs gs ds := ⟨_, rfl⟩
  have HR : Aside (r = (voidF ds || (underB gs fs && cs.all m1))) := by
    show r = _
    rw [hr]; unfold coversF; congr 2; congr 1; funext c; exact (hm1 c).symm
  rw [← hr]
  generalize underB gs fs = u at *
  generalize voidF ds = v at *
  generalize ds.length = n at *
  have HKP : Aside (∀ W, Below (w.heap.size + 2) ((w.alloc (.cells #[.string fs, .slice co len ccap] 24)).alloc (.cells #[.string gs, .slice dd n dcap] 24)) W → W.cell? ⟨w.heap.size, 0, none⟩ = some (.string fs) ∧ W.cell? ⟨w.heap.size, 1, none⟩ = some (.slice co len ccap) ∧ W.cell? ⟨w.heap.size + 1, 0, none⟩ = some (.string gs) ∧ W.cell? ⟨w.heap.size + 1, 1, none⟩ = some (.slice dd n dcap)) := fun W hW => by
    obtain ⟨va, vb⟩ := two_lay hW
    exact ⟨va 0 _ rfl, va 1 _ rfl, vb 0 _ rfl, vb 1 _ rfl⟩
  have z2 : w.heap.size + 2 ≤ ((w.alloc (.cells #[.string fs, .slice co len ccap] 24)).alloc (.cells #[.string gs, .slice dd n dcap] 24)).heap.size := by simp
  have HBR : Aside (Below (w.heap.size + 2) ((w.alloc (.cells #[.string fs, .slice co len ccap] 24)).alloc (.cells #[.string gs, .slice dd n dcap] 24)) ((w.alloc (.cells #[.string fs, .slice co len ccap] 24)).alloc (.cells #[.string gs, .slice dd n dcap] 24))) := Below.refl _ _
  obtain ⟨a0, a1, b0, b1⟩ := HKP.out _ HBR.out
  clear B0 hm1 hcs hx hds hy hld hr hfs hL
  go_enter Tryz.func8, Tryz.ntmps8
  go_wp2_with fail
  generalize hW0 : (w.alloc (.cells #[.string fs, .slice co len ccap] 24)).alloc (.cells #[.string gs, .slice dd n dcap] 24) = w0 at *
  refine (HV.out _ HB0.out).mono ?_
  rintro e w1 ⟨rfl, hb⟩
  have HA1 : Aside (Below (w.heap.size + 2) w0 w1) := hb.mono z2
  clear hb a0 a1 b0 b1
  obtain ⟨a0, a1, b0, b1⟩ := HKP.out _ HA1.out
  cases v
  rotate_left
  · have hrt : r = true := by rw [HR.out]; rfl
    subst hrt
    go_wp2_with fail
    go_ret
    exact ⟨rfl, HB0.out.trans (HA1.out.mono (by omega))⟩
  go_wp2_with fail
  refine (HU.out _).mono ?_
  rintro e w2 ⟨rfl, rfl⟩
  cases u
  · have hrf : r = false := by rw [HR.out]; rfl
    subst hrf
    go_wp2_with fail
    go_ret
    exact ⟨rfl, HB0.out.trans (HA1.out.mono (by omega))⟩
  go_wp2_with fail
  clear a0 a1 b0 b1
  go_loopg [18] len (fun kx s10 wr => ∃ j : Nat, s10 = .int .i64 j ∧ j ≤ len ∧ len - j ≤ kx ∧ Aside ((cs.take j).all m1 = true) ∧ Aside (Below (w.heap.size + 2) w0 wr))
  case atStart => exact ⟨0, rfl, Nat.zero_le _, by omega, by simp [Aside], HA1.out⟩
  case round =>
    obtain ⟨j, rfl, hj, hjx, HN, HA⟩ := hrel
    have zr : w.heap.size + 2 ≤ wr.heap.size := Nat.le_trans z2 HA.out.size
    have hBw : Below w.heap.size w wr := HB0.out.trans (HA.out.mono (by omega))
    by_cases hlt : j < len
    · rcases HSL.out _ hBw with h0 | ⟨b, off, hao, hbs, hrow⟩
      · rw [h0] at HLen; exact absurd HLen.out (by simp; omega)
      subst hao
      have hjl : j < cs.length := by rw [← HLen.out]; exact hlt
      have hrow1 := hrow j hjl
      have HMj := Lib.hid (HM.out _ (memC cs j hjl))
      have HT : Aside (m1 cs[j]! = true → (cs.take (j + 1)).all m1 = true) := fun h => all_take_snoc cs m1 j hjl HN.out h
      have HF : Aside (m1 cs[j]! = false → r = false) := fun h => by rw [HR.out, all_false_take cs m1 j hjl h]; rfl
      generalize m1 cs[j]! = q at HT HF HMj
      generalize cs[j]! = c at hrow1 HMj
      obtain ⟨⟨nm, k, n', x, s, y⟩, op⟩ := c
      have c0 := hrow1 0 _ rfl; have c1 := hrow1 1 _ rfl; have c2 := hrow1 2 _ rfl; have c3 := hrow1 3 _ rfl; have c4 := hrow1 4 _ rfl; have c5 := hrow1 5 _ rfl; have c6 := hrow1 6 _ rfl
      simp only [Nat.add_zero] at c0
      clear hrow1 hrow HSL HM hjl
      have hltz : (j : Int) < len := by omega
      have hjz : (0 : Int) ≤ (j : Int) := by omega
      go_upto_region 8 with fail
      have hA9 : Below (w.heap.size + 2) w0 (wr.alloc (.cells (cnds nm op k n' x s y) 31)) := HA.out.alloc (by omega) _
      have vv := World.cell?_alloc_new wr (cnds nm op k n' x s y) 31
      have v0 := vv 0; have v1 := vv 1; have v2 := vv 2; have v3 := vv 3; have v4 := vv 4; have v5 := vv 5; have v6 := vv 6
      simp only [List.getElem?_toArray, List.getElem?_cons_zero, List.getElem?_cons_succ] at v0 v1 v2 v3 v4 v5 v6
      have z9 : w.heap.size + 2 ≤ (wr.alloc (.cells (cnds nm op k n' x s y) 31)).heap.size := by simp; omega
      have HBw9 : Aside (Below w.heap.size w (wr.alloc (.cells (cnds nm op k n' x s y) 31))) := HB0.out.trans (hA9.mono (by omega))
      have HA9 := Lib.hid hA9
      clear hA9 vv c0 c1 c2 c3 c4 c5 c6 hBw
      generalize (wr.alloc (.cells (cnds nm op k n' x s y) 31)) = w9 at *
      generalize wr.heap.size = V at *
      obtain ⟨_, _, _, b1⟩ := HKP.out _ HA9.out
      go_wp2_with fail
      clear b1 v0 v1 v2 v3 v4 v5 v6
      refine (HMj.out _ HBw9.out).mono ?_
      rintro e w10 ⟨rfl, hb⟩
      have HA10 := Lib.hid (HA9.out.trans (hb.mono z9)); clear hb
      cases q
      · have hrf : r = false := HF.out rfl
        subst hrf
        go_wp2_with fail
        go_ret
        exact ⟨rfl, HB0.out.trans (HA10.out.mono (by omega))⟩
      · go_wp2_with fail
        go_roundg (len - (j + 1))
        case measure => omega
        case rel => exact ⟨j + 1, by go_num, hlt, Nat.le_refl _, HT.out (by first | trivial | rfl), HA10.out⟩
    · obtain rfl : j = len := by omega
      have hrt : r = true := by
        rw [HR.out]
        have := HN.out
        rw [HLen.out, List.take_length] at this
        rw [this]; rfl
      subst hrt
      go_wp2_with fail
      go_ret
      exact ⟨rfl, HB0.out.trans (HA.out.mono (by omega))⟩
set_option maxHeartbeats 4000000 in
theorem fright_c (fs : ByteArray) (co : Option Addr) (ccap : Nat) (cs : List Cn) (w : World) (hcs : CondsB w.heap.size w co cs) (hlc : cs.length ≤ 4611686018427387904) (hfs : fs.size ≤ 3000) (hm : MaxI w) :
    Calls Tryz.prog 6 #[fil fs co cs.length ccap] w fun e w' => e = .returned (.bool (rightF fs cs)) ∧ Below w.heap.size w w' := by
  obtain ⟨len, hL⟩ : ∃ len, len = cs.length := ⟨_, rfl⟩
  have HLen : Aside (len = cs.length) := hL
  rw [← hL] at hlc ⊢
  have B0 : Below w.heap.size w (w.alloc (.cells #[.string fs, .slice co len ccap] 24)) := (Below.refl _ _).alloc (Nat.le_refl _) _
  have HB0 := Lib.hid B0
  have HS : Aside (∀ W, Below w.heap.size w W → Calls Tryz.prog 12 #[.string fs] W fun e w' => e = .returned (.bool (scopeOk fs)) ∧ Below W.heap.size W w') := fun W hW => scright_c fs W hfs (hm.below hW)
  have HM : Aside (∀ c : Cn, ∀ W, Calls Tryz.prog 13 #[cndC c] W fun e w' => e = .returned (.bool (crightB c)) ∧ Below W.heap.size W w') := fun c W => cright_c c.a.nm c.op c.a.k c.a.n c.a.x c.a.s c.a.y W
  have HSL : Aside (∀ W, Below w.heap.size w W → cs = [] ∨ ∃ b off, co = some ⟨b, off, none⟩ ∧ b < w.heap.size ∧ RowC W b off cs) := fun W hW => by
    rcases hcs with h | ⟨b, off, h1, h2, h3⟩
    · exact Or.inl h
    · exact Or.inr ⟨b, off, h1, h2, RowC.below hW h2 h3⟩
  obtain ⟨r, hr⟩ : ∃ r, r = rightF fs cs := ⟨_, rfl⟩
  have HR : Aside (r = (decide (len ≤ 6) && (scopeOk fs && cs.all crightB))) := by
    show r = _
    rw [hr, hL]; rfl
  rw [← hr]
  generalize crightB = m1 at *
  generalize scopeOk fs = u at *
  have z1 : w.heap.size + 1 ≤ (w.alloc (.cells #[.string fs, .slice co len ccap] 24)).heap.size := by simp
  have HKP : Aside (∀ W, Below (w.heap.size + 1) (w.alloc (.cells #[.string fs, .slice co len ccap] 24)) W → W.cell? ⟨w.heap.size, 0, none⟩ = some (.string fs) ∧ W.cell? ⟨w.heap.size, 1, none⟩ = some (.slice co len ccap)) := fun W hW => ⟨one_lay hW 0 _ rfl, one_lay hW 1 _ rfl⟩
  have HBR : Aside (Below (w.heap.size + 1) (w.alloc (.cells #[.string fs, .slice co len ccap] 24)) (w.alloc (.cells #[.string fs, .slice co len ccap] 24))) := Below.refl _ _
  obtain ⟨a0, a1⟩ := HKP.out _ HBR.out
  clear B0 hcs hr hfs hL hm
  by_cases h6 : len ≤ 6
  rotate_left
  · have hrf : r = false := by rw [HR.out, decide_eq_false h6]; rfl
    subst hrf
    have h6z : (6 : Int) < len := by omega
    go_enter Tryz.func6, Tryz.ntmps6
    go_wp2_with fail
    go_ret
    exact ⟨rfl, HB0.out⟩
  have h6z : ¬ (6 : Int) < len := by omega
  have HR' : Aside (r = (u && cs.all m1)) := by
    show r = _
    rw [HR.out, decide_eq_true h6, Bool.true_and]
  clear HR h6
  go_enter Tryz.func6, Tryz.ntmps6
  go_wp2_with fail
  generalize hW0 : (w.alloc (.cells #[.string fs, .slice co len ccap] 24)) = w0 at *
  refine (HS.out _ HB0.out).mono ?_
  rintro e w1 ⟨rfl, hb⟩
  have HA1 : Aside (Below (w.heap.size + 1) w0 w1) := hb.mono z1
  clear hb a0 a1
  obtain ⟨a0, a1⟩ := HKP.out _ HA1.out
  cases u
  · have hrf : r = false := by rw [HR'.out]; rfl
    subst hrf
    go_wp2_with fail
    go_ret
    exact ⟨rfl, HB0.out.trans (HA1.out.mono (by omega))⟩
  go_wp2_with fail
  clear a0 a1
  go_loopg [18] len (fun kx s10 wr => ∃ j : Nat, s10 = .int .i64 j ∧ j ≤ len ∧ len - j ≤ kx ∧ Aside ((cs.take j).all m1 = true) ∧ Aside (Below (w.heap.size + 1) w0 wr))
  case atStart => exact ⟨0, rfl, Nat.zero_le _, by omega, by simp [Aside], HA1.out⟩
  case round =>
    obtain ⟨j, rfl, hj, hjx, HN, HA⟩ := hrel
    have zr : w.heap.size + 1 ≤ wr.heap.size := Nat.le_trans z1 HA.out.size
    have hBw : Below w.heap.size w wr := HB0.out.trans (HA.out.mono (by omega))
    by_cases hlt : j < len
    · rcases HSL.out _ hBw with h0 | ⟨b, off, hao, hbs, hrow⟩
      · rw [h0] at HLen; exact absurd HLen.out (by simp; omega)
      subst hao
      have hjl : j < cs.length := by rw [← HLen.out]; exact hlt
      have hrow1 := hrow j hjl
      have HMj := Lib.hid (HM.out cs[j]!)
      have HT : Aside (m1 cs[j]! = true → (cs.take (j + 1)).all m1 = true) := fun h => all_take_snoc cs m1 j hjl HN.out h
      have HF : Aside (m1 cs[j]! = false → r = false) := fun h => by rw [HR'.out, all_false_take cs m1 j hjl h]; rfl
      generalize m1 cs[j]! = q at HT HF HMj
      generalize cs[j]! = c at hrow1 HMj
      obtain ⟨⟨nm, k, n', x, s, y⟩, op⟩ := c
      have c0 := hrow1 0 _ rfl; have c1 := hrow1 1 _ rfl; have c2 := hrow1 2 _ rfl; have c3 := hrow1 3 _ rfl; have c4 := hrow1 4 _ rfl; have c5 := hrow1 5 _ rfl; have c6 := hrow1 6 _ rfl
      simp only [Nat.add_zero] at c0
      clear hrow1 hrow HSL HM hjl
      have hltz : (j : Int) < len := by omega
      have hjz : (0 : Int) ≤ (j : Int) := by omega
      go_upto_region 6 with fail
      have hA9 : Below (w.heap.size + 1) w0 (wr.alloc (.cells (cnds nm op k n' x s y) 31)) := HA.out.alloc (by omega) _
      have vv := World.cell?_alloc_new wr (cnds nm op k n' x s y) 31
      have v0 := vv 0; have v1 := vv 1; have v2 := vv 2; have v3 := vv 3; have v4 := vv 4; have v5 := vv 5; have v6 := vv 6
      simp only [List.getElem?_toArray, List.getElem?_cons_zero, List.getElem?_cons_succ] at v0 v1 v2 v3 v4 v5 v6
      have z9 : w.heap.size + 1 ≤ (wr.alloc (.cells (cnds nm op k n' x s y) 31)).heap.size := by simp; omega
      have HA9 := Lib.hid hA9
      clear hA9 vv c0 c1 c2 c3 c4 c5 c6 hBw
      generalize (wr.alloc (.cells (cnds nm op k n' x s y) 31)) = w9 at *
      generalize wr.heap.size = V at *
      go_wp2_with fail
      clear v0 v1 v2 v3 v4 v5 v6
      refine (HMj.out _).mono ?_
      rintro e w10 ⟨rfl, hb⟩
      have HA10 := Lib.hid (HA9.out.trans (hb.mono z9)); clear hb
      cases q
      · have hrf : r = false := HF.out rfl
        subst hrf
        go_wp2_with fail
        go_ret
        exact ⟨rfl, HB0.out.trans (HA10.out.mono (by omega))⟩
      · go_wp2_with fail
        go_roundg (len - (j + 1))
        case measure => omega
        case rel => exact ⟨j + 1, by go_num, hlt, Nat.le_refl _, HT.out (by first | trivial | rfl), HA10.out⟩
    · obtain rfl : j = len := by omega
      have hrt : r = true := by
        rw [HR'.out]
        have := HN.out
        rw [HLen.out, List.take_length] at this
        rw [this]; rfl
      subst hrt
      go_wp2_with fail
      go_ret
      exact ⟨rfl, HB0.out.trans (HA.out.mono (by omega))⟩
end Go.Proofs.YtfffmndjgjfflaaGreatDoor

/- strings.Builder: copyCheck, WriteString, String; at this program's bodies. -/
namespace Go.Proofs.YtfffmndjgjfflaaGreatDoor
open Go.RowKit Go.Shelf
open Go.Proofs

/-- A builder at b that holds bs. -/
abbrev BuilderA (B b : Nat) (p : Value) (bs : List Value) (w : World) : Prop := Lib.BuilderAt 45 5 B b p bs w
abbrev IsBuilderA (B b : Nat) (bs : List Value) (w : World) : Prop := Lib.IsBuilder 45 5 B b bs w

set_option maxHeartbeats 1000000 in
set_option maxRecDepth 100000 in
theorem copyCheck_used (b : Nat) (w : World) (h0 : w.cell? ⟨b, 0, none⟩ = some (.pointer (some ⟨b, 0, none⟩))) :
    Calls Tryz.prog 32 #[.pointer (some ⟨b, 0, none⟩)] w fun e w' => e = .returned (.tuple #[]) ∧ w' = w := by
  obtain ⟨j, hj, _⟩ := Option.map_eq_some_iff.1 (show (Tryz.prog.info? 45).map (·.size) = some 2 by kernel_rfl)
  go_enter Tryz.func32, Tryz.ntmps32
  go_wp2
  rw [Lib.run_neq_ptr_same w _ Tryz.underlying42 hj]
  go_wp2
  go_end0
  exact ⟨rfl, rfl⟩

set_option maxHeartbeats 1000000 in
set_option maxRecDepth 100000 in
theorem copyCheck_fresh (b : Nat) (w : World) (h0 : w.cell? ⟨b, 0, none⟩ = some (.pointer none)) (hsh : w.shape? b = some (45, 2)) (hfz : w.frozen? ⟨b, 0, none⟩ = false) :
    Calls Tryz.prog 32 #[.pointer (some ⟨b, 0, none⟩)] w fun e w' => e = .returned (.tuple #[]) ∧ w' = w.setCell ⟨b, 0, none⟩ (.pointer (some ⟨b, 0, none⟩)) := by
  obtain ⟨j, hj, hjs⟩ := Option.map_eq_some_iff.1 (show (Tryz.prog.info? 45).map (·.size) = some 2 by kernel_rfl)
  go_enter Tryz.func32, Tryz.ntmps32
  go_wp2
  rw [Lib.run_to_unsafe w ⟨b, 0, none⟩ Tryz.underlying42 Tryz.underlying74 hj (by rw [hjs]; decide) hsh (Nat.zero_lt_succ 1)]
  simp only [Result.andThen]
  rw [Oper.upon_value]
  go_wp2
  rw [run_callFunc_extern Tryz.func48 (by kernel_rfl) (by kernel_rfl) (by kernel_rfl) (e := Extern.AbiNoEscape.same) (by kernel_rfl)]
  rw [Lib.run_noEscape]
  simp only [Result.andThen]
  rw [Oper.upon_value]
  go_wp2
  rw [Lib.run_from_unsafe w ⟨b, 0, none⟩ Tryz.underlying74 Tryz.underlying42 hj hsh (by kernel_rfl)]
  simp only [Result.andThen]
  rw [Oper.upon_value]
  go_wp2
  go_end0
  exact ⟨rfl, rfl⟩

theorem copyCheck_c (B b : Nat) (bs : List Value) (w : World) (h : IsBuilderA B b bs w) :
    Calls Tryz.prog 32 #[.pointer (some ⟨b, 0, none⟩)] w fun e w' => e = .returned (.tuple #[]) ∧ (BuilderA B b (.pointer (some ⟨b, 0, none⟩)) bs w' ∧ Below B w w') := by
  rcases h with h | h
  · refine (copyCheck_fresh b w h.cell0 h.shape h.frozen0).mono ?_
    rintro e w' ⟨rfl, rfl⟩
    exact ⟨rfl, h.used _, (Below.refl B w).setCell (p := ⟨b, 0, none⟩) h.1 _⟩
  · refine (copyCheck_used b w h.cell0).mono ?_
    rintro e w' ⟨rfl, rfl⟩
    exact ⟨rfl, h, Below.refl B _⟩

set_option maxHeartbeats 2000000 in
set_option maxRecDepth 100000 in
theorem writeString_c (B b : Nat) (bs : List Value) (s : ByteArray) (w : World) (h : IsBuilderA B b bs w) (hlen : bs.length + s.size ≤ 140737488355328) (hBw : B ≤ w.heap.size) :
    Calls Tryz.prog 18 #[.pointer (some ⟨b, 0, none⟩), .string s] w fun e w' => e = .returned (.tuple #[.int .i64 s.size, .nilIface]) ∧ (BuilderA B b (.pointer (some ⟨b, 0, none⟩)) (bs ++ Lib.strCells s) w' ∧ Below B w w') := by
  obtain ⟨i0, hi, hz0, hz1, hz2⟩ := info_parts (show (Tryz.prog.info? 5).map (fun i => (i.zero, i.size, i.bytes)) = some (some (.int .u8 0), 1, 1) by kernel_rfl)
  go_enter Tryz.func18, Tryz.ntmps18
  go_wp2_with (go_at_call 32; refine (copyCheck_c B b bs _ h).mono ?_)
  rintro e w1 ⟨rfl, h1, hb1⟩
  obtain ⟨hB, v, hbk, hown, hne⟩ := h1
  have c0 : w1.cell? ⟨b, 0, none⟩ = some (.pointer (some ⟨b, 0, none⟩)) := by rw [Lib.cell_of_heap hbk]; rfl
  have c1 : w1.cell? ⟨b, 1, none⟩ = some v := by rw [Lib.cell_of_heap hbk]; rfl
  go_wp2_with (at_builtin; refine Lib.wpList_append_own_string _ rfl _ _ 43 9 rfl B 5 i0 Tryz.underlying43 Tryz.underlying9 hi hz0 hz1 hz2 _ _ _ rfl hown s rfl ?c3 ?c4 ?c5 ?_)
  case c3 => unfold maxLen; omega
  case c4 => omega
  case c5 => have := hb1.size; omega
  intro v' w2 hown' hgrow _
  have hlt : b < w1.heap.size := by
    rcases Nat.lt_or_ge b w1.heap.size with h' | h'
    · exact h'
    · simp [Array.getElem?_eq_none h'] at hbk
  have hb2 : w2.heap[b]? = some (.cells #[.pointer (some ⟨b, 0, none⟩), v] 45 (0, 0)) := by
    rw [hgrow.block b hlt (fun e => hne e.symm)]
    exact hbk
  have d0 : w2.cell? ⟨b, 0, none⟩ = some (.pointer (some ⟨b, 0, none⟩)) := by rw [Lib.cell_of_heap hb2]; rfl
  have d1 : w2.cell? ⟨b, 1, none⟩ = some v := by rw [Lib.cell_of_heap hb2]; rfl
  have f1 : w2.frozen? ⟨b, 1, none⟩ = false := Lib.frozen_of_heap hb2 1
  obtain ⟨ao, n', cap, rfl⟩ : ∃ ao n' cap, v' = .slice ao n' cap := by
    rcases hown'.2 with ⟨hv, _⟩ | ⟨g, cap, cur, hv, _⟩
    · exact ⟨_, _, _, hv⟩
    · exact ⟨_, _, _, hv⟩
  go_wp2
  go_ret2
  refine ⟨rfl, ?_, ?_⟩
  · exact Lib.BuilderAt.put (T := 45) (e := 5) hB hb2 (bs' := bs ++ Lib.strCells s) (by simpa [Lib.strCells_length] using hown') (by decide)
  · exact (hb1.grown hgrow (by have := hb1.size; omega) (fun k hk => (hown.lt k hk).1)).setCell (p := ⟨b, 1, none⟩) hB _
end Go.Proofs.YtfffmndjgjfflaaGreatDoor

/- strings.Builder's WriteString: blocks of other types than bytes, but for its own, stand as they stood. -/
namespace Go.Proofs.YtfffmndjgjfflaaGreatDoor
open Go.RowKit Go.Shelf
open Go.Proofs

/-- Blocks of other types than bytes stand as they stood, but for block b. -/
def KeptNB (b : Nat) (w w' : World) : Prop := ∀ (V : Nat) (cs : Array Value) (t : TypeId) (fz : Nat × Nat), w.heap[V]? = some (.cells cs t fz) → t ≠ 5 → V ≠ b → w'.heap[V]? = w.heap[V]?
theorem copyCheck_k (B b : Nat) (bs : List Value) (w : World) (h : IsBuilderA B b bs w) :
    Calls Tryz.prog 32 #[.pointer (some ⟨b, 0, none⟩)] w fun e w' => e = .returned (.tuple #[]) ∧ (BuilderA B b (.pointer (some ⟨b, 0, none⟩)) bs w' ∧ Below B w w') ∧ ∀ V, V ≠ b → w'.heap[V]? = w.heap[V]? := by
  rcases h with h | h
  · refine (copyCheck_fresh b w h.cell0 h.shape h.frozen0).mono ?_
    rintro e w' ⟨rfl, rfl⟩
    exact ⟨rfl, ⟨h.used _, (Below.refl B w).setCell (p := ⟨b, 0, none⟩) h.1 _⟩, fun V hV => Go.Deep.blk_setCell_other w ⟨b, 0, none⟩ _ V hV⟩
  · refine (copyCheck_used b w h.cell0).mono ?_
    rintro e w' ⟨rfl, rfl⟩
    exact ⟨rfl, ⟨h, Below.refl B _⟩, fun _ _ => rfl⟩
theorem row_type {w : World} {base size : Nat} {e : TypeId} {v : Value} {n : Nat} {xs : List Value} (h : w.ownsRow base e size v n xs) {V : Nat} {cs : Array Value} {t : TypeId} {fz : Nat × Nat} (hV : w.heap[V]? = some (.cells cs t fz)) (ht : t ≠ e) : some V ≠ v.ownBlock := by
  intro e1
  rcases h.2 with ⟨rfl, _⟩ | ⟨g, cap, cur, rfl, _, hg, _⟩
  · cases e1
  · injection e1 with e2
    subst e2
    rw [hg] at hV
    injection hV with h1
    injection h1 with h2 h3 h4
    exact ht h3.symm

set_option maxHeartbeats 2000000 in
set_option maxRecDepth 100000 in
theorem writeString_k (B b : Nat) (bs : List Value) (s : ByteArray) (w : World) (h : IsBuilderA B b bs w) (hlen : bs.length + s.size ≤ 140737488355328) (hBw : B ≤ w.heap.size) :
    Calls Tryz.prog 18 #[.pointer (some ⟨b, 0, none⟩), .string s] w fun e w' => e = .returned (.tuple #[.int .i64 s.size, .nilIface]) ∧ (BuilderA B b (.pointer (some ⟨b, 0, none⟩)) (bs ++ Lib.strCells s) w' ∧ Below B w w') ∧ KeptNB b w w' := by
  obtain ⟨i0, hi, hz0, hz1, hz2⟩ := info_parts (show (Tryz.prog.info? 5).map (fun i => (i.zero, i.size, i.bytes)) = some (some (.int .u8 0), 1, 1) by kernel_rfl)
  go_enter Tryz.func18, Tryz.ntmps18
  go_wp2_with (go_at_call 32; refine (copyCheck_k B b bs _ h).mono ?_)
  rintro e w1 ⟨rfl, ⟨h1, hb1⟩, hk1⟩
  have HK1 := Lib.hid hk1
  clear hk1
  obtain ⟨hB, v, hbk, hown, hne⟩ := h1
  have c0 : w1.cell? ⟨b, 0, none⟩ = some (.pointer (some ⟨b, 0, none⟩)) := by rw [Lib.cell_of_heap hbk]; rfl
  have c1 : w1.cell? ⟨b, 1, none⟩ = some v := by rw [Lib.cell_of_heap hbk]; rfl
  go_wp2_with (at_builtin; refine Lib.wpList_append_own_string _ rfl _ _ 43 9 rfl B 5 i0 Tryz.underlying43 Tryz.underlying9 hi hz0 hz1 hz2 _ _ _ rfl hown s rfl ?c3 ?c4 ?c5 ?_)
  case c3 => unfold maxLen; omega
  case c4 => omega
  case c5 => have := hb1.size; omega
  intro v' w2 hown' hgrow _
  have hlt : b < w1.heap.size := by
    rcases Nat.lt_or_ge b w1.heap.size with h' | h'
    · exact h'
    · simp [Array.getElem?_eq_none h'] at hbk
  have hb2 : w2.heap[b]? = some (.cells #[.pointer (some ⟨b, 0, none⟩), v] 45 (0, 0)) := by
    rw [hgrow.block b hlt (fun e => hne e.symm)]
    exact hbk
  have d0 : w2.cell? ⟨b, 0, none⟩ = some (.pointer (some ⟨b, 0, none⟩)) := by rw [Lib.cell_of_heap hb2]; rfl
  have d1 : w2.cell? ⟨b, 1, none⟩ = some v := by rw [Lib.cell_of_heap hb2]; rfl
  have f1 : w2.frozen? ⟨b, 1, none⟩ = false := Lib.frozen_of_heap hb2 1
  obtain ⟨ao, n', cap, rfl⟩ : ∃ ao n' cap, v' = .slice ao n' cap := by
    rcases hown'.2 with ⟨hv, _⟩ | ⟨g, cap, cur, hv, _⟩
    · exact ⟨_, _, _, hv⟩
    · exact ⟨_, _, _, hv⟩
  go_wp2
  go_ret2
  refine ⟨rfl, ⟨?_, ?_⟩, ?_⟩
  · exact Lib.BuilderAt.put (T := 45) (e := 5) hB hb2 (bs' := bs ++ Lib.strCells s) (by simpa [Lib.strCells_length] using hown') (by decide)
  · exact (hb1.grown hgrow (by have := hb1.size; omega) (fun k hk => (hown.lt k hk).1)).setCell (p := ⟨b, 1, none⟩) hB _
  · intro V cs t fz hV ht hVb
    have hV1 : w1.heap[V]? = some (.cells cs t fz) := by rw [HK1.out V hVb]; exact hV
    have hVl : V < w1.heap.size := (Array.getElem?_eq_some_iff.1 hV1).1
    rw [Go.Deep.blk_setCell_other _ ⟨b, 1, none⟩ _ V hVb, hgrow.block V hVl (row_type hown hV1 ht)]
    exact HK1.out V hVb
end Go.Proofs.YtfffmndjgjfflaaGreatDoor

/- filter.Print of any filter of few conditions. -/
namespace Go.Proofs.YtfffmndjgjfflaaGreatDoor
open Go.RowKit Go.Shelf
open Go.Proofs
set_option maxRecDepth 100000

/-- A filter's text behind its first j conditions. -/
def accT (fs : ByteArray) (T : Cn → ByteArray) (cs : List Cn) : Nat → List UInt8
  | 0 => fs.data.toList ++ [58]
  | j + 1 => accT fs T cs j ++ (if j = 0 then [] else [32, 38]) ++ ([32] ++ (T cs[j]!).data.toList)
def textF (fs : ByteArray) (T : Cn → ByteArray) (cs : List Cn) : ByteArray := ⟨(accT fs T cs cs.length).toArray⟩
theorem accT_ne (fs : ByteArray) (T : Cn → ByteArray) (cs : List Cn) (j : Nat) : accT fs T cs j ≠ [] := by
  cases j <;> simp [accT]
theorem accT_len {fs : ByteArray} {T : Cn → ByteArray} {cs : List Cn} (hT : ∀ c ∈ cs, (T c).size ≤ 100000) (hf : fs.size ≤ 3000) : ∀ j, j ≤ cs.length → (accT fs T cs j).length ≤ 3001 + j * 100003
  | 0, _ => by simp [accT]; exact hf
  | j + 1, h => by
    have ih := accT_len hT hf j (by omega)
    have := hT _ (memC cs j (by omega))
    have e : (T cs[j]!).data.toList.length = (T cs[j]!).size := by simp
    have e2 : (if j = 0 then ([] : List UInt8) else [32, 38]).length ≤ 2 := by split <;> simp
    rw [accT, List.length_append, List.length_append, List.length_append, e]
    simp only [List.length_singleton]
    omega
theorem bytes_app (a b : List UInt8) : Lib.byteCells (a ++ b) = Lib.byteCells a ++ Lib.byteCells b := by simp [Lib.byteCells]
theorem bytes_str (s : ByteArray) : Lib.strCells s = Lib.byteCells s.data.toList := rfl
theorem bytes_len (a : List UInt8) : (Lib.byteCells a).length = a.length := by simp [Lib.byteCells]
theorem bld_on {B b : Nat} {p : Value} {bs : List Value} {w w' : World} (h : BuilderA B b p bs w) (hb : Below w.heap.size w w') : BuilderA B b p bs w' := by
  have hlt := h.lt
  obtain ⟨hB, v, hbk, hown, hne⟩ := h
  refine ⟨hB, v, (hb.block b hlt).trans hbk, hown.kept (row := none) ⟨hb.os, hb.tape, hb.output, hb.size, fun k hk _ => hb.block k hk⟩ ?_, hne⟩
  cases v.ownBlock with
  | none => exact .inl rfl
  | some k => exact .inr (by simp)

set_option maxHeartbeats 8000000 in
theorem fprint_c (fs : ByteArray) (co : Option Addr) (ccap : Nat) (cs : List Cn) (T : Cn → ByteArray) (w : World) (hcs : CondsB w.heap.size w co cs) (hlc : cs.length ≤ 20) (hfs : fs.size ≤ 3000) (hT : ∀ c ∈ cs, (T c).size ≤ 100000)
    (hp : ∀ c ∈ cs, ∀ W, Below w.heap.size w W → Calls Tryz.prog 19 #[cndC c] W fun e w' => e = .returned (.string (T c)) ∧ Below W.heap.size W w') :
    Calls Tryz.prog 10 #[fil fs co cs.length ccap] w fun e w' => e = .returned (.string (textF fs T cs)) ∧ Below w.heap.size w w' := by
  obtain ⟨len, hL⟩ : ∃ len, len = cs.length := ⟨_, rfl⟩
  have HLen : Aside (len = cs.length) := hL
  have HLT := Lib.hid (fun j hj => accT_len hT hfs j hj)
  have HACT : Aside (∀ j, accT fs T cs (j + 1) = accT fs T cs j ++ (if j = 0 then [] else [32, 38]) ++ ([32] ++ (T cs[j]!).data.toList)) := fun j => rfl
  have HAC0 : Aside (accT fs T cs 0 = fs.data.toList ++ [58]) := rfl
  have HTX : Aside (textF fs T cs = ⟨(accT fs T cs cs.length).toArray⟩) := rfl
  have HNE := Lib.hid (accT_ne fs T cs)
  generalize accT fs T cs = AC at *
  rw [← hL] at hlc ⊢
  have HTs : Aside (∀ c ∈ cs, (T c).size ≤ 100000) := hT
  have HP := Lib.hid hp
  have HSL : Aside (∀ W, Below w.heap.size w W → cs = [] ∨ ∃ b off, co = some ⟨b, off, none⟩ ∧ b < w.heap.size ∧ RowC W b off cs) := fun W hW => by
    rcases hcs with h | ⟨b, off, h1, h2, h3⟩
    · exact Or.inl h
    · exact Or.inr ⟨b, off, h1, h2, RowC.below hW h2 h3⟩
  obtain ⟨w0, hw0⟩ : ∃ w0, w0 = w.alloc (.cells #[.string fs, .slice co len ccap] 24) := ⟨_, rfl⟩
  have B0 : Below w.heap.size w w0 := by rw [hw0]; exact (Below.refl _ _).alloc (Nat.le_refl _) _
  have z0 : w0.heap.size = w.heap.size + 1 := by rw [hw0]; simp
  have HKP : Aside (∀ W, Below w0.heap.size w0 W → W.cell? ⟨w.heap.size, 0, none⟩ = some (.string fs) ∧ W.cell? ⟨w.heap.size, 1, none⟩ = some (.slice co len ccap)) := fun W hW => by
    rw [z0, hw0] at hW
    exact ⟨one_lay hW 0 _ rfl, one_lay hW 1 _ rfl⟩
  have HB0 := Lib.hid B0
  have FB := Lib.fresh_isBuilder 45 5 w0
  have HFB := Lib.hid FB
  have hf2 : fs.size + 1 ≤ 140737488355328 := by omega
  have hBx : Below w0.heap.size w0 (w0.alloc (.cells #[.pointer none, .slice none 0 0] 45)) := (Below.refl _ _).alloc (Nat.le_refl _) _
  obtain ⟨a0, a1⟩ := HKP.out _ hBx
  have HBX := Lib.hid hBx
  have u1 : ¬ 9223372036854775807 < fs.size + 1 := by omega
  obtain ⟨A, hA⟩ : ∃ A, A = w.heap.size := ⟨_, rfl⟩
  have HAe := Lib.hid hA
  have hzA : w0.heap.size = A + 1 := by rw [hA]; exact z0
  have hwA : w.heap.size ≤ A := by omega
  rw [← hA] at a0 a1 HKP
  rw [hzA] at HKP HFB HBX
  clear FB hBx hcs hp hT hL B0 z0
  go_enter Tryz.func10, Tryz.ntmps10
  go_upto_region 1 with fail
  rw [← hw0, ← hA]
  clear hw0 hA
  go_upto_region 2 with fail
  have hz1 : A + 2 ≤ (w0.alloc (.cells #[.pointer none, .slice none 0 0] 45)).heap.size := by rw [World.size_alloc]; omega
  generalize (w0.alloc (.cells #[.pointer none, .slice none 0 0] 45)) = w1 at *
  go_wp2_with fail
  clear a0 a1
  refine (writeString_c (A + 1) (A + 1) [] _ _ HFB.out (by simp; exact hf2) (by omega)).mono ?_
  rintro e w2 ⟨rfl, B1, hb1⟩
  have HA2 : Aside (Below (A + 1) w0 w2) := HBX.out.trans hb1
  have HBL : Aside (BuilderA (A + 1) (A + 1) (.pointer (some ⟨A + 1, 0, none⟩)) (Lib.byteCells (AC 0)) w2) := by
    have e : Lib.byteCells (AC 0) = ([] : List Value) ++ Lib.strCells (fs ++ ⟨#[58]⟩) := by rw [HAC0.out]; simp [Lib.byteCells, Lib.strCells]
    show BuilderA _ _ _ _ _
    rw [e]; exact B1
  obtain ⟨a0, a1⟩ := HKP.out _ HA2.out
  have hz2 : A + 2 ≤ w2.heap.size := Nat.le_trans hz1 hb1.size
  clear hb1 B1 hz1 HFB HBX hf2 u1 HAC0
  go_wp2_with fail
  clear a0 a1
  go_loopg [13] len (fun kx s13 wr => ∃ j : Nat, s13 = .int .i64 j ∧ j ≤ len ∧ len - j ≤ kx ∧ Aside (BuilderA (A + 1) (A + 1) (.pointer (some ⟨A + 1, 0, none⟩)) (Lib.byteCells (AC j)) wr) ∧ Aside (Below (A + 1) w0 wr) ∧ Aside (A + 2 ≤ wr.heap.size))
  case atStart => exact ⟨0, rfl, Nat.zero_le _, by omega, HBL.out, HA2.out, hz2⟩
  case round =>
    clear HBL HA2 hz2
    obtain ⟨j, rfl, hj, hjx, HBL, HA, HZ⟩ := hrel
    have hBw : Below w.heap.size w wr := HB0.out.trans (HA.out.mono (by omega))
    by_cases hlt : j < len
    · have hjl : j < cs.length := by rw [← HLen.out]; exact hlt
      rcases HSL.out _ hBw with h0 | ⟨b, off, hao, hbs, hrow⟩
      · rw [h0] at hjl; simp at hjl
      subst hao
      have hrow1 := hrow j hjl
      have HPj := Lib.hid (HP.out _ (memC cs j hjl))
      have HTj := Lib.hid (HTs.out _ (memC cs j hjl))
      have HLj := Lib.hid (HLT.out j (by omega))
      have HSt := Lib.hid (HACT.out j)
      generalize T cs[j]! = tx at HPj HTj HSt
      generalize cs[j]! = c at HPj hrow1
      obtain ⟨⟨nm, k, n', x, s, y⟩, op⟩ := c
      have c0 := hrow1 0 _ rfl; have c1 := hrow1 1 _ rfl; have c2 := hrow1 2 _ rfl; have c3 := hrow1 3 _ rfl; have c4 := hrow1 4 _ rfl; have c5 := hrow1 5 _ rfl; have c6 := hrow1 6 _ rfl
      simp only [Nat.add_zero] at c0
      clear hrow1 hrow HSL hjl HACT HLT HP HTs hBw
      have hltz : (j : Int) < len := by omega
      have hjz : (0 : Int) ≤ (j : Int) := by omega
      go_upto_region 6 with fail
      have hbw : Below wr.heap.size wr (wr.alloc (.cells (cnds nm op k n' x s y) 31)) := (Below.refl _ _).alloc (Nat.le_refl _) _
      have HBL9 := Lib.hid (bld_on HBL.out hbw)
      have HA9 : Aside (Below (A + 1) w0 (wr.alloc (.cells (cnds nm op k n' x s y) 31))) := HA.out.trans (hbw.mono (by have := HZ.out; omega))
      have vv := World.cell?_alloc_new wr (cnds nm op k n' x s y) 31
      have v0 := vv 0; have v1 := vv 1; have v2 := vv 2; have v3 := vv 3; have v4 := vv 4; have v5 := vv 5; have v6 := vv 6
      simp only [List.getElem?_toArray, List.getElem?_cons_zero, List.getElem?_cons_succ] at v0 v1 v2 v3 v4 v5 v6
      have hnew := heap_alloc_new wr (.cells (cnds nm op k n' x s y) 31)
      have hV : wr.heap.size < (wr.alloc (.cells (cnds nm op k n' x s y) 31)).heap.size := by simp
      have hVA : A + 2 ≤ wr.heap.size := HZ.out
      clear hbw HBL HA HZ vv c0 c1 c2 c3 c4 c5 c6
      generalize (wr.alloc (.cells (cnds nm op k n' x s y) 31)) = w9 at *
      generalize wr.heap.size = V at *
      have HV9 : Aside (w9.heap[V]? = some (.cells (cnds nm op k n' x s y) 31 (0, 0))) := hnew
      clear hnew
      by_cases hj0 : j = 0
      · have hj0z : ¬ (0 : Int) < (j : Int) := by omega
        obtain ⟨LL, hLL⟩ : ∃ LL, LL = AC j := ⟨_, rfl⟩
        have HLLe : Aside (LL = AC j ++ (if j = 0 then [] else [32, 38])) := by show LL = _; rw [hLL, if_pos hj0, List.append_nil]
        have HLLn : Aside ((Lib.byteCells LL).length + (⟨#[32]⟩ ++ tx : ByteArray).size ≤ 140737488355328) := by
          have := HLj.out; have := HTj.out
          show _ ≤ _
          rw [bytes_len, hLL, ByteArray.size_append]
          have : (⟨#[32]⟩ : ByteArray).size = 1 := rfl
          omega
        have HBLX : Aside (BuilderA (A + 1) (A + 1) (.pointer (some ⟨A + 1, 0, none⟩)) (Lib.byteCells LL) w9) := by
          show BuilderA _ _ _ _ _
          rw [hLL]; exact HBL9.out
        have hAV : A + 2 < w9.heap.size := by omega
        clear hLL hj0
        go_upto_region 8 with fail
        have HAX : Aside (Below (A + 1) w0 w9) := HA9.out
        clear HA9 HBL9 HV9
        generalize w9 = wX at *
        have HBwX : Aside (Below w.heap.size w wX) := HB0.out.trans (HAX.out.mono (by omega))
        have hX : A + 1 ≤ wX.heap.size := by omega
        have HXs := Lib.hid hX
        go_wp2_with fail
        clear v0 v1 v2 v3 v4 v5 v6
        refine (HPj.out _ HBwX.out).mono ?_
        rintro e wY ⟨rfl, hbY⟩
        have HBLY := Lib.hid (bld_on HBLX.out hbY)
        have HAY : Aside (Below (A + 1) w0 wY) := HAX.out.trans (hbY.mono HXs.out)
        have hzY : A + 2 ≤ wY.heap.size := by have := hbY.size; omega
        have u2 : ¬ 9223372036854775807 < 1 + tx.size := by have := HTj.out; omega
        clear hbY
        go_wp2_with fail
        refine (writeString_k (A + 1) (A + 1) (Lib.byteCells LL) _ _ (Or.inr HBLY.out) HLLn.out (by omega)).mono ?_
        rintro e wZ ⟨rfl, ⟨BZ, hbZ⟩, _⟩
        have HAZ : Aside (Below (A + 1) w0 wZ) := HAY.out.trans hbZ
        have hzZ : A + 2 ≤ wZ.heap.size := Nat.le_trans hzY hbZ.size
        have HBZ : Aside (BuilderA (A + 1) (A + 1) (.pointer (some ⟨A + 1, 0, none⟩)) (Lib.byteCells (AC (j + 1))) wZ) := by
          have e : Lib.byteCells (AC (j + 1)) = Lib.byteCells LL ++ Lib.strCells (⟨#[32]⟩ ++ tx) := by
            rw [HSt.out, HLLe.out, bytes_app, bytes_str]; simp [Lib.byteCells]
          show BuilderA _ _ _ _ _
          rw [e]; exact BZ
        clear BZ hbZ u2
        go_wp2_with fail
        go_roundg (len - (j + 1))
        case measure => omega
        case rel => exact ⟨j + 1, by go_num, hlt, Nat.le_refl _, HBZ.out, HAZ.out, hzZ⟩
      · have hj0z : (0 : Int) < (j : Int) := by omega
        obtain ⟨LL, hLL⟩ : ∃ LL, LL = AC j ++ [32, 38] := ⟨_, rfl⟩
        have HLLe : Aside (LL = AC j ++ (if j = 0 then [] else [32, 38])) := by show LL = _; rw [hLL, if_neg hj0]
        have HLLn : Aside ((Lib.byteCells LL).length + (⟨#[32]⟩ ++ tx : ByteArray).size ≤ 140737488355328) := by
          have := HLj.out; have := HTj.out
          show _ ≤ _
          rw [bytes_len, hLL, ByteArray.size_append, List.length_append]
          have : (⟨#[32]⟩ : ByteArray).size = 1 := rfl
          have : ([32, 38] : List UInt8).length = 2 := rfl
          omega
        have HL0 : Aside ((Lib.byteCells (AC j)).length + (⟨#[32, 38]⟩ : ByteArray).size ≤ 140737488355328) := by
          have := HLj.out
          show _ ≤ _
          rw [bytes_len]
          have : (⟨#[32, 38]⟩ : ByteArray).size = 2 := rfl
          omega
        have HLLb : Aside (Lib.byteCells LL = Lib.byteCells (AC j) ++ Lib.strCells ⟨#[32, 38]⟩) := by
          show _ = _
          rw [hLL, bytes_app]; rfl
        clear hLL
        go_wp2_with fail
        refine (writeString_k (A + 1) (A + 1) (Lib.byteCells (AC j)) _ _ (Or.inr HBL9.out) HL0.out (by omega)).mono ?_
        rintro e wX ⟨rfl, ⟨BX, hbX⟩, hkX⟩
        have HBLX : Aside (BuilderA (A + 1) (A + 1) (.pointer (some ⟨A + 1, 0, none⟩)) (Lib.byteCells LL) wX) := by
          show BuilderA _ _ _ _ _
          rw [HLLb.out]; exact BX
        have HAX : Aside (Below (A + 1) w0 wX) := HA9.out.trans hbX
        have hVX := (hkX V _ _ _ HV9.out (by decide) (by omega)).trans HV9.out
        have hAV : A + 2 < wX.heap.size := by have := hbX.size; omega
        clear v0 v1 v2 v3 v4 v5 v6
        have v0 : wX.cell? ⟨V, 0, none⟩ = some (.string nm) := by simp [World.cell?, hVX]
        have v1 : wX.cell? ⟨V, 1, none⟩ = some (.int .i64 op) := by simp [World.cell?, hVX]
        have v2 : wX.cell? ⟨V, 2, none⟩ = some (.int .i64 k) := by simp [World.cell?, hVX]
        have v3 : wX.cell? ⟨V, 3, none⟩ = some (.int .i64 n') := by simp [World.cell?, hVX]
        have v4 : wX.cell? ⟨V, 4, none⟩ = some (.float .f64 x) := by simp [World.cell?, hVX]
        have v5 : wX.cell? ⟨V, 5, none⟩ = some (.string s) := by simp [World.cell?, hVX]
        have v6 : wX.cell? ⟨V, 6, none⟩ = some (.bool y) := by simp [World.cell?, hVX]
        clear BX hbX hkX hVX HA9 HBL9 HV9 HL0 HLLb hj0
        go_upto_region 8 with fail
        have HBwX : Aside (Below w.heap.size w wX) := HB0.out.trans (HAX.out.mono (by omega))
        have hX : A + 1 ≤ wX.heap.size := by omega
        have HXs := Lib.hid hX
        go_wp2_with fail
        clear v0 v1 v2 v3 v4 v5 v6
        refine (HPj.out _ HBwX.out).mono ?_
        rintro e wY ⟨rfl, hbY⟩
        have HBLY := Lib.hid (bld_on HBLX.out hbY)
        have HAY : Aside (Below (A + 1) w0 wY) := HAX.out.trans (hbY.mono HXs.out)
        have hzY : A + 2 ≤ wY.heap.size := by have := hbY.size; omega
        have u2 : ¬ 9223372036854775807 < 1 + tx.size := by have := HTj.out; omega
        clear hbY
        go_wp2_with fail
        refine (writeString_k (A + 1) (A + 1) (Lib.byteCells LL) _ _ (Or.inr HBLY.out) HLLn.out (by omega)).mono ?_
        rintro e wZ ⟨rfl, ⟨BZ, hbZ⟩, _⟩
        have HAZ : Aside (Below (A + 1) w0 wZ) := HAY.out.trans hbZ
        have hzZ : A + 2 ≤ wZ.heap.size := Nat.le_trans hzY hbZ.size
        have HBZ : Aside (BuilderA (A + 1) (A + 1) (.pointer (some ⟨A + 1, 0, none⟩)) (Lib.byteCells (AC (j + 1))) wZ) := by
          have e : Lib.byteCells (AC (j + 1)) = Lib.byteCells LL ++ Lib.strCells (⟨#[32]⟩ ++ tx) := by
            rw [HSt.out, HLLe.out, bytes_app, bytes_str]; simp [Lib.byteCells]
          show BuilderA _ _ _ _ _
          rw [e]; exact BZ
        clear BZ hbZ u2
        go_wp2_with fail
        go_roundg (len - (j + 1))
        case measure => omega
        case rel => exact ⟨j + 1, by go_num, hlt, Nat.le_refl _, HBZ.out, HAZ.out, hzZ⟩
    · obtain rfl : j = len := by omega
      have hACl : AC j = AC cs.length := by rw [HLen.out]
      clear hjx hj hlt
      go_wp2_with fail
      refine (Tryz.Builder_String (A + 1) (A + 1) (AC j) _ (Or.inr HBL.out) (HNE.out j)).mono ?_
      rintro e w3 ⟨rfl, hb3⟩
      have hB3 : Below w.heap.size w w3 := HB0.out.trans ((HA.out.trans hb3).mono (by omega))
      have HACl := Lib.hid hACl
      clear hb3 hACl
      go_wp2_with fail
      go_ret
      have hfin : (⟨(AC j).toArray⟩ : ByteArray) = textF fs T cs := by rw [HTX.out, HACl.out]
      exact ⟨congrArg (fun b => Ending.returned (Value.string b)) hfin, hB3⟩
end Go.Proofs.YtfffmndjgjfflaaGreatDoor

/- What each law of layer 7 begins with: gazettelaw07's fit. -/
namespace Go.Proofs.YtfffmndjgjfflaaGreatDoor
open Go.RowKit Go.Shelf
open Go.Proofs
set_option maxRecDepth 100000

/-- The law's own condition: x, an op, a whole number. -/
def cx (op n : Int) : Cn := ⟨⟨⟨#[120]⟩, 0, n, 0, ⟨#[]⟩, false⟩, op⟩
set_option maxHeartbeats 2000000 in
theorem fitx_c (op n : Int) (w : World) : Calls Tryz.prog 9 #[.int .i64 op, .int .i64 n] w fun e w' => ∃ B, e = .returned (fil ⟨#[97]⟩ (some ⟨B, 0, none⟩) 1 1) ∧ B < w'.heap.size ∧ RowC w' B 0 [cx op n] ∧ Below w.heap.size w w' := by
  go_enter Tryz.func9, Tryz.ntmps9
  go_wp2_with fail
  have hbw : Below (w.heap.size + 2) ((w.alloc (.cells #[.string ⟨#[97]⟩, .slice (some ⟨w.heap.size + 1, 0, none⟩) 1 1] 24)).alloc (.cells (cnds ⟨#[120]⟩ op 0 n 0 ⟨#[]⟩ false) 31)) ((w.alloc (.cells #[.string ⟨#[97]⟩, .slice (some ⟨w.heap.size + 1, 0, none⟩) 1 1] 24)).alloc (.cells (cnds ⟨#[120]⟩ op 0 n 0 ⟨#[]⟩ false) 31)) := Below.refl _ _
  obtain ⟨va, vb⟩ := two_lay hbw
  have x0 := va 0 _ rfl
  have x1 := va 1 _ rfl
  have hrow : RowC ((w.alloc (.cells #[.string ⟨#[97]⟩, .slice (some ⟨w.heap.size + 1, 0, none⟩) 1 1] 24)).alloc (.cells (cnds ⟨#[120]⟩ op 0 n 0 ⟨#[]⟩ false) 31)) (w.heap.size + 1) 0 [cx op n] := fun i hi c v hv => by
    obtain rfl : i = 0 := by simpa using hi
    simp only [Nat.zero_mul, Nat.zero_add]
    exact vb c v (by simpa [encC, cx] using hv)
  have hbl : Below w.heap.size w ((w.alloc (.cells #[.string ⟨#[97]⟩, .slice (some ⟨w.heap.size + 1, 0, none⟩) 1 1] 24)).alloc (.cells (cnds ⟨#[120]⟩ op 0 n 0 ⟨#[]⟩ false) 31)) := ((Below.refl _ _).alloc (Nat.le_refl _) _).alloc (by simp) _
  have hz : w.heap.size + 1 < ((w.alloc (.cells #[.string ⟨#[97]⟩, .slice (some ⟨w.heap.size + 1, 0, none⟩) 1 1] 24)).alloc (.cells (cnds ⟨#[120]⟩ op 0 n 0 ⟨#[]⟩ false) 31)).heap.size := by simp
  clear hbw va vb
  generalize ((w.alloc (.cells #[.string ⟨#[97]⟩, .slice (some ⟨w.heap.size + 1, 0, none⟩) 1 1] 24)).alloc (.cells (cnds ⟨#[120]⟩ op 0 n 0 ⟨#[]⟩ false) 31)) = X at *
  exact bodyPost_ret (v := fil ⟨#[97]⟩ (some ⟨w.heap.size + 1, 0, none⟩) 1 1) (by simp [results, Tryz.results9, go_sem, x0, x1]) rfl ⟨w.heap.size + 1, rfl, hz, hrow, hbl⟩
theorem row_on {B : Nat} {cs : List Cn} {w W : World} (h : RowC w B 0 cs) (hB : B < w.heap.size) (hb : Below w.heap.size w W) : CondsB W.heap.size W (some ⟨B, 0, none⟩) cs := Or.inr ⟨B, 0, rfl, Nat.lt_of_lt_of_le hB hb.size, RowC.below hb hB h⟩
theorem fitx_enters : ∀ args w, (callFunc 9 args).run Tryz.prog w = .ok (.enter 9 args) w := enters_of Tryz.func9 (by kernel_rfl) rfl
set_option maxHeartbeats 4000000 in
theorem fit7_c (w : World) (hw : Wds w) (hm : MaxI w) : Calls Tryz.prog 4 #[] w fun e w' => e = .returned (.bool true) ∧ Below w.heap.size w w' := by
  have HX := Lib.hid fitx_c
  have HC : Aside (∀ (m n : Int) (B1 B2 : Nat) (W : World), CondsB W.heap.size W (some ⟨B1, 0, none⟩) [cx 4 m] → CondsB W.heap.size W (some ⟨B2, 0, none⟩) [cx 4 n] → Calls Tryz.prog 8 #[fil ⟨#[97]⟩ (some ⟨B1, 0, none⟩) 1 1, fil ⟨#[97]⟩ (some ⟨B2, 0, none⟩) 1 1] W fun e w' => e = .returned (.bool (coversF ⟨#[97]⟩ [cx 4 m] ⟨#[97]⟩ [cx 4 n])) ∧ Below W.heap.size W w') := fun m n B1 B2 W h1 h2 =>
    fcovers_c ⟨#[97]⟩ _ 1 [cx 4 m] ⟨#[97]⟩ _ 1 [cx 4 n] W h1 (fun c hc => by rw [List.mem_singleton.1 hc]; show (0 : Nat) < _; decide) (by simp) h2 (fun c hc => by rw [List.mem_singleton.1 hc]; show (0 : Nat) < _; decide) (by simp) (by decide)
  have HP : Aside (∀ (B : Nat) (W : World), Below w.heap.size w W → CondsB W.heap.size W (some ⟨B, 0, none⟩) [cx 4 3] → Calls Tryz.prog 10 #[fil ⟨#[97]⟩ (some ⟨B, 0, none⟩) 1 1] W fun e w' => e = .returned (.string ⟨#[97, 58, 32, 120, 32, 62, 32, 51]⟩) ∧ Below W.heap.size W w') := fun B W hW h1 => by
    have h := fprint_c ⟨#[97]⟩ (some ⟨B, 0, none⟩) 1 [cx 4 3] (fun _ => ⟨#[120, 32, 62, 32, 51]⟩) W h1 (by decide) (by decide) (fun _ _ => by show 5 ≤ 100000; decide) (fun c hc W2 hW2 => by
      rw [List.mem_singleton.1 hc]
      have := cprint_c ⟨#[120]⟩ 4 0 3 0 ⟨#[]⟩ false ⟨#[51]⟩ (by decide) (by decide) (by decide) W2 (hw.on (hW.trans (hW2.mono hW.size))) (fun W' _ => printThree_c W')
      rw [show cprintS ⟨#[120]⟩ 4 ⟨#[51]⟩ = ⟨#[120, 32, 62, 32, 51]⟩ by decide +kernel] at this
      exact this)
    rw [show textF ⟨#[97]⟩ (fun _ => ⟨#[120, 32, 62, 32, 51]⟩) [cx 4 3] = ⟨#[97, 58, 32, 120, 32, 62, 32, 51]⟩ by decide +kernel] at h
    exact h
  have HW : Aside (∀ W, Below w.heap.size w W → Calls Tryz.prog 11 #[.int .i64 0] W fun e W' => e = .returned (.string ⟨#[61]⟩) ∧ W = W') := fun W hW => word_c 0 (by decide) W (hw.on hW)
  have HS : Aside (∀ W, Below w.heap.size w W → Calls Tryz.prog 12 #[.string ⟨#[97]⟩] W fun e w' => e = .returned (.bool true) ∧ Below W.heap.size W w') := fun W hW => scright_c ⟨#[97]⟩ W (by decide) (hm.below hW)
  have C1 : coversF ⟨#[97]⟩ [cx 4 3] ⟨#[97]⟩ [cx 4 5] = true := by decide +kernel
  have C2 : coversF ⟨#[97]⟩ [cx 4 5] ⟨#[97]⟩ [cx 4 3] = false := by decide +kernel
  have HC1 := Lib.hid C1
  have HC2 := Lib.hid C2
  have eg := fitx_enters
  clear hw hm C1 C2
  go_enter Tryz.func4, Tryz.ntmps4
  go_wp2_with fail
  refine (HX.out 4 3 _).mono ?_
  rintro e w1 ⟨B1, rfl, hz1, hr1, hb1⟩
  have HB1 := Lib.hid hb1
  have HR1 := Lib.hid (fun W hW => row_on (W := W) hr1 hz1 hW)
  clear hr1 hz1 hb1
  go_wp2_with fail
  refine (HX.out 4 5 _).mono ?_
  rintro e w2 ⟨B2, rfl, hz2, hr2, hb2⟩
  have HC12 := Lib.hid (HC.out 3 5 B1 B2 w2 (HR1.out w2 hb2) (row_on hr2 hz2 (Below.refl _ _)))
  have HB2 : Aside (Below w.heap.size w w2) := HB1.out.trans (hb2.mono HB1.out.size)
  clear hr2 hz2 hb2 HR1 HB1
  rw [HC1.out] at HC12
  go_wp2_with fail
  refine HC12.out.mono ?_
  rintro e w3 ⟨rfl, hb3⟩
  have HB3 : Aside (Below w.heap.size w w3) := HB2.out.trans (hb3.mono HB2.out.size)
  clear hb3 HB2 HC12
  go_wp2_with fail
  refine (HX.out 4 5 _).mono ?_
  rintro e w4 ⟨B4, rfl, hz4, hr4, hb4⟩
  have HB4 : Aside (Below w.heap.size w w4) := HB3.out.trans (hb4.mono HB3.out.size)
  have HR4 := Lib.hid (fun W hW => row_on (W := W) hr4 hz4 hW)
  clear hr4 hz4 hb4 HB3
  go_wp2_with fail
  refine (HX.out 4 3 _).mono ?_
  rintro e w5 ⟨B5, rfl, hz5, hr5, hb5⟩
  have HC45 := Lib.hid (HC.out 5 3 B4 B5 w5 (HR4.out w5 hb5) (row_on hr5 hz5 (Below.refl _ _)))
  have HB5 : Aside (Below w.heap.size w w5) := HB4.out.trans (hb5.mono HB4.out.size)
  clear hr5 hz5 hb5 HR4 HB4
  rw [HC2.out] at HC45
  go_wp2_with fail
  refine HC45.out.mono ?_
  rintro e w6 ⟨rfl, hb6⟩
  have HB6 : Aside (Below w.heap.size w w6) := HB5.out.trans (hb6.mono HB5.out.size)
  clear hb6 HB5 HC45
  go_wp2_with fail
  refine (HX.out 4 3 _).mono ?_
  rintro e w7 ⟨B7, rfl, hz7, hr7, hb7⟩
  have HB7 : Aside (Below w.heap.size w w7) := HB6.out.trans (hb7.mono HB6.out.size)
  have HPP := Lib.hid (HP.out B7 w7 HB7.out (row_on hr7 hz7 (Below.refl _ _)))
  clear hr7 hz7 hb7 HB6
  go_wp2_with fail
  refine HPP.out.mono ?_
  rintro e w8 ⟨rfl, hb8⟩
  have HB8 : Aside (Below w.heap.size w w8) := HB7.out.trans (hb8.mono HB7.out.size)
  clear hb8 HB7 HPP
  go_wp2_with fail
  refine (HW.out _ HB8.out).mono ?_
  rintro e w9 ⟨rfl, rfl⟩
  go_wp2_with fail
  refine (HS.out _ HB8.out).mono ?_
  rintro e w10 ⟨rfl, hb10⟩
  have HB10 : Aside (Below w.heap.size w w10) := HB8.out.trans (hb10.mono HB8.out.size)
  clear hb10
  go_wp2_with fail
  go_ret
  exact ⟨rfl, HB10.out⟩
end Go.Proofs.YtfffmndjgjfflaaGreatDoor

/- gazettelaw07's Light and few: are they few and short? -/
namespace Go.Proofs.YtfffmndjgjfflaaGreatDoor
open Go.RowKit Go.Shelf
open Go.Proofs
set_option maxRecDepth 100000

def szA (a : At) : Int := wrap64 ((a.nm.size : Int) + (a.s.size : Int))
def sumA (n : Int) (l : List At) : Int := l.foldl (fun n a => wrap64 (n + szA a)) n
def sumC (n : Int) (l : List Cn) : Int := l.foldl (fun n c => wrap64 (n + szA c.a)) n
def lightF (fs : ByteArray) (cs : List Cn) : Bool := decide (sumC fs.size cs ≤ 2000) && decide (cs.length ≤ 20)
def fewA (l : List At) : Bool := decide (sumA 0 l ≤ 2000) && decide (l.length ≤ 20)
theorem sumC_snoc (n : Int) (l : List Cn) (j : Nat) (hj : j < l.length) : sumC n (l.take (j + 1)) = wrap64 (sumC n (l.take j) + szA l[j]!.a) := by
  rw [takeC l j hj]; unfold sumC; rw [List.foldl_append]; rfl
theorem sumA_snoc (n : Int) (l : List At) (j : Nat) (hj : j < l.length) : sumA n (l.take (j + 1)) = wrap64 (sumA n (l.take j) + szA l[j]!) := by
  rw [take_succ l j hj]; unfold sumA; rw [List.foldl_append]; rfl
/-- What memory allows: no sum goes round. -/
theorem sumA_le : ∀ (l : List At) (n : Int), (∀ a ∈ l, a.nm.size ≤ 140737488355328 ∧ a.s.size ≤ 140737488355328) → 0 ≤ n → n + 281474976710656 * l.length ≤ 9223372036854775807 → n ≤ sumA n l ∧ ∀ a ∈ l, n + a.nm.size + a.s.size ≤ sumA n l
  | [], n, _, _, _ => ⟨Int.le_refl _, fun a h => by simp at h⟩
  | a :: l, n, h, h0, h1 => by
    obtain ⟨b1, b2⟩ := h a List.mem_cons_self
    simp only [List.length_cons] at h1
    have e : wrap64 (n + szA a) = n + a.nm.size + a.s.size := by
      unfold szA wrap64; omega
    have ih := sumA_le l (n + a.nm.size + a.s.size) (fun x hx => h x (List.mem_cons_of_mem _ hx)) (by omega) (by omega)
    have e2 : sumA n (a :: l) = sumA (n + a.nm.size + a.s.size) l := by
      show sumA (wrap64 (n + szA a)) l = _
      rw [e]
    rw [e2]
    refine ⟨by omega, fun x hx => ?_⟩
    rcases List.mem_cons.1 hx with rfl | hx
    · exact ih.1
    · have := ih.2 x hx; omega
theorem sumC_map (n : Int) (l : List Cn) : sumC n l = sumA n (l.map (·.a)) := by
  unfold sumC sumA; rw [List.foldl_map]
theorem lightF_sz {fs : ByteArray} {cs : List Cn} (h : lightF fs cs = true) (hf : fs.size ≤ 140737488355328) (hc : ∀ c ∈ cs, c.a.nm.size ≤ 140737488355328 ∧ c.a.s.size ≤ 140737488355328) : fs.size ≤ 2000 ∧ cs.length ≤ 20 ∧ ∀ c ∈ cs, c.a.nm.size ≤ 2000 ∧ c.a.s.size ≤ 2000 := by
  unfold lightF at h
  simp only [Bool.and_eq_true, decide_eq_true_eq] at h
  obtain ⟨h1, h2⟩ := h
  rw [sumC_map] at h1
  obtain ⟨k1, k2⟩ := sumA_le (cs.map (·.a)) fs.size (fun a ha => by
    obtain ⟨c, hcc, rfl⟩ := List.mem_map.1 ha
    exact hc c hcc) (by omega) (by simp only [List.length_map]; omega)
  refine ⟨by omega, h2, fun c hcc => ?_⟩
  have := k2 c.a (List.mem_map.2 ⟨c, hcc, rfl⟩)
  omega
theorem fewA_sz {l : List At} (h : fewA l = true) (hc : ∀ a ∈ l, a.nm.size ≤ 140737488355328 ∧ a.s.size ≤ 140737488355328) : l.length ≤ 20 ∧ ∀ a ∈ l, a.nm.size ≤ 2000 ∧ a.s.size ≤ 2000 := by
  unfold fewA at h
  simp only [Bool.and_eq_true, decide_eq_true_eq] at h
  obtain ⟨h1, h2⟩ := h
  obtain ⟨k1, k2⟩ := sumA_le l 0 hc (by omega) (by omega)
  refine ⟨h2, fun a ha => ?_⟩
  have := k2 a ha
  omega

set_option maxHeartbeats 4000000 in
theorem flight_c (fs : ByteArray) (co : Option Addr) (ccap : Nat) (cs : List Cn) (w : World) (hcs : CondsB w.heap.size w co cs) (hlc : cs.length ≤ 4611686018427387904) :
    Calls Tryz.prog 5 #[fil fs co cs.length ccap] w fun e w' => e = .returned (.bool (lightF fs cs)) ∧ Below w.heap.size w w' := by
  obtain ⟨len, hL⟩ : ∃ len, len = cs.length := ⟨_, rfl⟩
  have HLen : Aside (len = cs.length) := hL
  rw [← hL] at hlc ⊢
  have B0 : Below w.heap.size w (w.alloc (.cells #[.string fs, .slice co len ccap] 24)) := (Below.refl _ _).alloc (Nat.le_refl _) _
  have HB0 := Lib.hid B0
  have HSL : Aside (∀ W, Below w.heap.size w W → cs = [] ∨ ∃ b off, co = some ⟨b, off, none⟩ ∧ b < w.heap.size ∧ RowC W b off cs) := fun W hW => by
    rcases hcs with h | ⟨b, off, h1, h2, h3⟩
    · exact Or.inl h
    · exact Or.inr ⟨b, off, h1, h2, RowC.below hW h2 h3⟩
  obtain ⟨r, hr⟩ : ∃ r, r = lightF fs cs := ⟨_, rfl⟩
  have HR : Aside (r = (decide (sumC fs.size cs ≤ 2000) && decide (len ≤ 20))) := by
    show r = _
    rw [hr, hL]; rfl
  rw [← hr]
  have HST : Aside (∀ j, j < cs.length → sumC fs.size (cs.take (j + 1)) = wrap64 (sumC fs.size (cs.take j) + szA cs[j]!.a)) := fun j hj => sumC_snoc _ _ j hj
  have HS0 : Aside (sumC fs.size (cs.take 0) = fs.size) := rfl
  generalize sumC (fs.size : Int) = S at *
  have z1 : w.heap.size + 1 ≤ (w.alloc (.cells #[.string fs, .slice co len ccap] 24)).heap.size := by simp
  have HKP : Aside (∀ W, Below (w.heap.size + 1) (w.alloc (.cells #[.string fs, .slice co len ccap] 24)) W → W.cell? ⟨w.heap.size, 0, none⟩ = some (.string fs) ∧ W.cell? ⟨w.heap.size, 1, none⟩ = some (.slice co len ccap)) := fun W hW => ⟨one_lay hW 0 _ rfl, one_lay hW 1 _ rfl⟩
  have HBR : Aside (Below (w.heap.size + 1) (w.alloc (.cells #[.string fs, .slice co len ccap] 24)) (w.alloc (.cells #[.string fs, .slice co len ccap] 24))) := Below.refl _ _
  obtain ⟨a0, a1⟩ := HKP.out _ HBR.out
  clear B0 hcs hr hL
  go_enter Tryz.func5, Tryz.ntmps5
  go_wp2_with fail
  generalize hW0 : (w.alloc (.cells #[.string fs, .slice co len ccap] 24)) = w0 at *
  clear a0 a1
  go_loopg [3, 12] len (fun kx s3 s10 wr => ∃ j : Nat, s10 = .int .i64 j ∧ j ≤ len ∧ len - j ≤ kx ∧ s3 = .int .i64 (S (cs.take j)) ∧ Aside (Below (w.heap.size + 1) w0 wr))
  case atStart => exact ⟨0, rfl, Nat.zero_le _, by omega, by rw [HS0.out], HBR.out⟩
  case round =>
    obtain ⟨j, rfl, hj, hjx, rfl, HA⟩ := hrel
    have zr : w.heap.size + 1 ≤ wr.heap.size := Nat.le_trans z1 HA.out.size
    have hBw : Below w.heap.size w wr := HB0.out.trans (HA.out.mono (by omega))
    by_cases hlt : j < len
    · rcases HSL.out _ hBw with h0 | ⟨b, off, hao, hbs, hrow⟩
      · rw [h0] at HLen; exact absurd HLen.out (by simp; omega)
      subst hao
      have hjl : j < cs.length := by rw [← HLen.out]; exact hlt
      have hrow1 := hrow j hjl
      have HT := Lib.hid (HST.out j hjl)
      generalize S (cs.take j) = acc at *
      generalize hacc : S (cs.take (j + 1)) = acc' at *
      have HAC : Aside (acc' = S (cs.take (j + 1))) := hacc.symm
      generalize cs[j]! = c at hrow1 HT
      obtain ⟨⟨nm, k, n', x, s, y⟩, op⟩ := c
      have c0 := hrow1 0 _ rfl; have c1 := hrow1 1 _ rfl; have c2 := hrow1 2 _ rfl; have c3 := hrow1 3 _ rfl; have c4 := hrow1 4 _ rfl; have c5 := hrow1 5 _ rfl; have c6 := hrow1 6 _ rfl
      simp only [Nat.add_zero] at c0
      clear hrow1 hrow HSL hjl hacc HST HS0
      have hltz : (j : Int) < len := by omega
      have hjz : (0 : Int) ≤ (j : Int) := by omega
      go_upto_region 5 with fail
      have hA9 : Below (w.heap.size + 1) w0 (wr.alloc (.cells (cnds nm op k n' x s y) 31)) := HA.out.alloc (by omega) _
      have vv := World.cell?_alloc_new wr (cnds nm op k n' x s y) 31
      have v0 := vv 0; have v5 := vv 5
      simp only [List.getElem?_toArray, List.getElem?_cons_zero, List.getElem?_cons_succ] at v0 v5
      have HA9 := Lib.hid hA9
      clear hA9 vv c0 c1 c2 c3 c4 c5 c6 hBw
      generalize (wr.alloc (.cells (cnds nm op k n' x s y) 31)) = w9 at *
      generalize wr.heap.size = V at *
      go_wp2_with fail
      go_roundg (len - (j + 1))
      case measure => omega
      case rel => exact ⟨j + 1, by go_num, hlt, Nat.le_refl _, by rw [← HAC.out, HT.out]; rfl, HA9.out⟩
    · obtain rfl : j = len := by omega
      have HR' : Aside (r = (decide (S (cs.take j) ≤ 2000) && decide (j ≤ 20))) := by
        show r = _
        rw [HR.out]; congr 2; rw [HLen.out, List.take_length]
      obtain ⟨a0, a1⟩ := HKP.out _ HA.out
      generalize S (cs.take j) = acc at *
      clear HR HST HS0 hjx hj hlt
      cases h1 : decide (acc ≤ 2000)
      · have hrf : r = false := by rw [HR'.out, h1]; rfl
        subst hrf
        go_wp2_with fail
        go_ret
        exact ⟨rfl, HB0.out.trans (HA.out.mono (by omega))⟩
      · have hrf : r = decide ((j : Int) ≤ 20) := by
          rw [HR'.out, h1, Bool.true_and]
          by_cases hh : j ≤ 20
          · rw [decide_eq_true hh, decide_eq_true (by omega)]
          · rw [decide_eq_false hh, decide_eq_false (by omega)]
        subst hrf
        go_wp2_with fail
        go_ret
        exact ⟨rfl, HB0.out.trans (HA.out.mono (by omega))⟩
end Go.Proofs.YtfffmndjgjfflaaGreatDoor
