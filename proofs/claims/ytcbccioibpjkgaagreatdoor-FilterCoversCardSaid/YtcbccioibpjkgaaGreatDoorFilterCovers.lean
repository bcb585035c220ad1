/- FilterCovers: a filter covers another one by the rules of the document; whatever event that has, it has. -/
import Derived.Test.YtcbccioibpjkgaaGreatDoorFilCK
import Derived.Test.YtcbccioibpjkgaaGreatDoorFilTwo
import Derived.Deep.RegionWith
import Derived.Deep.RegionHeld3
import Derived.Deep.DeepCutAuto
namespace Go.Proofs.YtcbccioibpjkgaaGreatDoor
open Go.RowKit Go.Shelf
open Go.Proofs
set_option maxRecDepth 100000

theorem heap_keep {w1 W : World} {k : Nat} {o : Obj} (hb : Below w1.heap.size w1 W) (h : w1.heap[k]? = some o) : W.heap[k]? = some o := (hb.block k (Array.getElem?_eq_some_iff.1 h).1).trans h
theorem heap_new (w : World) (o : Obj) : (w.alloc o).heap[w.heap.size]? = some o := Array.getElem?_push_size
theorem heap_lt {w : World} {k : Nat} {o : Obj} (h : w.heap[k]? = some o) : k < w.heap.size := (Array.getElem?_eq_some_iff.1 h).1
theorem bput {B X : Nat} {w W : World} {a b : Value} (h : Below B w W) (hX : B ≤ X) : Below B w ((W.setCell ⟨X, 0, none⟩ a).setCell ⟨X, 1, none⟩ b) := (h.setCell (p := ⟨X, 0, none⟩) hX a).setCell (p := ⟨X, 1, none⟩) hX b
theorem zfacts {W : World} {X : Nat} (h : W.heap[X]? = some (.cells #[.string ⟨#[]⟩, .slice none 0 0] 42)) : W.cell? ⟨X, 0, none⟩ = some (.string ⟨#[]⟩) ∧ W.cell? ⟨X, 1, none⟩ = some (.slice none 0 0) ∧ W.frozen? ⟨X, 0, none⟩ = false ∧ W.frozen? ⟨X, 1, none⟩ = false :=
  ⟨by simp [World.cell?, h], by simp [World.cell?, h], by simp [World.frozen?, h], by simp [World.frozen?, h]⟩
theorem zalloc {W : World} {X : Nat} (h : W.heap[X]? = some (.cells #[.string ⟨#[]⟩, .slice none 0 0] 42)) (o : Obj) : (W.alloc o).heap[X]? = some (.cells #[.string ⟨#[]⟩, .slice none 0 0] 42) := heap_keep ((Below.refl _ _).alloc' o) h
/-- A filter's two cells laid into a block of zeros: that block, the others, and conditions that lie. -/
theorem put_fil {W : World} {X : Nat} {s : ByteArray} {c : Option Addr} {n p : Nat} (h : W.heap[X]? = some (.cells #[.string ⟨#[]⟩, .slice none 0 0] 42)) :
    ((W.setCell ⟨X, 0, none⟩ (.string s)).setCell ⟨X, 1, none⟩ (.slice c n p)).heap[X]? = some (.cells #[.string s, .slice c n p] 42) ∧
    (∀ Y, Y ≠ X → ((W.setCell ⟨X, 0, none⟩ (.string s)).setCell ⟨X, 1, none⟩ (.slice c n p)).heap[Y]? = W.heap[Y]?) ∧
    ∀ ro L, CondsB W.heap.size W ro L → CondsB ((W.setCell ⟨X, 0, none⟩ (.string s)).setCell ⟨X, 1, none⟩ (.slice c n p)).heap.size ((W.setCell ⟨X, 0, none⟩ (.string s)).setCell ⟨X, 1, none⟩ (.slice c n p)) ro L := by
  have ho : ∀ Y, Y ≠ X → ((W.setCell ⟨X, 0, none⟩ (.string s)).setCell ⟨X, 1, none⟩ (.slice c n p)).heap[Y]? = W.heap[Y]? := fun Y hY =>
    (Go.Deep.blk_setCell_other _ ⟨X, 1, none⟩ _ Y (fun e => hY (by rw [e]))).trans (Go.Deep.blk_setCell_other W ⟨X, 0, none⟩ _ Y (fun e => hY (by rw [e])))
  refine ⟨by simp [World.setCell, Array.getElem?_modify, h], ho, fun ro L hL => ?_⟩
  rcases hL with hL | ⟨b, off, rfl, hb, hr⟩
  · exact Or.inl hL
  · refine Or.inr ⟨b, off, rfl, by simpa using hb, fun i hi c2 v hv => ?_⟩
    have hrc := hr i hi c2 v hv
    have hne : b ≠ X := fun e => by
      subst e
      have h0 := hr i hi 2 _ rfl
      simp only [World.cell?, h] at h0
      have : off + i * 7 + 2 < 2 ∨ ¬ off + i * 7 + 2 < 2 := Nat.lt_or_ge _ _ |>.imp id Nat.not_lt.2
      rcases this with h1 | h1
      · omega
      · simp at h0
    have hbk := ho b hne
    exact (World.cell?_of_block (w := W) (a := ⟨b, off + i * 7 + c2, none⟩) hbk).trans hrc
theorem two_of {F : World} {X Y : Nat} {s0 : ByteArray} {c0 : Option Addr} {n0 p0 : Nat} {s1 : ByteArray} {c1 : Option Addr} {n1 p1 : Nat} (hX : F.heap[X]? = some (.cells #[.string s0, .slice c0 n0 p0] 42)) (hY : F.heap[Y]? = some (.cells #[.string s1, .slice c1 n1 p1] 42)) : Two F X Y s0 c0 n0 p0 s1 c1 n1 p1 := fun W hW => by
  have h1 := heap_keep hW hX
  have h2 := heap_keep hW hY
  exact ⟨⟨by simp [World.cell?, h1], by simp [World.cell?, h1]⟩, by simp [World.cell?, h2], by simp [World.cell?, h2]⟩
/-- What is handed on behind the two Norms. -/
def NN (wy wz : World) (C D : Nat) (sc0 : ByteArray) (r0 : Option Addr) (p0 : Nat) (L : List Cn) (sc1 : ByteArray) (r1 : Option Addr) (p1 : Nat) (M : List Cn) : Prop :=
  Below wy.heap.size wy wz ∧ Two wz C D sc0 r0 L.length p0 sc1 r1 M.length p1 ∧ CondsB wz.heap.size wz r0 L ∧ CondsB wz.heap.size wz r1 M
theorem nn_put2 {wy F : World} {X Y : Nat} {sc0 sc1 : ByteArray} {r0 r1 : Option Addr} {p0 p1 : Nat} {L M : List Cn} (hb : Below wy.heap.size wy F) (hX : F.heap[X]? = some (.cells #[.string ⟨#[]⟩, .slice none 0 0] 42)) (hY : F.heap[Y]? = some (.cells #[.string ⟨#[]⟩, .slice none 0 0] 42)) (hne : Y ≠ X) (h1 : wy.heap.size ≤ X) (h2 : wy.heap.size ≤ Y) (hL : CondsB F.heap.size F r0 L) (hM : CondsB F.heap.size F r1 M) :
    NN wy ((((F.setCell ⟨X, 0, none⟩ (.string sc0)).setCell ⟨X, 1, none⟩ (.slice r0 L.length p0)).setCell ⟨Y, 0, none⟩ (.string sc1)).setCell ⟨Y, 1, none⟩ (.slice r1 M.length p1)) X Y sc0 r0 p0 L sc1 r1 p1 M := by
  obtain ⟨a1, a2, a3⟩ := put_fil (s := sc0) (c := r0) (n := L.length) (p := p0) hX
  obtain ⟨b1, b2, b3⟩ := put_fil (s := sc1) (c := r1) (n := M.length) (p := p1) ((a2 Y hne).trans hY)
  exact ⟨bput (bput hb h1) h2, two_of ((b2 X (Ne.symm hne)).trans a1) b1, b3 _ _ (a3 _ _ hL), b3 _ _ (a3 _ _ hM)⟩
theorem nn_put1 {wy w2 : World} {Y : Nat} {sc0 sc1 : ByteArray} {r0 r1 : Option Addr} {p0 p1 : Nat} {L M : List Cn} (hb : Below wy.heap.size wy w2) (hY : w2.heap[Y]? = some (.cells #[.string ⟨#[]⟩, .slice none 0 0] 42)) (h2 : wy.heap.size ≤ Y) (hL : CondsB w2.heap.size w2 r0 L) (hM : CondsB w2.heap.size w2 r1 M) :
    NN wy (((w2.alloc (.cells #[.string sc0, .slice r0 L.length p0] 42)).setCell ⟨Y, 0, none⟩ (.string sc1)).setCell ⟨Y, 1, none⟩ (.slice r1 M.length p1)) w2.heap.size Y sc0 r0 p0 L sc1 r1 p1 M := by
  obtain ⟨b1, b2, b3⟩ := put_fil (s := sc1) (c := r1) (n := M.length) (p := p1) (zalloc hY (.cells #[.string sc0, .slice r0 L.length p0] 42))
  have hba : Below w2.heap.size w2 (w2.alloc (.cells #[.string sc0, .slice r0 L.length p0] 42)) := (Below.refl _ _).alloc' _
  exact ⟨bput (hb.alloc' _) h2, two_of ((b2 _ (by have := heap_lt hY; omega)).trans (heap_new _ _)) b1, b3 _ _ (hL.on hba), b3 _ _ (hM.on hba)⟩
theorem nn_put0 {wy w2 : World} {sc0 sc1 : ByteArray} {r0 r1 : Option Addr} {p0 p1 : Nat} {L M : List Cn} (hb : Below wy.heap.size wy w2) (hL : CondsB w2.heap.size w2 r0 L) (hM : CondsB w2.heap.size w2 r1 M) :
    NN wy ((w2.alloc (.cells #[.string sc0, .slice r0 L.length p0] 42)).alloc (.cells #[.string sc1, .slice r1 M.length p1] 42)) w2.heap.size (w2.heap.size + 1) sc0 r0 p0 L sc1 r1 p1 M ∧
    NN wy ((w2.alloc (.cells #[.string sc1, .slice r1 M.length p1] 42)).alloc (.cells #[.string sc0, .slice r0 L.length p0] 42)) (w2.heap.size + 1) w2.heap.size sc0 r0 p0 L sc1 r1 p1 M := by
  have hba : ∀ o o2, Below w2.heap.size w2 ((w2.alloc o).alloc o2) := fun o o2 => ((Below.refl _ _).alloc' _).alloc' _
  have n1 : ∀ o o2, ((w2.alloc o).alloc o2).heap[w2.heap.size]? = some o := fun o o2 => heap_keep ((Below.refl _ _).alloc' _) (heap_new w2 o)
  have n2 : ∀ o o2, ((w2.alloc o).alloc o2).heap[w2.heap.size + 1]? = some o2 := fun o o2 => by have := heap_new (w2.alloc o) o2; rwa [World.size_alloc] at this
  exact ⟨⟨(hb.alloc' _).alloc' _, two_of (n1 _ _) (n2 _ _), hL.on (hba _ _), hM.on (hba _ _)⟩, ⟨(hb.alloc' _).alloc' _, two_of (n2 _ _) (n1 _ _), hL.on (hba _ _), hM.on (hba _ _)⟩⟩

theorem nn_putA {wy w2 : World} {X : Nat} {sc0 sc1 : ByteArray} {r0 r1 : Option Addr} {p0 p1 : Nat} {L M : List Cn} (hb : Below wy.heap.size wy w2) (hX : w2.heap[X]? = some (.cells #[.string ⟨#[]⟩, .slice none 0 0] 42)) (h1 : wy.heap.size ≤ X) (hL : CondsB w2.heap.size w2 r0 L) (hM : CondsB w2.heap.size w2 r1 M) :
    NN wy (((w2.setCell ⟨X, 0, none⟩ (.string sc0)).setCell ⟨X, 1, none⟩ (.slice r0 L.length p0)).alloc (.cells #[.string sc1, .slice r1 M.length p1] 42)) X w2.heap.size sc0 r0 p0 L sc1 r1 p1 M ∧
    NN wy (((w2.setCell ⟨X, 0, none⟩ (.string sc1)).setCell ⟨X, 1, none⟩ (.slice r1 M.length p1)).alloc (.cells #[.string sc0, .slice r0 L.length p0] 42)) w2.heap.size X sc0 r0 p0 L sc1 r1 p1 M := by
  have hn : ∀ (a b : Value) (o : Obj), (((w2.setCell ⟨X, 0, none⟩ a).setCell ⟨X, 1, none⟩ b).alloc o).heap[w2.heap.size]? = some o := fun a b o => by
    have h := heap_new ((w2.setCell ⟨X, 0, none⟩ a).setCell ⟨X, 1, none⟩ b) o
    rwa [show ((w2.setCell ⟨X, 0, none⟩ a).setCell ⟨X, 1, none⟩ b).heap.size = w2.heap.size by simp] at h
  obtain ⟨a1, _, a3⟩ := put_fil (s := sc0) (c := r0) (n := L.length) (p := p0) hX
  obtain ⟨b1, _, b3⟩ := put_fil (s := sc1) (c := r1) (n := M.length) (p := p1) hX
  exact ⟨⟨(bput hb h1).alloc' _, two_of (heap_keep ((Below.refl _ _).alloc' _) a1) (hn _ _ _), (a3 _ _ hL).on ((Below.refl _ _).alloc' _), (a3 _ _ hM).on ((Below.refl _ _).alloc' _)⟩,
    ⟨(bput hb h1).alloc' _, two_of (hn _ _ _) (heap_keep ((Below.refl _ _).alloc' _) b1), (b3 _ _ hL).on ((Below.refl _ _).alloc' _), (b3 _ _ hM).on ((Below.refl _ _).alloc' _)⟩⟩

set_option maxHeartbeats 16000000 in
theorem filterCovers_c (sc0 : ByteArray) (co0 : Option Addr) (cp0 : Nat) (cs0 : List Cn) (sc1 : ByteArray) (co1 : Option Addr) (cp1 : Nat) (cs1 : List Cn) (s : ByteArray) (ao : Option Addr) (cap : Nat) (l : List At) (w : World) (hm : MaxI w) (hw : Wds w) (hT : Tabs w) (hF0 : FilIs MB w sc0 co0 cs0) (hF1 : FilIs MB w sc1 co1 cs1) (hl : SliceA w ao l) (hal : ∀ a ∈ l, AtW MB a) (hln : l.length * 64 ≤ MB) :
    Calls Tryz.prog 4 #[.agg #[.string sc0, .slice co0 cs0.length cp0, .string sc1, .slice co1 cs1.length cp1], .string s, .slice ao l.length cap] w fun e w' => e = .returned (.bool true) ∧ Below w.heap.size w w' := by
  have hll : l.length ≤ 4611686018427387904 := by unfold MB at hln; omega
  have HFT : Aside (∀ W, Below w.heap.size w W → Calls Tryz.prog 16 #[] W fun e w' => e = .returned (.bool true) ∧ Below W.heap.size W w') := fun W hW => fit7_c W (hw.on hW) (hm.below hW)
  have HFW : Aside (∀ W, Below w.heap.size w W → Calls Tryz.prog 18 #[.slice ao l.length cap] W fun e w' => e = .returned (.bool (fewA l)) ∧ Below W.heap.size W w') := fun W hW => few_c ao cap l W (hl.under hW) hll
  have HEV : Aside (fewA l = true → s.size ≤ 100 → ∀ W, Below w.heap.size w W → Calls Tryz.prog 21 #[.string s, .slice ao l.length cap] W fun e w' => ∃ bo bcap es, e = .returned (.agg #[.string (scopeE s), .slice bo es.length bcap]) ∧ Aside (EvtIs W w' bo l es)) := fun h h2 W hW =>
    event_c s ao cap l W (Nat.le_trans (few_all (by decide) h hal) (by decide)) (hl.under hW) (by omega) (hm.below hW)
  have HEB : Aside (∀ (W0 W1 : World) (bo : Option Addr) (es : List At), EvtIs W0 W1 bo l es → Below W0.heap.size W0 W1 ∧ SliceA W1 bo es ∧ es.length ≤ 8 ∧ ∀ a ∈ es, AtOk a) := fun W0 W1 bo es h => ⟨by obtain ⟨_, _, _, _, h4⟩ := h; exact h4, by obtain ⟨_, _, _, h4, _⟩ := h; exact h4, evt_len h, fun a ha => (evt_ok h hal a ha).1⟩
  have hlc0 : cs0.length ≤ 4611686018427387904 := by have := hF0.2.2.1; unfold MB at this; omega
  have hlc1 : cs1.length ≤ 4611686018427387904 := by have := hF1.2.2.1; unfold MB at this; omega
  have HLT0 : Aside (∀ W, Below w.heap.size w W → Calls Tryz.prog 17 #[fil sc0 co0 cs0.length cp0] W fun e w' => e = .returned (.bool (lightF sc0 cs0)) ∧ Below W.heap.size W w') := fun W hW => flight_c sc0 co0 cp0 cs0 W (hF0.1.on hW) hlc0
  have HLT1 : Aside (∀ W, Below w.heap.size w W → Calls Tryz.prog 17 #[fil sc1 co1 cs1.length cp1] W fun e w' => e = .returned (.bool (lightF sc1 cs1)) ∧ Below W.heap.size W w') := fun W hW => flight_c sc1 co1 cp1 cs1 W (hF1.1.on hW) hlc1
  have HFR0 : Aside (lightF sc0 cs0 = true → ∀ W, Below w.heap.size w W → Calls Tryz.prog 19 #[fil sc0 co0 cs0.length cp0] W fun e w' => e = .returned (.bool (rightF sc0 cs0)) ∧ Below W.heap.size W w') := fun h W hW => fright_c sc0 co0 cp0 cs0 W (hF0.1.on hW) hlc0 (Nat.le_trans (light_all (by decide) h hF0).1 (by decide)) (hm.below hW)
  have HFR1 : Aside (lightF sc1 cs1 = true → ∀ W, Below w.heap.size w W → Calls Tryz.prog 19 #[fil sc1 co1 cs1.length cp1] W fun e w' => e = .returned (.bool (rightF sc1 cs1)) ∧ Below W.heap.size W w') := fun h W hW => fright_c sc1 co1 cp1 cs1 W (hF1.1.on hW) hlc1 (Nat.le_trans (light_all (by decide) h hF1).1 (by decide)) (hm.below hW)
  have HCK : Aside (rightF sc0 cs0 = true → rightF sc1 cs1 = true → ∃ cv m0 m1, ∃ nk0 nk1 : List Cn → Prop, CovK w sc0 co0 cp0 cs0.length sc1 co1 cp1 cs1.length (scopeE s) cv m0 m1 nk0 nk1) := fun h0 h1 => ⟨_, _, _, _, _, covK w sc0 co0 cp0 cs0 sc1 co1 cp1 cs1 (scopeE s) hw hT hF0 hF1 h0 h1⟩
  generalize rightF sc0 cs0 = rt0 at *
  generalize lightF sc0 cs0 = lt0 at *
  generalize rightF sc1 cs1 = rt1 at *
  generalize lightF sc1 cs1 = lt1 at *
  generalize fewA l = fw at *
  generalize scopeE s = sE at *
  obtain ⟨n0, hL0⟩ : ∃ n, n = cs0.length := ⟨_, rfl⟩
  obtain ⟨n1, hL1⟩ : ∃ n, n = cs1.length := ⟨_, rfl⟩
  rw [← hL0] at HLT0 HFR0 HCK ⊢
  rw [← hL1] at HLT1 HFR1 HCK ⊢
  obtain ⟨n, hN⟩ : ∃ n, n = l.length := ⟨_, rfl⟩
  rw [← hN] at HFW HEV ⊢
  have HB0 : Aside (Below w.heap.size w (w.alloc (.cells #[.string sc0, .slice co0 n0 cp0, .string sc1, .slice co1 n1 cp1] 43))) := (Below.refl _ _).alloc (Nat.le_refl _) _
  have HKP : Aside (∀ W, Below (w.heap.size + 1) (w.alloc (.cells #[.string sc0, .slice co0 n0 cp0, .string sc1, .slice co1 n1 cp1] 43)) W → W.cell? ⟨w.heap.size, 0, none⟩ = some (.string sc0) ∧ W.cell? ⟨w.heap.size, 1, none⟩ = some (.slice co0 n0 cp0) ∧ W.cell? ⟨w.heap.size, 2, none⟩ = some (.string sc1) ∧ W.cell? ⟨w.heap.size, 3, none⟩ = some (.slice co1 n1 cp1)) := fun W hW => ⟨one_lay hW 0 _ rfl, one_lay hW 1 _ rfl, one_lay hW 2 _ rfl, one_lay hW 3 _ rfl⟩
  have z1 : w.heap.size + 1 ≤ (w.alloc (.cells #[.string sc0, .slice co0 n0 cp0, .string sc1, .slice co1 n1 cp1] 43)).heap.size := by simp
  clear hm hw hT hF0 hF1 hl hal hln hll hL0 hL1 hN hlc0 hlc1
  go_enter Tryz.func4, Tryz.ntmps4
  go_wp2_with fail
  generalize hW0 : w.alloc (.cells #[.string sc0, .slice co0 n0 cp0, .string sc1, .slice co1 n1 cp1] 43) = w0 at *
  refine (HFT.out _ HB0.out).mono ?_
  rintro e w1 ⟨rfl, hb⟩
  have HA1 : Aside (Below w.heap.size w w1) := HB0.out.trans (hb.mono (by omega))
  obtain ⟨a0, a1, a2, a3⟩ := HKP.out _ (hb.mono z1)
  have hFl : w.heap.size < w1.heap.size := Nat.lt_of_lt_of_le z1 hb.size
  have al : ∀ (o : Obj) (W : World) (i : Nat) (v : Value), W.cell? ⟨w.heap.size, i, none⟩ = some v → w.heap.size < W.heap.size → (W.alloc o).cell? ⟨w.heap.size, i, none⟩ = some v := fun o W i v h1 h2 => (World.cell?_alloc_lt _ _ _ h2).trans h1
  have hF2 : ∀ o, w.heap.size < (w1.alloc o).heap.size := fun o => by simp; omega
  have b0 := fun o => al o w1 0 _ a0 hFl
  have b1 := fun o => al o w1 1 _ a1 hFl
  have b2 := fun o => al o w1 2 _ a2 hFl
  have b3 := fun o => al o w1 3 _ a3 hFl
  have c0 := fun o o2 => al o2 (w1.alloc o) 0 _ (b0 o) (hF2 o)
  have c1 := fun o o2 => al o2 (w1.alloc o) 1 _ (b1 o) (hF2 o)
  have c2 := fun o o2 => al o2 (w1.alloc o) 2 _ (b2 o) (hF2 o)
  have c3 := fun o o2 => al o2 (w1.alloc o) 3 _ (b3 o) (hF2 o)
  clear hb HFT HKP HB0 al hF2
  go_upto_region 3 with fail
  go_cut [7, 8] (fun s7 s8 wx => ∃ A B : Nat, s7 = .pointer (some ⟨A, 0, none⟩) ∧ s8 = .pointer (some ⟨B, 0, none⟩) ∧ Aside (Below w.heap.size w wx) ∧ Aside (Two wx A B sc0 co0 n0 cp0 sc1 co1 n1 cp1))
  case first =>
    go_region
    all_goals
      go_wp2_with fail
      go_meet
    all_goals clear b0 b1 b2 b3 c0 c1 c2 c3 a0 a1 a2 a3
    · exact ⟨_, _, rfl, rfl, below_two HA1.out _ _, (two_new _ _ _ _ _ _ _ _ _).1⟩
    · exact ⟨_, _, rfl, rfl, below_two HA1.out _ _, (two_new _ _ _ _ _ _ _ _ _).2⟩
  case rest =>
    clear b0 b1 b2 b3 c0 c1 c2 c3 a0 a1 a2 a3 HA1 hFl
    obtain ⟨A, B, rfl, rfl, HA, HT⟩ := hcut
    obtain ⟨⟨v0, v1⟩, u0, u1⟩ := HT.out _ (Below.refl _ _)
    go_wp2_with fail
    clear v0 v1 u0 u1
    refine (HLT0.out _ HA.out).mono ?_
    rintro e wn ⟨rfl, hb⟩
    replace HT := Lib.hid (HT.out.on hb)
    replace HA := Lib.hid (HA.out.trans (hb.mono HA.out.size))
    clear hb HLT0
    cases lt0
    · go_wp2_with fail
      go_ret
      exact ⟨rfl, HA.out⟩
    replace HFR0 := Lib.hid (HFR0.out (by first | trivial | rfl))
    obtain ⟨⟨v0, v1⟩, u0, u1⟩ := HT.out _ (Below.refl _ _)
    go_wp2_with fail
    clear v0 v1 u0 u1
    refine (HLT1.out _ HA.out).mono ?_
    rintro e wn ⟨rfl, hb⟩
    replace HT := Lib.hid (HT.out.on hb)
    replace HA := Lib.hid (HA.out.trans (hb.mono HA.out.size))
    clear hb HLT1
    cases lt1
    · go_wp2_with fail
      go_ret
      exact ⟨rfl, HA.out⟩
    replace HFR1 := Lib.hid (HFR1.out (by first | trivial | rfl))
    obtain ⟨⟨v0, v1⟩, u0, u1⟩ := HT.out _ (Below.refl _ _)
    go_wp2_with fail
    clear v0 v1 u0 u1
    refine (HFW.out _ HA.out).mono ?_
    rintro e wn ⟨rfl, hb⟩
    replace HT := Lib.hid (HT.out.on hb)
    replace HA := Lib.hid (HA.out.trans (hb.mono HA.out.size))
    clear hb HFW
    cases fw
    · go_wp2_with fail
      go_ret
      exact ⟨rfl, HA.out⟩
    by_cases h100 : s.size ≤ 100
    rotate_left
    · have h100z : (100 : Int) < (s.size : Int) := by omega
      go_wp2_with fail
      go_ret
      exact ⟨rfl, HA.out⟩
    have h100z : ¬ (100 : Int) < (s.size : Int) := by omega
    replace HEV := Lib.hid (HEV.out (by first | trivial | rfl) h100)
    clear h100
    obtain ⟨⟨v0, v1⟩, u0, u1⟩ := HT.out _ (Below.refl _ _)
    go_wp2_with fail
    clear v0 v1 u0 u1
    refine (HFR0.out _ HA.out).mono ?_
    rintro e wn ⟨rfl, hb⟩
    replace HT := Lib.hid (HT.out.on hb)
    replace HA := Lib.hid (HA.out.trans (hb.mono HA.out.size))
    clear hb HFR0 h100z
    cases rt0
    · go_wp2_with fail
      go_ret
      exact ⟨rfl, HA.out⟩
    obtain ⟨⟨v0, v1⟩, u0, u1⟩ := HT.out _ (Below.refl _ _)
    go_wp2_with fail
    clear v0 v1 u0 u1
    refine (HFR1.out _ HA.out).mono ?_
    rintro e wn ⟨rfl, hb⟩
    replace HT := Lib.hid (HT.out.on hb)
    replace HA := Lib.hid (HA.out.trans (hb.mono HA.out.size))
    clear hb HFR1
    cases rt1
    · go_wp2_with fail
      go_ret
      exact ⟨rfl, HA.out⟩
    obtain ⟨cv, m0, m1, nk0, nk1, K⟩ := HCK.out (by first | trivial | rfl) (by first | trivial | rfl)
    have HK := Lib.hid K
    clear K HCK
    obtain ⟨⟨v0, v1⟩, u0, u1⟩ := HT.out _ (Below.refl _ _)
    go_wp2_with fail
    clear v0 v1 u0 u1
    refine (HK.out.cov _ HA.out).mono ?_
    rintro e wn ⟨rfl, hb⟩
    replace HT := Lib.hid (HT.out.on hb)
    replace HA := Lib.hid (HA.out.trans (hb.mono HA.out.size))
    clear hb 
    go_wp2_with fail
    refine (HEV.out _ HA.out).mono ?_
    rintro e wn ⟨bo, bcap, es, rfl, hE⟩
    obtain ⟨hb, hS, h8, hok⟩ := HEB.out _ _ _ _ hE.out
    replace HT := Lib.hid (HT.out.on hb)
    replace HA := Lib.hid (HA.out.trans (hb.mono HA.out.size))
    have HSE := Lib.hid hS
    have HOK := Lib.hid (And.intro h8 hok)
    clear hE hb hS h8 hok HEV HEB
    have hsE : Below wn.heap.size wn (wn.alloc (.cells #[.string sE, .slice bo es.length bcap] 33)) := (Below.refl _ _).alloc (Nat.le_refl _) _
    have HEL : Aside (∀ W, Below (wn.heap.size + 1) (wn.alloc (.cells #[.string sE, .slice bo es.length bcap] 33)) W → (W.cell? ⟨wn.heap.size, 0, none⟩ = some (.string sE) ∧ W.cell? ⟨wn.heap.size, 1, none⟩ = some (.slice bo es.length bcap)) ∧ SliceA W bo es) := fun W hW => ⟨⟨one_lay hW 0 _ rfl, one_lay hW 1 _ rfl⟩, HSE.out.under (hsE.trans (hW.mono (by omega)))⟩
    have HZE : Aside ((wn.alloc (.cells #[.string sE, .slice bo es.length bcap] 33)).heap.size = wn.heap.size + 1) := by simp [Aside]
    replace HT := Lib.hid (HT.out.on hsE)
    replace HA := Lib.hid (HA.out.trans (hsE.mono HA.out.size))
    clear hsE HSE
    go_upto_region 8 with fail
    generalize (wn.alloc (.cells #[.string sE, .slice bo es.length bcap] 33)) = we at *
    generalize wn.heap.size = V at *
    have HX : Aside (∀ W, Below we.heap.size we W → ((W.cell? ⟨A, 0, none⟩ = some (.string sc0) ∧ W.cell? ⟨A, 1, none⟩ = some (.slice co0 n0 cp0)) ∧ W.cell? ⟨B, 0, none⟩ = some (.string sc1) ∧ W.cell? ⟨B, 1, none⟩ = some (.slice co1 n1 cp1)) ∧ ((W.cell? ⟨V, 0, none⟩ = some (.string sE) ∧ W.cell? ⟨V, 1, none⟩ = some (.slice bo es.length bcap)) ∧ SliceA W bo es) ∧ Below w.heap.size w W) := fun W hW => ⟨HT.out W hW, HEL.out W (by rw [← HZE.out]; exact hW), HA.out.trans (hW.mono HA.out.size)⟩
    have HM0 : Aside (∀ W, Below we.heap.size we W → Calls Tryz.prog 23 #[fil sc0 co0 n0 cp0, evt sE bo es.length bcap] W fun e w' => e = .returned (.bool (m0 es)) ∧ Below W.heap.size W w') := fun W hW => HK.out.mat0 bo bcap es W (HX.out W hW).2.1.2 HOK.out.1 HOK.out.2 (HX.out W hW).2.2
    have HM1 : Aside (∀ W, Below we.heap.size we W → Calls Tryz.prog 23 #[fil sc1 co1 n1 cp1, evt sE bo es.length bcap] W fun e w' => e = .returned (.bool (m1 es)) ∧ Below W.heap.size W w') := fun W hW => HK.out.mat1 bo bcap es W (HX.out W hW).2.1.2 HOK.out.1 HOK.out.2 (HX.out W hW).2.2
    have HIM : Aside (cv = true → m1 es = true → m0 es = true) := HK.out.imp es
    clear HEL HZE HOK
    generalize m0 es = q0 at HM0 HIM
    generalize m1 es = q1 at HM1 HIM
    generalize es.length = en at *
    go_cut [77] (fun s77 wy => s77 = .bool false ∧ Aside (Below we.heap.size we wy))
    case first =>
      have TR : ∀ p : BW we, Below we.heap.size we p.W := fun p => p.h
      have KK := fun p : BW we => HX.out p.W p.h
      have x0 : ∀ p : BW we, p.W.cell? ⟨A, 0, none⟩ = some (.string sc0) := fun p => (KK p).1.1.1
      have x1 : ∀ p : BW we, p.W.cell? ⟨A, 1, none⟩ = some (.slice co0 n0 cp0) := fun p => (KK p).1.1.2
      have y0 : ∀ p : BW we, p.W.cell? ⟨B, 0, none⟩ = some (.string sc1) := fun p => (KK p).1.2.1
      have y1 : ∀ p : BW we, p.W.cell? ⟨B, 1, none⟩ = some (.slice co1 n1 cp1) := fun p => (KK p).1.2.2
      have e0 : ∀ p : BW we, p.W.cell? ⟨V, 0, none⟩ = some (.string sE) := fun p => (KK p).2.1.1.1
      have e1 : ∀ p : BW we, p.W.cell? ⟨V, 1, none⟩ = some (.slice bo en bcap) := fun p => (KK p).2.1.1.2
      have h1 : Aside (∀ W, Below we.heap.size we W → Calls Tryz.prog 22 #[fil sc0 co0 n0 cp0, fil sc1 co1 n1 cp1] W fun e w' => e = .returned (.bool cv) ∧ Below W.heap.size W w') := fun W hW => HK.out.rcov W (HX.out W hW).2.2
      have h2 : Aside (∀ W, Below we.heap.size we W → Calls Tryz.prog 20 #[fil sc0 co0 n0 cp0, fil sc0 co0 n0 cp0] W fun e w' => e = .returned (.bool true) ∧ Below W.heap.size W w') := fun W hW => HK.out.self W (HX.out W hW).2.2
      clear HK TR KK x0 x1 y0 y1 e0 e1
      obtain ⟨⟨⟨x0, x1⟩, y0, y1⟩, ⟨⟨e0, e1⟩, _⟩, _⟩ := HX.out we (Below.refl _ _)
      go_wp2_with fail
      clear x0 x1 y0 y1 e0 e1
      refine (h1.out _ (Below.refl _ _)).mono ?_
      rintro e wm ⟨rfl, hb⟩
      have HD := Lib.hid hb
      clear hb h1
      have hcc : (cv == cv) = true := by simp
      cases cv
      · obtain ⟨⟨⟨x0, x1⟩, y0, y1⟩, ⟨⟨e0, e1⟩, _⟩, _⟩ := HX.out _ HD.out
        go_wp2_with fail
        clear x0 x1 y0 y1 e0 e1
        refine (h2.out _ HD.out).mono ?_
        rintro e wn2 ⟨rfl, hb⟩
        have HD2 := Lib.hid (HD.out.trans (hb.mono HD.out.size))
        go_wp2_with fail
        go_meet
        exact ⟨rfl, HD2.out⟩
      · obtain ⟨⟨⟨x0, x1⟩, y0, y1⟩, ⟨⟨e0, e1⟩, _⟩, _⟩ := HX.out _ HD.out
        go_wp2_with fail
        clear x0 x1 y0 y1 e0 e1
        refine (HM1.out _ HD.out).mono ?_
        rintro e wn2 ⟨rfl, hb⟩
        have HD2 := Lib.hid (HD.out.trans (hb.mono HD.out.size))
        clear hb HM1 HD
        cases q1
        · obtain ⟨⟨⟨x0, x1⟩, y0, y1⟩, ⟨⟨e0, e1⟩, _⟩, _⟩ := HX.out _ HD2.out
          go_wp2_with fail
          clear x0 x1 y0 y1 e0 e1
          refine (h2.out _ HD2.out).mono ?_
          rintro e wn3 ⟨rfl, hb⟩
          have HD3 := Lib.hid (HD2.out.trans (hb.mono HD2.out.size))
          go_wp2_with fail
          go_meet
          exact ⟨rfl, HD3.out⟩
        · obtain rfl : q0 = true := HIM.out (by first | trivial | rfl) (by first | trivial | rfl)
          obtain ⟨⟨⟨x0, x1⟩, y0, y1⟩, ⟨⟨e0, e1⟩, _⟩, _⟩ := HX.out _ HD2.out
          go_wp2_with fail
          clear x0 x1 y0 y1 e0 e1
          refine (HM0.out _ HD2.out).mono ?_
          rintro e wn3 ⟨rfl, hb⟩
          have HD3 := Lib.hid (HD2.out.trans (hb.mono HD2.out.size))
          clear hb
          obtain ⟨⟨⟨x0, x1⟩, y0, y1⟩, ⟨⟨e0, e1⟩, _⟩, _⟩ := HX.out _ HD3.out
          go_wp2_with fail
          clear x0 x1 y0 y1 e0 e1
          refine (h2.out _ HD3.out).mono ?_
          rintro e wn4 ⟨rfl, hb⟩
          have HD4 := Lib.hid (HD3.out.trans (hb.mono HD3.out.size))
          go_wp2_with fail
          go_meet
          exact ⟨rfl, HD4.out⟩
    case rest =>
      obtain ⟨rfl, HDy⟩ := hcut
      obtain ⟨wy, rfl⟩ : ∃ wy, wy = wc := ⟨wc, rfl⟩
      have HTY : Aside (Two wy A B sc0 co0 n0 cp0 sc1 co1 n1 cp1) := fun W hW => (HX.out W (HDy.out.trans (hW.mono HDy.out.size))).1
      have HAY := Lib.hid (HX.out _ HDy.out).2.2
      clear HX HM0 HM1 HIM HDy HT HA
      go_upto_region 10 with fail
      go_cut [11, 12] (fun s11 s12 wz => ∃ (C D : Nat) (r0 r1 : Option Addr) (p0 p1 : Nat) (L M : List Cn), s11 = .pointer (some ⟨C, 0, none⟩) ∧ s12 = .pointer (some ⟨D, 0, none⟩) ∧ Aside (nk0 L ∧ nk1 M ∧ NN wy wz C D sc0 r0 p0 L sc1 r1 p1 M))
      case first =>
        have N79 : Aside (∀ W, Below wy.heap.size wy W → Calls Tryz.prog 24 #[fil sc0 co0 n0 cp0] W fun e w' => ∃ ro rcap, ∃ L : List Cn, e = .returned (fil sc0 ro L.length rcap) ∧ Aside (nk0 L ∧ CondsB w'.heap.size w' ro L ∧ Below W.heap.size W w')) := fun W hW => HK.out.nor0 W (HAY.out.trans (hW.mono HAY.out.size))
        have N81 : Aside (∀ W, Below wy.heap.size wy W → Calls Tryz.prog 24 #[fil sc1 co1 n1 cp1] W fun e w' => ∃ ro rcap, ∃ L : List Cn, e = .returned (fil sc1 ro L.length rcap) ∧ Aside (nk1 L ∧ CondsB w'.heap.size w' ro L ∧ Below W.heap.size W w')) := fun W hW => HK.out.nor1 W (HAY.out.trans (hW.mono HAY.out.size))
        have HTR : Aside (∀ W W', Below wy.heap.size wy W → Below W.heap.size W W' → Below wy.heap.size wy W') := fun W W' h h2 => h.trans (h2.mono h.size)
        have KP : Aside (∀ W, Below wy.heap.size wy W → Below wy.heap.size wy W ∧ W.cell? ⟨A, 0, none⟩ = some (.string sc0) ∧ W.cell? ⟨A, 1, none⟩ = some (.slice co0 n0 cp0) ∧ W.cell? ⟨B, 0, none⟩ = some (.string sc1) ∧ W.cell? ⟨B, 1, none⟩ = some (.slice co1 n1 cp1)) := fun W hW => ⟨hW, (HTY.out W hW).1.1, (HTY.out W hW).1.2, (HTY.out W hW).2.1, (HTY.out W hW).2.2⟩
        have D0 : Aside (Below wy.heap.size wy (wy.drew)) := below_drew1 _
        have D1 : Aside (Below wy.heap.size wy ((wy.alloc (.cells #[.string ⟨#[]⟩, .slice none 0 0] 42)).drew)) := ((Below.refl _ _).alloc' _).trans (below_drew1 _)
        have D2 : Aside (Below wy.heap.size wy (((wy.alloc (.cells #[.string ⟨#[]⟩, .slice none 0 0] 42)).alloc (.cells #[.string ⟨#[]⟩, .slice none 0 0] 42)).drew)) := (((Below.refl _ _).alloc' _).alloc' _).trans (below_drew1 _)
        have E1_0 : Aside (((wy.alloc (.cells #[.string ⟨#[]⟩, .slice none 0 0] 42)).drew).heap[wy.heap.size]? = some (.cells #[.string ⟨#[]⟩, .slice none 0 0] 42)) := heap_new wy _
        have E2_0 : Aside ((((wy.alloc (.cells #[.string ⟨#[]⟩, .slice none 0 0] 42)).alloc (.cells #[.string ⟨#[]⟩, .slice none 0 0] 42)).drew).heap[wy.heap.size]? = some (.cells #[.string ⟨#[]⟩, .slice none 0 0] 42)) := heap_keep (((Below.refl _ _).alloc' _).trans (below_drew1 _)) (heap_new wy (.cells #[.string ⟨#[]⟩, .slice none 0 0] 42))
        have E2_1 : Aside ((((wy.alloc (.cells #[.string ⟨#[]⟩, .slice none 0 0] 42)).alloc (.cells #[.string ⟨#[]⟩, .slice none 0 0] 42)).drew).heap[wy.heap.size + 1]? = some (.cells #[.string ⟨#[]⟩, .slice none 0 0] 42)) := by have := heap_new (wy.alloc (.cells #[.string ⟨#[]⟩, .slice none 0 0] 42)) (.cells #[.string ⟨#[]⟩, .slice none 0 0] 42); rw [World.size_alloc] at this; exact this
        have F1_0 : Aside (∀ w1 : World, (w1.alloc (.cells #[.string ⟨#[]⟩, .slice none 0 0] 42)).heap[w1.heap.size]? = some (.cells #[.string ⟨#[]⟩, .slice none 0 0] 42)) := fun w1 => heap_new w1 _
        have F2_0 : Aside (∀ w1 : World, ((w1.alloc (.cells #[.string ⟨#[]⟩, .slice none 0 0] 42)).alloc (.cells #[.string ⟨#[]⟩, .slice none 0 0] 42)).heap[w1.heap.size]? = some (.cells #[.string ⟨#[]⟩, .slice none 0 0] 42)) := fun w1 => heap_keep ((Below.refl _ _).alloc' _) (heap_new w1 (.cells #[.string ⟨#[]⟩, .slice none 0 0] 42))
        have F2_1 : Aside (∀ w1 : World, ((w1.alloc (.cells #[.string ⟨#[]⟩, .slice none 0 0] 42)).alloc (.cells #[.string ⟨#[]⟩, .slice none 0 0] 42)).heap[w1.heap.size + 1]? = some (.cells #[.string ⟨#[]⟩, .slice none 0 0] 42)) := fun w1 => by have := heap_new (w1.alloc (.cells #[.string ⟨#[]⟩, .slice none 0 0] 42)) (.cells #[.string ⟨#[]⟩, .slice none 0 0] 42); rw [World.size_alloc] at this; exact this
        clear HTY HAY HK
        go_region_held3 (fun W => Below wy.heap.size wy W ∧ W.cell? ⟨A, 0, none⟩ = some (.string sc0) ∧ W.cell? ⟨A, 1, none⟩ = some (.slice co0 n0 cp0) ∧ W.cell? ⟨B, 0, none⟩ = some (.string sc1) ∧ W.cell? ⟨B, 1, none⟩ = some (.slice co1 n1 cp1))
          (first | exact KP.out _ HX2.out | exact KP.out _ HX1.out | exact KP.out _ D0.out | exact KP.out _ D1.out | exact KP.out _ D2.out | exact KP.out _ (HX2.out.alloc' _) | exact KP.out _ ((HX2.out.alloc' _).alloc' _) | exact KP.out _ (HX1.out.alloc' _) | exact KP.out _ ((HX1.out.alloc' _).alloc' _) | exact KP.out _ (bput HX2.out (by omega)) | exact KP.out _ ((bput HX2.out (by omega)).alloc' _) | exact KP.out _ (bput (bput HX2.out (by omega)) (by omega)) | exact KP.out _ (bput (HX2.out.alloc' _) (by omega)) | exact KP.out _ (bput (bput (HX2.out.alloc' _) (by omega)) (by omega)))
          (first
            | (go_at_call 24; (with_reducible refine (N79.out _ D0.out).mono ?_); rintro e w1 ⟨r0, p0, L, rfl, hx1⟩; have HX1 : Aside (Below wy.heap.size wy w1) := HTR.out _ _ D0.out hx1.out.2.2; have zz1 : wy.heap.size ≤ w1.heap.size := HX1.out.size; have HN1 : Aside (nk0 L ∧ CondsB w1.heap.size w1 r0 L) := ⟨hx1.out.1, hx1.out.2.1⟩; have TAG0 : Aside True := trivial; clear hx1)
            | (go_at_call 24; (with_reducible refine (N79.out _ D1.out).mono ?_); rintro e w1 ⟨r0, p0, L, rfl, hx1⟩; have HX1 : Aside (Below wy.heap.size wy w1) := HTR.out _ _ D1.out hx1.out.2.2; have zz1 : wy.heap.size ≤ w1.heap.size := HX1.out.size; have HN1 : Aside (nk0 L ∧ CondsB w1.heap.size w1 r0 L) := ⟨hx1.out.1, hx1.out.2.1⟩; have TAG1 : Aside True := trivial; have EP0 : Aside (w1.heap[wy.heap.size]? = some (.cells #[.string ⟨#[]⟩, .slice none 0 0] 42)) := heap_keep hx1.out.2.2 E1_0.out; clear hx1)
            | (go_at_call 24; (with_reducible refine (N79.out _ D2.out).mono ?_); rintro e w1 ⟨r0, p0, L, rfl, hx1⟩; have HX1 : Aside (Below wy.heap.size wy w1) := HTR.out _ _ D2.out hx1.out.2.2; have zz1 : wy.heap.size ≤ w1.heap.size := HX1.out.size; have HN1 : Aside (nk0 L ∧ CondsB w1.heap.size w1 r0 L) := ⟨hx1.out.1, hx1.out.2.1⟩; have TAG2 : Aside True := trivial; have EP0 : Aside (w1.heap[wy.heap.size]? = some (.cells #[.string ⟨#[]⟩, .slice none 0 0] 42)) := heap_keep hx1.out.2.2 E2_0.out; have EP1 : Aside (w1.heap[wy.heap.size + 1]? = some (.cells #[.string ⟨#[]⟩, .slice none 0 0] 42)) := heap_keep hx1.out.2.2 E2_1.out; clear hx1)
            | (go_at_call 24; have _tg := TAG0; (with_reducible refine (N81.out _ HX1.out).mono ?_); rintro e w2 ⟨r1, p1, M, rfl, hx2⟩; have HX2 : Aside (Below wy.heap.size wy w2) := HTR.out _ _ HX1.out hx2.out.2.2; have zz2 : wy.heap.size ≤ w2.heap.size := HX2.out.size; have B12 : Aside (Below w1.heap.size w1 w2) := (show Below w1.heap.size w1 _ from (Below.refl _ _)).trans (hx2.out.2.2.mono (by first | exact Nat.le_refl _ | (simp only [World.size_alloc]; omega))); have HN2 : Aside (nk1 M ∧ CondsB w2.heap.size w2 r1 M ∧ CondsB w2.heap.size w2 r0 L) := ⟨hx2.out.1, hx2.out.2.1, HN1.out.2.on B12.out⟩; clear hx2)
            | (go_at_call 24; have _tg := TAG0; (with_reducible refine (N81.out _ (HX1.out.alloc' (.cells #[.string ⟨#[]⟩, .slice none 0 0] 42))).mono ?_); rintro e w2 ⟨r1, p1, M, rfl, hx2⟩; have HX2 : Aside (Below wy.heap.size wy w2) := HTR.out _ _ (HX1.out.alloc' (.cells #[.string ⟨#[]⟩, .slice none 0 0] 42)) hx2.out.2.2; have zz2 : wy.heap.size ≤ w2.heap.size := HX2.out.size; have B12 : Aside (Below w1.heap.size w1 w2) := (show Below w1.heap.size w1 _ from ((Below.refl _ _).alloc' _)).trans (hx2.out.2.2.mono (by first | exact Nat.le_refl _ | (simp only [World.size_alloc]; omega))); have HN2 : Aside (nk1 M ∧ CondsB w2.heap.size w2 r1 M ∧ CondsB w2.heap.size w2 r0 L) := ⟨hx2.out.1, hx2.out.2.1, HN1.out.2.on B12.out⟩; have HO1 : Aside (w2.heap[w1.heap.size]? = some (.cells #[.string ⟨#[]⟩, .slice none 0 0] 42)) := heap_keep hx2.out.2.2 (F1_0.out w1); obtain ⟨oa1, ob1, oc1, od1⟩ := zfacts HO1.out; have ol1 := heap_lt HO1.out; have oe1 : (w1.heap.size = w2.heap.size) = False := eq_false (by omega); have of1 : (w2.heap.size = w1.heap.size) = False := eq_false (by omega); have og1 := fun o => (zfacts (zalloc HO1.out o)).1; have oh1 := fun o => (zfacts (zalloc HO1.out o)).2.1; have oi1 := fun o => (zfacts (zalloc HO1.out o)).2.2.1; have oj1 := fun o => (zfacts (zalloc HO1.out o)).2.2.2; clear hx2)
            | (go_at_call 24; have _tg := TAG0; (with_reducible refine (N81.out _ ((HX1.out.alloc' (.cells #[.string ⟨#[]⟩, .slice none 0 0] 42)).alloc' (.cells #[.string ⟨#[]⟩, .slice none 0 0] 42))).mono ?_); rintro e w2 ⟨r1, p1, M, rfl, hx2⟩; have HX2 : Aside (Below wy.heap.size wy w2) := HTR.out _ _ ((HX1.out.alloc' (.cells #[.string ⟨#[]⟩, .slice none 0 0] 42)).alloc' (.cells #[.string ⟨#[]⟩, .slice none 0 0] 42)) hx2.out.2.2; have zz2 : wy.heap.size ≤ w2.heap.size := HX2.out.size; have B12 : Aside (Below w1.heap.size w1 w2) := (show Below w1.heap.size w1 _ from (((Below.refl _ _).alloc' _).alloc' _)).trans (hx2.out.2.2.mono (by first | exact Nat.le_refl _ | (simp only [World.size_alloc]; omega))); have HN2 : Aside (nk1 M ∧ CondsB w2.heap.size w2 r1 M ∧ CondsB w2.heap.size w2 r0 L) := ⟨hx2.out.1, hx2.out.2.1, HN1.out.2.on B12.out⟩; have HO1 : Aside (w2.heap[w1.heap.size]? = some (.cells #[.string ⟨#[]⟩, .slice none 0 0] 42)) := heap_keep hx2.out.2.2 (F2_0.out w1); obtain ⟨oa1, ob1, oc1, od1⟩ := zfacts HO1.out; have ol1 := heap_lt HO1.out; have oe1 : (w1.heap.size = w2.heap.size) = False := eq_false (by omega); have of1 : (w2.heap.size = w1.heap.size) = False := eq_false (by omega); have og1 := fun o => (zfacts (zalloc HO1.out o)).1; have oh1 := fun o => (zfacts (zalloc HO1.out o)).2.1; have oi1 := fun o => (zfacts (zalloc HO1.out o)).2.2.1; have oj1 := fun o => (zfacts (zalloc HO1.out o)).2.2.2; have HO2 : Aside (w2.heap[w1.heap.size + 1]? = some (.cells #[.string ⟨#[]⟩, .slice none 0 0] 42)) := heap_keep hx2.out.2.2 (F2_1.out w1); obtain ⟨oa2, ob2, oc2, od2⟩ := zfacts HO2.out; have ol2 := heap_lt HO2.out; have oe2 : (w1.heap.size + 1 = w2.heap.size) = False := eq_false (by omega); have of2 : (w2.heap.size = w1.heap.size + 1) = False := eq_false (by omega); have og2 := fun o => (zfacts (zalloc HO2.out o)).1; have oh2 := fun o => (zfacts (zalloc HO2.out o)).2.1; have oi2 := fun o => (zfacts (zalloc HO2.out o)).2.2.1; have oj2 := fun o => (zfacts (zalloc HO2.out o)).2.2.2; clear hx2)
            | (go_at_call 24; have _tg := TAG1; have ol0 := heap_lt EP0.out; (with_reducible refine (N81.out _ HX1.out).mono ?_); rintro e w2 ⟨r1, p1, M, rfl, hx2⟩; have HX2 : Aside (Below wy.heap.size wy w2) := HTR.out _ _ HX1.out hx2.out.2.2; have zz2 : wy.heap.size ≤ w2.heap.size := HX2.out.size; have B12 : Aside (Below w1.heap.size w1 w2) := (show Below w1.heap.size w1 _ from (Below.refl _ _)).trans (hx2.out.2.2.mono (by first | exact Nat.le_refl _ | (simp only [World.size_alloc]; omega))); have HN2 : Aside (nk1 M ∧ CondsB w2.heap.size w2 r1 M ∧ CondsB w2.heap.size w2 r0 L) := ⟨hx2.out.1, hx2.out.2.1, HN1.out.2.on B12.out⟩; have HO1 : Aside (w2.heap[wy.heap.size]? = some (.cells #[.string ⟨#[]⟩, .slice none 0 0] 42)) := heap_keep B12.out EP0.out; obtain ⟨oa1, ob1, oc1, od1⟩ := zfacts HO1.out; have ol1 := heap_lt HO1.out; have oe1 : (wy.heap.size = w2.heap.size) = False := eq_false (by omega); have of1 : (w2.heap.size = wy.heap.size) = False := eq_false (by omega); have og1 := fun o => (zfacts (zalloc HO1.out o)).1; have oh1 := fun o => (zfacts (zalloc HO1.out o)).2.1; have oi1 := fun o => (zfacts (zalloc HO1.out o)).2.2.1; have oj1 := fun o => (zfacts (zalloc HO1.out o)).2.2.2; clear hx2)
            | (go_at_call 24; have _tg := TAG1; have ol0 := heap_lt EP0.out; (with_reducible refine (N81.out _ (HX1.out.alloc' (.cells #[.string ⟨#[]⟩, .slice none 0 0] 42))).mono ?_); rintro e w2 ⟨r1, p1, M, rfl, hx2⟩; have HX2 : Aside (Below wy.heap.size wy w2) := HTR.out _ _ (HX1.out.alloc' (.cells #[.string ⟨#[]⟩, .slice none 0 0] 42)) hx2.out.2.2; have zz2 : wy.heap.size ≤ w2.heap.size := HX2.out.size; have B12 : Aside (Below w1.heap.size w1 w2) := (show Below w1.heap.size w1 _ from ((Below.refl _ _).alloc' _)).trans (hx2.out.2.2.mono (by first | exact Nat.le_refl _ | (simp only [World.size_alloc]; omega))); have HN2 : Aside (nk1 M ∧ CondsB w2.heap.size w2 r1 M ∧ CondsB w2.heap.size w2 r0 L) := ⟨hx2.out.1, hx2.out.2.1, HN1.out.2.on B12.out⟩; have HO1 : Aside (w2.heap[wy.heap.size]? = some (.cells #[.string ⟨#[]⟩, .slice none 0 0] 42)) := heap_keep B12.out EP0.out; obtain ⟨oa1, ob1, oc1, od1⟩ := zfacts HO1.out; have ol1 := heap_lt HO1.out; have oe1 : (wy.heap.size = w2.heap.size) = False := eq_false (by omega); have of1 : (w2.heap.size = wy.heap.size) = False := eq_false (by omega); have og1 := fun o => (zfacts (zalloc HO1.out o)).1; have oh1 := fun o => (zfacts (zalloc HO1.out o)).2.1; have oi1 := fun o => (zfacts (zalloc HO1.out o)).2.2.1; have oj1 := fun o => (zfacts (zalloc HO1.out o)).2.2.2; have HO2 : Aside (w2.heap[w1.heap.size]? = some (.cells #[.string ⟨#[]⟩, .slice none 0 0] 42)) := heap_keep hx2.out.2.2 (F1_0.out w1); obtain ⟨oa2, ob2, oc2, od2⟩ := zfacts HO2.out; have ol2 := heap_lt HO2.out; have oe2 : (w1.heap.size = w2.heap.size) = False := eq_false (by omega); have of2 : (w2.heap.size = w1.heap.size) = False := eq_false (by omega); have og2 := fun o => (zfacts (zalloc HO2.out o)).1; have oh2 := fun o => (zfacts (zalloc HO2.out o)).2.1; have oi2 := fun o => (zfacts (zalloc HO2.out o)).2.2.1; have oj2 := fun o => (zfacts (zalloc HO2.out o)).2.2.2; have on1 : (wy.heap.size = w1.heap.size) = False := eq_false (by have := heap_lt EP0.out; omega); have on2 : (w1.heap.size = wy.heap.size) = False := eq_false (by have := heap_lt EP0.out; omega); clear hx2)
            | (go_at_call 24; have _tg := TAG2; (with_reducible refine (N81.out _ HX1.out).mono ?_); rintro e w2 ⟨r1, p1, M, rfl, hx2⟩; have HX2 : Aside (Below wy.heap.size wy w2) := HTR.out _ _ HX1.out hx2.out.2.2; have zz2 : wy.heap.size ≤ w2.heap.size := HX2.out.size; have B12 : Aside (Below w1.heap.size w1 w2) := (show Below w1.heap.size w1 _ from (Below.refl _ _)).trans (hx2.out.2.2.mono (by first | exact Nat.le_refl _ | (simp only [World.size_alloc]; omega))); have HN2 : Aside (nk1 M ∧ CondsB w2.heap.size w2 r1 M ∧ CondsB w2.heap.size w2 r0 L) := ⟨hx2.out.1, hx2.out.2.1, HN1.out.2.on B12.out⟩; have HO1 : Aside (w2.heap[wy.heap.size]? = some (.cells #[.string ⟨#[]⟩, .slice none 0 0] 42)) := heap_keep B12.out EP0.out; obtain ⟨oa1, ob1, oc1, od1⟩ := zfacts HO1.out; have ol1 := heap_lt HO1.out; have oe1 : (wy.heap.size = w2.heap.size) = False := eq_false (by omega); have of1 : (w2.heap.size = wy.heap.size) = False := eq_false (by omega); have og1 := fun o => (zfacts (zalloc HO1.out o)).1; have oh1 := fun o => (zfacts (zalloc HO1.out o)).2.1; have oi1 := fun o => (zfacts (zalloc HO1.out o)).2.2.1; have oj1 := fun o => (zfacts (zalloc HO1.out o)).2.2.2; have HO2 : Aside (w2.heap[wy.heap.size + 1]? = some (.cells #[.string ⟨#[]⟩, .slice none 0 0] 42)) := heap_keep B12.out EP1.out; obtain ⟨oa2, ob2, oc2, od2⟩ := zfacts HO2.out; have ol2 := heap_lt HO2.out; have oe2 : (wy.heap.size + 1 = w2.heap.size) = False := eq_false (by omega); have of2 : (w2.heap.size = wy.heap.size + 1) = False := eq_false (by omega); have og2 := fun o => (zfacts (zalloc HO2.out o)).1; have oh2 := fun o => (zfacts (zalloc HO2.out o)).2.1; have oi2 := fun o => (zfacts (zalloc HO2.out o)).2.2.1; have oj2 := fun o => (zfacts (zalloc HO2.out o)).2.2.2; clear hx2))
        all_goals
          go_wp2_with fail
          go_meet
          refine ⟨_, _, r0, r1, p0, p1, L, M, rfl, rfl, HN1.out.1, HN2.out.1, ?_⟩
          first
          | with_reducible exact (nn_putA HX2.out HO1.out (by omega) HN2.out.2.2 HN2.out.2.1).1
          | with_reducible exact (nn_putA HX2.out HO1.out (by omega) HN2.out.2.2 HN2.out.2.1).2
          | with_reducible exact (nn_put0 HX2.out HN2.out.2.2 HN2.out.2.1).1
          | with_reducible exact (nn_put0 HX2.out HN2.out.2.2 HN2.out.2.1).2
          | with_reducible exact nn_put1 HX2.out HO1.out (by omega) HN2.out.2.2 HN2.out.2.1
          | with_reducible exact nn_put2 (HX2.out.alloc' _) (zalloc HO1.out _) (heap_new w2 _) (by omega) (by omega) (by omega) (HN2.out.2.2.on ((Below.refl _ _).alloc' _)) (HN2.out.2.1.on ((Below.refl _ _).alloc' _))
          | with_reducible exact nn_put2 HX2.out HO1.out HO2.out (by omega) (by omega) (by omega) HN2.out.2.2 HN2.out.2.1
          | with_reducible exact nn_put2 HX2.out HO2.out HO1.out (by omega) (by omega) (by omega) HN2.out.2.2 HN2.out.2.1
      case rest =>
        obtain ⟨wz, rfl⟩ : ∃ wz, wz = wc := ⟨wc, rfl⟩
        obtain ⟨C, D, r0, r1, p0, p1, L, M, rfl, rfl, H0⟩ := hcut
        have H : Aside (Below wy.heap.size wy wz ∧ Two wz C D sc0 r0 L.length p0 sc1 r1 M.length p1 ∧ nk0 L ∧ nk1 M ∧ CondsB wz.heap.size wz r0 L ∧ CondsB wz.heap.size wz r1 M) := ⟨H0.out.2.2.1, H0.out.2.2.2.1, H0.out.1, H0.out.2.1, H0.out.2.2.2.2.1, H0.out.2.2.2.2.2⟩
        clear H0
        have HX : Aside (∀ W, Below wz.heap.size wz W → ((W.cell? ⟨A, 0, none⟩ = some (.string sc0) ∧ W.cell? ⟨A, 1, none⟩ = some (.slice co0 n0 cp0)) ∧ W.cell? ⟨B, 0, none⟩ = some (.string sc1) ∧ W.cell? ⟨B, 1, none⟩ = some (.slice co1 n1 cp1)) ∧ ((W.cell? ⟨C, 0, none⟩ = some (.string sc0) ∧ W.cell? ⟨C, 1, none⟩ = some (.slice r0 L.length p0)) ∧ W.cell? ⟨D, 0, none⟩ = some (.string sc1) ∧ W.cell? ⟨D, 1, none⟩ = some (.slice r1 M.length p1)) ∧ Below w.heap.size w W) := fun W hW =>
          ⟨HTY.out W (H.out.1.trans (hW.mono H.out.1.size)), H.out.2.1 W hW, HAY.out.trans ((H.out.1.trans (hW.mono H.out.1.size)).mono HAY.out.size)⟩
        have h1 : Aside (∀ W, Below wz.heap.size wz W → Calls Tryz.prog 20 #[fil sc0 r0 L.length p0, fil sc0 co0 n0 cp0] W fun e w' => e = .returned (.bool true) ∧ Below W.heap.size W w') := fun W hW => HK.out.cnf L r0 p0 W H.out.2.2.1 (H.out.2.2.2.2.1.on hW) (HX.out W hW).2.2
        have h2 : Aside (∀ W, Below wz.heap.size wz W → Calls Tryz.prog 20 #[fil sc0 co0 n0 cp0, fil sc0 r0 L.length p0] W fun e w' => e = .returned (.bool true) ∧ Below W.heap.size W w') := fun W hW => HK.out.cfn L r0 p0 W H.out.2.2.1 (H.out.2.2.2.2.1.on hW) (HX.out W hW).2.2
        have h3 : Aside (∀ W, Below wz.heap.size wz W → Calls Tryz.prog 20 #[fil sc0 r0 L.length p0, fil sc1 r1 M.length p1] W fun e w' => e = .returned (.bool cv) ∧ Below W.heap.size W w') := fun W hW => HK.out.cnm L r0 p0 M r1 p1 W H.out.2.2.1 H.out.2.2.2.1 (H.out.2.2.2.2.1.on hW) (H.out.2.2.2.2.2.on hW)
        clear HK H HTY HAY
        have hcc : (cv == cv) = true := by simp
        generalize L.length = ln at *
        generalize M.length = mn at *
        obtain ⟨⟨⟨x0, x1⟩, y0, y1⟩, ⟨⟨z0, z1'⟩, t0, t1⟩, _⟩ := HX.out _ (Below.refl _ _)
        go_wp2_with fail
        clear x0 x1 y0 y1 z0 z1' t0 t1
        refine (h1.out _ (Below.refl _ _)).mono ?_
        rintro e wn1 ⟨rfl, hb⟩
        have HD1 := Lib.hid hb
        clear hb h1
        obtain ⟨⟨⟨x0, x1⟩, y0, y1⟩, ⟨⟨z0, z1'⟩, t0, t1⟩, _⟩ := HX.out _ HD1.out
        go_wp2_with fail
        clear x0 x1 y0 y1 z0 z1' t0 t1
        refine (h2.out _ HD1.out).mono ?_
        rintro e wn2 ⟨rfl, hb⟩
        have HD2 := Lib.hid (HD1.out.trans (hb.mono HD1.out.size))
        clear hb h2
        obtain ⟨⟨⟨x0, x1⟩, y0, y1⟩, ⟨⟨z0, z1'⟩, t0, t1⟩, _⟩ := HX.out _ HD2.out
        go_wp2_with fail
        clear x0 x1 y0 y1 z0 z1' t0 t1
        refine (h3.out _ HD2.out).mono ?_
        rintro e wn3 ⟨rfl, hb⟩
        have HD3 := Lib.hid (HD2.out.trans (hb.mono HD2.out.size))
        clear hb h3
        go_wp2_with fail
        go_ret
        exact ⟨by first | rfl | (rw [hcc]) | simp, (HX.out _ HD3.out).2.2⟩
end Go.Proofs.YtcbccioibpjkgaaGreatDoor
