/- The order in which a filter's conditions are kept: filter.ordered$1, and slices.SortStableFunc by it. -/
import Derived.Test.YtfffmndjgjfflaaGreatDoorFilS
import Derived.Test.YtfffmndjgjfflaaGreatDoorGaG
import Derived.Test.YtfffmndjgjfflaaGreatDoorPrintZ
import Derived.Test.YtfffmndjgjfflaaGreatDoorNormP
namespace Go.Proofs.YtfffmndjgjfflaaGreatDoor
open Go.Shelf Go.RowKit Go.Lib Go.Sort
open Go.Proofs
set_option maxRecDepth 100000

/-- A condition's text. -/
def TX (c : Cn) : ByteArray := cprintS c.a.nm c.op.toNat (printT c.a.k c.a.n c.a.x c.a.s c.a.y)
/-- Few letters, numbers that are numbers: it has a text. -/
def PrOk (c : Cn) : Prop := (0 ≤ c.op ∧ c.op < 8) ∧ c.a.nm.size ≤ 1000 ∧ c.a.s.size ≤ 1000 ∧ c.a.x < 18446744073709551616 ∧ -9223372036854775808 ≤ c.a.n ∧ c.a.n ≤ 9223372036854775807
theorem cprintX_c (c : Cn) (h : PrOk c) (w : World) (hw : Wds w) (hT : Tabs w) : Calls Tryz.prog 19 #[cndC c] w fun e w' => e = .returned (.string (TX c)) ∧ Below w.heap.size w w' := by
  obtain ⟨⟨nm, k, n, x, s, y⟩, op⟩ := c
  obtain ⟨⟨h0, h1⟩, h2, h3, h4, h5, h6⟩ := h
  simp only at h0 h1 h2 h3 h4 h5 h6
  obtain ⟨i, rfl⟩ : ∃ i : Nat, op = (i : Int) := ⟨op.toNat, by omega⟩
  have hg := globals_lt hT
  have hz := printT_size k n x s y h5 h6
  exact cprint_c nm i k n x s y (printT k n x s y) h2 (by omega) (by omega) w hw fun W hW => print_c k n x s y h4 h5 h6 (by omega) W (hT.on hW) (Nat.lt_of_lt_of_le hg hW.size)

def keyX (c : Cn) : List UInt8 := (TX c).data.toList
def cfX (a b : Cn) : Int := Lib.compareBytes (keyX a) (keyX b)
theorem cfX_lt (x y : Cn) : ltOf cfX x y = ltKey keyX x y := by
  unfold ltOf cfX ltKey ltStr
  rw [Bool.eq_iff_iff]
  simp [compareBytes_lt]

set_option maxHeartbeats 4000000 in
theorem byText_c (p q : Cn) (hp : PrOk p) (hq : PrOk q) (w : World) (hw : Wds w) (hT : Tabs w) : Calls Tryz.prog 39 #[.agg (encC p).toArray, .agg (encC q).toArray] w fun e w' => e = .returned (.int .i64 (cfX p q)) ∧ Below w.heap.size w w' := by
  have HP : Aside (∀ W, Below w.heap.size w W → Calls Tryz.prog 19 #[cndC p] W fun e w' => e = .returned (.string (TX p)) ∧ Below W.heap.size W w') := fun W hW => cprintX_c p hp W (hw.on hW) (hT.on hW)
  have HQ : Aside (∀ W, Below w.heap.size w W → Calls Tryz.prog 19 #[cndC q] W fun e w' => e = .returned (.string (TX q)) ∧ Below W.heap.size W w') := fun W hW => cprintX_c q hq W (hw.on hW) (hT.on hW)
  have HC := Lib.hid (fun W => Tryz.strings_Compare (TX p) (TX q) W)
  unfold cfX keyX
  generalize Lib.compareBytes (TX p).data.toList (TX q).data.toList = r at HC ⊢
  generalize TX p = tp at *
  generalize TX q = tq at *
  clear hp hq hw hT
  obtain ⟨⟨nm, k, n, x, s, y⟩, op⟩ := p
  obtain ⟨⟨nm2, k2, n2, x2, s2, y2⟩, op2⟩ := q
  show Calls Tryz.prog 39 #[cnd nm op k n x s y, cnd nm2 op2 k2 n2 x2 s2 y2] w _
  unfold cndC at HP HQ
  simp only at HP HQ
  have BR : Below (w.heap.size + 2) ((w.alloc (.cells (cnds nm op k n x s y) 31)).alloc (.cells (cnds nm2 op2 k2 n2 x2 s2 y2) 31)) ((w.alloc (.cells (cnds nm op k n x s y) 31)).alloc (.cells (cnds nm2 op2 k2 n2 x2 s2 y2) 31)) := Below.refl _ _
  have HKP : Aside (∀ W, Below (w.heap.size + 2) ((w.alloc (.cells (cnds nm op k n x s y) 31)).alloc (.cells (cnds nm2 op2 k2 n2 x2 s2 y2) 31)) W → (∀ i v, (cnds nm op k n x s y)[i]? = some v → W.cell? ⟨w.heap.size, i, none⟩ = some v) ∧ (∀ i v, (cnds nm2 op2 k2 n2 x2 s2 y2)[i]? = some v → W.cell? ⟨w.heap.size + 1, i, none⟩ = some v)) := fun W hW => two_lay hW
  have HB0 : Aside (Below w.heap.size w ((w.alloc (.cells (cnds nm op k n x s y) 31)).alloc (.cells (cnds nm2 op2 k2 n2 x2 s2 y2) 31))) := ((Below.refl _ _).alloc (Nat.le_refl _) _).alloc (by simp) _
  have z2 : ((w.alloc (.cells (cnds nm op k n x s y) 31)).alloc (.cells (cnds nm2 op2 k2 n2 x2 s2 y2) 31)).heap.size = w.heap.size + 2 := by simp
  have HZ := Lib.hid z2
  clear BR z2
  go_enter Tryz.func39, Tryz.ntmps39
  go_upto_region 1 with fail
  generalize (w.alloc (.cells (cnds nm op k n x s y) 31)).alloc (.cells (cnds nm2 op2 k2 n2 x2 s2 y2) 31) = w0 at *
  have HB1 : Aside (∀ p : BW w0, Below w.heap.size w p.W) := fun p => HB0.out.trans (p.h.mono (by have := HZ.out; omega))
  have KK := fun p : BW w0 => HKP.out p.W (by have := HZ.out; rw [← this]; exact p.h)
  have a0 : ∀ p : BW w0, p.W.cell? ⟨w.heap.size, 0, none⟩ = some (.string nm) := fun p => (KK p).1 0 _ rfl
  have a1 : ∀ p : BW w0, p.W.cell? ⟨w.heap.size, 1, none⟩ = some (.int .i64 op) := fun p => (KK p).1 1 _ rfl
  have a2 : ∀ p : BW w0, p.W.cell? ⟨w.heap.size, 2, none⟩ = some (.int .i64 k) := fun p => (KK p).1 2 _ rfl
  have a3 : ∀ p : BW w0, p.W.cell? ⟨w.heap.size, 3, none⟩ = some (.int .i64 n) := fun p => (KK p).1 3 _ rfl
  have a4 : ∀ p : BW w0, p.W.cell? ⟨w.heap.size, 4, none⟩ = some (.float .f64 x) := fun p => (KK p).1 4 _ rfl
  have a5 : ∀ p : BW w0, p.W.cell? ⟨w.heap.size, 5, none⟩ = some (.string s) := fun p => (KK p).1 5 _ rfl
  have a6 : ∀ p : BW w0, p.W.cell? ⟨w.heap.size, 6, none⟩ = some (.bool y) := fun p => (KK p).1 6 _ rfl
  have b0 : ∀ p : BW w0, p.W.cell? ⟨w.heap.size + 1, 0, none⟩ = some (.string nm2) := fun p => (KK p).2 0 _ rfl
  have b1 : ∀ p : BW w0, p.W.cell? ⟨w.heap.size + 1, 1, none⟩ = some (.int .i64 op2) := fun p => (KK p).2 1 _ rfl
  have b2 : ∀ p : BW w0, p.W.cell? ⟨w.heap.size + 1, 2, none⟩ = some (.int .i64 k2) := fun p => (KK p).2 2 _ rfl
  have b3 : ∀ p : BW w0, p.W.cell? ⟨w.heap.size + 1, 3, none⟩ = some (.int .i64 n2) := fun p => (KK p).2 3 _ rfl
  have b4 : ∀ p : BW w0, p.W.cell? ⟨w.heap.size + 1, 4, none⟩ = some (.float .f64 x2) := fun p => (KK p).2 4 _ rfl
  have b5 : ∀ p : BW w0, p.W.cell? ⟨w.heap.size + 1, 5, none⟩ = some (.string s2) := fun p => (KK p).2 5 _ rfl
  have b6 : ∀ p : BW w0, p.W.cell? ⟨w.heap.size + 1, 6, none⟩ = some (.bool y2) := fun p => (KK p).2 6 _ rfl
  have h1 : ∀ p : BW w0, Calls Tryz.prog 19 #[cnd nm op k n x s y] p.W fun e w'' => e = .returned (.string tp) ∧ ∃ q : BW w0, w'' = q.W := fun p => (HP.out p.W (HB1.out p)).mono fun _ _ q => ⟨q.1, ⟨⟨_, p.h.trans (q.2.mono p.h.size)⟩, rfl⟩⟩
  have h2 : ∀ p : BW w0, Calls Tryz.prog 19 #[cnd nm2 op2 k2 n2 x2 s2 y2] p.W fun e w'' => e = .returned (.string tq) ∧ ∃ q : BW w0, w'' = q.W := fun p => (HQ.out p.W (HB1.out p)).mono fun _ _ q => ⟨q.1, ⟨⟨_, p.h.trans (q.2.mono p.h.size)⟩, rfl⟩⟩
  have h3 : ∀ p : BW w0, Calls Tryz.prog 40 #[.string tp, .string tq] p.W fun e w'' => e = .returned (.int .i64 r) ∧ ∃ q : BW w0, w'' = q.W := fun p => (HC.out p.W).mono fun _ _ q => ⟨q.1, ⟨p, by rw [q.2]⟩⟩
  clear KK HP HQ HC HKP
  refine wp_region_bw (by kernel_rfl) (by kernel_rfl) ?_
  repeat (quiet_step (first | (go_at_call 19; first | (with_reducible exact h1 _) | (with_reducible exact h2 _)) | (go_at_call 40; exact h3 _)))
  refine wpQuiet_nil ?_
  intro w2 hw'
  obtain ⟨pw, hw2⟩ := hw'
  have hX := HB1.out pw
  rw [← hw2] at hX
  have HX := Lib.hid hX
  clear a0 a1 a2 a3 a4 a5 a6 b0 b1 b2 b3 b4 b5 b6 h1 h2 h3 hX hw2 pw
  go_wp2_with fail
  go_ret
  exact ⟨rfl, HX.out⟩

theorem byText_enters : ∀ args w, (callFunc 39 args).run Tryz.prog w = .ok (.enter 39 args) w := enters_of Tryz.func39 (by kernel_rfl) rfl
theorem sortC : SortC Tryz.prog where
  mixed := by kernel_rfl
  ins := Tryz.func71
  t0 := Tryz.underlying0
  a0 := Tryz.isAgg0
  z0 := Tryz.sizeOf0
  v0 := Tryz.zeroValue0
  t3 := Tryz.underlying3
  a3 := Tryz.isAgg3
  z3 := Tryz.sizeOf3
  v3 := Tryz.zeroValue3
  tu := Tryz.underlying110
  au := Tryz.isAgg110
  zu := Tryz.sizeOf110
  vu := Tryz.zeroValue110
  t4 := Tryz.underlying4
  a4 := Tryz.isAgg4
  z4 := Tryz.sizeOf4
  v4 := Tryz.zeroValue4
  t22 := Tryz.underlying22
  a22 := Tryz.isAgg22
  z22 := Tryz.sizeOf22
  v22 := Tryz.zeroValue22
  t25 := Tryz.underlying68
  a25 := Tryz.isAgg68
  z25 := Tryz.sizeOf68
  v25 := Tryz.zeroValue68

/-- Of a row sorted by the conditions' texts. -/
structure Sorted (d e : Array Cn) : Prop where
  good : Good keyX 0 d.size d e
  sorted : SortedIn (ltKey keyX) 0 d.size e
set_option maxHeartbeats 1000000 in
theorem stableX_c (N blk cap B : Nat) (d : Array Cn) (w0 w : World) (S : SX encC 7 B w0 blk d w) (hN : d.size = N) (hn : N ≤ 19) (hq : AllD PrOk d) (hB : w0.heap.size ≤ B) (hw : Wds w0) (hT : Tabs w0) :
    Calls Tryz.prog 56 #[.slice (some ⟨blk, 0, none⟩) N cap, .int .i64 N, .func (.func 39) #[] #[]] w fun e w' =>
      e = .returned (.tuple #[]) ∧ ∃ d', Aside (Sorted d d' ∧ SX encC 7 B w0 blk d' w') := by
  have INS : Aside (Calls Tryz.prog 71 #[.slice (some ⟨blk, 0, none⟩) N cap, .int .i64 (0 : Nat), .int .i64 N, .func (.func 39) #[] #[]] w fun e w' =>
      e = .returned (.tuple #[]) ∧ ∃ d', Aside (Sorted d d' ∧ SX encC 7 B w0 blk d' w')) := by
    have h := insertC_c sortC 7 Tryz.isAgg31 Tryz.sizeOf31 encC PrOk cfX 39 B blk cap 0 N d w0 w S hq (Nat.zero_le _) (by omega) (by omega) byText_enters (fun x y hx hy W hW => byText_c x y hx hy W (hw.on (hW.mono hB)) (hT.on (hW.mono hB)))
    rw [hN] at h
    refine h.mono ?_
    rintro e w' ⟨rfl, _, S1⟩
    have hl : ltOf cfX = ltKey keyX := by funext x y; exact cfX_lt x y
    rw [hl] at S1
    have hg := insertion_good keyX 0 N d (Nat.zero_le _) (by omega)
    exact ⟨rfl, _, ⟨⟨by rw [hN]; exact hg.1, by rw [hN]; exact hg.2⟩, S1.out⟩⟩
  clear S hN hq hB hw hT
  have b1 : ¬ (20 ≤ N) := by omega
  have b1z : ¬ ((20 : Int) ≤ (N : Int)) := by omega
  have b2z : ¬ ((20 : Int) < (N : Int)) := by omega
  go_enter Tryz.func56, Tryz.ntmps56
  go_wp2_with fail
  refine wp_loop_rounds 1 ?_
  rw [rounds_succ]
  go_wp2_with fail
  refine INS.out.mono ?_
  rintro e1 w1 ⟨rfl, d1, G1⟩
  have G1' := Lib.hid G1.out
  clear INS G1
  go_wp2_with fail
  refine wp_loop_rounds 1 ?_
  rw [rounds_succ]
  go_wp2_with fail
  go_end0
  exact ⟨rfl, d1, G1'.out⟩
set_option maxHeartbeats 1000000 in
theorem sortStableX_c (N blk cap B : Nat) (d : Array Cn) (w0 w : World) (S : SX encC 7 B w0 blk d w) (hN : d.size = N) (hn : N ≤ 19) (hq : AllD PrOk d) (hB : w0.heap.size ≤ B) (hw : Wds w0) (hT : Tabs w0) :
    Calls Tryz.prog 38 #[.slice (some ⟨blk, 0, none⟩) N cap, .func (.func 39) #[] #[]] w fun e w' =>
      e = .returned (.tuple #[]) ∧ ∃ d', Aside (Sorted d d' ∧ SX encC 7 B w0 blk d' w') := by
  have H := Lib.hid (stableX_c N blk cap B d w0 w S hN hn hq hB hw hT)
  clear S hN hq hB hw hT
  go_enter Tryz.func38, Tryz.ntmps38
  go_wp2_with fail
  refine H.out.mono ?_
  rintro e1 w1 ⟨rfl, d1, G1⟩
  have G1' := Lib.hid G1.out
  clear H G1
  go_wp2_with fail
  go_end0
  exact ⟨rfl, d1, G1'.out⟩
end Go.Proofs.YtfffmndjgjfflaaGreatDoor
