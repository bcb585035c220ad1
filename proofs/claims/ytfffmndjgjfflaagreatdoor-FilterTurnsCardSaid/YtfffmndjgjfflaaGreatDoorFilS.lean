/- slices.SortStableFunc at conditions, at most 20 of them, by a closure that may lay blocks and draw. -/
import Derived.Test.YtfffmndjgjfflaaGreatDoorGaD
import Derived.Test.YtfffmndjgjfflaaGreatDoorStab
import Derived.Shelf.SlSortCmp.KitK
import Derived.Shelf.SlSortCmp.InsertionK
import Derived.Deep.RegionWith
import Derived.Deep.RegionHeld3
import Derived.Deep.LoopGhost
import Derived.Deep.Upon
import Derived.Deep.DeepCutAuto
namespace Go.Proofs.YtfffmndjgjfflaaGreatDoor
open Go.Shelf Go.RowKit Go.Lib Go.Sort
open Go.Proofs
set_option maxRecDepth 100000

variable {P : Program} {α : Type} [Inhabited α]

/-- What is asked of the program: its orders, the body, six types. -/
structure SortC (P : Program) : Prop where
  mixed : P.follows .mixedOrders = true
  ins : P.funcs[(71 : Nat)]? = some Tryz.f71
  t0 : P.underlying 0 = some (TypeDesc.tuple #[])
  a0 : ∀ w, (isAgg 0).run P w = .ok false w
  z0 : ∀ w, (Go.sizeOf 0).run P w = .ok 1 w
  v0 : ∀ w, (zeroValue 0).run P w = .ok (Value.tuple #[]) w
  t3 : P.underlying 3 = some (TypeDesc.int IntKind.i64)
  a3 : ∀ w, (isAgg 3).run P w = .ok false w
  z3 : ∀ w, (Go.sizeOf 3).run P w = .ok 1 w
  v3 : ∀ w, (zeroValue 3).run P w = .ok (Value.int IntKind.i64 0) w
  tu : P.underlying 110 = some (TypeDesc.int IntKind.u64)
  au : ∀ w, (isAgg 110).run P w = .ok false w
  zu : ∀ w, (Go.sizeOf 110).run P w = .ok 1 w
  vu : ∀ w, (zeroValue 110).run P w = .ok (Value.int IntKind.u64 0) w
  t4 : P.underlying 4 = some (TypeDesc.bool)
  a4 : ∀ w, (isAgg 4).run P w = .ok false w
  z4 : ∀ w, (Go.sizeOf 4).run P w = .ok 1 w
  v4 : ∀ w, (zeroValue 4).run P w = .ok (Value.bool false) w
  t22 : P.underlying 22 = some (TypeDesc.slice 31)
  a22 : ∀ w, (isAgg 22).run P w = .ok false w
  z22 : ∀ w, (Go.sizeOf 22).run P w = .ok 1 w
  v22 : ∀ w, (zeroValue 22).run P w = .ok (Value.slice none 0 0) w
  t25 : P.underlying 68 = some (TypeDesc.func #[31, 31] #[3] false)
  a25 : ∀ w, (isAgg 68).run P w = .ok false w
  z25 : ∀ w, (Go.sizeOf 68).run P w = .ok 1 w
  v25 : ∀ w, (zeroValue 68).run P w = .ok (Value.nilFunc) w


/-- The sort's worlds: the row holds d; blocks below B stand as they stood. -/
structure SX (enc : α → List Value) (k B : Nat) (w0 : World) (blk : Nat) (d : Array α) (wr : World) : Prop where
  R : RowK enc k wr blk 0 d
  below : Below B w0 wr
  hB : B ≤ blk
def AllD (Q : α → Prop) (d : Array α) : Prop := ∀ t, t < d.size → Q d[t]!
theorem AllD.swp {Q : α → Prop} {d : Array α} (h : AllD Q d) {i j : Nat} (hi : i < d.size) (hj : j < d.size) : AllD Q (swp d i j) := fun t ht => by
  rw [swp_size] at ht
  rw [swp_get d hi hj]
  split
  · exact h _ hi
  · split
    · exact h _ hj
    · exact h _ ht
theorem holdsK_below {enc : α → List Value} {k : Nat} {d : Array α} {blk : Nat} {w W : World} (h : HoldsK enc k w blk 0 d) (hb : Below w.heap.size w W) (hl : blk < w.heap.size) : HoldsK enc k W blk 0 d := fun j hj => by
  obtain ⟨h1, h2⟩ := h j hj
  exact ⟨(hb.cell (p := ⟨blk, 0 + j, none⟩) hl).trans h1, (hb.frozen (p := ⟨blk, 0 + j, none⟩) hl).trans h2⟩
theorem SX.step {enc : α → List Value} {k B blk : Nat} {w0 wr W : World} {d : Array α} (h : SX enc k B w0 blk d wr) (hb : Below wr.heap.size wr W) : SX enc k B w0 blk d W :=
  ⟨⟨h.R.hk, h.R.h1, holdsK_below h.R.hH hb h.R.hblk, Nat.lt_of_lt_of_le h.R.hblk hb.size⟩, h.below.trans (hb.mono (Nat.le_trans h.hB (Nat.le_of_lt h.R.hblk))), h.hB⟩
theorem below_setCells {B : Nat} {w0 : World} {blk : Nat} (hB : B ≤ blk) : ∀ (vs : List Value) (o : Nat) (W : World), Below B w0 W → Below B w0 (W.setCells blk o vs)
  | [], _, _, h => h
  | v :: r, o, _, h => below_setCells hB r (o + 1) _ (h.setCell (p := ⟨blk, o, none⟩) hB v)
theorem below_drew1' (w : World) : Below w.heap.size w w.drew := ⟨rfl, rfl, rfl, Nat.le_refl _, fun _ _ => rfl⟩

/-- A world in which only what is younger than another one's blocks has turned. -/
structure BW (wr : World) where
  W : World
  h : Below wr.heap.size wr W
instance (w : World) : Nonempty (BW w) := ⟨⟨w.drew, below_drew1' w⟩⟩
theorem wp_region_bw {P : Program} {id : Nat} {Q : Exit → Act → World → Prop} {a : Act} {w : World} {l : List Oper} (hm : P.follows .mixedOrders = true) (hB : Region.lexB .any l.toArray = true)
    (h : wpQuiet P l.toArray (fun w' => ∃ p : BW w, w' = p.W) (fun a' => ∀ w', (∃ p : BW w, w' = p.W) → Q .normal a' w') l a) : (Code.region id l.toArray true).wp P Q a w :=
  wp_region_quiet (C := fun w' => ∃ p : BW w, w' = p.W) hm hB ⟨⟨w.drew, below_drew1' w⟩, rfl⟩ (by simpa using h)

set_option maxHeartbeats 4000000 in
set_option maxRecDepth 1000000 in
theorem insertC_c (L : SortC P) (k : Nat) (aE : ∀ w, (isAgg 31).run P w = .ok true w) (zE : ∀ w, (Go.sizeOf 31).run P w = .ok k w) (enc : α → List Value) (Q : α → Prop) (cf : α → α → Int) (g B blk cap a b : Nat) (d : Array α) (w0 w : World) (S : SX enc k B w0 blk d w) (hQ : AllD Q d) (hab : a ≤ b) (hb : b ≤ d.size) (hsz : d.size ≤ 100)
    (eg : ∀ args w, (callFunc g args).run P w = .ok (.enter g args) w)
    (hc : ∀ x y, Q x → Q y → ∀ W, Below B w0 W → Calls P g #[.agg (enc x).toArray, .agg (enc y).toArray] W fun e w' => e = .returned (.int .i64 (cf x y)) ∧ Below W.heap.size W w') :
    Calls P 71 #[.slice (some ⟨blk, 0, none⟩) d.size cap, .int .i64 a, .int .i64 b, .func (.func g) #[] #[]] w fun e w' =>
      e = .returned (.tuple #[]) ∧ Aside (AllD Q (Sort.insertionSort (ltOf cf) d a b)) ∧ Aside (SX enc k B w0 blk (Sort.insertionSort (ltOf cf) d a b) w') := by
  have mixed := L.mixed; have t0 := L.t0; have a0 := L.a0; have z0 := L.z0; have v0 := L.v0; have t3 := L.t3; have a3 := L.a3; have z3 := L.z3; have v3 := L.v3; have t4 := L.t4; have a4 := L.a4; have z4 := L.z4; have v4 := L.v4; have t22 := L.t22; have a22 := L.a22; have z22 := L.z22; have v22 := L.v22; have t25 := L.t25; have a25 := L.a25; have z25 := L.z25; have v25 := L.v25
  have FG := L.ins
  have HC := Lib.hid hc
  have HS0 := Lib.hid S
  have HQ0 := Lib.hid hQ
  obtain ⟨N, hN⟩ : ∃ N, N = d.size := ⟨_, rfl⟩
  have HN := Lib.hid hN
  rw [← hN] at hb hsz ⊢
  obtain ⟨r, hr⟩ : ∃ r, r = Sort.insertionSort (ltOf cf) d a b := ⟨_, rfl⟩
  have HR : Aside (insOuter (ltOf cf) a b (a + 1) d = r) := hr.symm
  rw [← hr]
  clear hc S hQ hN hr L
  go_enter FG, Tryz.ntmps71
  go_wp2_with fail
  go_loopg [8] (b - a) (fun g1 vi wr => ∃ (i : Nat) (dk : Array α), vi = .int .i64 i ∧ a < i ∧ i ≤ b + 1 ∧ b + 1 - i ≤ g1 + 1 ∧ dk.size = N ∧ Aside (AllD Q dk) ∧ Aside (SX enc k B w0 blk dk wr) ∧ Aside (insOuter (ltOf cf) a b i dk = r))
  case atStart => exact ⟨a + 1, d, by go_num, by omega, by omega, by omega, HN.out.symm, HQ0.out, HS0.out, HR.out⟩
  case round =>
    clear HS0 HQ0 HR HN
    obtain ⟨i, dk, rfl, hai, hib, hg1, hsk, HQ, HS, HO⟩ := hrel
    by_cases hlt : i < b
    · have hltz : (i : Int) < (b : Int) := by omega
      go_wp2_with fail
      go_loopg [9] i (fun g2 vj wr2 => ∃ (j : Nat) (dj : Array α), vj = .int .i64 j ∧ a ≤ j ∧ j ≤ i ∧ j ≤ g2 ∧ dj.size = N ∧ Aside (AllD Q dj) ∧ Aside (SX enc k B w0 blk dj wr2) ∧ Aside (insInner (ltOf cf) a j dj = insInner (ltOf cf) a i dk))
      case atStart => exact ⟨i, dk, rfl, by omega, Nat.le_refl _, Nat.le_refl _, hsk, HQ.out, HS.out, rfl⟩
      case round =>
        clear HS HQ
        obtain ⟨j, dj, rfl, haj, hji, hg2, hsj, HQ, HS, HI⟩ := hrel
        have OUT : Aside ((j ≤ a ∨ ltOf cf dj[j]! dj[j - 1]! = false) → insOuter (ltOf cf) a b (i + 1) dj = r) := fun hs => by
          rw [← HO.out, insOuter_go _ _ _ _ _ hlt, ← HI.out, insInner_stop _ _ _ _ hs]
        by_cases hja : a < j
        · have hjaz : (a : Int) < (j : Int) := by omega
          obtain ⟨jp, hjp⟩ : ∃ jp, j = jp + 1 := ⟨j - 1, by omega⟩
          have HJP := Lib.hid hjp
          have hj1 : j - 1 = jp := by omega
          rw [hj1] at OUT
          have hjN : j < dj.size := by omega
          have hpN : jp < dj.size := by omega
          have hjz : (j : Int) < (N : Int) := by omega
          have hpz : (jp : Int) < (N : Int) := by omega
          have hj0 : (0 : Int) ≤ (j : Int) := by omega
          have hp0 : (0 : Int) ≤ (jp : Int) := by omega
          have hwp : wrap64 ((j : Int) - 1) = (jp : Int) := by unfold wrap64; omega
          have hwp2 : IntKind.i64.wrap ((j : Int) - 1) = (jp : Int) := by rw [IntKind.wrap_i64]; omega
          have hqj := HQ.out j hjN
          have hqp := HQ.out jp hpN
          have HCj : Aside (∀ W, Below wr.heap.size wr W → Calls P g #[.agg (enc dj[j]!).toArray, .agg (enc dj[jp]!).toArray] W fun e w' => e = .returned (.int .i64 (cf dj[j]! dj[jp]!)) ∧ Below W.heap.size W w') := fun W hW => HC.out _ _ hqj hqp W (HS.out.step hW).below
          obtain ⟨z, hz⟩ : ∃ z, z = cf dj[j]! dj[jp]! := ⟨_, rfl⟩
          have HZl : Aside (ltOf cf dj[j]! dj[jp]! = decide (z < 0)) := by show _ = _; rw [hz]; rfl
          rw [← hz] at HCj
          have HLD : Aside (∀ (t : Nat), t < dj.size → ∀ W, Below wr.heap.size wr W → Sem.run P (loadCellsFrom ⟨blk, t * k, none⟩ 0 k #[]) W = .ok (enc dj[t]!).toArray W) := fun t ht W hW => by
            have h1 := (HS.out.step hW).R
            have h2 := run_loadCellsFrom_list P W ⟨blk, 0 + t * k, none⟩ (enc dj[t]!) k (h1.hk _) (HoldsK.cells h1.hH h1.hk ht)
            rw [Nat.zero_add] at h2
            exact h2
          have HDl := Lib.hid (fun W hW => And.intro (HLD.out j hjN W hW) (HLD.out jp hpN W hW))
          clear hqj hqp hz hjp hj1 HLD
          obtain ⟨xj, hxj⟩ : ∃ x, x = dj[j]! := ⟨_, rfl⟩
          obtain ⟨xp, hxp⟩ : ∃ x, x = dj[jp]! := ⟨_, rfl⟩
          have HXX : Aside (xj = dj[j]! ∧ xp = dj[jp]!) := ⟨hxj, hxp⟩
          rw [← hxj, ← hxp] at HCj HDl
          clear hxj hxp
          obtain ⟨eJ, heJ⟩ : ∃ e, e = enc xj := ⟨_, rfl⟩
          obtain ⟨eP, heP⟩ : ∃ e, e = enc xp := ⟨_, rfl⟩
          rw [← heJ, ← heP] at HCj HDl
          have HEE : Aside (eJ = enc xj ∧ eP = enc xp) := ⟨heJ, heP⟩
          clear heJ heP
          go_upto_region 4 with fail
          have hcg : ∀ p : BW wr, Calls P g #[.agg eJ.toArray, .agg eP.toArray] p.W fun e w'' => e = .returned (.int .i64 z) ∧ ∃ q : BW wr, w'' = q.W := fun p => (HCj.out p.W p.h).mono fun _ _ q => ⟨q.1, ⟨⟨_, p.h.trans (q.2.mono p.h.size)⟩, rfl⟩⟩
          have lj : ∀ p : BW wr, Sem.run P (loadCellsFrom ⟨blk, j * k, none⟩ 0 k #[]) p.W = .ok eJ.toArray p.W := fun p => (HDl.out p.W p.h).1
          have lp : ∀ p : BW wr, Sem.run P (loadCellsFrom ⟨blk, jp * k, none⟩ 0 k #[]) p.W = .ok eP.toArray p.W := fun p => (HDl.out p.W p.h).2
          clear HCj
          go_cut [34] (fun s34 wx => s34 = .bool (decide (z < 0)) ∧ Aside (Below wr.heap.size wr wx))
          case first =>
            clear HS HI HZl HXX HEE OUT HO HQ HDl
            refine wp_region_bw (by assumption) (by kernel_rfl) ?_
            repeat (quiet_step (first | (go_at_fn g; exact hcg _)))
            refine wpQuiet_nil ?_
            intro _ hw'
            obtain ⟨⟨wx, hwx⟩, hw''⟩ := hw'
            subst hw''
            have HX1 := Lib.hid hwx
            clear hwx hcg lj lp
            go_wp2_with fail
            go_meet
            exact ⟨rfl, HX1.out⟩
          case rest =>
            obtain ⟨rfl, HX1⟩ := hcut
            have HS1 := Lib.hid (HS.out.step HX1.out)
            clear HS hcg lj lp HDl HX1
            by_cases hlv : z < 0
            · have HGO : Aside (insInner (ltOf cf) a jp (swp dj j jp) = insInner (ltOf cf) a i dk) := by
                have := insInner_go (lt := ltOf cf) a j dj hja (by rw [show j - 1 = jp by have := HJP.out; omega, HZl.out]; exact decide_eq_true hlv)
                rw [show j - 1 = jp by have := HJP.out; omega] at this
                rw [← this]; exact HI.out
              have hp1 : jp + 1 ≤ j := by have := HJP.out; omega
              have ha1 : a ≤ jp := by have := HJP.out; omega
              have S1 : Aside (SWK enc k wc blk 0 dj wc) := SWK.start HS1.out.R.hH
              go_wp2_with fail
              have S2 : Aside (SWK enc k wc blk 0 (swp dj j jp) ((wc.drew.setCells blk (0 + j * k) (enc dj[jp]!)).setCells blk (0 + jp * k) (enc dj[j]!))) := S1.out.swapped HS1.out.R j jp hjN hpN
              have l44a := S1.out.ld1 HS1.out.R rfl P j hjN
              have l44b := S1.out.ld1 HS1.out.R rfl P jp hpN
              have s44a := S1.out.st1 HS1.out.R rfl P j hjN dj[jp]!
              have s44b := S1.out.st2 HS1.out.R rfl P j jp hjN hpN dj[jp]! dj[j]!
              have n44a : (enc dj[j]!).length = k := HS1.out.R.hk _
              have n44b : (enc dj[jp]!).length = k := HS1.out.R.hk _
              have HBW : Aside (Below B w0 ((wc.drew.setCells blk (0 + j * k) (enc dj[jp]!)).setCells blk (0 + jp * k) (enc dj[j]!))) := below_setCells HS1.out.hB _ _ _ (below_setCells HS1.out.hB _ _ _ (HS1.out.step (below_drew1' wc)).below)
              have HLW : Aside (blk < ((wc.drew.setCells blk (0 + j * k) (enc dj[jp]!)).setCells blk (0 + jp * k) (enc dj[j]!)).heap.size) := by
                show blk < _
                rw [size_setCells, size_setCells]; exact HS1.out.R.hblk
              have HQ2 := Lib.hid (HQ.out.swp hjN hpN)
              generalize enc dj[j]! = cI44 at S2 l44a s44b n44a HBW HLW
              generalize enc dj[jp]! = cJ44 at S2 l44b s44a s44b n44b HBW HLW
              simp only [Nat.zero_add] at S2 l44a l44b s44a s44b HBW HLW
              clear S1 HI HZl HXX HEE OUT HO HQ
              go_big_region_o
              clear l44a l44b s44a s44b
              generalize (wc.drew.setCells blk (j * k) cJ44).setCells blk (jp * k) cI44 = w2 at *
              go_wp2_with fail
              go_roundg jp
              case measure => omega
              case rel => exact ⟨jp, swp dj j jp, by go_num, ha1, by omega, Nat.le_refl _, by rw [swp_size]; exact hsj, HQ2.out, ⟨⟨HS1.out.R.hk, HS1.out.R.h1, S2.out.holds HS1.out.R.hblk HS1.out.R.hH (swp_size _ _ _), HLW.out⟩, HBW.out, HS1.out.hB⟩, HGO.out⟩
            · have HOO := Lib.hid (OUT.out (Or.inr (by rw [HZl.out]; exact decide_eq_false hlv)))
              clear HZl HI HO OUT HXX HEE
              go_wp2_with fail
              go_roundg (b - (i + 1))
              case measure => omega
              case rel => exact ⟨i + 1, dj, by go_num, by omega, by omega, by omega, hsj, HQ.out, HS1.out, HOO.out⟩
        · have hjaz : ¬ (a : Int) < (j : Int) := by omega
          have HOO := Lib.hid (OUT.out (Or.inl (by omega)))
          clear HO OUT HI
          go_upto_region 4 with fail
          go_region_o
          all_goals
            go_wp2_with fail
            go_roundg (b - (i + 1))
            case measure => omega
            case rel => exact ⟨i + 1, dj, by go_num, by omega, by omega, by omega, hsj, HQ.out, HS.out.step (below_drew1' _), HOO.out⟩
    · obtain rfl : r = dk := by
        have := HO.out
        rw [insOuter_stop _ _ _ _ _ (by omega)] at this
        exact this.symm
      have hltz : ¬ (i : Int) < (b : Int) := by omega
      go_wp2_with fail
      go_end0
      first
      | exact ⟨rfl, HQ.out, HS.out⟩
      | exact ⟨rfl, HS.out⟩
end Go.Proofs.YtfffmndjgjfflaaGreatDoor
