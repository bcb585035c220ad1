/- The attributes of an event as the model lays them: six cells; their order by name; the two closures of event.New. -/
import Derived.Test.YtjeippdfgojdnaaGreatDoorAtP
import Derived.Test.YtjeippdfgojdnaaGreatDoorProg
import Derived.Test.YtjeippdfgojdnaaGreatDoorSymMerge
import Derived.Test.YtjeippdfgojdnaaGreatDoorShelf
import Derived.Shelf.SlSortCmp.InsertionK
import Derived.Lib.Hide
namespace Go.Proofs.YtjeippdfgojdnaaGreatDoor
open Go.Shelf Go.RowKit Go.Lib Go.Sort
open Go.Proofs

/-- How two of them are compared. -/
def cfA (a b : At) : Int := Lib.compareBytes (keyA a) (keyA b)

theorem compareBytes_lt : ∀ (a b : List UInt8), Lib.compareBytes a b < 0 ↔ a < b
  | [], [] => by simp [Lib.compareBytes]
  | [], _ :: _ => by simp [Lib.compareBytes]
  | _ :: _, [] => by simp [Lib.compareBytes]
  | x :: a, y :: b => by
    have ih := compareBytes_lt a b
    rw [Lib.compareBytes, List.cons_lt_cons_iff]
    by_cases h1 : x < y
    · simp [h1]
    · by_cases h2 : y < x
      · have h3 : x ≠ y := fun e => h1 (by rw [e] at h2; exact absurd h2 (UInt8.lt_irrefl y))
        simp [h1, h2, h3]
      · have h3 : x = y := UInt8.le_antisymm (UInt8.not_lt.1 h2) (UInt8.not_lt.1 h1)
        subst h3
        simp [h1, ih]
theorem cfA_lt (x y : At) : ltOf cfA x y = ltKey keyA x y := by
  unfold ltOf cfA ltKey ltStr
  rw [Bool.eq_iff_iff]
  simp [compareBytes_lt]

set_option maxRecDepth 100000 in
set_option maxHeartbeats 1000000 in
/-- The closure by which attributes are sorted: two blocks are laid. -/
theorem byName_c (p q : At) (W : World) : Calls Tryz.prog 53 #[.agg (encA p).toArray, .agg (encA q).toArray] W fun e w' => e = .returned (.int .i64 (cfA p q)) ∧ ∃ q os', w' = grow (W.drewN q) os' := by
  have hcon := fun W' => Tryz.strings_Compare p.nm q.nm W'
  unfold cfA keyA
  generalize Lib.compareBytes p.nm.data.toList q.nm.data.toList = r at hcon ⊢
  obtain ⟨nm, k, n, x, s, y⟩ := p
  obtain ⟨nm2, k2, n2, x2, s2, y2⟩ := q
  show Calls Tryz.prog 53 #[.agg #[.string nm, .int .i64 k, .int .i64 n, .float .f64 x, .string s, .bool y], .agg #[.string nm2, .int .i64 k2, .int .i64 n2, .float .f64 x2, .string s2, .bool y2]] W _
  go_enter Tryz.func53, Tryz.ntmps53
  go_wp2_with (go_at_call 54; refine (hcon _).mono ?_; rintro e w' ⟨rfl, rfl⟩)
  go_ret
  exact ⟨rfl, 0, _, by rw [alloc_eq_grow, alloc_eq_grow, grow_grow]; rfl⟩

theorem byName_lays (blk off size : Nat) (w : World) : CmpLays Tryz.prog 53 #[] encA 6 cfA blk off size w :=
  fun _ _ _ _ x y => byName_c x y _
theorem byName_enters : ∀ args w, (callFunc 53 args).run Tryz.prog w = .ok (.enter 53 args) w := enters_of Tryz.func53 (by kernel_rfl) rfl

theorem sortP : SortP Tryz.prog where
  mixed := by kernel_rfl
  swapR := Tryz.func120
  rot := Tryz.func105
  sym := Tryz.func94
  t0 := Tryz.underlying0
  a0 := Tryz.isAgg0
  z0 := Tryz.sizeOf0
  v0 := Tryz.zeroValue0
  t3 := Tryz.underlying3
  a3 := Tryz.isAgg3
  z3 := Tryz.sizeOf3
  v3 := Tryz.zeroValue3
  tu := Tryz.underlying125
  au := Tryz.isAgg125
  zu := Tryz.sizeOf125
  vu := Tryz.zeroValue125
  t4 := Tryz.underlying4
  a4 := Tryz.isAgg4
  z4 := Tryz.sizeOf4
  v4 := Tryz.zeroValue4
  t22 := Tryz.underlying36
  a22 := Tryz.isAgg36
  z22 := Tryz.sizeOf36
  v22 := Tryz.zeroValue36
  t25 := Tryz.underlying78
  a25 := Tryz.isAgg78
  z25 := Tryz.sizeOf78
  v25 := Tryz.zeroValue78

/-- slices.insertionSortCmpFunc at attributes, from a world of the sort's to a world of the sort's. -/
theorem insertion_c (blk off cap a b : Nat) (d0 d : Array At) (w0 w : World) (R : RowK encA 6 w0 blk off d0) (hs : d0.size = d.size) (S : SWK encA 6 w0 blk off d w) (hab : a ≤ b) (hb : b ≤ d.size) (hsz : d.size < 4611686018427387904) :
    Calls Tryz.prog 93 #[.slice (some ⟨blk, off, none⟩) d0.size cap, .int .i64 a, .int .i64 b, .func (.func 53) #[] #[]] w fun e w' =>
      e = .returned (.tuple #[]) ∧ ∃ d', Aside (Good keyA a b d d' ∧ SortedIn (ltKey keyA) a b d') ∧ Aside (SWK encA 6 w0 blk off d' w') := by
  have h := AnyQ.insertionSortCmpFunc Tryz.insA 6 Tryz.isAgg38 Tryz.sizeOf38 encA encA_len encA_one cfA 53 #[] blk off cap a b d w byName_enters (byName_lays blk off d.size w) (S.holds R.hblk R.hH hs.symm) (S.lt R.hblk) hab hb hsz
  change Calls Tryz.prog 93 _ _ _ at h
  rw [hs]
  refine h.mono ?_
  rintro e w' ⟨rfl, n, os, rfl⟩
  have hl : ltOf cfA = ltKey keyA := by funext x y; exact cfA_lt x y
  rw [hl]
  obtain ⟨g1, g2⟩ := insertion_good keyA a b d hab hb
  exact ⟨rfl, _, (⟨g1, g2⟩ : _ ∧ _), S.on R.hblk n _ os g1.size⟩
theorem merge_c (blk off cap a m b : Nat) (d0 d : Array At) (w0 w : World) (R : RowK encA 6 w0 blk off d0) (hs : d0.size = d.size) (S : SWK encA 6 w0 blk off d w) (ham : a < m) (hmb : m < b) (hb : b ≤ d.size) (hsz : d.size < 4611686018427387904)
    (sa : SortedIn (ltKey keyA) a m d) (sb : SortedIn (ltKey keyA) m b d) :
    Calls Tryz.prog 94 #[.slice (some ⟨blk, off, none⟩) d0.size cap, .int .i64 a, .int .i64 m, .int .i64 b, .func (.func 53) #[] #[]] w fun e w' =>
      e = .returned (.tuple #[]) ∧ ∃ d', Aside (Good keyA a b d d' ∧ SortedIn (ltKey keyA) a b d') ∧ Aside (SWK encA 6 w0 blk off d' w') :=
  symMerge_c sortP 6 Tryz.isAgg38 Tryz.sizeOf38 encA cfA keyA cfA_lt 53 #[] blk off cap d0 w0 byName_enters (byName_lays blk off d0.size w0) R (by omega) (b - a) a m b d w (Nat.le_refl _) hs S ham hmb hb sa sb

set_option maxHeartbeats 4000000 in
set_option maxRecDepth 100000 in
/-- slices.SortStableFunc's body, at most 39 attributes: they stand in the order of their names, of one name in the order in which they stood. -/
theorem stable_c (N blk off cap : Nat) (d0 : Array At) (w0 : World) (R : RowK encA 6 w0 blk off d0) (hN : d0.size = N) (hn : N ≤ 39) :
    Calls Tryz.prog 77 #[.slice (some ⟨blk, off, none⟩) N cap, .int .i64 N, .func (.func 53) #[] #[]] w0 fun e w' =>
      e = .returned (.tuple #[]) ∧ ∃ d', Aside (Good keyA 0 N d0 d' ∧ SortedIn (ltKey keyA) 0 N d') ∧ Aside (SWK encA 6 w0 blk off d' w') := by
  have INS : Aside (∀ (a b : Nat) (d : Array At) (w : World), N = d.size → SWK encA 6 w0 blk off d w → a ≤ b → b ≤ N →
      Calls Tryz.prog 93 #[.slice (some ⟨blk, off, none⟩) N cap, .int .i64 a, .int .i64 b, .func (.func 53) #[] #[]] w fun e w' =>
      e = .returned (.tuple #[]) ∧ ∃ d', Aside (Good keyA a b d d' ∧ SortedIn (ltKey keyA) a b d') ∧ Aside (SWK encA 6 w0 blk off d' w')) := fun a b d w hs S h1 h2 => by
    have h := insertion_c blk off cap a b d0 d w0 w R (hN.trans hs) S h1 (by omega) (by omega)
    rw [hN] at h; exact h
  have MRG : Aside (∀ (a m b : Nat) (d : Array At) (w : World), N = d.size → SWK encA 6 w0 blk off d w → a < m → m < b → b ≤ N → SortedIn (ltKey keyA) a m d → SortedIn (ltKey keyA) m b d →
      Calls Tryz.prog 94 #[.slice (some ⟨blk, off, none⟩) N cap, .int .i64 a, .int .i64 m, .int .i64 b, .func (.func 53) #[] #[]] w fun e w' =>
      e = .returned (.tuple #[]) ∧ ∃ d', Aside (Good keyA a b d d' ∧ SortedIn (ltKey keyA) a b d') ∧ Aside (SWK encA 6 w0 blk off d' w')) := fun a m b d w hs S h1 h2 h3 sa sb => by
    have h := merge_c blk off cap a m b d0 d w0 w R (hN.trans hs) S h1 h2 (by omega) (by omega) sa sb
    rw [hN] at h; exact h
  have S0 : Aside (SWK encA 6 w0 blk off d0 w0) := SWK.start R.hH
  have HN : Aside (N = d0.size) := hN.symm
  clear R hN
  by_cases h20 : N < 20
  · have b1 : ¬ (20 ≤ N) := by omega
    have b1z : ¬ ((20 : Int) ≤ (N : Int)) := by omega
    have b2z : ¬ ((20 : Int) < (N : Int)) := by omega
    go_enter Tryz.func77, Tryz.ntmps77
    go_wp2_with fail
    refine wp_loop_rounds 1 ?_
    rw [rounds_succ]
    go_wp2_with fail
    refine (INS.out 0 N d0 _ HN.out S0.out (Nat.zero_le _) (Nat.le_refl _)).mono ?_
    rintro e1 w1 ⟨rfl, d1, G1, S1⟩
    have S1' : Aside (SWK encA 6 w0 blk off d1 w1) := S1
    clear S0 S1
    go_wp2_with fail
    refine wp_loop_rounds 1 ?_
    rw [rounds_succ]
    go_wp2_with fail
    go_end0
    exact ⟨rfl, d1, G1, S1'⟩
  · have b1z : ((20 : Int) ≤ (N : Int)) := by omega
    have b3z : ¬ ((40 : Int) ≤ (N : Int)) := by omega
    have b4z : ¬ ((40 : Int) < (N : Int)) := by omega
    go_enter Tryz.func77, Tryz.ntmps77
    go_wp2_with fail
    refine wp_loop_rounds 2 ?_
    rw [rounds_succ]
    go_wp2_with fail
    refine (INS.out 0 20 d0 _ HN.out S0.out (Nat.zero_le _) (by omega)).mono ?_
    rintro e1 w1 ⟨rfl, d1, G1, S1⟩
    have S1' : Aside (SWK encA 6 w0 blk off d1 w1) := S1
    clear S0 S1
    go_wp2_with fail
    rw [rounds_succ]
    go_wp2_with fail
    refine (INS.out 20 N d1 _ (by rw [G1.out.1.size]; exact HN.out) S1'.out (by omega) (Nat.le_refl _)).mono ?_
    rintro e2 w2 ⟨rfl, d2, G2, S2⟩
    have S2' : Aside (SWK encA 6 w0 blk off d2 w2) := S2
    clear S1' S2
    have GG : Aside (Good keyA 0 N d0 d2) := (G1.out.1.mono (Nat.le_refl _) (by omega)).trans (G2.out.1.mono (Nat.zero_le _) (Nat.le_refl _))
    have SL : Aside (SortedIn (ltKey keyA) 0 20 d2) := by
      show SortedIn _ _ _ _
      intro x y x1 x2 x3
      rw [G2.out.1.out x (by omega), G2.out.1.out y (by omega)]
      exact G1.out.2 x y x1 x2 x3
    have SR : Aside (SortedIn (ltKey keyA) 20 N d2) := G2.out.2
    clear G1 G2
    by_cases h21 : N = 20
    · have b2z : ¬ ((20 : Int) < (N : Int)) := by omega
      have SL' : Aside (SortedIn (ltKey keyA) 0 N d2) := by rw [h21]; exact SL
      clear h21
      go_wp2_with fail
      refine wp_loop_rounds 1 ?_
      rw [rounds_succ]
      go_wp2_with fail
      go_end0
      exact ⟨rfl, d2, (⟨GG.out, SL'.out⟩ : _ ∧ _), S2'⟩
    · have b2z : ((20 : Int) < (N : Int)) := by omega
      go_wp2_with fail
      refine wp_loop_rounds 2 ?_
      rw [rounds_succ]
      go_wp2_with fail
      refine wp_loop_rounds 1 ?_
      rw [rounds_succ]
      go_wp2_with fail
      refine (MRG.out 0 20 N d2 _ (by rw [GG.out.size]; exact HN.out) S2'.out (by omega) (by omega) (Nat.le_refl _) SL.out SR.out).mono ?_
      rintro e3 w3 ⟨rfl, d3, G3, S3⟩
      have S3' : Aside (SWK encA 6 w0 blk off d3 w3) := S3
      clear S2' S3
      go_wp2_with fail
      rw [rounds_succ]
      go_wp2_with fail
      go_end0
      exact ⟨rfl, d3, (⟨GG.out.trans G3.out.1, G3.out.2⟩ : _ ∧ _), S3'⟩
set_option maxHeartbeats 1000000 in
theorem sortStable_c (N blk off cap : Nat) (d0 : Array At) (w0 : World) (R : RowK encA 6 w0 blk off d0) (hN : d0.size = N) (hn : N ≤ 39) :
    Calls Tryz.prog 52 #[.slice (some ⟨blk, off, none⟩) N cap, .func (.func 53) #[] #[]] w0 fun e w' =>
      e = .returned (.tuple #[]) ∧ ∃ d', Aside (Good keyA 0 N d0 d' ∧ SortedIn (ltKey keyA) 0 N d') ∧ Aside (SWK encA 6 w0 blk off d' w') := by
  have h := stable_c N blk off cap d0 w0 R hN hn
  have H : Aside _ := h
  clear h R hN
  go_enter Tryz.func52, Tryz.ntmps52
  go_wp2_with fail
  refine Calls.mono H.out ?_
  rintro e1 w1 ⟨rfl, d1, G1, S1⟩
  have S1' : Aside (SWK encA 6 w0 blk off d1 w1) := S1
  clear S1 H
  go_wp2_with fail
  go_end0
  exact ⟨rfl, d1, G1, S1'⟩
end Go.Proofs.YtjeippdfgojdnaaGreatDoor
