/- event.Same of any two events. -/
import Derived.Test.YtjnfbinomljocaaDoorLight
namespace Go.Proofs.YtjnfbinomljocaaDoor
open Go.RowKit Go.Shelf Go.Sort
open Go.Proofs
set_option maxRecDepth 100000

set_option maxHeartbeats 1000000 in
/-- The closure that holds two attributes against each other. -/
theorem sameA_c (p q : At) (w : World) (hp : p.x < 18446744073709551616) (hq : q.x < 18446744073709551616) :
    Calls Tryd.prog 23 #[.agg (encA p).toArray, .agg (encA q).toArray] w fun e w' => e = .returned (.bool (sameA p q)) ∧ Below w.heap.size w w' := by
  obtain ⟨nm, k, n, x, s, y⟩ := p
  obtain ⟨nm2, k2, n2, x2, s2, y2⟩ := q
  have hc := fun W => vsame_c k k2 n n2 x x2 s s2 y y2 W hp hq
  show Calls Tryd.prog 23 #[.agg #[.string nm, .int .i64 k, .int .i64 n, .float .f64 x, .string s, .bool y], .agg #[.string nm2, .int .i64 k2, .int .i64 n2, .float .f64 x2, .string s2, .bool y2]] w _
  have hs : sameA ⟨nm, k, n, x, s, y⟩ ⟨nm2, k2, n2, x2, s2, y2⟩ = (nm.toList == nm2.toList && (k == k2 && sameV k n n2 x x2 s s2 y y2)) := rfl
  rw [hs]
  generalize (k == k2 && sameV k n n2 x x2 s s2 y y2) = r at hc ⊢
  clear hs hp hq
  cases h : (nm.toList == nm2.toList)
  · rw [Bool.false_and]
    go_enter Tryd.func23, Tryd.ntmps23
    go_wp2
    go_ret
    exact ⟨rfl, ((Below.refl _ _).alloc (Nat.le_refl _) _).alloc (by simp) _⟩
  · rw [Bool.true_and]
    go_enter Tryd.func23, Tryd.ntmps23
    go_wp2_with fail
    refine (hc _).mono ?_
    rintro e w1 ⟨rfl, hb1⟩
    have HB : Aside (Below w.heap.size w w1) := (((Below.refl w.heap.size w).alloc (Nat.le_refl _) _).alloc (by simp) _).trans (hb1.mono (by simp; omega))
    clear hb1 hc
    go_wp2_with fail
    go_ret
    exact ⟨rfl, HB.out⟩

/-- slices.EqualFunc at attributes. -/
def sameL (l m : List At) : Bool := decide (l.length = m.length) && (List.range l.length).all fun i => sameA l[i]! m[i]!

theorem sameL_bad {l m : List At} {j : Nat} (hj : j < l.length) (h : sameA l[j]! m[j]! = false) : sameL l m = false := by
  cases hn : sameL l m with
  | false => rfl
  | true =>
    simp only [sameL, Bool.and_eq_true, List.all_eq_true, List.mem_range] at hn
    rw [hn.2 j hj] at h; cases h

set_option maxHeartbeats 2000000 in
theorem equalFunc_c (ao bo : Option Addr) (cap cap2 : Nat) (l m : List At) (w : World) (hl : SliceA w ao l) (hm : SliceA w bo m) (hlx : ∀ a ∈ l, a.x < 18446744073709551616) (hmx : ∀ a ∈ m, a.x < 18446744073709551616)
    (hlen : l.length < 4611686018427387904) (hlen2 : m.length < 4611686018427387904) :
    Calls Tryd.prog 22 #[.slice ao l.length cap, .slice bo m.length cap2, .func (.func 23) #[] #[]] w fun e w' => e = .returned (.bool (sameL l m)) ∧ Below w.heap.size w w' := by
  obtain ⟨len, hL⟩ : ∃ len, len = l.length := ⟨_, rfl⟩
  obtain ⟨len2, hL2⟩ : ∃ len, len = m.length := ⟨_, rfl⟩
  have HLen : Aside (len = l.length) := hL
  have HLen2 : Aside (len2 = m.length) := hL2
  have HS : Aside (SliceA w ao l) := hl
  have HS2 : Aside (SliceA w bo m) := hm
  have HX : Aside (∀ a ∈ l, a.x < 18446744073709551616) := hlx
  have HX2 : Aside (∀ a ∈ m, a.x < 18446744073709551616) := hmx
  rw [← hL] at hlen ⊢
  rw [← hL2] at hlen2 ⊢
  clear hL hL2 hl hm hlx hmx
  by_cases hne : len = len2
  · subst hne
    go_enter Tryd.func22, Tryd.ntmps22
    go_wp2_with fail
    go_loopg [17] len (fun kx s17 wr => ∃ j : Nat, s17 = .int .i64 j ∧ j ≤ len ∧ len - j ≤ kx ∧ Aside ((List.range j).all (fun i => sameA l[i]! m[i]!) = true) ∧ Aside (Below w.heap.size w wr))
    case atStart => exact ⟨0, rfl, Nat.zero_le _, by omega, by simp [Aside], Below.refl _ _⟩
    case round =>
      obtain ⟨j, rfl, hj, hjx, hall, HB⟩ := hrel
      by_cases hlt : j < len
      · rcases HS.out with h0 | ⟨b, off, hao, hbs, hrow⟩
        · rw [h0] at HLen; exact absurd HLen.out (by simp; omega)
        rcases HS2.out with h0 | ⟨b2, off2, hao2, hbs2, hrow2⟩
        · rw [h0] at HLen2; exact absurd HLen2.out (by simp; omega)
        subst hao
        subst hao2
        have hsz := HB.out.size
        have hrow1 := RowAt.below HB.out hbs hrow j (by rw [← HLen.out]; exact hlt)
        have hrow3 := RowAt.below HB.out hbs2 hrow2 j (by rw [← HLen2.out]; exact hlt)
        clear hrow hrow2
        have hok := HX.out _ (get_mem l j (by rw [← HLen.out]; exact hlt))
        have hok2 := HX2.out _ (get_mem m j (by rw [← HLen2.out]; exact hlt))
        have HBad : Aside (sameA l[j]! m[j]! = false → sameL l m = false) := fun h => sameL_bad (by rw [← HLen.out]; exact hlt) h
        have HGo : Aside (sameA l[j]! m[j]! = true → (List.range (j + 1)).all (fun i => sameA l[i]! m[i]!) = true) := fun h => by
          rw [List.range_succ, List.all_append, hall.out]; simp only [List.all_cons, List.all_nil, Bool.and_true, Bool.true_and]; exact h
        obtain ⟨a, ha⟩ : ∃ a, a = l[j]! := ⟨_, rfl⟩
        obtain ⟨c, hc⟩ : ∃ a, a = m[j]! := ⟨_, rfl⟩
        rw [← ha] at hrow1 hok HBad HGo
        rw [← hc] at hrow3 hok2 HBad HGo
        clear ha hc
        have hcl := fun W => sameA_c a c W hok hok2
        obtain ⟨nm, k, n, x, s, y⟩ := a
        obtain ⟨nm2, k2, n2, x2, s2, y2⟩ := c
        have c0 := hrow1 0 _ rfl; have c1 := hrow1 1 _ rfl; have c2 := hrow1 2 _ rfl; have c3 := hrow1 3 _ rfl; have c4 := hrow1 4 _ rfl; have c5 := hrow1 5 _ rfl
        simp only [Nat.add_zero] at c0
        have d0 := hrow3 0 _ rfl; have d1 := hrow3 1 _ rfl; have d2 := hrow3 2 _ rfl; have d3 := hrow3 3 _ rfl; have d4 := hrow3 4 _ rfl; have d5 := hrow3 5 _ rfl
        simp only [Nat.add_zero] at d0
        simp only [encA] at hcl
        have hb2r : b2 < wr.heap.size := Nat.lt_of_lt_of_le hbs2 hsz
        clear hrow1 hrow3 hok hok2
        have hltz : (j : Int) < len := by omega
        have hjz : (0 : Int) ≤ (j : Int) := by omega
        cases hq : sameA ⟨nm, k, n, x, s, y⟩ ⟨nm2, k2, n2, x2, s2, y2⟩
        · rw [hq] at hcl
          have hbad := HBad.out hq
          have HBad2 : Aside _ := hbad
          clear hbad HGo
          go_wp2_with (go_at_call 23; refine (hcl _).mono ?_; rintro e w3 ⟨rfl, hb3⟩; have HB3 : Aside (Below w.heap.size w w3) := ((HB.out.alloc hsz _).alloc (by simp; omega) _).trans (hb3.mono (by simp; omega)); clear hb3 hcl)
          go_ret
          exact ⟨congrArg (fun b => Ending.returned (Value.bool b)) HBad2.out.symm, HB3.out⟩
        · rw [hq] at hcl
          have hgo := HGo.out hq
          have HGo2 : Aside _ := hgo
          clear hgo HBad HGo
          go_wp2_with (go_at_call 23; refine (hcl _).mono ?_; rintro e w3 ⟨rfl, hb3⟩; have HB3 : Aside (Below w.heap.size w w3) := ((HB.out.alloc hsz _).alloc (by simp; omega) _).trans (hb3.mono (by simp; omega)); clear hb3 hcl)
          go_roundg (len - (j + 1))
          case measure => omega
          case rel => exact ⟨j + 1, by go_num, hlt, Nat.le_refl _, HGo2, HB3⟩
      · obtain rfl : j = len := by omega
        have hs : sameL l m = true := by
          unfold sameL
          rw [← HLen.out, ← HLen2.out, hall.out]; simp
        go_wp2
        go_ret
        exact ⟨congrArg (fun b => Ending.returned (Value.bool b)) hs.symm, HB.out⟩
  · have hs : sameL l m = false := by
      unfold sameL
      rw [← HLen.out, ← HLen2.out]; simp [hne]
    have hnz : ((len : Int) != len2) = true := by rw [bne_iff_ne]; omega
    have hnz2 : ¬ (len : Int) = len2 := by omega
    rw [hs]
    go_enter Tryd.func22, Tryd.ntmps22
    go_wp2
    go_ret
    exact ⟨rfl, Below.refl _ _⟩

set_option maxHeartbeats 2000000 in
theorem sameE_c (sc sc2 : ByteArray) (ao bo : Option Addr) (cap cap2 : Nat) (l m : List At) (w : World) (hl : SliceA w ao l) (hm : SliceA w bo m) (hlx : ∀ a ∈ l, a.x < 18446744073709551616) (hmx : ∀ a ∈ m, a.x < 18446744073709551616)
    (hlen : l.length < 4611686018427387904) (hlen2 : m.length < 4611686018427387904) :
    Calls Tryd.prog 11 #[.agg #[.string sc, .slice ao l.length cap], .agg #[.string sc2, .slice bo m.length cap2]] w fun e w' => e = .returned (.bool (sc.toList == sc2.toList && sameL l m)) ∧ Below w.heap.size w w' := by
  have hb : Below w.heap.size w ((w.alloc (.cells #[.string sc, .slice ao l.length cap] 26)).alloc (.cells #[.string sc2, .slice bo m.length cap2] 26)) := ((Below.refl _ w).alloc (Nat.le_refl _) _).alloc (by simp) _
  have keep : ∀ (o : Option Addr) (q : List At), SliceA w o q → SliceA ((w.alloc (.cells #[.string sc, .slice ao l.length cap] 26)).alloc (.cells #[.string sc2, .slice bo m.length cap2] 26)) o q := fun o q h => by
    rcases h with h | ⟨b, off, h1, h2, h3⟩
    · exact Or.inl h
    · exact Or.inr ⟨b, off, h1, Nat.lt_of_lt_of_le h2 hb.size, RowAt.below hb h2 h3⟩
  have hc := equalFunc_c ao bo cap cap2 l m _ (keep ao l hl) (keep bo m hm) hlx hmx hlen hlen2
  have HB : Aside _ := hb
  clear keep hb hl hm hlx hmx
  cases h : (sc.toList == sc2.toList)
  · rw [Bool.false_and]
    go_enter Tryd.func11, Tryd.ntmps11
    go_wp2
    go_ret
    exact ⟨rfl, HB.out⟩
  · rw [Bool.true_and]
    go_enter Tryd.func11, Tryd.ntmps11
    go_wp2_with fail
    refine hc.mono ?_
    rintro e w1 ⟨rfl, hb1⟩
    have HB1 : Aside (Below w.heap.size w w1) := HB.out.trans (hb1.mono (by simp; omega))
    clear hb1 hc
    go_wp2_with fail
    go_ret
    exact ⟨rfl, HB1.out⟩
end Go.Proofs.YtjnfbinomljocaaDoor
