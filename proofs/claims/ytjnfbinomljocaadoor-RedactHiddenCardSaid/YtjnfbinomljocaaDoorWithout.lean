/- event.Without of any event and names. -/
import Derived.Test.YtjnfbinomljocaaDoorGaI
import Derived.Test.YtjnfbinomljocaaDoorShelf
namespace Go.Proofs.YtjnfbinomljocaaDoor
open Go.RowKit Go.Shelf Go.Sort
open Go.Proofs
set_option maxRecDepth 100000

/-- Names that lie in the world; or none. -/
def StrsA (w : World) (bo : Option Addr) (ns : List ByteArray) : Prop := ns = [] ∨ ∃ b off, bo = some ⟨b, off, none⟩ ∧ b < w.heap.size ∧ ∀ j, j < ns.length → w.cell? ⟨b, off + j, none⟩ = some (.string (ns.getD j ByteArray.empty))
theorem StrsA.below {w w' : World} {n : Nat} {bo : Option Addr} {ns : List ByteArray} (h : StrsA w bo ns) (hb : Below n w w') (hn : n = w.heap.size) : StrsA w' bo ns := by
  subst hn
  rcases h with h | ⟨b, off, h1, h2, h3⟩
  · exact Or.inl h
  · exact Or.inr ⟨b, off, h1, Nat.lt_of_lt_of_le h2 hb.size, fun j hj => (hb.cell (p := ⟨b, off + j, none⟩) h2).trans (h3 j hj)⟩
theorem contains_c (bo : Option Addr) (cap : Nat) (ns : List ByteArray) (x : ByteArray) (w : World) (h : StrsA w bo ns) (hn : ns.length ≤ 9223372036854775807) :
    Calls Tryd.prog 46 #[.slice bo ns.length cap, .string x] w fun e w' => e = .returned (.bool (Lib.containsS ns x)) ∧ w' = w := by
  rcases h with rfl | ⟨b, off, rfl, _, h3⟩
  · exact Tryd.slices_Contains_string_empty bo cap x w
  · have := Tryd.slices_Contains_string b off ns.length cap ns x w (Nat.le_refl _) hn h3
    rwa [List.take_length] at this

def withoutL (l : List At) (ns : List ByteArray) : List At := l.filter fun a => !Lib.containsS ns a.nm
theorem withoutL_snoc (l : List At) (ns : List ByteArray) (a : At) : withoutL (l ++ [a]) ns = if Lib.containsS ns a.nm then withoutL l ns else withoutL l ns ++ [a] := by
  unfold withoutL
  rw [List.filter_append]
  cases h : Lib.containsS ns a.nm <;> simp [h]

theorem own_slice2 {w : World} {base : Nat} {e : TypeId} {v : Value} {l : List At} (h : w.ownsRow base e 6 v l.length (l.flatMap encA)) : ∃ ao cap, v = .slice ao l.length cap ∧ (l = [] ∨ ∃ g, ao = some ⟨g, 0, none⟩ ∧ base ≤ g ∧ g < w.heap.size ∧ RowAt w g 0 l) := by
  obtain ⟨ao, cap, rfl, hs⟩ := own_slice h
  refine ⟨ao, cap, rfl, ?_⟩
  rcases hs with hs | ⟨b, off, rfl, h2, h3⟩
  · exact Or.inl hs
  · right
    rcases h.2 with ⟨h0, _⟩ | ⟨g, c2, cur, hv, hbg, _⟩
    · cases h0
    · injection hv with hv1
      injection hv1 with hv2
      injection hv2 with hv3 hv4
      subst hv3 hv4
      exact ⟨b, rfl, hbg, h2, h3⟩

set_option maxHeartbeats 4000000 in
theorem without_c (sc : ByteArray) (ao bo : Option Addr) (cap cap2 : Nat) (l : List At) (ns : List ByteArray) (w : World) (hl : SliceA w ao l) (hns : StrsA w bo ns) (hlen : l.length ≤ 39) (hn : ns.length ≤ 9223372036854775807) :
    Calls Tryd.prog 21 #[.agg #[.string sc, .slice ao l.length cap], .slice bo ns.length cap2] w fun e w' => ∃ ro rcap, e = .returned (.agg #[.string sc, .slice ro (withoutL l ns).length rcap]) ∧
      Aside (SliceA w' ro (withoutL l ns) ∧ Below w.heap.size w w') := by
  obtain ⟨i0, z0, hi, hz0, hz1, hz2, hz3⟩ := attr_info
  obtain ⟨len, hL⟩ : ∃ len, len = l.length := ⟨_, rfl⟩
  obtain ⟨nlen, hN⟩ : ∃ len, len = ns.length := ⟨_, rfl⟩
  have HLen : Aside (len = l.length) := hL
  have HNL : Aside (nlen = ns.length) := hN
  have HS : Aside (SliceA w ao l) := hl
  have HNS : Aside (StrsA w bo ns) := hns
  have HNN : Aside (ns.length ≤ 9223372036854775807) := hn
  rw [← hL] at hlen ⊢
  rw [← hN]
  clear hL hl hN hns hn
  obtain ⟨W0, hW0⟩ : ∃ W0, W0 = (w.alloc (.cells #[.string sc, .slice ao len cap] 26)).alloc (.cells #[.string ⟨#[]⟩, .slice none 0 0] 26) := ⟨_, rfl⟩
  have hB0 : Below w.heap.size w W0 := by rw [hW0]; exact ((Below.refl _ _).alloc (Nat.le_refl _) _).alloc (by simp) _
  have hz00 : W0.heap.size = w.heap.size + 2 := by rw [hW0]; simp
  have b0 : W0.cell? ⟨w.heap.size, 0, none⟩ = some (.string sc) := by
    rw [hW0, World.cell?_alloc_lt _ _ _ (by simp), World.cell?_alloc_new]; rfl
  have b1 : W0.heap[w.heap.size + 1]? = some (.cells #[.string ⟨#[]⟩, .slice none 0 0] 26) := by
    rw [hW0]
    have := heap_alloc_new (w.alloc (.cells #[.string sc, .slice ao len cap] 26)) (.cells #[.string ⟨#[]⟩, .slice none 0 0] 26)
    rw [World.size_alloc] at this; exact this
  have HB0 : Aside (Below w.heap.size w W0) := hB0
  have B0 : Aside _ := b0
  have B1 : Aside _ := b1
  clear hB0 b0 b1
  go_enter Tryd.func21, Tryd.ntmps21
  go_wp2_with fail
  rw [← hW0]
  go_loopg [5, 11] len (fun kx v s11 wr => ∃ j : Nat, s11 = .int .i64 j ∧ j ≤ len ∧ len - j ≤ kx ∧ Aside (wr.ownsRow (w.heap.size + 2) 51 6 v (withoutL (l.take j) ns).length ((withoutL (l.take j) ns).flatMap encA)) ∧ Aside (Below (w.heap.size + 2) W0 wr))
  case atStart => exact ⟨0, rfl, Nat.zero_le _, by omega, World.ownsRow_nil _ _ _ _, Below.refl _ _⟩
  case round =>
    clear hW0
    obtain ⟨j, rfl, hj, hjx, hown, HB⟩ := hrel
    have hsz := HB.out.size
    rw [hz00] at hsz
    by_cases hlt : j < len
    · have hk : (withoutL (l.take j) ns).length ≤ j := Nat.le_trans (List.length_filter_le _ _) (by rw [List.length_take]; omega)
      rcases HS.out with h0 | ⟨b, off, hao, hbs, hrow⟩
      · rw [h0] at HLen; exact absurd HLen.out (by simp; omega)
      subst hao
      have hBW : Below w.heap.size w wr := HB0.out.trans (HB.out.mono (by omega))
      have hrow1 := RowAt.below hBW hbs hrow j (by rw [← HLen.out]; exact hlt)
      have hcon := fun x W h => contains_c bo cap2 ns x W h HNN.out
      rw [← HNL.out] at hcon
      have HBW : Aside _ := hBW
      clear hrow hBW
      have hts := take_succ l j (by rw [← HLen.out]; exact hlt)
      obtain ⟨a, ha⟩ : ∃ a, a = l[j]! := ⟨_, rfl⟩
      rw [← ha] at hrow1 hts
      clear ha
      have hsn := withoutL_snoc (l.take j) ns a
      rw [← hts] at hsn
      have HSN : Aside _ := hsn
      have hrc := row_cells a (wr.alloc (.cells (encA a).toArray 51)) 51
      rw [World.size_alloc] at hrc
      clear hts hsn
      obtain ⟨nm, k, n, x, s, y⟩ := a
      have c0 := hrow1 0 _ rfl; have c1 := hrow1 1 _ rfl; have c2 := hrow1 2 _ rfl; have c3 := hrow1 3 _ rfl; have c4 := hrow1 4 _ rfl; have c5 := hrow1 5 _ rfl
      simp only [Nat.add_zero] at c0
      clear hrow1
      have hltz : (j : Int) < len := by omega
      have hjz : (0 : Int) ≤ (j : Int) := by omega
      go_wp2_with fail
      refine (hcon nm _ (HNS.out.below (HBW.out.alloc HBW.out.size _) rfl)).mono ?_
      rintro e w3 ⟨rfl, rfl⟩
      cases hq : Lib.containsS ns nm
      · go_wp2_with (at_builtin; refine wpList_append_own _ rfl _ _ 24 rfl (w.heap.size + 2) 51 i0 z0 6 64 Tryd.underlying24 hi hz0 hz1 hz2 hz3 (by decide) _ _ _ rfl ((hown.out.alloc _).alloc _) ⟨wr.heap.size + 1, 0, none⟩ 1 1 (encA ⟨nm, k, n, x, s, y⟩) rfl rfl hrc (encA_one _) (by unfold maxLen; omega) (by omega) (by simp; omega) ?_; intro v' w3 hown' hgrow3 hnil3)
        go_roundg (len - (j + 1))
        case measure => omega
        case rel => exact ⟨j + 1, by go_num, hlt, Nat.le_refl _, by
          rw [HSN.out, hq]
          simp only [Bool.false_eq_true, if_false, List.length_append, List.flatMap_append, List.flatMap_cons, List.flatMap_nil, List.append_nil, List.length_singleton]
          exact hown', ((HB.out.alloc (by omega) _).alloc (by simp; omega) _).grown hgrow3 (by simp; omega) (fun q hq => (hown.out.lt q hq).1)⟩
      · go_wp2_with fail
        go_roundg (len - (j + 1))
        case measure => omega
        case rel => exact ⟨j + 1, by go_num, hlt, Nat.le_refl _, by
          rw [HSN.out, hq]
          simp only [if_true]
          exact hown.out.alloc _, HB.out.alloc (by omega) _⟩
    · obtain rfl : j = len := by omega
      have hr0 : l.take j = l := by rw [HLen.out, List.take_length]
      rw [hr0] at hown
      obtain ⟨ro, rcap, hv, hrow⟩ := own_slice2 hown.out
      subst hv
      have HRow : Aside _ := hrow
      clear hrow hown
      have b0 := (HB.out.cell (p := ⟨w.heap.size, 0, none⟩) (by simp)).trans B0.out
      have hblk := (HB.out.block (w.heap.size + 1) (by omega)).trans B1.out
      have r0 : wr.cell? ⟨w.heap.size + 1, 0, none⟩ = some (.string ⟨#[]⟩) := by simp [World.cell?, hblk]
      have r1 : wr.cell? ⟨w.heap.size + 1, 1, none⟩ = some (.slice none 0 0) := by simp [World.cell?, hblk]
      have f0 : wr.frozen? ⟨w.heap.size + 1, 0, none⟩ = false := by simp [World.frozen?, hblk]
      have f1 : wr.frozen? ⟨w.heap.size + 1, 1, none⟩ = false := by simp [World.frozen?, hblk]
      clear hblk
      have hsl : SliceA ((wr.setCell ⟨w.heap.size + 1, 0, none⟩ (.string sc)).setCell ⟨w.heap.size + 1, 1, none⟩ (.slice ro (withoutL l ns).length rcap)) ro (withoutL l ns) := by
        rcases HRow.out with h | ⟨g, h1, h2, h3, h4⟩
        · exact Or.inl h
        · refine Or.inr ⟨g, 0, h1, by simpa using h3, fun j hj c v hv => ?_⟩
          have hne : ∀ i i2, (⟨w.heap.size + 1, i, none⟩ : Addr) ≠ ⟨g, i2, none⟩ := fun i i2 e => by injection e; omega
          rw [World.cell?_setCell_other _ _ _ _ (by first | exact hne _ _ | exact (hne _ _).symm), World.cell?_setCell_other _ _ _ _ (by first | exact hne _ _ | exact (hne _ _).symm)]
          exact h4 j hj c v hv
      have x1 := World.cell?_setCell_same (wr.setCell ⟨w.heap.size + 1, 0, none⟩ (.string sc)) ⟨w.heap.size + 1, 1, none⟩ (.slice ro (withoutL l ns).length rcap) ((oth (by decide)).trans r1)
      have x0 := (oth (W := wr.setCell ⟨w.heap.size + 1, 0, none⟩ (.string sc)) (R := w.heap.size + 1) (i := 1) (j := 0) (v := .slice ro (withoutL l ns).length rcap) (by decide)).trans (World.cell?_setCell_same wr ⟨w.heap.size + 1, 0, none⟩ (.string sc) r0)
      have hBX : Below w.heap.size w ((wr.setCell ⟨w.heap.size + 1, 0, none⟩ (.string sc)).setCell ⟨w.heap.size + 1, 1, none⟩ (.slice ro (withoutL l ns).length rcap)) := ((HB0.out.trans (HB.out.mono (by omega))).setCell (p := ⟨w.heap.size + 1, 0, none⟩) (by simp) _).setCell (p := ⟨w.heap.size + 1, 1, none⟩) (by simp) _
      have HX : Aside _ := And.intro hsl hBX
      clear hsl hBX
      go_wp2_with fail
      generalize (wr.setCell ⟨w.heap.size + 1, 0, none⟩ (.string sc)).setCell ⟨w.heap.size + 1, 1, none⟩ (.slice ro (withoutL l ns).length rcap) = X at *
      refine bodyPost_ret (v := .agg #[.string sc, .slice ro (withoutL l ns).length rcap]) (by simp [results, Tryd.results21, go_sem, x0, x1]) rfl ⟨ro, rcap, rfl, HX⟩
end Go.Proofs.YtjnfbinomljocaaDoor
