/- EventGets: an attribute is found by its name, wherever it stands; others are not. -/
import Derived.Test.YtlabjpkjmijbnaaGreatDoorWithout
namespace Go.Proofs.YtlabjpkjmijbnaaGreatDoor
open Go.RowKit Go.Shelf Go.Sort
open Go.Proofs
set_option maxRecDepth 100000

theorem SliceA.below {w w' : World} {ao : Option Addr} {l : List At} (h : SliceA w ao l) (hb : Below w.heap.size w w') : SliceA w' ao l := by
  rcases h with h | ⟨b, off, h1, h2, h3⟩
  · exact Or.inl h
  · exact Or.inr ⟨b, off, h1, Nat.lt_of_lt_of_le h2 hb.size, RowAt.below hb h2 h3⟩
theorem canon_x (a : At) (h : AtOk a) : (canonA a).x < 18446744073709551616 := by
  unfold canonA
  repeat' split
  all_goals first | (show (0 : Nat) < _; decide) | skip
  show fcanon a.x < _
  unfold fcanon
  repeat' split
  · decide
  · decide
  · exact h
theorem vsame_refl (a : At) : vsame a a = true := by
  unfold vsame sameV; simp
theorem sameL_refl (l : List At) : sameL l l = true := by
  unfold sameL sameA
  simp [vsame_refl]
theorem getA_key (l : List At) (name : ByteArray) : getA l name = l.find? (fun a => keyA a == name.data.toList) := by
  unfold getA keyA
  congr 1
  funext a
  rw [bytes_toList, bytes_toList]
theorem get_new {l res : List At} (h : NewOf l res) (name : ByteArray) : getA res name = (getA l.reverse name).map canonA := by
  rw [getA_key, getA_key, h.find]
theorem without_none {res : List At} {name : ByteArray} (h : getA res name = none) : withoutL res [name] = res := by
  unfold withoutL
  rw [List.filter_eq_self]
  intro a ha
  unfold getA at h
  rw [List.find?_eq_none] at h
  have h1 := h a ha
  cases hc : Lib.containsS [name] a.nm with
  | false => rfl
  | true =>
    rw [Lib.containsS_iff] at hc
    simp only [List.mem_singleton] at hc
    rw [hc] at h1; simp at h1
theorem light_len {l : List At} (h : lightB l = true) : l.length ≤ 30 := by
  simp only [lightB, Bool.and_eq_true, decide_eq_true_eq] at h
  exact h.2
theorem rev_get (l : List At) (q : Nat) (h : q < l.length) : l.reverse = (l.drop (q + 1)).reverse ++ (l[q]! :: (l.take q).reverse) := by
  have h1 := List.take_append_drop q l
  rw [List.drop_eq_getElem_cons h, ← getElem!_pos l q h] at h1
  conv => lhs; rw [← h1]
  rw [List.reverse_append, List.reverse_cons, List.append_assoc]
  rfl
theorem drop_get (l : List At) (q : Nat) (h : q < l.length) (name : ByteArray) (hn : getA (l.drop (q + 1)).reverse name = none) (hf : (l[q]!.nm.toList == name.toList) = false) : getA (l.drop q).reverse name = none := by
  rw [List.drop_eq_getElem_cons h, ← getElem!_pos l q h, List.reverse_cons]
  unfold getA at hn ⊢
  rw [List.find?_append, hn, List.find?_cons, hf]; rfl

set_option maxHeartbeats 8000000 in
theorem eventGets_c (ao : Option Addr) (cap : Nat) (l : List At) (name : ByteArray) (w : World) (hl : SliceA w ao l) (ho : ∀ a ∈ l, AtOk a) (hlen : l.length ≤ 9223372036854775807) :
    Calls Tryz.prog 7 #[.slice ao l.length cap, .string name] w fun e w' => e = .returned (.bool true) ∧ Below w.heap.size w w' := by
  have HS : Aside (SliceA w ao l) := hl
  have HO : Aside (∀ a ∈ l, AtOk a) := ho
  have HLI : Aside (∀ W, SliceA W ao l → Calls Tryz.prog 11 #[.slice ao l.length cap] W fun e w' => e = .returned (.bool (lightB l)) ∧ Below W.heap.size W w') := fun W h => light_c ao cap l W h hlen
  have HNW : Aside (∀ W, SliceA W ao l → l.length ≤ 39 → Calls Tryz.prog 12 #[.string ⟨#[]⟩, .slice ao l.length cap] W fun e w' => ∃ (G : Nat) (res : List At), e = .returned (.agg #[.string ⟨#[]⟩, .slice (some ⟨G, 0, none⟩) res.length l.length]) ∧
      Aside (W.heap.size ≤ G ∧ G < w'.heap.size ∧ RowAt w' G 0 res ∧ NewOf l res ∧ Below W.heap.size W w')) := fun W h h2 => new_c ⟨#[]⟩ ao cap l h2 W h
  clear hl ho
  obtain ⟨len, hL⟩ : ∃ len, len = l.length := ⟨_, rfl⟩
  have HLen : Aside (len = l.length) := hL
  rw [← hL] at HLI HNW hlen ⊢
  clear hL
  go_enter Tryz.func7, Tryz.ntmps7
  go_wp2_with fail
  refine (fit_c w).mono ?_
  rintro e w1 ⟨rfl, hb1⟩
  have HB1 : Aside (Below w.heap.size w w1) := hb1
  clear hb1
  go_wp2_with fail
  refine (HLI.out w1 (HS.out.below HB1.out)).mono ?_
  rintro e w2 ⟨rfl, hb2⟩
  have HB2 : Aside (Below w.heap.size w w2) := HB1.out.trans (hb2.mono HB1.out.size)
  clear hb2 HB1 HLI
  cases hli : lightB l
  · go_wp2_with fail
    go_ret
    exact ⟨rfl, HB2.out⟩
  have hl30 : len ≤ 30 := by rw [HLen.out]; exact light_len hli
  by_cases hnm : (100 : Int) < (name.size : Int)
  · go_wp2_with fail
    go_ret
    exact ⟨rfl, HB2.out⟩
  go_wp2_with fail
  refine (HNW.out w2 (HS.out.below HB2.out) (by omega)).mono ?_
  rintro e w3 ⟨G, res, rfl, hA⟩
  obtain ⟨hG1, hG2, hrow, hno, hb3⟩ := hA.out
  have HB3 : Aside (Below w.heap.size w w3) := HB2.out.trans (hb3.mono HB2.out.size)
  have hgn := get_new hno name
  have hrl : res.length ≤ len := by rw [HLen.out]; exact hno.len
  have hrx : ∀ a ∈ res, a.x < 18446744073709551616 := fun a ha => by
    obtain ⟨z, hz, rfl⟩ := hno.mem a ha
    exact canon_x z (HO.out z hz)
  have HR : Aside (RowAt w3 G 0 res) := hrow
  have HGN : Aside _ := hgn
  have HRX : Aside _ := hrx
  have hzG := hG2
  have hz3 := HB3.out.size
  clear hrow hno hb3 hA hgn hrx HNW hnm hG1 HB2
  obtain ⟨rl, hrle⟩ : ∃ rl, rl = res.length := ⟨_, rfl⟩
  have HRL : Aside (rl = res.length) := hrle
  rw [← hrle] at hrl ⊢
  have HGet : Aside (∀ W, SliceA W (some ⟨G, 0, none⟩) res → Calls Tryz.prog 15 #[.agg #[.string ⟨#[]⟩, .slice (some ⟨G, 0, none⟩) rl len], .string name] W fun e w' => e = .returned (getV (getA res name)) ∧ Below W.heap.size W w') := fun W h => by
    rw [hrle]; exact get_c ⟨#[]⟩ name (some ⟨G, 0, none⟩) len res W h (by omega)
  clear hrle
  go_wp2_with fail
  have hb4 : Below w3.heap.size w3 (w3.alloc (.cells #[.string ⟨#[]⟩, .slice (some ⟨G, 0, none⟩) rl len] 26)) := (Below.refl _ _).alloc (Nat.le_refl _) _
  refine (HGet.out _ (Or.inr ⟨G, 0, rfl, by simp; omega, RowAt.below hb4 hG2 HR.out⟩)).mono ?_
  rintro e w4 ⟨rfl, hb5⟩
  have e0 := (hb5.cell (p := ⟨w3.heap.size, 0, none⟩) (by simp)).trans (World.cell?_alloc_new w3 #[.string ⟨#[]⟩, .slice (some ⟨G, 0, none⟩) rl len] 26 0)
  have e1 := (hb5.cell (p := ⟨w3.heap.size, 1, none⟩) (by simp)).trans (World.cell?_alloc_new w3 #[.string ⟨#[]⟩, .slice (some ⟨G, 0, none⟩) rl len] 26 1)
  simp only [List.getElem?_toArray, List.getElem?_cons_zero, List.getElem?_cons_succ] at e0 e1
  have hz4 : w3.heap.size < w4.heap.size := by have := hb5.size; simp at this; omega
  have HR4 : Aside (RowAt w4 G 0 res) := RowAt.below (hb4.trans (hb5.mono (by simp))) hG2 HR.out
  have HB4 : Aside (Below w.heap.size w w4) := (HB3.out.alloc hz3 _).trans (hb5.mono (by simp; omega))
  have hG4 : G < w4.heap.size := by omega
  clear hb4 hb5 HR HB3 HGet
  generalize hEE : w3.heap.size = E at *
  have HE : Aside (w.heap.size ≤ E) := hz3
  have hGE : Aside (G < E) := hG2
  clear hz3 hG2 hzG hEE
  cases hf : getA l.reverse name with
  | some a0 =>
    have hg := HGN.out
    rw [hf] at hg
    simp only [Option.map_some] at hg
    rw [hg]
    obtain ⟨c, hc⟩ : ∃ c, c = canonA a0 := ⟨_, rfl⟩
    have HC : Aside (c = canonA a0) := hc
    rw [← hc]
    clear hc hg
    obtain ⟨nm', k', n', x', s', y'⟩ := c
    simp only [getV]
    have HF : Aside (getA l.reverse name = some a0) := hf
    clear hf
    have HS4 : Aside (SliceA w4 ao l) := HS.out.below HB4.out
    have hlz : (len : Int) ≤ 30 := by omega
    go_wp2_with fail
    have HB5 : Aside (Below w.heap.size w (w4.alloc (.cells #[.int .i64 k', .int .i64 n', .float .f64 x', .string s', .bool y'] 31))) := HB4.out.alloc HB4.out.size _
    have HS5 : Aside (SliceA (w4.alloc (.cells #[.int .i64 k', .int .i64 n', .float .f64 x', .string s', .bool y'] 31)) ao l) := HS4.out.below ((Below.refl _ _).alloc (Nat.le_refl _) _)
    have vv := World.cell?_alloc_new w4 #[.int .i64 k', .int .i64 n', .float .f64 x', .string s', .bool y'] 31
    have v0 := vv 0; have v1 := vv 1; have v2 := vv 2; have v3 := vv 3; have v4 := vv 4
    simp only [List.getElem?_toArray, List.getElem?_cons_zero, List.getElem?_cons_succ] at v0 v1 v2 v3 v4
    have hzV : w4.heap.size < (w4.alloc (.cells #[.int .i64 k', .int .i64 n', .float .f64 x', .string s', .bool y'] 31)).heap.size := by simp
    clear vv HR4 HS4 e0 e1 HB4 HRX
    generalize w4.alloc (.cells #[.int .i64 k', .int .i64 n', .float .f64 x', .string s', .bool y'] 31) = w5 at *
    generalize w4.heap.size = V at *
    go_loop [8] (fun z => ∃ q : Nat, q ≤ len ∧ z = .int .i64 ((q : Int) - 1) ∧ Aside (getA (l.drop q).reverse name = none)) (fun z => (RowKit.intOf z + 1).toNat)
    case atStart => exact ⟨len, Nat.le_refl _, by first | rfl | go_num, by show getA (l.drop len).reverse name = none; rw [HLen.out, List.drop_length]; rfl⟩
    case round =>
      obtain ⟨q, hq, rfl, hall⟩ := hrel
      cases q with
      | zero =>
        have h1 := hall.out
        rw [List.drop_zero, HF.out] at h1
        cases h1
      | succ q =>
        rcases HS5.out with h0 | ⟨b, off, hao, hbs, hrow⟩
        · rw [h0] at HLen; exact absurd HLen.out (by simp; omega)
        subst hao
        have hql : q < l.length := by rw [← HLen.out]; omega
        have hrow1 := hrow q hql
        have HDG : Aside _ := drop_get l q hql name hall.out
        have hrv : (l[q]!.nm.toList == name.toList) = true → a0 = l[q]! := fun h => by
          have h1 := HF.out
          rw [rev_get l q hql] at h1
          have h2 := hall.out
          unfold getA at h1 h2
          rw [List.find?_append, h2, List.find?_cons, h] at h1
          simpa using h1.symm
        have hok := HO.out _ (get_mem l q hql)
        have hcl := fun W => canonA_c l[q]! W
        obtain ⟨a, ha⟩ : ∃ a, a = l[q]! := ⟨_, rfl⟩
        rw [← ha] at hrow1 HDG hrv hok
        rw [← ha] at hcl
        clear hrow ha hql
        have c0 := hrow1 0 _ rfl; have c1 := hrow1 1 _ rfl; have c2 := hrow1 2 _ rfl; have c3 := hrow1 3 _ rfl; have c4 := hrow1 4 _ rfl; have c5 := hrow1 5 _ rfl
        simp only [Nat.add_zero] at c0
        clear hrow1
        have ez : ((q + 1 : Nat) : Int) - 1 = (q : Int) := by omega
        rw [ez]
        have qz : (q : Int) < (len : Int) := by omega
        have qz0 : (0 : Int) ≤ (q : Int) := by omega
        cases hq2 : (a.nm.toList == name.toList)
        · have hdg := HDG.out hq2
          have HDG2 : Aside _ := hdg
          clear hdg HDG hrv hcl v0 v1 v2 v3 v4
          go_wp2_with fail
          go_round
          case rel => exact ⟨q, by omega, by go_num, HDG2⟩
          case measure => simp only [RowKit.intOf]; omega
        · obtain rfl := hrv hq2
          have hcx := canon_x a0 hok
          rw [← HC.out] at hcl hcx
          simp only [] at hcl hcx
          have hvs : (k' == k' && sameV k' n' n' x' x' s' s' y' y') = true := by unfold sameV; simp
          have hsm := fun W => vsame_c k' k' n' n' x' x' s' s' y' y' W hcx hcx
          rw [hvs] at hsm
          obtain ⟨nm, k, n, x, s, y⟩ := a0
          simp only [] at hcl c0 c1 c2 c3 c4 c5 hq2
          clear HC HF HO hok hcx hvs HDG hall
          go_wp2_with fail
          go_region_with (first
            | (go_at_call 14; refine (hcl _).mono ?_; rintro e w6 ⟨rfl, hb6⟩; have u0 := (hb6.cell (p := ⟨V, 0, none⟩) hzV).trans v0; have u1 := (hb6.cell (p := ⟨V, 1, none⟩) hzV).trans v1; have u2 := (hb6.cell (p := ⟨V, 2, none⟩) hzV).trans v2; have u3 := (hb6.cell (p := ⟨V, 3, none⟩) hzV).trans v3; have u4 := (hb6.cell (p := ⟨V, 4, none⟩) hzV).trans v4; have HB6 : Aside (Below w.heap.size w w6) := HB5.out.trans (Below.mono ⟨hb6.os, hb6.tape, hb6.output, hb6.size, hb6.block⟩ HB5.out.size))
            | (go_at_call 13; refine (hsm _).mono ?_; rintro e w7 ⟨rfl, hb7⟩; have HB7 : Aside (Below w.heap.size w w7) := HB6.out.trans (hb7.mono HB6.out.size)))
          all_goals (go_wp2_with fail; go_ret; exact ⟨rfl, HB7.out⟩)
  | none =>
    have hg := HGN.out
    rw [hf] at hg
    simp only [Option.map_none] at hg
    rw [hg]
    simp only [getV]
    have HF : Aside (getA l.reverse name = none) := hf
    have HWO : Aside (withoutL res [name] = res) := without_none hg
    clear hf hg
    have HS4 : Aside (SliceA w4 ao l) := HS.out.below HB4.out
    have hlz : (len : Int) ≤ 30 := by omega
    go_wp2_with fail
    have HB5 : Aside (Below w.heap.size w (w4.alloc (.cells #[.int .i64 0, .int .i64 0, .float .f64 0, .string ⟨#[]⟩, .bool false] 31))) := HB4.out.alloc HB4.out.size _
    have HS5 : Aside (SliceA (w4.alloc (.cells #[.int .i64 0, .int .i64 0, .float .f64 0, .string ⟨#[]⟩, .bool false] 31)) ao l) := HS4.out.below ((Below.refl _ _).alloc (Nat.le_refl _) _)
    have HR5 : Aside (RowAt (w4.alloc (.cells #[.int .i64 0, .int .i64 0, .float .f64 0, .string ⟨#[]⟩, .bool false] 31)) G 0 res) := RowAt.below ((Below.refl w4.heap.size _).alloc (Nat.le_refl _) _) hG4 HR4.out
    have vv := World.cell?_alloc_new w4 #[.int .i64 0, .int .i64 0, .float .f64 0, .string ⟨#[]⟩, .bool false] 31
    have v0 := vv 0; have v1 := vv 1; have v2 := vv 2; have v3 := vv 3; have v4 := vv 4
    simp only [List.getElem?_toArray, List.getElem?_cons_zero, List.getElem?_cons_succ] at v0 v1 v2 v3 v4
    have hzV : w4.heap.size < (w4.alloc (.cells #[.int .i64 0, .int .i64 0, .float .f64 0, .string ⟨#[]⟩, .bool false] 31)).heap.size := by simp
    have k0 := (World.cell?_alloc_lt w4 (.cells #[.int .i64 0, .int .i64 0, .float .f64 0, .string ⟨#[]⟩, .bool false] 31) ⟨E, 0, none⟩ hz4).trans e0
    have k1 := (World.cell?_alloc_lt w4 (.cells #[.int .i64 0, .int .i64 0, .float .f64 0, .string ⟨#[]⟩, .bool false] 31) ⟨E, 1, none⟩ hz4).trans e1
    have hzE : E < (w4.alloc (.cells #[.int .i64 0, .int .i64 0, .float .f64 0, .string ⟨#[]⟩, .bool false] 31)).heap.size := by simp; omega
    clear vv HR4 HS4 e0 e1 HB4 hz4
    generalize w4.alloc (.cells #[.int .i64 0, .int .i64 0, .float .f64 0, .string ⟨#[]⟩, .bool false] 31) = w5 at *
    generalize w4.heap.size = V at *
    have hzG5 : G < w5.heap.size := by omega
    have HW2 : Aside (∀ W B c2, Below w5.heap.size w5 W → W.cell? ⟨B, 0, none⟩ = some (.string name) → Calls Tryz.prog 20 #[.agg #[.string ⟨#[]⟩, .slice (some ⟨G, 0, none⟩) rl len], .slice (some ⟨B, 0, none⟩) 1 c2] W fun e w' => ∃ ro rcap, e = .returned (.agg #[.string ⟨#[]⟩, .slice ro rl rcap]) ∧ Aside (SliceA w' ro res ∧ Below W.heap.size W w')) := fun W B c2 hb hc => by
      have hsl : SliceA W (some ⟨G, 0, none⟩) res := Or.inr ⟨G, 0, rfl, Nat.lt_of_lt_of_le hzG5 hb.size, RowAt.below hb hzG5 HR5.out⟩
      have hst : StrsA W (some ⟨B, 0, none⟩) [name] := Or.inr ⟨B, 0, rfl, World.block_lt_of_cell? W _ hc, fun j hj => by
        obtain rfl : j = 0 := by simpa using hj
        simpa using hc⟩
      have := without_c ⟨#[]⟩ (some ⟨G, 0, none⟩) (some ⟨B, 0, none⟩) len c2 res [name] W hsl hst (by rw [← HRL.out]; omega) (by simp)
      rw [HWO.out, ← HRL.out] at this
      exact this
    have HS2 : Aside (∀ W ro rcap, Below w5.heap.size w5 W → SliceA W ro res → Calls Tryz.prog 16 #[.agg #[.string ⟨#[]⟩, .slice ro rl rcap], .agg #[.string ⟨#[]⟩, .slice (some ⟨G, 0, none⟩) rl len]] W fun e w' => e = .returned (.bool true) ∧ Below W.heap.size W w') := fun W ro rcap hb hs => by
      have hsl : SliceA W (some ⟨G, 0, none⟩) res := Or.inr ⟨G, 0, rfl, Nat.lt_of_lt_of_le hzG5 hb.size, RowAt.below hb hzG5 HR5.out⟩
      have := sameE_c ⟨#[]⟩ ⟨#[]⟩ ro (some ⟨G, 0, none⟩) rcap len res res W hs hsl HRX.out HRX.out (by rw [← HRL.out]; omega) (by rw [← HRL.out]; omega)
      have hee : ((⟨#[]⟩ : ByteArray).toList == (⟨#[]⟩ : ByteArray).toList && true) = true := by simp
      rw [sameL_refl, ← HRL.out, hee] at this
      exact this
    have hsm := fun W => vsame_c 0 0 0 0 0 0 ⟨#[]⟩ ⟨#[]⟩ false false W (by decide) (by decide)
    have hvs : ((0 : Int) == 0 && sameV 0 0 0 0 0 ⟨#[]⟩ ⟨#[]⟩ false false) = true := by unfold sameV; simp
    rw [hvs] at hsm
    have HSM : Aside _ := hsm
    clear hvs hsm HRX HRL HWO
    go_loop [8] (fun z => ∃ q : Nat, q ≤ len ∧ z = .int .i64 ((q : Int) - 1) ∧ Aside (getA (l.drop q).reverse name = none)) (fun z => (RowKit.intOf z + 1).toNat)
    case atStart => exact ⟨len, Nat.le_refl _, by first | rfl | go_num, by show getA (l.drop len).reverse name = none; rw [HLen.out, List.drop_length]; rfl⟩
    case round =>
      obtain ⟨q, hq, rfl, hall⟩ := hrel
      cases q with
      | zero =>
        have ez : ((0 : Nat) : Int) - 1 = -1 := by omega
        rw [ez]
        clear hq
        go_wp2_with fail
        go_region_with (first
          | (go_at_call 13; refine (HSM.out _).mono ?_; rintro e w6 ⟨rfl, hb6⟩; have hB6 : Below w5.heap.size w5 w6 := ⟨hb6.os, hb6.tape, hb6.output, hb6.size, hb6.block⟩; have p0 := (hB6.cell (p := ⟨E, 0, none⟩) hzE).trans k0; have p1 := (hB6.cell (p := ⟨E, 1, none⟩) hzE).trans k1; have hzE6 : E < w6.heap.size := Nat.lt_of_lt_of_le hzE hB6.size; have HB6 : Aside _ := hB6; clear hB6 hb6)
          | (go_at_call 20; refine (HW2.out _ _ _ (HB6.out.alloc HB6.out.size _) (by rw [World.cell?_alloc_new]; rfl)).mono ?_; rintro e w7 ⟨ro, rcap, rfl, hA7⟩; have hB7 := HB6.out.trans (((Below.refl w6.heap.size w6).alloc (Nat.le_refl _) (.cells #[.string name] 9)).mono HB6.out.size |>.trans (hA7.out.2.mono (by have := HB6.out.size; simp; omega))); have q0 := (hB7.cell (p := ⟨E, 0, none⟩) hzE).trans k0; have q1 := (hB7.cell (p := ⟨E, 1, none⟩) hzE).trans k1; have HB7 : Aside _ := hB7; have HS7 : Aside _ := hA7.out.1; clear hB7 hA7)
          | (go_at_call 16; refine (HS2.out _ _ _ HB7.out HS7.out).mono ?_; rintro e w8 ⟨rfl, hb8⟩; have HB8 : Aside (Below w.heap.size w w8) := HB5.out.trans ((HB7.out.mono HB5.out.size).trans (hb8.mono (Nat.le_trans HB5.out.size HB7.out.size))))
          )
        all_goals (go_wp2_with fail; go_ret; exact ⟨rfl, HB8.out⟩)
      | succ q =>
        rcases HS5.out with h0 | ⟨b, off, hao, hbs, hrow⟩
        · rw [h0] at HLen; exact absurd HLen.out (by simp; omega)
        subst hao
        have hql : q < l.length := by rw [← HLen.out]; omega
        have hrow1 := hrow q hql
        have HDG : Aside _ := drop_get l q hql name hall.out
        have hrv : (l[q]!.nm.toList == name.toList) = true → False := fun h => by
          have h1 := HF.out
          rw [rev_get l q hql] at h1
          have h2 := hall.out
          unfold getA at h1 h2
          rw [List.find?_append, h2, List.find?_cons, h] at h1
          simp at h1
        obtain ⟨a, ha⟩ : ∃ a, a = l[q]! := ⟨_, rfl⟩
        rw [← ha] at hrow1 HDG hrv
        clear hrow ha hql
        have c0 := hrow1 0 _ rfl; have c1 := hrow1 1 _ rfl; have c2 := hrow1 2 _ rfl; have c3 := hrow1 3 _ rfl; have c4 := hrow1 4 _ rfl; have c5 := hrow1 5 _ rfl
        simp only [Nat.add_zero] at c0
        clear hrow1
        have ez : ((q + 1 : Nat) : Int) - 1 = (q : Int) := by omega
        rw [ez]
        have qz : (q : Int) < (len : Int) := by omega
        have qz0 : (0 : Int) ≤ (q : Int) := by omega
        cases hq2 : (a.nm.toList == name.toList)
        · have hdg := HDG.out hq2
          have HDG2 : Aside _ := hdg
          clear hdg HDG hrv v0 v1 v2 v3 v4 k0 k1
          go_wp2_with fail
          go_round
          case rel => exact ⟨q, by omega, by go_num, HDG2⟩
          case measure => simp only [RowKit.intOf]; omega
        · exact (hrv hq2).elim
end Go.Proofs.YtlabjpkjmijbnaaGreatDoor
