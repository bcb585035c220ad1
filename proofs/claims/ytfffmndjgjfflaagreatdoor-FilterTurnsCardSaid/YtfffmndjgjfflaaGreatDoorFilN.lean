/- filter.ordered and filter.Norm. -/
import Derived.Test.YtfffmndjgjfflaaGreatDoorFilA
namespace Go.Proofs.YtfffmndjgjfflaaGreatDoor
open Go.RowKit Go.Shelf Go.Sort
open Go.Proofs
set_option maxRecDepth 100000
attribute [local go_sem ↓] append_pre

theorem take_len {α : Type} (l : List α) (j : Nat) (h : j ≤ l.length) : (l.take j).length = j := by rw [List.length_take]; omega
theorem canons_at (cs : List Cn) (j : Nat) (h : j < cs.length) : (cs.map canonC).take (j + 1) = (cs.map canonC).take j ++ [canonC cs[j]!] := by
  rw [List.take_add_one, List.getElem?_eq_getElem (by rw [List.length_map]; exact h), List.getElem_map, getElem!_pos cs j h]; rfl

set_option maxHeartbeats 8000000 in
theorem ordered_c (co : Option Addr) (ccap : Nat) (cs : List Cn) (w : World) (hcs : CondsB w.heap.size w co cs) (hn : cs.length ≤ 19) (hpr : ∀ c ∈ cs, PrOk (canonC c)) (hw : Wds w) (hT : Tabs w) :
    Calls Tryz.prog 25 #[.slice co cs.length ccap] w fun e w' => ∃ ro rcap, ∃ L : List Cn, e = .returned (.slice ro cs.length rcap) ∧ Aside (Sorted (cs.map canonC).toArray L.toArray ∧ CondsB w'.heap.size w' ro L ∧ Below w.heap.size w w') := by
  obtain ⟨N, hN⟩ : ∃ N, N = cs.length := ⟨_, rfl⟩
  have HN := Lib.hid hN
  rw [← hN] at hn ⊢
  have HROW : Aside (0 < cs.length → ∃ b off, co = some ⟨b, off, none⟩ ∧ ∀ W, Below w.heap.size w W → ∀ i, i < cs.length → ∀ c v, (encC cs[i]!)[c]? = some v → W.cell? ⟨b, off + i * 7 + c, none⟩ = some v) := fun h => row_at hcs h
  have HSO : Aside (∀ (g cap : Nat) (W : World), OwnC W w.heap.size (.slice (some ⟨g, 0, none⟩) N cap) (cs.map canonC) → Below w.heap.size w W → Calls Tryz.prog 38 #[.slice (some ⟨g, 0, none⟩) N cap, .func (.func 39) #[] #[]] W fun e w' =>
      e = .returned (.tuple #[]) ∧ ∃ L : List Cn, Aside (Sorted (cs.map canonC).toArray L.toArray ∧ CondsB w'.heap.size w' (some ⟨g, 0, none⟩) L ∧ Below w.heap.size w w')) := fun g cap W hO hB => by
    have hl : (cs.map canonC).length = N := by rw [List.length_map]; exact hN.symm
    have hlt := ownC_lt hO
    have hO2 : OwnC W w.heap.size (.slice (some ⟨g, 0, none⟩) (cs.map canonC).length cap) (cs.map canonC) := by rw [hl]; exact hO
    have h := sortStableX_c N g cap w.heap.size (cs.map canonC).toArray w W ⟨⟨fun _ => rfl, encC_one, ownC_holds hO2, hlt.2⟩, hB, hlt.1⟩ (by simpa using hN.symm) hn (fun t ht => by
      have ht2 : t < cs.length := by simpa using ht
      have e : (cs.map canonC).toArray[t]! = canonC cs[t]! := by simp [ht2]
      rw [e]; exact hpr _ (memC cs t ht2)) (Nat.le_refl _) hw hT
    refine h.mono ?_
    rintro e w' ⟨rfl, d, G⟩
    obtain ⟨g1, S⟩ := G.out
    exact ⟨rfl, d.toList, ⟨by simpa using g1, holds_conds S.R.hH S.R.hblk, S.below⟩⟩
  obtain ⟨cur, hcur, hmk⟩ := makeC_run N (by omega) w
  have HMK : Aside (OwnC (w.alloc (.cells cur 31)) w.heap.size (.slice (some ⟨w.heap.size, 0, none⟩) 0 N) []) := World.ownsRow_made w cur N (Nat.le_refl _) (by unfold maxLen; omega) hcur
  have HB0 : Aside (Below w.heap.size w (w.alloc (.cells cur 31))) := (Below.refl _ _).alloc (Nat.le_refl _) _
  clear hcs hpr hw hT hN hcur
  go_enter Tryz.func25, Tryz.ntmps25
  go_wp2_with fail
  clear hmk
  generalize (w.alloc (.cells cur 31)) = w1 at *
  go_loopg [3, 11] N (fun kx s3 s11 wr => ∃ j g cap : Nat, s3 = .slice (some ⟨g, 0, none⟩) j cap ∧ s11 = .int .i64 j ∧ j ≤ N ∧ N - j ≤ kx ∧ Aside (OwnC wr w.heap.size (.slice (some ⟨g, 0, none⟩) j cap) ((cs.map canonC).take j)) ∧ Aside (Below w.heap.size w wr))
  case atStart => exact ⟨0, _, _, rfl, rfl, Nat.zero_le _, by omega, HMK.out, HB0.out⟩
  case round =>
    clear HMK HB0
    obtain ⟨j, g, cap, rfl, rfl, hj, hjx, HO, HA⟩ := hrel
    have zr : w.heap.size ≤ wr.heap.size := HA.out.size
    by_cases hlt : j < N
    · have hjl : j < cs.length := by rw [← HN.out]; exact hlt
      obtain ⟨b, off, rfl, hrow⟩ := HROW.out (by omega)
      have c_ := fun c v h => hrow wr HA.out j hjl c v h
      have HAT : Aside ((cs.map canonC).take (j + 1) = (cs.map canonC).take j ++ [canonC cs[j]!]) := canons_at cs j hjl
      have HLN : Aside (((cs.map canonC).take j).length = j) := take_len _ j (by rw [List.length_map]; omega)
      have HCC := Lib.hid (fun W => ccanon_c cs[j]!.a.nm cs[j]!.op cs[j]!.a.k cs[j]!.a.n cs[j]!.a.x cs[j]!.a.s cs[j]!.a.y W)
      obtain ⟨l0, hl0⟩ : ∃ l0, l0 = (cs.map canonC).take j := ⟨_, rfl⟩
      have HL0 := Lib.hid hl0
      rw [← hl0] at HO HAT HLN
      have hcc : canonC ⟨⟨cs[j]!.a.nm, cs[j]!.a.k, cs[j]!.a.n, cs[j]!.a.x, cs[j]!.a.s, cs[j]!.a.y⟩, cs[j]!.op⟩ = canonC cs[j]! := rfl
      rw [hcc] at HCC
      generalize canonC cs[j]! = cc at HAT HCC
      generalize cs[j]! = c at c_ HCC
      obtain ⟨⟨nm, k, n, x, s, y⟩, op⟩ := c
      have c0 := c_ 0 _ rfl; have c1 := c_ 1 _ rfl; have c2 := c_ 2 _ rfl; have c3 := c_ 3 _ rfl; have c4 := c_ 4 _ rfl; have c5 := c_ 5 _ rfl; have c6 := c_ 6 _ rfl
      simp only [Nat.add_zero] at c0
      simp only at HCC
      clear c_ hjl hl0 hcc hrow HROW
      have hltz : (j : Int) < N := by omega
      have hjz : (0 : Int) ≤ (j : Int) := by omega
      have HAP : Aside (∀ W, Below wr.heap.size wr W → ∃ g' cap' w3, Sem.run Tryz.prog (appendS #[22, 22] 22 #[.slice (some ⟨g, 0, none⟩) j cap, .slice (some ⟨W.heap.size, 0, none⟩) 1 1])
        (W.alloc (.cells #[.string cc.a.nm, .int .i64 cc.op, .int .i64 cc.a.k, .int .i64 cc.a.n, .float .f64 cc.a.x, .string cc.a.s, .bool cc.a.y] 31)) = .ok (.slice (some ⟨g', 0, none⟩) (j + 1) cap') w3 ∧
          Aside (OwnC w3 w.heap.size (.slice (some ⟨g', 0, none⟩) (j + 1) cap') ((cs.map canonC).take (j + 1)) ∧ Below w.heap.size w w3)) := fun W hW => by
        obtain ⟨g', cap', w3, h1, h2⟩ := appendC_run w.heap.size l0 cc (.slice (some ⟨g, 0, none⟩) j cap) W (ownC_below HO.out hW) (Nat.le_trans zr hW.size) (by rw [HLN.out]; omega)
        rw [HLN.out] at h1 h2
        rw [HAT.out]
        exact ⟨g', cap', w3, h1, h2.out.1, (HA.out.trans (hW.mono zr)).trans h2.out.2⟩
      clear HO HAT HL0 HLN
      obtain ⟨⟨nm', k', n', x', s', y'⟩, op'⟩ := cc
      unfold cndC at HCC
      simp only at HCC HAP
      go_wp2_with fail
      clear c0 c1 c2 c3 c4 c5 c6
      have HX := Lib.hid ((Below.refl wr.heap.size wr).alloc (Nat.le_refl _) (.cells (cnds nm op k n x s y) 31))
      have zx : wr.heap.size ≤ (wr.alloc (.cells (cnds nm op k n x s y) 31)).heap.size := by simp
      generalize (wr.alloc (.cells (cnds nm op k n x s y) 31)) = wx at *
      refine (HCC.out wx).mono ?_
      rintro e w5 ⟨rfl, hb5⟩
      obtain ⟨g', cap', w6, hrun, HR6⟩ := HAP.out w5 (HX.out.trans (hb5.mono zx))
      clear hb5 HAP HCC
      go_wp2_with fail
      go_roundg (N - (j + 1))
      case measure => omega
      case rel => exact ⟨j + 1, g', cap', by go_num, by go_num, hlt, Nat.le_refl _, HR6.out.1, HR6.out.2⟩
    · obtain rfl : j = N := by omega
      have HO2 : Aside (OwnC wr w.heap.size (.slice (some ⟨g, 0, none⟩) j cap) (cs.map canonC)) := by
        have h := HO.out
        rw [List.take_of_length_le (by rw [List.length_map, ← HN.out]; exact Nat.le_refl _)] at h
        exact h
      clear HO
      go_wp2_with fail
      refine (HSO.out g cap _ HO2.out HA.out).mono ?_
      rintro e w2 ⟨rfl, L, HL⟩
      have HL2 := Lib.hid HL.out
      clear HSO HO2 HL
      go_wp2_with fail
      go_ret
      exact ⟨_, _, L, rfl, HL2.out⟩
end Go.Proofs.YtfffmndjgjfflaaGreatDoor
