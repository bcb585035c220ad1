/- gazetteref10's Seen: what of an event a principal may see. -/
import Derived.Test.YtjnfbinomljocaaDoorHdH
import Derived.Test.YtjnfbinomljocaaDoorPutE
import Derived.Test.YtjnfbinomljocaaDoorAcQ
import Derived.Test.YtjnfbinomljocaaDoorBwV
import Derived.Deep.DeepCutAuto
import Derived.Deep.RegionWith
namespace Go.Proofs.YtjnfbinomljocaaDoor
open Go.RowKit Go.Shelf Go.Sort
open Go.Proofs
set_option maxRecDepth 100000
attribute [local go_sem ↓] append_pre
attribute [local irreducible] wpQuiet

/-- Does some rule hide that name there? -/
def nameHid (tn : Int) (who s n : ByteArray) (r : Ru) : Bool := ofR r 3 tn who && ((r.nm.toList == n.toList) && underB s r.sc)
def seenL (es : List At) (rs : List Ru) (tn : Int) (who s : ByteArray) : List At := es.filter fun a => !(rs.any (nameHid tn who s a.nm))
theorem seen_without (es : List At) (rs : List Ru) (tn : Int) (who s : ByteArray) : seenL es rs tn who s = withoutL es (hidN rs tn who s) := by
  unfold seenL withoutL
  congr 1
  funext a
  rw [hidN_has]
  congr 2
  funext r
  unfold nameHid hideB
  cases ofR r 3 tn who <;> simp [Bool.and_comm]
theorem own_below {w W : World} {B : Nat} {t : TypeId} {q n : Nat} {v : Value} {xs : List Value} (h : w.ownsRow B t q v n xs) (hb : Below w.heap.size w W) : W.ownsRow B t q v n xs := by
  obtain ⟨h1, h2⟩ := h
  refine ⟨h1, ?_⟩
  rcases h2 with h2 | ⟨g, cap, cur, hv, hbg, hg, hr⟩
  · exact Or.inl h2
  · exact Or.inr ⟨g, cap, cur, hv, hbg, (hb.block g (Array.getElem?_eq_some_iff.1 hg).1).trans hg, hr⟩
theorem appendA_run (B k : Nat) (es : List At) (a : At) (v : Value) (W : World) (hk : es.length = k) (hown : W.ownsRow B 51 6 v k (es.flatMap encA)) (hB : B ≤ W.heap.size) (hl : k < 256) :
    ∃ g' cap' w3, Sem.run Tryd.prog (appendS #[24, 24] 24 #[v, .slice (some ⟨W.heap.size, 0, none⟩) 1 1])
        (W.alloc (.cells #[.string a.nm, .int .i64 a.k, .int .i64 a.n, .float .f64 a.x, .string a.s, .bool a.y] 51)) = .ok (.slice (some ⟨g', 0, none⟩) (k + 1) cap') w3 ∧
      Aside (w3.ownsRow B 51 6 (.slice (some ⟨g', 0, none⟩) (k + 1) cap') (k + 1) ((es ++ [a]).flatMap encA) ∧ Below B W w3) := by
  subst hk
  obtain ⟨i0, z0, hi, hz0, hz1, hz2, hz3⟩ := attr_info
  have hown3 : (W.alloc (.cells (encA a).toArray 51)).ownsRow B 51 6 v es.length (es.flatMap encA) := hown.alloc _
  have hrc2 : ∀ j u, (encA a)[j]? = some u → (W.alloc (.cells (encA a).toArray 51)).cell? ((⟨W.heap.size, 0, none⟩ : Addr).add j) = some u := row_cells a W 51
  obtain ⟨v', w3, hrun, hown4, hg, _⟩ := run_append_own (P := Tryd.prog) (W.alloc (.cells (encA a).toArray 51)) B 24 24 51 i0 z0 6 64 Tryd.underlying24 hi hz0 hz1 hz2 hz3 (by decide) _ _ _ hown3 ⟨W.heap.size, 0, none⟩ 1 1 (encA a) rfl hrc2 (encA_one a) (by unfold maxLen; omega) (by omega) (by simp; omega)
  have hown5 : w3.ownsRow B 51 6 v' (es.length + 1) ((es ++ [a]).flatMap encA) := by
    rw [List.flatMap_append]
    simpa using hown4
  have hv : ∃ g' cap', v' = .slice (some ⟨g', 0, none⟩) (es.length + 1) cap' := by
    rcases hown5.2 with ⟨_, h0⟩ | ⟨g, cap, cur, hv, _⟩
    · omega
    · exact ⟨g, cap, hv⟩
  obtain ⟨g', cap', rfl⟩ := hv
  exact ⟨g', cap', w3, hrun, hown5, ((Below.refl B W).alloc hB _).grown hg (by simp; omega) (fun k e => (hown3.lt k e).1)⟩
theorem row_at_w {w W : World} {eo : Option Addr} {es : List At} (h : SliceA w eo es) (hW : Below w.heap.size w W) (hlt : 0 < es.length) : ∃ b off, eo = some ⟨b, off, none⟩ ∧ b < w.heap.size ∧ RowAt W b off es := by
  rcases h with h | ⟨b, off, h1, h2, h3⟩
  · rw [h] at hlt; simp at hlt
  · exact ⟨b, off, h1, h2, RowAt.below hW h2 h3⟩
theorem seen_snoc (l : List At) (rs : List Ru) (tn : Int) (who s : ByteArray) (a : At) : seenL (l ++ [a]) rs tn who s = if rs.any (nameHid tn who s a.nm) then seenL l rs tn who s else seenL l rs tn who s ++ [a] := by
  unfold seenL
  rw [List.filter_append]
  cases h : rs.any (nameHid tn who s a.nm) <;> simp [h]
theorem hid_ways (rk rt : Int) (rw1 : ByteArray) (k tn : Int) (who rn n : ByteArray) : ((rk == k) = false ∨ (rk == k) = true ∧ (rt == tn) = false ∨ (rk == k) = true ∧ (rt == tn) = true ∧ (rw1.toList == who.toList) = false ∨ (rk == k) = true ∧ (rt == tn) = true ∧ (rw1.toList == who.toList) = true ∧ (rn.toList == n.toList) = false) ∨ ((rk == k) = true ∧ (rt == tn) = true ∧ (rw1.toList == who.toList) = true ∧ (rn.toList == n.toList) = true) := by
  cases (rk == k) <;> cases (rt == tn) <;> cases (rw1.toList == who.toList) <;> cases (rn.toList == n.toList) <;> simp

set_option maxHeartbeats 8000000 in
theorem seen_c (ao : Option Addr) (cap : Nat) (rs : List Ru) (tn : Int) (who sE : ByteArray) (eo : Option Addr) (ecap : Nat) (es : List At) (w : World) (hl : RulesB w.heap.size w ao rs) (hn : rs.length ≤ 200) (hE : SliceA w eo es) (hlen : es.length ≤ 39) :
    Calls Tryd.prog 12 #[.slice ao rs.length cap, .int .i64 tn, .string who, evt sE eo es.length ecap] w fun e w' => ∃ ro rcap, e = .returned (.agg #[.string sE, .slice ro (seenL es rs tn who sE).length rcap]) ∧ Aside (SliceA w' ro (seenL es rs tn who sE) ∧ Below w.heap.size w w') := by
  obtain ⟨O, hO⟩ : ∃ O, O = w.heap.size + 2 := ⟨_, rfl⟩
  obtain ⟨W0, hW0⟩ : ∃ W0, W0 = ((w.alloc (.cells #[.string sE, .slice eo es.length ecap] 26)).alloc (.cells #[.string ⟨#[]⟩, .slice none 0 0] 26)).alloc (.cells #[.string sE, .slice none 0 0] 26) := ⟨_, rfl⟩
  have hB0 : Below w.heap.size w W0 := by rw [hW0]; exact (((Below.refl _ _).alloc (Nat.le_refl _) _).alloc (by simp) _).alloc (by simp; omega) _
  have hz0 : W0.heap.size = O + 1 := by rw [hW0, hO]; simp
  have b0 : W0.cell? ⟨w.heap.size, 0, none⟩ = some (.string sE) := by
    rw [hW0, World.cell?_alloc_lt _ _ _ (by simp; omega), World.cell?_alloc_lt _ _ _ (by simp), World.cell?_alloc_new]; rfl
  have b1 : W0.cell? ⟨w.heap.size, 1, none⟩ = some (.slice eo es.length ecap) := by
    rw [hW0, World.cell?_alloc_lt _ _ _ (by simp; omega), World.cell?_alloc_lt _ _ _ (by simp), World.cell?_alloc_new]; rfl
  have b2 : W0.heap[w.heap.size + 1]? = some (.cells #[.string ⟨#[]⟩, .slice none 0 0] 26) := by
    have h1 := heap_alloc_new (w.alloc (.cells #[.string sE, .slice eo es.length ecap] 26)) (.cells #[.string ⟨#[]⟩, .slice none 0 0] 26)
    rw [World.size_alloc] at h1
    rw [hW0, ((Below.refl (w.heap.size + 2) _).alloc (by simp) _).block (w.heap.size + 1) (by omega)]; exact h1
  have b3 : W0.heap[O]? = some (.cells #[.string sE, .slice none 0 0] 26) := by
    have h1 := heap_alloc_new ((w.alloc (.cells #[.string sE, .slice eo es.length ecap] 26)).alloc (.cells #[.string ⟨#[]⟩, .slice none 0 0] 26)) (.cells #[.string sE, .slice none 0 0] 26)
    rw [World.size_alloc, World.size_alloc] at h1
    rw [hW0, hO]; exact h1
  have hOs : w.heap.size + 2 ≤ O := by omega
  have HKP : Aside (∀ W, Below O W0 W → W.cell? ⟨w.heap.size, 0, none⟩ = some (.string sE) ∧ W.cell? ⟨w.heap.size, 1, none⟩ = some (.slice eo es.length ecap) ∧ W.heap[w.heap.size + 1]? = some (.cells #[.string ⟨#[]⟩, .slice none 0 0] 26) ∧ Below w.heap.size w W) := fun W hW =>
    ⟨(hW.cell (p := ⟨w.heap.size, 0, none⟩) (by show w.heap.size < _; omega)).trans b0, (hW.cell (p := ⟨w.heap.size, 1, none⟩) (by show w.heap.size < _; omega)).trans b1, (hW.block _ (by omega)).trans b2, hB0.trans (hW.mono (by omega))⟩
  have HSL : Aside (∀ W, Below w.heap.size w W → 0 < rs.length → ∃ b off, ao = some ⟨b, off, none⟩ ∧ b < w.heap.size ∧ RowR W b off rs) := fun W hW h => row_of hl hW h
  have HSE : Aside (∀ W, Below w.heap.size w W → 0 < es.length → ∃ b off, eo = some ⟨b, off, none⟩ ∧ b < w.heap.size ∧ RowAt W b off es) := fun W hW h => row_at_w hE hW h
  have HUN : Aside (∀ (s2 : ByteArray) W, Calls Tryd.prog 25 #[.string sE, .string s2] W fun e w' => e = .returned (.bool (underB sE s2)) ∧ W = w') := fun s2 W => runder_c sE s2 W
  have B3 := Lib.hid b3
  have HR0 : Aside (Below O W0 W0) := Below.refl _ _
  obtain ⟨len, hL⟩ : ∃ len, len = rs.length := ⟨_, rfl⟩
  have HLen : Aside (len = rs.length) := hL
  obtain ⟨en, hEn⟩ : ∃ en, en = es.length := ⟨_, rfl⟩
  have HEn : Aside (en = es.length) := hEn
  have HW0 : Aside (W0 = ((w.alloc (.cells #[.string sE, .slice eo en ecap] 26)).alloc (.cells #[.string ⟨#[]⟩, .slice none 0 0] 26)).alloc (.cells #[.string sE, .slice none 0 0] 26)) := by rw [hEn]; exact hW0
  rw [← hL] at hn ⊢
  rw [← hEn] at HKP hlen ⊢
  have HO : Aside (O = w.heap.size + 2) := hO
  clear hl hE hB0 b0 b1 b2 b3 hW0 hL hEn hO
  go_enter Tryd.func12, Tryd.ntmps12
  go_upto_region 2 with fail
  rw [← HW0.out, show w.heap.size + 1 + 1 = O by have := HO.out; omega]
  clear HW0
  have z0 : O + 1 ≤ W0.heap.size := by omega
  have HNO : Aside (Below w.heap.size w W0) := (HKP.out _ HR0.out).2.2.2
  go_wp2_with fail
  go_loopg [10, 11, 12] en (fun kx s10 s11 s12 wr => ∃ (j k : Nat) (ro : Option Addr) (rcap : Nat) (L : List At), s10 = .int .i64 j ∧ j ≤ en ∧ en - j ≤ kx ∧ Aside (L = seenL (es.take j) rs tn who sE) ∧ Aside (L.length = k) ∧ k ≤ j ∧ Aside (wr.ownsRow (O + 1) 51 6 (.slice ro k rcap) k (L.flatMap encA)) ∧ Aside (wr.heap[O]? = some (.cells #[.string sE, .slice ro k rcap] 26)) ∧ Aside (Below O W0 wr))
  case atStart => exact ⟨0, 0, none, 0, [], rfl, Nat.zero_le _, by omega, rfl, rfl, Nat.le_refl _, World.ownsRow_nil _ _ _ _, B3.out, HR0.out⟩
  case round =>
    rename World => wo
    obtain ⟨j, k, ro, rcap, L, rfl, hj, hjx, HLS, HLK, hkj, HOW, HOB, HB⟩ := hrel
    obtain ⟨y0, y1, _, hbw⟩ := HKP.out _ HB.out
    have zr : O + 1 ≤ wo.heap.size := Nat.le_trans z0 HB.out.size
    by_cases hlt : j < en
    · have hjl : j < es.length := by rw [← HEn.out]; exact hlt
      obtain ⟨b2, off2, rfl, hb2, hrow2⟩ := HSE.out _ hbw (by omega)
      have HAT : Aside (∀ W, Below wo.heap.size wo W → ∀ c v, (encA es[j]!)[c]? = some v → W.cell? ⟨b2, off2 + j * 6 + c, none⟩ = some v) := fun W hW c v h => (hW.cell (p := ⟨b2, off2 + j * 6 + c, none⟩) (by show b2 < _; omega)).trans (hrow2 j hjl c v h)
      have HSN : Aside (seenL (es.take (j + 1)) rs tn who sE = if rs.any (nameHid tn who sE (es[j]!).nm) then L else L ++ [es[j]!]) := by
        show _ = _
        rw [take_succ es j hjl, seen_snoc, HLS.out]
      generalize es[j]! = a at HAT HSN
      obtain ⟨nm, ak, an, ax, asx, ay⟩ := a
      obtain ⟨f, hf⟩ : ∃ f, f = nameHid tn who sE nm := ⟨_, rfl⟩
      have HF : Aside (∀ r, f r = (ofR r 3 tn who && ((r.nm.toList == nm.toList) && underB sE r.sc))) := fun r => by rw [hf]; rfl
      dsimp only at HSN
      rw [← hf] at HSN
      have hltz : (j : Int) < en := by omega
      have hjz : (0 : Int) ≤ (j : Int) := by omega
      have HHJ := Lib.hid hjx
      clear hf hrow2 hjl HSE y0 hbw hjx
      go_wp2_with fail
      clear y1
      go_loopg [11, 12] len (fun kx s11 s12 wr => ∃ (i : Nat) (hd : Bool), s11 = .bool hd ∧ s12 = .int .i64 i ∧ i ≤ len ∧ len - i ≤ kx ∧ Aside (hd = (rs.take i).any f) ∧ Aside (Below wo.heap.size wo wr))
      case atStart => exact ⟨0, false, rfl, rfl, Nat.zero_le _, by omega, rfl, Below.refl _ _⟩
      case round =>
        obtain ⟨i, hd, rfl, rfl, hi, hix, HD, HA⟩ := hrel
        have hbO : Below O W0 wr := HB.out.trans (HA.out.mono (by omega))
        have HBO := Lib.hid hbO
        obtain ⟨_, _, _, hbw⟩ := HKP.out _ hbO
        by_cases hli : i < len
        · have hil : i < rs.length := by rw [← HLen.out]; exact hli
          obtain ⟨b, off, rfl, hbs, hrow⟩ := HSL.out _ hbw (by omega)
          have hrow1 := hrow i hil
          have HAN : Aside ((rs.take (i + 1)).any f = (hd || f rs[i]!)) := by show _ = _; rw [any_false_take rs f i hil, HD.out]
          have HFi : Aside (f rs[i]! = (ofR rs[i]! 3 tn who && (((rs[i]!).nm.toList == nm.toList) && underB sE (rs[i]!).sc))) := HF.out _
          generalize f rs[i]! = fi at HAN HFi
          generalize rs[i]! = c at hrow1 HFi
          obtain ⟨rk, rt, rw1, rb, rsc, rco, rc2, rcs, rn, rix⟩ := c
          have HFi' : Aside (fi = (((rk == 3) && ((rt == tn) && (rw1.toList == who.toList))) && ((rn.toList == nm.toList) && underB sE rsc))) := HFi.out
          have c0' : ∀ i2 v, (encR ⟨rk, rt, rw1, rb, rsc, rco, rc2, rcs, rn, rix⟩)[i2]? = some v → ∀ p : BW wr, p.W.cell? ⟨b, off + i * 8 + i2, none⟩ = some v := fun i2 v h p => (p.h.cell (p := ⟨b, off + i * 8 + i2, none⟩) (Nat.lt_of_lt_of_le hbs hbw.size)).trans (hrow1 i2 v h)
          have c0 := c0' 0 _ rfl; have c1 := c0' 1 _ rfl; have c2 := c0' 2 _ rfl; have c4 := c0' 4 _ rfl; have c6 := c0' 6 _ rfl
          simp only [Nat.add_zero] at c0
          dsimp only at c0 c1 c2 c4 c6
          have KK := fun p : BW wr => HKP.out p.W (hbO.trans (p.h.mono (Nat.le_trans (by omega) hbO.size)))
          have x0 : ∀ p : BW wr, p.W.cell? ⟨w.heap.size, 0, none⟩ = some (.string sE) := fun p => (KK p).1
          have x1 : ∀ p : BW wr, p.W.cell? ⟨w.heap.size, 1, none⟩ = some (.slice (some ⟨b2, off2, none⟩) en ecap) := fun p => (KK p).2.1
          have d0 : ∀ p : BW wr, p.W.cell? ⟨b2, off2 + j * 6, none⟩ = some (.string nm) := fun p => by
            have := HAT.out p.W (HA.out.trans (p.h.mono HA.out.size)) 0 _ rfl
            simpa using this
          have hM : ∀ p : BW wr, Calls Tryd.prog 25 #[.string sE, .string rsc] p.W fun e w'' => e = .returned (.bool (underB sE rsc)) ∧ ∃ q : BW wr, w'' = q.W := fun p => (HUN.out rsc p.W).mono fun _ _ q => ⟨q.1, ⟨p, q.2.symm⟩⟩
          have HFIN := Lib.hid (fun p : BW wr => HA.out.trans (p.h.mono HA.out.size))
          generalize underB sE rsc = un at *
          have HHI := Lib.hid hix
          clear hrow1 hrow hil HFi c0' KK HSL hbw hbO HF hix
          have hliz : (i : Int) < len := by omega
          have hiz : (0 : Int) ≤ (i : Int) := by omega
          go_upto_region 9 with fail
          rcases hid_ways rk rt rw1 3 tn who rn nm with (e1 | ⟨e1, e2⟩ | ⟨e1, e2, e3⟩ | ⟨e1, e2, e3, e4⟩) | ⟨e1, e2, e3, e4⟩
          rotate_left 4
          · have HQ2 : Aside (fi = un) := by show _ = _; rw [HFi'.out, e1, e2, e3, e4]; rfl
            clear HFi'
            refine wp_region_bw (by kernel_rfl) (by kernel_rfl) ?_
            repeat (quiet_step (first | (go_at_call 25; exact hM _)))
            refine wpQuiet_nil ?_
            intro w2 hw'
            obtain ⟨pw, hw2⟩ := hw'
            have hX := HFIN.out pw
            rw [← hw2] at hX
            have HX := Lib.hid hX
            clear c0 c1 c2 c4 c6 x0 x1 d0 hM hX hw2 pw HFIN e1 e2 e3 e4
            cases un
            · go_wp2_with fail
              go_roundg (len - (i + 1))
              case measure => have := HHI.out; omega
              case rel => exact ⟨i + 1, hd, rfl, by go_num, hli, Nat.le_refl _, by show _ = _; rw [HAN.out, HQ2.out]; simp, HX.out⟩
            · go_wp2_with fail
              go_roundg (len - (i + 1))
              case measure => have := HHI.out; omega
              case rel => exact ⟨i + 1, true, rfl, by go_num, hli, Nat.le_refl _, by show _ = _; rw [HAN.out, HQ2.out]; simp, HX.out⟩
          all_goals
            have HQ2 : Aside (fi = false) := by show _ = _; rw [HFi'.out]; first | (simp [e1]; done) | (simp [e1, e2]; done) | (simp [e1, e2, e3]; done) | (simp [e1, e2, e3, e4]; done)
            clear HFi'
            refine wp_region_bw (by kernel_rfl) (by kernel_rfl) ?_
            repeat (quiet_step (fail))
            refine wpQuiet_nil ?_
            intro w2 hw'
            obtain ⟨pw, hw2⟩ := hw'
            have hX := HFIN.out pw
            rw [← hw2] at hX
            have HX := Lib.hid hX
            clear c0 c1 c2 c4 c6 x0 x1 d0 hM hX hw2 pw HFIN
            go_wp2_with fail
            go_roundg (len - (i + 1))
            case measure => have := HHI.out; omega
            case rel => exact ⟨i + 1, hd, rfl, by go_num, hli, Nat.le_refl _, by show _ = _; rw [HAN.out, HQ2.out]; simp, HX.out⟩
        · obtain rfl : i = len := by omega
          have HDD : Aside (hd = rs.any f) := by
            show _ = _
            rw [HD.out, HLen.out, List.take_length]
          rw [← HDD.out] at HSN
          have hOi : wr.heap[O]? = some (.cells #[.string sE, .slice ro k rcap] 26) := (HA.out.block O (by omega)).trans HOB.out
          have HOWi := Lib.hid (own_below HOW.out HA.out)
          clear hix hi hli HSL HUN HF HD HDD
          cases hd
          · have HS2 : Aside (L ++ [⟨nm, ak, an, ax, asx, ay⟩] = seenL (es.take (j + 1)) rs tn who sE) := HSN.out.symm
            have hsi : O + 1 ≤ wr.heap.size := Nat.le_trans zr HA.out.size
            obtain ⟨g1, cap1, w3, hrun1, HR1⟩ := appendA_run (O + 1) k L ⟨nm, ak, an, ax, asx, ay⟩ (.slice ro k rcap) wr HLK.out HOWi.out hsi (by omega)
            obtain ⟨g2, cap2, w4, hrun2', HR2⟩ := appendA_run (O + 1) k L ⟨nm, ak, an, ax, asx, ay⟩ (.slice ro k rcap) wr.drew HLK.out (own_below HOWi.out (below_drew1 wr)) hsi (by omega)
            have hrun2 : Sem.run Tryd.prog (appendS #[24, 24] 24 #[.slice ro k rcap, .slice (some ⟨wr.heap.size, 0, none⟩) 1 1]) (wr.alloc (.cells #[.string nm, .int .i64 ak, .int .i64 an, .float .f64 ax, .string asx, .bool ay] 51)).drew = .ok (.slice (some ⟨g2, 0, none⟩) (k + 1) cap2) w4 := hrun2'
            have h3O : w3.heap[O]? = some (.cells #[.string sE, .slice ro k rcap] 26) := (HR1.out.2.block O (by omega)).trans hOi
            have h4O : w4.heap[O]? = some (.cells #[.string sE, .slice ro k rcap] 26) := (HR2.out.2.block O (by omega)).trans hOi
            have u3 : w3.cell? ⟨O, 1, none⟩ = some (.slice ro k rcap) := by simp [World.cell?, h3O]
            have u4 : w4.cell? ⟨O, 1, none⟩ = some (.slice ro k rcap) := by simp [World.cell?, h4O]
            have fz3 : w3.frozen? ⟨O, 1, none⟩ = false := by simp [World.frozen?, h3O]
            have fz4 : w4.frozen? ⟨O, 1, none⟩ = false := by simp [World.frozen?, h4O]
            have o1 : wr.cell? ⟨O, 1, none⟩ = some (.slice ro k rcap) := by simp [World.cell?, hOi]
            have o1a : (wr.alloc (.cells #[.string nm, .int .i64 ak, .int .i64 an, .float .f64 ax, .string asx, .bool ay] 51)).cell? ⟨O, 1, none⟩ = some (.slice ro k rcap) := Lib.cell?_alloc_some _ o1
            have e1 := (HKP.out _ HBO.out).2.1
            have a0 := HAT.out wr HA.out 0 _ rfl; have a1 := HAT.out wr HA.out 1 _ rfl; have a2 := HAT.out wr HA.out 2 _ rfl; have a3 := HAT.out wr HA.out 3 _ rfl; have a4 := HAT.out wr HA.out 4 _ rfl; have a5 := HAT.out wr HA.out 5 _ rfl
            simp only [Nat.add_zero] at a0
            have H3O := Lib.hid h3O; have H4O := Lib.hid h4O
            have HB3 : Aside (Below O W0 (w3.setCell ⟨O, 1, none⟩ (.slice (some ⟨g1, 0, none⟩) (k + 1) cap1))) := ((HBO.out.trans ((HR1.out.2.mono (by omega)))).setCell (p := ⟨O, 1, none⟩) (Nat.le_refl _) _)
            have HB4 : Aside (Below O W0 (w4.setCell ⟨O, 1, none⟩ (.slice (some ⟨g2, 0, none⟩) (k + 1) cap2))) := (((HBO.out.trans (below_drew1 wr)).trans ((HR2.out.2.mono (by omega)))).setCell (p := ⟨O, 1, none⟩) (Nat.le_refl _) _)
            have HLK2 : Aside ((L ++ [(⟨nm, ak, an, ax, asx, ay⟩ : At)]).length = k + 1) := by simp [Aside, HLK.out]
            have HOW3 : Aside ((w3.setCell ⟨O, 1, none⟩ (.slice (some ⟨g1, 0, none⟩) (k + 1) cap1)).ownsRow (O + 1) 51 6 (.slice (some ⟨g1, 0, none⟩) (k + 1) cap1) (k + 1) ((L ++ [(⟨nm, ak, an, ax, asx, ay⟩ : At)]).flatMap encA)) := HR1.out.1.kept (grown_set w3 O 1 _) (Or.inr (fun e => by have := (HR1.out.1.lt O e).1; omega))
            have HOB3 : Aside ((w3.setCell ⟨O, 1, none⟩ (.slice (some ⟨g1, 0, none⟩) (k + 1) cap1)).heap[O]? = some (.cells #[.string sE, .slice (some ⟨g1, 0, none⟩) (k + 1) cap1] 26)) := set_snd h3O
            have HOW4 : Aside ((w4.setCell ⟨O, 1, none⟩ (.slice (some ⟨g2, 0, none⟩) (k + 1) cap2)).ownsRow (O + 1) 51 6 (.slice (some ⟨g2, 0, none⟩) (k + 1) cap2) (k + 1) ((L ++ [(⟨nm, ak, an, ax, asx, ay⟩ : At)]).flatMap encA)) := HR2.out.1.kept (grown_set w4 O 1 _) (Or.inr (fun e => by have := (HR2.out.1.lt O e).1; omega))
            have HOB4 : Aside ((w4.setCell ⟨O, 1, none⟩ (.slice (some ⟨g2, 0, none⟩) (k + 1) cap2)).heap[O]? = some (.cells #[.string sE, .slice (some ⟨g2, 0, none⟩) (k + 1) cap2] 26)) := set_snd h4O
            clear hrun2' h3O h4O hOi hbw hbO HOWi HSN HAT
            go_upto_region 12 with fail
            go_region
            all_goals
              go_wp2_with fail
              go_roundg (en - (j + 1))
              case measure => have := HHJ.out; omega
              case rel =>
                first
                | exact ⟨j + 1, k + 1, some ⟨g1, 0, none⟩, cap1, L ++ [⟨nm, ak, an, ax, asx, ay⟩], by go_num, hlt, Nat.le_refl _, HS2, HLK2, by omega, HOW3, HOB3, HB3⟩
                | exact ⟨j + 1, k + 1, some ⟨g2, 0, none⟩, cap2, L ++ [⟨nm, ak, an, ax, asx, ay⟩], by go_num, hlt, Nat.le_refl _, HS2, HLK2, by omega, HOW4, HOB4, HB4⟩
          · have HS2 : Aside (L = seenL (es.take (j + 1)) rs tn who sE) := HSN.out.symm
            have HOi := Lib.hid hOi
            clear hOi hbw hbO HSN HAT
            go_wp2_with fail
            go_roundg (en - (j + 1))
            case measure => have := HHJ.out; omega
            case rel => exact ⟨j + 1, k, ro, rcap, L, by go_num, hlt, Nat.le_refl _, HS2.out, HLK.out, by omega, HOWi.out, HOi.out, HBO.out⟩
    · obtain rfl : j = en := by omega
      have hls : L = seenL es rs tn who sE := by rw [HLS.out, HEn.out, List.take_length]
      have HLL := Lib.hid hls
      obtain ⟨y0', y1', hE2, hbw2⟩ := HKP.out _ HB.out
      have o0 : wo.cell? ⟨O, 0, none⟩ = some (.string sE) := by simp [World.cell?, HOB.out]
      have o1 : wo.cell? ⟨O, 1, none⟩ = some (.slice ro k rcap) := by simp [World.cell?, HOB.out]
      have r0 : wo.cell? ⟨w.heap.size + 1, 0, none⟩ = some (.string ⟨#[]⟩) := by simp [World.cell?, hE2]
      have r1 : wo.cell? ⟨w.heap.size + 1, 1, none⟩ = some (.slice none 0 0) := by simp [World.cell?, hE2]
      have f0 : wo.frozen? ⟨w.heap.size + 1, 0, none⟩ = false := by simp [World.frozen?, hE2]
      have f1 : wo.frozen? ⟨w.heap.size + 1, 1, none⟩ = false := by simp [World.frozen?, hE2]
      have hlk := HLK.out
      subst hlk
      have hS : SliceA wo ro L := by
        obtain ⟨ao', cap', hv, h⟩ := own_slice HOW.out
        injection hv with e1 e2 e3
        subst e1
        exact h
      have HP := Lib.hid (putE (B := w.heap.size) (w7 := w) (A9 := w.heap.size + 1) (ro := ro) (rcap := rcap) (ls := L) (sE := sE) (by omega) hE2 hS hbw2)
      clear hE2 hbw2 hS HOW HOB hls HLS hlt hj hjx hkj HSL HSE HUN y0' y0 hbw
      go_wp2_with fail
      obtain ⟨x0, x1, hS, hb⟩ := HP.out
      generalize (wo.setCell ⟨w.heap.size + 1, 0, none⟩ (.string sE)).setCell ⟨w.heap.size + 1, 1, none⟩ (.slice ro L.length rcap) = X at *
      refine bodyPost_ret (v := .agg #[.string sE, .slice ro L.length rcap]) (by simp [results, Tryd.results12, go_sem, x0, x1]) rfl ⟨ro, ⟨rcap, by rw [← HLL.out]⟩, by rw [← HLL.out]; exact ⟨hS, hb⟩⟩
end Go.Proofs.YtjnfbinomljocaaDoor
