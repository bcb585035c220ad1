/- redact's hides and Hidden, of any rules. -/
import Derived.Test.YtjnfbinomljocaaDoorHdP
import Derived.Test.YtjnfbinomljocaaDoorAcL
import Derived.Sort.OwnSorted
import Derived.Maps.AppendAt
import Derived.Laws.IdiomStrings
namespace Go.Proofs.YtjnfbinomljocaaDoor
open Go.RowKit Go.Shelf Go.Sort
open Go.Proofs
set_option maxRecDepth 100000
attribute [local go_sem ↓] append_pre

set_option maxHeartbeats 2000000 in
theorem hides_c (k tn : Int) (who : ByteArray) (br : Int) (sc : ByteArray) (co : Option Addr) (n cap : Nat) (nm : ByteArray) (ix : Int) (t2 : Int) (who2 : ByteArray) (w : World) :
    Calls Tryd.prog 30 #[rul k tn who br sc co n cap nm ix, .int .i64 t2, .string who2] w fun e w' => e = .returned (.bool ((k == 3) && ((tn == t2) && (who.toList == who2.toList)))) ∧ Below w.heap.size w w' := by
  have hB : Below w.heap.size w (w.alloc (.cells (ruls k tn who br sc co n cap nm ix) 43)) := (Below.refl _ _).alloc (Nat.le_refl _) _
  have HB := Lib.hid hB
  clear hB
  cases h1 : (k == 3)
  · go_enter Tryd.func30, Tryd.ntmps30
    go_wp2_with fail
    go_ret
    exact ⟨rfl, HB.out⟩
  · cases h2 : (tn == t2)
    · go_enter Tryd.func30, Tryd.ntmps30
      go_wp2_with fail
      go_ret
      exact ⟨rfl, HB.out⟩
    · cases h3 : (who.toList == who2.toList)
      all_goals
        go_enter Tryd.func30, Tryd.ntmps30
        go_wp2_with fail
        go_ret
        exact ⟨rfl, HB.out⟩

/-! ### Rows of texts that a call owns -/
theorem str_info : ∃ i z, Tryd.prog.info? 9 = some i ∧ i.zero = some z ∧ i.size = 1 ∧ i.bytes = 16 ∧ z.cells.size = 1 := by
  obtain ⟨i, hi, h⟩ := Option.bind_eq_some_iff.1 (show (Tryd.prog.info? 9).bind (fun i => i.zero.map fun z => (i.size, i.bytes, z.cells.size)) = some (1, 16, 1) by kernel_rfl)
  obtain ⟨z, hz, h⟩ := Option.map_eq_some_iff.1 h
  simp only [Prod.mk.injEq] at h
  exact ⟨i, z, hi, hz, h.1, h.2.1, h.2.2⟩
abbrev OwnT (W : World) (B : Nat) (v : Value) (l : List (List UInt8)) : Prop := W.ownsRow B 9 1 v l.length (l.map encStr)
theorem ownT_below {w W : World} {B : Nat} {v : Value} {l : List (List UInt8)} (h : OwnT w B v l) (hb : Below w.heap.size w W) : OwnT W B v l := by
  obtain ⟨h1, h2⟩ := h
  refine ⟨h1, ?_⟩
  rcases h2 with h2 | ⟨g, cap, cur, hv, hbg, hg, hr⟩
  · exact Or.inl h2
  · exact Or.inr ⟨g, cap, cur, hv, hbg, (hb.block g (Array.getElem?_eq_some_iff.1 hg).1).trans hg, hr⟩
theorem encStr_data (a : ByteArray) : encStr a.data.toList = .string a := by simp [encStr]
theorem encStr_bsOf (l : List UInt8) : encStr l = .string (bsOf l) := rfl
theorem appendT_run (B : Nat) (es : List (List UInt8)) (a : ByteArray) (v : Value) (W : World) (hown : OwnT W B v es) (hB : B ≤ W.heap.size) (hl : es.length < 256) :
    ∃ g' cap' w3, Sem.run Tryd.prog (appendS #[31, 31] 31 #[v, .slice (some ⟨W.heap.size, 0, none⟩) 1 1])
        (W.alloc (.cells #[.string a] 9)) = .ok (.slice (some ⟨g', 0, none⟩) (es.length + 1) cap') w3 ∧
      Aside (OwnT w3 B (.slice (some ⟨g', 0, none⟩) (es.length + 1) cap') (es ++ [a.data.toList]) ∧ Below B W w3) := by
  obtain ⟨i0, z0, hi, hz0, hz1, hz2, hz3⟩ := str_info
  have hown3 : OwnT (W.alloc (.cells #[.string a] 9)) B v es := World.ownsRow.alloc hown _
  have hnews : ∀ j u, [Value.string a][j]? = some u → (W.alloc (.cells #[.string a] 9)).cell? ((⟨W.heap.size, 0, none⟩ : Addr).add j) = some u := fun j u hu => by
    have hj : j < [Value.string a].length := (List.getElem?_eq_some_iff.1 hu).1
    obtain rfl : j = 0 := by simp at hj; omega
    simp at hu
    subst hu
    exact World.cell?_alloc_new W #[.string a] 9 0
  obtain ⟨v', w3, hrun, hown4, hg, _⟩ := run_append_own (P := Tryd.prog) (W.alloc (.cells #[.string a] 9)) B 31 31 9 i0 z0 1 16 Tryd.underlying31 hi hz0 hz1 hz2 hz3 (by decide) _ _ _ hown3 ⟨W.heap.size, 0, none⟩ 1 1 [.string a] rfl hnews (by intro u hu; rw [List.mem_singleton.1 hu]; rfl) (by unfold maxLen; omega) (by omega) (by simp; omega)
  have hlen : (es ++ [a.data.toList]).length = es.length + 1 := by simp
  have hown5 : OwnT w3 B v' (es ++ [a.data.toList]) := by
    show w3.ownsRow B _ 1 v' (es ++ [a.data.toList]).length ((es ++ [a.data.toList]).map encStr)
    rw [hlen, List.map_append, List.map_cons, List.map_nil, encStr_data]
    exact hown4
  have hv : ∃ g' cap', v' = .slice (some ⟨g', 0, none⟩) (es.length + 1) cap' := by
    rcases hown5.2 with ⟨_, h0⟩ | ⟨g, cap, cur, hv, _⟩
    · rw [hlen] at h0; omega
    · rw [hlen] at hv; exact ⟨g, cap, hv⟩
  obtain ⟨g', cap', rfl⟩ := hv
  exact ⟨g', cap', w3, hrun, hown5, ((Below.refl B W).alloc hB _).grown hg (by simp; omega) (fun k e => (hown3.lt k e).1)⟩

/-- Texts in a block from B on; or none. -/
def TxtN (B : Nat) (w : World) (bo : Option Addr) (ns : List ByteArray) : Prop := ns = [] ∨ ∃ b, bo = some ⟨b, 0, none⟩ ∧ B ≤ b ∧ b < w.heap.size ∧ ∀ j, j < ns.length → w.cell? ⟨b, j, none⟩ = some (.string (ns.getD j ByteArray.empty))
theorem TxtN.strs {B : Nat} {w : World} {bo : Option Addr} {ns : List ByteArray} (h : TxtN B w bo ns) : StrsA w bo ns := by
  rcases h with h | ⟨b, h1, _, h3, h4⟩
  · exact Or.inl h
  · exact Or.inr ⟨b, 0, h1, h3, fun j hj => by rw [Nat.zero_add]; exact h4 j hj⟩
theorem TxtN.on {B : Nat} {w W : World} {bo : Option Addr} {ns : List ByteArray} (h : TxtN B w bo ns) (hb : Below w.heap.size w W) : TxtN B W bo ns := by
  rcases h with h | ⟨b, h1, h2, h3, h4⟩
  · exact Or.inl h
  · exact Or.inr ⟨b, h1, h2, Nat.lt_of_lt_of_le h3 hb.size, fun j hj => (hb.cell (p := ⟨b, j, none⟩) h3).trans (h4 j hj)⟩
theorem TxtN.down {B B' : Nat} {w : World} {bo : Option Addr} {ns : List ByteArray} (h : TxtN B w bo ns) (hB : B' ≤ B) : TxtN B' w bo ns := by
  rcases h with h | ⟨b, h1, h2, h3, h4⟩
  · exact Or.inl h
  · exact Or.inr ⟨b, h1, Nat.le_trans hB h2, h3, h4⟩

set_option maxHeartbeats 1000000 in
theorem sortT_c (B cap L : Nat) (ao : Option Addr) (l : List (List UInt8)) (W : World) (h : OwnT W B (.slice ao L cap) l) (hL : L = l.length) (h6 : L ≤ 1000) :
    Calls Tryd.prog 31 #[.slice ao L cap] W fun e w' => e = .returned (.tuple #[]) ∧ Aside (OwnT w' B (.slice ao L cap) (sortL l) ∧ Below B W w') := by
  subst hL
  have hown := h
  rcases h.2 with ⟨hnil, h0⟩ | ⟨g, cap2, cur, hv, hbase, hb, h1, h2, h3, h4⟩
  · injection hnil with e1 e2 e3
    subst e1 e3
    have hl : l = [] := List.eq_nil_of_length_eq_zero h0
    subst hl
    refine (Tryd.slices_Sort_string_none none 0 W).mono ?_
    rintro e w' ⟨rfl, rfl⟩
    exact ⟨rfl, by simpa [OwnT, sortL] using hown, Below.refl _ _⟩
  · injection hv with e1 e2 e3
    subst e1 e3
    have hH : Holds encStr W g 0 l.toArray := holds_of_block hb (by simpa using h4)
    have hB : B ≤ W.heap.size := by have := (Array.getElem?_eq_some_iff.1 hb).1; omega
    refine (Tryd.slices_Sort_string g 0 cap l W hH (Array.getElem?_eq_some_iff.1 hb).1 (by omega)).mono ?_
    rintro e w' ⟨rfl, nn, os, rfl⟩
    have hs : (sortL l).length = l.length := by simp [sortL]
    have ho := ownsRow_sorted (w := W) (n := nn) (os := os) (ss := l) (ts := sortL l) hs hbase hb h1 h2 h3
    refine ⟨rfl, ?_, (Below.refl B W).grown (grownBy_sorted _) hB (fun k e => by injection e with e; omega)⟩
    show World.ownsRow _ _ _ _ _ _ _
    rw [hs]
    exact ho
set_option maxHeartbeats 1000000 in
theorem compT_c (B cap L : Nat) (ao : Option Addr) (l : List (List UInt8)) (W : World) (h : OwnT W B (.slice ao L cap) l) (hL : L = l.length) (h6 : L ≤ 1000) :
    Calls Tryd.prog 32 #[.slice ao L cap] W fun e w' => ∃ bo bcap, e = .returned (.slice bo ((Lib.compact l).map bsOf).length bcap) ∧ Aside (TxtN B w' bo ((Lib.compact l).map bsOf) ∧ Below B W w') := by
  subst hL
  rcases h.2 with ⟨hnil, h0⟩ | ⟨g, cap2, cur, hv, hbase, hb, h1, h2, h3, h4⟩
  · injection hnil with e1 e2 e3
    subst e1 e3
    have hl : l = [] := List.eq_nil_of_length_eq_zero h0
    subst hl
    refine (Tryd.slices_Compact_string_empty none 0 W).mono ?_
    rintro e w' ⟨rfl, rfl⟩
    exact ⟨none, 0, rfl, Or.inl rfl, Below.refl _ _⟩
  · injection hv with e1 e2 e3
    subst e1 e3
    have hH : Holds encStr W g 0 l.toArray := holds_of_block hb (by simpa using h4)
    have hB : B ≤ W.heap.size := by have := (Array.getElem?_eq_some_iff.1 hb).1; omega
    refine (Tryd.slices_Compact_string g 0 cap l W hH (by omega) h1).mono ?_
    rintro e w' ⟨rfl, q, rfl⟩
    have hle : (Lib.compact l).length ≤ l.length := Lib.compact_length_le l
    obtain ⟨ts, hts⟩ : ∃ ts, ts = Lib.compact l ++ List.replicate (l.length - (Lib.compact l).length) [] := ⟨_, rfl⟩
    have hs : ts.length = l.length := by rw [hts]; simp; omega
    have ho := ownsRow_sorted (w := W) (n := q) (os := #[]) (ss := l) (ts := ts) hs hbase hb h1 h2 h3
    have hg := grownBy_sorted (w := W) (g := g) (n := q) (os := #[]) ts.toArray
    rw [grow_empty] at ho hg
    rw [← hts]
    refine ⟨some ⟨g, 0, none⟩, cap, by rw [List.length_map], ?_, (Below.refl B W).grown hg hB (fun k e => by injection e with e; omega)⟩
    refine Or.inr ⟨g, rfl, hbase, by simpa using (Array.getElem?_eq_some_iff.1 hb).1, fun j hj => ?_⟩
    rw [List.length_map] at hj
    have hc := ho.cellAt j (by omega)
    have e2 : ((Lib.compact l).map bsOf).getD j ByteArray.empty = bsOf (Lib.compact l)[j] := by simp [List.getD, List.getElem?_eq_getElem hj]
    rw [e2, hc, List.getElem?_map, hts, List.getElem?_append_left hj, List.getElem?_eq_getElem hj]
    rfl

set_option maxHeartbeats 4000000 in
theorem hidden_c (ao : Option Addr) (cap : Nat) (rs : List Ru) (tn : Int) (who s : ByteArray) (w : World) (hl : RulesB w.heap.size w ao rs) (hn : rs.length ≤ 200) (hx : ∀ r ∈ rs, ofR r 3 tn who = true → r.sc.size ≤ 300) :
    Calls Tryd.prog 15 #[.slice ao rs.length cap, .int .i64 tn, .string who, .string s] w fun e w' => ∃ bo bcap, e = .returned (.slice bo (hidN rs tn who s).length bcap) ∧ Aside (TxtN w.heap.size w' bo (hidN rs tn who s) ∧ Below w.heap.size w w') := by
  obtain ⟨len, hL⟩ : ∃ len, len = rs.length := ⟨_, rfl⟩
  have HLen : Aside (len = rs.length) := hL
  rw [← hL] at hn ⊢
  have HSL : Aside (∀ W, Below w.heap.size w W → 0 < rs.length → ∃ b off, ao = some ⟨b, off, none⟩ ∧ b < w.heap.size ∧ RowR W b off rs) := fun W hW h => rules_row hl hW h
  have HUN : Aside (∀ r ∈ rs, ofR r 3 tn who = true → ∀ W, Calls Tryd.prog 16 #[.string s, .string r.sc] W fun e w' => e = .returned (.bool (underB s r.sc)) ∧ W = w') := fun r hr h W => under_c s r.sc (hx r hr h) W
  have HBR : Aside (Below w.heap.size w w) := Below.refl _ _
  obtain ⟨rr, hrr⟩ : ∃ rr, rr = hideB tn who s := ⟨_, rfl⟩
  have HRR : Aside (∀ r, rr r = (ofR r 3 tn who && underB s r.sc)) := fun r => by rw [hrr]; rfl
  have HFN : Aside (hidN rs tn who s = (Lib.compact (sortL ((rs.filter rr).map (·.nm.data.toList)))).map bsOf) := by rw [hrr]; rfl
  generalize hidN rs tn who s = hn2 at *
  clear hl hx hL hrr
  go_enter Tryd.func15, Tryd.ntmps15
  go_wp2_with fail
  go_loopg [9, 14] len (fun kx s9 s14 wr => ∃ (j m cap : Nat) (ao : Option Addr) (ns : List (List UInt8)), s9 = .slice ao m cap ∧ s14 = .int .i64 j ∧ j ≤ len ∧ len - j ≤ kx ∧ Aside (ns = ((rs.take j).filter rr).map (·.nm.data.toList)) ∧ Aside (ns.length = m) ∧ m ≤ j ∧ Aside (OwnT wr w.heap.size (.slice ao m cap) ns) ∧ Aside (Below w.heap.size w wr))
  case atStart => exact ⟨0, 0, 0, none, [], rfl, rfl, Nat.zero_le _, by omega, rfl, rfl, Nat.le_refl _, World.ownsRow_nil _ _ _ _, HBR.out⟩
  case round =>
    obtain ⟨j, m, cap2, ao2, ns, rfl, rfl, hj, hjx, HNS, HM, hmj, HO, HA⟩ := hrel
    have zr : w.heap.size ≤ wr.heap.size := HA.out.size
    by_cases hlt : j < len
    · have hjl : j < rs.length := by rw [← HLen.out]; exact hlt
      obtain ⟨b, off, rfl, hbs, hrow⟩ := HSL.out _ HA.out (by omega)
      have hrow1 := hrow j hjl
      have HKN : Aside (((rs.take (j + 1)).filter rr).map (·.nm.data.toList) = if rr rs[j]! then ns ++ [(rs[j]!).nm.data.toList] else ns) := by
        show _ = _
        rw [filter_take_r rs rr j hjl, HNS.out]
        cases rr rs[j]! <;> simp
      have HUj := Lib.hid (HUN.out _ (memR rs j hjl))
      have HRj := Lib.hid (HRR.out rs[j]!)
      have HAP : Aside (∀ (W : World) (a : ByteArray), Below wr.heap.size wr W → ∃ g' cap' w3, Sem.run Tryd.prog (appendS #[31, 31] 31 #[.slice ao2 m cap2, .slice (some ⟨W.heap.size, 0, none⟩) 1 1])
        (W.alloc (.cells #[.string a] 9)) = .ok (.slice (some ⟨g', 0, none⟩) (m + 1) cap') w3 ∧
          Aside (OwnT w3 w.heap.size (.slice (some ⟨g', 0, none⟩) (m + 1) cap') (ns ++ [a.data.toList]) ∧ Below w.heap.size w w3)) := fun W a hW => by
        obtain ⟨g', cap', w3, h1, h2⟩ := appendT_run w.heap.size ns a (.slice ao2 m cap2) W (ownT_below HO.out hW) (Nat.le_trans zr hW.size) (by rw [HM.out]; omega)
        rw [HM.out] at h1 h2
        exact ⟨g', cap', w3, h1, h2.out.1, (HA.out.trans (hW.mono zr)).trans h2.out.2⟩
      have HOX : Aside (∀ W, Below wr.heap.size wr W → OwnT W w.heap.size (.slice ao2 m cap2) ns) := fun W hW => ownT_below HO.out hW
      generalize rr rs[j]! = sp at HKN HRj
      generalize rs[j]! = c at hrow1 HKN HRj HUj
      obtain ⟨rk, rt, rw1, rb, rsc, rco, rcap, rcs, rn, rix⟩ := c
      have c0 := hrow1 0 _ rfl; have c1 := hrow1 1 _ rfl; have c2 := hrow1 2 _ rfl; have c3 := hrow1 3 _ rfl; have c4 := hrow1 4 _ rfl; have c5 := hrow1 5 _ rfl; have c6 := hrow1 6 _ rfl; have c7 := hrow1 7 _ rfl
      simp only [Nat.add_zero] at c0
      dsimp only at HUj HKN
      have HUj' : Aside (((rk == 3) && ((rt == tn) && (rw1.toList == who.toList))) = true → ∀ W, Calls Tryd.prog 16 #[.string s, .string rsc] W fun e w' => e = .returned (.bool (underB s rsc)) ∧ W = w') := HUj.out
      have HRj' : Aside (sp = (((rk == 3) && ((rt == tn) && (rw1.toList == who.toList))) && underB s rsc)) := HRj.out
      have HHD : Aside (∀ W, Calls Tryd.prog 30 #[rul rk rt rw1 rb rsc rco rcs.length rcap rn rix, .int .i64 tn, .string who] W fun e w' => e = .returned (.bool ((rk == 3) && ((rt == tn) && (rw1.toList == who.toList)))) ∧ Below W.heap.size W w') := fun W => hides_c rk rt rw1 rb rsc rco rcs.length rcap rn rix tn who W
      generalize ((rk == 3) && ((rt == tn) && (rw1.toList == who.toList))) = p at *
      generalize underB s rsc = q at *
      obtain ⟨rcn, hrcn⟩ : ∃ x, x = rcs.length := ⟨_, rfl⟩
      rw [← hrcn] at c5 HHD
      clear hrow1 hrow HSL HUN HUj HRj HRR hjl HO hrcn
      have hltz : (j : Int) < len := by omega
      have hjz : (0 : Int) ≤ (j : Int) := by omega
      go_upto_region 5 with fail
      clear c0 c1 c2 c3 c4 c5 c6 c7
      have HX := Lib.hid ((Below.refl wr.heap.size wr).alloc (Nat.le_refl _) (.cells (ruls rk rt rw1 rb rsc rco rcn rcap rn rix) 43))
      have HV : Aside (∀ W, Below (wr.heap.size + 1) (wr.alloc (.cells (ruls rk rt rw1 rb rsc rco rcn rcap rn rix) 43)) W → _) := fun W hW => rul_lay hW
      have HZX : Aside ((wr.alloc (.cells (ruls rk rt rw1 rb rsc rco rcn rcap rn rix) 43)).heap.size = wr.heap.size + 1) := by simp [Aside]
      have HBX : Aside (Below (wr.heap.size + 1) (wr.alloc (.cells (ruls rk rt rw1 rb rsc rco rcn rcap rn rix) 43)) (wr.alloc (.cells (ruls rk rt rw1 rb rsc rco rcn rcap rn rix) 43))) := Below.refl _ _
      obtain ⟨x0, x1, x2, x3, x4, x5, x6, x7⟩ := HV.out _ HBX.out
      generalize (wr.alloc (.cells (ruls rk rt rw1 rb rsc rco rcn rcap rn rix) 43)) = wx at *
      generalize wr.heap.size = V at *
      go_wp2_with fail
      refine (HHD.out _).mono ?_
      rintro e w5 ⟨rfl, hb5⟩
      have hX5 : Below V wr w5 := HX.out.trans (hb5.mono (by have := HZX.out; omega))
      have hb6 : Below (V + 1) wx w5 := hb5.mono (by have := HZX.out; omega)
      have HX5 := Lib.hid hX5
      have HB5 : Aside (Below w.heap.size w w5) := HA.out.trans (hX5.mono zr)
      clear x0 x1 x2 x3 x4 x5 x6 x7
      obtain ⟨x0, x1, x2, x3, x4, x5, x6, x7⟩ := HV.out w5 hb6
      have HO5 := Lib.hid (HOX.out w5 hX5)
      obtain ⟨g', cap', w6, hrun, HR6⟩ := HAP.out w5 rn hX5
      clear HAP HOX HV HX HZX hb5 hX5 hb6 HBX HHD
      cases p
      · have HK2 : Aside (((rs.take (j + 1)).filter rr).map (·.nm.data.toList) = ns) := by
          show _ = _
          rw [HKN.out, show sp = false from HRj'.out]; rfl
        clear HKN
        go_wp2_with fail
        go_roundg (len - (j + 1))
        case measure => omega
        case rel => exact ⟨j + 1, m, cap2, ao2, ns, rfl, by go_num, hlt, Nat.le_refl _, HK2.out.symm, HM.out, by omega, HO5.out, HB5.out⟩
      · have HU5 := Lib.hid (HUj'.out (by first | trivial | rfl) w5)
        clear HUj'
        go_wp2_with fail
        refine HU5.out.mono ?_
        rintro e w7 ⟨rfl, rfl⟩
        cases q
        · have HK2 : Aside (((rs.take (j + 1)).filter rr).map (·.nm.data.toList) = ns) := by
            show _ = _
            rw [HKN.out, show sp = false from HRj'.out]; rfl
          clear HKN
          go_wp2_with fail
          go_roundg (len - (j + 1))
          case measure => omega
          case rel => exact ⟨j + 1, m, cap2, ao2, ns, rfl, by go_num, hlt, Nat.le_refl _, HK2.out.symm, HM.out, by omega, HO5.out, HB5.out⟩
        · have HK2 : Aside (((rs.take (j + 1)).filter rr).map (·.nm.data.toList) = ns ++ [rn.data.toList]) := by
            show _ = _
            rw [HKN.out, show sp = true from HRj'.out]; rfl
          clear HKN
          go_wp2_with fail
          go_roundg (len - (j + 1))
          case measure => omega
          case rel => exact ⟨j + 1, m + 1, cap', some ⟨g', 0, none⟩, ns ++ [rn.data.toList], by go_num, by go_num, hlt, Nat.le_refl _, HK2.out.symm, by simp [Aside, HM.out], by omega, HR6.out.1, HR6.out.2⟩
    · obtain rfl : j = len := by omega
      have ht : rs.take j = rs := by rw [HLen.out, List.take_length]
      rw [ht] at HNS
      have HSO := Lib.hid (sortT_c w.heap.size cap2 m ao2 ns wr HO.out HM.out.symm (by omega))
      have HCO : Aside (∀ W, OwnT W w.heap.size (.slice ao2 m cap2) (sortL ns) → Calls Tryd.prog 32 #[.slice ao2 m cap2] W fun e w' => ∃ bo bcap, e = .returned (.slice bo ((Lib.compact (sortL ns)).map bsOf).length bcap) ∧ Aside (TxtN w.heap.size w' bo ((Lib.compact (sortL ns)).map bsOf) ∧ Below w.heap.size W w')) := fun W h => compT_c w.heap.size cap2 m ao2 (sortL ns) W h (by rw [← HM.out]; simp [sortL]) (by omega)
      have HF2 : Aside (hn2 = (Lib.compact (sortL ns)).map bsOf) := by show _ = _; rw [HFN.out, HNS.out]
      clear HFN HNS HSL HUN HRR ht HO
      rw [← HF2.out] at HCO
      generalize sortL ns = sn at *
      clear HF2
      go_wp2_with fail
      refine HSO.out.mono ?_
      rintro e w5 ⟨rfl, hs5⟩
      have HC5 := Lib.hid (HCO.out w5 hs5.out.1)
      have HB5 : Aside (Below w.heap.size w w5) := HA.out.trans hs5.out.2
      clear hs5 HCO HSO
      go_wp2_with fail
      refine HC5.out.mono ?_
      rintro e w6 ⟨bo, bcap, rfl, hc⟩
      have HFIN : Aside (TxtN w.heap.size w6 bo hn2 ∧ Below w.heap.size w w6) := ⟨hc.out.1, HB5.out.trans hc.out.2⟩
      clear hc HC5
      go_wp2_with fail
      go_ret
      exact ⟨bo, bcap, rfl, HFIN⟩
end Go.Proofs.YtjnfbinomljocaaDoor
