/- gazetteref10's Home, MayPublish, MayObserve. -/
import Derived.Test.YtliobglhppejiaaDoorAcH
import Derived.Test.YtliobglhppejiaaDoorFilRM
import Derived.Test.YtliobglhppejiaaDoorGaJ
import Derived.Test.YtliobglhppejiaaDoorBwV
namespace Go.Proofs.YtliobglhppejiaaDoor
open Go.RowKit Go.Shelf
open Go.Proofs
set_option maxRecDepth 100000
attribute [local irreducible] wpQuiet

def rhomeI (rs : List Ru) (tn : Int) (who : ByteArray) : Int := rs.foldl (fun a r => if ofR r 0 tn who then r.br else a) (-1)
theorem rhomeI_snoc (rs : List Ru) (tn : Int) (who : ByteArray) (r : Ru) : rhomeI (rs ++ [r]) tn who = if ofR r 0 tn who then r.br else rhomeI rs tn who := by
  unfold rhomeI; rw [List.foldl_append]; rfl
theorem homeR_snoc (rs : List Ru) (tn : Int) (who : ByteArray) (r : Ru) : homeR (rs ++ [r]) tn who = if ofR r 0 tn who then some r.br else homeR rs tn who := by
  unfold homeR
  rw [List.reverse_append]
  show Option.map _ (List.find? _ (r :: rs.reverse)) = _
  rw [List.find?_cons]
  cases h : ofR r 0 tn who <;> simp
theorem rhomeI_home (tn : Int) (who : ByteArray) : ∀ (n : Nat) (rs : List Ru), rs.length = n → rhomeI rs tn who = (homeR rs tn who).getD (-1)
  | 0, rs, h => by rw [List.eq_nil_of_length_eq_zero h]; rfl
  | n + 1, rs, h => by
    rcases List.eq_nil_or_concat rs with rfl | ⟨l, r, rfl⟩
    · simp at h
    · simp only [List.concat_eq_append] at h ⊢
      rw [rhomeI_snoc, homeR_snoc, rhomeI_home tn who n l (by simpa using h)]
      cases ofR r 0 tn who <;> simp
/-- Of rules that may be no home is below 0. -/
theorem homeR_nonneg {rs : List Ru} {tn : Int} {who : ByteArray} (h : ∀ r ∈ rs, rrightB r = true) (b : Int) (hb : homeR rs tn who = some b) : 0 ≤ b := by
  unfold homeR at hb
  obtain ⟨r, hr, rfl⟩ := Option.map_eq_some_iff.1 hb
  have hm := List.mem_of_find?_eq_some hr
  have hp := List.find?_some hr
  have h1 := h r (by simpa using hm)
  unfold ofR at hp
  simp only [Bool.and_eq_true, beq_iff_eq] at hp
  unfold rrightB at h1
  rw [if_pos hp.1] at h1
  simp only [Bool.and_eq_true, decide_eq_true_eq] at h1
  exact h1.2.1
theorem rhome_sign {rs : List Ru} {tn : Int} {who : ByteArray} (h : ∀ r ∈ rs, rrightB r = true) : decide (rhomeI rs tn who < 0) = !homeB rs tn who := by
  rw [rhomeI_home tn who _ rs rfl]
  unfold homeB
  cases hr : homeR rs tn who with
  | none => rfl
  | some b =>
    have := homeR_nonneg h b hr
    simp; omega
theorem row_of {w W : World} {ao : Option Addr} {rs : List Ru} (h : RulesB w.heap.size w ao rs) (hW : Below w.heap.size w W) (hlt : 0 < rs.length) : ∃ b off, ao = some ⟨b, off, none⟩ ∧ b < w.heap.size ∧ RowR W b off rs := by
  rcases h.1 with h | ⟨b, off, h1, h2, h3⟩
  · rw [h] at hlt; simp at hlt
  · exact ⟨b, off, h1, h2, RowR.below hW h2 h3⟩
theorem ofR_ways (rk rt : Int) (rw1 : ByteArray) (k tn : Int) (who : ByteArray) : ((rk == k) = false ∨ (rk == k) = true ∧ (rt == tn) = false ∨ (rk == k) = true ∧ (rt == tn) = true ∧ (rw1.toList == who.toList) = false) ∨ ((rk == k) = true ∧ (rt == tn) = true ∧ (rw1.toList == who.toList) = true) := by
  cases (rk == k) <;> cases (rt == tn) <;> cases (rw1.toList == who.toList) <;> simp

set_option maxHeartbeats 4000000 in
theorem rhome_c (ao : Option Addr) (cap : Nat) (rs : List Ru) (tn : Int) (who : ByteArray) (w : World) (hl : RulesB w.heap.size w ao rs) (hn : rs.length ≤ 4611686018427387904) :
    Calls Tryd.prog 16 #[.slice ao rs.length cap, .int .i64 tn, .string who] w fun e w' => e = .returned (.int .i64 (rhomeI rs tn who)) ∧ w = w' := by
  obtain ⟨len, hL⟩ : ∃ len, len = rs.length := ⟨_, rfl⟩
  have HLen : Aside (len = rs.length) := hL
  rw [← hL] at hn ⊢
  have HSL : Aside (0 < rs.length → ∃ b off, ao = some ⟨b, off, none⟩ ∧ b < w.heap.size ∧ RowR w b off rs) := fun h => row_of hl (Below.refl _ _) h
  clear hl hL
  go_enter Tryd.func16, Tryd.ntmps16
  go_wp2_with fail
  go_loopg [7, 8] len (fun kx s7 s8 wr => ∃ j : Nat, s8 = .int .i64 j ∧ j ≤ len ∧ len - j ≤ kx ∧ s7 = .int .i64 (rhomeI (rs.take j) tn who) ∧ wr = w)
  case atStart => exact ⟨0, rfl, Nat.zero_le _, by omega, rfl, rfl⟩
  case round =>
    obtain ⟨j, rfl, hj, hjx, rfl, hwr⟩ := hrel
    subst wr
    by_cases hlt : j < len
    · have hjl : j < rs.length := by rw [← HLen.out]; exact hlt
      obtain ⟨b, off, rfl, hbs, hrow⟩ := HSL.out (by omega)
      have hrow1 := hrow j hjl
      have HT : Aside (rhomeI (rs.take (j + 1)) tn who = if ofR rs[j]! 0 tn who then (rs[j]!).br else rhomeI (rs.take j) tn who) := by
        show _ = _
        rw [takeR rs j hjl, rhomeI_snoc]
      generalize rs[j]! = c at hrow1 HT
      obtain ⟨rk, rt, rw1, rb, rsc, rco, rcap, rcs, rn, rix⟩ := c
      have c0 := hrow1 0 _ rfl; have c1 := hrow1 1 _ rfl; have c2 := hrow1 2 _ rfl; have c3 := hrow1 3 _ rfl
      simp only [Nat.add_zero] at c0
      dsimp only at c0 c1 c2 c3
      have HT' : Aside (rhomeI (rs.take (j + 1)) tn who = if ((rk == 0) && ((rt == tn) && (rw1.toList == who.toList))) then rb else rhomeI (rs.take j) tn who) := HT.out
      generalize rhomeI (rs.take j) tn who = at0 at *
      generalize hnx : rhomeI (rs.take (j + 1)) tn who = nx at *
      have HNX := Lib.hid hnx
      clear hrow1 hrow HSL hjl HT hnx
      have hltz : (j : Int) < len := by omega
      have hjz : (0 : Int) ≤ (j : Int) := by omega
      rcases ofR_ways rk rt rw1 0 tn who with (e1 | ⟨e1, e2⟩ | ⟨e1, e2, e3⟩) | ⟨e1, e2, e3⟩
      all_goals
        go_wp2_with fail
        go_roundg (len - (j + 1))
        case measure => omega
        case rel => exact ⟨j + 1, by go_num, hlt, Nat.le_refl _, by rw [HNX.out, HT'.out]; first | (simp [e1]; done) | (simp [e1, e2]; done) | (simp [e1, e2, e3]; done), rfl⟩
    · obtain rfl : j = len := by omega
      have hq : rhomeI (rs.take j) tn who = rhomeI rs tn who := by rw [HLen.out, List.take_length]
      rw [hq]
      clear hq HSL
      go_wp2_with fail
      go_ret
      exact ⟨rfl, rfl⟩

/-! ### MayPublish -/
set_option maxHeartbeats 8000000 in
theorem rMayPublish_c (ao : Option Addr) (cap : Nat) (rs : List Ru) (tn : Int) (who : ByteArray) (es : ByteArray) (bo : Option Addr) (bcap : Nat) (l : List At) (w : World) (hl : RulesB w.heap.size w ao rs) (hn : rs.length ≤ 4611686018427387904) (hx : ∀ r ∈ rs, (∀ c ∈ r.cs, AtOk c.a ∧ c.a.s.size ≤ 9223372036854775807) ∧ r.cs.length ≤ 4611686018427387904) (hE : SliceA w bo l) (ho : ∀ a ∈ l, AtOk a ∧ a.s.size ≤ 9223372036854775807) (hlen : l.length ≤ 4611686018427387904) :
    Calls Tryd.prog 18 #[.slice ao rs.length cap, .int .i64 tn, .string who, evt es bo l.length bcap] w fun e w' => e = .returned (.bool (!decide (rhomeI rs tn who < 0) && rs.any fun r => ofR r 1 tn who && matchF r.sc r.cs es l)) ∧ Below w.heap.size w w' := by
  obtain ⟨len, hL⟩ : ∃ len, len = rs.length := ⟨_, rfl⟩
  have HLen : Aside (len = rs.length) := hL
  have HRH : Aside (∀ W, Below w.heap.size w W → Calls Tryd.prog 16 #[.slice ao rs.length cap, .int .i64 tn, .string who] W fun e w' => e = .returned (.int .i64 (rhomeI rs tn who)) ∧ W = w') := fun W hW => rhome_c ao cap rs tn who W (hl.on hW) hn
  rw [← hL] at hn HRH ⊢
  have HSL : Aside (∀ W, Below w.heap.size w W → 0 < rs.length → ∃ b off, ao = some ⟨b, off, none⟩ ∧ b < w.heap.size ∧ RowR W b off rs) := fun W hW h => row_of hl hW h
  have HMT : Aside (∀ r ∈ rs, ∀ W, Below w.heap.size w W → Calls Tryd.prog 37 #[fil r.sc r.co r.cs.length r.cap, evt es bo l.length bcap] W fun e w' => e = .returned (.bool (matchF r.sc r.cs es l)) ∧ Below W.heap.size W w') := fun r hr W hW => rmatch_c r.sc r.co r.cap r.cs es bo bcap l W ((hl.2 r hr).on hW) (hx r hr).1 (hx r hr).2 (hE.under hW) ho hlen
  obtain ⟨mm, hmm⟩ : ∃ mm : Ru → Bool, ∀ r, mm r = (matchF r.sc r.cs es l) := ⟨_, fun _ => rfl⟩
  simp only [← hmm] at HMT ⊢
  obtain ⟨f, hf⟩ : ∃ f : Ru → Bool, ∀ r, f r = (ofR r 1 tn who && mm r) := ⟨_, fun _ => rfl⟩
  simp only [← hf]
  have HF : Aside (∀ r, f r = (ofR r 1 tn who && mm r)) := hf
  have hB0 : Below w.heap.size w (w.alloc (.cells #[.string es, .slice bo l.length bcap] 36)) := (Below.refl _ _).alloc (Nat.le_refl _) _
  have HB0 := Lib.hid hB0
  have z1 : w.heap.size + 1 ≤ (w.alloc (.cells #[.string es, .slice bo l.length bcap] 36)).heap.size := by simp
  have HKP : Aside (∀ W, Below (w.heap.size + 1) (w.alloc (.cells #[.string es, .slice bo l.length bcap] 36)) W → W.cell? ⟨w.heap.size, 0, none⟩ = some (.string es) ∧ W.cell? ⟨w.heap.size, 1, none⟩ = some (.slice bo l.length bcap)) := fun W hW => ⟨one_lay hW 0 _ rfl, one_lay hW 1 _ rfl⟩
  have HBR : Aside (Below (w.heap.size + 1) (w.alloc (.cells #[.string es, .slice bo l.length bcap] 36)) (w.alloc (.cells #[.string es, .slice bo l.length bcap] 36))) := Below.refl _ _
  generalize rhomeI rs tn who = h0 at *
  clear hl hx hL hf hmm hB0 hE ho hlen
  go_enter Tryd.func18, Tryd.ntmps18
  go_wp2_with fail
  generalize (w.alloc (.cells #[.string es, .slice bo l.length bcap] 36)) = w0 at *
  refine (HRH.out _ HB0.out).mono ?_
  rintro e w1 ⟨rfl, rfl⟩
  by_cases hneg : h0 < 0
  · have hd : decide (h0 < 0) = true := decide_eq_true hneg
    go_wp2_with fail
    go_ret
    exact ⟨by rw [hd]; rfl, HB0.out⟩
  have hd : decide (h0 < 0) = false := decide_eq_false hneg
  have HD := Lib.hid hd
  go_wp2_with fail
  clear hd hneg
  go_loopg [9] len (fun kx s9 wr => ∃ j : Nat, s9 = .int .i64 j ∧ j ≤ len ∧ len - j ≤ kx ∧ Aside ((rs.take j).any f = false) ∧ Aside (Below (w.heap.size + 1) w0 wr))
  case atStart => exact ⟨0, rfl, Nat.zero_le _, by omega, by simp [Aside], HBR.out⟩
  case round =>
    obtain ⟨j, rfl, hj, hjx, HN, HA⟩ := hrel
    have hBw : Below w.heap.size w wr := HB0.out.trans (HA.out.mono (by omega))
    by_cases hlt : j < len
    · have hjl : j < rs.length := by rw [← HLen.out]; exact hlt
      obtain ⟨b, off, rfl, hbs, hrow⟩ := HSL.out _ hBw (by omega)
      have hrow1 := hrow j hjl
      have HMj := Lib.hid (HMT.out _ (memR rs j hjl))
      have HT : Aside (f rs[j]! = true → rs.any f = true) := fun h => any_true_at rs f j hjl h
      have HFF : Aside (f rs[j]! = false → (rs.take (j + 1)).any f = false) := fun h => any_take_snoc rs f j hjl HN.out h
      have HQ : Aside (f rs[j]! = (ofR rs[j]! 1 tn who && mm rs[j]!)) := HF.out _
      generalize f rs[j]! = fj at HT HFF HQ
      generalize mm rs[j]! = mj at HMj HQ
      generalize rs[j]! = c at hrow1 HMj HQ
      obtain ⟨rk, rt, rw1, rb, rsc, rco, rcap, rcs, rn, rix⟩ := c
      have HQ' : Aside (fj = (((rk == 1) && ((rt == tn) && (rw1.toList == who.toList))) && mj)) := HQ.out
      dsimp only at HMj
      have c0' : ∀ i v, (encR ⟨rk, rt, rw1, rb, rsc, rco, rcap, rcs, rn, rix⟩)[i]? = some v → ∀ p : BW wr, p.W.cell? ⟨b, off + j * 8 + i, none⟩ = some v := fun i v h p => (p.h.cell (p := ⟨b, off + j * 8 + i, none⟩) (Nat.lt_of_lt_of_le hbs hBw.size)).trans (hrow1 i v h)
      have c0 := c0' 0 _ rfl; have c1 := c0' 1 _ rfl; have c2 := c0' 2 _ rfl; have c4 := c0' 4 _ rfl; have c5 := c0' 5 _ rfl
      simp only [Nat.add_zero] at c0
      dsimp only at c0 c1 c2 c4 c5
      generalize rcs.length = rcn at *
      have KK := fun p : BW wr => HKP.out p.W (HA.out.trans (p.h.mono (Nat.le_trans z1 HA.out.size)))
      have x0 : ∀ p : BW wr, p.W.cell? ⟨w.heap.size, 0, none⟩ = some (.string es) := fun p => (KK p).1
      have x1 : ∀ p : BW wr, p.W.cell? ⟨w.heap.size, 1, none⟩ = some (.slice bo l.length bcap) := fun p => (KK p).2
      have hM : ∀ p : BW wr, Calls Tryd.prog 37 #[fil rsc rco rcn rcap, evt es bo l.length bcap] p.W fun e w'' => e = .returned (.bool mj) ∧ ∃ q : BW wr, w'' = q.W := fun p => (HMj.out p.W (hBw.trans (p.h.mono hBw.size))).mono fun _ _ q => ⟨q.1, ⟨⟨_, p.h.trans (q.2.mono p.h.size)⟩, rfl⟩⟩
      have HFIN := Lib.hid (fun p : BW wr => HA.out.trans (p.h.mono (Nat.le_trans z1 HA.out.size)))
      clear hrow1 hrow HSL HMT hjl HQ HF HMj c0' KK HA HN hBw
      have hltz : (j : Int) < len := by omega
      have hjz : (0 : Int) ≤ (j : Int) := by omega
      go_upto_region 6 with fail
      rcases ofR_ways rk rt rw1 1 tn who with (e1 | ⟨e1, e2⟩ | ⟨e1, e2, e3⟩) | ⟨e1, e2, e3⟩
      rotate_left 3
      · have HQ2 : Aside (fj = mj) := by show _ = _; rw [HQ'.out, e1, e2, e3]; rfl
        clear HQ'
        refine wp_region_bw (by kernel_rfl) (by kernel_rfl) ?_
        repeat (quiet_step (first | (go_at_call 37; exact hM _)))
        refine wpQuiet_nil ?_
        intro w2 hw'
        obtain ⟨pw, hw2⟩ := hw'
        have hX := HFIN.out pw
        rw [← hw2] at hX
        have HX := Lib.hid hX
        clear c0 c1 c2 c4 c5 x0 x1 hM hX hw2 pw HFIN e1 e2 e3
        cases mj
        · go_wp2_with fail
          go_roundg (len - (j + 1))
          case measure => omega
          case rel => exact ⟨j + 1, by go_num, hlt, Nat.le_refl _, HFF.out HQ2.out, HX.out⟩
        · have ha : rs.any f = true := HT.out HQ2.out
          go_wp2_with fail
          go_ret
          exact ⟨by rw [HD.out, ha]; rfl, HB0.out.trans (HX.out.mono (by omega))⟩
      all_goals
        have HQ2 : Aside (fj = false) := by show _ = _; rw [HQ'.out]; first | (simp [e1]; done) | (simp [e1, e2]; done) | (simp [e1, e2, e3]; done)
        clear HQ'
        refine wp_region_bw (by kernel_rfl) (by kernel_rfl) ?_
        repeat (quiet_step (fail))
        refine wpQuiet_nil ?_
        intro w2 hw'
        obtain ⟨pw, hw2⟩ := hw'
        have hX := HFIN.out pw
        rw [← hw2] at hX
        have HX := Lib.hid hX
        clear c0 c1 c2 c4 c5 x0 x1 hM hX hw2 pw HFIN
        go_wp2_with fail
        go_roundg (len - (j + 1))
        case measure => omega
        case rel => exact ⟨j + 1, by go_num, hlt, Nat.le_refl _, HFF.out HQ2.out, HX.out⟩
    · obtain rfl : j = len := by omega
      have hrf : rs.any f = false := by
        have := HN.out
        rw [HLen.out, List.take_length] at this
        exact this
      clear hjx hj hlt
      go_wp2_with fail
      go_ret
      exact ⟨by rw [HD.out, hrf]; rfl, HB0.out.trans (HA.out.mono (by omega))⟩

/-! ### MayObserve -/
set_option maxHeartbeats 8000000 in
theorem rMayObserve_c (ao : Option Addr) (cap : Nat) (rs : List Ru) (tn : Int) (who : ByteArray) (gs : ByteArray) (dd : Option Addr) (dcap : Nat) (ds : List Cn) (w : World) (hl : RulesB w.heap.size w ao rs) (hn : rs.length ≤ 4611686018427387904) (hx : ∀ r ∈ rs, (∀ c ∈ r.cs, AtOk c.a ∧ c.a.s.size ≤ 9223372036854775807) ∧ r.cs.length ≤ 4611686018427387904) (hE : CondsB w.heap.size w dd ds) (ho : ∀ c ∈ ds, AtOk c.a ∧ c.a.s.size ≤ 9223372036854775807) (hlen : ds.length ≤ 4611686018427387904) (hop : OpsB ds) :
    Calls Tryd.prog 21 #[.slice ao rs.length cap, .int .i64 tn, .string who, fil gs dd ds.length dcap] w fun e w' => e = .returned (.bool (!decide (rhomeI rs tn who < 0) && rs.any fun r => ofR r 2 tn who && coversF r.sc r.cs gs ds)) ∧ Below w.heap.size w w' := by
  obtain ⟨len, hL⟩ : ∃ len, len = rs.length := ⟨_, rfl⟩
  have HLen : Aside (len = rs.length) := hL
  have HRH : Aside (∀ W, Below w.heap.size w W → Calls Tryd.prog 16 #[.slice ao rs.length cap, .int .i64 tn, .string who] W fun e w' => e = .returned (.int .i64 (rhomeI rs tn who)) ∧ W = w') := fun W hW => rhome_c ao cap rs tn who W (hl.on hW) hn
  rw [← hL] at hn HRH ⊢
  have HSL : Aside (∀ W, Below w.heap.size w W → 0 < rs.length → ∃ b off, ao = some ⟨b, off, none⟩ ∧ b < w.heap.size ∧ RowR W b off rs) := fun W hW h => row_of hl hW h
  have HMT : Aside (∀ r ∈ rs, ∀ W, Below w.heap.size w W → Calls Tryd.prog 22 #[fil r.sc r.co r.cs.length r.cap, fil gs dd ds.length dcap] W fun e w' => e = .returned (.bool (coversF r.sc r.cs gs ds)) ∧ Below W.heap.size W w') := fun r hr W hW => rcovers_c r.sc r.co r.cap r.cs gs dd dcap ds W ((hl.2 r hr).on hW) (hx r hr).1 (hx r hr).2 (hE.on hW) ho hlen hop
  obtain ⟨mm, hmm⟩ : ∃ mm : Ru → Bool, ∀ r, mm r = (coversF r.sc r.cs gs ds) := ⟨_, fun _ => rfl⟩
  simp only [← hmm] at HMT ⊢
  obtain ⟨f, hf⟩ : ∃ f : Ru → Bool, ∀ r, f r = (ofR r 2 tn who && mm r) := ⟨_, fun _ => rfl⟩
  simp only [← hf]
  have HF : Aside (∀ r, f r = (ofR r 2 tn who && mm r)) := hf
  have hB0 : Below w.heap.size w (w.alloc (.cells #[.string gs, .slice dd ds.length dcap] 24)) := (Below.refl _ _).alloc (Nat.le_refl _) _
  have HB0 := Lib.hid hB0
  have z1 : w.heap.size + 1 ≤ (w.alloc (.cells #[.string gs, .slice dd ds.length dcap] 24)).heap.size := by simp
  have HKP : Aside (∀ W, Below (w.heap.size + 1) (w.alloc (.cells #[.string gs, .slice dd ds.length dcap] 24)) W → W.cell? ⟨w.heap.size, 0, none⟩ = some (.string gs) ∧ W.cell? ⟨w.heap.size, 1, none⟩ = some (.slice dd ds.length dcap)) := fun W hW => ⟨one_lay hW 0 _ rfl, one_lay hW 1 _ rfl⟩
  have HBR : Aside (Below (w.heap.size + 1) (w.alloc (.cells #[.string gs, .slice dd ds.length dcap] 24)) (w.alloc (.cells #[.string gs, .slice dd ds.length dcap] 24))) := Below.refl _ _
  generalize rhomeI rs tn who = h0 at *
  clear hl hx hL hf hmm hB0 hE ho hlen hop
  go_enter Tryd.func21, Tryd.ntmps21
  go_wp2_with fail
  generalize (w.alloc (.cells #[.string gs, .slice dd ds.length dcap] 24)) = w0 at *
  refine (HRH.out _ HB0.out).mono ?_
  rintro e w1 ⟨rfl, rfl⟩
  by_cases hneg : h0 < 0
  · have hd : decide (h0 < 0) = true := decide_eq_true hneg
    go_wp2_with fail
    go_ret
    exact ⟨by rw [hd]; rfl, HB0.out⟩
  have hd : decide (h0 < 0) = false := decide_eq_false hneg
  have HD := Lib.hid hd
  go_wp2_with fail
  clear hd hneg
  go_loopg [9] len (fun kx s9 wr => ∃ j : Nat, s9 = .int .i64 j ∧ j ≤ len ∧ len - j ≤ kx ∧ Aside ((rs.take j).any f = false) ∧ Aside (Below (w.heap.size + 1) w0 wr))
  case atStart => exact ⟨0, rfl, Nat.zero_le _, by omega, by simp [Aside], HBR.out⟩
  case round =>
    obtain ⟨j, rfl, hj, hjx, HN, HA⟩ := hrel
    have hBw : Below w.heap.size w wr := HB0.out.trans (HA.out.mono (by omega))
    by_cases hlt : j < len
    · have hjl : j < rs.length := by rw [← HLen.out]; exact hlt
      obtain ⟨b, off, rfl, hbs, hrow⟩ := HSL.out _ hBw (by omega)
      have hrow1 := hrow j hjl
      have HMj := Lib.hid (HMT.out _ (memR rs j hjl))
      have HT : Aside (f rs[j]! = true → rs.any f = true) := fun h => any_true_at rs f j hjl h
      have HFF : Aside (f rs[j]! = false → (rs.take (j + 1)).any f = false) := fun h => any_take_snoc rs f j hjl HN.out h
      have HQ : Aside (f rs[j]! = (ofR rs[j]! 2 tn who && mm rs[j]!)) := HF.out _
      generalize f rs[j]! = fj at HT HFF HQ
      generalize mm rs[j]! = mj at HMj HQ
      generalize rs[j]! = c at hrow1 HMj HQ
      obtain ⟨rk, rt, rw1, rb, rsc, rco, rcap, rcs, rn, rix⟩ := c
      have HQ' : Aside (fj = (((rk == 2) && ((rt == tn) && (rw1.toList == who.toList))) && mj)) := HQ.out
      dsimp only at HMj
      have c0' : ∀ i v, (encR ⟨rk, rt, rw1, rb, rsc, rco, rcap, rcs, rn, rix⟩)[i]? = some v → ∀ p : BW wr, p.W.cell? ⟨b, off + j * 8 + i, none⟩ = some v := fun i v h p => (p.h.cell (p := ⟨b, off + j * 8 + i, none⟩) (Nat.lt_of_lt_of_le hbs hBw.size)).trans (hrow1 i v h)
      have c0 := c0' 0 _ rfl; have c1 := c0' 1 _ rfl; have c2 := c0' 2 _ rfl; have c4 := c0' 4 _ rfl; have c5 := c0' 5 _ rfl
      simp only [Nat.add_zero] at c0
      dsimp only at c0 c1 c2 c4 c5
      generalize rcs.length = rcn at *
      have KK := fun p : BW wr => HKP.out p.W (HA.out.trans (p.h.mono (Nat.le_trans z1 HA.out.size)))
      have x0 : ∀ p : BW wr, p.W.cell? ⟨w.heap.size, 0, none⟩ = some (.string gs) := fun p => (KK p).1
      have x1 : ∀ p : BW wr, p.W.cell? ⟨w.heap.size, 1, none⟩ = some (.slice dd ds.length dcap) := fun p => (KK p).2
      have hM : ∀ p : BW wr, Calls Tryd.prog 22 #[fil rsc rco rcn rcap, fil gs dd ds.length dcap] p.W fun e w'' => e = .returned (.bool mj) ∧ ∃ q : BW wr, w'' = q.W := fun p => (HMj.out p.W (hBw.trans (p.h.mono hBw.size))).mono fun _ _ q => ⟨q.1, ⟨⟨_, p.h.trans (q.2.mono p.h.size)⟩, rfl⟩⟩
      have HFIN := Lib.hid (fun p : BW wr => HA.out.trans (p.h.mono (Nat.le_trans z1 HA.out.size)))
      clear hrow1 hrow HSL HMT hjl HQ HF HMj c0' KK HA HN hBw
      have hltz : (j : Int) < len := by omega
      have hjz : (0 : Int) ≤ (j : Int) := by omega
      go_upto_region 6 with fail
      rcases ofR_ways rk rt rw1 2 tn who with (e1 | ⟨e1, e2⟩ | ⟨e1, e2, e3⟩) | ⟨e1, e2, e3⟩
      rotate_left 3
      · have HQ2 : Aside (fj = mj) := by show _ = _; rw [HQ'.out, e1, e2, e3]; rfl
        clear HQ'
        refine wp_region_bw (by kernel_rfl) (by kernel_rfl) ?_
        repeat (quiet_step (first | (go_at_call 22; exact hM _)))
        refine wpQuiet_nil ?_
        intro w2 hw'
        obtain ⟨pw, hw2⟩ := hw'
        have hX := HFIN.out pw
        rw [← hw2] at hX
        have HX := Lib.hid hX
        clear c0 c1 c2 c4 c5 x0 x1 hM hX hw2 pw HFIN e1 e2 e3
        cases mj
        · go_wp2_with fail
          go_roundg (len - (j + 1))
          case measure => omega
          case rel => exact ⟨j + 1, by go_num, hlt, Nat.le_refl _, HFF.out HQ2.out, HX.out⟩
        · have ha : rs.any f = true := HT.out HQ2.out
          go_wp2_with fail
          go_ret
          exact ⟨by rw [HD.out, ha]; rfl, HB0.out.trans (HX.out.mono (by omega))⟩
      all_goals
        have HQ2 : Aside (fj = false) := by show _ = _; rw [HQ'.out]; first | (simp [e1]; done) | (simp [e1, e2]; done) | (simp [e1, e2, e3]; done)
        clear HQ'
        refine wp_region_bw (by kernel_rfl) (by kernel_rfl) ?_
        repeat (quiet_step (fail))
        refine wpQuiet_nil ?_
        intro w2 hw'
        obtain ⟨pw, hw2⟩ := hw'
        have hX := HFIN.out pw
        rw [← hw2] at hX
        have HX := Lib.hid hX
        clear c0 c1 c2 c4 c5 x0 x1 hM hX hw2 pw HFIN
        go_wp2_with fail
        go_roundg (len - (j + 1))
        case measure => omega
        case rel => exact ⟨j + 1, by go_num, hlt, Nat.le_refl _, HFF.out HQ2.out, HX.out⟩
    · obtain rfl : j = len := by omega
      have hrf : rs.any f = false := by
        have := HN.out
        rw [HLen.out, List.take_length] at this
        exact this
      clear hjx hj hlt
      go_wp2_with fail
      go_ret
      exact ⟨by rw [HD.out, hrf]; rfl, HB0.out.trans (HA.out.mono (by omega))⟩
end Go.Proofs.YtliobglhppejiaaDoor
