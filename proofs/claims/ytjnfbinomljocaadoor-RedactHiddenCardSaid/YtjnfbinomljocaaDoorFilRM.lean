/- The reference's Match. -/
import Derived.Test.YtjnfbinomljocaaDoorGaJ
namespace Go.Proofs.YtjnfbinomljocaaDoor
open Go.RowKit Go.Shelf
open Go.Proofs
set_option maxRecDepth 100000
set_option maxHeartbeats 8000000 in
theorem rmatch_c (fs : ByteArray) (co : Option Addr) (ccap : Nat) (cs : List Cn) (es : ByteArray) (ao : Option Addr) (cap : Nat) (l : List At) (w : World) (hcs : CondsB w.heap.size w co cs) (hx : ∀ c ∈ cs, AtOk c.a ∧ c.a.s.size ≤ 9223372036854775807) (hlc : cs.length ≤ 4611686018427387904)
    (hl : SliceA w ao l) (ho : ∀ a ∈ l, AtOk a ∧ a.s.size ≤ 9223372036854775807) (hlen : l.length ≤ 4611686018427387904) :
    Calls Tryd.prog 18 #[fil fs co cs.length ccap, evt es ao l.length cap] w fun e w' => e = .returned (.bool (matchF fs cs es l)) ∧ Below w.heap.size w w' := by
  obtain ⟨len, hL⟩ : ∃ len, len = cs.length := ⟨_, rfl⟩
  have HLen : Aside (len = cs.length) := hL
  rw [← hL] at hlc ⊢
  obtain ⟨n, hN⟩ : ∃ n, n = l.length := ⟨_, rfl⟩
  have HNl : Aside (n = l.length) := hN
  rw [← hN] at hlen
  have HU := Lib.hid (fun W => runder_c es fs W)
  have B0 : Below w.heap.size w ((w.alloc (.cells #[.string fs, .slice co len ccap] 41)).alloc (.cells #[.string es, .slice ao n cap] 26)) := ((Below.refl _ _).alloc (Nat.le_refl _) _).alloc (by simp) _
  have HB0 := Lib.hid B0
  obtain ⟨hh, hhh⟩ : ∃ hh : Cn → At → Bool, ∀ c a, hh c a = holdsB c a := ⟨_, fun _ _ => rfl⟩
  have HRH : Aside (∀ c ∈ cs, ∀ a ∈ l, ∀ W, Calls Tryd.prog 34 #[cndC c, val a.k a.n a.x a.s a.y] W fun e w' => e = .returned (.bool (hh c a)) ∧ Below W.heap.size W w') := fun c hc a ha W => by
    rw [hhh]; exact rholds_c c.a.nm c.op c.a.k c.a.n c.a.x c.a.s c.a.y a.nm a.k a.n a.x a.s a.y (hx c hc).1 (ho a ha).1 (hx c hc).2 (ho a ha).2 W
  obtain ⟨m1, hm1⟩ : ∃ m1 : Cn → Bool, ∀ c, m1 c = matchB c l := ⟨_, fun _ => rfl⟩
  obtain ⟨m2, hm2⟩ : ∃ m2 : Cn → At → Bool, ∀ c a, m2 c a = (a.nm.toList == c.a.nm.toList && hh c a) := ⟨_, fun _ _ => rfl⟩
  have HM2 : Aside (∀ c a, m2 c a = (a.nm.toList == c.a.nm.toList && hh c a)) := hm2
  have HM1 : Aside (∀ c, m1 c = l.any (m2 c)) := fun c => by
    rw [hm1]; unfold matchB; congr 1; funext a; rw [hm2, hhh]; rfl
  have HSC : Aside (∀ W, Below w.heap.size w W → cs = [] ∨ ∃ b off, co = some ⟨b, off, none⟩ ∧ b < w.heap.size ∧ RowC W b off cs) := fun W hW => by
    rcases hcs with h | ⟨b, off, h1, h2, h3⟩
    · exact Or.inl h
    · exact Or.inr ⟨b, off, h1, h2, RowC.below hW h2 h3⟩
  have HSL : Aside (∀ W, Below w.heap.size w W → l = [] ∨ ∃ b off, ao = some ⟨b, off, none⟩ ∧ b < w.heap.size ∧ RowAt W b off l) := fun W hW => by
    rcases hl with h | ⟨b, off, h1, h2, h3⟩
    · exact Or.inl h
    · exact Or.inr ⟨b, off, h1, h2, RowAt.below hW h2 h3⟩
  obtain ⟨r, hr⟩ : ∃ r, r = matchF fs cs es l := ⟨_, rfl⟩
  have HR : Aside (r = (underB es fs && cs.all m1)) := by
    show r = _
    rw [hr]; unfold matchF; congr 1; congr 1; funext c; exact (hm1 c).symm
  rw [← hr, show l.length = n from hN.symm]
  generalize underB es fs = u at *
  have BR : Below (w.heap.size + 2) ((w.alloc (.cells #[.string fs, .slice co len ccap] 41)).alloc (.cells #[.string es, .slice ao n cap] 26)) ((w.alloc (.cells #[.string fs, .slice co len ccap] 41)).alloc (.cells #[.string es, .slice ao n cap] 26)) := Below.refl _ _
  have HKP : Aside (∀ W, Below (w.heap.size + 2) ((w.alloc (.cells #[.string fs, .slice co len ccap] 41)).alloc (.cells #[.string es, .slice ao n cap] 26)) W → W.cell? ⟨w.heap.size, 0, none⟩ = some (.string fs) ∧ W.cell? ⟨w.heap.size, 1, none⟩ = some (.slice co len ccap) ∧ W.cell? ⟨w.heap.size + 1, 0, none⟩ = some (.string es) ∧ W.cell? ⟨w.heap.size + 1, 1, none⟩ = some (.slice ao n cap)) := fun W hW => by
    obtain ⟨va, vb⟩ := two_lay hW
    exact ⟨va 0 _ rfl, va 1 _ rfl, vb 0 _ rfl, vb 1 _ rfl⟩
  have HBR := Lib.hid BR
  have z2 : w.heap.size + 2 ≤ ((w.alloc (.cells #[.string fs, .slice co len ccap] 41)).alloc (.cells #[.string es, .slice ao n cap] 26)).heap.size := by simp
  obtain ⟨a0, a1, b0, b1⟩ := HKP.out _ HBR.out
  clear BR B0 hm1 hm2 hhh hcs hx hl ho hr hN hL
  go_enter Tryd.func18, Tryd.ntmps18
  go_wp2_with fail
  generalize hW0 : (w.alloc (.cells #[.string fs, .slice co len ccap] 41)).alloc (.cells #[.string es, .slice ao n cap] 26) = w0 at *
  refine (HU.out _).mono ?_
  rintro e w1 ⟨rfl, rfl⟩
  cases u
  · have hrf : r = false := by rw [HR.out]; rfl
    subst hrf
    go_wp2_with fail
    go_ret
    exact ⟨rfl, HB0.out⟩
  go_wp2_with fail
  clear a0 a1 b0 b1
  go_loopg [5] len (fun kx s5 wr => ∃ i : Nat, s5 = .int .i64 i ∧ i ≤ len ∧ len - i ≤ kx ∧ Aside ((cs.take i).all m1 = true) ∧ Aside (Below (w.heap.size + 2) w0 wr))
  case atStart => exact ⟨0, rfl, Nat.zero_le _, by omega, by simp [Aside], HBR.out⟩
  case round =>
    obtain ⟨i, rfl, hi, hix, HN, HA⟩ := hrel
    have hBw : Below w.heap.size w wr := HB0.out.trans (HA.out.mono (by omega))
    obtain ⟨a0, a1, b0, b1⟩ := HKP.out _ HA.out
    by_cases hlt : i < len
    · have hil : i < cs.length := by rw [← HLen.out]; exact hlt
      have HRHi := Lib.hid (HRH.out _ (memC cs i hil))
      have HM1i := Lib.hid (HM1.out cs[i]!)
      have HM2i := Lib.hid (HM2.out cs[i]!)
      have HT : Aside (m1 cs[i]! = true → (cs.take (i + 1)).all m1 = true) := fun h => all_take_snoc cs m1 i hil HN.out h
      have HF : Aside (m1 cs[i]! = false → r = false) := fun h => by rw [HR.out, all_false_take cs m1 i hil h]; rfl
      have HCR : Aside (∃ b off, co = some ⟨b, off, none⟩ ∧ ∀ W, Below w.heap.size w W → ∀ c v, (encC cs[i]!)[c]? = some v → W.cell? ⟨b, off + i * 7 + c, none⟩ = some v) := by
        rcases HSC.out _ hBw with h0 | ⟨b, off, hao, hbs, _⟩
        · rw [h0] at hil; simp at hil
        · refine ⟨b, off, hao, fun W hW c v hv => ?_⟩
          rcases HSC.out _ hW with h0 | ⟨b2, off2, hao2, _, hrow⟩
          · rw [h0] at hil; simp at hil
          · rw [hao] at hao2
            injection hao2 with h3
            injection h3 with h4 h5
            subst h4 h5
            exact hrow i hil c v hv
      generalize m1 cs[i]! = q at HT HF HM1i
      generalize m2 cs[i]! = m2i at HM1i HM2i
      generalize hh cs[i]! = hhi at HRHi HM2i
      generalize cs[i]! = c at HRHi HM2i HCR
      obtain ⟨⟨nm, k, n', x, s, y⟩, op⟩ := c
      obtain ⟨b, off, rfl, hcr⟩ := HCR.out
      have HCRR := Lib.hid hcr
      clear hcr hil HCR hBw HRH HM1 HM2 HSC
      have hltz : (i : Int) < len := by omega
      have hiz : (0 : Int) ≤ (i : Int) := by omega
      go_wp2_with fail
      clear a0 a1 b0 b1
      go_loopg [6, 7] n (fun kx s6 s7 wr => ∃ (j : Nat), s7 = .int .i64 j ∧ j ≤ n ∧ n - j ≤ kx ∧ s6 = .bool ((l.take j).any m2i) ∧ Aside (Below (w.heap.size + 2) w0 wr))
      case atStart => exact ⟨0, rfl, Nat.zero_le _, by omega, by simp, HA.out⟩
      case round =>
        clear HA
        obtain ⟨j, rfl, hj, hjx, rfl, HA⟩ := hrel
        obtain ⟨a0, a1, b0, b1⟩ := HKP.out _ HA.out
        by_cases hlt2 : j < n
        · have hjl : j < l.length := by rw [← HNl.out]; exact hlt2
          have HSTEP : Aside ((l.take (j + 1)).any m2i = ((l.take j).any m2i || m2i l[j]!)) := any_false_take l m2i j hjl
          have HRHj := Lib.hid (HRHi.out _ (get_mem l j hjl))
          have HM2j := Lib.hid (HM2i.out l[j]!)
          have HAR : Aside (∃ b off, ao = some ⟨b, off, none⟩ ∧ ∀ W, Below w.heap.size w W → ∀ c v, (encA l[j]!)[c]? = some v → W.cell? ⟨b, off + j * 6 + c, none⟩ = some v) := by
            rcases HSL.out _ (HB0.out.trans (HA.out.mono (by omega))) with h0 | ⟨b, off, hao, hbs, _⟩
            · rw [h0] at hjl; simp at hjl
            · refine ⟨b, off, hao, fun W hW c v hv => ?_⟩
              rcases HSL.out _ hW with h0 | ⟨b2, off2, hao2, _, hrow⟩
              · rw [h0] at hjl; simp at hjl
              · rw [hao] at hao2
                injection hao2 with h3
                injection h3 with h4 h5
                subst h4 h5
                exact hrow j hjl c v hv
          generalize m2i l[j]! = p2 at HSTEP HM2j
          generalize hhi l[j]! = ph at HRHj HM2j
          generalize l[j]! = a at HRHj HM2j HAR
          obtain ⟨nma, ka, na, xa, sa, ya⟩ := a
          obtain ⟨b2, off2, rfl, har⟩ := HAR.out
          obtain ⟨acc, hacc⟩ : ∃ acc, acc = (l.take j).any m2i := ⟨_, rfl⟩
          obtain ⟨acc', hacc'⟩ : ∃ acc, acc = (l.take (j + 1)).any m2i := ⟨_, rfl⟩
          rw [← hacc, ← hacc'] at HSTEP
          rw [← hacc]
          have HAC' := Lib.hid hacc'
          have HK : Aside (∀ W, Below (w.heap.size + 2) w0 W → W.cell? ⟨w.heap.size, 1, none⟩ = some (.slice (some ⟨b, off, none⟩) len ccap) ∧ W.cell? ⟨w.heap.size + 1, 1, none⟩ = some (.slice (some ⟨b2, off2, none⟩) n cap) ∧
              W.cell? ⟨b, off + i * 7, none⟩ = some (.string nm) ∧ W.cell? ⟨b, off + i * 7 + 1, none⟩ = some (.int .i64 op) ∧ W.cell? ⟨b, off + i * 7 + 2, none⟩ = some (.int .i64 k) ∧ W.cell? ⟨b, off + i * 7 + 3, none⟩ = some (.int .i64 n') ∧ W.cell? ⟨b, off + i * 7 + 4, none⟩ = some (.float .f64 x) ∧ W.cell? ⟨b, off + i * 7 + 5, none⟩ = some (.string s) ∧ W.cell? ⟨b, off + i * 7 + 6, none⟩ = some (.bool y) ∧
              W.cell? ⟨b2, off2 + j * 6, none⟩ = some (.string nma) ∧ W.cell? ⟨b2, off2 + j * 6 + 1, none⟩ = some (.int .i64 ka) ∧ W.cell? ⟨b2, off2 + j * 6 + 2, none⟩ = some (.int .i64 na) ∧ W.cell? ⟨b2, off2 + j * 6 + 3, none⟩ = some (.float .f64 xa) ∧ W.cell? ⟨b2, off2 + j * 6 + 4, none⟩ = some (.string sa) ∧ W.cell? ⟨b2, off2 + j * 6 + 5, none⟩ = some (.bool ya)) := fun W hW => by
            have hw2 := HB0.out.trans (hW.mono (by omega))
            obtain ⟨_, g1, _, g3⟩ := HKP.out _ hW
            exact ⟨g1, g3, HCRR.out W hw2 0 _ rfl, HCRR.out W hw2 1 _ rfl, HCRR.out W hw2 2 _ rfl, HCRR.out W hw2 3 _ rfl, HCRR.out W hw2 4 _ rfl, HCRR.out W hw2 5 _ rfl, HCRR.out W hw2 6 _ rfl, har W hw2 0 _ rfl, har W hw2 1 _ rfl, har W hw2 2 _ rfl, har W hw2 3 _ rfl, har W hw2 4 _ rfl, har W hw2 5 _ rfl⟩
          clear har HAR hjl hacc hacc' HRHi HM2i HCRR HSL
          have hjz : (0 : Int) ≤ (j : Int) := by omega
          have hltz2 : (j : Int) < n := by omega
          have zr : w.heap.size + 2 ≤ wr.heap.size := Nat.le_trans z2 HA.out.size
          go_upto_region 10 with fail
          clear a0 a1 b0 b1
          have HBd : Aside (Below (w.heap.size + 2) w0 wr.drew) := HA.out.trans (below_drew1 wr)
          have HZd : Aside (w.heap.size + 2 ≤ wr.drew.heap.size) := zr
          cases hn : (nma.toList == nm.toList)
          · have hp : p2 = false := by rw [HM2j.out]; simp only [hn, Bool.false_and]
            have hac : acc' = acc := by rw [HSTEP.out, hp, Bool.or_false]
            have HAC := Lib.hid hac
            clear hp hac HM2j HSTEP HRHj
            obtain ⟨a1, b1, c0, c1, c2, c3, c4, c5, c6, d0, d1, d2, d3, d4, d5⟩ := HK.out _ HA.out
            first
            | go_region
            | fail "region"
            all_goals
              go_wp2_with fail
              go_roundg (n - (j + 1))
              case measure => omega
              case rel => exact ⟨j + 1, by go_num, hlt2, Nat.le_refl _, by rw [← HAC'.out, HAC.out], HBd.out⟩
          · have hp : p2 = ph := by rw [HM2j.out]; simp only [hn, Bool.true_and]
            have hac : acc' = (acc || ph) := by rw [HSTEP.out, hp]
            have HAC := Lib.hid hac
            clear hp hac HM2j HSTEP
            first
            | go_region_held (fun w' => Below (w.heap.size + 2) w0 w' ∧ w'.cell? ⟨w.heap.size, 1, none⟩ = some (.slice (some ⟨b, off, none⟩) len ccap) ∧ w'.cell? ⟨w.heap.size + 1, 1, none⟩ = some (.slice (some ⟨b2, off2, none⟩) n cap) ∧
              w'.cell? ⟨b, off + i * 7, none⟩ = some (.string nm) ∧ w'.cell? ⟨b, off + i * 7 + 1, none⟩ = some (.int .i64 op) ∧ w'.cell? ⟨b, off + i * 7 + 2, none⟩ = some (.int .i64 k) ∧ w'.cell? ⟨b, off + i * 7 + 3, none⟩ = some (.int .i64 n') ∧ w'.cell? ⟨b, off + i * 7 + 4, none⟩ = some (.float .f64 x) ∧ w'.cell? ⟨b, off + i * 7 + 5, none⟩ = some (.string s) ∧ w'.cell? ⟨b, off + i * 7 + 6, none⟩ = some (.bool y) ∧
              w'.cell? ⟨b2, off2 + j * 6, none⟩ = some (.string nma) ∧ w'.cell? ⟨b2, off2 + j * 6 + 1, none⟩ = some (.int .i64 ka) ∧ w'.cell? ⟨b2, off2 + j * 6 + 2, none⟩ = some (.int .i64 na) ∧ w'.cell? ⟨b2, off2 + j * 6 + 3, none⟩ = some (.float .f64 xa) ∧ w'.cell? ⟨b2, off2 + j * 6 + 4, none⟩ = some (.string sa) ∧ w'.cell? ⟨b2, off2 + j * 6 + 5, none⟩ = some (.bool ya))
                (first | exact ⟨HB1.out, HK.out _ HB1.out⟩ | exact ⟨HBd.out, HK.out _ HBd.out⟩)
                (first
                  | (go_at_call 34; refine (HRHj.out _).mono ?_; rintro e w1 ⟨rfl, hb⟩; have HB1 : Aside (Below (w.heap.size + 2) w0 w1) := HBd.out.trans (hb.mono HZd.out); clear hb))
            | fail "region"
            all_goals
              clear HK
              cases ph
              · go_wp2_with fail
                go_roundg (n - (j + 1))
                case measure => omega
                case rel => exact ⟨j + 1, by go_num, hlt2, Nat.le_refl _, by rw [← HAC'.out, HAC.out, Bool.or_false], HB1.out⟩
              · go_wp2_with fail
                go_roundg (n - (j + 1))
                case measure => omega
                case rel => exact ⟨j + 1, by go_num, hlt2, Nat.le_refl _, by rw [← HAC'.out, HAC.out, Bool.or_true], HB1.out⟩
        · obtain rfl : j = n := by omega
          have HQ : Aside (q = (l.take j).any m2i) := by
            show q = _
            rw [HM1i.out, HNl.out, List.take_length]
          rw [← HQ.out]
          clear HQ
          cases q
          · have hrf : r = false := HF.out (by first | trivial | rfl)
            subst hrf
            go_wp2_with fail
            go_ret
            exact ⟨rfl, HB0.out.trans (HA.out.mono (by omega))⟩
          · go_wp2_with fail
            go_roundg (len - (i + 1))
            case measure => omega
            case rel => exact ⟨i + 1, by go_num, hlt, Nat.le_refl _, HT.out (by first | trivial | rfl), HA.out⟩
    · obtain rfl : i = len := by omega
      have hrt : r = true := by
        rw [HR.out]
        have := HN.out
        rw [HLen.out, List.take_length] at this
        rw [this]; rfl
      subst hrt
      go_wp2_with fail
      go_ret
      exact ⟨rfl, HB0.out.trans (HA.out.mono (by omega))⟩
end Go.Proofs.YtjnfbinomljocaaDoor
