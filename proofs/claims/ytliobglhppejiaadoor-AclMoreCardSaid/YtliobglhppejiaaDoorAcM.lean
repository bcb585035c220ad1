/- slices.ContainsFunc over rules; acl's may, MayPublish, MayObserve. -/
import Derived.Test.YtliobglhppejiaaDoorAcH
namespace Go.Proofs.YtliobglhppejiaaDoor
open Go.RowKit Go.Shelf
open Go.Proofs
set_option maxRecDepth 100000

set_option maxHeartbeats 4000000 in
theorem indexR_c (g : Nat) (cb : Array Value) (q : Ru → Bool) (co : Option Addr) (ccap : Nat) (cs : List Ru) (w : World) (hcs : RulesB w.heap.size w co cs) (hlc : cs.length ≤ 4611686018427387904)
    (eg : ∀ args w, (callFunc g args).run Tryd.prog w = .ok (.enter g args) w)
    (hg : ∀ c ∈ cs, ∀ W, Below w.heap.size w W → Calls Tryd.prog g (#[rulR c] ++ cb) W fun e w' => e = .returned (.bool (q c)) ∧ Below W.heap.size W w') :
    Calls Tryd.prog 74 #[.slice co cs.length ccap, .func (.func g) #[] cb] w fun e w' => ∃ r : Int, e = .returned (.int .i64 r) ∧ decide (0 ≤ r) = cs.any q ∧ Below w.heap.size w w' := by
  obtain ⟨len, hL⟩ : ∃ len, len = cs.length := ⟨_, rfl⟩
  have HLen : Aside (len = cs.length) := hL
  rw [← hL] at hlc ⊢
  have HG := Lib.hid hg
  have HSL : Aside (∀ W, Below w.heap.size w W → cs = [] ∨ ∃ b off, co = some ⟨b, off, none⟩ ∧ b < w.heap.size ∧ RowR W b off cs) := fun W hW => by
    rcases hcs.1 with h | ⟨b, off, h1, h2, h3⟩
    · exact Or.inl h
    · exact Or.inr ⟨b, off, h1, h2, RowR.below hW h2 h3⟩
  obtain ⟨r, hr⟩ : ∃ r, r = cs.any q := ⟨_, rfl⟩
  have HR : Aside (r = cs.any q) := hr
  rw [← hr]
  clear hcs hg hL hr
  go_enter Tryd.func74, Tryd.ntmps74
  go_wp2_with fail
  go_loopg [8] len (fun kx s10 wr => ∃ j : Nat, s10 = .int .i64 j ∧ j ≤ len ∧ len - j ≤ kx ∧ Aside ((cs.take j).any q = false) ∧ Aside (Below w.heap.size w wr))
  case atStart => exact ⟨0, rfl, Nat.zero_le _, by omega, by simp [Aside], Below.refl _ _⟩
  case round =>
    obtain ⟨j, rfl, hj, hjx, HN, HA⟩ := hrel
    have zr : w.heap.size ≤ wr.heap.size := HA.out.size
    by_cases hlt : j < len
    · rcases HSL.out _ HA.out with h0 | ⟨b, off, hao, hbs, hrow⟩
      · rw [h0] at HLen; exact absurd HLen.out (by simp; omega)
      subst hao
      have hjl : j < cs.length := by rw [← HLen.out]; exact hlt
      have hrow1 := hrow j hjl
      have HMj := Lib.hid (HG.out _ (memR cs j hjl) _ HA.out)
      have HT : Aside (q cs[j]! = true → r = true) := fun h => by rw [HR.out, any_true_at cs q j hjl h]
      have HF : Aside (q cs[j]! = false → (cs.take (j + 1)).any q = false) := fun h => any_take_snoc cs q j hjl HN.out h
      generalize q cs[j]! = p at HT HF HMj
      generalize cs[j]! = c at hrow1 HMj
      obtain ⟨rk, rt, rw1, rb, rsc, rco, rcap, rcs, rn, rix⟩ := c
      have c0 := hrow1 0 _ rfl; have c1 := hrow1 1 _ rfl; have c2 := hrow1 2 _ rfl; have c3 := hrow1 3 _ rfl; have c4 := hrow1 4 _ rfl; have c5 := hrow1 5 _ rfl; have c6 := hrow1 6 _ rfl; have c7 := hrow1 7 _ rfl
      simp only [Nat.add_zero] at c0
      clear hrow1 hrow HSL HG hjl
      have hltz : (j : Int) < len := by omega
      have hjz : (0 : Int) ≤ (j : Int) := by omega
      go_wp2_with fail
      clear c0 c1 c2 c3 c4 c5 c6 c7
      refine HMj.out.mono ?_
      rintro e w10 ⟨rfl, hb⟩
      have HA10 := Lib.hid (HA.out.trans (hb.mono zr)); clear hb
      cases p
      · go_wp2_with fail
        go_roundg (len - (j + 1))
        case measure => omega
        case rel => exact ⟨j + 1, by go_num, hlt, Nat.le_refl _, HF.out (by first | trivial | rfl), HA10.out⟩
      · have hrt : r = true := HT.out (by first | trivial | rfl)
        subst hrt
        go_wp2_with fail
        go_ret
        exact ⟨j, rfl, by simp, HA10.out⟩
    · obtain rfl : j = len := by omega
      have hrf : r = false := by
        rw [HR.out]
        have := HN.out
        rw [HLen.out, List.take_length] at this
        exact this
      subst hrf
      go_wp2_with fail
      go_ret
      exact ⟨-1, rfl, rfl, HA.out⟩
set_option maxHeartbeats 1000000 in
theorem containsR_c (g : Nat) (cb : Array Value) (q : Ru → Bool) (co : Option Addr) (ccap : Nat) (cs : List Ru) (w : World) (hcs : RulesB w.heap.size w co cs) (hlc : cs.length ≤ 4611686018427387904)
    (eg : ∀ args w, (callFunc g args).run Tryd.prog w = .ok (.enter g args) w)
    (hg : ∀ c ∈ cs, ∀ W, Below w.heap.size w W → Calls Tryd.prog g (#[rulR c] ++ cb) W fun e w' => e = .returned (.bool (q c)) ∧ Below W.heap.size W w') :
    Calls Tryd.prog 55 #[.slice co cs.length ccap, .func (.func g) #[] cb] w fun e w' => e = .returned (.bool (cs.any q)) ∧ Below w.heap.size w w' := by
  have H := Lib.hid (indexR_c g cb q co ccap cs w hcs hlc eg hg)
  generalize cs.any q = b at *
  clear hcs hlc hg
  go_enter Tryd.func55, Tryd.ntmps55
  go_wp2_with fail
  refine H.out.mono ?_
  rintro e w1 ⟨r, rfl, hr, hb⟩
  have HB := Lib.hid hb; clear hb
  have HRr := Lib.hid hr; clear hr
  go_wp2_with fail
  go_ret
  exact ⟨congrArg (fun b => Ending.returned (Value.bool b)) HRr.out, HB.out⟩

/-! ### may -/
/-- What may's closure has captured, in every later world. -/
def CapI (B : Nat) (k tn : Int) (who : ByteArray) (g : Nat) (cb : Array Value) (W : World) : Prop := W.cell? ⟨B, 0, none⟩ = some (.int .i64 k) ∧ W.cell? ⟨B + 1, 0, none⟩ = some (.int .i64 tn) ∧ W.cell? ⟨B + 2, 0, none⟩ = some (.string who) ∧ W.cell? ⟨B + 3, 0, none⟩ = some (.func (.func g) #[] cb)
theorem CapI.below {n B : Nat} {k tn : Int} {who : ByteArray} {g : Nat} {cb : Array Value} {W W' : World} (h : CapI B k tn who g cb W) (hn : B + 3 < n) (hb : Below n W W') : CapI B k tn who g cb W' :=
  ⟨(hb.cell (p := ⟨B, 0, none⟩) (by show B < n; omega)).trans h.1, (hb.cell (p := ⟨B + 1, 0, none⟩) (by show B + 1 < n; omega)).trans h.2.1, (hb.cell (p := ⟨B + 2, 0, none⟩) (by show B + 2 < n; omega)).trans h.2.2.1, (hb.cell (p := ⟨B + 3, 0, none⟩) hn).trans h.2.2.2⟩
theorem may1_enters : ∀ args w, (callFunc 56 args).run Tryd.prog w = .ok (.enter 56 args) w := enters_of Tryd.func56 (by kernel_rfl) rfl
set_option maxHeartbeats 2000000 in
theorem may1_c (rk rt : Int) (rw1 : ByteArray) (rb : Int) (rsc : ByteArray) (rco : Option Addr) (rn rcap : Nat) (rnm : ByteArray) (rix : Int) (B : Nat) (k tn : Int) (who : ByteArray) (g : Nat) (cb : Array Value) (q : Bool) (w : World) (hB : B + 3 < w.heap.size) (hC : CapI B k tn who g cb w)
    (eg : ∀ args w, (callFunc g args).run Tryd.prog w = .ok (.enter g args) w)
    (hg : ((rk == k) && ((rt == tn) && (rw1.toList == who.toList))) = true → ∀ W, Below w.heap.size w W → Calls Tryd.prog g (#[fil rsc rco rn rcap] ++ cb) W fun e w' => e = .returned (.bool q) ∧ Below W.heap.size W w') :
    Calls Tryd.prog 56 #[rul rk rt rw1 rb rsc rco rn rcap rnm rix, .pointer (some ⟨B, 0, none⟩), .pointer (some ⟨B + 1, 0, none⟩), .pointer (some ⟨B + 2, 0, none⟩), .pointer (some ⟨B + 3, 0, none⟩)] w fun e w' => e = .returned (.bool (((rk == k) && ((rt == tn) && (rw1.toList == who.toList))) && q)) ∧ Below w.heap.size w w' := by
  have z1 : w.heap.size + 1 ≤ (w.alloc (.cells (ruls rk rt rw1 rb rsc rco rn rcap rnm rix) 26)).heap.size := by simp
  have hB0 : Below w.heap.size w (w.alloc (.cells (ruls rk rt rw1 rb rsc rco rn rcap rnm rix) 26)) := (Below.refl _ _).alloc (Nat.le_refl _) _
  have HKP : Aside (∀ W, Below (w.heap.size + 1) (w.alloc (.cells (ruls rk rt rw1 rb rsc rco rn rcap rnm rix) 26)) W → _) := fun W hW => rul_lay hW
  have HCP : Aside (∀ W, Below (w.heap.size + 1) (w.alloc (.cells (ruls rk rt rw1 rb rsc rco rn rcap rnm rix) 26)) W → CapI B k tn who g cb W) := fun W hW => hC.below hB (hB0.trans (hW.mono (by omega)))
  have HBR : Aside (Below (w.heap.size + 1) (w.alloc (.cells (ruls rk rt rw1 rb rsc rco rn rcap rnm rix) 26)) (w.alloc (.cells (ruls rk rt rw1 rb rsc rco rn rcap rnm rix) 26))) := Below.refl _ _
  have HOF := Lib.hid (of_c rk rt rw1 rb rsc rco rn rcap rnm rix k tn who)
  have HG := Lib.hid hg
  have HB0 := Lib.hid hB0
  clear hg
  generalize ((rk == k) && ((rt == tn) && (rw1.toList == who.toList))) = p at HOF HG ⊢
  obtain ⟨c0, c1, c2, c3⟩ := HCP.out _ HBR.out
  obtain ⟨x0, x1, x2, x3, x4, x5, x6, x7⟩ := HKP.out _ HBR.out
  clear hB0 hC hB
  go_enter Tryd.func56, Tryd.ntmps56
  go_wp2_with fail
  generalize hW0 : (w.alloc (.cells (ruls rk rt rw1 rb rsc rco rn rcap rnm rix) 26)) = w0 at *
  clear c0 c1 c2 c3 x0 x1 x2 x3 x4 x5 x6 x7
  refine (HOF.out _).mono ?_
  rintro e w1 ⟨rfl, hb⟩
  have HA1 : Aside (Below (w.heap.size + 1) w0 w1) := hb.mono z1
  clear hb
  cases p
  · go_wp2_with fail
    go_ret
    exact ⟨rfl, HB0.out.trans (HA1.out.mono (by omega))⟩
  · obtain ⟨_, _, _, c3⟩ := HCP.out _ HA1.out
    obtain ⟨_, _, _, _, x4, x5, _, _⟩ := HKP.out _ HA1.out
    go_wp2_with fail
    refine (HG.out (by first | trivial | rfl) _ (HB0.out.trans (HA1.out.mono (by omega)))).mono ?_
    rintro e w2 ⟨rfl, hb⟩
    have HA2 : Aside (Below (w.heap.size + 1) w0 w2) := HA1.out.trans (hb.mono (Nat.le_trans z1 HA1.out.size))
    clear hb
    go_wp2_with fail
    go_ret
    exact ⟨by simp, HB0.out.trans (HA2.out.mono (by omega))⟩
set_option maxHeartbeats 4000000 in
theorem may_c (ao : Option Addr) (cap : Nat) (rs : List Ru) (k tn : Int) (who : ByteArray) (g : Nat) (cb : Array Value) (q : Ru → Bool) (w : World) (hl : RulesB w.heap.size w ao rs) (hn : rs.length * 8 ≤ 140737488351232)
    (eg : ∀ args w, (callFunc g args).run Tryd.prog w = .ok (.enter g args) w)
    (hg : ∀ r ∈ rs, ofR r k tn who = true → ∀ W, Below w.heap.size w W → Calls Tryd.prog g (#[fil r.sc r.co r.cs.length r.cap] ++ cb) W fun e w' => e = .returned (.bool (q r)) ∧ Below W.heap.size W w') :
    Calls Tryd.prog 34 #[.slice ao rs.length cap, .int .i64 k, .int .i64 tn, .string who, .func (.func g) #[] cb] w fun e w' => e = .returned (.bool (mayR rs k tn who q)) ∧ Below w.heap.size w w' := by
  obtain ⟨w0, hw0⟩ : ∃ w0, w0 = (((w.alloc (.cells #[.int .i64 k] 3)).alloc (.cells #[.int .i64 tn] 3)).alloc (.cells #[.string who] 9)).alloc (.cells #[.func (.func g) #[] cb] 31) := ⟨_, rfl⟩
  have hB0 : Below w.heap.size w w0 := by rw [hw0]; exact ((((Below.refl _ w).alloc (Nat.le_refl _) _).alloc (by simp) _).alloc (by simp; omega) _).alloc (by simp; omega) _
  have hz : w0.heap.size = w.heap.size + 4 := by rw [hw0]; simp
  have hC : CapI w.heap.size k tn who g cb w0 := by
    rw [hw0]
    refine ⟨((((Boxed.new w _ _).alloc _).alloc _).alloc _).cell, ?_, ?_, ?_⟩
    · have := (((Boxed.new (w.alloc (.cells #[.int .i64 k] 3)) 3 (.int .i64 tn)).alloc (.cells #[.string who] 9)).alloc (.cells #[.func (.func g) #[] cb] 31)).cell
      rw [World.size_alloc] at this; exact this
    · have := ((Boxed.new ((w.alloc (.cells #[.int .i64 k] 3)).alloc (.cells #[.int .i64 tn] 3)) 9 (.string who)).alloc (.cells #[.func (.func g) #[] cb] 31)).cell
      rw [World.size_alloc, World.size_alloc] at this; exact this
    · have := (Boxed.new (((w.alloc (.cells #[.int .i64 k] 3)).alloc (.cells #[.int .i64 tn] 3)).alloc (.cells #[.string who] 9)) 31 (.func (.func g) #[] cb)).cell
      rw [World.size_alloc, World.size_alloc, World.size_alloc] at this; exact this
  have HCP : Aside (∀ W, Below (w.heap.size + 4) w0 W → CapI w.heap.size k tn who g cb W) := fun W hW => hC.below (by omega) hW
  have HH : Aside (∀ W, Below w.heap.size w W → Calls Tryd.prog 15 #[.slice ao rs.length cap, .int .i64 tn, .string who] W fun e w' => e = .returned (.tuple #[.int .i64 (homeI rs tn who), .bool (homeB rs tn who)]) ∧ Below W.heap.size W w') := fun W hW => home_c ao cap rs tn who W (hl.on hW) hn
  have HCO : Aside (∀ W, Below (w.heap.size + 4) w0 W → Calls Tryd.prog 55 #[.slice ao rs.length cap, .func (.func 56) #[] #[.pointer (some ⟨w.heap.size, 0, none⟩), .pointer (some ⟨w.heap.size + 1, 0, none⟩), .pointer (some ⟨w.heap.size + 2, 0, none⟩), .pointer (some ⟨w.heap.size + 3, 0, none⟩)]] W fun e w' => e = .returned (.bool (rs.any fun r => ofR r k tn who && q r)) ∧ Below W.heap.size W w') := fun W hW => by
    have hbw : Below w.heap.size w W := hB0.trans (hW.mono (by omega))
    have hsz := hW.size
    refine containsR_c 56 #[.pointer (some ⟨w.heap.size, 0, none⟩), .pointer (some ⟨w.heap.size + 1, 0, none⟩), .pointer (some ⟨w.heap.size + 2, 0, none⟩), .pointer (some ⟨w.heap.size + 3, 0, none⟩)] (fun r => ofR r k tn who && q r) ao cap rs W (hl.on hbw) (by omega) may1_enters ?_
    intro r hr W' hW'
    have h1 := hg r hr
    exact may1_c r.k r.tn r.who r.br r.sc r.co r.cs.length r.cap r.nm r.ix w.heap.size k tn who g cb (q r) W' (by have := hW'.size; omega) ((HCP.out W hW).below (by omega) hW') eg (fun ho W2 hW2 => h1 ho W2 ((hbw.trans (hW'.mono hbw.size)).trans (hW2.mono (by have := hbw.size; have := hW'.size; omega))))
  have HM : Aside (mayR rs k tn who q = (homeB rs tn who && rs.any fun r => ofR r k tn who && q r)) := rfl
  generalize (rs.any fun r => ofR r k tn who && q r) = a at *
  generalize homeB rs tn who = b at *
  generalize homeI rs tn who = i at *
  generalize mayR rs k tn who q = m at *
  generalize rs.length = N at *
  have HW0 := Lib.hid hw0
  have HB0 := Lib.hid hB0
  have HZ := Lib.hid hz
  clear hl hn hg hC hB0 hz hw0
  go_enter Tryd.func34, Tryd.ntmps34
  go_upto_region 1 with fail
  rw [← HW0.out]
  have HA0 : Aside (Below (w.heap.size + 4) w0 w0) := Below.refl _ _
  obtain ⟨c0, c1, c2, c3⟩ := HCP.out _ HA0.out
  go_wp2_with fail
  refine (HH.out _ HB0.out).mono ?_
  rintro e w1 ⟨rfl, hb⟩
  have HA1 : Aside (Below (w.heap.size + 4) w0 w1) := hb.mono (by have := HZ.out; omega)
  clear hb c0 c1 c2 c3
  cases b
  · have hm : m = false := HM.out
    subst hm
    go_wp2_with fail
    go_ret
    exact ⟨rfl, HB0.out.trans (HA1.out.mono (by omega))⟩
  · have hm : m = a := HM.out
    subst hm
    go_wp2_with fail
    refine (HCO.out _ HA1.out).mono ?_
    rintro e w2 ⟨rfl, hb⟩
    have HA2 : Aside (Below (w.heap.size + 4) w0 w2) := HA1.out.trans (hb.mono (by have := HZ.out; have := HA1.out.size; omega))
    clear hb
    go_wp2_with fail
    go_ret
    exact ⟨rfl, HB0.out.trans (HA2.out.mono (by omega))⟩
end Go.Proofs.YtliobglhppejiaaDoor
