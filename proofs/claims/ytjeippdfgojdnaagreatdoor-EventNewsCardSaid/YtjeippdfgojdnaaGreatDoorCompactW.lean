/- slices.CompactFunc at the attributes of an event, over whatever program bears its body: its walk. -/
import Derived.Test.YtjeippdfgojdnaaGreatDoorCompact
namespace Go.Proofs.YtjeippdfgojdnaaGreatDoor
open Go.Shelf Go.RowKit Go.Lib Go.Sort
open Go.Proofs
variable {P : Program} {α : Type} [Inhabited α]

/-- What is asked of the program. -/
structure CompP (P : Program) : Prop where
  mixed : P.follows .mixedOrders = true
  body : P.funcs[(55 : Nat)]? = some Tryz.f55
  t0 : P.underlying 0 = some (TypeDesc.tuple #[])
  a0 : ∀ w, (isAgg 0).run P w = .ok false w
  z0 : ∀ w, (Go.sizeOf 0).run P w = .ok 1 w
  v0 : ∀ w, (zeroValue 0).run P w = .ok (Value.tuple #[]) w
  t3 : P.underlying 3 = some (TypeDesc.int IntKind.i64)
  a3 : ∀ w, (isAgg 3).run P w = .ok false w
  z3 : ∀ w, (Go.sizeOf 3).run P w = .ok 1 w
  v3 : ∀ w, (zeroValue 3).run P w = .ok (Value.int IntKind.i64 0) w
  t4 : P.underlying 4 = some (TypeDesc.bool)
  a4 : ∀ w, (isAgg 4).run P w = .ok false w
  z4 : ∀ w, (Go.sizeOf 4).run P w = .ok 1 w
  v4 : ∀ w, (zeroValue 4).run P w = .ok (Value.bool false) w
  t22 : P.underlying 36 = some (TypeDesc.slice 38)
  a22 : ∀ w, (isAgg 36).run P w = .ok false w
  z22 : ∀ w, (Go.sizeOf 36).run P w = .ok 1 w
  v22 : ∀ w, (zeroValue 36).run P w = .ok (Value.slice none 0 0) w
  t25 : P.underlying 80 = some (TypeDesc.func #[38, 38] #[4] false)
  a25 : ∀ w, (isAgg 80).run P w = .ok false w
  z25 : ∀ w, (Go.sizeOf 80).run P w = .ok 1 w
  v25 : ∀ w, (zeroValue 80).run P w = .ok (Value.nilFunc) w

/-- 'clear(s)' at elements of k cells. -/
theorem run_clearK {enc : α → List Value} {k : Nat} {w0 W : World} {blk off : Nat} {dk d0 : Array α} (R : RowK enc k w0 blk off d0) (h : SWK enc k w0 blk off dk W) (hs : dk.size = d0.size) (t e ty : TypeId) (z : Value)
    (ht : P.underlying t = some (.slice e)) (hv : ∀ w, (zeroValue e).run P w = .ok z w) (hz : z.cells.size = k) (h1 : ∀ v ∈ z.cells.toList, v.oneCell' = true) (m c : Nat) (hm : m < dk.size) :
    (Builtin.clear_ #[t] ty #[.slice (some ⟨blk, off + m * k, none⟩) (dk.size - m) c]).run P W = .ok (.tuple #[]) (W.setCells blk (off + m * k) (Builtin.zeroCells z.cells (dk.size - m)).toList) := by
  have hH := h.holds R.hblk R.hH hs
  have hl : (Builtin.zeroCells z.cells (dk.size - m)).toList.length = (dk.size - m) * k := by rw [Array.length_toList, size_zeroCells, hz]
  have hle : m * k + (dk.size - m) * k = dk.size * k := by rw [← Nat.add_mul]; congr 1; omega
  have hst := run_storeCells_cells (P := P) blk (off + m * k) (Builtin.zeroCells z.cells (dk.size - m)).toList 0 W
    (fun j hj => by
      have := (hH (m * k + j) (by rw [size_flatK]; omega)).1
      rw [show off + m * k + 0 + j = off + (m * k + j) by omega, this]; rfl)
    (fun j hj => by
      have := (hH (m * k + j) (by rw [size_flatK]; omega)).2
      rw [show off + m * k + 0 + j = off + (m * k + j) by omega]; exact this)
    (fun v hv' => by
      simp only [Builtin.zeroCells, Array.toList_map, List.mem_map] at hv'
      obtain ⟨i, hi, rfl⟩ := hv'
      have h0 : 0 < z.cells.size := by
        rcases Nat.eq_zero_or_pos z.cells.size with h0 | h0
        · rw [h0] at hi; simp at hi
        · exact h0
      refine h1 _ ?_
      have hlt : i % z.cells.size < z.cells.size := Nat.mod_lt _ h0
      rw [getElem!_pos z.cells _ hlt]
      simp)
  simp only [Nat.add_zero] at hst
  obtain ⟨q, hq⟩ : ∃ q, dk.size - m = q + 1 := ⟨dk.size - m - 1, by omega⟩
  rw [hq] at hst ⊢
  simp [Builtin.clear_, run_underlying ht, hv, hst]

set_option maxHeartbeats 8000000 in
set_option maxRecDepth 1000000 in
theorem compact_c (L : CompP P) (k : Nat) (aE : ∀ w, (isAgg 38).run P w = .ok true w) (zE : ∀ w, (Go.sizeOf 38).run P w = .ok k w) (z : Value) (hz : ∀ w, (zeroValue 38).run P w = .ok z w) (hzk : z.cells.size = k) (hz1 : ∀ v ∈ z.cells.toList, v.oneCell' = true)
    (enc : α → List Value) (eq : α → α → Bool) (g : Nat) (cb : Array Value) (blk off cap N : Nat) (d : Array α) (w0 : World) (eg : ∀ args w, (callFunc g args).run P w = .ok (.enter g args) w)
    (heq : ∀ x y W, Calls P g (#[.agg (enc x).toArray, .agg (enc y).toArray] ++ cb) W fun e w' => e = .returned (.bool (eq x y)) ∧ ∃ q os', w' = grow (W.drewN q) os') (R : RowK enc k w0 blk off d) (hN : d.size = N) (hcap : N ≤ cap) (hsz : cap < 4611686018427387904) :
    Calls P 55 #[.slice (some ⟨blk, off, none⟩) N cap, .func (.func g) #[] cb] w0 fun e w' =>
      e = .returned (.slice (some ⟨blk, off, none⟩) (dd eq d N).length cap) ∧ Aside (RowE enc k w' blk off (dd eq d N)) ∧ Aside (Apart blk w0 w') := by
  have mixed := L.mixed; have t0 := L.t0; have a0 := L.a0; have z0 := L.z0; have v0 := L.v0; have t3 := L.t3; have a3 := L.a3; have z3 := L.z3; have v3 := L.v3; have t4 := L.t4; have a4 := L.a4; have z4 := L.z4; have v4 := L.v4; have t22 := L.t22; have a22 := L.a22; have z22 := L.z22; have v22 := L.v22; have t25 := L.t25; have a25 := L.a25; have z25 := L.z25; have v25 := L.v25
  have FG := L.body
  have HE : Aside _ := heq
  have HZ : Aside _ := hz
  have HZ1 : Aside _ := hz1
  have S0 : Aside (SWK enc k w0 blk off d w0) := SWK.start R.hH
  have HD : Aside (d.size = N) := hN
  have hd1 : d.size ≤ N := by omega
  have hd2 : N ≤ d.size := by omega
  -- where nothing is left out
  have DONE : Aside (∀ W, SWK enc k w0 blk off d W → Whole eq d N → (dd eq d N).length = N ∧ Aside (RowE enc k W blk off (dd eq d N)) ∧ Aside (Apart blk w0 W)) := fun W hS hW =>
    ⟨hW.1, RowE.ofSort R hS rfl _ (by rw [hW.1]; omega) (fun j hj => (hW.2 j (by rw [← hW.1]; exact hj)).symm), Apart.ofSort hS⟩
  clear heq hz hz1 hN L
  by_cases h2 : N < 2
  · have h2z : (N : Int) < 2 := by omega
    have W2 : Whole eq d N := by
      rcases (show N = 0 ∨ N = 1 by omega) with rfl | rfl
      · exact Whole.zero eq d
      · exact Whole.one eq d
    have WW : Aside (Whole eq d N) := W2
    clear W2
    go_enter FG, Tryz.ntmps55
    go_wp2_with fail
    go_ret
    obtain ⟨e1, e2, e3⟩ := DONE.out w0 S0.out WW.out
    rw [e1]
    exact ⟨rfl, e2, e3⟩
  · have h2z : ¬ (N : Int) < 2 := by omega
    go_enter FG, Tryz.ntmps55
    go_wp2_with fail
    go_loopg [5] N (fun kx s5 wr => ∃ (jp : Nat), s5 = .int .i64 ((jp + 1 : Nat) : Int) ∧ jp + 1 ≤ N ∧ N - (jp + 1) ≤ kx ∧ Aside (SWK enc k w0 blk off d wr) ∧ Aside (Whole eq d (jp + 1)))
    case atStart => exact ⟨0, rfl, by omega, by omega, S0, Whole.one eq d⟩
    case round =>
      clear S0
      obtain ⟨jp, rfl, hk, hkx, S1, A⟩ := hrel
      by_cases hlt : jp + 1 < N
      · have hltz : (jp : Int) + 1 < (N : Int) := by omega
        obtain ⟨x1, hx1⟩ : ∃ x, x = d[jp + 1]! := ⟨_, rfl⟩
        obtain ⟨y1, hy1⟩ : ∃ x, x = d[jp]! := ⟨_, rfl⟩
        have l1a := S1.out.ld R rfl P (jp + 1) (by omega)
        have l1b := S1.out.ld R rfl P jp (by omega)
        rw [← hx1] at l1a
        rw [← hy1] at l1b
        have p0 : (0 : Int) ≤ (jp : Int) + 1 := by omega
        have p1 : (0 : Int) ≤ (jp : Int) := by omega
        have p2 : (jp : Int) < (N : Int) := by omega
        have e0 : ((jp : Int) + 1).toNat = jp + 1 := by omega
        have r0 : IntKind.i64.wrap ((jp : Int) + 1) = (jp : Int) + 1 := by rw [IntKind.wrap_i64]; omega
        have r1 : IntKind.i64.wrap (jp : Int) = (jp : Int) := by rw [IntKind.wrap_i64]; omega
        cases hq : eq d[jp + 1]! d[jp]! with
        | false =>
          have hq1 : eq x1 y1 = false := by rw [hx1, hy1]; exact hq
          have hc1 : ∀ n' os', Calls P g (#[.agg (enc x1).toArray, .agg (enc y1).toArray] ++ cb) (grow (wr.drewN n') os') fun e w' => e = .returned (.bool false) ∧ ∃ q os'', w' = grow ((grow (wr.drewN n') os').drewN q) os'' := fun n' os' => by
            have h := HE.out x1 y1 (grow (wr.drewN n') os')
            rw [hq1] at h; exact h
          have A2 : Aside (Whole eq d (jp + 1 + 1)) := A.out.next (by omega) (by simpa using hq)
          clear hx1 hy1 hq hq1
          go_wp2_with fail
          go_quiet_grown (first | (go_at_fn g; refine Calls.grown_of (hc1 _ _)))
          have S2 : Aside (SWK enc k w0 blk off d (grow (wr.drewN nq) osq)) := S1.out.grown nq osq
          clear l1a l1b hc1 S1
          generalize grow (wr.drewN nq) osq = w2 at S2 ⊢
          clear nq osq
          go_wp2_with fail
          go_roundg (N - (jp + 1 + 1))
          case measure => omega
          case rel => exact ⟨jp + 1, by go_num, by omega, Nat.le_refl _, S2, A2⟩
        | true =>
          have hq1 : eq x1 y1 = true := by rw [hx1, hy1]; exact hq
          have hc1 : ∀ n' os', Calls P g (#[.agg (enc x1).toArray, .agg (enc y1).toArray] ++ cb) (grow (wr.drewN n') os') fun e w' => e = .returned (.bool true) ∧ ∃ q os'', w' = grow ((grow (wr.drewN n') os').drewN q) os'' := fun n' os' => by
            have h := HE.out x1 y1 (grow (wr.drewN n') os')
            rw [hq1] at h; exact h
          have A2 : Aside (CI eq d (jp + 1 + 1) (jp + 1) d) := CI.start A.out (by omega) (by simpa using hq)
          have capz : (jp : Int) + 1 ≤ (cap : Int) := by omega
          have capz2 : (jp : Int) + 1 < (cap : Int) := by omega
          have capn : jp + 1 < cap := by omega
          clear hx1 hy1 hq hq1
          go_wp2_with fail
          go_quiet_grown (first | (go_at_fn g; refine Calls.grown_of (hc1 _ _)))
          have S2 : Aside (SWK enc k w0 blk off d (grow (wr.drewN nq) osq)) := S1.out.grown nq osq
          clear l1a l1b hc1 S1
          generalize grow (wr.drewN nq) osq = w2 at S2 ⊢
          clear nq osq
          go_wp2_with fail
          go_loopg [5, 7] N (fun ky s5 s7 wr => ∃ (m k2p : Nat) (dk : Array α), s5 = .int .i64 m ∧ s7 = .int .i64 ((k2p + 1 : Nat) : Int) ∧ jp + 1 + (k2p + 1) ≤ N ∧ N - (jp + 1 + (k2p + 1)) ≤ ky ∧ m < N ∧ dk.size = N ∧ Aside (CI eq d (jp + 1 + (k2p + 1)) m dk) ∧ Aside (SWK enc k w0 blk off dk wr))
          case atStart => exact ⟨jp + 1, 0, d, by go_num, rfl, by omega, by omega, by omega, HD.out, A2, S2⟩
          case round =>
            clear S2 A2
            obtain ⟨m, k2p, dk, rfl, rfl, hle, hky, hmN, hds, C, S2⟩ := hrel
            have hmt := C.out.lt
            have mz : (m : Int) ≤ (N : Int) := by omega
            have mz2 : (m : Int) < (N : Int) := by omega
            have mc : (m : Int) ≤ (cap : Int) := by omega
            by_cases hlt2 : jp + 1 + (k2p + 1) < N
            · have hl2 : k2p + 1 < N - (jp + 1) := by omega
              have hl2z : (k2p : Int) + 1 < ((N - (jp + 1) : Nat) : Int) := by omega
              have hl3z : (k2p : Int) < ((N - (jp + 1) : Nat) : Int) := by omega
              obtain ⟨x2, hx2⟩ : ∃ x, x = d[jp + 1 + (k2p + 1)]! := ⟨_, rfl⟩
              obtain ⟨y2, hy2⟩ : ∃ x, x = d[jp + 1 + k2p]! := ⟨_, rfl⟩
              have l2a := S2.out.ld R (by omega) P (jp + 1 + (k2p + 1)) (by omega)
              have l2b := S2.out.ld R (by omega) P (jp + 1 + k2p) (by omega)
              rw [C.out.hi _ (by omega), ← hx2, show off + (jp + 1 + (k2p + 1)) * k = off + (jp + 1) * k + (k2p + 1) * k by rw [Nat.add_mul (jp + 1)]; omega] at l2a
              rw [C.out.hi _ (by omega), ← hy2, show off + (jp + 1 + k2p) * k = off + (jp + 1) * k + k2p * k by rw [Nat.add_mul (jp + 1)]; omega] at l2b
              have q0 : (0 : Int) ≤ (k2p : Int) + 1 := by omega
              have q1 : (0 : Int) ≤ (k2p : Int) := by omega
              have qe : ((k2p : Int) + 1).toNat = k2p + 1 := by omega
              have qr : IntKind.i64.wrap ((k2p : Int) + 1) = (k2p : Int) + 1 := by rw [IntKind.wrap_i64]; omega
              have qr1 : IntKind.i64.wrap (k2p : Int) = (k2p : Int) := by rw [IntKind.wrap_i64]; omega
              cases hq : eq d[jp + 1 + (k2p + 1)]! d[jp + 1 + k2p]! with
              | true =>
                have hq1 : eq x2 y2 = true := by rw [hx2, hy2]; exact hq
                have hc2 : ∀ n' os', Calls P g (#[.agg (enc x2).toArray, .agg (enc y2).toArray] ++ cb) (grow (wr.drewN n') os') fun e w' => e = .returned (.bool true) ∧ ∃ q os'', w' = grow ((grow (wr.drewN n') os').drewN q) os'' := fun n' os' => by
                  have h := HE.out x2 y2 (grow (wr.drewN n') os')
                  rw [hq1] at h; exact h
                have C2 : Aside (CI eq d (jp + 1 + (k2p + 1 + 1)) m dk) := C.out.skip (by simpa using hq)
                clear hx2 hy2 hq hq1
                go_wp2_with fail
                go_quiet_grown (first | (go_at_fn g; refine Calls.grown_of (hc2 _ _)))
                have S3 : Aside (SWK enc k w0 blk off dk (grow (wr.drewN nq) osq)) := S2.out.grown nq osq
                clear l2a l2b hc2 S2
                generalize grow (wr.drewN nq) osq = w3 at S3 ⊢
                clear nq osq
                go_wp2_with fail
                go_roundg (N - (jp + 1 + (k2p + 1 + 1)))
                case measure => omega
                case rel => exact ⟨m, k2p + 1, dk, rfl, by go_num, by omega, Nat.le_refl _, hmN, hds, C2, S3⟩
              | false =>
                have hq1 : eq x2 y2 = false := by rw [hx2, hy2]; exact hq
                have hc2 : ∀ n' os', Calls P g (#[.agg (enc x2).toArray, .agg (enc y2).toArray] ++ cb) (grow (wr.drewN n') os') fun e w' => e = .returned (.bool false) ∧ ∃ q os'', w' = grow ((grow (wr.drewN n') os').drewN q) os'' := fun n' os' => by
                  have h := HE.out x2 y2 (grow (wr.drewN n') os')
                  rw [hq1] at h; exact h
                have C2 : Aside (CI eq d (jp + 1 + (k2p + 1 + 1)) (m + 1) (dk.setIfInBounds m x2)) := by rw [hx2]; exact C.out.keep (by omega) (by simpa using hq)
                have hx3 : Aside (x2 = dk[jp + 1 + (k2p + 1)]!) := by rw [hx2]; exact (C.out.hi _ (by omega)).symm
                clear hx2 hy2 hq hq1
                go_wp2_with fail
                go_quiet_grown (first | (go_at_fn g; refine Calls.grown_of (hc2 _ _)))
                have S3 : Aside (SWK enc k w0 blk off dk (grow (wr.drewN nq) osq)) := S2.out.grown nq osq
                clear l2a l2b hc2 S2
                generalize grow (wr.drewN nq) osq = w3 at S3 ⊢
                clear nq osq
                have l3 := S3.out.load R (by omega) P (jp + 1 + (k2p + 1)) (by omega)
                have s3 := st0 enc k R S3.out (by omega) P m x2 (by omega)
                rw [← hx3.out, show off + (jp + 1 + (k2p + 1)) * k = off + (jp + 1) * k + (k2p + 1) * k by rw [Nat.add_mul (jp + 1)]; omega] at l3
                have n3 : (enc x2).length = k := R.hk _
                have S4 : Aside (SWK enc k w0 blk off (dk.setIfInBounds m x2) (w3.setCells blk (off + m * k) (enc x2))) := stored enc k R S3.out m x2 (by omega)
                have m0 : (0 : Int) ≤ (m : Int) := by omega
                have me : ((m : Int)).toNat = m := by omega
                generalize enc x2 = c2 at l3 s3 n3 S4
                clear S3
                go_wp2_with fail
                clear l3 s3
                generalize w3.setCells blk (off + m * k) c2 = w4 at S4 ⊢
                go_wp2_with fail
                go_roundg (N - (jp + 1 + (k2p + 1 + 1)))
                case measure => omega
                case rel => exact ⟨m + 1, k2p + 1, _, by go_num, by go_num, by omega, Nat.le_refl _, by omega, by simpa using hds, C2, S4⟩
            · have hend : jp + 1 + (k2p + 1) = N := by omega
              have hl2z : ¬ (k2p : Int) + 1 < ((N - (jp + 1) : Nat) : Int) := by omega
              have hcl : ∀ ty, (Builtin.clear_ #[36] ty #[.slice (some ⟨blk, off + m * k, none⟩) (N - m) (cap - m)]).run P wr = .ok (.tuple #[]) (wr.setCells blk (off + m * k) (Builtin.zeroCells z.cells (N - m)).toList) := fun ty => by
                have h := run_clearK R S2.out (hds.trans HD.out.symm) 36 38 ty z t22 HZ.out hzk HZ1.out m (cap - m) (by omega)
                rw [hds] at h; exact h
              have CC : Aside (CI eq d N m dk) := by rw [← hend]; exact C
              have m0 : (0 : Int) ≤ (m : Int) := by omega
              have me : ((m : Int)).toNat = m := by omega
              clear C hend
              have mcap : m < cap := by omega
              have mcap2 : ¬ cap = m := by omega
              have RE : Aside (RowE enc k wr blk off (dd eq d N)) := RowE.ofSort R S2.out (hds.trans HD.out.symm) _ (by rw [CC.out.len]; omega) (fun j hj => CC.out.lo j (by rw [← CC.out.len]; exact hj))
              go_wp2_with fail
              all_goals
                go_ret
                refine ⟨by rw [CC.out.len]; rfl, ?_, ?_⟩
                · show RowE _ _ _ _ _ _
                  first
                    | exact RE.out
                    | exact RowE.beyond RE.out R.hk _ _ (by rw [CC.out.len]; exact Nat.le_refl _)
                · first
                    | exact Apart.ofSort S2.out
                    | exact (Apart.ofSort S2.out).trans (Apart.setCells _ _ _ _)
      · have hltz : ¬ (jp : Int) + 1 < (N : Int) := by omega
        obtain hj : jp + 1 = N := by omega
        have WW : Aside (Whole eq d N) := by rw [← hj]; exact A
        clear hj A
        go_wp2_with fail
        go_ret
        obtain ⟨e1, e2, e3⟩ := DONE.out _ S1.out WW.out
        rw [e1]
        exact ⟨rfl, e2, e3⟩
end Go.Proofs.YtjeippdfgojdnaaGreatDoor
