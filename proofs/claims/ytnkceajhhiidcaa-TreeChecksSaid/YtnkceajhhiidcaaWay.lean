/- tree.way: the way from one broker to another one; Path. -/
import Derived.Test.YtnkceajhhiidcaaTr
import Derived.Laws.Cover3
namespace Go.Proofs.Ytnkceajhhiidcaa
open Go.RowKit
open Go.Proofs
set_option maxRecDepth 100000
def appendS (tys : Array TypeId) (ty : TypeId) (args : Array Value) : Sem Value := Builtin.append_ tys ty args
theorem append_pre (tys : Array TypeId) (ty : TypeId) (args : Array Value) : Builtin.append_ tys ty args = appendS tys ty args := rfl

/-- A way as the program hands it out: nil where there is none. -/
def wayV (g cap : Nat) (l : List Nat) : Value := if l = [] then .slice none 0 0 else .slice (some ⟨g, 0, none⟩) l.length cap
/-- What way and Path answer. -/
def WayIs (w : World) (l : List Nat) (e : Ending) (w' : World) : Prop :=
  ∃ g cap, e = .returned (wayV g cap l) ∧ (∀ j, j < l.length → w'.cell? ⟨g, j, none⟩ = some (.int .i64 ((l[j]! : Nat) : Int))) ∧ (l ≠ [] → g < w'.heap.size) ∧ Below w.heap.size w w'
theorem way_none (w w' : World) (hb : Below w.heap.size w w') : WayIs w [] (.returned (.slice none 0 0)) w' := ⟨0, 0, rfl, fun j hj => absurd hj (by simp), fun h => absurd rfl h, hb⟩
theorem int_info : ∃ i z, Try.prog.info? 3 = some i ∧ i.zero = some z ∧ i.size = 1 ∧ i.bytes = 8 ∧ z.cells.size = 1 := by
  have h : (Try.prog.info? 3).map (fun i => (i.zero.map (fun z => z.cells.size), i.size, i.bytes)) = some (some 1, 1, 8) := by kernel_rfl
  obtain ⟨i, hi, h⟩ := Option.map_eq_some_iff.1 h
  simp only [Prod.mk.injEq] at h
  obtain ⟨z, hz, h1⟩ := Option.map_eq_some_iff.1 h.1
  exact ⟨i, z, hi, hz, h.2.1, h.2.2, h1⟩
theorem vi_len (l : List Nat) : (vi l).length = l.length := by simp
theorem vi_at (l : List Nat) (j : Nat) (hj : j < l.length) : (vi l)[j]? = some (.int .i64 ((l[j]! : Nat) : Int)) := by
  rw [getElem!_pos l j hj]; simp [vi, hj]
theorem vi_one (l : List Nat) : ∀ u ∈ vi l, u.oneCell' = true := fun u hu => by
  obtain ⟨k, _, rfl⟩ := List.mem_map.1 hu
  rfl
/-- a, and what lies in a row, behind one another. -/
theorem way_run (a : Nat) (y : Nat) (r : List Nat) (g cap L : Nat) (hL : L = (y :: r).length) (W : World) (hg : ∀ j, j < (y :: r).length → W.cell? ⟨g, j, none⟩ = some (.int .i64 (((y :: r)[j]! : Nat) : Int))) (hr : r.length ≤ 100) (hlt : g < W.heap.size) :
    ∃ g' cap' L' w3, Sem.run Try.prog (appendS #[33, 33] 33 #[.slice (some ⟨W.heap.size, 0, none⟩) 1 1, .slice (some ⟨g, 0, none⟩) L cap])
        (W.alloc (.cells #[.int .i64 (a : Int)] 3)) = .ok (.slice (some ⟨g', 0, none⟩) L' cap') w3 ∧
      Aside (L' = (a :: y :: r).length ∧ (∀ j, j < (a :: y :: r).length → w3.cell? ⟨g', j, none⟩ = some (.int .i64 (((a :: y :: r)[j]! : Nat) : Int))) ∧ g' < w3.heap.size ∧ Below W.heap.size W w3) := by
  subst hL
  obtain ⟨i0, z0, hi, hz0, hz1, hz2, hz3⟩ := int_info
  have hown : (W.alloc (.cells #[.int .i64 (a : Int)] 3)).ownsRow W.heap.size 3 1 (.slice (some ⟨W.heap.size, 0, none⟩) 1 1) 1 (vi [a]) := World.ownsRow_lit W #[.int .i64 (a : Int)] 1 (Nat.le_refl _) (by unfold maxLen; omega) rfl
  have hnews : ∀ j u, (vi (y :: r))[j]? = some u → (W.alloc (.cells #[.int .i64 (a : Int)] 3)).cell? ((⟨g, 0, none⟩ : Addr).add j) = some u := fun j u hu => by
    have hj : j < (y :: r).length := by rw [← vi_len]; exact (List.getElem?_eq_some_iff.1 hu).1
    have h := hg j hj
    have e := vi_at _ j hj
    rw [hu] at e
    injection e with e
    have h2 : (W.alloc (.cells #[.int .i64 (a : Int)] 3)).cell? ⟨g, j, none⟩ = some u := by
      rw [e, ← h]
      exact World.cell?_of_block (w := W) (Below.heap_alloc W _ g hlt)
    by_cases h0 : j = 0
    · subst h0; simpa [Addr.add] using h2
    · simpa [Addr.add, h0] using h2
  obtain ⟨v', w3, hrun, hown4, hgr, _⟩ := run_append_own (P := Try.prog) (W.alloc (.cells #[.int .i64 (a : Int)] 3)) W.heap.size 33 33 3 i0 z0 1 8 Try.underlying33 hi hz0 hz1 hz2 hz3 (by decide) _ _ _ hown ⟨g, 0, none⟩ (y :: r).length cap (vi (y :: r)) (by simp) hnews (vi_one _) (by unfold maxLen; simp; omega) (by simp; omega) (by simp)
  have e1 : 1 + (y :: r).length = (a :: y :: r).length := by simp; omega
  have e2 : vi [a] ++ vi (y :: r) = vi (a :: y :: r) := rfl
  rw [e1, e2] at hown4
  obtain ⟨ao, cap', rfl, hia⟩ := owns_ints hown4
  rcases hia with h | ⟨g', rfl, h2, h3⟩
  · cases h
  · exact ⟨g', cap', _, w3, hrun, rfl, h3, h2, ((Below.refl _ W).alloc (Nat.le_refl _) _).grown hgr (by simp) (fun k e => (hown.lt k e).1)⟩

theorem scan_drop {g : Nat → Option (List Nat)} {a : Nat} {fr : Int} {R : List Nat} {j : Nat} (h : j < R.length) :
    scanW g a fr (R.drop j) = if ((R[j]! : Nat) : Int) = fr then scanW g a fr (R.drop (j + 1)) else match g R[j]! with
      | none => none
      | some [] => scanW g a fr (R.drop (j + 1))
      | some (y :: r) => some (a :: y :: r) := by
  rw [List.drop_eq_getElem_cons h, getElem!_pos R j h]; rfl
theorem way_len : ∀ (k m a b : Nat) (fr : Int) (l : List Nat), wayF k m a b fr = some l → l.length ≤ k
  | 0, _, _, _, _, _, h => by cases h
  | k + 1, m, a, b, fr, l, h => by
    unfold wayF at h
    by_cases hab : a = b
    · rw [if_pos hab] at h; injection h with h; subst h; simp
    · rw [if_neg hab] at h
      generalize row m a = R at h
      induction R with
      | nil => simp only [scanW] at h; injection h with h; subst h; simp
      | cons x R ih =>
        unfold scanW at h
        split at h
        · exact ih h
        · split at h
          · cases h
          · exact ih h
          · rename_i y r hx
            injection h with h; subst h
            have := way_len k m x b a (y :: r) hx
            simp at this ⊢; omega
attribute [local go_sem ↓] append_pre
set_option maxHeartbeats 4000000 in
theorem way_c (T N n m b : Nat) : ∀ (k a : Nat) (fr : Int) (l : List Nat), k ≤ 50 → wayF k m a b fr = some l → a < n → ∀ w, Tr w T N n m →
    Calls Try.prog 17 #[tp T, .int .i64 a, .int .i64 b, .int .i64 fr] w (WayIs w l) := by
  intro k
  induction k with
  | zero => intro a fr l _ h; cases h
  | succ k ih =>
    intro a fr l hk h ha w hT
    have HT := Lib.hid hT
    have ct := hT.tcell
    have hn := hT.hn
    obtain ⟨ao, cap, ca, hia⟩ := hT.at_ a ha
    unfold wayF at h
    by_cases hab : a = b
    · subst hab
      rw [if_pos rfl] at h
      injection h with h
      subst h
      clear hT ih ca hia
      go_enter Try.func17, Try.ntmps17
      go_wp2_with fail
      go_ret
      exact ⟨w.heap.size, 1, rfl, fun j hj => by
        obtain rfl : j = 0 := by simp at hj; omega
        simp, fun _ => by simp, (Below.refl _ _).alloc (Nat.le_refl _) _⟩
    · rw [if_neg hab] at h
      have hrl := row_len m a
      have hcl := hT.cl a ha
      obtain ⟨R, hR⟩ : ∃ R, R = row m a := ⟨_, rfl⟩
      rw [← hR] at h ca hia hrl hcl
      obtain ⟨len, hL⟩ : ∃ len, len = R.length := ⟨_, rfl⟩
      rw [← hL] at ca hrl
      have HL := Lib.hid hL
      have HIA := Lib.hid hia
      have HCL := Lib.hid hcl
      have hab1 : ((a : Int) == (b : Int)) = false := by rw [beq_eq_false_iff_ne]; omega
      have HN : Aside (∀ x, x < n → wayF k m x b a = some [] → ∀ W, Below w.heap.size w W → Calls Try.prog 17 #[tp T, .int .i64 x, .int .i64 b, .int .i64 a] W fun e w' => e = .returned (.slice none 0 0) ∧ Below W.heap.size W w') := fun x hx hw W hW =>
        (ih x a [] (by omega) hw hx W (HT.out.below hW)).mono fun e w' ⟨g, c, h1, _, _, h4⟩ => ⟨h1, h4⟩
      have HS : Aside (∀ x y r, x < n → wayF k m x b a = some (y :: r) → ∀ W, Below w.heap.size w W → Calls Try.prog 17 #[tp T, .int .i64 x, .int .i64 b, .int .i64 a] W fun e w' => ∃ g c L, e = .returned (.slice (some ⟨g, 0, none⟩) L c) ∧
          Aside (L = (y :: r).length ∧ (∀ j, j < (y :: r).length → w'.cell? ⟨g, j, none⟩ = some (.int .i64 (((y :: r)[j]! : Nat) : Int))) ∧ g < w'.heap.size ∧ r.length ≤ 100 ∧ Below W.heap.size W w')) := fun x y r hx hw W hW =>
        (ih x a (y :: r) (by omega) hw hx W (HT.out.below hW)).mono fun e w' ⟨g, c, h1, h2, h3, h4⟩ => ⟨g, c, _, h1, rfl, h2, h3 (by simp), by have := way_len _ _ _ _ _ _ hw; simp at this; omega, h4⟩
      have HD : Aside (∀ j, j < len → scanW (fun x => wayF k m x b a) a fr (R.drop j) = if ((R[j]! : Nat) : Int) = fr then scanW (fun x => wayF k m x b a) a fr (R.drop (j + 1)) else match wayF k m R[j]! b a with
        | none => none
        | some [] => scanW (fun x => wayF k m x b a) a fr (R.drop (j + 1))
        | some (y :: r) => some (a :: y :: r)) := fun j hj => scan_drop (by rw [← HL.out]; exact hj)
      have HH : Aside (scanW (fun x => wayF k m x b a) a fr (R.drop 0) = some l) := by rw [List.drop_zero]; exact h
      have HE : Aside (R.drop len = []) := by show _ = _; rw [HL.out, List.drop_length]
      have HEN : Aside (scanW (fun x => wayF k m x b a) a fr [] = some l → l = []) := fun h => by injection h with h; exact h.symm
      obtain ⟨sc, hsc⟩ : ∃ sc : Nat → Option (List Nat), sc = fun j => scanW (fun x => wayF k m x b a) a fr (R.drop j) := ⟨_, rfl⟩
      have HD2 : Aside (∀ j, j < len → sc j = if ((R[j]! : Nat) : Int) = fr then sc (j + 1) else match wayF k m R[j]! b a with
        | none => none
        | some [] => sc (j + 1)
        | some (y :: r) => some (a :: y :: r)) := fun j hj => by rw [hsc]; exact HD.out j hj
      have HH2 : Aside (sc 0 = some l) := by rw [hsc]; exact HH.out
      have HE2 : Aside (sc len = some l → l = []) := fun h => by
        rw [hsc] at h
        have h : scanW (fun x => wayF k m x b a) a fr (R.drop len) = some l := h
        rw [HE.out] at h
        exact HEN.out h
      obtain ⟨wy, hwy⟩ : ∃ wy : Nat → Option (List Nat), wy = fun x => wayF k m x b a := ⟨_, rfl⟩
      have HD3 : Aside (∀ j, j < len → sc j = if ((R[j]! : Nat) : Int) = fr then sc (j + 1) else match wy R[j]! with
        | none => none
        | some [] => sc (j + 1)
        | some (y :: r) => some (a :: y :: r)) := fun j hj => by rw [hwy]; exact HD2.out j hj
      have HN2 : Aside (∀ x, x < n → wy x = some [] → ∀ W, Below w.heap.size w W → Calls Try.prog 17 #[tp T, .int .i64 x, .int .i64 b, .int .i64 a] W fun e w' => e = .returned (.slice none 0 0) ∧ Below W.heap.size W w') := fun x hx h => HN.out x hx (by rw [hwy] at h; exact h)
      have HS2 : Aside (∀ x y r, x < n → wy x = some (y :: r) → ∀ W, Below w.heap.size w W → Calls Try.prog 17 #[tp T, .int .i64 x, .int .i64 b, .int .i64 a] W fun e w' => ∃ g c L, e = .returned (.slice (some ⟨g, 0, none⟩) L c) ∧
          Aside (L = (y :: r).length ∧ (∀ j, j < (y :: r).length → w'.cell? ⟨g, j, none⟩ = some (.int .i64 (((y :: r)[j]! : Nat) : Int))) ∧ g < w'.heap.size ∧ r.length ≤ 100 ∧ Below W.heap.size W w')) := fun x y r hx h => HS.out x y r hx (by rw [hwy] at h; exact h)
      clear hT hL hia hcl ih h hab HN HS HD HH HE HEN HD2 hsc hwy hR
      have hk2 : len ≤ 6 := hrl
      clear hrl hk
      go_enter Try.func17, Try.ntmps17
      go_wp2_with fail
      clear ct ca
      go_loopg [25] len (fun kx s25 wr => ∃ j : Nat, s25 = .int .i64 j ∧ j ≤ len ∧ len - j ≤ kx ∧ Aside (sc j = some l) ∧ Aside (Below w.heap.size w wr))
      case atStart => exact ⟨0, rfl, Nat.zero_le _, by omega, HH2.out, Below.refl _ _⟩
      case round =>
        clear HH2
        obtain ⟨j, rfl, hj, hjx, HJ, HA⟩ := hrel
        have zr : w.heap.size ≤ wr.heap.size := HA.out.size
        by_cases hlt : j < len
        · obtain ⟨G, rfl, hG, hcell⟩ : ∃ G, ao = some ⟨G, 0, none⟩ ∧ G < w.heap.size ∧ wr.cell? ⟨G, j, none⟩ = some (.int .i64 ((R[j]! : Nat) : Int)) := by
            rcases HIA.out with h0 | ⟨G, h1, h2, h3⟩
            · have := HL.out; rw [h0] at this; simp at this; omega
            · exact ⟨G, h1, h2, (HA.out.cell (p := ⟨G, j, none⟩) h2).trans (h3 j (by rw [← HL.out]; exact hlt))⟩
          have hxn : R[j]! < n := HCL.out _ (by rw [getElem!_pos R j (by rw [← HL.out]; exact hlt)]; exact List.getElem_mem _)
          have hsc := HD3.out j hlt
          rw [HJ.out] at hsc
          generalize R[j]! = x at hcell hxn hsc
          have HN3 := Lib.hid (HN2.out x hxn)
          have HS3 := Lib.hid (fun y r => HS2.out x y r hxn)
          clear HCL HIA HN2 HS2 HD3 HJ
          have hltz : (j : Int) < len := by omega
          have hjz : (0 : Int) ≤ (j : Int) := by omega
          by_cases hx : (x : Int) = fr
          · rw [if_pos hx] at hsc
            have HSC := Lib.hid hsc.symm
            have hxb : ((x : Int) == fr) = true := by rw [beq_iff_eq]; exact hx
            have HX := Lib.hid hx
            clear hsc hx
            go_wp2_with fail
            go_roundg (len - (j + 1))
            case measure => omega
            case rel => exact ⟨j + 1, by go_num, hlt, Nat.le_refl _, HSC.out, HA.out⟩
          · rw [if_neg hx] at hsc
            have hxb : ((x : Int) == fr) = false := by rw [beq_eq_false_iff_ne]; exact hx
            have HX := Lib.hid hx
            clear hx
            generalize wy x = wx at hsc HN3 HS3
            match wx, hsc, HN3, HS3 with
            | none, hsc, _, _ => cases hsc
            | some [], hsc, HN3, _ =>
              have HSC : Aside (sc (j + 1) = some l) := hsc.symm
              clear hsc
              go_wp2_with fail
              refine (HN3.out (by first | trivial | rfl) _ HA.out).mono ?_
              rintro e w2 ⟨rfl, hb2⟩
              have HA2 : Aside (Below w.heap.size w w2) := HA.out.trans (hb2.mono zr)
              clear hb2 HN3 hcell
              go_wp2_with fail
              go_roundg (len - (j + 1))
              case measure => omega
              case rel => exact ⟨j + 1, by go_num, hlt, Nat.le_refl _, HSC.out, HA2.out⟩
            | some (y :: r), hsc, _, HS3 =>
              have HSC : Aside (l = a :: y :: r) := by injection hsc
              clear hsc
              go_wp2_with fail
              refine (HS3.out y r (by first | trivial | rfl) _ HA.out).mono ?_
              rintro e w2 ⟨g, c, L, rfl, HG⟩
              obtain ⟨gL, g1, g2, g3, hb2⟩ := HG.out
              have HA2 : Aside (Below w.heap.size w w2) := HA.out.trans (hb2.mono zr)
              have zr2 : w.heap.size ≤ w2.heap.size := HA2.out.size
              obtain ⟨g', c', L', w3, hrun, HR⟩ := way_run a y r g c L gL w2 g1 g3 g2
              clear hb2 HS3 hcell HG g1 g2 g3 gL
              go_wp2_with fail
              go_ret
              obtain ⟨r0, r1, r2, r3⟩ := HR.out
              have e := HSC.out
              subst e
              subst r0
              exact ⟨g', c', rfl, r1, fun _ => r2, HA2.out.trans (r3.mono zr2)⟩
        · obtain rfl : j = len := by omega
          have hl0 := HE2.out HJ.out
          subst hl0
          go_wp2_with fail
          go_ret
          exact way_none _ _ HA.out
end Go.Proofs.Ytnkceajhhiidcaa
