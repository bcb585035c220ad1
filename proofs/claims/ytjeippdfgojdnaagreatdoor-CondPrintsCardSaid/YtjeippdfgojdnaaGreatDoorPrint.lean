/- value.Print of any value. -/
import Derived.Test.YtjeippdfgojdnaaGreatDoorFtoa
import Derived.Test.YtjeippdfgojdnaaGreatDoorOrd
import Derived.Test.YtjeippdfgojdnaaGreatDoorV0
import Derived.Lib.AppendIntMem
namespace Go.Proofs.YtjeippdfgojdnaaGreatDoor
open Go.RowKit
set_option maxRecDepth 100000

/-! ### Plainly -/
theorem ftoaL_ne (x : Nat) : 0 < (ftoaL x).length := by
  unfold ftoaL
  split
  · split
    · decide
    · split <;> decide
  · split
    · simp
    · unfold gL
      split
      · unfold zL
        split
        · simp
        · split
          · simp; omega
          · split
            · simp
            · simp; omega
      · unfold efgL
        split
        · unfold eL; simp; omega
        · unfold fL
          split
          · simp; omega
          · simp; omega
def asciiL (l : List UInt8) : Prop := ∀ b ∈ l, b.toNat < 128
theorem asciiL_app {a b : List UInt8} (h : asciiL a) (k : asciiL b) : asciiL (a ++ b) := fun x hx => (List.mem_append.1 hx).elim (h x) (k x)
theorem asciiL_rep (n : Nat) : asciiL (List.replicate n 48) := fun x hx => by rw [(List.mem_replicate.1 hx).2]; decide
theorem dg_ascii (u j : Nat) : (Lib.dg u j).toNat < 128 := by
  unfold Lib.dg
  simp only [UInt8.toNat_ofNat']
  omega
theorem map_ascii (f : Nat → UInt8) (h : ∀ j, (f j).toNat < 128) (n : Nat) : asciiL ((List.range n).map f) := fun x hx => by
  obtain ⟨j, _, rfl⟩ := List.mem_map.1 hx
  exact h j
theorem sgn_ascii (neg : Bool) : asciiL (sgnL neg) := by cases neg <;> intro x hx <;> simp [sgnL] at hx; subst hx; decide
theorem lit_ascii (l : List UInt8) (h : l.all (fun b => decide (b.toNat < 128)) = true) : asciiL l := fun x hx => by
  have := List.all_eq_true.1 h x hx
  simpa using this
theorem exp_ascii (x : Nat) (h : x ≤ 400) : asciiL (expL x) := by
  unfold expL
  split
  · intro b hb
    simp only [List.mem_cons, List.mem_nil_iff, or_false] at hb
    rcases hb with rfl | rfl
    · decide
    · simp only [UInt8.toNat_ofNat']; omega
  · split
    · intro b hb
      simp only [List.mem_cons, List.mem_nil_iff, or_false] at hb
      rcases hb with rfl | rfl <;> (simp only [UInt8.toNat_ofNat']; omega)
    · intro b hb
      simp only [List.mem_cons, List.mem_nil_iff, or_false] at hb
      rcases hb with rfl | rfl | rfl <;> (simp only [UInt8.toNat_ofNat']; omega)
theorem gL_ascii (neg : Bool) (D : Nat → UInt8) (hD : ∀ j, (D j).toNat < 128) (nd : Nat) (dp : Int) (h1 : -399 ≤ dp) (h2 : dp ≤ 400) : asciiL (gL neg D nd dp) := by
  unfold gL
  split
  · unfold zL
    split
    · exact asciiL_app (sgn_ascii _) (lit_ascii _ (by decide))
    · split
      · exact asciiL_app (sgn_ascii _) (asciiL_rep _)
      · split
        · exact asciiL_app (sgn_ascii _) (lit_ascii _ (by decide))
        · exact asciiL_app (asciiL_app (sgn_ascii _) (lit_ascii _ (by decide))) (asciiL_rep _)
  · unfold efgL
    split
    · unfold eL
      refine asciiL_app (asciiL_app (asciiL_app (asciiL_app (asciiL_app (sgn_ascii _) ?_) ?_) (lit_ascii _ (by decide))) ?_) (exp_ascii _ (by omega))
      · intro b hb; simp at hb; subst hb; exact hD 0
      · split
        · exact lit_ascii _ (by decide)
        · intro b hb
          rcases List.mem_cons.1 hb with rfl | hb
          · decide
          · exact map_ascii _ (fun j => hD (1 + j)) _ b hb
      · intro b hb; simp at hb; subst hb; split <;> decide
    · unfold fL
      split
      · refine asciiL_app (asciiL_app (asciiL_app (sgn_ascii _) (map_ascii _ hD _)) (asciiL_rep _)) ?_
        split
        · intro b hb
          rcases List.mem_cons.1 hb with rfl | hb
          · decide
          · exact map_ascii _ (fun j => hD _) _ b hb
        · exact lit_ascii _ (by decide)
      · exact asciiL_app (asciiL_app (asciiL_app (sgn_ascii _) (lit_ascii _ (by decide))) (asciiL_rep _)) (map_ascii _ hD _)
theorem sgn_len (neg : Bool) : (sgnL neg).length ≤ 1 := by cases neg <;> decide
theorem exp_len (x : Nat) : (expL x).length ≤ 3 := by unfold expL; split; · simp
                                                      split <;> simp
theorem gL_len (neg : Bool) (D : Nat → UInt8) (nd : Nat) (dp : Int) (h : nd ≤ 20) : (gL neg D nd dp).length ≤ 60 := by
  have hs := sgn_len neg
  unfold gL
  split
  · unfold zL
    split
    · simp; omega
    · split
      · simp; omega
      · split
        · simp; omega
        · simp; omega
  · unfold efgL
    split
    · unfold eL
      have := exp_len (dp - 1).natAbs
      split <;> simp <;> omega
    · unfold fL
      split
      · split <;> simp <;> omega
      · simp; omega
/-- What is known of a number's digits. -/
theorem fPt_bd (x : Nat) (h : fExp x ≠ 2047) (hM : fM x ≠ 0) : -347 ≤ fPt x ∧ fPt x ≤ 349 ∧ nDig (fDig x) ≤ 20 := by
  have hE := fE_bd x h
  obtain ⟨b1, b2, b3⟩ := bl_bd (fM x) hM (fM_lt x)
  have e1 : -1137 ≤ fE x - fS x - 52 ∧ fE x - fS x - 52 ≤ 960 := by unfold fS; omega
  have hp := shortP_bd (fM x * 2 ^ fS x) (fE x - fS x - 52) e1.1 e1.2
  have hd := sfD_bd (fM x * 2 ^ fS x) (sfMn (fM x * 2 ^ fS x) (fE x - fS x - 52)) (sfMx (fM x * 2 ^ fS x) (fE x - fS x - 52)) (sfI (fM x * 2 ^ fS x) (fE x - fS x - 52)) (sfS (fM x * 2 ^ fS x) (fE x - fS x - 52)) (sfOd (fM x * 2 ^ fS x) (fE x - fS x - 52))
  refine ⟨hp.1, hp.2, nDig_le _ ?_⟩
  unfold fDig shortD
  omega
theorem ftoaL_ok (x : Nat) : asciiL (ftoaL x) ∧ (ftoaL x).length ≤ 60 := by
  unfold ftoaL
  split
  · split
    · exact ⟨lit_ascii _ (by decide), by decide⟩
    · split
      · exact ⟨lit_ascii _ (by decide), by decide⟩
      · exact ⟨lit_ascii _ (by decide), by decide⟩
  · rename_i h
    split
    · have hs := sgn_len (fNeg x)
      exact ⟨asciiL_app (sgn_ascii _) (lit_ascii _ (by decide)), by simp; omega⟩
    · rename_i hM
      obtain ⟨h1, h2, h3⟩ := fPt_bd x h hM
      exact ⟨gL_ascii _ _ (fun j => dg_ascii _ _) _ _ (by omega) (by omega), gL_len _ _ _ _ (Nat.le_trans (strip_le _ _ _) h3)⟩
/-- A number's text. -/
def numL (x : Nat) : List UInt8 := if Lib.containsAny (ftoaL (fcanon x)) [46, 101, 73, 78] then ftoaL (fcanon x) else ftoaL (fcanon x) ++ [46, 48]
def numT (x : Nat) : ByteArray := ⟨(numL x).toArray⟩
/-- A value's text. -/
def printT (k n : Int) (x : Nat) (s : ByteArray) (y : Bool) : ByteArray :=
  if k == 0 then ⟨(Lib.itoa n).toArray⟩ else if k == 1 then numT x else if k == 2 then strOfNums (Lib.quoteZ Lib.goPrintTabs s) else if y then ⟨#[121, 101, 115]⟩ else ⟨#[110, 111]⟩

/-! ### The program -/
theorem bufNew (w : World) : Lib.OwnBuf w.heap.size 5 (.slice (some ⟨w.heap.size, 0, none⟩) 0 24) 0 [] w (w.alloc (.cells (Array.replicate 24 (.int .u8 0)) 5)) := by
  refine ⟨⟨rfl, .inr ⟨w.heap.size, 24, Array.replicate 24 (.int .u8 0), (0, 0), rfl, Nat.le_refl _, ?_, by decide, by decide, by decide, by simp, by simp⟩⟩, (Below.refl _ _).alloc (Nat.le_refl _) _, by simp⟩
  show (w.heap.push _)[w.heap.size]? = _
  simp
theorem bufText {B n : Nat} {v : Value} {xs : List Value} {W0 w : World} (h : Lib.OwnBuf B 5 v n xs W0 w) (l : List UInt8) (hl : xs = l.map u8e) (hn : 0 < n) :
    (convert 104 9 v).run Tryz.prog w = .ok (.string ⟨l.toArray⟩) w := by
  obtain ⟨⟨hlen, ho⟩, h2, h3⟩ := h
  rcases ho with ⟨_, ho⟩ | ⟨g, cap, cur, fz, rfl, hg, hh, hfz, hnc, hcm, hcur, hx⟩
  · omega
  · have hln : l.length = n := by rw [hl] at hlen; simpa using hlen
    have := run_convert_bytes_back (P := Tryz.prog) w 104 9 5 ⟨g, 0, none⟩ cap l Tryz.underlying104 Tryz.underlying5 Tryz.underlying9 (fun j hj => by
      have e1 : (xs)[j]? = some (u8e l[j]) := by rw [hl]; simp [hj]
      rw [Lib.add_plain]
      have hc : w.cell? ⟨g, 0 + j, none⟩ = cur[0 + j]? := by simp [World.cell?, hh]
      rw [hc, Nat.zero_add, ← Array.getElem?_toList]
      rw [← hx, List.getElem?_take_of_lt (by omega)] at e1
      exact e1)
    rw [hln] at this
    exact this

set_option maxHeartbeats 1000000 in
theorem formatIn64_c (x : Nat) (hx : x < 18446744073709551616) (w : World) (hT : Tabs w) (hg : 14 < w.heap.size) :
    Calls Tryz.prog 100 #[.float .f64 x, .int .u8 103, .int .i64 (-1), .int .i64 64] w fun e w' => e = .returned (.string ⟨(ftoaL x).toArray⟩) ∧ Below w.heap.size w w' := by
  have hmk : ∀ w, (Instr.makeSlice 104 (.int .i64 0) (.int .i64 24)).run Tryz.prog w = .ok (.slice (some ⟨w.heap.size, 0, none⟩) 0 24) (w.alloc (.cells (Array.replicate 24 (.int .u8 0)) 5)) := fun _ => by kernel_rfl
  have hmx : max (3 : Int) 24 = 24 := by decide
  have hT1 : Tabs (w.alloc (.cells (Array.replicate 24 (.int .u8 0)) 5)) := hT.on ((Below.refl _ _).alloc (Nat.le_refl _) _)
  have hb := bufNew w
  have cF := ftoa_c w.heap.size _ w _ x hx hT1 (by simp; omega) hb
  have hne := ftoaL_ne x
  have CF := Lib.hid cF; have HNE := Lib.hid hne; clear cF hT1 hb hne
  generalize ftoaL x = l at *
  go_enter Tryz.func100, Tryz.ntmps100
  go_wp2_with fail
  refine CF.out.mono ?_
  rintro e w1 ⟨v, rfl, hb1⟩
  have hcv := bufText hb1 l rfl HNE.out
  have HB := Lib.hid hb1; clear hb1
  go_wp2
  go_ret
  exact ⟨rfl, HB.out.2.1⟩

set_option maxHeartbeats 1000000 in
theorem format64_c (x : Nat) (hx : x < 18446744073709551616) (w : World) (hT : Tabs w) (hg : 14 < w.heap.size) :
    Calls Tryz.prog 81 #[.float .f64 x, .int .u8 103, .int .i64 (-1), .int .i64 64] w fun e w' => e = .returned (.string ⟨(ftoaL x).toArray⟩) ∧ Below w.heap.size w w' := by
  have hF := formatIn64_c x hx w hT hg
  have HF := Lib.hid hF; clear hF
  generalize ftoaL x = l at *
  go_enter Tryz.func81, Tryz.ntmps81
  go_wp2_with fail
  refine HF.out.mono ?_
  rintro e w1 ⟨rfl, hb⟩
  have HB := Lib.hid hb; clear hb
  go_wp2
  go_ret
  exact ⟨rfl, HB.out⟩

set_option maxHeartbeats 1000000 in
theorem printNum_c (x : Nat) (hx : x < 18446744073709551616) (w : World) (hT : Tabs w) (hg : 14 < w.heap.size) :
    Calls Tryz.prog 59 #[.float .f64 x] w fun e w' => e = .returned (.string (numT x)) ∧ Below w.heap.size w w' := by
  have hF := format64_c (fcanon x) (fcanon_lt x hx) w hT hg
  obtain ⟨has, hlen⟩ := ftoaL_ok (fcanon x)
  have hCA := fun W => Tryz.strings_ContainsAny_laid ⟨(ftoaL (fcanon x)).toArray⟩ ⟨#[46, 101, 73, 78]⟩ W (by show (ftoaL (fcanon x)).toArray.size < _; simp; omega) (by decide) (by
    intro j b h
    exact has b (List.mem_of_getElem? (by simpa using h))) (by intro j b h; match j, h with
    | 0, h => simp at h; subst h; decide
    | 1, h => simp at h; subst h; decide
    | 2, h => simp at h; subst h; decide
    | 3, h => simp at h; subst h; decide)
  have hc : ∀ W, Calls Tryz.prog 64 #[.float .f64 x] W fun e w' => e = .returned (.float .f64 (fcanon x)) ∧ W = w' := fun W => canon_c x W
  have e1 : (⟨(ftoaL (fcanon x)).toArray⟩ : ByteArray).data.toList = ftoaL (fcanon x) := by simp
  have e2 : (⟨#[46, 101, 73, 78]⟩ : ByteArray).data.toList = [46, 101, 73, 78] := rfl
  rw [e1, e2] at hCA
  have hR : numT x = if Lib.containsAny (ftoaL (fcanon x)) [46, 101, 73, 78] then ⟨(ftoaL (fcanon x)).toArray⟩ else ⟨(ftoaL (fcanon x)).toArray⟩ ++ ⟨#[46, 48]⟩ := by
    unfold numT numL
    split
    · rfl
    · apply ByteArray.ext; simp
  rw [hR]
  obtain ⟨b, hb⟩ : ∃ b, b = Lib.containsAny (ftoaL (fcanon x)) [46, 101, 73, 78] := ⟨_, rfl⟩
  rw [← hb] at hCA ⊢
  obtain ⟨l, hl⟩ : ∃ l : ByteArray, l = ⟨(ftoaL (fcanon x)).toArray⟩ := ⟨_, rfl⟩
  have hl2 : ¬ 9223372036854775807 < l.size + 2 := by rw [hl]; show ¬ _ < (ftoaL (fcanon x)).toArray.size + 2; simp; omega
  rw [← hl] at hCA hF ⊢
  have HF := Lib.hid hF; have HCA := Lib.hid hCA; have HC := Lib.hid hc
  clear hF hCA hc e1 e2 hR hb hl has hlen
  cases b
  all_goals
    go_enter Tryz.func59, Tryz.ntmps59
    go_wp2_with fail
    refine (HC.out _).mono ?_; rintro e w' ⟨rfl, rfl⟩
    go_wp2_with fail
    refine HF.out.mono ?_
    rintro e w1 ⟨rfl, hb⟩
    have HB := Lib.hid hb; clear hb
    go_wp2_with fail
    refine (HCA.out _).mono ?_
    rintro e w2 ⟨rfl, hb2⟩
    have HB2 := Lib.hid hb2; clear hb2
    go_wp2
    go_ret
    exact ⟨rfl, HB.out.trans (HB2.out.mono HB.out.size)⟩
set_option maxHeartbeats 1000000 in
theorem formatInt_c (n : Int) (h0 : -9223372036854775808 ≤ n) (h1 : n ≤ 9223372036854775807) (w : World) (hT : Tabs w) :
    Calls Tryz.prog 58 #[.int .i64 n, .int .i64 10] w fun e w' => e = .returned (.string ⟨(Lib.itoa n).toArray⟩) ∧ Below w.heap.size w w' := by
  have hI := Tryz.internal_strconv_FormatInt_10 n h0 h1 w hT.p10
  have HI := Lib.hid hI
  clear hI hT
  generalize (⟨(Lib.itoa n).toArray⟩ : ByteArray) = q at *
  go_enter Tryz.func58, Tryz.ntmps58
  go_wp2_with fail
  refine HI.out.mono ?_
  rintro e w1 ⟨rfl, k, os, rfl⟩
  go_wp2
  go_ret
  exact ⟨rfl, Lib.below_grow _ w (Nat.le_refl _) k os⟩

set_option maxHeartbeats 1000000 in
theorem print_c (k n : Int) (x : Nat) (s : ByteArray) (y : Bool) (hx : x < 18446744073709551616) (hn0 : -9223372036854775808 ≤ n) (hn1 : n ≤ 9223372036854775807) (hs : 10 * s.size + 12 ≤ 140737488355328) (w : World) (hT : Tabs w) (hg : 14 < w.heap.size) :
    Calls Tryz.prog 28 #[val k n x s y] w fun e w' => e = .returned (.string (printT k n x s y)) ∧ Below w.heap.size w w' := by
  have hT1 : Tabs (w.alloc (.cells (vals k n x s y) 24)) := hT.on ((Below.refl _ _).alloc (Nat.le_refl _) _)
  have HT := Lib.hid hT1; clear hT hT1
  unfold printT
  cases h0 : (k == 0)
  · cases h1 : (k == 1)
    · cases h2 : (k == 2)
      · cases y
        all_goals
          go_enter Tryz.func28, Tryz.ntmps28
          go_wp2
          go_ret
          exact ⟨rfl, (Below.refl _ _).alloc (Nat.le_refl _) _⟩
      · obtain rfl : k = 2 := by simpa using h2
        have hQ := Tryz.strconv_Quote Lib.goPrintTabs s _ hs HT.out.pr HT.out.u8
        have HQ := Lib.hid hQ
        clear hQ
        generalize strOfNums (Lib.quoteZ Lib.goPrintTabs s) = q at *
        go_enter Tryz.func28, Tryz.ntmps28
        go_wp2_with fail
        refine HQ.out.mono ?_
        rintro e w1 ⟨rfl, hb⟩
        have HB := Lib.hid hb; clear hb
        go_wp2
        go_ret
        exact ⟨rfl, ((Below.refl _ _).alloc (Nat.le_refl _) _).trans (HB.out.mono (by simp))⟩
    · obtain rfl : k = 1 := by simpa using h1
      have hN := printNum_c x hx _ HT.out (by simp; omega)
      have HN := Lib.hid hN; clear hN
      generalize numT x = q at *
      go_enter Tryz.func28, Tryz.ntmps28
      go_wp2_with fail
      refine HN.out.mono ?_
      rintro e w1 ⟨rfl, hb⟩
      have HB := Lib.hid hb; clear hb
      go_wp2
      go_ret
      exact ⟨rfl, ((Below.refl _ _).alloc (Nat.le_refl _) _).trans (HB.out.mono (by simp))⟩
  · obtain rfl : k = 0 := by simpa using h0
    have hI := formatInt_c n hn0 hn1 _ HT.out
    have HI := Lib.hid hI; clear hI
    generalize (⟨(Lib.itoa n).toArray⟩ : ByteArray) = q at *
    go_enter Tryz.func28, Tryz.ntmps28
    go_wp2_with fail
    refine HI.out.mono ?_
    rintro e w1 ⟨rfl, hb⟩
    have HB := Lib.hid hb; clear hb
    go_wp2
    go_ret
    exact ⟨rfl, ((Below.refl _ _).alloc (Nat.le_refl _) _).trans (HB.out.mono (by simp))⟩
end Go.Proofs.YtjeippdfgojdnaaGreatDoor
