/- CodecReads' closures: numbers and texts come back in order; who reads too much gives up. -/
import Derived.Test.YtnpbnjddlchmcaaGives1
import Derived.Test.YtnpbnjddlchmcaaEnc
namespace Go.Proofs.Ytnpbnjddlchmcaa
open Go.RowKit Go.Shelf Go.Sort
open Go.Proofs
set_option maxRecDepth 100000

/-- The bytes of numbers, each with its place behind it. -/
def encR : List Nat → Nat → List UInt8
  | [], _ => []
  | x :: xs, i => encL x ++ (UInt8.ofNat i :: encR xs (i + 1))
theorem encR_drop (xs : List Nat) (j : Nat) (h : j < xs.length) : encR (xs.drop j) j = encL (xs.getD j 0) ++ (UInt8.ofNat j :: encR (xs.drop (j + 1)) (j + 1)) := by
  rw [List.drop_eq_getElem_cons h, List.getD_eq_getElem?_getD, List.getElem?_eq_getElem h, Option.getD_some]
  rfl
/-- Numbers that lie below block B. -/
def LongsB (W : World) (B : Nat) (ao : Option Addr) (xs : List Nat) : Prop := xs = [] ∨ ∃ b off, ao = some ⟨b, off, none⟩ ∧ b < B ∧ b < W.heap.size ∧ ∀ j, j < xs.length → W.cell? ⟨b, off + j, none⟩ = some (.int .u64 ((xs.getD j 0 : Nat) : Int))
theorem LongsB.kb {S : Nat → Prop} {w w' : World} {B : Nat} {ao : Option Addr} {xs : List Nat} (h : LongsB w B ao xs) (hk : Kb S w w') (hS : ∀ k, k < B → k < w.heap.size → ¬ S k) : LongsB w' B ao xs := by
  rcases h with h | ⟨b, off, h1, h2, h3, h4⟩
  · exact Or.inl h
  · exact Or.inr ⟨b, off, h1, h2, Nat.lt_of_lt_of_le h3 hk.size, fun j hj => (hk.cell (p := ⟨b, off + j, none⟩) h3 (hS b h2 h3)).trans (h4 j hj)⟩

theorem long_enc (R x : Nat) (t : List UInt8) (w : World) (h : Rd w R (encL x ++ t)) (hx : x < 2 ^ 64) :
    Calls Try.prog 29 #[.pointer (some ⟨R, 0, none⟩)] w fun e w' => e = .returned (.int .u64 (x : Int)) ∧ Aside (Rd w' R t ∧ Kb (· = R) w w') := by
  have := long_ok R _ w h (by simp [encL_length])
  have h1 : (encL x ++ t).take 8 = encL x := rfl
  have h2 : (encL x ++ t).drop 8 = t := rfl
  rw [h1, h2, be_encL x hx] at this
  exact this
theorem byte_enc (R j : Nat) (t : List UInt8) (w : World) (h : Rd w R (UInt8.ofNat j :: t)) (hj : j < 256) :
    Calls Try.prog 30 #[.pointer (some ⟨R, 0, none⟩)] w fun e w' => e = .returned (.int .i64 (j : Int)) ∧ Aside (Rd w' R t ∧ Kb (· = R) w w') := by
  have := byte_ok R _ t w h
  rw [UInt8.toNat_ofNat_of_lt' (by show j < 256; exact hj)] at this
  exact this

/-- What the first one leaves. -/
def ReadsPost (R G E m : Nat) (w : World) (e : Ending) (w' : World) : Prop :=
  Kb (fun k => k = R ∨ k = G ∨ k = E) w w' ∧ ((∃ l', e = .returned (.tuple #[]) ∧ Rd w' R l' ∧ (l' = [] ∧ m = 0 ∧ w'.cell? ⟨G, 0, none⟩ = some (.bool true) ∧ w'.cell? ⟨E, 0, none⟩ = some (.bool true))) ∨ (e = .panicked gv ∧ (m ≠ 0 ∧ w'.cell? ⟨G, 0, none⟩ = some (.bool true) ∧ w'.cell? ⟨E, 0, none⟩ = some (.bool false))))

theorem NI.setB {w : World} {K : Nat} (h : NI w K) (v : Bool) (u : Value) (hu : w.cell? ⟨K, 0, none⟩ = some u) : NI (w.setCell ⟨K, 0, none⟩ (.bool v)) K := fun i c e => by
  by_cases hi : i = 0
  · subst hi
    rw [World.cell?_setCell_same w ⟨K, 0, none⟩ _ hu] at e
    cases e
  · rw [World.cell?_setCell_other w ⟨K, 0, none⟩ ⟨K, i, none⟩ _ (by intro e; injection e; omega)] at e
    exact h i c e

set_option maxHeartbeats 4000000 in
theorem reads1_c (R L G S M E B cap m : Nat) (ao : Option Addr) (xs : List Nat) (s : ByteArray) (w : World) (h : Rd w R (encR xs 0 ++ encT s)) (hx : ∀ x ∈ xs, x < 2 ^ 64) (hn : xs.length ≤ 30) (hs : s.size ≤ 255) (hm : m ≤ 3) (hxs : LongsB w B ao xs)
    (hBG : B ≤ G) (hGR : G < R) (hSR : S < R) (hMR : M < R) (hER : E < R) (hSG : S ≠ G) (hMG : M ≠ G) (hEG : E ≠ G)
    (c0 : w.cell? ⟨L, 0, none⟩ = some (.slice ao xs.length cap)) (c1 : w.cell? ⟨G, 0, none⟩ = some (.bool true)) (c2 : w.cell? ⟨S, 0, none⟩ = some (.string s)) (c3 : w.cell? ⟨M, 0, none⟩ = some (.int .i64 m)) (c4 : w.cell? ⟨E, 0, none⟩ = some (.bool false))
    (f1 : w.frozen? ⟨G, 0, none⟩ = false) (f4 : w.frozen? ⟨E, 0, none⟩ = false) (n1 : NI w G) (n4 : NI w E) :
    Calls Try.prog 28 #[.pointer (some ⟨R, 0, none⟩), .pointer (some ⟨L, 0, none⟩), .pointer (some ⟨G, 0, none⟩), .pointer (some ⟨S, 0, none⟩), .pointer (some ⟨M, 0, none⟩), .pointer (some ⟨E, 0, none⟩)] w (ReadsPost R G E m w) := by
  have hRw := h.lt
  have H := Lib.hid h
  have HX := Lib.hid hx
  have HXS : Aside (LongsB w B ao xs) := hxs
  have N1 : Aside (NI w G) := n1
  have N4 : Aside (NI w E) := n4
  have C2 : Aside (w.cell? ⟨S, 0, none⟩ = some (.string s)) := c2
  have C3 : Aside (w.cell? ⟨M, 0, none⟩ = some (.int .i64 m)) := c3
  have C4 : Aside (w.cell? ⟨E, 0, none⟩ = some (.bool false)) := c4
  have F4 : Aside (w.frozen? ⟨E, 0, none⟩ = false) := f4
  obtain ⟨n, hnn⟩ : ∃ n, n = xs.length := ⟨_, rfl⟩
  have HN : Aside (n = xs.length) := hnn
  rw [← hnn] at c0 hn
  clear h hx hxs n1 n4 c2 c3 c4 f4 hnn
  go_enter Try.func28, Try.ntmps28
  go_wp2_with fail
  go_loopg [11] n (fun kx s11 wr => ∃ j : Nat, s11 = .int .i64 j ∧ j ≤ n ∧ n - j ≤ kx ∧ Aside (Rd wr R (encR (xs.drop j) j ++ encT s)) ∧ Aside (Kb (fun k => k = R ∨ k = G) w wr) ∧ wr.cell? ⟨G, 0, none⟩ = some (.bool true) ∧ wr.frozen? ⟨G, 0, none⟩ = false ∧ Aside (NI wr G))
  case atStart => exact ⟨0, rfl, Nat.zero_le _, by omega, by show Rd w R _; simpa using H.out, Kb.refl _ _, c1, f1, N1.out⟩
  case round =>
    clear c0 c1 f1 N1
    obtain ⟨j, rfl, hj, hjx, HR, HK, c1, f1, N1⟩ := hrel
    have hGw : G < wr.heap.size := by have := HR.out.lt; omega
    by_cases hlt : j < n
    · have hjx2 : j < xs.length := by rw [← HN.out]; exact hlt
      rcases HXS.out with h0 | ⟨b, off, rfl, hbB, hbw, hc⟩
      · rw [h0] at hjx2; cases hjx2
      have hxc := (HK.out.cell (p := ⟨b, off + j, none⟩) hbw (by show ¬ (b = R ∨ b = G); omega)).trans (hc j hjx2)
      have hx64 : xs.getD j 0 < 2 ^ 64 := HX.out _ (by rw [List.getD_eq_getElem?_getD, List.getElem?_eq_getElem hjx2, Option.getD_some]; exact List.getElem_mem _)
      have hR := HR.out
      rw [encR_drop xs j hjx2, List.append_assoc, List.cons_append] at hR
      generalize xs.getD j 0 = x at *
      have hlg := long_enc R x _ wr hR hx64
      have HLg := Lib.hid hlg
      have HBy : Aside (∀ W, Rd W R (UInt8.ofNat j :: (encR (xs.drop (j + 1)) (j + 1) ++ encT s)) → Calls Try.prog 30 #[.pointer (some ⟨R, 0, none⟩)] W fun e w' => e = .returned (.int .i64 (j : Int)) ∧ Aside (Rd w' R (encR (xs.drop (j + 1)) (j + 1) ++ encT s) ∧ Kb (· = R) W w')) := fun W hW => byte_enc R j _ W hW (by omega)
      have hjz : (j : Int) < (n : Int) := by omega
      have hj0 : (0 : Int) ≤ (j : Int) := by omega
      have hxx : ((x : Int) == (x : Int)) = true := by simp
      have hjj : ((j : Int) == (j : Int)) = true := by simp
      clear hR hlg hc hx64 hjx2
      go_wp2_with fail
      refine HLg.out.mono ?_
      rintro e w2 ⟨rfl, hA⟩
      go_wp2_with fail
      refine (HBy.out w2 hA.out.1).mono ?_
      rintro e w3 ⟨rfl, hA3⟩
      have hkk : Kb (· = R) wr w3 := hA.out.2.trans hA3.out.2
      have d1 := (hkk.cell (p := ⟨G, 0, none⟩) hGw (by show ¬ G = R; omega)).trans c1
      have df := (hkk.frozen (p := ⟨G, 0, none⟩) hGw (by show ¬ G = R; omega)).trans f1
      have HK2 : Aside (Kb (fun k => k = R ∨ k = G) w w3) := HK.out.trans (hkk.mono (fun _ _ h => Or.inl h))
      have HR2 : Aside (Rd w3 R (encR (xs.drop (j + 1)) (j + 1) ++ encT s)) := hA3.out.1
      have HN2 : Aside (NI w3 G) := N1.out.kb hkk hGw (by show ¬ G = R; omega)
      clear hA hA3 hkk HLg HBy c1 f1
      go_wp2_with fail
      go_roundg (n - (j + 1))
      case measure => omega
      case rel => exact ⟨j + 1, by go_num, hlt, Nat.le_refl _, HR2.out.set HN2.out hGR _, HK2.out.trans (Kb.setCell (S := fun k => k = R ∨ k = G) w3 ⟨G, 0, none⟩ (Or.inr rfl) _),
          by rw [World.cell?_setCell_same w3 ⟨G, 0, none⟩ _ d1], by rw [World.frozen?_setCell]; exact df, HN2.out.setB _ _ d1⟩
    · obtain rfl : j = n := by omega
      have hR := HR.out
      rw [HN.out, List.drop_length] at hR
      have hR2 : Rd wr R (encT s ++ []) := by simpa [encR] using hR
      have htx : Calls Try.prog 31 #[.pointer (some ⟨R, 0, none⟩)] wr.drew fun e w' => e = .returned (.string s) ∧ Aside (Rd w' R [] ∧ Kb (· = R) wr w') :=
        (text_ok R _ [] s wr.drew (hR2.kb (Kb.drew (fun _ => False) wr) (fun _ _ h => h)) (rText_enc s hs [])).mono fun e w' h => ⟨h.1, h.2.out.1, (Kb.drew _ wr).trans h.2.out.2⟩
      have HTx := Lib.hid htx
      have hss : (s.toList == s.toList) = true := by simp
      have c2 := (HK.out.cell (p := ⟨S, 0, none⟩) (by show S < _; omega) (by show ¬ (S = R ∨ S = G); omega)).trans C2.out
      have HC3 : Aside (∀ W, Kb (· = R) wr W → W.cell? ⟨M, 0, none⟩ = some (.int .i64 m)) := fun W hW => (hW.cell (p := ⟨M, 0, none⟩) (by have := HR.out.lt; show M < _; omega) (by show ¬ M = R; omega)).trans ((HK.out.cell (p := ⟨M, 0, none⟩) (by show M < _; omega) (by show ¬ (M = R ∨ M = G); omega)).trans C3.out)
      have HC4 : Aside (∀ W, Kb (· = R) wr W → W.cell? ⟨E, 0, none⟩ = some (.bool false) ∧ W.frozen? ⟨E, 0, none⟩ = false ∧ NI W E) := fun W hW =>
        ⟨(hW.cell (p := ⟨E, 0, none⟩) (by have := HR.out.lt; show E < _; omega) (by show ¬ E = R; omega)).trans ((HK.out.cell (p := ⟨E, 0, none⟩) (by show E < _; omega) (by show ¬ (E = R ∨ E = G); omega)).trans C4.out),
         (hW.frozen (p := ⟨E, 0, none⟩) (by have := HR.out.lt; show E < _; omega) (by show ¬ E = R; omega)).trans ((HK.out.frozen (p := ⟨E, 0, none⟩) (by show E < _; omega) (by show ¬ (E = R ∨ E = G); omega)).trans F4.out),
         (N4.out.kb HK.out (by omega) (by show ¬ (E = R ∨ E = G); omega)).kb hW (by have := HR.out.lt; omega) (by show ¬ E = R; omega)⟩
      have hSw : S < wr.heap.size := by have := HR.out.lt; omega
      clear hj hjx hlt hR hR2 htx
      go_wp2_with fail
      go_region_with (go_at_call 31; refine HTx.out.mono ?_; rintro e w5 ⟨rfl, hA⟩; have d1 := (hA.out.2.cell (p := ⟨G, 0, none⟩) hGw (by show ¬ G = R; omega)).trans c1; have d2 := (hA.out.2.cell (p := ⟨S, 0, none⟩) hSw (by show ¬ S = R; omega)).trans c2; have df := (hA.out.2.frozen (p := ⟨G, 0, none⟩) hGw (by show ¬ G = R; omega)).trans f1; have HA := Lib.hid hA.out)
      all_goals (
        have g1 := World.cell?_setCell_same w5 ⟨G, 0, none⟩ (.bool true) d1
        have g3 := (World.cell?_setCell_other w5 ⟨G, 0, none⟩ ⟨M, 0, none⟩ (.bool true) (by intro e; injection e; omega)).trans (HC3.out w5 HA.out.2)
        have e4 := HC4.out w5 HA.out.2
        have g4 := (World.cell?_setCell_other w5 ⟨G, 0, none⟩ ⟨E, 0, none⟩ (.bool true) (by intro e; injection e; omega)).trans e4.1
        have gf : (w5.setCell ⟨G, 0, none⟩ (.bool true)).frozen? ⟨E, 0, none⟩ = false := by rw [World.frozen?_setCell]; exact e4.2.1
        have HNE : Aside (NI (w5.setCell ⟨G, 0, none⟩ (.bool true)) E) := e4.2.2.kb (Kb.setCell (S := fun k => k = G) w5 ⟨G, 0, none⟩ rfl _) (World.block_lt_of_cell? w5 _ e4.1) hEG
        have HR6 : Aside (Rd (w5.setCell ⟨G, 0, none⟩ (.bool true)) R []) := HA.out.1.set (N1.out.kb HA.out.2 hGw (by show ¬ G = R; omega)) hGR _
        have HK6 : Aside (Kb (fun k => k = R ∨ k = G) w (w5.setCell ⟨G, 0, none⟩ (.bool true))) := (HK.out.trans (HA.out.2.mono (fun _ _ h => Or.inl h))).trans (Kb.setCell (S := fun k => k = R ∨ k = G) w5 ⟨G, 0, none⟩ (Or.inr rfl) _)
        clear HA e4 df d1 d2 HC3 HC4 c2 c1 f1 HTx
        generalize w5.setCell ⟨G, 0, none⟩ (.bool true) = w6 at *
        go_wp2_with fail
        go_loopg [38] 1 (fun kx s38 wr2 => s38 = .int .i64 0 ∧ wr2 = w6)
        case atStart => exact ⟨rfl, rfl⟩
        case round =>
          obtain ⟨rfl, rfl⟩ := hrel
          by_cases hm0 : m = 0
          · have hmz : ¬ (0 : Int) < (m : Int) := by omega
            go_wp2_with fail
            go_end0
            exact ⟨(HK6.out.mono (fun _ _ h => h.elim Or.inl (fun h => Or.inr (Or.inl h)))).trans (Kb.setCell (S := fun k => k = R ∨ k = G ∨ k = E) _ ⟨E, 0, none⟩ (Or.inr (Or.inr rfl)) _),
              Or.inl ⟨[], rfl, HR6.out.set HNE.out hER _, rfl, by omega, (World.cell?_setCell_other _ ⟨E, 0, none⟩ ⟨G, 0, none⟩ (.bool true) (by intro e; injection e; omega)).trans g1, World.cell?_setCell_same _ ⟨E, 0, none⟩ (.bool true) g4⟩⟩
          · have hmz : (0 : Int) < (m : Int) := by omega
            have hby := byte_no R _ HR6.out
            have HBy := Lib.hid hby
            clear hby
            go_wp2_with fail
            refine HBy.out.mono ?_
            rintro e w7 ⟨rfl, rfl⟩
            exact ⟨rfl, HK6.out.mono (fun _ _ h => h.elim Or.inl (fun h => Or.inr (Or.inl h))), Or.inr ⟨rfl, hm0, g1, g4⟩⟩)

set_option maxHeartbeats 4000000 in
theorem reads2_c (R L cap : Nat) (ao : Option Addr) (xs : List Nat) (s : ByteArray) (t : List UInt8) (w : World) (h : Rd w R (encR xs 0 ++ encT s ++ t)) (hx : ∀ x ∈ xs, x < 2 ^ 64) (hn : xs.length ≤ 30) (hs : s.size ≤ 255)
    (c0 : w.cell? ⟨L, 0, none⟩ = some (.slice ao xs.length cap)) :
    Calls Try.prog 32 #[.pointer (some ⟨R, 0, none⟩), .pointer (some ⟨L, 0, none⟩)] w fun e w' => Kb (fun k => k = R) w w' ∧ e = .returned (.tuple #[]) ∧ Rd w' R t := by
  have H := Lib.hid h
  have HX := Lib.hid hx
  obtain ⟨n, hnn⟩ : ∃ n, n = xs.length := ⟨_, rfl⟩
  have HN : Aside (n = xs.length) := hnn
  rw [← hnn] at c0 hn
  clear h hx hnn
  go_enter Try.func32, Try.ntmps32
  go_wp2_with fail
  go_loopg [5] n (fun kx s5 wr => ∃ j : Nat, s5 = .int .i64 j ∧ j ≤ n ∧ n - j ≤ kx ∧ Aside (Rd wr R (encR (xs.drop j) j ++ encT s ++ t)) ∧ Aside (Kb (fun k => k = R) w wr))
  case atStart => exact ⟨0, rfl, Nat.zero_le _, by omega, by show Rd w R _; simpa using H.out, Kb.refl _ _⟩
  case round =>
    obtain ⟨j, rfl, hj, hjx, HR, HK⟩ := hrel
    by_cases hlt : j < n
    · have hjx2 : j < xs.length := by rw [← HN.out]; exact hlt
      have hx64 : xs.getD j 0 < 2 ^ 64 := HX.out _ (by rw [List.getD_eq_getElem?_getD, List.getElem?_eq_getElem hjx2, Option.getD_some]; exact List.getElem_mem _)
      have hR := HR.out
      rw [encR_drop xs j hjx2, List.append_assoc, List.append_assoc, List.cons_append, ← List.append_assoc] at hR
      generalize xs.getD j 0 = x at *
      have hlg := long_enc R x _ wr hR hx64
      have HLg := Lib.hid hlg
      have HBy : Aside (∀ W, Rd W R (UInt8.ofNat j :: (encR (xs.drop (j + 1)) (j + 1) ++ encT s ++ t)) → Calls Try.prog 30 #[.pointer (some ⟨R, 0, none⟩)] W fun e w' => e = .returned (.int .i64 (j : Int)) ∧ Aside (Rd w' R (encR (xs.drop (j + 1)) (j + 1) ++ encT s ++ t) ∧ Kb (· = R) W w')) := fun W hW => byte_enc R j _ W hW (by omega)
      have hjz : (j : Int) < (n : Int) := by omega
      clear hR hlg hx64 hjx2
      go_wp2_with fail
      refine HLg.out.mono ?_
      rintro e w2 ⟨rfl, hA⟩
      go_wp2_with fail
      refine (HBy.out w2 hA.out.1).mono ?_
      rintro e w3 ⟨rfl, hA3⟩
      have HK2 : Aside (Kb (fun k => k = R) w w3) := (HK.out.trans hA.out.2).trans hA3.out.2
      have HR2 : Aside (Rd w3 R (encR (xs.drop (j + 1)) (j + 1) ++ encT s ++ t)) := hA3.out.1
      clear hA hA3 HLg HBy
      go_wp2_with fail
      go_roundg (n - (j + 1))
      case measure => omega
      case rel => exact ⟨j + 1, by go_num, hlt, Nat.le_refl _, HR2.out, HK2.out⟩
    · obtain rfl : j = n := by omega
      have hR := HR.out
      rw [HN.out, List.drop_length] at hR
      have hR2 : Rd wr R (encT s ++ t) := by simpa [encR] using hR
      have htx := text_ok R _ t s wr hR2 (rText_enc s hs t)
      have HTx := Lib.hid htx
      clear hj hjx hlt hR hR2 htx
      go_wp2_with fail
      refine HTx.out.mono ?_
      rintro e w5 ⟨rfl, hA⟩
      go_wp2_with fail
      go_end0
      exact ⟨HK.out.trans hA.out.2, rfl, hA.out.1⟩

set_option maxHeartbeats 400000 in
theorem reads3_c (R : Nat) (w : World) :
    Calls Try.prog 33 #[.pointer (some ⟨R, 0, none⟩)] w fun e w' => e = .returned (.tuple #[]) ∧ w = w' := by
  go_enter Try.func33, Try.ntmps33
  go_wp2_with fail
  go_end0
  exact ⟨rfl, rfl⟩
end Go.Proofs.Ytnpbnjddlchmcaa
