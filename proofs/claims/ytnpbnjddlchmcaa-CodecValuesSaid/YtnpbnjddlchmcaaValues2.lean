/- CodecValues: its closure; values in memory, copied, set one by one; what comes in as an argument. -/
import Derived.Test.YtnpbnjddlchmcaaReads1
import Derived.Test.YtnpbnjddlchmcaaEnc3
import Derived.Test.YtnpbnjddlchmcaaSameE
import Derived.Test.YtnpbnjddlchmcaaNewC
import Derived.Test.YtnpbnjddlchmcaaOpenN
import Derived.Deep.Upon
namespace Go.Proofs.Ytnpbnjddlchmcaa
open Go.RowKit Go.Shelf Go.Sort
open Go.Proofs
set_option maxRecDepth 100000

/-- A value's cells; values that lie one behind the other. -/
def enc5 (a : At) : List Value := [.int .i64 a.k, .int .i64 a.n, .float .f64 a.x, .string a.s, .bool a.y]
def RowV (W : World) (b off : Nat) (zs : List At) : Prop := ∀ j, j < zs.length → ∀ c v, (enc5 zs[j]!)[c]? = some v → W.cell? ⟨b, off + j * 5 + c, none⟩ = some v
theorem sameV_refl (k n : Int) (x : Nat) (s : ByteArray) (y : Bool) : (k == k && sameV k n n x x s s y y) = true := by
  unfold sameV
  simp
theorem encs_drop (es : List At) (j : Nat) (h : j < es.length) : (es.drop j).flatMap encV = encV es[j]! ++ (es.drop (j + 1)).flatMap encV := by
  rw [List.drop_eq_getElem_cons h, getElem!_pos es j h]
  rfl

/-- What it leaves. -/
def ValuesPost (R G : Nat) (w : World) (e : Ending) (w' : World) : Prop :=
  Kb (fun k => k = R ∨ k = G) w w' ∧ e = .returned (.tuple #[]) ∧ Rd w' R [] ∧ w'.cell? ⟨G, 0, none⟩ = some (.bool true)

set_option maxHeartbeats 4000000 in
theorem values1_c (R L G g cap : Nat) (ao : Option Addr) (es : List At) (w : World) (h : Rd w R (es.flatMap encV)) (hes : ∀ a ∈ es, CanA a) (hn : es.length ≤ 30) (hrow : es = [] ∨ (ao = some ⟨g, 0, none⟩ ∧ RowV w g 0 es)) (hgR : g < R) (hgG : g ≠ G)
    (hGR : G < R) (c0 : w.cell? ⟨L, 0, none⟩ = some (.slice ao es.length cap)) (c1 : w.cell? ⟨G, 0, none⟩ = some (.bool true)) (f1 : w.frozen? ⟨G, 0, none⟩ = false) (n1 : NI w G) :
    Calls Try.prog 37 #[.pointer (some ⟨R, 0, none⟩), .pointer (some ⟨L, 0, none⟩), .pointer (some ⟨G, 0, none⟩)] w (ValuesPost R G w) := by
  have hRw := h.lt
  have H := Lib.hid h
  have HX := Lib.hid hes
  have HRow := Lib.hid hrow
  have N1 : Aside (NI w G) := n1
  obtain ⟨n, hnn⟩ : ∃ n, n = es.length := ⟨_, rfl⟩
  have HN : Aside (n = es.length) := hnn
  rw [← hnn] at c0 hn
  clear h hes hrow n1 hnn
  go_enter Try.func37, Try.ntmps37
  go_wp2_with fail
  go_loopg [8] n (fun kx s8 wr => ∃ j : Nat, s8 = .int .i64 j ∧ j ≤ n ∧ n - j ≤ kx ∧ Aside (Rd wr R ((es.drop j).flatMap encV)) ∧ Aside (Kb (fun k => k = R ∨ k = G) w wr) ∧ wr.cell? ⟨G, 0, none⟩ = some (.bool true) ∧ wr.frozen? ⟨G, 0, none⟩ = false ∧ Aside (NI wr G))
  case atStart => exact ⟨0, rfl, Nat.zero_le _, by omega, by show Rd w R _; simpa using H.out, Kb.refl _ _, c1, f1, N1.out⟩
  case round =>
    clear c0 c1 f1 N1
    obtain ⟨j, rfl, hj, hjx, HR, HK, c1, f1, N1⟩ := hrel
    have hGw : G < wr.heap.size := by have := HR.out.lt; omega
    by_cases hlt : j < n
    · have hjx2 : j < es.length := by rw [← HN.out]; exact hlt
      rcases HRow.out with h0 | ⟨hao, hrw⟩
      · rw [h0] at hjx2; cases hjx2
      subst hao
      have hcan := HX.out es[j]! (by rw [getElem!_pos es j hjx2]; exact List.getElem_mem _)
      have hgw : g < w.heap.size := by omega
      have hcl : ∀ c v, (enc5 es[j]!)[c]? = some v → wr.cell? ⟨g, 0 + j * 5 + c, none⟩ = some v := fun c v hv => (HK.out.cell (p := ⟨g, 0 + j * 5 + c, none⟩) hgw (by show ¬ (g = R ∨ g = G); omega)).trans (hrw j hjx2 c v hv)
      have hR := HR.out
      rw [encs_drop es j hjx2] at hR
      have hrv := rValue_enc es[j]! hcan ((es.drop (j + 1)).flatMap encV)
      have hax := hcan.x
      clear hrw hcan
      generalize es[j]! = a at *
      obtain ⟨nm, k, nn, x, s, y⟩ := a
      have k0 := hcl 0 _ rfl; have k1 := hcl 1 _ rfl; have k2 := hcl 2 _ rfl; have k3 := hcl 3 _ rfl; have k4 := hcl 4 _ rfl
      simp only [Nat.add_zero, Nat.zero_add] at k0 k1 k2 k3 k4
      have hjz : (j : Int) < (n : Int) := by omega
      have hj0 : (0 : Int) ≤ (j : Int) := by omega
      clear hcl hjx2
      have HKv : Kb (fun _ => False) wr (wr.alloc (.cells #[.int .i64 k, .int .i64 nn, .float .f64 x, .string s, .bool y] 41)) := Kb.alloc _ wr _
      have hRv : Rd (wr.alloc (.cells #[.int .i64 k, .int .i64 nn, .float .f64 x, .string s, .bool y] 41)) R (encV ⟨nm, k, nn, x, s, y⟩ ++ (es.drop (j + 1)).flatMap encV) := hR.kb HKv (fun _ _ h => h)
      have hvl : Calls Try.prog 38 #[.pointer (some ⟨R, 0, none⟩)] (World.drew (wr.alloc (.cells #[.int .i64 k, .int .i64 nn, .float .f64 x, .string s, .bool y] 41))) fun e w' => e = .returned (.agg #[.int .i64 k, .int .i64 nn, .float .f64 x, .string s, .bool y]) ∧ Aside (Rd w' R ((es.drop (j + 1)).flatMap encV) ∧ Kb (· = R) (wr.alloc (.cells #[.int .i64 k, .int .i64 nn, .float .f64 x, .string s, .bool y] 41)) w') :=
        (value_ok nm R _ _ ⟨nm, k, nn, x, s, y⟩ _ ((hRv.kb (Kb.drew (fun _ => False) _) (fun _ _ h => h)) : Rd (World.drew _) R _) hrv).mono fun e w' h => ⟨h.1, h.2.out.1, (Kb.drew _ _).trans h.2.out.2⟩
      have a0 := World.cell?_alloc_new wr #[.int .i64 k, .int .i64 nn, .float .f64 x, .string s, .bool y] 41 0
      have a1 := World.cell?_alloc_new wr #[.int .i64 k, .int .i64 nn, .float .f64 x, .string s, .bool y] 41 1
      have a2 := World.cell?_alloc_new wr #[.int .i64 k, .int .i64 nn, .float .f64 x, .string s, .bool y] 41 2
      have a3 := World.cell?_alloc_new wr #[.int .i64 k, .int .i64 nn, .float .f64 x, .string s, .bool y] 41 3
      have a4 := World.cell?_alloc_new wr #[.int .i64 k, .int .i64 nn, .float .f64 x, .string s, .bool y] 41 4
      simp only [List.getElem?_toArray, List.getElem?_cons_zero, List.getElem?_cons_succ] at a0 a1 a2 a3 a4
      have d1 := (HKv.cell (p := ⟨G, 0, none⟩) hGw (fun h => h)).trans c1
      have df := (HKv.frozen (p := ⟨G, 0, none⟩) hGw (fun h => h)).trans f1
      have HNv : Aside (NI (wr.alloc (.cells #[.int .i64 k, .int .i64 nn, .float .f64 x, .string s, .bool y] 41)) G) := N1.out.kb HKv hGw (fun h => h)
      have HK2 : Aside (Kb (fun k => k = R ∨ k = G) w (wr.alloc (.cells #[.int .i64 k, .int .i64 nn, .float .f64 x, .string s, .bool y] 41))) := HK.out.trans (HKv.mono (fun _ _ h => h.elim))
      have hzv : wr.heap.size < (wr.alloc (.cells #[.int .i64 k, .int .i64 nn, .float .f64 x, .string s, .bool y] 41)).heap.size := by simp
      have HVl := Lib.hid hvl
      have hRB : R < wr.heap.size := hR.lt
      clear hR hRv hrv hvl HKv HR HK
      go_wp2_with fail
      clear k0 k1 k2 k3 k4 c1 f1 N1
      generalize (wr.alloc (.cells #[.int .i64 k, .int .i64 nn, .float .f64 x, .string s, .bool y] 41)) = wv at *
      generalize wr.heap.size = B at *
      have hsr := sameV_refl k nn x s y
      have HSm : Aside (∀ W, Calls Try.prog 24 #[.agg #[.int .i64 k, .int .i64 nn, .float .f64 x, .string s, .bool y], .agg #[.int .i64 k, .int .i64 nn, .float .f64 x, .string s, .bool y]] W fun e w' => e = .returned (.bool true) ∧ Below W.heap.size W w') := fun W => by
        have := vsame_c k k nn nn x x s s y y W hax hax
        rw [hsr] at this
        exact this
      clear hsr
      go_region_with (first
        | (go_at_call 24; refine (HSm.out _).mono ?_; rintro e w6 ⟨rfl, hb⟩; have t1 := (hb.cell (p := ⟨G, 0, none⟩) hG5).trans s1; have tf := (hb.frozen (p := ⟨G, 0, none⟩) hG5).trans sf; have HB6 : Aside (Below w5.heap.size w5 w6) := hb)
        | (go_at_call 38; refine HVl.out.mono ?_; rintro e w5 ⟨rfl, hA⟩
           have b0 := (hA.out.2.cell (p := ⟨B, 0, none⟩) hzv (by show ¬ B = R; omega)).trans a0
           have b1 := (hA.out.2.cell (p := ⟨B, 1, none⟩) hzv (by show ¬ B = R; omega)).trans a1
           have b2 := (hA.out.2.cell (p := ⟨B, 2, none⟩) hzv (by show ¬ B = R; omega)).trans a2
           have b3 := (hA.out.2.cell (p := ⟨B, 3, none⟩) hzv (by show ¬ B = R; omega)).trans a3
           have b4 := (hA.out.2.cell (p := ⟨B, 4, none⟩) hzv (by show ¬ B = R; omega)).trans a4
           have s1 := (hA.out.2.cell (p := ⟨G, 0, none⟩) (by show G < _; omega) (by show ¬ G = R; omega)).trans d1
           have sf := (hA.out.2.frozen (p := ⟨G, 0, none⟩) (by show G < _; omega) (by show ¬ G = R; omega)).trans df
           have hG5 : G < w5.heap.size := World.block_lt_of_cell? w5 _ s1
           have HA := Lib.hid hA.out))
      all_goals (
        have hk5 : Kb (· = R) wv w5 := HA.out.2
        have hk6 : Kb (· = R) wv w6 := hk5.trans (Kb.of_below HB6.out (fun k h1 h2 => absurd h1 (by omega)))
        have hR6 : Rd w6 R ((es.drop (j + 1)).flatMap encV) := HA.out.1.kb (Kb.of_below (S := fun _ => False) HB6.out (fun k h1 h2 => absurd h1 (by omega))) (fun _ _ h => h)
        have HR6 := Lib.hid hR6
        have HK6 : Aside (Kb (fun k => k = R ∨ k = G) w w6) := HK2.out.trans (hk6.mono (fun _ _ h => Or.inl h))
        have HN6 : Aside (NI w6 G) := HNv.out.kb hk6 (by omega) (by show ¬ G = R; omega)
        clear hk5 hk6 hR6 HA HB6 b0 b1 b2 b3 b4 a0 a1 a2 a3 a4 s1 sf d1 df
        go_wp2_with fail
        go_roundg (n - (j + 1))
        case measure => omega
        case rel => exact ⟨j + 1, by go_num, hlt, Nat.le_refl _, HR6.out.set HN6.out hGR _, HK6.out.trans (Kb.setCell (S := fun k => k = R ∨ k = G) w6 ⟨G, 0, none⟩ (Or.inr rfl) _),
          by rw [World.cell?_setCell_same w6 ⟨G, 0, none⟩ _ t1], by rw [World.frozen?_setCell]; exact tf, HN6.out.setB _ _ t1⟩)
    · obtain rfl : j = n := by omega
      have hR := HR.out
      rw [HN.out, List.drop_length] at hR
      have HR2 : Aside (Rd wr R []) := hR
      clear hj hjx hlt hR
      go_wp2_with fail
      go_end0
      exact ⟨HK.out, rfl, HR2.out, c1⟩
end Go.Proofs.Ytnpbnjddlchmcaa

namespace Go.Proofs.Ytnpbnjddlchmcaa
open Go.ChangeShapes Go.WideShapes Go.ChangeAt Go.RowKit Go.Joins Go.Deep
open Go.Shelf Go.Sort
open Go.Proofs
set_option maxRecDepth 100000

theorem enc5_len (a : At) : (enc5 a).length = 5 := rfl
theorem enc5_one (a : At) : ∀ v ∈ enc5 a, v.oneCell' = true := fun v h => by
  simp only [enc5, List.mem_cons, List.not_mem_nil, or_false] at h
  rcases h with rfl | rfl | rfl | rfl | rfl <;> rfl
theorem enc5_at : ∀ (l : List At) (j : Nat), j < l.length → ∀ c u, (enc5 l[j]!)[c]? = some u → (l.flatMap enc5)[j * 5 + c]? = some u := by
  intro l
  induction l with
  | nil => intro j hj; simp at hj
  | cons a l ih =>
    intro j hj c u hu
    cases j with
    | zero =>
      have hc : c < (enc5 a).length := by
        have := (List.getElem?_eq_some_iff.1 hu).1; simpa using this
      simp only [List.flatMap_cons, Nat.zero_mul, Nat.zero_add]
      rw [List.getElem?_append_left hc]; simpa using hu
    | succ j =>
      have := ih j (by simpa using hj) c u (by simpa using hu)
      simp only [List.flatMap_cons]
      rw [List.getElem?_append_right (by rw [enc5_len]; omega), enc5_len, show (j + 1) * 5 + c - 5 = j * 5 + c by omega]
      exact this
theorem enc5_flat_len (l : List At) : (l.flatMap enc5).length = l.length * 5 := by
  induction l with
  | nil => rfl
  | cons a l ih => simp only [List.flatMap_cons, List.length_append, enc5_len, List.length_cons, ih]; omega
theorem val_info : ∃ i z, Try.prog.info? 41 = some i ∧ i.zero = some z ∧ i.size = 5 ∧ i.bytes = 48 ∧ z.cells.size = 5 := by
  obtain ⟨i, hi, h⟩ := Option.bind_eq_some_iff.1 (show (Try.prog.info? 41).bind (fun i => i.zero.map fun z => (i.size, i.bytes, z.cells.size)) = some (5, 48, 5) by kernel_rfl)
  obtain ⟨z, hz, h⟩ := Option.map_eq_some_iff.1 h
  simp only [Prod.mk.injEq] at h
  exact ⟨i, z, hi, hz, h.1, h.2.1, h.2.2⟩

/-- Values that lie below block B. -/
def ValsB (W : World) (B : Nat) (ao : Option Addr) (es : List At) : Prop := es = [] ∨ ∃ b off, ao = some ⟨b, off, none⟩ ∧ b < B ∧ b < W.heap.size ∧ RowV W b off es
theorem ValsB.under {W W' : World} {B : Nat} {ao : Option Addr} {es : List At} (h : ValsB W B ao es) (hb : Below B W W') : ValsB W' B ao es := by
  rcases h with h | ⟨b, off, h1, h2, h3, h4⟩
  · exact Or.inl h
  · exact Or.inr ⟨b, off, h1, h2, Nat.lt_of_lt_of_le h3 hb.size, fun j hj c v hv => (hb.cell (p := ⟨b, off + j * 5 + c, none⟩) h2).trans (h4 j hj c v hv)⟩

theorem copy_vals (w : World) (ao : Option Addr) (cap : Nat) (es : List At) (hb : ValsB w w.heap.size ao es) (hl : es.length ≤ 30) :
    ∃ ao1 cap1 w1, Sem.run Try.prog (appendS #[66, 66] 66 #[.slice none 0 0, .slice ao es.length cap]) w = .ok (.slice ao1 es.length cap1) w1 ∧
      Aside (Below w.heap.size w w1 ∧ (es = [] ∨ ∃ g, ao1 = some ⟨g, 0, none⟩ ∧ w.heap.size ≤ g ∧ g < w1.heap.size ∧ RowV w1 g 0 es ∧ ∀ i, w1.frozen? ⟨g, i, none⟩ = false)) := by
  obtain ⟨i0, z0, hi, hz0, hz1, hz2, hz3⟩ := val_info
  rcases hb with h | ⟨b, off, rfl, _, h3, h4⟩
  · subst h
    cases ao with
    | none => exact ⟨none, 0, w, run_append_nothing w 66 66 66 41 i0 Try.underlying66 hi none 0 0 (Nat.le_refl _) _ (Src.ofNil w Try.underlying66 cap), Below.refl _ _, Or.inl rfl⟩
    | some a => exact ⟨none, 0, w, run_append_nothing w 66 66 66 41 i0 Try.underlying66 hi none 0 0 (Nat.le_refl _) _ (Src.ofSlice w Try.underlying66 a 0 cap [] (by simp) (by simp) (by simp)), Below.refl _ _, Or.inl rfl⟩
  · have hnews : ∀ j u, (es.flatMap enc5)[j]? = some u → w.cell? ((⟨b, off, none⟩ : Addr).add j) = some u := fun j u hj => by
      have hjl : j < es.length * 5 := by have := (List.getElem?_eq_some_iff.1 hj).1; rw [enc5_flat_len] at this; exact this
      have hc5 : j % 5 < (enc5 es[j / 5]!).length := by rw [enc5_len]; omega
      have h1 := enc5_at es (j / 5) (by omega) (j % 5) _ (List.getElem?_eq_getElem hc5)
      rw [show j / 5 * 5 + j % 5 = j by omega, hj] at h1
      have h2 := h4 (j / 5) (by omega) (j % 5) _ (List.getElem?_eq_getElem hc5)
      rw [show off + j / 5 * 5 + j % 5 = off + j by omega] at h2
      rw [Addr.add_lit, h2, h1]
    obtain ⟨v1, w1, hrun1, hown1, hg1, _⟩ := run_append_own (P := Try.prog) w w.heap.size 66 66 41 i0 z0 5 48 Try.underlying66 hi hz0 hz1 hz2 hz3 (by decide) _ _ _ (World.ownsRow_nil w w.heap.size 41 5) ⟨b, off, none⟩ es.length cap (es.flatMap enc5) (enc5_flat_len es) hnews (fun u hu => by
      obtain ⟨a, _, ha⟩ := List.mem_flatMap.1 hu
      exact enc5_one a u ha) (by unfold maxLen; omega) (by omega) (Nat.le_refl _)
    rw [Nat.zero_add, List.nil_append] at hown1
    have hb1 : Below w.heap.size w w1 := (Below.refl _ _).grown hg1 (Nat.le_refl _) (fun k e => by simp [Value.ownBlock] at e)
    have hown := hown1
    rcases hown1.2 with ⟨rfl, h0⟩ | ⟨g, cap1, cur, rfl, hbg, hg, hnc, hcm, hcs, htake⟩
    · have : es = [] := List.eq_nil_of_length_eq_zero h0
      subst this
      exact ⟨none, 0, w1, hrun1, hb1, Or.inl rfl⟩
    · refine ⟨_, _, w1, hrun1, hb1, Or.inr ⟨g, rfl, hbg, (Array.getElem?_eq_some_iff.1 hg).1, fun j hj c u hu => ?_, fun i => hown.frozenAt i⟩⟩
      have hcell := hown.cells (g := g) rfl (j * 5 + c) u (enc5_at es j hj c u hu)
      rw [Nat.zero_add]
      generalize j * 5 + c = q at hcell ⊢
      by_cases h0 : q = 0
      · subst h0; simpa [Addr.add] using hcell
      · simpa [Addr.add, h0] using hcell

/-- A value's five cells, set. -/
def set5 (W : World) (g q : Nat) (a : At) : World := ((((W.setCell ⟨g, q, none⟩ (.int .i64 a.k)).setCell ⟨g, q + 1, none⟩ (.int .i64 a.n)).setCell ⟨g, q + 2, none⟩ (.float .f64 a.x)).setCell ⟨g, q + 3, none⟩ (.string a.s)).setCell ⟨g, q + 4, none⟩ (.bool a.y)
theorem set5_other (W : World) (g q i : Nat) (a : At) (h : i < q ∨ q + 5 ≤ i) : (set5 W g q a).cell? ⟨g, i, none⟩ = W.cell? ⟨g, i, none⟩ := by
  unfold set5
  rw [oth (by omega), oth (by omega), oth (by omega), oth (by omega), oth (by omega)]
theorem set5_at (W : World) (g q : Nat) (a b : At) (h : ∀ c v, (enc5 b)[c]? = some v → W.cell? ⟨g, q + c, none⟩ = some v) (c : Nat) (v : Value) (hv : (enc5 a)[c]? = some v) : (set5 W g q a).cell? ⟨g, q + c, none⟩ = some v := by
  have h0 := h 0 _ rfl; have h1 := h 1 _ rfl; have h2 := h 2 _ rfl; have h3 := h 3 _ rfl; have h4 := h 4 _ rfl
  rw [Nat.add_zero] at h0
  have hc : c < 5 := by have := (List.getElem?_eq_some_iff.1 hv).1; rw [enc5_len] at this; exact this
  have hsame : ∀ (X : World) (i : Nat) (u v : Value), X.cell? ⟨g, i, none⟩ = some u → (X.setCell ⟨g, i, none⟩ v).cell? ⟨g, i, none⟩ = some v := fun X i u v h => World.cell?_setCell_same X ⟨g, i, none⟩ v h
  unfold set5
  obtain ⟨k, n, x, s, y, hk⟩ : ∃ k n x s y, enc5 a = [k, n, x, s, y] ∧ (k = .int .i64 a.k ∧ n = .int .i64 a.n ∧ x = .float .f64 a.x ∧ s = .string a.s ∧ y = .bool a.y) := ⟨_, _, _, _, _, rfl, rfl, rfl, rfl, rfl, rfl⟩
  obtain ⟨he, ek, en, ex, es, ey⟩ := hk
  rw [← ek, ← en, ← ex, ← es, ← ey]
  rw [he] at hv
  clear he ek en ex es ey h
  rcases (show c = 0 ∨ c = 1 ∨ c = 2 ∨ c = 3 ∨ c = 4 by omega) with rfl | rfl | rfl | rfl | rfl
  · obtain rfl : k = v := by simpa using hv
    rw [Nat.add_zero, oth (by omega), oth (by omega), oth (by omega), oth (by omega)]; exact hsame _ _ _ _ h0
  · obtain rfl : n = v := by simpa using hv
    rw [oth (by omega), oth (by omega), oth (by omega)]; exact hsame _ _ _ _ ((oth (by omega)).trans h1)
  · obtain rfl : x = v := by simpa using hv
    rw [oth (by omega), oth (by omega)]; exact hsame _ _ _ _ ((oth (by omega)).trans ((oth (by omega)).trans h2))
  · obtain rfl : s = v := by simpa using hv
    rw [oth (by omega)]; exact hsame _ _ _ _ ((oth (by omega)).trans ((oth (by omega)).trans ((oth (by omega)).trans h3)))
  · obtain rfl : y = v := by simpa using hv
    exact hsame _ _ _ _ ((oth (by omega)).trans ((oth (by omega)).trans ((oth (by omega)).trans ((oth (by omega)).trans h4))))
theorem set5_kb (W : World) (g q : Nat) (a : At) : Kb (fun k => k = g) W (set5 W g q a) :=
  ((((Kb.setCell (S := fun k => k = g) W ⟨g, q, none⟩ rfl _).trans (Kb.setCell (S := fun k => k = g) _ ⟨g, q + 1, none⟩ rfl _)).trans (Kb.setCell (S := fun k => k = g) _ ⟨g, q + 2, none⟩ rfl _)).trans (Kb.setCell (S := fun k => k = g) _ ⟨g, q + 3, none⟩ rfl _)).trans (Kb.setCell (S := fun k => k = g) _ ⟨g, q + 4, none⟩ rfl _)
theorem set5_frozen (W : World) (g q : Nat) (a : At) (p : Addr) : (set5 W g q a).frozen? p = W.frozen? p := by
  unfold set5
  rw [World.frozen?_setCell, World.frozen?_setCell, World.frozen?_setCell, World.frozen?_setCell, World.frozen?_setCell]

/-- The first j values canonised. -/
def curV (es : List At) (j : Nat) : List At := (es.take j).map canonA ++ es.drop j
theorem curV_len (es : List At) (j : Nat) : (curV es j).length = es.length := by simp [curV]; omega
theorem curV_get (es : List At) (j i : Nat) (hj : j ≤ es.length) : (curV es j)[i]? = if i < j then es[i]?.map canonA else es[i]? := by
  unfold curV
  by_cases h : i < j
  · rw [if_pos h, List.getElem?_append_left (by simp; omega), List.getElem?_map, List.getElem?_take_of_lt h]
  · rw [if_neg h, List.getElem?_append_right (by simp; omega), List.getElem?_drop]
    congr 1
    simp
    omega
theorem curV_at (es : List At) (j : Nat) (h : j < es.length) : (curV es j)[j]! = es[j]! := by
  rw [List.getElem!_eq_getElem?_getD, List.getElem!_eq_getElem?_getD, curV_get es j j (Nat.le_of_lt h), if_neg (Nat.lt_irrefl _)]
theorem curV_next (es : List At) (j i : Nat) (h : j < es.length) : (curV es (j + 1))[i]! = if i = j then canonA es[j]! else (curV es j)[i]! := by
  rw [List.getElem!_eq_getElem?_getD, List.getElem!_eq_getElem?_getD, List.getElem!_eq_getElem?_getD, curV_get es (j + 1) i h, curV_get es j i (Nat.le_of_lt h)]
  by_cases hij : i = j
  · subst hij
    rw [if_pos (Nat.lt_succ_self _), if_pos rfl, List.getElem?_eq_getElem h]
    rfl
  · rw [if_neg hij]
    by_cases hlt : i < j
    · rw [if_pos hlt, if_pos (by omega)]
    · rw [if_neg hlt, if_neg (by omega)]
theorem curV_end (es : List At) : curV es es.length = es.map canonA := by simp [curV]
theorem rowV_set {W : World} {g : Nat} {es : List At} {j : Nat} (h : j < es.length) (hr : RowV W g 0 (curV es j)) : RowV (set5 W g (j * 5) (canonA es[j]!)) g 0 (curV es (j + 1)) := fun i hi c v hv => by
  rw [curV_len] at hi
  rw [curV_next es j i h] at hv
  rw [Nat.zero_add]
  by_cases hij : i = j
  · subst hij
    rw [if_pos rfl] at hv
    exact set5_at W g (i * 5) _ (curV es i)[i]! (fun c v hv => by have := hr i (by rw [curV_len]; exact hi) c v hv; rwa [Nat.zero_add] at this) c v hv
  · rw [if_neg hij] at hv
    have hc : c < 5 := by have := (List.getElem?_eq_some_iff.1 hv).1; rw [enc5_len] at this; exact this
    rw [set5_other W g (j * 5) (i * 5 + c) _ (by omega)]
    have := hr i (by rw [curV_len]; exact hi) c v hv
    rwa [Nat.zero_add] at this
theorem encV_canon (a : At) (h : vrightB a.k a.s = true) : encV (canonA a) = encV a := by
  obtain ⟨nm, k, n, x, s, y⟩ := a
  simp only [vrightB, Bool.and_eq_true, decide_eq_true_eq] at h
  rcases (show k = 0 ∨ k = 1 ∨ k = 2 ∨ k = 3 by omega) with rfl | rfl | rfl | rfl
  · simp [canonA, encV]
  · simp [canonA, encV, fkey_canon]
  · simp [canonA, encV]
  · simp [canonA, encV]
end Go.Proofs.Ytnpbnjddlchmcaa

namespace Go.Proofs.Ytnpbnjddlchmcaa
open Go.ChangeShapes Go.WideShapes Go.ChangeAt Go.RowKit Go.Joins Go.Deep
set_option maxRecDepth 100000

section
variable {H : Type} {enc : TypeId × Value → H} {w : World} {base b0 : Nat} {r : Reach} {sp : Nat → Bool} {held : Bool}
theorem open_val5 {fuel : Nat} {cs : List Value} {x : DataW H × List MemPlace} (hf : DataW.trod enc Try.prog w base sp held fuel 41 cs = some x) :
    ∃ a : At, cs = enc5 a ∧ (AtOk a ∧ -9223372036854775808 ≤ a.n ∧ a.n ≤ 9223372036854775807) := by
  obtain ⟨k, n, x, s, y, hcs, wx, ws, wn⟩ := open_val_csn hf
  refine ⟨⟨⟨#[]⟩, k, n, x, s, y⟩, hcs, ?_, bounds_i64 wn⟩
  show x < _
  simpa [Lit.wf] using wx
theorem open_vals {v : Value} {d : DataW H} {p : List MemPlace} (hv : Value.okWide Try.prog w r b0 66 v) (h : DataW.Trod enc Try.prog w base sp held 66 v d p) :
    ∃ (ao : Option Addr) (cap : Nat) (l : List At), v = .slice ao l.length cap ∧ ValsB w w.heap.size ao l ∧ (∀ a ∈ l, AtOk a ∧ -9223372036854775808 ≤ a.n ∧ a.n ≤ 9223372036854775807) := by
  obtain ⟨fuel, hf⟩ := h
  obtain ⟨a, len, cap, rfl⟩ := okWide_slice Try.underlying66 hv
  have c33 : Try.prog.cellsOf 41 = 5 := by kernel_rfl
  rcases open_slice Try.underlying66 hf with ⟨h0, _⟩ | ⟨a', len', cap', m, n, D, Pl, hcs, hb, hl, hm, hmm, hx, hi⟩
  · have : Value.slice a len cap = .slice none 0 0 := by simpa [Value.cells] using h0
    injection this with e1 e2 e3
    subst e1 e2 e3
    exact ⟨none, 0, [], rfl, Or.inl rfl, by simp⟩
  · have : Value.slice a len cap = .slice (some a') len' cap' := by simpa [Value.cells] using hcs
    injection this with e1 e2 e3
    subst e1 e2 e3
    have hsp : a'.spot = none := by
      simp only [Value.okWide, Try.underlying66, Cell.okWide, Cell.ok, World.has] at hv
      exact hv.2.2.2.1
    have hlm : len ≤ m := by rw [hmm]; split <;> omega
    have hex : ∀ i, ∃ at' : At, i < len → (w.cells? base (a'.add (i * 5)) 5 = some (enc5 at') ∧ (AtOk at' ∧ -9223372036854775808 ≤ at'.n ∧ at'.n ≤ 9223372036854775807)) := fun i => by
      by_cases hlt : i < len
      · obtain ⟨cs', hc, ht'⟩ := hi i (by omega)
        obtain ⟨at', rfl, hok⟩ := open_val5 ht'
        rw [c33] at hc
        exact ⟨at', fun _ => ⟨hc, hok⟩⟩
      · exact ⟨default, fun h => absurd h hlt⟩
    obtain ⟨f, hff⟩ := Classical.axiomOfChoice hex
    have hcell : ∀ i, i < len → ∀ c v, (enc5 (f i))[c]? = some v → w.cell? ⟨a'.block, a'.off + i * 5 + c, none⟩ = some v := fun i hlt c v hcv => by
      obtain ⟨_, _, hat⟩ := World.cells?_some (hff i hlt).1
      have hc5 : c < 5 := by
        have := (List.getElem?_eq_some_iff.1 hcv).1
        rw [enc5_len] at this; exact this
      have := hat c hc5
      rw [add_flat a' hsp, add_flat _ rfl] at this
      rw [← hcv]; exact this
    refine ⟨some a', cap, (List.range len).map f, by simp, ?_, fun x hx => ?_⟩
    · by_cases h0 : len = 0
      · subst h0; exact Or.inl rfl
      · have hbl := World.block_lt_of_cell? w ⟨a'.block, a'.off + 0 * 5 + 0, none⟩ (hcell 0 (by omega) 0 _ rfl)
        refine Or.inr ⟨a'.block, a'.off, ?_, hbl, hbl, fun j hj c v hcv => ?_⟩
        · obtain ⟨b, o, s⟩ := a'; simp only at hsp; subst hsp; rfl
        · have hj' : j < len := by simpa using hj
          refine hcell j hj' c v ?_
          rw [← hcv]
          simp [hj']
    · obtain ⟨i, hi2, rfl⟩ := List.mem_map.1 hx
      exact (hff i (List.mem_range.1 hi2)).2
end
end Go.Proofs.Ytnpbnjddlchmcaa
