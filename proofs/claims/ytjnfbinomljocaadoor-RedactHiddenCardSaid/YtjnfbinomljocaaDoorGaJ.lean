/- FilR, FilR2, OpenL, OpenW, OpenG, FilLaw: merged by merge.py. -/
import Derived.Test.YtjnfbinomljocaaDoorGaE
import Derived.Test.YtjnfbinomljocaaDoorCondR3
import Derived.Deep.RegionWith
import Derived.Deep.RegionHeld3
import Derived.Test.YtjnfbinomljocaaDoorGaB
import Derived.Test.YtjnfbinomljocaaDoorGaD
import Derived.Lib.SmallJoins
import Derived.ProofKit
import Derived.OpenShut
import Derived.ShutString
import Derived.Deep.Slices
import Derived.Deep.Fields
import Derived.ChangeSame
import Derived.SizedLaws
import Derived.Test.YtjnfbinomljocaaDoorGaI
import Derived.Test.YtjnfbinomljocaaDoorGaC
/- The document's own answers for filters: gazetteref07's Under, Match, Covers. -/
namespace Go.Proofs.YtjnfbinomljocaaDoor
open Go.RowKit Go.Shelf
open Go.Proofs
set_option maxRecDepth 100000

theorem under_split (s t : ByteArray) (ha : (t.toList == []) = false) (hb : (s.toList == t.toList) = false) : underB s t = true ↔ ∃ h : t.size < s.size, (s.extract 0 t.size).toList = t.toList ∧ s[t.size]'h = 47 := by
  rw [bytes_toList] at ha
  rw [bytes_toList, bytes_toList] at hb
  unfold underB Sc.underL
  rw [ha, hb, Bool.false_or, Bool.false_or, List.isPrefixOf_iff_prefix, List.prefix_iff_eq_take, bytes_toList, bytes_toList]
  have e : (s.extract 0 t.size).data.toList = s.data.toList.take t.size := by simp
  rw [e, List.length_append, List.length_singleton, len_data, List.take_add_one]
  constructor
  · intro h
    have hl := congrArg List.length h
    simp only [List.length_append, List.length_take, List.length_singleton, len_data] at hl
    by_cases h2 : t.size < s.size
    · refine ⟨h2, ?_⟩
      have h3 : t.size < s.data.toList.length := by rw [len_data]; exact h2
      rw [List.getElem?_eq_getElem h3] at h
      have := List.append_inj h (by rw [List.length_take, len_data, len_data]; omega)
      refine ⟨this.1.symm, ?_⟩
      have h4 := this.2
      simp only [Option.toList_some, List.cons.injEq, and_true] at h4
      rw [Array.getElem_toList] at h4
      exact h4.symm
    · have h3 : s.data.toList[t.size]? = none := List.getElem?_eq_none (by rw [len_data]; omega)
      rw [h3] at hl
      simp at hl
      omega
  · rintro ⟨h2, h, h4⟩
    have h3 : t.size < s.data.toList.length := by rw [len_data]; exact h2
    rw [List.getElem?_eq_getElem h3, h]
    have h5 : s.data.toList[t.size]'h3 = 47 := by rw [Array.getElem_toList]; exact h4
    rw [h5]; rfl

set_option maxHeartbeats 2000000 in
theorem runder_c (s t : ByteArray) (w : World) : Calls Tryd.prog 25 #[.string s, .string t] w fun e w' => e = .returned (.bool (underB s t)) ∧ w = w' := by
  cases ha : (t.toList == [])
  · cases hb : (s.toList == t.toList)
    · have hsp := under_split s t ha hb
      by_cases h : t.size < s.size
      · have hz : (t.size : Int) < (s.size : Int) := by omega
        have hzl : (t.size : Int) ≤ (s.size : Int) := by omega
        have hz0 : (0 : Int) ≤ (t.size : Int) := by omega
        cases hp : ((s.extract 0 t.size).toList == t.toList)
        · have hu : underB s t = false := by
            rw [Bool.eq_false_iff]; intro hh
            obtain ⟨_, h1, _⟩ := hsp.1 hh
            rw [h1] at hp; simp at hp
          rw [hu]
          clear hsp hu
          go_enter Tryd.func25, Tryd.ntmps25
          go_wp2_with fail
          go_ret
          exact ⟨rfl, rfl⟩
        · cases hq : (((s[t.size]'h).toNat : Int) == 47)
          · have hu : underB s t = false := by
              rw [Bool.eq_false_iff]; intro hh
              obtain ⟨h2, _, h3⟩ := hsp.1 hh
              rw [h3] at hq; simp at hq
            rw [hu]
            clear hsp hu
            go_enter Tryd.func25, Tryd.ntmps25
            go_wp2_with fail
            go_ret
            exact ⟨rfl, rfl⟩
          · have hu : underB s t = true := by
              refine hsp.2 ⟨h, by simpa using hp, ?_⟩
              have : (s[t.size]'h).toNat = 47 := by have := beq_iff_eq.1 hq; omega
              exact UInt8.toNat_inj.1 this
            rw [hu]
            clear hsp hu
            go_enter Tryd.func25, Tryd.ntmps25
            go_wp2_with fail
            go_ret
            exact ⟨rfl, rfl⟩
      · have hz : ¬ (t.size : Int) < (s.size : Int) := by omega
        have hu : underB s t = false := by
          rw [Bool.eq_false_iff]; intro hh
          exact h (hsp.1 hh).1
        rw [hu]
        clear hsp hu
        go_enter Tryd.func25, Tryd.ntmps25
        go_wp2_with fail
        go_ret
        exact ⟨rfl, rfl⟩
    · have hu : underB s t = true := by
        rw [bytes_toList, bytes_toList] at hb
        unfold underB Sc.underL
        rw [hb]; simp
      rw [hu]
      clear hu
      go_enter Tryd.func25, Tryd.ntmps25
      go_wp2_with fail
      go_ret
      exact ⟨rfl, rfl⟩
  · have hu : underB s t = true := by
      rw [bytes_toList] at ha
      unfold underB Sc.underL
      rw [ha]; simp
    rw [hu]
    clear hu
    go_enter Tryd.func25, Tryd.ntmps25
    go_wp2_with fail
    go_ret
    exact ⟨rfl, rfl⟩

theorem below_drew1 {B : Nat} (w : World) : Below B w w.drew := ⟨rfl, rfl, rfl, Nat.le_refl _, fun _ _ => rfl⟩
theorem any_false_take {α : Type} [Inhabited α] (P : List α) (f : α → Bool) (j : Nat) (hj : j < P.length) : (P.take (j + 1)).any f = ((P.take j).any f || f P[j]!) := by
  rw [List.take_add_one, List.getElem?_eq_getElem hj, List.any_append, getElem!_pos P j hj]; simp

end Go.Proofs.YtjnfbinomljocaaDoor

/- gazetteref07's Covers of any two filters. -/
namespace Go.Proofs.YtjnfbinomljocaaDoor
open Go.RowKit Go.Shelf
open Go.Proofs
set_option maxRecDepth 100000

end Go.Proofs.YtjnfbinomljocaaDoor

/- A list of attributes that comes in as an argument: what it is as the program holds it. -/
namespace Go.Proofs.YtjnfbinomljocaaDoor
open Go.ChangeShapes Go.WideShapes Go.ChangeAt Go.RowKit Go.Joins Go.Deep
set_option maxRecDepth 100000



section
variable {H : Type} {enc : TypeId × Value → H} {w : World} {base b0 : Nat} {r : Reach} {sp : Nat → Bool} {held : Bool}
theorem open_val_cs {fuel : Nat} {cs : List Value} {x : DataW H × List MemPlace} (hf : DataW.trod enc Tryd.prog w base sp held fuel 49 cs = some x) :
    ∃ (k n : Int) (x : Nat) (s : ByteArray) (y : Bool), cs = [.int .i64 k, .int .i64 n, .float .f64 x, .string s, .bool y] ∧ (Lit.float .f64 x).wf = true ∧ s.size ≤ maxLen := by
  obtain ⟨xs, m, _, hx, hl, hxl, hall⟩ := DataW.trod_struct Tryd.underlying49 hf
  have c24 : Tryd.prog.cellsOf 49 = 5 := by kernel_rfl
  have ci : Tryd.prog.cellsOf 3 = 1 := by kernel_rfl
  have cj : Tryd.prog.cellsOf 2 = 1 := by kernel_rfl
  have cf : Tryd.prog.cellsOf 47 = 1 := by kernel_rfl
  have cg : Tryd.prog.cellsOf 9 = 1 := by kernel_rfl
  have cb : Tryd.prog.cellsOf 4 = 1 := by kernel_rfl
  obtain ⟨b, e⟩ := one_field hxl hall 0 _ rfl 3 0 rfl rfl ci
  obtain ⟨b1, e1⟩ := one_field hxl hall 1 _ rfl 2 1 rfl rfl cj
  obtain ⟨b2, e2⟩ := one_field hxl hall 2 _ rfl 47 2 rfl rfl cf
  obtain ⟨b3, e3⟩ := one_field hxl hall 3 _ rfl 9 3 rfl rfl cg
  obtain ⟨b4, e4⟩ := one_field hxl hall 4 _ rfl 4 4 rfl rfl cb
  obtain ⟨k, g0, _, _⟩ := DataW.trod_int Tryd.underlying3 e
  obtain ⟨n, g1, _, _⟩ := DataW.trod_int Tryd.underlying2 e1
  obtain ⟨x, g2, w2⟩ := trod_float_wf Tryd.underlying47 e2
  obtain ⟨s, g3, _, w3⟩ := DataW.trod_string Tryd.underlying9 e3
  obtain ⟨y, g4, _⟩ := DataW.trod_bool Tryd.underlying4 e4
  have h0 := cell_of_take g0
  have h1 := cell_of_take g1
  have h2 := cell_of_take g2
  have h3 := cell_of_take g3
  have h4 := cell_of_take g4
  refine ⟨k, n, x, s, y, ?_, w2, w3⟩
  match cs, hl.trans c24, h0, h1, h2, h3, h4 with
  | [v0, v1, v2, v3, v4], _, h0, h1, h2, h3, h4 =>
    simp at h0 h1 h2 h3 h4
    subst h0 h1 h2 h3 h4
    rfl
theorem open_attr_cs {fuel : Nat} {cs : List Value} {x : DataW H × List MemPlace} (hf : DataW.trod enc Tryd.prog w base sp held fuel 51 cs = some x) :
    ∃ a : At, cs = encA a ∧ AtOk a := by
  obtain ⟨xs, m, _, hx, hl, hxl, hall⟩ := DataW.trod_struct Tryd.underlying51 hf
  have c33 : Tryd.prog.cellsOf 51 = 6 := by kernel_rfl
  have c24 : Tryd.prog.cellsOf 49 = 5 := by kernel_rfl
  have cg : Tryd.prog.cellsOf 9 = 1 := by kernel_rfl
  obtain ⟨b, e⟩ := one_field hxl hall 0 _ rfl 9 0 rfl rfl cg
  obtain ⟨nm, g0, _, w0⟩ := DataW.trod_string Tryd.underlying9 e
  have h0 := cell_of_take g0
  have h1 := hall 1 _ rfl
  have hsz : xs.length = 2 := hxl
  rw [List.getElem?_eq_getElem (by omega)] at h1
  obtain ⟨k, n, x, s, y, hcs, wx, ws⟩ := open_val_cs h1
  refine ⟨⟨nm, k, n, x, s, y⟩, ?_, ?_⟩
  · have hcs2 : (cs.drop 1).take 5 = [.int .i64 k, .int .i64 n, .float .f64 x, .string s, .bool y] := by
      rw [← c24]; exact hcs
    match cs, hl.trans c33, h0, hcs2 with
    | [v0, v1, v2, v3, v4, v5], _, h0, hcs2 =>
      simp at h0 hcs2
      obtain ⟨rfl, rfl, rfl, rfl, rfl⟩ := hcs2
      subst h0
      rfl
  · show x < _
    simpa [Lit.wf] using wx

theorem open_attrs {v : Value} {d : DataW H} {p : List MemPlace} (hv : Value.okWide Tryd.prog w r b0 24 v) (h : DataW.Trod enc Tryd.prog w base sp held 24 v d p) :
    ∃ (ao : Option Addr) (cap : Nat) (l : List At), v = .slice ao l.length cap ∧ SliceA w ao l ∧ (∀ a ∈ l, AtOk a) ∧ l.length ≤ maxLen := by
  obtain ⟨fuel, hf⟩ := h
  obtain ⟨a, len, cap, rfl⟩ := okWide_slice Tryd.underlying24 hv
  have c33 : Tryd.prog.cellsOf 51 = 6 := by kernel_rfl
  rcases open_slice Tryd.underlying24 hf with ⟨h0, _⟩ | ⟨a', len', cap', m, n, D, Pl, hcs, hb, hl, hm, hmm, hx, hi⟩
  · have : Value.slice a len cap = .slice none 0 0 := by simpa [Value.cells] using h0
    injection this with e1 e2 e3
    subst e1 e2 e3
    exact ⟨none, 0, [], rfl, Or.inl rfl, by simp, by simp⟩
  · have : Value.slice a len cap = .slice (some a') len' cap' := by simpa [Value.cells] using hcs
    injection this with e1 e2 e3
    subst e1 e2 e3
    have hsp : a'.spot = none := by
      simp only [Value.okWide, Tryd.underlying24, Cell.okWide, Cell.ok, World.has] at hv
      exact hv.2.2.2.1
    have hlm : len ≤ m := by rw [hmm]; split <;> omega
    have hex : ∀ i, ∃ at' : At, i < len → (w.cells? base (a'.add (i * 6)) 6 = some (encA at') ∧ AtOk at') := fun i => by
      by_cases hlt : i < len
      · obtain ⟨cs', hc, ht'⟩ := hi i (by omega)
        obtain ⟨at', rfl, hok⟩ := open_attr_cs ht'
        rw [c33] at hc
        exact ⟨at', fun _ => ⟨hc, hok⟩⟩
      · exact ⟨default, fun h => absurd h hlt⟩
    obtain ⟨f, hff⟩ := Classical.axiomOfChoice hex
    have hcell : ∀ i, i < len → ∀ c v, (encA (f i))[c]? = some v → w.cell? ⟨a'.block, a'.off + i * 6 + c, none⟩ = some v := fun i hlt c v hcv => by
      obtain ⟨_, _, hat⟩ := World.cells?_some (hff i hlt).1
      have hc6 : c < 6 := by
        have := (List.getElem?_eq_some_iff.1 hcv).1
        rw [encA_len] at this; exact this
      have := hat c hc6
      rw [add_flat a' hsp, add_flat _ rfl] at this
      rw [← hcv]; exact this
    refine ⟨some a', cap, (List.range len).map f, by simp, ?_, fun x hx => ?_, by simp; omega⟩
    · by_cases h0 : len = 0
      · subst h0; exact Or.inl rfl
      · refine Or.inr ⟨a'.block, a'.off, ?_, ?_, fun j hj c v hcv => ?_⟩
        · obtain ⟨b, o, s⟩ := a'; simp only at hsp; subst hsp; rfl
        · exact World.block_lt_of_cell? w ⟨a'.block, a'.off + 0 * 6 + 0, none⟩ (hcell 0 (by omega) 0 (.string (f 0).nm) rfl)
        · have hj' : j < len := by simpa using hj
          refine hcell j hj' c v ?_
          rw [← hcv]
          simp [hj']
    · obtain ⟨i, hi2, rfl⟩ := List.mem_map.1 hx
      exact (hff i (List.mem_range.1 hi2)).2
end
end Go.Proofs.YtjnfbinomljocaaDoor

/- Attributes, conditions, filters that come in as arguments: what they are as the program holds them, and how long their texts may be. -/
namespace Go.Proofs.YtjnfbinomljocaaDoor
open Go.ChangeShapes Go.WideShapes Go.ChangeAt Go.RowKit Go.Joins Go.Deep
set_option maxRecDepth 100000

section
variable {H : Type} {P : Program}
theorem wt_field {t : TypeId} {fs : Array Field} {xs : List (DataW H × List MemPlace)} {x : DataW H × List MemPlace} {q : List MemPlace} (ht : P.underlying t = some (.struct fs)) (hx : x = (.agg (xs.map (·.1)), q)) (i : Nat) (f : Field) (hf : fs[i]? = some f)
    (y : DataW H × List MemPlace) (hy : xs[i]? = some y) {n : Nat} (hn : n ∈ y.1.weights P f.type) : n ∈ x.1.weights P t := by
  subst hx
  simp only [DataW.weights, ht]
  refine DataW.weights_mem_each (j := i) (t := f.type) (d := y.1) ?_ ?_ n hn
  · rw [List.getElem?_map, Array.getElem?_toList, hf]; rfl
  · rw [List.getElem?_map, hy]; rfl
theorem wt_all {e : TypeId} : ∀ {l : List (DataW H)} {d : DataW H} {n : Nat}, d ∈ l → n ∈ d.weights P e → n ∈ DataW.weightsAll P e l
  | [], _, _, h, _ => by simp at h
  | a :: l, d, n, h, hn => by
    simp only [DataW.weightsAll, List.mem_append]
    rcases List.mem_cons.1 h with rfl | h
    · exact Or.inl hn
    · exact Or.inr (wt_all h hn)
end
/-- What memory allows of an attribute, or of a condition's value. -/
def AtW (M : Nat) (a : At) : Prop := AtOk a ∧ (-9223372036854775808 ≤ a.n ∧ a.n ≤ 9223372036854775807) ∧ a.nm.size ≤ M ∧ a.s.size ≤ M
section
variable {H : Type} {enc : TypeId × Value → H} {w : World} {base b0 : Nat} {r : Reach} {sp : Nat → Bool} {held : Bool}
theorem str_w {fuel : Nat} {cs : List Value} {x : DataW H × List MemPlace} (hf : DataW.trod enc Tryd.prog w base sp held fuel 9 cs = some x) : ∃ s : ByteArray, cs = [.string s] ∧ s.size ∈ x.1.weights Tryd.prog 9 := by
  obtain ⟨s, h1, rfl, _⟩ := DataW.trod_string Tryd.underlying9 hf
  exact ⟨s, h1, by simp [DataW.weights]⟩
theorem val_w {fuel : Nat} {cs : List Value} {x : DataW H × List MemPlace} (hf : DataW.trod enc Tryd.prog w base sp held fuel 49 cs = some x) :
    ∃ (k n : Int) (x' : Nat) (s : ByteArray) (y : Bool), cs = [.int .i64 k, .int .i64 n, .float .f64 x', .string s, .bool y] ∧ x' < 18446744073709551616 ∧ (-9223372036854775808 ≤ n ∧ n ≤ 9223372036854775807) ∧ s.size ∈ x.1.weights Tryd.prog 49 := by
  obtain ⟨k, n, x', s, y, rfl, wx, _, wn⟩ := open_val_csn hf
  refine ⟨k, n, x', s, y, rfl, by simpa [Lit.wf] using wx, bounds_i64 wn, ?_⟩
  obtain ⟨xs, m, _, hx, _, hxl, hall⟩ := DataW.trod_struct Tryd.underlying49 hf
  have cg : Tryd.prog.cellsOf 9 = 1 := by kernel_rfl
  have hsz : xs.length = 5 := hxl
  have h3 := hall 3 _ rfl
  rw [List.getElem?_eq_getElem (by omega)] at h3
  obtain ⟨s', g, hw⟩ := str_w h3
  have e : s' = s := by
    have g' : [Value.string s] = [Value.string s'] := by
      rw [← g]; show _ = List.take (Tryd.prog.cellsOf 9) _; rw [cg]; rfl
    injection g' with g1
    injection g1 with g2
    exact g2.symm
  subst e
  exact wt_field Tryd.underlying49 hx 3 _ rfl _ (List.getElem?_eq_getElem (by omega)) hw
theorem attr_w {fuel : Nat} {cs : List Value} {x : DataW H × List MemPlace} (hf : DataW.trod enc Tryd.prog w base sp held fuel 51 cs = some x) (M : Nat) (hM : ∀ n ∈ x.1.weights Tryd.prog 51, n ≤ M) :
    ∃ a : At, cs = encA a ∧ AtW M a := by
  obtain ⟨xs, m, _, hx, hl, hxl, hall⟩ := DataW.trod_struct Tryd.underlying51 hf
  have c33 : Tryd.prog.cellsOf 51 = 6 := by kernel_rfl
  have c24 : Tryd.prog.cellsOf 49 = 5 := by kernel_rfl
  have cg : Tryd.prog.cellsOf 9 = 1 := by kernel_rfl
  have hsz : xs.length = 2 := hxl
  have e0 := hall 0 _ rfl
  have e1 := hall 1 _ rfl
  rw [List.getElem?_eq_getElem (by omega)] at e0 e1
  obtain ⟨nm, g0, w0⟩ := str_w e0
  obtain ⟨k, n, x', s, y, g1, hx', hn, w1⟩ := val_w e1
  have b0 := hM _ (wt_field Tryd.underlying51 hx 0 _ rfl _ (List.getElem?_eq_getElem (by omega)) w0)
  have b1 := hM _ (wt_field Tryd.underlying51 hx 1 _ rfl _ (List.getElem?_eq_getElem (by omega)) w1)
  refine ⟨⟨nm, k, n, x', s, y⟩, ?_, hx', hn, b0, b1⟩
  have h0 : cs[0]? = some (.string nm) := by
    have g0' : (cs.drop 0).take 1 = [Value.string nm] := by rw [← cg]; exact g0
    exact cell_of_take g0'
  have hcs2 : (cs.drop 1).take 5 = [.int .i64 k, .int .i64 n, .float .f64 x', .string s, .bool y] := by rw [← c24]; exact g1
  match cs, hl.trans c33, h0, hcs2 with
  | [v0, v1, v2, v3, v4, v5], _, h0, hcs2 =>
    simp at h0 hcs2
    obtain ⟨rfl, rfl, rfl, rfl, rfl⟩ := hcs2
    subst h0
    rfl
theorem cond_w {fuel : Nat} {cs : List Value} {x : DataW H × List MemPlace} (hf : DataW.trod enc Tryd.prog w base sp held fuel 66 cs = some x) (M : Nat) (hM : ∀ n ∈ x.1.weights Tryd.prog 66, n ≤ M) :
    ∃ c : Cn, cs = encC c ∧ AtW M c.a := by
  obtain ⟨xs, m, _, hx, hl, hxl, hall⟩ := DataW.trod_struct Tryd.underlying66 hf
  have c33 : Tryd.prog.cellsOf 66 = 7 := by kernel_rfl
  have c24 : Tryd.prog.cellsOf 49 = 5 := by kernel_rfl
  have cg : Tryd.prog.cellsOf 9 = 1 := by kernel_rfl
  have ci : Tryd.prog.cellsOf 3 = 1 := by kernel_rfl
  have hsz : xs.length = 3 := hxl
  have e0 := hall 0 _ rfl
  have e1 := hall 1 _ rfl
  have e2 := hall 2 _ rfl
  rw [List.getElem?_eq_getElem (by omega)] at e0 e1 e2
  obtain ⟨nm, g0, w0⟩ := str_w e0
  obtain ⟨op, g1, _, _⟩ := DataW.trod_int Tryd.underlying3 e1
  obtain ⟨k, n, x', s, y, g2, hx', hn, w2⟩ := val_w e2
  have b0 := hM _ (wt_field Tryd.underlying66 hx 0 _ rfl _ (List.getElem?_eq_getElem (by omega)) w0)
  have b2 := hM _ (wt_field Tryd.underlying66 hx 2 _ rfl _ (List.getElem?_eq_getElem (by omega)) w2)
  refine ⟨⟨⟨nm, k, n, x', s, y⟩, op⟩, ?_, hx', hn, b0, b2⟩
  have h0 : cs[0]? = some (.string nm) := by
    have g0' : (cs.drop 0).take 1 = [Value.string nm] := by rw [← cg]; exact g0
    exact cell_of_take g0'
  have h1 : cs[1]? = some (.int .i64 op) := by
    have g1' : (cs.drop 1).take 1 = [Value.int .i64 op] := by rw [← ci]; exact g1
    exact cell_of_take g1'
  have hcs2 : (cs.drop 2).take 5 = [.int .i64 k, .int .i64 n, .float .f64 x', .string s, .bool y] := by rw [← c24]; exact g2
  match cs, hl.trans c33, h0, h1, hcs2 with
  | [v0, v1, v2, v3, v4, v5, v6], _, h0, h1, hcs2 =>
    simp at h0 h1 hcs2
    obtain ⟨rfl, rfl, rfl, rfl, rfl⟩ := hcs2
    subst h0 h1
    rfl
theorem conds_w {fuel : Nat} {a : Option Addr} {len cap : Nat} {x : DataW H × List MemPlace} (hsp : ∀ a', a = some a' → a'.spot = none) (hf : DataW.trod enc Tryd.prog w base sp held fuel 39 [.slice a len cap] = some x) (M : Nat) (hM : ∀ n ∈ x.1.weights Tryd.prog 39, n ≤ M) :
    ∃ l : List Cn, l.length = len ∧ CondsB w.heap.size w a l ∧ (∀ c ∈ l, AtW M c.a) ∧ l.length * 72 ≤ M := by
  have c33 : Tryd.prog.cellsOf 66 = 7 := by kernel_rfl
  have c72 : Tryd.prog.bytesOf 66 = 72 := by kernel_rfl
  rcases open_slice Tryd.underlying39 hf with ⟨h0, _⟩ | ⟨a', len', cap', m, n, D, Pl, hcs, hb, hl, hm, hmm, hx, hi⟩
  · have : Value.slice a len cap = .slice none 0 0 := by simpa using h0
    injection this with e1 e2 e3
    subst e1 e2 e3
    exact ⟨[], rfl, Or.inl rfl, by simp, by simp⟩
  · have : Value.slice a len cap = .slice (some a') len' cap' := by simpa using hcs
    injection this with e1 e2 e3
    subst e1 e2 e3
    have hsp := hsp a' rfl
    have hlm : len ≤ m := by rw [hmm]; split <;> omega
    have hbytes : len * 72 ≤ M := by
      have := hM ((((List.range len).map D).length + ((List.range (m - len)).map fun j => D (len + j)).length) * Tryd.prog.bytesOf 66) (by rw [hx]; simp [DataW.weights, Tryd.underlying39])
      rw [c72] at this
      simp only [List.length_map, List.length_range] at this
      omega
    have hMi : ∀ i, i < len → ∀ n ∈ (D i).weights Tryd.prog 66, n ≤ M := fun i hi n hn => by
      refine hM n ?_
      rw [hx]
      simp only [DataW.weights, Tryd.underlying39, List.mem_cons, List.mem_append]
      exact Or.inr (Or.inl (wt_all (List.mem_map.2 ⟨i, List.mem_range.2 hi, rfl⟩) hn))
    have hex : ∀ i, ∃ at' : Cn, i < len → (w.cells? base (a'.add (i * 7)) 7 = some (encC at') ∧ AtW M at'.a) := fun i => by
      by_cases hlt : i < len
      · obtain ⟨cs', hc, ht'⟩ := hi i (by omega)
        obtain ⟨at', rfl, hok⟩ := cond_w ht' M (hMi i hlt)
        rw [c33] at hc
        exact ⟨at', fun _ => ⟨hc, hok⟩⟩
      · exact ⟨default, fun h => absurd h hlt⟩
    obtain ⟨f, hff⟩ := Classical.axiomOfChoice hex
    have hcell : ∀ i, i < len → ∀ c v, (encC (f i))[c]? = some v → w.cell? ⟨a'.block, a'.off + i * 7 + c, none⟩ = some v := fun i hlt c v hcv => by
      obtain ⟨_, _, hat⟩ := World.cells?_some (hff i hlt).1
      have hc6 : c < 7 := by
        have := (List.getElem?_eq_some_iff.1 hcv).1
        rw [encC_len] at this; exact this
      have := hat c hc6
      rw [add_flat a' hsp, add_flat _ rfl] at this
      rw [← hcv]; exact this
    refine ⟨(List.range len).map f, by simp, ?_, fun x hx => ?_, by simpa using hbytes⟩
    · by_cases h0 : len = 0
      · subst h0; exact Or.inl rfl
      · refine Or.inr ⟨a'.block, a'.off, ?_, ?_, fun j hj c v hcv => ?_⟩
        · obtain ⟨b, o, s⟩ := a'; simp only at hsp; subst hsp; rfl
        · exact World.block_lt_of_cell? w ⟨a'.block, a'.off + 0 * 7 + 0, none⟩ (hcell 0 (by omega) 0 (.string (f 0).a.nm) rfl)
        · have hj' : j < len := by simpa using hj
          refine hcell j hj' c v ?_
          rw [← hcv]
          simp [hj']
    · obtain ⟨i, hi2, rfl⟩ := List.mem_map.1 hx
      exact (hff i (List.mem_range.1 hi2)).2
/-- A filter that a law may be told. -/
def FilIs (M : Nat) (w : World) (sc : ByteArray) (ao : Option Addr) (l : List Cn) : Prop := CondsB w.heap.size w ao l ∧ (∀ c ∈ l, AtW M c.a) ∧ l.length * 72 ≤ M ∧ sc.size ≤ M
theorem fil_w {fuel : Nat} {cs : List Value} {x : DataW H × List MemPlace} (hf : DataW.trod enc Tryd.prog w base sp held fuel 41 cs = some x) (hsp : ∀ a' len cap, cs[1]? = some (.slice (some a') len cap) → a'.spot = none) (hsl : ∀ v, cs[1]? = some v → ∃ a len cap, v = .slice a len cap) (M : Nat) (hM : ∀ n ∈ x.1.weights Tryd.prog 41, n ≤ M) :
    ∃ (sc : ByteArray) (ao : Option Addr) (cap : Nat) (l : List Cn), cs = [.string sc, .slice ao l.length cap] ∧ FilIs M w sc ao l := by
  obtain ⟨xs, m, _, hx, hl, hxl, hall⟩ := DataW.trod_struct Tryd.underlying41 hf
  have c2 : Tryd.prog.cellsOf 41 = 2 := by kernel_rfl
  have cg : Tryd.prog.cellsOf 9 = 1 := by kernel_rfl
  have ch : Tryd.prog.cellsOf 39 = 1 := by kernel_rfl
  have hsz : xs.length = 2 := hxl
  have e0 := hall 0 _ rfl
  have e1 := hall 1 _ rfl
  rw [List.getElem?_eq_getElem (by omega)] at e0 e1
  obtain ⟨sc, g0, w0⟩ := str_w e0
  have b0 := hM _ (wt_field Tryd.underlying41 hx 0 _ rfl _ (List.getElem?_eq_getElem (by omega)) w0)
  have b1 : ∀ n ∈ (xs[1]'(by omega)).1.weights Tryd.prog 39, n ≤ M := fun n hn => hM _ (wt_field Tryd.underlying41 hx 1 _ rfl _ (List.getElem?_eq_getElem (by omega)) hn)
  have h0 : cs[0]? = some (.string sc) := by
    have g0' : (cs.drop 0).take 1 = [Value.string sc] := by rw [← cg]; exact g0
    exact cell_of_take g0'
  match cs, hl.trans c2, h0, hsp, hsl, e1 with
  | [v0, v1], _, h0, hsp, hsl, e1 =>
    obtain ⟨a, len, cap, rfl⟩ := hsl v1 rfl
    have e1' : DataW.trod enc Tryd.prog w base sp held m 39 [.slice a len cap] = some (xs[1]'(by omega)) := by
      rw [← e1]; show _ = DataW.trod enc Tryd.prog w base sp held m 39 (List.take (Tryd.prog.cellsOf 39) [.slice a len cap]); rw [ch]; rfl
    obtain ⟨l, rfl, h2, h3, h4⟩ := conds_w (fun a' ha => hsp a' _ cap (by rw [ha]; rfl)) e1' M b1
    exact ⟨sc, a, cap, l, by simp at h0; rw [h0], h2, h3, h4, b0⟩
end
end Go.Proofs.YtjnfbinomljocaaDoor

/- Filters, two, three of them, and attributes, as arguments. -/
namespace Go.Proofs.YtjnfbinomljocaaDoor
open Go.ChangeShapes Go.WideShapes Go.ChangeAt Go.RowKit Go.Joins Go.Deep
set_option maxRecDepth 100000

section
variable {H : Type} {enc : TypeId × Value → H} {w : World} {base b0 : Nat} {r : Reach} {sp : Nat → Bool} {held : Bool}
/-- A slice's cell in an argument. -/
theorem slice_cell {t e : TypeId} {v : Value} (ht : Tryd.prog.underlying t = some (.slice e)) (hk : Cell.okWide Tryd.prog w r b0 t v) : ∃ a len cap, v = .slice a len cap ∧ ∀ a', a = some a' → a'.spot = none := by
  simp only [Cell.okWide, ht] at hk
  cases v with
  | slice a len cap =>
    refine ⟨a, len, cap, rfl, fun a' ha => ?_⟩
    subst ha
    simp only [Cell.ok, ht, World.has] at hk
    exact hk.2.2.2.1
  | _ => simp_all [Cell.ok]
theorem open_fil {v : Value} {d : DataW H} {p : List MemPlace} (hv : Value.okWide Tryd.prog w r b0 41 v) (h : DataW.Trod enc Tryd.prog w base sp held 41 v d p) (M : Nat) (hM : ∀ n ∈ d.weights Tryd.prog 41, n ≤ M) :
    ∃ (sc : ByteArray) (ao : Option Addr) (cap : Nat) (l : List Cn), v = fil sc ao l.length cap ∧ FilIs M w sc ao l := by
  obtain ⟨cs, rfl, hsz⟩ := okWide_struct Tryd.underlying41 hv
  have hct : Tryd.prog.cellTypes Tryd.prog.depth 41 = some [9, 39] := by kernel_rfl
  have hrow : ∀ i u, cs[i]? = some u → ∃ t, ([9, 39] : List TypeId)[i % 2]? = some t ∧ Cell.okWide Tryd.prog w r b0 t u := by
    simp only [Value.okWide, Tryd.underlying41] at hv
    obtain ⟨cs', e1, _, ts, h1, _, h2⟩ := hv
    injection e1 with e1
    subst e1
    rw [hct] at h1
    injection h1 with h1
    subst h1
    exact h2
  have hone : ∀ u, cs[1]? = some u → ∃ a len cap, u = .slice a len cap ∧ ∀ a', a = some a' → a'.spot = none := fun u hu => by
    obtain ⟨t, ht, hk⟩ := hrow 1 u hu
    obtain rfl : 39 = t := by simpa using ht
    exact slice_cell Tryd.underlying39 hk
  obtain ⟨fuel, hf⟩ := h
  obtain ⟨cl⟩ := cs
  obtain ⟨sc, ao, cap, l, h1, h2⟩ := fil_w (x := (d, p)) hf (fun a' len cap hc => by
    obtain ⟨a, len2, cap2, e, hs⟩ := hone _ (by simpa [Value.cells] using hc)
    injection e with e1
    exact hs a' e1.symm) (fun v hv => by
    obtain ⟨a, len2, cap2, e, _⟩ := hone _ (by simpa [Value.cells] using hv)
    exact ⟨a, len2, cap2, e⟩) M hM
  refine ⟨sc, ao, cap, l, ?_, h2⟩
  have : cl = [.string sc, .slice ao l.length cap] := h1
  rw [this]
theorem fil_at {n : Nat} {t : TypeId} {cl : List Value} {x : DataW H × List MemPlace} {fuel : Nat} (ht : Tryd.prog.underlying t = some (.array n 41)) (hf : DataW.trod enc Tryd.prog w base sp held fuel t cl = some x)
    (hone : ∀ i u, cl[2 * i + 1]? = some u → ∃ a len cap, u = .slice a len cap ∧ ∀ a', a = some a' → a'.spot = none) (M : Nat) (hM : ∀ n ∈ x.1.weights Tryd.prog t, n ≤ M) (i : Nat) (hi : i < n) :
    ∃ (sc : ByteArray) (ao : Option Addr) (cap : Nat) (l : List Cn), (cl.drop (i * 2)).take 2 = [.string sc, .slice ao l.length cap] ∧ FilIs M w sc ao l := by
  have c2 : Tryd.prog.cellsOf 41 = 2 := by kernel_rfl
  obtain ⟨xs, m, _, hx, _, hxl, hall⟩ := DataW.trod_array ht hf
  have h1 := hall i hi
  rw [c2, List.getElem?_eq_getElem (by omega)] at h1
  have hg : ∀ u, ((cl.drop (i * 2)).take 2)[1]? = some u → cl[2 * i + 1]? = some u := fun u hu => by
    rw [List.getElem?_take_of_lt (by omega), List.getElem?_drop] at hu
    rw [← hu]; congr 1; omega
  refine fil_w h1 (fun a' len cap hc => ?_) (fun v hv => ?_) M (fun k hk => hM k ?_)
  · obtain ⟨a, len2, cap2, e, hs⟩ := hone i _ (hg _ hc)
    injection e with e1
    exact hs a' e1.symm
  · obtain ⟨a, len2, cap2, e, _⟩ := hone i _ (hg _ hv)
    exact ⟨a, len2, cap2, e⟩
  · rw [hx]
    simp only [DataW.weights, ht]
    exact wt_all (List.mem_map.2 ⟨_, List.getElem_mem (by omega), rfl⟩) hk
theorem open_atts {v : Value} {d : DataW H} {p : List MemPlace} (hv : Value.okWide Tryd.prog w r b0 24 v) (h : DataW.Trod enc Tryd.prog w base sp held 24 v d p) (M : Nat) (hM : ∀ n ∈ d.weights Tryd.prog 24, n ≤ M) :
    ∃ (ao : Option Addr) (cap : Nat) (l : List At), v = .slice ao l.length cap ∧ SliceA w ao l ∧ (∀ a ∈ l, AtW M a) ∧ l.length * 64 ≤ M := by
  obtain ⟨fuel, hf⟩ := h
  obtain ⟨a, len, cap, rfl⟩ := okWide_slice Tryd.underlying24 hv
  have c33 : Tryd.prog.cellsOf 51 = 6 := by kernel_rfl
  have c64 : Tryd.prog.bytesOf 51 = 64 := by kernel_rfl
  rcases open_slice Tryd.underlying24 hf with ⟨h0, _⟩ | ⟨a', len', cap', m, n, D, Pl, hcs, hb, hl, hm, hmm, hx, hi⟩
  · have : Value.slice a len cap = .slice none 0 0 := by simpa [Value.cells] using h0
    injection this with e1 e2 e3
    subst e1 e2 e3
    exact ⟨none, 0, [], rfl, Or.inl rfl, by simp, by simp⟩
  · have : Value.slice a len cap = .slice (some a') len' cap' := by simpa [Value.cells] using hcs
    injection this with e1 e2 e3
    subst e1 e2 e3
    have hsp : a'.spot = none := by
      simp only [Value.okWide, Tryd.underlying24, Cell.okWide, Cell.ok, World.has] at hv
      exact hv.2.2.2.1
    have hlm : len ≤ m := by rw [hmm]; split <;> omega
    have hd : d = .slice ((List.range len).map D) ((List.range (m - len)).map fun j => D (len + j)) := congrArg Prod.fst hx
    have hbytes : len * 64 ≤ M := by
      have := hM ((((List.range len).map D).length + ((List.range (m - len)).map fun j => D (len + j)).length) * Tryd.prog.bytesOf 51) (by rw [hd]; simp [DataW.weights, Tryd.underlying24])
      rw [c64] at this
      simp only [List.length_map, List.length_range] at this
      omega
    have hMi : ∀ i, i < len → ∀ n ∈ (D i).weights Tryd.prog 51, n ≤ M := fun i hi n hn => by
      refine hM n ?_
      rw [hd]
      simp only [DataW.weights, Tryd.underlying24, List.mem_cons, List.mem_append]
      exact Or.inr (Or.inl (wt_all (List.mem_map.2 ⟨i, List.mem_range.2 hi, rfl⟩) hn))
    have hex : ∀ i, ∃ at' : At, i < len → (w.cells? base (a'.add (i * 6)) 6 = some (encA at') ∧ AtW M at') := fun i => by
      by_cases hlt : i < len
      · obtain ⟨cs', hc, ht'⟩ := hi i (by omega)
        obtain ⟨at', rfl, hok⟩ := attr_w ht' M (hMi i hlt)
        rw [c33] at hc
        exact ⟨at', fun _ => ⟨hc, hok⟩⟩
      · exact ⟨default, fun h => absurd h hlt⟩
    obtain ⟨f, hff⟩ := Classical.axiomOfChoice hex
    have hcell : ∀ i, i < len → ∀ c v, (encA (f i))[c]? = some v → w.cell? ⟨a'.block, a'.off + i * 6 + c, none⟩ = some v := fun i hlt c v hcv => by
      obtain ⟨_, _, hat⟩ := World.cells?_some (hff i hlt).1
      have hc6 : c < 6 := by
        have := (List.getElem?_eq_some_iff.1 hcv).1
        rw [encA_len] at this; exact this
      have := hat c hc6
      rw [add_flat a' hsp, add_flat _ rfl] at this
      rw [← hcv]; exact this
    refine ⟨some a', cap, (List.range len).map f, by simp, ?_, fun x hx => ?_, by simpa using hbytes⟩
    · by_cases h0 : len = 0
      · subst h0; exact Or.inl rfl
      · refine Or.inr ⟨a'.block, a'.off, ?_, ?_, fun j hj c v hcv => ?_⟩
        · obtain ⟨b, o, s⟩ := a'; simp only at hsp; subst hsp; rfl
        · exact World.block_lt_of_cell? w ⟨a'.block, a'.off + 0 * 6 + 0, none⟩ (hcell 0 (by omega) 0 (.string (f 0).nm) rfl)
        · have hj' : j < len := by simpa using hj
          refine hcell j hj' c v ?_
          rw [← hcv]
          simp [hj']
    · obtain ⟨i, hi2, rfl⟩ := List.mem_map.1 hx
      exact (hff i (List.mem_range.1 hi2)).2
end
end Go.Proofs.YtjnfbinomljocaaDoor

/- What the laws of layer 7 share: sizes, what the law's event is. -/
namespace Go.Proofs.YtjnfbinomljocaaDoor
open Go.RowKit Go.Shelf
open Go.Proofs
set_option maxRecDepth 100000

theorem _root_.Go.RowKit.Below.alloc' {w W : World} (h : Below w.heap.size w W) (o : Obj) : Below w.heap.size w (W.alloc o) := h.alloc h.size o
/-- What memory allows of an argument, in bytes. -/
abbrev MB : Nat := 140737488351232
theorem canonA_s (a : At) : (canonA a).s.size ≤ a.s.size := by
  unfold canonA
  repeat' split
  all_goals first | exact Nat.le_refl _ | (show (0 : Nat) ≤ _; omega)
theorem evt_mem {w w' : World} {bo : Option Addr} {zs es : List At} (h : EvtIs w w' bo zs es) (a : At) (ha : a ∈ es) : ∃ z ∈ zs, a = canonA z := by
  obtain ⟨res, h1, rfl, _⟩ := h
  exact h1.mem a (pick8_sub ha).1
theorem evt_ok {w w' : World} {bo : Option Addr} {zs es : List At} {M : Nat} (h : EvtIs w w' bo zs es) (ho : ∀ a ∈ zs, AtW M a) : ∀ a ∈ es, AtOk a ∧ a.s.size ≤ M := fun a ha => by
  obtain ⟨z, hz, rfl⟩ := evt_mem h a ha
  exact ⟨canon_x z (ho z hz).1, Nat.le_trans (canonA_s z) (ho z hz).2.2.2⟩
theorem evt_len {w w' : World} {bo : Option Addr} {zs es : List At} (h : EvtIs w w' bo zs es) : es.length ≤ 8 := by
  obtain ⟨res, _, rfl, _⟩ := h
  exact pick8_len res
theorem light_all {M : Nat} {w : World} {fs : ByteArray} {co : Option Addr} {cs : List Cn} (hM : M ≤ 140737488355328) (h : lightF fs cs = true) (hF : FilIs M w fs co cs) : fs.size ≤ 2000 ∧ cs.length ≤ 20 ∧ ∀ c ∈ cs, c.a.nm.size ≤ 2000 ∧ c.a.s.size ≤ 2000 :=
  lightF_sz h (Nat.le_trans hF.2.2.2 hM) fun c hc => ⟨Nat.le_trans (hF.2.1 c hc).2.2.1 hM, Nat.le_trans (hF.2.1 c hc).2.2.2 hM⟩
theorem few_all {M : Nat} {l : List At} (hM : M ≤ 140737488355328) (h : fewA l = true) (ho : ∀ a ∈ l, AtW M a) : l.length ≤ 20 :=
  (fewA_sz h fun a ha => ⟨Nat.le_trans (ho a ha).2.2.1 hM, Nat.le_trans (ho a ha).2.2.2 hM⟩).1
theorem cutB_len (s : ByteArray) : (cutB s).length = (Sc.cutL s.data.toList).length := by unfold cutB; rw [List.length_map]
theorem joinL_le : ∀ (l : List (List UInt8)), (∀ p ∈ l, p.length ≤ 12) → (Sc.joinL l).length ≤ 13 * l.length
  | [], _ => by simp [Sc.joinL]
  | [p], h => by have := h p List.mem_cons_self; simp [Sc.joinL]; omega
  | p :: q :: r, h => by
    have h1 := h p List.mem_cons_self
    have h2 := joinL_le (q :: r) fun x hx => h x (List.mem_cons_of_mem _ hx)
    simp only [Sc.joinL, List.length_append, List.length_cons] at *
    omega
theorem nameOk_size {s : ByteArray} (h : nameOk s = true) : s.size ≤ 12 := by
  unfold nameOk at h
  simp only [Bool.and_eq_true, decide_eq_true_eq] at h
  exact h.1.1.2
theorem scopeOk_size {s : ByteArray} (h : scopeOk s = true) : s.size ≤ 52 := by
  unfold scopeOk at h
  rw [Bool.or_eq_true] at h
  rcases h with h | h
  · have : s.size = 0 := by simpa using h
    omega
  · simp only [Bool.and_eq_true, decide_eq_true_eq, List.all_eq_true] at h
    obtain ⟨h1, h2⟩ := h
    rw [cutB_len] at h1
    have h3 := joinL_le (Sc.cutL s.data.toList) fun p hp => by
      have := nameOk_size (h2 (bsOf p) (List.mem_map.2 ⟨p, hp, rfl⟩))
      have e : (bsOf p).size = p.length := by simp [bsOf, ByteArray.size]
      omega
    rw [Sc.joinL_cut] at h3
    have e : s.data.toList.length = s.size := by simp
    omega
theorem rightF_scope {fs : ByteArray} {cs : List Cn} (h : rightF fs cs = true) : scopeOk fs = true := by
  unfold rightF at h
  simp only [Bool.and_eq_true] at h
  exact h.2.1
theorem rightF_size {fs : ByteArray} {cs : List Cn} (h : rightF fs cs = true) : fs.size ≤ 52 := scopeOk_size (rightF_scope h)
theorem fil_cells {w : World} {sc : ByteArray} {co : Option Addr} {n cap : Nat} {t : TypeId} : ∀ W, Below (w.heap.size + 1) (w.alloc (.cells #[.string sc, .slice co n cap] t)) W → W.cell? ⟨w.heap.size, 0, none⟩ = some (.string sc) ∧ W.cell? ⟨w.heap.size, 1, none⟩ = some (.slice co n cap) :=
  fun _ hW => ⟨one_lay hW 0 _ rfl, one_lay hW 1 _ rfl⟩
theorem lay3 {w w' : World} {cs ds es : Array Value} {t u v : TypeId} (hb : Below (w.heap.size + 3) (((w.alloc (.cells cs t)).alloc (.cells ds u)).alloc (.cells es v)) w') :
    (∀ i v, cs[i]? = some v → w'.cell? ⟨w.heap.size, i, none⟩ = some v) ∧ (∀ i v, ds[i]? = some v → w'.cell? ⟨w.heap.size + 1, i, none⟩ = some v) ∧ (∀ i v, es[i]? = some v → w'.cell? ⟨w.heap.size + 1 + 1, i, none⟩ = some v) := by
  have hb2 : Below (w.heap.size + 2) ((w.alloc (.cells cs t)).alloc (.cells ds u)) w' := ((Below.refl _ _).alloc (by simp) _).trans (hb.mono (by omega))
  obtain ⟨h1, h2⟩ := two_lay hb2
  refine ⟨h1, h2, fun i v' h => ?_⟩
  rw [hb.cell (p := ⟨w.heap.size + 1 + 1, i, none⟩) (by simp)]
  have := World.cell?_alloc_new ((w.alloc (.cells cs t)).alloc (.cells ds u)) es v i
  rw [World.size_alloc, World.size_alloc] at this
  rw [this]; exact h
end Go.Proofs.YtjnfbinomljocaaDoor
