/- Rules, one or a row of them, as arguments. -/
import Derived.Test.YtjnfbinomljocaaDoorGaJ
import Derived.Test.YtjnfbinomljocaaDoorRuP
namespace Go.Proofs.YtjnfbinomljocaaDoor
open Go.ChangeShapes Go.WideShapes Go.ChangeAt Go.RowKit Go.Joins Go.Deep
set_option maxRecDepth 100000

/-- A rule that a law may be told. -/
def RuIs (M : Nat) (w : World) (r : Ru) : Prop := FilIs M w r.sc r.co r.cs ∧ r.who.size ≤ M ∧ r.nm.size ≤ M
section
variable {H : Type} {enc : TypeId × Value → H} {w : World} {base b0 : Nat} {r : Reach} {sp : Nat → Bool} {held : Bool}
/-- Where a cell is read the address has no spot. -/
theorem spot_none {a : Addr} {n k : Nat} {l : List Value} (h : w.cells? base (a.add (0 * n)) (k + 1) = some l) : a.spot = none := by
  obtain ⟨_, hl, hat⟩ := World.cells?_some h
  have h0 := hat 0 (by omega)
  have e : (a.add (0 * n)).add 0 = a := by simp [Addr.add]
  rw [e, List.getElem?_eq_getElem (by omega)] at h0
  cases hs : a.spot with
  | none => rfl
  | some s =>
    unfold World.cell? at h0
    split at h0
    · simp [hs] at h0
    · cases h0
theorem conds_w' {fuel : Nat} {cs : List Value} {x : DataW H × List MemPlace} (hf : DataW.trod enc Tryd.prog w base sp held fuel 39 cs = some x) (M : Nat) (hM : ∀ n ∈ x.1.weights Tryd.prog 39, n ≤ M) :
    ∃ (a : Option Addr) (cap : Nat) (l : List Cn), cs = [.slice a l.length cap] ∧ CondsB w.heap.size w a l ∧ (∀ c ∈ l, AtW M c.a) ∧ l.length * 72 ≤ M := by
  have c33 : Tryd.prog.cellsOf 66 = 7 := by kernel_rfl
  have hf' := hf
  rcases open_slice Tryd.underlying39 hf with ⟨h0, _⟩ | ⟨a', len', cap', m, n, D, Pl, hcs, hb, hl, hm, hmm, hx, hi⟩
  · exact ⟨none, 0, [], h0, Or.inl rfl, by simp, by simp⟩
  · subst hcs
    by_cases h0 : len' = 0
    · subst h0
      exact ⟨some a', cap', [], rfl, Or.inl rfl, by simp, by simp⟩
    · have hlm : len' ≤ m := by rw [hmm]; split <;> omega
      obtain ⟨cs', hc, _⟩ := hi 0 (by omega)
      rw [c33] at hc
      have hsp := spot_none hc
      obtain ⟨l, rfl, h1, h2, h3⟩ := conds_w (fun a2 e => by injection e with e; rw [← e]; exact hsp) hf' M hM
      exact ⟨_, _, l, rfl, h1, h2, h3⟩
theorem fil_w' {fuel : Nat} {cs : List Value} {x : DataW H × List MemPlace} (hf : DataW.trod enc Tryd.prog w base sp held fuel 41 cs = some x) (M : Nat) (hM : ∀ n ∈ x.1.weights Tryd.prog 41, n ≤ M) :
    ∃ (sc : ByteArray) (ao : Option Addr) (cap : Nat) (l : List Cn), cs = [.string sc, .slice ao l.length cap] ∧ FilIs M w sc ao l := by
  obtain ⟨xs, m, _, hx, hl, hxl, hall⟩ := DataW.trod_struct Tryd.underlying41 hf
  have c2 : Tryd.prog.cellsOf 41 = 2 := by kernel_rfl
  have cg : Tryd.prog.cellsOf 9 = 1 := by kernel_rfl
  have ch : Tryd.prog.cellsOf 39 = 1 := by kernel_rfl
  have hsz : xs.length = 2 := hxl
  have e0 := hall 0 _ rfl
  have e1 := hall 1 _ rfl
  rw [List.getElem?_eq_getElem (by omega)] at e0 e1
  obtain ⟨sc, g0, w0⟩ := str_w e0
  have b0 := hM _ (wt_field Tryd.underlying41 hx 0 _ rfl _ (List.getElem?_eq_getElem (by omega)) w0)
  have b1 : ∀ n ∈ (xs[1]'(by omega)).1.weights Tryd.prog 39, n ≤ M := fun n hn => hM _ (wt_field Tryd.underlying41 hx 1 _ rfl _ (List.getElem?_eq_getElem (by omega)) hn)
  have h0 : cs[0]? = some (.string sc) := by
    have g0' : (cs.drop 0).take 1 = [Value.string sc] := by rw [← cg]; exact g0
    exact cell_of_take g0'
  obtain ⟨a, cap, l, g1, h2, h3, h4⟩ := conds_w' e1 M b1
  have h1 : cs[1]? = some (.slice a l.length cap) := by
    have g1' : (cs.drop 1).take 1 = [Value.slice a l.length cap] := by rw [← ch]; exact g1
    exact cell_of_take g1'
  match cs, hl.trans c2, h0, h1 with
  | [v0, v1], _, h0, h1 =>
    simp at h0 h1
    exact ⟨sc, a, cap, l, by rw [h0, h1], h2, h3, h4, b0⟩
theorem rule_w {fuel : Nat} {cs : List Value} {x : DataW H × List MemPlace} (hf : DataW.trod enc Tryd.prog w base sp held fuel 43 cs = some x) (M : Nat) (hM : ∀ n ∈ x.1.weights Tryd.prog 43, n ≤ M) :
    ∃ q : Ru, cs = encR q ∧ RuIs M w q := by
  obtain ⟨xs, m, _, hx, hl, hxl, hall⟩ := DataW.trod_struct Tryd.underlying43 hf
  have c8 : Tryd.prog.cellsOf 43 = 8 := by kernel_rfl
  have cg : Tryd.prog.cellsOf 9 = 1 := by kernel_rfl
  have ci : Tryd.prog.cellsOf 3 = 1 := by kernel_rfl
  have c2 : Tryd.prog.cellsOf 41 = 2 := by kernel_rfl
  have hsz : xs.length = 7 := hxl
  have e0 := hall 0 _ rfl
  have e1 := hall 1 _ rfl
  have e2 := hall 2 _ rfl
  have e3 := hall 3 _ rfl
  have e4 := hall 4 _ rfl
  have e5 := hall 5 _ rfl
  have e6 := hall 6 _ rfl
  rw [List.getElem?_eq_getElem (by omega)] at e0 e1 e2 e3 e4 e5 e6
  obtain ⟨k, g0, _, _⟩ := DataW.trod_int Tryd.underlying3 e0
  obtain ⟨tn, g1, _, _⟩ := DataW.trod_int Tryd.underlying3 e1
  obtain ⟨who, g2, w2⟩ := str_w e2
  obtain ⟨br, g3, _, _⟩ := DataW.trod_int Tryd.underlying3 e3
  have b4 : ∀ n ∈ (xs[4]'(by omega)).1.weights Tryd.prog 41, n ≤ M := fun n hn => hM _ (wt_field Tryd.underlying43 hx 4 _ rfl _ (List.getElem?_eq_getElem (by omega)) hn)
  obtain ⟨sc, co, cap, l, g4, hF⟩ := fil_w' e4 M b4
  obtain ⟨nm, g5, w5⟩ := str_w e5
  obtain ⟨ix, g6, _, _⟩ := DataW.trod_int Tryd.underlying3 e6
  have b2 := hM _ (wt_field Tryd.underlying43 hx 2 _ rfl _ (List.getElem?_eq_getElem (by omega)) w2)
  have b5 := hM _ (wt_field Tryd.underlying43 hx 5 _ rfl _ (List.getElem?_eq_getElem (by omega)) w5)
  refine ⟨⟨k, tn, who, br, sc, co, cap, l, nm, ix⟩, ?_, hF, b2, b5⟩
  have h0 : cs[0]? = some (.int .i64 k) := cell_of_take (by rw [← ci]; exact g0)
  have h1 : cs[1]? = some (.int .i64 tn) := cell_of_take (by rw [← ci]; exact g1)
  have h2 : cs[2]? = some (.string who) := cell_of_take (by rw [← cg]; exact g2)
  have h3 : cs[3]? = some (.int .i64 br) := cell_of_take (by rw [← ci]; exact g3)
  have h5 : cs[6]? = some (.string nm) := cell_of_take (by rw [← cg]; exact g5)
  have h6 : cs[7]? = some (.int .i64 ix) := cell_of_take (by rw [← ci]; exact g6)
  have h4 : (cs.drop 4).take 2 = [.string sc, .slice co l.length cap] := by rw [← c2]; exact g4
  match cs, hl.trans c8, h0, h1, h2, h3, h4, h5, h6 with
  | [v0, v1, v2, v3, v4, v5, v6, v7], _, h0, h1, h2, h3, h4, h5, h6 =>
    simp at h0 h1 h2 h3 h4 h5 h6
    obtain ⟨rfl, rfl⟩ := h4
    subst h0 h1 h2 h3 h5 h6
    rfl
theorem open_rule {v : Value} {d : DataW H} {p : List MemPlace} (hv : Value.okWide Tryd.prog w r b0 43 v) (h : DataW.Trod enc Tryd.prog w base sp held 43 v d p) (M : Nat) (hM : ∀ n ∈ d.weights Tryd.prog 43, n ≤ M) :
    ∃ q : Ru, v = rulR q ∧ RuIs M w q := by
  obtain ⟨cs, rfl, hsz⟩ := okWide_struct Tryd.underlying43 hv
  obtain ⟨fuel, hf⟩ := h
  obtain ⟨cl⟩ := cs
  obtain ⟨q, h1, h2⟩ := rule_w (x := (d, p)) hf M hM
  have : cl = encR q := h1
  subst this
  exact ⟨q, rfl, h2⟩
theorem open_rules {v : Value} {d : DataW H} {p : List MemPlace} (hv : Value.okWide Tryd.prog w r b0 22 v) (h : DataW.Trod enc Tryd.prog w base sp held 22 v d p) (M : Nat) (hM : ∀ n ∈ d.weights Tryd.prog 22, n ≤ M) :
    ∃ (ao : Option Addr) (cap : Nat) (rs : List Ru), v = .slice ao rs.length cap ∧ RulesB w.heap.size w ao rs ∧ (∀ q ∈ rs, RuIs M w q) ∧ rs.length * 104 ≤ M := by
  obtain ⟨fuel, hf⟩ := h
  obtain ⟨a, len, cap, rfl⟩ := okWide_slice Tryd.underlying22 hv
  have c33 : Tryd.prog.cellsOf 43 = 8 := by kernel_rfl
  have c64 : Tryd.prog.bytesOf 43 = 104 := by kernel_rfl
  rcases open_slice Tryd.underlying22 hf with ⟨h0, _⟩ | ⟨a', len', cap', m, n, D, Pl, hcs, hb, hl, hm, hmm, hx, hi⟩
  · have : Value.slice a len cap = .slice none 0 0 := by simpa [Value.cells] using h0
    injection this with e1 e2 e3
    subst e1 e2 e3
    exact ⟨none, 0, [], rfl, ⟨Or.inl rfl, by simp⟩, by simp, by simp⟩
  · have : Value.slice a len cap = .slice (some a') len' cap' := by simpa [Value.cells] using hcs
    injection this with e1 e2 e3
    subst e1 e2 e3
    have hsp : a'.spot = none := by
      simp only [Value.okWide, Tryd.underlying22, Cell.okWide, Cell.ok, World.has] at hv
      exact hv.2.2.2.1
    have hlm : len ≤ m := by rw [hmm]; split <;> omega
    have hd : d = .slice ((List.range len).map D) ((List.range (m - len)).map fun j => D (len + j)) := congrArg Prod.fst hx
    have hbytes : len * 104 ≤ M := by
      have := hM ((((List.range len).map D).length + ((List.range (m - len)).map fun j => D (len + j)).length) * Tryd.prog.bytesOf 43) (by rw [hd]; simp [DataW.weights, Tryd.underlying22])
      rw [c64] at this
      simp only [List.length_map, List.length_range] at this
      omega
    have hMi : ∀ i, i < len → ∀ n ∈ (D i).weights Tryd.prog 43, n ≤ M := fun i hi n hn => by
      refine hM n ?_
      rw [hd]
      simp only [DataW.weights, Tryd.underlying22, List.mem_cons, List.mem_append]
      exact Or.inr (Or.inl (wt_all (List.mem_map.2 ⟨i, List.mem_range.2 hi, rfl⟩) hn))
    have hex : ∀ i, ∃ at' : Ru, i < len → (w.cells? base (a'.add (i * 8)) 8 = some (encR at') ∧ RuIs M w at') := fun i => by
      by_cases hlt : i < len
      · obtain ⟨cs', hc, ht'⟩ := hi i (by omega)
        obtain ⟨at', rfl, hok⟩ := rule_w ht' M (hMi i hlt)
        rw [c33] at hc
        exact ⟨at', fun _ => ⟨hc, hok⟩⟩
      · exact ⟨default, fun h => absurd h hlt⟩
    obtain ⟨f, hff⟩ := Classical.axiomOfChoice hex
    have hcell : ∀ i, i < len → ∀ c v, (encR (f i))[c]? = some v → w.cell? ⟨a'.block, a'.off + i * 8 + c, none⟩ = some v := fun i hlt c v hcv => by
      obtain ⟨_, _, hat⟩ := World.cells?_some (hff i hlt).1
      have hc6 : c < 8 := by
        have := (List.getElem?_eq_some_iff.1 hcv).1
        rw [encR_len] at this; exact this
      have := hat c hc6
      rw [add_flat a' hsp, add_flat _ rfl] at this
      rw [← hcv]; exact this
    refine ⟨some a', cap, (List.range len).map f, by simp, ⟨?_, fun x hx => ?_⟩, fun x hx => ?_, by simpa using hbytes⟩
    · by_cases h0 : len = 0
      · subst h0; exact Or.inl rfl
      · refine Or.inr ⟨a'.block, a'.off, ?_, ?_, fun j hj c v hcv => ?_⟩
        · obtain ⟨b, o, s⟩ := a'; simp only at hsp; subst hsp; rfl
        · exact World.block_lt_of_cell? w ⟨a'.block, a'.off + 0 * 8 + 0, none⟩ (hcell 0 (by omega) 0 (.int .i64 (f 0).k) rfl)
        · have hj' : j < len := by simpa using hj
          refine hcell j hj' c v ?_
          rw [← hcv]
          simp [hj']
    · obtain ⟨i, hi2, rfl⟩ := List.mem_map.1 hx
      exact (hff i (List.mem_range.1 hi2)).2.1.1
    · obtain ⟨i, hi2, rfl⟩ := List.mem_map.1 hx
      exact (hff i (List.mem_range.1 hi2)).2
end
end Go.Proofs.YtjnfbinomljocaaDoor
