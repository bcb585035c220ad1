/- An event as an argument. -/
import Derived.Test.YtjnfbinomljocaaDoorGaJ
import Derived.Test.YtjnfbinomljocaaDoorOpenRu
namespace Go.Proofs.YtjnfbinomljocaaDoor
open Go.ChangeShapes Go.WideShapes Go.ChangeAt Go.RowKit Go.Joins Go.Deep
set_option maxRecDepth 100000
section
variable {H : Type} {enc : TypeId × Value → H} {w : World} {base b0 : Nat} {r : Reach} {sp : Nat → Bool} {held : Bool}
theorem attrs_w {fuel : Nat} {a : Option Addr} {len cap : Nat} {x : DataW H × List MemPlace} (hsp : ∀ a', a = some a' → a'.spot = none) (hf : DataW.trod enc Tryd.prog w base sp held fuel 24 [.slice a len cap] = some x) (M : Nat) (hM : ∀ n ∈ x.1.weights Tryd.prog 24, n ≤ M) :
    ∃ l : List At, l.length = len ∧ SliceA w a l ∧ (∀ c ∈ l, AtW M c) ∧ l.length * 64 ≤ M := by
  have c33 : Tryd.prog.cellsOf 51 = 6 := by kernel_rfl
  have c64 : Tryd.prog.bytesOf 51 = 64 := by kernel_rfl
  rcases open_slice Tryd.underlying24 hf with ⟨h0, _⟩ | ⟨a', len', cap', m, n, D, Pl, hcs, hb, hl, hm, hmm, hx, hi⟩
  · have : Value.slice a len cap = .slice none 0 0 := by simpa using h0
    injection this with e1 e2 e3
    subst e1 e2 e3
    exact ⟨[], rfl, Or.inl rfl, by simp, by simp⟩
  · have : Value.slice a len cap = .slice (some a') len' cap' := by simpa using hcs
    injection this with e1 e2 e3
    subst e1 e2 e3
    have hsp := hsp a' rfl
    have hlm : len ≤ m := by rw [hmm]; split <;> omega
    have hbytes : len * 64 ≤ M := by
      have := hM ((((List.range len).map D).length + ((List.range (m - len)).map fun j => D (len + j)).length) * Tryd.prog.bytesOf 51) (by rw [hx]; simp [DataW.weights, Tryd.underlying24])
      rw [c64] at this
      simp only [List.length_map, List.length_range] at this
      omega
    have hMi : ∀ i, i < len → ∀ n ∈ (D i).weights Tryd.prog 51, n ≤ M := fun i hi n hn => by
      refine hM n ?_
      rw [hx]
      simp only [DataW.weights, Tryd.underlying24, List.mem_cons, List.mem_append]
      exact Or.inr (Or.inl (wt_all (List.mem_map.2 ⟨i, List.mem_range.2 hi, rfl⟩) hn))
    have hex : ∀ i, ∃ at' : At, i < len → (w.cells? base (a'.add (i * 6)) 6 = some (encA at') ∧ AtW M at') := fun i => by
      by_cases hlt : i < len
      · obtain ⟨cs', hc, ht'⟩ := hi i (by omega)
        obtain ⟨at', rfl, hok⟩ := attr_w ht' M (hMi i hlt)
        rw [c33] at hc
        exact ⟨at', fun _ => ⟨hc, hok⟩⟩
      · exact ⟨default, fun h => absurd h hlt⟩
    obtain ⟨f, hff⟩ := Classical.axiomOfChoice hex
    have hcell : ∀ i, i < len → ∀ c v, (encA (f i))[c]? = some v → w.cell? ⟨a'.block, a'.off + i * 6 + c, none⟩ = some v := fun i hlt c v hcv => by
      obtain ⟨_, _, hat⟩ := World.cells?_some (hff i hlt).1
      have hc6 : c < 6 := by
        have := (List.getElem?_eq_some_iff.1 hcv).1
        rw [encA_len] at this; exact this
      have := hat c hc6
      rw [add_flat a' hsp, add_flat _ rfl] at this
      rw [← hcv]; exact this
    refine ⟨(List.range len).map f, by simp, ?_, fun x hx => ?_, by simpa using hbytes⟩
    · by_cases h0 : len = 0
      · subst h0; exact Or.inl rfl
      · refine Or.inr ⟨a'.block, a'.off, ?_, ?_, fun j hj c v hcv => ?_⟩
        · obtain ⟨b, o, s⟩ := a'; simp only at hsp; subst hsp; rfl
        · exact World.block_lt_of_cell? w ⟨a'.block, a'.off + 0 * 6 + 0, none⟩ (hcell 0 (by omega) 0 (.string (f 0).nm) rfl)
        · have hj' : j < len := by simpa using hj
          refine hcell j hj' c v ?_
          rw [← hcv]
          simp [hj']
    · obtain ⟨i, hi2, rfl⟩ := List.mem_map.1 hx
      exact (hff i (List.mem_range.1 hi2)).2
theorem attrs_w' {fuel : Nat} {cs : List Value} {x : DataW H × List MemPlace} (hf : DataW.trod enc Tryd.prog w base sp held fuel 24 cs = some x) (M : Nat) (hM : ∀ n ∈ x.1.weights Tryd.prog 24, n ≤ M) :
    ∃ (a : Option Addr) (cap : Nat) (l : List At), cs = [.slice a l.length cap] ∧ SliceA w a l ∧ (∀ c ∈ l, AtW M c) ∧ l.length * 64 ≤ M := by
  have c33 : Tryd.prog.cellsOf 51 = 6 := by kernel_rfl
  have hf' := hf
  rcases open_slice Tryd.underlying24 hf with ⟨h0, _⟩ | ⟨a', len', cap', m, n, D, Pl, hcs, hb, hl, hm, hmm, hx, hi⟩
  · exact ⟨none, 0, [], h0, Or.inl rfl, by simp, by simp⟩
  · subst hcs
    by_cases h0 : len' = 0
    · subst h0
      exact ⟨some a', cap', [], rfl, Or.inl rfl, by simp, by simp⟩
    · have hlm : len' ≤ m := by rw [hmm]; split <;> omega
      obtain ⟨cs', hc, _⟩ := hi 0 (by omega)
      rw [c33] at hc
      have hsp := spot_none hc
      obtain ⟨l, rfl, h1, h2, h3⟩ := attrs_w (fun a2 e => by injection e with e; rw [← e]; exact hsp) hf' M hM
      exact ⟨_, _, l, rfl, h1, h2, h3⟩
theorem open_evt {v : Value} {d : DataW H} {p : List MemPlace} (hv : Value.okWide Tryd.prog w r b0 26 v) (h : DataW.Trod enc Tryd.prog w base sp held 26 v d p) (M : Nat) (hM : ∀ n ∈ d.weights Tryd.prog 26, n ≤ M) :
    ∃ (s : ByteArray) (ao : Option Addr) (cap : Nat) (l : List At), v = evt s ao l.length cap ∧ SliceA w ao l ∧ (∀ c ∈ l, AtW M c) ∧ l.length * 64 ≤ M ∧ s.size ≤ M := by
  obtain ⟨cs, rfl, hsz⟩ := okWide_struct Tryd.underlying26 hv
  obtain ⟨fuel, hf⟩ := h
  obtain ⟨cl⟩ := cs
  obtain ⟨xs, m, _, hx, hl, hxl, hall⟩ := DataW.trod_struct (x := (d, p)) Tryd.underlying26 hf
  have c2 : Tryd.prog.cellsOf 26 = 2 := by kernel_rfl
  have cg : Tryd.prog.cellsOf 9 = 1 := by kernel_rfl
  have ch : Tryd.prog.cellsOf 24 = 1 := by kernel_rfl
  have hsz : xs.length = 2 := hxl
  have e0 := hall 0 _ rfl
  have e1 := hall 1 _ rfl
  rw [List.getElem?_eq_getElem (by omega)] at e0 e1
  obtain ⟨sc, g0, w0⟩ := str_w e0
  have b0 := hM _ (wt_field Tryd.underlying26 hx 0 _ rfl _ (List.getElem?_eq_getElem (by omega)) w0)
  have b1 : ∀ n ∈ (xs[1]'(by omega)).1.weights Tryd.prog 24, n ≤ M := fun n hn => hM _ (wt_field Tryd.underlying26 hx 1 _ rfl _ (List.getElem?_eq_getElem (by omega)) hn)
  have h0 : cl[0]? = some (.string sc) := cell_of_take (by rw [← cg]; exact g0)
  obtain ⟨a, cap, l, g1, h2, h3, h4⟩ := attrs_w' e1 M b1
  have h1 : cl[1]? = some (.slice a l.length cap) := cell_of_take (by rw [← ch]; exact g1)
  have hl2 : cl.length = 2 := hl.trans c2
  refine ⟨sc, a, cap, l, ?_, h2, h3, h4, b0⟩
  match cl, hl2, h0, h1 with
  | [v0, v1], _, h0, h1 =>
    simp at h0 h1
    subst h0 h1
    rfl
end
end Go.Proofs.YtjnfbinomljocaaDoor
