/- The attributes that EventMany makes, and what becomes of them. -/
import Derived.Test.YtnpbnjddlchmcaaRightE
namespace Go.Proofs.Ytnpbnjddlchmcaa
open Go.RowKit Go.Shelf Go.Sort
open Go.Proofs
set_option maxRecDepth 100000

def many (i : Nat) : At := ⟨⟨#[110, UInt8.ofNat (97 + (7 * i) % 16)]⟩, 0, i, 0, ⟨#[]⟩, false⟩
def manyL (m : Nat) : List At := (List.range m).map many
theorem manyL_len (m : Nat) : (manyL m).length = m := by simp [manyL]
theorem manyL_succ (m : Nat) : manyL (m + 1) = manyL m ++ [many m] := by simp [manyL, List.range_succ]

theorem many_apart : ∀ m < 16, ((manyL m).map keyA).Pairwise (· ≠ ·) := by decide +kernel
theorem many_ok : ∀ i < 16, (nameOk (canonA (many i)).nm && vrightB (canonA (many i)).k (canonA (many i)).s && keptB (canonA (many i))) = true := by decide +kernel

theorem len_of_sub {β : Type} [BEq β] [LawfulBEq β] : ∀ (l r : List β), l.Pairwise (· ≠ ·) → (∀ x ∈ l, x ∈ r) → l.length ≤ r.length
  | [], _, _, _ => Nat.zero_le _
  | x :: l, r, h1, h2 => by
    have hx : x ∈ r := h2 x List.mem_cons_self
    rw [List.pairwise_cons] at h1
    have := len_of_sub l (r.erase x) h1.2 fun y hy => (List.mem_erase_of_ne (fun e => h1.1 y hy e.symm)).2 (h2 y (List.mem_cons_of_mem _ hy))
    rw [List.length_erase_of_mem hx] at this
    have hp : 0 < r.length := List.length_pos_of_mem hx
    simp only [List.length_cons]; omega

/-- Where each name is told once, as many stay as came. -/
theorem NewOf.len_eq {zs res : List At} (h : NewOf zs res) (ha : (zs.map keyA).Pairwise (· ≠ ·)) : res.length = zs.length := by
  refine Nat.le_antisymm h.len ?_
  have := len_of_sub (zs.map keyA) (res.map keyA) ha fun c hc => by
    obtain ⟨z, hz, rfl⟩ := List.mem_map.1 hc
    have hf := h.find (keyA z)
    cases hq : zs.reverse.find? (fun a => keyA a == keyA z) with
    | none =>
      rw [List.find?_eq_none] at hq
      have := hq z (List.mem_reverse.2 hz)
      simp at this
    | some y =>
      rw [hq] at hf
      have hk := List.find?_some hq
      have hm := List.mem_of_find?_eq_some hf
      have : keyA (canonA y) = keyA z := by rw [keyA_canon]; simpa using hk
      rw [← this]; exact List.mem_map_of_mem hm
  simpa using this

theorem get_mem (l : List At) (i : Nat) (h : i < l.length) : l[i]! ∈ l := by
  rw [getElem!_pos l i h]; exact List.getElem_mem h
/-- An event of rising names is right if each of its attributes is. -/
theorem rightE_rise {res : List At} (hr : res.Pairwise (fun a b => ltKey keyA a b = true)) (h : ∀ a ∈ res, (nameOk a.nm && vrightB a.k a.s && keptB a) = true) : rightE res = decide (res.length ≤ 8) := by
  have : (List.range res.length).all (okAt res) = true := by
    rw [List.all_eq_true]
    intro i hi
    rw [List.mem_range] at hi
    have ha := h _ (get_mem res i hi)
    unfold okAt
    have hl : (decide (i = 0) || ltKey keyA res[i - 1]! res[i]!) = true := by
      by_cases h0 : i = 0
      · simp [h0]
      · have := (List.pairwise_iff_getElem.1 hr) (i - 1) i (by omega) hi (by omega)
        rw [getElem!_pos res i hi, getElem!_pos res (i - 1) (by omega), this]; simp
    rw [hl, Bool.true_and]; exact ha
  unfold rightE; rw [this, Bool.and_true]
theorem many_right {m : Nat} (hm : m < 16) {res : List At} (h : NewOf (manyL m) res) : res.length = m ∧ rightE res = decide (m ≤ 8) := by
  have hl : res.length = m := by rw [h.len_eq (many_apart m hm), manyL_len]
  refine ⟨hl, ?_⟩
  rw [rightE_rise h.rise (fun a ha => by
    obtain ⟨z, hz, rfl⟩ := h.mem a ha
    obtain ⟨i, hi, rfl⟩ := List.mem_map.1 hz
    exact many_ok i (by have := List.mem_range.1 hi; omega)), hl]

theorem and15 (n : Int) : ∃ m : Nat, m < 16 ∧ bits .and .i64 n 15 = m := by
  have h : ∃ m : Nat, m < 16 ∧ bits .and .i64 n 15 = IntKind.i64.wrap m := by
    refine ⟨((BitVec.ofInt 64 n) &&& (BitVec.ofInt 64 15)).toNat, ?_, rfl⟩
    rw [BitVec.toNat_and, show (BitVec.ofInt 64 15).toNat = 2 ^ 4 - 1 from by decide, Nat.and_two_pow_sub_one_eq_mod]
    omega
  obtain ⟨m, hm, h⟩ := h
  exact ⟨m, hm, by rw [h, IntKind.wrap_i64]; omega⟩

/-- A row that the call owns is a slice whose elements lie in the world. -/
theorem own_slice {w : World} {base : Nat} {e : TypeId} {v : Value} {l : List At} (h : w.ownsRow base e 6 v l.length (l.flatMap encA)) : ∃ ao cap, v = .slice ao l.length cap ∧ SliceA w ao l := by
  rcases h.2 with ⟨rfl, h0⟩ | ⟨g, cap, cur, rfl, hbg, hg, hnc, hcm, hcs, htake⟩
  · have : l = [] := List.eq_nil_of_length_eq_zero (by first | exact h0 | exact h0.symm | omega)
    subst this
    exact ⟨none, 0, rfl, Or.inl rfl⟩
  · refine ⟨_, _, rfl, Or.inr ⟨g, 0, rfl, ?_, ?_⟩⟩
    · exact (Array.getElem?_eq_some_iff.1 hg).1
    · intro j hj c u hu
      have hlen : ∀ (l : List At) (j : Nat), j < l.length → ∀ c u, (encA l[j]!)[c]? = some u → (l.flatMap encA)[j * 6 + c]? = some u := by
        intro l
        induction l with
        | nil => intro j hj; simp at hj
        | cons a l ih =>
          intro j hj c u hu
          cases j with
          | zero =>
            have hc : c < (encA a).length := by
              have := (List.getElem?_eq_some_iff.1 hu).1; simpa using this
            simp only [List.flatMap_cons, Nat.zero_mul, Nat.zero_add]
            rw [List.getElem?_append_left hc]; simpa using hu
          | succ j =>
            have := ih j (by simpa using hj) c u (by simpa using hu)
            simp only [List.flatMap_cons]
            rw [List.getElem?_append_right (by rw [encA_len]; omega), encA_len, show (j + 1) * 6 + c - 6 = j * 6 + c by omega]
            exact this
      have hx := hlen l j hj c u hu
      have hcell := h.cells (g := g) rfl (j * 6 + c) u hx
      rw [Nat.zero_add]
      generalize j * 6 + c = q at hcell ⊢
      by_cases h0 : q = 0
      · subst h0; simpa [Addr.add] using hcell
      · simpa [Addr.add, h0] using hcell
end Go.Proofs.Ytnpbnjddlchmcaa
