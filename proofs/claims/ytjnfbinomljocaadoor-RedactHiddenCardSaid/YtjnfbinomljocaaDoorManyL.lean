/- The attributes that EventMany makes, and what becomes of them. -/
import Derived.Test.YtjnfbinomljocaaDoorGaI
namespace Go.Proofs.YtjnfbinomljocaaDoor
open Go.RowKit Go.Shelf Go.Sort
open Go.Proofs
set_option maxRecDepth 100000

def many (i : Nat) : At := ⟨⟨#[110, UInt8.ofNat (97 + (7 * i) % 16)]⟩, 0, i, 0, ⟨#[]⟩, false⟩
def manyL (m : Nat) : List At := (List.range m).map many
theorem manyL_len (m : Nat) : (manyL m).length = m := by simp [manyL]
theorem manyL_succ (m : Nat) : manyL (m + 1) = manyL m ++ [many m] := by simp [manyL, List.range_succ]

theorem many_apart : ∀ m < 16, ((manyL m).map keyA).Pairwise (· ≠ ·) := by decide +kernel
theorem many_ok : ∀ i < 16, (nameOk (canonA (many i)).nm && vrightB (canonA (many i)).k (canonA (many i)).s && keptB (canonA (many i))) = true := by decide +kernel

theorem len_of_sub {β : Type} [BEq β] [LawfulBEq β] : ∀ (l r : List β), l.Pairwise (· ≠ ·) → (∀ x ∈ l, x ∈ r) → l.length ≤ r.length
  | [], _, _, _ => Nat.zero_le _
  | x :: l, r, h1, h2 => by
    have hx : x ∈ r := h2 x List.mem_cons_self
    rw [List.pairwise_cons] at h1
    have := len_of_sub l (r.erase x) h1.2 fun y hy => (List.mem_erase_of_ne (fun e => h1.1 y hy e.symm)).2 (h2 y (List.mem_cons_of_mem _ hy))
    rw [List.length_erase_of_mem hx] at this
    have hp : 0 < r.length := List.length_pos_of_mem hx
    simp only [List.length_cons]; omega

/-- Where each name is told once, as many stay as came. -/
theorem NewOf.len_eq {zs res : List At} (h : NewOf zs res) (ha : (zs.map keyA).Pairwise (· ≠ ·)) : res.length = zs.length := by
  refine Nat.le_antisymm h.len ?_
  have := len_of_sub (zs.map keyA) (res.map keyA) ha fun c hc => by
    obtain ⟨z, hz, rfl⟩ := List.mem_map.1 hc
    have hf := h.find (keyA z)
    cases hq : zs.reverse.find? (fun a => keyA a == keyA z) with
    | none =>
      rw [List.find?_eq_none] at hq
      have := hq z (List.mem_reverse.2 hz)
      simp at this
    | some y =>
      rw [hq] at hf
      have hk := List.find?_some hq
      have hm := List.mem_of_find?_eq_some hf
      have : keyA (canonA y) = keyA z := by rw [keyA_canon]; simpa using hk
      rw [← this]; exact List.mem_map_of_mem hm
  simpa using this

/-- An event of rising names is right if each of its attributes is. -/
theorem rightE_rise {res : List At} (hr : res.Pairwise (fun a b => ltKey keyA a b = true)) (h : ∀ a ∈ res, (nameOk a.nm && vrightB a.k a.s && keptB a) = true) : rightE res = decide (res.length ≤ 8) := by
  have : (List.range res.length).all (okAt res) = true := by
    rw [List.all_eq_true]
    intro i hi
    rw [List.mem_range] at hi
    have ha := h _ (get_mem res i hi)
    unfold okAt
    have hl : (decide (i = 0) || ltKey keyA res[i - 1]! res[i]!) = true := by
      by_cases h0 : i = 0
      · simp [h0]
      · have := (List.pairwise_iff_getElem.1 hr) (i - 1) i (by omega) hi (by omega)
        rw [getElem!_pos res i hi, getElem!_pos res (i - 1) (by omega), this]; simp
    rw [hl, Bool.true_and]; exact ha
  unfold rightE; rw [this, Bool.and_true]
theorem many_right {m : Nat} (hm : m < 16) {res : List At} (h : NewOf (manyL m) res) : res.length = m ∧ rightE res = decide (m ≤ 8) := by
  have hl : res.length = m := by rw [h.len_eq (many_apart m hm), manyL_len]
  refine ⟨hl, ?_⟩
  rw [rightE_rise h.rise (fun a ha => by
    obtain ⟨z, hz, rfl⟩ := h.mem a ha
    obtain ⟨i, hi, rfl⟩ := List.mem_map.1 hz
    exact many_ok i (by have := List.mem_range.1 hi; omega)), hl]

theorem and15 (n : Int) : ∃ m : Nat, m < 16 ∧ bits .and .i64 n 15 = m := by
  have h : ∃ m : Nat, m < 16 ∧ bits .and .i64 n 15 = IntKind.i64.wrap m := by
    refine ⟨((BitVec.ofInt 64 n) &&& (BitVec.ofInt 64 15)).toNat, ?_, rfl⟩
    rw [BitVec.toNat_and, show (BitVec.ofInt 64 15).toNat = 2 ^ 4 - 1 from by decide, Nat.and_two_pow_sub_one_eq_mod]
    omega
  obtain ⟨m, hm, h⟩ := h
  exact ⟨m, hm, by rw [h, IntKind.wrap_i64]; omega⟩

end Go.Proofs.YtjnfbinomljocaaDoor
