/- EventNews, plainly: how many names there are; what New makes of what it made. -/
import Derived.Test.YtjeippdfgojdnaaGreatDoorMapN
import Derived.Test.YtjeippdfgojdnaaGreatDoorGetsL
import Derived.Test.YtjeippdfgojdnaaGreatDoorCanP
namespace Go.Proofs.YtjeippdfgojdnaaGreatDoor
open Go.RowKit Go.Shelf Go.Sort
open Go.Proofs Go.Maps
set_option maxRecDepth 100000

theorem filter_len (c : List UInt8) : ∀ (R : List At), R.Pairwise (fun a b => keyA a ≠ keyA b) → R.any (fun a => keyA a == c) = true → (R.filter (fun a => !(keyA a == c))).length + 1 = R.length
  | [], _, h => by simp at h
  | a :: R, hd, h => by
    rw [List.filter_cons]
    cases hc : (keyA a == c)
    · rw [List.any_cons, hc, Bool.false_or] at h
      have := filter_len c R (List.pairwise_cons.1 hd).2 h
      simp only [Bool.not_false, if_true, List.length_cons]
      omega
    · simp only [Bool.not_true, Bool.false_eq_true, if_false, List.length_cons]
      have hall : R.filter (fun a => !(keyA a == c)) = R := by
        rw [List.filter_eq_self]
        intro b hb
        have := (List.pairwise_cons.1 hd).1 b hb
        rw [(by simpa using hc : keyA a = c)] at this
        simpa using fun e => this e.symm
      rw [hall]
/-- How many keys a map of told ones has. -/
theorem mapOf_size (f : At → Value) : ∀ (L R : List At), R.Pairwise (fun a b => keyA a ≠ keyA b) → (∀ c, R.any (fun a => keyA a == c) = L.any (fun a => keyA a == c)) → Maps.size (mapOf f L) = R.length
  | [], R, _, h => by
    cases R with
    | nil => rfl
    | cons a R => have := h (keyA a); simp at this
  | a :: L, R, hd, h => by
    unfold mapOf
    rw [size_put (mapOf_tidy f L), mapOf_has]
    cases ha : L.any (fun b => keyA b == a.nm.data.toList)
    · simp only [Bool.false_eq_true, if_false]
      have hin : R.any (fun b => keyA b == keyA a) = true := by rw [h]; simp
      have h1 := filter_len (keyA a) R hd hin
      have h2 := mapOf_size f L (R.filter (fun b => !(keyA b == keyA a))) (hd.filter _) (fun c => by
        by_cases hc : c = keyA a
        · subst hc
          have : (R.filter (fun b => !(keyA b == keyA a))).any (fun b => keyA b == keyA a) = false := by
            rw [List.any_eq_false]
            intro b hb
            have := (List.mem_filter.1 hb).2
            simpa using this
          rw [this]; exact ha.symm
        · have e1 : (R.filter (fun b => !(keyA b == keyA a))).any (fun b => keyA b == c) = R.any (fun b => keyA b == c) := by
            rw [Bool.eq_iff_iff, List.any_eq_true, List.any_eq_true]
            constructor
            · rintro ⟨b, hb, e⟩; exact ⟨b, (List.mem_filter.1 hb).1, e⟩
            · rintro ⟨b, hb, e⟩
              refine ⟨b, List.mem_filter.2 ⟨hb, ?_⟩, e⟩
              have : keyA b = c := by simpa using e
              rw [this]; simpa using hc
          rw [e1, h, List.any_cons, show (keyA a == c) = false by simpa using fun e => hc e.symm, Bool.false_or])
      omega
    · simp only [if_true]
      refine mapOf_size f L R hd (fun c => ?_)
      rw [h, List.any_cons]
      by_cases hc : keyA a = c
      · subst hc
        have : L.any (fun b => keyA b == keyA a) = true := ha
        rw [this]; simp
      · rw [show (keyA a == c) = false by simpa using hc, Bool.false_or]
theorem rise_apart {res : List At} (h : res.Pairwise (fun a b => ltKey keyA a b = true)) : res.Pairwise (fun a b => keyA a ≠ keyA b) := h.imp (fun e => key_ne e)
theorem new_any {l res : List At} (h : NewOf l res) (c : List UInt8) : res.any (fun a => keyA a == c) = l.reverse.any (fun a => keyA a == c) := by
  have := congrArg Option.isSome (h.find c)
  rw [Option.isSome_map, List.isSome_find?, List.isSome_find?] at this
  exact this
theorem find_rev (c : List UInt8) : ∀ (R : List At), R.Pairwise (fun a b => keyA a ≠ keyA b) → R.reverse.find? (fun a => keyA a == c) = R.find? (fun a => keyA a == c)
  | [], _ => rfl
  | a :: R, hd => by
    rw [List.reverse_cons, List.find?_append, find_rev c R (List.pairwise_cons.1 hd).2, List.find?_cons]
    cases hc : (keyA a == c)
    · simp [hc]
    · have : R.find? (fun b => keyA b == c) = none := by
        rw [List.find?_eq_none]
        intro b hb
        have := (List.pairwise_cons.1 hd).1 b hb
        rw [(by simpa using hc : keyA a = c)] at this
        simpa using fun e => this e.symm
      rw [this]; simp [hc]
theorem new_again {l res res2 : List At} (h : NewOf l res) (h2 : NewOf res res2) : res2 = res :=
  rise_unique res2 res h2.rise h.rise fun c => by
    rw [h2.find c, find_rev c res (rise_apart h.rise)]
    cases hf : res.find? (fun a => keyA a == c) with
    | none => rfl
    | some a =>
      obtain ⟨z, _, rfl⟩ := h.mem a (List.mem_of_find?_eq_some hf)
      rw [Option.map_some, canonA_idem]
/-- Where an attribute of the event comes from. -/
theorem new_from {l res : List At} (h : NewOf l res) {a : At} (ha : a ∈ res) : ∃ z ∈ l, l.reverse.find? (fun b => keyA b == a.nm.data.toList) = some z ∧ a = canonA z := by
  have h1 := find_key h.rise a ha
  rw [show keyA a = a.nm.data.toList from rfl, h.find] at h1
  obtain ⟨z, hz, e⟩ := Option.map_eq_some_iff.1 h1
  exact ⟨z, List.mem_reverse.1 (List.mem_of_find?_eq_some hz), hz, e.symm⟩
theorem get_at {l res : List At} (h : NewOf l res) {a : At} (ha : a ∈ res) : getA res a.nm = some a := by
  rw [getA_key]; exact find_key h.rise a ha
theorem rise_at {res : List At} (h : res.Pairwise (fun a b => ltKey keyA a b = true)) (i : Nat) (hi : i + 1 < res.length) : ltKey keyA res[i]! res[i + 1]! = true := by
  rw [getElem!_pos res i (by omega), getElem!_pos res (i + 1) hi]
  exact List.pairwise_iff_getElem.1 h i (i + 1) (by omega) hi (by omega)
theorem lawNm : Keyed Tryz.prog 9 := string_keyed Tryz.underlying9
theorem zeroV (w : World) : (zeroValue 24).run Tryz.prog w = .ok (val 0 0 0 ⟨#[]⟩ false) w := by kernel_rfl
end Go.Proofs.YtjeippdfgojdnaaGreatDoor
