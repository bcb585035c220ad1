/- Maps by names that a call makes: what a key leads to; rows of attributes, one behind the other. -/
import Derived.Test.YtjnfbinomljocaaDoorGaI
import Derived.Maps.Own
import Derived.Maps.OwnSet
import Derived.Maps.Views
import Derived.StringKeys
import Derived.Deep.Upon
namespace Go.Proofs.YtjnfbinomljocaaDoor
open Go.RowKit Go.Shelf Go.Sort
open Go.Proofs Go.Maps
set_option maxRecDepth 100000

/-- A map's elements read as themselves. -/
def asIs (v : Value) : Option (DataW Value × List MemPlace) := some (.held v, [])
/-- The key that a name is. -/
def keyN (s : ByteArray) : Lit := .string s.data.toList
theorem keyN_lit (s : ByteArray) : WideAt.IsKeyLit (keyN s) := trivial
theorem keyN_inj {a b : ByteArray} (h : keyN a = keyN b) : a.data.toList = b.data.toList := by
  unfold keyN at h; injection h
theorem keyN_eq {a b : ByteArray} (h : a.data.toList = b.data.toList) : keyN a = keyN b := by unfold keyN; rw [h]
/-- What a key leads to, of those that were told; the last one counts. -/
def mapOf (f : At → Value) : List At → DataW Value
  | [] => .map []
  | a :: l => (mapOf f l).put (keyN a.nm) (.held (f a))
theorem mapOf_isMap (f : At → Value) : ∀ l, IsMap (mapOf f l)
  | [] => isMap_empty
  | _ :: l => (mapOf_isMap f l).put _ _
theorem mapOf_tidy (f : At → Value) : ∀ l, Tidy (mapOf f l)
  | [] => tidy_empty
  | _ :: l => (mapOf_tidy f l).put (keyN_lit _) _
theorem mapOf_at (f : At → Value) (z : DataW Value) (c : ByteArray) : ∀ l, (mapOf f l).atKey (keyN c) z = match l.find? (fun a => keyA a == c.data.toList) with
    | some a => .held (f a)
    | none => z
  | [] => rfl
  | a :: l => by
    rw [List.find?_cons]
    unfold mapOf
    cases h : (keyA a == c.data.toList)
    · have hne : keyN c ≠ keyN a.nm := fun e => by
        have := keyN_inj e
        rw [show keyA a = a.nm.data.toList from rfl, this] at h
        simp at h
      rw [atKey_put_other hne]
      exact mapOf_at f z c l
    · have he : keyN a.nm = keyN c := keyN_eq (by simpa [keyA] using h)
      rw [he, atKey_put_same (mapOf_isMap f l) (keyN_lit _)]
theorem mapOf_has (f : At → Value) (c : ByteArray) : ∀ l, Maps.has (mapOf f l) (keyN c) = l.any (fun a => keyA a == c.data.toList)
  | [] => rfl
  | a :: l => by
    rw [List.any_cons]
    unfold mapOf
    cases h : (keyA a == c.data.toList)
    · have hne : keyN c ≠ keyN a.nm := fun e => by
        have := keyN_inj e
        rw [show keyA a = a.nm.data.toList from rfl, this] at h
        simp at h
      rw [has_put_other hne, mapOf_has f c l, Bool.false_or]
    · have he : keyN a.nm = keyN c := keyN_eq (by simpa [keyA] using h)
      rw [he, has_put_same (mapOf_isMap f l) (keyN_lit _), Bool.true_or]

/-- An append of a row that lies in the world onto a row of the call's own. -/
theorem append_attrs (B : Nat) (w : World) (ao ao2 : Option Addr) (cap cap2 : Nat) (l m : List At) (ho : w.ownsRow B 51 6 (.slice ao l.length cap) l.length (l.flatMap encA)) (hm : SliceA w ao2 m) (hB : B ≤ w.heap.size) (hl : l.length ≤ 1000) (hl2 : m.length ≤ 1000) :
    ∃ ao' cap' w', Sem.run Tryd.prog (appendS #[24, 24] 24 #[.slice ao l.length cap, .slice ao2 m.length cap2]) w = .ok (.slice ao' (l ++ m).length cap') w' ∧
      Aside (w'.ownsRow B 51 6 (.slice ao' (l ++ m).length cap') (l ++ m).length ((l ++ m).flatMap encA) ∧ Below B w w') := by
  obtain ⟨i0, z0, hi, hz0, hz1, hz2, hz3⟩ := attr_info
  rcases hm with rfl | ⟨b, off, rfl, h3, h4⟩
  · have hle : l.length ≤ cap := by
      rcases ho.2 with ⟨h, h0⟩ | ⟨g, c2, cur, hv, _, _, hnc, _⟩
      · injection h with h1 h2 h3; omega
      · injection hv with h1 h2 h3; subst h3; exact hnc
    rw [List.append_nil]
    refine ⟨ao, cap, w, ?_, ho, Below.refl _ _⟩
    cases ao2 with
    | none => exact run_append_nothing w 24 24 24 51 i0 Tryd.underlying24 hi ao l.length cap hle _ (Src.ofNil w Tryd.underlying24 cap2)
    | some a => exact run_append_nothing w 24 24 24 51 i0 Tryd.underlying24 hi ao l.length cap hle _ (Src.ofSlice w Tryd.underlying24 a 0 cap2 [] (by simp) (by simp) (by simp))
  · have hflat : ∀ l : List At, (l.flatMap encA).length = l.length * 6 := fun l => by
      induction l with
      | nil => rfl
      | cons a l ih => simp only [List.flatMap_cons, List.length_append, encA_len, List.length_cons, ih]; omega
    have hat : ∀ (l : List At) (j : Nat), j < l.length → ∀ c u, (encA l[j]!)[c]? = some u → (l.flatMap encA)[j * 6 + c]? = some u := by
      intro l
      induction l with
      | nil => intro j hj; simp at hj
      | cons a l ih =>
        intro j hj c u hu
        cases j with
        | zero =>
          have hc : c < (encA a).length := by
            have := (List.getElem?_eq_some_iff.1 hu).1; simpa using this
          simp only [List.flatMap_cons, Nat.zero_mul, Nat.zero_add]
          rw [List.getElem?_append_left hc]; simpa using hu
        | succ j =>
          have := ih j (by simpa using hj) c u (by simpa using hu)
          simp only [List.flatMap_cons]
          rw [List.getElem?_append_right (by rw [encA_len]; omega), encA_len, show (j + 1) * 6 + c - 6 = j * 6 + c by omega]
          exact this
    have hnews : ∀ j u, (m.flatMap encA)[j]? = some u → w.cell? ((⟨b, off, none⟩ : Addr).add j) = some u := fun j u hj => by
      have hjl : j < m.length * 6 := by have := (List.getElem?_eq_some_iff.1 hj).1; rw [hflat] at this; exact this
      have hc5 : j % 6 < (encA m[j / 6]!).length := by rw [encA_len]; omega
      have h1 := hat m (j / 6) (by omega) (j % 6) _ (List.getElem?_eq_getElem hc5)
      rw [show j / 6 * 6 + j % 6 = j by omega, hj] at h1
      have h2 := h4 (j / 6) (by omega) (j % 6) _ (List.getElem?_eq_getElem hc5)
      rw [show off + j / 6 * 6 + j % 6 = off + j by omega] at h2
      rw [Addr.add_lit, h2, h1]
    obtain ⟨v1, w1, hrun1, hown1, hg1, _⟩ := run_append_own (P := Tryd.prog) w B 24 24 51 i0 z0 6 64 Tryd.underlying24 hi hz0 hz1 hz2 hz3 (by decide) _ _ _ ho ⟨b, off, none⟩ m.length cap2 (m.flatMap encA) (hflat m) hnews (fun u hu => by
      obtain ⟨a, _, ha⟩ := List.mem_flatMap.1 hu
      exact encA_one a u ha) (by unfold maxLen; omega) (by omega) hB
    have hown5 : w1.ownsRow B 51 6 v1 (l ++ m).length ((l ++ m).flatMap encA) := by
      rw [List.length_append, List.flatMap_append]; exact hown1
    obtain ⟨ao', cap', rfl, _⟩ := own_slice hown5
    exact ⟨ao', cap', w1, hrun1, hown5, (Below.refl _ _).grown hg1 hB (fun k e => (ho.lt k e).1)⟩
end Go.Proofs.YtjnfbinomljocaaDoor
