/- Plain lists and arrays (nothing of the program): a stable sort's steps: what an exchange of two neighbouring runs keeps, and how two sorted halves are joined. -/
import Derived.Sort.LotA
namespace Go.Proofs.YtjnfbinomljocaaDoor
open Go.Sort
variable {α : Type} [Inhabited α]
set_option linter.unusedSectionVars false
set_option linter.unusedVariables false

/-- Within each key the order is as it was. -/
def Stab (key : α → List UInt8) (d e : Array α) : Prop := ∀ c, e.toList.filter (fun x => key x == c) = d.toList.filter (fun x => key x == c)
/-- One is below another one by its key. -/
def ltKey (key : α → List UInt8) (x y : α) : Bool := ltStr (key x) (key y)

theorem swo_key (key : α → List UInt8) : SWO (ltKey key) where
  irrefl x := swo_ltStr.irrefl _
  trans x y z := swo_ltStr.trans _ _ _
  ntrans x y z := swo_ltStr.ntrans _ _ _
omit [Inhabited α] in
theorem key_ne {key : α → List UInt8} {x y : α} (h : ltKey key x y = true) : key x ≠ key y := fun e => by
  unfold ltKey at h; rw [e, swo_ltStr.irrefl] at h; cases h
theorem key_eq {key : α → List UInt8} {x y : α} (h : ltKey key x y = false) (h2 : ltKey key y x = false) : key x = key y := by
  simp only [ltKey, ltStr, decide_eq_false_iff_not, List.not_lt] at h h2
  exact List.le_antisymm h2 h
theorem lt_of_le_lt {key : α → List UInt8} {x y z : α} (h : ltKey key y x = false) (h2 : ltKey key y z = true) : ltKey key x z = true := by
  cases h3 : ltKey key x z with
  | true => rfl
  | false =>
    have := (swo_key key).ntrans y x z h h3
    rw [h2] at this; cases this
theorem lt_of_lt_le {key : α → List UInt8} {x y z : α} (h : ltKey key x y = true) (h2 : ltKey key z y = false) : ltKey key x z = true := by
  cases h3 : ltKey key x z with
  | true => rfl
  | false =>
    have := (swo_key key).ntrans x z y h3 h2
    rw [h] at this; cases this

/-- e is d with its places a ≤ i < m and m ≤ i < b exchanged, each run as it stands. -/
structure Rot (a m b : Nat) (d e : Array α) : Prop where
  size : e.size = d.size
  out : ∀ t, t < a ∨ b ≤ t → e[t]! = d[t]!
  lo : ∀ t, a ≤ t → t < a + (b - m) → e[t]! = d[t - a + m]!
  hi : ∀ t, a + (b - m) ≤ t → t < b → e[t]! = d[t - (b - m)]!

/-- What a step of the sort within a ≤ i < b keeps. -/
structure Good (key : α → List UInt8) (a b : Nat) (d e : Array α) : Prop where
  size : e.size = d.size
  out : ∀ t, t < a ∨ b ≤ t → e[t]! = d[t]!
  mem : ∀ t, a ≤ t → t < b → ∃ s, a ≤ s ∧ s < b ∧ e[t]! = d[s]!
  stab : Stab key d e

theorem Good.refl (key : α → List UInt8) (a b : Nat) (d : Array α) : Good key a b d d := ⟨rfl, fun _ _ => rfl, fun t h1 h2 => ⟨t, h1, h2, rfl⟩, fun _ => rfl⟩
theorem Good.trans {key : α → List UInt8} {a b : Nat} {d e f : Array α} (h : Good key a b d e) (h2 : Good key a b e f) : Good key a b d f :=
  ⟨h2.size.trans h.size, fun t ht => (h2.out t ht).trans (h.out t ht), fun t h1 h3 => by
    obtain ⟨s, s1, s2, e1⟩ := h2.mem t h1 h3
    obtain ⟨r, r1, r2, e2⟩ := h.mem s s1 s2
    exact ⟨r, r1, r2, e1.trans e2⟩, fun c => (h2.stab c).trans (h.stab c)⟩
theorem Good.mono {key : α → List UInt8} {a b a' b' : Nat} {d e : Array α} (h : Good key a b d e) (ha : a' ≤ a) (hb : b ≤ b') : Good key a' b' d e :=
  ⟨h.size, fun t ht => h.out t (by omega), fun t h1 h2 => by
    by_cases hh : a ≤ t ∧ t < b
    · obtain ⟨s, s1, s2, e1⟩ := h.mem t hh.1 hh.2
      exact ⟨s, by omega, by omega, e1⟩
    · exact ⟨t, h1, h2, h.out t (by omega)⟩, h.stab⟩

theorem toList_get (d : Array α) : d.toList = (List.range' 0 d.size).map (fun i => d[i]!) := by
  have := extract_toList d 0 d.size (Nat.le_refl _)
  simpa using this
theorem range_split (a b n : Nat) (h : a ≤ b) (h2 : b ≤ n) : List.range' a (n - a) = List.range' a (b - a) ++ List.range' b (n - b) := by
  have := List.range'_append_1 (s := a) (m := b - a) (n := n - b)
  rw [show a + (b - a) = b by omega, show b - a + (n - b) = n - a by omega] at this
  exact this.symm
theorem map_shift (d e : Array α) (a m n : Nat) (h : ∀ t, t < n → e[a + t]! = d[m + t]!) : (List.range' a n).map (fun i => e[i]!) = (List.range' m n).map (fun i => d[i]!) := by
  apply List.ext_getElem
  · simp
  · intro i h1 h2
    simp only [List.length_map, List.length_range'] at h1
    simp [h i h1]

/-- An exchange of two runs that have no key in common keeps the order within each key. -/
theorem Rot.stab {key : α → List UInt8} {a m b : Nat} {d e : Array α} (h : Rot a m b d e) (ham : a ≤ m) (hmb : m ≤ b) (hb : b ≤ d.size)
    (hk : ∀ x y, a ≤ x → x < m → m ≤ y → y < b → key d[x]! ≠ key d[y]!) : Stab key d e := by
  intro c
  rw [toList_get e, toList_get d, h.size]
  have e1 : List.range' 0 d.size = List.range' 0 a ++ (List.range' a (m - a) ++ (List.range' m (b - m) ++ List.range' b (d.size - b))) := by
    have := range_split 0 a d.size (by omega) (by omega)
    rw [Nat.sub_zero] at this
    rw [this, Nat.sub_zero, range_split a m d.size ham (by omega), range_split m b d.size hmb hb]
  have e2 : List.range' 0 d.size = List.range' 0 a ++ (List.range' a (b - m) ++ (List.range' (a + (b - m)) (m - a) ++ List.range' b (d.size - b))) := by
    have := range_split 0 a d.size (by omega) (by omega)
    rw [Nat.sub_zero] at this
    rw [this, Nat.sub_zero, range_split a (a + (b - m)) d.size (by omega) (by omega), range_split (a + (b - m)) b d.size (by omega) hb]
    rw [show a + (b - m) - a = b - m by omega, show b - (a + (b - m)) = m - a by omega]
  conv => lhs; rw [e2]
  conv => rhs; rw [e1]
  simp only [List.map_append, List.filter_append]
  have f0 : (List.range' 0 a).map (fun i => e[i]!) = (List.range' 0 a).map (fun i => d[i]!) := map_shift d e 0 0 a (fun t ht => h.out _ (by omega))
  have f1 : (List.range' a (b - m)).map (fun i => e[i]!) = (List.range' m (b - m)).map (fun i => d[i]!) := map_shift d e a m (b - m) (fun t ht => by
    rw [h.lo _ (by omega) (by omega)]; congr 1; omega)
  have f2 : (List.range' (a + (b - m)) (m - a)).map (fun i => e[i]!) = (List.range' a (m - a)).map (fun i => d[i]!) := map_shift d e (a + (b - m)) a (m - a) (fun t ht => by
    rw [h.hi _ (by omega) (by omega)]; congr 1; omega)
  have f3 : (List.range' b (d.size - b)).map (fun i => e[i]!) = (List.range' b (d.size - b)).map (fun i => d[i]!) := map_shift d e b b _ (fun t ht => h.out _ (by omega))
  rw [f0, f1, f2, f3]
  congr 1
  rw [← List.append_assoc, ← List.append_assoc]
  congr 1
  by_cases hx : ∃ x, a ≤ x ∧ x < m ∧ key d[x]! = c
  · obtain ⟨x, x1, x2, x3⟩ := hx
    have : ((List.range' m (b - m)).map (fun i => d[i]!)).filter (fun x => key x == c) = [] := by
      rw [List.filter_eq_nil_iff]
      intro v hv
      rw [List.mem_map] at hv
      obtain ⟨y, hy, rfl⟩ := hv
      rw [List.mem_range'_1] at hy
      have := hk x y x1 x2 (by omega) (by omega)
      rw [x3] at this
      simpa using fun h => this h.symm
    rw [this]; simp
  · have : ((List.range' a (m - a)).map (fun i => d[i]!)).filter (fun x => key x == c) = [] := by
      rw [List.filter_eq_nil_iff]
      intro v hv
      rw [List.mem_map] at hv
      obtain ⟨y, hy, rfl⟩ := hv
      rw [List.mem_range'_1] at hy
      simpa using fun h => hx ⟨y, by omega, by omega, h⟩
    rw [this]; simp

theorem Rot.good {key : α → List UInt8} {a m b : Nat} {d e : Array α} (h : Rot a m b d e) (ham : a ≤ m) (hmb : m ≤ b) (hb : b ≤ d.size)
    (hk : ∀ x y, a ≤ x → x < m → m ≤ y → y < b → key d[x]! ≠ key d[y]!) : Good key a b d e :=
  ⟨h.size, h.out, fun t h1 h2 => by
    by_cases hh : t < a + (b - m)
    · exact ⟨_, by omega, by omega, h.lo t h1 hh⟩
    · exact ⟨_, by omega, by omega, h.hi t (by omega) h2⟩, h.stab ham hmb hb hk⟩

theorem Rot.refl_m (m b : Nat) (d : Array α) : Rot m m b d d :=
  ⟨rfl, fun _ _ => rfl, fun t h1 h2 => by congr 1; omega, fun t h1 h2 => by omega⟩
theorem Rot.refl_b (a b : Nat) (d : Array α) : Rot a b b d d :=
  ⟨rfl, fun _ _ => rfl, fun t h1 h2 => by omega, fun t h1 h2 => by congr 1; omega⟩

/-- The first run's one place goes on by one. -/
theorem Rot.right {a m k : Nat} {d e : Array α} (h : Rot a m k d e) (ham : m = a + 1) (hk : m ≤ k) (hs : k < d.size) : Rot a m (k + 1) d (swp e (k - 1) k) := by
  have hz := h.size
  have g := swp_get e (i := k - 1) (j := k) (by omega) (by omega)
  refine ⟨by rw [swp_size]; exact hz, fun t ht => ?_, fun t h1 h2 => ?_, fun t h1 h2 => ?_⟩
  · rw [g, if_neg (by omega), if_neg (by omega)]; exact h.out t (by omega)
  · rw [g]
    by_cases e1 : t = k
    · omega
    · rw [if_neg e1]
      by_cases e2 : t = k - 1
      · rw [if_pos e2, h.out k (by omega)]; congr 1; omega
      · rw [if_neg e2]; exact h.lo t h1 (by omega)
  · rw [g]
    have e1 : t = k := by omega
    rw [if_pos e1, h.hi (k - 1) (by omega) (by omega)]; congr 1; omega
/-- The second run's one place goes back by one. -/
theorem Rot.left {k m b : Nat} {d e : Array α} (h : Rot (k + 1) m b d e) (hm : b = m + 1) (hk : k + 1 ≤ m) (hs : b ≤ d.size) : Rot k m b d (swp e (k + 1) k) := by
  have hz := h.size
  have g := swp_get e (i := k + 1) (j := k) (by omega) (by omega)
  refine ⟨by rw [swp_size]; exact hz, fun t ht => ?_, fun t h1 h2 => ?_, fun t h1 h2 => ?_⟩
  · rw [g, if_neg (by omega), if_neg (by omega)]; exact h.out t (by omega)
  · have e1 : t = k := by omega
    rw [g, if_pos e1, h.lo (k + 1) (by omega) (by omega)]; congr 1; omega
  · rw [g]
    have e1 : t ≠ k := by omega
    rw [if_neg e1]
    by_cases e2 : t = k + 1
    · rw [if_pos e2, h.out k (by omega)]; congr 1; omega
    · rw [if_neg e2, h.hi t (by omega) h2]

/-! ### The exchange of two runs by exchanges of runs of one length -/
/-- e is d with n places at a exchanged with n places at b. -/
structure Swr (a b n : Nat) (d e : Array α) : Prop where
  size : e.size = d.size
  out : ∀ t, ¬ (a ≤ t ∧ t < a + n) → ¬ (b ≤ t ∧ t < b + n) → e[t]! = d[t]!
  lo : ∀ t, a ≤ t → t < a + n → e[t]! = d[t - a + b]!
  hi : ∀ t, b ≤ t → t < b + n → e[t]! = d[t - b + a]!
theorem Swr.zero (a b : Nat) (d : Array α) : Swr a b 0 d d := ⟨rfl, fun _ _ _ => rfl, fun t h1 h2 => by omega, fun t h1 h2 => by omega⟩
theorem Swr.succ {a b n : Nat} {d e : Array α} (h : Swr a b n d e) (hab : a + n < b) (hs : b + n < d.size) : Swr a b (n + 1) d (swp e (a + n) (b + n)) := by
  have hz := h.size
  have g := swp_get e (i := a + n) (j := b + n) (by omega) (by omega)
  refine ⟨by rw [swp_size]; exact hz, fun t h1 h2 => ?_, fun t h1 h2 => ?_, fun t h1 h2 => ?_⟩
  · rw [g, if_neg (by omega), if_neg (by omega)]; exact h.out t (by omega) (by omega)
  · rw [g, if_neg (by omega)]
    by_cases e2 : t = a + n
    · rw [if_pos e2, h.out (b + n) (by omega) (by omega)]; congr 1; omega
    · rw [if_neg e2]; exact h.lo t h1 (by omega)
  · rw [g]
    by_cases e2 : t = b + n
    · rw [if_pos e2, h.out (a + n) (by omega) (by omega)]; congr 1; omega
    · rw [if_neg e2, if_neg (by omega)]; exact h.hi t h1 (by omega)

/-- Where the exchange of e's runs goes on at d's: what is to come out is the same. -/
structure Rest (a m b i j : Nat) (d e : Array α) : Prop where
  size : e.size = d.size
  out : ∀ t, t < a ∨ b ≤ t → e[t]! = d[t]!
  same : ∀ f, Rot (m - i) m (m + j) e f → Rot a m b d f
theorem Rest.start {a m b : Nat} (d : Array α) (h1 : a ≤ m) (h2 : m ≤ b) : Rest a m b (m - a) (b - m) d d :=
  ⟨rfl, fun _ _ => rfl, fun f h => by rw [show m - (m - a) = a by omega, show m + (b - m) = b by omega] at h; exact h⟩
theorem Rest.more {a m b i j : Nat} {d e f : Array α} (h : Rest a m b i j d e) (hi : i ≤ m - a) (hj : m + j ≤ b) (ham : a ≤ m) (hij : j < i) (s : Swr (m - i) m j e f) : Rest a m b (i - j) j d f :=
  ⟨s.size.trans h.size, fun t ht => by rw [s.out t (by omega) (by omega)]; exact h.out t ht, fun g r => h.same g ⟨r.size.trans s.size,
    fun t ht => by rw [r.out t (by omega), s.out t (by omega) (by omega)],
    fun t h1 h2 => by rw [r.out t (by omega), s.lo t (by omega) (by omega)],
    fun t h1 h2 => by
      by_cases hh : t < m - (i - j) + (m + j - m)
      · rw [r.lo t (by omega) (by omega), s.hi _ (by omega) (by omega)]; congr 1; omega
      · rw [r.hi t (by omega) (by omega), s.out _ (by omega) (by omega)]⟩⟩
theorem Rest.less {a m b i j : Nat} {d e f : Array α} (h : Rest a m b i j d e) (hi : i ≤ m - a) (hj : m + j ≤ b) (ham : a ≤ m) (hij : i < j) (s : Swr (m - i) (m + j - i) i e f) : Rest a m b i (j - i) d f :=
  ⟨s.size.trans h.size, fun t ht => by rw [s.out t (by omega) (by omega)]; exact h.out t ht, fun g r => h.same g ⟨r.size.trans s.size,
    fun t ht => by rw [r.out t (by omega), s.out t (by omega) (by omega)],
    fun t h1 h2 => by
      by_cases hh : t < m - i + (m + (j - i) - m)
      · rw [r.lo t (by omega) (by omega), s.out _ (by omega) (by omega)]
      · rw [r.hi t (by omega) (by omega), s.lo _ (by omega) (by omega)]; congr 1; omega,
    fun t h1 h2 => by rw [r.out t (by omega), s.hi t (by omega) (by omega)]; congr 1; omega⟩⟩
theorem Rest.last {a m b i : Nat} {d e f : Array α} (h : Rest a m b i i d e) (s : Swr (m - i) m i e f) (hi : i ≤ m) : Rot a m b d f :=
  h.same f ⟨s.size, fun t ht => s.out t (by omega) (by omega), fun t h1 h2 => s.lo t h1 (by omega), fun t h1 h2 => by
    rw [s.hi t (by omega) (by omega)]; congr 1; omega⟩

/-! ### The insertion sort's order within a key -/
theorem swp_good {key : α → List UInt8} {a b j : Nat} {d : Array α} (hl : ltKey key d[j + 1]! d[j]! = true) (ha : a ≤ j) (hb : j + 1 < b) (hs : b ≤ d.size) : Good key a b d (swp d (j + 1) j) :=
  (((Rot.refl_m (j + 1) (j + 2) d).left (m := j + 1) rfl (Nat.le_refl _) (by omega)).good (by omega) (by omega) (by omega) (fun x y h1 h2 h3 h4 => by
    obtain rfl : x = j := by omega
    obtain rfl : y = x + 1 := by omega
    exact fun e => key_ne hl e.symm)).mono ha (by omega)
theorem insInner_good {key : α → List UInt8} {a b : Nat} : ∀ (j : Nat) (d : Array α), j < b → b ≤ d.size → Good key a b d (insInner (ltKey key) a j d)
  | 0, d, _, _ => Good.refl _ _ _ _
  | j + 1, d, h1, h2 => by
    rw [insInner]
    split
    · rename_i hc
      simp only [Bool.and_eq_true, decide_eq_true_eq] at hc
      have := swp_good (a := a) (b := b) hc.2 (by omega) h1 h2
      exact this.trans (insInner_good j _ (by omega) (by rw [this.size]; exact h2))
    · exact Good.refl _ _ _ _
theorem insOuter_good {key : α → List UInt8} {a b : Nat} : ∀ (n i : Nat) (d : Array α), b - i ≤ n → b ≤ d.size → Good key a b d (insOuter (ltKey key) a b i d)
  | 0, i, d, h1, h2 => by rw [insOuter, if_neg (by omega)]; exact Good.refl _ _ _ _
  | n + 1, i, d, h1, h2 => by
    rw [insOuter]
    split
    · rename_i hc
      have := insInner_good (key := key) (a := a) (b := b) i d hc h2
      exact this.trans (insOuter_good n (i + 1) _ (by omega) (by rw [this.size]; exact h2))
    · exact Good.refl _ _ _ _
theorem insertion_good (key : α → List UInt8) (a b : Nat) (d : Array α) (hab : a ≤ b) (hb : b ≤ d.size) :
    Good key a b d (insertionSort (ltKey key) d a b) ∧ SortedIn (ltKey key) a b (insertionSort (ltKey key) d a b) :=
  ⟨insOuter_good _ _ _ (Nat.le_refl _) hb, (insertionSort_holds (swo_key key) d a b hab hb).2⟩

/-! ### symMerge's three ways -/
theorem _root_.Go.Sort.SortedIn.le {key : α → List UInt8} {a b : Nat} {d : Array α} (h : SortedIn (ltKey key) a b d) {i j : Nat} (h1 : a ≤ i) (h2 : i ≤ j) (h3 : j < b) : ltKey key d[j]! d[i]! = false := by
  by_cases e : i = j
  · subst e; exact (swo_key key).irrefl _
  · exact h i j h1 (by omega) h3
/-- Two sorted runs exchanged where all of the first lies above all of the second. -/
theorem Rot.joined {key : α → List UInt8} {a m b : Nat} {d e : Array α} (h : Rot a m b d e) (ham : a ≤ m) (hmb : m ≤ b) (hb : b ≤ d.size) (h1 : SortedIn (ltKey key) a m d) (h2 : SortedIn (ltKey key) m b d)
    (hlt : a < m → m < b → ltKey key d[b - 1]! d[a]! = true) : Good key a b d e ∧ (∀ x y, a ≤ x → x < m → m ≤ y → y < b → ltKey key d[y]! d[x]! = true) := by
  have hall : ∀ x y, a ≤ x → x < m → m ≤ y → y < b → ltKey key d[y]! d[x]! = true := fun x y x1 x2 y1 y2 =>
    lt_of_le_lt (h2.le y1 (show y ≤ b - 1 by omega) (by omega)) (lt_of_lt_le (hlt (by omega) (by omega)) (h1.le (Nat.le_refl a) x1 x2))
  exact ⟨h.good ham hmb hb fun x y x1 x2 y1 y2 e => key_ne (hall x y x1 x2 y1 y2) e.symm, hall⟩

/-- m = a + 1: the one goes behind those that are below it: i is the first place that is not. -/
theorem merge_one {key : α → List UInt8} {a m i b : Nat} {d e : Array α} (hm : m = a + 1) (h1 : m ≤ i) (h2 : i ≤ b) (hb : b ≤ d.size) (hs : SortedIn (ltKey key) m b d)
    (hi : i = m ∨ ltKey key d[i - 1]! d[a]! = true) (hj : i = b ∨ ltKey key d[i]! d[a]! = false) (r : Rot a m i d e) : Good key a b d e ∧ SortedIn (ltKey key) a b e := by
  subst hm
  have s1 : SortedIn (ltKey key) a (a + 1) d := fun x y _ _ _ => by omega
  have s2 : SortedIn (ltKey key) (a + 1) i d := fun x y x1 x2 x3 => hs x y x1 x2 (by omega)
  obtain ⟨g, hall⟩ := r.joined (key := key) (by omega) h1 (by omega) s1 s2 (fun _ _ => by
    rcases hi with hi | hi
    · omega
    · exact hi)
  refine ⟨g.mono (Nat.le_refl _) h2, fun x y x1 x2 x3 => ?_⟩
  by_cases y1 : y < a + (i - (a + 1))
  · rw [r.lo x x1 (by omega), r.lo y (by omega) y1]
    exact hs _ _ (by omega) (by omega) (by omega)
  · by_cases y2 : y < i
    · rw [r.hi y (by omega) y2]
      by_cases x4 : x < a + (i - (a + 1))
      · rw [r.lo x x1 x4, show y - (i - (a + 1)) = a by omega]
        exact (swo_key key).asymmA (hall a _ (Nat.le_refl _) (by omega) (by omega) (by omega))
      · omega
    · rw [r.out y (by omega)]
      have yi : ltKey key d[y]! d[a]! = false := by
        rcases hj with hj | hj
        · omega
        · exact (swo_key key).ntrans _ _ _ (hs.le (by omega) (show i ≤ y by omega) x3) hj
      by_cases x4 : x < a + (i - (a + 1))
      · rw [r.lo x x1 x4]; exact hs _ _ (by omega) (by omega) x3
      · by_cases x5 : x < i
        · rw [r.hi x (by omega) x5, show x - (i - (a + 1)) = a by omega]; exact yi
        · rw [r.out x (by omega)]; exact hs _ _ (by omega) x2 x3
/-- b = m + 1: the last one goes ahead of those that are above it: i is the first of them. -/
theorem merge_last {key : α → List UInt8} {a m i b : Nat} {d e : Array α} (hm : b = m + 1) (h1 : a ≤ i) (h2 : i ≤ m) (hb : b ≤ d.size) (hs : SortedIn (ltKey key) a m d)
    (hi : i = a ∨ ltKey key d[m]! d[i - 1]! = false) (hj : i = m ∨ ltKey key d[m]! d[i]! = true) (r : Rot i m b d e) : Good key a b d e ∧ SortedIn (ltKey key) a b e := by
  subst hm
  have s1 : SortedIn (ltKey key) i m d := fun x y x1 x2 x3 => hs x y (by omega) x2 x3
  have s2 : SortedIn (ltKey key) m (m + 1) d := fun x y _ _ _ => by omega
  obtain ⟨g, hall⟩ := r.joined (key := key) h2 (by omega) hb s1 s2 (fun _ _ => by
    rcases hj with hj | hj
    · omega
    · simpa using hj)
  refine ⟨g.mono h1 (Nat.le_refl _), fun x y x1 x2 x3 => ?_⟩
  by_cases x4 : x < i
  · rw [r.out x (by omega)]
    by_cases y1 : y < i
    · rw [r.out y (by omega)]; exact hs x y x1 x2 (by omega)
    · by_cases y2 : y < i + (m + 1 - m)
      · rw [r.lo y (by omega) y2, show y - i + m = m by omega]
        rcases hi with hi | hi
        · omega
        · exact (swo_key key).ntrans _ _ _ hi (hs.le x1 (show x ≤ i - 1 by omega) (by omega))
      · rw [r.hi y (by omega) x3]; exact hs _ _ x1 (by omega) (by omega)
  · by_cases x5 : x < i + (m + 1 - m)
    · rw [r.lo x (by omega) x5, show x - i + m = m by omega]
      rw [r.hi y (by omega) x3]
      exact (swo_key key).asymmA (hall _ m (by omega) (by omega) (Nat.le_refl _) (by omega))
    · rw [r.hi x (by omega) (by omega), r.hi y (by omega) x3]; exact hs _ _ (by omega) (by omega) (by omega)

/-- The general way: behind the exchange of start ≤ i < m with m ≤ i < stop: both halves' runs are sorted, and nothing of the right half is below anything of the left one. -/
structure Halves (key : α → List UInt8) (a s mid t b : Nat) (e : Array α) : Prop where
  s1 : SortedIn (ltKey key) a s e
  s2 : SortedIn (ltKey key) s mid e
  s3 : SortedIn (ltKey key) mid t e
  s4 : SortedIn (ltKey key) t b e
  lr : ∀ x y, a ≤ x → x < mid → mid ≤ y → y < b → ltKey key e[y]! e[x]! = false
theorem halves {key : α → List UInt8} {a s m mid t b : Nat} {d e : Array α} (r : Rot s m t d e) (h1 : a ≤ s) (h2 : s ≤ m) (h3 : m ≤ t) (h4 : t ≤ b) (hb : b ≤ d.size) (hmid : s + (t - m) = mid)
    (sa : SortedIn (ltKey key) a m d) (sb : SortedIn (ltKey key) m b d) (c1 : s < m → m < t → ltKey key d[t - 1]! d[s]! = true) (c2 : a < s → t < b → ltKey key d[t]! d[s - 1]! = false) :
    Good key a b d e ∧ Halves key a s mid t b e := by
  subst hmid
  obtain ⟨g, hall⟩ := r.joined (key := key) h2 h3 (by omega) (fun x y x1 x2 x3 => sa x y (by omega) x2 x3) (fun x y x1 x2 x3 => sb x y x1 x2 (by omega)) c1
  have far : ∀ x y, a ≤ x → x < s → t ≤ y → y < b → ltKey key d[y]! d[x]! = false := fun x y x1 x2 y1 y2 =>
    (swo_key key).ntrans _ _ _ (sb.le h3 y1 y2) ((swo_key key).ntrans _ _ _ (c2 (by omega) (by omega)) (sa.le x1 (show x ≤ s - 1 by omega) (by omega)))
  refine ⟨g.mono h1 h4, ⟨fun x y x1 x2 x3 => ?_, fun x y x1 x2 x3 => ?_, fun x y x1 x2 x3 => ?_, fun x y x1 x2 x3 => ?_, fun x y x1 x2 y1 y2 => ?_⟩⟩
  · rw [r.out x (by omega), r.out y (by omega)]; exact sa _ _ x1 x2 (by omega)
  · rw [r.lo x x1 (by omega), r.lo y (by omega) x3]; exact sb _ _ (by omega) (by omega) (by omega)
  · rw [r.hi x x1 (by omega), r.hi y (by omega) x3]; exact sa _ _ (by omega) (by omega) (by omega)
  · rw [r.out x (by omega), r.out y (by omega)]; exact sb _ _ (by omega) x2 x3
  · by_cases xs : x < s
    · rw [r.out x (by omega)]
      by_cases yt : y < t
      · rw [r.hi y y1 yt]; exact sa _ _ x1 (by omega) (by omega)
      · rw [r.out y (by omega)]; exact far x y x1 xs (by omega) y2
    · rw [r.lo x (by omega) x2]
      by_cases yt : y < t
      · rw [r.hi y y1 yt]; exact (swo_key key).asymmA (hall _ _ (by omega) (by omega) (by omega) (by omega))
      · rw [r.out y (by omega)]; exact sb _ _ (by omega) (by omega) y2
/-- The halves sorted: the whole is. -/
theorem halves_done {key : α → List UInt8} {a mid b : Nat} {e f g : Array α} (lr : ∀ x y, a ≤ x → x < mid → mid ≤ y → y < b → ltKey key e[y]! e[x]! = false) (h1 : a ≤ mid) (h2 : mid ≤ b)
    (gl : Good key a mid e f) (sl : SortedIn (ltKey key) a mid f) (gr : Good key mid b f g) (sr : SortedIn (ltKey key) mid b g) : Good key a b e g ∧ SortedIn (ltKey key) a b g := by
  refine ⟨(gl.mono (Nat.le_refl _) h2).trans (gr.mono h1 (Nat.le_refl _)), fun x y x1 x2 x3 => ?_⟩
  by_cases hx : x < mid
  · rw [gr.out x (by omega)]
    by_cases hy : y < mid
    · rw [gr.out y (by omega)]; exact sl x y x1 x2 hy
    · obtain ⟨y', y1, y2, e1⟩ := gr.mem y (by omega) x3
      obtain ⟨x', x1', x2', e2⟩ := gl.mem x x1 hx
      rw [e1, e2, gl.out y' (by omega)]
      exact lr x' y' x1' x2' y1 y2
  · exact sr x y (by omega) x2 x3
theorem Halves.left {key : α → List UInt8} {a s mid t b : Nat} {e : Array α} (H : Halves key a s mid t b e) (h1 : a ≤ s) (h2 : s ≤ mid) (h : ¬ (a < s ∧ s < mid)) : SortedIn (ltKey key) a mid e := by
  by_cases hs : s = a
  · subst hs; exact H.s2
  · have : s = mid := by omega
    subst this; exact H.s1
theorem Halves.right {key : α → List UInt8} {a s mid t b : Nat} {e f : Array α} (H : Halves key a s mid t b e) (g : Good key a mid e f) (h1 : mid ≤ t) (h2 : t ≤ b) (h : ¬ (mid < t ∧ t < b)) : SortedIn (ltKey key) mid b f := by
  have c : ∀ x y, mid ≤ x → SortedIn (ltKey key) x y e → SortedIn (ltKey key) x y f := fun x y hx hh i j i1 i2 i3 => by
    rw [g.out i (by omega), g.out j (by omega)]; exact hh i j i1 i2 i3
  by_cases hs : t = mid
  · subst hs; exact c _ _ (Nat.le_refl _) H.s4
  · have : t = b := by omega
    subst this; exact c _ _ (Nat.le_refl _) H.s3
theorem Halves.far {key : α → List UInt8} {a s mid t b : Nat} {e f : Array α} (H : Halves key a s mid t b e) (g : Good key a mid e f) (h1 : mid ≤ t) : SortedIn (ltKey key) mid t f ∧ SortedIn (ltKey key) t b f := by
  have c : ∀ x y, mid ≤ x → SortedIn (ltKey key) x y e → SortedIn (ltKey key) x y f := fun x y hx hh i j i1 i2 i3 => by
    rw [g.out i (by omega), g.out j (by omega)]; exact hh i j i1 i2 i3
  exact ⟨c _ _ (Nat.le_refl _) H.s3, c _ _ h1 H.s4⟩
theorem Rot.self {a m b : Nat} (d : Array α) (h : ¬ (a < m ∧ m < b)) (h1 : a ≤ m) (h2 : m ≤ b) : Rot a m b d d := by
  by_cases hs : a = m
  · subst hs; exact Rot.refl_m _ _ _
  · have : m = b := by omega
    subst this; exact Rot.refl_b _ _ _
end Go.Proofs.YtjnfbinomljocaaDoor
