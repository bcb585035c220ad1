/- Package scope: Right, Under, above. -/
import Derived.Test.YtilkmpnloblheaaDoorName
import Derived.Test.YtilkmpnloblheaaDoorScopeP
import Derived.Test.YtilkmpnloblheaaDoorShelf
import Derived.Shelf.Strings.Split
namespace Go.Proofs.YtilkmpnloblheaaDoor
open Go.RowKit Go.Shelf
open Go.Proofs
set_option maxRecDepth 100000

/-- Is it that scope, or below it? -/
def underB (s t : ByteArray) : Bool := Sc.underL s.data.toList t.data.toList
set_option maxHeartbeats 1000000 in
theorem under_c (s t : ByteArray) (ht : t.size ≤ 300) (w : World) : Calls Tryd.prog 12 #[.string s, .string t] w fun e w' => e = .returned (.bool (underB s t)) ∧ w = w' := by
  have h1 : t.toList = t.data.toList := bytes_toList t
  have h2 : s.toList = s.data.toList := bytes_toList s
  have h3 : (t ++ ⟨#[47]⟩ : ByteArray).data.toList = t.data.toList ++ [47] := by simp
  cases ha : (t.toList == [])
  · cases hb : (s.toList == t.toList)
    · have hc := fun w => Tryd.strings_HasPrefix s (t ++ ⟨#[47]⟩) w
      have hu : underB s t = Lib.hasPrefix s.data.toList (t ++ ⟨#[47]⟩ : ByteArray).data.toList := by
        rw [h3]
        rw [h1] at ha
        rw [h1, h2] at hb
        unfold underB Sc.underL Lib.hasPrefix
        rw [ha, hb]; rfl
      rw [hu]
      have HC := Lib.hid hc
      clear hc h1 h2 h3 hu
      go_enter Tryd.func12, Tryd.ntmps12
      go_wp2_with fail
      refine (HC.out _).mono ?_
      rintro e w' ⟨rfl, rfl⟩
      go_wp2_with fail
      go_ret
      exact ⟨rfl, rfl⟩
    · have hu : underB s t = true := by
        rw [h1, h2] at hb
        unfold underB Sc.underL
        rw [hb]; simp
      rw [hu]
      clear h1 h2 h3 hu
      go_enter Tryd.func12, Tryd.ntmps12
      go_wp2_with fail
      go_ret
      exact ⟨rfl, rfl⟩
  · have hu : underB s t = true := by
      rw [h1] at ha
      unfold underB Sc.underL
      rw [ha]; simp
    rw [hu]
    clear h1 h2 h3 hu
    go_enter Tryd.func12, Tryd.ntmps12
    go_wp2_with fail
    go_ret
    exact ⟨rfl, rfl⟩

/-- A text of a list of letters. -/
def bsOf (l : List UInt8) : ByteArray := ⟨l.toArray⟩
theorem bsOf_data (s : ByteArray) : bsOf s.data.toList = s := by
  cases s; simp [bsOf]
theorem data_bsOf (l : List UInt8) : (bsOf l).data.toList = l := by simp [bsOf]
/-- What stands between the slashes. -/
def cutB (s : ByteArray) : List ByteArray := (Sc.cutL s.data.toList).map bsOf
/-- May it be a scope? -/
def scopeOk (s : ByteArray) : Bool := s.size == 0 || (decide ((cutB s).length ≤ 4) && (cutB s).all nameOk)
theorem splitB_bs (k : Nat) (s : ByteArray) : Lib.splitB ⟨#[47]⟩ 0 k s = (Lib.splitK [47] 0 k s.data.toList).map bsOf := by
  have h := Lib.splitB_data ⟨#[47]⟩ 0 k s
  rw [show (⟨#[47]⟩ : ByteArray).data.toList = [47] from rfl] at h
  rw [← h, List.map_map]
  conv => lhs; rw [← List.map_id (Lib.splitB ⟨#[47]⟩ 0 k s)]
  apply List.map_congr_left
  intro x _
  exact (bsOf_data x).symm
/-- SplitN's pieces, where they are few: all of them. -/
theorem split_few (s : ByteArray) (h : (Lib.splitB ⟨#[47]⟩ 0 (min 5 (s.size + 1) - 1) s).length ≤ 4) : Lib.splitB ⟨#[47]⟩ 0 (min 5 (s.size + 1) - 1) s = cutB s := by
  rw [splitB_bs] at h ⊢
  unfold cutB
  rw [List.length_map] at h
  have hle := Sc.cutL_le s.data.toList
  have hsz : s.data.toList.length = s.size := Array.length_toList
  by_cases hc : (Sc.cutL s.data.toList).length ≤ min 5 (s.size + 1) - 1 + 1
  · rw [Sc.splitK_cut _ _ hc]
  · have := Sc.splitK_len (min 5 (s.size + 1) - 1) s.data.toList (by omega)
    omega
theorem split_many (s : ByteArray) (h : 4 < (Lib.splitB ⟨#[47]⟩ 0 (min 5 (s.size + 1) - 1) s).length) : 4 < (cutB s).length := by
  rw [splitB_bs, List.length_map] at h
  unfold cutB
  rw [List.length_map]
  have hle := Sc.cutL_le s.data.toList
  have hsz : s.data.toList.length = s.size := Array.length_toList
  by_cases hc : (Sc.cutL s.data.toList).length ≤ min 5 (s.size + 1) - 1 + 1
  · rw [Sc.splitK_cut _ _ hc] at h; exact h
  · omega
theorem cellsOf_get (P : List ByteArray) (N j : Nat) (h : j < P.length) : (Lib.cellsOf P N)[j]? = some (.string P[j]!) := by
  unfold Lib.cellsOf
  rw [List.getElem?_toArray, List.getElem?_append_left (by simpa using h), List.getElem?_map, List.getElem?_eq_getElem h, getElem!_pos P j h]; rfl
theorem all_take_succ (P : List ByteArray) (f : ByteArray → Bool) (j : Nat) (hj : j < P.length) (h : (P.take j).all f = true) (hf : f P[j]! = true) : (P.take (j + 1)).all f = true := by
  rw [List.take_add_one, List.getElem?_eq_getElem hj, List.all_append, h, ← getElem!_pos P j hj]; simpa using hf
theorem all_false_at (P : List ByteArray) (f : ByteArray → Bool) (j : Nat) (hj : j < P.length) (hf : f P[j]! = false) : P.all f = false := by
  cases h : P.all f
  · rfl
  · rw [List.all_eq_true] at h
    have := h P[j]! (by rw [getElem!_pos P j hj]; exact List.getElem_mem hj)
    rw [hf] at this; cases this

set_option maxHeartbeats 1000000 in
theorem right_c (s : ByteArray) (w : World) (hs : s.size ≤ 1000) (hm : ∃ m, w.cell? ⟨0, 0, none⟩ = some (.int .i64 m)) :
    Calls Tryd.prog 11 #[.string s] w fun e w' => e = .returned (.bool (scopeOk s)) ∧ Below w.heap.size w w' := by
  by_cases h0 : s.size = 0
  · have : s = ⟨#[]⟩ := by
      cases s with | mk d => simp [ByteArray.size] at h0; rw [h0]
    subst this
    have hk : scopeOk ⟨#[]⟩ = true := rfl
    rw [hk]
    clear hk hs hm h0
    go_enter Tryd.func11, Tryd.ntmps11
    go_wp2
    go_ret
    exact ⟨rfl, Below.refl _ _⟩
  have hne : ¬ s.toList = [] := fun e => h0 (by rw [bytes_toList] at e; have := congrArg List.length e; simpa using this)
  have hne2 : s.toList.isEmpty = false := by simpa using hne
  obtain ⟨m, hm⟩ := hm
  have hc := Tryd.strings_SplitN s ⟨#[47]⟩ 5 m w (by omega) hm (by decide) (by decide) (by decide)
  obtain ⟨P, hP⟩ : ∃ P, P = Lib.splitB ⟨#[47]⟩ 0 (min 5 (s.size + 1) - 1) s := ⟨_, rfl⟩
  obtain ⟨N, hN⟩ : ∃ N, N = min 5 (s.size + 1) := ⟨_, rfl⟩
  rw [← hP, ← hN] at hc
  have HC := Lib.hid hc
  have hsz : (s.size == 0) = false := by simpa using h0
  have HK : Aside (4 < P.length → scopeOk s = false) := fun h => by
    unfold scopeOk
    rw [hsz, decide_eq_false (Nat.not_le.2 (split_many s (by rw [← hP]; exact h)))]; rfl
  have HK2 : Aside (¬ 4 < P.length → scopeOk s = P.all nameOk) := fun h => by
    have e := split_few s (by rw [← hP]; omega)
    rw [← hP] at e
    unfold scopeOk
    rw [hsz, ← e, decide_eq_true (Nat.not_lt.1 h)]; rfl
  have HP5 : P.length ≤ 5 := by
    have := Lib.splitB_length_le ⟨#[47]⟩ 0 (min 5 (s.size + 1) - 1) s
    rw [← hP] at this; omega
  clear hc hP hN hm hsz h0 hs
  generalize scopeOk s = R at *
  go_enter Tryd.func11, Tryd.ntmps11
  go_wp2_with fail
  refine HC.out.mono ?_
  rintro e w1 ⟨rfl, hw1⟩
  have HB : Aside (Below w.heap.size w w1) := by rw [hw1]; exact (Below.refl _ _).alloc (Nat.le_refl _) _
  have HCell : Aside (∀ j, j < P.length → w1.cell? ⟨w.heap.size, j, none⟩ = some (.string P[j]!)) := fun j hj => by
    rw [hw1, World.cell?_alloc_new]; exact cellsOf_get P N j hj
  clear hw1 HC
  by_cases h4 : 4 < P.length
  · have h4' : (4 : Int) < (P.length : Int) := by omega
    have hr := HK.out h4
    subst hr
    go_wp2_with fail
    go_ret
    exact ⟨rfl, HB.out⟩
  · have h4' : (P.length : Int) ≤ 4 := by omega
    have h4d : decide ((4 : Int) < (P.length : Int)) = false := by simp; omega
    have HR := Lib.hid (HK2.out h4)
    clear h4 HK HK2
    obtain ⟨L, hL⟩ : ∃ L, L = P.length := ⟨_, rfl⟩
    have HL := Lib.hid hL
    rw [← hL] at HCell h4' h4d HP5 ⊢
    clear hL
    go_wp2_with fail
    go_loop [15] (fun k => ∃ j : Nat, j ≤ L ∧ k = .int .i64 j ∧ Aside ((P.take j).all nameOk = true)) (fun k => L - (RowKit.intOf k).toNat)
    case atStart => exact ⟨0, Nat.zero_le _, rfl, by simp [Aside]⟩
    case round =>
      obtain ⟨j, hj, rfl, hall⟩ := hrel
      by_cases hlt : j < L
      · have hcell := HCell.out j hlt
        have hjz : (j : Int) < (L : Int) := by omega
        obtain ⟨p, hp⟩ : ∃ p, p = P[j]! := ⟨_, rfl⟩
        rw [← hp] at hcell
        have HP := Lib.hid hp
        clear hp
        have hn := name_c p
        cases hk : nameOk p
        · rw [hk] at hn
          have HNm := Lib.hid hn
          have HX : Hid (R = false) := Lib.hid (by rw [HR.out]; exact all_false_at P nameOk j (by rw [← HL.out]; exact hlt) (by rw [← HP.out]; exact hk))
          clear hn hk
          go_wp2_with fail
          refine (HNm.out _).mono ?_
          rintro e w' ⟨rfl, rfl⟩
          go_wp2_with fail
          go_ret
          exact ⟨by rw [HX.out]; rfl, HB.out⟩
        · rw [hk] at hn
          have HNm := Lib.hid hn
          have HX : Hid ((P.take (j + 1)).all nameOk = true) := Lib.hid (all_take_succ P nameOk j (by rw [← HL.out]; exact hlt) hall.out (by rw [← HP.out]; exact hk))
          clear hn hk
          go_wp2_with fail
          refine (HNm.out _).mono ?_
          rintro e w' ⟨rfl, rfl⟩
          go_wp2_with fail
          go_round
          case rel => exact ⟨j + 1, by omega, by go_num, HX.out⟩
          case measure => simp only [RowKit.intOf]; omega
      · obtain rfl : j = L := by omega
        have HX : Hid (R = true) := Lib.hid (by rw [HR.out, ← hall.out, HL.out, List.take_length])
        clear hlt
        go_wp2_with fail
        go_ret
        exact ⟨by rw [HX.out]; rfl, HB.out⟩
end Go.Proofs.YtilkmpnloblheaaDoor
