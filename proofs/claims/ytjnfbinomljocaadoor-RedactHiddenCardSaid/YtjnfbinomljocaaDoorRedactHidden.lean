/- RedactHidden: what is hidden is told rising, each once; further down no less is hidden. -/
import Derived.Test.YtjnfbinomljocaaDoorHdF
import Derived.Test.YtjnfbinomljocaaDoorMapN
import Derived.Test.YtjnfbinomljocaaDoorOpenI2
import Derived.Deep.DeepCutAuto
import Derived.Deep.RegionWith
namespace Go.Proofs.YtjnfbinomljocaaDoor
open Go.RowKit Go.Shelf Go.Sort
open Go.Proofs Go.Maps
set_option maxRecDepth 100000

/-! ### Plainly -/
def atN (n : ByteArray) : At := ⟨n, 0, 0, 0, ⟨#[]⟩, false⟩
/-- What the law's map was told, the last one first. -/
def tellN (L : List Ru) (f : Ru → Bool) : List At := ((L.filter f).map (fun r => atN r.nm)).reverse
theorem tellN_snoc (L : List Ru) (f : Ru → Bool) (r : Ru) : tellN (L ++ [r]) f = if f r then atN r.nm :: tellN L f else tellN L f := by
  unfold tellN
  rw [List.filter_append, List.map_append, List.reverse_append]
  cases h : f r <;> simp [h]
theorem tellN_len (L : List Ru) (f : Ru → Bool) : (tellN L f).length ≤ L.length := by
  unfold tellN
  rw [List.length_reverse, List.length_map]
  exact List.length_filter_le _ _
def ddN : List At → List (List UInt8)
  | [] => []
  | a :: l => if keyA a ∈ ddN l then ddN l else keyA a :: ddN l
theorem ddN_mem (x : List UInt8) : ∀ l, x ∈ ddN l ↔ ∃ a ∈ l, keyA a = x
  | [] => by simp [ddN]
  | a :: l => by
    unfold ddN
    have ih := ddN_mem x l
    by_cases h : keyA a ∈ ddN l
    · rw [if_pos h, ih]
      constructor
      · rintro ⟨b, hb, rfl⟩; exact ⟨b, List.mem_cons_of_mem _ hb, rfl⟩
      · rintro ⟨b, hb, rfl⟩
        rcases List.mem_cons.1 hb with rfl | hb
        · exact (ddN_mem _ l).1 h
        · exact ⟨b, hb, rfl⟩
    · rw [if_neg h, List.mem_cons, ih]
      constructor
      · rintro (rfl | ⟨b, hb, rfl⟩)
        · exact ⟨a, List.mem_cons_self, rfl⟩
        · exact ⟨b, List.mem_cons_of_mem _ hb, rfl⟩
      · rintro ⟨b, hb, rfl⟩
        rcases List.mem_cons.1 hb with rfl | hb
        · exact Or.inl rfl
        · exact Or.inr ⟨b, hb, rfl⟩
theorem ddN_nodup : ∀ l, (ddN l).Nodup
  | [] => List.nodup_nil
  | a :: l => by
    unfold ddN
    by_cases h : keyA a ∈ ddN l
    · rw [if_pos h]; exact ddN_nodup l
    · rw [if_neg h]; exact List.nodup_cons.2 ⟨h, ddN_nodup l⟩
theorem size_ddN (f : At → Value) : ∀ l, Maps.size (mapOf f l) = (ddN l).length
  | [] => rfl
  | a :: l => by
    unfold mapOf ddN
    rw [size_put (mapOf_tidy f l), mapOf_has, size_ddN f l]
    by_cases h : keyA a ∈ ddN l
    · rw [if_pos h, if_pos]
      obtain ⟨b, hb, e⟩ := (ddN_mem _ l).1 h
      rw [List.any_eq_true]
      exact ⟨b, hb, by rw [e]; simp [keyA]⟩
    · rw [if_neg h, if_neg, List.length_cons]
      intro hc
      rw [List.any_eq_true] at hc
      obtain ⟨b, hb, e⟩ := hc
      exact h ((ddN_mem _ l).2 ⟨b, hb, by simpa [keyA] using e⟩)
theorem nodup_le {α : Type} [DecidableEq α] : ∀ (l m : List α), l.Nodup → (∀ a ∈ l, a ∈ m) → l.length ≤ m.length
  | [], _, _, _ => Nat.zero_le _
  | a :: l, m, hn, hs => by
    have ha : a ∈ m := hs a List.mem_cons_self
    have h2 := nodup_le l (m.erase a) (List.nodup_cons.1 hn).2 (fun b hb => (List.mem_erase_of_ne (fun e => (List.nodup_cons.1 hn).1 (by rw [← e]; exact hb))).2 (hs b (List.mem_cons_of_mem _ hb)))
    rw [List.length_erase_of_mem ha] at h2
    have : 0 < m.length := List.length_pos_of_mem ha
    rw [List.length_cons]; omega
theorem hid_nodup (rs : List Ru) (tn : Int) (who s : ByteArray) : ((hidN rs tn who s).map (fun n => n.data.toList)).Nodup := by
  unfold List.Nodup
  rw [List.pairwise_map]
  refine (hidN_rise rs tn who s).imp (fun {a b} h e => ?_)
  rw [bytesLess_eq, bytes_toList, bytes_toList, e] at h
  exact absurd (of_decide_eq_true h) (List.lt_irrefl _)
theorem tell_mem (L : List Ru) (tn : Int) (who s : ByteArray) (x : List UInt8) : (∃ a ∈ tellN L (hideB tn who s), keyA a = x) ↔ x ∈ (hidN L tn who s).map (fun n => n.data.toList) := by
  rw [List.mem_map]
  constructor
  · rintro ⟨a, ha, rfl⟩
    unfold tellN at ha
    rw [List.mem_reverse, List.mem_map] at ha
    obtain ⟨r, hr, rfl⟩ := ha
    obtain ⟨h1, h2⟩ := List.mem_filter.1 hr
    exact ⟨r.nm, (hidN_mem L tn who s r.nm).2 ⟨r, h1, h2, rfl⟩, rfl⟩
  · rintro ⟨n, hn, rfl⟩
    obtain ⟨r, h1, h2, rfl⟩ := (hidN_mem L tn who s n).1 hn
    exact ⟨atN r.nm, by unfold tellN; rw [List.mem_reverse, List.mem_map]; exact ⟨r, List.mem_filter.2 ⟨h1, h2⟩, rfl⟩, rfl⟩
theorem map_size (L : List Ru) (tn : Int) (who s : ByteArray) (f : At → Value) : Maps.size (mapOf f (tellN L (hideB tn who s))) = (hidN L tn who s).length := by
  rw [size_ddN]
  have e : (hidN L tn who s).length = ((hidN L tn who s).map (fun n => n.data.toList)).length := by rw [List.length_map]
  rw [e]
  refine Nat.le_antisymm (nodup_le _ _ (ddN_nodup _) fun x hx => ?_) (nodup_le _ _ (hid_nodup L tn who s) fun x hx => ?_)
  · exact (tell_mem L tn who s x).1 ((ddN_mem x _).1 hx)
  · exact (ddN_mem x _).2 ((tell_mem L tn who s x).2 hx)
theorem map_at (L : List Ru) (tn : Int) (who s c : ByteArray) : (mapOf (fun _ => .bool true) (tellN L (hideB tn who s))).atKey (keyN c) (.held (.bool false)) = .held (.bool (Lib.containsS (hidN L tn who s) c)) := by
  rw [mapOf_at]
  have key : ∀ x : ByteArray, x.data.toList = c.data.toList → x = c := fun x h => by rw [← bsOf_data x, h, bsOf_data]
  cases hf : (tellN L (hideB tn who s)).find? (fun a => keyA a == c.data.toList) with
  | some a =>
    have hm := List.mem_of_find?_eq_some hf
    have hp : keyA a = c.data.toList := by simpa using List.find?_some hf
    have : c.data.toList ∈ (hidN L tn who s).map (fun n => n.data.toList) := (tell_mem L tn who s _).1 ⟨a, hm, hp⟩
    obtain ⟨n, hn, e⟩ := List.mem_map.1 this
    rw [key n e] at hn
    rw [(Lib.containsS_iff _ _).2 hn]
  | none =>
    have : Lib.containsS (hidN L tn who s) c = false := by
      rw [Bool.eq_false_iff]
      intro h
      have hm := (Lib.containsS_iff _ _).1 h
      obtain ⟨a, ha, e⟩ := (tell_mem L tn who s c.data.toList).2 (List.mem_map.2 ⟨c, hm, rfl⟩)
      have := List.find?_eq_none.1 hf a ha
      rw [e] at this
      simp at this
    rw [this]
theorem hidN_nodup (rs : List Ru) (tn : Int) (who s : ByteArray) : (hidN rs tn who s).Nodup := by
  refine (hidN_rise rs tn who s).imp (fun {a b} h e => ?_)
  rw [bytesLess_eq, e] at h
  exact absurd (of_decide_eq_true h) (List.lt_irrefl _)
/-- How many of the first j are hidden ahead, too. -/
def cntN (ys xs : List ByteArray) (j : Nat) : Nat := ((ys.take j).filter (Lib.containsS xs)).length
theorem cntN_succ (ys xs : List ByteArray) (j : Nat) (hj : j < ys.length) : cntN ys xs (j + 1) = if Lib.containsS xs (ys.getD j ByteArray.empty) then cntN ys xs j + 1 else cntN ys xs j := by
  unfold cntN
  rw [List.take_add_one, List.getElem?_eq_getElem hj, List.filter_append]
  have e : ys.getD j ByteArray.empty = ys[j] := by simp [List.getD, List.getElem?_eq_getElem hj]
  rw [e]
  cases h : Lib.containsS xs ys[j] <;> simp [h]
theorem cntN_le (ys xs : List ByteArray) (j : Nat) : cntN ys xs j ≤ j := by
  unfold cntN
  exact Nat.le_trans (List.length_filter_le _ _) (by simp; omega)
theorem cntN_all {ys xs : List ByteArray} (hx : xs.Nodup) (hy : ys.Nodup) (hs : ∀ a ∈ xs, a ∈ ys) : cntN ys xs ys.length = xs.length := by
  unfold cntN
  rw [List.take_length]
  refine Nat.le_antisymm (nodup_le _ _ (hy.filter _) fun a ha => ?_) (nodup_le _ _ hx fun a ha => ?_)
  · exact (Lib.containsS_iff _ _).1 (List.mem_filter.1 ha).2
  · exact List.mem_filter.2 ⟨hs a ha, (Lib.containsS_iff _ _).2 ha⟩
theorem under_more {s sc : ByteArray} (h : underB s sc = true) : underB (s ++ ⟨#[47, 122]⟩) sc = true := by
  have h1 : underB (s ++ ⟨#[47, 122]⟩) s = true := by
    unfold underB Sc.underL
    have e : (s ++ (⟨#[47, 122]⟩ : ByteArray)).data.toList = s.data.toList ++ [47, 122] := by simp
    rw [e]
    have : (s.data.toList ++ [47]).isPrefixOf (s.data.toList ++ [47, 122]) = true := List.isPrefixOf_iff_prefix.2 ⟨[122], by simp⟩
    rw [this]; simp
  exact Sc.underL_trans h1 h
theorem hid_more (L : List Ru) (tn : Int) (who s : ByteArray) : ∀ n ∈ hidN L tn who s, n ∈ hidN L tn who (s ++ ⟨#[47, 122]⟩) := fun n hn => by
  obtain ⟨r, h1, h2, h3⟩ := (hidN_mem L tn who s n).1 hn
  refine (hidN_mem L tn who _ n).2 ⟨r, h1, ?_, h3⟩
  unfold hideB at h2 ⊢
  rw [Bool.and_eq_true] at h2 ⊢
  exact ⟨h2.1, under_more h2.2⟩
theorem hid_less (L : List Ru) (tn : Int) (who s : ByteArray) (j : Nat) (h0 : 0 < j) (hj : j < (hidN L tn who s).length) : Op.bytesLess ((hidN L tn who s).getD (j - 1) ByteArray.empty).toList ((hidN L tn who s).getD j ByteArray.empty).toList = true := by
  have := List.pairwise_iff_getElem.1 (hidN_rise L tn who s) (j - 1) j (by omega) hj (by omega)
  simpa [List.getD, List.getElem?_eq_getElem hj, List.getElem?_eq_getElem (show j - 1 < (hidN L tn who s).length by omega)] using this
theorem hid_has (L : List Ru) (tn : Int) (who s : ByteArray) (j : Nat) (hj : j < (hidN L tn who s).length) : Lib.containsS (hidN L tn who s) ((hidN L tn who s).getD j ByteArray.empty) = true := by
  refine (Lib.containsS_iff _ _).2 ?_
  simp [List.getD, List.getElem?_eq_getElem hj]
theorem hid_size (L : List Ru) (tn : Int) (who s : ByteArray) (M : Nat) (hM : ∀ r ∈ L, r.nm.size ≤ M) (j : Nat) (hj : j < (hidN L tn who s).length) : ((hidN L tn who s).getD j ByteArray.empty).size ≤ M := by
  have hm : (hidN L tn who s).getD j ByteArray.empty ∈ hidN L tn who s := by simp [List.getD, List.getElem?_eq_getElem hj]
  obtain ⟨r, h1, _, h3⟩ := (hidN_mem L tn who s _).1 hm
  rw [← h3]; exact hM r h1

/-! ### The program -/
theorem lawT : Keyed Tryd.prog 9 := string_keyed Tryd.underlying9
theorem zeroT (w : World) : (zeroValue 4).run Tryd.prog w = .ok (.bool false) w := by kernel_rfl
/-- The law's map holds what was told. -/
def MapT (W : World) (M : Nat) (l : List At) : Prop := W.ownsMap Tryd.prog 9 asIs M l.length (mapOf (fun _ => .bool true) l)
theorem MapT.below {W W' : World} {M : Nat} {l : List At} (h : MapT W M l) (hb : Below W.heap.size W W') : MapT W' M l := by
  have hg : W.grownBy W' none := ⟨hb.os, hb.tape, hb.output, hb.size, fun k hk _ => hb.block k hk⟩
  exact h.kept hg (by simp)
theorem MapT.look {W : World} {M : Nat} {l : List At} (h : MapT W M l) (c : ByteArray) (hc : c.size ≤ MB) (q : Bool) (hq : (mapOf (fun _ => .bool true) l).atKey (keyN c) (.held (.bool false)) = .held (.bool q)) : (Instr.lookup 38 (.map (some M)) (.string c) false).run Tryd.prog W = .ok (.bool q) W := by
  have hkey : keyOf Tryd.prog 9 (.string c) = some (keyN c) := WideMaps.keyOf_string_mk Tryd.underlying9 (by unfold MB at hc; unfold maxLen; omega)
  obtain ⟨v, ps, hrun, hv⟩ := World.ownsMap.lookup h lawT Tryd.underlying38 (zeroT _) (zd := .held (.bool false)) (zp := []) rfl hkey
  rw [hq] at hv
  obtain rfl : v = .bool q := by simp only [asIs, Option.some.injEq, Prod.mk.injEq, DataW.held.injEq] at hv; exact hv.1
  exact hrun
theorem MapT.put {W : World} {M B : Nat} {l : List At} (h : MapT W M l) (c : ByteArray) (hc : c.size ≤ MB) (hl : l.length ≤ 1000) (hB : B ≤ M) : ∃ W', (Instr.mapUpdate 38 (.map (some M)) (.string c) (.bool true)).run Tryd.prog W = .ok () W' ∧ Aside (MapT W' M (atN c :: l) ∧ Below B W W') := by
  have hkey : keyOf Tryd.prog 9 (.string c) = some (keyN c) := WideMaps.keyOf_string_mk Tryd.underlying9 (by unfold MB at hc; unfold maxLen; omega)
  obtain ⟨w5, hrun, hown, hgr⟩ := World.ownsMap.update h lawT Tryd.underlying38 (by unfold maxLen; omega) hkey (val := .bool true) (d := .held (.bool true)) (ps := []) rfl
  have hlt : M < W.heap.size := World.ownsMap.lt h
  exact ⟨w5, hrun, hown, (Below.refl _ _).grown hgr (by omega) (fun k e => by injection e with e; omega)⟩

set_option maxHeartbeats 16000000 in
theorem redactHidden_c (ao : Option Addr) (cap : Nat) (rs : List Ru) (a b : Int) (s : ByteArray) (w : World) (hm : MaxI w) (hR : RulesB w.heap.size w ao rs) (hI : ∀ q ∈ rs, RuIs MB w q) (hb : rs.length * 104 ≤ MB) :
    Calls Tryd.prog 4 #[.slice ao rs.length cap, .agg #[.int .i64 a, .int .i64 b], .string s] w fun e w' => e = .returned (.bool true) ∧ Below w.heap.size w w' := by
  have hlr : rs.length ≤ 4611686018427387904 := by unfold MB at hb; omega
  have HFT : Aside (∀ W, Below w.heap.size w W → Calls Tryd.prog 6 #[] W fun e w' => e = .returned (.bool true) ∧ Below W.heap.size W w') := fun W hW => fit11_c W (hm.below hW)
  have HLT : Aside (∀ W, Below w.heap.size w W → Calls Tryd.prog 7 #[.slice ao rs.length cap] W fun e w' => e = .returned (.bool (lightR rs)) ∧ Below W.heap.size W w') := fun W hW => light10_c ao cap rs W (hR.on hW) hlr (fun r hr => (ruIs_ok2 (hI r hr)).2)
  have HRS : Aside (lightR rs = true → ∀ W, Below w.heap.size w W → Calls Tryd.prog 8 #[.slice ao rs.length cap] W fun e w' => ∃ bo bcap, e = .returned (.slice bo (rs.filter rrightB).length bcap) ∧ Aside (RowsN W.heap.size w' bo (rs.filter rrightB) ∧ Below W.heap.size W w')) := fun h W hW => by
    obtain ⟨h1, h2⟩ := lightR_all h hI
    exact rights_c ao cap rs W (hR.on hW) (by omega) (fun r hr => ⟨(ruIs_ok2 (hI r hr)).2, Nat.le_trans (h2 r hr).1 (by decide)⟩) (hm.below hW)
  have HSC : Aside (s.size ≤ 60 → ∀ W, Below w.heap.size w W → Calls Tryd.prog 14 #[.string s] W fun e w' => e = .returned (.bool (scopeOk s)) ∧ Below W.heap.size W w') := fun h W hW => scright_c s W (by omega) (hm.below hW)
  obtain ⟨t, ht⟩ : ∃ t, t = s ++ (⟨#[47, 122]⟩ : ByteArray) := ⟨_, rfl⟩
  have hts : t.size = s.size + 2 := by rw [ht, ByteArray.size_append]; rfl
  have HT := Lib.hid ht
  have HST : Aside (s.size ≤ 60 → ∀ W, Below w.heap.size w W → Calls Tryd.prog 14 #[.string t] W fun e w' => e = .returned (.bool (scopeOk t)) ∧ Below W.heap.size W w') := fun h W hW => scright_c t W (by omega) (hm.below hW)
  obtain ⟨L, hL⟩ : ∃ L, L = rs.filter rrightB := ⟨_, rfl⟩
  have hLm : ∀ r ∈ L, r ∈ rs ∧ rrightB r = true := fun r hr => by rw [hL] at hr; exact List.mem_filter.1 hr
  have hLn : lightR rs = true → L.length ≤ 80 := fun h => by
    rw [hL]; exact Nat.le_trans (List.length_filter_le _ _) (lightR_all h hI).1
  have HLN := Lib.hid hLn
  have HRL : Aside (∀ W, Below w.heap.size w W → ∀ r ∈ L, CondsB W.heap.size W r.co r.cs) := fun W h r hr => (hR.2 r (hLm r hr).1).on h
  have HXL : ∀ r ∈ L, ∀ tn who, ofR r 3 tn who = true → r.sc.size ≤ 300 := fun r hr tn who h => Nat.le_trans (hide_scope (hLm r hr).2 h) (by decide)
  have HHI : Aside (lightR rs = true → ∀ (bo : Option Addr) (bcap : Nat) (W : World) (tn : Int) (who s2 : ByteArray), RulesB W.heap.size W bo L → Calls Tryd.prog 15 #[.slice bo L.length bcap, .int .i64 tn, .string who, .string s2] W fun e w' => ∃ xo xcap, e = .returned (.slice xo (hidN L tn who s2).length xcap) ∧ Aside (TxtN W.heap.size w' xo (hidN L tn who s2) ∧ Below W.heap.size W w')) := fun h bo bcap W tn who s2 hRW => hidden_c bo bcap L tn who s2 W hRW (by have := hLn h; omega) (fun r hr => HXL r hr tn who)
  have HUN : Aside (∀ r ∈ L, ∀ tn who, ofR r 3 tn who = true → ∀ W, Calls Tryd.prog 16 #[.string s, .string r.sc] W fun e w' => e = .returned (.bool (underB s r.sc)) ∧ W = w') := fun r hr tn who h W => under_c s r.sc (HXL r hr tn who h) W
  have HNM : Aside (∀ r ∈ L, r.nm.size ≤ MB) := fun r hr => (hI r (hLm r hr).1).2.2
  rw [← hL] at HRS
  generalize lightR rs = lt at *
  generalize scopeOk s = so at *
  generalize scopeOk t = st at *
  obtain ⟨N, hN⟩ : ∃ N, N = L.length := ⟨_, rfl⟩
  have HN := Lib.hid hN
  rw [← hN] at HRS HHI HLN
  generalize rs.length = nr at *
  have z1 : w.heap.size + 1 ≤ (w.alloc (.cells #[.int .i64 a, .int .i64 b] 23)).heap.size := by simp
  have HB0 : Aside (Below w.heap.size w (w.alloc (.cells #[.int .i64 a, .int .i64 b] 23))) := (Below.refl _ _).alloc (Nat.le_refl _) _
  have HKP : Aside (∀ W, Below (w.heap.size + 1) (w.alloc (.cells #[.int .i64 a, .int .i64 b] 23)) W → W.cell? ⟨w.heap.size, 0, none⟩ = some (.int .i64 a) ∧ W.cell? ⟨w.heap.size, 1, none⟩ = some (.int .i64 b)) := fun W hW => ⟨one_lay hW 0 _ rfl, one_lay hW 1 _ rfl⟩
  have HMK := fun W : World => World.ownsMap_made (H := Value) W Tryd.prog 9 asIs
  have HMK' := Lib.hid HMK
  have hmm := @run_makeMap Tryd.prog
  clear hm hR hI hb hlr hLm hLn hL hN HXL HMK ht hts
  go_enter Tryd.func4, Tryd.ntmps4
  go_wp2_with fail
  generalize hW0 : (w.alloc (.cells #[.int .i64 a, .int .i64 b] 23)) = w0 at *
  refine (HFT.out _ HB0.out).mono ?_
  rintro e w1 ⟨rfl, hb⟩
  have HA1 : Aside (Below (w.heap.size + 1) w0 w1) := hb.mono z1
  clear hb HFT
  go_wp2_with fail
  refine (HLT.out _ (HB0.out.trans (HA1.out.mono (by omega)))).mono ?_
  rintro e w2 ⟨rfl, hb⟩
  have HA2 : Aside (Below (w.heap.size + 1) w0 w2) := HA1.out.trans (hb.mono (Nat.le_trans z1 HA1.out.size))
  clear hb HLT HA1
  cases lt
  · go_wp2_with fail
    go_ret
    exact ⟨rfl, HB0.out.trans (HA2.out.mono (by omega))⟩
  by_cases h60 : 60 < s.size
  · have h60z : (60 : Int) < (s.size : Int) := by omega
    have hd : decide ((60 : Int) < (s.size : Int)) = true := decide_eq_true h60z
    go_wp2_with fail
    go_ret
    exact ⟨rfl, HB0.out.trans (HA2.out.mono (by omega))⟩
  have h60z : ¬ (60 : Int) < (s.size : Int) := by omega
  have hd : decide ((60 : Int) < (s.size : Int)) = false := decide_eq_false h60z
  have HSC' := Lib.hid (HSC.out (by omega))
  have HST' := Lib.hid (HST.out (by omega))
  have HRS' := Lib.hid (HRS.out (by first | trivial | rfl))
  have HHI' := Lib.hid (HHI.out (by first | trivial | rfl))
  have hL80 : N ≤ 80 := HLN.out (by first | trivial | rfl)
  clear HSC HST HRS HHI HLN
  go_wp2_with fail
  refine (HSC'.out _ (HB0.out.trans (HA2.out.mono (by omega)))).mono ?_
  rintro e w3 ⟨rfl, hb⟩
  have HA3 : Aside (Below (w.heap.size + 1) w0 w3) := HA2.out.trans (hb.mono (Nat.le_trans z1 HA2.out.size))
  clear hb HSC' HA2
  cases so
  · go_wp2_with fail
    go_ret
    exact ⟨rfl, HB0.out.trans (HA3.out.mono (by omega))⟩
  go_wp2_with fail
  refine (HRS'.out _ (HB0.out.trans (HA3.out.mono (by omega)))).mono ?_
  rintro e w5 ⟨bo, bcap, rfl, HN5⟩
  have HA5 : Aside (Below (w.heap.size + 1) w0 w5) := HA3.out.trans (HN5.out.2.mono (Nat.le_trans z1 HA3.out.size))
  have HBW5 : Aside (Below w.heap.size w w5) := HB0.out.trans (HA5.out.mono (by omega))
  have HR5 : Aside (RulesB w5.heap.size w5 bo L) := RowsN.rules HN5.out.1 (HRL.out _ HBW5.out)
  obtain ⟨y0, y1⟩ := HKP.out _ HA5.out
  clear HRS' HN5 HA3 HRL HKP HA5 h60z hd
  go_upto_region 6 with fail
  go_cut [7, 8] (fun s7 s8 wx => s7 = .int .i64 (bits .and .i64 a 1) ∧ s8 = .string (who4 b) ∧ Aside (Below w5.heap.size w5 wx))
  case first =>
    have HD : Aside (∀ o : Obj, Below w5.heap.size w5 (w5.alloc o) ∧ Below w5.heap.size w5 (w5.drew.alloc o) ∧ Below w5.heap.size w5 (w5.alloc o).drew) := fun o => ⟨(Below.refl _ _).alloc (Nat.le_refl _) _, (below_drew1 w5).alloc (Nat.le_refl _) _, ((Below.refl _ _).alloc (Nat.le_refl _) _).trans ((below_drew1 (w5.alloc o)).mono (show w5.heap.size ≤ (w5.alloc o).heap.size by simp))⟩
    have hW4 : Aside (who4 b = if bits .and .i64 b 3 = 0 then ⟨#[97]⟩ else if bits .and .i64 b 3 = 1 then ⟨#[98]⟩ else if bits .and .i64 b 3 = 2 then ⟨#[99]⟩ else ⟨#[100]⟩) := rfl
    generalize who4 b = wh at *
    have c4 := World.cell?_alloc_new w5 #[.string ⟨#[97]⟩, .string ⟨#[98]⟩, .string ⟨#[99]⟩, .string ⟨#[100]⟩] 9
    have g0 := c4 0; have g1 := c4 1; have g2 := c4 2; have g3 := c4 3
    simp only [List.getElem?_toArray, List.getElem?_cons_zero, List.getElem?_cons_succ] at g0 g1 g2 g3
    have y0a := fun o => Lib.cell?_alloc_some (W := w5) o y0
    have y1a := fun o => Lib.cell?_alloc_some (W := w5) o y1
    clear c4
    rcases and4 b with h4 | h4 | h4 | h4
    all_goals
      rw [h4] at hW4
      have hw4 := hW4.out
      simp only [reduceIte, Int.reduceEq] at hw4
      subst hw4
      clear hW4
      go_region
      all_goals
        go_wp2_with fail
        go_meet
        first | exact ⟨rfl, rfl, (HD.out _).2.2⟩ | exact ⟨rfl, rfl, (HD.out _).1⟩ | exact ⟨rfl, rfl, (HD.out _).2.1⟩
  case rest =>
    obtain ⟨rfl, rfl, HB6⟩ := hcut
    generalize bits .and .i64 a 1 = tn at *
    generalize who4 b = who at *
    have HBW6 : Aside (Below w.heap.size w wc) := HBW5.out.trans (HB6.out.mono HBW5.out.size)
    have HR6 : Aside (RulesB wc.heap.size wc bo L) := HR5.out.on HB6.out
    have HX6 := Lib.hid (HHI'.out bo bcap wc tn who s HR6.out)
    obtain ⟨xs, hxs⟩ : ∃ xs, xs = hidN L tn who s := ⟨_, rfl⟩
    obtain ⟨tl, htl⟩ : ∃ tl : List Ru → List At, ∀ l, tl l = tellN l (hideB tn who s) := ⟨_, fun _ => rfl⟩
    obtain ⟨f, hf⟩ : ∃ f : Ru → Bool, ∀ r, f r = hideB tn who s r := ⟨_, fun _ => rfl⟩
    have HF : Aside (∀ r, f r = (ofR r 3 tn who && underB s r.sc)) := fun r => by rw [hf]; rfl
    have HTS : Aside (∀ l r, tl (l ++ [r]) = if f r then atN r.nm :: tl l else tl l) := fun l r => by rw [htl, htl, hf, tellN_snoc]
    have HTL : Aside (∀ l, (tl l).length ≤ l.length) := fun l => by rw [htl]; exact tellN_len _ _
    have HTZ : Aside (tl [] = []) := by show _ = _; rw [htl]; rfl
    have HMA : Aside (∀ c, (mapOf (fun _ => .bool true) (tl L)).atKey (keyN c) (.held (.bool false)) = .held (.bool (Lib.containsS xs c))) := fun c => by rw [htl, hxs]; exact map_at L tn who s c
    have HMS : Aside (Maps.size (mapOf (fun _ => .bool true) (tl L)) = xs.length) := by show _ = _; rw [htl, hxs]; exact map_size L tn who s _
    have HXH : Aside (∀ (j : Nat), j < xs.length → Lib.containsS xs (xs.getD j ByteArray.empty) = true ∧ (xs.getD j ByteArray.empty).size ≤ MB) := fun j hj => by
      rw [hxs] at hj ⊢
      exact ⟨hid_has L tn who s j hj, hid_size L tn who s MB HNM.out j hj⟩
    have HXR : Aside (∀ (j : Nat), 0 < j → j < xs.length → Op.bytesLess (xs.getD (j - 1) ByteArray.empty).toList (xs.getD j ByteArray.empty).toList = true) := fun j h0 hj => by
      rw [hxs] at hj ⊢
      exact hid_less L tn who s j h0 hj
    have HX80 : Aside (xs.length ≤ 80) := by
      show _ ≤ _
      rw [hxs]; exact Nat.le_trans (hidN_len L tn who s) (by rw [← HN.out]; exact hL80)
    have HYC : Aside (cntN (hidN L tn who t) xs (hidN L tn who t).length = xs.length) := by
      show _ = _
      rw [hxs]
      exact cntN_all (hidN_nodup L tn who s) (hidN_nodup L tn who _) (by rw [HT.out]; exact hid_more L tn who s)
    have HYB : Aside (∀ (j : Nat), j < (hidN L tn who t).length → ((hidN L tn who t).getD j ByteArray.empty).size ≤ MB) := fun j hj => hid_size L tn who _ MB HNM.out j hj
    have HY80 : Aside ((hidN L tn who t).length ≤ 80) := Nat.le_trans (hidN_len L tn who _) (by rw [← HN.out]; exact hL80)
    rw [← hxs] at HX6
    have HUT := Lib.hid (fun r hr => HUN.out r hr tn who)
    clear hxs htl hf y0 y1 HR5 HB6 HBW5 HUN HB0 hW0 z1
    obtain ⟨n, hn⟩ : ∃ n, n = xs.length := ⟨_, rfl⟩
    have HNX := Lib.hid hn
    rw [← hn] at HX6 HMS HXH HXR HX80 HYC
    clear hn
    go_wp2_with fail
    refine HX6.out.mono ?_
    rintro e w9 ⟨xo, xcap, rfl, h9⟩
    have HB9 : Aside (Below w.heap.size w w9) := HBW6.out.trans (h9.out.2.mono HBW6.out.size)
    have HR9 : Aside (RulesB w9.heap.size w9 bo L) := HR6.out.on h9.out.2
    have HS9 : Aside (StrsA w9 xo xs) := h9.out.1.strs
    clear h9 HX6 HR6 HBW6
    have hMd : MapT (w9.alloc (.map #[] 0)) w9.heap.size [] := HMK'.out w9
    have HMd := Lib.hid hMd
    have HB10 : Aside (Below w9.heap.size w9 (w9.alloc (.map #[] 0))) := (Below.refl _ _).alloc (Nat.le_refl _) _
    have hmz : w9.heap.size < (w9.alloc (.map #[] 0)).heap.size := by simp
    have hwM : w.heap.size ≤ w9.heap.size := HB9.out.size
    have HRW : Aside (∀ W, Below w9.heap.size w9 W → L = [] ∨ ∃ b off, bo = some ⟨b, off, none⟩ ∧ b < W.heap.size ∧ RowR W b off L) := fun W h => (HR9.out.on h).1
    have HSW : Aside (∀ W, Below w9.heap.size w9 W → StrsA W xo xs) := fun W h => HS9.out.below h rfl
    have HBW : Aside (∀ W, Below w9.heap.size w9 W → Below w.heap.size w W) := fun W h => HB9.out.trans (h.mono hwM)
    have HHT : Aside (∀ W, Below w9.heap.size w9 W → Calls Tryd.prog 15 #[.slice bo N bcap, .int .i64 tn, .string who, .string t] W fun e w' => ∃ xo xcap, e = .returned (.slice xo (hidN L tn who t).length xcap) ∧ Aside (TxtN W.heap.size w' xo (hidN L tn who t) ∧ Below W.heap.size W w')) := fun W h => HHI'.out bo bcap W tn who t (HR9.out.on h)
    have HST9 : Aside (∀ W, Below w9.heap.size w9 W → Calls Tryd.prog 14 #[.string t] W fun e w' => e = .returned (.bool st) ∧ Below W.heap.size W w') := fun W h => HST'.out W (HB9.out.trans (h.mono hwM))
    obtain ⟨ys, hys⟩ : ∃ ys, ys = hidN L tn who t := ⟨_, rfl⟩
    rw [← hys] at HHT HYC HYB HY80
    have HFE := Lib.hid HF.out
    clear hMd HB9 HR9 HS9 HHI' HST' HMK' hys
    go_wp2_with fail
    generalize (w9.alloc (.map #[] 0)) = w10 at *
    generalize w9.heap.size = M at *
    go_loopg [54] N (fun kx s54 wr => ∃ j : Nat, s54 = .int .i64 j ∧ j ≤ N ∧ N - j ≤ kx ∧ Aside (MapT wr M (tl (L.take j))) ∧ Aside (Below M w9 wr) ∧ M < wr.heap.size)
    case atStart => exact ⟨0, rfl, Nat.zero_le _, by omega, by show MapT _ _ _; rw [List.take_zero, HTZ.out]; exact HMd.out, HB10.out, hmz⟩
    case round =>
      clear HMd HB10 hmz hmm
      obtain ⟨j, rfl, hj, hjx, HMp, HB, hMz⟩ := hrel
      by_cases hlt : j < N
      · have hjl : j < L.length := by rw [← HN.out]; exact hlt
        rcases HRW.out _ HB.out with h0 | ⟨b, off, rfl, hbs, hrow⟩
        · rw [h0] at hjl; cases hjl
        have hrow1 := hrow j hjl
        have HTj : Aside (tl (L.take (j + 1)) = if f L[j]! then atN (L[j]!).nm :: tl (L.take j) else tl (L.take j)) := by show _ = _; rw [takeR L j hjl, HTS.out]
        have HFj := Lib.hid (HFE.out L[j]!)
        have HUj := Lib.hid (HUT.out _ (memR L j hjl))
        have HNj := Lib.hid (HNM.out _ (memR L j hjl))
        have HLj : Aside ((tl (L.take j)).length ≤ 1000) := Nat.le_trans (HTL.out _) (by simp; omega)
        obtain ⟨tl1, htl1⟩ : ∃ x, x = tl (L.take (j + 1)) := ⟨_, rfl⟩
        have HT1 := Lib.hid htl1
        rw [← htl1] at HTj
        clear htl1
        generalize tl (L.take j) = tl0 at *
        generalize f L[j]! = fj at HTj HFj
        generalize L[j]! = c at hrow1 HTj HFj HUj HNj
        obtain ⟨rk, rt, rw1, rb, rsc, rco, rc2, rcs, rn, rix⟩ := c
        have HFj' : Aside (fj = (((rk == 3) && ((rt == tn) && (rw1.toList == who.toList))) && underB s rsc)) := HFj.out
        have HUj' : Aside (((rk == 3) && ((rt == tn) && (rw1.toList == who.toList))) = true → ∀ W, Calls Tryd.prog 16 #[.string s, .string rsc] W fun e w' => e = .returned (.bool (underB s rsc)) ∧ W = w') := HUj.out
        dsimp only at HTj HNj
        have c0 := hrow1 0 _ rfl; have c1 := hrow1 1 _ rfl; have c2 := hrow1 2 _ rfl; have c3 := hrow1 3 _ rfl; have c4 := hrow1 4 _ rfl; have c5 := hrow1 5 _ rfl; have c6 := hrow1 6 _ rfl; have c7 := hrow1 7 _ rfl
        simp only [Nat.add_zero] at c0
        generalize rcs.length = rcn at *
        generalize underB s rsc = un at *
        have HJX := Lib.hid hjx
        clear hrow1 hrow hjl HFj HUj hjx
        have hltz : (j : Int) < N := by omega
        have hjz : (0 : Int) ≤ (j : Int) := by omega
        go_upto_region 12 with fail
        clear c0 c1 c2 c3 c4 c5 c6 c7
        have HX := Lib.hid ((Below.refl wr.heap.size wr).alloc (Nat.le_refl _) (.cells (ruls rk rt rw1 rb rsc rco rcn rc2 rn rix) 43))
        obtain ⟨x0, x1, x2, x3, x4, x5, x6, x7⟩ := rul_lay (w := wr) (Below.refl (wr.heap.size + 1) (wr.alloc (.cells (ruls rk rt rw1 rb rsc rco rcn rc2 rn rix) 43)))
        generalize (wr.alloc (.cells (ruls rk rt rw1 rb rsc rco rcn rc2 rn rix) 43)) = wx at *
        have HMx := Lib.hid (HMp.out.below HX.out)
        have HBx : Aside (Below M w9 wx) := HB.out.trans (HX.out.mono (by omega))
        have hMx : M < wx.heap.size := Nat.lt_of_lt_of_le hMz HX.out.size
        obtain ⟨w5, hput, HPT⟩ := MapT.put (B := M) HMx.out rn HNj.out HLj.out (Nat.le_refl _)
        have HB5 : Aside (Below M w9 w5) := HBx.out.trans HPT.out.2
        have hM5 : M < w5.heap.size := Nat.lt_of_lt_of_le hMx HPT.out.2.size
        generalize wr.heap.size = V at *
        clear HX hMz
        rcases ofR_ways rk rt rw1 3 tn who with (e1 | ⟨e1, e2⟩ | ⟨e1, e2, e3⟩) | ⟨e1, e2, e3⟩
        rotate_left 3
        · have HU2 := Lib.hid (HUj'.out (by rw [e1, e2, e3]; rfl) wx)
          have HF2 : Aside (fj = un) := by show _ = _; rw [HFj'.out, e1, e2, e3]; rfl
          clear HUj' HFj'
          go_wp2_with fail
          refine HU2.out.mono ?_
          rintro e w7 ⟨rfl, rfl⟩
          cases un
          · have HT2 : Aside (tl1 = tl0) := by show _ = _; rw [HTj.out, HF2.out]; rfl
            clear HTj HF2
            go_wp2_with fail
            go_roundg (N - (j + 1))
            case measure => have := HJX.out; omega
            case rel => exact ⟨j + 1, by go_num, hlt, Nat.le_refl _, by rw [← HT1.out, HT2.out]; exact HMx.out, HBx.out, hMx⟩
          · have HT2 : Aside (tl1 = atN rn :: tl0) := by show _ = _; rw [HTj.out, HF2.out]; rfl
            clear HTj HF2
            go_wp2_with fail
            go_roundg (N - (j + 1))
            case measure => have := HJX.out; omega
            case rel => exact ⟨j + 1, by go_num, hlt, Nat.le_refl _, by rw [← HT1.out, HT2.out]; exact HPT.out.1, HB5.out, hM5⟩
        all_goals
          have HF2 : Aside (fj = false) := by show _ = _; rw [HFj'.out]; first | (simp [e1]; done) | (simp [e1, e2]; done) | (simp [e1, e2, e3]; done)
          have HT2 : Aside (tl1 = tl0) := by show _ = _; rw [HTj.out, HF2.out]; rfl
          clear HTj HF2 HUj' HFj'
          go_wp2_with fail
          go_roundg (N - (j + 1))
          case measure => have := HJX.out; omega
          case rel => exact ⟨j + 1, by go_num, hlt, Nat.le_refl _, by rw [← HT1.out, HT2.out]; exact HMx.out, HBx.out, hMx⟩
      · obtain rfl : j = N := by omega
        have hMt : MapT wr M (tl L) := by
          have := HMp.out
          rw [HN.out, List.take_length] at this
          exact this
        rename World => w11
        have HMT := Lib.hid hMt
        have HB11 := Lib.hid HB.out
        have HSX := Lib.hid (HSW.out _ HB.out)
        clear hMt HMp HB HRW HTS HTL HTZ HUT HFE HF hlt hj hjx HSW
        go_wp2_with fail
        go_loopg [86] n (fun kx s86 wr => ∃ j : Nat, s86 = .int .i64 j ∧ j ≤ n ∧ n - j ≤ kx ∧ wr = w11)
        case atStart => exact ⟨0, rfl, Nat.zero_le _, by omega, rfl⟩
        case round =>
          obtain ⟨i, rfl, hi, hix, hwr⟩ := hrel
          subst hwr
          by_cases hli : i < n
          · have hil : i < xs.length := by rw [← HNX.out]; exact hli
            rcases HSX.out with h0 | ⟨b2, off2, rfl, hb2, hcs⟩
            · rw [h0] at hil; cases hil
            have c0 := hcs i hil
            obtain ⟨hh, hsz⟩ := HXH.out i hli
            have hlk := HMT.out.look (xs.getD i ByteArray.empty) hsz _ (HMA.out _)
            rw [hh] at hlk
            have HIX := Lib.hid hix
            have hliz : (i : Int) < n := by omega
            have hiz : (0 : Int) ≤ (i : Int) := by omega
            have hn80 : n ≤ 80 := HX80.out
            clear hh hsz hix
            by_cases hi0 : 0 < i
            · have c1 := hcs (i - 1) (by omega)
              have hls := HXR.out i hi0 hli
              have hi0z : (0 : Int) < (i : Int) := by omega
              clear hcs hil
              generalize xs.getD (i - 1) ByteArray.empty = q1 at *
              generalize xs.getD i ByteArray.empty = q0 at *
              go_wp2_with fail
              go_roundg (n - (i + 1))
              case measure => have := HIX.out; omega
              case rel => exact ⟨i + 1, by go_num, hli, Nat.le_refl _, rfl⟩
            · have hi0z : ¬ (0 : Int) < (i : Int) := by omega
              clear hcs hil
              generalize xs.getD i ByteArray.empty = q0 at *
              go_wp2_with fail
              go_roundg (n - (i + 1))
              case measure => have := HIX.out; omega
              case rel => exact ⟨i + 1, by go_num, hli, Nat.le_refl _, rfl⟩
          · obtain rfl : i = n := by omega
            clear hli hi hix HXR HXH HSX
            go_upto_region 22 with fail
            rw [← HT.out]
            have hnn : ((i : Int) == (i : Int)) = true := by simp
            cases hse : (s.toList == [])
            · have hse2 : (s.toList != []) = true := by unfold bne; rw [hse]; rfl
              go_wp2_with fail
              refine (HST9.out _ HB11.out).mono ?_
              rintro e w12 ⟨rfl, hb⟩
              have HM12 := Lib.hid (HMT.out.below hb)
              have HB12 : Aside (Below M w9 w12) := HB11.out.trans (hb.mono (Nat.le_of_lt (World.ownsMap.lt HMT.out)))
              clear hb HST9
              cases st
              · have HOWN : Aside (MapT w12 M (tl L)) := HM12.out
                go_wp2_with (at_len; refine wpList_len_own _ rfl _ 38 rfl 9 4 Tryd.underlying38 asIs M (tl L).length (mapOf (fun _ => .bool true) (tl L)) rfl HOWN.out ?_; rw [HMS.out])
                go_ret
                exact ⟨rfl, HBW.out _ HB12.out⟩
              · go_wp2_with fail
                refine (HHT.out _ HB12.out).mono ?_
                rintro e w13 ⟨yo, ycap, rfl, hy⟩
                have HM13 := Lib.hid (HM12.out.below hy.out.2)
                have HB13 : Aside (Below M w9 w13) := HB12.out.trans (hy.out.2.mono (Nat.le_of_lt (World.ownsMap.lt HM12.out)))
                have HS13 : Aside (StrsA w13 yo ys) := hy.out.1.strs
                clear hy HHT hse hse2 HM12 HB12 HMT HB11
                obtain ⟨yn, hyn⟩ : ∃ yn, yn = ys.length := ⟨_, rfl⟩
                have HYN := Lib.hid hyn
                rw [← hyn] at HYC HYB HY80 ⊢
                clear hyn
                have hy80 : yn ≤ 80 := HY80.out
                go_wp2_with fail
                go_loopg [17, 124] yn (fun kx s17 s124 wr => ∃ j : Nat, s124 = .int .i64 j ∧ s17 = .int .i64 (cntN ys xs j) ∧ j ≤ yn ∧ yn - j ≤ kx ∧ wr = w13)
                case atStart => exact ⟨0, rfl, rfl, Nat.zero_le _, by omega, rfl⟩
                case round =>
                  obtain ⟨k, rfl, rfl, hk, hkx, hwr⟩ := hrel
                  subst hwr
                  have hcl := cntN_le ys xs k
                  by_cases hlk : k < yn
                  · have hkl : k < ys.length := by rw [← HYN.out]; exact hlk
                    rcases HS13.out with h0 | ⟨b3, off3, rfl, hb3, hcs⟩
                    · rw [h0] at hkl; cases hkl
                    have c0 := hcs k hkl
                    have hlook := HM13.out.look (ys.getD k ByteArray.empty) (HYB.out k hlk) _ (HMA.out _)
                    have HCS := Lib.hid (cntN_succ ys xs k hkl)
                    have HKX := Lib.hid hkx
                    have hlkz : (k : Int) < yn := by omega
                    have hkz : (0 : Int) ≤ (k : Int) := by omega
                    clear hcs hkl hkx
                    obtain ⟨c1n, hc1⟩ : ∃ x, x = cntN ys xs (k + 1) := ⟨_, rfl⟩
                    have HC1 := Lib.hid hc1
                    rw [← hc1] at HCS
                    clear hc1
                    generalize ys.getD k ByteArray.empty = q0 at *
                    generalize cntN ys xs k = ck at *
                    have hckz : (0 : Int) ≤ (ck : Int) := by omega
                    cases hcq : Lib.containsS xs q0
                    · have HC2 : Aside (c1n = ck) := by show _ = _; rw [HCS.out, hcq]; rfl
                      rw [hcq] at hlook
                      clear HCS hcq
                      go_wp2_with fail
                      go_roundg (yn - (k + 1))
                      case measure => have := HKX.out; omega
                      case rel => exact ⟨k + 1, by go_num, by rw [← HC1.out, HC2.out], hlk, Nat.le_refl _, rfl⟩
                    · have HC2 : Aside (c1n = ck + 1) := by show _ = _; rw [HCS.out, hcq]; rfl
                      rw [hcq] at hlook
                      clear HCS hcq
                      go_wp2_with fail
                      go_roundg (yn - (k + 1))
                      case measure => have := HKX.out; omega
                      case rel => exact ⟨k + 1, by go_num, by rw [← HC1.out, HC2.out]; go_num, hlk, Nat.le_refl _, rfl⟩
                  · obtain rfl : k = yn := by omega
                    rw [HYC.out]
                    have hbn : ((i : Int) != (i : Int)) = false := by simp
                    have HOWN : Aside (MapT wr M (tl L)) := HM13.out
                    go_wp2_with (at_len; refine wpList_len_own _ rfl _ 38 rfl 9 4 Tryd.underlying38 asIs M (tl L).length (mapOf (fun _ => .bool true) (tl L)) rfl HOWN.out ?_; rw [HMS.out])
                    go_ret
                    exact ⟨rfl, HBW.out _ HB13.out⟩
            · have hse2 : (s.toList != []) = false := by unfold bne; rw [hse]; rfl
              have HOWN : Aside (MapT wr M (tl L)) := HMT.out
              go_wp2_with (at_len; refine wpList_len_own _ rfl _ 38 rfl 9 4 Tryd.underlying38 asIs M (tl L).length (mapOf (fun _ => .bool true) (tl L)) rfl HOWN.out ?_; rw [HMS.out])
              go_ret
              exact ⟨rfl, HBW.out _ HB11.out⟩
end Go.Proofs.YtjnfbinomljocaaDoor
