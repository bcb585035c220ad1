/- event.Get of any event. -/
import Derived.Test.YtjeippdfgojdnaaGreatDoorLight
namespace Go.Proofs.YtjeippdfgojdnaaGreatDoor
open Go.RowKit Go.Shelf Go.Sort
open Go.Proofs
set_option maxRecDepth 100000

/-- What event.Get finds. -/
def getA (l : List At) (name : ByteArray) : Option At := l.find? (fun a => a.nm.toList == name.toList)
def getV : Option At → Value
  | some a => .tuple #[val a.k a.n a.x a.s a.y, .bool true]
  | none => .tuple #[val 0 0 0 ⟨#[]⟩ false, .bool false]

/-- Five cells that have been written. -/
theorem five {W : World} {R : Nat} (v0 v1 v2 v3 v4 : Value) {u0 u1 u2 u3 u4 : Value} (h0 : W.cell? ⟨R, 0, none⟩ = some u0) (h1 : W.cell? ⟨R, 1, none⟩ = some u1) (h2 : W.cell? ⟨R, 2, none⟩ = some u2) (h3 : W.cell? ⟨R, 3, none⟩ = some u3) (h4 : W.cell? ⟨R, 4, none⟩ = some u4) :
    let X := ((((W.setCell ⟨R, 0, none⟩ v0).setCell ⟨R, 1, none⟩ v1).setCell ⟨R, 2, none⟩ v2).setCell ⟨R, 3, none⟩ v3).setCell ⟨R, 4, none⟩ v4
    X.cell? ⟨R, 0, none⟩ = some v0 ∧ X.cell? ⟨R, 1, none⟩ = some v1 ∧ X.cell? ⟨R, 2, none⟩ = some v2 ∧ X.cell? ⟨R, 3, none⟩ = some v3 ∧ X.cell? ⟨R, 4, none⟩ = some v4 := by
  refine ⟨?_, ?_, ?_, ?_, ?_⟩
  · rw [oth (by decide), oth (by decide), oth (by decide), oth (by decide)]; exact World.cell?_setCell_same _ _ _ h0
  · rw [oth (by decide), oth (by decide), oth (by decide)]; exact World.cell?_setCell_same _ _ _ (by rw [oth (by decide)]; exact h1)
  · rw [oth (by decide), oth (by decide)]; exact World.cell?_setCell_same _ _ _ (by rw [oth (by decide), oth (by decide)]; exact h2)
  · rw [oth (by decide)]; exact World.cell?_setCell_same _ _ _ (by rw [oth (by decide), oth (by decide), oth (by decide)]; exact h3)
  · exact World.cell?_setCell_same _ _ _ (by rw [oth (by decide), oth (by decide), oth (by decide), oth (by decide)]; exact h4)

set_option maxHeartbeats 4000000 in
theorem get_c (scope name : ByteArray) (ao : Option Addr) (cap : Nat) (l : List At) (w : World) (hl : SliceA w ao l) (hlen : l.length < 4611686018427387904) :
    Calls Tryz.prog 36 #[.agg #[.string scope, .slice ao l.length cap], .string name] w fun e w' => e = .returned (getV (getA l name)) ∧ Below w.heap.size w w' := by
  obtain ⟨len, hL⟩ : ∃ len, len = l.length := ⟨_, rfl⟩
  have HLen : Aside (len = l.length) := hL
  have HS : Aside (SliceA w ao l) := hl
  rw [← hL] at hlen ⊢
  clear hL hl
  go_enter Tryz.func36, Tryz.ntmps36
  go_wp2_with fail
  go_loopg [11] len (fun kx s11 wr => ∃ j : Nat, s11 = .int .i64 j ∧ j ≤ len ∧ len - j ≤ kx ∧ Aside (getA (l.take j) name = none) ∧ Aside (Below w.heap.size w wr) ∧ w.heap.size + 1 < wr.heap.size ∧
    Aside (∀ i, i < 5 → wr.cell? ⟨w.heap.size + 1, i, none⟩ = (vals 0 0 0 ⟨#[]⟩ false)[i]? ∧ wr.frozen? ⟨w.heap.size + 1, i, none⟩ = false))
  case atStart => exact ⟨0, rfl, Nat.zero_le _, by omega, by simp [Aside, getA], ((Below.refl _ _).alloc (Nat.le_refl _) _).alloc (by simp) _, by simp, fun i hi => ⟨by
      have := World.cell?_alloc_new (w.alloc (.cells #[.string scope, .slice ao len cap] 40)) (#[Value.int .i64 0, .int .i64 0, .float .f64 0, .string ⟨#[]⟩, .bool false]) 24 i
      rw [World.size_alloc] at this
      exact this, by
      have hh := heap_alloc_new (w.alloc (.cells #[.string scope, .slice ao len cap] 40)) (.cells #[Value.int .i64 0, .int .i64 0, .float .f64 0, .string ⟨#[]⟩, .bool false] 24)
      rw [World.size_alloc] at hh
      simp only [World.frozen?]
      rw [hh]; simp⟩⟩
  case round =>
    obtain ⟨j, rfl, hj, hjx, hall, HB, hz, HR⟩ := hrel
    have r0 := (HR.out 0 (by decide)).1; have r1 := (HR.out 1 (by decide)).1; have r2 := (HR.out 2 (by decide)).1; have r3 := (HR.out 3 (by decide)).1; have r4 := (HR.out 4 (by decide)).1
    have f0 := (HR.out 0 (by decide)).2; have f1 := (HR.out 1 (by decide)).2; have f2 := (HR.out 2 (by decide)).2; have f3 := (HR.out 3 (by decide)).2; have f4 := (HR.out 4 (by decide)).2
    simp only [vals, List.getElem?_toArray, List.getElem?_cons_zero, List.getElem?_cons_succ] at r0 r1 r2 r3 r4
    have hBW : ∀ (v0 v1 v2 v3 v4 : Value) (W : World), Below w.heap.size w W → Below w.heap.size w (((((W.setCell ⟨w.heap.size + 1, 0, none⟩ v0).setCell ⟨w.heap.size + 1, 1, none⟩ v1).setCell ⟨w.heap.size + 1, 2, none⟩ v2).setCell ⟨w.heap.size + 1, 3, none⟩ v3).setCell ⟨w.heap.size + 1, 4, none⟩ v4) := fun v0 v1 v2 v3 v4 W h =>
      ((((h.setCell (p := ⟨w.heap.size + 1, 0, none⟩) (by simp) _).setCell (p := ⟨w.heap.size + 1, 1, none⟩) (by simp) _).setCell (p := ⟨w.heap.size + 1, 2, none⟩) (by simp) _).setCell (p := ⟨w.heap.size + 1, 3, none⟩) (by simp) _).setCell (p := ⟨w.heap.size + 1, 4, none⟩) (by simp) _
    have HBW : Aside _ := hBW
    clear hBW
    by_cases hlt : j < len
    · rcases HS.out with h0 | ⟨b, off, hao, hbs, hrow⟩
      · rw [h0] at HLen; exact absurd HLen.out (by simp; omega)
      subst hao
      have hrow1 := RowAt.below HB.out hbs hrow j (by rw [← HLen.out]; exact hlt)
      clear hrow
      have hts := take_succ l j (by rw [← HLen.out]; exact hlt)
      have hsplit : l = l.take j ++ (l[j]! :: l.drop (j + 1)) := by
        have := List.take_append_drop j l
        rw [List.drop_eq_getElem_cons (by rw [← HLen.out]; exact hlt), ← getElem!_pos l j] at this
        exact this.symm
      obtain ⟨a, ha⟩ : ∃ a, a = l[j]! := ⟨_, rfl⟩
      rw [← ha] at hrow1 hts hsplit
      clear ha
      obtain ⟨nm, k, n, x, s, y⟩ := a
      have c0 := hrow1 0 _ rfl; have c1 := hrow1 1 _ rfl; have c2 := hrow1 2 _ rfl; have c3 := hrow1 3 _ rfl; have c4 := hrow1 4 _ rfl; have c5 := hrow1 5 _ rfl
      simp only [Nat.add_zero] at c0
      clear hrow1
      have HTS : Aside _ := hts
      have HSP : Aside _ := hsplit
      clear hts hsplit
      have hltz : (j : Int) < len := by omega
      have hjz : (0 : Int) ≤ (j : Int) := by omega
      cases hq : (nm.toList == name.toList)
      · clear r0 r1 r2 r3 r4 f0 f1 f2 f3 f4
        go_wp2_with fail
        go_roundg (len - (j + 1))
        case measure => omega
        case rel => exact ⟨j + 1, by go_num, hlt, Nat.le_refl _, by
          show getA (l.take (j + 1)) name = none
          rw [HTS.out]; unfold getA; rw [List.find?_append]
          have := hall.out; unfold getA at this; rw [this]; simp [hq], HB.out.alloc HB.out.size _, by simp; omega, fun i hi => ⟨(World.cell?_alloc_lt _ _ _ hz).trans (HR.out i hi).1, by
            have := (HR.out i hi).2
            simp only [World.frozen?] at this ⊢
            rw [heap_alloc_old _ _ hz]; exact this⟩⟩
      · have hget : getA l name = some ⟨nm, k, n, x, s, y⟩ := by
          unfold getA; rw [HSP.out, List.find?_append]
          have := hall.out; unfold getA at this; rw [this]; simp [hq]
        have h5 := five (.int .i64 k) (.int .i64 n) (.float .f64 x) (.string s) (.bool y) r0 r1 r2 r3 r4
        have hX := HBW.out (.int .i64 k) (.int .i64 n) (.float .f64 x) (.string s) (.bool y) wr HB.out
        have hzX : w.heap.size + 1 < (((((wr.setCell ⟨w.heap.size + 1, 0, none⟩ (.int .i64 k)).setCell ⟨w.heap.size + 1, 1, none⟩ (.int .i64 n)).setCell ⟨w.heap.size + 1, 2, none⟩ (.float .f64 x)).setCell ⟨w.heap.size + 1, 3, none⟩ (.string s)).setCell ⟨w.heap.size + 1, 4, none⟩ (.bool y)).heap.size := by simp; exact hz
        have H5 : Aside _ := h5
        have HX : Aside _ := hX
        clear h5 hX
        have HG : Aside _ := hget
        clear hget
        go_wp2_with fail
        obtain ⟨X, hXX⟩ : ∃ X, X = ((((wr.setCell ⟨w.heap.size + 1, 0, none⟩ (.int .i64 k)).setCell ⟨w.heap.size + 1, 1, none⟩ (.int .i64 n)).setCell ⟨w.heap.size + 1, 2, none⟩ (.float .f64 x)).setCell ⟨w.heap.size + 1, 3, none⟩ (.string s)).setCell ⟨w.heap.size + 1, 4, none⟩ (.bool y) := ⟨_, rfl⟩
        obtain ⟨x0, x1, x2, x3, x4⟩ := H5.out
        rw [← hXX] at x0 x1 x2 x3 x4 hzX HX ⊢
        clear hXX H5 r0 r1 r2 r3 r4 f0 f1 f2 f3 f4 c0 c1 c2 c3 c4 c5 HBW HR
        have y0 := (World.cell?_alloc_lt X (.cells #[.string nm, .int .i64 k, .int .i64 n, .float .f64 x, .string s, .bool y] 38) ⟨w.heap.size + 1, 0, none⟩ hzX).trans x0
        have y1 := (World.cell?_alloc_lt X (.cells #[.string nm, .int .i64 k, .int .i64 n, .float .f64 x, .string s, .bool y] 38) ⟨w.heap.size + 1, 1, none⟩ hzX).trans x1
        have y2 := (World.cell?_alloc_lt X (.cells #[.string nm, .int .i64 k, .int .i64 n, .float .f64 x, .string s, .bool y] 38) ⟨w.heap.size + 1, 2, none⟩ hzX).trans x2
        have y3 := (World.cell?_alloc_lt X (.cells #[.string nm, .int .i64 k, .int .i64 n, .float .f64 x, .string s, .bool y] 38) ⟨w.heap.size + 1, 3, none⟩ hzX).trans x3
        have y4 := (World.cell?_alloc_lt X (.cells #[.string nm, .int .i64 k, .int .i64 n, .float .f64 x, .string s, .bool y] 38) ⟨w.heap.size + 1, 4, none⟩ hzX).trans x4
        refine bodyPost_ret (v := .tuple #[val k n x s y, .bool true]) (by simp [results, Tryz.results36, go_sem, y0, y1, y2, y3, y4]) rfl ⟨by rw [HG.out]; rfl, ?_⟩
        exact HX.out.alloc HX.out.size _
    · obtain rfl : j = len := by omega
      have hget : getA l name = none := by
        have := hall.out
        rw [HLen.out, List.take_length] at this; exact this
      have h5 := five (.int .i64 0) (.int .i64 0) (.float .f64 0) (.string ⟨#[]⟩) (.bool false) r0 r1 r2 r3 r4
      have hX := HBW.out (.int .i64 0) (.int .i64 0) (.float .f64 0) (.string ⟨#[]⟩) (.bool false) wr HB.out
      have H5 : Aside _ := h5
      have HX : Aside _ := hX
      clear h5 hX
      have HG : Aside _ := hget
      clear hget
      go_wp2_with fail
      obtain ⟨X, hXX⟩ : ∃ X, X = ((((wr.setCell ⟨w.heap.size + 1, 0, none⟩ (.int .i64 0)).setCell ⟨w.heap.size + 1, 1, none⟩ (.int .i64 0)).setCell ⟨w.heap.size + 1, 2, none⟩ (.float .f64 0)).setCell ⟨w.heap.size + 1, 3, none⟩ (.string ⟨#[]⟩)).setCell ⟨w.heap.size + 1, 4, none⟩ (.bool false) := ⟨_, rfl⟩
      obtain ⟨x0, x1, x2, x3, x4⟩ := H5.out
      rw [← hXX] at x0 x1 x2 x3 x4 HX ⊢
      clear hXX H5 r0 r1 r2 r3 r4 f0 f1 f2 f3 f4 HBW HR
      refine bodyPost_ret (v := .tuple #[val 0 0 0 ⟨#[]⟩ false, .bool false]) (by simp [results, Tryz.results36, go_sem, x0, x1, x2, x3, x4]) rfl ⟨by rw [HG.out]; rfl, ?_⟩
      exact HX.out
end Go.Proofs.YtjeippdfgojdnaaGreatDoor
