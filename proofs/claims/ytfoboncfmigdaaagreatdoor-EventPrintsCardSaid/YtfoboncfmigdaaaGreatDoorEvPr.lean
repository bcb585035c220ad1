/- event.Print of any event of few attributes. -/
import Derived.Test.YtfoboncfmigdaaaGreatDoorAtP
import Derived.Test.YtfoboncfmigdaaaGreatDoorGaN
import Derived.Test.YtfoboncfmigdaaaGreatDoorGaM
import Derived.Deep.RegionWith
import Derived.Deep.RegionHeld3
import Derived.Deep.DeepCutAuto
namespace Go.Proofs.YtfoboncfmigdaaaGreatDoor
open Go.RowKit Go.Shelf
open Go.Proofs
set_option maxRecDepth 100000

/-- An attribute's text, the blank ahead. -/
def TA (a : At) : ByteArray := ⟨#[32]⟩ ++ a.nm ++ ⟨#[61]⟩ ++ printT a.k a.n a.x a.s a.y
/-- An event's text behind its first j attributes. -/
def accE (sc : ByteArray) (l : List At) : Nat → List UInt8
  | 0 => [91] ++ sc.data.toList ++ [93]
  | j + 1 => accE sc l j ++ (TA l[j]!).data.toList
def textE (sc : ByteArray) (l : List At) : ByteArray := ⟨(accE sc l l.length).toArray⟩
theorem accE_ne (sc : ByteArray) (l : List At) : ∀ j : Nat, accE sc l j ≠ []
  | 0 => by simp [accE]
  | j + 1 => by
    rw [accE]
    intro h
    exact accE_ne sc l j (List.append_eq_nil_iff.1 h).1
theorem memA (l : List At) (j : Nat) (h : j < l.length) : l[j]! ∈ l := by rw [getElem!_pos l j h]; exact List.getElem_mem _
theorem accE_len {sc : ByteArray} {l : List At} (hT : ∀ a ∈ l, (TA a).size ≤ 100000) (hs : sc.size ≤ 3000) : ∀ j, j ≤ l.length → (accE sc l j).length ≤ 3002 + j * 100000
  | 0, _ => by simp [accE]; omega
  | j + 1, h => by
    have ih := accE_len hT hs j (by omega)
    have := hT _ (memA l j (by omega))
    have e : (TA l[j]!).data.toList.length = (TA l[j]!).size := by simp
    rw [accE, List.length_append, e]
    omega
theorem bytesE_app (a b : List UInt8) : Lib.byteCells (a ++ b) = Lib.byteCells a ++ Lib.byteCells b := by simp [Lib.byteCells]
theorem bytesE_str (s : ByteArray) : Lib.strCells s = Lib.byteCells s.data.toList := rfl
theorem bytesE_len (a : List UInt8) : (Lib.byteCells a).length = a.length := by simp [Lib.byteCells]
theorem bldE_on {B b : Nat} {p : Value} {bs : List Value} {w w' : World} (h : BuilderA B b p bs w) (hb : Below w.heap.size w w') : BuilderA B b p bs w' := by
  have hlt := h.lt
  obtain ⟨hB, v, hbk, hown, hne⟩ := h
  refine ⟨hB, v, (hb.block b hlt).trans hbk, hown.kept (row := none) ⟨hb.os, hb.tape, hb.output, hb.size, fun k hk _ => hb.block k hk⟩ ?_, hne⟩
  cases v.ownBlock with
  | none => exact .inl rfl
  | some k => exact .inr (by simp)
theorem e_lay {w W : World} {cs : Array Value} {t : TypeId} (hW : Below (w.heap.size + 1) (w.alloc (.cells cs t)) W) (i : Nat) (v : Value) (h : cs[i]? = some v) : W.cell? ⟨w.heap.size, i, none⟩ = some v := by
  have h1 := hW.cell (p := ⟨w.heap.size, i, none⟩) (Nat.lt_succ_self _)
  rw [h1, World.cell?_alloc_new]; exact h

set_option maxHeartbeats 8000000 in
theorem eprint_c (sc : ByteArray) (ao : Option Addr) (cap : Nat) (l : List At) (w : World) (hl : SliceA w ao l) (hlc : l.length ≤ 40) (hsc : sc.size ≤ 3000) (hT : ∀ a ∈ l, (TA a).size ≤ 100000)
    (hp : ∀ a ∈ l, ∀ W, Below w.heap.size w W → Calls Tryz.prog 8 #[val a.k a.n a.x a.s a.y] W fun e w' => e = .returned (.string (printT a.k a.n a.x a.s a.y)) ∧ Below W.heap.size W w') :
    Calls Tryz.prog 9 #[.agg #[.string sc, .slice ao l.length cap]] w fun e w' => e = .returned (.string (textE sc l)) ∧ Below w.heap.size w w' := by
  obtain ⟨len, hL⟩ : ∃ len, len = l.length := ⟨_, rfl⟩
  have HLen : Aside (len = l.length) := hL
  have HLT := Lib.hid (fun j hj => accE_len hT hsc j hj)
  have HACT : Aside (∀ j, accE sc l (j + 1) = accE sc l j ++ (TA l[j]!).data.toList) := fun j => rfl
  have HAC0 : Aside (accE sc l 0 = [91] ++ sc.data.toList ++ [93]) := rfl
  have HTX : Aside (textE sc l = ⟨(accE sc l l.length).toArray⟩) := rfl
  have HNE := Lib.hid (accE_ne sc l)
  generalize accE sc l = AC at *
  rw [← hL] at hlc ⊢
  have HTs : Aside (∀ a ∈ l, (TA a).size ≤ 100000) := hT
  have HP := Lib.hid hp
  have HSL : Aside (∀ W, Below w.heap.size w W → l = [] ∨ ∃ b off, ao = some ⟨b, off, none⟩ ∧ b < w.heap.size ∧ RowAt W b off l) := fun W hW => by
    rcases hl with h | ⟨b, off, h1, h2, h3⟩
    · exact Or.inl h
    · exact Or.inr ⟨b, off, h1, h2, RowAt.below hW h2 h3⟩
  obtain ⟨w0, hw0⟩ : ∃ w0, w0 = w.alloc (.cells #[.string sc, .slice ao len cap] 26) := ⟨_, rfl⟩
  have B0 : Below w.heap.size w w0 := by rw [hw0]; exact (Below.refl _ _).alloc (Nat.le_refl _) _
  have z0 : w0.heap.size = w.heap.size + 1 := by rw [hw0]; simp
  have HKP : Aside (∀ W, Below w0.heap.size w0 W → W.cell? ⟨w.heap.size, 0, none⟩ = some (.string sc) ∧ W.cell? ⟨w.heap.size, 1, none⟩ = some (.slice ao len cap)) := fun W hW => by
    rw [z0, hw0] at hW
    exact ⟨e_lay hW 0 _ rfl, e_lay hW 1 _ rfl⟩
  have HB0 := Lib.hid B0
  have FB := Lib.fresh_isBuilder 57 5 w0
  have HFB := Lib.hid FB
  have hf2 : sc.size + 2 ≤ 140737488355328 := by omega
  have hBx : Below w0.heap.size w0 (w0.alloc (.cells #[.pointer none, .slice none 0 0] 57)) := (Below.refl _ _).alloc (Nat.le_refl _) _
  obtain ⟨a0, a1⟩ := HKP.out _ hBx
  have HBX := Lib.hid hBx
  have u1 : ¬ 9223372036854775807 < 1 + sc.size := by omega
  have u1' : ¬ 9223372036854775807 < 1 + sc.size + 1 := by omega
  obtain ⟨A, hA⟩ : ∃ A, A = w.heap.size := ⟨_, rfl⟩
  have HAe := Lib.hid hA
  have hzA : w0.heap.size = A + 1 := by rw [hA]; exact z0
  have hwA : w.heap.size ≤ A := by omega
  rw [← hA] at a0 a1 HKP
  rw [hzA] at HKP HFB HBX
  clear FB hBx hl hp hT hL B0 z0
  go_enter Tryz.func9, Tryz.ntmps9
  go_upto_region 1 with fail
  rw [← hw0, ← hA]
  clear hw0 hA
  go_upto_region 2 with fail
  have hz1 : A + 2 ≤ (w0.alloc (.cells #[.pointer none, .slice none 0 0] 57)).heap.size := by rw [World.size_alloc]; omega
  generalize (w0.alloc (.cells #[.pointer none, .slice none 0 0] 57)) = w1 at *
  go_wp2_with fail
  clear a0 a1
  refine (writeString_k (A + 1) (A + 1) [] _ _ HFB.out (by
    have e1 : (⟨#[91]⟩ : ByteArray).size = 1 := rfl
    have e2 : (⟨#[93]⟩ : ByteArray).size = 1 := rfl
    simp only [List.length_nil, ByteArray.size_append]; omega) (by omega)).mono ?_
  rintro e w2 ⟨rfl, ⟨B1, hb1⟩, _⟩
  have HA2 : Aside (Below (A + 1) w0 w2) := HBX.out.trans hb1
  have HBL : Aside (BuilderA (A + 1) (A + 1) (.pointer (some ⟨A + 1, 0, none⟩)) (Lib.byteCells (AC 0)) w2) := by
    have e : Lib.byteCells (AC 0) = ([] : List Value) ++ Lib.strCells (⟨#[91]⟩ ++ sc ++ ⟨#[93]⟩) := by rw [HAC0.out]; simp [Lib.byteCells, Lib.strCells]
    show BuilderA _ _ _ _ _
    rw [e]; exact B1
  obtain ⟨a0, a1⟩ := HKP.out _ HA2.out
  have hz2 : A + 2 ≤ w2.heap.size := Nat.le_trans hz1 hb1.size
  clear hb1 B1 hz1 HFB HBX hf2 u1 u1' HAC0
  go_wp2_with fail
  clear a0 a1
  go_loopg [14] len (fun kx s14 wr => ∃ j : Nat, s14 = .int .i64 j ∧ j ≤ len ∧ len - j ≤ kx ∧ Aside (BuilderA (A + 1) (A + 1) (.pointer (some ⟨A + 1, 0, none⟩)) (Lib.byteCells (AC j)) wr) ∧ Aside (Below (A + 1) w0 wr) ∧ Aside (A + 2 ≤ wr.heap.size))
  case atStart => exact ⟨0, rfl, Nat.zero_le _, by omega, HBL.out, HA2.out, hz2⟩
  case round =>
    clear HBL HA2 hz2
    obtain ⟨j, rfl, hj, hjx, HBL, HA, HZ⟩ := hrel
    have hBw : Below w.heap.size w wr := HB0.out.trans (HA.out.mono (by omega))
    by_cases hlt : j < len
    · have hjl : j < l.length := by rw [← HLen.out]; exact hlt
      rcases HSL.out _ hBw with h0 | ⟨b, off, hao, hbs, hrow⟩
      · rw [h0] at hjl; simp at hjl
      subst hao
      have hrow1 := hrow j hjl
      have HPj := Lib.hid (HP.out _ (memA l j hjl))
      have HTj := Lib.hid (HTs.out _ (memA l j hjl))
      have HLj := Lib.hid (HLT.out j (by omega))
      have HSt := Lib.hid (HACT.out j)
      generalize l[j]! = c at HPj hrow1 HTj HSt
      obtain ⟨nm, k, n', x, s, y⟩ := c
      have HTA : Aside (TA ⟨nm, k, n', x, s, y⟩ = ⟨#[32]⟩ ++ nm ++ ⟨#[61]⟩ ++ printT k n' x s y) := rfl
      simp only at HPj
      generalize printT k n' x s y = tx at HPj HTA
      have c0 := hrow1 0 _ rfl; have c1 := hrow1 1 _ rfl; have c2 := hrow1 2 _ rfl; have c3 := hrow1 3 _ rfl; have c4 := hrow1 4 _ rfl; have c5 := hrow1 5 _ rfl
      simp only [Nat.add_zero] at c0
      clear hrow1 hrow HSL hjl HACT HLT HP HTs hBw
      have hltz : (j : Int) < len := by omega
      have hjz : (0 : Int) ≤ (j : Int) := by omega
      go_upto_region 6 with fail
      have hbw : Below wr.heap.size wr (wr.alloc (.cells #[.string nm, .int .i64 k, .int .i64 n', .float .f64 x, .string s, .bool y] 33)) := (Below.refl _ _).alloc (Nat.le_refl _) _
      have HBL9 := Lib.hid (bldE_on HBL.out hbw)
      have HA9 : Aside (Below (A + 1) w0 (wr.alloc (.cells #[.string nm, .int .i64 k, .int .i64 n', .float .f64 x, .string s, .bool y] 33))) := HA.out.trans (hbw.mono (by have := HZ.out; omega))
      have hnew := heap_alloc_new wr (.cells #[.string nm, .int .i64 k, .int .i64 n', .float .f64 x, .string s, .bool y] 33)
      have hV : wr.heap.size < (wr.alloc (.cells #[.string nm, .int .i64 k, .int .i64 n', .float .f64 x, .string s, .bool y] 33)).heap.size := by simp
      have hVA : A + 2 ≤ wr.heap.size := HZ.out
      clear hbw HBL HA HZ c0 c1 c2 c3 c4 c5
      generalize (wr.alloc (.cells #[.string nm, .int .i64 k, .int .i64 n', .float .f64 x, .string s, .bool y] 33)) = w9 at *
      generalize wr.heap.size = V at *
      have HV9 : Aside (w9.heap[V]? = some (.cells #[.string nm, .int .i64 k, .int .i64 n', .float .f64 x, .string s, .bool y] 33 (0, 0))) := hnew
      have KP : Aside (∀ W : World, W.heap[V]? = some (.cells #[.string nm, .int .i64 k, .int .i64 n', .float .f64 x, .string s, .bool y] 33 (0, 0)) → W.cell? ⟨V, 0, none⟩ = some (.string nm) ∧ W.cell? ⟨V, 1, none⟩ = some (.int .i64 k) ∧ W.cell? ⟨V, 2, none⟩ = some (.int .i64 n') ∧ W.cell? ⟨V, 3, none⟩ = some (.float .f64 x) ∧ W.cell? ⟨V, 4, none⟩ = some (.string s) ∧ W.cell? ⟨V, 5, none⟩ = some (.bool y)) := fun W h => by
        refine ⟨?_, ?_, ?_, ?_, ?_, ?_⟩ <;> simp [World.cell?, h]
      have HTn : Aside (1 + nm.size + 1 + tx.size ≤ 100000) := by
        have := HTj.out
        rw [HTA.out] at this
        simp only [ByteArray.size_append] at this
        have e1 : (⟨#[32]⟩ : ByteArray).size = 1 := rfl
        have e2 : (⟨#[61]⟩ : ByteArray).size = 1 := rfl
        show _ ≤ _
        omega
      have q1 : ¬ 9223372036854775807 < 1 + nm.size := by have := HTn.out; omega
      have q2 : ¬ 9223372036854775807 < 1 + nm.size + 1 := by have := HTn.out; omega
      have q3 : ¬ 9223372036854775807 < 1 + nm.size + 1 + tx.size := by have := HTn.out; omega
      have HLLn : Aside ((Lib.byteCells (AC j)).length + (⟨#[32]⟩ ++ nm ++ ⟨#[61]⟩ ++ tx : ByteArray).size ≤ 140737488355328) := by
        have := HLj.out; have := HTn.out
        show _ ≤ _
        rw [bytesE_len]
        simp only [ByteArray.size_append]
        have e1 : (⟨#[32]⟩ : ByteArray).size = 1 := rfl
        have e2 : (⟨#[61]⟩ : ByteArray).size = 1 := rfl
        omega
      have HFin : Aside (∀ wZ, BuilderA (A + 1) (A + 1) (.pointer (some ⟨A + 1, 0, none⟩)) (Lib.byteCells (AC j) ++ Lib.strCells (⟨#[32]⟩ ++ nm ++ ⟨#[61]⟩ ++ tx)) wZ → BuilderA (A + 1) (A + 1) (.pointer (some ⟨A + 1, 0, none⟩)) (Lib.byteCells (AC (j + 1))) wZ) := fun wZ h => by
        have e : Lib.byteCells (AC (j + 1)) = Lib.byteCells (AC j) ++ Lib.strCells (⟨#[32]⟩ ++ nm ++ ⟨#[61]⟩ ++ tx) := by
          rw [HSt.out, HTA.out, bytesE_app, bytesE_str]
        rw [e]; exact h
      have HD9 : Aside (w9.drew.heap[V]? = some (.cells #[.string nm, .int .i64 k, .int .i64 n', .float .f64 x, .string s, .bool y] 33 (0, 0))) := hnew
      have HBLD : Aside (BuilderA (A + 1) (A + 1) (.pointer (some ⟨A + 1, 0, none⟩)) (Lib.byteCells (AC j)) w9.drew) := bldE_on HBL9.out ⟨rfl, rfl, rfl, Nat.le_refl _, fun _ _ => rfl⟩
      have HAD : Aside (Below (A + 1) w0 w9.drew) := HA9.out.trans ⟨rfl, rfl, rfl, Nat.le_refl _, fun _ _ => rfl⟩
      have hVD : V < w9.drew.heap.size := hV
      clear hnew HSt HTA HTj HLj HBL9 HA9 HV9
      go_region_held3 (fun W => W.cell? ⟨V, 0, none⟩ = some (.string nm) ∧ W.cell? ⟨V, 1, none⟩ = some (.int .i64 k) ∧ W.cell? ⟨V, 2, none⟩ = some (.int .i64 n') ∧ W.cell? ⟨V, 3, none⟩ = some (.float .f64 x) ∧ W.cell? ⟨V, 4, none⟩ = some (.string s) ∧ W.cell? ⟨V, 5, none⟩ = some (.bool y))
        (first | exact KP.out _ HVZ.out | exact KP.out _ HVY.out | exact KP.out _ HD9.out)
        (first
          | (go_at_call 8; refine (HPj.out _ (HB0.out.trans (HAD.out.mono (by omega)))).mono ?_; rintro e wY ⟨rfl, hbY⟩; have HBLY : Aside (BuilderA (A + 1) (A + 1) (.pointer (some ⟨A + 1, 0, none⟩)) (Lib.byteCells (AC j)) wY) := bldE_on HBLD.out hbY; have HVY : Aside (wY.heap[V]? = some (.cells #[.string nm, .int .i64 k, .int .i64 n', .float .f64 x, .string s, .bool y] 33 (0, 0))) := (hbY.block V hVD).trans HD9.out; have HAY : Aside (Below (A + 1) w0 wY) := HAD.out.trans (hbY.mono (by omega)); have hzY : A + 2 ≤ wY.heap.size := (by have := hbY.size; omega); clear hbY)
          | (go_at_call 25; refine (writeString_k (A + 1) (A + 1) (Lib.byteCells (AC j)) _ _ (Or.inr HBLY.out) HLLn.out (by omega)).mono ?_; rintro e wZ ⟨rfl, ⟨BZ, hbZ⟩, hkZ⟩; have HVZ : Aside (wZ.heap[V]? = some (.cells #[.string nm, .int .i64 k, .int .i64 n', .float .f64 x, .string s, .bool y] 33 (0, 0))) := (hkZ V _ _ _ HVY.out (by decide) (by omega)).trans HVY.out; have HAZ : Aside (Below (A + 1) w0 wZ) := HAY.out.trans hbZ; have HZZ : Aside (A + 2 ≤ wZ.heap.size) := Nat.le_trans hzY hbZ.size; have HBZ := Lib.hid (HFin.out _ BZ); clear BZ hbZ hkZ))
      all_goals
        go_wp2_with fail
        go_roundg (len - (j + 1))
        case measure => omega
        case rel => exact ⟨j + 1, by go_num, hlt, Nat.le_refl _, HBZ.out, HAZ.out, HZZ.out⟩
    · obtain rfl : j = len := by omega
      have hACl : AC j = AC l.length := by rw [HLen.out]
      clear hjx hj hlt
      go_wp2_with fail
      refine (Tryz.Builder_String (A + 1) (A + 1) (AC j) _ (Or.inr HBL.out) (HNE.out j)).mono ?_
      rintro e w3 ⟨rfl, hb3⟩
      have hB3 : Below w.heap.size w w3 := HB0.out.trans ((HA.out.trans hb3).mono (by omega))
      have HACl := Lib.hid hACl
      clear hb3 hACl
      go_wp2_with fail
      go_ret
      have hfin : (⟨(AC j).toArray⟩ : ByteArray) = textE sc l := by rw [HTX.out, HACl.out]
      exact ⟨congrArg (fun b => Ending.returned (Value.string b)) hfin, hB3⟩
end Go.Proofs.YtfoboncfmigdaaaGreatDoor
