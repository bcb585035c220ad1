/- EventNews' test of an attribute, as a piece of code of its own. (Written by gen_reg18.py.) -/
import Derived.Test.YtjeippdfgojdnaaGreatDoorAtP
import Derived.Deep.RegionWith
import Derived.Deep.RegionHeld3
namespace Go.Proofs.YtjeippdfgojdnaaGreatDoor
open Go.RowKit Go.Shelf Go.Sort
open Go.Proofs
set_option maxRecDepth 1000000

/-- A region of a body, by its number. -/
def regionAt (n : Nat) : Code → Option Code
  | .region k ops d => if k = n then some (.region k ops d) else none
  | .seq a b => match regionAt n a with
    | some c => some c
    | none => regionAt n b
  | .cond _ a b => match regionAt n a with
    | some c => some c
    | none => regionAt n b
  | .block _ c => regionAt n c
  | .loop c => regionAt n c
  | _ => none
noncomputable def reg18 : Code := (regionAt 18 (Tryz.f12.body.getD .skip)).getD .skip

set_option maxHeartbeats 8000000 in
theorem reg18_a (E A V i : Nat) (k nn zk zn : Int) (x zx : Nat) (sx zs : ByteArray) (y zy : Bool) (w : World) (K : Act → World → Prop) (hAz : A < w.heap.size) (hVz : V < w.heap.size)
    (a1 : w.cell? ⟨A, 1, none⟩ = some (.int .i64 k)) (a2 : w.cell? ⟨A, 2, none⟩ = some (.int .i64 nn)) (a3 : w.cell? ⟨A, 3, none⟩ = some (.float .f64 x)) (a4 : w.cell? ⟨A, 4, none⟩ = some (.string sx)) (a5 : w.cell? ⟨A, 5, none⟩ = some (.bool y))
    (v0 : w.cell? ⟨V, 0, none⟩ = some (.int .i64 zk)) (v1 : w.cell? ⟨V, 1, none⟩ = some (.int .i64 zn)) (v2 : w.cell? ⟨V, 2, none⟩ = some (.float .f64 zx)) (v3 : w.cell? ⟨V, 3, none⟩ = some (.string zs)) (v4 : w.cell? ⟨V, 4, none⟩ = some (.bool zy)) (hi0 : i = 0)
    (hC : ∀ W, Calls Tryz.prog 35 #[.agg #[.int .i64 zk, .int .i64 zn, .float .f64 zx, .string zs, .bool zy]] W fun e w' => e = .returned (.agg #[.int .i64 k, .int .i64 nn, .float .f64 x, .string sx, .bool y]) ∧ Below W.heap.size W w')
    (hS : ∀ W, Calls Tryz.prog 34 #[.agg #[.int .i64 k, .int .i64 nn, .float .f64 x, .string sx, .bool y], .agg #[.int .i64 k, .int .i64 nn, .float .f64 x, .string sx, .bool y]] W fun e w' => e = .returned (.bool true) ∧ Below W.heap.size W w')
    {u0 u1 u2 u3 u4 u6 u7 u8 u13 u14 u15 u16 u17 u18 u19 u20 u21 u22 u23 u24 u25 u26 u27 u28 u29 u30 u31 u32 u33 u34 u35 u36 u37 u38 u39 u40 u41 u42 u43 u44 u45 u46 u47 u48 u49 u50 u51 u52 u53 u54 u55 u56 u57 u58 u59 u60 u61 u62 u63 u64 u65 u66 u67 u68 u69 u70 u71 u72 u73 u74 u75 u76 u77 u78 u79 u80 u81 u82 u83 u84 u85 u86 u87 u88 u89 u90 u91 u92 u93 u94 u95 u96 u97 u98 u99 u100 u101 u102 u103 u104 u105 u106 u107 u108 u109 u110 u111 u112 u113 u114 u115 u116 u117 u118 u119 u120 u121 u122 u123 u124 u125 u126 u127 u128 u129 u130 u131 u132 u133 u134 u135 : Value}
    (hK : ∀ x72 x73 x74 x75 x76 x77 x78 x79 x80 x81 x82 x83 x84 x85 x86 x87 x88 x89 x90 x91 x92 x93 x94 x95 x96 W, Below w.heap.size w W → K ⟨List.toArray (u0 :: u1 :: u2 :: u3 :: u4 :: (.pointer (some ⟨E, 0, none⟩)) :: u6 :: u7 :: u8 :: (.int .i64 (i : Int)) :: (.pointer (some ⟨A, 0, none⟩)) :: (.pointer (some ⟨V, 0, none⟩)) :: (.bool true) :: u13 :: u14 :: u15 :: u16 :: u17 :: u18 :: u19 :: u20 :: u21 :: u22 :: u23 :: u24 :: u25 :: u26 :: u27 :: u28 :: u29 :: u30 :: u31 :: u32 :: u33 :: u34 :: u35 :: u36 :: u37 :: u38 :: u39 :: u40 :: u41 :: u42 :: u43 :: u44 :: u45 :: u46 :: u47 :: u48 :: u49 :: u50 :: u51 :: u52 :: u53 :: u54 :: u55 :: u56 :: u57 :: u58 :: u59 :: u60 :: u61 :: u62 :: u63 :: u64 :: u65 :: u66 :: u67 :: u68 :: u69 :: u70 :: u71 :: x72 :: x73 :: x74 :: x75 :: x76 :: x77 :: x78 :: x79 :: x80 :: x81 :: x82 :: x83 :: x84 :: x85 :: x86 :: x87 :: x88 :: x89 :: x90 :: x91 :: x92 :: x93 :: x94 :: x95 :: x96 :: (.bool false) :: u98 :: u99 :: u100 :: u101 :: u102 :: u103 :: u104 :: u105 :: u106 :: u107 :: u108 :: u109 :: u110 :: u111 :: u112 :: u113 :: u114 :: u115 :: u116 :: u117 :: u118 :: u119 :: u120 :: u121 :: u122 :: u123 :: u124 :: u125 :: u126 :: u127 :: u128 :: u129 :: u130 :: u131 :: u132 :: u133 :: u134 :: u135 :: []), []⟩ W) :
    Code.wp Tryz.prog reg18 (Exit.then K (fun _ _ _ => False)) ⟨List.toArray (u0 :: u1 :: u2 :: u3 :: u4 :: (.pointer (some ⟨E, 0, none⟩)) :: u6 :: u7 :: u8 :: (.int .i64 (i : Int)) :: (.pointer (some ⟨A, 0, none⟩)) :: (.pointer (some ⟨V, 0, none⟩)) :: (.bool true) :: u13 :: u14 :: u15 :: u16 :: u17 :: u18 :: u19 :: u20 :: u21 :: u22 :: u23 :: u24 :: u25 :: u26 :: u27 :: u28 :: u29 :: u30 :: u31 :: u32 :: u33 :: u34 :: u35 :: u36 :: u37 :: u38 :: u39 :: u40 :: u41 :: u42 :: u43 :: u44 :: u45 :: u46 :: u47 :: u48 :: u49 :: u50 :: u51 :: u52 :: u53 :: u54 :: u55 :: u56 :: u57 :: u58 :: u59 :: u60 :: u61 :: u62 :: u63 :: u64 :: u65 :: u66 :: u67 :: u68 :: u69 :: u70 :: u71 :: u72 :: u73 :: u74 :: u75 :: u76 :: u77 :: u78 :: u79 :: u80 :: u81 :: u82 :: u83 :: u84 :: u85 :: u86 :: u87 :: u88 :: u89 :: u90 :: u91 :: u92 :: u93 :: u94 :: u95 :: u96 :: u97 :: u98 :: u99 :: u100 :: u101 :: u102 :: u103 :: u104 :: u105 :: u106 :: u107 :: u108 :: u109 :: u110 :: u111 :: u112 :: u113 :: u114 :: u115 :: u116 :: u117 :: u118 :: u119 :: u120 :: u121 :: u122 :: u123 :: u124 :: u125 :: u126 :: u127 :: u128 :: u129 :: u130 :: u131 :: u132 :: u133 :: u134 :: u135 :: []), []⟩ w := by
  have HC := Lib.hid hC; have HSM := Lib.hid hS; have HK := Lib.hid hK
  clear hC hS hK
  have p4 : ¬ 0 < i := by omega
  have p5 : decide (0 < i) = false := by simpa using p4
  have p6 : decide ((0 : Int) < (i : Int)) = false := by simp; omega
  clear hi0
  conv => arg 2; whnf
  have HKP : Aside (∀ W, Below w.heap.size w W → W.cell? ⟨A, 1, none⟩ = some (.int .i64 k) ∧ W.cell? ⟨A, 2, none⟩ = some (.int .i64 nn) ∧ W.cell? ⟨A, 3, none⟩ = some (.float .f64 x) ∧ W.cell? ⟨A, 4, none⟩ = some (.string sx) ∧ W.cell? ⟨A, 5, none⟩ = some (.bool y) ∧ W.cell? ⟨V, 0, none⟩ = some (.int .i64 zk) ∧ W.cell? ⟨V, 1, none⟩ = some (.int .i64 zn) ∧ W.cell? ⟨V, 2, none⟩ = some (.float .f64 zx) ∧ W.cell? ⟨V, 3, none⟩ = some (.string zs) ∧ W.cell? ⟨V, 4, none⟩ = some (.bool zy)) := fun W hW => ⟨(hW.cell (p := ⟨A, 1, none⟩) hAz).trans a1, (hW.cell (p := ⟨A, 2, none⟩) hAz).trans a2, (hW.cell (p := ⟨A, 3, none⟩) hAz).trans a3, (hW.cell (p := ⟨A, 4, none⟩) hAz).trans a4, (hW.cell (p := ⟨A, 5, none⟩) hAz).trans a5, (hW.cell (p := ⟨V, 0, none⟩) hVz).trans v0, (hW.cell (p := ⟨V, 1, none⟩) hVz).trans v1, (hW.cell (p := ⟨V, 2, none⟩) hVz).trans v2, (hW.cell (p := ⟨V, 3, none⟩) hVz).trans v3, (hW.cell (p := ⟨V, 4, none⟩) hVz).trans v4⟩
  have HD : Aside (Below w.heap.size w w.drew) := ⟨rfl, rfl, rfl, Nat.le_refl _, fun _ _ => rfl⟩
  clear a1 a2 a3 a4 a5 v0 v1 v2 v3 v4
  refine wp_region_held_drew (S := fun w' => Below w.heap.size w w' ∧ w'.cell? ⟨A, 1, none⟩ = some (.int .i64 k) ∧ w'.cell? ⟨A, 2, none⟩ = some (.int .i64 nn) ∧ w'.cell? ⟨A, 3, none⟩ = some (.float .f64 x) ∧ w'.cell? ⟨A, 4, none⟩ = some (.string sx) ∧ w'.cell? ⟨A, 5, none⟩ = some (.bool y) ∧ w'.cell? ⟨V, 0, none⟩ = some (.int .i64 zk) ∧ w'.cell? ⟨V, 1, none⟩ = some (.int .i64 zn) ∧ w'.cell? ⟨V, 2, none⟩ = some (.float .f64 zx) ∧ w'.cell? ⟨V, 3, none⟩ = some (.string zs) ∧ w'.cell? ⟨V, 4, none⟩ = some (.bool zy)) (by kernel_rfl) ⟨HD.out, HKP.out _ HD.out⟩ (fun hHeld => ?_)
  refine wpAnyH_take (i := 0) (v := ?v1) rfl (by kernel_rfl) (by kernel_rfl) (by kernel_rfl) (fun _ _ _ h => h) (Or.inl ⟨by rfl, ?hy1⟩) (by assumption) ?_
  case hy1 => (intro w hSw; (try dsimp only at hSw); go_simp; first | done | with_reducible rfl)
  refine wpAnyH_take (i := 1) (v := ?v2) rfl (by kernel_rfl) (by kernel_rfl) (by kernel_rfl) (fun _ _ _ h => h) (Or.inl ⟨by rfl, ?hy2⟩) (by assumption) ?_
  case hy2 => (intro w hSw; (try dsimp only at hSw); go_simp; first | done | with_reducible rfl)
  refine wpAnyH_take (i := 2) (v := ?v3) rfl (by kernel_rfl) (by kernel_rfl) (by kernel_rfl) (fun _ _ _ h => h) (Or.inl ⟨by rfl, ?hy3⟩) (by assumption) ?_
  case hy3 => (intro w hSw; (try dsimp only at hSw); go_simp; first | done | with_reducible rfl)
  refine wpAnyH_take (i := 5) (v := ?v4) rfl (by kernel_rfl) (by kernel_rfl) (by kernel_rfl) (fun _ _ _ h => h) (Or.inl ⟨by rfl, ?hy4⟩) (by assumption) ?_
  case hy4 => (intro w hSw; (try dsimp only at hSw); go_simp; first | done | with_reducible rfl)
  refine wpAnyH_take (i := 3) (v := ?v5) rfl (by kernel_rfl) (by kernel_rfl) (by kernel_rfl) (fun _ _ _ h => h) (Or.inl ⟨by rfl, ?hy5⟩) (by assumption) ?_
  case hy5 => (intro w hSw; (try dsimp only at hSw); go_simp; first | done | with_reducible rfl)
  refine wpAnyH_take (i := 6) (v := ?v6) rfl (by kernel_rfl) (by kernel_rfl) (by kernel_rfl) (fun _ _ _ h => h) (Or.inl ⟨by rfl, ?hy6⟩) (by assumption) ?_
  case hy6 => (intro w hSw; (try dsimp only at hSw); go_simp; first | done | with_reducible rfl)
  refine wpAnyH_ready (rs := [4]) (by kernel_rfl) (by simp) ?_
  refine AllReadyH.cons rfl (fun K hK => ?_) AllReadyH.nil
  go_simp
  refine (HC.out _).mono ?_
  rintro e w7 ⟨rfl, hb⟩
  have HB7 : Aside (Below w.heap.size w w7) := HD.out.trans (hb.mono HD.out.size)
  clear hb
  try dsimp only
  refine hK.out _ _ ⟨HB7.out, HKP.out _ HB7.out⟩ (fun hHeld => ?_)
  clear hK K
  refine wpAnyH_ready (rs := [7]) (by kernel_rfl) (by simp) ?_
  refine AllReadyH.cons rfl (fun K hK => ?_) AllReadyH.nil
  go_simp
  refine (HSM.out _).mono ?_
  rintro e w8 ⟨rfl, hb⟩
  have HB8 : Aside (Below w.heap.size w w8) := HB7.out.trans (hb.mono HB7.out.size)
  clear hb
  try dsimp only
  refine hK.out _ _ ⟨HB8.out, HKP.out _ HB8.out⟩ (fun hHeld => ?_)
  clear hK K
  refine wpAnyH_take (i := 8) (v := ?v7) rfl (by kernel_rfl) (by kernel_rfl) (by kernel_rfl) (fun _ _ _ h => h) (Or.inl ⟨by rfl, ?hy7⟩) (by assumption) ?_
  case hy7 => (intro w hSw; (try dsimp only at hSw); go_simp; first | done | with_reducible rfl)
  refine wpAnyH_take (i := 9) (v := ?v8) rfl (by kernel_rfl) (by kernel_rfl) (by kernel_rfl) (fun _ _ _ h => h) (Or.inl ⟨by rfl, ?hy8⟩) (by assumption) ?_
  case hy8 => (intro w hSw; (try dsimp only at hSw); go_simp; first | done | with_reducible rfl)
  refine wpAnyH_take (i := 10) (v := ?v9) rfl (by kernel_rfl) (by kernel_rfl) (by kernel_rfl) (fun _ _ _ h => h) (Or.inl ⟨by rfl, ?hy9⟩) (by assumption) ?_
  case hy9 => (intro w hSw; (try dsimp only at hSw); go_simp; first | done | with_reducible rfl)
  refine wpAnyH_take (i := 11) (v := ?v10) rfl (by kernel_rfl) (by kernel_rfl) (by kernel_rfl) (fun _ _ _ h => h) (Or.inl ⟨by rfl, ?hy10⟩) (by assumption) ?_
  case hy10 => (intro w hSw; (try dsimp only at hSw); go_simp; first | done | with_reducible rfl)
  refine wpAnyH_take (i := 12) (v := ?v11) rfl (by kernel_rfl) (by kernel_rfl) (by kernel_rfl) (fun _ _ _ h => h) (Or.inl ⟨by rfl, ?hy11⟩) (by assumption) ?_
  case hy11 => (intro w hSw; (try dsimp only at hSw); go_simp; first | done | with_reducible rfl)
  refine wpAnyH_take (i := 13) (v := ?v12) rfl (by kernel_rfl) (by kernel_rfl) (by kernel_rfl) (fun _ _ _ h => h) (Or.inl ⟨by rfl, ?hy12⟩) (by assumption) ?_
  case hy12 => (intro w hSw; (try dsimp only at hSw); go_simp; first | done | with_reducible rfl)
  refine wpAnyH_take (i := 14) (v := undef) rfl (by kernel_rfl) (by kernel_rfl) (by kernel_rfl) (fun _ _ _ h => h) (Or.inr ⟨by kernel_rfl, rfl⟩) (by assumption) ?_
  refine wpAnyH_take (i := 15) (v := undef) rfl (by kernel_rfl) (by kernel_rfl) (by kernel_rfl) (fun _ _ _ h => h) (Or.inr ⟨by kernel_rfl, rfl⟩) (by assumption) ?_
  refine wpAnyH_take (i := 16) (v := undef) rfl (by kernel_rfl) (by kernel_rfl) (by kernel_rfl) (fun _ _ _ h => h) (Or.inr ⟨by kernel_rfl, rfl⟩) (by assumption) ?_
  refine wpAnyH_take (i := 17) (v := undef) rfl (by kernel_rfl) (by kernel_rfl) (by kernel_rfl) (fun _ _ _ h => h) (Or.inr ⟨by kernel_rfl, rfl⟩) (by assumption) ?_
  refine wpAnyH_take (i := 18) (v := undef) rfl (by kernel_rfl) (by kernel_rfl) (by kernel_rfl) (fun _ _ _ h => h) (Or.inr ⟨by kernel_rfl, rfl⟩) (by assumption) ?_
  refine wpAnyH_take (i := 19) (v := undef) rfl (by kernel_rfl) (by kernel_rfl) (by kernel_rfl) (fun _ _ _ h => h) (Or.inr ⟨by kernel_rfl, rfl⟩) (by assumption) ?_
  refine wpAnyH_take (i := 20) (v := undef) rfl (by kernel_rfl) (by kernel_rfl) (by kernel_rfl) (fun _ _ _ h => h) (Or.inr ⟨by kernel_rfl, rfl⟩) (by assumption) ?_
  refine wpAnyH_take (i := 21) (v := undef) rfl (by kernel_rfl) (by kernel_rfl) (by kernel_rfl) (fun _ _ _ h => h) (Or.inr ⟨by kernel_rfl, rfl⟩) (by assumption) ?_
  refine wpAnyH_take (i := 22) (v := undef) rfl (by kernel_rfl) (by kernel_rfl) (by kernel_rfl) (fun _ _ _ h => h) (Or.inr ⟨by kernel_rfl, rfl⟩) (by assumption) ?_
  refine wpAnyH_take (i := 23) (v := undef) rfl (by kernel_rfl) (by kernel_rfl) (by kernel_rfl) (fun _ _ _ h => h) (Or.inr ⟨by kernel_rfl, rfl⟩) (by assumption) ?_
  simp only [Act.put, List.getElem_toArray, List.getElem_cons_zero, List.getElem_cons_succ, List.setIfInBounds_toArray, List.set_cons_zero, List.set_cons_succ]
  refine wpAnyH_take (i := 24) (v := ?v13) rfl (by kernel_rfl) (by kernel_rfl) (by kernel_rfl) (fun _ _ _ h => h) (Or.inl ⟨by rfl, ?hy13⟩) (by assumption) ?_
  case hy13 => (intro w hSw; (try dsimp only at hSw); go_simp; first | done | with_reducible rfl)
  refine wpAnyH_take (i := 25) (v := ?v14) rfl (by kernel_rfl) (by kernel_rfl) (by kernel_rfl) (fun _ _ _ h => h) (Or.inl ⟨by rfl, ?hy14⟩) (by assumption) ?_
  case hy14 => (intro w hSw; (try dsimp only at hSw); go_simp; first | done | with_reducible rfl)
  refine wpAnyH_done (by kernel_rfl) ?_ _
  simp only [Act.put, List.getElem_toArray, List.getElem_cons_zero, List.getElem_cons_succ, List.setIfInBounds_toArray, List.set_cons_zero, List.set_cons_succ]
  exact HK.out _ _ _ _ _ _ _ _ _ _ _ _ _ _ _ _ _ _ _ _ _ _ _ _ _ _ HB8.out
set_option maxHeartbeats 8000000 in
theorem reg18_b (E A V G i : Nat) (k nn zk zn : Int) (x zx : Nat) (sx zs : ByteArray) (y zy : Bool) (w : World) (K : Act → World → Prop) (hAz : A < w.heap.size) (hVz : V < w.heap.size)
    (a1 : w.cell? ⟨A, 1, none⟩ = some (.int .i64 k)) (a2 : w.cell? ⟨A, 2, none⟩ = some (.int .i64 nn)) (a3 : w.cell? ⟨A, 3, none⟩ = some (.float .f64 x)) (a4 : w.cell? ⟨A, 4, none⟩ = some (.string sx)) (a5 : w.cell? ⟨A, 5, none⟩ = some (.bool y))
    (v0 : w.cell? ⟨V, 0, none⟩ = some (.int .i64 zk)) (v1 : w.cell? ⟨V, 1, none⟩ = some (.int .i64 zn)) (v2 : w.cell? ⟨V, 2, none⟩ = some (.float .f64 zx)) (v3 : w.cell? ⟨V, 3, none⟩ = some (.string zs)) (v4 : w.cell? ⟨V, 4, none⟩ = some (.bool zy)) (q n bc : Nat) (pn nm : ByteArray) (a0 : w.cell? ⟨A, 0, none⟩ = some (.string nm)) (k1 : w.cell? ⟨E, 1, none⟩ = some (.slice (some ⟨G, 0, none⟩) n bc)) (cp0 : w.cell? ⟨G, q * 6, none⟩ = some (.string pn)) (lk : Op.bytesLess pn.toList nm.toList = true) (hEz : E < w.heap.size) (hGz : G < w.heap.size) (hiq : i = q + 1) (hin : i < n) (hi9 : i ≤ 9223372036854775807)
    (hC : ∀ W, Calls Tryz.prog 35 #[.agg #[.int .i64 zk, .int .i64 zn, .float .f64 zx, .string zs, .bool zy]] W fun e w' => e = .returned (.agg #[.int .i64 k, .int .i64 nn, .float .f64 x, .string sx, .bool y]) ∧ Below W.heap.size W w')
    (hS : ∀ W, Calls Tryz.prog 34 #[.agg #[.int .i64 k, .int .i64 nn, .float .f64 x, .string sx, .bool y], .agg #[.int .i64 k, .int .i64 nn, .float .f64 x, .string sx, .bool y]] W fun e w' => e = .returned (.bool true) ∧ Below W.heap.size W w')
    {u0 u1 u2 u3 u4 u6 u7 u8 u13 u14 u15 u16 u17 u18 u19 u20 u21 u22 u23 u24 u25 u26 u27 u28 u29 u30 u31 u32 u33 u34 u35 u36 u37 u38 u39 u40 u41 u42 u43 u44 u45 u46 u47 u48 u49 u50 u51 u52 u53 u54 u55 u56 u57 u58 u59 u60 u61 u62 u63 u64 u65 u66 u67 u68 u69 u70 u71 u72 u73 u74 u75 u76 u77 u78 u79 u80 u81 u82 u83 u84 u85 u86 u87 u88 u89 u90 u91 u92 u93 u94 u95 u96 u97 u98 u99 u100 u101 u102 u103 u104 u105 u106 u107 u108 u109 u110 u111 u112 u113 u114 u115 u116 u117 u118 u119 u120 u121 u122 u123 u124 u125 u126 u127 u128 u129 u130 u131 u132 u133 u134 u135 : Value}
    (hK : ∀ x72 x73 x74 x75 x76 x77 x78 x79 x80 x81 x82 x83 x84 x85 x86 x87 x88 x89 x90 x91 x92 x93 x94 x95 x96 W, Below w.heap.size w W → K ⟨List.toArray (u0 :: u1 :: u2 :: u3 :: u4 :: (.pointer (some ⟨E, 0, none⟩)) :: u6 :: u7 :: u8 :: (.int .i64 (i : Int)) :: (.pointer (some ⟨A, 0, none⟩)) :: (.pointer (some ⟨V, 0, none⟩)) :: (.bool true) :: u13 :: u14 :: u15 :: u16 :: u17 :: u18 :: u19 :: u20 :: u21 :: u22 :: u23 :: u24 :: u25 :: u26 :: u27 :: u28 :: u29 :: u30 :: u31 :: u32 :: u33 :: u34 :: u35 :: u36 :: u37 :: u38 :: u39 :: u40 :: u41 :: u42 :: u43 :: u44 :: u45 :: u46 :: u47 :: u48 :: u49 :: u50 :: u51 :: u52 :: u53 :: u54 :: u55 :: u56 :: u57 :: u58 :: u59 :: u60 :: u61 :: u62 :: u63 :: u64 :: u65 :: u66 :: u67 :: u68 :: u69 :: u70 :: u71 :: x72 :: x73 :: x74 :: x75 :: x76 :: x77 :: x78 :: x79 :: x80 :: x81 :: x82 :: x83 :: x84 :: x85 :: x86 :: x87 :: x88 :: x89 :: x90 :: x91 :: x92 :: x93 :: x94 :: x95 :: x96 :: (.bool false) :: u98 :: u99 :: u100 :: u101 :: u102 :: u103 :: u104 :: u105 :: u106 :: u107 :: u108 :: u109 :: u110 :: u111 :: u112 :: u113 :: u114 :: u115 :: u116 :: u117 :: u118 :: u119 :: u120 :: u121 :: u122 :: u123 :: u124 :: u125 :: u126 :: u127 :: u128 :: u129 :: u130 :: u131 :: u132 :: u133 :: u134 :: u135 :: []), []⟩ W) :
    Code.wp Tryz.prog reg18 (Exit.then K (fun _ _ _ => False)) ⟨List.toArray (u0 :: u1 :: u2 :: u3 :: u4 :: (.pointer (some ⟨E, 0, none⟩)) :: u6 :: u7 :: u8 :: (.int .i64 (i : Int)) :: (.pointer (some ⟨A, 0, none⟩)) :: (.pointer (some ⟨V, 0, none⟩)) :: (.bool true) :: u13 :: u14 :: u15 :: u16 :: u17 :: u18 :: u19 :: u20 :: u21 :: u22 :: u23 :: u24 :: u25 :: u26 :: u27 :: u28 :: u29 :: u30 :: u31 :: u32 :: u33 :: u34 :: u35 :: u36 :: u37 :: u38 :: u39 :: u40 :: u41 :: u42 :: u43 :: u44 :: u45 :: u46 :: u47 :: u48 :: u49 :: u50 :: u51 :: u52 :: u53 :: u54 :: u55 :: u56 :: u57 :: u58 :: u59 :: u60 :: u61 :: u62 :: u63 :: u64 :: u65 :: u66 :: u67 :: u68 :: u69 :: u70 :: u71 :: u72 :: u73 :: u74 :: u75 :: u76 :: u77 :: u78 :: u79 :: u80 :: u81 :: u82 :: u83 :: u84 :: u85 :: u86 :: u87 :: u88 :: u89 :: u90 :: u91 :: u92 :: u93 :: u94 :: u95 :: u96 :: u97 :: u98 :: u99 :: u100 :: u101 :: u102 :: u103 :: u104 :: u105 :: u106 :: u107 :: u108 :: u109 :: u110 :: u111 :: u112 :: u113 :: u114 :: u115 :: u116 :: u117 :: u118 :: u119 :: u120 :: u121 :: u122 :: u123 :: u124 :: u125 :: u126 :: u127 :: u128 :: u129 :: u130 :: u131 :: u132 :: u133 :: u134 :: u135 :: []), []⟩ w := by
  have HC := Lib.hid hC; have HSM := Lib.hid hS; have HK := Lib.hid hK
  clear hC hS hK
  have p4 : 0 < i := by omega
  have p5 : decide (0 < i) = true := by simpa using p4
  have p6 : decide ((0 : Int) < (i : Int)) = true := by simp; omega
  have t0 : ((i : Int) - 1).toNat = q := by omega
  have t1 : IntKind.i64.wrap ((i : Int) - 1) = (q : Int) := by rw [IntKind.wrap_i64]; omega
  have t2 : wrap64 ((i : Int) - 1) = (q : Int) := by unfold wrap64; omega
  have t3 : (q : Int) < n := by omega
  have t4 : (0 : Int) ≤ q := by omega
  clear hiq hin hi9
  conv => arg 2; whnf
  have HKP : Aside (∀ W, Below w.heap.size w W → W.cell? ⟨A, 1, none⟩ = some (.int .i64 k) ∧ W.cell? ⟨A, 2, none⟩ = some (.int .i64 nn) ∧ W.cell? ⟨A, 3, none⟩ = some (.float .f64 x) ∧ W.cell? ⟨A, 4, none⟩ = some (.string sx) ∧ W.cell? ⟨A, 5, none⟩ = some (.bool y) ∧ W.cell? ⟨V, 0, none⟩ = some (.int .i64 zk) ∧ W.cell? ⟨V, 1, none⟩ = some (.int .i64 zn) ∧ W.cell? ⟨V, 2, none⟩ = some (.float .f64 zx) ∧ W.cell? ⟨V, 3, none⟩ = some (.string zs) ∧ W.cell? ⟨V, 4, none⟩ = some (.bool zy) ∧ W.cell? ⟨A, 0, none⟩ = some (.string nm) ∧ W.cell? ⟨E, 1, none⟩ = some (.slice (some ⟨G, 0, none⟩) n bc) ∧ W.cell? ⟨G, q * 6, none⟩ = some (.string pn)) := fun W hW => ⟨(hW.cell (p := ⟨A, 1, none⟩) hAz).trans a1, (hW.cell (p := ⟨A, 2, none⟩) hAz).trans a2, (hW.cell (p := ⟨A, 3, none⟩) hAz).trans a3, (hW.cell (p := ⟨A, 4, none⟩) hAz).trans a4, (hW.cell (p := ⟨A, 5, none⟩) hAz).trans a5, (hW.cell (p := ⟨V, 0, none⟩) hVz).trans v0, (hW.cell (p := ⟨V, 1, none⟩) hVz).trans v1, (hW.cell (p := ⟨V, 2, none⟩) hVz).trans v2, (hW.cell (p := ⟨V, 3, none⟩) hVz).trans v3, (hW.cell (p := ⟨V, 4, none⟩) hVz).trans v4, (hW.cell (p := ⟨A, 0, none⟩) hAz).trans a0, (hW.cell (p := ⟨E, 1, none⟩) hEz).trans k1, (hW.cell (p := ⟨G, q * 6, none⟩) hGz).trans cp0⟩
  have HD : Aside (Below w.heap.size w w.drew) := ⟨rfl, rfl, rfl, Nat.le_refl _, fun _ _ => rfl⟩
  clear a1 a2 a3 a4 a5 v0 v1 v2 v3 v4 a0 k1 cp0
  first
  | go_region_held (fun w' => Below w.heap.size w w' ∧ w'.cell? ⟨A, 1, none⟩ = some (.int .i64 k) ∧ w'.cell? ⟨A, 2, none⟩ = some (.int .i64 nn) ∧ w'.cell? ⟨A, 3, none⟩ = some (.float .f64 x) ∧ w'.cell? ⟨A, 4, none⟩ = some (.string sx) ∧ w'.cell? ⟨A, 5, none⟩ = some (.bool y) ∧ w'.cell? ⟨V, 0, none⟩ = some (.int .i64 zk) ∧ w'.cell? ⟨V, 1, none⟩ = some (.int .i64 zn) ∧ w'.cell? ⟨V, 2, none⟩ = some (.float .f64 zx) ∧ w'.cell? ⟨V, 3, none⟩ = some (.string zs) ∧ w'.cell? ⟨V, 4, none⟩ = some (.bool zy) ∧ w'.cell? ⟨A, 0, none⟩ = some (.string nm) ∧ w'.cell? ⟨E, 1, none⟩ = some (.slice (some ⟨G, 0, none⟩) n bc) ∧ w'.cell? ⟨G, q * 6, none⟩ = some (.string pn))
    (first | exact ⟨HB8.out, HKP.out _ HB8.out⟩ | exact ⟨HB7.out, HKP.out _ HB7.out⟩ | exact ⟨HD.out, HKP.out _ HD.out⟩)
    (first
      | (go_at_call 35; refine (HC.out _).mono ?_; rintro e w7 ⟨rfl, hb⟩; have HB7 := Lib.hid (HD.out.trans (hb.mono HD.out.size)); clear hb)
      | (go_at_call 34; refine (HSM.out _).mono ?_; rintro e w8 ⟨rfl, hb⟩; have HB8 := Lib.hid (HB7.out.trans (hb.mono HB7.out.size)); clear hb))
  | fail "the region"
  all_goals
    go_wp2_with fail
    exact HK.out _ _ _ _ _ _ _ _ _ _ _ _ _ _ _ _ _ _ _ _ _ _ _ _ _ _ HB8.out
end Go.Proofs.YtjeippdfgojdnaaGreatDoor
