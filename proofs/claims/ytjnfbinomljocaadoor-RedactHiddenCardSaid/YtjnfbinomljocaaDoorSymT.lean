/- slices.symMergeCmpFunc at the attributes of an event: what it does behind its last search: the exchange, and its two calls of itself. (Written by gen_sym.py.) -/
import Derived.Test.YtjnfbinomljocaaDoorGaF
import Derived.Deep.DeepCutAuto
namespace Go.Proofs.YtjnfbinomljocaaDoor
open Go.Shelf Go.RowKit Go.Lib Go.Sort
open Go.Proofs
variable {P : Program} {α : Type} [Inhabited α]

/-- What stands behind the n first statements. -/
def rest : Nat → Code → Code
  | 0, c => c
  | n + 1, .seq _ c => rest n c
  | _ + 1, c => c
noncomputable def tail (n : Nat) : Code := rest n (Tryd.f84.body.getD .skip)

set_option maxHeartbeats 8000000 in
set_option maxRecDepth 1000000 in
theorem tail43_c (L : SortP P) (k : Nat) (enc : α → List Value) (key : α → List UInt8) (g : Nat) (cb : Array Value) (blk off cap : Nat) (w0 : World) (N a m b mid i t : Nat) (d : Array α) (w : World) (e1 f : Array α) (hd : d.size = N) (tmid : mid ≤ t) (tb : t ≤ b) (midb : mid < b) (amid : a < mid) (hb : b ≤ N) (GH : Good key a b d e1) (H : Halves key a i mid t b e1) (GL : Good key a mid e1 f ∧ SortedIn (ltKey key) a mid f) (S : SWK enc k w0 blk off f w) (hrec : (∀ (a' m' b' : Nat) (d : Array α) (w : World), b' - a' < b - a → N = d.size → SWK enc k w0 blk off d w → a' < m' → m' < b' → b' ≤ d.size → SortedIn (ltKey key) a' m' d → SortedIn (ltKey key) m' b' d → Calls P 84 #[.slice (some ⟨blk, off, none⟩) N cap, .int .i64 a', .int .i64 m', .int .i64 b', .func (.func g) #[] cb] w fun e w' => e = .returned (.tuple #[]) ∧ ∃ d', Aside (Good key a' b' d d' ∧ SortedIn (ltKey key) a' b' d') ∧ Aside (SWK enc k w0 blk off d' w')))
    {u5 u6 u7 u8 u9 u10 u11 u12 u13 u14 u15 u16 u17 u19 u21 u22 u23 u25 u26 u27 u28 u29 u30 u31 u32 u33 u34 u35 u36 u37 u38 u39 u40 u41 u42 u43 u44 u45 u46 u47 u48 u49 u50 u51 u52 u53 u54 u55 u56 u57 u58 u59 u60 u61 u62 u63 u64 u65 u66 u67 u68 u69 u70 u71 u72 u73 u74 u75 u76 u77 u78 u79 u80 u81 u82 u83 u84 u85 u86 u87 u88 u89 u90 u91 u92 u93 u94 u95 u96 u97 u98 u99 u100 u101 u102 u103 u104 u105 u106 u107 u108 u109 u110 u111 u112 u113 u114 u115 u116 u117 u118 u119 u120 u121 u122 u123 u124 u125 u126 u127 u128 u129 u130 u131 u132 u133 u134 u135 u136 u137 u138 u139 u140 u141 u142 u143 u144 u145 u146 u147 u148 u149 u150 u151 u152 u153 u154 u155 u156 u157 u158 u159 u160 u161 u162 u163 u164 u165 u166 u167 u168 u169 u170 u171 u172 u173 u174 u175 u176 u177 u178 u179 u180 u181 u182 u183 u184 u185 u186 u187 u188 u189 u190 u191 u192 u193 u194 u195 u196 u197 u198 u199 u200 u201 u202 u203 u204 u205 u206 u207 u208 u209 u210 u211 u212 u213 u214 u215 u216 u217 u218 u219 : Value} :
    Code.wp P (tail 11) (bodyPost P Tryd.f84 (fun e w' => e = Ending.returned (.tuple #[]) ∧ ∃ d', Aside (Good key a b d d' ∧ SortedIn (ltKey key) a b d') ∧ Aside (SWK enc k w0 blk off d' w')))
      ⟨List.toArray ((.slice (some ⟨blk, off, none⟩) N cap) :: (.int .i64 a) :: (.int .i64 m) :: (.int .i64 b) :: (.func (.func g) #[] cb) :: u5 :: u6 :: u7 :: u8 :: u9 :: u10 :: u11 :: u12 :: u13 :: u14 :: u15 :: u16 :: u17 :: (.int .i64 mid) :: u19 :: (.int .i64 i) :: u21 :: u22 :: u23 :: (.int .i64 t) :: u25 :: u26 :: u27 :: u28 :: u29 :: u30 :: u31 :: u32 :: u33 :: u34 :: u35 :: u36 :: u37 :: u38 :: u39 :: u40 :: u41 :: u42 :: u43 :: u44 :: u45 :: u46 :: u47 :: u48 :: u49 :: u50 :: u51 :: u52 :: u53 :: u54 :: u55 :: u56 :: u57 :: u58 :: u59 :: u60 :: u61 :: u62 :: u63 :: u64 :: u65 :: u66 :: u67 :: u68 :: u69 :: u70 :: u71 :: u72 :: u73 :: u74 :: u75 :: u76 :: u77 :: u78 :: u79 :: u80 :: u81 :: u82 :: u83 :: u84 :: u85 :: u86 :: u87 :: u88 :: u89 :: u90 :: u91 :: u92 :: u93 :: u94 :: u95 :: u96 :: u97 :: u98 :: u99 :: u100 :: u101 :: u102 :: u103 :: u104 :: u105 :: u106 :: u107 :: u108 :: u109 :: u110 :: u111 :: u112 :: u113 :: u114 :: u115 :: u116 :: u117 :: u118 :: u119 :: u120 :: u121 :: u122 :: u123 :: u124 :: u125 :: u126 :: u127 :: u128 :: u129 :: u130 :: u131 :: u132 :: u133 :: u134 :: u135 :: u136 :: u137 :: u138 :: u139 :: u140 :: u141 :: u142 :: u143 :: u144 :: u145 :: u146 :: u147 :: u148 :: u149 :: u150 :: u151 :: u152 :: u153 :: u154 :: u155 :: u156 :: u157 :: u158 :: u159 :: u160 :: u161 :: u162 :: u163 :: u164 :: u165 :: u166 :: u167 :: u168 :: u169 :: u170 :: u171 :: u172 :: u173 :: u174 :: u175 :: u176 :: u177 :: u178 :: u179 :: u180 :: u181 :: u182 :: u183 :: u184 :: u185 :: u186 :: u187 :: u188 :: u189 :: u190 :: u191 :: u192 :: u193 :: u194 :: u195 :: u196 :: u197 :: u198 :: u199 :: u200 :: u201 :: u202 :: u203 :: u204 :: u205 :: u206 :: u207 :: u208 :: u209 :: u210 :: u211 :: u212 :: u213 :: u214 :: u215 :: u216 :: u217 :: u218 :: u219 :: []), []⟩ w := by
  have mixed := L.mixed; have t0 := L.t0; have a0 := L.a0; have z0 := L.z0; have v0 := L.v0; have t3 := L.t3; have a3 := L.a3; have z3 := L.z3; have v3 := L.v3; have tu := L.tu; have au := L.au; have zu := L.zu; have vu := L.vu; have t4 := L.t4; have a4 := L.a4; have z4 := L.z4; have v4 := L.v4; have t22 := L.t22; have a22 := L.a22; have z22 := L.z22; have v22 := L.v22; have t25 := L.t25; have a25 := L.a25; have z25 := L.z25; have v25 := L.v25
  have u3' := run_underlying L.t3; have uu' := run_underlying L.tu
  have erot : ∀ args w, (callFunc 99 args).run P w = .ok (.enter 99 args) w := enters_of L.rot (by kernel_rfl) rfl
  have esym : ∀ args w, (callFunc 84 args).run P w = .ok (.enter 84 args) w := enters_of L.sym (by kernel_rfl) rfl
  have REC : Aside _ := hrec
  have S4 : Aside _ := S
  have GHA : Aside _ := GH
  have GLA : Aside _ := GL
  have HA : Aside _ := H
  have HD : Aside _ := hd
  let Qb := (bodyPost P Tryd.f84 (fun e w' => e = Ending.returned (.tuple #[]) ∧ ∃ d', Aside (Good key a b d d' ∧ SortedIn (ltKey key) a b d') ∧ Aside (SWK enc k w0 blk off d' w')))
  show Code.wp P (tail 11) Qb _ _
  clear hrec S GH GL H L hd
  conv => arg 2; whnf
  by_cases p1 : mid < t
  · have z1 : (mid : Int) < (t : Int) := by omega
    by_cases p2 : t < b
    · have z2 : (t : Int) < (b : Int) := by omega
      obtain ⟨f1, f2⟩ := HA.out.far GLA.out.1 tmid
      have F1 : Aside _ := f1
      have F2 : Aside _ := f2
      clear f1 f2
      go_wp2_with fail
      refine (REC.out mid t b f _ (by omega) (by rw [GLA.out.1.size, GHA.out.size]; exact HD.out.symm) S4.out p1 p2 (by rw [GLA.out.1.size, GHA.out.size, HD.out]; exact hb) F1.out F2.out).mono ?_
      rintro e5 w5 ⟨rfl, g5, G5, S6⟩
      have S7 : Aside (SWK enc k w0 blk off g5 w5) := S6
      clear S4 S6
      go_wp2_with fail
      go_end0
      have hq := halves_done HA.out.lr (by omega) (by omega) GLA.out.1 GLA.out.2 G5.out.1 G5.out.2
      exact ⟨rfl, g5, (⟨GHA.out.trans hq.1, hq.2⟩ : _ ∧ _), S7⟩
    · have z2 : ¬ (t : Int) < (b : Int) := by omega
      have hno : ¬ (mid < t ∧ t < b) := fun h => p2 h.2
      go_wp2_with fail
      go_end0
      have hq := halves_done HA.out.lr (by omega) (by omega) GLA.out.1 GLA.out.2 (Good.refl key mid b f) (HA.out.right GLA.out.1 tmid tb hno)
      exact ⟨rfl, f, (⟨GHA.out.trans hq.1, hq.2⟩ : _ ∧ _), S4⟩
  · have z1 : ¬ (mid : Int) < (t : Int) := by omega
    have hno : ¬ (mid < t ∧ t < b) := fun h => p1 h.1
    go_wp2_with fail
    go_end0
    have hq := halves_done HA.out.lr (by omega) (by omega) GLA.out.1 GLA.out.2 (Good.refl key mid b f) (HA.out.right GLA.out.1 tmid tb hno)
    exact ⟨rfl, f, (⟨GHA.out.trans hq.1, hq.2⟩ : _ ∧ _), S4⟩

set_option maxHeartbeats 8000000 in
set_option maxRecDepth 1000000 in
theorem tail41_c (L : SortP P) (k : Nat) (enc : α → List Value) (key : α → List UInt8) (g : Nat) (cb : Array Value) (blk off cap : Nat) (w0 : World) (N a m b mid i t : Nat) (d : Array α) (w : World) (e1 : Array α) (hd : d.size = N) (ai : a ≤ i) (imid : i ≤ mid) (tmid : mid ≤ t) (tb : t ≤ b) (midb : mid < b) (amid : a < mid) (hb : b ≤ N) (GH : Good key a b d e1) (H : Halves key a i mid t b e1) (S : SWK enc k w0 blk off e1 w) (hrec : (∀ (a' m' b' : Nat) (d : Array α) (w : World), b' - a' < b - a → N = d.size → SWK enc k w0 blk off d w → a' < m' → m' < b' → b' ≤ d.size → SortedIn (ltKey key) a' m' d → SortedIn (ltKey key) m' b' d → Calls P 84 #[.slice (some ⟨blk, off, none⟩) N cap, .int .i64 a', .int .i64 m', .int .i64 b', .func (.func g) #[] cb] w fun e w' => e = .returned (.tuple #[]) ∧ ∃ d', Aside (Good key a' b' d d' ∧ SortedIn (ltKey key) a' b' d') ∧ Aside (SWK enc k w0 blk off d' w')))
    {u5 u6 u7 u8 u9 u10 u11 u12 u13 u14 u15 u16 u17 u19 u21 u22 u23 u25 u26 u27 u28 u29 u30 u31 u32 u33 u34 u35 u36 u37 u38 u39 u40 u41 u42 u43 u44 u45 u46 u47 u48 u49 u50 u51 u52 u53 u54 u55 u56 u57 u58 u59 u60 u61 u62 u63 u64 u65 u66 u67 u68 u69 u70 u71 u72 u73 u74 u75 u76 u77 u78 u79 u80 u81 u82 u83 u84 u85 u86 u87 u88 u89 u90 u91 u92 u93 u94 u95 u96 u97 u98 u99 u100 u101 u102 u103 u104 u105 u106 u107 u108 u109 u110 u111 u112 u113 u114 u115 u116 u117 u118 u119 u120 u121 u122 u123 u124 u125 u126 u127 u128 u129 u130 u131 u132 u133 u134 u135 u136 u137 u138 u139 u140 u141 u142 u143 u144 u145 u146 u147 u148 u149 u150 u151 u152 u153 u154 u155 u156 u157 u158 u159 u160 u161 u162 u163 u164 u165 u166 u167 u168 u169 u170 u171 u172 u173 u174 u175 u176 u177 u178 u179 u180 u181 u182 u183 u184 u185 u186 u187 u188 u189 u190 u191 u192 u193 u194 u195 u196 u197 u198 u199 u200 u201 u202 u203 u204 u205 u206 u207 u208 u209 u210 u211 u212 u213 u214 u215 u216 u217 u218 u219 : Value} :
    Code.wp P (tail 10) (bodyPost P Tryd.f84 (fun e w' => e = Ending.returned (.tuple #[]) ∧ ∃ d', Aside (Good key a b d d' ∧ SortedIn (ltKey key) a b d') ∧ Aside (SWK enc k w0 blk off d' w')))
      ⟨List.toArray ((.slice (some ⟨blk, off, none⟩) N cap) :: (.int .i64 a) :: (.int .i64 m) :: (.int .i64 b) :: (.func (.func g) #[] cb) :: u5 :: u6 :: u7 :: u8 :: u9 :: u10 :: u11 :: u12 :: u13 :: u14 :: u15 :: u16 :: u17 :: (.int .i64 mid) :: u19 :: (.int .i64 i) :: u21 :: u22 :: u23 :: (.int .i64 t) :: u25 :: u26 :: u27 :: u28 :: u29 :: u30 :: u31 :: u32 :: u33 :: u34 :: u35 :: u36 :: u37 :: u38 :: u39 :: u40 :: u41 :: u42 :: u43 :: u44 :: u45 :: u46 :: u47 :: u48 :: u49 :: u50 :: u51 :: u52 :: u53 :: u54 :: u55 :: u56 :: u57 :: u58 :: u59 :: u60 :: u61 :: u62 :: u63 :: u64 :: u65 :: u66 :: u67 :: u68 :: u69 :: u70 :: u71 :: u72 :: u73 :: u74 :: u75 :: u76 :: u77 :: u78 :: u79 :: u80 :: u81 :: u82 :: u83 :: u84 :: u85 :: u86 :: u87 :: u88 :: u89 :: u90 :: u91 :: u92 :: u93 :: u94 :: u95 :: u96 :: u97 :: u98 :: u99 :: u100 :: u101 :: u102 :: u103 :: u104 :: u105 :: u106 :: u107 :: u108 :: u109 :: u110 :: u111 :: u112 :: u113 :: u114 :: u115 :: u116 :: u117 :: u118 :: u119 :: u120 :: u121 :: u122 :: u123 :: u124 :: u125 :: u126 :: u127 :: u128 :: u129 :: u130 :: u131 :: u132 :: u133 :: u134 :: u135 :: u136 :: u137 :: u138 :: u139 :: u140 :: u141 :: u142 :: u143 :: u144 :: u145 :: u146 :: u147 :: u148 :: u149 :: u150 :: u151 :: u152 :: u153 :: u154 :: u155 :: u156 :: u157 :: u158 :: u159 :: u160 :: u161 :: u162 :: u163 :: u164 :: u165 :: u166 :: u167 :: u168 :: u169 :: u170 :: u171 :: u172 :: u173 :: u174 :: u175 :: u176 :: u177 :: u178 :: u179 :: u180 :: u181 :: u182 :: u183 :: u184 :: u185 :: u186 :: u187 :: u188 :: u189 :: u190 :: u191 :: u192 :: u193 :: u194 :: u195 :: u196 :: u197 :: u198 :: u199 :: u200 :: u201 :: u202 :: u203 :: u204 :: u205 :: u206 :: u207 :: u208 :: u209 :: u210 :: u211 :: u212 :: u213 :: u214 :: u215 :: u216 :: u217 :: u218 :: u219 :: []), []⟩ w := by
  have mixed := L.mixed; have t0 := L.t0; have a0 := L.a0; have z0 := L.z0; have v0 := L.v0; have t3 := L.t3; have a3 := L.a3; have z3 := L.z3; have v3 := L.v3; have tu := L.tu; have au := L.au; have zu := L.zu; have vu := L.vu; have t4 := L.t4; have a4 := L.a4; have z4 := L.z4; have v4 := L.v4; have t22 := L.t22; have a22 := L.a22; have z22 := L.z22; have v22 := L.v22; have t25 := L.t25; have a25 := L.a25; have z25 := L.z25; have v25 := L.v25
  have u3' := run_underlying L.t3; have uu' := run_underlying L.tu
  have erot : ∀ args w, (callFunc 99 args).run P w = .ok (.enter 99 args) w := enters_of L.rot (by kernel_rfl) rfl
  have esym : ∀ args w, (callFunc 84 args).run P w = .ok (.enter 84 args) w := enters_of L.sym (by kernel_rfl) rfl
  have LL : Aside (SortP P) := L
  have REC : Aside _ := hrec
  have S3 : Aside _ := S
  have GHA : Aside _ := GH
  have HA : Aside _ := H
  have HD : Aside _ := hd
  let Qb := (bodyPost P Tryd.f84 (fun e w' => e = Ending.returned (.tuple #[]) ∧ ∃ d', Aside (Good key a b d d' ∧ SortedIn (ltKey key) a b d') ∧ Aside (SWK enc k w0 blk off d' w')))
  show Code.wp P (tail 10) Qb _ _
  clear hrec S GH H L hd
  conv => arg 2; whnf
  refine wp_seq_k (fun K hK => ?_)
  go_cut [] from 25 (fun wx => ∃ f, Aside (Good key a mid e1 f ∧ SortedIn (ltKey key) a mid f) ∧ Aside (SWK enc k w0 blk off f wx))
  case first =>
    clear hK
    by_cases p1 : a < i
    · have z1 : (a : Int) < (i : Int) := by omega
      by_cases p2 : i < mid
      · have z2 : (i : Int) < (mid : Int) := by omega
        go_wp2_with fail
        refine (REC.out a i mid e1 _ (by omega) (by rw [GHA.out.size]; exact HD.out.symm) S3.out p1 p2 (by rw [GHA.out.size, HD.out]; omega) HA.out.s1 HA.out.s2).mono ?_
        rintro e4 w4 ⟨rfl, f, GL, S4⟩
        have S4' : Aside (SWK enc k w0 blk off f w4) := S4
        clear S4
        go_wp2_with fail
        go_meet
        case rel => exact ⟨f, GL, S4'⟩
      · have z2 : ¬ (i : Int) < (mid : Int) := by omega
        have hno : ¬ (a < i ∧ i < mid) := fun h => p2 h.2
        go_wp2_with fail
        go_meet
        case rel => exact ⟨e1, (⟨Good.refl _ _ _ _, HA.out.left ai imid hno⟩ : _ ∧ _), S3⟩
    · have z1 : ¬ (a : Int) < (i : Int) := by omega
      have hno : ¬ (a < i ∧ i < mid) := fun h => p1 h.1
      go_wp2_with fail
      go_meet
      case rel => exact ⟨e1, (⟨Good.refl _ _ _ _, HA.out.left ai imid hno⟩ : _ ∧ _), S3⟩
  case rest =>
    obtain ⟨f, GL, S4⟩ := hcut
    refine hK _ _ ?_
    exact tail43_c LL.out k enc key g cb blk off cap w0 N a m b mid i t d wc e1 f HD.out tmid tb midb amid hb GHA.out HA.out GL.out S4.out REC.out

set_option maxHeartbeats 8000000 in
set_option maxRecDepth 1000000 in
theorem tail39_c (L : SortP P) (k : Nat) (enc : α → List Value) (key : α → List UInt8) (g : Nat) (cb : Array Value) (blk off cap : Nat) (w0 : World) (N a m b mid i t : Nat) (d : Array α) (w : World) (hd : d.size = N) (ai : a ≤ i) (im : i ≤ m) (imid : i ≤ mid) (tm : m ≤ t) (tmid : mid ≤ t) (tb : t ≤ b) (midb : mid < b) (amid : a < mid) (hb : b ≤ N) (hit : i + t = mid + m) (S : SWK enc k w0 blk off d w) (sa : SortedIn (ltKey key) a m d) (sb : SortedIn (ltKey key) m b d) (k1 : i < m → m < t → ltKey key d[t - 1]! d[i]! = true) (k2 : a < i → t < b → ltKey key d[t]! d[i - 1]! = false) (hrot : (∀ (x y z : Nat) (dk : Array α) (wr : World), N = dk.size → SWK enc k w0 blk off dk wr → x < y → y < z → z ≤ dk.size → Calls P 99 #[.slice (some ⟨blk, off, none⟩) N cap, .int .i64 x, .int .i64 y, .int .i64 z, .func (.func g) #[] cb] wr fun e w' => e = .returned (.tuple #[]) ∧ ∃ d', Aside (Rot x y z dk d') ∧ Aside (SWK enc k w0 blk off d' w'))) (hrec : (∀ (a' m' b' : Nat) (d : Array α) (w : World), b' - a' < b - a → N = d.size → SWK enc k w0 blk off d w → a' < m' → m' < b' → b' ≤ d.size → SortedIn (ltKey key) a' m' d → SortedIn (ltKey key) m' b' d → Calls P 84 #[.slice (some ⟨blk, off, none⟩) N cap, .int .i64 a', .int .i64 m', .int .i64 b', .func (.func g) #[] cb] w fun e w' => e = .returned (.tuple #[]) ∧ ∃ d', Aside (Good key a' b' d d' ∧ SortedIn (ltKey key) a' b' d') ∧ Aside (SWK enc k w0 blk off d' w')))
    {u5 u6 u7 u8 u9 u10 u11 u12 u13 u14 u15 u16 u17 u19 u21 u22 u23 u25 u26 u27 u28 u29 u30 u31 u32 u33 u34 u35 u36 u37 u38 u39 u40 u41 u42 u43 u44 u45 u46 u47 u48 u49 u50 u51 u52 u53 u54 u55 u56 u57 u58 u59 u60 u61 u62 u63 u64 u65 u66 u67 u68 u69 u70 u71 u72 u73 u74 u75 u76 u77 u78 u79 u80 u81 u82 u83 u84 u85 u86 u87 u88 u89 u90 u91 u92 u93 u94 u95 u96 u97 u98 u99 u100 u101 u102 u103 u104 u105 u106 u107 u108 u109 u110 u111 u112 u113 u114 u115 u116 u117 u118 u119 u120 u121 u122 u123 u124 u125 u126 u127 u128 u129 u130 u131 u132 u133 u134 u135 u136 u137 u138 u139 u140 u141 u142 u143 u144 u145 u146 u147 u148 u149 u150 u151 u152 u153 u154 u155 u156 u157 u158 u159 u160 u161 u162 u163 u164 u165 u166 u167 u168 u169 u170 u171 u172 u173 u174 u175 u176 u177 u178 u179 u180 u181 u182 u183 u184 u185 u186 u187 u188 u189 u190 u191 u192 u193 u194 u195 u196 u197 u198 u199 u200 u201 u202 u203 u204 u205 u206 u207 u208 u209 u210 u211 u212 u213 u214 u215 u216 u217 u218 u219 : Value} :
    Code.wp P (tail 9) (bodyPost P Tryd.f84 (fun e w' => e = Ending.returned (.tuple #[]) ∧ ∃ d', Aside (Good key a b d d' ∧ SortedIn (ltKey key) a b d') ∧ Aside (SWK enc k w0 blk off d' w')))
      ⟨List.toArray ((.slice (some ⟨blk, off, none⟩) N cap) :: (.int .i64 a) :: (.int .i64 m) :: (.int .i64 b) :: (.func (.func g) #[] cb) :: u5 :: u6 :: u7 :: u8 :: u9 :: u10 :: u11 :: u12 :: u13 :: u14 :: u15 :: u16 :: u17 :: (.int .i64 mid) :: u19 :: (.int .i64 i) :: u21 :: u22 :: u23 :: (.int .i64 t) :: u25 :: u26 :: u27 :: u28 :: u29 :: u30 :: u31 :: u32 :: u33 :: u34 :: u35 :: u36 :: u37 :: u38 :: u39 :: u40 :: u41 :: u42 :: u43 :: u44 :: u45 :: u46 :: u47 :: u48 :: u49 :: u50 :: u51 :: u52 :: u53 :: u54 :: u55 :: u56 :: u57 :: u58 :: u59 :: u60 :: u61 :: u62 :: u63 :: u64 :: u65 :: u66 :: u67 :: u68 :: u69 :: u70 :: u71 :: u72 :: u73 :: u74 :: u75 :: u76 :: u77 :: u78 :: u79 :: u80 :: u81 :: u82 :: u83 :: u84 :: u85 :: u86 :: u87 :: u88 :: u89 :: u90 :: u91 :: u92 :: u93 :: u94 :: u95 :: u96 :: u97 :: u98 :: u99 :: u100 :: u101 :: u102 :: u103 :: u104 :: u105 :: u106 :: u107 :: u108 :: u109 :: u110 :: u111 :: u112 :: u113 :: u114 :: u115 :: u116 :: u117 :: u118 :: u119 :: u120 :: u121 :: u122 :: u123 :: u124 :: u125 :: u126 :: u127 :: u128 :: u129 :: u130 :: u131 :: u132 :: u133 :: u134 :: u135 :: u136 :: u137 :: u138 :: u139 :: u140 :: u141 :: u142 :: u143 :: u144 :: u145 :: u146 :: u147 :: u148 :: u149 :: u150 :: u151 :: u152 :: u153 :: u154 :: u155 :: u156 :: u157 :: u158 :: u159 :: u160 :: u161 :: u162 :: u163 :: u164 :: u165 :: u166 :: u167 :: u168 :: u169 :: u170 :: u171 :: u172 :: u173 :: u174 :: u175 :: u176 :: u177 :: u178 :: u179 :: u180 :: u181 :: u182 :: u183 :: u184 :: u185 :: u186 :: u187 :: u188 :: u189 :: u190 :: u191 :: u192 :: u193 :: u194 :: u195 :: u196 :: u197 :: u198 :: u199 :: u200 :: u201 :: u202 :: u203 :: u204 :: u205 :: u206 :: u207 :: u208 :: u209 :: u210 :: u211 :: u212 :: u213 :: u214 :: u215 :: u216 :: u217 :: u218 :: u219 :: []), []⟩ w := by
  have mixed := L.mixed; have t0 := L.t0; have a0 := L.a0; have z0 := L.z0; have v0 := L.v0; have t3 := L.t3; have a3 := L.a3; have z3 := L.z3; have v3 := L.v3; have tu := L.tu; have au := L.au; have zu := L.zu; have vu := L.vu; have t4 := L.t4; have a4 := L.a4; have z4 := L.z4; have v4 := L.v4; have t22 := L.t22; have a22 := L.a22; have z22 := L.z22; have v22 := L.v22; have t25 := L.t25; have a25 := L.a25; have z25 := L.z25; have v25 := L.v25
  have u3' := run_underlying L.t3; have uu' := run_underlying L.tu
  have erot : ∀ args w, (callFunc 99 args).run P w = .ok (.enter 99 args) w := enters_of L.rot (by kernel_rfl) rfl
  have esym : ∀ args w, (callFunc 84 args).run P w = .ok (.enter 84 args) w := enters_of L.sym (by kernel_rfl) rfl
  have HALF : Aside (∀ e, Rot i m t d e → Good key a b d e ∧ Halves key a i mid t b e) := fun e r => halves r ai im tm tb (by omega) (by omega) sa sb k1 k2
  have LL : Aside (SortP P) := L
  have REC : Aside _ := hrec
  have HROT : Aside _ := hrot
  have S1 : Aside _ := S
  have HD : Aside _ := hd
  let Qb := (bodyPost P Tryd.f84 (fun e w' => e = Ending.returned (.tuple #[]) ∧ ∃ d', Aside (Good key a b d d' ∧ SortedIn (ltKey key) a b d') ∧ Aside (SWK enc k w0 blk off d' w')))
  show Code.wp P (tail 9) Qb _ _
  clear hrec hrot S sa sb k1 k2 L hd hit
  conv => arg 2; whnf
  refine wp_seq_k (fun K hK => ?_)
  go_cut [] from 25 (fun wx => ∃ e1, Aside (Rot i m t d e1) ∧ Aside (SWK enc k w0 blk off e1 wx))
  case first =>
    clear hK
    by_cases p1 : i < m
    · have z1 : (i : Int) < (m : Int) := by omega
      by_cases p2 : m < t
      · have z2 : (m : Int) < (t : Int) := by omega
        go_wp2_with fail
        refine (HROT.out i m t d _ HD.out.symm S1.out p1 p2 (by rw [HD.out]; omega)).mono ?_
        rintro e3 w3 ⟨rfl, e1, R1, S3⟩
        have S3' : Aside (SWK enc k w0 blk off e1 w3) := S3
        clear S3
        go_wp2_with fail
        go_meet
        case rel => exact ⟨e1, R1, S3'⟩
      · have z2 : ¬ (m : Int) < (t : Int) := by omega
        have hno : ¬ (i < m ∧ m < t) := fun h => p2 h.2
        go_wp2_with fail
        go_meet
        case rel => exact ⟨d, Rot.self d hno im tm, S1⟩
    · have z1 : ¬ (i : Int) < (m : Int) := by omega
      have hno : ¬ (i < m ∧ m < t) := fun h => p1 h.1
      go_wp2_with fail
      go_meet
      case rel => exact ⟨d, Rot.self d hno im tm, S1⟩
  case rest =>
    obtain ⟨e1, R1, S3⟩ := hcut
    obtain ⟨gh, h2⟩ := HALF.out e1 R1.out
    refine hK _ _ ?_
    exact tail41_c LL.out k enc key g cb blk off cap w0 N a m b mid i t d wc e1 HD.out ai imid tmid tb midb amid hb gh h2 S3.out REC.out

set_option maxHeartbeats 8000000 in
set_option maxRecDepth 1000000 in
theorem tail38_c (L : SortP P) (k : Nat) (enc : α → List Value) (key : α → List UInt8) (g : Nat) (cb : Array Value) (blk off cap : Nat) (w0 : World) (N a m b mid i t : Nat) (d : Array α) (w : World) (hd : d.size = N) (ai : a ≤ i) (im : i ≤ m) (imid : i ≤ mid) (tm : m ≤ t) (tmid : mid ≤ t) (tb : t ≤ b) (midb : mid < b) (amid : a < mid) (hb : b ≤ N) (hit : i + t = mid + m) (hsz : N < 4611686018427387904) (S : SWK enc k w0 blk off d w) (sa : SortedIn (ltKey key) a m d) (sb : SortedIn (ltKey key) m b d) (k1 : i < m → m < t → ltKey key d[t - 1]! d[i]! = true) (k2 : a < i → t < b → ltKey key d[t]! d[i - 1]! = false) (hrot : (∀ (x y z : Nat) (dk : Array α) (wr : World), N = dk.size → SWK enc k w0 blk off dk wr → x < y → y < z → z ≤ dk.size → Calls P 99 #[.slice (some ⟨blk, off, none⟩) N cap, .int .i64 x, .int .i64 y, .int .i64 z, .func (.func g) #[] cb] wr fun e w' => e = .returned (.tuple #[]) ∧ ∃ d', Aside (Rot x y z dk d') ∧ Aside (SWK enc k w0 blk off d' w'))) (hrec : (∀ (a' m' b' : Nat) (d : Array α) (w : World), b' - a' < b - a → N = d.size → SWK enc k w0 blk off d w → a' < m' → m' < b' → b' ≤ d.size → SortedIn (ltKey key) a' m' d → SortedIn (ltKey key) m' b' d → Calls P 84 #[.slice (some ⟨blk, off, none⟩) N cap, .int .i64 a', .int .i64 m', .int .i64 b', .func (.func g) #[] cb] w fun e w' => e = .returned (.tuple #[]) ∧ ∃ d', Aside (Good key a' b' d d' ∧ SortedIn (ltKey key) a' b' d') ∧ Aside (SWK enc k w0 blk off d' w')))
    {u5 u6 u7 u8 u9 u10 u11 u12 u13 u14 u15 u16 u17 u21 u22 u23 u24 u25 u26 u27 u28 u29 u30 u31 u32 u33 u34 u35 u36 u37 u38 u39 u40 u41 u42 u43 u44 u45 u46 u47 u48 u49 u50 u51 u52 u53 u54 u55 u56 u57 u58 u59 u60 u61 u62 u63 u64 u65 u66 u67 u68 u69 u70 u71 u72 u73 u74 u75 u76 u77 u78 u79 u80 u81 u82 u83 u84 u85 u86 u87 u88 u89 u90 u91 u92 u93 u94 u95 u96 u97 u98 u99 u100 u101 u102 u103 u104 u105 u106 u107 u108 u109 u110 u111 u112 u113 u114 u115 u116 u117 u118 u119 u120 u121 u122 u123 u124 u125 u126 u127 u128 u129 u130 u131 u132 u133 u134 u135 u136 u137 u138 u139 u140 u141 u142 u143 u144 u145 u146 u147 u148 u149 u150 u151 u152 u153 u154 u155 u156 u157 u158 u159 u160 u161 u162 u163 u164 u165 u166 u167 u168 u169 u170 u171 u172 u173 u174 u175 u176 u177 u178 u179 u180 u181 u182 u183 u184 u185 u186 u187 u188 u189 u190 u191 u192 u193 u194 u195 u196 u197 u198 u199 u200 u201 u202 u203 u204 u205 u206 u207 u208 u209 u210 u211 u212 u213 u214 u215 u216 u217 u218 u219 : Value} :
    Code.wp P (tail 8) (bodyPost P Tryd.f84 (fun e w' => e = Ending.returned (.tuple #[]) ∧ ∃ d', Aside (Good key a b d d' ∧ SortedIn (ltKey key) a b d') ∧ Aside (SWK enc k w0 blk off d' w')))
      ⟨List.toArray ((.slice (some ⟨blk, off, none⟩) N cap) :: (.int .i64 a) :: (.int .i64 m) :: (.int .i64 b) :: (.func (.func g) #[] cb) :: u5 :: u6 :: u7 :: u8 :: u9 :: u10 :: u11 :: u12 :: u13 :: u14 :: u15 :: u16 :: u17 :: (.int .i64 mid) :: (.int .i64 ((mid : Int) + (m : Int))) :: (.int .i64 i) :: u21 :: u22 :: u23 :: u24 :: u25 :: u26 :: u27 :: u28 :: u29 :: u30 :: u31 :: u32 :: u33 :: u34 :: u35 :: u36 :: u37 :: u38 :: u39 :: u40 :: u41 :: u42 :: u43 :: u44 :: u45 :: u46 :: u47 :: u48 :: u49 :: u50 :: u51 :: u52 :: u53 :: u54 :: u55 :: u56 :: u57 :: u58 :: u59 :: u60 :: u61 :: u62 :: u63 :: u64 :: u65 :: u66 :: u67 :: u68 :: u69 :: u70 :: u71 :: u72 :: u73 :: u74 :: u75 :: u76 :: u77 :: u78 :: u79 :: u80 :: u81 :: u82 :: u83 :: u84 :: u85 :: u86 :: u87 :: u88 :: u89 :: u90 :: u91 :: u92 :: u93 :: u94 :: u95 :: u96 :: u97 :: u98 :: u99 :: u100 :: u101 :: u102 :: u103 :: u104 :: u105 :: u106 :: u107 :: u108 :: u109 :: u110 :: u111 :: u112 :: u113 :: u114 :: u115 :: u116 :: u117 :: u118 :: u119 :: u120 :: u121 :: u122 :: u123 :: u124 :: u125 :: u126 :: u127 :: u128 :: u129 :: u130 :: u131 :: u132 :: u133 :: u134 :: u135 :: u136 :: u137 :: u138 :: u139 :: u140 :: u141 :: u142 :: u143 :: u144 :: u145 :: u146 :: u147 :: u148 :: u149 :: u150 :: u151 :: u152 :: u153 :: u154 :: u155 :: u156 :: u157 :: u158 :: u159 :: u160 :: u161 :: u162 :: u163 :: u164 :: u165 :: u166 :: u167 :: u168 :: u169 :: u170 :: u171 :: u172 :: u173 :: u174 :: u175 :: u176 :: u177 :: u178 :: u179 :: u180 :: u181 :: u182 :: u183 :: u184 :: u185 :: u186 :: u187 :: u188 :: u189 :: u190 :: u191 :: u192 :: u193 :: u194 :: u195 :: u196 :: u197 :: u198 :: u199 :: u200 :: u201 :: u202 :: u203 :: u204 :: u205 :: u206 :: u207 :: u208 :: u209 :: u210 :: u211 :: u212 :: u213 :: u214 :: u215 :: u216 :: u217 :: u218 :: u219 :: []), []⟩ w := by
  have mixed := L.mixed; have t0 := L.t0; have a0 := L.a0; have z0 := L.z0; have v0 := L.v0; have t3 := L.t3; have a3 := L.a3; have z3 := L.z3; have v3 := L.v3; have tu := L.tu; have au := L.au; have zu := L.zu; have vu := L.vu; have t4 := L.t4; have a4 := L.a4; have z4 := L.z4; have v4 := L.v4; have t22 := L.t22; have a22 := L.a22; have z22 := L.z22; have v22 := L.v22; have t25 := L.t25; have a25 := L.a25; have z25 := L.z25; have v25 := L.v25
  have u3' := run_underlying L.t3; have uu' := run_underlying L.tu
  have erot : ∀ args w, (callFunc 99 args).run P w = .ok (.enter 99 args) w := enters_of L.rot (by kernel_rfl) rfl
  have esym : ∀ args w, (callFunc 84 args).run P w = .ok (.enter 84 args) w := enters_of L.sym (by kernel_rfl) rfl
  have wt : IntKind.i64.wrap ((mid : Int) + (m : Int) - (i : Int)) = (t : Int) := by rw [IntKind.wrap_i64]; omega
  have GO : Aside (∀ (u5 u6 u7 u8 u9 u10 u11 u12 u13 u14 u15 u16 u17 u19 u21 u22 u23 u25 u26 u27 u28 u29 u30 u31 u32 u33 u34 u35 u36 u37 u38 u39 u40 u41 u42 u43 u44 u45 u46 u47 u48 u49 u50 u51 u52 u53 u54 u55 u56 u57 u58 u59 u60 u61 u62 u63 u64 u65 u66 u67 u68 u69 u70 u71 u72 u73 u74 u75 u76 u77 u78 u79 u80 u81 u82 u83 u84 u85 u86 u87 u88 u89 u90 u91 u92 u93 u94 u95 u96 u97 u98 u99 u100 u101 u102 u103 u104 u105 u106 u107 u108 u109 u110 u111 u112 u113 u114 u115 u116 u117 u118 u119 u120 u121 u122 u123 u124 u125 u126 u127 u128 u129 u130 u131 u132 u133 u134 u135 u136 u137 u138 u139 u140 u141 u142 u143 u144 u145 u146 u147 u148 u149 u150 u151 u152 u153 u154 u155 u156 u157 u158 u159 u160 u161 u162 u163 u164 u165 u166 u167 u168 u169 u170 u171 u172 u173 u174 u175 u176 u177 u178 u179 u180 u181 u182 u183 u184 u185 u186 u187 u188 u189 u190 u191 u192 u193 u194 u195 u196 u197 u198 u199 u200 u201 u202 u203 u204 u205 u206 u207 u208 u209 u210 u211 u212 u213 u214 u215 u216 u217 u218 u219 : Value), Code.wp P (tail 9) (bodyPost P Tryd.f84 (fun e w' => e = Ending.returned (.tuple #[]) ∧ ∃ d', Aside (Good key a b d d' ∧ SortedIn (ltKey key) a b d') ∧ Aside (SWK enc k w0 blk off d' w')))
        ⟨List.toArray ((.slice (some ⟨blk, off, none⟩) N cap) :: (.int .i64 a) :: (.int .i64 m) :: (.int .i64 b) :: (.func (.func g) #[] cb) :: u5 :: u6 :: u7 :: u8 :: u9 :: u10 :: u11 :: u12 :: u13 :: u14 :: u15 :: u16 :: u17 :: (.int .i64 mid) :: u19 :: (.int .i64 i) :: u21 :: u22 :: u23 :: (.int .i64 t) :: u25 :: u26 :: u27 :: u28 :: u29 :: u30 :: u31 :: u32 :: u33 :: u34 :: u35 :: u36 :: u37 :: u38 :: u39 :: u40 :: u41 :: u42 :: u43 :: u44 :: u45 :: u46 :: u47 :: u48 :: u49 :: u50 :: u51 :: u52 :: u53 :: u54 :: u55 :: u56 :: u57 :: u58 :: u59 :: u60 :: u61 :: u62 :: u63 :: u64 :: u65 :: u66 :: u67 :: u68 :: u69 :: u70 :: u71 :: u72 :: u73 :: u74 :: u75 :: u76 :: u77 :: u78 :: u79 :: u80 :: u81 :: u82 :: u83 :: u84 :: u85 :: u86 :: u87 :: u88 :: u89 :: u90 :: u91 :: u92 :: u93 :: u94 :: u95 :: u96 :: u97 :: u98 :: u99 :: u100 :: u101 :: u102 :: u103 :: u104 :: u105 :: u106 :: u107 :: u108 :: u109 :: u110 :: u111 :: u112 :: u113 :: u114 :: u115 :: u116 :: u117 :: u118 :: u119 :: u120 :: u121 :: u122 :: u123 :: u124 :: u125 :: u126 :: u127 :: u128 :: u129 :: u130 :: u131 :: u132 :: u133 :: u134 :: u135 :: u136 :: u137 :: u138 :: u139 :: u140 :: u141 :: u142 :: u143 :: u144 :: u145 :: u146 :: u147 :: u148 :: u149 :: u150 :: u151 :: u152 :: u153 :: u154 :: u155 :: u156 :: u157 :: u158 :: u159 :: u160 :: u161 :: u162 :: u163 :: u164 :: u165 :: u166 :: u167 :: u168 :: u169 :: u170 :: u171 :: u172 :: u173 :: u174 :: u175 :: u176 :: u177 :: u178 :: u179 :: u180 :: u181 :: u182 :: u183 :: u184 :: u185 :: u186 :: u187 :: u188 :: u189 :: u190 :: u191 :: u192 :: u193 :: u194 :: u195 :: u196 :: u197 :: u198 :: u199 :: u200 :: u201 :: u202 :: u203 :: u204 :: u205 :: u206 :: u207 :: u208 :: u209 :: u210 :: u211 :: u212 :: u213 :: u214 :: u215 :: u216 :: u217 :: u218 :: u219 :: []), []⟩ w) := fun u5 u6 u7 u8 u9 u10 u11 u12 u13 u14 u15 u16 u17 u19 u21 u22 u23 u25 u26 u27 u28 u29 u30 u31 u32 u33 u34 u35 u36 u37 u38 u39 u40 u41 u42 u43 u44 u45 u46 u47 u48 u49 u50 u51 u52 u53 u54 u55 u56 u57 u58 u59 u60 u61 u62 u63 u64 u65 u66 u67 u68 u69 u70 u71 u72 u73 u74 u75 u76 u77 u78 u79 u80 u81 u82 u83 u84 u85 u86 u87 u88 u89 u90 u91 u92 u93 u94 u95 u96 u97 u98 u99 u100 u101 u102 u103 u104 u105 u106 u107 u108 u109 u110 u111 u112 u113 u114 u115 u116 u117 u118 u119 u120 u121 u122 u123 u124 u125 u126 u127 u128 u129 u130 u131 u132 u133 u134 u135 u136 u137 u138 u139 u140 u141 u142 u143 u144 u145 u146 u147 u148 u149 u150 u151 u152 u153 u154 u155 u156 u157 u158 u159 u160 u161 u162 u163 u164 u165 u166 u167 u168 u169 u170 u171 u172 u173 u174 u175 u176 u177 u178 u179 u180 u181 u182 u183 u184 u185 u186 u187 u188 u189 u190 u191 u192 u193 u194 u195 u196 u197 u198 u199 u200 u201 u202 u203 u204 u205 u206 u207 u208 u209 u210 u211 u212 u213 u214 u215 u216 u217 u218 u219 =>
    tail39_c L k enc key g cb blk off cap w0 N a m b mid i t d w hd ai im imid tm tmid tb midb amid hb hit S sa sb k1 k2 hrot hrec
  let Qb := (bodyPost P Tryd.f84 (fun e w' => e = Ending.returned (.tuple #[]) ∧ ∃ d', Aside (Good key a b d d' ∧ SortedIn (ltKey key) a b d') ∧ Aside (SWK enc k w0 blk off d' w')))
  show Code.wp P (tail 8) Qb _ _
  clear hrec hrot S sa sb k1 k2 L hd hit hb tb midb amid
  conv => arg 2; whnf
  refine wp_seq_k (fun K hK => ?_)
  go_cut [24] from 25 (fun s24 wx => s24 = .int .i64 t ∧ wx = w)
  case first =>
    clear hK
    go_wp2_with fail
    go_meet
    case rel => exact ⟨by first | rfl | (congr 1; omega), rfl⟩
  case rest =>
    obtain ⟨rfl, rfl⟩ := hcut
    refine hK _ _ ?_
    exact GO.out _ _ _ _ _ _ _ _ _ _ _ _ _ _ _ _ _ _ _ _ _ _ _ _ _ _ _ _ _ _ _ _ _ _ _ _ _ _ _ _ _ _ _ _ _ _ _ _ _ _ _ _ _ _ _ _ _ _ _ _ _ _ _ _ _ _ _ _ _ _ _ _ _ _ _ _ _ _ _ _ _ _ _ _ _ _ _ _ _ _ _ _ _ _ _ _ _ _ _ _ _ _ _ _ _ _ _ _ _ _ _ _ _ _ _ _ _ _ _ _ _ _ _ _ _ _ _ _ _ _ _ _ _ _ _ _ _ _ _ _ _ _ _ _ _ _ _ _ _ _ _ _ _ _ _ _ _ _ _ _ _ _ _ _ _ _ _ _ _ _ _ _ _ _ _ _ _ _ _ _ _ _ _ _ _ _ _ _ _ _ _ _ _ _ _ _ _ _ _ _ _ _ _ _ _ _ _ _ _ _ _ _
end Go.Proofs.YtjnfbinomljocaaDoor
