/- slices.symMergeCmpFunc at the attributes of an event: two sorted runs that stand side by side are merged, the order within each key kept. -/
import Derived.Test.YtjeippdfgojdnaaGreatDoorSymA
import Derived.Test.YtjeippdfgojdnaaGreatDoorSymB
import Derived.Test.YtjeippdfgojdnaaGreatDoorSymC
namespace Go.Proofs.YtjeippdfgojdnaaGreatDoor
open Go.Shelf Go.RowKit Go.Lib Go.Sort
open Go.Proofs
variable {P : Program} {α : Type} [Inhabited α]

theorem symMerge_c (L : SortP P) (k : Nat) (aE : ∀ w, (isAgg 38).run P w = .ok true w) (zE : ∀ w, (Go.sizeOf 38).run P w = .ok k w) (enc : α → List Value) (cf : α → α → Int) (key : α → List UInt8) (hcf : ∀ x y, ltOf cf x y = ltKey key x y) (g : Nat) (cb : Array Value) (blk off cap : Nat) (d0 : Array α) (w0 : World)
    (eg : ∀ args w, (callFunc g args).run P w = .ok (.enter g args) w) (hcmp : CmpLays P g cb enc k cf blk off d0.size w0) (R : RowK enc k w0 blk off d0) (hsz : d0.size < 4611686018427387904) : ∀ (nn a m b : Nat) (d : Array α) (w : World), b - a ≤ nn →
    d0.size = d.size → SWK enc k w0 blk off d w → a < m → m < b → b ≤ d.size → SortedIn (ltKey key) a m d → SortedIn (ltKey key) m b d →
    Calls P 94 #[.slice (some ⟨blk, off, none⟩) d0.size cap, .int .i64 a, .int .i64 m, .int .i64 b, .func (.func g) #[] cb] w fun e w' =>
      e = .returned (.tuple #[]) ∧ ∃ d', Aside (Good key a b d d' ∧ SortedIn (ltKey key) a b d') ∧ Aside (SWK enc k w0 blk off d' w')
  | 0, a, m, b, d, w, hnn, _, _, ham, hmb, _, _, _ => by omega
  | nn + 1, a, m, b, d, w, hnn, hs, S, ham, hmb, hb, sa, sb => by
    by_cases hm1 : m = a + 1
    · exact symMergeA_c L k aE zE enc cf key hcf g cb blk off cap d0 w0 eg hcmp R hsz a m b d w hs S ham hmb hb sa sb hm1
    · by_cases hb1 : b = m + 1
      · exact symMergeB_c L k aE zE enc cf key hcf g cb blk off cap d0 w0 eg hcmp R hsz a m b d w hs S ham hmb hb sa sb (by omega) hb1
      · exact symMergeC_c L k aE zE enc cf key hcf g cb blk off cap d0 w0 eg hcmp R hsz a m b d w hs S ham hmb hb sa sb (by omega) (by omega)
          (fun a' m' b' d'' w'' h => symMerge_c L k aE zE enc cf key hcf g cb blk off cap d0 w0 eg hcmp R hsz nn a' m' b' d'' w'' (by omega))
end Go.Proofs.YtjeippdfgojdnaaGreatDoor
