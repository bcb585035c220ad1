/- Key and Covers of a filter and of one of the same conditions, turned or told twice. -/
import Derived.Test.YtfffmndjgjfflaaGreatDoorTurnP
import Derived.Test.YtfffmndjgjfflaaGreatDoorTurnS
namespace Go.Proofs.YtfffmndjgjfflaaGreatDoor
open Go.RowKit Go.Shelf Go.Sort
open Go.Proofs
set_option maxRecDepth 100000

/-- One key, and they cover one another. -/
structure TurnK (w : World) (sc : ByteArray) (cs : List Cn) (K : ByteArray) : Prop where
  key : ∀ ds, (∀ c, c ∈ ds ↔ c ∈ cs) → ds.length ≤ 19 → ∀ n, ds.length = n → ∀ ro rcap W, Below w.heap.size w W → CondsB W.heap.size W ro ds → Calls Tryz.prog 7 #[fil sc ro n rcap] W fun e w' => e = .returned (.string K) ∧ Below W.heap.size W w'
  cov : ∀ ds es, (∀ c, c ∈ ds ↔ c ∈ cs) → (∀ c, c ∈ es ↔ c ∈ cs) → ds.length ≤ 19 → es.length ≤ 19 → ∀ n m, ds.length = n → es.length = m → ∀ ro rcap qo qcap W, CondsB W.heap.size W ro ds → CondsB W.heap.size W qo es →
    Calls Tryz.prog 8 #[fil sc ro n rcap, fil sc qo m qcap] W fun e w' => e = .returned (.bool true) ∧ Below W.heap.size W w'
theorem turnK (w : World) (sc : ByteArray) (co : Option Addr) (cs : List Cn) (hw : Wds w) (hT : Tabs w) (hF : FilIs MB w sc co cs) (hr : rightF sc cs = true) : TurnK w sc cs (textF sc TX (normL cs)) := by
  have k := csOk_right hF hr
  have hsc := rightF_size hr
  have o0 := rightF_ops hr
  refine ⟨fun ds hd hl n hn ro rcap W hW hc => ?_, fun ds es hd he hl hm n m hn hm2 ro rcap qo qcap W hc hq => ?_⟩
  · subst hn
    have := keyN_c sc ro rcap ds W hc (csOk_mem k hd hl) hsc (hw.on hW) (hT.on hW)
    rwa [norm_mem k.right hd] at this
  · subst hn
    subst hm2
    have := fcovers_c sc ro rcap ds sc qo qcap es W hc (fun c h => (hF.2.1 c ((hd c).1 h)).1) (by omega) hq (fun c h => (hF.2.1 c ((he c).1 h)).1) (by omega) (by omega)
    rwa [covers_mem (fun c h => o0 c ((hd c).1 h)) (fun c h => (he c).2 ((hd c).1 h))] at this
end Go.Proofs.YtfffmndjgjfflaaGreatDoor
