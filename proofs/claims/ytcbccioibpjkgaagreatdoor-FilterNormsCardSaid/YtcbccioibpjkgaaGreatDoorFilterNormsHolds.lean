/- FilterNorms: what a filter is brought to has the same events, no more conditions, each once, and is brought to itself. No conditions. (The listed variables of Go's library hold what its text lays: the card ties them to the pruned copy of the project that the seat holds.) -/
import Derived.Test.YtcbccioibpjkgaaGreatDoorFilterNorms
import Derived.Test.YtcbccioibpjkgaaGreatDoorLawS
import Derived.Test.YtcbccioibpjkgaaGreatDoorLaw
import Derived.Test.YtcbccioibpjkgaaGreatDoorGaC
import Derived.Test.YtcbccioibpjkgaaGreatDoorCards
import Derived.Test.YtcbccioibpjkgaaGreatDoorTie
import Derived.LaidMore
import Derived.Lay
import Derived.SevenTiedAt
import Derived.Stop.Joined
import Derived.SizedLaws
import Derived.ChangeMaps5
namespace Go.Proofs.YtcbccioibpjkgaaGreatDoor
open Go.ChangeShapes Go.WideShapes Go.ChangeAt Go.RowKit

set_option maxRecDepth 100000 in
theorem filterNorms_lifted (os : Os) (started : os.Started) (H : Type) (enc : TypeId × Value → H) :
    ReturnsInHanded {} Tryz.checked os 5 .any (fun w args => (Rows.filterNormsSpec.pre enc Tryz.prog Tryz.f5 Rows.filterNormsRow.domain false w args ∧ laidMetH Tryz.prog Rows.filterNormsRow.laid w) ∧ sizedMet enc Tryz.prog Tryz.f5 (OpenSpec.ofChange Rows.filterNormsSpec) false w args)
      (Rows.filterNormsSpec.post enc Tryz.prog Tryz.f5 false true false false) := by
  refine laws.returns_shaped (C := Tryz.checked) (X := fun w _ => laidMetH Tryz.prog Rows.filterNormsRow.laid w) (fun _ _ _ hh h => h.of_heap hh) laws.own started (by kernel_rfl) Tryz.func5
    (ChangeSpec.witness_shaped (enc := enc) (C := Tryz.checked) (os := os) (X := fun w _ => laidMetH Tryz.prog Rows.filterNormsRow.laid w) false (World.laidAll Tryz.prog os Rows.filterNormsRow.laid) #[fil ⟨#[]⟩ none 0 0, .string ⟨#[]⟩, .slice none 0 0] 8 (World.laidAll_os _ _ _)
      (World.shaped_of_ZipB (by kernel_rfl) (by kernel_rfl)) (by kernel_rfl) (by kernel_rfl) (by kernel_rfl)
      (by rw [MakeChecks.laidMetH_plain _ _ _ (by kernel_rfl)]; exact laidMet_laidAll _ (by kernel_rfl) (by kernel_rfl))) ?_
  intro W base args ds gs before hval0 hW _ hsz hsh hL
  have hval : ∀ (j : Nat) t v, Tryz.f5.params[j]? = some t → args[j]? = some v → Value.okWide Tryz.prog W .any base t v := hval0
  have hW' := hW
  obtain ⟨p, q, hA0, hV, rfl, hfz, hnd⟩ := hW
  have hA : DataW.TrodAll enc Tryz.prog W 0 (fun _ => true) true Tryz.f5.params.toList args.toList ds p := hA0
  rw [Tryz.params5] at hA hval
  obtain ⟨v0, vs0, d0, ds0, p0, q0, hargs, rfl, rfl, h0, r0⟩ := trodAll_cons hA
  obtain ⟨v1, vs1, d1, ds1, p1, q1, rfl, rfl, rfl, h1, r1⟩ := trodAll_cons r0
  obtain ⟨v2, vs2, d2, ds2, p2, q2, rfl, rfl, rfl, h2, r2⟩ := trodAll_cons r1
  obtain ⟨rfl, rfl, rfl⟩ := trodAll_nil r2
  obtain rfl : args = #[v0, v1, v2] := by cases args; simp_all
  obtain ⟨rfl, rfl⟩ := trodVars_none hV
  obtain ⟨sc0, ao0, cp0, l0, rfl, hF0⟩ := open_fil (hval 0 42 v0 rfl rfl) h0 MB (fun n hn => by
    have := List.all_eq_true.1 hsz n (DataW.weights_mem_each (j := 0) (t := 42) (d := d0) (by rw [Tryz.params5]; rfl) rfl n hn)
    exact of_decide_eq_true this)
  obtain ⟨a1, rfl, rfl, rfl, w1⟩ := Go.ChangeMaps.open_string Tryz.underlying9 (hval 1 9 v1 rfl rfl) h1
  obtain ⟨ao2, cp2, l2, rfl, hs2, hA2, hb2⟩ := open_atts (hval 2 27 v2 rfl rfl) h2 MB (fun n hn => by
    have := List.all_eq_true.1 hsz n (DataW.weights_mem_each (j := 2) (t := 27) (d := d2) (by rw [Tryz.params5]; rfl) rfl n hn)
    exact of_decide_eq_true this)
  refine (filterNorms_c sc0 ao0 cp0 l0 a1 ao2 cp2 l2 W (maxI_of hsh) (wds_of hL) (tabs_of hL)  hF0 hs2 hA2 hb2).mono fun e W' ⟨he, hw⟩ => ?_
  subst he
  exact ⟨_, rfl, laws.law_post (tb := 4) hW' rfl (by kernel_rfl) (by kernel_rfl) (by kernel_rfl) Tryz.underlying4 rfl hw⟩

theorem filterNorms_holds : Rows.FilterNormsSaid :=
  OpenClaim.holds_of_wide 5 Tryz.f5 rfl rfl rfl rfl rfl rfl rfl ⟨rfl, rfl, rfl, rfl, rfl⟩ rfl rfl rfl rfl rfl (by kernel_rfl) Tryz.func5 (by kernel_rfl)
    (of_decide_eq_true (by kernel_rfl)) (by unfold Func.isWrapper; first | (rw [if_pos (by decide +kernel)]; kernel_rfl) | (rw [if_neg (by decide +kernel)]; exact ⟨rfl, rfl⟩))
    (fun os started H enc _ => filterNorms_lifted os started H enc)
/-- No parameter wants a stand-in. -/
theorem filterNorms_plain (f : FuncId) (fn : Func) (hf : Tryz.pinned.checked.prog.funcNamed "gazette/gazettelaw07.FilterNorms" = some f) (hfn : Tryz.pinned.checked.prog.funcs[f]? = some fn) :
    false = Tryz.pinned.checked.prog.looks [] ∧ ∀ (j : Nat) t, fn.params[j]? = some t → Tryz.pinned.checked.prog.wantsStandIn t = false := by
  obtain rfl : f = 5 := Option.some.inj ((show Tryz.prog.funcNamed "gazette/gazettelaw07.FilterNorms" = some 5 by kernel_rfl).symm.trans hf) |>.symm
  obtain rfl : fn = Tryz.f5 := (Option.some.inj (Tryz.func5.symm.trans hfn)).symm
  refine ⟨by kernel_rfl, fun j t ht => ?_⟩
  rw [Tryz.params5] at ht
  have hm : t ∈ [42, 9, 27] := by
    have := Array.mem_of_getElem? ht
    simpa using this
  have hall : ([42, 9, 27].all fun u => !Tryz.prog.wantsStandIn u) = true := by kernel_rfl
  exact (show Tryz.prog.wantsStandIn t = false by simpa using List.all_eq_true.1 hall t hm)
theorem filterNorms_card : Rows.FilterNormsCardSaid :=
  Claim7.holds_tied_plain_at .later [] _ _ _ _ filterNorms_holds (fun _ h => by cases h) (by kernel_rfl) (fun _ h => by cases h) filterNorms_row_tie rfl ⟨rfl, rfl⟩ (by kernel_rfl) rfl filterNorms_plain (by kernel_rfl)
end Go.Proofs.YtcbccioibpjkgaaGreatDoor
