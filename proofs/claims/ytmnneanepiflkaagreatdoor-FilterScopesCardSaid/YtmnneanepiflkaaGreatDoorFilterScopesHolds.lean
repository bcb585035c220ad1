/- FilterScopes: for any two texts and any attributes: a filter without conditions in the one scope has all events in that scope, and below; a void one has none. No conditions. (The listed variables of Go's library hold what its text lays: the card ties them to the pruned copy of the project that the seat holds.) -/
import Derived.Test.YtmnneanepiflkaaGreatDoorFilterScopes
import Derived.Test.YtmnneanepiflkaaGreatDoorLawS
import Derived.Test.YtmnneanepiflkaaGreatDoorLaw
import Derived.Test.YtmnneanepiflkaaGreatDoorGaC
import Derived.Test.YtmnneanepiflkaaGreatDoorCards
import Derived.Test.YtmnneanepiflkaaGreatDoorTie
import Derived.LaidMore
import Derived.Lay
import Derived.SevenTiedAt
import Derived.Stop.Joined
import Derived.SizedLaws
import Derived.ChangeMaps5
namespace Go.Proofs.YtmnneanepiflkaaGreatDoor
open Go.ChangeShapes Go.WideShapes Go.ChangeAt Go.RowKit

set_option maxRecDepth 100000 in
theorem filterScopes_lifted (os : Os) (started : os.Started) (H : Type) (enc : TypeId × Value → H) :
    ReturnsInHanded {} Tryz.checked os 10 .any (fun w args => (Rows.filterScopesSpec.pre enc Tryz.prog Tryz.f10 Rows.filterScopesRow.domain false w args ∧ laidMetH Tryz.prog Rows.filterScopesRow.laid w) ∧ sizedMet enc Tryz.prog Tryz.f10 (OpenSpec.ofChange Rows.filterScopesSpec) false w args)
      (Rows.filterScopesSpec.post enc Tryz.prog Tryz.f10 false true false false) := by
  refine laws.returns_shaped (C := Tryz.checked) (X := fun w _ => laidMetH Tryz.prog Rows.filterScopesRow.laid w) (fun _ _ _ hh h => h.of_heap hh) laws.own started (by kernel_rfl) Tryz.func10
    (ChangeSpec.witness_shaped (enc := enc) (C := Tryz.checked) (os := os) (X := fun w _ => laidMetH Tryz.prog Rows.filterScopesRow.laid w) false (World.laidAll Tryz.prog os Rows.filterScopesRow.laid) #[.string ⟨#[]⟩, .string ⟨#[]⟩, .slice none 0 0] 8 (World.laidAll_os _ _ _)
      (World.shaped_of_ZipB (by kernel_rfl) (by kernel_rfl)) (by kernel_rfl) (by kernel_rfl) (by kernel_rfl)
      (by rw [MakeChecks.laidMetH_plain _ _ _ (by kernel_rfl)]; exact laidMet_laidAll _ (by kernel_rfl) (by kernel_rfl))) ?_
  intro W base args ds gs before hval0 hW _ hsz hsh hL
  have hval : ∀ (j : Nat) t v, Tryz.f10.params[j]? = some t → args[j]? = some v → Value.okWide Tryz.prog W .any base t v := hval0
  have hW' := hW
  obtain ⟨p, q, hA0, hV, rfl, hfz, hnd⟩ := hW
  have hA : DataW.TrodAll enc Tryz.prog W 0 (fun _ => true) true Tryz.f10.params.toList args.toList ds p := hA0
  rw [Tryz.params10] at hA hval
  obtain ⟨v0, vs0, d0, ds0, p0, q0, hargs, rfl, rfl, h0, r0⟩ := trodAll_cons hA
  obtain ⟨v1, vs1, d1, ds1, p1, q1, rfl, rfl, rfl, h1, r1⟩ := trodAll_cons r0
  obtain ⟨v2, vs2, d2, ds2, p2, q2, rfl, rfl, rfl, h2, r2⟩ := trodAll_cons r1
  obtain ⟨rfl, rfl, rfl⟩ := trodAll_nil r2
  obtain rfl : args = #[v0, v1, v2] := by cases args; simp_all
  obtain ⟨rfl, rfl⟩ := trodVars_none hV
  obtain ⟨a0, rfl, rfl, rfl, w0⟩ := Go.ChangeMaps.open_string Tryz.underlying9 (hval 0 9 v0 rfl rfl) h0
  obtain ⟨a1, rfl, rfl, rfl, w1⟩ := Go.ChangeMaps.open_string Tryz.underlying9 (hval 1 9 v1 rfl rfl) h1
  obtain ⟨ao2, cp2, l2, rfl, hs2, hA2, hb2⟩ := open_atts (hval 2 27 v2 rfl rfl) h2 MB (fun n hn => by
    have := List.all_eq_true.1 hsz n (DataW.weights_mem_each (j := 2) (t := 27) (d := d2) (by rw [Tryz.params10]; rfl) rfl n hn)
    exact of_decide_eq_true this)
  have sz0 : a0.size ≤ MB := by
    have := sized_string hsz (j := 0) (t := 9) (bytes := a0.data.toList) (by rw [Tryz.params10]; rfl) rfl
    simpa [reachBytes] using this
  have sz1 : a1.size ≤ MB := by
    have := sized_string hsz (j := 1) (t := 9) (bytes := a1.data.toList) (by rw [Tryz.params10]; rfl) rfl
    simpa [reachBytes] using this
  refine (filterScopes_c a0 a1 ao2 cp2 l2 W (maxI_of hsh) (wds_of hL)  sz0 sz1 hs2 hA2 hb2).mono fun e W' ⟨he, hw⟩ => ?_
  subst he
  exact ⟨_, rfl, laws.law_post (tb := 4) hW' rfl (by kernel_rfl) (by kernel_rfl) (by kernel_rfl) Tryz.underlying4 rfl hw⟩

theorem filterScopes_holds : Rows.FilterScopesSaid :=
  OpenClaim.holds_of_wide 10 Tryz.f10 rfl rfl rfl rfl rfl rfl rfl ⟨rfl, rfl, rfl, rfl, rfl⟩ rfl rfl rfl rfl rfl (by kernel_rfl) Tryz.func10 (by kernel_rfl)
    (of_decide_eq_true (by kernel_rfl)) (by unfold Func.isWrapper; first | (rw [if_pos (by decide +kernel)]; kernel_rfl) | (rw [if_neg (by decide +kernel)]; exact ⟨rfl, rfl⟩))
    (fun os started H enc _ => filterScopes_lifted os started H enc)
/-- No parameter wants a stand-in. -/
theorem filterScopes_plain (f : FuncId) (fn : Func) (hf : Tryz.pinned.checked.prog.funcNamed "gazette/gazettelaw07.FilterScopes" = some f) (hfn : Tryz.pinned.checked.prog.funcs[f]? = some fn) :
    false = Tryz.pinned.checked.prog.looks [] ∧ ∀ (j : Nat) t, fn.params[j]? = some t → Tryz.pinned.checked.prog.wantsStandIn t = false := by
  obtain rfl : f = 10 := Option.some.inj ((show Tryz.prog.funcNamed "gazette/gazettelaw07.FilterScopes" = some 10 by kernel_rfl).symm.trans hf) |>.symm
  obtain rfl : fn = Tryz.f10 := (Option.some.inj (Tryz.func10.symm.trans hfn)).symm
  refine ⟨by kernel_rfl, fun j t ht => ?_⟩
  rw [Tryz.params10] at ht
  have hm : t ∈ [9, 27] := by
    have := Array.mem_of_getElem? ht
    simpa using this
  have hall : ([9, 27].all fun u => !Tryz.prog.wantsStandIn u) = true := by kernel_rfl
  exact (show Tryz.prog.wantsStandIn t = false by simpa using List.all_eq_true.1 hall t hm)
theorem filterScopes_card : Rows.FilterScopesCardSaid :=
  Claim7.holds_tied_plain_at .later [] _ _ _ _ filterScopes_holds (fun _ h => by cases h) (by kernel_rfl) (fun _ h => by cases h) filterScopes_row_tie rfl ⟨rfl, rfl⟩ (by kernel_rfl) rfl filterScopes_plain (by kernel_rfl)
end Go.Proofs.YtmnneanepiflkaaGreatDoor
