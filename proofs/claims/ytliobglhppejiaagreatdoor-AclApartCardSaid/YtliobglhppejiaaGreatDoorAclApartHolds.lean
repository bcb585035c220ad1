/- AclApart: rules of one principal, or tenant, play no part for another one. No conditions. (The listed variables of Go's library hold what its text lays: the card ties them to the pruned copy of the project that the seat holds.) -/
import Derived.Test.YtliobglhppejiaaGreatDoorAclApart
import Derived.Test.YtliobglhppejiaaGreatDoorOpenRu
import Derived.Test.YtliobglhppejiaaGreatDoorOpenEv
import Derived.Test.YtliobglhppejiaaGreatDoorLawS
import Derived.Test.YtliobglhppejiaaGreatDoorLaw
import Derived.Test.YtliobglhppejiaaGreatDoorOpenI2
import Derived.Test.YtliobglhppejiaaGreatDoorCards
import Derived.Test.YtliobglhppejiaaGreatDoorTie
import Derived.LaidMore
import Derived.Lay
import Derived.SevenTiedAt
import Derived.Stop.Joined
import Derived.SizedLaws
namespace Go.Proofs.YtliobglhppejiaaGreatDoor
open Go.ChangeShapes Go.WideShapes Go.ChangeAt Go.RowKit

set_option maxRecDepth 100000 in
theorem aclApart_lifted (os : Os) (started : os.Started) (H : Type) (enc : TypeId × Value → H) :
    ReturnsInHanded {} Tryz.checked os 3 .any (fun w args => (Rows.aclApartSpec.pre enc Tryz.prog Tryz.f3 Rows.aclApartRow.domain false w args ∧ laidMetH Tryz.prog Rows.aclApartRow.laid w) ∧ sizedMet enc Tryz.prog Tryz.f3 (OpenSpec.ofChange Rows.aclApartSpec) false w args)
      (Rows.aclApartSpec.post enc Tryz.prog Tryz.f3 false true false false) := by
  refine laws.returns_shaped (C := Tryz.checked) (X := fun w _ => laidMetH Tryz.prog Rows.aclApartRow.laid w) (fun _ _ _ hh h => h.of_heap hh) laws.own started (by kernel_rfl) Tryz.func3
    (ChangeSpec.witness_shaped (enc := enc) (C := Tryz.checked) (os := os) (X := fun w _ => laidMetH Tryz.prog Rows.aclApartRow.laid w) false (World.laidAll Tryz.prog os Rows.aclApartRow.laid) #[.slice none 0 0, .agg #[.int .i64 0, .int .i64 0], evt ⟨#[]⟩ none 0 0] 8 (World.laidAll_os _ _ _)
      (World.shaped_of_ZipB (by kernel_rfl) (by kernel_rfl)) (by kernel_rfl) (by kernel_rfl) (by kernel_rfl)
      (by rw [MakeChecks.laidMetH_plain _ _ _ (by kernel_rfl)]; exact laidMet_laidAll _ (by kernel_rfl) (by kernel_rfl))) ?_
  intro W base args ds gs before hval0 hW _ hsz hsh hL
  have hval : ∀ (j : Nat) t v, Tryz.f3.params[j]? = some t → args[j]? = some v → Value.okWide Tryz.prog W .any base t v := hval0
  have hW' := hW
  obtain ⟨p, q, hA0, hV, rfl, hfz, hnd⟩ := hW
  have hA : DataW.TrodAll enc Tryz.prog W 0 (fun _ => true) true Tryz.f3.params.toList args.toList ds p := hA0
  rw [Tryz.params3] at hA hval
  obtain ⟨v0, vs0, d0, ds0, p0, q0, hargs, rfl, rfl, h0, r0⟩ := trodAll_cons hA
  obtain ⟨v1, vs1, d1, ds1, p1, q1, rfl, rfl, rfl, h1, r1⟩ := trodAll_cons r0
  obtain ⟨v2, vs2, d2, ds2, p2, q2, rfl, rfl, rfl, h2, r2⟩ := trodAll_cons r1
  obtain ⟨rfl, rfl, rfl⟩ := trodAll_nil r2
  obtain rfl : args = #[v0, v1, v2] := by cases args; simp_all
  obtain ⟨rfl, rfl⟩ := trodVars_none hV
  obtain ⟨ao0, cp0, l0, rfl, hR0, hI0, hb0⟩ := open_rules (hval 0 22 v0 rfl rfl) h0 MB (fun n hn => by
    have := List.all_eq_true.1 hsz n (DataW.weights_mem_each (j := 0) (t := 22) (d := d0) (by rw [Tryz.params3]; rfl) rfl n hn)
    exact of_decide_eq_true this)
  obtain ⟨a1, b1, rfl⟩ := open_ints2 (hval 1 23 v1 rfl rfl) h1
  obtain ⟨sc2, ao2, cp2, l2, rfl, hs2, hA2, hb2, hz2⟩ := open_evt (hval 2 26 v2 rfl rfl) h2 MB (fun n hn => by
    have := List.all_eq_true.1 hsz n (DataW.weights_mem_each (j := 2) (t := 26) (d := d2) (by rw [Tryz.params3]; rfl) rfl n hn)
    exact of_decide_eq_true this)
  refine (aclApart_c ao0 cp0 l0 a1 b1 sc2 ao2 cp2 l2 W (maxI_of hsh)  hR0 hI0 hb0 hs2 hA2 hb2 hz2).mono fun e W' ⟨he, hw⟩ => ?_
  subst he
  exact ⟨_, rfl, laws.law_post (tb := 4) hW' rfl (by kernel_rfl) (by kernel_rfl) (by kernel_rfl) Tryz.underlying4 rfl hw⟩

theorem aclApart_holds : Rows.AclApartSaid :=
  OpenClaim.holds_of_wide 3 Tryz.f3 rfl rfl rfl rfl rfl rfl rfl ⟨rfl, rfl, rfl, rfl, rfl⟩ rfl rfl rfl rfl rfl (by kernel_rfl) Tryz.func3 (by kernel_rfl)
    (of_decide_eq_true (by kernel_rfl)) (by unfold Func.isWrapper; first | (rw [if_pos (by decide +kernel)]; kernel_rfl) | (rw [if_neg (by decide +kernel)]; exact ⟨rfl, rfl⟩))
    (fun os started H enc _ => aclApart_lifted os started H enc)
/-- No parameter wants a stand-in. -/
theorem aclApart_plain (f : FuncId) (fn : Func) (hf : Tryz.pinned.checked.prog.funcNamed "gazette/gazettelaw10.AclApart" = some f) (hfn : Tryz.pinned.checked.prog.funcs[f]? = some fn) :
    false = Tryz.pinned.checked.prog.looks [] ∧ ∀ (j : Nat) t, fn.params[j]? = some t → Tryz.pinned.checked.prog.wantsStandIn t = false := by
  obtain rfl : f = 3 := Option.some.inj ((show Tryz.prog.funcNamed "gazette/gazettelaw10.AclApart" = some 3 by kernel_rfl).symm.trans hf) |>.symm
  obtain rfl : fn = Tryz.f3 := (Option.some.inj (Tryz.func3.symm.trans hfn)).symm
  refine ⟨by kernel_rfl, fun j t ht => ?_⟩
  rw [Tryz.params3] at ht
  have hm : t ∈ [22, 23, 26] := by
    have := Array.mem_of_getElem? ht
    simpa using this
  have hall : ([22, 23, 26].all fun u => !Tryz.prog.wantsStandIn u) = true := by kernel_rfl
  exact (show Tryz.prog.wantsStandIn t = false by simpa using List.all_eq_true.1 hall t hm)
theorem aclApart_card : Rows.AclApartCardSaid :=
  Claim7.holds_tied_plain_at .later [] _ _ _ _ aclApart_holds (fun _ h => by cases h) (by kernel_rfl) (fun _ h => by cases h) aclApart_row_tie rfl ⟨rfl, rfl⟩ (by kernel_rfl) rfl aclApart_plain (by kernel_rfl)
end Go.Proofs.YtliobglhppejiaaGreatDoor
