/- EventWithout: without some attributes an event has all others. No conditions. (The listed variables of Go's library hold what its text lays: the card ties them to the pruned copy of the project that the seat holds.) -/
import Derived.Test.YtnpbnjddlchmcaaGreatDoorEventWithout
import Derived.Test.YtnpbnjddlchmcaaGreatDoorLaw
import Derived.Test.YtnpbnjddlchmcaaGreatDoorOpenL
import Derived.Test.YtnpbnjddlchmcaaGreatDoorOpenS
import Derived.Test.YtnpbnjddlchmcaaGreatDoorCards
import Derived.Test.YtnpbnjddlchmcaaGreatDoorTie
import Derived.LaidMore
import Derived.Lay
import Derived.SevenTiedAt
import Derived.Stop.Joined
import Derived.SizedLaws
namespace Go.Proofs.YtnpbnjddlchmcaaGreatDoor
open Go.ChangeShapes Go.WideShapes Go.ChangeAt Go.RowKit

set_option maxRecDepth 100000 in
theorem eventWithout_lifted (os : Os) (started : os.Started) (H : Type) (enc : TypeId × Value → H) :
    ReturnsInHanded {} Tryz.checked os 5 .any (fun w args => (Rows.eventWithoutSpec.pre enc Tryz.prog Tryz.f5 Rows.eventWithoutRow.domain false w args ∧ laidMetH Tryz.prog Rows.eventWithoutRow.laid w) ∧ sizedMet enc Tryz.prog Tryz.f5 (OpenSpec.ofChange Rows.eventWithoutSpec) false w args)
      (Rows.eventWithoutSpec.post enc Tryz.prog Tryz.f5 false true false false) := by
  refine returnsInHanded_of_change_and (C := Tryz.checked) (X := fun w _ => laidMetH Tryz.prog Rows.eventWithoutRow.laid w) (fun _ _ _ hh h => h.of_heap hh) laws.own started (by kernel_rfl) Tryz.func5
    (ChangeSpec.witness_shaped (enc := enc) (C := Tryz.checked) (os := os) (X := fun w _ => laidMetH Tryz.prog Rows.eventWithoutRow.laid w) false (World.laidAll Tryz.prog os Rows.eventWithoutRow.laid) #[.slice none 0 0, .slice none 0 0] 8 (World.laidAll_os _ _ _)
      (World.shaped_of_ZipB (by kernel_rfl) (by kernel_rfl)) (by kernel_rfl) (by kernel_rfl) (by kernel_rfl)
      (by rw [MakeChecks.laidMetH_plain _ _ _ (by kernel_rfl)]; exact laidMet_laidAll _ (by kernel_rfl) (by kernel_rfl))) ?_
  intro W base args ds gs before hval0 hW _ hsz hL _
  have hval : ∀ (j : Nat) t v, Tryz.f5.params[j]? = some t → args[j]? = some v → Value.okWide Tryz.prog W .any base t v := hval0
  have hW' := hW
  obtain ⟨p, q, hA0, hV, rfl, hfz, hnd⟩ := hW
  have hA : DataW.TrodAll enc Tryz.prog W 0 (fun _ => true) true Tryz.f5.params.toList args.toList ds p := hA0
  rw [Tryz.params5] at hA hval
  obtain ⟨v0, vs0, d0, ds0, p0, q0, hargs, rfl, rfl, h0, r0⟩ := trodAll_cons hA
  obtain ⟨v1, vs1, d1, ds1, p1, q1, rfl, rfl, rfl, h1, r1⟩ := trodAll_cons r0
  obtain ⟨rfl, rfl, rfl⟩ := trodAll_nil r1
  obtain rfl : args = #[v0, v1] := by cases args; simp_all
  obtain ⟨rfl, rfl⟩ := trodVars_none hV
  obtain ⟨ao0, cp0, l0, rfl, hs0, hok0, hl0⟩ := open_attrs (hval 0 22 v0 rfl rfl) h0
  obtain ⟨ao1, cp1, l1, rfl, hs1, hl1⟩ := open_names (hval 1 44 v1 rfl rfl) h1
  refine (eventWithout_c ao0 ao1 cp0 cp1 l0 l1 W hs0 hok0 (by unfold maxLen at hl0; omega) hs1 (by unfold maxLen at hl1; omega)).mono fun e W' ⟨he, hw⟩ => ?_
  subst he
  exact ⟨_, rfl, laws.law_post (tb := 4) hW' rfl (by kernel_rfl) (by kernel_rfl) (by kernel_rfl) Tryz.underlying4 rfl hw⟩

theorem eventWithout_holds : Rows.EventWithoutSaid :=
  OpenClaim.holds_of_wide 5 Tryz.f5 rfl rfl rfl rfl rfl rfl rfl ⟨rfl, rfl, rfl, rfl, rfl⟩ rfl rfl rfl rfl rfl (by kernel_rfl) Tryz.func5 (by kernel_rfl)
    (of_decide_eq_true (by kernel_rfl)) (by unfold Func.isWrapper; first | (rw [if_pos (by decide +kernel)]; kernel_rfl) | (rw [if_neg (by decide +kernel)]; exact ⟨rfl, rfl⟩))
    (fun os started H enc _ => eventWithout_lifted os started H enc)
/-- No parameter wants a stand-in. -/
theorem eventWithout_plain (f : FuncId) (fn : Func) (hf : Tryz.pinned.checked.prog.funcNamed "gazette/gazettelaw03.EventWithout" = some f) (hfn : Tryz.pinned.checked.prog.funcs[f]? = some fn) :
    true = Tryz.pinned.checked.prog.looks [] ∧ ∀ (j : Nat) t, fn.params[j]? = some t → Tryz.pinned.checked.prog.wantsStandIn t = false := by
  obtain rfl : f = 5 := Option.some.inj ((show Tryz.prog.funcNamed "gazette/gazettelaw03.EventWithout" = some 5 by kernel_rfl).symm.trans hf) |>.symm
  obtain rfl : fn = Tryz.f5 := (Option.some.inj (Tryz.func5.symm.trans hfn)).symm
  refine ⟨by kernel_rfl, fun j t ht => ?_⟩
  rw [Tryz.params5] at ht
  have hm : t ∈ [22, 44] := by
    have := Array.mem_of_getElem? ht
    simpa using this
  have hall : ([22, 44].all fun u => !Tryz.prog.wantsStandIn u) = true := by kernel_rfl
  exact (show Tryz.prog.wantsStandIn t = false by simpa using List.all_eq_true.1 hall t hm)
theorem eventWithout_card : Rows.EventWithoutCardSaid :=
  Claim7.holds_tied_plain_at .later [] _ _ _ _ eventWithout_holds (fun _ h => by cases h) (by kernel_rfl) (fun _ h => by cases h) eventWithout_row_tie rfl ⟨rfl, rfl⟩ (by kernel_rfl) rfl eventWithout_plain (by kernel_rfl)
end Go.Proofs.YtnpbnjddlchmcaaGreatDoor
