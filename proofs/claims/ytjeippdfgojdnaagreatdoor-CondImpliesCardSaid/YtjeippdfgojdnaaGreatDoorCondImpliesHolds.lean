/- CondImplies: of any two conditions that may be one implies the other one just by the rules of the document; whatever value the one holds for, the other one does. No conditions. (The listed variables of Go's library hold what its text lays: the card ties them to the pruned copy of the project that the seat holds.) -/
import Derived.Test.YtjeippdfgojdnaaGreatDoorCondImplies
import Derived.Test.YtjeippdfgojdnaaGreatDoorLaw
import Derived.Test.YtjeippdfgojdnaaGreatDoorTabsC
import Derived.Test.YtjeippdfgojdnaaGreatDoorOpenC
import Derived.Test.YtjeippdfgojdnaaGreatDoorOpenVs
import Derived.Test.YtjeippdfgojdnaaGreatDoorCards
import Derived.Test.YtjeippdfgojdnaaGreatDoorTie
import Derived.LaidMore
import Derived.Lay
import Derived.SevenTiedAt
import Derived.Stop.Joined
import Derived.SizedLaws
namespace Go.Proofs.YtjeippdfgojdnaaGreatDoor
open Go.ChangeShapes Go.WideShapes Go.ChangeAt Go.RowKit

set_option maxRecDepth 100000 in
theorem condImplies_lifted (os : Os) (started : os.Started) (H : Type) (enc : TypeId × Value → H) :
    ReturnsInHanded {} Tryz.checked os 4 .any (fun w args => (Rows.condImpliesSpec.pre enc Tryz.prog Tryz.f4 Rows.condImpliesRow.domain false w args ∧ laidMetH Tryz.prog Rows.condImpliesRow.laid w) ∧ sizedMet enc Tryz.prog Tryz.f4 (OpenSpec.ofChange Rows.condImpliesSpec) false w args)
      (Rows.condImpliesSpec.post enc Tryz.prog Tryz.f4 false true false false) := by
  refine returnsInHanded_of_change_and (C := Tryz.checked) (X := fun w _ => laidMetH Tryz.prog Rows.condImpliesRow.laid w) (fun _ _ _ hh h => h.of_heap hh) laws.own started (by kernel_rfl) Tryz.func4
    (ChangeSpec.witness_shaped (enc := enc) (C := Tryz.checked) (os := os) (X := fun w _ => laidMetH Tryz.prog Rows.condImpliesRow.laid w) false (World.laidAll Tryz.prog os Rows.condImpliesRow.laid) #[cnd ⟨#[]⟩ 0 0 0 0 ⟨#[]⟩ false, cnd ⟨#[]⟩ 0 0 0 0 ⟨#[]⟩ false, .slice none 0 0] 8 (World.laidAll_os _ _ _)
      (World.shaped_of_ZipB (by kernel_rfl) (by kernel_rfl)) (by kernel_rfl) (by kernel_rfl) (by kernel_rfl)
      (by rw [MakeChecks.laidMetH_plain _ _ _ (by kernel_rfl)]; exact laidMet_laidAll _ (by kernel_rfl) (by kernel_rfl))) ?_
  intro W base args ds gs before hval0 hW _ hsz hL _
  have hval : ∀ (j : Nat) t v, Tryz.f4.params[j]? = some t → args[j]? = some v → Value.okWide Tryz.prog W .any base t v := hval0
  have hW' := hW
  obtain ⟨p, q, hA0, hV, rfl, hfz, hnd⟩ := hW
  have hA : DataW.TrodAll enc Tryz.prog W 0 (fun _ => true) true Tryz.f4.params.toList args.toList ds p := hA0
  rw [Tryz.params4] at hA hval
  obtain ⟨v0, vs0, d0, ds0, p0, q0, hargs, rfl, rfl, h0, r0⟩ := trodAll_cons hA
  obtain ⟨v1, vs1, d1, ds1, p1, q1, rfl, rfl, rfl, h1, r1⟩ := trodAll_cons r0
  obtain ⟨v2, vs2, d2, ds2, p2, q2, rfl, rfl, rfl, h2, r2⟩ := trodAll_cons r1
  obtain ⟨rfl, rfl, rfl⟩ := trodAll_nil r2
  obtain rfl : args = #[v0, v1, v2] := by cases args; simp_all
  obtain ⟨rfl, rfl⟩ := trodVars_none hV
  obtain ⟨nm0, op0, k0, n0, x0, s0, y0, rfl, hx0, hn0, wm0, ws0⟩ := open_cond (hval 0 26 v0 rfl rfl) h0
  obtain ⟨nm1, op1, k1, n1, x1, s1, y1, rfl, hx1, hn1, wm1, ws1⟩ := open_cond (hval 1 26 v1 rfl rfl) h1
  obtain ⟨ao2, cp2, l2, rfl, hs2, ho2, hl2⟩ := open_vals (hval 2 32 v2 rfl rfl) h2
  refine (condImplies_c nm0 op0 k0 n0 x0 s0 y0 nm1 op1 k1 n1 x1 s1 y1 ao2 cp2 l2 hx0 hx1 (by unfold maxLen at ws0; omega) (by unfold maxLen at ws1; omega) W (wds_of hL) hs2 (fun a ha => (ho2 a ha).1) (by unfold maxLen at hl2; omega)).mono fun e W' ⟨he, hw⟩ => ?_
  subst he
  exact ⟨_, rfl, laws.law_post (tb := 4) hW' rfl (by kernel_rfl) (by kernel_rfl) (by kernel_rfl) Tryz.underlying4 rfl hw⟩

theorem condImplies_holds : Rows.CondImpliesSaid :=
  OpenClaim.holds_of_wide 4 Tryz.f4 rfl rfl rfl rfl rfl rfl rfl ⟨rfl, rfl, rfl, rfl, rfl⟩ rfl rfl rfl rfl rfl (by kernel_rfl) Tryz.func4 (by kernel_rfl)
    (of_decide_eq_true (by kernel_rfl)) (by unfold Func.isWrapper; first | (rw [if_pos (by decide +kernel)]; kernel_rfl) | (rw [if_neg (by decide +kernel)]; exact ⟨rfl, rfl⟩))
    (fun os started H enc _ => condImplies_lifted os started H enc)
/-- No parameter wants a stand-in. -/
theorem condImplies_plain (f : FuncId) (fn : Func) (hf : Tryz.pinned.checked.prog.funcNamed "gazette/gazettelaw06.CondImplies" = some f) (hfn : Tryz.pinned.checked.prog.funcs[f]? = some fn) :
    true = Tryz.pinned.checked.prog.looks [] ∧ ∀ (j : Nat) t, fn.params[j]? = some t → Tryz.pinned.checked.prog.wantsStandIn t = false := by
  obtain rfl : f = 4 := Option.some.inj ((show Tryz.prog.funcNamed "gazette/gazettelaw06.CondImplies" = some 4 by kernel_rfl).symm.trans hf) |>.symm
  obtain rfl : fn = Tryz.f4 := (Option.some.inj (Tryz.func4.symm.trans hfn)).symm
  refine ⟨by kernel_rfl, fun j t ht => ?_⟩
  rw [Tryz.params4] at ht
  have hm : t ∈ [26, 32] := by
    have := Array.mem_of_getElem? ht
    simpa using this
  have hall : ([26, 32].all fun u => !Tryz.prog.wantsStandIn u) = true := by kernel_rfl
  exact (show Tryz.prog.wantsStandIn t = false by simpa using List.all_eq_true.1 hall t hm)
theorem condImplies_card : Rows.CondImpliesCardSaid :=
  Claim7.holds_tied_plain_at .later [] _ _ _ _ condImplies_holds (fun _ h => by cases h) (by kernel_rfl) (fun _ h => by cases h) condImplies_row_tie rfl ⟨rfl, rfl⟩ (by kernel_rfl) rfl condImplies_plain (by kernel_rfl)
end Go.Proofs.YtjeippdfgojdnaaGreatDoor
