/- ValueSames: for any two values of the four kinds, of not too long texts: they are the same just if they have one text, and each is the same as what is kept of it, and has its text. No conditions. (The listed variables of Go's library hold what its text lays: the card ties them to the pruned copy of the project that the seat holds.) -/
import Derived.Test.YtobhnmfcepkboaaGreatDoorValueSames
import Derived.Test.YtobhnmfcepkboaaGreatDoorLaw
import Derived.Test.YtobhnmfcepkboaaGreatDoorTabsOf
import Derived.Test.YtobhnmfcepkboaaGreatDoorOpenVal
import Derived.Test.YtobhnmfcepkboaaGreatDoorCards
import Derived.Test.YtobhnmfcepkboaaGreatDoorTie
import Derived.LaidMore
import Derived.Lay
import Derived.SevenTiedAt
import Derived.Stop.Joined
import Derived.SizedLaws
namespace Go.Proofs.YtobhnmfcepkboaaGreatDoor
open Go.ChangeShapes Go.WideShapes Go.ChangeAt Go.RowKit

set_option maxRecDepth 100000 in
theorem valueSames_lifted (os : Os) (started : os.Started) (H : Type) (enc : TypeId × Value → H) :
    ReturnsInHanded {} Tryz.checked os 3 .any (fun w args => (Rows.valueSamesSpec.pre enc Tryz.prog Tryz.f3 Rows.valueSamesRow.domain false w args ∧ laidMetH Tryz.prog Rows.valueSamesRow.laid w) ∧ sizedMet enc Tryz.prog Tryz.f3 (OpenSpec.ofChange Rows.valueSamesSpec) false w args)
      (Rows.valueSamesSpec.post enc Tryz.prog Tryz.f3 false true false false) := by
  refine returnsInHanded_of_change_and (C := Tryz.checked) (X := fun w _ => laidMetH Tryz.prog Rows.valueSamesRow.laid w) (fun _ _ _ hh h => h.of_heap hh) laws.own started (by kernel_rfl) Tryz.func3
    (ChangeSpec.witness_shaped (enc := enc) (C := Tryz.checked) (os := os) (X := fun w _ => laidMetH Tryz.prog Rows.valueSamesRow.laid w) false (World.laidAll Tryz.prog os Rows.valueSamesRow.laid) #[val 0 0 0 ⟨#[]⟩ false, val 0 0 0 ⟨#[]⟩ false] 8 (World.laidAll_os _ _ _)
      (World.shaped_of_ZipB (by kernel_rfl) (by kernel_rfl)) (by kernel_rfl) (by kernel_rfl) (by kernel_rfl)
      (by rw [MakeChecks.laidMetH_plain _ _ _ (by kernel_rfl)]; exact laidMet_laidAll _ (by kernel_rfl) (by kernel_rfl))) ?_
  intro W base args ds gs before hval0 hW _ hsz hL _
  have hval : ∀ (j : Nat) t v, Tryz.f3.params[j]? = some t → args[j]? = some v → Value.okWide Tryz.prog W .any base t v := hval0
  have hW' := hW
  obtain ⟨p, q, hA0, hV, rfl, hfz, hnd⟩ := hW
  have hA : DataW.TrodAll enc Tryz.prog W 0 (fun _ => true) true Tryz.f3.params.toList args.toList ds p := hA0
  rw [Tryz.params3] at hA hval
  obtain ⟨v0, vs0, d0, ds0, p0, q0, hargs, rfl, rfl, h0, r0⟩ := trodAll_cons hA
  obtain ⟨v1, vs1, d1, ds1, p1, q1, rfl, rfl, rfl, h1, r1⟩ := trodAll_cons r0
  obtain ⟨rfl, rfl, rfl⟩ := trodAll_nil r1
  obtain rfl : args = #[v0, v1] := by cases args; simp_all
  obtain ⟨rfl, rfl⟩ := trodVars_none hV
  obtain ⟨k0, n0, x0, s0, y0, rfl, wk0, wn0, wx0, ws0⟩ := open_val (hval 0 24 v0 rfl rfl) h0
  obtain ⟨k1, n1, x1, s1, y1, rfl, wk1, wn1, wx1, ws1⟩ := open_val (hval 1 24 v1 rfl rfl) h1
  refine (valueSames_c k0 n0 x0 s0 y0 k1 n1 x1 s1 y1 (by simpa [Lit.wf] using wx0) (by simpa [Lit.wf] using wx1) (bounds_i64 wn0) (bounds_i64 wn1) W (tabs_of hL)).mono fun e W' ⟨he, hw⟩ => ?_
  subst he
  exact ⟨_, rfl, laws.law_post (tb := 4) hW' rfl (by kernel_rfl) (by kernel_rfl) (by kernel_rfl) Tryz.underlying4 rfl hw⟩

theorem valueSames_holds : Rows.ValueSamesSaid :=
  OpenClaim.holds_of_wide 3 Tryz.f3 rfl rfl rfl rfl rfl rfl rfl ⟨rfl, rfl, rfl, rfl, rfl⟩ rfl rfl rfl rfl rfl (by kernel_rfl) Tryz.func3 (by kernel_rfl)
    (of_decide_eq_true (by kernel_rfl)) (by unfold Func.isWrapper; first | (rw [if_pos (by decide +kernel)]; kernel_rfl) | (rw [if_neg (by decide +kernel)]; exact ⟨rfl, rfl⟩))
    (fun os started H enc _ => valueSames_lifted os started H enc)
/-- No parameter wants a stand-in. -/
theorem valueSames_plain (f : FuncId) (fn : Func) (hf : Tryz.pinned.checked.prog.funcNamed "gazette/gazettelaw02.ValueSames" = some f) (hfn : Tryz.pinned.checked.prog.funcs[f]? = some fn) :
    true = Tryz.pinned.checked.prog.looks [] ∧ ∀ (j : Nat) t, fn.params[j]? = some t → Tryz.pinned.checked.prog.wantsStandIn t = false := by
  obtain rfl : f = 3 := Option.some.inj ((show Tryz.prog.funcNamed "gazette/gazettelaw02.ValueSames" = some 3 by kernel_rfl).symm.trans hf) |>.symm
  obtain rfl : fn = Tryz.f3 := (Option.some.inj (Tryz.func3.symm.trans hfn)).symm
  refine ⟨by kernel_rfl, fun j t ht => ?_⟩
  rw [Tryz.params3] at ht
  have hm : t ∈ [24] := by
    have := Array.mem_of_getElem? ht
    simpa using this
  have hall : ([24].all fun u => !Tryz.prog.wantsStandIn u) = true := by kernel_rfl
  exact (show Tryz.prog.wantsStandIn t = false by simpa using List.all_eq_true.1 hall t hm)
theorem valueSames_card : Rows.ValueSamesCardSaid :=
  Claim7.holds_tied_plain_at .later [] _ _ _ _ valueSames_holds (fun _ h => by cases h) (by kernel_rfl) (fun _ h => by cases h) valueSames_row_tie rfl ⟨rfl, rfl⟩ (by kernel_rfl) rfl valueSames_plain (by kernel_rfl)
end Go.Proofs.YtobhnmfcepkboaaGreatDoor
