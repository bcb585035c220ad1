/- RedactHidden: what is hidden is told rising, each once; further down no less is hidden. No conditions. (The listed variables of Go's library hold what its text lays: the card ties them to the pruned copy of the project that the seat holds.) -/
import Derived.Test.YtjnfbinomljocaaDoorRedactHidden
import Derived.Test.YtjnfbinomljocaaDoorOpenRu
import Derived.Test.YtjnfbinomljocaaDoorLawS
import Derived.Test.YtjnfbinomljocaaDoorLaw
import Derived.Test.YtjnfbinomljocaaDoorOpenI2
import Derived.Test.YtjnfbinomljocaaDoorCards
import Derived.Test.YtjnfbinomljocaaDoorTie
import Derived.LaidMore
import Derived.Lay
import Derived.SevenTiedAt
import Derived.Stop.Joined
import Derived.SizedLaws
import Derived.ChangeMaps5
namespace Go.Proofs.YtjnfbinomljocaaDoor
open Go.ChangeShapes Go.WideShapes Go.ChangeAt Go.RowKit

set_option maxRecDepth 100000 in
theorem redactHidden_lifted (os : Os) (started : os.Started) (H : Type) (enc : TypeId × Value → H) :
    ReturnsInHanded {} Tryd.checked os 4 .any (fun w args => (Rows.redactHiddenSpec.pre enc Tryd.prog Tryd.f4 Rows.redactHiddenRow.domain false w args ∧ laidMetH Tryd.prog Rows.redactHiddenRow.laid w) ∧ sizedMet enc Tryd.prog Tryd.f4 (OpenSpec.ofChange Rows.redactHiddenSpec) false w args)
      (Rows.redactHiddenSpec.post enc Tryd.prog Tryd.f4 false true false false) := by
  refine laws.returns_shaped (C := Tryd.checked) (X := fun w _ => laidMetH Tryd.prog Rows.redactHiddenRow.laid w) (fun _ _ _ hh h => h.of_heap hh) laws.own started (by kernel_rfl) Tryd.func4
    (ChangeSpec.witness_shaped (enc := enc) (C := Tryd.checked) (os := os) (X := fun w _ => laidMetH Tryd.prog Rows.redactHiddenRow.laid w) false (World.laidAll Tryd.prog os Rows.redactHiddenRow.laid) #[.slice none 0 0, .agg #[.int .i64 0, .int .i64 0], .string ⟨#[]⟩] 8 (World.laidAll_os _ _ _)
      (World.shaped_of_ZipB (by kernel_rfl) (by kernel_rfl)) (by kernel_rfl) (by kernel_rfl) (by kernel_rfl)
      (by rw [MakeChecks.laidMetH_plain _ _ _ (by kernel_rfl)]; exact laidMet_laidAll _ (by kernel_rfl) (by kernel_rfl))) ?_
  intro W base args ds gs before hval0 hW _ hsz hsh hL
  have hval : ∀ (j : Nat) t v, Tryd.f4.params[j]? = some t → args[j]? = some v → Value.okWide Tryd.prog W .any base t v := hval0
  have hW' := hW
  obtain ⟨p, q, hA0, hV, rfl, hfz, hnd⟩ := hW
  have hA : DataW.TrodAll enc Tryd.prog W 0 (fun _ => true) true Tryd.f4.params.toList args.toList ds p := hA0
  rw [Tryd.params4] at hA hval
  obtain ⟨v0, vs0, d0, ds0, p0, q0, hargs, rfl, rfl, h0, r0⟩ := trodAll_cons hA
  obtain ⟨v1, vs1, d1, ds1, p1, q1, rfl, rfl, rfl, h1, r1⟩ := trodAll_cons r0
  obtain ⟨v2, vs2, d2, ds2, p2, q2, rfl, rfl, rfl, h2, r2⟩ := trodAll_cons r1
  obtain ⟨rfl, rfl, rfl⟩ := trodAll_nil r2
  obtain rfl : args = #[v0, v1, v2] := by cases args; simp_all
  obtain ⟨rfl, rfl⟩ := trodVars_none hV
  obtain ⟨ao0, cp0, l0, rfl, hR0, hI0, hb0⟩ := open_rules (hval 0 22 v0 rfl rfl) h0 MB (fun n hn => by
    have := List.all_eq_true.1 hsz n (DataW.weights_mem_each (j := 0) (t := 22) (d := d0) (by rw [Tryd.params4]; rfl) rfl n hn)
    exact of_decide_eq_true this)
  obtain ⟨a1, b1, rfl⟩ := open_ints2 (hval 1 23 v1 rfl rfl) h1
  obtain ⟨a2, rfl, rfl, rfl, w2⟩ := Go.ChangeMaps.open_string Tryd.underlying9 (hval 2 9 v2 rfl rfl) h2
  refine (redactHidden_c ao0 cp0 l0 a1 b1 a2 W (maxI_of hsh)  hR0 hI0 hb0).mono fun e W' ⟨he, hw⟩ => ?_
  subst he
  exact ⟨_, rfl, laws.law_post (tb := 4) hW' rfl (by kernel_rfl) (by kernel_rfl) (by kernel_rfl) Tryd.underlying4 rfl hw⟩

theorem redactHidden_holds : Rows.RedactHiddenSaid :=
  OpenClaim.holds_of_wide 4 Tryd.f4 rfl rfl rfl rfl rfl rfl rfl ⟨rfl, rfl, rfl, rfl, rfl⟩ rfl rfl rfl rfl rfl (by kernel_rfl) Tryd.func4 (by kernel_rfl)
    (of_decide_eq_true (by kernel_rfl)) (by unfold Func.isWrapper; first | (rw [if_pos (by decide +kernel)]; kernel_rfl) | (rw [if_neg (by decide +kernel)]; exact ⟨rfl, rfl⟩))
    (fun os started H enc _ => redactHidden_lifted os started H enc)
/-- No parameter wants a stand-in. -/
theorem redactHidden_plain (f : FuncId) (fn : Func) (hf : Tryd.pinned.checked.prog.funcNamed "gazette/gazettelaw11.RedactHidden" = some f) (hfn : Tryd.pinned.checked.prog.funcs[f]? = some fn) :
    false = Tryd.pinned.checked.prog.looks [] ∧ ∀ (j : Nat) t, fn.params[j]? = some t → Tryd.pinned.checked.prog.wantsStandIn t = false := by
  obtain rfl : f = 4 := Option.some.inj ((show Tryd.prog.funcNamed "gazette/gazettelaw11.RedactHidden" = some 4 by kernel_rfl).symm.trans hf) |>.symm
  obtain rfl : fn = Tryd.f4 := (Option.some.inj (Tryd.func4.symm.trans hfn)).symm
  refine ⟨by kernel_rfl, fun j t ht => ?_⟩
  rw [Tryd.params4] at ht
  have hm : t ∈ [22, 23, 9] := by
    have := Array.mem_of_getElem? ht
    simpa using this
  have hall : ([22, 23, 9].all fun u => !Tryd.prog.wantsStandIn u) = true := by kernel_rfl
  exact (show Tryd.prog.wantsStandIn t = false by simpa using List.all_eq_true.1 hall t hm)
theorem redactHidden_card : Rows.RedactHiddenCardSaid :=
  Claim7.holds_tied_plain_at .later [] _ _ _ _ redactHidden_holds (fun _ h => by cases h) (by kernel_rfl) (fun _ h => by cases h) redactHidden_row_tie rfl ⟨rfl, rfl⟩ (by kernel_rfl) rfl redactHidden_plain (by kernel_rfl)
end Go.Proofs.YtjnfbinomljocaaDoor
