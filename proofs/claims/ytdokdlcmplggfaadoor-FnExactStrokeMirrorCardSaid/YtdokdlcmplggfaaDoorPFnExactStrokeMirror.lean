/- The statement of the law FnExactStrokeMirror (its tied card): proved out of the walk of VH. No condition. -/
import Derived.Test.YtdokdlcmplggfaaDoorRows
import Derived.Test.YtdokdlcmplggfaaDoorVH
import Derived.Test.YtdokdlcmplggfaaDoorFw
import Derived.WalkKit
import Derived.ProofKit
import Derived.OpenShut
import Derived.ShutString
import Derived.ChangeOld
import Derived.Below
import Derived.Test.YtdokdlcmplggfaaDoorTie
import Derived.Test.YtdokdlcmplggfaaDoorCards
import Derived.SevenTiedAt
import Derived.LaidMore
import Derived.Stop.Joined
import Derived.Test.YtdokdlcmplggfaaDoorGS
import Derived.Test.YtdokdlcmplggfaaDoorLv
import Derived.Lay
import Derived.MakeChecks
import Derived.OpenVars
import Derived.Test.YtdokdlcmplggfaaDoorVT
namespace Go.Proofs.YtdokdlcmplggfaaDoor.fnExactStrokeMirrorDone
open Go.ChangeShapes Go.WideShapes Go.ChangeAt Go.RowKit
open Go.ChangeMaps (open_string shut_string)
set_option linter.unusedVariables false
set_option maxRecDepth 100000
theorem own : ownKnob Tryd.prog.godebug = none := by kernel_rfl
theorem laidOut : laidOutB Tryd.prog = true := by kernel_rfl
set_option maxRecDepth 100000 in
theorem lifted (os : Os) (started : os.Started) (H : Type) (enc : TypeId × Value → H) :
    ReturnsInHanded {} Tryd.checked os 13 .any (fun w args => (Rows.fnExactStrokeMirrorSpec.pre enc Tryd.prog Tryd.f13 [] false w args ∧ laidMetH Tryd.prog Rows.fnExactStrokeMirrorRow.laid w) ∧ sizedMet enc Tryd.prog Tryd.f13 (OpenSpec.ofChange Rows.fnExactStrokeMirrorSpec) false w args)
      (Rows.fnExactStrokeMirrorSpec.post enc Tryd.prog Tryd.f13 false true false false) := by
  refine handed_both (C := Tryd.checked) (laid := Rows.fnExactStrokeMirrorRow.laid) own started (by kernel_rfl) Tryd.func13
    (ChangeSpec.witness_shaped (enc := enc) (C := Tryd.checked) (os := os) (X := fun w _ => laidMetH Tryd.prog Rows.fnExactStrokeMirrorRow.laid w) false (World.laidAll Tryd.prog os Rows.fnExactStrokeMirrorRow.laid) #[.int .i64 0] 8 (World.laidAll_os _ _ _)
      (World.shaped_of_ZipB (by kernel_rfl) (by kernel_rfl)) (by kernel_rfl) (by kernel_rfl) (by kernel_rfl)
      (by rw [MakeChecks.laidMetH_plain _ _ _ (by kernel_rfl)]; exact laidMet_laidAll _ (by kernel_rfl) (by kernel_rfl))) ?_
  intro W base args ds gs before hval0 hW hL hsh
  have hval : ∀ (j : Nat) t v, Tryd.f13.params[j]? = some t → args[j]? = some v → Value.okWide Tryd.prog W .any base t v := hval0
  have hW' := hW
  obtain ⟨p, q, hA0, hV0, rfl, hfz, hnd⟩ := hW
  have hA : DataW.TrodAll enc Tryd.prog W 0 (fun _ => true) true Tryd.f13.params.toList args.toList ds p := hA0
  rw [Tryd.params13] at hA hval
  obtain ⟨v0, vs0, d0, ds0, p0, q0, hargs, rfl, rfl, h0, r0⟩ := trodAll_cons hA
  obtain ⟨rfl, rfl, rfl⟩ := trodAll_nil r0
  obtain rfl : args = #[v0] := by cases args; simp_all
  have hp : (Rows.fnExactStrokeMirrorRow.laid.all fun x => x.2.handleName?.isNone) = true := by kernel_rfl
  have f0 := tab_dk (laid_item hL hp (by repeat (first | exact List.Mem.head _ | apply List.Mem.tail)))
  have f1 := tab_mp (laid_item hL hp (by repeat (first | exact List.Mem.head _ | apply List.Mem.tail)))
  have hlen := trodVars_len hV0
  obtain ⟨gd0, gd1, rfl⟩ : ∃ gd0 gd1, gs = [gd0, gd1] := by
    match gs, hlen with
    | [a, b], _ => exact ⟨a, b, rfl⟩
  obtain ⟨a0, rfl, rfl, rfl, w0⟩ := open_int Tryd.underlying3 (hval 0 3 v0 rfl rfl) h0
  clear hA0 hval0
  refine (wFnExactStrokeMirror a0 W w0 (TBs.of01 f0 f1)).mono fun e W' ⟨he, bel⟩ => ?_
  subst he
  exact ⟨_, rfl, _, _, _, [], _, _, hW', trodAll_mk1 (shut_bool Tryd.underlying4 _), (trodAll_cons_mk (shut_int Tryd.underlying3 w0) trodAll_mk0), Below.trodVars laidOut bel (by kernel_rfl) hV0, bel.frame _, fun h => by cases h⟩
set_option maxRecDepth 100000 in
theorem closed : joinedFacts Tryd.prog 13 Tryd.f13 Rows.fnExactStrokeMirrorSpec Rows.fnExactStrokeMirrorRow = true := by
  unfold joinedFacts
  simp only [Bool.and_eq_true]
  repeat' (refine And.intro ?_ ?_)
  all_goals (first
    | with_reducible exact fact_enter
    | (rw [fact_lifts]; kernel_rfl)
    | (rw [fact_make]; kernel_rfl)
    | kernel_rfl)
theorem over : Rows.fnExactStrokeMirrorRow.holds Tryd.pinned (OpenSpec.ofChange Rows.fnExactStrokeMirrorSpec) :=
  OpenClaim.holds_of_wide 13 Tryd.f13 rfl rfl rfl rfl rfl rfl rfl ⟨rfl, rfl, rfl, rfl, rfl⟩ rfl rfl rfl rfl rfl (by kernel_rfl) Tryd.func13 closed
    (of_decide_eq_true (by kernel_rfl)) (by unfold Func.isWrapper; first | (rw [if_pos (by decide +kernel)]; kernel_rfl) | (rw [if_neg (by decide +kernel)]; exact ⟨rfl, rfl⟩))
    (fun os started H enc _ => lifted os started H enc)
set_option maxRecDepth 100000 in
theorem headIs : Tryd.prog.mainIs = some (Rows.fnExactStrokeMirrorCard.stood.harness.1, Rows.fnExactStrokeMirrorCard.stood.harness.2.toList) := main_of _ _ _ rfl (by kernel_rfl) (by kernel_rfl)
theorem proved : Rows.FnExactStrokeMirrorCardSaid :=
  Claim7.holds_tied_plain_at .later [] Rows.fnExactStrokeMirrorCard.laidKinds true Rows.fnExactStrokeMirrorCard.stood.harness false
    over (fun _ h => by cases h) (by kernel_rfl) (fun _ h => by cases h) fnExactStrokeMirror_row_tie rfl ⟨rfl, rfl⟩ headIs rfl
    (fun f fn hf hfn => by
      obtain rfl : f = 13 := Option.some.inj ((show Tryd.prog.funcNamed "loop.example/peoplesnumerals/laws.FnExactStrokeMirror" = some 13 by kernel_rfl).symm.trans hf) |>.symm
      obtain rfl : fn = Tryd.f13 := (Option.some.inj (Tryd.func13.symm.trans hfn)).symm
      exact ⟨by kernel_rfl, fun j t ht => by
        rw [Tryd.params13] at ht
        have hm : t ∈ [3] := by have := Array.mem_of_getElem? ht; simp at this; simp [this]
        have hall : ([3].all fun u => !Tryd.prog.wantsStandIn u) = true := by kernel_rfl
        exact (show Tryd.prog.wantsStandIn t = false by simpa using List.all_eq_true.1 hall t hm)⟩)
    (goesBy_false _ _ 13 (by kernel_rfl) rfl (by kernel_rfl))
#print axioms proved
end Go.Proofs.YtdokdlcmplggfaaDoor.fnExactStrokeMirrorDone
