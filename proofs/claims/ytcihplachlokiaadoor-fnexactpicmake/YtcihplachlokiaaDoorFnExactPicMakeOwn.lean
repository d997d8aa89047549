/- The law FnExactPicMake holds at every input, where the listed package-level variables start as the program's text lays them. -/
import Derived.Test.YtcihplachlokiaaDoorQko
import Derived.Test.YtcihplachlokiaaDoorCards
import Derived.Test.YtcihplachlokiaaDoorTie
import Derived.WalkKit
import Derived.ProofKit
import Derived.OpenShut
import Derived.ShutString
import Derived.ChangeOld
import Derived.ChangeVars
import Derived.Below
import Derived.OpenVars
import Derived.Lay
import Derived.SevenTiedAt
import Derived.Lib.SmallJoins
import Derived.Laws.Cover2
namespace Go.Proofs.YtcihplachlokiaaDoor
open Go.ChangeShapes Go.WideShapes Go.ChangeAt Go.RowKit Go.Joins
open Go.ChangeMaps (open_string shut_string)
set_option linter.unusedVariables false

theorem fnExactPicMake_own : ownKnob Tryd.prog.godebug = none := by kernel_rfl
theorem fnExactPicMake_laidOut : laidOutB Tryd.prog = true := by kernel_rfl


set_option maxRecDepth 100000 in
theorem fnExactPicMake_lifted (os : Os) (started : os.Started) (H : Type) (enc : TypeId × Value → H) :
    ReturnsInHanded {} Tryd.checked os 4 .any (fun w args => (Rows.fnExactPicMakeSpec.pre enc Tryd.prog Tryd.f4 [] false w args ∧ laidMetH Tryd.prog Rows.fnExactPicMakeRow.laid w) ∧ sizedMet enc Tryd.prog Tryd.f4 (OpenSpec.ofChange Rows.fnExactPicMakeSpec) false w args)
      (Rows.fnExactPicMakeSpec.post enc Tryd.prog Tryd.f4 false true false false) := by
  refine returnsInHanded_of_change_and (C := Tryd.checked) (X := fun w _ => laidMetH Tryd.prog Rows.fnExactPicMakeRow.laid w) (fun _ _ _ hh h => h.of_heap hh) fnExactPicMake_own started (by kernel_rfl) Tryd.func4
    (ChangeSpec.witness_shaped (enc := enc) (C := Tryd.checked) (os := os) (X := fun w _ => laidMetH Tryd.prog Rows.fnExactPicMakeRow.laid w) false (World.laidAll Tryd.prog os Rows.fnExactPicMakeRow.laid) #[.slice none 0 0] 8 (World.laidAll_os _ _ _)
      (World.shaped_of_ZipB (by kernel_rfl) (by kernel_rfl)) (by kernel_rfl) (by kernel_rfl) (by kernel_rfl)
      (by rw [MakeChecks.laidMetH_plain _ _ _ (by kernel_rfl)]; exact laidMet_laidAll _ (by kernel_rfl) (by kernel_rfl))) ?_
  intro W base args ds gs before hval0 hW _ _ hL _
  have hval : ∀ (j : Nat) t v, Tryd.f4.params[j]? = some t → args[j]? = some v → Value.okWide Tryd.prog W .any base t v := hval0
  have hW' := hW
  obtain ⟨p, q, hA0, hV, rfl, hfz, hnd⟩ := hW
  have hA : DataW.TrodAll enc Tryd.prog W 0 (fun _ => true) true Tryd.f4.params.toList args.toList ds p := hA0
  rw [Tryd.params4] at hA hval
  obtain ⟨v0, vs0, d0, ds0, p0, q0, hargs, rfl, rfl, h0, r0⟩ := trodAll_cons hA
  obtain ⟨rfl, rfl, rfl⟩ := trodAll_nil r0
  obtain rfl : args = #[v0] := by cases args; simp_all
  have hV2 := hV
  obtain ⟨_, _, _, _, gv0, _, rfl, _, _, _, _, _⟩ := trodVars_one hV
  rw [MakeChecks.laidMetH_plain _ _ _ (by kernel_rfl)] at hL
  have k0 := h0
  have lt0 : ∀ x ∈ p0, x.block < W.heap.size := by obtain ⟨m, hm⟩ := k0; exact DataW.trod_lt m _ _ _ hm
  obtain ⟨a0, len0, cap0, rfl⟩ := okWide_slice Tryd.underlying30 (hval 0 30 v0 rfl rfl)
  have wa0 : ∃ xs, InstsIs W 0 (.slice a0 len0 cap0) xs := by
    obtain ⟨fuel, hf⟩ := h0
    exact insts_open hf
  clear hA0 hval0
  refine (walk_pmake (.slice a0 len0 cap0) W wa0 (kt_of_reads (Lib.laidMet.reads hL (.head _)))).mono fun e W' ⟨he, bel⟩ => ?_
  subst he
  exact ⟨_, rfl, _, _, _, [], _, _, hW', trodAll_mk1 (shut_bool Tryd.underlying4 _), (trodAll_cons_mk (Below.trod fnExactPicMake_laidOut (by kernel_rfl) (of_decide_eq_true (by kernel_rfl)) k0 bel lt0) trodAll_mk0), Below.trodVars fnExactPicMake_laidOut bel (by kernel_rfl) hV2, bel.frame _, fun h => by cases h⟩

theorem fnExactPicMake_closed : joinedFacts Tryd.prog 4 Tryd.f4 Rows.fnExactPicMakeSpec Rows.fnExactPicMakeRow = true := by kernel_rfl
theorem fnExactPicMake_fname : Tryd.prog.funcNamed Rows.fnExactPicMakeRow.func = some 4 := by kernel_rfl
theorem fnExactPicMake_inst : Tryd.f4.isInstance Tryd.prog Rows.fnExactPicMakeRow.origin Rows.fnExactPicMakeRow.targs := of_decide_eq_true (by kernel_rfl)
theorem fnExactPicMake_wrap : Tryd.f4.isWrapper Tryd.prog Rows.fnExactPicMakeRow.wrapper Rows.fnExactPicMakeRow.mainSum := by unfold Func.isWrapper; first | (rw [if_pos (by decide +kernel)]; kernel_rfl) | (rw [if_neg (by decide +kernel)]; exact ⟨rfl, rfl⟩)
theorem fnExactPicMake_said : Rows.FnExactPicMakeSaid :=
  OpenClaim.holds_of_wide 4 Tryd.f4 rfl rfl rfl rfl rfl rfl rfl ⟨rfl, rfl, rfl, rfl, rfl⟩ rfl rfl rfl rfl rfl fnExactPicMake_fname Tryd.func4 fnExactPicMake_closed
    fnExactPicMake_inst fnExactPicMake_wrap
    (fun os started H enc _ => fnExactPicMake_lifted os started H enc)

theorem fnExactPicMake_holds : Rows.FnExactPicMakeCardSaid :=
  Claim7.holds_tied_plain_at .later [] [.data] true (true, "ddad3005a6c0050652faace7dc73bfd5ce8fad95b4e479b5ee203f8cfbd370ee") true fnExactPicMake_said (fun _ h => by cases h) (by kernel_rfl) (fun _ h => by cases h) fnExactPicMake_row_tie rfl ⟨rfl, rfl⟩ (by kernel_rfl) rfl
    (fun f fn hf hfn => by
      obtain rfl : f = 4 := Option.some.inj ((show Tryd.prog.funcNamed "loop.example/stile/laws.FnExactPicMake" = some 4 by kernel_rfl).symm.trans hf) |>.symm
      obtain rfl : fn = Tryd.f4 := (Option.some.inj (Tryd.func4.symm.trans hfn)).symm
      exact ⟨by kernel_rfl, fun j t ht => by
        rw [Tryd.params4] at ht
        have hm : t ∈ [30] := by simpa using Array.mem_of_getElem? ht
        have hall : ([30].all fun u => !Tryd.prog.wantsStandIn u) = true := by kernel_rfl
        exact (show Tryd.prog.wantsStandIn t = false by simpa using List.all_eq_true.1 hall t hm)⟩)
    (by kernel_rfl)
#print axioms fnExactPicMake_holds
end Go.Proofs.YtcihplachlokiaaDoor
