/- The law FnExactSureRungs holds at every input, where the listed package-level variables start as the program's text lays them. -/
import Derived.Test.YtcmmiamnbefefaaDoorCkM
import Derived.Test.YtcmmiamnbefefaaDoorCards
import Derived.Test.YtcmmiamnbefefaaDoorTie
import Derived.WalkKit
import Derived.ProofKit
import Derived.OpenShut
import Derived.ShutString
import Derived.ChangeOld
import Derived.ChangeVars
import Derived.Below
import Derived.OpenVars
import Derived.Lay
import Derived.SevenTiedAt
import Derived.Lib.SmallJoins
import Derived.Laws.Cover2
namespace Go.Proofs.YtcmmiamnbefefaaDoor
open Go.ChangeShapes Go.WideShapes Go.ChangeAt Go.RowKit Go.Joins
open Go.ChangeMaps (open_string shut_string)
set_option linter.unusedVariables false

theorem fnExactSureRungs_own : ownKnob Tryd.prog.godebug = none := by kernel_rfl
theorem fnExactSureRungs_laidOut : laidOutB Tryd.prog = true := by kernel_rfl


set_option maxRecDepth 100000 in
theorem fnExactSureRungs_lifted (os : Os) (started : os.Started) (H : Type) (enc : TypeId × Value → H) :
    ReturnsInHanded {} Tryd.checked os 6 .any (fun w args => (Rows.fnExactSureRungsSpec.pre enc Tryd.prog Tryd.f6 [] false w args ∧ laidMetH Tryd.prog Rows.fnExactSureRungsRow.laid w) ∧ sizedMet enc Tryd.prog Tryd.f6 (OpenSpec.ofChange Rows.fnExactSureRungsSpec) false w args)
      (Rows.fnExactSureRungsSpec.post enc Tryd.prog Tryd.f6 false true false false) := by
  refine returnsInHanded_of_change_and (C := Tryd.checked) (X := fun w _ => laidMetH Tryd.prog Rows.fnExactSureRungsRow.laid w) (fun _ _ _ hh h => h.of_heap hh) fnExactSureRungs_own started (by kernel_rfl) Tryd.func6
    (ChangeSpec.witness_shaped (enc := enc) (C := Tryd.checked) (os := os) (X := fun w _ => laidMetH Tryd.prog Rows.fnExactSureRungsRow.laid w) false (World.laidAll Tryd.prog os Rows.fnExactSureRungsRow.laid) #[.slice none 0 0] 8 (World.laidAll_os _ _ _)
      (World.shaped_of_ZipB (by kernel_rfl) (by kernel_rfl)) (by kernel_rfl) (by kernel_rfl) (by kernel_rfl)
      (by rw [MakeChecks.laidMetH_plain _ _ _ (by kernel_rfl)]; exact laidMet_laidAll _ (by kernel_rfl) (by kernel_rfl))) ?_
  intro W base args ds gs before hval0 hW _ _ hL _
  have hval : ∀ (j : Nat) t v, Tryd.f6.params[j]? = some t → args[j]? = some v → Value.okWide Tryd.prog W .any base t v := hval0
  have hW' := hW
  obtain ⟨p, q, hA0, hV, rfl, hfz, hnd⟩ := hW
  have hA : DataW.TrodAll enc Tryd.prog W 0 (fun _ => true) true Tryd.f6.params.toList args.toList ds p := hA0
  rw [Tryd.params6] at hA hval
  obtain ⟨v0, vs0, d0, ds0, p0, q0, hargs, rfl, rfl, h0, r0⟩ := trodAll_cons hA
  obtain ⟨rfl, rfl, rfl⟩ := trodAll_nil r0
  obtain rfl : args = #[v0] := by cases args; simp_all
  have hV2 := hV
  obtain ⟨_, _, _, _, gv0, _, _, _, _, _, gv1, _, rfl, _, _, _, _, _, _, _, _, _⟩ := trodVars_two hV
  rw [MakeChecks.laidMetH_plain _ _ _ (by kernel_rfl)] at hL
  have k0 := h0
  have lt0 : ∀ x ∈ p0, x.block < W.heap.size := by obtain ⟨m, hm⟩ := k0; exact DataW.trod_lt m _ _ _ hm
  obtain ⟨a0, len0, cap0, rfl⟩ := okWide_slice Tryd.underlying31 (hval 0 31 v0 rfl rfl)
  have wa0 : ∃ xs, InstsIs W 0 (.slice a0 len0 cap0) xs := by
    obtain ⟨fuel, hf⟩ := h0
    exact insts_open hf
  clear hA0 hval0
  refine (walk_rungs (.slice a0 len0 cap0) W wa0 (lt_of_reads (Lib.laidMet.reads hL (.head _))) (kt_of_reads (Lib.laidMet.reads hL (.tail _ (.head _))))).mono fun e W' ⟨he, bel⟩ => ?_
  subst he
  exact ⟨_, rfl, _, _, _, [], _, _, hW', trodAll_mk1 (shut_bool Tryd.underlying4 _), (trodAll_cons_mk (Below.trod fnExactSureRungs_laidOut (by kernel_rfl) (of_decide_eq_true (by kernel_rfl)) k0 bel lt0) trodAll_mk0), Below.trodVars fnExactSureRungs_laidOut bel (by kernel_rfl) hV2, bel.frame _, fun h => by cases h⟩

theorem fnExactSureRungs_closed : joinedFacts Tryd.prog 6 Tryd.f6 Rows.fnExactSureRungsSpec Rows.fnExactSureRungsRow = true := by kernel_rfl
theorem fnExactSureRungs_fname : Tryd.prog.funcNamed Rows.fnExactSureRungsRow.func = some 6 := by kernel_rfl
theorem fnExactSureRungs_inst : Tryd.f6.isInstance Tryd.prog Rows.fnExactSureRungsRow.origin Rows.fnExactSureRungsRow.targs := of_decide_eq_true (by kernel_rfl)
theorem fnExactSureRungs_wrap : Tryd.f6.isWrapper Tryd.prog Rows.fnExactSureRungsRow.wrapper Rows.fnExactSureRungsRow.mainSum := by unfold Func.isWrapper; first | (rw [if_pos (by decide +kernel)]; kernel_rfl) | (rw [if_neg (by decide +kernel)]; exact ⟨rfl, rfl⟩)
theorem fnExactSureRungs_said : Rows.FnExactSureRungsSaid :=
  OpenClaim.holds_of_wide 6 Tryd.f6 rfl rfl rfl rfl rfl rfl rfl ⟨rfl, rfl, rfl, rfl, rfl⟩ rfl rfl rfl rfl rfl fnExactSureRungs_fname Tryd.func6 fnExactSureRungs_closed
    fnExactSureRungs_inst fnExactSureRungs_wrap
    (fun os started H enc _ => fnExactSureRungs_lifted os started H enc)

theorem fnExactSureRungs_holds : Rows.FnExactSureRungsCardSaid :=
  Claim7.holds_tied_plain_at .later [] [.data, .data] true (true, "1ed5134cba296ddc865c214ba66b39e089862d057795c0717191db344e922756") true fnExactSureRungs_said (fun _ h => by cases h) (by kernel_rfl) (fun _ h => by cases h) fnExactSureRungs_row_tie rfl ⟨rfl, rfl⟩ (by kernel_rfl) rfl
    (fun f fn hf hfn => by
      obtain rfl : f = 6 := Option.some.inj ((show Tryd.prog.funcNamed "loop.example/stile/laws.FnExactSureRungs" = some 6 by kernel_rfl).symm.trans hf) |>.symm
      obtain rfl : fn = Tryd.f6 := (Option.some.inj (Tryd.func6.symm.trans hfn)).symm
      exact ⟨by kernel_rfl, fun j t ht => by
        rw [Tryd.params6] at ht
        have hm : t ∈ [31] := by simpa using Array.mem_of_getElem? ht
        have hall : ([31].all fun u => !Tryd.prog.wantsStandIn u) = true := by kernel_rfl
        exact (show Tryd.prog.wantsStandIn t = false by simpa using List.all_eq_true.1 hall t hm)⟩)
    (by kernel_rfl)
#print axioms fnExactSureRungs_holds
end Go.Proofs.YtcmmiamnbefefaaDoor
