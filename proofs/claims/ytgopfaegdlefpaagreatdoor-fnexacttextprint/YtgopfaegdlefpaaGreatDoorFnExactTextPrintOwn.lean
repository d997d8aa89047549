/- The law FnExactTextPrint holds at every input, where the listed package-level variables start as the program's text lays them. -/
import Derived.Test.YtgopfaegdlefpaaGreatDoorVlM
import Derived.Test.YtgopfaegdlefpaaGreatDoorFnExactTextPrintCl
import Derived.Test.YtgopfaegdlefpaaGreatDoorCards
import Derived.Test.YtgopfaegdlefpaaGreatDoorTie
import Derived.WalkKit
import Derived.ProofKit
import Derived.OpenShut
import Derived.ShutString
import Derived.ChangeOld
import Derived.ChangeVars
import Derived.Below
import Derived.OpenVars
import Derived.Lay
import Derived.LaidHandle
import Derived.SevenTiedAt
import Derived.Lib.SmallJoins
import Derived.Laws.Cover2
namespace Go.Proofs.YtgopfaegdlefpaaGreatDoor
open Go.ChangeShapes Go.WideShapes Go.ChangeAt Go.RowKit Go.Joins
open Go.ChangeMaps (open_string shut_string)
set_option linter.unusedVariables false

theorem fnExactTextPrint_own : ownKnob Tryz.prog.godebug = none := by kernel_rfl
theorem fnExactTextPrint_laidOut : laidOutB Tryz.prog = true := by kernel_rfl


theorem fnExactTextPrint_plain : (Rows.fnExactTextPrintRow.laid.filter fun x => x.2.handleName?.isNone) = [("math/bits.deBruijn32tab", Rows.laid_math_bits_deBruijn32tab), ("math/bits.deBruijn64tab", Rows.laid_math_bits_deBruijn64tab), ("internal/strconv.uint64pow10", Rows.laid_internal_strconv_uint64pow10), ("loop.example/stile/impl.devKinds", Rows.laid_loop_example_stile_impl_devKinds), ("loop.example/stile/impl.devWords", Rows.laid_loop_example_stile_impl_devWords)] := by kernel_rfl
theorem fnExactTextPrint_one : (Rows.fnExactTextPrintRow.laid.filter fun x => x.2.handleName?.isSome) = [("errors.errorType", Rows.laid_errors_errorType)] := by kernel_rfl
theorem fnExactTextPrint_parts {W : World} (h : laidMetH Tryz.prog Rows.fnExactTextPrintRow.laid W) : laidMet Tryz.prog (Rows.fnExactTextPrintRow.laid.filter fun x => x.2.handleName?.isNone) W ∧ handlesMet Tryz.prog (Rows.fnExactTextPrintRow.laid.filter fun x => x.2.handleName?.isSome) W := by
  unfold laidMetH at h
  rw [fnExactTextPrint_one] at h ⊢
  exact h

set_option maxRecDepth 100000 in
theorem fnExactTextPrint_lifted (os : Os) (started : os.Started) (H : Type) (enc : TypeId × Value → H) :
    ReturnsInHanded {} Tryz.checked os 7 .any (fun w args => (Rows.fnExactTextPrintSpec.pre enc Tryz.prog Tryz.f7 [] false w args ∧ laidMetH Tryz.prog Rows.fnExactTextPrintRow.laid w) ∧ sizedMet enc Tryz.prog Tryz.f7 (OpenSpec.ofChange Rows.fnExactTextPrintSpec) false w args)
      (Rows.fnExactTextPrintSpec.post enc Tryz.prog Tryz.f7 false true false false) := by
  refine lift_shaped (C := Tryz.checked) (X := fun w _ => laidMetH Tryz.prog Rows.fnExactTextPrintRow.laid w) (fun _ _ _ hh h => h.of_heap hh) fnExactTextPrint_own started (by kernel_rfl) Tryz.func7
    (ChangeSpec.witness_shaped (enc := enc) (C := Tryz.checked) (os := os) (X := fun w _ => laidMetH Tryz.prog Rows.fnExactTextPrintRow.laid w) false (handleWorld os (Rows.fnExactTextPrintRow.laid.filter fun x => x.2.handleName?.isNone)) #[.slice none 0 0] 8 (handleWorld_os _ _)
      (World.shaped_of_ZipB (by kernel_rfl) (by kernel_rfl)) (by kernel_rfl) (by kernel_rfl) (by kernel_rfl)
      (handleWorld_met _ (by kernel_rfl) (by kernel_rfl) (by kernel_rfl))) ?_
  intro W base args ds gs before hval0 hW hshape hLL
  have hval : ∀ (j : Nat) t v, Tryz.f7.params[j]? = some t → args[j]? = some v → Value.okWide Tryz.prog W .any base t v := hval0
  have hW' := hW
  obtain ⟨p, q, hA0, hV, rfl, hfz, hnd⟩ := hW
  have hA : DataW.TrodAll enc Tryz.prog W 0 (fun _ => true) true Tryz.f7.params.toList args.toList ds p := hA0
  rw [Tryz.params7] at hA hval
  obtain ⟨v0, vs0, d0, ds0, p0, q0, hargs, rfl, rfl, h0, r0⟩ := trodAll_cons hA
  obtain ⟨rfl, rfl, rfl⟩ := trodAll_nil r0
  obtain rfl : args = #[v0] := by cases args; simp_all
  have hV2 := hV
  obtain ⟨_, _, _, _, gv0, _, _, _, _, _, gv1, _, rfl, _, _, _, _, _, _, _, _, _⟩ := trodVars_two hV
  have hLB : laidMet Tryz.prog (Rows.fnExactTextPrintRow.laid.filter fun x => x.2.handleName?.isNone) W ∧ handlesMet Tryz.prog (Rows.fnExactTextPrintRow.laid.filter fun x => x.2.handleName?.isSome) W := fnExactTextPrint_parts hLL
  have hL := hLB.1
  have eh : EH W := eh_of_laid (fnExactTextPrint_one ▸ hLB.2)
  rw [fnExactTextPrint_plain] at hL
  have k0 := h0
  have lt0 : ∀ x ∈ p0, x.block < W.heap.size := by obtain ⟨m, hm⟩ := k0; exact DataW.trod_lt m _ _ _ hm
  obtain ⟨a0, len0, cap0, rfl⟩ := okWide_slice Tryz.underlying40 (hval 0 40 v0 rfl rfl)
  have wa0 : ∃ m xs, ArmsIs W 0 m (.slice a0 len0 cap0) xs := by
    obtain ⟨fuel, hf⟩ := h0
    exact ladder_open hf
  clear hA0 hval0
  refine (walk_print (.slice a0 len0 cap0) W wa0 (kt_of_reads (Lib.laidMet.reads hL (.tail _ (.tail _ (.tail _ (.head _)))))) (pt_of_reads (Lib.laidMet.reads hL (.tail _ (.tail _ (.head _))))) (wt_of_reads (Lib.laidMet.reads hL (.tail _ (.tail _ (.tail _ (.tail _ (.head _))))))) (ml_of_shape hshape) eh).mono fun e W' ⟨he, bel⟩ => ?_
  subst he
  exact ⟨_, rfl, _, _, _, [], _, _, hW', trodAll_mk1 (shut_bool Tryz.underlying4 _), (trodAll_cons_mk (Below.trod fnExactTextPrint_laidOut (by kernel_rfl) (of_decide_eq_true (by kernel_rfl)) k0 bel lt0) trodAll_mk0), Below.trodVars fnExactTextPrint_laidOut bel (by kernel_rfl) hV2, bel.frame _, fun h => by cases h⟩

theorem fnExactTextPrint_said : Rows.FnExactTextPrintSaid :=
  OpenClaim.holds_of_wide 7 Tryz.f7 rfl rfl rfl rfl rfl rfl rfl ⟨rfl, rfl, rfl, rfl, rfl⟩ rfl rfl rfl rfl rfl fnExactTextPrint_fname Tryz.func7 fnExactTextPrint_closed
    fnExactTextPrint_inst fnExactTextPrint_wrap
    (fun os started H enc _ => fnExactTextPrint_lifted os started H enc)

theorem fnExactTextPrint_holds : Rows.FnExactTextPrintCardSaid :=
  Claim7.holds_tied_plain_at .later [] [.data, .data, .data, .handle, .data, .data] true (true, "1683266d0d8448a088c1fdfa3d87a36c902967e4e5bd68345803ff7bdf33afb6") true fnExactTextPrint_said (fun _ h => by cases h) (by kernel_rfl) (fun _ h => by cases h) fnExactTextPrint_row_tie rfl ⟨rfl, rfl⟩ (by kernel_rfl) rfl
    (fun f fn hf hfn => by
      obtain rfl : f = 7 := Option.some.inj ((show Tryz.prog.funcNamed "loop.example/stile/laws.FnExactTextPrint" = some 7 by kernel_rfl).symm.trans hf) |>.symm
      obtain rfl : fn = Tryz.f7 := (Option.some.inj (Tryz.func7.symm.trans hfn)).symm
      exact ⟨by kernel_rfl, fun j t ht => by
        rw [Tryz.params7] at ht
        have hm : t ∈ [40] := by simpa using Array.mem_of_getElem? ht
        have hall : ([40].all fun u => !Tryz.prog.wantsStandIn u) = true := by kernel_rfl
        exact (show Tryz.prog.wantsStandIn t = false by simpa using List.all_eq_true.1 hall t hm)⟩)
    (by kernel_rfl)
#print axioms fnExactTextPrint_holds
end Go.Proofs.YtgopfaegdlefpaaGreatDoor
