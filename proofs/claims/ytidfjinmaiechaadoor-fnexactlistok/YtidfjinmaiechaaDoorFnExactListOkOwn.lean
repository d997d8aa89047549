/- The law FnExactListOk holds at every input, where the listed package-level variables start as the program's text lays them. -/
import Derived.Test.YtidfjinmaiechaaDoorZp
import Derived.Test.YtidfjinmaiechaaDoorCards
import Derived.Test.YtidfjinmaiechaaDoorTie
import Derived.WalkKit
import Derived.ProofKit
import Derived.OpenShut
import Derived.ShutString
import Derived.ChangeOld
import Derived.ChangeVars
import Derived.Below
import Derived.OpenVars
import Derived.Lay
import Derived.SevenTiedAt
import Derived.Lib.SmallJoins
import Derived.Laws.Cover2
namespace Go.Proofs.YtidfjinmaiechaaDoor
open Go.ChangeShapes Go.WideShapes Go.ChangeAt Go.RowKit Go.Joins
open Go.ChangeMaps (open_string shut_string)
set_option linter.unusedVariables false

theorem fnExactListOk_own : ownKnob Tryd.prog.godebug = none := by kernel_rfl
theorem fnExactListOk_laidOut : laidOutB Tryd.prog = true := by kernel_rfl


set_option maxRecDepth 100000 in
theorem fnExactListOk_lifted (os : Os) (started : os.Started) (H : Type) (enc : TypeId × Value → H) :
    ReturnsInHanded {} Tryd.checked os 4 .any (fun w args => (Rows.fnExactListOkSpec.pre enc Tryd.prog Tryd.f4 [] false w args ∧ laidMetH Tryd.prog Rows.fnExactListOkRow.laid w) ∧ sizedMet enc Tryd.prog Tryd.f4 (OpenSpec.ofChange Rows.fnExactListOkSpec) false w args)
      (Rows.fnExactListOkSpec.post enc Tryd.prog Tryd.f4 false true false false) := by
  refine returnsInHanded_of_change_and (C := Tryd.checked) (X := fun w _ => laidMetH Tryd.prog Rows.fnExactListOkRow.laid w) (fun _ _ _ hh h => h.of_heap hh) fnExactListOk_own started (by kernel_rfl) Tryd.func4
    (ChangeSpec.witness_shaped (enc := enc) (C := Tryd.checked) (os := os) (X := fun w _ => laidMetH Tryd.prog Rows.fnExactListOkRow.laid w) false (World.laidAll Tryd.prog os Rows.fnExactListOkRow.laid) #[.agg #[.int .i64 0, .int .i64 0, .slice none 0 0]] 8 (World.laidAll_os _ _ _)
      (World.shaped_of_ZipB (by kernel_rfl) (by kernel_rfl)) (by kernel_rfl) (by kernel_rfl) (by kernel_rfl)
      (by rw [MakeChecks.laidMetH_plain _ _ _ (by kernel_rfl)]; exact laidMet_laidAll _ (by kernel_rfl) (by kernel_rfl))) ?_
  intro W base args ds gs before hval0 hW _ _ hL _
  have hval : ∀ (j : Nat) t v, Tryd.f4.params[j]? = some t → args[j]? = some v → Value.okWide Tryd.prog W .any base t v := hval0
  have hW' := hW
  obtain ⟨p, q, hA0, hV, rfl, hfz, hnd⟩ := hW
  have hA : DataW.TrodAll enc Tryd.prog W 0 (fun _ => true) true Tryd.f4.params.toList args.toList ds p := hA0
  rw [Tryd.params4] at hA hval
  obtain ⟨v0, vs0, d0, ds0, p0, q0, hargs, rfl, rfl, h0, r0⟩ := trodAll_cons hA
  obtain ⟨rfl, rfl, rfl⟩ := trodAll_nil r0
  obtain rfl : args = #[v0] := by cases args; simp_all
  have hV2 := hV
  obtain ⟨_, _, _, _, gv0, _, _, _, _, _, gv1, _, rfl, _, _, _, _, _, _, _, _, _⟩ := trodVars_two hV
  rw [MakeChecks.laidMetH_plain _ _ _ (by kernel_rfl)] at hL
  have k0 := h0
  have lt0 : ∀ x ∈ p0, x.block < W.heap.size := by obtain ⟨m, hm⟩ := k0; exact DataW.trod_lt m _ _ _ hm
  obtain ⟨cs0, rfl, hsz0⟩ := okWide_struct Tryd.underlying28 (hval 0 28 v0 rfl rfl)
  have wa0 : ∃ t, InstIs W 0 t cs0.toList := by
    obtain ⟨fuel, hf⟩ := h0
    exact inst_open hf
  clear hA0 hval0
  refine (walk_ok cs0 W wa0 (lt_of_reads (Lib.laidMet.reads hL (.head _))) (kt_of_reads (Lib.laidMet.reads hL (.tail _ (.head _))))).mono fun e W' ⟨he, bel⟩ => ?_
  subst he
  exact ⟨_, rfl, _, _, _, [], _, _, hW', trodAll_mk1 (shut_bool Tryd.underlying4 _), (trodAll_cons_mk (Below.trod fnExactListOk_laidOut (by kernel_rfl) (of_decide_eq_true (by kernel_rfl)) k0 bel lt0) trodAll_mk0), Below.trodVars fnExactListOk_laidOut bel (by kernel_rfl) hV2, bel.frame _, fun h => by cases h⟩

theorem fnExactListOk_closed : joinedFacts Tryd.prog 4 Tryd.f4 Rows.fnExactListOkSpec Rows.fnExactListOkRow = true := by kernel_rfl
theorem fnExactListOk_fname : Tryd.prog.funcNamed Rows.fnExactListOkRow.func = some 4 := by kernel_rfl
theorem fnExactListOk_inst : Tryd.f4.isInstance Tryd.prog Rows.fnExactListOkRow.origin Rows.fnExactListOkRow.targs := of_decide_eq_true (by kernel_rfl)
theorem fnExactListOk_wrap : Tryd.f4.isWrapper Tryd.prog Rows.fnExactListOkRow.wrapper Rows.fnExactListOkRow.mainSum := by unfold Func.isWrapper; first | (rw [if_pos (by decide +kernel)]; kernel_rfl) | (rw [if_neg (by decide +kernel)]; exact ⟨rfl, rfl⟩)
theorem fnExactListOk_said : Rows.FnExactListOkSaid :=
  OpenClaim.holds_of_wide 4 Tryd.f4 rfl rfl rfl rfl rfl rfl rfl ⟨rfl, rfl, rfl, rfl, rfl⟩ rfl rfl rfl rfl rfl fnExactListOk_fname Tryd.func4 fnExactListOk_closed
    fnExactListOk_inst fnExactListOk_wrap
    (fun os started H enc _ => fnExactListOk_lifted os started H enc)

theorem fnExactListOk_holds : Rows.FnExactListOkCardSaid :=
  Claim7.holds_tied_plain_at .later [] [.data, .data] true (true, "b275d0974d90687ed3beb0a3ec7fe75321d488fd09896b7c771cf1ddb97cff72") false fnExactListOk_said (fun _ h => by cases h) (by kernel_rfl) (fun _ h => by cases h) fnExactListOk_row_tie rfl ⟨rfl, rfl⟩ (by kernel_rfl) rfl
    (fun f fn hf hfn => by
      obtain rfl : f = 4 := Option.some.inj ((show Tryd.prog.funcNamed "loop.example/stile/laws.FnExactListOk" = some 4 by kernel_rfl).symm.trans hf) |>.symm
      obtain rfl : fn = Tryd.f4 := (Option.some.inj (Tryd.func4.symm.trans hfn)).symm
      exact ⟨by kernel_rfl, fun j t ht => by
        rw [Tryd.params4] at ht
        have hm : t ∈ [28] := by simpa using Array.mem_of_getElem? ht
        have hall : ([28].all fun u => !Tryd.prog.wantsStandIn u) = true := by kernel_rfl
        exact (show Tryd.prog.wantsStandIn t = false by simpa using List.all_eq_true.1 hall t hm)⟩)
    (by kernel_rfl)
#print axioms fnExactListOk_holds
end Go.Proofs.YtidfjinmaiechaaDoor
