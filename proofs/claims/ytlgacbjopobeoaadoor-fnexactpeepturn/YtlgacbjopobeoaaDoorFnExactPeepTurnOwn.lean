/- The law FnExactPeepTurn holds at every input, where the listed package-level variables start as the program's text lays them. -/
import Derived.Test.YtlgacbjopobeoaaDoorPtmM
import Derived.Test.YtlgacbjopobeoaaDoorEo
import Derived.Test.YtlgacbjopobeoaaDoorCards
import Derived.Test.YtlgacbjopobeoaaDoorTie
import Derived.WalkKit
import Derived.ProofKit
import Derived.OpenShut
import Derived.ShutString
import Derived.ChangeOld
import Derived.ChangeVars
import Derived.Below
import Derived.OpenVars
import Derived.Lay
import Derived.SevenTiedAt
import Derived.Lib.SmallJoins
import Derived.Laws.Cover2
namespace Go.Proofs.YtlgacbjopobeoaaDoor
open Go.ChangeShapes Go.WideShapes Go.ChangeAt Go.RowKit Go.Joins
open Go.ChangeMaps (open_string shut_string)
set_option linter.unusedVariables false

theorem fnExactPeepTurn_own : ownKnob Tryd.prog.godebug = none := by kernel_rfl
theorem fnExactPeepTurn_laidOut : laidOutB Tryd.prog = true := by kernel_rfl
theorem fnExactPeepTurn_cells24 : Tryd.prog.cellsOf 24 = 2 := by kernel_rfl

set_option maxRecDepth 100000 in
theorem fnExactPeepTurn_lifted (os : Os) (started : os.Started) (H : Type) (enc : TypeId × Value → H) :
    ReturnsInHanded {} Tryd.checked os 3 .any (fun w args => (Rows.fnExactPeepTurnSpec.pre enc Tryd.prog Tryd.f3 [] false w args ∧ laidMetH Tryd.prog Rows.fnExactPeepTurnRow.laid w) ∧ sizedMet enc Tryd.prog Tryd.f3 (OpenSpec.ofChange Rows.fnExactPeepTurnSpec) false w args)
      (Rows.fnExactPeepTurnSpec.post enc Tryd.prog Tryd.f3 false true false false) := by
  refine returnsInHanded_of_change_and (C := Tryd.checked) (X := fun w _ => laidMetH Tryd.prog Rows.fnExactPeepTurnRow.laid w) (fun _ _ _ hh h => h.of_heap hh) fnExactPeepTurn_own started (by kernel_rfl) Tryd.func3
    (ChangeSpec.witness_shaped (enc := enc) (C := Tryd.checked) (os := os) (X := fun w _ => laidMetH Tryd.prog Rows.fnExactPeepTurnRow.laid w) false (World.laidAll Tryd.prog os Rows.fnExactPeepTurnRow.laid) #[.agg #[.int .i64 0, .slice none 0 0]] 8 (World.laidAll_os _ _ _)
      (World.shaped_of_ZipB (by kernel_rfl) (by kernel_rfl)) (by kernel_rfl) (by kernel_rfl) (by kernel_rfl)
      (by rw [MakeChecks.laidMetH_plain _ _ _ (by kernel_rfl)]; exact laidMet_laidAll _ (by kernel_rfl) (by kernel_rfl))) ?_
  intro W base args ds gs before hval0 hW _ _ hL _
  have hval : ∀ (j : Nat) t v, Tryd.f3.params[j]? = some t → args[j]? = some v → Value.okWide Tryd.prog W .any base t v := hval0
  have hW' := hW
  obtain ⟨p, q, hA0, hV, rfl, hfz, hnd⟩ := hW
  have hA : DataW.TrodAll enc Tryd.prog W 0 (fun _ => true) true Tryd.f3.params.toList args.toList ds p := hA0
  rw [Tryd.params3] at hA hval
  obtain ⟨v0, vs0, d0, ds0, p0, q0, hargs, rfl, rfl, h0, r0⟩ := trodAll_cons hA
  obtain ⟨rfl, rfl, rfl⟩ := trodAll_nil r0
  obtain rfl : args = #[v0] := by cases args; simp_all
  have hV2 := hV
  obtain ⟨_, _, _, _, gv0, _, _, _, _, _, gv1, _, rfl, _, _, _, _, _, _, _, _, _⟩ := trodVars_two hV
  rw [MakeChecks.laidMetH_plain _ _ _ (by kernel_rfl)] at hL
  have k0 := h0
  have lt0 : ∀ x ∈ p0, x.block < W.heap.size := by obtain ⟨m, hm⟩ := k0; exact DataW.trod_lt m _ _ _ hm
  obtain ⟨c00, c01, y00, y01, m0, rfl, ed0, ep0, hy00, hy01⟩ := open_agg2 Tryd.underlying24 (by kernel_rfl) fnExactPeepTurn_cells24 (hval 0 24 v0 rfl rfl) h0
  obtain ⟨a0, e00, ey00, wa0⟩ := DataW.trod_int Tryd.underlying3 hy00
  simp at e00
  subst e00
  obtain ⟨sa0, sl0, sc0, xs0, rfl, hin0⟩ := sl_of_trod hy01
  clear hA0 hval0
  refine (walk_turn a0 sa0 sl0 sc0 xs0 W wa0 hin0 (kt_of_reads (Lib.laidMet.reads hL (.head _))) (ct_of_reads (Lib.laidMet.reads hL (.tail _ (.head _))))).mono fun e W' ⟨he, bel⟩ => ?_
  subst he
  exact ⟨_, rfl, _, _, _, [], _, _, hW', trodAll_mk1 (shut_bool Tryd.underlying4 _), (trodAll_cons_mk (Below.trod fnExactPeepTurn_laidOut (by kernel_rfl) (of_decide_eq_true (by kernel_rfl)) k0 bel lt0) trodAll_mk0), Below.trodVars fnExactPeepTurn_laidOut bel (by kernel_rfl) hV2, bel.frame _, fun h => by cases h⟩

theorem fnExactPeepTurn_closed : joinedFacts Tryd.prog 3 Tryd.f3 Rows.fnExactPeepTurnSpec Rows.fnExactPeepTurnRow = true := by kernel_rfl
theorem fnExactPeepTurn_fname : Tryd.prog.funcNamed Rows.fnExactPeepTurnRow.func = some 3 := by kernel_rfl
theorem fnExactPeepTurn_inst : Tryd.f3.isInstance Tryd.prog Rows.fnExactPeepTurnRow.origin Rows.fnExactPeepTurnRow.targs := of_decide_eq_true (by kernel_rfl)
theorem fnExactPeepTurn_wrap : Tryd.f3.isWrapper Tryd.prog Rows.fnExactPeepTurnRow.wrapper Rows.fnExactPeepTurnRow.mainSum := by unfold Func.isWrapper; first | (rw [if_pos (by decide +kernel)]; kernel_rfl) | (rw [if_neg (by decide +kernel)]; exact ⟨rfl, rfl⟩)
theorem fnExactPeepTurn_said : Rows.FnExactPeepTurnSaid :=
  OpenClaim.holds_of_wide 3 Tryd.f3 rfl rfl rfl rfl rfl rfl rfl ⟨rfl, rfl, rfl, rfl, rfl⟩ rfl rfl rfl rfl rfl fnExactPeepTurn_fname Tryd.func3 fnExactPeepTurn_closed
    fnExactPeepTurn_inst fnExactPeepTurn_wrap
    (fun os started H enc _ => fnExactPeepTurn_lifted os started H enc)

theorem fnExactPeepTurn_holds : Rows.FnExactPeepTurnCardSaid :=
  Claim7.holds_tied_plain_at .later [] [.data, .data] true (true, "fec3385008302768109d676088793be2da7a512edebffcf0cb044f81200e69bd") false fnExactPeepTurn_said (fun _ h => by cases h) (by kernel_rfl) (fun _ h => by cases h) fnExactPeepTurn_row_tie rfl ⟨rfl, rfl⟩ (by kernel_rfl) rfl
    (fun f fn hf hfn => by
      obtain rfl : f = 3 := Option.some.inj ((show Tryd.prog.funcNamed "loop.example/stile/laws.FnExactPeepTurn" = some 3 by kernel_rfl).symm.trans hf) |>.symm
      obtain rfl : fn = Tryd.f3 := (Option.some.inj (Tryd.func3.symm.trans hfn)).symm
      exact ⟨by kernel_rfl, fun j t ht => by
        rw [Tryd.params3] at ht
        have hm : t ∈ [24] := by simpa using Array.mem_of_getElem? ht
        have hall : ([24].all fun u => !Tryd.prog.wantsStandIn u) = true := by kernel_rfl
        exact (show Tryd.prog.wantsStandIn t = false by simpa using List.all_eq_true.1 hall t hm)⟩)
    (by kernel_rfl)
#print axioms fnExactPeepTurn_holds
end Go.Proofs.YtlgacbjopobeoaaDoor
