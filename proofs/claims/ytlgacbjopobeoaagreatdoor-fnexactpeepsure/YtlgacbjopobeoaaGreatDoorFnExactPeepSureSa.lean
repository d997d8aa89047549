/- The row FnExactPeepSure. -/
import Derived.Test.YtlgacbjopobeoaaGreatDoorPpd
import Derived.Test.YtlgacbjopobeoaaGreatDoorEo
import Derived.Test.YtlgacbjopobeoaaGreatDoorCards
import Derived.Test.YtlgacbjopobeoaaGreatDoorTie
import Derived.WalkKit
import Derived.ProofKit
import Derived.OpenShut
import Derived.ShutString
import Derived.ChangeOld
import Derived.ChangeVars
import Derived.Below
import Derived.OpenVars
import Derived.Lay
import Derived.SevenTiedAt
import Derived.Lib.SmallJoins
import Derived.Laws.Cover2
import Derived.Test.YtlgacbjopobeoaaGreatDoorFnExactPeepSureCl
namespace Go.Proofs.YtlgacbjopobeoaaGreatDoor
open Go.ChangeShapes Go.WideShapes Go.ChangeAt Go.RowKit Go.Joins
open Go.ChangeMaps (open_string shut_string)
set_option linter.unusedVariables false

theorem fnExactPeepSure_own : ownKnob Tryz.prog.godebug = none := by kernel_rfl
theorem fnExactPeepSure_laidOut : laidOutB Tryz.prog = true := by kernel_rfl
theorem fnExactPeepSure_cells82 : Tryz.prog.cellsOf 82 = 2 := by kernel_rfl

set_option maxRecDepth 100000 in
theorem fnExactPeepSure_lifted (os : Os) (started : os.Started) (H : Type) (enc : TypeId × Value → H) :
    ReturnsInHanded {} Tryz.checked os 8 .any (fun w args => (Rows.fnExactPeepSureSpec.pre enc Tryz.prog Tryz.f8 [] false w args ∧ laidMetH Tryz.prog Rows.fnExactPeepSureRow.laid w) ∧ sizedMet enc Tryz.prog Tryz.f8 (OpenSpec.ofChange Rows.fnExactPeepSureSpec) false w args)
      (Rows.fnExactPeepSureSpec.post enc Tryz.prog Tryz.f8 false true false false) := by
  refine returnsInHanded_of_change_and (C := Tryz.checked) (X := fun w _ => laidMetH Tryz.prog Rows.fnExactPeepSureRow.laid w) (fun _ _ _ hh h => h.of_heap hh) fnExactPeepSure_own started (by kernel_rfl) Tryz.func8
    (ChangeSpec.witness_shaped (enc := enc) (C := Tryz.checked) (os := os) (X := fun w _ => laidMetH Tryz.prog Rows.fnExactPeepSureRow.laid w) false (World.laidAll Tryz.prog os Rows.fnExactPeepSureRow.laid) #[.agg #[.int .i64 0, .slice none 0 0]] 8 (World.laidAll_os _ _ _)
      (World.shaped_of_ZipB (by kernel_rfl) (by kernel_rfl)) (by kernel_rfl) (by kernel_rfl) (by kernel_rfl)
      (by rw [MakeChecks.laidMetH_plain _ _ _ (by kernel_rfl)]; exact laidMet_laidAll _ (by kernel_rfl) (by kernel_rfl))) ?_
  intro W base args ds gs before hval0 hW _ _ hL _
  have hval : ∀ (j : Nat) t v, Tryz.f8.params[j]? = some t → args[j]? = some v → Value.okWide Tryz.prog W .any base t v := hval0
  have hW' := hW
  obtain ⟨p, q, hA0, hV, rfl, hfz, hnd⟩ := hW
  have hA : DataW.TrodAll enc Tryz.prog W 0 (fun _ => true) true Tryz.f8.params.toList args.toList ds p := hA0
  rw [Tryz.params8] at hA hval
  obtain ⟨v0, vs0, d0, ds0, p0, q0, hargs, rfl, rfl, h0, r0⟩ := trodAll_cons hA
  obtain ⟨rfl, rfl, rfl⟩ := trodAll_nil r0
  obtain rfl : args = #[v0] := by cases args; simp_all
  have hV2 := hV
  obtain ⟨_, _, _, _, gv0, _, rfl, _, _, _, _, _⟩ := trodVars_one hV
  rw [MakeChecks.laidMetH_plain _ _ _ (by kernel_rfl)] at hL
  have k0 := h0
  have lt0 : ∀ x ∈ p0, x.block < W.heap.size := by obtain ⟨m, hm⟩ := k0; exact DataW.trod_lt m _ _ _ hm
  obtain ⟨c00, c01, y00, y01, m0, rfl, ed0, ep0, hy00, hy01⟩ := open_agg2 Tryz.underlying82 (by kernel_rfl) fnExactPeepSure_cells82 (hval 0 82 v0 rfl rfl) h0
  obtain ⟨a0, e00, ey00, wa0⟩ := DataW.trod_int Tryz.underlying3 hy00
  simp at e00
  subst e00
  obtain ⟨sa0, sl0, sc0, xs0, rfl, hin0⟩ := sl_of_trod hy01
  clear hA0 hval0
  refine (walk_psure a0 sa0 sl0 sc0 xs0 W wa0 hin0 (kt_of_reads (Lib.laidMet.reads hL (.head _)))).mono fun e W' ⟨he, bel⟩ => ?_
  subst he
  exact ⟨_, rfl, _, _, _, [], _, _, hW', trodAll_mk1 (shut_bool Tryz.underlying4 _), (trodAll_cons_mk (Below.trod fnExactPeepSure_laidOut (by kernel_rfl) (of_decide_eq_true (by kernel_rfl)) k0 bel lt0) trodAll_mk0), Below.trodVars fnExactPeepSure_laidOut bel (by kernel_rfl) hV2, bel.frame _, fun h => by cases h⟩

theorem fnExactPeepSure_said : Rows.FnExactPeepSureSaid :=
  OpenClaim.holds_of_wide 8 Tryz.f8 rfl rfl rfl rfl rfl rfl rfl ⟨rfl, rfl, rfl, rfl, rfl⟩ rfl rfl rfl rfl rfl fnExactPeepSure_fname Tryz.func8 fnExactPeepSure_closed
    fnExactPeepSure_inst fnExactPeepSure_wrap
    (fun os started H enc _ => fnExactPeepSure_lifted os started H enc)

end Go.Proofs.YtlgacbjopobeoaaGreatDoor
