/- The law FnPicTop. -/
import Derived.Test.YtcihplachlokiaaGreatDoorPtcM
import Derived.Test.YtcihplachlokiaaGreatDoorPte
import Derived.Test.YtcihplachlokiaaGreatDoorDaM
import Derived.Test.YtcihplachlokiaaGreatDoorCards
import Derived.Test.YtcihplachlokiaaGreatDoorTie
import Derived.WalkKit
import Derived.ProofKit
import Derived.OpenShut
import Derived.ShutString
import Derived.ChangeOld
import Derived.ChangeVars
import Derived.Below
import Derived.OpenVars
import Derived.Lay
import Derived.SevenTiedAt
import Derived.Lib.SmallJoins
import Derived.Laws.Cover2
namespace Go.Proofs.YtcihplachlokiaaGreatDoor
open Go.RowKit Go.Shelf
set_option linter.unusedVariables false

theorem row_len {w : World} {a : Option Addr} {len cap : Nat} {zs : List Int} (h : Rr.IsRow .u8 w a len cap zs) : len ≤ maxLen := by
  rcases h with ⟨rfl, rfl, rfl, rfl⟩ | ⟨x, rfl, h1, h2, h3, hc, hw⟩
  · exact Nat.zero_le _
  · omega
set_option maxHeartbeats 400000 in
theorem walk_pictop (a1 : Option Addr) (len1 cap1 : Nat) (zs1 : List Int) (a2 : Option Addr) (len2 cap2 : Nat) (zs2 : List Int) (w : World) (h1 : Rr.IsRow .u8 w a1 len1 cap1 zs1) (h2 : Rr.IsRow .u8 w a2 len2 cap2 zs2) (_ : KT w) :
    Calls Tryz.prog 3 #[.slice a1 len1 cap1, .slice a2 len2 cap2] w fun e w' => e = .returned (.bool true) ∧ Below w.heap.size w w' := by
  have hm1 := row_len h1
  have hm2 := row_len h2
  unfold maxLen at hm1 hm2
  by_cases hl1 : len1 ≤ 1048576
  · have i1 : ¬ (1048576 : Int) < (len1 : Int) := by omega
    by_cases hl2 : len2 ≤ 1048576
    · obtain ⟨blk1, off1, z1, hc1⟩ := h1.code hl1
      obtain ⟨blk2, off2, z2, hc2⟩ := h2.code hl2
      exact law_pictop w hl1 hl2 (Rr.drawpm_r w hc1) (fun W b => (Rr.drawpr_r W (hc2.later b)).mono fun e w' h => Rr.drr_pr h)
    · have i2 : (1048576 : Int) < (len2 : Int) := by omega
      clear h1 h2
      go_enter Tryz.func3, Tryz.ntmps3
      go_wp2
      go_ret
      exact ⟨rfl, Below.refl _ _⟩
  · have i1 : (1048576 : Int) < (len1 : Int) := by omega
    clear h1 h2
    go_enter Tryz.func3, Tryz.ntmps3
    go_wp2
    go_ret
    exact ⟨rfl, Below.refl _ _⟩
end Go.Proofs.YtcihplachlokiaaGreatDoor
/- The law FnPicTop holds at every input, where the listed package-level variables start as the program's text lays them. -/
namespace Go.Proofs.YtcihplachlokiaaGreatDoor
open Go.ChangeShapes Go.WideShapes Go.ChangeAt Go.RowKit Go.Joins
open Go.ChangeMaps (open_string shut_string)
set_option linter.unusedVariables false

theorem fnPicTop_own : ownKnob Tryz.prog.godebug = none := by kernel_rfl
theorem fnPicTop_laidOut : laidOutB Tryz.prog = true := by kernel_rfl


set_option maxRecDepth 100000 in
theorem fnPicTop_lifted (os : Os) (started : os.Started) (H : Type) (enc : TypeId × Value → H) :
    ReturnsInHanded {} Tryz.checked os 3 .any (fun w args => (Rows.fnPicTopSpec.pre enc Tryz.prog Tryz.f3 [] false w args ∧ laidMetH Tryz.prog Rows.fnPicTopRow.laid w) ∧ sizedMet enc Tryz.prog Tryz.f3 (OpenSpec.ofChange Rows.fnPicTopSpec) false w args)
      (Rows.fnPicTopSpec.post enc Tryz.prog Tryz.f3 false true false false) := by
  refine returnsInHanded_of_change_and (C := Tryz.checked) (X := fun w _ => laidMetH Tryz.prog Rows.fnPicTopRow.laid w) (fun _ _ _ hh h => h.of_heap hh) fnPicTop_own started (by kernel_rfl) Tryz.func3
    (ChangeSpec.witness_shaped (enc := enc) (C := Tryz.checked) (os := os) (X := fun w _ => laidMetH Tryz.prog Rows.fnPicTopRow.laid w) false (World.laidAll Tryz.prog os Rows.fnPicTopRow.laid) #[.slice none 0 0, .slice none 0 0] 8 (World.laidAll_os _ _ _)
      (World.shaped_of_ZipB (by kernel_rfl) (by kernel_rfl)) (by kernel_rfl) (by kernel_rfl) (by kernel_rfl)
      (by rw [MakeChecks.laidMetH_plain _ _ _ (by kernel_rfl)]; exact laidMet_laidAll _ (by kernel_rfl) (by kernel_rfl))) ?_
  intro W base args ds gs before hval0 hW _ _ hL _
  have hval : ∀ (j : Nat) t v, Tryz.f3.params[j]? = some t → args[j]? = some v → Value.okWide Tryz.prog W .any base t v := hval0
  have hW' := hW
  obtain ⟨p, q, hA0, hV, rfl, hfz, hnd⟩ := hW
  have hA : DataW.TrodAll enc Tryz.prog W 0 (fun _ => true) true Tryz.f3.params.toList args.toList ds p := hA0
  rw [Tryz.params3] at hA hval
  obtain ⟨v0, vs0, d0, ds0, p0, q0, hargs, rfl, rfl, h0, r0⟩ := trodAll_cons hA
  obtain ⟨v1, vs1, d1, ds1, p1, q1, rfl, rfl, rfl, h1, r1⟩ := trodAll_cons r0
  obtain ⟨rfl, rfl, rfl⟩ := trodAll_nil r1
  obtain rfl : args = #[v0, v1] := by cases args; simp_all
  have hV2 := hV
  obtain ⟨_, _, _, _, gv0, _, rfl, _, _, _, _, _⟩ := trodVars_one hV
  rw [MakeChecks.laidMetH_plain _ _ _ (by kernel_rfl)] at hL
  have k0 := h0
  have lt0 : ∀ x ∈ p0, x.block < W.heap.size := by obtain ⟨m, hm⟩ := k0; exact DataW.trod_lt m _ _ _ hm
  obtain ⟨a0, len0, cap0, rfl⟩ := okWide_slice Tryz.underlying22 (hval 0 22 v0 rfl rfl)
  obtain ⟨z0, wa0⟩ : ∃ zs, Rr.IsRow .u8 W a0 len0 cap0 zs := by
    obtain ⟨fuel, hf⟩ := h0
    rcases open_ints Tryz.underlying22 Tryz.underlying5 (by kernel_rfl) hf with ⟨hcs, _⟩ | ⟨x, l, c, zs, hcs, _, hl, hm, hz, _, hcell, hwz⟩
    · simp [Value.cells] at hcs
      obtain ⟨rfl, rfl, rfl⟩ := hcs
      exact ⟨[], .inl ⟨rfl, rfl, rfl, rfl⟩⟩
    · simp [Value.cells] at hcs
      obtain ⟨rfl, rfl, rfl⟩ := hcs
      exact ⟨zs, .inr ⟨_, rfl, hl, hm, by simpa using hz, hcell, hwz⟩⟩
  have k1 := h1
  have lt1 : ∀ x ∈ p1, x.block < W.heap.size := by obtain ⟨m, hm⟩ := k1; exact DataW.trod_lt m _ _ _ hm
  obtain ⟨a1, len1, cap1, rfl⟩ := okWide_slice Tryz.underlying22 (hval 1 22 v1 rfl rfl)
  obtain ⟨z1, wa1⟩ : ∃ zs, Rr.IsRow .u8 W a1 len1 cap1 zs := by
    obtain ⟨fuel, hf⟩ := h1
    rcases open_ints Tryz.underlying22 Tryz.underlying5 (by kernel_rfl) hf with ⟨hcs, _⟩ | ⟨x, l, c, zs, hcs, _, hl, hm, hz, _, hcell, hwz⟩
    · simp [Value.cells] at hcs
      obtain ⟨rfl, rfl, rfl⟩ := hcs
      exact ⟨[], .inl ⟨rfl, rfl, rfl, rfl⟩⟩
    · simp [Value.cells] at hcs
      obtain ⟨rfl, rfl, rfl⟩ := hcs
      exact ⟨zs, .inr ⟨_, rfl, hl, hm, by simpa using hz, hcell, hwz⟩⟩
  clear hA0 hval0
  refine (walk_pictop a0 len0 cap0 z0 a1 len1 cap1 z1 W wa0 wa1 (kt_of_reads (Lib.laidMet.reads hL (.head _)))).mono fun e W' ⟨he, bel⟩ => ?_
  subst he
  exact ⟨_, rfl, _, _, _, [], _, _, hW', trodAll_mk1 (shut_bool Tryz.underlying4 _), (trodAll_cons_mk (Below.trod fnPicTop_laidOut (by kernel_rfl) (of_decide_eq_true (by kernel_rfl)) k0 bel lt0) (trodAll_cons_mk (Below.trod fnPicTop_laidOut (by kernel_rfl) (of_decide_eq_true (by kernel_rfl)) k1 bel lt1) trodAll_mk0)), Below.trodVars fnPicTop_laidOut bel (by kernel_rfl) hV2, bel.frame _, fun h => by cases h⟩

theorem fnPicTop_closed : joinedFacts Tryz.prog 3 Tryz.f3 Rows.fnPicTopSpec Rows.fnPicTopRow = true := by kernel_rfl
theorem fnPicTop_fname : Tryz.prog.funcNamed Rows.fnPicTopRow.func = some 3 := by kernel_rfl
theorem fnPicTop_inst : Tryz.f3.isInstance Tryz.prog Rows.fnPicTopRow.origin Rows.fnPicTopRow.targs := of_decide_eq_true (by kernel_rfl)
theorem fnPicTop_wrap : Tryz.f3.isWrapper Tryz.prog Rows.fnPicTopRow.wrapper Rows.fnPicTopRow.mainSum := by unfold Func.isWrapper; first | (rw [if_pos (by decide +kernel)]; kernel_rfl) | (rw [if_neg (by decide +kernel)]; exact ⟨rfl, rfl⟩)
theorem fnPicTop_said : Rows.FnPicTopSaid :=
  OpenClaim.holds_of_wide 3 Tryz.f3 rfl rfl rfl rfl rfl rfl rfl ⟨rfl, rfl, rfl, rfl, rfl⟩ rfl rfl rfl rfl rfl fnPicTop_fname Tryz.func3 fnPicTop_closed
    fnPicTop_inst fnPicTop_wrap
    (fun os started H enc _ => fnPicTop_lifted os started H enc)

theorem fnPicTop_holds : Rows.FnPicTopCardSaid :=
  Claim7.holds_tied_plain_at .later [] [.data] true (true, "ee6f934670003ec97cf6f46c5428232fa8771bbe0f9c858ef62ee26cdd05f9e0") true fnPicTop_said (fun _ h => by cases h) (by kernel_rfl) (fun _ h => by cases h) fnPicTop_row_tie rfl ⟨rfl, rfl⟩ (by kernel_rfl) rfl
    (fun f fn hf hfn => by
      obtain rfl : f = 3 := Option.some.inj ((show Tryz.prog.funcNamed "loop.example/stile/laws.FnPicTop" = some 3 by kernel_rfl).symm.trans hf) |>.symm
      obtain rfl : fn = Tryz.f3 := (Option.some.inj (Tryz.func3.symm.trans hfn)).symm
      exact ⟨by kernel_rfl, fun j t ht => by
        rw [Tryz.params3] at ht
        have hm : t ∈ [22, 22] := by simpa using Array.mem_of_getElem? ht
        have hall : ([22, 22].all fun u => !Tryz.prog.wantsStandIn u) = true := by kernel_rfl
        exact (show Tryz.prog.wantsStandIn t = false by simpa using List.all_eq_true.1 hall t hm)⟩)
    (by kernel_rfl)
#print axioms fnPicTop_holds
end Go.Proofs.YtcihplachlokiaaGreatDoor
