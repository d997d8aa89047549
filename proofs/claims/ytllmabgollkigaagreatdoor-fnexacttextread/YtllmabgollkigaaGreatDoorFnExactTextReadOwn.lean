/- The law FnExactTextRead holds at every input, where the listed package-level variables start as the program's text lays them. -/
import Derived.Test.YtllmabgollkigaaGreatDoorTmeM
import Derived.Test.YtllmabgollkigaaGreatDoorFnExactTextReadCl
import Derived.Test.YtllmabgollkigaaGreatDoorCards
import Derived.Test.YtllmabgollkigaaGreatDoorTie
import Derived.WalkKit
import Derived.ProofKit
import Derived.OpenShut
import Derived.ShutString
import Derived.ChangeOld
import Derived.ChangeVars
import Derived.Below
import Derived.OpenVars
import Derived.Lay
import Derived.LaidHandle
import Derived.SevenTiedAt
import Derived.Lib.SmallJoins
import Derived.Laws.Cover2
namespace Go.Proofs.YtllmabgollkigaaGreatDoor
open Go.ChangeShapes Go.WideShapes Go.ChangeAt Go.RowKit Go.Joins
open Go.ChangeMaps (open_string shut_string)
set_option linter.unusedVariables false
theorem fnExactTextRead_own:ownKnob Tryz.prog.godebug=none:=by kernel_rfl
theorem fnExactTextRead_laidOut:laidOutB Tryz.prog=true:=by kernel_rfl
theorem fnExactTextRead_plain : (Rows.fnExactTextReadRow.laid.filter fun x => x.2.handleName?.isNone) = [("math/bits.deBruijn32tab", Rows.laid_math_bits_deBruijn32tab), ("math/bits.deBruijn64tab", Rows.laid_math_bits_deBruijn64tab), ("internal/strconv.uint64pow10", Rows.laid_internal_strconv_uint64pow10), ("unicode/utf8.acceptRanges", Rows.laid_unicode_utf8_acceptRanges), ("loop.example/stile/impl.devKinds", Rows.laid_loop_example_stile_impl_devKinds), ("loop.example/stile/impl.devWords", Rows.laid_loop_example_stile_impl_devWords), ("unicode/utf8.first", Rows.laid_unicode_utf8_first)] := by kernel_rfl
theorem fnExactTextRead_one : (Rows.fnExactTextReadRow.laid.filter fun x => x.2.handleName?.isSome) = [("errors.errorType", Rows.laid_errors_errorType)] := by kernel_rfl
theorem fnExactTextRead_parts{W:World}(h:laidMetH Tryz.prog Rows.fnExactTextReadRow.laid W):laidMet Tryz.prog (Rows.fnExactTextReadRow.laid.filter fun x=>x.2.handleName?.isNone) W∧handlesMet Tryz.prog (Rows.fnExactTextReadRow.laid.filter fun x=>x.2.handleName?.isSome) W:=by
 unfold laidMetH at h
 rw [fnExactTextRead_one] at h ⊢
 exact h
set_option maxRecDepth 100000 in
theorem fnExactTextRead_lifted(os:Os)(started:os.Started)(H:Type)(enc:TypeId×Value→H) :
  ReturnsInHanded {} Tryz.checked os 6 .any (fun w args=>(Rows.fnExactTextReadSpec.pre enc Tryz.prog Tryz.f6 [] false w args∧laidMetH Tryz.prog Rows.fnExactTextReadRow.laid w)∧sizedMet enc Tryz.prog Tryz.f6 (OpenSpec.ofChange Rows.fnExactTextReadSpec) false w args)
   (Rows.fnExactTextReadSpec.post enc Tryz.prog Tryz.f6 false true false false):=by
 refine lift_shaped (C:=Tryz.checked) (X:=fun w _=>laidMetH Tryz.prog Rows.fnExactTextReadRow.laid w) (fun _ _ _ hh h=>h.of_heap hh) fnExactTextRead_own started (by kernel_rfl) Tryz.func6
  (ChangeSpec.witness_shaped (enc:=enc) (C:=Tryz.checked) (os:=os) (X:=fun w _=>laidMetH Tryz.prog Rows.fnExactTextReadRow.laid w) false (zby os (Rows.fnExactTextReadRow.laid.filter fun x=>x.2.handleName?.isNone)) #[.string ⟨#[]⟩] 8 (zie _ _)
   (World.shaped_of_ZipB (by kernel_rfl) (by kernel_rfl)) (by kernel_rfl) (by kernel_rfl) (by kernel_rfl)
   (zhw _ (by kernel_rfl) (by kernel_rfl) (by kernel_rfl))) ?_
 intro W base args ds gs before hval0 hW hshape hLL
 have hval:∀(j:Nat) t v,Tryz.f6.params[j]?=some t→args[j]?=some v→Value.okWide Tryz.prog W .any base t v:=hval0
 have hW':=hW
 obtain ⟨p,q,hA0,hV,rfl,hfz,hnd⟩:=hW
 have hA:DataW.TrodAll enc Tryz.prog W 0 (fun _=>true) true Tryz.f6.params.toList args.toList ds p:=hA0
 rw [Tryz.params6] at hA hval
 obtain ⟨v0,vs0,d0,ds0,p0,q0,hargs,rfl,rfl,h0,r0⟩:=trodAll_cons hA
 obtain ⟨rfl,rfl,rfl⟩:=trodAll_nil r0
 obtain rfl:args=#[v0]:=by cases args;simp_all
 have hV2:=hV
 obtain ⟨_,_,_,_,gv0,_,_,_,_,_,gv1,_,rfl,_,_,_,_,_,_,_,_,_⟩:=trodVars_two hV
 have hLB:laidMet Tryz.prog (Rows.fnExactTextReadRow.laid.filter fun x=>x.2.handleName?.isNone) W∧handlesMet Tryz.prog (Rows.fnExactTextReadRow.laid.filter fun x=>x.2.handleName?.isSome) W:=fnExactTextRead_parts hLL
 have hL:=hLB.1
 have eh:EH W:=eh_of_laid (fnExactTextRead_one ▸ hLB.2)
 rw [fnExactTextRead_plain] at hL
 have k0:=h0
 have lt0:∀x∈p0,x.block<W.heap.size:=by obtain ⟨m,hm⟩:=k0;exact DataW.trod_lt m _ _ _ hm
 obtain ⟨a0,rfl,ed0,ep0,wa0⟩:=open_string Tryz.underlying9 (hval 0 9 v0 rfl rfl) h0
 clear hA0 hval0
 refine (walk_tread a0 W wa0 (kt_of_reads (Lib.laidMet.reads hL (.tail _ (.tail _ (.tail _ (.tail _ (.head _))))))) (pt_of_reads (Lib.laidMet.reads hL (.tail _ (.tail _ (.head _))))) (wt_of_reads (Lib.laidMet.reads hL (.tail _ (.tail _ (.tail _ (.tail _ (.tail _ (.head _)))))))) (ml_of_shape hshape) eh).mono fun e W' ⟨he,bel⟩=>?_
 subst he
 exact ⟨_,rfl,_,_,_,[],_,_,hW',trodAll_mk1 (shut_bool Tryz.underlying4 _),(trodAll_cons_mk (Below.trod fnExactTextRead_laidOut (by kernel_rfl) (of_decide_eq_true (by kernel_rfl)) k0 bel lt0) trodAll_mk0),Below.trodVars fnExactTextRead_laidOut bel (by kernel_rfl) hV2,bel.frame _,fun h=>by cases h⟩
theorem fnExactTextRead_said:Rows.FnExactTextReadSaid :=
 OpenClaim.holds_of_wide 6 Tryz.f6 rfl rfl rfl rfl rfl rfl rfl ⟨rfl,rfl,rfl,rfl,rfl⟩ rfl rfl rfl rfl rfl fnExactTextRead_fname Tryz.func6 fnExactTextRead_closed
  fnExactTextRead_inst fnExactTextRead_wrap
  (fun os started H enc _=>fnExactTextRead_lifted os started H enc)
theorem fnExactTextRead_holds:Rows.FnExactTextReadCardSaid :=
 Claim7.holds_tied_plain_at .later [] [.data, .data, .data, .data, .handle, .data, .data, .pinned] true (true, "973d7a88ab37083bb7a80113b36704775d8a9da0f39472cc67cd6f2ee457d48e") true fnExactTextRead_said (fun _ h => by cases h) (by kernel_rfl) (fun _ h => by cases h) fnExactTextRead_row_tie rfl ⟨rfl, rfl⟩ (by kernel_rfl) rfl
  (fun f fn hf hfn=>by
   obtain rfl : f = 6 := Option.some.inj ((show Tryz.prog.funcNamed "loop.example/stile/laws.FnExactTextRead" = some 6 by kernel_rfl).symm.trans hf) |>.symm
   obtain rfl:fn=Tryz.f6:=(Option.some.inj (Tryz.func6.symm.trans hfn)).symm
   exact ⟨by kernel_rfl,fun j t ht=>by
    rw [Tryz.params6] at ht
    have hm:t∈[9]:=by simpa using Array.mem_of_getElem? ht
    have hall:([9].all fun u=>!Tryz.prog.wantsStandIn u)=true:=by kernel_rfl
    exact (show Tryz.prog.wantsStandIn t=false by simpa using List.all_eq_true.1 hall t hm)⟩)
  (by kernel_rfl)
#print axioms fnExactTextRead_holds
end Go.Proofs.YtllmabgollkigaaGreatDoor
