/- An arm of the specification's reader: the walk. -/
import Derived.Test.YtllmabgollkigaaGreatDoorWsM
import Derived.Deep.RegionLaw
import Derived.Test.YtllmabgollkigaaGreatDoorWuM
import Derived.Deep.DeepCutAuto
import Derived.Lib.QuietBelow
namespace Go.Proofs.YtllmabgollkigaaGreatDoor
open Go.RowKit
set_option linter.unusedVariables false
theorem sign_iff{L:List ByteArray}{k:Nat}:((wAt L k).data.toList=[45,62] ↔ kAt L k=5)∧((wAt L k).data.toList=[91] ↔ kAt L k=6)∧((wAt L k).data.toList=[124] ↔ kAt L k=7)∧((wAt L k).data.toList=[93] ↔ kAt L k=8):=by
 unfold kAt
 by_cases hk:k<L.length
 ·rw [if_pos hk]
  refine ⟨⟨fun h=>by rw [h];rfl,fun h=>?_⟩,⟨fun h=>by rw [h];rfl,kOf_inv.1⟩,⟨fun h=>by rw [h];rfl,kOf_inv.2.1⟩,⟨fun h=>by rw [h];rfl,kOf_inv.2.2⟩⟩
  unfold kOf at h
  repeat (split at h;· first|assumption|simp at h)
  simp at h
 ·have hz:wAt L k=⟨#[]⟩:=by unfold wAt;rw [List.getElem?_eq_none (by omega)];rfl
  rw [if_neg hk,hz]
  simp
def HeadS(W:World)(pb g cap:Nat)(L:List ByteArray)(n k:Nat)(wc:World):Prop :=
 ∃(net:NetT)(k1:Nat)(F1:List Nat)(x y:Int)(p:Option Addr)(pl pc:Nat)(r:Option Addr)(rl rc:Nat),SA W pb g cap L n k1 x y p pl pc r rl rc none 0 0 none 0 0 wc net [] [] F1 [] []∧k<k1∧zba L n k=some (net,k1)
theorem sarm_none{L:List ByteArray}{n k:Nat}(h:zba L n k=none):zbj L (n+1) k=none:=by rw [zbj,h];rfl
def Bks(W:World)(pb g cap:Nat)(L:List ByteArray)(k:Nat)(w:World):Prop:=Bk w W.heap.size armZ 56∧Bk w (W.heap.size+1) armZ 56∧InS w pb g cap L k false∧W.grownBy w (some pb)
def CoilS(W:World)(pb g cap:Nat)(L:List ByteArray)(n:Nat)(x y:Int)(p:Option Addr)(pl pc:Nat)(r:Option Addr)(rl rc:Nat)(net:NetT)(F1:List Nat)(k1 gk:Nat)(wr:World):Prop :=
 ∃(k':Nat)(ts:List ElemT)(F2:List Nat)(s:Option Addr)(sl sc:Nat),SA W pb g cap L n k' x y p pl pc r rl rc s sl sc none 0 0 wr net ts [] F1 F2 []∧k1≤k'∧ts.length≤k'∧L.length-k'<gk∧zaq L n k1=(zaq L gk k').map fun u=>(ts++u.1,u.2)
theorem stopS_sign{L:List ByteArray}{k:Nat}(h:k<L.length):zcw L k=(decide (kAt L k=6)||(decide (kAt L k=7)||decide (kAt L k=8))):=by unfold zcw;simp [h]
set_option maxRecDepth 10000 in
set_option maxHeartbeats 8000000 in
theorem sarm_d(W:World)(pb g cap:Nat)(L:List ByteArray)(n k:Nat)(h:InS W pb g cap L k false)(hgl:g<W.heap.size)(hs:∀x∈L,x.size≤1048576)(hn:2*(L.length-k)+1<n+1)
  (HA:Hid (∀W' k m,m<n→InS W' pb g cap L k false→g<W'.heap.size→2*(L.length-k)+1<m→Calls Tryz.prog 45 #[.pointer (some ⟨pb,0,none⟩)] W' fun e w'=>SArm W' pb g cap L m k e w')) :
  Calls Tryz.prog 45 #[.pointer (some ⟨pb,0,none⟩)] W fun e w'=>SArm W pb g cap L (n+1) k e w':=by
 have hpl:=h.lt
 have hl4:=h.2.2.2
 have HH0:Hid (Bks W pb g cap L k ((W.alloc (.cells armZ 56)).alloc (.cells armZ 56))):=by
  refine ⟨(Bk.fresh W armZ 56).move (World.grownBy_alloc _ _ none) (by simp),?_,(h.move (World.grownBy_alloc W _ none) (by simp) (by simp)).move (World.grownBy_alloc _ _ none) (by simp) (by simp),(World.grownBy_alloc W _ _).trans (World.grownBy_alloc _ _ _)⟩
  have:=Bk.fresh (W.alloc (.cells armZ 56)) armZ 56
  simpa using this
 have HN:Hid (∀W' k,InS W' pb g cap L k false→g<W'.heap.size→2*(L.length-k)<n→Calls Tryz.prog 79 #[.pointer (some ⟨pb,0,none⟩)] W' fun e w'=>SNet W' pb g cap L n k e w'):=fun W' k' h1 h2 h3=>snet_i hs n W' k' h1 h2 h3
 clear h
 go_enter Tryz.func45,Tryz.ntmps45
 go_wp2_with fail
 refine (zdn _ pb g cap k L false ⟨#[45,62]⟩ HH0.out.2.2.1 (by rw [Lib.toList_data];simp)).mono ?_
 intro e w1 hT
 unfold TkS at hT
 obtain ⟨rfl,hI1,hG1⟩:=hT
 rw [Lib.toList_data,Lib.toList_data] at hI1
 have heq:((wAt L k).toList==(⟨#[45,62]⟩:ByteArray).toList)=decide (kAt L k=5):=by
  rw [Lib.toList_data,Lib.toList_data,Bool.eq_iff_iff,beq_iff_eq,decide_eq_true_iff]
  exact sign_iff.1
 obtain ⟨B,HB⟩:∃B,Hid (B=decide (kAt L k=5)):=⟨_,rfl⟩
 rw [heq,←HB.out]
 have H1:Hid (Bk w1 W.heap.size armZ 56∧Bk w1 (W.heap.size+1) armZ 56∧InS w1 pb g cap L (if kAt L k=5 then k+1 else k) false∧W.grownBy w1 (some pb)):=by
  refine ⟨HH0.out.1.move hG1 (by simp;omega),HH0.out.2.1.move hG1 (by simp;omega),?_,HH0.out.2.2.2.trans hG1⟩
  by_cases h5:kAt L k=5
  ·rw [if_pos h5];rw [if_pos (sign_iff.1.2 h5)] at hI1;exact hI1
  ·rw [if_neg h5];rw [if_neg (fun e=>h5 (sign_iff.1.1 e))] at hI1;exact hI1
 clear heq hI1 hG1 HH0
 go_upto_if 9 with fail
 go_cut [3] (fun v wc=>v=.pointer (some ⟨W.heap.size+1,0,none⟩)∧Hid (HeadS W pb g cap L n k wc))
 case first =>
  as_aux_lemma =>
   have hs1:W.heap.size+1<w1.heap.size:=H1.out.2.1.lt
   cases B with
   | true =>
    have h5:kAt L k=5:=of_decide_eq_true HB.out.symm
    have HF:Hid (HeadS W pb g cap L n k w1):=by
     obtain ⟨m,rfl⟩:∃m,n=m+1:=⟨n-1,by omega⟩
     have hI:=H1.out.2.2.1
     rw [if_pos h5] at hI
     refine ⟨noNet,k+1,[],0,0,none,0,0,none,0,0,⟨H1.out.1,H1.out.2.1,⟨_,_,[],[],rfl,rfl,zcr _ _,RowOwn.nil _ _ _ _ _⟩,RowOwn.nil _ _ _ _ _,RowOwn.nil _ _ _ _ _,by simp,hI,H1.out.2.2.2⟩,by omega,?_⟩
     unfold zba
     rw [if_pos h5]
    clear h5 H1 HB
    go_wp2
    go_meet
    case rel=>exact ⟨rfl,HF⟩
   | false =>
    have h5:kAt L k≠5:=of_decide_eq_false HB.out.symm
    have HI1:Hid (InS w1 pb g cap L k false):=by have:=H1.out.2.2.1;rw [if_neg h5] at this;exact this
    have H5:Hid (kAt L k≠5):=h5
    clear h5 HB
    go_wp2_with fail
    refine (HN.out w1 k HI1.out (by omega) (by omega)).mono ?_
    intro e w2 hNR
    obtain ⟨bad,k',t,F,x,y,p,pl,pc,r,rl,rc,rfl,hI2,hG2,hgood,hbad⟩:=zgr hNR
    have hs2:=hG2.size
    have B1:=H1.out.1.move hG2 (by simp;omega)
    have B3:=H1.out.2.1.move hG2 (by simp;omega)
    obtain ⟨z0,z1,z2,z3,z4,z5⟩:=B3.six
    obtain ⟨f0,f1,f2,f3,f4,f5⟩:=B3.frees
    obtain ⟨w3,HW3⟩:∃w,Hid (w=W4 w2 (W.heap.size+1) (.int .i64 x) (.int .i64 y) (.slice p pl pc) (.slice r rl rc)):=⟨_,rfl⟩
    have G4:w2.grownBy w3 (some (W.heap.size+1)):=by rw [HW3.out];exact W4.grown w2 (W.heap.size+1) _ _ _ _
    have I3:InS w3 pb g cap L k' bad:=hI2.move G4 (by simp;omega) (by simp;omega)
    have B13:Bk w3 W.heap.size armZ 56:=B1.move G4 (by simp)
    have B33:Bk w3 (W.heap.size+1) #[.int .i64 x,.int .i64 y,.slice p pl pc,.slice r rl rc,.slice none 0 0,.slice none 0 0] 56:=by
     rw [HW3.out]
     exact (((B3.set 0 (.int .i64 x)).set 1 (.int .i64 y)).set 2 (.slice p pl pc)).set 3 (.slice r rl rc)
    have hG3:W.grownBy w3 (some pb):=(H1.out.2.2.2.trans hG2).andThen G4 (fun j hj=>.inl (by simp at hj;omega))
    have HBad:Hid (∀(w':World)(k2:Nat),InS w' pb g cap L k2 true→W.grownBy w' (some pb)→Bk w' W.heap.size armZ 56→zba L n k=none→SArm W pb g cap L (n+1) k (.returned (.agg armZ)) (S6 w' W.heap.size (.int .i64 0) (.int .i64 0) (.slice none 0 0) (.slice none 0 0) (.slice none 0 0) (.slice none 0 0))∧Bk (S6 w' W.heap.size (.int .i64 0) (.int .i64 0) (.slice none 0 0) (.slice none 0 0) (.slice none 0 0) (.slice none 0 0)) W.heap.size armZ 56):=fun w' k2 h1 h2 h3 h4=>⟨sarm_bad h1 h2 (sarm_none h4) hpl hgl,h3.put6 _ _ _ _ _ _⟩
    have HS3:Hid ((storeVar 53 ⟨W.heap.size+1,0,none⟩ (.agg #[.int .i64 x,.int .i64 y,.slice p pl pc,.slice r rl rc])).run Tryz.prog w2=.ok () w3):=by
     rw [HW3.out]
     exact run_storeVar_mid w2 (W.heap.size+1) 0 53 #[.int .i64 x,.int .i64 y,.slice p pl pc,.slice r rl rc] (fun i hi=>by
      rw [Nat.zero_add]
      exact ⟨by rw [B3.cell];match i,hi with|0,_=>rfl|1,_=>rfl|2,_=>rfl|3,_=>rfl,B3.free i⟩) (by kernel_rfl) (by simp [Value.oneCell'])
    have HS5:Hid (∀w',Bk w' W.heap.size armZ 56→(storeVar 56 ⟨W.heap.size,0,none⟩ (.agg armZ)).run Tryz.prog w'=.ok () (S6 w' W.heap.size (.int .i64 0) (.int .i64 0) (.slice none 0 0) (.slice none 0 0) (.slice none 0 0) (.slice none 0 0))):=fun w' hb =>
     run_storeVar_mid w' W.heap.size 0 56 armZ (fun i hi=>by
      rw [Nat.zero_add]
      exact ⟨by rw [hb.cell];match i,hi with|0,_=>rfl|1,_=>rfl|2,_=>rfl|3,_=>rfl|4,_=>rfl|5,_=>rfl,hb.free i⟩) (by kernel_rfl) (by simp [Value.oneCell'])
    obtain ⟨c0,c1,c2⟩:=I3.cells
    have fz:=I3.free 2
    clear z0 z1 z2 z3 z4 z5 f0 f1 f2 f3 f4 f5 HW3
    cases bad with
    | true =>
     have hrd:zba L n k=none:=by unfold zba;rw [if_neg H5.out,hbad rfl];rfl
     have B1s:=B13.move (zab w3 pb 2 (.bool true)) (by simp;omega)
     obtain ⟨hF,hK⟩:=HBad.out (w3.setCell ⟨pb,2,none⟩ (.bool true)) k' I3.spoil (hG3.andThen (row':=some pb) (zab _ pb 2 _) (fun j hj=>.inr hj)) B1s hrd
     have hS5:=HS5.out _ B1s
     obtain ⟨w5,HW5⟩:∃w,Hid (w=S6 (w3.setCell ⟨pb,2,none⟩ (.bool true)) W.heap.size (.int .i64 0) (.int .i64 0) (.slice none 0 0) (.slice none 0 0) (.slice none 0 0) (.slice none 0 0)):=⟨_,rfl⟩
     rw [←HW5.out] at hF hK hS5
     have HSz:Hid ((storeVar 56 ⟨W.heap.size,0,none⟩ (.agg armZ)).run Tryz.prog (w3.setCell ⟨pb,2,none⟩ (.bool true))=.ok () w5):=hS5
     obtain ⟨q0,q1,q2,q3,q4,q5⟩:=hK.six
     have HF:Hid (SArm W pb g cap L (n+1) k (.returned (.agg armZ)) w5):=hF
     clear hF hK B1s HBad G4 I3 B13 B33 hG3 B1 B3 hI2 hG2 hgood hbad hNR H1 HI1 H5 HW5 hS5 HS5 hrd
     go_wp2_with (first|(refine zaj rfl 53 _ _ rfl _ _ rfl _ rfl _ HS3.out ?_)|(refine zaj rfl 56 _ _ rfl _ _ rfl _ rfl _ HSz.out ?_)|fail)
     exact bodyPost_ret (v:=.agg armZ) (by simp [results,Tryz.results45,go_sem,q0,q1,q2,q3,q4,q5]) rfl HF.out
    | false =>
     obtain ⟨hrd,hkk,hO,hFn⟩:=hgood rfl
     have HB3:Hid (Bk w3 W.heap.size armZ 56∧Bk w3 (W.heap.size+1) #[.int .i64 x,.int .i64 y,.slice p pl pc,.slice r rl rc,.slice none 0 0,.slice none 0 0] 56∧InS w3 pb g cap L k' false∧W.grownBy w3 (some pb)∧NetOwn w3 (W.heap.size+2) n F t [.int .i64 x,.int .i64 y,.slice p pl pc,.slice r rl rc]∧F.Nodup∧k<k'∧zav L n k=some (t,k')):=by
      have hlt:=NetOwn.lt n _ _ _ hO
      refine ⟨B13,B33,I3,hG3,?_,hFn,hkk,hrd⟩
      exact NetOwn.move G4 n n (Nat.le_refl _) _ _ _ (fun b hb=>by have:=hlt b hb;simp;omega) (NetOwn.base (by omega) n _ _ _ hO)
     have hs3:=G4.size
     clear G4 I3 B13 B33 hG3 B1 B3 hI2 hG2 hgood hbad hNR H1 HI1 hrd hkk hO hFn
     go_wp2_with (first|(refine zaj rfl 53 _ _ rfl _ _ rfl _ rfl _ HS3.out ?_)|fail)
     refine (zdn _ pb g cap k' L false ⟨#[45,62]⟩ HB3.out.2.2.1 (by rw [Lib.toList_data];simp)).mono ?_
     intro e w4 hT
     unfold TkS at hT
     obtain ⟨rfl,hI4,hG4⟩:=hT
     rw [Lib.toList_data,Lib.toList_data] at hI4
     have heq:((wAt L k').toList==(⟨#[45,62]⟩:ByteArray).toList)=decide (kAt L k'=5):=by
      rw [Lib.toList_data,Lib.toList_data,Bool.eq_iff_iff,beq_iff_eq,decide_eq_true_iff]
      exact sign_iff.1
     rw [heq]
     have hs4:=hG4.size
     by_cases h5:kAt L k'=5
     ·rw [if_pos (sign_iff.1.2 h5)] at hI4
      have d5:decide (kAt L k'=5)=true:=by simp [h5]
      have HF:Hid (HeadS W pb g cap L n k w4):=by
       obtain ⟨b1,b3,_,hG,hO,hFn,hkk,hrd⟩:=HB3.out
       have hlt:=NetOwn.lt n _ _ _ hO
       refine ⟨t,k'+1,F,x,y,p,pl,pc,r,rl,rc,⟨b1.move hG4 (by simp;omega),b3.move hG4 (by simp;omega),NetOwn.move hG4 n n (Nat.le_refl _) _ _ _ (fun b hb=>by have:=hlt b hb;simp;omega) hO,RowOwn.nil _ _ _ _ _,RowOwn.nil _ _ _ _ _,by simpa using hFn,hI4,hG.trans hG4⟩,by omega,?_⟩
       unfold zba
       rw [if_neg H5.out,hrd,Option.bind_some,if_pos h5]
      rw [d5]
      clear HB3 hI4 hG4 heq d5 h5 H5 HBad HS5 HS3 c0 c1 c2 fz
      go_wp2
      go_meet
      case rel=>exact ⟨rfl,HF⟩
     ·rw [if_neg (fun e=>h5 (sign_iff.1.1 e))] at hI4
      have d5:decide (kAt L k'=5)=false:=by simp [h5]
      have hrd:zba L n k=none:=by unfold zba;rw [if_neg H5.out,HB3.out.2.2.2.2.2.2.2,Option.bind_some,if_neg h5]
      have B14:=HB3.out.1.move hG4 (by simp;omega)
      have B1s:=B14.move (zab w4 pb 2 (.bool true)) (by simp;omega)
      obtain ⟨hF,hK⟩:=HBad.out (w4.setCell ⟨pb,2,none⟩ (.bool true)) k' hI4.spoil ((HB3.out.2.2.2.1.trans hG4).andThen (row':=some pb) (zab _ pb 2 _) (fun j hj=>.inr hj)) B1s hrd
      have hS5:=HS5.out _ B1s
      obtain ⟨w5,HW5⟩:∃w,Hid (w=S6 (w4.setCell ⟨pb,2,none⟩ (.bool true)) W.heap.size (.int .i64 0) (.int .i64 0) (.slice none 0 0) (.slice none 0 0) (.slice none 0 0) (.slice none 0 0)):=⟨_,rfl⟩
      rw [←HW5.out] at hF hK hS5
      have HSz:Hid ((storeVar 56 ⟨W.heap.size,0,none⟩ (.agg armZ)).run Tryz.prog (w4.setCell ⟨pb,2,none⟩ (.bool true))=.ok () w5):=hS5
      obtain ⟨q0,q1,q2,q3,q4,q5⟩:=hK.six
      have HF:Hid (SArm W pb g cap L (n+1) k (.returned (.agg armZ)) w5):=hF
      obtain ⟨e0,e1,e2⟩:=hI4.cells
      have fz4:=hI4.free 2
      rw [d5]
      clear hF hK B1s B14 HBad HW5 hS5 HS5 hrd HB3 hI4 hG4 heq d5 h5 H5 HS3 c0 c1 c2 fz
      go_wp2_with (first|(refine zaj rfl 56 _ _ rfl _ _ rfl _ rfl _ HSz.out ?_)|fail)
      exact bodyPost_ret (v:=.agg armZ) (by simp [results,Tryz.results45,go_sem,q0,q1,q2,q3,q4,q5]) rfl HF.out
 case rest =>
 obtain ⟨hv,hHd⟩:=hcut
 subst hv
 obtain ⟨net,k1,F1,x,y,p,pl,pc,r,rl,rc,hA0,hk1,hhd⟩:=hHd.out
 have HHd:Hid (zba L n k=some (net,k1)):=hhd
 have HC0:Hid (CoilS W pb g cap L n x y p pl pc r rl rc net F1 k1 n wc):=⟨k1,[],[],none,0,0,hA0,Nat.le_refl _,by simp,by omega,by cases zaq L n k1<;>simp⟩
 have HBad:Hid (∀(w':World)(k2:Nat),InS w' pb g cap L k2 true→W.grownBy w' (some pb)→Bk w' W.heap.size armZ 56→zbj L (n+1) k=none→SArm W pb g cap L (n+1) k (.returned (.agg armZ)) (S6 w' W.heap.size (.int .i64 0) (.int .i64 0) (.slice none 0 0) (.slice none 0 0) (.slice none 0 0) (.slice none 0 0))∧Bk (S6 w' W.heap.size (.int .i64 0) (.int .i64 0) (.slice none 0 0) (.slice none 0 0) (.slice none 0 0) (.slice none 0 0)) W.heap.size armZ 56):=fun w' k2 h1 h2 h3 h4=>⟨sarm_bad h1 h2 h4 hpl hgl,h3.put6 _ _ _ _ _ _⟩
 have HS5:Hid (∀w',Bk w' W.heap.size armZ 56→(storeVar 56 ⟨W.heap.size,0,none⟩ (.agg armZ)).run Tryz.prog w'=.ok () (S6 w' W.heap.size (.int .i64 0) (.int .i64 0) (.slice none 0 0) (.slice none 0 0) (.slice none 0 0) (.slice none 0 0))):=fun w' hb =>
  run_storeVar_mid w' W.heap.size 0 56 armZ (fun i hi=>by
   rw [Nat.zero_add]
   exact ⟨by rw [hb.cell];match i,hi with|0,_=>rfl|1,_=>rfl|2,_=>rfl|3,_=>rfl|4,_=>rfl|5,_=>rfl,hb.free i⟩) (by kernel_rfl) (by simp [Value.oneCell'])
 have hinfo:(Tryz.prog.info? 50).map (fun i=>(i.zero,i.size,i.bytes))=some (some (.agg #[.int .i64 0,.slice none 0 0]),2,32):=by kernel_rfl
 obtain ⟨i0,hi,hzz⟩:=Option.map_eq_some_iff.1 hinfo
 simp only [Prod.mk.injEq] at hzz
 obtain ⟨hz0,hz1,hz2⟩:=hzz
 have HI:Hid (Tryz.prog.info? 50=some i0∧i0.zero=some (.agg #[.int .i64 0,.slice none 0 0])∧i0.size=2∧i0.bytes=32):=⟨hi,hz0,hz1,hz2⟩
 clear hi hz0 hz1 hz2 hinfo hA0 hhd hHd H1 HN HB
 go_wp2_with fail
 go_loopg [] n (fun gk wr=>Hid (CoilS W pb g cap L n x y p pl pc r rl rc net F1 k1 gk wr))
 case atStart=>exact HC0
 case round =>
  clear HC0
  obtain ⟨k',ts,F2,s,sl,sc,hA,hkk,htl,hfu,hans⟩:=hrel.out
  have HSA:Hid (SA W pb g cap L n k' x y p pl pc r rl rc s sl sc none 0 0 wr net ts [] F1 F2 []):=hA
  have HAns:Hid (zaq L n k1=(zaq L gk k').map fun u=>(ts++u.1,u.2)):=hans
  have hpr:pb<wr.heap.size:=hA.rd.lt
  have HFr:Hid (∀b'∈F1++F2,b'<wr.heap.size):=fun b' hb'=>by
   rcases List.mem_append.1 hb' with h|h
   ·exact (hA.lt1 b' h).2
   ·exact (hA.lt2 b' h).2
  have hkL:k'≤4194304+1∨True:=.inr trivial
  have hrs:=hA.grown.size
  have hb3l:=hA.b3.lt
  have cWd:∀d os,Calls Tryz.prog 80 #[.pointer (some ⟨pb,0,none⟩)] (Sort.grow (redrawn wr d) os) fun e w''=>e=.returned (.string (wAt L k'))∧∃p:Regrown,w''=Sort.grow (redrawn wr p.d) p.os:=fun d os=>by
   have hb:=below_regrown wr d os
   refine Calls.regrown_of ((zdx _ pb g cap k' L false (hA.rd.move (zad hb none) (by simp) (by simp))).mono ?_)
   rintro e w' ⟨h1,nd,h2⟩
   subst h2
   exact ⟨h1,⟨rfl,rfl,rfl,Nat.le_refl _,fun _ _=>rfl⟩⟩
  obtain ⟨c0,c1,c2⟩:=hA.rd.cells
  have m0:∀d os,(Sort.grow (redrawn wr d) os).cell? ⟨pb,0,none⟩=some (.slice (some ⟨g,0,none⟩) L.length cap):=fun d os=>(Keeps.of_below (below_regrown wr d os) 0) _ _ _ (Nat.zero_le _) c0
  have m1:∀d os,(Sort.grow (redrawn wr d) os).cell? ⟨pb,1,none⟩=some (.int .i64 k'):=fun d os=>(Keeps.of_below (below_regrown wr d os) 0) _ _ _ (Nat.zero_le _) c1
  have m2:∀d os,(Sort.grow (redrawn wr d) os).cell? ⟨pb,2,none⟩=some (.bool false):=fun d os=>(Keeps.of_below (below_regrown wr d os) 0) _ _ _ (Nat.zero_le _) c2
  clear hA hans hrel c0 c1 c2
  go_upto_region 7 with fail
  go_cut [57] from 26 to 88 (fun v wc=>v=.bool (!zcw L k')∧Hid (Below wr.heap.size wr wc))
  case first =>
   as_aux_lemma =>
    clear HSA HAns HBad HS5 HI HHd HA
    by_cases hkl:k'<L.length
    ·have i1:(k':Int)<(L.length:Int):=by omega
     have hst:=stopS_sign hkl
     have t6:((wAt L k').toList==[91])=decide (kAt L k'=6):=by rw [Lib.toList_data,Bool.eq_iff_iff,beq_iff_eq,decide_eq_true_iff];exact sign_iff.2.1
     have t8:((wAt L k').toList==[93])=decide (kAt L k'=8):=by rw [Lib.toList_data,Bool.eq_iff_iff,beq_iff_eq,decide_eq_true_iff];exact sign_iff.2.2.2
     have t7:((wAt L k').toList==[124])=decide (kAt L k'=7):=by rw [Lib.toList_data,Bool.eq_iff_iff,beq_iff_eq,decide_eq_true_iff];exact sign_iff.2.2.1
     obtain ⟨x6,H6⟩:∃q,Hid (q=decide (kAt L k'=6)):=⟨_,rfl⟩
     obtain ⟨x7,H7⟩:∃q,Hid (q=decide (kAt L k'=7)):=⟨_,rfl⟩
     obtain ⟨x8,H8⟩:∃q,Hid (q=decide (kAt L k'=8)):=⟨_,rfl⟩
     rw [←H6.out] at t6 hst
     rw [←H7.out] at t7 hst
     rw [←H8.out] at t8 hst
     have HSt:Hid (zcw L k'=(x6||(x7||x8))):=hst
     have n6:((wAt L k').toList != [91])=!x6:=by rw [bne,t6]
     have n7:((wAt L k').toList != [124])=!x7:=by rw [bne,t7]
     have n8:((wAt L k').toList != [93])=!x8:=by rw [bne,t8]
     clear hst hkl H6 H7 H8
     cases x6 with
     | true =>
      refine wp_region_quiet_below (by kernel_rfl) (by kernel_rfl) ?_
      repeat go_big_quiet_step (first|with_reducible exact cWd _ _)
      refine wpQuiet_nil ?_
      intro w7 hw'
      have g7:Hid (Below wr.heap.size wr w7):=by
       obtain ⟨⟨dq,osq⟩,rfl⟩:=hw'
       exact below_regrown wr dq osq
      go_wp2_with fail
      go_meet
      exact ⟨by rw [HSt.out];rfl,g7⟩
     | false =>
     cases x8 with
     | true =>
      refine wp_region_quiet_below (by kernel_rfl) (by kernel_rfl) ?_
      repeat go_big_quiet_step (first|with_reducible exact cWd _ _)
      refine wpQuiet_nil ?_
      intro w7 hw'
      have g7:Hid (Below wr.heap.size wr w7):=by
       obtain ⟨⟨dq,osq⟩,rfl⟩:=hw'
       exact below_regrown wr dq osq
      go_wp2_with fail
      go_meet
      exact ⟨by rw [HSt.out];cases x7<;>rfl,g7⟩
     | false =>
      refine wp_region_quiet_below (by kernel_rfl) (by kernel_rfl) ?_
      repeat go_big_quiet_step (first|with_reducible exact cWd _ _)
      refine wpQuiet_nil ?_
      intro w7 hw'
      have g7:Hid (Below wr.heap.size wr w7):=by
       obtain ⟨⟨dq,osq⟩,rfl⟩:=hw'
       exact below_regrown wr dq osq
      go_wp2_with fail
      go_meet
      exact ⟨by rw [HSt.out];cases x7<;>rfl,g7⟩
    ·have i1:¬(k':Int)<(L.length:Int):=by omega
     have HSt:Hid (zcw L k'=true):=by show zcw L k'=true;unfold zcw;simp [hkl]
     clear hkl
     refine wp_region_quiet_below (by kernel_rfl) (by kernel_rfl) ?_
     repeat go_big_quiet_step (first|with_reducible exact cWd _ _)
     refine wpQuiet_nil ?_
     intro w7 hw'
     have g7:Hid (Below wr.heap.size wr w7):=by
      obtain ⟨⟨dq,osq⟩,rfl⟩:=hw'
      exact below_regrown wr dq osq
     go_wp2_with fail
     go_meet
     exact ⟨by rw [HSt.out];rfl,g7⟩
  case rest =>
  obtain ⟨hv,hG5⟩:=hcut
  subst hv
  obtain ⟨w5,ew⟩:∃W,W=wc:=⟨_,rfl⟩
  subst ew
  have HS5a:Hid (SA W pb g cap L n k' x y p pl pc r rl rc s sl sc none 0 0 w5 net ts [] F1 F2 []):=HSA.out.other (zad hG5.out none) (fun j hj=>by cases hj) hpl hgl
  have hws:(wAt L k').size≤1048576:=by
   unfold wAt
   cases hx:L[k']? with
   | none=>simp [ByteArray.size]
   | some x=>exact hs x (List.mem_of_getElem? hx)
  have hs5:=hG5.out.size
  clear hG5 HSA cWd m0 m1 m2
  cases hst:zcw L k' with
  | true =>
   have HCo:Hid (zaq L n k1=some (ts,k')):=by
    obtain ⟨m,rfl⟩:∃m,gk=m+1:=⟨gk-1,by omega⟩
    show zaq L n k1=some (ts,k')
    rw [HAns.out,zaq,if_pos hst]
    simp
   obtain ⟨c0,c1,c2⟩:=HS5a.out.rd.cells
   clear HAns hst
   go_wp2_with fail
   refine (zdn _ pb g cap k' L false ⟨#[91]⟩ HS5a.out.rd (by rw [Lib.toList_data];simp)).mono ?_
   intro e w6 hT
   unfold TkS at hT
   obtain ⟨rfl,hI6,hG6⟩:=hT
   rw [Lib.toList_data,Lib.toList_data] at hI6
   have heq:((wAt L k').toList==(⟨#[91]⟩:ByteArray).toList)=decide (kAt L k'=6):=by
    rw [Lib.toList_data,Lib.toList_data,Bool.eq_iff_iff,beq_iff_eq,decide_eq_true_iff]
    exact sign_iff.2.1
   rw [heq]
   by_cases h6:kAt L k'=6
   ·rw [if_pos (sign_iff.2.1.2 h6)] at hI6
    have d6:decide (kAt L k'=6)=true:=by simp [h6]
    have HSA6:Hid (SA W pb g cap L n (k'+1) x y p pl pc r rl rc s sl sc none 0 0 w6 net ts [] F1 F2 []):=HS5a.out.go hG6 hI6 hpl
    rw [d6]
    clear hI6 hG6 heq d6
    have h6l:k'<L.length:=zdi (by rw [h6];decide)
    obtain ⟨m,hm⟩:∃m,m+1=n:=⟨n-1,by omega⟩
    have hfu:2*(L.length-(k'+1))+1<m:=by omega
    have HM:Hid (m+1=n):=hm
    have hinf6:(Tryz.prog.info? 56).map (fun i=>(i.zero,i.size,i.bytes))=some (some (.agg armZ),6,112):=by kernel_rfl
    obtain ⟨i6,hi6,hz6⟩:=Option.map_eq_some_iff.1 hinf6
    simp only [Prod.mk.injEq] at hz6
    obtain ⟨hz60,hz61,hz62⟩:=hz6
    have HI6:Hid (Tryz.prog.info? 56=some i6∧i6.zero=some (.agg armZ)∧i6.size=6∧i6.bytes=112):=⟨hi6,hz60,hz61,hz62⟩
    clear hi6 hz60 hz61 hz62 hinf6
    obtain ⟨kids,F3,u,ul,uc,HSB,hk4,hkk,HAnsK⟩:∃(kids:List ArmT)(F3:List Nat)(u:Option Addr)(ul uc:Nat),Hid (SA W pb g cap L n (k'+1) x y p pl pc r rl rc s sl sc u ul uc w6 net ts kids F1 F2 F3)∧kids.length≤4194304∧kids.length≤k'+1∧Hid (zaw L n (k'+1)=(zaw L (m+1) (k'+1)).map fun v=>(kids++v.1,v.2)):=by
     refine ⟨[],[],none,0,0,HSA6,by simp,by simp,?_⟩
     show zaw L n (k'+1)=_
     rw [hm]
     cases zaw L n (k'+1)<;>simp
    obtain ⟨cs,F',hE,hOw,hF⟩:=HSB.out.kid
    have HNa:=kid_call HSB.out hgl (Nat.le_of_eq hm) hfu HA.out
    have HNaH:Hid (Calls Tryz.prog 45 #[.pointer (some ⟨pb,0,none⟩)] w6.drew fun e w5=>∃bad k2 x1 y1 p1 pl1 pc1 r1 rl1 rc1 s1 sl1 sc1 u1 ul1 uc1,e=.returned (.agg #[.int .i64 x1,.int .i64 y1,.slice p1 pl1 pc1,.slice r1 rl1 rc1,.slice s1 sl1 sc1,.slice u1 ul1 uc1])∧SArmB w6 pb g cap L m (k'+1) w5 bad k2 [.int .i64 x1,.int .i64 y1,.slice p1 pl1 pc1,.slice r1 rl1 rc1,.slice s1 sl1 sc1,.slice u1 ul1 uc1]):=HNa
    have HEach:Hid (Each (ArmOwn w6 (W.heap.size+2) n) 6 F' kids cs∧F3=(Value.slice u ul uc).ownBlock.toList++F'∧w6.ownsRow (W.heap.size+2) 56 6 (.slice u ul uc) kids.length cs):=⟨hE,hF,hOw⟩
    have zz:w6.cell? ⟨W.heap.size+1,5,none⟩=some (.slice u ul uc):=HSB.out.b3.cell 5
    obtain ⟨c0,c1,c2⟩:=HSB.out.rd.cells
    clear hE hF hOw HNa hm HSA6
    go_upto_region 16 with fail
    go_cut [] from 89 to 105 (fun wc=>Hid (KidS W pb g cap L n x y p pl pc r rl rc s sl sc net ts F1 F2 (k'+1) m wc))
    case first =>
      go_region_law
       (first
        | (go_simp;(with_reducible refine HNaH.out.mono ?_);rintro e w7 ⟨bad,k2,x1,y1,p1,pl1,pc1,r1,rl1,rc1,s1,sl1,sc1,u1,ul1,uc1,rfl,hSN⟩;have HSN:Hid (SArmB w6 pb g cap L m (k'+1) w7 bad k2 [.int .i64 x1,.int .i64 y1,.slice p1 pl1 pc1,.slice r1 rl1 rc1,.slice s1 sl1 sc1,.slice u1 ul1 uc1]):=hSN;obtain ⟨zz5,zz6,own5,hs7,news5⟩:=kid_x HSB.out hpl HEach.out.2.1 HEach.out.2.2 hSN;clear hSN;dsimp only)
        | (refine step_append_lies _ (by rfl) (.tmp 100) (.tmp 103) 23 (by rfl) (W.heap.size+2) 56 i6 (.agg armZ) 6 112 Tryz.underlying23 HI6.out.1 HI6.out.2.1 HI6.out.2.2.1 HI6.out.2.2.2 (by rfl) (by decide) (.slice u ul uc) kids.length cs (by rfl) own5 ⟨w7.heap.size,0,none⟩ 1 1 [.int .i64 x1,.int .i64 y1,.slice p1 pl1 pc1,.slice r1 rl1 rc1,.slice s1 sl1 sc1,.slice u1 ul1 uc1] (by rfl) (by rfl) news5 (by intro v hu;simp at hu;rcases hu with rfl|rfl|rfl|rfl|rfl|rfl<;>rfl) (by omega) (by unfold maxLen;omega) (by omega) (by simp;omega) _ rfl ?_;intro g1 cap1 w8 own8 gg8 hat8 hlt8;obtain ⟨zz7,ff7,hKS⟩:=kid_y HSB.out hpl hgl hkk hfu (Nat.le_of_eq HM.out) HAnsK.out HEach.out.1 HEach.out.2.1 HSN.out own8 gg8 hat8;have HKS:Hid (KidS W pb g cap L n x y p pl pc r rl rc s sl sc net ts F1 F2 (k'+1) m (w8.setCell ⟨W.heap.size+1,5,none⟩ (.slice (some ⟨g1,0,none⟩) (kids.length+1) cap1))):=hKS;clear hKS own8 gg8 hat8 hlt8)
        | fail)
      all_goals go_wp2
      all_goals go_meet
      all_goals exact HKS
    case rest =>
    have HKS0:Hid (KidS W pb g cap L n x y p pl pc r rl rc s sl sc net ts F1 F2 (k'+1) m wc):=hcut
    clear hcut zz HNaH HSB HEach HAnsK c0 c1 c2
    go_wp2_with fail
    go_loopg [] m (fun gq wq=>Hid (KidS W pb g cap L n x y p pl pc r rl rc s sl sc net ts F1 F2 (k'+1) gq wq))
    case atStart=>exact HKS0
    case round =>
     obtain ⟨ks,kk,F4,v,vl,vc,bd,hb1,hb3,hI1,hG1,hgood,hbad⟩:=hrel.out
     have hs9:=hb3.lt
     obtain ⟨c0,c1,c2⟩:=hI1.cells
     have HIn:Hid (InS wr pb g cap L kk bd):=hI1
     have HB3:Hid (Bk wr W.heap.size armZ 56∧Bk wr (W.heap.size+1) #[.int .i64 x,.int .i64 y,.slice p pl pc,.slice r rl rc,.slice s sl sc,.slice v vl vc] 56∧W.grownBy wr (some pb)):=⟨hb1,hb3,hG1⟩
     have HMv:Hid (∀w8,wr.grownBy w8 (some pb)→Bk w8 W.heap.size armZ 56∧Bk w8 (W.heap.size+1) #[.int .i64 x,.int .i64 y,.slice p pl pc,.slice r rl rc,.slice s sl sc,.slice v vl vc] 56∧W.grownBy w8 (some pb)):=fun w8 g=>⟨HB3.out.1.move g (by simp;omega),HB3.out.2.1.move g (by simp;omega),HB3.out.2.2.trans g⟩
     have HGd:Hid (bd=false→SA W pb g cap L n kk x y p pl pc r rl rc s sl sc v vl vc wr net ts ks F1 F2 F4∧ks.length≤kk∧2*(L.length-kk)<gk∧gk≤n∧zaw L n (k'+1)=(restK L gk kk).map fun v=>(ks++v.1,v.2)):=hgood
     have HBd:Hid (bd=true→zaw L n (k'+1)=none):=hbad
     have HSk:Hid (zaw L n (k'+1)=none→zbj L (n+1) k=none):=fun hh=>by rw [zbj,HHd.out,Option.bind_some,HCo.out,Option.bind_some,if_pos h6,hh];rfl
     have HSg:Hid (∀z,zaw L n (k'+1)=some z→zbj L (n+1) k=some (.mk net ts z.1,z.2)):=fun z hz=>by rw [zbj,HHd.out,Option.bind_some,HCo.out,Option.bind_some,if_pos h6,hz];rfl
     clear hb1 hb3 hI1 hG1 hgood hbad hrel HB3 HKS0
     cases bd with
     | true =>
      as_aux_lemma =>
       have HNo:Hid (zbj L (n+1) k=none):=HSk.out (HBd.out rfl)
       clear HBd HGd HSk HSg
       go_wp2_with fail
       refine (zdn wr pb g cap kk L true ⟨#[93]⟩ HIn.out (by rw [Lib.toList_data];simp)).mono ?_
       intro e w8 hT
       unfold TkS at hT
       obtain ⟨rfl,hI8,hG8⟩:=hT
       obtain ⟨k8,Hk8⟩:∃z,Hid (z=if (wAt L kk).toList=(⟨#[93]⟩:ByteArray).toList then kk+1 else kk):=⟨_,rfl⟩
       rw [←Hk8.out] at hI8
       obtain ⟨tb,Htb⟩:∃z,Hid (z=((wAt L kk).toList==(⟨#[93]⟩:ByteArray).toList)):=⟨_,rfl⟩
       rw [←Htb.out]
       clear Hk8 Htb HIn c0 c1 c2
       have hs8:=hG8.size
       cases tb with
       | true =>
        obtain ⟨w9,hE1,hE2,hE3,hE4⟩:=kend_bad (HMv.out w8 hG8).1 (HMv.out w8 hG8).2.1 hI8 (HMv.out w8 hG8).2.2 HNo.out hpl hgl
        have HLd:Hid ((loadVar 56 ⟨W.heap.size+1,0,none⟩).run Tryz.prog w8=.ok (.agg #[.int .i64 x,.int .i64 y,.slice p pl pc,.slice r rl rc,.slice s sl sc,.slice v vl vc]) w8):=hE1
        have HSt:Hid ((storeVar 56 ⟨W.heap.size,0,none⟩ (.agg #[.int .i64 x,.int .i64 y,.slice p pl pc,.slice r rl rc,.slice s sl sc,.slice v vl vc])).run Tryz.prog w8=.ok () w9):=hE2
        have HF:Hid (SArm W pb g cap L (n+1) k (.returned (.agg #[.int .i64 x,.int .i64 y,.slice p pl pc,.slice r rl rc,.slice s sl sc,.slice v vl vc])) w9):=hE3
        obtain ⟨q0,q1,q2,q3,q4,q5⟩:=hE4.six
        clear hE1 hE2 hE3 hE4 hI8 hG8 HNo HMv
        go_wp2_with (first|(refine zau rfl 56 _ rfl _ _ rfl _ HLd.out ?_)|(refine zaj rfl 56 _ _ rfl _ _ rfl _ rfl _ HSt.out ?_)|fail)
        exact bodyPost_ret (v:=.agg #[.int .i64 x,.int .i64 y,.slice p pl pc,.slice r rl rc,.slice s sl sc,.slice v vl vc]) (by simp [results,Tryz.results45,go_sem,q0,q1,q2,q3,q4,q5]) rfl HF.out
       | false =>
        obtain ⟨e0,e1,e2⟩:=hI8.cells
        have fz4:=hI8.free 2
        have hG9:=hG8.trans (zab w8 pb 2 (.bool true))
        obtain ⟨w9,hE1,hE2,hE3,hE4⟩:=kend_bad (HMv.out _ hG9).1 (HMv.out _ hG9).2.1 hI8.spoil (HMv.out _ hG9).2.2 HNo.out hpl hgl
        have HLd:Hid ((loadVar 56 ⟨W.heap.size+1,0,none⟩).run Tryz.prog (w8.setCell ⟨pb,2,none⟩ (.bool true))=.ok (.agg #[.int .i64 x,.int .i64 y,.slice p pl pc,.slice r rl rc,.slice s sl sc,.slice v vl vc]) (w8.setCell ⟨pb,2,none⟩ (.bool true))):=hE1
        have HSt:Hid ((storeVar 56 ⟨W.heap.size,0,none⟩ (.agg #[.int .i64 x,.int .i64 y,.slice p pl pc,.slice r rl rc,.slice s sl sc,.slice v vl vc])).run Tryz.prog (w8.setCell ⟨pb,2,none⟩ (.bool true))=.ok () w9):=hE2
        have HF:Hid (SArm W pb g cap L (n+1) k (.returned (.agg #[.int .i64 x,.int .i64 y,.slice p pl pc,.slice r rl rc,.slice s sl sc,.slice v vl vc])) w9):=hE3
        obtain ⟨q0,q1,q2,q3,q4,q5⟩:=hE4.six
        clear hE1 hE2 hE3 hE4 hI8 hG8 hG9 HNo HMv
        go_wp2_with (first|(refine zau rfl 56 _ rfl _ _ rfl _ HLd.out ?_)|(refine zaj rfl 56 _ _ rfl _ _ rfl _ rfl _ HSt.out ?_)|fail)
        exact bodyPost_ret (v:=.agg #[.int .i64 x,.int .i64 y,.slice p pl pc,.slice r rl rc,.slice s sl sc,.slice v vl vc]) (by simp [results,Tryz.results45,go_sem,q0,q1,q2,q3,q4,q5]) rfl HF.out
     | false =>
      obtain ⟨hSA,hkl,hfu2,hgn,hans⟩:=HGd.out rfl
      have HAns:Hid (zaw L n (k'+1)=(restK L gk kk).map fun v=>(ks++v.1,v.2)):=hans
      have HSAa:Hid (SA W pb g cap L n kk x y p pl pc r rl rc s sl sc v vl vc wr net ts ks F1 F2 F4):=hSA
      clear hSA hans HGd HBd
      go_wp2_with fail
      refine (zdn wr pb g cap kk L false ⟨#[124]⟩ HIn.out (by rw [Lib.toList_data];simp)).mono ?_
      intro e w8 hT
      unfold TkS at hT
      obtain ⟨rfl,hI8,hG8⟩:=hT
      rw [Lib.toList_data,Lib.toList_data] at hI8
      have heq:((wAt L kk).toList==(⟨#[124]⟩:ByteArray).toList)=decide (kAt L kk=7):=by
       rw [Lib.toList_data,Lib.toList_data,Bool.eq_iff_iff,beq_iff_eq,decide_eq_true_iff]
       exact sign_iff.2.2.1
      rw [heq]
      clear heq c0 c1 c2
      have hs8:=hG8.size
      by_cases h7:kAt L kk=7
      ·rw [if_pos (sign_iff.2.2.1.2 h7)] at hI8
       have d7:decide (kAt L kk=7)=true:=by simp [h7]
       rw [d7]
       have h7l:kk<L.length:=zdi (by rw [h7];decide)
       obtain ⟨m2,hm2⟩:∃m2,m2+1=gk:=⟨gk-1,by omega⟩
       have hfu3:2*(L.length-(kk+1))+1<m2:=by omega
       have hmn2:m2+1≤n:=by omega
       have HSB2:Hid (SA W pb g cap L n (kk+1) x y p pl pc r rl rc s sl sc v vl vc w8 net ts ks F1 F2 F4):=HSAa.out.go hG8 hI8 hpl
       have HAns2:Hid (zaw L n (k'+1)=(zaw L (m2+1) (kk+1)).map fun v=>(ks++v.1,v.2)):=by
        show zaw L n (k'+1)=_
        rw [HAns.out,restK,if_neg (by omega),if_pos h7,hm2]
       have hlen2:ks.length≤kk+1:=by omega
       have hks4:ks.length≤4194304:=by have:=HIn.out.2.2.2;omega
       clear HAns HSAa HSk HSg HMv hI8 d7
       clear HIn
       clear hG8
       obtain ⟨cs2,F5,hE2,hOw2,hF2⟩:=HSB2.out.kid
       have HNa2:Hid (Calls Tryz.prog 45 #[.pointer (some ⟨pb,0,none⟩)] w8.drew fun e w5=>∃bad k2 x1 y1 p1 pl1 pc1 r1 rl1 rc1 s1 sl1 sc1 u1 ul1 uc1,e=.returned (.agg #[.int .i64 x1,.int .i64 y1,.slice p1 pl1 pc1,.slice r1 rl1 rc1,.slice s1 sl1 sc1,.slice u1 ul1 uc1])∧SArmB w8 pb g cap L m2 (kk+1) w5 bad k2 [.int .i64 x1,.int .i64 y1,.slice p1 pl1 pc1,.slice r1 rl1 rc1,.slice s1 sl1 sc1,.slice u1 ul1 uc1]):=kid_call HSB2.out hgl hmn2 hfu3 HA.out
       have HEach2:Hid (Each (ArmOwn w8 (W.heap.size+2) n) 6 F5 ks cs2∧F4=(Value.slice v vl vc).ownBlock.toList++F5∧w8.ownsRow (W.heap.size+2) 56 6 (.slice v vl vc) ks.length cs2):=⟨hE2,hF2,hOw2⟩
       have zz:w8.cell? ⟨W.heap.size+1,5,none⟩=some (.slice v vl vc):=HSB2.out.b3.cell 5
       obtain ⟨c0,c1,c2⟩:=HSB2.out.rd.cells
       clear hE2 hF2 hOw2
       go_upto_region 18 with fail
       go_region_law
        (first
         | (go_simp;(with_reducible refine HNa2.out.mono ?_);rintro e w7 ⟨bad,k2,x1,y1,p1,pl1,pc1,r1,rl1,rc1,s1,sl1,sc1,u1,ul1,uc1,rfl,hSN⟩;have HSN:Hid (SArmB w8 pb g cap L m2 (kk+1) w7 bad k2 [.int .i64 x1,.int .i64 y1,.slice p1 pl1 pc1,.slice r1 rl1 rc1,.slice s1 sl1 sc1,.slice u1 ul1 uc1]):=hSN;obtain ⟨zz5,zz6,own5,hs7,news5⟩:=kid_x HSB2.out hpl HEach2.out.2.1 HEach2.out.2.2 hSN;clear hSN;dsimp only)
         | (refine step_append_lies _ (by rfl) (.tmp 116) (.tmp 119) 23 (by rfl) (W.heap.size+2) 56 i6 (.agg armZ) 6 112 Tryz.underlying23 HI6.out.1 HI6.out.2.1 HI6.out.2.2.1 HI6.out.2.2.2 (by rfl) (by decide) (.slice v vl vc) ks.length cs2 (by rfl) own5 ⟨w7.heap.size,0,none⟩ 1 1 [.int .i64 x1,.int .i64 y1,.slice p1 pl1 pc1,.slice r1 rl1 rc1,.slice s1 sl1 sc1,.slice u1 ul1 uc1] (by rfl) (by rfl) news5 (by intro v hu;simp at hu;rcases hu with rfl|rfl|rfl|rfl|rfl|rfl<;>rfl) (by omega) (by unfold maxLen;omega) (by omega) (by simp;omega) _ rfl ?_;intro g1 cap1 wa own8 gg8 hat8 hlt8;obtain ⟨zz7,ff7,hKS⟩:=kid_y HSB2.out hpl hgl hlen2 hfu3 hmn2 HAns2.out HEach2.out.1 HEach2.out.2.1 HSN.out own8 gg8 hat8;have HKS:Hid (KidS W pb g cap L n x y p pl pc r rl rc s sl sc net ts F1 F2 (k'+1) m2 (wa.setCell ⟨W.heap.size+1,5,none⟩ (.slice (some ⟨g1,0,none⟩) (ks.length+1) cap1))):=hKS;clear hKS own8 gg8 hat8 hlt8)
         | fail)
       all_goals go_wp2
       all_goals go_roundg m2
       all_goals first|omega|exact HKS
      ·as_aux_lemma =>
        rw [if_neg (fun e=>h7 (sign_iff.2.2.1.1 e))] at hI8
        have d7:decide (kAt L kk=7)=false:=by simp [h7]
        rw [d7]
        have HI8:Hid (InS w8 pb g cap L kk false):=hI8
        have HG8:Hid (wr.grownBy w8 (some pb)):=hG8
        clear hI8 hG8 d7 HIn
        go_wp2_with fail
        refine (zdn w8 pb g cap kk L false ⟨#[93]⟩ HI8.out (by rw [Lib.toList_data];simp)).mono ?_
        intro e w7 hT
        unfold TkS at hT
        obtain ⟨rfl,hI9,hG9⟩:=hT
        rw [Lib.toList_data,Lib.toList_data] at hI9
        have heq:((wAt L kk).toList==(⟨#[93]⟩:ByteArray).toList)=decide (kAt L kk=8):=by
         rw [Lib.toList_data,Lib.toList_data,Bool.eq_iff_iff,beq_iff_eq,decide_eq_true_iff]
         exact sign_iff.2.2.2
        rw [heq]
        clear heq
        have hs7:=hG9.size
        have hGa:=HG8.out.trans hG9
        by_cases h8:kAt L kk=8
        ·rw [if_pos (sign_iff.2.2.2.2 h8)] at hI9
         have d8:decide (kAt L kk=8)=true:=by simp [h8]
         rw [d8]
         have hz:zaw L n (k'+1)=some (ks,kk+1):=by
          rw [HAns.out,restK,if_pos h8]
          simp
         obtain ⟨w9,hE1,hE2,hE3,hE4⟩:=kend_good (k:=k) (HSAa.out.go hGa hI9 hpl) hpl hgl (HSg.out _ hz)
         have HLd:Hid ((loadVar 56 ⟨W.heap.size+1,0,none⟩).run Tryz.prog w7=.ok (.agg #[.int .i64 x,.int .i64 y,.slice p pl pc,.slice r rl rc,.slice s sl sc,.slice v vl vc]) w7):=hE1
         have HSt:Hid ((storeVar 56 ⟨W.heap.size,0,none⟩ (.agg #[.int .i64 x,.int .i64 y,.slice p pl pc,.slice r rl rc,.slice s sl sc,.slice v vl vc])).run Tryz.prog w7=.ok () w9):=hE2
         have HF:Hid (SArm W pb g cap L (n+1) k (.returned (.agg #[.int .i64 x,.int .i64 y,.slice p pl pc,.slice r rl rc,.slice s sl sc,.slice v vl vc])) w9):=hE3
         obtain ⟨q0,q1,q2,q3,q4,q5⟩:=hE4.six
         clear hE1 hE2 hE3 hE4 hI9 hG9 hGa hz HSg HSk HMv HAns HSAa HI8 HG8 d8 h8 h7
         go_wp2_with (first|(refine zau rfl 56 _ rfl _ _ rfl _ HLd.out ?_)|(refine zaj rfl 56 _ _ rfl _ _ rfl _ rfl _ HSt.out ?_)|fail)
         exact bodyPost_ret (v:=.agg #[.int .i64 x,.int .i64 y,.slice p pl pc,.slice r rl rc,.slice s sl sc,.slice v vl vc]) (by simp [results,Tryz.results45,go_sem,q0,q1,q2,q3,q4,q5]) rfl HF.out
        ·rw [if_neg (fun e=>h8 (sign_iff.2.2.2.1 e))] at hI9
         have d8:decide (kAt L kk=8)=false:=by simp [h8]
         rw [d8]
         have hz:zaw L n (k'+1)=none:=by
          rw [HAns.out,restK,if_neg h8,if_neg h7]
          rfl
         obtain ⟨e0,e1,e2⟩:=hI9.cells
         have fz4:=hI9.free 2
         have hGb:=hGa.trans (zab w7 pb 2 (.bool true))
         obtain ⟨w9,hE1,hE2,hE3,hE4⟩:=kend_bad (HMv.out _ hGb).1 (HMv.out _ hGb).2.1 hI9.spoil (HMv.out _ hGb).2.2 (HSk.out hz) hpl hgl
         have HLd:Hid ((loadVar 56 ⟨W.heap.size+1,0,none⟩).run Tryz.prog (w7.setCell ⟨pb,2,none⟩ (.bool true))=.ok (.agg #[.int .i64 x,.int .i64 y,.slice p pl pc,.slice r rl rc,.slice s sl sc,.slice v vl vc]) (w7.setCell ⟨pb,2,none⟩ (.bool true))):=hE1
         have HSt:Hid ((storeVar 56 ⟨W.heap.size,0,none⟩ (.agg #[.int .i64 x,.int .i64 y,.slice p pl pc,.slice r rl rc,.slice s sl sc,.slice v vl vc])).run Tryz.prog (w7.setCell ⟨pb,2,none⟩ (.bool true))=.ok () w9):=hE2
         have HF:Hid (SArm W pb g cap L (n+1) k (.returned (.agg #[.int .i64 x,.int .i64 y,.slice p pl pc,.slice r rl rc,.slice s sl sc,.slice v vl vc])) w9):=hE3
         obtain ⟨q0,q1,q2,q3,q4,q5⟩:=hE4.six
         clear hE1 hE2 hE3 hE4 hI9 hG9 hGa hGb hz HSg HSk HMv HAns HSAa HI8 HG8 d8 h8 h7
         go_wp2_with (first|(refine zau rfl 56 _ rfl _ _ rfl _ HLd.out ?_)|(refine zaj rfl 56 _ _ rfl _ _ rfl _ rfl _ HSt.out ?_)|fail)
         exact bodyPost_ret (v:=.agg #[.int .i64 x,.int .i64 y,.slice p pl pc,.slice r rl rc,.slice s sl sc,.slice v vl vc]) (by simp [results,Tryz.results45,go_sem,q0,q1,q2,q3,q4,q5]) rfl HF.out
   ·as_aux_lemma =>
     rw [if_neg (fun e=>h6 (sign_iff.2.1.1 e))] at hI6
     have d6:decide (kAt L k'=6)=false:=by simp [h6]
     have hA6:SA W pb g cap L n k' x y p pl pc r rl rc s sl sc none 0 0 w6 net ts [] F1 F2 []:=HS5a.out.go hG6 hI6 hpl
     have hF:=hA6.done hpl hgl (k0:=k) (by rw [zbj,HHd.out,Option.bind_some,HCo.out,Option.bind_some,if_neg h6])
     have hK:Bk (S6 w6 W.heap.size (.int .i64 x) (.int .i64 y) (.slice p pl pc) (.slice r rl rc) (.slice s sl sc) (.slice none 0 0)) W.heap.size #[.int .i64 x,.int .i64 y,.slice p pl pc,.slice r rl rc,.slice s sl sc,.slice none 0 0] 56:=hA6.b1.put6 _ _ _ _ _ _
     have HLd:Hid ((loadVar 56 ⟨W.heap.size+1,0,none⟩).run Tryz.prog w6=.ok (.agg #[.int .i64 x,.int .i64 y,.slice p pl pc,.slice r rl rc,.slice s sl sc,.slice none 0 0]) w6):=zgl (P:=Tryz.prog) hA6.b3 56 _ Tryz.underlying56 rfl (by kernel_rfl)
     have hSt:(storeVar 56 ⟨W.heap.size,0,none⟩ (.agg #[.int .i64 x,.int .i64 y,.slice p pl pc,.slice r rl rc,.slice s sl sc,.slice none 0 0])).run Tryz.prog w6=.ok () (S6 w6 W.heap.size (.int .i64 x) (.int .i64 y) (.slice p pl pc) (.slice r rl rc) (.slice s sl sc) (.slice none 0 0)) :=
      run_storeVar_mid w6 W.heap.size 0 56 #[.int .i64 x,.int .i64 y,.slice p pl pc,.slice r rl rc,.slice s sl sc,.slice none 0 0] (fun i hi=>by
       rw [Nat.zero_add]
       exact ⟨by rw [hA6.b1.cell];match i,hi with|0,_=>rfl|1,_=>rfl|2,_=>rfl|3,_=>rfl|4,_=>rfl|5,_=>rfl,hA6.b1.free i⟩) (by kernel_rfl) (by simp [Value.oneCell'])
     obtain ⟨w7,HW7⟩:∃w,Hid (w=S6 w6 W.heap.size (.int .i64 x) (.int .i64 y) (.slice p pl pc) (.slice r rl rc) (.slice s sl sc) (.slice none 0 0)):=⟨_,rfl⟩
     rw [←HW7.out] at hF hK hSt
     have HSt:Hid ((storeVar 56 ⟨W.heap.size,0,none⟩ (.agg #[.int .i64 x,.int .i64 y,.slice p pl pc,.slice r rl rc,.slice s sl sc,.slice none 0 0])).run Tryz.prog w6=.ok () w7):=hSt
     obtain ⟨q0,q1,q2,q3,q4,q5⟩:=hK.six
     have HF:Hid (SArm W pb g cap L (n+1) k (.returned (.agg #[.int .i64 x,.int .i64 y,.slice p pl pc,.slice r rl rc,.slice s sl sc,.slice none 0 0])) w7):=hF
     rw [d6]
     clear hF hK hSt hA6 HW7 HS5a hI6 hG6 heq d6 h6 HCo c0 c1 c2 HBad HS5 HA
     go_wp2_with (first|(refine zau rfl 56 _ rfl _ _ rfl _ HLd.out ?_)|(refine zaj rfl 56 _ _ rfl _ _ rfl _ rfl _ HSt.out ?_)|fail)
     exact bodyPost_ret (v:=.agg #[.int .i64 x,.int .i64 y,.slice p pl pc,.slice r rl rc,.slice s sl sc,.slice none 0 0]) (by simp [results,Tryz.results45,go_sem,q0,q1,q2,q3,q4,q5]) rfl HF.out
  | false =>
   as_aux_lemma =>
    have hkl:k'<L.length:=by
     unfold zcw at hst
     simp only [Bool.or_eq_false_iff,Bool.not_eq_false',decide_eq_true_iff] at hst
     exact hst.1
    go_wp2_with fail
    refine (zdx _ pb g cap k' L false HS5a.out.rd).mono ?_
    rintro e w6 ⟨rfl,nd,hw⟩
    have HSA6:Hid (SA W pb g cap L n k' x y p pl pc r rl rc s sl sc none 0 0 w6 net ts [] F1 F2 []):=by subst hw;exact HS5a.out.other (zac _ nd none) (fun j hj=>by cases hj) hpl hgl
    have hs6:w5.heap.size≤w6.heap.size:=by subst hw;exact Nat.le_refl _
    clear hw HS5a
    go_wp2_with fail
    refine (eread_s (wAt L k') w6 hws).mono ?_
    intro e w7 hE
    rcases hE with ⟨op,xs,b,c,hI,rfl,hO,hB7⟩|⟨hno,rfl,hB7⟩
    ·have hs7:=hB7.size
     have hbl:=hO.lt b rfl
     have GA:w6.grownBy (w7.alloc (.cells #[.int .i64 op,.slice (some ⟨b,0,none⟩) xs.length c] 50)) none:=(zad hB7 none).trans (World.grownBy_alloc w7 _ none)
     have HSA7:Hid (SA W pb g cap L n k' x y p pl pc r rl rc s sl sc none 0 0 (w7.alloc (.cells #[.int .i64 op,.slice (some ⟨b,0,none⟩) xs.length c] 50)) net ts [] F1 F2 []):=HSA6.out.other GA (fun j hj=>by cases hj) hpl hgl
     have hOw:Ops (w7.alloc (.cells #[.int .i64 op,.slice (some ⟨b,0,none⟩) xs.length c] 50)) b 0 xs:=OpsOwn.ops (World.ownsRow.alloc hO _)
     have HO:Hid (OpsOwn (w7.alloc (.cells #[.int .i64 op,.slice (some ⟨b,0,none⟩) xs.length c] 50)) w6.heap.size b c xs):=World.ownsRow.alloc hO _
     have HCl:Hid (Calls Tryz.prog 72 #[.agg #[.int .i64 op,.slice (some ⟨b,0,none⟩) xs.length c]] (w7.alloc (.cells #[.int .i64 op,.slice (some ⟨b,0,none⟩) xs.length c] 50)) fun e w'=>e=.returned (.bool (decide (21≤op)&&rtk op xs))∧Below (w7.alloc (.cells #[.int .i64 op,.slice (some ⟨b,0,none⟩) xs.length c] 50)).heap.size (w7.alloc (.cells #[.int .i64 op,.slice (some ⟨b,0,none⟩) xs.length c] 50)) w'):=zep op (some ⟨b,0,none⟩) xs xs.length c rfl _ (.inr ⟨b,0,rfl,hOw⟩)
     rw [hI.1,Bool.and_true] at HCl
     have HEl:Hid (IsEl (wAt L k') op xs):=hI
     have HY:Hid (Bk (w7.alloc (.cells #[.int .i64 op,.slice (some ⟨b,0,none⟩) xs.length c] 50)) w7.heap.size #[.int .i64 op,.slice (some ⟨b,0,none⟩) xs.length c] 50):=Bk.fresh w7 _ _
     clear hO hOw hI GA hB7 HSA6
     go_wp2_with fail
     refine HCl.out.mono ?_
     rintro e w8 ⟨rfl,hB8⟩
     have HSA8:Hid (SA W pb g cap L n k' x y p pl pc r rl rc s sl sc none 0 0 w8 net ts [] F1 F2 []):=HSA7.out.other (zad hB8 none) (fun j hj=>by cases hj) hpl hgl
     have HO8:Hid (OpsOwn w8 w6.heap.size b c xs):=HO.out.later hB8
     have HYB:Hid (Bk w8 w7.heap.size #[.int .i64 op,.slice (some ⟨b,0,none⟩) xs.length c] 50):=HY.out.move (zad hB8 none) (by simp)
     have hs8:w7.heap.size<w8.heap.size:=HYB.out.lt
     clear hB8 HO HY HSA7 HCl
     by_cases hop:21≤op
     ·have d1:decide (21≤op)=true:=by simp [hop]
      have hq:elQ L qCl k'=some ⟨op,xs⟩:=zgp hkl HEl.out (by unfold qCl;exact d1)
      obtain ⟨m,rfl⟩:∃m,gk=m+1:=⟨gk-1,by omega⟩
      have HAn2:Hid (zaq L n k1=(zaq L m (k'+1)).map fun u=>((ts++[(⟨op,xs⟩:ElemT)])++u.1,u.2)):=by
       show zaq L n k1=_
       rw [HAns.out,zaq,if_neg (by rw [hst];simp),hq,Option.bind_some]
       cases zaq L m (k'+1)<;>simp
      have hA8:=HSA8.out.go (zab w8 pb 1 (.int .i64 (k'+1))) (HSA8.out.rd.put (k'+1)) hpl
      have HSA9:Hid (SA W pb g cap L n (k'+1) x y p pl pc r rl rc s sl sc none 0 0 ((w8.setCell ⟨pb,1,none⟩ (.int .i64 (k'+1))).alloc (.cells #[.int .i64 op,.slice (some ⟨b,0,none⟩) xs.length c] 50)) net ts [] F1 F2 []):=hA8.other (World.grownBy_alloc _ _ none) (fun j hj=>by cases hj) hpl hgl
      have l1:=HSA8.out.lt1
      have l2:=HSA8.out.lt2
      have hw6b:w6.heap.size≤b:=(HO8.out.lt b rfl).1
      have hb8:b<w8.heap.size:=(HO8.out.lt b rfl).2
      have hr6:=HSA8.out.grown.size
      obtain ⟨cs,F',hE,hOw,hF⟩:=HSA9.out.row
      have hfr:∀b'∈F1++F2,b'<wr.heap.size:=HFr.out
      have hEl9:ElemOwn ((w8.setCell ⟨pb,1,none⟩ (.int .i64 (k'+1))).alloc (.cells #[.int .i64 op,.slice (some ⟨b,0,none⟩) xs.length c] 50)) (W.heap.size+2) [b] ⟨op,xs⟩ [.int .i64 op,.slice (some ⟨b,0,none⟩) xs.length c]:=by
       have hO8:=HO8.out.base (base':=W.heap.size+2) (by omega)
       exact ⟨_,rfl,ArgsOwn.move (ArgsOwn.move (zgq hO8) (zab w8 pb 1 _) (fun b' hb'=>by simp at hb';simp;omega)) (World.grownBy_alloc _ _ none) (fun b' hb'=>by simp)⟩
      have own5:((w8.setCell ⟨pb,1,none⟩ (.int .i64 (k'+1))).alloc (.cells #[.int .i64 op,.slice (some ⟨b,0,none⟩) xs.length c] 50)).ownsRow (W.heap.size+2) 50 2 (.slice s sl sc) ts.length cs:=hOw
      have news5:∀(q:Nat)(v:Value),([.int .i64 op,.slice (some ⟨b,0,none⟩) xs.length c]:List Value)[q]?=some v→((w8.setCell ⟨pb,1,none⟩ (.int .i64 (k'+1))).alloc (.cells #[.int .i64 op,.slice (some ⟨b,0,none⟩) xs.length c] 50)).cell? ((⟨w8.heap.size,0,none⟩:Addr).add q)=some v:=by
       have hsz9:(w8.setCell ⟨pb,1,none⟩ (.int .i64 (k'+1))).heap.size=w8.heap.size:=by simp [World.setCell]
       have BF:=Bk.fresh (w8.setCell ⟨pb,1,none⟩ (.int .i64 (k'+1))) #[.int .i64 op,.slice (some ⟨b,0,none⟩) xs.length c] 50
       rw [hsz9] at BF
       intro q v hq
       rw [show (⟨w8.heap.size,0,none⟩:Addr).add q=⟨w8.heap.size,0+q,none⟩ from Addr.add_mid _ 0 q,Nat.zero_add,BF.cell]
       match q with
       | 0=>simpa using hq
       | 1=>simpa using hq
       | (j+2)=>simp at hq
      have HC:Hid (∀(g1 cap1:Nat)(w10:World),w10.ownsRow (W.heap.size+2) 50 2 (.slice (some ⟨g1,0,none⟩) (ts.length+1) cap1) (ts.length+1) (cs++[.int .i64 op,.slice (some ⟨b,0,none⟩) xs.length c])→((w8.setCell ⟨pb,1,none⟩ (.int .i64 (k'+1))).alloc (.cells #[.int .i64 op,.slice (some ⟨b,0,none⟩) xs.length c] 50)).grownBy w10 (Value.slice s sl sc).ownBlock→((Value.slice s sl sc).ownBlock=some g1∨((w8.setCell ⟨pb,1,none⟩ (.int .i64 (k'+1))).alloc (.cells #[.int .i64 op,.slice (some ⟨b,0,none⟩) xs.length c] 50)).heap.size≤g1) →
        CoilS W pb g cap L n x y p pl pc r rl rc net F1 k1 m (w10.setCell ⟨W.heap.size+1,4,none⟩ (.slice (some ⟨g1,0,none⟩) (ts.length+1) cap1))∧w10.cell? ⟨W.heap.size+1,4,none⟩=some (.slice s sl sc)∧w10.frozen? ⟨W.heap.size+1,4,none⟩=false):=by
       intro g1 cap1 w10 o10 g10 hat
       have hob:∀j,(Value.slice s sl sc).ownBlock=some j→j∈F2:=fun j hj=>by rw [hF,hj];simp
       have B10:=HSA9.out.b3.move g10 (fun e=>by have:=l2 _ (hob _ e.symm);omega)
       refine ⟨⟨k'+1,ts++[⟨op,xs⟩],_,_,_,_,HSA9.out.coil hpl hgl hE hF hEl9 (by simp) (fun b' hb' hm=>?_) (fun b' hb' hm=>?_) (fun b' hb' hm=>by cases hm) o10 g10 hat,by omega,by simp;omega,by omega,HAn2.out⟩,B10.cell 4,B10.free 4⟩
       ·simp at hb';subst hb';have:=hfr _ (List.mem_append_left _ hm);omega
       ·simp at hb';subst hb';have:=hfr _ (List.mem_append_right _ hm);omega
      obtain ⟨e0,e1,e2⟩:=HSA8.out.rd.cells
      have fz1:=HSA8.out.rd.free 1
      obtain ⟨z0,z1,z2,z3,z4,z5⟩:=hA8.b3.six
      have YB:=HYB.out.move (zab w8 pb 1 (.int .i64 (k'+1))) (by simp;omega)
      have y0:(w8.setCell ⟨pb,1,none⟩ (.int .i64 (k'+1))).cell? ⟨w7.heap.size,0,none⟩=some (.int .i64 op):=YB.cell 0
      have y1:(w8.setCell ⟨pb,1,none⟩ (.int .i64 (k'+1))).cell? ⟨w7.heap.size,1,none⟩=some (.slice (some ⟨b,0,none⟩) xs.length c):=YB.cell 1
      have hwk:IntKind.i64.wrap ((k':Int)+1)=(k':Int)+1:=by rw [IntKind.wrap_i64];omega
      have htl9:ts.length≤4194304:=by omega
      have hH9:W.heap.size+2≤w8.heap.size:=by omega
      clear hA8 HSA8 HSA9 hE hOw hF hEl9 YB HYB HO8 HEl HAns HAn2 hq z0 z1 z2 z3 z5 l1 l2 hfr
      go_wp2_with (at_builtin;refine wpList_append_lies _ rfl _ _ 54 rfl (W.heap.size+2) 50 i0 (.agg #[.int .i64 0,.slice none 0 0]) 2 32 Tryz.underlying54 HI.out.1 HI.out.2.1 HI.out.2.2.1 HI.out.2.2.2 rfl (by decide) _ ts.length cs rfl own5 ⟨w8.heap.size,0,none⟩ 1 1 [.int .i64 op,.slice (some ⟨b,0,none⟩) xs.length c] rfl rfl news5 ?c2 (by omega) ?c3 ?c4 ?c5 _ rfl ?_)
      case c2=>first|(intro v hv;simp at hv;rcases hv with rfl|rfl<;>rfl)|exact ⟨rfl,rfl⟩
      case c3=>unfold maxLen;omega
      case c4=>omega
      case c5=>first|omega|(simp;omega)
      intro g10 cap10 w10 own10 gg10 hat10 hlt10
      obtain ⟨hCS,u4,v4⟩:=HC.out g10 cap10 w10 own10 gg10 (by rcases hat10 with e|e;exact .inl e;exact .inr (by rw [e];simp [World.setCell]))
      have HCS:Hid (CoilS W pb g cap L n x y p pl pc r rl rc net F1 k1 m (w10.setCell ⟨W.heap.size+1,4,none⟩ (.slice (some ⟨g10,0,none⟩) (ts.length+1) cap10))):=hCS
      clear hCS own5 news5 own10 gg10 hat10 hlt10 HC y0 y1 z4 e0 e1 e2 fz1
      go_wp2
      go_roundg m
      case measure=>omega
      case rel=>exact HCS
     ·have d1:decide (21≤op)=false:=by simp;omega
      have hno:elQ L qCl k'=none:=zeh (fun op2 xs2 _ h2=>by obtain ⟨e1,e2⟩:=zer h2.1 HEl.out.1 (h2.2.trans HEl.out.2.symm);unfold qCl;rw [e1];exact d1)
      have hnone:zbj L (n+1) k=none:=by
       have hc:zaq L n k1=none:=by
        obtain ⟨m,rfl⟩:∃m,gk=m+1:=⟨gk-1,by omega⟩
        rw [HAns.out,zaq,if_neg (by rw [hst];simp),hno,Option.bind_none]
        rfl
       rw [zbj,HHd.out,Option.bind_some,hc]
       rfl
      have B1s:=(HSA8.out.b1).move (zab w8 pb 2 (.bool true)) (by simp;omega)
      obtain ⟨hF,hK⟩:=HBad.out (w8.setCell ⟨pb,2,none⟩ (.bool true)) k' (HSA8.out.rd).spoil ((HSA8.out.grown).andThen (row':=some pb) (zab _ pb 2 _) (fun j hj=>.inr hj)) B1s hnone
      have hS5:=HS5.out _ B1s
      obtain ⟨w11,HW11⟩:∃w,Hid (w=S6 (w8.setCell ⟨pb,2,none⟩ (.bool true)) W.heap.size (.int .i64 0) (.int .i64 0) (.slice none 0 0) (.slice none 0 0) (.slice none 0 0) (.slice none 0 0)):=⟨_,rfl⟩
      rw [←HW11.out] at hF hK hS5
      have HSz:Hid ((storeVar 56 ⟨W.heap.size,0,none⟩ (.agg armZ)).run Tryz.prog (w8.setCell ⟨pb,2,none⟩ (.bool true))=.ok () w11):=hS5
      obtain ⟨q0,q1,q2,q3,q4,q5⟩:=hK.six
      have HF:Hid (SArm W pb g cap L (n+1) k (.returned (.agg armZ)) w11):=hF
      obtain ⟨e0,e1,e2⟩:=(HSA8.out.rd).cells
      have fz4:=(HSA8.out.rd).free 2
      clear hF hK B1s HW11 hS5 hnone HSA8 HO8 HYB HEl hno HAns hst hop
      go_wp2_with (first|(refine zaj rfl 56 _ _ rfl _ _ rfl _ rfl _ HSz.out ?_)|fail)
      exact bodyPost_ret (v:=.agg armZ) (by simp [results,Tryz.results45,go_sem,q0,q1,q2,q3,q4,q5]) rfl HF.out
    ·have hno2:elQ L qCl k'=none:=zeh (fun op2 xs2 _ h2=>absurd h2 (hno op2 xs2))
     have GA:w6.grownBy (w7.alloc (.cells #[.int .i64 0,.slice none 0 0] 50)) none:=(zad hB7 none).trans (World.grownBy_alloc w7 _ none)
     have HSA7:Hid (SA W pb g cap L n k' x y p pl pc r rl rc s sl sc none 0 0 (w7.alloc (.cells #[.int .i64 0,.slice none 0 0] 50)) net ts [] F1 F2 []):=HSA6.out.other GA (fun j hj=>by cases hj) hpl hgl
     have hs7:=hB7.size
     clear GA hB7 HSA6
     have hnone:zbj L (n+1) k=none:=by
      have hc:zaq L n k1=none:=by
       obtain ⟨m,rfl⟩:∃m,gk=m+1:=⟨gk-1,by omega⟩
       rw [HAns.out,zaq,if_neg (by rw [hst];simp),hno2,Option.bind_none]
       rfl
      rw [zbj,HHd.out,Option.bind_some,hc]
      rfl
     have B1s:=(HSA7.out.b1).move (zab (w7.alloc (.cells #[.int .i64 0,.slice none 0 0] 50)) pb 2 (.bool true)) (by simp;omega)
     obtain ⟨hF,hK⟩:=HBad.out ((w7.alloc (.cells #[.int .i64 0,.slice none 0 0] 50)).setCell ⟨pb,2,none⟩ (.bool true)) k' (HSA7.out.rd).spoil ((HSA7.out.grown).andThen (row':=some pb) (zab _ pb 2 _) (fun j hj=>.inr hj)) B1s hnone
     have hS5:=HS5.out _ B1s
     obtain ⟨w11,HW11⟩:∃w,Hid (w=S6 ((w7.alloc (.cells #[.int .i64 0,.slice none 0 0] 50)).setCell ⟨pb,2,none⟩ (.bool true)) W.heap.size (.int .i64 0) (.int .i64 0) (.slice none 0 0) (.slice none 0 0) (.slice none 0 0) (.slice none 0 0)):=⟨_,rfl⟩
     rw [←HW11.out] at hF hK hS5
     have HSz:Hid ((storeVar 56 ⟨W.heap.size,0,none⟩ (.agg armZ)).run Tryz.prog ((w7.alloc (.cells #[.int .i64 0,.slice none 0 0] 50)).setCell ⟨pb,2,none⟩ (.bool true))=.ok () w11):=hS5
     obtain ⟨q0,q1,q2,q3,q4,q5⟩:=hK.six
     have HF:Hid (SArm W pb g cap L (n+1) k (.returned (.agg armZ)) w11):=hF
     obtain ⟨e0,e1,e2⟩:=(HSA7.out.rd).cells
     have fz4:=(HSA7.out.rd).free 2
     clear hF hK B1s HW11 hS5 hnone HSA7 hno hno2 HAns hst
     go_wp2_with (first|(refine zaj rfl 56 _ _ rfl _ _ rfl _ rfl _ HSz.out ?_)|fail)
     exact bodyPost_ret (v:=.agg armZ) (by simp [results,Tryz.results45,go_sem,q0,q1,q2,q3,q4,q5]) rfl HF.out
theorem sarm_i{pb g cap:Nat}{L:List ByteArray}(hs:∀x∈L,x.size≤1048576)(n:Nat):∀(W:World)(k:Nat),InS W pb g cap L k false→g<W.heap.size→2*(L.length-k)+1<n →
  Calls Tryz.prog 45 #[.pointer (some ⟨pb,0,none⟩)] W fun e w'=>SArm W pb g cap L n k e w':=by
 induction n using Nat.strongRecOn with
 | _ n ih =>
  intro W k h hg hn
  match n,hn,ih with
  | 0,hn,_=>omega
  | n+1,hn,ih =>
   have HA:Hid (∀W' k m,m<n→InS W' pb g cap L k false→g<W'.heap.size→2*(L.length-k)+1<m→Calls Tryz.prog 45 #[.pointer (some ⟨pb,0,none⟩)] W' fun e w'=>SArm W' pb g cap L m k e w'):=fun W' k' m hm h' hg' hn'=>ih m (by omega) W' k' h' hg' hn'
   exact sarm_d W pb g cap L n k h hg hs hn HA
theorem elQ_lt{L:List ByteArray}{q:Int→Bool}{k:Nat}{e:ElemT}(h:elQ L q k=some e):k<L.length:=by
 unfold elQ at h
 by_cases hk:k<L.length
 ·exact hk
 ·rw [if_neg hk] at h;cases h
theorem coils_le(L:List ByteArray):∀n k,k≤L.length→(zae L n k).2≤L.length
 | 0,k,h=>by rw [zae];exact h
 | n+1,k,h=>by
  rw [zae]
  cases he:elQ L qCl k with
  | none=>exact h
  | some e=>exact coils_le L n (k+1) (elQ_lt he)
theorem head_le{L:List ByteArray}{n k:Nat}{r:NetT×Nat}(h:zba L n k=some r):r.2≤L.length:=by
 unfold zba at h
 by_cases h5:kAt L k=5
 ·rw [if_pos h5] at h
  cases h
  exact zdi (by rw [h5];decide)
 ·rw [if_neg h5] at h
  obtain ⟨u,h1,h2⟩:=Option.bind_eq_some_iff.1 h
  by_cases h6:kAt L u.2=5
  ·rw [if_pos h6] at h2
   cases h2
   exact zdi (by rw [h6];decide)
  ·rw [if_neg h6] at h2;cases h2
theorem arm_le(L:List ByteArray):∀n,(∀k r,zbz L n k=some r→r.2≤L.length)∧(∀k r,zbb L n k=some r→r.2≤L.length)
 | 0=>⟨(fun k r h=>by rw [zbz] at h;cases h),(fun k r h=>by rw [zbb] at h;cases h)⟩
 | n+1=>by
  obtain ⟨i1,i2⟩:=arm_le L n
  refine ⟨fun k r h=>?_,fun k r h=>?_⟩
  ·rw [zbz] at h
   obtain ⟨u,h1,h2⟩:=Option.bind_eq_some_iff.1 h
   by_cases h6:kAt L (zae L n u.2).2=6
   ·rw [if_pos h6] at h2
    obtain ⟨v,h3,rfl⟩:=Option.map_eq_some_iff.1 h2
    exact i2 _ v h3
   ·rw [if_neg h6] at h2
    cases h2
    exact coils_le L n u.2 (head_le h1)
  ·rw [zbb] at h
   obtain ⟨u,h1,h2⟩:=Option.bind_eq_some_iff.1 h
   by_cases h8:kAt L u.2=8
   ·rw [if_pos h8] at h2
    cases h2
    exact zdi (by rw [h8];decide)
   ·rw [if_neg h8] at h2
    by_cases h7:kAt L u.2=7
    ·rw [if_pos h7] at h2
     obtain ⟨v,h3,rfl⟩:=Option.map_eq_some_iff.1 h2
     exact i2 _ v h3
    ·rw [if_neg h7] at h2;cases h2
theorem sd_end{L:List ByteArray}{n k:Nat}{r:ArmT×Nat}(h:zbj L n k=some r):r.2≤L.length:=(arm_le L n).1 _ _ ((sd_rd L n).1 _ _ h)
def SRung(W:World)(pb g cap:Nat)(L:List ByteArray)(e:Ending)(w':World):Prop :=
 ∃(x y:Int)(p:Option Addr)(pl pc:Nat)(r:Option Addr)(rl rc:Nat)(s:Option Addr)(sl sc:Nat)(u:Option Addr)(ul uc:Nat)(k':Nat)(bad:Bool),e=.returned (.agg #[.int .i64 x,.int .i64 y,.slice p pl pc,.slice r rl rc,.slice s sl sc,.slice u ul uc])∧InS w' pb g cap L k' bad∧W.grownBy w' (some pb) ∧
  ((bad=false∧k'=L.length∧∃t F,zbv L=some t∧ArmOwn w' W.heap.size (2*L.length+2) F t [.int .i64 x,.int .i64 y,.slice p pl pc,.slice r rl rc,.slice s sl sc,.slice u ul uc]∧F.Nodup)∨((bad=true∨k'<L.length)∧zbv L=none))
theorem srung_i{pb g cap:Nat}{L:List ByteArray}(hs:∀x∈L,x.size≤1048576)(W:World)(h:InS W pb g cap L 0 false)(hg:g<W.heap.size) :
  Calls Tryz.prog 45 #[.pointer (some ⟨pb,0,none⟩)] W fun e w'=>SRung W pb g cap L e w':=by
 refine (sarm_i hs (2*L.length+2) W 0 h hg (by omega)).mono ?_
 rintro e w' ⟨x,y,p,pl,pc,r,rl,rc,s,sl,sc,u,ul,uc,k',bad,rfl,hI,hG,hgd,hbd⟩
 refine ⟨x,y,p,pl,pc,r,rl,rc,s,sl,sc,u,ul,uc,k',bad,rfl,hI,hG,?_⟩
 rw [←rung_same]
 unfold sdRung
 cases bad with
 | true =>
  refine .inr ⟨.inl rfl,?_⟩
  rw [hbd rfl]
  rfl
 | false =>
  obtain ⟨t,F,h1,h2,h3⟩:=hgd rfl
  rw [h1,Option.bind_some]
  by_cases hk:k'=L.length
  ·exact .inl ⟨rfl,hk,t,F,if_pos hk,h2,h3⟩
  ·refine .inr ⟨.inr ?_,if_neg hk⟩
   have h4:k'≤L.length:=sd_end h1
   omega
end Go.Proofs.YtllmabgollkigaaGreatDoor
