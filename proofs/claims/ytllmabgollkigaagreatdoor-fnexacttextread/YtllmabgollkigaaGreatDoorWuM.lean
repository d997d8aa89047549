/- A net of the specification's reader with nets within: the walk. -/
import Derived.Test.YtllmabgollkigaaGreatDoorWsM
import Derived.Deep.RegionLaw
set_option maxHeartbeats 4000000
namespace Go.Proofs.YtllmabgollkigaaGreatDoor
open Go.RowKit
set_option linter.unusedVariables false
theorem zfv{L:List ByteArray}{k:Nat}{q:Int}(hq:kAt L k=q)(h:q=2∨q=3∨q=4):k<L.length∧((wAt L k).toList==[97,110,100,40])=(q==2)∧((wAt L k).toList==[111,114,40])=(q==3)∧((wAt L k).toList==[110,111,116,40])=(q==4):=by
 have hk:=zdi (L:=L) (k:=k) (by rw [hq];omega)
 unfold kAt at hq
 rw [if_pos hk] at hq
 rw [Lib.toList_data]
 refine ⟨hk,?_⟩
 by_cases h1:(wAt L k).data.toList=[97,110,100,40]
 ·rw [h1] at hq ⊢
  obtain rfl:2=q:=hq
  exact ⟨rfl,rfl,rfl⟩
 by_cases h2:(wAt L k).data.toList=[111,114,40]
 ·rw [h2] at hq ⊢
  obtain rfl:3=q:=hq
  exact ⟨rfl,rfl,rfl⟩
 by_cases h3:(wAt L k).data.toList=[110,111,116,40]
 ·rw [h3] at hq ⊢
  obtain rfl:4=q:=hq
  exact ⟨rfl,rfl,rfl⟩
 exfalso
 unfold kOf at hq
 rw [if_neg h1,if_neg h2,if_neg h3] at hq
 repeat (split at hq;· omega)
 omega
set_option maxRecDepth 10000 in
theorem snet_d2(W0 W:World)(pb g cap:Nat)(L:List ByteArray)(n k:Nat)(h:InS W pb g cap L k false)(hgl:g<W.heap.size)(hn:2*(L.length-k)<n+1)(hq:kAt L k=2)
  (HN:Hid (∀W' k m,m<n→InS W' pb g cap L k false→g<W'.heap.size→2*(L.length-k)<m→Calls Tryz.prog 79 #[.pointer (some ⟨pb,0,none⟩)] W' fun e w'=>SNet W' pb g cap L m k e w')) :
  Calls Tryz.prog 79 #[.pointer (some ⟨pb,0,none⟩)] W fun e w'=>SNet W pb g cap L (n+1) k e w':=by
 have hinfo:(Tryz.prog.info? 53).map (fun i=>(i.zero,i.size,i.bytes))=some (some (.agg #[.int .i64 0,.int .i64 0,.slice none 0 0,.slice none 0 0]),4,64):=by kernel_rfl
 obtain ⟨i0,hi,hzz⟩:=Option.map_eq_some_iff.1 hinfo
 simp only [Prod.mk.injEq] at hzz
 obtain ⟨hz0,hz1,hz2⟩:=hzz
 have HI:Hid (Tryz.prog.info? 53=some i0∧i0.zero=some (.agg #[.int .i64 0,.int .i64 0,.slice none 0 0,.slice none 0 0])∧i0.size=4∧i0.bytes=64):=⟨hi,hz0,hz1,hz2⟩
 clear hi hz0 hz1 hz2 hinfo
 obtain ⟨hkl,b1,b2,b3⟩:=zfv hq (by decide)
 have hpl:=h.lt
 have hl4:=h.2.2.2
 have HQ:Hid (zav L (n+1) k=(zag L n (k+1)).map fun r=>(.mk 2 ⟨0,[]⟩ r.1,r.2)):=by
  show zav L (n+1) k=_
  rw [zav,hq,if_pos (by decide)]
 have HH0:Hid (InS (W.alloc (.cells netZ 53)) pb g cap L k false):=h.move (World.grownBy_alloc W _ none) (by simp) (by simp)
 clear h hq
 simp at b1 b2 b3
 go_enter Tryz.func79,Tryz.ntmps79
 go_wp2_with fail
 refine (zdx _ pb g cap k L false HH0.out).mono ?_
 rintro e w1 ⟨rfl,nd,hw⟩
 have H1:Hid (InS w1 pb g cap L k false∧W.grownBy w1 (some pb)∧Bk w1 W.heap.size netZ 53∧w1.heap.size=W.heap.size+1):=by
  subst hw
  refine ⟨HH0.out.move (zac _ nd none) (by simp) (by simp),(World.grownBy_alloc W _ _).trans (zac _ nd _),(Bk.fresh W netZ 53).move (zac _ nd none) (by simp),?_⟩
  show (W.alloc (.cells netZ 53)).heap.size=_
  simp
 clear hw HH0
 obtain ⟨c0,c1,c2⟩:=H1.out.1.cells
 have fz:=H1.out.1.free 1
 have hsz1:=H1.out.2.2.2
 obtain ⟨w2,HW2⟩:∃w,Hid (w=(w1.setCell ⟨pb,1,none⟩ (.int .i64 (k+1))).alloc (.cells #[.int .i64 2,.int .i64 0,.slice none 0 0,.slice none 0 0] 53)):=⟨_,rfl⟩
 have HL0:Hid (zfs W pb g cap L n 2 (k+1) n w2):=by
  rw [HW2.out]
  have hs:(w1.setCell ⟨pb,1,none⟩ (.int .i64 (k+1))).heap.size=W.heap.size+1:=by simp [World.setCell,hsz1]
  have GA:=World.grownBy_alloc (w1.setCell ⟨pb,1,none⟩ (.int .i64 (k+1))) (.cells #[.int .i64 2,.int .i64 0,.slice none 0 0,.slice none 0 0] 53)
  refine ⟨[],k+1,[],none,0,0,false,(H1.out.2.2.1.move (zab _ pb 1 _) (by simp;omega)).move (GA none) (by simp),?_,(H1.out.1.put (k+1)).move (GA none) (by simp) (by simp),(H1.out.2.1.andThen (row':=some pb) (zab _ pb 1 _) (fun j hj=>.inr hj)).trans (GA _),fun _=>⟨RowOwn.nil _ _ _ _ _,List.nodup_nil,⟨by simp,by omega⟩,by omega,Nat.le_refl _,Nat.le_refl _,by cases zag L n (k+1)<;>simp⟩,fun h=>by cases h⟩
  have:=Bk.fresh (w1.setCell ⟨pb,1,none⟩ (.int .i64 (k+1))) #[.int .i64 2,.int .i64 0,.slice none 0 0,.slice none 0 0] 53
  rw [hs] at this
  exact this
 go_wp2_with fail
 go_loopg [] n (fun gk wr=>Hid (zfs W pb g cap L n 2 (k+1) gk wr))
 case atStart=>have hz:=HL0;rw [HW2.out] at hz;exact hz
 case round =>
  clear HL0 HW2 c0 c1 c2 fz H1
  obtain ⟨ts,k',F,s,sl,sc,bad,hb2,hb6,hI,hG,hgood,hbad⟩:=hrel.out
  have hl6:=hb6.lt
  cases bad with
  | true =>
   obtain ⟨c0,c1,c2⟩:=hI.cells
   have P2:=hb2
   have P6:=hb6
   have y0:=P6.cell 0
   have y1:=P6.cell 1
   have y2:=P6.cell 2
   have y3:=P6.cell 3
   have z0:=P2.cell 0
   have z1:=P2.cell 1
   have z2:=P2.cell 2
   have z3:=P2.cell 3
   have f0:=P2.free 0
   have f1:=P2.free 1
   have f2:=P2.free 2
   have f3:=P2.free 3
   have B4w:B4 wr W.heap.size (.int .i64 0) (.int .i64 0) (.slice none 0 0) (.slice none 0 0) 53:=P2
   obtain ⟨q0',q1,q2,q3⟩:=(B4w.put (.int .i64 2) (.int .i64 0) (.slice none 0 0) (.slice s sl sc)).cells
   have HF:Hid (SNet W pb g cap L (n+1) k (.returned (.agg #[.int .i64 2,.int .i64 0,.slice none 0 0,.slice s sl sc])) (W4 wr W.heap.size (.int .i64 2) (.int .i64 0) (.slice none 0 0) (.slice s sl sc))):=by
    exact .inr ⟨k',2,0,none,0,0,s,sl,sc,by rw [HQ.out,hbad rfl];rfl,rfl,hI.move (W4.grown _ W.heap.size _ _ _ _) (by simp;omega) (by simp;omega),hG.andThen (W4.grown _ W.heap.size _ _ _ _) (fun j hj=>.inl (by simp at hj;omega))⟩
   simp at y0 y1 y2 y3 z0 z1 z2 z3
   unfold W4 at HF q0' q1 q2 q3
   clear P2 P6 B4w hb2 hb6 hI hG hgood hbad hrel HQ
   go_wp2
   exact bodyPost_ret (v:=.agg #[.int .i64 2,.int .i64 0,.slice none 0 0,.slice s sl sc]) (by simp [results,Tryz.results79,go_sem,q0',q1,q2,q3]) rfl HF.out
  | false =>
   have HB:Hid (Bk wr W.heap.size netZ 53∧Bk wr (W.heap.size+1) #[.int .i64 2,.int .i64 0,.slice none 0 0,.slice s sl sc] 53∧InS wr pb g cap L k' false∧W.grownBy wr (some pb)):=⟨hb2,hb6,hI,hG⟩
   have HR:Hid (RowOwn wr (W.heap.size+2) 53 4 (NetOwn wr (W.heap.size+2) n) F (.slice s sl sc) ts∧F.Nodup∧(ts.length≤k'∧k'≤L.length)∧2*(L.length-k')+1<gk∧gk≤n∧k+1≤k'∧zag L n (k+1)=(zag L gk k').map fun u=>(ts++u.1,u.2)):=hgood rfl
   obtain ⟨m,rfl⟩:∃m,gk=m+1:=⟨gk-1,by have:=HR.out.2.2.2.1;omega⟩
   obtain ⟨c0,c1,c2⟩:=hI.cells
   clear hb2 hb6 hG hgood hbad hrel hI
   go_wp2_with fail
   refine (zdn wr pb g cap k' L false ⟨#[41]⟩ HB.out.2.2.1 (by rw [Lib.toList_data];simp)).mono ?_
   intro e w3 hT
   unfold TkS at hT
   obtain ⟨he,hI3,hG3⟩:=hT
   by_cases h9:kAt L k'=9
   ·have e9:=word_end.2 h9
    rw [if_pos e9] at hI3
    rw [e9,beq_self_eq_true] at he
    subst he
    have P2:=HB.out.1.move hG3 (by simp;omega)
    have P6:=HB.out.2.1.move hG3 (by simp;omega)
    have y0:=P6.cell 0
    have y1:=P6.cell 1
    have y2:=P6.cell 2
    have y3:=P6.cell 3
    have z0:=P2.cell 0
    have z1:=P2.cell 1
    have z2:=P2.cell 2
    have z3:=P2.cell 3
    have f0:=P2.free 0
    have f1:=P2.free 1
    have f2:=P2.free 2
    have f3:=P2.free 3
    have B4w:B4 w3 W.heap.size (.int .i64 0) (.int .i64 0) (.slice none 0 0) (.slice none 0 0) 53:=P2
    obtain ⟨q0',q1,q2,q3⟩:=(B4w.put (.int .i64 2) (.int .i64 0) (.slice none 0 0) (.slice s sl sc)).cells
    have HF:Hid (SNet W pb g cap L (n+1) k (.returned (.agg #[.int .i64 2,.int .i64 0,.slice none 0 0,.slice s sl sc])) (W4 w3 W.heap.size (.int .i64 2) (.int .i64 0) (.slice none 0 0) (.slice s sl sc))):=by
     have hlt:=RowOwn.lt HR.out.1 (fun f x c h=>NetOwn.lt n f x c h)
     refine .inl ⟨.mk 2 ⟨0,[]⟩ ts,k'+1,F,2,0,none,0,0,s,sl,sc,?_,by have:=HR.out.2.2.2.2.2.1;omega,rfl,⟨_,_,[],F,rfl,by simp,zcr _ _,?_⟩,HR.out.2.1,hI3.move (W4.grown _ W.heap.size _ _ _ _) (by simp;omega) (by simp;omega),(HB.out.2.2.2.trans hG3).andThen (W4.grown _ W.heap.size _ _ _ _) (fun j hj=>.inl (by simp at hj;omega))⟩
     ·rw [HQ.out,HR.out.2.2.2.2.2.2,zag,if_pos h9]
      simp
     ·exact RowOwn.base (RowOwn.move (RowOwn.move HR.out.1 hG3 (fun b hb=>by have:=hlt b hb;simp;omega) fun f x c hf h=>NetOwn.move hG3 n n (Nat.le_refl _) f x c hf h) (W4.grown _ W.heap.size _ _ _ _) (fun b hb=>by have:=hlt b hb;simp;omega) fun f x c hf h=>NetOwn.move (W4.grown _ W.heap.size _ _ _ _) n n (Nat.le_refl _) f x c hf h) (by omega) fun f x c h=>NetOwn.base (by omega) n f x c h
    simp at y0 y1 y2 y3 z0 z1 z2 z3
    unfold W4 at HF q0' q1 q2 q3
    clear P2 P6 B4w hI3 hG3 HB HR HQ h9
    go_wp2
    exact bodyPost_ret (v:=.agg #[.int .i64 2,.int .i64 0,.slice none 0 0,.slice s sl sc]) (by simp [results,Tryz.results79,go_sem,q0',q1,q2,q3]) rfl HF.out
   ·have e9:¬(wAt L k').toList=(⟨#[41]⟩:ByteArray).toList:=fun h=>h9 (word_end.1 h)
    rw [if_neg e9] at hI3
    rw [show ((wAt L k').toList==(⟨#[41]⟩:ByteArray).toList)=false from by rw [beq_eq_false_iff_ne];exact e9] at he
    subst he
    have hl3:W.heap.size+1<w3.heap.size:=by have:=hG3.size;omega
    have hlt:=RowOwn.lt HR.out.1 (fun f x c h=>NetOwn.lt n f x c h)
    have kle:ts.length≤4194304:=by have:=HR.out.2.2.1;omega
    have HB3:Hid (Bk w3 W.heap.size netZ 53∧Bk w3 (W.heap.size+1) #[.int .i64 2,.int .i64 0,.slice none 0 0,.slice s sl sc] 53∧InS w3 pb g cap L k' false∧W.grownBy w3 (some pb)):=⟨HB.out.1.move hG3 (by simp;omega),HB.out.2.1.move hG3 (by simp;omega),hI3,HB.out.2.2.2.trans hG3⟩
    have HR3:Hid (RowOwn w3 (W.heap.size+2) 53 4 (NetOwn w3 (W.heap.size+2) n) F (.slice s sl sc) ts):=RowOwn.move HR.out.1 hG3 (fun b hb=>by have:=hlt b hb;simp;omega) fun f x c hf h=>NetOwn.move hG3 n n (Nat.le_refl _) f x c hf h
    have HRr:Hid (F.Nodup∧(ts.length≤k'∧k'≤L.length)∧2*(L.length-k')+1<m+1∧m+1≤n∧k+1≤k'∧zag L n (k+1)=(zag L (m+1) k').map fun u=>(ts++u.1,u.2)):=HR.out.2
    have H9:Hid (kAt L k'≠9):=h9
    clear hI3 hG3 hlt HB HR e9 h9 c0 c1 c2
    have zz:=HB3.out.2.1.cell 3
    simp at zz
    obtain ⟨cs,F',hE,hOw,hF⟩:=HR3.out
    have HE:Hid (Each (NetOwn w3 (W.heap.size+2) n) 4 F' ts cs∧F=(Value.slice s sl sc).ownBlock.toList++F'∧w3.ownsRow (W.heap.size+2) 53 4 (.slice s sl sc) ts.length cs):=⟨hE,hF,hOw⟩
    have HOb:Hid (∀j,(Value.slice s sl sc).ownBlock=some j→W.heap.size+2≤j∧j<w3.heap.size):=fun j hj=>RowOwn.lt HR3.out (fun f x c h=>NetOwn.lt n f x c h) j (by rw [hF,hj];simp)
    have HNa:Hid (Calls Tryz.prog 79 #[.pointer (some ⟨pb,0,none⟩)] w3.drew fun e w5=>∃bad k2 t f x y p pl pc r rl rc,e=.returned (.agg #[.int .i64 x,.int .i64 y,.slice p pl pc,.slice r rl rc])∧zfg w3 pb g cap L m k' w5 bad k2 t f x y p pl pc r rl rc):=by
     refine (HN.out w3.drew k' m (by have:=HRr.out.2.2.2.1;omega) (HB3.out.2.2.1.move (zaz w3 none) (by simp) (by simp)) (by show g<w3.heap.size;omega) (by have:=HRr.out.2.2.1;omega)).mono ?_
     intro e w5 h5
     obtain ⟨bad,k2,t,f,x,y,p,pl,pc,r,rl,rc,h6,h7,h8,h9,h10⟩:=zgr h5
     exact ⟨bad,k2,t,f,x,y,p,pl,pc,r,rl,rc,h6,h7,(zaz w3 _).trans h8,h9,h10⟩
    have HX:Hid (∀(w5:World) bad k2 t f x y p pl pc r rl rc,zfg w3 pb g cap L m k' w5 bad k2 t f x y p pl pc r rl rc→w5.cell? ⟨W.heap.size+1,3,none⟩=some (.slice s sl sc)∧(w5.alloc (.cells #[.int .i64 x,.int .i64 y,.slice p pl pc,.slice r rl rc] 53)).cell? ⟨W.heap.size+1,3,none⟩=some (.slice s sl sc)∧(w5.alloc (.cells #[.int .i64 x,.int .i64 y,.slice p pl pc,.slice r rl rc] 53)).ownsRow (W.heap.size+2) 53 4 (.slice s sl sc) ts.length cs∧W.heap.size+2≤w5.heap.size ∧
      (∀(q:Nat)(v:Value),([.int .i64 x,.int .i64 y,.slice p pl pc,.slice r rl rc]:List Value)[q]?=some v→(w5.alloc (.cells #[.int .i64 x,.int .i64 y,.slice p pl pc,.slice r rl rc] 53)).cell? ((⟨w5.heap.size,0,none⟩:Addr).add q)=some v)):=by
     intro w5 bad k2 t f x y p pl pc r rl rc h5
     have B5:=HB3.out.2.1.move h5.2.1 (by simp;omega)
     have B5a:=B5.move (World.grownBy_alloc w5 (.cells #[.int .i64 x,.int .i64 y,.slice p pl pc,.slice r rl rc] 53) none) (by simp)
     refine ⟨by have:=B5.cell 3;simpa using this,by have:=B5a.cell 3;simpa using this,World.ownsRow.alloc (HE.out.2.2.kept h5.2.1 ?_) _,by have:=h5.2.1.size;omega,?_⟩
     ·cases hv:(Value.slice s sl sc).ownBlock with
      | none=>exact .inl rfl
      | some b=>exact .inr (by have:=HOb.out b hv;simp;omega)
     ·intro q v hq
      match q with
      | 0=>simp at hq;subst hq;simp [Addr.add]
      | 1=>simp at hq;subst hq;simp [Addr.add]
      | 2=>simp at hq;subst hq;simp [Addr.add]
      | 3=>simp at hq;subst hq;simp [Addr.add]
      | (j+4)=>simp at hq
    have HY:Hid (∀(w5:World) bad k2 t f x y p pl pc r rl rc (g1 cap1:Nat) (w6:World),zfg w3 pb g cap L m k' w5 bad k2 t f x y p pl pc r rl rc→w6.ownsRow (W.heap.size+2) 53 4 (.slice (some ⟨g1,0,none⟩) (ts.length+1) cap1) (ts.length+1) (cs++[.int .i64 x,.int .i64 y,.slice p pl pc,.slice r rl rc])→(w5.alloc (.cells #[.int .i64 x,.int .i64 y,.slice p pl pc,.slice r rl rc] 53)).grownBy w6 (Value.slice s sl sc).ownBlock→((Value.slice s sl sc).ownBlock=some g1∨g1=(w5.alloc (.cells #[.int .i64 x,.int .i64 y,.slice p pl pc,.slice r rl rc] 53)).heap.size) →
      w6.cell? ⟨W.heap.size+1,3,none⟩=some (.slice s sl sc)∧w6.frozen? ⟨W.heap.size+1,3,none⟩=false∧zfs W pb g cap L n 2 (k+1) m (w6.setCell ⟨W.heap.size+1,3,none⟩ (.slice (some ⟨g1,0,none⟩) (ts.length+1) cap1))):=by
     intro w5 bad k2 t f x y p pl pc r rl rc g1 cap1 w6 h5 h6 h7 h8
     have B5:=HB3.out.2.1.move h5.2.1 (by simp;omega)
     have B6:=B5.move ((World.grownBy_alloc w5 (.cells #[.int .i64 x,.int .i64 y,.slice p pl pc,.slice r rl rc] 53) _).trans h7) (fun e=>by have:=(HOb.out _ e.symm).1;omega)
     refine ⟨by have:=B6.cell 3;simpa using this,B6.free 3,?_⟩
     exact zft HB3.out.1 HB3.out.2.1 HB3.out.2.2.2 HR3.out HRr.out.1 HRr.out.2.1.1 HRr.out.2.2.1 HRr.out.2.2.2.1 HRr.out.2.2.2.2.1 HRr.out.2.2.2.2.2 H9.out h5 HE.out.1 HE.out.2.1 h6 h7 (h8.imp id fun e=>e.trans (by simp)) hpl hgl
    have hTs:=kle
    clear hE hOw hF HB3 HR3 HRr H9 HE HOb HN
    go_upto_region 19 with fail
    go_region_law
     (first
      | (go_simp;(with_reducible refine HNa.out.mono ?_);rintro e w5 ⟨bad,k2,t,f,x,y,p,pl,pc,r,rl,rc,rfl,hSN⟩;have HSN:Hid (zfg w3 pb g cap L m k' w5 bad k2 t f x y p pl pc r rl rc):=hSN;obtain ⟨zz5,zz6,own5,hs5,news5⟩:=HX.out w5 bad k2 t f x y p pl pc r rl rc hSN;clear hSN;dsimp only)
      | (refine step_append_lies _ (by rfl) (.tmp 65) (.tmp 68) 51 (by rfl) (W.heap.size+2) 53 i0 (.agg #[.int .i64 0,.int .i64 0,.slice none 0 0,.slice none 0 0]) 4 64 Tryz.underlying51 HI.out.1 HI.out.2.1 HI.out.2.2.1 HI.out.2.2.2 (by rfl) (by decide) (.slice s sl sc) ts.length cs (by rfl) own5 ⟨w5.heap.size,0,none⟩ 1 1 [.int .i64 x,.int .i64 y,.slice p pl pc,.slice r rl rc] (by rfl) (by rfl) news5 (by intro v hu;simp at hu;rcases hu with rfl|rfl|rfl|rfl<;>rfl) (by omega) (by unfold maxLen;omega) (by omega) (by simp;omega) _ rfl ?_;intro g1 cap1 w6 own6 gg6 hat6 hlt6;obtain ⟨zz7,ff7,hSL⟩:=HY.out w5 bad k2 t f x y p pl pc r rl rc g1 cap1 w6 HSN.out own6 gg6 hat6;have HSL:Hid (zfs W pb g cap L n 2 (k+1) m (w6.setCell ⟨W.heap.size+1,3,none⟩ (.slice (some ⟨g1,0,none⟩) (ts.length+1) cap1))):=hSL;clear hSL own6 gg6 hat6 hlt6)
      | fail)
    all_goals go_wp2
    all_goals go_roundg m
    all_goals first|omega|exact HSL
set_option maxRecDepth 10000 in
theorem snet_d3(W0 W:World)(pb g cap:Nat)(L:List ByteArray)(n k:Nat)(h:InS W pb g cap L k false)(hgl:g<W.heap.size)(hn:2*(L.length-k)<n+1)(hq:kAt L k=3)
  (HN:Hid (∀W' k m,m<n→InS W' pb g cap L k false→g<W'.heap.size→2*(L.length-k)<m→Calls Tryz.prog 79 #[.pointer (some ⟨pb,0,none⟩)] W' fun e w'=>SNet W' pb g cap L m k e w')) :
  Calls Tryz.prog 79 #[.pointer (some ⟨pb,0,none⟩)] W fun e w'=>SNet W pb g cap L (n+1) k e w':=by
 have hinfo:(Tryz.prog.info? 53).map (fun i=>(i.zero,i.size,i.bytes))=some (some (.agg #[.int .i64 0,.int .i64 0,.slice none 0 0,.slice none 0 0]),4,64):=by kernel_rfl
 obtain ⟨i0,hi,hzz⟩:=Option.map_eq_some_iff.1 hinfo
 simp only [Prod.mk.injEq] at hzz
 obtain ⟨hz0,hz1,hz2⟩:=hzz
 have HI:Hid (Tryz.prog.info? 53=some i0∧i0.zero=some (.agg #[.int .i64 0,.int .i64 0,.slice none 0 0,.slice none 0 0])∧i0.size=4∧i0.bytes=64):=⟨hi,hz0,hz1,hz2⟩
 clear hi hz0 hz1 hz2 hinfo
 obtain ⟨hkl,b1,b2,b3⟩:=zfv hq (by decide)
 have hpl:=h.lt
 have hl4:=h.2.2.2
 have HQ:Hid (zav L (n+1) k=(zag L n (k+1)).map fun r=>(.mk 3 ⟨0,[]⟩ r.1,r.2)):=by
  show zav L (n+1) k=_
  rw [zav,hq,if_pos (by decide)]
 have HH0:Hid (InS (W.alloc (.cells netZ 53)) pb g cap L k false):=h.move (World.grownBy_alloc W _ none) (by simp) (by simp)
 clear h hq
 simp at b1 b2 b3
 go_enter Tryz.func79,Tryz.ntmps79
 go_wp2_with fail
 refine (zdx _ pb g cap k L false HH0.out).mono ?_
 rintro e w1 ⟨rfl,nd,hw⟩
 have H1:Hid (InS w1 pb g cap L k false∧W.grownBy w1 (some pb)∧Bk w1 W.heap.size netZ 53∧w1.heap.size=W.heap.size+1):=by
  subst hw
  refine ⟨HH0.out.move (zac _ nd none) (by simp) (by simp),(World.grownBy_alloc W _ _).trans (zac _ nd _),(Bk.fresh W netZ 53).move (zac _ nd none) (by simp),?_⟩
  show (W.alloc (.cells netZ 53)).heap.size=_
  simp
 clear hw HH0
 obtain ⟨c0,c1,c2⟩:=H1.out.1.cells
 have fz:=H1.out.1.free 1
 have hsz1:=H1.out.2.2.2
 obtain ⟨w2,HW2⟩:∃w,Hid (w=(w1.setCell ⟨pb,1,none⟩ (.int .i64 (k+1))).alloc (.cells #[.int .i64 3,.int .i64 0,.slice none 0 0,.slice none 0 0] 53)):=⟨_,rfl⟩
 have HL0:Hid (zfs W pb g cap L n 3 (k+1) n w2):=by
  rw [HW2.out]
  have hs:(w1.setCell ⟨pb,1,none⟩ (.int .i64 (k+1))).heap.size=W.heap.size+1:=by simp [World.setCell,hsz1]
  have GA:=World.grownBy_alloc (w1.setCell ⟨pb,1,none⟩ (.int .i64 (k+1))) (.cells #[.int .i64 3,.int .i64 0,.slice none 0 0,.slice none 0 0] 53)
  refine ⟨[],k+1,[],none,0,0,false,(H1.out.2.2.1.move (zab _ pb 1 _) (by simp;omega)).move (GA none) (by simp),?_,(H1.out.1.put (k+1)).move (GA none) (by simp) (by simp),(H1.out.2.1.andThen (row':=some pb) (zab _ pb 1 _) (fun j hj=>.inr hj)).trans (GA _),fun _=>⟨RowOwn.nil _ _ _ _ _,List.nodup_nil,⟨by simp,by omega⟩,by omega,Nat.le_refl _,Nat.le_refl _,by cases zag L n (k+1)<;>simp⟩,fun h=>by cases h⟩
  have:=Bk.fresh (w1.setCell ⟨pb,1,none⟩ (.int .i64 (k+1))) #[.int .i64 3,.int .i64 0,.slice none 0 0,.slice none 0 0] 53
  rw [hs] at this
  exact this
 go_wp2_with fail
 go_loopg [] n (fun gk wr=>Hid (zfs W pb g cap L n 3 (k+1) gk wr))
 case atStart=>have hz:=HL0;rw [HW2.out] at hz;exact hz
 case round =>
  clear HL0 HW2 c0 c1 c2 fz H1
  obtain ⟨ts,k',F,s,sl,sc,bad,hb2,hb6,hI,hG,hgood,hbad⟩:=hrel.out
  have hl6:=hb6.lt
  cases bad with
  | true =>
   obtain ⟨c0,c1,c2⟩:=hI.cells
   have P2:=hb2
   have P6:=hb6
   have y0:=P6.cell 0
   have y1:=P6.cell 1
   have y2:=P6.cell 2
   have y3:=P6.cell 3
   have z0:=P2.cell 0
   have z1:=P2.cell 1
   have z2:=P2.cell 2
   have z3:=P2.cell 3
   have f0:=P2.free 0
   have f1:=P2.free 1
   have f2:=P2.free 2
   have f3:=P2.free 3
   have B4w:B4 wr W.heap.size (.int .i64 0) (.int .i64 0) (.slice none 0 0) (.slice none 0 0) 53:=P2
   obtain ⟨q0',q1,q2,q3⟩:=(B4w.put (.int .i64 3) (.int .i64 0) (.slice none 0 0) (.slice s sl sc)).cells
   have HF:Hid (SNet W pb g cap L (n+1) k (.returned (.agg #[.int .i64 3,.int .i64 0,.slice none 0 0,.slice s sl sc])) (W4 wr W.heap.size (.int .i64 3) (.int .i64 0) (.slice none 0 0) (.slice s sl sc))):=by
    exact .inr ⟨k',3,0,none,0,0,s,sl,sc,by rw [HQ.out,hbad rfl];rfl,rfl,hI.move (W4.grown _ W.heap.size _ _ _ _) (by simp;omega) (by simp;omega),hG.andThen (W4.grown _ W.heap.size _ _ _ _) (fun j hj=>.inl (by simp at hj;omega))⟩
   simp at y0 y1 y2 y3 z0 z1 z2 z3
   unfold W4 at HF q0' q1 q2 q3
   clear P2 P6 B4w hb2 hb6 hI hG hgood hbad hrel HQ
   go_wp2
   exact bodyPost_ret (v:=.agg #[.int .i64 3,.int .i64 0,.slice none 0 0,.slice s sl sc]) (by simp [results,Tryz.results79,go_sem,q0',q1,q2,q3]) rfl HF.out
  | false =>
   have HB:Hid (Bk wr W.heap.size netZ 53∧Bk wr (W.heap.size+1) #[.int .i64 3,.int .i64 0,.slice none 0 0,.slice s sl sc] 53∧InS wr pb g cap L k' false∧W.grownBy wr (some pb)):=⟨hb2,hb6,hI,hG⟩
   have HR:Hid (RowOwn wr (W.heap.size+2) 53 4 (NetOwn wr (W.heap.size+2) n) F (.slice s sl sc) ts∧F.Nodup∧(ts.length≤k'∧k'≤L.length)∧2*(L.length-k')+1<gk∧gk≤n∧k+1≤k'∧zag L n (k+1)=(zag L gk k').map fun u=>(ts++u.1,u.2)):=hgood rfl
   obtain ⟨m,rfl⟩:∃m,gk=m+1:=⟨gk-1,by have:=HR.out.2.2.2.1;omega⟩
   obtain ⟨c0,c1,c2⟩:=hI.cells
   clear hb2 hb6 hG hgood hbad hrel hI
   go_wp2_with fail
   refine (zdn wr pb g cap k' L false ⟨#[41]⟩ HB.out.2.2.1 (by rw [Lib.toList_data];simp)).mono ?_
   intro e w3 hT
   unfold TkS at hT
   obtain ⟨he,hI3,hG3⟩:=hT
   by_cases h9:kAt L k'=9
   ·have e9:=word_end.2 h9
    rw [if_pos e9] at hI3
    rw [e9,beq_self_eq_true] at he
    subst he
    have P2:=HB.out.1.move hG3 (by simp;omega)
    have P6:=HB.out.2.1.move hG3 (by simp;omega)
    have y0:=P6.cell 0
    have y1:=P6.cell 1
    have y2:=P6.cell 2
    have y3:=P6.cell 3
    have z0:=P2.cell 0
    have z1:=P2.cell 1
    have z2:=P2.cell 2
    have z3:=P2.cell 3
    have f0:=P2.free 0
    have f1:=P2.free 1
    have f2:=P2.free 2
    have f3:=P2.free 3
    have B4w:B4 w3 W.heap.size (.int .i64 0) (.int .i64 0) (.slice none 0 0) (.slice none 0 0) 53:=P2
    obtain ⟨q0',q1,q2,q3⟩:=(B4w.put (.int .i64 3) (.int .i64 0) (.slice none 0 0) (.slice s sl sc)).cells
    have HF:Hid (SNet W pb g cap L (n+1) k (.returned (.agg #[.int .i64 3,.int .i64 0,.slice none 0 0,.slice s sl sc])) (W4 w3 W.heap.size (.int .i64 3) (.int .i64 0) (.slice none 0 0) (.slice s sl sc))):=by
     have hlt:=RowOwn.lt HR.out.1 (fun f x c h=>NetOwn.lt n f x c h)
     refine .inl ⟨.mk 3 ⟨0,[]⟩ ts,k'+1,F,3,0,none,0,0,s,sl,sc,?_,by have:=HR.out.2.2.2.2.2.1;omega,rfl,⟨_,_,[],F,rfl,by simp,zcr _ _,?_⟩,HR.out.2.1,hI3.move (W4.grown _ W.heap.size _ _ _ _) (by simp;omega) (by simp;omega),(HB.out.2.2.2.trans hG3).andThen (W4.grown _ W.heap.size _ _ _ _) (fun j hj=>.inl (by simp at hj;omega))⟩
     ·rw [HQ.out,HR.out.2.2.2.2.2.2,zag,if_pos h9]
      simp
     ·exact RowOwn.base (RowOwn.move (RowOwn.move HR.out.1 hG3 (fun b hb=>by have:=hlt b hb;simp;omega) fun f x c hf h=>NetOwn.move hG3 n n (Nat.le_refl _) f x c hf h) (W4.grown _ W.heap.size _ _ _ _) (fun b hb=>by have:=hlt b hb;simp;omega) fun f x c hf h=>NetOwn.move (W4.grown _ W.heap.size _ _ _ _) n n (Nat.le_refl _) f x c hf h) (by omega) fun f x c h=>NetOwn.base (by omega) n f x c h
    simp at y0 y1 y2 y3 z0 z1 z2 z3
    unfold W4 at HF q0' q1 q2 q3
    clear P2 P6 B4w hI3 hG3 HB HR HQ h9
    go_wp2
    exact bodyPost_ret (v:=.agg #[.int .i64 3,.int .i64 0,.slice none 0 0,.slice s sl sc]) (by simp [results,Tryz.results79,go_sem,q0',q1,q2,q3]) rfl HF.out
   ·have e9:¬(wAt L k').toList=(⟨#[41]⟩:ByteArray).toList:=fun h=>h9 (word_end.1 h)
    rw [if_neg e9] at hI3
    rw [show ((wAt L k').toList==(⟨#[41]⟩:ByteArray).toList)=false from by rw [beq_eq_false_iff_ne];exact e9] at he
    subst he
    have hl3:W.heap.size+1<w3.heap.size:=by have:=hG3.size;omega
    have hlt:=RowOwn.lt HR.out.1 (fun f x c h=>NetOwn.lt n f x c h)
    have kle:ts.length≤4194304:=by have:=HR.out.2.2.1;omega
    have HB3:Hid (Bk w3 W.heap.size netZ 53∧Bk w3 (W.heap.size+1) #[.int .i64 3,.int .i64 0,.slice none 0 0,.slice s sl sc] 53∧InS w3 pb g cap L k' false∧W.grownBy w3 (some pb)):=⟨HB.out.1.move hG3 (by simp;omega),HB.out.2.1.move hG3 (by simp;omega),hI3,HB.out.2.2.2.trans hG3⟩
    have HR3:Hid (RowOwn w3 (W.heap.size+2) 53 4 (NetOwn w3 (W.heap.size+2) n) F (.slice s sl sc) ts):=RowOwn.move HR.out.1 hG3 (fun b hb=>by have:=hlt b hb;simp;omega) fun f x c hf h=>NetOwn.move hG3 n n (Nat.le_refl _) f x c hf h
    have HRr:Hid (F.Nodup∧(ts.length≤k'∧k'≤L.length)∧2*(L.length-k')+1<m+1∧m+1≤n∧k+1≤k'∧zag L n (k+1)=(zag L (m+1) k').map fun u=>(ts++u.1,u.2)):=HR.out.2
    have H9:Hid (kAt L k'≠9):=h9
    clear hI3 hG3 hlt HB HR e9 h9 c0 c1 c2
    have zz:=HB3.out.2.1.cell 3
    simp at zz
    obtain ⟨cs,F',hE,hOw,hF⟩:=HR3.out
    have HE:Hid (Each (NetOwn w3 (W.heap.size+2) n) 4 F' ts cs∧F=(Value.slice s sl sc).ownBlock.toList++F'∧w3.ownsRow (W.heap.size+2) 53 4 (.slice s sl sc) ts.length cs):=⟨hE,hF,hOw⟩
    have HOb:Hid (∀j,(Value.slice s sl sc).ownBlock=some j→W.heap.size+2≤j∧j<w3.heap.size):=fun j hj=>RowOwn.lt HR3.out (fun f x c h=>NetOwn.lt n f x c h) j (by rw [hF,hj];simp)
    have HNa:Hid (Calls Tryz.prog 79 #[.pointer (some ⟨pb,0,none⟩)] w3.drew fun e w5=>∃bad k2 t f x y p pl pc r rl rc,e=.returned (.agg #[.int .i64 x,.int .i64 y,.slice p pl pc,.slice r rl rc])∧zfg w3 pb g cap L m k' w5 bad k2 t f x y p pl pc r rl rc):=by
     refine (HN.out w3.drew k' m (by have:=HRr.out.2.2.2.1;omega) (HB3.out.2.2.1.move (zaz w3 none) (by simp) (by simp)) (by show g<w3.heap.size;omega) (by have:=HRr.out.2.2.1;omega)).mono ?_
     intro e w5 h5
     obtain ⟨bad,k2,t,f,x,y,p,pl,pc,r,rl,rc,h6,h7,h8,h9,h10⟩:=zgr h5
     exact ⟨bad,k2,t,f,x,y,p,pl,pc,r,rl,rc,h6,h7,(zaz w3 _).trans h8,h9,h10⟩
    have HX:Hid (∀(w5:World) bad k2 t f x y p pl pc r rl rc,zfg w3 pb g cap L m k' w5 bad k2 t f x y p pl pc r rl rc→w5.cell? ⟨W.heap.size+1,3,none⟩=some (.slice s sl sc)∧(w5.alloc (.cells #[.int .i64 x,.int .i64 y,.slice p pl pc,.slice r rl rc] 53)).cell? ⟨W.heap.size+1,3,none⟩=some (.slice s sl sc)∧(w5.alloc (.cells #[.int .i64 x,.int .i64 y,.slice p pl pc,.slice r rl rc] 53)).ownsRow (W.heap.size+2) 53 4 (.slice s sl sc) ts.length cs∧W.heap.size+2≤w5.heap.size ∧
      (∀(q:Nat)(v:Value),([.int .i64 x,.int .i64 y,.slice p pl pc,.slice r rl rc]:List Value)[q]?=some v→(w5.alloc (.cells #[.int .i64 x,.int .i64 y,.slice p pl pc,.slice r rl rc] 53)).cell? ((⟨w5.heap.size,0,none⟩:Addr).add q)=some v)):=by
     intro w5 bad k2 t f x y p pl pc r rl rc h5
     have B5:=HB3.out.2.1.move h5.2.1 (by simp;omega)
     have B5a:=B5.move (World.grownBy_alloc w5 (.cells #[.int .i64 x,.int .i64 y,.slice p pl pc,.slice r rl rc] 53) none) (by simp)
     refine ⟨by have:=B5.cell 3;simpa using this,by have:=B5a.cell 3;simpa using this,World.ownsRow.alloc (HE.out.2.2.kept h5.2.1 ?_) _,by have:=h5.2.1.size;omega,?_⟩
     ·cases hv:(Value.slice s sl sc).ownBlock with
      | none=>exact .inl rfl
      | some b=>exact .inr (by have:=HOb.out b hv;simp;omega)
     ·intro q v hq
      match q with
      | 0=>simp at hq;subst hq;simp [Addr.add]
      | 1=>simp at hq;subst hq;simp [Addr.add]
      | 2=>simp at hq;subst hq;simp [Addr.add]
      | 3=>simp at hq;subst hq;simp [Addr.add]
      | (j+4)=>simp at hq
    have HY:Hid (∀(w5:World) bad k2 t f x y p pl pc r rl rc (g1 cap1:Nat) (w6:World),zfg w3 pb g cap L m k' w5 bad k2 t f x y p pl pc r rl rc→w6.ownsRow (W.heap.size+2) 53 4 (.slice (some ⟨g1,0,none⟩) (ts.length+1) cap1) (ts.length+1) (cs++[.int .i64 x,.int .i64 y,.slice p pl pc,.slice r rl rc])→(w5.alloc (.cells #[.int .i64 x,.int .i64 y,.slice p pl pc,.slice r rl rc] 53)).grownBy w6 (Value.slice s sl sc).ownBlock→((Value.slice s sl sc).ownBlock=some g1∨g1=(w5.alloc (.cells #[.int .i64 x,.int .i64 y,.slice p pl pc,.slice r rl rc] 53)).heap.size) →
      w6.cell? ⟨W.heap.size+1,3,none⟩=some (.slice s sl sc)∧w6.frozen? ⟨W.heap.size+1,3,none⟩=false∧zfs W pb g cap L n 3 (k+1) m (w6.setCell ⟨W.heap.size+1,3,none⟩ (.slice (some ⟨g1,0,none⟩) (ts.length+1) cap1))):=by
     intro w5 bad k2 t f x y p pl pc r rl rc g1 cap1 w6 h5 h6 h7 h8
     have B5:=HB3.out.2.1.move h5.2.1 (by simp;omega)
     have B6:=B5.move ((World.grownBy_alloc w5 (.cells #[.int .i64 x,.int .i64 y,.slice p pl pc,.slice r rl rc] 53) _).trans h7) (fun e=>by have:=(HOb.out _ e.symm).1;omega)
     refine ⟨by have:=B6.cell 3;simpa using this,B6.free 3,?_⟩
     exact zft HB3.out.1 HB3.out.2.1 HB3.out.2.2.2 HR3.out HRr.out.1 HRr.out.2.1.1 HRr.out.2.2.1 HRr.out.2.2.2.1 HRr.out.2.2.2.2.1 HRr.out.2.2.2.2.2 H9.out h5 HE.out.1 HE.out.2.1 h6 h7 (h8.imp id fun e=>e.trans (by simp)) hpl hgl
    have hTs:=kle
    clear hE hOw hF HB3 HR3 HRr H9 HE HOb HN
    go_upto_region 19 with fail
    go_region_law
     (first
      | (go_simp;(with_reducible refine HNa.out.mono ?_);rintro e w5 ⟨bad,k2,t,f,x,y,p,pl,pc,r,rl,rc,rfl,hSN⟩;have HSN:Hid (zfg w3 pb g cap L m k' w5 bad k2 t f x y p pl pc r rl rc):=hSN;obtain ⟨zz5,zz6,own5,hs5,news5⟩:=HX.out w5 bad k2 t f x y p pl pc r rl rc hSN;clear hSN;dsimp only)
      | (refine step_append_lies _ (by rfl) (.tmp 65) (.tmp 68) 51 (by rfl) (W.heap.size+2) 53 i0 (.agg #[.int .i64 0,.int .i64 0,.slice none 0 0,.slice none 0 0]) 4 64 Tryz.underlying51 HI.out.1 HI.out.2.1 HI.out.2.2.1 HI.out.2.2.2 (by rfl) (by decide) (.slice s sl sc) ts.length cs (by rfl) own5 ⟨w5.heap.size,0,none⟩ 1 1 [.int .i64 x,.int .i64 y,.slice p pl pc,.slice r rl rc] (by rfl) (by rfl) news5 (by intro v hu;simp at hu;rcases hu with rfl|rfl|rfl|rfl<;>rfl) (by omega) (by unfold maxLen;omega) (by omega) (by simp;omega) _ rfl ?_;intro g1 cap1 w6 own6 gg6 hat6 hlt6;obtain ⟨zz7,ff7,hSL⟩:=HY.out w5 bad k2 t f x y p pl pc r rl rc g1 cap1 w6 HSN.out own6 gg6 hat6;have HSL:Hid (zfs W pb g cap L n 3 (k+1) m (w6.setCell ⟨W.heap.size+1,3,none⟩ (.slice (some ⟨g1,0,none⟩) (ts.length+1) cap1))):=hSL;clear hSL own6 gg6 hat6 hlt6)
      | fail)
    all_goals go_wp2
    all_goals go_roundg m
    all_goals first|omega|exact HSL
set_option maxRecDepth 10000 in
theorem snet_d4(W0 W:World)(pb g cap:Nat)(L:List ByteArray)(n k:Nat)(h:InS W pb g cap L k false)(hgl:g<W.heap.size)(hn:2*(L.length-k)<n+1)(hq:kAt L k=4)
  (HN:Hid (∀W' k m,m<n→InS W' pb g cap L k false→g<W'.heap.size→2*(L.length-k)<m→Calls Tryz.prog 79 #[.pointer (some ⟨pb,0,none⟩)] W' fun e w'=>SNet W' pb g cap L m k e w')) :
  Calls Tryz.prog 79 #[.pointer (some ⟨pb,0,none⟩)] W fun e w'=>SNet W pb g cap L (n+1) k e w':=by
 have hinfo:(Tryz.prog.info? 53).map (fun i=>(i.zero,i.size,i.bytes))=some (some (.agg #[.int .i64 0,.int .i64 0,.slice none 0 0,.slice none 0 0]),4,64):=by kernel_rfl
 obtain ⟨i0,hi,hzz⟩:=Option.map_eq_some_iff.1 hinfo
 simp only [Prod.mk.injEq] at hzz
 obtain ⟨hz0,hz1,hz2⟩:=hzz
 have HI:Hid (Tryz.prog.info? 53=some i0∧i0.zero=some (.agg #[.int .i64 0,.int .i64 0,.slice none 0 0,.slice none 0 0])∧i0.size=4∧i0.bytes=64):=⟨hi,hz0,hz1,hz2⟩
 clear hi hz0 hz1 hz2 hinfo
 obtain ⟨hkl,b1,b2,b3⟩:=zfv hq (by decide)
 have hpl:=h.lt
 have hl4:=h.2.2.2
 have HQ:Hid (zav L (n+1) k=(zag L n (k+1)).map fun r=>(.mk 4 ⟨0,[]⟩ r.1,r.2)):=by
  show zav L (n+1) k=_
  rw [zav,hq,if_pos (by decide)]
 have HH0:Hid (InS (W.alloc (.cells netZ 53)) pb g cap L k false):=h.move (World.grownBy_alloc W _ none) (by simp) (by simp)
 clear h hq
 simp at b1 b2 b3
 go_enter Tryz.func79,Tryz.ntmps79
 go_wp2_with fail
 refine (zdx _ pb g cap k L false HH0.out).mono ?_
 rintro e w1 ⟨rfl,nd,hw⟩
 have H1:Hid (InS w1 pb g cap L k false∧W.grownBy w1 (some pb)∧Bk w1 W.heap.size netZ 53∧w1.heap.size=W.heap.size+1):=by
  subst hw
  refine ⟨HH0.out.move (zac _ nd none) (by simp) (by simp),(World.grownBy_alloc W _ _).trans (zac _ nd _),(Bk.fresh W netZ 53).move (zac _ nd none) (by simp),?_⟩
  show (W.alloc (.cells netZ 53)).heap.size=_
  simp
 clear hw HH0
 obtain ⟨c0,c1,c2⟩:=H1.out.1.cells
 have fz:=H1.out.1.free 1
 have hsz1:=H1.out.2.2.2
 obtain ⟨w2,HW2⟩:∃w,Hid (w=(w1.setCell ⟨pb,1,none⟩ (.int .i64 (k+1))).alloc (.cells #[.int .i64 4,.int .i64 0,.slice none 0 0,.slice none 0 0] 53)):=⟨_,rfl⟩
 have HL0:Hid (zfs W pb g cap L n 4 (k+1) n w2):=by
  rw [HW2.out]
  have hs:(w1.setCell ⟨pb,1,none⟩ (.int .i64 (k+1))).heap.size=W.heap.size+1:=by simp [World.setCell,hsz1]
  have GA:=World.grownBy_alloc (w1.setCell ⟨pb,1,none⟩ (.int .i64 (k+1))) (.cells #[.int .i64 4,.int .i64 0,.slice none 0 0,.slice none 0 0] 53)
  refine ⟨[],k+1,[],none,0,0,false,(H1.out.2.2.1.move (zab _ pb 1 _) (by simp;omega)).move (GA none) (by simp),?_,(H1.out.1.put (k+1)).move (GA none) (by simp) (by simp),(H1.out.2.1.andThen (row':=some pb) (zab _ pb 1 _) (fun j hj=>.inr hj)).trans (GA _),fun _=>⟨RowOwn.nil _ _ _ _ _,List.nodup_nil,⟨by simp,by omega⟩,by omega,Nat.le_refl _,Nat.le_refl _,by cases zag L n (k+1)<;>simp⟩,fun h=>by cases h⟩
  have:=Bk.fresh (w1.setCell ⟨pb,1,none⟩ (.int .i64 (k+1))) #[.int .i64 4,.int .i64 0,.slice none 0 0,.slice none 0 0] 53
  rw [hs] at this
  exact this
 go_wp2_with fail
 go_loopg [] n (fun gk wr=>Hid (zfs W pb g cap L n 4 (k+1) gk wr))
 case atStart=>have hz:=HL0;rw [HW2.out] at hz;exact hz
 case round =>
  clear HL0 HW2 c0 c1 c2 fz H1
  obtain ⟨ts,k',F,s,sl,sc,bad,hb2,hb6,hI,hG,hgood,hbad⟩:=hrel.out
  have hl6:=hb6.lt
  cases bad with
  | true =>
   obtain ⟨c0,c1,c2⟩:=hI.cells
   have P2:=hb2
   have P6:=hb6
   have y0:=P6.cell 0
   have y1:=P6.cell 1
   have y2:=P6.cell 2
   have y3:=P6.cell 3
   have z0:=P2.cell 0
   have z1:=P2.cell 1
   have z2:=P2.cell 2
   have z3:=P2.cell 3
   have f0:=P2.free 0
   have f1:=P2.free 1
   have f2:=P2.free 2
   have f3:=P2.free 3
   have B4w:B4 wr W.heap.size (.int .i64 0) (.int .i64 0) (.slice none 0 0) (.slice none 0 0) 53:=P2
   obtain ⟨q0',q1,q2,q3⟩:=(B4w.put (.int .i64 4) (.int .i64 0) (.slice none 0 0) (.slice s sl sc)).cells
   have HF:Hid (SNet W pb g cap L (n+1) k (.returned (.agg #[.int .i64 4,.int .i64 0,.slice none 0 0,.slice s sl sc])) (W4 wr W.heap.size (.int .i64 4) (.int .i64 0) (.slice none 0 0) (.slice s sl sc))):=by
    exact .inr ⟨k',4,0,none,0,0,s,sl,sc,by rw [HQ.out,hbad rfl];rfl,rfl,hI.move (W4.grown _ W.heap.size _ _ _ _) (by simp;omega) (by simp;omega),hG.andThen (W4.grown _ W.heap.size _ _ _ _) (fun j hj=>.inl (by simp at hj;omega))⟩
   simp at y0 y1 y2 y3 z0 z1 z2 z3
   unfold W4 at HF q0' q1 q2 q3
   clear P2 P6 B4w hb2 hb6 hI hG hgood hbad hrel HQ
   go_wp2
   exact bodyPost_ret (v:=.agg #[.int .i64 4,.int .i64 0,.slice none 0 0,.slice s sl sc]) (by simp [results,Tryz.results79,go_sem,q0',q1,q2,q3]) rfl HF.out
  | false =>
   have HB:Hid (Bk wr W.heap.size netZ 53∧Bk wr (W.heap.size+1) #[.int .i64 4,.int .i64 0,.slice none 0 0,.slice s sl sc] 53∧InS wr pb g cap L k' false∧W.grownBy wr (some pb)):=⟨hb2,hb6,hI,hG⟩
   have HR:Hid (RowOwn wr (W.heap.size+2) 53 4 (NetOwn wr (W.heap.size+2) n) F (.slice s sl sc) ts∧F.Nodup∧(ts.length≤k'∧k'≤L.length)∧2*(L.length-k')+1<gk∧gk≤n∧k+1≤k'∧zag L n (k+1)=(zag L gk k').map fun u=>(ts++u.1,u.2)):=hgood rfl
   obtain ⟨m,rfl⟩:∃m,gk=m+1:=⟨gk-1,by have:=HR.out.2.2.2.1;omega⟩
   obtain ⟨c0,c1,c2⟩:=hI.cells
   clear hb2 hb6 hG hgood hbad hrel hI
   go_wp2_with fail
   refine (zdn wr pb g cap k' L false ⟨#[41]⟩ HB.out.2.2.1 (by rw [Lib.toList_data];simp)).mono ?_
   intro e w3 hT
   unfold TkS at hT
   obtain ⟨he,hI3,hG3⟩:=hT
   by_cases h9:kAt L k'=9
   ·have e9:=word_end.2 h9
    rw [if_pos e9] at hI3
    rw [e9,beq_self_eq_true] at he
    subst he
    have P2:=HB.out.1.move hG3 (by simp;omega)
    have P6:=HB.out.2.1.move hG3 (by simp;omega)
    have y0:=P6.cell 0
    have y1:=P6.cell 1
    have y2:=P6.cell 2
    have y3:=P6.cell 3
    have z0:=P2.cell 0
    have z1:=P2.cell 1
    have z2:=P2.cell 2
    have z3:=P2.cell 3
    have f0:=P2.free 0
    have f1:=P2.free 1
    have f2:=P2.free 2
    have f3:=P2.free 3
    have B4w:B4 w3 W.heap.size (.int .i64 0) (.int .i64 0) (.slice none 0 0) (.slice none 0 0) 53:=P2
    obtain ⟨q0',q1,q2,q3⟩:=(B4w.put (.int .i64 4) (.int .i64 0) (.slice none 0 0) (.slice s sl sc)).cells
    have HF:Hid (SNet W pb g cap L (n+1) k (.returned (.agg #[.int .i64 4,.int .i64 0,.slice none 0 0,.slice s sl sc])) (W4 w3 W.heap.size (.int .i64 4) (.int .i64 0) (.slice none 0 0) (.slice s sl sc))):=by
     have hlt:=RowOwn.lt HR.out.1 (fun f x c h=>NetOwn.lt n f x c h)
     refine .inl ⟨.mk 4 ⟨0,[]⟩ ts,k'+1,F,4,0,none,0,0,s,sl,sc,?_,by have:=HR.out.2.2.2.2.2.1;omega,rfl,⟨_,_,[],F,rfl,by simp,zcr _ _,?_⟩,HR.out.2.1,hI3.move (W4.grown _ W.heap.size _ _ _ _) (by simp;omega) (by simp;omega),(HB.out.2.2.2.trans hG3).andThen (W4.grown _ W.heap.size _ _ _ _) (fun j hj=>.inl (by simp at hj;omega))⟩
     ·rw [HQ.out,HR.out.2.2.2.2.2.2,zag,if_pos h9]
      simp
     ·exact RowOwn.base (RowOwn.move (RowOwn.move HR.out.1 hG3 (fun b hb=>by have:=hlt b hb;simp;omega) fun f x c hf h=>NetOwn.move hG3 n n (Nat.le_refl _) f x c hf h) (W4.grown _ W.heap.size _ _ _ _) (fun b hb=>by have:=hlt b hb;simp;omega) fun f x c hf h=>NetOwn.move (W4.grown _ W.heap.size _ _ _ _) n n (Nat.le_refl _) f x c hf h) (by omega) fun f x c h=>NetOwn.base (by omega) n f x c h
    simp at y0 y1 y2 y3 z0 z1 z2 z3
    unfold W4 at HF q0' q1 q2 q3
    clear P2 P6 B4w hI3 hG3 HB HR HQ h9
    go_wp2
    exact bodyPost_ret (v:=.agg #[.int .i64 4,.int .i64 0,.slice none 0 0,.slice s sl sc]) (by simp [results,Tryz.results79,go_sem,q0',q1,q2,q3]) rfl HF.out
   ·have e9:¬(wAt L k').toList=(⟨#[41]⟩:ByteArray).toList:=fun h=>h9 (word_end.1 h)
    rw [if_neg e9] at hI3
    rw [show ((wAt L k').toList==(⟨#[41]⟩:ByteArray).toList)=false from by rw [beq_eq_false_iff_ne];exact e9] at he
    subst he
    have hl3:W.heap.size+1<w3.heap.size:=by have:=hG3.size;omega
    have hlt:=RowOwn.lt HR.out.1 (fun f x c h=>NetOwn.lt n f x c h)
    have kle:ts.length≤4194304:=by have:=HR.out.2.2.1;omega
    have HB3:Hid (Bk w3 W.heap.size netZ 53∧Bk w3 (W.heap.size+1) #[.int .i64 4,.int .i64 0,.slice none 0 0,.slice s sl sc] 53∧InS w3 pb g cap L k' false∧W.grownBy w3 (some pb)):=⟨HB.out.1.move hG3 (by simp;omega),HB.out.2.1.move hG3 (by simp;omega),hI3,HB.out.2.2.2.trans hG3⟩
    have HR3:Hid (RowOwn w3 (W.heap.size+2) 53 4 (NetOwn w3 (W.heap.size+2) n) F (.slice s sl sc) ts):=RowOwn.move HR.out.1 hG3 (fun b hb=>by have:=hlt b hb;simp;omega) fun f x c hf h=>NetOwn.move hG3 n n (Nat.le_refl _) f x c hf h
    have HRr:Hid (F.Nodup∧(ts.length≤k'∧k'≤L.length)∧2*(L.length-k')+1<m+1∧m+1≤n∧k+1≤k'∧zag L n (k+1)=(zag L (m+1) k').map fun u=>(ts++u.1,u.2)):=HR.out.2
    have H9:Hid (kAt L k'≠9):=h9
    clear hI3 hG3 hlt HB HR e9 h9 c0 c1 c2
    have zz:=HB3.out.2.1.cell 3
    simp at zz
    obtain ⟨cs,F',hE,hOw,hF⟩:=HR3.out
    have HE:Hid (Each (NetOwn w3 (W.heap.size+2) n) 4 F' ts cs∧F=(Value.slice s sl sc).ownBlock.toList++F'∧w3.ownsRow (W.heap.size+2) 53 4 (.slice s sl sc) ts.length cs):=⟨hE,hF,hOw⟩
    have HOb:Hid (∀j,(Value.slice s sl sc).ownBlock=some j→W.heap.size+2≤j∧j<w3.heap.size):=fun j hj=>RowOwn.lt HR3.out (fun f x c h=>NetOwn.lt n f x c h) j (by rw [hF,hj];simp)
    have HNa:Hid (Calls Tryz.prog 79 #[.pointer (some ⟨pb,0,none⟩)] w3.drew fun e w5=>∃bad k2 t f x y p pl pc r rl rc,e=.returned (.agg #[.int .i64 x,.int .i64 y,.slice p pl pc,.slice r rl rc])∧zfg w3 pb g cap L m k' w5 bad k2 t f x y p pl pc r rl rc):=by
     refine (HN.out w3.drew k' m (by have:=HRr.out.2.2.2.1;omega) (HB3.out.2.2.1.move (zaz w3 none) (by simp) (by simp)) (by show g<w3.heap.size;omega) (by have:=HRr.out.2.2.1;omega)).mono ?_
     intro e w5 h5
     obtain ⟨bad,k2,t,f,x,y,p,pl,pc,r,rl,rc,h6,h7,h8,h9,h10⟩:=zgr h5
     exact ⟨bad,k2,t,f,x,y,p,pl,pc,r,rl,rc,h6,h7,(zaz w3 _).trans h8,h9,h10⟩
    have HX:Hid (∀(w5:World) bad k2 t f x y p pl pc r rl rc,zfg w3 pb g cap L m k' w5 bad k2 t f x y p pl pc r rl rc→w5.cell? ⟨W.heap.size+1,3,none⟩=some (.slice s sl sc)∧(w5.alloc (.cells #[.int .i64 x,.int .i64 y,.slice p pl pc,.slice r rl rc] 53)).cell? ⟨W.heap.size+1,3,none⟩=some (.slice s sl sc)∧(w5.alloc (.cells #[.int .i64 x,.int .i64 y,.slice p pl pc,.slice r rl rc] 53)).ownsRow (W.heap.size+2) 53 4 (.slice s sl sc) ts.length cs∧W.heap.size+2≤w5.heap.size ∧
      (∀(q:Nat)(v:Value),([.int .i64 x,.int .i64 y,.slice p pl pc,.slice r rl rc]:List Value)[q]?=some v→(w5.alloc (.cells #[.int .i64 x,.int .i64 y,.slice p pl pc,.slice r rl rc] 53)).cell? ((⟨w5.heap.size,0,none⟩:Addr).add q)=some v)):=by
     intro w5 bad k2 t f x y p pl pc r rl rc h5
     have B5:=HB3.out.2.1.move h5.2.1 (by simp;omega)
     have B5a:=B5.move (World.grownBy_alloc w5 (.cells #[.int .i64 x,.int .i64 y,.slice p pl pc,.slice r rl rc] 53) none) (by simp)
     refine ⟨by have:=B5.cell 3;simpa using this,by have:=B5a.cell 3;simpa using this,World.ownsRow.alloc (HE.out.2.2.kept h5.2.1 ?_) _,by have:=h5.2.1.size;omega,?_⟩
     ·cases hv:(Value.slice s sl sc).ownBlock with
      | none=>exact .inl rfl
      | some b=>exact .inr (by have:=HOb.out b hv;simp;omega)
     ·intro q v hq
      match q with
      | 0=>simp at hq;subst hq;simp [Addr.add]
      | 1=>simp at hq;subst hq;simp [Addr.add]
      | 2=>simp at hq;subst hq;simp [Addr.add]
      | 3=>simp at hq;subst hq;simp [Addr.add]
      | (j+4)=>simp at hq
    have HY:Hid (∀(w5:World) bad k2 t f x y p pl pc r rl rc (g1 cap1:Nat) (w6:World),zfg w3 pb g cap L m k' w5 bad k2 t f x y p pl pc r rl rc→w6.ownsRow (W.heap.size+2) 53 4 (.slice (some ⟨g1,0,none⟩) (ts.length+1) cap1) (ts.length+1) (cs++[.int .i64 x,.int .i64 y,.slice p pl pc,.slice r rl rc])→(w5.alloc (.cells #[.int .i64 x,.int .i64 y,.slice p pl pc,.slice r rl rc] 53)).grownBy w6 (Value.slice s sl sc).ownBlock→((Value.slice s sl sc).ownBlock=some g1∨g1=(w5.alloc (.cells #[.int .i64 x,.int .i64 y,.slice p pl pc,.slice r rl rc] 53)).heap.size) →
      w6.cell? ⟨W.heap.size+1,3,none⟩=some (.slice s sl sc)∧w6.frozen? ⟨W.heap.size+1,3,none⟩=false∧zfs W pb g cap L n 4 (k+1) m (w6.setCell ⟨W.heap.size+1,3,none⟩ (.slice (some ⟨g1,0,none⟩) (ts.length+1) cap1))):=by
     intro w5 bad k2 t f x y p pl pc r rl rc g1 cap1 w6 h5 h6 h7 h8
     have B5:=HB3.out.2.1.move h5.2.1 (by simp;omega)
     have B6:=B5.move ((World.grownBy_alloc w5 (.cells #[.int .i64 x,.int .i64 y,.slice p pl pc,.slice r rl rc] 53) _).trans h7) (fun e=>by have:=(HOb.out _ e.symm).1;omega)
     refine ⟨by have:=B6.cell 3;simpa using this,B6.free 3,?_⟩
     exact zft HB3.out.1 HB3.out.2.1 HB3.out.2.2.2 HR3.out HRr.out.1 HRr.out.2.1.1 HRr.out.2.2.1 HRr.out.2.2.2.1 HRr.out.2.2.2.2.1 HRr.out.2.2.2.2.2 H9.out h5 HE.out.1 HE.out.2.1 h6 h7 (h8.imp id fun e=>e.trans (by simp)) hpl hgl
    have hTs:=kle
    clear hE hOw hF HB3 HR3 HRr H9 HE HOb HN
    go_upto_region 19 with fail
    go_region_law
     (first
      | (go_simp;(with_reducible refine HNa.out.mono ?_);rintro e w5 ⟨bad,k2,t,f,x,y,p,pl,pc,r,rl,rc,rfl,hSN⟩;have HSN:Hid (zfg w3 pb g cap L m k' w5 bad k2 t f x y p pl pc r rl rc):=hSN;obtain ⟨zz5,zz6,own5,hs5,news5⟩:=HX.out w5 bad k2 t f x y p pl pc r rl rc hSN;clear hSN;dsimp only)
      | (refine step_append_lies _ (by rfl) (.tmp 65) (.tmp 68) 51 (by rfl) (W.heap.size+2) 53 i0 (.agg #[.int .i64 0,.int .i64 0,.slice none 0 0,.slice none 0 0]) 4 64 Tryz.underlying51 HI.out.1 HI.out.2.1 HI.out.2.2.1 HI.out.2.2.2 (by rfl) (by decide) (.slice s sl sc) ts.length cs (by rfl) own5 ⟨w5.heap.size,0,none⟩ 1 1 [.int .i64 x,.int .i64 y,.slice p pl pc,.slice r rl rc] (by rfl) (by rfl) news5 (by intro v hu;simp at hu;rcases hu with rfl|rfl|rfl|rfl<;>rfl) (by omega) (by unfold maxLen;omega) (by omega) (by simp;omega) _ rfl ?_;intro g1 cap1 w6 own6 gg6 hat6 hlt6;obtain ⟨zz7,ff7,hSL⟩:=HY.out w5 bad k2 t f x y p pl pc r rl rc g1 cap1 w6 HSN.out own6 gg6 hat6;have HSL:Hid (zfs W pb g cap L n 4 (k+1) m (w6.setCell ⟨W.heap.size+1,3,none⟩ (.slice (some ⟨g1,0,none⟩) (ts.length+1) cap1))):=hSL;clear hSL own6 gg6 hat6 hlt6)
      | fail)
    all_goals go_wp2
    all_goals go_roundg m
    all_goals first|omega|exact HSL
theorem snet_i{pb g cap:Nat}{L:List ByteArray}(hs:∀x∈L,x.size≤1048576)(n:Nat):∀(W:World)(k:Nat),InS W pb g cap L k false→g<W.heap.size→2*(L.length-k)<n →
  Calls Tryz.prog 79 #[.pointer (some ⟨pb,0,none⟩)] W fun e w'=>SNet W pb g cap L n k e w':=by
 induction n using Nat.strongRecOn with
 | _ n ih =>
  intro W k h hg hn
  match n,hn,ih with
  | 0,hn,_=>omega
  | n+1,hn,ih =>
   have HN:Hid (∀W' k m,m<n→InS W' pb g cap L k false→g<W'.heap.size→2*(L.length-k)<m→Calls Tryz.prog 79 #[.pointer (some ⟨pb,0,none⟩)] W' fun e w'=>SNet W' pb g cap L m k e w'):=fun W' k' m hm h' hg' hn'=>ih m (by omega) W' k' h' hg' hn'
   by_cases h2:kAt L k=2
   ·exact snet_d2 W W pb g cap L n k h hg hn h2 HN
   by_cases h3:kAt L k=3
   ·exact snet_d3 W W pb g cap L n k h hg hn h3 HN
   by_cases h4:kAt L k=4
   ·exact snet_d4 W W pb g cap L n k h hg hn h4 HN
   ·exact snet_one W pb g cap L n k h hg hs (by rintro (h|h|h)<;>contradiction)
end Go.Proofs.YtllmabgollkigaaGreatDoor
