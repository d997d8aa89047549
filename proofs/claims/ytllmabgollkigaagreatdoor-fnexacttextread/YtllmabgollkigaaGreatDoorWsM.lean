/- A net of the specification's reader that is a contact. -/
import Derived.Test.YtllmabgollkigaaGreatDoorWiM
import Derived.Test.YtllmabgollkigaaGreatDoorJn
import Derived.Deep.RegionHeld3
namespace Go.Proofs.YtllmabgollkigaaGreatDoor
open Go.RowKit
set_option linter.unusedVariables false
def SNet(W:World)(pb g cap:Nat)(L:List ByteArray)(n k:Nat)(e:Ending)(w':World):Prop :=
 (∃(t:NetT)(k':Nat)(F:List Nat)(x y:Int)(p:Option Addr)(pl pc:Nat)(r:Option Addr)(rl rc:Nat),zav L n k=some (t,k')∧k<k'∧e=.returned (.agg #[.int .i64 x,.int .i64 y,.slice p pl pc,.slice r rl rc])∧NetOwn w' W.heap.size n F t [.int .i64 x,.int .i64 y,.slice p pl pc,.slice r rl rc]∧F.Nodup∧InS w' pb g cap L k' false∧W.grownBy w' (some pb)) ∨
 (∃(k':Nat)(x y:Int)(p:Option Addr)(pl pc:Nat)(r:Option Addr)(rl rc:Nat),zav L n k=none∧e=.returned (.agg #[.int .i64 x,.int .i64 y,.slice p pl pc,.slice r rl rc])∧InS w' pb g cap L k' true∧W.grownBy w' (some pb))
theorem InS.spoil{W:World}{pb g cap k:Nat}{L:List ByteArray}{bad:Bool}(h:InS W pb g cap L k bad):InS (W.setCell ⟨pb,2,none⟩ (.bool true)) pb g cap L k true:=by
 refine ⟨?_,fun j x hx=>?_,h.2.2⟩
 ·obtain ⟨hlt,hv⟩:=Array.getElem?_eq_some_iff.1 h.1
  simp [World.setCell,hlt,Array.getElem_modify,hv]
 ·rw [←h.2.1 j x hx]
  exact World.cell?_setCell_far W _ _ _ h.2.2.1
abbrev netZ:Array Value:=#[.int .i64 0,.int .i64 0,.slice none 0 0,.slice none 0 0]
theorem word_none{L:List ByteArray}{k:Nat}(h:¬(kAt L k=2∨kAt L k=3∨kAt L k=4)):(wAt L k).data.toList≠[97,110,100,40]∧(wAt L k).data.toList≠[111,114,40]∧(wAt L k).data.toList≠[110,111,116,40]:=by
 rcases Nat.lt_or_ge k L.length with hk|hk
 ·unfold kAt at h
  rw [if_pos hk] at h
  refine ⟨fun e=>h (.inl ?_),fun e=>h (.inr (.inl ?_)),fun e=>h (.inr (.inr ?_))⟩<;>rw [e]<;>rfl
 ·have:wAt L k=⟨#[]⟩:=by unfold wAt;rw [List.getElem?_eq_none (by omega)];rfl
  rw [this]
  simp
set_option maxRecDepth 10000 in
set_option maxHeartbeats 2000000 in
theorem snet_one(W:World)(pb g cap:Nat)(L:List ByteArray)(n k:Nat)(h:InS W pb g cap L k false)(hgl:g<W.heap.size)(hs:∀x∈L,x.size≤1048576)(hq:¬(kAt L k=2∨kAt L k=3∨kAt L k=4)) :
  Calls Tryz.prog 79 #[.pointer (some ⟨pb,0,none⟩)] W fun e w'=>SNet W pb g cap L (n+1) k e w':=by
 obtain ⟨h1,h2,h3⟩:=word_none hq
 have hpl:=h.lt
 have HH0:Hid (InS (W.alloc (.cells netZ 53)) pb g cap L k false):=h.move (World.grownBy_alloc W _ none) (by simp) (by simp)
 have HQ:Hid (zav L (n+1) k=(elQ L qCt k).map fun e=>(.mk 1 e [],k+1)):=by
  show zav L (n+1) k=_
  rw [zav,if_neg hq]
 have hws:(wAt L k).size≤1048576:=by
  unfold wAt
  cases hx:L[k]? with
  | none=>simp [ByteArray.size]
  | some x=>exact hs x (List.mem_of_getElem? hx)
 have b1:((wAt L k).toList==[97,110,100,40])=false:=by
  rw [beq_eq_false_iff_ne];intro e;apply h1;rw [Lib.toList_data] at e;exact e
 have b2:((wAt L k).toList==[111,114,40])=false:=by
  rw [beq_eq_false_iff_ne];intro e;apply h2;rw [Lib.toList_data] at e;exact e
 have b3:((wAt L k).toList==[110,111,116,40])=false:=by
  rw [beq_eq_false_iff_ne];intro e;apply h3;rw [Lib.toList_data] at e;exact e
 clear h hq h1 h2 h3
 go_enter Tryz.func79,Tryz.ntmps79
 go_wp2_with fail
 refine (zdx _ pb g cap k L false HH0.out).mono ?_
 rintro e w1 ⟨rfl,nd,hw⟩
 have H1:Hid (InS w1 pb g cap L k false∧W.grownBy w1 (some pb)∧Bk w1 W.heap.size netZ 53):=by
  subst hw
  exact ⟨HH0.out.move (zac _ nd none) (by simp) (by simp),(World.grownBy_alloc W _ _).trans (zac _ nd _),(Bk.fresh W netZ 53).move (zac _ nd none) (by simp)⟩
 clear hw HH0
 go_wp2_with fail
 refine (zdx _ pb g cap k L false H1.out.1).mono ?_
 rintro e w2 ⟨rfl,nd2,hw⟩
 have H2:Hid (InS w2 pb g cap L k false∧W.grownBy w2 (some pb)∧Bk w2 W.heap.size netZ 53):=by
  subst hw
  exact ⟨H1.out.1.move (zac _ nd2 none) (by simp) (by simp),H1.out.2.1.trans (zac _ nd2 _),H1.out.2.2.move (zac _ nd2 none) (by simp)⟩
 clear hw H1
 have hW2:W.heap.size<w2.heap.size:=H2.out.2.2.lt
 go_wp2_with fail
 refine (eread_s (wAt L k) w2 hws).mono ?_
 intro e w3 hE
 rcases hE with ⟨op,xs,b,c,hI,rfl,hO,hB3⟩|⟨hno,rfl,hB3⟩
 ·have hs3:=hB3.size
  have hbl:=hO.lt b rfl
  have hkl:k<L.length:=by
   rcases Nat.lt_or_ge k L.length with h0|h0
   ·exact h0
   ·exfalso
    have hz:wAt L k=⟨#[]⟩:=by unfold wAt;rw [List.getElem?_eq_none h0];rfl
    have hl:=(etl_le hI.1).2
    rw [hI.2,hz] at hl
    simp at hl
  have GA:w2.grownBy (w3.alloc (.cells #[.int .i64 op,.slice (some ⟨b,0,none⟩) xs.length c] 50)) none:=(zad hB3 none).trans (World.grownBy_alloc w3 _ none)
  have H4:Hid (InS (w3.alloc (.cells #[.int .i64 op,.slice (some ⟨b,0,none⟩) xs.length c] 50)) pb g cap L k false∧W.grownBy (w3.alloc (.cells #[.int .i64 op,.slice (some ⟨b,0,none⟩) xs.length c] 50)) (some pb)∧Bk (w3.alloc (.cells #[.int .i64 op,.slice (some ⟨b,0,none⟩) xs.length c] 50)) W.heap.size netZ 53) :=
   ⟨H2.out.1.move GA (by simp) (by simp),H2.out.2.1.trans ((zad hB3 _).trans (World.grownBy_alloc w3 _ _)),H2.out.2.2.move GA (by simp)⟩
  have hOw:Ops (w3.alloc (.cells #[.int .i64 op,.slice (some ⟨b,0,none⟩) xs.length c] 50)) b 0 xs:=OpsOwn.ops (World.ownsRow.alloc hO _)
  have HO:Hid (OpsOwn (w3.alloc (.cells #[.int .i64 op,.slice (some ⟨b,0,none⟩) xs.length c] 50)) w2.heap.size b c xs):=World.ownsRow.alloc hO _
  have HCt:Hid (Calls Tryz.prog 110 #[.agg #[.int .i64 op,.slice (some ⟨b,0,none⟩) xs.length c]] (w3.alloc (.cells #[.int .i64 op,.slice (some ⟨b,0,none⟩) xs.length c] 50)) fun e w'=>e=.returned (.bool (decide (op≤10)&&rtk op xs))∧Below (w3.alloc (.cells #[.int .i64 op,.slice (some ⟨b,0,none⟩) xs.length c] 50)).heap.size (w3.alloc (.cells #[.int .i64 op,.slice (some ⟨b,0,none⟩) xs.length c] 50)) w'):=zcu op (some ⟨b,0,none⟩) xs xs.length c rfl _ (.inr ⟨b,0,rfl,hOw⟩)
  rw [hI.1,Bool.and_true] at HCt
  have HEl:Hid (IsEl (wAt L k) op xs):=hI
  have y0:=(Bk.fresh w3 #[.int .i64 op,.slice (some ⟨b,0,none⟩) xs.length c] 50).cell 0
  have y1:=(Bk.fresh w3 #[.int .i64 op,.slice (some ⟨b,0,none⟩) xs.length c] 50).cell 1
  have HY:Hid (Bk (w3.alloc (.cells #[.int .i64 op,.slice (some ⟨b,0,none⟩) xs.length c] 50)) w3.heap.size #[.int .i64 op,.slice (some ⟨b,0,none⟩) xs.length c] 50):=Bk.fresh w3 _ _
  clear hO hOw hI GA hB3 H2 y0 y1
  go_wp2_with fail
  refine HCt.out.mono ?_
  rintro e w4 ⟨rfl,hB4⟩
  have H5:Hid (InS w4 pb g cap L k false∧W.grownBy w4 (some pb)∧Bk w4 W.heap.size netZ 53) :=
   ⟨H4.out.1.move (zad hB4 none) (by simp) (by simp),H4.out.2.1.trans (zad hB4 _),H4.out.2.2.move (zad hB4 none) (by simp)⟩
  have HO5:Hid (OpsOwn w4 w2.heap.size b c xs):=HO.out.later hB4
  have YB:=HY.out.move (zad hB4 none) (by simp)
  have HYB:Hid (Bk w4 w3.heap.size #[.int .i64 op,.slice (some ⟨b,0,none⟩) xs.length c] 50):=YB
  have hs4:w3.heap.size<w4.heap.size:=YB.lt
  clear hB4 HO HY YB H4 HCt
  by_cases hop:op≤10
  ·have d1:decide (op≤10)=true:=by simp [hop]
   obtain ⟨c0,c1,c2⟩:=H5.out.1.cells
   have fz:=H5.out.1.free 1
   have YB:=HYB.out.move (zab w4 pb 1 (.int .i64 (k+1))) (by simp;omega)
   have P1:=H5.out.2.2.move (zab w4 pb 1 (.int .i64 (k+1))) (by simp;omega)
   have y0:=YB.cell 0
   have y1:=YB.cell 1
   have z0:=P1.cell 0
   have z1:=P1.cell 1
   have z2:=P1.cell 2
   have z3:=P1.cell 3
   have f0:=P1.free 0
   have f1:=P1.free 1
   have f2:=P1.free 2
   have f3:=P1.free 3
   have B4w:B4 (w4.setCell ⟨pb,1,none⟩ (.int .i64 (k+1))) W.heap.size (.int .i64 0) (.int .i64 0) (.slice none 0 0) (.slice none 0 0) 53:=P1
   obtain ⟨q0,q1,q2,q3⟩:=(B4w.put (.int .i64 1) (.int .i64 op) (.slice (some ⟨b,0,none⟩) xs.length c) (.slice none 0 0)).cells
   have hl4:=H5.out.1.2.2.2
   have HF:Hid (SNet W pb g cap L (n+1) k (.returned (.agg #[.int .i64 1,.int .i64 op,.slice (some ⟨b,0,none⟩) xs.length c,.slice none 0 0])) (W4 (w4.setCell ⟨pb,1,none⟩ (.int .i64 (k+1))) W.heap.size (.int .i64 1) (.int .i64 op) (.slice (some ⟨b,0,none⟩) xs.length c) (.slice none 0 0))):=by
    refine .inl ⟨.mk 1 ⟨op,xs⟩ [],k+1,[b],1,op,_,_,_,_,_,_,by rw [HQ.out,zgp hkl HEl.out (by unfold qCt;exact d1)];rfl,by omega,rfl,⟨_,_,[b],[],rfl,rfl,?_,RowOwn.nil _ _ _ _ _⟩,by simp,?_,?_⟩
    ·exact ArgsOwn.move (ArgsOwn.move (zgq (HO5.out.base (by omega))) (zab w4 pb 1 _) (fun b' hb'=>by simp at hb';simp;omega)) (W4.grown _ W.heap.size _ _ _ _) (fun b' hb'=>by simp at hb';simp;omega)
    ·exact (H5.out.1.put (k+1)).move (W4.grown _ W.heap.size _ _ _ _) (by simp;omega) (by simp;omega)
    ·exact (H5.out.2.1.andThen (row':=some pb) (zab _ pb 1 _) (fun j hj=>.inr hj)).andThen (W4.grown _ W.heap.size _ _ _ _) (fun j hj=>.inl (by simp at hj;omega))
   simp at y0 y1 z0 z1 z2 z3
   unfold W4 at HF q0 q1 q2 q3
   clear H5 HO5 HYB YB P1 B4w HQ HEl
   go_wp2
   exact bodyPost_ret (v:=.agg #[.int .i64 1,.int .i64 op,.slice (some ⟨b,0,none⟩) xs.length c,.slice none 0 0]) (by simp [results,Tryz.results79,go_sem,q0,q1,q2,q3]) rfl HF.out
  ·have d1:decide (op≤10)=false:=by simp;omega
   have hI:=H5.out.1
   have hZ:=H5.out.2.2
   obtain ⟨c0,c1,c2⟩:=hI.cells
   have fz:=hI.free 2
   have P1:=hZ.move (zab w4 pb 2 (.bool true)) (by simp;omega)
   have z0:=P1.cell 0
   have z1:=P1.cell 1
   have z2:=P1.cell 2
   have z3:=P1.cell 3
   have f0:=P1.free 0
   have f1:=P1.free 1
   have f2:=P1.free 2
   have f3:=P1.free 3
   have B4w:B4 (w4.setCell ⟨pb,2,none⟩ (.bool true)) W.heap.size (.int .i64 0) (.int .i64 0) (.slice none 0 0) (.slice none 0 0) 53:=P1
   obtain ⟨q0,q1,q2,q3⟩:=(B4w.put (.int .i64 0) (.int .i64 0) (.slice none 0 0) (.slice none 0 0)).cells
   have HF:Hid (SNet W pb g cap L (n+1) k (.returned (.agg #[.int .i64 0,.int .i64 0,.slice none 0 0,.slice none 0 0])) (W4 (w4.setCell ⟨pb,2,none⟩ (.bool true)) W.heap.size (.int .i64 0) (.int .i64 0) (.slice none 0 0) (.slice none 0 0))) :=
    .inr ⟨k,0,0,none,0,0,none,0,0,by rw [HQ.out,zeh (fun op2 xs2 _ h2=>by obtain ⟨e1,e2⟩:=zer h2.1 HEl.out.1 (h2.2.trans HEl.out.2.symm);unfold qCt;rw [e1];exact d1)];rfl,rfl,hI.spoil.move (W4.grown _ W.heap.size _ _ _ _) (by simp;omega) (by simp;omega),((H5.out.2.1).andThen (row':=some pb) (zab _ pb 2 _) (fun j hj=>.inr hj)).andThen (W4.grown _ W.heap.size _ _ _ _) (fun j hj=>.inl (by simp at hj;omega))⟩
   simp at z0 z1 z2 z3
   unfold W4 at HF q0 q1 q2 q3
   clear H5 HO5 HYB HEl hI hZ P1 B4w HQ
   go_wp2
   exact bodyPost_ret (v:=.agg #[.int .i64 0,.int .i64 0,.slice none 0 0,.slice none 0 0]) (by simp [results,Tryz.results79,go_sem,q0,q1,q2,q3]) rfl HF.out
 ·have GA:w2.grownBy (w3.alloc (.cells #[.int .i64 0,.slice none 0 0] 50)) none:=(zad hB3 none).trans (World.grownBy_alloc w3 _ none)
  have H5:Hid (InS (w3.alloc (.cells #[.int .i64 0,.slice none 0 0] 50)) pb g cap L k false∧W.grownBy (w3.alloc (.cells #[.int .i64 0,.slice none 0 0] 50)) (some pb)∧Bk (w3.alloc (.cells #[.int .i64 0,.slice none 0 0] 50)) W.heap.size netZ 53) :=
   ⟨H2.out.1.move GA (by simp) (by simp),H2.out.2.1.trans ((zad hB3 _).trans (World.grownBy_alloc w3 _ _)),H2.out.2.2.move GA (by simp)⟩
  have hs3:=hB3.size
  clear GA H2
  have hI:=H5.out.1
  have hZ:=H5.out.2.2
  obtain ⟨c0,c1,c2⟩:=hI.cells
  have fz:=hI.free 2
  have P1:=hZ.move (zab (w3.alloc (.cells #[.int .i64 0,.slice none 0 0] 50)) pb 2 (.bool true)) (by simp;omega)
  have z0:=P1.cell 0
  have z1:=P1.cell 1
  have z2:=P1.cell 2
  have z3:=P1.cell 3
  have f0:=P1.free 0
  have f1:=P1.free 1
  have f2:=P1.free 2
  have f3:=P1.free 3
  have B4w:B4 ((w3.alloc (.cells #[.int .i64 0,.slice none 0 0] 50)).setCell ⟨pb,2,none⟩ (.bool true)) W.heap.size (.int .i64 0) (.int .i64 0) (.slice none 0 0) (.slice none 0 0) 53:=P1
  obtain ⟨q0,q1,q2,q3⟩:=(B4w.put (.int .i64 0) (.int .i64 0) (.slice none 0 0) (.slice none 0 0)).cells
  have HF:Hid (SNet W pb g cap L (n+1) k (.returned (.agg #[.int .i64 0,.int .i64 0,.slice none 0 0,.slice none 0 0])) (W4 ((w3.alloc (.cells #[.int .i64 0,.slice none 0 0] 50)).setCell ⟨pb,2,none⟩ (.bool true)) W.heap.size (.int .i64 0) (.int .i64 0) (.slice none 0 0) (.slice none 0 0))) :=
   .inr ⟨k,0,0,none,0,0,none,0,0,by rw [HQ.out,zeh (fun op2 xs2 _ h2=>absurd h2 (hno op2 xs2))];rfl,rfl,hI.spoil.move (W4.grown _ W.heap.size _ _ _ _) (by simp;omega) (by simp;omega),((H5.out.2.1).andThen (row':=some pb) (zab _ pb 2 _) (fun j hj=>.inr hj)).andThen (W4.grown _ W.heap.size _ _ _ _) (fun j hj=>.inl (by simp at hj;omega))⟩
  simp at z0 z1 z2 z3
  unfold W4 at HF q0 q1 q2 q3
  clear H5 hno hB3 hI hZ P1 B4w HQ
  go_wp2
  exact bodyPost_ret (v:=.agg #[.int .i64 0,.int .i64 0,.slice none 0 0,.slice none 0 0]) (by simp [results,Tryz.results79,go_sem,q0,q1,q2,q3]) rfl HF.out
def zfg(W:World)(pb g cap:Nat)(L:List ByteArray)(n k:Nat)(w':World)(bad:Bool)(k':Nat)(t:NetT)(F:List Nat)(x y:Int)(p:Option Addr)(pl pc:Nat)(r:Option Addr)(rl rc:Nat):Prop :=
 InS w' pb g cap L k' bad∧W.grownBy w' (some pb)∧(bad=false→zav L n k=some (t,k')∧k<k'∧NetOwn w' W.heap.size n F t [.int .i64 x,.int .i64 y,.slice p pl pc,.slice r rl rc]∧F.Nodup)∧(bad=true→zav L n k=none)
theorem zgr{W:World}{pb g cap:Nat}{L:List ByteArray}{n k:Nat}{e:Ending}{w':World}(h:SNet W pb g cap L n k e w') :
  ∃bad k' t F x y p pl pc r rl rc,e=.returned (.agg #[.int .i64 x,.int .i64 y,.slice p pl pc,.slice r rl rc])∧zfg W pb g cap L n k w' bad k' t F x y p pl pc r rl rc:=by
 rcases h with ⟨t,k',F,x,y,p,pl,pc,r,rl,rc,h1,h2,rfl,h3,h4,h5,h6⟩|⟨k',x,y,p,pl,pc,r,rl,rc,h1,rfl,h5,h6⟩
 ·exact ⟨false,k',t,F,x,y,p,pl,pc,r,rl,rc,rfl,h5,h6,fun _=>⟨h1,h2,h3,h4⟩,fun h=>by cases h⟩
 ·exact ⟨true,k',noNet,[],x,y,p,pl,pc,r,rl,rc,rfl,h5,h6,(fun h=>by cases h),fun _=>h1⟩
def zfs(W:World)(pb g cap:Nat)(L:List ByteArray)(n:Nat)(q:Int)(k0 gk:Nat)(wr:World):Prop :=
 ∃(ts:List NetT)(k':Nat)(F:List Nat)(s:Option Addr)(sl sc:Nat)(bad:Bool),Bk wr W.heap.size netZ 53∧Bk wr (W.heap.size+1) #[.int .i64 q,.int .i64 0,.slice none 0 0,.slice s sl sc] 53∧InS wr pb g cap L k' bad∧W.grownBy wr (some pb) ∧
  (bad=false→RowOwn wr (W.heap.size+2) 53 4 (NetOwn wr (W.heap.size+2) n) F (.slice s sl sc) ts∧F.Nodup∧(ts.length≤k'∧k'≤L.length)∧2*(L.length-k')+1<gk∧gk≤n∧k0≤k'∧zag L n k0=(zag L gk k').map fun u=>(ts++u.1,u.2))∧(bad=true→zag L n k0=none)
theorem word_end{L:List ByteArray}{k:Nat}:(wAt L k).toList=(⟨#[41]⟩:ByteArray).toList ↔ kAt L k=9:=by
 rw [Lib.toList_data,Lib.toList_data]
 constructor
 ·intro h
  have hk:k<L.length:=by
   rcases Nat.lt_or_ge k L.length with h0|h0
   ·exact h0
   ·exfalso
    have hz:wAt L k=⟨#[]⟩:=by unfold wAt;rw [List.getElem?_eq_none h0];rfl
    rw [hz] at h
    simp at h
  unfold kAt
  rw [if_pos hk,h]
  rfl
 ·intro h
  have hk:=zdi (L:=L) (k:=k) (by rw [h];decide)
  unfold kAt at h
  rw [if_pos hk] at h
  unfold kOf at h
  by_cases h0:(wAt L k).data.toList=[41]
  ·rw [h0]
  ·exfalso
   rw [if_neg h0] at h
   repeat (split at h;· simp at h)
   simp at h
theorem rdNet_lt{L:List ByteArray}:∀{n k:Nat} {r:NetT×Nat},zav L n k=some r→k<L.length
 | 0,k,r,h=>by rw [zav] at h;cases h
 | n+1,k,r,h=>by
  rw [zav] at h
  by_cases hq:kAt L k=2∨kAt L k=3∨kAt L k=4
  ·exact zdi (by rcases hq with h|h|h<;>rw [h]<;>decide)
  ·rw [if_neg hq] at h
   unfold elQ at h
   by_cases hk:k<L.length
   ·exact hk
   ·rw [if_neg hk] at h;cases h
theorem rd_le(L:List ByteArray):∀n,(∀k r,zav L n k=some r→r.2≤L.length)∧(∀k r,zag L n k=some r→r.2≤L.length)
 | 0=>⟨(fun k r h=>by rw [zav] at h;cases h),(fun k r h=>by rw [zag] at h;cases h)⟩
 | n+1=>by
  obtain ⟨i1,i2⟩:=rd_le L n
  refine ⟨fun k r h=>?_,fun k r h=>?_⟩
  ·rw [zav] at h
   by_cases hq:kAt L k=2∨kAt L k=3∨kAt L k=4
   ·rw [if_pos hq] at h
    obtain ⟨u,h1,rfl⟩:=Option.map_eq_some_iff.1 h
    exact i2 _ u h1
   ·rw [if_neg hq] at h
    obtain ⟨u,h1,rfl⟩:=Option.map_eq_some_iff.1 h
    unfold elQ at h1
    by_cases hk:k<L.length
    ·exact hk
    ·rw [if_neg hk] at h1;cases h1
  ·rw [zag] at h
   by_cases hq:kAt L k=9
   ·rw [if_pos hq] at h
    cases h
    exact zdi (by rw [hq];decide)
   ·rw [if_neg hq] at h
    obtain ⟨u,h1,h2⟩:=Option.bind_eq_some_iff.1 h
    obtain ⟨v,h3,rfl⟩:=Option.map_eq_some_iff.1 h2
    exact i2 _ v h3
theorem zft{W w1 w2 w4:World}{pb g cap:Nat}{L:List ByteArray}{n m:Nat}{q:Int}{k0 k':Nat}{ts:List NetT}{F F':List Nat}{s:Option Addr}{sl sc:Nat}{cs:List Value}{bad:Bool}{k2:Nat}{t:NetT}{f:List Nat}{x y:Int}{p:Option Addr}{pl pc:Nat}{r:Option Addr}{rl rc:Nat}{g1 cap1:Nat}{o1:Obj}
  (hb2:Bk w1 W.heap.size netZ 53) (hb6:Bk w1 (W.heap.size+1) #[.int .i64 q,.int .i64 0,.slice none 0 0,.slice s sl sc] 53) (hG:W.grownBy w1 (some pb)) (hrow:RowOwn w1 (W.heap.size+2) 53 4 (NetOwn w1 (W.heap.size+2) n) F (.slice s sl sc) ts)
  (hnd:F.Nodup) (hlen:ts.length≤k') (hfu:2*(L.length-k')+1<m+1) (hmn:m+1≤n) (hk0:k0≤k') (hans:zag L n k0=(zag L (m+1) k').map fun u=>(ts++u.1,u.2)) (h9:kAt L k'≠9)
  (hN:zfg w1 pb g cap L m k' w2 bad k2 t f x y p pl pc r rl rc) (hE:Each (NetOwn w1 (W.heap.size+2) n) 4 F' ts cs) (hF:F=(Value.slice s sl sc).ownBlock.toList++F')
  (own4:w4.ownsRow (W.heap.size+2) 53 4 (.slice (some ⟨g1,0,none⟩) (ts.length+1) cap1) (ts.length+1) (cs++[.int .i64 x,.int .i64 y,.slice p pl pc,.slice r rl rc])) (g4:(w2.alloc o1).grownBy w4 (Value.slice s sl sc).ownBlock) (hat:(Value.slice s sl sc).ownBlock=some g1∨g1=w2.heap.size+1)
  (hpl:pb<W.heap.size) (hgl:g<W.heap.size) :
  zfs W pb g cap L n q k0 m (w4.setCell ⟨W.heap.size+1,3,none⟩ (.slice (some ⟨g1,0,none⟩) (ts.length+1) cap1)):=by
 obtain ⟨hI2,hG2,hgood,hbad⟩:=hN
 have hFl:=RowOwn.lt hrow (fun f x c h=>NetOwn.lt n f x c h)
 have hl6:=hb6.lt
 have hs12:=hG2.size
 have G4:w2.grownBy w4 (Value.slice s sl sc).ownBlock:=(World.grownBy_alloc w2 o1 _).trans g4
 have G5:w4.grownBy (w4.setCell ⟨W.heap.size+1,3,none⟩ (.slice (some ⟨g1,0,none⟩) (ts.length+1) cap1)) (some (W.heap.size+1)):=zab _ _ _ _
 have hob:∀j,(Value.slice s sl sc).ownBlock=some j→W.heap.size+2≤j∧j<w1.heap.size:=fun j hj=>hFl j (by rw [hF,hj];simp)
 have hlow:∀b,b<W.heap.size+2→some b≠(Value.slice s sl sc).ownBlock:=fun b hb e=>by have:=(hob b e.symm).1;omega
 rw [hF] at hnd
 have hnd':=List.nodup_append.1 hnd
 have hF':∀b∈F',some b≠(Value.slice s sl sc).ownBlock:=fun b hb e=>hnd'.2.2 b (by rw [←e];simp) b hb rfl
 have hF'l:∀b∈F',W.heap.size+2≤b∧b<w1.heap.size:=fun b hb=>hFl b (by rw [hF];exact List.mem_append_right _ hb)
 have hS:zag L (m+1) k'=(zav L m k').bind fun u=>(zag L m u.2).map fun v=>(u.1::v.1,v.2):=by rw [zag,if_neg h9]
 refine ⟨ts++[t],k2,g1::(F'++f),some ⟨g1,0,none⟩,ts.length+1,cap1,bad,?_,?_,?_,?_,fun hb=>?_,fun hb=>?_⟩
 ·exact ((hb2.move hG2 (by simp;omega)).move G4 (hlow _ (by omega))).move G5 (by simp)
 ·exact ((hb6.move hG2 (by simp;omega)).move G4 (hlow _ (by omega))).set 3 _
 ·exact (hI2.move G4 (hlow _ (by omega)) (hlow _ (by omega))).move G5 (by simp;omega) (by simp;omega)
 ·exact ((hG.trans hG2).andThen G4 (fun j hj=>.inl (by have:=(hob j hj).1;omega))).andThen G5 (fun j hj=>.inl (by simp at hj;omega))
 ·obtain ⟨hrd,hkk,hO,hfn⟩:=hgood hb
  have hk1:=rdNet_lt hrd
  have hfl:=NetOwn.lt m _ _ _ hO
  have hf':∀b∈f,some b≠(Value.slice s sl sc).ownBlock:=fun b hb e=>by have:=hob b e.symm;have:=hfl b hb;omega
  refine ⟨?_,?_,⟨by simp;omega,(rd_le L m).1 _ _ hrd⟩,by omega,by omega,by omega,?_⟩
  ·have hP:RowOwn w4 (W.heap.size+2) 53 4 (NetOwn w4 (W.heap.size+2) n) (g1::(F'++f)) (.slice (some ⟨g1,0,none⟩) (ts.length+1) cap1) (ts++[t]):=by
    refine RowOwn.push (hE.move fun f1 x1 c1 h1 h2=>?_) rfl ?_ own4
    ·exact NetOwn.move G4 n n (Nat.le_refl _) _ _ _ (fun b hb=>hF' b (h1 hb)) (NetOwn.move hG2 n n (Nat.le_refl _) _ _ _ (fun b hb=>by have:=hF'l b (h1 hb);simp;omega) h2)
    ·exact NetOwn.move G4 m n (by omega) _ _ _ hf' (NetOwn.base (by omega) m _ _ _ hO)
   refine RowOwn.move hP G5 (fun b hb=>?_) fun f x c hf h=>NetOwn.move G5 n n (Nat.le_refl _) f x c hf h
   have hg1:W.heap.size+2≤g1:=by
    rcases hat with h|h
    ·exact (hob g1 h).1
    ·omega
   rcases List.mem_cons.1 hb with rfl|hb
   ·simp;omega
   ·rcases List.mem_append.1 hb with hb|hb
    ·have:=hF'l b hb;simp;omega
    ·have:=hfl b hb;simp;omega
  ·rw [List.nodup_cons]
   refine ⟨fun hm=>?_,List.nodup_append.2 ⟨hnd'.2.1,hfn,fun a ha b hb e=>by have:=hF'l a ha;have:=hfl b hb;omega⟩⟩
   rcases List.mem_append.1 hm with hm|hm
   ·rcases hat with h|h
    ·exact hF' g1 hm h.symm
    ·have:=hF'l g1 hm;omega
   ·rcases hat with h|h
    ·exact hf' g1 hm h.symm
    ·have:=hfl g1 hm;omega
  ·rw [hans,hS,hrd]
   cases hq:zag L m k2<;>simp [hq]
 ·rw [hans,hS,hbad hb]
  rfl
theorem etl_sign{op:Int}{xs:List Arg}{b:UInt8}(h:rtk op xs=true)(e:etl op xs=[b]):Sg b:=by
 obtain ⟨ho,hl⟩:=zbn h
 have hok:=zfn h
 obtain ⟨⟨h1,h3⟩,_,_⟩:=zbo op ho
 match xs,hl,hok with
 | [],hl,_=>simp at hl;omega
 | x::r,hl,hok =>
  obtain ⟨z,hz⟩:=mid_head op x r
  have hne:=tl_ne (hok x (by simp))
  rw [zbd,hz] at e
  have hmem:∀c∈tl x,c=b:=fun c hc=>by
   have:c∈[b]:=by rw [←e];simp [hc]
   simpa using this
  obtain ⟨c,r0,hc⟩:∃c r0,tl x=c::r0:=by
   cases hq:tl x with
   | nil=>exact absurd hq hne
   | cons c r0=>exact ⟨c,r0,rfl⟩
  have h0:c=b:=hmem c (by rw [hc];simp)
  rw [←h0]
  exact zhs _ _ _ c (by show c∈tl x;rw [hc];simp)
theorem kOf_inv{x:List UInt8}:(kOf x=6→x=[91])∧(kOf x=7→x=[124])∧(kOf x=8→x=[93]):=by
 unfold kOf
 refine ⟨fun h=>?_,fun h=>?_,fun h=>?_⟩<;>(repeat (split at h;· first|assumption|simp at h))<;>simp at h
theorem elQ_sign{L:List ByteArray}{q:Int→Bool}{k:Nat}(h:kAt L k=6∨kAt L k=7∨kAt L k=8):elQ L q k=none:=by
 unfold elQ
 by_cases hk:k<L.length
 ·rw [if_pos hk,elAt_none fun op xs hE=>?_]
  ·rfl
  unfold kAt at h
  rw [if_pos hk] at h
  have key:∀b:UInt8,(wAt L k).data.toList=[b]→Sg b:=fun b hb=>etl_sign hE.1 (hE.2.trans hb)
  rcases h with h|h|h
  ·have:=key 91 (kOf_inv.1 h);unfold Sg at this;revert this;decide
  ·have:=key 124 (kOf_inv.2.1 h);unfold Sg at this;revert this;decide
  ·have:=key 93 (kOf_inv.2.2 h);unfold Sg at this;revert this;decide
 ·rw [if_neg hk]
def zcw(L:List ByteArray)(k:Nat):Bool:=!decide (k<L.length)||(decide (kAt L k=6)||(decide (kAt L k=7)||decide (kAt L k=8)))
theorem zjd{L:List ByteArray}{q:Int→Bool}{k:Nat}(h:zcw L k=true):elQ L q k=none:=by
 unfold zcw at h
 simp only [Bool.or_eq_true,decide_eq_true_iff,Bool.not_eq_true',decide_eq_false_iff_not] at h
 rcases h with h|h
 ·unfold elQ;rw [if_neg h]
 ·exact elQ_sign h
noncomputable def zaq(L:List ByteArray):Nat→Nat→Option (List ElemT×Nat)
 | 0,_=>none
 | n+1,k=>if zcw L k=true then some ([],k) else (elQ L qCl k).bind fun e=>(zaq L n (k+1)).map fun r=>(e::r.1,r.2)
theorem zib(L:List ByteArray):∀(n k:Nat)(r:List ElemT×Nat),zaq L n k=some r→zae L n k=r∧zcw L r.2=true∧k≤r.2
 | 0,k,r,h=>by rw [zaq] at h;cases h
 | n+1,k,r,h=>by
  rw [zaq] at h
  by_cases hs:zcw L k=true
  ·rw [if_pos hs] at h
   cases h
   refine ⟨?_,hs,Nat.le_refl _⟩
   rw [zae,zjd hs]
  ·rw [if_neg hs] at h
   obtain ⟨e,he,h2⟩:=Option.bind_eq_some_iff.1 h
   obtain ⟨u,hu,rfl⟩:=Option.map_eq_some_iff.1 h2
   obtain ⟨i1,i2,i3⟩:=zib L n (k+1) u hu
   refine ⟨?_,i2,by show k≤u.2;omega⟩
   rw [zae,he]
   simp only [i1]
theorem zdo(L:List ByteArray):∀(n k:Nat),L.length-k<n→zcw L (zae L n k).2=true→zaq L n k=some (zae L n k)
 | 0,k,hn,h=>by omega
 | n+1,k,hn,h=>by
  by_cases hs:zcw L k=true
  ·rw [zaq,if_pos hs,zae,zjd hs]
  ·rw [zaq,if_neg hs]
   rw [zae] at h ⊢
   have hk:k<L.length:=by
    unfold zcw at hs
    simp only [Bool.or_eq_true,decide_eq_true_iff,Bool.not_eq_true',decide_eq_false_iff_not] at hs
    omega
   cases hq:elQ L qCl k with
   | none=>rw [hq] at h;exact absurd h hs
   | some e =>
    rw [hq] at h
    simp only at h ⊢
    rw [Option.bind_some,zdo L n (k+1) (by omega) h]
    rfl
theorem zfu(L:List ByteArray):∀(n k:Nat),k≤(zae L n k).2
 | 0,k=>Nat.le_refl _
 | n+1,k=>by
  rw [zae]
  split
  ·have:=zfu L n (k+1);show k≤(zae L n (k+1)).2;omega
  ·exact Nat.le_refl _
mutual
noncomputable def zbj(L:List ByteArray):Nat→Nat→Option (ArmT×Nat)
 | 0,_=>none
 | n+1,k=>(zba L n k).bind fun r=>(zaq L n r.2).bind fun c=>if kAt L c.2=6 then (zaw L n (c.2+1)).map fun s=>(.mk r.1 c.1 s.1,s.2) else some (.mk r.1 c.1 [],c.2)
noncomputable def zaw(L:List ByteArray):Nat→Nat→Option (List ArmT×Nat)
 | 0,_=>none
 | n+1,k=>(zbj L n k).bind fun r=>if kAt L r.2=8 then some ([r.1],r.2+1) else if kAt L r.2=7 then (zaw L n (r.2+1)).map fun s=>(r.1::s.1,s.2) else none
end
theorem sd_rd(L:List ByteArray):∀n,(∀k r,zbj L n k=some r→zbz L n k=some r)∧(∀k r,zaw L n k=some r→zbb L n k=some r)
 | 0=>⟨(fun k r h=>by rw [zbj] at h;cases h),(fun k r h=>by rw [zaw] at h;cases h)⟩
 | n+1=>by
  obtain ⟨i1,i2⟩:=sd_rd L n
  refine ⟨fun k r h=>?_,fun k r h=>?_⟩
  ·rw [zbj] at h
   obtain ⟨u,hu,h2⟩:=Option.bind_eq_some_iff.1 h
   obtain ⟨c,hc,h3⟩:=Option.bind_eq_some_iff.1 h2
   obtain ⟨e1,_,_⟩:=zib L n u.2 c hc
   rw [zbz,hu,Option.bind_some,e1]
   by_cases h6:kAt L c.2=6
   ·rw [if_pos h6] at h3 ⊢
    obtain ⟨s,hs,rfl⟩:=Option.map_eq_some_iff.1 h3
    rw [i2 _ _ hs]
    rfl
   ·rw [if_neg h6] at h3 ⊢
    exact h3
  ·rw [zaw] at h
   obtain ⟨u,hu,h2⟩:=Option.bind_eq_some_iff.1 h
   rw [zbb,i1 _ _ hu,Option.bind_some]
   by_cases h8:kAt L u.2=8
   ·rw [if_pos h8] at h2 ⊢
    exact h2
   ·rw [if_neg h8] at h2 ⊢
    by_cases h7:kAt L u.2=7
    ·rw [if_pos h7] at h2 ⊢
     obtain ⟨s,hs,rfl⟩:=Option.map_eq_some_iff.1 h2
     rw [i2 _ _ hs]
     rfl
    ·rw [if_neg h7] at h2
     cases h2
theorem rd_gt(L:List ByteArray):∀n,(∀k r,zav L n k=some r→k<r.2)∧(∀k r,zag L n k=some r→k<r.2)
 | 0=>⟨(fun k r h=>by rw [zav] at h;cases h),(fun k r h=>by rw [zag] at h;cases h)⟩
 | n+1=>by
  obtain ⟨i1,i2⟩:=rd_gt L n
  refine ⟨fun k r h=>?_,fun k r h=>?_⟩
  ·rw [zav] at h
   by_cases hq:kAt L k=2∨kAt L k=3∨kAt L k=4
   ·rw [if_pos hq] at h
    obtain ⟨u,h1,rfl⟩:=Option.map_eq_some_iff.1 h
    have:=i2 _ u h1
    show k<u.2
    omega
   ·rw [if_neg hq] at h
    obtain ⟨u,h1,rfl⟩:=Option.map_eq_some_iff.1 h
    show k<k+1
    omega
  ·rw [zag] at h
   by_cases hq:kAt L k=9
   ·rw [if_pos hq] at h
    cases h
    show k<k+1
    omega
   ·rw [if_neg hq] at h
    obtain ⟨u,h1,h2⟩:=Option.bind_eq_some_iff.1 h
    obtain ⟨v,h3,rfl⟩:=Option.map_eq_some_iff.1 h2
    have:=i1 _ u h1
    have:=i2 _ v h3
    show k<v.2
    omega
theorem head_gt{L:List ByteArray}{n k:Nat}{r:NetT×Nat}(h:zba L n k=some r):k<r.2:=by
 unfold zba at h
 by_cases h5:kAt L k=5
 ·rw [if_pos h5] at h;cases h;show k<k+1;omega
 ·rw [if_neg h5] at h
  obtain ⟨u,hu,h2⟩:=Option.bind_eq_some_iff.1 h
  split at h2
  ·cases h2
   have:=(rd_gt L n).1 _ _ hu
   show k<u.2+1
   omega
  ·cases h2
theorem arm_gt(L:List ByteArray):∀n,(∀k r,zbz L n k=some r→k<r.2)∧(∀k r,zbb L n k=some r→k<r.2)
 | 0=>⟨(fun k r h=>by rw [zbz] at h;cases h),(fun k r h=>by rw [zbb] at h;cases h)⟩
 | n+1=>by
  obtain ⟨i1,i2⟩:=arm_gt L n
  refine ⟨fun k r h=>?_,fun k r h=>?_⟩
  ·rw [zbz] at h
   obtain ⟨u,hu,h2⟩:=Option.bind_eq_some_iff.1 h
   have h3:=head_gt hu
   have h4:=zfu L n u.2
   split at h2
   ·obtain ⟨s,hs,rfl⟩:=Option.map_eq_some_iff.1 h2
    have:=i2 _ _ hs
    show k<s.2
    omega
   ·cases h2
    show k<(zae L n u.2).2
    omega
  ·rw [zbb] at h
   obtain ⟨u,hu,h2⟩:=Option.bind_eq_some_iff.1 h
   have h3:=i1 _ _ hu
   split at h2
   ·cases h2;show k<u.2+1;omega
   ·split at h2
    ·obtain ⟨s,hs,rfl⟩:=Option.map_eq_some_iff.1 h2
     have:=i2 _ _ hs
     show k<s.2
     omega
    ·cases h2
theorem rd_sd(L:List ByteArray):∀n,(∀k r,2*(L.length-k)+1<n→zbz L n k=some r→(¬ r.2<L.length∨kAt L r.2=7∨kAt L r.2=8)→zbj L n k=some r)∧(∀k r,2*(L.length-k)+2<n→zbb L n k=some r→zaw L n k=some r)
 | 0=>⟨(fun k r h=>by omega),(fun k r h=>by omega)⟩
 | n+1=>by
  obtain ⟨i1,i2⟩:=rd_sd L n
  refine ⟨fun k r hn h hg=>?_,fun k r hn h=>?_⟩
  ·rw [zbz] at h
   obtain ⟨u,hu,h2⟩:=Option.bind_eq_some_iff.1 h
   have h3:=head_gt hu
   have h4:=zfu L n u.2
   rw [zbj,hu,Option.bind_some]
   by_cases h6:kAt L (zae L n u.2).2=6
   ·have hl:(zae L n u.2).2<L.length:=zdi (by rw [h6];decide)
    have hst:zcw L (zae L n u.2).2=true:=by unfold zcw;simp [h6]
    rw [if_pos h6] at h2
    obtain ⟨s,hs,rfl⟩:=Option.map_eq_some_iff.1 h2
    rw [zdo L n u.2 (by omega) hst,Option.bind_some,if_pos h6,i2 _ _ (by omega) hs]
    rfl
   ·rw [if_neg h6] at h2
    cases h2
    have hst:zcw L (zae L n u.2).2=true:=by
     unfold zcw
     rcases hg with hg|hg|hg
     ·have hg':¬(zae L n u.2).2<L.length:=hg
      simp [hg']
     ·have hg':kAt L (zae L n u.2).2=7:=hg
      simp [hg']
     ·have hg':kAt L (zae L n u.2).2=8:=hg
      simp [hg']
    by_cases hkl:k<L.length
    ·rw [zdo L n u.2 (by omega) hst,Option.bind_some,if_neg h6]
    ·rw [zdo L n u.2 (by omega) hst,Option.bind_some,if_neg h6]
  ·rw [zbb] at h
   obtain ⟨u,hu,h2⟩:=Option.bind_eq_some_iff.1 h
   have h3:=(arm_gt L n).1 _ _ hu
   rw [zaw]
   by_cases h8:kAt L u.2=8
   ·rw [if_pos h8] at h2
    rw [i1 _ _ (by omega) hu (.inr (.inr h8)),Option.bind_some,if_pos h8]
    exact h2
   ·rw [if_neg h8] at h2
    by_cases h7:kAt L u.2=7
    ·have hl:u.2<L.length:=zdi (by rw [h7];decide)
     rw [if_pos h7] at h2
     obtain ⟨s,hs,rfl⟩:=Option.map_eq_some_iff.1 h2
     rw [i1 _ _ (by omega) hu (.inr (.inl h7)),Option.bind_some,if_neg h8,if_pos h7,i2 _ _ (by omega) hs]
     rfl
    ·rw [if_neg h7] at h2
     cases h2
noncomputable def sdRung(L:List ByteArray):Option ArmT:=(zbj L (2*L.length+2) 0).bind fun r=>if r.2=L.length then some r.1 else none
theorem rung_same(L:List ByteArray):sdRung L=zbv L:=by
 unfold sdRung zbv
 cases h:zbz L (2*L.length+2) 0 with
 | none =>
  cases h2:zbj L (2*L.length+2) 0 with
  | none=>rfl
  | some r=>rw [(sd_rd L _).1 _ _ h2] at h;cases h
 | some r =>
  by_cases e:r.2=L.length
  ·rw [(rd_sd L _).1 0 r (by omega) h (.inl (by omega))]
  ·cases h2:zbj L (2*L.length+2) 0 with
   | none=>simp [e]
   | some r2 =>
    have:=(sd_rd L _).1 _ _ h2
    rw [h] at this
    cases this
    rfl
theorem row_more{α:Type}{w w4:World}{base e z lo g1 cap1:Nat}{R:World→List Nat→α→List Value→Prop}(hmove:∀W W' row f x c,W.grownBy W' row→(∀b∈f,some b≠row)→R W f x c→R W' f x c){v:Value}{F F' f:List Nat}{ts:List α}{cs c:List Value}{x:α}
  (hE:Each (R w) z F' ts cs) (hF:F=v.ownBlock.toList++F') (hFl:∀b∈F,lo≤b∧b<w.heap.size) (hnd:F.Nodup) (hx:R w f x c) (hc:c.length=z) (hf:∀b∈f,lo≤b∧b<w.heap.size) (hfn:f.Nodup) (hap:∀b∈f,b∉F)
  (own4:w4.ownsRow base e z (.slice (some ⟨g1,0,none⟩) (ts.length+1) cap1) (ts.length+1) (cs++c)) (g4:w.grownBy w4 v.ownBlock) (hat:v.ownBlock=some g1∨w.heap.size≤g1) :
  RowOwn w4 base e z (R w4) (g1::(F'++f)) (.slice (some ⟨g1,0,none⟩) (ts.length+1) cap1) (ts++[x])∧(g1::(F'++f)).Nodup∧∀b∈g1::(F'++f),b∈F∨b∈f∨w.heap.size≤b:=by
 rw [hF] at hnd
 have hnd':=List.nodup_append.1 hnd
 have hF'2:∀b∈F',b∈F:=fun b hb=>by rw [hF];exact List.mem_append_right _ hb
 have hob:∀j,v.ownBlock=some j→j∈F:=fun j hj=>by rw [hF,hj];simp
 have hF':∀b∈F',some b≠v.ownBlock:=fun b hb e=>hnd'.2.2 b (by rw [←e];simp) b hb rfl
 have hf':∀b∈f,some b≠v.ownBlock:=fun b hb e=>hap b hb (hob b e.symm)
 refine ⟨RowOwn.push (hE.move fun f1 x1 c1 h1 h2=>hmove _ _ _ _ _ _ g4 (fun b hb=>hF' b (h1 hb)) h2) hc (hmove _ _ _ _ _ _ g4 hf' hx) own4,List.nodup_cons.2 ⟨fun hm=>?_,List.nodup_append.2 ⟨hnd'.2.1,hfn,fun a ha b hb e=>hap b hb (e ▸ hF'2 a ha)⟩⟩,fun b hb=>?_⟩
 ·rcases List.mem_append.1 hm with hm|hm
  ·rcases hat with h|h
   ·exact hF' g1 hm h.symm
   ·have:=hFl g1 (hF'2 g1 hm);omega
  ·rcases hat with h|h
   ·exact hf' g1 hm h.symm
   ·have:=hf g1 hm;omega
 ·rcases List.mem_cons.1 hb with rfl|hb
  ·rcases hat with h|h
   ·exact .inl (hob _ h)
   ·exact .inr (.inr h)
  ·rcases List.mem_append.1 hb with hb|hb
   ·exact .inl (hF'2 b hb)
   ·exact .inr (.inl hb)
structure SA (W:World) (pb g cap:Nat) (L:List ByteArray) (n k:Nat) (x y:Int) (p:Option Addr) (pl pc:Nat) (r:Option Addr) (rl rc:Nat) (s:Option Addr) (sl sc:Nat) (u:Option Addr) (ul uc:Nat) (w:World) (net:NetT) (ts:List ElemT) (kids:List ArmT) (F1 F2 F3:List Nat):Prop where
 b1:Bk w W.heap.size armZ 56
 b3:Bk w (W.heap.size+1) #[.int .i64 x,.int .i64 y,.slice p pl pc,.slice r rl rc,.slice s sl sc,.slice u ul uc] 56
 net:NetOwn w (W.heap.size+2) n F1 net [.int .i64 x,.int .i64 y,.slice p pl pc,.slice r rl rc]
 row:RowOwn w (W.heap.size+2) 50 2 (ElemOwn w (W.heap.size+2)) F2 (.slice s sl sc) ts
 kid:RowOwn w (W.heap.size+2) 56 6 (ArmOwn w (W.heap.size+2) n) F3 (.slice u ul uc) kids
 nodup:(F1++(F2++F3)).Nodup
 rd:InS w pb g cap L k false
 grown:W.grownBy w (some pb)
section
variable {W:World} {pb g cap:Nat} {L:List ByteArray} {n k:Nat} {x y:Int} {p:Option Addr} {pl pc:Nat} {r:Option Addr} {rl rc:Nat} {s:Option Addr} {sl sc:Nat} {u:Option Addr} {ul uc:Nat} {w w':World} {net:NetT} {ts:List ElemT} {kids:List ArmT} {F1 F2 F3:List Nat}
theorem SA.lt1(h:SA W pb g cap L n k x y p pl pc r rl rc s sl sc u ul uc w net ts kids F1 F2 F3):∀b∈F1,W.heap.size+2≤b∧b<w.heap.size:=NetOwn.lt n _ _ _ h.net
theorem SA.lt2(h:SA W pb g cap L n k x y p pl pc r rl rc s sl sc u ul uc w net ts kids F1 F2 F3):∀b∈F2,W.heap.size+2≤b∧b<w.heap.size:=RowOwn.lt h.row (fun f x c h=>h.lt)
theorem SA.lt3(h:SA W pb g cap L n k x y p pl pc r rl rc s sl sc u ul uc w net ts kids F1 F2 F3):∀b∈F3,W.heap.size+2≤b∧b<w.heap.size:=RowOwn.lt h.kid (fun f x c h=>ArmOwn.lt n f x c h)
theorem SA.other(h:SA W pb g cap L n k x y p pl pc r rl rc s sl sc u ul uc w net ts kids F1 F2 F3){row:Option Nat}(hG:w.grownBy w' row)(hr:∀j,row=some j→W.heap.size+2≤j∧j∉F1∧j∉F2∧j∉F3)(hpl:pb<W.heap.size)(hgl:g<W.heap.size):SA W pb g cap L n k x y p pl pc r rl rc s sl sc u ul uc w' net ts kids F1 F2 F3:=by
 have hne:∀b,b<W.heap.size+2→some b≠row:=fun b hb e=>by have:=(hr b e.symm).1;omega
 exact ⟨h.b1.move hG (hne _ (by omega)),h.b3.move hG (hne _ (by omega)),NetOwn.move hG n n (Nat.le_refl _) _ _ _ (fun b hb e=>(hr b e.symm).2.1 hb) h.net,RowOwn.move h.row hG (fun b hb e=>(hr b e.symm).2.2.1 hb) fun f x c hf h=>h.move hG hf,
  RowOwn.move h.kid hG (fun b hb e=>(hr b e.symm).2.2.2 hb) fun f x c hf h=>ArmOwn.move hG n n (Nat.le_refl _) f x c hf h,h.nodup,h.rd.move hG (hne _ (by omega)) (hne _ (by omega)),h.grown.andThen hG (fun j hj=>.inl (by have:=(hr j hj).1;omega))⟩
theorem SA.go(h:SA W pb g cap L n k x y p pl pc r rl rc s sl sc u ul uc w net ts kids F1 F2 F3){k1:Nat}(hG:w.grownBy w' (some pb))(hR:InS w' pb g cap L k1 false)(hpl:pb<W.heap.size):SA W pb g cap L n k1 x y p pl pc r rl rc s sl sc u ul uc w' net ts kids F1 F2 F3:=by
 have l1:=h.lt1
 have l2:=h.lt2
 have l3:=h.lt3
 exact ⟨h.b1.move hG (by simp;omega),h.b3.move hG (by simp;omega),NetOwn.move hG n n (Nat.le_refl _) _ _ _ (fun b hb=>by have:=l1 b hb;simp;omega) h.net,RowOwn.move h.row hG (fun b hb=>by have:=l2 b hb;simp;omega) fun f x c hf h=>h.move hG hf,
  RowOwn.move h.kid hG (fun b hb=>by have:=l3 b hb;simp;omega) fun f x c hf h=>ArmOwn.move hG n n (Nat.le_refl _) f x c hf h,h.nodup,hR,h.grown.trans hG⟩
theorem SA.coil{w4:World}{F' f:List Nat}{cs:List Value}{g1 cap1:Nat}{op:Int}{q:Option Addr}{ql qc:Nat}{e:ElemT}(h:SA W pb g cap L n k x y p pl pc r rl rc s sl sc u ul uc w net ts kids F1 F2 F3)(hpl:pb<W.heap.size)(hgl:g<W.heap.size)
  (hE:Each (ElemOwn w (W.heap.size+2)) 2 F' ts cs) (hF:F2=(Value.slice s sl sc).ownBlock.toList++F') (hx:ElemOwn w (W.heap.size+2) f e [.int .i64 op,.slice q ql qc]) (hfn:f.Nodup) (h1:∀b∈f,b∉F1) (h2:∀b∈f,b∉F2) (h3:∀b∈f,b∉F3)
  (own4:w4.ownsRow (W.heap.size+2) 50 2 (.slice (some ⟨g1,0,none⟩) (ts.length+1) cap1) (ts.length+1) (cs++[.int .i64 op,.slice q ql qc])) (g4:w.grownBy w4 (Value.slice s sl sc).ownBlock) (hat:(Value.slice s sl sc).ownBlock=some g1∨w.heap.size≤g1) :
  SA W pb g cap L n k x y p pl pc r rl rc (some ⟨g1,0,none⟩) (ts.length+1) cap1 u ul uc (w4.setCell ⟨W.heap.size+1,4,none⟩ (.slice (some ⟨g1,0,none⟩) (ts.length+1) cap1)) net (ts++[e]) kids F1 (g1::(F'++f)) F3:=by
 have l1:=h.lt1
 have l2:=h.lt2
 have l3:=h.lt3
 have lf:=hx.lt
 have nd:=List.nodup_append.1 h.nodup
 have nd2:=List.nodup_append.1 nd.2.1
 have hob:∀j,(Value.slice s sl sc).ownBlock=some j→j∈F2:=fun j hj=>by rw [hF,hj];simp
 obtain ⟨k1,k2,k3⟩:=row_more (R:=fun W'=>ElemOwn W' (W.heap.size+2)) (lo:=W.heap.size+2) (fun _ _ _ _ _ _ hg hr hh=>hh.move hg hr) hE hF l2 nd2.1 hx rfl lf hfn h2 own4 g4 hat
 have hlow:∀b,b<W.heap.size+2→some b≠(Value.slice s sl sc).ownBlock:=fun b hb e=>by have:=l2 b (hob b e.symm);omega
 have hs4:=g4.size
 have hb3:=h.b3.lt
 have G5:w4.grownBy (w4.setCell ⟨W.heap.size+1,4,none⟩ (.slice (some ⟨g1,0,none⟩) (ts.length+1) cap1)) (some (W.heap.size+1)):=zab _ _ _ _
 have m1:∀b∈F1,some b≠(Value.slice s sl sc).ownBlock:=fun b hb e=>nd.2.2 b hb b (List.mem_append_left _ (hob b e.symm)) rfl
 have m3:∀b∈F3,some b≠(Value.slice s sl sc).ownBlock:=fun b hb e=>nd2.2.2 b (hob b e.symm) b hb rfl
 have lk:∀b∈g1::(F'++f),W.heap.size+2≤b:=fun b hb=>by
  rcases k3 b hb with hh|hh|hh
  ·exact (l2 b hh).1
  ·exact (lf b hh).1
  ·omega
 refine ⟨(h.b1.move g4 (hlow _ (by omega))).move G5 (by simp),(h.b3.move g4 (hlow _ (by omega))).set 4 _,?_,?_,?_,?_,?_,?_⟩
 ·exact NetOwn.move G5 n n (Nat.le_refl _) _ _ _ (fun b hb=>by have:=l1 b hb;simp;omega) (NetOwn.move g4 n n (Nat.le_refl _) _ _ _ m1 h.net)
 ·exact RowOwn.move k1 G5 (fun b hb=>by have:=lk b hb;simp;omega) fun f x c hf hh=>hh.move G5 hf
 ·exact RowOwn.move (RowOwn.move h.kid g4 m3 fun f x c hf hh=>ArmOwn.move g4 n n (Nat.le_refl _) f x c hf hh) G5 (fun b hb=>by have:=l3 b hb;simp;omega) fun f x c hf hh=>ArmOwn.move G5 n n (Nat.le_refl _) f x c hf hh
 ·refine List.nodup_append.2 ⟨nd.1,List.nodup_append.2 ⟨k2,nd2.2.1,fun a ha b hb e=>?_⟩,fun a ha b hb e=>?_⟩
  ·subst e
   rcases k3 a ha with hh|hh|hh
   ·exact nd2.2.2 a hh a hb rfl
   ·exact h3 a hh hb
   ·have:=l3 a hb;omega
  ·subst e
   rcases List.mem_append.1 hb with hb|hb
   ·rcases k3 a hb with hh|hh|hh
    ·exact nd.2.2 a ha a (List.mem_append_left _ hh) rfl
    ·exact h1 a hh ha
    ·have:=l1 a ha;omega
   ·exact nd.2.2 a ha a (List.mem_append_right _ hb) rfl
 ·exact (h.rd.move g4 (hlow _ (by omega)) (hlow _ (by omega))).move G5 (by simp;omega) (by simp;omega)
 ·exact (h.grown.andThen g4 (fun j hj=>.inl (by have:=(l2 j (hob j hj)).1;omega))).andThen G5 (fun j hj=>.inl (by simp at hj;omega))
theorem SA.arm{w4:World}{F' f:List Nat}{cs c:List Value}{g1 cap1:Nat}{e:ArmT}(h:SA W pb g cap L n k x y p pl pc r rl rc s sl sc u ul uc w net ts kids F1 F2 F3)(hpl:pb<W.heap.size)(hgl:g<W.heap.size)
  (hE:Each (ArmOwn w (W.heap.size+2) n) 6 F' kids cs) (hF:F3=(Value.slice u ul uc).ownBlock.toList++F') (hx:ArmOwn w (W.heap.size+2) n f e c) (hc:c.length=6) (hfn:f.Nodup) (h1:∀b∈f,b∉F1) (h2:∀b∈f,b∉F2) (h3:∀b∈f,b∉F3)
  (own4:w4.ownsRow (W.heap.size+2) 56 6 (.slice (some ⟨g1,0,none⟩) (kids.length+1) cap1) (kids.length+1) (cs++c)) (g4:w.grownBy w4 (Value.slice u ul uc).ownBlock) (hat:(Value.slice u ul uc).ownBlock=some g1∨w.heap.size≤g1) :
  SA W pb g cap L n k x y p pl pc r rl rc s sl sc (some ⟨g1,0,none⟩) (kids.length+1) cap1 (w4.setCell ⟨W.heap.size+1,5,none⟩ (.slice (some ⟨g1,0,none⟩) (kids.length+1) cap1)) net ts (kids++[e]) F1 F2 (g1::(F'++f)):=by
 have l1:=h.lt1
 have l2:=h.lt2
 have l3:=h.lt3
 have lf:=ArmOwn.lt n _ _ _ hx
 have nd:=List.nodup_append.1 h.nodup
 have nd2:=List.nodup_append.1 nd.2.1
 have hob:∀j,(Value.slice u ul uc).ownBlock=some j→j∈F3:=fun j hj=>by rw [hF,hj];simp
 obtain ⟨k1,k2,k3⟩:=row_more (R:=fun W'=>ArmOwn W' (W.heap.size+2) n) (lo:=W.heap.size+2) (fun _ _ _ _ _ _ hg hr hh=>ArmOwn.move hg n n (Nat.le_refl _) _ _ _ hr hh) hE hF l3 nd2.2.1 hx hc lf hfn h3 own4 g4 hat
 have hlow:∀b,b<W.heap.size+2→some b≠(Value.slice u ul uc).ownBlock:=fun b hb e=>by have:=l3 b (hob b e.symm);omega
 have hs4:=g4.size
 have hb3:=h.b3.lt
 have G5:w4.grownBy (w4.setCell ⟨W.heap.size+1,5,none⟩ (.slice (some ⟨g1,0,none⟩) (kids.length+1) cap1)) (some (W.heap.size+1)):=zab _ _ _ _
 have m1:∀b∈F1,some b≠(Value.slice u ul uc).ownBlock:=fun b hb e=>nd.2.2 b hb b (List.mem_append_right _ (hob b e.symm)) rfl
 have m2:∀b∈F2,some b≠(Value.slice u ul uc).ownBlock:=fun b hb e=>nd2.2.2 b hb b (hob b e.symm) rfl
 have lk:∀b∈g1::(F'++f),W.heap.size+2≤b:=fun b hb=>by
  rcases k3 b hb with hh|hh|hh
  ·exact (l3 b hh).1
  ·exact (lf b hh).1
  ·omega
 refine ⟨(h.b1.move g4 (hlow _ (by omega))).move G5 (by simp),(h.b3.move g4 (hlow _ (by omega))).set 5 _,?_,?_,?_,?_,?_,?_⟩
 ·exact NetOwn.move G5 n n (Nat.le_refl _) _ _ _ (fun b hb=>by have:=l1 b hb;simp;omega) (NetOwn.move g4 n n (Nat.le_refl _) _ _ _ m1 h.net)
 ·exact RowOwn.move (RowOwn.move h.row g4 m2 fun f x c hf hh=>hh.move g4 hf) G5 (fun b hb=>by have:=l2 b hb;simp;omega) fun f x c hf hh=>hh.move G5 hf
 ·exact RowOwn.move k1 G5 (fun b hb=>by have:=lk b hb;simp;omega) fun f x c hf hh=>ArmOwn.move G5 n n (Nat.le_refl _) f x c hf hh
 ·refine List.nodup_append.2 ⟨nd.1,List.nodup_append.2 ⟨nd2.1,k2,fun a ha b hb e=>?_⟩,fun a ha b hb e=>?_⟩
  ·subst e
   rcases k3 a hb with hh|hh|hh
   ·exact nd2.2.2 a ha a hh rfl
   ·exact h2 a hh ha
   ·have:=l2 a ha;omega
  ·subst e
   rcases List.mem_append.1 hb with hb|hb
   ·exact nd.2.2 a ha a (List.mem_append_left _ hb) rfl
   ·rcases k3 a hb with hh|hh|hh
    ·exact nd.2.2 a ha a (List.mem_append_right _ hh) rfl
    ·exact h1 a hh ha
    ·have:=l1 a ha;omega
 ·exact (h.rd.move g4 (hlow _ (by omega)) (hlow _ (by omega))).move G5 (by simp;omega) (by simp;omega)
 ·exact (h.grown.andThen g4 (fun j hj=>.inl (by have:=(l3 j (hob j hj)).1;omega))).andThen G5 (fun j hj=>.inl (by simp at hj;omega))
def SArm(W:World)(pb g cap:Nat)(L:List ByteArray)(n k:Nat)(e:Ending)(w':World):Prop :=
 ∃(x y:Int)(p:Option Addr)(pl pc:Nat)(r:Option Addr)(rl rc:Nat)(s:Option Addr)(sl sc:Nat)(u:Option Addr)(ul uc:Nat)(k':Nat)(bad:Bool),e=.returned (.agg #[.int .i64 x,.int .i64 y,.slice p pl pc,.slice r rl rc,.slice s sl sc,.slice u ul uc])∧InS w' pb g cap L k' bad∧W.grownBy w' (some pb) ∧
  (bad=false→∃t F,zbj L n k=some (t,k')∧ArmOwn w' W.heap.size n F t [.int .i64 x,.int .i64 y,.slice p pl pc,.slice r rl rc,.slice s sl sc,.slice u ul uc]∧F.Nodup)∧(bad=true→zbj L n k=none)
theorem SA.done(h:SA W pb g cap L n k x y p pl pc r rl rc s sl sc u ul uc w net ts kids F1 F2 F3)(hpl:pb<W.heap.size)(hgl:g<W.heap.size){k0:Nat}(hsd:zbj L (n+1) k0=some (.mk net ts kids,k)) :
  SArm W pb g cap L (n+1) k0 (.returned (.agg #[.int .i64 x,.int .i64 y,.slice p pl pc,.slice r rl rc,.slice s sl sc,.slice u ul uc])) (S6 w W.heap.size (.int .i64 x) (.int .i64 y) (.slice p pl pc) (.slice r rl rc) (.slice s sl sc) (.slice u ul uc)):=by
 have l1:=h.lt1
 have l2:=h.lt2
 have l3:=h.lt3
 have G6:=S6.grown w W.heap.size (.int .i64 x) (.int .i64 y) (.slice p pl pc) (.slice r rl rc) (.slice s sl sc) (.slice u ul uc)
 refine ⟨x,y,p,pl,pc,r,rl,rc,s,sl,sc,u,ul,uc,k,false,rfl,h.rd.move G6 (by simp;omega) (by simp;omega),h.grown.andThen G6 (fun j hj=>.inl (by simp at hj;omega)),fun _=>⟨_,F1++(F2++F3),hsd,⟨[.int .i64 x,.int .i64 y,.slice p pl pc,.slice r rl rc],.slice s sl sc,.slice u ul uc,F1,F2,F3,rfl,rfl,?_,?_,?_⟩,h.nodup⟩,fun hh=>by cases hh⟩
 ·exact NetOwn.base (by omega) n _ _ _ (NetOwn.move G6 n n (Nat.le_refl _) _ _ _ (fun b hb=>by have:=l1 b hb;simp;omega) h.net)
 ·exact RowOwn.base (RowOwn.move h.row G6 (fun b hb=>by have:=l2 b hb;simp;omega) fun f x c hf hh=>hh.move G6 hf) (by omega) fun f x c hh=>ElemOwn.base (by omega) hh
 ·exact RowOwn.base (RowOwn.move h.kid G6 (fun b hb=>by have:=l3 b hb;simp;omega) fun f x c hf hh=>ArmOwn.move G6 n n (Nat.le_refl _) f x c hf hh) (by omega) fun f x c hh=>ArmOwn.base (by omega) n f x c hh
end
theorem sarm_bad{W w7:World}{pb g cap:Nat}{L:List ByteArray}{n k k':Nat}{x y:Int}{p:Option Addr}{pl pc:Nat}{r:Option Addr}{rl rc:Nat}{s:Option Addr}{sl sc:Nat}{u:Option Addr}{ul uc:Nat}(hR:InS w7 pb g cap L k' true)(hG:W.grownBy w7 (some pb))(hsd:zbj L (n+1) k=none)(hpl:pb<W.heap.size)(hgl:g<W.heap.size) :
  SArm W pb g cap L (n+1) k (.returned (.agg #[.int .i64 x,.int .i64 y,.slice p pl pc,.slice r rl rc,.slice s sl sc,.slice u ul uc])) (S6 w7 W.heap.size (.int .i64 x) (.int .i64 y) (.slice p pl pc) (.slice r rl rc) (.slice s sl sc) (.slice u ul uc)):=by
 have G6:=S6.grown w7 W.heap.size (.int .i64 x) (.int .i64 y) (.slice p pl pc) (.slice r rl rc) (.slice s sl sc) (.slice u ul uc)
 exact ⟨x,y,p,pl,pc,r,rl,rc,s,sl,sc,u,ul,uc,k',true,rfl,hR.move G6 (by simp;omega) (by simp;omega),hG.andThen G6 (fun j hj=>.inl (by simp at hj;omega)),(fun hh=>by cases hh),fun _=>hsd⟩
noncomputable def restK(L:List ByteArray)(m j:Nat):Option (List ArmT×Nat):=if kAt L j=8 then some ([],j+1) else if kAt L j=7 then zaw L m (j+1) else none
theorem zic(L:List ByteArray)(m k:Nat):zaw L (m+1) k=(zbj L m k).bind fun r=>(restK L m r.2).map fun s=>(r.1::s.1,s.2):=by
 rw [zaw]
 congr 1
 funext r
 unfold restK
 by_cases h8:kAt L r.2=8
 ·rw [if_pos h8,if_pos h8];rfl
 ·rw [if_neg h8,if_neg h8]
  by_cases h7:kAt L r.2=7
  ·rw [if_pos h7,if_pos h7]
  ·rw [if_neg h7,if_neg h7];rfl
theorem sdArm_gt{L:List ByteArray}{n k:Nat}{r:ArmT×Nat}(h:zbj L n k=some r):k<r.2:=(arm_gt L n).1 _ _ ((sd_rd L n).1 _ _ h)
def KidS(W:World)(pb g cap:Nat)(L:List ByteArray)(n:Nat)(x y:Int)(p:Option Addr)(pl pc:Nat)(r:Option Addr)(rl rc:Nat)(s:Option Addr)(sl sc:Nat)(net:NetT)(ts:List ElemT)(F1 F2:List Nat)(kc gk:Nat)(wr:World):Prop :=
 ∃(kids:List ArmT)(k':Nat)(F3:List Nat)(u:Option Addr)(ul uc:Nat)(bad:Bool),Bk wr W.heap.size armZ 56∧Bk wr (W.heap.size+1) #[.int .i64 x,.int .i64 y,.slice p pl pc,.slice r rl rc,.slice s sl sc,.slice u ul uc] 56∧InS wr pb g cap L k' bad∧W.grownBy wr (some pb) ∧
  (bad=false→SA W pb g cap L n k' x y p pl pc r rl rc s sl sc u ul uc wr net ts kids F1 F2 F3∧kids.length≤k'∧2*(L.length-k')<gk∧gk≤n∧zaw L n kc=(restK L gk k').map fun v=>(kids++v.1,v.2))∧(bad=true→zaw L n kc=none)
theorem kid_step{W w1 w2 w4:World}{pb g cap:Nat}{L:List ByteArray}{n m kb kc:Nat}{x y:Int}{p:Option Addr}{pl pc:Nat}{r:Option Addr}{rl rc:Nat}{s:Option Addr}{sl sc:Nat}{u:Option Addr}{ul uc:Nat}{net:NetT}{ts:List ElemT}{kids:List ArmT}{F1 F2 F3 F':List Nat}{cs c:List Value}{bad:Bool}{k2 g1 cap1:Nat}{o1:Obj}
  (h:SA W pb g cap L n kb x y p pl pc r rl rc s sl sc u ul uc w1 net ts kids F1 F2 F3) (hlen:kids.length≤kb) (hfu:2*(L.length-kb)+1<m) (hmn:m+1≤n) (hans:zaw L n kc=(zaw L (m+1) kb).map fun v=>(kids++v.1,v.2))
  (hI2:InS w2 pb g cap L k2 bad) (hG2:w1.grownBy w2 (some pb)) (hgood:bad=false→∃t F,zbj L m kb=some (t,k2)∧ArmOwn w2 w1.heap.size m F t c∧F.Nodup) (hbad:bad=true→zbj L m kb=none) (hc:c.length=6)
  (hE:Each (ArmOwn w1 (W.heap.size+2) n) 6 F' kids cs) (hF:F3=(Value.slice u ul uc).ownBlock.toList++F')
  (own4:w4.ownsRow (W.heap.size+2) 56 6 (.slice (some ⟨g1,0,none⟩) (kids.length+1) cap1) (kids.length+1) (cs++c)) (g4:(w2.alloc o1).grownBy w4 (Value.slice u ul uc).ownBlock) (hat:(Value.slice u ul uc).ownBlock=some g1∨(w2.alloc o1).heap.size≤g1)
  (hpl:pb<W.heap.size) (hgl:g<W.heap.size) :
  KidS W pb g cap L n x y p pl pc r rl rc s sl sc net ts F1 F2 kc m (w4.setCell ⟨W.heap.size+1,5,none⟩ (.slice (some ⟨g1,0,none⟩) (kids.length+1) cap1)):=by
 have l1:=h.lt1
 have l2:=h.lt2
 have l3:=h.lt3
 have hs:=h.b3.lt
 have hs2:=hG2.size
 have hob:∀j,(Value.slice u ul uc).ownBlock=some j→j∈F3:=fun j hj=>by rw [hF,hj];simp
 have hlow:∀b,b<W.heap.size+2→some b≠(Value.slice u ul uc).ownBlock:=fun b hb e=>by have:=l3 b (hob b e.symm);omega
 have GA:=World.grownBy_alloc w2 o1
 cases bad with
 | false =>
  obtain ⟨t,f,hsd,hO,hfn⟩:=hgood rfl
  have hlt:=ArmOwn.lt m _ _ _ hO
  have hgt:kb<k2:=sdArm_gt hsd
  have h2:=(h.go hG2 hI2 hpl).other (GA none) (fun j hj=>by cases hj) hpl hgl
  have hE2:Each (ArmOwn (w2.alloc o1) (W.heap.size+2) n) 6 F' kids cs:=hE.move fun f1 x1 c1 e1 e2=>by
   refine ArmOwn.move (GA none) n n (Nat.le_refl _) _ _ _ (fun b hb=>by simp) (ArmOwn.move hG2 n n (Nat.le_refl _) _ _ _ (fun b hb=>?_) e2)
   have:=l3 b (by rw [hF];exact List.mem_append_right _ (e1 hb))
   simp;omega
  have hx:ArmOwn (w2.alloc o1) (W.heap.size+2) n f t c:=ArmOwn.move (GA none) m n (by omega) _ _ _ (fun b hb=>by simp) (ArmOwn.base (by omega) m _ _ _ hO)
  have hS:=h2.arm hpl hgl hE2 hF hx hc hfn (fun b hb hm=>by have:=hlt b hb;have:=l1 b hm;omega) (fun b hb hm=>by have:=hlt b hb;have:=l2 b hm;omega) (fun b hb hm=>by have:=hlt b hb;have:=l3 b hm;omega) own4 g4 hat
  refine ⟨kids++[t],k2,_,_,_,_,false,hS.b1,hS.b3,hS.rd,hS.grown,fun _=>⟨hS,by simp;omega,by omega,by omega,?_⟩,fun hh=>by cases hh⟩
  rw [hans,zic,hsd,Option.bind_some]
  cases restK L m k2<;>simp
 | true =>
  have G4:w2.grownBy w4 (Value.slice u ul uc).ownBlock:=(GA _).trans g4
  have G5:w4.grownBy (w4.setCell ⟨W.heap.size+1,5,none⟩ (.slice (some ⟨g1,0,none⟩) (kids.length+1) cap1)) (some (W.heap.size+1)):=zab _ _ _ _
  refine ⟨[],k2,[],_,_,_,true,((h.b1.move hG2 (by simp;omega)).move G4 (hlow _ (by omega))).move G5 (by simp),((h.b3.move hG2 (by simp;omega)).move G4 (hlow _ (by omega))).set 5 _,(hI2.move G4 (hlow _ (by omega)) (hlow _ (by omega))).move G5 (by simp;omega) (by simp;omega),((h.grown.trans hG2).andThen G4 (fun j hj=>.inl (by have:=(l3 j (hob j hj)).1;omega))).andThen G5 (fun j hj=>.inl (by simp at hj;omega)),(fun hh=>by cases hh),fun _=>?_⟩
  rw [hans,zic,hbad rfl]
  rfl
def SArmB(W:World)(pb g cap:Nat)(L:List ByteArray)(m k:Nat)(w':World)(bad:Bool)(k':Nat)(c:List Value):Prop :=
 InS w' pb g cap L k' bad∧W.grownBy w' (some pb)∧(bad=false→∃t F,zbj L m k=some (t,k')∧ArmOwn w' W.heap.size m F t c∧F.Nodup)∧(bad=true→zbj L m k=none)
section
variable {W w1 w2:World} {pb g cap:Nat} {L:List ByteArray} {n m kb kc:Nat} {x y:Int} {p:Option Addr} {pl pc:Nat} {r:Option Addr} {rl rc:Nat} {s:Option Addr} {sl sc:Nat} {u:Option Addr} {ul uc:Nat} {net:NetT} {ts:List ElemT} {kids:List ArmT} {F1 F2 F3 F':List Nat} {cs:List Value} {bad:Bool} {k2:Nat}
theorem kid_call(h:SA W pb g cap L n kb x y p pl pc r rl rc s sl sc u ul uc w1 net ts kids F1 F2 F3)(hgl:g<W.heap.size)(hmn:m+1≤n)(hfu:2*(L.length-kb)+1<m)
  (HA:∀W' k m,m<n→InS W' pb g cap L k false→g<W'.heap.size→2*(L.length-k)+1<m→Calls Tryz.prog 45 #[.pointer (some ⟨pb,0,none⟩)] W' fun e w'=>SArm W' pb g cap L m k e w') :
  Calls Tryz.prog 45 #[.pointer (some ⟨pb,0,none⟩)] w1.drew fun e w5=>∃bad k2 x1 y1 p1 pl1 pc1 r1 rl1 rc1 s1 sl1 sc1 u1 ul1 uc1,e=.returned (.agg #[.int .i64 x1,.int .i64 y1,.slice p1 pl1 pc1,.slice r1 rl1 rc1,.slice s1 sl1 sc1,.slice u1 ul1 uc1])∧SArmB w1 pb g cap L m kb w5 bad k2 [.int .i64 x1,.int .i64 y1,.slice p1 pl1 pc1,.slice r1 rl1 rc1,.slice s1 sl1 sc1,.slice u1 ul1 uc1]:=by
 have hs:=h.b3.lt
 refine (HA w1.drew kb m (by omega) (h.rd.move (zaz w1 none) (by simp) (by simp)) (by show g<w1.heap.size;omega) hfu).mono ?_
 rintro e w5 ⟨x1,y1,p1,pl1,pc1,r1,rl1,rc1,s1,sl1,sc1,u1,ul1,uc1,k2,bad,rfl,h5,h6,h7,h8⟩
 exact ⟨bad,k2,x1,y1,p1,pl1,pc1,r1,rl1,rc1,s1,sl1,sc1,u1,ul1,uc1,rfl,h5,(zaz w1 _).trans h6,h7,h8⟩
theorem kid_x(h:SA W pb g cap L n kb x y p pl pc r rl rc s sl sc u ul uc w1 net ts kids F1 F2 F3)(hpl:pb<W.heap.size)(hF:F3=(Value.slice u ul uc).ownBlock.toList++F')(hOw:w1.ownsRow (W.heap.size+2) 56 6 (.slice u ul uc) kids.length cs){c0 c1 c2 c3 c4 c5:Value}(h5:SArmB w1 pb g cap L m kb w2 bad k2 [c0,c1,c2,c3,c4,c5]) :
  w2.cell? ⟨W.heap.size+1,5,none⟩=some (.slice u ul uc)∧(w2.alloc (.cells #[c0,c1,c2,c3,c4,c5] 56)).cell? ⟨W.heap.size+1,5,none⟩=some (.slice u ul uc)∧(w2.alloc (.cells #[c0,c1,c2,c3,c4,c5] 56)).ownsRow (W.heap.size+2) 56 6 (.slice u ul uc) kids.length cs∧W.heap.size+2≤w2.heap.size ∧
  (∀(q:Nat)(v:Value),([c0,c1,c2,c3,c4,c5]:List Value)[q]?=some v→(w2.alloc (.cells #[c0,c1,c2,c3,c4,c5] 56)).cell? ((⟨w2.heap.size,0,none⟩:Addr).add q)=some v):=by
 have l3:=h.lt3
 have hs:=h.b3.lt
 have B5:=h.b3.move h5.2.1 (by simp;omega)
 have B5a:=B5.move (World.grownBy_alloc w2 (.cells #[c0,c1,c2,c3,c4,c5] 56) none) (by simp)
 refine ⟨B5.cell 5,B5a.cell 5,World.ownsRow.alloc (hOw.kept h5.2.1 ?_) _,by have:=h5.2.1.size;omega,?_⟩
 ·cases hv:(Value.slice u ul uc).ownBlock with
  | none=>exact .inl rfl
  | some b=>exact .inr (by have:=l3 b (by rw [hF,hv];simp);simp;omega)
 ·intro q v hq
  match q with
  | 0=>simp at hq;subst hq;simp [Addr.add]
  | 1=>simp at hq;subst hq;simp [Addr.add]
  | 2=>simp at hq;subst hq;simp [Addr.add]
  | 3=>simp at hq;subst hq;simp [Addr.add]
  | 4=>simp at hq;subst hq;simp [Addr.add]
  | 5=>simp at hq;subst hq;simp [Addr.add]
  | (j+6)=>simp at hq
theorem kid_y(h:SA W pb g cap L n kb x y p pl pc r rl rc s sl sc u ul uc w1 net ts kids F1 F2 F3)(hpl:pb<W.heap.size)(hgl:g<W.heap.size)(hlen:kids.length≤kb)(hfu:2*(L.length-kb)+1<m)(hmn:m+1≤n)(hans:zaw L n kc=(zaw L (m+1) kb).map fun v=>(kids++v.1,v.2))
  (hE:Each (ArmOwn w1 (W.heap.size+2) n) 6 F' kids cs) (hF:F3=(Value.slice u ul uc).ownBlock.toList++F') {c0 c1 c2 c3 c4 c5:Value} (h5:SArmB w1 pb g cap L m kb w2 bad k2 [c0,c1,c2,c3,c4,c5]) {g1 cap1:Nat} {w6:World}
  (own:w6.ownsRow (W.heap.size+2) 56 6 (.slice (some ⟨g1,0,none⟩) (kids.length+1) cap1) (kids.length+1) (cs++[c0,c1,c2,c3,c4,c5])) (g4:(w2.alloc (.cells #[c0,c1,c2,c3,c4,c5] 56)).grownBy w6 (Value.slice u ul uc).ownBlock) (hat:(Value.slice u ul uc).ownBlock=some g1∨g1=(w2.alloc (.cells #[c0,c1,c2,c3,c4,c5] 56)).heap.size) :
  w6.cell? ⟨W.heap.size+1,5,none⟩=some (.slice u ul uc)∧w6.frozen? ⟨W.heap.size+1,5,none⟩=false∧KidS W pb g cap L n x y p pl pc r rl rc s sl sc net ts F1 F2 kc m (w6.setCell ⟨W.heap.size+1,5,none⟩ (.slice (some ⟨g1,0,none⟩) (kids.length+1) cap1)):=by
 have l3:=h.lt3
 have B5:=h.b3.move h5.2.1 (by simp;omega)
 have B6:=B5.move ((World.grownBy_alloc w2 (.cells #[c0,c1,c2,c3,c4,c5] 56) _).trans g4) (fun e=>by have:=(l3 (W.heap.size+1) (by rw [hF,←e];simp)).1;omega)
 exact ⟨B6.cell 5,B6.free 5,kid_step h hlen hfu hmn hans h5.1 h5.2.1 h5.2.2.1 h5.2.2.2 rfl hE hF own g4 (hat.imp id fun e=>by omega) hpl hgl⟩
end
theorem arm_ret{W w9:World}{x y:Int}{p:Option Addr}{pl pc:Nat}{r:Option Addr}{rl rc:Nat}{s:Option Addr}{sl sc:Nat}{u:Option Addr}{ul uc:Nat}(b1:Bk w9 W.heap.size armZ 56)(b3:Bk w9 (W.heap.size+1) #[.int .i64 x,.int .i64 y,.slice p pl pc,.slice r rl rc,.slice s sl sc,.slice u ul uc] 56) :
  (loadVar 56 ⟨W.heap.size+1,0,none⟩).run Tryz.prog w9=.ok (.agg #[.int .i64 x,.int .i64 y,.slice p pl pc,.slice r rl rc,.slice s sl sc,.slice u ul uc]) w9 ∧
  (storeVar 56 ⟨W.heap.size,0,none⟩ (.agg #[.int .i64 x,.int .i64 y,.slice p pl pc,.slice r rl rc,.slice s sl sc,.slice u ul uc])).run Tryz.prog w9=.ok () (S6 w9 W.heap.size (.int .i64 x) (.int .i64 y) (.slice p pl pc) (.slice r rl rc) (.slice s sl sc) (.slice u ul uc)) ∧
  Bk (S6 w9 W.heap.size (.int .i64 x) (.int .i64 y) (.slice p pl pc) (.slice r rl rc) (.slice s sl sc) (.slice u ul uc)) W.heap.size #[.int .i64 x,.int .i64 y,.slice p pl pc,.slice r rl rc,.slice s sl sc,.slice u ul uc] 56:=by
 refine ⟨zgl (P:=Tryz.prog) b3 56 _ Tryz.underlying56 rfl (by kernel_rfl),?_,b1.put6 _ _ _ _ _ _⟩
 exact run_storeVar_mid w9 W.heap.size 0 56 #[.int .i64 x,.int .i64 y,.slice p pl pc,.slice r rl rc,.slice s sl sc,.slice u ul uc] (fun i hi=>by
  rw [Nat.zero_add]
  exact ⟨by rw [b1.cell];match i,hi with|0,_=>rfl|1,_=>rfl|2,_=>rfl|3,_=>rfl|4,_=>rfl|5,_=>rfl,b1.free i⟩) (by kernel_rfl) (by simp [Value.oneCell'])
def KEnd(W:World)(pb g cap:Nat)(L:List ByteArray)(n k:Nat)(x y:Int)(p:Option Addr)(pl pc:Nat)(r:Option Addr)(rl rc:Nat)(s:Option Addr)(sl sc:Nat)(u:Option Addr)(ul uc:Nat)(w8 w9:World):Prop :=
 (loadVar 56 ⟨W.heap.size+1,0,none⟩).run Tryz.prog w8=.ok (.agg #[.int .i64 x,.int .i64 y,.slice p pl pc,.slice r rl rc,.slice s sl sc,.slice u ul uc]) w8 ∧
 (storeVar 56 ⟨W.heap.size,0,none⟩ (.agg #[.int .i64 x,.int .i64 y,.slice p pl pc,.slice r rl rc,.slice s sl sc,.slice u ul uc])).run Tryz.prog w8=.ok () w9 ∧
 SArm W pb g cap L (n+1) k (.returned (.agg #[.int .i64 x,.int .i64 y,.slice p pl pc,.slice r rl rc,.slice s sl sc,.slice u ul uc])) w9∧Bk w9 W.heap.size #[.int .i64 x,.int .i64 y,.slice p pl pc,.slice r rl rc,.slice s sl sc,.slice u ul uc] 56
theorem kend_bad{W w8:World}{pb g cap:Nat}{L:List ByteArray}{n k k8:Nat}{x y:Int}{p:Option Addr}{pl pc:Nat}{r:Option Addr}{rl rc:Nat}{s:Option Addr}{sl sc:Nat}{u:Option Addr}{ul uc:Nat}(b1:Bk w8 W.heap.size armZ 56)(b3:Bk w8 (W.heap.size+1) #[.int .i64 x,.int .i64 y,.slice p pl pc,.slice r rl rc,.slice s sl sc,.slice u ul uc] 56)
  (hI:InS w8 pb g cap L k8 true) (hG:W.grownBy w8 (some pb)) (hsd:zbj L (n+1) k=none) (hpl:pb<W.heap.size) (hgl:g<W.heap.size):∃w9,KEnd W pb g cap L n k x y p pl pc r rl rc s sl sc u ul uc w8 w9:=by
 obtain ⟨h1,h2,h3⟩:=arm_ret b1 b3
 exact ⟨_,h1,h2,sarm_bad hI hG hsd hpl hgl,h3⟩
theorem kend_good{W w8:World}{pb g cap:Nat}{L:List ByteArray}{n k k8:Nat}{x y:Int}{p:Option Addr}{pl pc:Nat}{r:Option Addr}{rl rc:Nat}{s:Option Addr}{sl sc:Nat}{u:Option Addr}{ul uc:Nat}{net:NetT}{ts:List ElemT}{kids:List ArmT}{F1 F2 F3:List Nat}
  (h:SA W pb g cap L n k8 x y p pl pc r rl rc s sl sc u ul uc w8 net ts kids F1 F2 F3) (hpl:pb<W.heap.size) (hgl:g<W.heap.size) (hsd:zbj L (n+1) k=some (.mk net ts kids,k8)):∃w9,KEnd W pb g cap L n k x y p pl pc r rl rc s sl sc u ul uc w8 w9:=by
 obtain ⟨h1,h2,h3⟩:=arm_ret h.b1 h.b3
 exact ⟨_,h1,h2,h.done hpl hgl hsd,h3⟩
end Go.Proofs.YtllmabgollkigaaGreatDoor
