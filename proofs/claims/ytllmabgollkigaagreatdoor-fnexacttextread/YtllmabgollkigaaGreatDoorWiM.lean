/- A line of words read as an arm: one function for both sides. -/
import Derived.Test.YtllmabgollkigaaGreatDoorWe
import Derived.Test.YtllmabgollkigaaGreatDoorGbM
import Derived.Deep.AppendLies
import Derived.Deep.DeepCutAuto
set_option maxHeartbeats 8000000
namespace Go.Proofs.YtllmabgollkigaaGreatDoor
open Go.RowKit
set_option linter.unusedVariables false
open Classical in
noncomputable def elAt(x:ByteArray):Option ElemT:=if h:∃e:ElemT,IsEl x e.op e.args then some h.choose else none
theorem elAt_some{x:ByteArray}{op:Int}{xs:List Arg}(h:IsEl x op xs):elAt x=some ⟨op,xs⟩:=by
 have hx:∃e:ElemT,IsEl x e.op e.args:=⟨⟨op,xs⟩,h⟩
 unfold elAt
 rw [dif_pos hx]
 have h2:=hx.choose_spec
 obtain ⟨e1,e2⟩:=zer h2.1 h.1 (h2.2.trans h.2.symm)
 cases hq:hx.choose with
 | mk o a=>rw [hq] at e1 e2;simp at e1 e2;subst e1;subst e2;rfl
theorem elAt_none{x:ByteArray}(h:∀op xs,¬ IsEl x op xs):elAt x=none:=by
 unfold elAt
 rw [dif_neg]
 rintro ⟨e,he⟩
 exact h _ _ he
noncomputable def elQ(L:List ByteArray)(q:Int→Bool)(k:Nat):Option ElemT:=if k<L.length then (elAt (wAt L k)).filter (fun e=>q e.op) else none
def qCt(op:Int):Bool:=decide (op≤10)
def qCl(op:Int):Bool:=decide (21≤op)
def noNet:NetT:=.mk 0 ⟨0,[]⟩ []
mutual
noncomputable def zav(L:List ByteArray):Nat→Nat→Option (NetT×Nat)
 | 0,_=>none
 | n+1,k=>if kAt L k=2∨kAt L k=3∨kAt L k=4 then (zag L n (k+1)).map fun r=>(.mk (kAt L k) ⟨0,[]⟩ r.1,r.2) else (elQ L qCt k).map fun e=>(.mk 1 e [],k+1)
noncomputable def zag(L:List ByteArray):Nat→Nat→Option (List NetT×Nat)
 | 0,_=>none
 | n+1,k=>if kAt L k=9 then some ([],k+1) else (zav L n k).bind fun r=>(zag L n r.2).map fun s=>(r.1::s.1,s.2)
end
noncomputable def zae(L:List ByteArray):Nat→Nat→List ElemT×Nat
 | 0,k=>([],k)
 | n+1,k=>match elQ L qCl k with|some e=>(e::(zae L n (k+1)).1,(zae L n (k+1)).2)|none=>([],k)
noncomputable def zba(L:List ByteArray)(n k:Nat):Option (NetT×Nat) :=
 if kAt L k=5 then some (noNet,k+1) else (zav L n k).bind fun r=>if kAt L r.2=5 then some (r.1,r.2+1) else none
mutual
noncomputable def zbz(L:List ByteArray):Nat→Nat→Option (ArmT×Nat)
 | 0,_=>none
 | n+1,k=>(zba L n k).bind fun r=>if kAt L (zae L n r.2).2=6 then (zbb L n ((zae L n r.2).2+1)).map fun s=>(.mk r.1 (zae L n r.2).1 s.1,s.2) else some (.mk r.1 (zae L n r.2).1 [],(zae L n r.2).2)
noncomputable def zbb(L:List ByteArray):Nat→Nat→Option (List ArmT×Nat)
 | 0,_=>none
 | n+1,k=>(zbz L n k).bind fun r=>if kAt L r.2=8 then some ([r.1],r.2+1) else if kAt L r.2=7 then (zbb L n (r.2+1)).map fun s=>(r.1::s.1,s.2) else none
end
theorem zgp{L:List ByteArray}{q:Int→Bool}{k:Nat}{op:Int}{xs:List Arg}(hk:k<L.length)(h:IsEl (wAt L k) op xs)(hq:q op=true):elQ L q k=some ⟨op,xs⟩:=by
 unfold elQ
 rw [if_pos hk,elAt_some h]
 simp [hq]
theorem zeh{L:List ByteArray}{q:Int→Bool}{k:Nat}(h:∀op xs,k<L.length→IsEl (wAt L k) op xs→q op=false):elQ L q k=none:=by
 unfold elQ
 by_cases hk:k<L.length
 ·rw [if_pos hk]
  by_cases hx:∃op xs,IsEl (wAt L k) op xs
  ·obtain ⟨op,xs,hx⟩:=hx
   rw [elAt_some hx]
   simp [h op xs hk hx]
  ·rw [elAt_none fun op xs h'=>hx ⟨op,xs,h'⟩]
   rfl
 ·rw [if_neg hk]
end Go.Proofs.YtllmabgollkigaaGreatDoor
namespace Go.Proofs.YtllmabgollkigaaGreatDoor
open Go.RowKit
set_option linter.unusedVariables false
theorem own_base{W:World}{base base' e z n:Nat}{v:Value}{xs:List Value}(h:W.ownsRow base e z v n xs)(hb:base'≤base):W.ownsRow base' e z v n xs:=by
 refine ⟨h.1,?_⟩
 rcases h.2 with h1|⟨g,cap,cur,h1,h2,h3⟩
 ·exact .inl h1
 ·exact .inr ⟨g,cap,cur,h1,by omega,h3⟩
theorem RowOwn.base{α:Type}{W:World}{base base' e z:Nat}{R R':List Nat→α→List Value→Prop}{F:List Nat}{v:Value}{xs:List α}(h:RowOwn W base e z R F v xs)(hb:base'≤base)(hR:∀f x c,R f x c→R' f x c):RowOwn W base' e z R' F v xs:=by
 obtain ⟨cs,F',h1,h2,h3⟩:=h
 exact ⟨cs,F',h1.move fun f x c _=>hR f x c,own_base h2 hb,h3⟩
theorem NetOwn.base{W:World}{base base':Nat}(hb:base'≤base):∀(n:Nat)(F:List Nat)(t:NetT)(c:List Value),NetOwn W base n F t c→NetOwn W base' n F t c
 | 0,_,_,_,h=>h.elim
 | n+1,F,.mk k e kids,c,h=>by
  obtain ⟨v,v',F1,F2,hc,rfl,h1,h2⟩:=h
  exact ⟨v,v',F1,F2,hc,rfl,RowOwn.base h1 hb fun _ _ _ h=>h,RowOwn.base h2 hb fun f x c h=>NetOwn.base hb n f x c h⟩
def zcq(W:World)(rb g cap mb:Nat)(L:List ByteArray)(n k:Nat)(e:Ending)(w':World):Prop :=
 (∃(t:NetT)(k':Nat)(F:List Nat)(x y:Int)(p:Option Addr)(pl pc:Nat)(r:Option Addr)(rl rc:Nat),zav L n k=some (t,k')∧k<k'∧e=.returned (.tuple #[.agg #[.int .i64 x,.int .i64 y,.slice p pl pc,.slice r rl rc],.bool true])∧NetOwn w' W.heap.size n F t [.int .i64 x,.int .i64 y,.slice p pl pc,.slice r rl rc]∧F.Nodup∧RdI w' rb g cap mb L k'∧W.grownBy w' (some rb)) ∨
 (∃(k':Nat)(x y:Int)(p:Option Addr)(pl pc:Nat)(r:Option Addr)(rl rc:Nat),zav L n k=none∧e=.returned (.tuple #[.agg #[.int .i64 x,.int .i64 y,.slice p pl pc,.slice r rl rc],.bool false])∧RdI w' rb g cap mb L k'∧W.grownBy w' (some rb))
def zet(W:World)(rb g cap mb:Nat)(L:List ByteArray)(n k:Nat)(e:Ending)(w':World):Prop :=
 (∃(ts:List NetT)(k':Nat)(F:List Nat)(v:Value),zag L n k=some (ts,k')∧k<k'∧e=.returned (.tuple #[v,.bool true])∧RowOwn w' W.heap.size 53 4 (NetOwn w' W.heap.size n) F v ts∧F.Nodup∧RdI w' rb g cap mb L k'∧W.grownBy w' (some rb)) ∨
 (∃k',zag L n k=none∧e=.returned (.tuple #[.slice none 0 0,.bool false])∧RdI w' rb g cap mb L k'∧W.grownBy w' (some rb))
structure NetsAt (W0 W:World) (rb g cap mb:Nat) (L:List ByteArray) (n k0 m:Nat) (v:Value) (wr:World) (ts:List NetT) (k:Nat) (F:List Nat):Prop where
 own:RowOwn wr W.heap.size 53 4 (NetOwn wr W.heap.size n) F v ts
 nodup:F.Nodup
 rd:RdI wr rb g cap mb L k
 grown:W.grownBy wr (some rb)
 below:Below W0.heap.size W0 wr
 fuel:2*(L.length-k)+1<m
 mn:m≤n
 le:k0≤k
 len:ts.length+k0≤k
 ans:zag L n k0=(zag L m k).map fun s=>(ts++s.1,s.2)
theorem rnets_step{W0 W wr w1 w2 w4:World}{rb g cap mb n k0 m k k' g1 cap1:Nat}{L:List ByteArray}{ts:List NetT}{t:NetT}{F F' f:List Nat}{u4:Value}{cs:List Value}{x y:Int}{p:Option Addr}{pl pc:Nat}{r:Option Addr}{rl rc:Nat}{o1 o2:Obj}
  (hA:NetsAt W0 W rb g cap mb L n k0 (m+1) u4 wr ts k F) (hG1:W.grownBy w1 (some rb)) (hB1:Below W0.heap.size W0 w1)
  (hHO:Each (NetOwn w1 W.heap.size n) 4 F' ts cs∧F=u4.ownBlock.toList++F'∧(∀b∈F,W.heap.size≤b∧b<w1.heap.size)∧(∀b∈f,w1.heap.size≤b∧b<w2.heap.size))
  (hNO:NetOwn w2 w1.heap.size m f t [.int .i64 x,.int .i64 y,.slice p pl pc,.slice r rl rc]∧f.Nodup∧RdI w2 rb g cap mb L k'∧w1.grownBy w2 (some rb)) (hRD:zav L m k=some (t,k')∧k<k')
  (hS:zag L (m+1) k=(zav L m k).bind fun r=>(zag L m r.2).map fun s=>(r.1::s.1,s.2))
  (own4:w4.ownsRow W.heap.size 53 4 (.slice (some ⟨g1,0,none⟩) (ts.length+1) cap1) (ts.length+1) (cs++[.int .i64 x,.int .i64 y,.slice p pl pc,.slice r rl rc])) (g4:((w2.alloc o1).alloc o2).grownBy w4 u4.ownBlock) (hat:u4.ownBlock=some g1∨g1=w2.heap.size+1+1)
  (hrl:rb<W.heap.size) (hml:mb<W.heap.size) (hgl:L.length=0∨g<W.heap.size) (hrb:W0.heap.size≤rb) :
  NetsAt W0 W rb g cap mb L n k0 m (.slice (some ⟨g1,0,none⟩) (ts.length+1) cap1) w4 (ts++[t]) k' (g1::(F'++f)):=by
 obtain ⟨hE,hF,hFl,hfl⟩:=hHO
 obtain ⟨hN,hfn,hR2,hG2⟩:=hNO
 obtain ⟨hrd,hkk⟩:=hRD
 have hs12:=hG2.size
 have hsW:=hG1.size
 have hk':k'≤L.length:=hR2.2.2.2.2.2.1
 have hL0:g<W.heap.size:=by rcases hgl with h|h<;>omega
 have G2:w2.grownBy w4 u4.ownBlock:=((World.grownBy_alloc w2 o1 _).trans (World.grownBy_alloc _ o2 _)).trans g4
 have hob:∀j,u4.ownBlock=some j→W.heap.size≤j∧j<w1.heap.size:=fun j hj=>hFl j (by rw [hF,hj];simp)
 have hnd:F.Nodup:=hA.nodup
 rw [hF] at hnd
 have hnd':=List.nodup_append.1 hnd
 have hF':∀b∈F',some b≠u4.ownBlock:=fun b hb e=>hnd'.2.2 b (by rw [←e];simp) b hb rfl
 have hF'l:∀b∈F',W.heap.size≤b∧b<w1.heap.size:=fun b hb=>hFl b (by rw [hF];exact List.mem_append_right _ hb)
 have hf':∀b∈f,some b≠u4.ownBlock:=fun b hb e=>by have:=hob b e.symm;have:=hfl b hb;omega
 refine ⟨?_,?_,?_,?_,?_,?_,?_,?_,?_,?_⟩
 ·refine RowOwn.push (hE.move fun f1 x1 c1 h1 h2=>?_) rfl ?_ own4
  ·exact NetOwn.move G2 n n (Nat.le_refl _) _ _ _ (fun b hb=>hF' b (h1 hb)) (NetOwn.move hG2 n n (Nat.le_refl _) _ _ _ (fun b hb=>by have:=hF'l b (h1 hb);simp;omega) h2)
  ·exact NetOwn.move G2 m n (by have:=hA.mn;omega) _ _ _ hf' (NetOwn.base hsW m _ _ _ hN)
 ·rw [List.nodup_cons]
  refine ⟨fun hm=>?_,List.nodup_append.2 ⟨hnd'.2.1,hfn,fun a ha b hb e=>by have:=hF'l a ha;have:=hfl b hb;omega⟩⟩
  rcases List.mem_append.1 hm with hm|hm
  ·rcases hat with h|h
   ·exact hF' g1 hm h.symm
   ·have:=hF'l g1 hm;omega
  ·rcases hat with h|h
   ·exact hf' g1 hm h.symm
   ·have:=hfl g1 hm;omega
 ·exact hR2.move G2 (fun e=>by have:=hob rb e.symm;omega) (fun e=>by have:=hob g e.symm;omega) (fun e=>by have:=hob mb e.symm;omega)
 ·exact (hG1.trans hG2).andThen G2 (fun j hj=>.inl (hob j hj).1)
 ·exact (hB1.grown hG2 (by have:=hB1.size;omega) (fun j hj=>by simp at hj;omega)).grown G2 (by have:=hB1.size;omega) (fun j hj=>by have:=hob j hj;omega)
 ·have:=hA.fuel;omega
 ·have:=hA.mn;omega
 ·have:=hA.le;omega
 ·have:=hA.len;simp;omega
 ·rw [hA.ans,hS,hrd]
  cases hq:zag L m k'<;>simp [hq]
set_option maxRecDepth 10000 in
theorem rnets_i(W0 W:World)(rb g cap mb:Nat)(L:List ByteArray)(n k0:Nat)(h:RdI W rb g cap mb L k0)(hB:Below W0.heap.size W0 W)(hrb:W0.heap.size≤rb)(hn:2*(L.length-k0)+1<n)
  (HN:Hid (∀W' k m,m<n→RdI W' rb g cap mb L k→Below W0.heap.size W0 W'→2*(L.length-k)<m→Calls Tryz.prog 153 #[.pointer (some ⟨rb,0,none⟩)] W' fun e w'=>zcq W' rb g cap mb L m k e w')) :
  Calls Tryz.prog 184 #[.pointer (some ⟨rb,0,none⟩)] W fun e w'=>zet W rb g cap mb L n k0 e w':=by
 have hinfo:(Tryz.prog.info? 53).map (fun i=>(i.zero,i.size,i.bytes))=some (some (.agg #[.int .i64 0,.int .i64 0,.slice none 0 0,.slice none 0 0]),4,64):=by kernel_rfl
 obtain ⟨i0,hi,hzz⟩:=Option.map_eq_some_iff.1 hinfo
 simp only [Prod.mk.injEq] at hzz
 obtain ⟨hz0,hz1,hz2⟩:=hzz
 have HI:Hid (Tryz.prog.info? 53=some i0∧i0.zero=some (.agg #[.int .i64 0,.int .i64 0,.slice none 0 0,.slice none 0 0])∧i0.size=4∧i0.bytes=64):=⟨hi,hz0,hz1,hz2⟩
 clear hi hz0 hz1 hz2 hinfo
 have HST:Hid (NetsAt W0 W rb g cap mb L n k0 n (.slice none 0 0) W [] k0 []):=⟨RowOwn.nil _ _ _ _ _,List.nodup_nil,h,World.grownBy.refl W _,hB,hn,Nat.le_refl _,Nat.le_refl _,by simp,by cases zag L n k0<;>simp⟩
 have hl4:=h.2.2.2.2.2.2.2.1
 have hrl:=h.lt
 have hml:=h.2.2.1.lt
 have hgl:L.length=0∨g<W.heap.size:=by
  rcases Nat.eq_zero_or_pos L.length with h0|h0
  ·exact .inl h0
  ·exact .inr (World.block_lt_of_cell? _ _ (h.2.1 0 _ (List.getElem?_eq_getElem h0)))
 clear h hB
 go_enter Tryz.func184,Tryz.ntmps184
 go_wp2_with fail
 go_loopg [4] n (fun gk v wr=>∃ts k F,Hid (NetsAt W0 W rb g cap mb L n k0 gk v wr ts k F))
 case atStart=>exact ⟨[],k0,[],HST⟩
 case round =>
  obtain ⟨ts,k,F,HA⟩:=hrel
  have hA:=HA.out
  go_wp2_with fail
  refine (zjc wr rb g cap mb k L 9 hA.rd (by decide)).mono ?_
  intro e w1 hT
  unfold TkI at hT
  obtain ⟨rfl,hR1,hG1⟩:=hT
  by_cases hq:kAt L k=9
  ·have b1:(kAt L k==9)=true:=by rw [hq];rfl
   rw [if_pos hq] at hR1
   have HF:Hid (zet W rb g cap mb L n k0 (.returned (.tuple #[u4,.bool true])) w1):=by
    refine .inl ⟨ts,k+1,F,u4,?_,by have:=hA.le;omega,rfl,?_,hA.nodup,hR1,hA.grown.trans hG1⟩
    ·rw [hA.ans]
     obtain ⟨m,hm⟩:∃m,gk=m+1:=⟨gk-1,by have:=hA.fuel;omega⟩
     rw [hm,zag,if_pos hq]
     simp
    ·have hlt:=RowOwn.lt hA.own (fun f x c h=>NetOwn.lt n f x c h)
     exact RowOwn.move hA.own hG1 (fun b hb=>by have:=hlt b hb;simp;omega) fun f x c hf h=>NetOwn.move hG1 n n (Nat.le_refl _) f x c hf h
   clear hA hq hR1 hG1 HST HA
   go_wp2
   exact bodyPost_ret (v:=.tuple #[u4,.bool true]) (by simp [results,Tryz.results184,go_sem]) rfl HF.out
  ·have b1:(kAt L k==9)=false:=by rw [beq_eq_false_iff_ne];exact hq
   rw [if_neg hq] at hR1
   have B1:Below W0.heap.size W0 w1:=hA.below.grown hG1 (by have:=hA.below.size;omega) (fun j hj=>by simp at hj;omega)
   have hW1:W.heap.size≤w1.heap.size:=(hA.grown.trans hG1).size
   have hO1:RowOwn w1 W.heap.size 53 4 (NetOwn w1 W.heap.size n) F u4 ts:=by
    have hlt:=RowOwn.lt hA.own (fun f x c h=>NetOwn.lt n f x c h)
    exact RowOwn.move hA.own hG1 (fun b hb=>by have:=hlt b hb;simp;omega) fun f x c hf h=>NetOwn.move hG1 n n (Nat.le_refl _) f x c hf h
   have HO1:Hid (RowOwn w1 W.heap.size 53 4 (NetOwn w1 W.heap.size n) F u4 ts):=hO1
   have HG1:Hid (W.grownBy w1 (some rb)):=hA.grown.trans hG1
   have HB1:Hid (Below W0.heap.size W0 w1):=B1
   have hf:=hA.fuel
   have hmn:=hA.mn
   obtain ⟨m,rfl⟩:∃m,gk=m+1:=⟨gk-1,by omega⟩
   have HS:Hid (zag L (m+1) k=(zav L m k).bind fun r=>(zag L m r.2).map fun s=>(r.1::s.1,s.2)):=by
    show zag L (m+1) k=_
    rw [zag,if_neg hq]
   have HK:Hid (RdI w1 rb g cap mb L k):=hR1
   clear hq hA B1 hO1 hG1 hR1 HST
   go_wp2_with fail
   refine (HN.out w1 k m (by omega) HK.out HB1.out (by omega)).mono ?_
   intro e w2 hNR
   unfold zcq at hNR
   rcases hNR with ⟨t,k',f,x,y,p,pl,pc,r,rl,rc,hrd,hkk,rfl,hNO,hfn,hR2,hG2⟩|⟨k',x,y,p,pl,pc,r,rl,rc,hrd,rfl,hR2,hG2⟩
   ·obtain ⟨cs,F',hE,hOw,hF⟩:=HO1.out
    have hb2:w1.heap.size≤w2.heap.size:=hG2.size
    have hFlt:=RowOwn.lt HO1.out (fun f x c h=>NetOwn.lt n f x c h)
    have hflt:=NetOwn.lt m _ _ _ hNO
    have hown2:w2.ownsRow W.heap.size 53 4 u4 ts.length cs:=hOw.kept hG2 (by
     cases hv:u4.ownBlock with
     | none=>exact .inl rfl
     | some b=>exact .inr (by have:=hFlt b (by rw [hF,hv];simp);simp;omega))
    have own3:((w2.alloc (.cells #[.int .i64 x,.int .i64 y,.slice p pl pc,.slice r rl rc] 53)).alloc (.cells #[.int .i64 x,.int .i64 y,.slice p pl pc,.slice r rl rc] 53)).ownsRow W.heap.size 53 4 u4 ts.length cs:=World.ownsRow.alloc (World.ownsRow.alloc hown2 _) _
    have news3:∀(q:Nat)(u:Value),[Value.int .i64 x,.int .i64 y,.slice p pl pc,.slice r rl rc][q]?=some u→((w2.alloc (.cells #[.int .i64 x,.int .i64 y,.slice p pl pc,.slice r rl rc] 53)).alloc (.cells #[.int .i64 x,.int .i64 y,.slice p pl pc,.slice r rl rc] 53)).cell? ((⟨w2.heap.size+1,0,none⟩:Addr).add q)=some u:=by
     intro q u hq
     match q with
     | 0=>simp at hq;subst hq;simp [Addr.add]
     | 1=>simp at hq;subst hq;simp [Addr.add]
     | 2=>simp at hq;subst hq;simp [Addr.add]
     | 3=>simp at hq;subst hq;simp [Addr.add]
     | (j+4)=>simp at hq
    have hTs:ts.length≤4194304:=by have:=HA.out.len;have:=HA.out.rd.2.2.2.2.2.1;omega
    have HHO:Hid (Each (NetOwn w1 W.heap.size n) 4 F' ts cs∧F=u4.ownBlock.toList++F'∧(∀b∈F,W.heap.size≤b∧b<w1.heap.size)∧(∀b∈f,w1.heap.size≤b∧b<w2.heap.size)):=⟨hE,hF,hFlt,hflt⟩
    have HNO:Hid (NetOwn w2 w1.heap.size m f t [.int .i64 x,.int .i64 y,.slice p pl pc,.slice r rl rc]∧f.Nodup∧RdI w2 rb g cap mb L k'∧w1.grownBy w2 (some rb)):=⟨hNO,hfn,hR2,hG2⟩
    have HRD:Hid (zav L m k=some (t,k')∧k<k'):=⟨hrd,hkk⟩
    clear hE hF hFlt hflt hNO hfn hR2 hG2 hrd hkk hown2 hOw
    go_wp2_with (at_builtin;refine wpList_append_lies _ rfl _ _ 51 rfl W.heap.size 53 i0 (.agg #[.int .i64 0,.int .i64 0,.slice none 0 0,.slice none 0 0]) 4 64 Tryz.underlying51 HI.out.1 HI.out.2.1 HI.out.2.2.1 HI.out.2.2.2 rfl (by decide) _ ts.length cs rfl own3 ⟨w2.heap.size+1,0,none⟩ 1 1 [.int .i64 x,.int .i64 y,.slice p pl pc,.slice r rl rc] rfl rfl news3 ?c2 (by omega) ?c3 ?c4 ?c5 _ rfl ?_)
    case c2=>intro u hu;simp at hu;rcases hu with rfl|rfl|rfl|rfl<;>rfl
    case c3=>unfold maxLen;omega
    case c4=>omega
    case c5=>simp;omega
    intro g1 cap1 w4 own4 g4 hat hlt4
    have HNX:Hid (NetsAt W0 W rb g cap mb L n k0 m (.slice (some ⟨g1,0,none⟩) (ts.length+1) cap1) w4 (ts++[t]) k' (g1::(_++f))):=rnets_step HA.out HG1.out HB1.out HHO.out HNO.out HRD.out HS.out own4 g4 hat hrl hml hgl hrb
    clear own3 news3 own4 g4 hat hlt4 HA HG1 HB1 HHO HNO HRD HS HO1 HK
    go_wp2
    go_roundg m
    case measure=>omega
    case rel=>exact ⟨_,_,_,HNX⟩
   ·have HF:Hid (zet W rb g cap mb L n k0 (.returned (.tuple #[.slice none 0 0,.bool false])) (w2.alloc (.cells #[.int .i64 x,.int .i64 y,.slice p pl pc,.slice r rl rc] 53))):=by
     refine .inr ⟨k',?_,rfl,hR2.move (World.grownBy_alloc w2 _ none) (by simp) (by simp) (by simp),(HG1.out.trans hG2).trans (World.grownBy_alloc w2 _ _)⟩
     rw [HA.out.ans,HS.out,hrd]
     rfl
    clear hR2 hG2 hrd HA HS HK HB1 HG1 HO1
    go_wp2
    exact bodyPost_ret (v:=.tuple #[.slice none 0 0,.bool false]) (by simp [results,Tryz.results184,go_sem]) rfl HF.out
def B4(W:World)(b:Nat)(a0 a1 a2 a3:Value)(T:TypeId):Prop:=W.heap[b]?=some (.cells #[a0,a1,a2,a3] T)
theorem B4.fresh(W:World)(a0 a1 a2 a3:Value)(T:TypeId):B4 (W.alloc (.cells #[a0,a1,a2,a3] T)) W.heap.size a0 a1 a2 a3 T:=heap_alloc_last _ _
theorem B4.cells{W:World}{b:Nat}{a0 a1 a2 a3:Value}{T:TypeId}(h:B4 W b a0 a1 a2 a3 T):W.cell? ⟨b,0,none⟩=some a0∧W.cell? ⟨b,1,none⟩=some a1∧W.cell? ⟨b,2,none⟩=some a2∧W.cell? ⟨b,3,none⟩=some a3:=by
 unfold B4 at h
 refine ⟨?_,?_,?_,?_⟩<;>simp [World.cell?,h]
theorem B4.free{W:World}{b:Nat}{a0 a1 a2 a3:Value}{T:TypeId}(h:B4 W b a0 a1 a2 a3 T)(i:Nat):W.frozen? ⟨b,i,none⟩=false:=by
 unfold B4 at h
 simp [World.frozen?,h]
theorem B4.move{W W':World}{b:Nat}{a0 a1 a2 a3:Value}{T:TypeId}{row:Option Nat}(h:B4 W b a0 a1 a2 a3 T)(hg:W.grownBy W' row)(hr:some b≠row):B4 W' b a0 a1 a2 a3 T:=(hg.block b (Array.getElem?_eq_some_iff.1 h).1 hr).trans h
def W4(W:World)(b:Nat)(a0 a1 a2 a3:Value):World:=(((W.setCell ⟨b,0,none⟩ a0).setCell ⟨b,1,none⟩ a1).setCell ⟨b,2,none⟩ a2).setCell ⟨b,3,none⟩ a3
theorem zab(W:World)(b i:Nat)(v:Value):W.grownBy (W.setCell ⟨b,i,none⟩ v) (some b):=Lib.Hx.grownBy_set (b:=b) (World.grownBy.refl W _) ⟨b,i,none⟩ rfl v
theorem W4.grown(W:World)(b:Nat)(a0 a1 a2 a3:Value):W.grownBy (W4 W b a0 a1 a2 a3) (some b):=(((zab W b 0 a0).trans (zab _ b 1 a1)).trans (zab _ b 2 a2)).trans (zab _ b 3 a3)
theorem zfe{W:World}{b i:Nat}{C:Array Value}{T:TypeId}(h:W.heap[b]?=some (.cells C T))(v:Value):(W.setCell ⟨b,i,none⟩ v).heap[b]?=some (.cells (C.setIfInBounds i v) T):=by
 obtain ⟨hlt,hv⟩:=Array.getElem?_eq_some_iff.1 h
 simp [World.setCell,hlt,Array.getElem_modify,hv]
theorem B4.put{W:World}{b:Nat}{z0 z1 z2 z3:Value}{T:TypeId}(h:B4 W b z0 z1 z2 z3 T)(a0 a1 a2 a3:Value):B4 (W4 W b a0 a1 a2 a3) b a0 a1 a2 a3 T:=by
 have:=zfe (i:=3) (zfe (i:=2) (zfe (i:=1) (zfe (i:=0) h a0) a1) a2) a3
 exact this
theorem zff{α:Type}{W:World}{base e z:Nat}{R:List Nat→α→List Value→Prop}{F:List Nat}{v:Value}{xs:List α}(h:RowOwn W base e z R F v xs):∃a l c,v=.slice a l c:=by
 obtain ⟨cs,F',_,h2,_⟩:=h
 rcases h2.2 with ⟨rfl,_⟩|⟨g,cap,cur,rfl,_⟩
 ·exact ⟨_,_,_,rfl⟩
 ·exact ⟨_,_,_,rfl⟩
theorem zcr(W:World)(base:Nat):ArgsOwn W base [] (.slice none 0 0) []:=RowOwn.nil _ _ _ _ _
set_option maxRecDepth 10000 in
theorem rnet_deep(W0 W:World)(rb g cap mb:Nat)(L:List ByteArray)(n k:Nat)(h:RdI W rb g cap mb L k)(hB:Below W0.heap.size W0 W)(hrb:W0.heap.size≤rb)(hn:2*(L.length-k)<n+1)(q:Int)(hq:kAt L k=q)(hq3:q=2∨q=3∨q=4)
  (HN:Hid (∀W' k,RdI W' rb g cap mb L k→Below W0.heap.size W0 W'→2*(L.length-k)+1<n→Calls Tryz.prog 184 #[.pointer (some ⟨rb,0,none⟩)] W' fun e w'=>zet W' rb g cap mb L n k e w')) :
  Calls Tryz.prog 153 #[.pointer (some ⟨rb,0,none⟩)] W fun e w'=>zcq W rb g cap mb L (n+1) k e w':=by
 have hkl:k<L.length:=by
  rcases Nat.lt_or_ge k L.length with h0|h0
  ·exact h0
  ·exfalso
   unfold kAt at hq
   rw [if_neg (by omega)] at hq
   omega
 have hrl:=h.lt
 have hml:=h.2.2.1.lt
 have hgl:g<W.heap.size:=World.block_lt_of_cell? _ _ (h.2.1 k _ (List.getElem?_eq_getElem hkl))
 have E0:=B4.fresh W (.int .i64 0) (.int .i64 0) (.slice none 0 0) (.slice none 0 0) 53
 have HE0:Hid (B4 (W.alloc (.cells #[.int .i64 0,.int .i64 0,.slice none 0 0,.slice none 0 0] 53)) W.heap.size (.int .i64 0) (.int .i64 0) (.slice none 0 0) (.slice none 0 0) 53):=E0
 have H0:RdI (W.alloc (.cells #[.int .i64 0,.int .i64 0,.slice none 0 0,.slice none 0 0] 53)) rb g cap mb L k:=h.move (World.grownBy_alloc W _ none) (by simp) (by simp) (by simp)
 have HH0:Hid (RdI (W.alloc (.cells #[.int .i64 0,.int .i64 0,.slice none 0 0,.slice none 0 0] 53)) rb g cap mb L k):=H0
 have HB0:Hid (Below W0.heap.size W0 (W.alloc (.cells #[.int .i64 0,.int .i64 0,.slice none 0 0,.slice none 0 0] 53))):=hB.alloc hB.size _
 have HQ:Hid (zav L (n+1) k=(zag L n (k+1)).map fun r=>(.mk q ⟨0,[]⟩ r.1,r.2)):=by
  show zav L (n+1) k=_
  rw [zav,hq,if_pos hq3]
 have hsz0:(W.alloc (.cells #[.int .i64 0,.int .i64 0,.slice none 0 0,.slice none 0 0] 53)).heap.size=W.heap.size+1:=by simp
 clear h hB E0 H0
 go_enter Tryz.func153,Tryz.ntmps153
 go_wp2_with fail
 refine (kind_i _ rb g cap mb k L HH0.out).mono ?_
 rintro e w1 ⟨rfl,nd,rfl⟩
 rw [hq]
 have H1:Hid (RdI ((W.alloc (.cells #[.int .i64 0,.int .i64 0,.slice none 0 0,.slice none 0 0] 53)).drewN nd) rb g cap mb L k):=HH0.out.move (zac _ nd none) (by simp) (by simp) (by simp)
 have HT:Hid (Calls Tryz.prog 154 #[.pointer (some ⟨rb,0,none⟩),.int .i64 q] ((W.alloc (.cells #[.int .i64 0,.int .i64 0,.slice none 0 0,.slice none 0 0] 53)).drewN nd) fun e w'=>TkI _ rb g cap mb L k q e w'):=zjc _ rb g cap mb k L q H1.out (by omega)
 rcases hq3 with rfl|rfl|rfl
 ·go_wp2_with fail
  refine HT.out.mono ?_
  intro e w2 hT
  unfold TkI at hT
  obtain ⟨rfl,hR2,hG2⟩:=hT
  rw [if_pos hq] at hR2
  have hs2:W.heap.size+1≤w2.heap.size:=by have:=hG2.size;simpa using this
  have Bd:Below W0.heap.size W0 ((W.alloc (.cells #[.int .i64 0,.int .i64 0,.slice none 0 0,.slice none 0 0] 53)).drewN nd):=HB0.out.grown (zac _ nd none) (by have:=HB0.out.size;omega) (fun j hj=>by simp at hj)
  have B2:Below W0.heap.size W0 w2:=Bd.grown hG2 (by have:=Bd.size;omega) (fun j hj=>by simp at hj;omega)
  have E2x:B4 w2 W.heap.size (.int .i64 0) (.int .i64 0) (.slice none 0 0) (.slice none 0 0) 53:=(HE0.out.move (zac _ nd none) (by simp)).move hG2 (by simp;omega)
  have G2:W.grownBy w2 (some rb):=((World.grownBy_alloc W (.cells #[.int .i64 0,.int .i64 0,.slice none 0 0,.slice none 0 0] 53) _).trans (zac _ nd _)).trans hG2
  have HX2:Hid (RdI w2 rb g cap mb L (k+1)∧Below W0.heap.size W0 w2∧B4 w2 W.heap.size (.int .i64 0) (.int .i64 0) (.slice none 0 0) (.slice none 0 0) 53∧W.grownBy w2 (some rb)):=⟨hR2,B2,E2x,G2⟩
  clear hR2 B2 E2x G2 hG2 Bd HE0 HH0 HB0 HT H1
  go_wp2_with fail
  refine (HN.out w2 (k+1) HX2.out.1 HX2.out.2.1 (by omega)).mono ?_
  intro e w3 hNR
  unfold zet at hNR
  rcases hNR with ⟨ts,k',F,v,hrd,hkk,rfl,hO,hFn,hR3,hG3⟩|⟨k',hrd,rfl,hR3,hG3⟩
  ·obtain ⟨va,vl,vc,rfl⟩:=zff hO
   have E3:=HX2.out.2.2.1.move hG3 (by simp;omega)
   have hlt:=RowOwn.lt hO (fun f x c h=>NetOwn.lt n f x c h)
   have hFW:∀b∈F,some b≠some W.heap.size:=fun b hb=>by have:=hlt b hb;simp;omega
   have HF:Hid (zcq W rb g cap mb L (n+1) k (.returned (.tuple #[.agg #[.int .i64 2,.int .i64 0,.slice none 0 0,.slice va vl vc],.bool true])) ((((w3.setCell ⟨W.heap.size,0,none⟩ (.int .i64 2)).setCell ⟨W.heap.size,1,none⟩ (.int .i64 0)).setCell ⟨W.heap.size,2,none⟩ (.slice none 0 0)).setCell ⟨W.heap.size,3,none⟩ (.slice va vl vc))):=by
    refine .inl ⟨.mk 2 ⟨0,[]⟩ ts,k',F,2,0,none,0,0,va,vl,vc,by rw [HQ.out,hrd];rfl,by omega,rfl,⟨_,_,[],F,rfl,by simp,zcr _ _,?_⟩,hFn,?_,?_⟩
    ·exact RowOwn.move (RowOwn.base hO (by omega) fun f x c h=>NetOwn.base (by omega) n f x c h) (W4.grown w3 W.heap.size _ _ _ _) hFW fun f x c hf h=>NetOwn.move (W4.grown w3 W.heap.size _ _ _ _) n n (Nat.le_refl _) f x c hf h
    ·exact hR3.move (W4.grown w3 W.heap.size _ _ _ _) (by simp;omega) (by simp;omega) (by simp;omega)
    ·exact (HX2.out.2.2.2.trans hG3).andThen (W4.grown w3 W.heap.size _ _ _ _) (fun j hj=>.inl (by simp at hj;omega))
   obtain ⟨q0,q1,q2,q3⟩:=(E3.put (.int .i64 2) (.int .i64 0) (.slice none 0 0) (.slice va vl vc)).cells
   obtain ⟨z0,z1,z2,z3⟩:=E3.cells
   have f0:=E3.free 0
   have f1:=E3.free 1
   have f2:=E3.free 2
   have f3:=E3.free 3
   unfold W4 at q0 q1 q2 q3
   clear hO hFn hR3 hG3 hrd E3 hlt hFW HX2 HQ
   go_wp2
   exact bodyPost_ret (v:=.tuple #[.agg #[.int .i64 2,.int .i64 0,.slice none 0 0,.slice va vl vc],.bool true]) (by simp [results,Tryz.results153,go_sem,q0,q1,q2,q3]) rfl HF.out
  ·have E3:=HX2.out.2.2.1.move hG3 (by simp;omega)
   have HF:Hid (zcq W rb g cap mb L (n+1) k (.returned (.tuple #[.agg #[.int .i64 2,.int .i64 0,.slice none 0 0,.slice none 0 0],.bool false])) ((((w3.setCell ⟨W.heap.size,0,none⟩ (.int .i64 2)).setCell ⟨W.heap.size,1,none⟩ (.int .i64 0)).setCell ⟨W.heap.size,2,none⟩ (.slice none 0 0)).setCell ⟨W.heap.size,3,none⟩ (.slice none 0 0))):=by
    refine .inr ⟨k',2,0,none,0,0,none,0,0,by rw [HQ.out,hrd];rfl,rfl,?_,?_⟩
    ·exact hR3.move (W4.grown w3 W.heap.size _ _ _ _) (by simp;omega) (by simp;omega) (by simp;omega)
    ·exact (HX2.out.2.2.2.trans hG3).andThen (W4.grown w3 W.heap.size _ _ _ _) (fun j hj=>.inl (by simp at hj;omega))
   obtain ⟨q0,q1,q2,q3⟩:=(E3.put (.int .i64 2) (.int .i64 0) (.slice none 0 0) (.slice none 0 0)).cells
   obtain ⟨z0,z1,z2,z3⟩:=E3.cells
   have f0:=E3.free 0
   have f1:=E3.free 1
   have f2:=E3.free 2
   have f3:=E3.free 3
   unfold W4 at q0 q1 q2 q3
   clear hR3 hG3 hrd E3 HX2 HQ
   go_wp2
   exact bodyPost_ret (v:=.tuple #[.agg #[.int .i64 2,.int .i64 0,.slice none 0 0,.slice none 0 0],.bool false]) (by simp [results,Tryz.results153,go_sem,q0,q1,q2,q3]) rfl HF.out
 ·go_wp2_with fail
  refine HT.out.mono ?_
  intro e w2 hT
  unfold TkI at hT
  obtain ⟨rfl,hR2,hG2⟩:=hT
  rw [if_pos hq] at hR2
  have hs2:W.heap.size+1≤w2.heap.size:=by have:=hG2.size;simpa using this
  have Bd:Below W0.heap.size W0 ((W.alloc (.cells #[.int .i64 0,.int .i64 0,.slice none 0 0,.slice none 0 0] 53)).drewN nd):=HB0.out.grown (zac _ nd none) (by have:=HB0.out.size;omega) (fun j hj=>by simp at hj)
  have B2:Below W0.heap.size W0 w2:=Bd.grown hG2 (by have:=Bd.size;omega) (fun j hj=>by simp at hj;omega)
  have E2x:B4 w2 W.heap.size (.int .i64 0) (.int .i64 0) (.slice none 0 0) (.slice none 0 0) 53:=(HE0.out.move (zac _ nd none) (by simp)).move hG2 (by simp;omega)
  have G2:W.grownBy w2 (some rb):=((World.grownBy_alloc W (.cells #[.int .i64 0,.int .i64 0,.slice none 0 0,.slice none 0 0] 53) _).trans (zac _ nd _)).trans hG2
  have HX2:Hid (RdI w2 rb g cap mb L (k+1)∧Below W0.heap.size W0 w2∧B4 w2 W.heap.size (.int .i64 0) (.int .i64 0) (.slice none 0 0) (.slice none 0 0) 53∧W.grownBy w2 (some rb)):=⟨hR2,B2,E2x,G2⟩
  clear hR2 B2 E2x G2 hG2 Bd HE0 HH0 HB0 HT H1
  go_wp2_with fail
  refine (HN.out w2 (k+1) HX2.out.1 HX2.out.2.1 (by omega)).mono ?_
  intro e w3 hNR
  unfold zet at hNR
  rcases hNR with ⟨ts,k',F,v,hrd,hkk,rfl,hO,hFn,hR3,hG3⟩|⟨k',hrd,rfl,hR3,hG3⟩
  ·obtain ⟨va,vl,vc,rfl⟩:=zff hO
   have E3:=HX2.out.2.2.1.move hG3 (by simp;omega)
   have hlt:=RowOwn.lt hO (fun f x c h=>NetOwn.lt n f x c h)
   have hFW:∀b∈F,some b≠some W.heap.size:=fun b hb=>by have:=hlt b hb;simp;omega
   have HF:Hid (zcq W rb g cap mb L (n+1) k (.returned (.tuple #[.agg #[.int .i64 3,.int .i64 0,.slice none 0 0,.slice va vl vc],.bool true])) ((((w3.setCell ⟨W.heap.size,0,none⟩ (.int .i64 3)).setCell ⟨W.heap.size,1,none⟩ (.int .i64 0)).setCell ⟨W.heap.size,2,none⟩ (.slice none 0 0)).setCell ⟨W.heap.size,3,none⟩ (.slice va vl vc))):=by
    refine .inl ⟨.mk 3 ⟨0,[]⟩ ts,k',F,3,0,none,0,0,va,vl,vc,by rw [HQ.out,hrd];rfl,by omega,rfl,⟨_,_,[],F,rfl,by simp,zcr _ _,?_⟩,hFn,?_,?_⟩
    ·exact RowOwn.move (RowOwn.base hO (by omega) fun f x c h=>NetOwn.base (by omega) n f x c h) (W4.grown w3 W.heap.size _ _ _ _) hFW fun f x c hf h=>NetOwn.move (W4.grown w3 W.heap.size _ _ _ _) n n (Nat.le_refl _) f x c hf h
    ·exact hR3.move (W4.grown w3 W.heap.size _ _ _ _) (by simp;omega) (by simp;omega) (by simp;omega)
    ·exact (HX2.out.2.2.2.trans hG3).andThen (W4.grown w3 W.heap.size _ _ _ _) (fun j hj=>.inl (by simp at hj;omega))
   obtain ⟨q0,q1,q2,q3⟩:=(E3.put (.int .i64 3) (.int .i64 0) (.slice none 0 0) (.slice va vl vc)).cells
   obtain ⟨z0,z1,z2,z3⟩:=E3.cells
   have f0:=E3.free 0
   have f1:=E3.free 1
   have f2:=E3.free 2
   have f3:=E3.free 3
   unfold W4 at q0 q1 q2 q3
   clear hO hFn hR3 hG3 hrd E3 hlt hFW HX2 HQ
   go_wp2
   exact bodyPost_ret (v:=.tuple #[.agg #[.int .i64 3,.int .i64 0,.slice none 0 0,.slice va vl vc],.bool true]) (by simp [results,Tryz.results153,go_sem,q0,q1,q2,q3]) rfl HF.out
  ·have E3:=HX2.out.2.2.1.move hG3 (by simp;omega)
   have HF:Hid (zcq W rb g cap mb L (n+1) k (.returned (.tuple #[.agg #[.int .i64 3,.int .i64 0,.slice none 0 0,.slice none 0 0],.bool false])) ((((w3.setCell ⟨W.heap.size,0,none⟩ (.int .i64 3)).setCell ⟨W.heap.size,1,none⟩ (.int .i64 0)).setCell ⟨W.heap.size,2,none⟩ (.slice none 0 0)).setCell ⟨W.heap.size,3,none⟩ (.slice none 0 0))):=by
    refine .inr ⟨k',3,0,none,0,0,none,0,0,by rw [HQ.out,hrd];rfl,rfl,?_,?_⟩
    ·exact hR3.move (W4.grown w3 W.heap.size _ _ _ _) (by simp;omega) (by simp;omega) (by simp;omega)
    ·exact (HX2.out.2.2.2.trans hG3).andThen (W4.grown w3 W.heap.size _ _ _ _) (fun j hj=>.inl (by simp at hj;omega))
   obtain ⟨q0,q1,q2,q3⟩:=(E3.put (.int .i64 3) (.int .i64 0) (.slice none 0 0) (.slice none 0 0)).cells
   obtain ⟨z0,z1,z2,z3⟩:=E3.cells
   have f0:=E3.free 0
   have f1:=E3.free 1
   have f2:=E3.free 2
   have f3:=E3.free 3
   unfold W4 at q0 q1 q2 q3
   clear hR3 hG3 hrd E3 HX2 HQ
   go_wp2
   exact bodyPost_ret (v:=.tuple #[.agg #[.int .i64 3,.int .i64 0,.slice none 0 0,.slice none 0 0],.bool false]) (by simp [results,Tryz.results153,go_sem,q0,q1,q2,q3]) rfl HF.out
 ·go_wp2_with fail
  refine HT.out.mono ?_
  intro e w2 hT
  unfold TkI at hT
  obtain ⟨rfl,hR2,hG2⟩:=hT
  rw [if_pos hq] at hR2
  have hs2:W.heap.size+1≤w2.heap.size:=by have:=hG2.size;simpa using this
  have Bd:Below W0.heap.size W0 ((W.alloc (.cells #[.int .i64 0,.int .i64 0,.slice none 0 0,.slice none 0 0] 53)).drewN nd):=HB0.out.grown (zac _ nd none) (by have:=HB0.out.size;omega) (fun j hj=>by simp at hj)
  have B2:Below W0.heap.size W0 w2:=Bd.grown hG2 (by have:=Bd.size;omega) (fun j hj=>by simp at hj;omega)
  have E2x:B4 w2 W.heap.size (.int .i64 0) (.int .i64 0) (.slice none 0 0) (.slice none 0 0) 53:=(HE0.out.move (zac _ nd none) (by simp)).move hG2 (by simp;omega)
  have G2:W.grownBy w2 (some rb):=((World.grownBy_alloc W (.cells #[.int .i64 0,.int .i64 0,.slice none 0 0,.slice none 0 0] 53) _).trans (zac _ nd _)).trans hG2
  have HX2:Hid (RdI w2 rb g cap mb L (k+1)∧Below W0.heap.size W0 w2∧B4 w2 W.heap.size (.int .i64 0) (.int .i64 0) (.slice none 0 0) (.slice none 0 0) 53∧W.grownBy w2 (some rb)):=⟨hR2,B2,E2x,G2⟩
  clear hR2 B2 E2x G2 hG2 Bd HE0 HH0 HB0 HT H1
  go_wp2_with fail
  refine (HN.out w2 (k+1) HX2.out.1 HX2.out.2.1 (by omega)).mono ?_
  intro e w3 hNR
  unfold zet at hNR
  rcases hNR with ⟨ts,k',F,v,hrd,hkk,rfl,hO,hFn,hR3,hG3⟩|⟨k',hrd,rfl,hR3,hG3⟩
  ·obtain ⟨va,vl,vc,rfl⟩:=zff hO
   have E3:=HX2.out.2.2.1.move hG3 (by simp;omega)
   have hlt:=RowOwn.lt hO (fun f x c h=>NetOwn.lt n f x c h)
   have hFW:∀b∈F,some b≠some W.heap.size:=fun b hb=>by have:=hlt b hb;simp;omega
   have HF:Hid (zcq W rb g cap mb L (n+1) k (.returned (.tuple #[.agg #[.int .i64 4,.int .i64 0,.slice none 0 0,.slice va vl vc],.bool true])) ((((w3.setCell ⟨W.heap.size,0,none⟩ (.int .i64 4)).setCell ⟨W.heap.size,1,none⟩ (.int .i64 0)).setCell ⟨W.heap.size,2,none⟩ (.slice none 0 0)).setCell ⟨W.heap.size,3,none⟩ (.slice va vl vc))):=by
    refine .inl ⟨.mk 4 ⟨0,[]⟩ ts,k',F,4,0,none,0,0,va,vl,vc,by rw [HQ.out,hrd];rfl,by omega,rfl,⟨_,_,[],F,rfl,by simp,zcr _ _,?_⟩,hFn,?_,?_⟩
    ·exact RowOwn.move (RowOwn.base hO (by omega) fun f x c h=>NetOwn.base (by omega) n f x c h) (W4.grown w3 W.heap.size _ _ _ _) hFW fun f x c hf h=>NetOwn.move (W4.grown w3 W.heap.size _ _ _ _) n n (Nat.le_refl _) f x c hf h
    ·exact hR3.move (W4.grown w3 W.heap.size _ _ _ _) (by simp;omega) (by simp;omega) (by simp;omega)
    ·exact (HX2.out.2.2.2.trans hG3).andThen (W4.grown w3 W.heap.size _ _ _ _) (fun j hj=>.inl (by simp at hj;omega))
   obtain ⟨q0,q1,q2,q3⟩:=(E3.put (.int .i64 4) (.int .i64 0) (.slice none 0 0) (.slice va vl vc)).cells
   obtain ⟨z0,z1,z2,z3⟩:=E3.cells
   have f0:=E3.free 0
   have f1:=E3.free 1
   have f2:=E3.free 2
   have f3:=E3.free 3
   unfold W4 at q0 q1 q2 q3
   clear hO hFn hR3 hG3 hrd E3 hlt hFW HX2 HQ
   go_wp2
   exact bodyPost_ret (v:=.tuple #[.agg #[.int .i64 4,.int .i64 0,.slice none 0 0,.slice va vl vc],.bool true]) (by simp [results,Tryz.results153,go_sem,q0,q1,q2,q3]) rfl HF.out
  ·have E3:=HX2.out.2.2.1.move hG3 (by simp;omega)
   have HF:Hid (zcq W rb g cap mb L (n+1) k (.returned (.tuple #[.agg #[.int .i64 4,.int .i64 0,.slice none 0 0,.slice none 0 0],.bool false])) ((((w3.setCell ⟨W.heap.size,0,none⟩ (.int .i64 4)).setCell ⟨W.heap.size,1,none⟩ (.int .i64 0)).setCell ⟨W.heap.size,2,none⟩ (.slice none 0 0)).setCell ⟨W.heap.size,3,none⟩ (.slice none 0 0))):=by
    refine .inr ⟨k',4,0,none,0,0,none,0,0,by rw [HQ.out,hrd];rfl,rfl,?_,?_⟩
    ·exact hR3.move (W4.grown w3 W.heap.size _ _ _ _) (by simp;omega) (by simp;omega) (by simp;omega)
    ·exact (HX2.out.2.2.2.trans hG3).andThen (W4.grown w3 W.heap.size _ _ _ _) (fun j hj=>.inl (by simp at hj;omega))
   obtain ⟨q0,q1,q2,q3⟩:=(E3.put (.int .i64 4) (.int .i64 0) (.slice none 0 0) (.slice none 0 0)).cells
   obtain ⟨z0,z1,z2,z3⟩:=E3.cells
   have f0:=E3.free 0
   have f1:=E3.free 1
   have f2:=E3.free 2
   have f3:=E3.free 3
   unfold W4 at q0 q1 q2 q3
   clear hR3 hG3 hrd E3 HX2 HQ
   go_wp2
   exact bodyPost_ret (v:=.tuple #[.agg #[.int .i64 4,.int .i64 0,.slice none 0 0,.slice none 0 0],.bool false]) (by simp [results,Tryz.results153,go_sem,q0,q1,q2,q3]) rfl HF.out
theorem each_args:∀(n:Nat)(xs:List Arg),xs.length=n→Each ArgO 3 [] xs (opsL xs)
 | 0,xs,h=>by
  obtain rfl:=List.length_eq_zero_iff.1 h
  exact .nil
 | n+1,xs,h=>by
  rcases List.eq_nil_or_concat xs with rfl|⟨l,a,rfl⟩
  ·simp at h
  ·have h1:=each_args n l (by simpa using h)
   have h2:Each ArgO 3 ([]++[]) (l++[a]) (opsL l++opv a):=.add h1 rfl ⟨rfl,rfl⟩
   have h3:opsL (l++[a])=opsL l++opv a:=by simp [opsL]
   rw [List.concat_eq_append,h3]
   exact h2
theorem zgq{W:World}{base b c:Nat}{xs:List Arg}(h:OpsOwn W base b c xs):ArgsOwn W base [b] (.slice (some ⟨b,0,none⟩) xs.length c) xs:=⟨opsL xs,[],each_args _ xs rfl,h,rfl⟩
theorem fit_ct(W0 W:World)(hK:KT W0)(hB:Below W0.heap.size W0 W):Hid (∀W',Below W.heap.size W W'→∀(op:Int)(xs:List Arg)(b c:Nat),Ops W' b 0 xs→Calls Tryz.prog 185 #[.agg #[.int .i64 op,.slice (some ⟨b,0,none⟩) xs.length c]] W' fun e w'=>e=.returned (.bool (qCt op&&rtk op xs))∧Below W'.heap.size W' w') :=
 fun W' hW op xs b c hO=>zej op (some ⟨b,0,none⟩) xs xs.length c rfl W' (hK.later (hB.trans (hW.mono hB.size))) (.inr ⟨b,0,rfl,hO⟩)
set_option maxRecDepth 10000 in
theorem rnet_one(W0 W:World)(rb g cap mb:Nat)(L:List ByteArray)(n k:Nat)(h:RdI W rb g cap mb L k)(hB:Below W0.heap.size W0 W)(hrb:W0.heap.size≤rb)(q:Int)(hq:kAt L k=q)(hq3:¬(q=2∨q=3∨q=4))
  (hg0:g<W0.heap.size) (hT:Tabs W0) (hM:ML W0) (hH:EH W0) (hL:∀x∈L,x.size≤1048576) :
  Calls Tryz.prog 153 #[.pointer (some ⟨rb,0,none⟩)] W fun e w'=>zcq W rb g cap mb L (n+1) k e w':=by
 have hrl:=h.lt
 have hml:=h.2.2.1.lt
 have hgl:g<W.heap.size:=by have:=hB.size;omega
 have HE0:Hid (B4 (W.alloc (.cells #[.int .i64 0,.int .i64 0,.slice none 0 0,.slice none 0 0] 53)) W.heap.size (.int .i64 0) (.int .i64 0) (.slice none 0 0) (.slice none 0 0) 53):=B4.fresh W _ _ _ _ _
 have HH0:Hid (RdI (W.alloc (.cells #[.int .i64 0,.int .i64 0,.slice none 0 0,.slice none 0 0] 53)) rb g cap mb L k):=h.move (World.grownBy_alloc W _ none) (by simp) (by simp) (by simp)
 have HB0:Hid (Below W0.heap.size W0 (W.alloc (.cells #[.int .i64 0,.int .i64 0,.slice none 0 0,.slice none 0 0] 53))):=hB.alloc hB.size _
 have HQ:Hid (zav L (n+1) k=(elQ L qCt k).map fun e=>(.mk 1 e [],k+1)):=by
  show zav L (n+1) k=_
  rw [zav,hq,if_neg hq3]
 have b2:(q==2)=false:=by rw [beq_eq_false_iff_ne];omega
 have b3:(q==3)=false:=by rw [beq_eq_false_iff_ne];omega
 have b4:(q==4)=false:=by rw [beq_eq_false_iff_ne];omega
 have HTT:Hid (Tabs W0∧ML W0∧EH W0∧(∀x∈L,x.size≤1048576)):=⟨hT,hM,hH,hL⟩
 have HW:Hid (RdI W rb g cap mb L k):=h
 clear h hB hq3 hT hM hH hL
 go_enter Tryz.func153,Tryz.ntmps153
 go_wp2_with fail
 refine (kind_i _ rb g cap mb k L HH0.out).mono ?_
 rintro e w1 ⟨rfl,nd,rfl⟩
 rw [hq]
 have Bd:Below W0.heap.size W0 ((W.alloc (.cells #[.int .i64 0,.int .i64 0,.slice none 0 0,.slice none 0 0] 53)).drewN nd):=HB0.out.grown (zac _ nd none) (by have:=HB0.out.size;omega) (fun j hj=>by simp at hj)
 have H1:RdI ((W.alloc (.cells #[.int .i64 0,.int .i64 0,.slice none 0 0,.slice none 0 0] 53)).drewN nd) rb g cap mb L k:=HH0.out.move (zac _ nd none) (by simp) (by simp) (by simp)
 have E1:B4 ((W.alloc (.cells #[.int .i64 0,.int .i64 0,.slice none 0 0,.slice none 0 0] 53)).drewN nd) W.heap.size (.int .i64 0) (.int .i64 0) (.slice none 0 0) (.slice none 0 0) 53:=HE0.out.move (zac _ nd none) (by simp)
 have G1:W.grownBy ((W.alloc (.cells #[.int .i64 0,.int .i64 0,.slice none 0 0,.slice none 0 0] 53)).drewN nd) (some rb):=(World.grownBy_alloc W (.cells #[.int .i64 0,.int .i64 0,.slice none 0 0,.slice none 0 0] 53) _).trans (zac _ nd _)
 have hs1:((W.alloc (.cells #[.int .i64 0,.int .i64 0,.slice none 0 0,.slice none 0 0] 53)).drewN nd).heap.size=W.heap.size+1:=by show (W.alloc (.cells #[.int .i64 0,.int .i64 0,.slice none 0 0,.slice none 0 0] 53)).heap.size=_;simp
 have HX:Hid (Below W0.heap.size W0 ((W.alloc (.cells #[.int .i64 0,.int .i64 0,.slice none 0 0,.slice none 0 0] 53)).drewN nd)∧RdI ((W.alloc (.cells #[.int .i64 0,.int .i64 0,.slice none 0 0,.slice none 0 0] 53)).drewN nd) rb g cap mb L k∧B4 ((W.alloc (.cells #[.int .i64 0,.int .i64 0,.slice none 0 0,.slice none 0 0] 53)).drewN nd) W.heap.size (.int .i64 0) (.int .i64 0) (.slice none 0 0) (.slice none 0 0) 53∧W.grownBy ((W.alloc (.cells #[.int .i64 0,.int .i64 0,.slice none 0 0,.slice none 0 0] 53)).drewN nd) (some rb)):=⟨Bd,H1,E1,G1⟩
 have HS1:Hid (((W.alloc (.cells #[.int .i64 0,.int .i64 0,.slice none 0 0,.slice none 0 0] 53)).drewN nd).heap.size=W.heap.size+1):=hs1
 clear Bd H1 E1 G1 HE0 HH0 HB0 hs1
 go_wp2_with fail
 refine (elem_i _ rb g cap mb k L HX.out.2.1 185 (enters_of Tryz.func185 (by kernel_rfl) rfl) qCt (HTT.out.1.later HX.out.1) (HTT.out.2.1.later HX.out.1) (HTT.out.2.2.1.later HX.out.1) HTT.out.2.2.2 (fit_ct W0 _ HTT.out.1.k HX.out.1)).mono ?_
 intro e w2 hE
 unfold ElI at hE
 rcases hE with ⟨op,xs,b,c,hkl,hI,hqo,rfl,hO,hR2,hG2⟩|⟨hno,rfl,hR2,hG2⟩
 ·have E2x:=(HX.out.2.2.1.move hG2 (by simp;omega)).move (World.grownBy_alloc w2 (.cells #[.int .i64 op,.slice (some ⟨b,0,none⟩) xs.length c] 50) none) (by simp)
  have EL:E2 (w2.alloc (.cells #[.int .i64 op,.slice (some ⟨b,0,none⟩) xs.length c] 50)) w2.heap.size (.int .i64 op) (.slice (some ⟨b,0,none⟩) xs.length c):=E2.fresh w2 _ _ 50
  have hs2:W.heap.size+1≤w2.heap.size:=by have:=hG2.size;rw [HS1.out] at this;exact this
  have G3:W.grownBy (w2.alloc (.cells #[.int .i64 op,.slice (some ⟨b,0,none⟩) xs.length c] 50)) (some rb):=(HX.out.2.2.2.trans hG2).trans (World.grownBy_alloc w2 _ _)
  have R3:RdI (w2.alloc (.cells #[.int .i64 op,.slice (some ⟨b,0,none⟩) xs.length c] 50)) rb g cap mb L (k+1):=hR2.move (World.grownBy_alloc w2 _ none) (by simp) (by simp) (by simp)
  have hbl:=hO.lt b rfl
  rw [HS1.out] at hbl
  have O3:OpsOwn (w2.alloc (.cells #[.int .i64 op,.slice (some ⟨b,0,none⟩) xs.length c] 50)) (W.heap.size+1) b c xs:=by rw [HS1.out] at hO;exact World.ownsRow.alloc hO _
  have HF:Hid (zcq W rb g cap mb L (n+1) k (.returned (.tuple #[.agg #[.int .i64 1,.int .i64 op,.slice (some ⟨b,0,none⟩) xs.length c,.slice none 0 0],.bool true])) (((((w2.alloc (.cells #[.int .i64 op,.slice (some ⟨b,0,none⟩) xs.length c] 50)).setCell ⟨W.heap.size,0,none⟩ (.int .i64 1)).setCell ⟨W.heap.size,1,none⟩ (.int .i64 op)).setCell ⟨W.heap.size,2,none⟩ (.slice (some ⟨b,0,none⟩) xs.length c)).setCell ⟨W.heap.size,3,none⟩ (.slice none 0 0))):=by
   refine .inl ⟨.mk 1 ⟨op,xs⟩ [],k+1,[b],1,op,_,_,_,_,_,_,by rw [HQ.out,zgp hkl hI hqo];rfl,by omega,rfl,⟨_,_,[b],[],rfl,rfl,?_,RowOwn.nil _ _ _ _ _⟩,by simp,?_,?_⟩
   ·exact ArgsOwn.move (zgq (O3.base (by omega))) (W4.grown _ W.heap.size _ _ _ _) (fun b' hb'=>by simp at hb';simp;omega)
   ·exact R3.move (W4.grown _ W.heap.size _ _ _ _) (by simp;omega) (by simp;omega) (by simp;omega)
   ·exact G3.andThen (W4.grown _ W.heap.size _ _ _ _) (fun j hj=>.inl (by simp at hj;omega))
  obtain ⟨q0,q1,q2,q3⟩:=(E2x.put (.int .i64 1) (.int .i64 op) (.slice (some ⟨b,0,none⟩) xs.length c) (.slice none 0 0)).cells
  obtain ⟨z0,z1,z2,z3⟩:=E2x.cells
  obtain ⟨d0,d1,_,_⟩:=EL
  have f0:=E2x.free 0
  have f1:=E2x.free 1
  have f2:=E2x.free 2
  have f3:=E2x.free 3
  have n1:w2.heap.size≠W.heap.size:=by omega
  unfold W4 at q0 q1 q2 q3
  clear E2x G3 R3 hR2 hG2 HX HQ HW hO O3 hI
  go_wp2
  exact bodyPost_ret (v:=.tuple #[.agg #[.int .i64 1,.int .i64 op,.slice (some ⟨b,0,none⟩) xs.length c,.slice none 0 0],.bool true]) (by simp [results,Tryz.results153,go_sem,q0,q1,q2,q3]) rfl HF.out
 ·have E2x:=(HX.out.2.2.1.move hG2 (by simp;omega)).move (World.grownBy_alloc w2 (.cells #[.int .i64 0,.slice none 0 0] 50) none) (by simp)
  have EL:E2 (w2.alloc (.cells #[.int .i64 0,.slice none 0 0] 50)) w2.heap.size (.int .i64 0) (.slice none 0 0):=E2.fresh w2 _ _ 50
  have hs2:W.heap.size+1≤w2.heap.size:=by have:=hG2.size;rw [HS1.out] at this;exact this
  have G3:W.grownBy (w2.alloc (.cells #[.int .i64 0,.slice none 0 0] 50)) (some rb):=(HX.out.2.2.2.trans hG2).trans (World.grownBy_alloc w2 _ _)
  have R3:RdI (w2.alloc (.cells #[.int .i64 0,.slice none 0 0] 50)) rb g cap mb L k:=hR2.move (World.grownBy_alloc w2 _ none) (by simp) (by simp) (by simp)
  have HF:Hid (zcq W rb g cap mb L (n+1) k (.returned (.tuple #[.agg #[.int .i64 1,.int .i64 0,.slice none 0 0,.slice none 0 0],.bool false])) (((((w2.alloc (.cells #[.int .i64 0,.slice none 0 0] 50)).setCell ⟨W.heap.size,0,none⟩ (.int .i64 1)).setCell ⟨W.heap.size,1,none⟩ (.int .i64 0)).setCell ⟨W.heap.size,2,none⟩ (.slice none 0 0)).setCell ⟨W.heap.size,3,none⟩ (.slice none 0 0))):=by
   refine .inr ⟨k,1,0,_,_,_,_,_,_,by rw [HQ.out,zeh hno];rfl,rfl,?_,?_⟩
   ·exact R3.move (W4.grown _ W.heap.size _ _ _ _) (by simp;omega) (by simp;omega) (by simp;omega)
   ·exact G3.andThen (W4.grown _ W.heap.size _ _ _ _) (fun j hj=>.inl (by simp at hj;omega))
  obtain ⟨q0,q1,q2,q3⟩:=(E2x.put (.int .i64 1) (.int .i64 0) (.slice none 0 0) (.slice none 0 0)).cells
  obtain ⟨z0,z1,z2,z3⟩:=E2x.cells
  obtain ⟨d0,d1,_,_⟩:=EL
  have f0:=E2x.free 0
  have f1:=E2x.free 1
  have f2:=E2x.free 2
  have f3:=E2x.free 3
  have n1:w2.heap.size≠W.heap.size:=by omega
  unfold W4 at q0 q1 q2 q3
  clear E2x G3 R3 hR2 hG2 HX HQ HW hno
  go_wp2
  exact bodyPost_ret (v:=.tuple #[.agg #[.int .i64 1,.int .i64 0,.slice none 0 0,.slice none 0 0],.bool false]) (by simp [results,Tryz.results153,go_sem,q0,q1,q2,q3]) rfl HF.out
structure Base (W0:World) (rb g:Nat) (L:List ByteArray):Prop where
 tabs:Tabs W0
 ml:ML W0
 eh:EH W0
 g0:g<W0.heap.size
 rb0:W0.heap.size≤rb
 short:∀x∈L,x.size≤1048576
theorem rnet_i{W0:World}{rb g cap mb:Nat}{L:List ByteArray}(hb:Base W0 rb g L)(n:Nat):∀(W:World)(k:Nat),RdI W rb g cap mb L k→Below W0.heap.size W0 W→2*(L.length-k)<n →
  Calls Tryz.prog 153 #[.pointer (some ⟨rb,0,none⟩)] W fun e w'=>zcq W rb g cap mb L n k e w':=by
 induction n using Nat.strongRecOn with
 | _ n ih =>
  intro W k h hB hn
  match n,hn,ih with
  | 0,hn,_=>omega
  | n+1,hn,ih =>
   by_cases hq:kAt L k=2∨kAt L k=3∨kAt L k=4
   ·exact rnet_deep W0 W rb g cap mb L n k h hB hb.rb0 hn (kAt L k) rfl hq fun W' k' h' hB' hn'=>rnets_i W0 W' rb g cap mb L n k' h' hB' hb.rb0 hn' fun W'' k'' m hm h'' hB'' hn''=>ih m (by omega) W'' k'' h'' hB'' hn''
   ·exact rnet_one W0 W rb g cap mb L n k h hB hb.rb0 (kAt L k) rfl hq hb.g0 hb.tabs hb.ml hb.eh hb.short
theorem ElemOwn.base{W:World}{base base':Nat}(hb:base'≤base){F:List Nat}{e:ElemT}{c:List Value}(h:ElemOwn W base F e c):ElemOwn W base' F e c:=by
 obtain ⟨v,hc,h1⟩:=h
 exact ⟨v,hc,RowOwn.base h1 hb fun _ _ _ h=>h⟩
theorem ArmOwn.base{W:World}{base base':Nat}(hb:base'≤base):∀(n:Nat)(F:List Nat)(t:ArmT)(c:List Value),ArmOwn W base n F t c→ArmOwn W base' n F t c
 | 0,_,_,_,h=>h.elim
 | n+1,F,.mk net coils kids,c,h=>by
  obtain ⟨ns,v,v',F1,F2,F3,hc,rfl,h1,h2,h3⟩:=h
  exact ⟨ns,v,v',F1,F2,F3,hc,rfl,NetOwn.base hb n _ _ _ h1,RowOwn.base h2 hb fun _ _ _ h=>ElemOwn.base hb h,RowOwn.base h3 hb fun f x c h=>ArmOwn.base hb n f x c h⟩
def zdq(W:World)(rb g cap mb:Nat)(L:List ByteArray)(n k:Nat)(e:Ending)(w':World):Prop :=
 (∃(t:ArmT)(k':Nat)(F:List Nat)(x y:Int)(p:Option Addr)(pl pc:Nat)(r:Option Addr)(rl rc:Nat)(s:Option Addr)(sl sc:Nat)(u:Option Addr)(ul uc:Nat),zbz L n k=some (t,k')∧k<k'∧e=.returned (.tuple #[.agg #[.int .i64 x,.int .i64 y,.slice p pl pc,.slice r rl rc,.slice s sl sc,.slice u ul uc],.bool true])∧ArmOwn w' W.heap.size n F t [.int .i64 x,.int .i64 y,.slice p pl pc,.slice r rl rc,.slice s sl sc,.slice u ul uc]∧F.Nodup∧RdI w' rb g cap mb L k'∧W.grownBy w' (some rb)) ∨
 (∃(k':Nat)(x y:Int)(p:Option Addr)(pl pc:Nat)(r:Option Addr)(rl rc:Nat)(s:Option Addr)(sl sc:Nat)(u:Option Addr)(ul uc:Nat),zbz L n k=none∧e=.returned (.tuple #[.agg #[.int .i64 x,.int .i64 y,.slice p pl pc,.slice r rl rc,.slice s sl sc,.slice u ul uc],.bool false])∧RdI w' rb g cap mb L k'∧W.grownBy w' (some rb))
def zfr(W:World)(rb g cap mb:Nat)(L:List ByteArray)(n k:Nat)(e:Ending)(w':World):Prop :=
 (∃(ts:List ArmT)(k':Nat)(F:List Nat)(v:Value),zbb L n k=some (ts,k')∧k<k'∧e=.returned (.tuple #[v,.bool true])∧RowOwn w' W.heap.size 56 6 (ArmOwn w' W.heap.size n) F v ts∧F.Nodup∧RdI w' rb g cap mb L k'∧W.grownBy w' (some rb)) ∨
 (∃k',zbb L n k=none∧e=.returned (.tuple #[.slice none 0 0,.bool false])∧RdI w' rb g cap mb L k'∧W.grownBy w' (some rb))
structure KidsAt (W0 W:World) (rb g cap mb:Nat) (L:List ByteArray) (n k:Nat) (v:Value) (wr:World) (ts:List ArmT) (F:List Nat):Prop where
 own:RowOwn wr W.heap.size 56 6 (ArmOwn wr W.heap.size n) F v ts
 nodup:F.Nodup
 rd:RdI wr rb g cap mb L k
 grown:W.grownBy wr (some rb)
 below:Below W0.heap.size W0 wr
 len:ts.length≤k
theorem KidsAt.go{W0 W wr w1:World}{rb g cap mb n k k1:Nat}{L:List ByteArray}{v:Value}{ts:List ArmT}{F:List Nat}(h:KidsAt W0 W rb g cap mb L n k v wr ts F)(hG:wr.grownBy w1 (some rb))(hR:RdI w1 rb g cap mb L k1)(hk:k≤k1)(hrl:rb<W.heap.size)(hrb:W0.heap.size≤rb):KidsAt W0 W rb g cap mb L n k1 v w1 ts F:=by
 have hlt:=RowOwn.lt h.own (fun f x c h=>ArmOwn.lt n f x c h)
 exact ⟨RowOwn.move h.own hG (fun b hb=>by have:=hlt b hb;simp;omega) fun f x c hf h=>ArmOwn.move hG n n (Nat.le_refl _) f x c hf h,h.nodup,hR,h.grown.trans hG,h.below.grown hG (by have:=h.below.size;omega) (fun j hj=>by simp at hj;omega),by have:=h.len;omega⟩
theorem rkids_step{W0 W w1 w2 w4:World}{rb g cap mb n m k k' g1 cap1:Nat}{L:List ByteArray}{ts:List ArmT}{t:ArmT}{F F' f:List Nat}{u4:Value}{cs:List Value}{c:List Value}{o1 o2:Obj}
  (hA:KidsAt W0 W rb g cap mb L n k u4 w1 ts F) (hmn:m≤n) (hE:Each (ArmOwn w1 W.heap.size n) 6 F' ts cs) (hF:F=u4.ownBlock.toList++F') (hc:c.length=6)
  (hN:ArmOwn w2 w1.heap.size m f t c) (hfn:f.Nodup) (hR2:RdI w2 rb g cap mb L k') (hG2:w1.grownBy w2 (some rb)) (hkk:k<k')
  (own4:w4.ownsRow W.heap.size 56 6 (.slice (some ⟨g1,0,none⟩) (ts.length+1) cap1) (ts.length+1) (cs++c)) (g4:((w2.alloc o1).alloc o2).grownBy w4 u4.ownBlock) (hat:u4.ownBlock=some g1∨g1=w2.heap.size+1+1)
  (hrl:rb<W.heap.size) (hml:mb<W.heap.size) (hL0:g<W.heap.size) (hrb:W0.heap.size≤rb) :
  KidsAt W0 W rb g cap mb L n k' (.slice (some ⟨g1,0,none⟩) (ts.length+1) cap1) w4 (ts++[t]) (g1::(F'++f)):=by
 have hFl:=RowOwn.lt hA.own (fun f x c h=>ArmOwn.lt n f x c h)
 have hfl:=ArmOwn.lt m _ _ _ hN
 have hs12:=hG2.size
 have hsW:=hA.grown.size
 have hB1:=hA.below
 have G2:w2.grownBy w4 u4.ownBlock:=((World.grownBy_alloc w2 o1 _).trans (World.grownBy_alloc _ o2 _)).trans g4
 have hob:∀j,u4.ownBlock=some j→W.heap.size≤j∧j<w1.heap.size:=fun j hj=>hFl j (by rw [hF,hj];simp)
 have hnd:F.Nodup:=hA.nodup
 rw [hF] at hnd
 have hnd':=List.nodup_append.1 hnd
 have hF':∀b∈F',some b≠u4.ownBlock:=fun b hb e=>hnd'.2.2 b (by rw [←e];simp) b hb rfl
 have hF'l:∀b∈F',W.heap.size≤b∧b<w1.heap.size:=fun b hb=>hFl b (by rw [hF];exact List.mem_append_right _ hb)
 have hf':∀b∈f,some b≠u4.ownBlock:=fun b hb e=>by have:=hob b e.symm;have:=hfl b hb;omega
 refine ⟨?_,?_,?_,?_,?_,?_⟩
 ·refine RowOwn.push (hE.move fun f1 x1 c1 h1 h2=>?_) hc ?_ own4
  ·exact ArmOwn.move G2 n n (Nat.le_refl _) _ _ _ (fun b hb=>hF' b (h1 hb)) (ArmOwn.move hG2 n n (Nat.le_refl _) _ _ _ (fun b hb=>by have:=hF'l b (h1 hb);simp;omega) h2)
  ·exact ArmOwn.move G2 m n hmn _ _ _ hf' (ArmOwn.base hsW m _ _ _ hN)
 ·rw [List.nodup_cons]
  refine ⟨fun hm=>?_,List.nodup_append.2 ⟨hnd'.2.1,hfn,fun a ha b hb e=>by have:=hF'l a ha;have:=hfl b hb;omega⟩⟩
  rcases List.mem_append.1 hm with hm|hm
  ·rcases hat with h|h
   ·exact hF' g1 hm h.symm
   ·have:=hF'l g1 hm;omega
  ·rcases hat with h|h
   ·exact hf' g1 hm h.symm
   ·have:=hfl g1 hm;omega
 ·exact hR2.move G2 (fun e=>by have:=hob rb e.symm;omega) (fun e=>by have:=hob g e.symm;omega) (fun e=>by have:=hob mb e.symm;omega)
 ·exact (hA.grown.trans hG2).andThen G2 (fun j hj=>.inl (hob j hj).1)
 ·exact (hB1.grown hG2 (by have:=hB1.size;omega) (fun j hj=>by simp at hj;omega)).grown G2 (by have:=hB1.size;omega) (fun j hj=>by have:=hob j hj;omega)
 ·have:=hA.len;simp;omega
set_option maxRecDepth 10000 in
theorem rkids_i(W0 W:World)(rb g cap mb:Nat)(L:List ByteArray)(n k0:Nat)(h:RdI W rb g cap mb L k0)(hB:Below W0.heap.size W0 W)(hrb:W0.heap.size≤rb)(hg0:g<W0.heap.size)(hn:2*(L.length-k0)+2<n)
  (HN:Hid (∀W' k m,m<n→RdI W' rb g cap mb L k→Below W0.heap.size W0 W'→2*(L.length-k)+1<m→Calls Tryz.prog 119 #[.pointer (some ⟨rb,0,none⟩)] W' fun e w'=>zdq W' rb g cap mb L m k e w')) :
  Calls Tryz.prog 157 #[.pointer (some ⟨rb,0,none⟩)] W fun e w'=>zfr W rb g cap mb L n k0 e w':=by
 have hinfo:(Tryz.prog.info? 56).map (fun i=>(i.zero,i.size,i.bytes))=some (some (.agg #[.int .i64 0,.int .i64 0,.slice none 0 0,.slice none 0 0,.slice none 0 0,.slice none 0 0]),6,112):=by kernel_rfl
 obtain ⟨i0,hi,hzz⟩:=Option.map_eq_some_iff.1 hinfo
 simp only [Prod.mk.injEq] at hzz
 obtain ⟨hz0,hz1,hz2⟩:=hzz
 have HI:Hid (Tryz.prog.info? 56=some i0∧i0.zero=some (.agg #[.int .i64 0,.int .i64 0,.slice none 0 0,.slice none 0 0,.slice none 0 0,.slice none 0 0])∧i0.size=6∧i0.bytes=112):=⟨hi,hz0,hz1,hz2⟩
 clear hi hz0 hz1 hz2 hinfo
 have HST:Hid (KidsAt W0 W rb g cap mb L n k0 (.slice none 0 0) W [] []):=⟨RowOwn.nil _ _ _ _ _,List.nodup_nil,h,World.grownBy.refl W _,hB,by simp⟩
 have hl4:=h.2.2.2.2.2.2.2.1
 have hrl:=h.lt
 have hml:=h.2.2.1.lt
 have hgl:g<W.heap.size:=by have:=hB.size;omega
 clear h hB
 go_enter Tryz.func157,Tryz.ntmps157
 go_wp2_with fail
 go_loopg [4] n (fun gk v wr=>∃ts k F,Hid (KidsAt W0 W rb g cap mb L n k v wr ts F)∧2*(L.length-k)+2<gk∧gk≤n∧k0≤k∧Hid (zbb L n k0=(zbb L gk k).map fun s=>(ts++s.1,s.2)))
 case atStart=>exact ⟨[],k0,[],HST,hn,Nat.le_refl _,Nat.le_refl _,by show zbb L n k0=_;cases zbb L n k0<;>simp⟩
 case round =>
  obtain ⟨ts,k,F,HA,hf,hmn,hle,HAn⟩:=hrel
  obtain ⟨m,rfl⟩:∃m,gk=m+1:=⟨gk-1,by omega⟩
  have HS:Hid (zbb L n k0=((zbz L m k).bind fun r=>if kAt L r.2=8 then some ([r.1],r.2+1) else if kAt L r.2=7 then (zbb L m (r.2+1)).map fun s=>(r.1::s.1,s.2) else none).map fun s=>(ts++s.1,s.2)):=by
   have:=HAn.out
   rw [zbb] at this
   exact this
  clear HAn HST
  go_wp2_with fail
  refine (HN.out wr k m (by omega) HA.out.rd HA.out.below (by omega)).mono ?_
  intro e w2 hNR
  unfold zdq at hNR
  rcases hNR with ⟨t,k',f,x,y,p,pl,pc,r,rl,rc,s,sl,sc,u,ul,uc,hrd,hkk,rfl,hNO,hfn,hR2,hG2⟩|⟨k',x,y,p,pl,pc,r,rl,rc,s,sl,sc,u,ul,uc,hrd,rfl,hR2,hG2⟩
  ·obtain ⟨cs,F',hE,hOw,hF⟩:=HA.out.own
   have hb2:wr.heap.size≤w2.heap.size:=hG2.size
   have hFlt:=RowOwn.lt HA.out.own (fun f x c h=>ArmOwn.lt n f x c h)
   have hsW:=HA.out.grown.size
   have hown2:w2.ownsRow W.heap.size 56 6 u4 ts.length cs:=hOw.kept hG2 (by
    cases hv:u4.ownBlock with
    | none=>exact .inl rfl
    | some b=>exact .inr (by have:=hFlt b (by rw [hF,hv];simp);simp;omega))
   have own3:((w2.alloc (.cells #[.int .i64 x,.int .i64 y,.slice p pl pc,.slice r rl rc,.slice s sl sc,.slice u ul uc] 56)).alloc (.cells #[.int .i64 x,.int .i64 y,.slice p pl pc,.slice r rl rc,.slice s sl sc,.slice u ul uc] 56)).ownsRow W.heap.size 56 6 u4 ts.length cs:=World.ownsRow.alloc (World.ownsRow.alloc hown2 _) _
   have news3:∀(q:Nat)(v:Value),([.int .i64 x,.int .i64 y,.slice p pl pc,.slice r rl rc,.slice s sl sc,.slice u ul uc]:List Value)[q]?=some v→((w2.alloc (.cells #[.int .i64 x,.int .i64 y,.slice p pl pc,.slice r rl rc,.slice s sl sc,.slice u ul uc] 56)).alloc (.cells #[.int .i64 x,.int .i64 y,.slice p pl pc,.slice r rl rc,.slice s sl sc,.slice u ul uc] 56)).cell? ((⟨w2.heap.size+1,0,none⟩:Addr).add q)=some v:=by
    intro q v hq
    match q with
    | 0=>simp at hq;subst hq;simp [Addr.add]
    | 1=>simp at hq;subst hq;simp [Addr.add]
    | 2=>simp at hq;subst hq;simp [Addr.add]
    | 3=>simp at hq;subst hq;simp [Addr.add]
    | 4=>simp at hq;subst hq;simp [Addr.add]
    | 5=>simp at hq;subst hq;simp [Addr.add]
    | (j+6)=>simp at hq
   have hTs:ts.length≤4194304:=by have:=HA.out.len;have:=HA.out.rd.2.2.2.2.2.1;omega
   have HHO:Hid (Each (ArmOwn wr W.heap.size n) 6 F' ts cs∧F=u4.ownBlock.toList++F'):=⟨hE,hF⟩
   have HNO:Hid (ArmOwn w2 wr.heap.size m f t [.int .i64 x,.int .i64 y,.slice p pl pc,.slice r rl rc,.slice s sl sc,.slice u ul uc]∧f.Nodup∧RdI w2 rb g cap mb L k'∧wr.grownBy w2 (some rb)):=⟨hNO,hfn,hR2,hG2⟩
   have HRD:Hid (zbz L m k=some (t,k')):=hrd
   have hkL:k'≤L.length:=hR2.2.2.2.2.2.1
   clear hE hF hFlt hNO hfn hR2 hG2 hrd hown2 hOw
   go_wp2_with (at_builtin;refine wpList_append_lies _ rfl _ _ 23 rfl W.heap.size 56 i0 (.agg #[.int .i64 0,.int .i64 0,.slice none 0 0,.slice none 0 0,.slice none 0 0,.slice none 0 0]) 6 112 Tryz.underlying23 HI.out.1 HI.out.2.1 HI.out.2.2.1 HI.out.2.2.2 rfl (by decide) _ ts.length cs rfl own3 ⟨w2.heap.size+1,0,none⟩ 1 1 [.int .i64 x,.int .i64 y,.slice p pl pc,.slice r rl rc,.slice s sl sc,.slice u ul uc] rfl rfl news3 ?c2 (by omega) ?c3 ?c4 ?c5 _ rfl ?_)
   case c2=>intro v hu;simp at hu;rcases hu with rfl|rfl|rfl|rfl|rfl|rfl<;>rfl
   case c3=>unfold maxLen;omega
   case c4=>omega
   case c5=>simp;omega
   intro g1 cap1 w4 own4 g4 hat hlt4
   have HNX:Hid (KidsAt W0 W rb g cap mb L n k' (.slice (some ⟨g1,0,none⟩) (ts.length+1) cap1) w4 (ts++[t]) (g1::(F'++f))):=rkids_step HA.out (by omega) HHO.out.1 HHO.out.2 rfl HNO.out.1 HNO.out.2.1 HNO.out.2.2.1 HNO.out.2.2.2 hkk own4 g4 hat hrl hml hgl hrb
   clear own3 news3 own4 g4 hat hlt4 HA HHO HNO
   go_wp2_with fail
   refine (zjc w4 rb g cap mb k' L 8 HNX.out.rd (by decide)).mono ?_
   intro e w5 hT5
   unfold TkI at hT5
   obtain ⟨rfl,hR5,hG5⟩:=hT5
   by_cases h8:kAt L k'=8
   ·have b8:(kAt L k'==8)=true:=by rw [h8];rfl
    rw [if_pos h8] at hR5
    have HK:=HNX.out.go hG5 hR5 (by omega) hrl hrb
    have HF:Hid (zfr W rb g cap mb L n k0 (.returned (.tuple #[.slice (some ⟨g1,0,none⟩) (ts.length+1) cap1,.bool true])) w5) :=
     .inl ⟨ts++[t],k'+1,_,_,by rw [HS.out,HRD.out];simp [h8],by omega,rfl,HK.own,HK.nodup,HK.rd,HK.grown⟩
    clear HK hR5 hG5 h8 HS HRD HNX
    go_wp2
    exact bodyPost_ret (v:=.tuple #[.slice (some ⟨g1,0,none⟩) (ts.length+1) cap1,.bool true]) (by simp [results,Tryz.results157,go_sem]) rfl HF.out
   ·have b8:(kAt L k'==8)=false:=by rw [beq_eq_false_iff_ne];exact h8
    rw [if_neg h8] at hR5
    have HK:Hid (KidsAt W0 W rb g cap mb L n k' (.slice (some ⟨g1,0,none⟩) (ts.length+1) cap1) w5 (ts++[t]) (g1::(F'++f))):=HNX.out.go hG5 hR5 (Nat.le_refl _) hrl hrb
    have HN8:Hid (¬ kAt L k'=8):=h8
    clear hR5 hG5 h8 HNX
    go_wp2_with fail
    refine (zjc w5 rb g cap mb k' L 7 HK.out.rd (by decide)).mono ?_
    intro e w6 hT6
    unfold TkI at hT6
    obtain ⟨rfl,hR6,hG6⟩:=hT6
    by_cases h7:kAt L k'=7
    ·have b7:(kAt L k'==7)=true:=by rw [h7];rfl
     rw [if_pos h7] at hR6
     have HK6:Hid (KidsAt W0 W rb g cap mb L n (k'+1) (.slice (some ⟨g1,0,none⟩) (ts.length+1) cap1) w6 (ts++[t]) (g1::(F'++f))):=HK.out.go hG6 hR6 (by omega) hrl hrb
     have HA6:Hid (zbb L n k0=(zbb L m (k'+1)).map fun s=>(ts++[t]++s.1,s.2)):=by
      show zbb L n k0=_
      rw [HS.out,HRD.out]
      cases hq:zbb L m (k'+1)<;>simp [h7,hq]
     clear hR6 hG6 h7 HS HRD HK HN8
     go_wp2
     go_roundg m
     case measure=>omega
     case rel=>exact ⟨ts++[t],k'+1,_,HK6,by omega,by omega,by omega,HA6⟩
    ·have b7:(kAt L k'==7)=false:=by rw [beq_eq_false_iff_ne];exact h7
     rw [if_neg h7] at hR6
     have HF:Hid (zfr W rb g cap mb L n k0 (.returned (.tuple #[.slice none 0 0,.bool false])) w6) :=
      .inr ⟨k',by rw [HS.out,HRD.out];simp [h7,HN8.out],rfl,hR6,HK.out.grown.trans hG6⟩
     clear hR6 hG6 h7 HS HRD HK HN8
     go_wp2
     exact bodyPost_ret (v:=.tuple #[.slice none 0 0,.bool false]) (by simp [results,Tryz.results157,go_sem]) rfl HF.out
  ·have HF:Hid (zfr W rb g cap mb L n k0 (.returned (.tuple #[.slice none 0 0,.bool false])) (w2.alloc (.cells #[.int .i64 x,.int .i64 y,.slice p pl pc,.slice r rl rc,.slice s sl sc,.slice u ul uc] 56))):=by
    refine .inr ⟨k',?_,rfl,hR2.move (World.grownBy_alloc w2 _ none) (by simp) (by simp) (by simp),(HA.out.grown.trans hG2).trans (World.grownBy_alloc w2 _ _)⟩
    rw [HS.out,hrd]
    rfl
   clear hR2 hG2 hrd HA HS
   go_wp2
   exact bodyPost_ret (v:=.tuple #[.slice none 0 0,.bool false]) (by simp [results,Tryz.results157,go_sem]) rfl HF.out
def Bk(W:World)(b:Nat)(C:Array Value)(T:TypeId):Prop:=W.heap[b]?=some (.cells C T)
theorem Bk.fresh(W:World)(C:Array Value)(T:TypeId):Bk (W.alloc (.cells C T)) W.heap.size C T:=heap_alloc_last _ _
theorem Bk.move{W W':World}{b:Nat}{C:Array Value}{T:TypeId}{row:Option Nat}(h:Bk W b C T)(hg:W.grownBy W' row)(hr:some b≠row):Bk W' b C T:=(hg.block b (Array.getElem?_eq_some_iff.1 h).1 hr).trans h
theorem Bk.lt{W:World}{b:Nat}{C:Array Value}{T:TypeId}(h:Bk W b C T):b<W.heap.size:=(Array.getElem?_eq_some_iff.1 h).1
theorem Bk.cell{W:World}{b:Nat}{C:Array Value}{T:TypeId}(h:Bk W b C T)(i:Nat):W.cell? ⟨b,i,none⟩=C[i]?:=by
 unfold Bk at h
 simp [World.cell?,h]
theorem Bk.free{W:World}{b:Nat}{C:Array Value}{T:TypeId}(h:Bk W b C T)(i:Nat):W.frozen? ⟨b,i,none⟩=false:=by
 unfold Bk at h
 simp [World.frozen?,h]
theorem Bk.set{W:World}{b:Nat}{C:Array Value}{T:TypeId}(h:Bk W b C T)(i:Nat)(v:Value):Bk (W.setCell ⟨b,i,none⟩ v) b (C.setIfInBounds i v) T:=zfe h v
theorem Bk.six{W:World}{b:Nat}{a0 a1 a2 a3 a4 a5:Value}{T:TypeId}(h:Bk W b #[a0,a1,a2,a3,a4,a5] T) :
  W.cell? ⟨b,0,none⟩=some a0∧W.cell? ⟨b,1,none⟩=some a1∧W.cell? ⟨b,2,none⟩=some a2∧W.cell? ⟨b,3,none⟩=some a3∧W.cell? ⟨b,4,none⟩=some a4∧W.cell? ⟨b,5,none⟩=some a5 :=
 ⟨h.cell 0,h.cell 1,h.cell 2,h.cell 3,h.cell 4,h.cell 5⟩
theorem Bk.frees{W:World}{b:Nat}{C:Array Value}{T:TypeId}(h:Bk W b C T) :
  W.frozen? ⟨b,0,none⟩=false∧W.frozen? ⟨b,1,none⟩=false∧W.frozen? ⟨b,2,none⟩=false∧W.frozen? ⟨b,3,none⟩=false∧W.frozen? ⟨b,4,none⟩=false∧W.frozen? ⟨b,5,none⟩=false :=
 ⟨h.free 0,h.free 1,h.free 2,h.free 3,h.free 4,h.free 5⟩
abbrev armZ:Array Value:=#[.int .i64 0,.int .i64 0,.slice none 0 0,.slice none 0 0,.slice none 0 0,.slice none 0 0]
structure ArmAt (W:World) (rb g cap mb:Nat) (L:List ByteArray) (n k:Nat) (x y:Int) (p:Option Addr) (pl pc:Nat) (r:Option Addr) (rl rc:Nat) (s:Option Addr) (sl sc:Nat) (w:World) (net:NetT) (ts:List ElemT) (F1 F2:List Nat):Prop where
 b1:Bk w W.heap.size armZ 56
 b3:Bk w (W.heap.size+1) #[.int .i64 x,.int .i64 y,.slice p pl pc,.slice r rl rc,.slice s sl sc,.slice none 0 0] 56
 net:NetOwn w (W.heap.size+2) n F1 net [.int .i64 x,.int .i64 y,.slice p pl pc,.slice r rl rc]
 row:RowOwn w (W.heap.size+2) 50 2 (ElemOwn w (W.heap.size+2)) F2 (.slice s sl sc) ts
 nodup:(F1++F2).Nodup
 rd:RdI w rb g cap mb L k
 grown:W.grownBy w (some rb)
 len:ts.length≤k
theorem ArmAt.lt{W:World}{rb g cap mb:Nat}{L:List ByteArray}{n k:Nat}{x y:Int}{p:Option Addr}{pl pc:Nat}{r:Option Addr}{rl rc:Nat}{s:Option Addr}{sl sc:Nat}{w:World}{net:NetT}{ts:List ElemT}{F1 F2:List Nat}(h:ArmAt W rb g cap mb L n k x y p pl pc r rl rc s sl sc w net ts F1 F2) :
  ∀b∈F1++F2,W.heap.size+2≤b∧b<w.heap.size:=by
 intro b hb
 rcases List.mem_append.1 hb with hb|hb
 ·exact NetOwn.lt n _ _ _ h.net b hb
 ·exact RowOwn.lt h.row (fun f x c h=>h.lt) b hb
theorem ArmAt.go{W:World}{rb g cap mb:Nat}{L:List ByteArray}{n k k1:Nat}{x y:Int}{p:Option Addr}{pl pc:Nat}{r:Option Addr}{rl rc:Nat}{s:Option Addr}{sl sc:Nat}{w w':World}{net:NetT}{ts:List ElemT}{F1 F2:List Nat}(h:ArmAt W rb g cap mb L n k x y p pl pc r rl rc s sl sc w net ts F1 F2)
  (hG:w.grownBy w' (some rb)) (hR:RdI w' rb g cap mb L k1) (hk:k≤k1) (hrl:rb<W.heap.size):ArmAt W rb g cap mb L n k1 x y p pl pc r rl rc s sl sc w' net ts F1 F2:=by
 have hlt:=h.lt
 exact ⟨h.b1.move hG (by simp;omega),h.b3.move hG (by simp;omega),NetOwn.move hG n n (Nat.le_refl _) _ _ _ (fun b hb=>by have:=hlt b (List.mem_append_left _ hb);simp;omega) h.net,
  RowOwn.move h.row hG (fun b hb=>by have:=hlt b (List.mem_append_right _ hb);simp;omega) fun f x c hf h=>h.move hG hf,h.nodup,hR,h.grown.trans hG,by have:=h.len;omega⟩
theorem ArmAt.other{W:World}{rb g cap mb:Nat}{L:List ByteArray}{n k:Nat}{x y:Int}{p:Option Addr}{pl pc:Nat}{r:Option Addr}{rl rc:Nat}{s:Option Addr}{sl sc:Nat}{w w':World}{net:NetT}{ts:List ElemT}{F1 F2:List Nat}(h:ArmAt W rb g cap mb L n k x y p pl pc r rl rc s sl sc w net ts F1 F2)
  {row:Option Nat} (hG:w.grownBy w' row) (hr:∀j,row=some j→W.heap.size+2≤j∧j∉F1++F2) (hrl:rb<W.heap.size) (hgl:g<W.heap.size) (hml:mb<W.heap.size):ArmAt W rb g cap mb L n k x y p pl pc r rl rc s sl sc w' net ts F1 F2:=by
 have hne:∀b,b<W.heap.size+2→some b≠row:=fun b hb e=>by have:=(hr b e.symm).1;omega
 have hF:∀b∈F1++F2,some b≠row:=fun b hb e=>(hr b e.symm).2 hb
 exact ⟨h.b1.move hG (hne _ (by omega)),h.b3.move hG (hne _ (by omega)),NetOwn.move hG n n (Nat.le_refl _) _ _ _ (fun b hb=>hF b (List.mem_append_left _ hb)) h.net,
  RowOwn.move h.row hG (fun b hb=>hF b (List.mem_append_right _ hb)) fun f x c hf h=>h.move hG hf,h.nodup,h.rd.move hG (hne _ (by omega)) (hne _ (by omega)) (hne _ (by omega)),h.grown.andThen hG (fun j hj=>.inl (by have:=(hr j hj).1;omega)),h.len⟩
structure CoilIs (W w:World) (bc:Nat) (op:Int) (q:Option Addr) (ql qc:Nat) (e:ElemT) (F3 F:List Nat):Prop where
 blk:Bk w bc #[.int .i64 op,.slice q ql qc] 50
 own:ElemOwn w (W.heap.size+2) F3 e [.int .i64 op,.slice q ql qc]
 nodup:F3.Nodup
 apart:∀b∈F3,b∉F
theorem fit_cl(W0 W:World)(hK:KT W0)(hB:Below W0.heap.size W0 W):Hid (∀W',Below W.heap.size W W'→∀(op:Int)(xs:List Arg)(b c:Nat),Ops W' b 0 xs→Calls Tryz.prog 156 #[.agg #[.int .i64 op,.slice (some ⟨b,0,none⟩) xs.length c]] W' fun e w'=>e=.returned (.bool (qCl op&&rtk op xs))∧Below W'.heap.size W' w') :=
 fun W' hW op xs b c hO=>zhf op (some ⟨b,0,none⟩) xs xs.length c rfl W' (hK.later (hB.trans (hW.mono hB.size))) (.inr ⟨b,0,rfl,hO⟩)
theorem ArmAt.push{W:World}{rb g cap mb:Nat}{L:List ByteArray}{n k:Nat}{x y:Int}{p:Option Addr}{pl pc:Nat}{r:Option Addr}{rl rc:Nat}{s:Option Addr}{sl sc:Nat}{w w4:World}{net:NetT}{ts:List ElemT}{F1 F2 F' F3:List Nat}{cs:List Value}{bc g1 cap1:Nat}{op:Int}{q:Option Addr}{ql qc:Nat}{e:ElemT}{o1:Obj}
  (h:ArmAt W rb g cap mb L n k x y p pl pc r rl rc s sl sc w net ts F1 F2) (hC:CoilIs W w bc op q ql qc e F3 (F1++F2)) (hE:Each (ElemOwn w (W.heap.size+2)) 2 F' ts cs) (hF:F2=(Value.slice s sl sc).ownBlock.toList++F')
  (own4:w4.ownsRow (W.heap.size+2) 50 2 (.slice (some ⟨g1,0,none⟩) (ts.length+1) cap1) (ts.length+1) (cs++[.int .i64 op,.slice q ql qc])) (g4:(w.alloc o1).grownBy w4 (Value.slice s sl sc).ownBlock) (hat:(Value.slice s sl sc).ownBlock=some g1∨g1=w.heap.size+1)
  (hk:ts.length<k) (hrl:rb<W.heap.size) (hgl:g<W.heap.size) (hml:mb<W.heap.size) :
  ArmAt W rb g cap mb L n k x y p pl pc r rl rc (some ⟨g1,0,none⟩) (ts.length+1) cap1 (w4.setCell ⟨W.heap.size+1,4,none⟩ (.slice (some ⟨g1,0,none⟩) (ts.length+1) cap1)) net (ts++[e]) F1 (g1::(F'++F3)):=by
 have hlt:=h.lt
 have hCl:=hC.own.lt
 have G4:w.grownBy w4 (Value.slice s sl sc).ownBlock:=(World.grownBy_alloc w o1 _).trans g4
 have G5:w4.grownBy (w4.setCell ⟨W.heap.size+1,4,none⟩ (.slice (some ⟨g1,0,none⟩) (ts.length+1) cap1)) (some (W.heap.size+1)):=zab _ _ _ _
 have hob:∀j,(Value.slice s sl sc).ownBlock=some j→j∈F2:=fun j hj=>by rw [hF,hj];simp
 have hob2:∀j,(Value.slice s sl sc).ownBlock=some j→W.heap.size+2≤j∧j<w.heap.size:=fun j hj=>hlt j (List.mem_append_right _ (hob j hj))
 have hnd:=List.nodup_append.1 h.nodup
 have hnd2:F2.Nodup:=hnd.2.1
 rw [hF] at hnd2
 have hnd':=List.nodup_append.1 hnd2
 have hF'2:∀b∈F',b∈F2:=fun b hb=>by rw [hF];exact List.mem_append_right _ hb
 have hF':∀b∈F',some b≠(Value.slice s sl sc).ownBlock:=fun b hb e=>hnd'.2.2 b (by rw [←e];simp) b hb rfl
 have hF1:∀b∈F1,some b≠(Value.slice s sl sc).ownBlock:=fun b hb e=>hnd.2.2 b hb b (hob b e.symm) rfl
 have hF3:∀b∈F3,some b≠(Value.slice s sl sc).ownBlock:=fun b hb e=>hC.apart b hb (List.mem_append_right _ (hob b e.symm))
 have hg1:W.heap.size+2≤g1:=by
  rcases hat with h1|h1
  ·exact (hob2 g1 h1).1
  ·have:=h.grown.size;have:=h.b3.lt;omega
 have hlow:∀b,b<W.heap.size+2→some b≠(Value.slice s sl sc).ownBlock:=fun b hb e=>by have:=(hob2 b e.symm).1;omega
 refine ⟨(h.b1.move G4 (hlow _ (by omega))).move G5 (by simp),(h.b3.move G4 (hlow _ (by omega))).set 4 _,?_,?_,?_,?_,?_,by simp;omega⟩
 ·exact NetOwn.move G5 n n (Nat.le_refl _) _ _ _ (fun b hb=>by have:=hlt b (List.mem_append_left _ hb);simp;omega) (NetOwn.move G4 n n (Nat.le_refl _) _ _ _ hF1 h.net)
 ·have hP:RowOwn w4 (W.heap.size+2) 50 2 (ElemOwn w4 (W.heap.size+2)) (g1::(F'++F3)) (.slice (some ⟨g1,0,none⟩) (ts.length+1) cap1) (ts++[e]) :=
   RowOwn.push (hE.move fun f1 x1 c1 h1 h2=>h2.move G4 (fun b hb=>hF' b (h1 hb))) rfl (hC.own.move G4 hF3) own4
  refine RowOwn.move hP G5 (fun b hb=>?_) fun f x c hf h=>h.move G5 hf
  rcases List.mem_cons.1 hb with rfl|hb
  ·simp;omega
  ·rcases List.mem_append.1 hb with hb|hb
   ·have:=hlt b (List.mem_append_right _ (hF'2 b hb));simp;omega
   ·have:=hCl b hb;simp;omega
 ·refine List.nodup_append.2 ⟨hnd.1,List.nodup_cons.2 ⟨fun hm=>?_,List.nodup_append.2 ⟨hnd'.2.1,hC.nodup,fun a ha b hb e=>hC.apart b hb (List.mem_append_right _ (e ▸ hF'2 a ha))⟩⟩,fun a ha b hb e=>?_⟩
  ·rcases List.mem_append.1 hm with hm|hm
   ·rcases hat with h1|h1
    ·exact hF' g1 hm h1.symm
    ·have:=hlt g1 (List.mem_append_right _ (hF'2 g1 hm));omega
   ·rcases hat with h1|h1
    ·exact hF3 g1 hm h1.symm
    ·have:=hCl g1 hm;omega
  ·subst e
   rcases List.mem_cons.1 hb with rfl|hb
   ·rcases hat with h1|h1
    ·exact hF1 a ha h1.symm
    ·have:=hlt a (List.mem_append_left _ ha);omega
   ·rcases List.mem_append.1 hb with hb|hb
    ·exact hnd.2.2 a ha a (hF'2 a hb) rfl
    ·exact hC.apart a hb (List.mem_append_left _ ha)
 ·exact (h.rd.move G4 (hlow _ (by omega)) (hlow _ (by omega)) (hlow _ (by omega))).move G5 (by simp;omega) (by simp;omega) (by simp;omega)
 ·exact (h.grown.andThen G4 (fun j hj=>.inl (by have:=(hob2 j hj).1;omega))).andThen G5 (fun j hj=>.inl (by simp at hj;omega))
def ElB(W:World)(rb g cap mb:Nat)(L:List ByteArray)(k:Nat)(q:Int→Bool)(w':World)(v:Bool)(k':Nat)(e:ElemT)(F:List Nat)(op:Int)(qa:Option Addr)(ql qc:Nat):Prop :=
 RdI w' rb g cap mb L k'∧W.grownBy w' (some rb)∧k≤k'∧(v=true→elQ L q k=some e∧k'=k+1∧k<L.length∧ElemOwn w' W.heap.size F e [.int .i64 op,.slice qa ql qc]∧F.Nodup)∧(v=false→elQ L q k=none∧k'=k)
theorem elb_of{W:World}{rb g cap mb:Nat}{L:List ByteArray}{k:Nat}{q:Int→Bool}{e:Ending}{w':World}(h:ElI W rb g cap mb L k q e w') :
  ∃v k' t F op qa ql qc,e=.returned (.tuple #[.agg #[.int .i64 op,.slice qa ql qc],.bool v])∧ElB W rb g cap mb L k q w' v k' t F op qa ql qc:=by
 rcases h with ⟨op,xs,b,c,hkl,hI,hqo,rfl,hO,hR,hG⟩|⟨hno,rfl,hR,hG⟩
 ·exact ⟨true,k+1,⟨op,xs⟩,[b],op,_,_,_,rfl,hR,hG,by omega,fun _=>⟨zgp hkl hI hqo,rfl,hkl,⟨_,rfl,zgq hO⟩,by simp⟩,fun h=>by cases h⟩
 ·exact ⟨false,k,⟨0,[]⟩,[],0,_,_,_,rfl,hR,hG,Nat.le_refl _,(fun h=>by cases h),fun _=>⟨zeh hno,rfl⟩⟩
def HeadR(W:World)(rb g cap mb:Nat)(L:List ByteArray)(n k:Nat)(s5:Value)(wc:World):Prop :=
 (∃(net:NetT)(k1:Nat)(F1:List Nat)(x y:Int)(p:Option Addr)(pl pc:Nat)(r:Option Addr)(rl rc:Nat),s5=.bool true∧ArmAt W rb g cap mb L n k1 x y p pl pc r rl rc none 0 0 wc net [] F1 []∧k≤k1∧(kAt L k1=5→zba L n k=some (net,k1+1))∧(kAt L k1≠5→zba L n k=none)) ∨
 (∃k1,s5=.bool false∧Bk wc W.heap.size armZ 56∧RdI wc rb g cap mb L k1∧W.grownBy wc (some rb)∧zba L n k=none)
theorem head_a{W w1:World}{rb g cap mb:Nat}{L:List ByteArray}{n k:Nat}(hn:0<n)(h1:Bk w1 W.heap.size armZ 56)(h3:Bk w1 (W.heap.size+1) armZ 56)(hR:RdI w1 rb g cap mb L k)(hG:W.grownBy w1 (some rb))(h5:kAt L k=5) :
  HeadR W rb g cap mb L n k (.bool true) w1:=by
 obtain ⟨m,rfl⟩:∃m,n=m+1:=⟨n-1,by omega⟩
 refine .inl ⟨noNet,k,[],0,0,none,0,0,none,0,0,rfl,⟨h1,h3,⟨_,_,[],[],rfl,rfl,zcr _ _,RowOwn.nil _ _ _ _ _⟩,RowOwn.nil _ _ _ _ _,by simp,hR,hG,by simp⟩,Nat.le_refl _,fun _=>?_,fun h=>absurd h5 h⟩
 unfold zba
 rw [if_pos h5]
theorem head_d{W w1 w2:World}{rb g cap mb:Nat}{L:List ByteArray}{n k k':Nat}{t:NetT}{F:List Nat}{x y:Int}{p:Option Addr}{pl pc:Nat}{r:Option Addr}{rl rc:Nat}(h1:Bk w1 W.heap.size armZ 56)(h3:Bk w1 (W.heap.size+1) armZ 56)(hG:W.grownBy w1 (some rb))(h5:kAt L k≠5)
  (hrd:zav L n k=some (t,k')) (hkk:k<k') (hO:NetOwn w2 w1.heap.size n F t [.int .i64 x,.int .i64 y,.slice p pl pc,.slice r rl rc]) (hFn:F.Nodup) (hR2:RdI w2 rb g cap mb L k') (hG2:w1.grownBy w2 (some rb)) (hrl:rb<W.heap.size) (hgl:g<W.heap.size) (hml:mb<W.heap.size) :
  HeadR W rb g cap mb L n k (.bool true) (W4 w2 (W.heap.size+1) (.int .i64 x) (.int .i64 y) (.slice p pl pc) (.slice r rl rc)):=by
 have hlt:=NetOwn.lt n _ _ _ hO
 have hl3:=h3.lt
 have G4:=W4.grown w2 (W.heap.size+1) (.int .i64 x) (.int .i64 y) (.slice p pl pc) (.slice r rl rc)
 have H3:Bk w2 (W.heap.size+1) armZ 56:=h3.move hG2 (by simp;omega)
 refine .inl ⟨t,k',F,x,y,p,pl,pc,r,rl,rc,rfl,⟨(h1.move hG2 (by simp;omega)).move G4 (by simp),?_,?_,RowOwn.nil _ _ _ _ _,by simpa using hFn,hR2.move G4 (by simp;omega) (by simp;omega) (by simp;omega),(hG.trans hG2).andThen G4 (fun j hj=>.inl (by simp at hj;omega)),by simp⟩,by omega,fun h=>?_,fun h=>?_⟩
 ·exact (((H3.set 0 (.int .i64 x)).set 1 (.int .i64 y)).set 2 (.slice p pl pc)).set 3 (.slice r rl rc)
 ·exact NetOwn.move G4 n n (Nat.le_refl _) _ _ _ (fun b hb=>by have:=hlt b hb;simp;omega) (NetOwn.base (by omega) n _ _ _ hO)
 ·unfold zba;rw [if_neg h5,hrd];simp [h]
 ·unfold zba;rw [if_neg h5,hrd];simp [h]
theorem head_b{W w1 w2:World}{rb g cap mb:Nat}{L:List ByteArray}{n k k':Nat}(h1:Bk w1 W.heap.size armZ 56)(hG:W.grownBy w1 (some rb))(h5:kAt L k≠5)(hrd:zav L n k=none)(hR2:RdI w2 rb g cap mb L k')(hG2:w1.grownBy w2 (some rb))(hrl:rb<W.heap.size)(hgl:g<W.heap.size)(hml:mb<W.heap.size)(a0 a1 a2 a3:Value) :
  HeadR W rb g cap mb L n k (.bool false) (W4 w2 (W.heap.size+1) a0 a1 a2 a3):=by
 have hl1:=h1.lt
 have G4:=W4.grown w2 (W.heap.size+1) a0 a1 a2 a3
 refine .inr ⟨k',rfl,(h1.move hG2 (by simp;omega)).move G4 (by simp),hR2.move G4 (by simp;omega) (by simp;omega) (by simp;omega),(hG.trans hG2).andThen G4 (fun j hj=>.inl (by simp at hj;omega)),?_⟩
 unfold zba
 rw [if_neg h5,hrd]
 rfl
def S6(W:World)(b:Nat)(a0 a1 a2 a3 a4 a5:Value):World:=(((((W.setCell ⟨b,0,none⟩ a0).setCell ⟨b,1,none⟩ a1).setCell ⟨b,2,none⟩ a2).setCell ⟨b,3,none⟩ a3).setCell ⟨b,4,none⟩ a4).setCell ⟨b,5,none⟩ a5
theorem S6.grown(W:World)(b:Nat)(a0 a1 a2 a3 a4 a5:Value):W.grownBy (S6 W b a0 a1 a2 a3 a4 a5) (some b):=(((((zab W b 0 a0).trans (zab _ b 1 a1)).trans (zab _ b 2 a2)).trans (zab _ b 3 a3)).trans (zab _ b 4 a4)).trans (zab _ b 5 a5)
theorem Bk.put6{W:World}{b:Nat}{z0 z1 z2 z3 z4 z5:Value}{T:TypeId}(h:Bk W b #[z0,z1,z2,z3,z4,z5] T)(a0 a1 a2 a3 a4 a5:Value):Bk (S6 W b a0 a1 a2 a3 a4 a5) b #[a0,a1,a2,a3,a4,a5] T :=
 (((((h.set 0 a0).set 1 a1).set 2 a2).set 3 a3).set 4 a4).set 5 a5
theorem arm_end{W w5 w6 w7:World}{rb g cap mb:Nat}{L:List ByteArray}{n k k' k'':Nat}{x y:Int}{p:Option Addr}{pl pc:Nat}{r:Option Addr}{rl rc:Nat}{s:Option Addr}{sl sc:Nat}{u:Option Addr}{ul uc:Nat}{net:NetT}{ts:List ElemT}{kids:List ArmT}{F1 F2 F3:List Nat}
  (hA:ArmAt W rb g cap mb L n k' x y p pl pc r rl rc s sl sc w5 net ts F1 F2) (hO:RowOwn w6 w5.heap.size 56 6 (ArmOwn w6 w5.heap.size n) F3 (.slice u ul uc) kids) (hFn:F3.Nodup) (hR:RdI w6 rb g cap mb L k'') (hG:w5.grownBy w6 (some rb)) (G5:w6.grownBy w7 (some (W.heap.size+1)))
  (hrd:zbz L (n+1) k=some (.mk net ts kids,k'')) (hk:k<k'') (hk2:k'≤k'') (hrl:rb<W.heap.size) (hgl:g<W.heap.size) (hml:mb<W.heap.size) :
  zdq W rb g cap mb L (n+1) k (.returned (.tuple #[.agg #[.int .i64 x,.int .i64 y,.slice p pl pc,.slice r rl rc,.slice s sl sc,.slice u ul uc],.bool true])) (S6 w7 W.heap.size (.int .i64 x) (.int .i64 y) (.slice p pl pc) (.slice r rl rc) (.slice s sl sc) (.slice u ul uc)):=by
 have hlt:=hA.lt
 have hl3:=hA.b3.lt
 have hsz:=hA.grown.size
 have hO3:=RowOwn.lt hO (fun f x c h=>ArmOwn.lt n f x c h)
 have G6:=S6.grown w7 W.heap.size (.int .i64 x) (.int .i64 y) (.slice p pl pc) (.slice r rl rc) (.slice s sl sc) (.slice u ul uc)
 have hA6:=hA.go hG hR hk2 hrl
 have n1:∀b∈F1,some b≠some (W.heap.size+1)∧some b≠some W.heap.size:=fun b hb=>by have:=hlt b (List.mem_append_left _ hb);exact ⟨by simp;omega,by simp;omega⟩
 have n2:∀b∈F2,some b≠some (W.heap.size+1)∧some b≠some W.heap.size:=fun b hb=>by have:=hlt b (List.mem_append_right _ hb);exact ⟨by simp;omega,by simp;omega⟩
 have n3:∀b∈F3,some b≠some (W.heap.size+1)∧some b≠some W.heap.size:=fun b hb=>by have:=hO3 b hb;exact ⟨by simp;omega,by simp;omega⟩
 refine .inl ⟨.mk net ts kids,k'',F1++(F2++F3),x,y,p,pl,pc,r,rl,rc,s,sl,sc,u,ul,uc,hrd,hk,rfl,⟨[.int .i64 x,.int .i64 y,.slice p pl pc,.slice r rl rc],.slice s sl sc,.slice u ul uc,F1,F2,F3,rfl,rfl,?_,?_,?_⟩,?_,?_,?_⟩
 ·exact NetOwn.base (by omega) n _ _ _ (NetOwn.move G6 n n (Nat.le_refl _) _ _ _ (fun b hb=>(n1 b hb).2) (NetOwn.move G5 n n (Nat.le_refl _) _ _ _ (fun b hb=>(n1 b hb).1) hA6.net))
 ·exact RowOwn.base (RowOwn.move (RowOwn.move hA6.row G5 (fun b hb=>(n2 b hb).1) fun f x c hf h=>h.move G5 hf) G6 (fun b hb=>(n2 b hb).2) fun f x c hf h=>h.move G6 hf) (by omega) fun f x c h=>ElemOwn.base (by omega) h
 ·exact RowOwn.base (RowOwn.move (RowOwn.move hO G5 (fun b hb=>(n3 b hb).1) fun f x c hf h=>ArmOwn.move G5 n n (Nat.le_refl _) f x c hf h) G6 (fun b hb=>(n3 b hb).2) fun f x c hf h=>ArmOwn.move G6 n n (Nat.le_refl _) f x c hf h) (by omega) fun f x c h=>ArmOwn.base (by omega) n f x c h
 ·rw [←List.append_assoc]
  exact List.nodup_append.2 ⟨hA.nodup,hFn,fun a ha b hb e=>by have:=hlt a ha;have:=hO3 b hb;omega⟩
 ·exact (hR.move G5 (by simp;omega) (by simp;omega) (by simp;omega)).move G6 (by simp;omega) (by simp;omega) (by simp;omega)
 ·exact (hA6.grown.andThen G5 (fun j hj=>.inl (by simp at hj;omega))).andThen G6 (fun j hj=>.inl (by simp at hj;omega))
theorem arm_bad{W w6 w7:World}{rb g cap mb:Nat}{L:List ByteArray}{n k k':Nat}{x y:Int}{p:Option Addr}{pl pc:Nat}{r:Option Addr}{rl rc:Nat}{s:Option Addr}{sl sc:Nat}{u:Option Addr}{ul uc:Nat}
  (hR:RdI w6 rb g cap mb L k') (hG:W.grownBy w6 (some rb)) (G5:w6.grownBy w7 (some (W.heap.size+1))) (hrd:zbz L (n+1) k=none) (hrl:rb<W.heap.size) (hgl:g<W.heap.size) (hml:mb<W.heap.size) :
  zdq W rb g cap mb L (n+1) k (.returned (.tuple #[.agg #[.int .i64 x,.int .i64 y,.slice p pl pc,.slice r rl rc,.slice s sl sc,.slice u ul uc],.bool false])) (S6 w7 W.heap.size (.int .i64 x) (.int .i64 y) (.slice p pl pc) (.slice r rl rc) (.slice s sl sc) (.slice u ul uc)):=by
 have G6:=S6.grown w7 W.heap.size (.int .i64 x) (.int .i64 y) (.slice p pl pc) (.slice r rl rc) (.slice s sl sc) (.slice u ul uc)
 exact .inr ⟨k',x,y,p,pl,pc,r,rl,rc,s,sl,sc,u,ul,uc,hrd,rfl,(hR.move G5 (by simp;omega) (by simp;omega) (by simp;omega)).move G6 (by simp;omega) (by simp;omega) (by simp;omega),(hG.andThen G5 (fun j hj=>.inl (by simp at hj;omega))).andThen G6 (fun j hj=>.inl (by simp at hj;omega))⟩
def CoilR(W:World)(rb g cap mb:Nat)(L:List ByteArray)(n:Nat)(x y:Int)(p:Option Addr)(pl pc:Nat)(r:Option Addr)(rl rc:Nat)(net:NetT)(F1:List Nat)(kc gk:Nat)(v6 v7:Value)(wr:World):Prop :=
 ∃(bc:Nat)(op:Int)(qa:Option Addr)(ql qc:Nat)(v:Bool)(k':Nat)(ts:List ElemT)(F2 F3:List Nat)(e:ElemT)(s:Option Addr)(sl sc:Nat),v6=.pointer (some ⟨bc,0,none⟩)∧v7=.bool v∧ArmAt W rb g cap mb L n k' x y p pl pc r rl rc s sl sc wr net ts F1 F2∧(Bk wr bc #[.int .i64 op,.slice qa ql qc] 50∧W.heap.size+2≤bc∧bc∉F1++F2)∧kc≤k' ∧
  (v=true→CoilIs W wr bc op qa ql qc e F3 (F1++F2)∧L.length-k'<gk∧ts.length<k'∧zae L n kc=(ts++e::(zae L gk k').1,(zae L gk k').2))∧(v=false→zae L n kc=(ts,k'))
theorem coil_start{W w3 w4:World}{rb g cap mb:Nat}{L:List ByteArray}{m:Nat}{x y:Int}{p:Option Addr}{pl pc:Nat}{r:Option Addr}{rl rc:Nat}{net:NetT}{F1:List Nat}{kc:Nat}{v:Bool}{k':Nat}{e:ElemT}{F:List Nat}{op:Int}{qa:Option Addr}{ql qc:Nat}
  (hA:ArmAt W rb g cap mb L (m+1) kc x y p pl pc r rl rc none 0 0 w3 net [] F1 []) (hE:ElB w3 rb g cap mb L kc qCl w4 v k' e F op qa ql qc) (hm:L.length-kc<m+1) (hrl:rb<W.heap.size) (hgl:g<W.heap.size) (hml:mb<W.heap.size) :
  CoilR W rb g cap mb L (m+1) x y p pl pc r rl rc net F1 kc m (.pointer (some ⟨w4.heap.size,0,none⟩)) (.bool v) (w4.alloc (.cells #[.int .i64 op,.slice qa ql qc] 50)):=by
 obtain ⟨hR4,hG4,hkk,hy,hn⟩:=hE
 have hlt:=hA.lt
 have hl3:=hA.b3.lt
 have hs4:=hG4.size
 have hA4:=hA.go hG4 hR4 hkk hrl
 have GA:=World.grownBy_alloc w4 (.cells #[.int .i64 op,.slice qa ql qc] 50) none
 refine ⟨w4.heap.size,op,qa,ql,qc,v,k',[],[],F,e,none,0,0,rfl,rfl,hA4.other GA (fun j hj=>by simp at hj) hrl hgl hml,⟨Bk.fresh w4 _ _,by omega,fun hm=>by have:=hlt _ hm;omega⟩,hkk,fun hv=>?_,fun hv=>?_⟩
 ·obtain ⟨h1,rfl,h2,h3,h4⟩:=hy hv
  have hl:=h3.lt
  refine ⟨⟨Bk.fresh w4 _ _,(ElemOwn.base (by omega) h3).move GA (fun b hb=>by simp),h4,fun b hb hm=>by have:=hl b hb;have:=hlt b hm;omega⟩,by omega,by simp,?_⟩
  rw [zae,h1]
  rfl
 ·obtain ⟨h1,rfl⟩:=hn hv
  rw [zae,h1]
theorem coil_step{W w5 w7:World}{rb g cap mb:Nat}{L:List ByteArray}{n m:Nat}{x y:Int}{p:Option Addr}{pl pc:Nat}{r:Option Addr}{rl rc:Nat}{s:Option Addr}{sl sc:Nat}{net:NetT}{F1 F2:List Nat}{ts:List ElemT}{kc k':Nat}{e3:ElemT}{v:Bool}{k'':Nat}{e:ElemT}{F:List Nat}{op:Int}{qa:Option Addr}{ql qc:Nat}{a0 a1:Value}
  (hA:ArmAt W rb g cap mb L n k' x y p pl pc r rl rc s sl sc w5 net (ts++[e3]) F1 F2) (hE:ElB (w5.alloc (.cells #[a0,a1] 50)) rb g cap mb L k' qCl w7 v k'' e F op qa ql qc) (hm:L.length-k'<m+1) (hkc:kc≤k') (hts:ts.length<k') (hans:zae L n kc=(ts++e3::(zae L (m+1) k').1,(zae L (m+1) k').2))
  (hrl:rb<W.heap.size) (hgl:g<W.heap.size) (hml:mb<W.heap.size) :
  CoilR W rb g cap mb L n x y p pl pc r rl rc net F1 kc m (.pointer (some ⟨w5.heap.size,0,none⟩)) (.bool v) ((w7.setCell ⟨w5.heap.size,0,none⟩ (.int .i64 op)).setCell ⟨w5.heap.size,1,none⟩ (.slice qa ql qc)):=by
 obtain ⟨hR7,hG7,hkk,hy,hn⟩:=hE
 have hlt:=hA.lt
 have hl3:=hA.b3.lt
 have hs7:=hG7.size
 have hs6:(w5.alloc (.cells #[a0,a1] 50)).heap.size=w5.heap.size+1:=by simp
 have hA6:=hA.other (World.grownBy_alloc w5 (.cells #[a0,a1] 50) none) (fun j hj=>by simp at hj) hrl hgl hml
 have hA7:=hA6.go hG7 hR7 hkk hrl
 have GS:w7.grownBy ((w7.setCell ⟨w5.heap.size,0,none⟩ (.int .i64 op)).setCell ⟨w5.heap.size,1,none⟩ (.slice qa ql qc)) (some w5.heap.size):=(zab _ _ _ _).trans (zab _ _ _ _)
 have hfr:w5.heap.size∉F1++F2:=fun hm=>by have:=hlt _ hm;omega
 have hA8:=hA7.other GS (fun j hj=>by simp at hj;subst hj;exact ⟨by omega,hfr⟩) hrl hgl hml
 have hBk:Bk ((w7.setCell ⟨w5.heap.size,0,none⟩ (.int .i64 op)).setCell ⟨w5.heap.size,1,none⟩ (.slice qa ql qc)) w5.heap.size #[.int .i64 op,.slice qa ql qc] 50 :=
  (((Bk.fresh w5 #[a0,a1] 50).move hG7 (by simp;omega)).set 0 (.int .i64 op)).set 1 (.slice qa ql qc)
 refine ⟨w5.heap.size,op,qa,ql,qc,v,k'',ts++[e3],F2,F,e,s,sl,sc,rfl,rfl,hA8,⟨hBk,by omega,hfr⟩,by omega,fun hv=>?_,fun hv=>?_⟩
 ·obtain ⟨h1,rfl,h2,h3,h4⟩:=hy hv
  have hl:=h3.lt
  rw [hs6] at hl
  refine ⟨⟨hBk,(ElemOwn.base (by omega) h3).move GS (fun b hb=>by have:=hl b hb;simp;omega),h4,fun b hb hm=>by have:=hl b hb;have:=hlt b hm;omega⟩,by omega,by simp;omega,?_⟩
  rw [hans,zae,h1]
  simp
 ·obtain ⟨h1,rfl⟩:=hn hv
  rw [hans,zae,h1]
theorem zdi{L:List ByteArray}{k:Nat}(h:kAt L k≠0):k<L.length:=by
 rcases Nat.lt_or_ge k L.length with h0|h0
 ·exact h0
 ·exact absurd (by unfold kAt;rw [if_neg (by omega)]) h
set_option maxRecDepth 10000 in
theorem rarm_i(W0 W:World)(rb g cap mb:Nat)(L:List ByteArray)(n k:Nat)(hb:Base W0 rb g L)(h:RdI W rb g cap mb L k)(hB:Below W0.heap.size W0 W)(hn:2*(L.length-k)<n)
  (HK:Hid (∀W' k,RdI W' rb g cap mb L k→Below W0.heap.size W0 W'→2*(L.length-k)+2<n→Calls Tryz.prog 157 #[.pointer (some ⟨rb,0,none⟩)] W' fun e w'=>zfr W' rb g cap mb L n k e w')) :
  Calls Tryz.prog 119 #[.pointer (some ⟨rb,0,none⟩)] W fun e w'=>zdq W rb g cap mb L (n+1) k e w':=by
 have hinfo:(Tryz.prog.info? 50).map (fun i=>(i.zero,i.size,i.bytes))=some (some (.agg #[.int .i64 0,.slice none 0 0]),2,32):=by kernel_rfl
 obtain ⟨i0,hi,hzz⟩:=Option.map_eq_some_iff.1 hinfo
 simp only [Prod.mk.injEq] at hzz
 obtain ⟨hz0,hz1,hz2⟩:=hzz
 have HI:Hid (Tryz.prog.info? 50=some i0∧i0.zero=some (.agg #[.int .i64 0,.slice none 0 0])∧i0.size=2∧i0.bytes=32):=⟨hi,hz0,hz1,hz2⟩
 clear hi hz0 hz1 hz2 hinfo
 have hrl:=h.lt
 have hml:=h.2.2.1.lt
 have hl4:=h.2.2.2.2.2.2.2.1
 have hrb0:=hb.rb0
 have hgl:g<W.heap.size:=by have:=hB.size;have:=hb.g0;omega
 have HBl:Hid (∀w,W.grownBy w (some rb)→Below W0.heap.size W0 w):=fun w hG=>hB.grown hG (by have:=hB.size;omega) (fun j hj=>by simp at hj;omega)
 have HNt:Hid (∀W' k,RdI W' rb g cap mb L k→Below W0.heap.size W0 W'→2*(L.length-k)<n→Calls Tryz.prog 153 #[.pointer (some ⟨rb,0,none⟩)] W' fun e w'=>zcq W' rb g cap mb L n k e w'):=fun W' k' h1 h2 h3=>rnet_i hb n W' k' h1 h2 h3
 have HEl:Hid (∀w k,RdI w rb g cap mb L k→Below W0.heap.size W0 w→Calls Tryz.prog 155 #[.pointer (some ⟨rb,0,none⟩),.func (.func 156) #[] #[]] w fun e w'=>ElI w rb g cap mb L k qCl e w') :=
  fun w k hR hBw=>elem_i w rb g cap mb k L hR 156 (enters_of Tryz.func156 (by kernel_rfl) rfl) qCl (hb.tabs.later hBw) (hb.ml.later hBw) (hb.eh.later hBw) hb.short (fit_cl W0 w hb.tabs.k hBw)
 have HR:Hid (RdI ((W.alloc (.cells armZ 56)).alloc (.cells armZ 56)) rb g cap mb L k):=(h.move (World.grownBy_alloc W _ none) (by simp) (by simp) (by simp)).move (World.grownBy_alloc _ _ none) (by simp) (by simp) (by simp)
 have HG0:Hid (W.grownBy ((W.alloc (.cells armZ 56)).alloc (.cells armZ 56)) (some rb)):=(World.grownBy_alloc W _ _).trans (World.grownBy_alloc _ _ _)
 have HK1:Hid (Bk ((W.alloc (.cells armZ 56)).alloc (.cells armZ 56)) W.heap.size armZ 56):=(Bk.fresh W armZ 56).move (World.grownBy_alloc _ _ none) (by simp)
 have HK3:Hid (Bk ((W.alloc (.cells armZ 56)).alloc (.cells armZ 56)) (W.heap.size+1) armZ 56):=by
  show Bk _ (W.heap.size+1) armZ 56
  have:=Bk.fresh (W.alloc (.cells armZ 56)) armZ 56
  simpa using this
 clear hb h hB
 go_enter Tryz.func119,Tryz.ntmps119
 go_wp2_with fail
 refine (kind_i _ rb g cap mb k L HR.out).mono ?_
 rintro e w1 ⟨rfl,nd,hw⟩
 have H1:Hid (Bk w1 W.heap.size armZ 56∧Bk w1 (W.heap.size+1) armZ 56∧RdI w1 rb g cap mb L k∧W.grownBy w1 (some rb)):=by
  subst hw
  exact ⟨HK1.out.move (zac _ nd none) (by simp),HK3.out.move (zac _ nd none) (by simp),HR.out.move (zac _ nd none) (by simp) (by simp) (by simp),HG0.out.trans (zac _ nd _)⟩
 clear hw HR HG0 HK1 HK3
 go_upto_if 11 with fail
 go_cut [5] (fun s wc=>Hid (HeadR W rb g cap mb L n k s wc))
 case first =>
  by_cases h5:kAt L k=5
  ·have b5:(kAt L k==5)=true:=by rw [h5];rfl
   have c5:(kAt L k != 5)=false:=by rw [h5];rfl
   have HF:Hid (HeadR W rb g cap mb L n k (.bool true) w1):=head_a (by omega) H1.out.1 H1.out.2.1 H1.out.2.2.1 H1.out.2.2.2 h5
   clear h5 H1
   go_wp2
   go_meet
   case rel=>exact HF
  ·have b5:(kAt L k==5)=false:=by rw [beq_eq_false_iff_ne];exact h5
   have c5:(kAt L k != 5)=true:=by simp [h5]
   have H5:Hid (kAt L k≠5):=h5
   clear h5
   go_wp2_with fail
   refine (HNt.out w1 k H1.out.2.2.1 (HBl.out _ H1.out.2.2.2) hn).mono ?_
   intro e w2 hNR
   rcases hNR with ⟨t,k',F,x,y,p,pl,pc,r,rl,rc,hrd,hkk,rfl,hO,hFn,hR2,hG2⟩|⟨k',x,y,p,pl,pc,r,rl,rc,hrd,rfl,hR2,hG2⟩
   ·have B3:=H1.out.2.1.move hG2 (by simp;omega)
    obtain ⟨z0,z1,z2,z3,z4,z5⟩:=B3.six
    obtain ⟨f0,f1,f2,f3,f4,f5⟩:=B3.frees
    have HF:Hid (HeadR W rb g cap mb L n k (.bool true) ((((w2.setCell ⟨W.heap.size+1,0,none⟩ (.int .i64 x)).setCell ⟨W.heap.size+1,1,none⟩ (.int .i64 y)).setCell ⟨W.heap.size+1,2,none⟩ (.slice p pl pc)).setCell ⟨W.heap.size+1,3,none⟩ (.slice r rl rc))) :=
     head_d H1.out.1 H1.out.2.1 H1.out.2.2.2 H5.out hrd hkk hO hFn hR2 hG2 hrl hgl hml
    clear B3 hrd hkk hO hFn hR2 hG2 H1 H5
    go_wp2
    go_meet
    case rel=>exact HF
   ·have B3:=H1.out.2.1.move hG2 (by simp;omega)
    obtain ⟨z0,z1,z2,z3,z4,z5⟩:=B3.six
    obtain ⟨f0,f1,f2,f3,f4,f5⟩:=B3.frees
    have HF:Hid (HeadR W rb g cap mb L n k (.bool false) ((((w2.setCell ⟨W.heap.size+1,0,none⟩ (.int .i64 x)).setCell ⟨W.heap.size+1,1,none⟩ (.int .i64 y)).setCell ⟨W.heap.size+1,2,none⟩ (.slice p pl pc)).setCell ⟨W.heap.size+1,3,none⟩ (.slice r rl rc))) :=
     head_b H1.out.1 H1.out.2.2.2 H5.out hrd hR2 hG2 hrl hgl hml _ _ _ _
    clear B3 hrd hR2 hG2 H1 H5
    go_wp2
    go_meet
    case rel=>exact HF
 case rest =>
  clear H1 HNt
  rcases hcut.out with ⟨net,k1,F1,x,y,p,pl,pc,r,rl,rc,rfl,hA,hk1,h5a,h5b⟩|⟨k1,rfl,hb1,hR,hG,hrd⟩
  ·have HA:Hid (ArmAt W rb g cap mb L n k1 x y p pl pc r rl rc none 0 0 wc net [] F1 []):=hA
   have H5a:Hid (kAt L k1=5→zba L n k=some (net,k1+1)):=h5a
   have H5b:Hid (kAt L k1≠5→zba L n k=none):=h5b
   clear hA h5a h5b hcut
   go_wp2_with fail
   refine (zjc wc rb g cap mb k1 L 5 HA.out.rd (by decide)).mono ?_
   intro e w3 hT
   unfold TkI at hT
   obtain ⟨rfl,hR3,hG3⟩:=hT
   by_cases h5:kAt L k1=5
   ·have b5:(kAt L k1==5)=true:=by rw [h5];rfl
    rw [if_pos h5] at hR3
    have hk1l:k1<L.length:=zdi (by rw [h5];decide)
    have HA3:Hid (ArmAt W rb g cap mb L n (k1+1) x y p pl pc r rl rc none 0 0 w3 net [] F1 []):=HA.out.go hG3 hR3 (by omega) hrl
    have HH:Hid (zba L n k=some (net,k1+1)):=H5a.out h5
    clear hR3 hG3 h5 HA H5a H5b
    go_wp2_with fail
    refine (HEl.out w3 (k1+1) HA3.out.rd (HBl.out _ HA3.out.grown)).mono ?_
    intro e w4 hE
    obtain ⟨v,k',t,F,op,qa,ql,qc,rfl,hEB⟩:=elb_of hE
    obtain ⟨m,rfl⟩:∃m,n=m+1:=⟨n-1,by omega⟩
    have HC0:Hid (CoilR W rb g cap mb L (m+1) x y p pl pc r rl rc net F1 (k1+1) m (.pointer (some ⟨w4.heap.size,0,none⟩)) (.bool v) (w4.alloc (.cells #[.int .i64 op,.slice qa ql qc] 50))):=coil_start HA3.out hEB (by omega) hrl hgl hml
    clear hE hEB HA3
    go_wp2_with fail
    go_loopg [6,7] m (fun gk v6 v7 wr=>Hid (CoilR W rb g cap mb L (m+1) x y p pl pc r rl rc net F1 (k1+1) gk v6 v7 wr))
    case atStart=>exact HC0
    case round =>
     obtain ⟨bc,op1,qa1,ql1,qc1,v1,k2,ts,F2,F3,e3,s,sl,sc,rfl,rfl,hA,hBc,hkc,hy,hno⟩:=hrel.out
     have HA:Hid (ArmAt W rb g cap mb L (m+1) k2 x y p pl pc r rl rc s sl sc wr net ts F1 F2):=hA
     have HBc:Hid (Bk wr bc #[.int .i64 op1,.slice qa1 ql1 qc1] 50∧W.heap.size+2≤bc∧bc∉F1++F2):=hBc
     have hkL:k2≤L.length:=hA.rd.2.2.2.2.2.1
     have hl3:=hA.b3.lt
     cases v1 with
     | true =>
      obtain ⟨hC,hfu,htl,hans⟩:=hy rfl
      have HCo:Hid (CoilIs W wr bc op1 qa1 ql1 qc1 e3 F3 (F1++F2)):=hC
      obtain ⟨m2,rfl⟩:∃m2,gk=m2+1:=⟨gk-1,by omega⟩
      have HAn:Hid (zae L (m+1) (k1+1)=(ts++e3::(zae L (m2+1) k2).1,(zae L (m2+1) k2).2)):=hans
      obtain ⟨cs,F',hE,hOw,hF⟩:=hA.row
      have HE:Hid (Each (ElemOwn wr (W.heap.size+2)) 2 F' ts cs∧F2=(Value.slice s sl sc).ownBlock.toList++F'):=⟨hE,hF⟩
      have hob:∀j,(Value.slice s sl sc).ownBlock=some j→j∈F2:=fun j hj=>by rw [hF,hj];simp
      have hob2:∀j,(Value.slice s sl sc).ownBlock=some j→W.heap.size+2≤j:=fun j hj=>(hA.lt j (List.mem_append_right _ (hob j hj))).1
      have HOb:Hid (∀j,(Value.slice s sl sc).ownBlock=some j→j∈F2∧W.heap.size+2≤j):=fun j hj=>⟨hob j hj,hob2 j hj⟩
      obtain ⟨z0,z1,z2,z3,z4,z5⟩:=hA.b3.six
      have d0:wr.cell? ⟨bc,0,none⟩=some (.int .i64 op1):=hBc.1.cell 0
      have d1:wr.cell? ⟨bc,1,none⟩=some (.slice qa1 ql1 qc1):=hBc.1.cell 1
      have own3:(wr.alloc (.cells #[.int .i64 op1,.slice qa1 ql1 qc1] 50)).ownsRow (W.heap.size+2) 50 2 (.slice s sl sc) ts.length cs:=World.ownsRow.alloc hOw _
      have news3:∀(q:Nat)(v:Value),([.int .i64 op1,.slice qa1 ql1 qc1]:List Value)[q]?=some v→(wr.alloc (.cells #[.int .i64 op1,.slice qa1 ql1 qc1] 50)).cell? ((⟨wr.heap.size,0,none⟩:Addr).add q)=some v:=by
       intro q v hq
       match q with
       | 0=>simp at hq;subst hq;simp [Addr.add]
       | 1=>simp at hq;subst hq;simp [Addr.add]
       | (j+2)=>simp at hq
      have hTs:ts.length≤4194304:=by omega
      clear hy hno hrel hA hBc hC hans hE hOw hF hob hob2 HC0
      go_wp2_with (at_builtin;refine wpList_append_lies _ rfl _ _ 54 rfl (W.heap.size+2) 50 i0 (.agg #[.int .i64 0,.slice none 0 0]) 2 32 Tryz.underlying54 HI.out.1 HI.out.2.1 HI.out.2.2.1 HI.out.2.2.2 rfl (by decide) _ ts.length cs rfl own3 ⟨wr.heap.size,0,none⟩ 1 1 [.int .i64 op1,.slice qa1 ql1 qc1] rfl rfl news3 ?c2 (by omega) ?c3 ?c4 ?c5 _ rfl ?_)
      case c2=>intro v hu;simp at hu;rcases hu with rfl|rfl<;>rfl
      case c3=>unfold maxLen;omega
      case c4=>omega
      case c5=>simp;omega
      intro g1 cap1 wx own4 g4 hat hlt4
      have G4:wr.grownBy wx (Value.slice s sl sc).ownBlock:=(World.grownBy_alloc wr _ _).trans g4
      have B3:=HA.out.b3.move G4 (fun e=>by have:=(HOb.out _ e.symm).2;omega)
      have HP:Hid (ArmAt W rb g cap mb L (m+1) k2 x y p pl pc r rl rc (some ⟨g1,0,none⟩) (ts.length+1) cap1 (wx.setCell ⟨W.heap.size+1,4,none⟩ (.slice (some ⟨g1,0,none⟩) (ts.length+1) cap1)) net (ts++[e3]) F1 (g1::(F'++F3))):=ArmAt.push HA.out HCo.out HE.out.1 HE.out.2 own4 g4 hat htl hrl hgl hml
      have hbne:bc≠W.heap.size+1:=by have:=HBc.out.2.1;omega
      have BC:=(HBc.out.1.move G4 (fun e=>HBc.out.2.2 (List.mem_append_right _ (HOb.out _ e.symm).1))).move (zab wx (W.heap.size+1) 4 (.slice (some ⟨g1,0,none⟩) (ts.length+1) cap1)) (by simp;omega)
      have x4:=B3.cell 4
      have g4z:=B3.free 4
      have dd0:=BC.cell 0
      have dd1:=BC.cell 1
      simp at x4 dd0 dd1
      have hsz:(wx.setCell ⟨W.heap.size+1,4,none⟩ (.slice (some ⟨g1,0,none⟩) (ts.length+1) cap1)).heap.size=wx.heap.size:=by simp [World.setCell]
      have HP6:Hid (ArmAt W rb g cap mb L (m+1) k2 x y p pl pc r rl rc (some ⟨g1,0,none⟩) (ts.length+1) cap1 ((wx.setCell ⟨W.heap.size+1,4,none⟩ (.slice (some ⟨g1,0,none⟩) (ts.length+1) cap1)).alloc (.cells #[.int .i64 op1,.slice qa1 ql1 qc1] 50)) net (ts++[e3]) F1 (g1::(F'++F3))):=HP.out.other (World.grownBy_alloc _ _ none) (fun j hj=>by simp at hj) hrl hgl hml
      clear own3 news3 own4 g4 hat hlt4 G4 B3 BC HA HBc HCo HE HOb z0 z1 z2 z3 z4 z5 d0 d1
      go_wp2_with fail
      refine (HEl.out _ k2 HP6.out.rd (HBl.out _ HP6.out.grown)).mono ?_
      intro e w7 hE7
      obtain ⟨v2,k3,t2,Fn,op2,qa2,ql2,qc2,rfl,hEB⟩:=elb_of hE7
      have BN:=(Bk.fresh (wx.setCell ⟨W.heap.size+1,4,none⟩ (.slice (some ⟨g1,0,none⟩) (ts.length+1) cap1)) #[.int .i64 op1,.slice qa1 ql1 qc1] 50).move hEB.2.1 (by rw [hsz];have:=HP.out.b3.lt;rw [hsz] at this;simp;omega)
      rw [hsz] at BN
      have n0:=BN.cell 0
      have n1:=BN.cell 1
      have nf0:=BN.free 0
      have nf1:=BN.free 1
      simp at n0 n1
      have hCR:=coil_step HP.out hEB (by omega) hkc htl HAn.out hrl hgl hml
      rw [hsz] at hCR
      have HCR:Hid (CoilR W rb g cap mb L (m+1) x y p pl pc r rl rc net F1 (k1+1) m2 (.pointer (some ⟨wx.heap.size,0,none⟩)) (.bool v2) ((w7.setCell ⟨wx.heap.size,0,none⟩ (.int .i64 op2)).setCell ⟨wx.heap.size,1,none⟩ (.slice qa2 ql2 qc2))):=hCR
      clear hCR hE7 hEB BN HP HP6 HAn
      go_wp2
      go_roundg m2
      case measure=>omega
      case rel=>exact HCR
     | false =>
      have HC:Hid (zae L (m+1) (k1+1)=(ts,k2)):=hno rfl
      clear hy hno hrel hA hBc HBc HC0
      go_wp2_with fail
      refine (zjc wr rb g cap mb k2 L 6 HA.out.rd (by decide)).mono ?_
      intro e w5 hT
      unfold TkI at hT
      obtain ⟨rfl,hR5,hG5⟩:=hT
      by_cases h6:kAt L k2=6
      ·have b6:(kAt L k2==6)=true:=by rw [h6];rfl
       rw [if_pos h6] at hR5
       have hk2l:k2<L.length:=zdi (by rw [h6];decide)
       have HA5:Hid (ArmAt W rb g cap mb L (m+1) (k2+1) x y p pl pc r rl rc s sl sc w5 net ts F1 F2):=HA.out.go hG5 hR5 (by omega) hrl
       clear hR5 hG5 HA
       go_wp2_with fail
       refine (HK.out w5 (k2+1) HA5.out.rd (HBl.out _ HA5.out.grown) (by omega)).mono ?_
       intro e w6 hKR
       unfold zfr at hKR
       rcases hKR with ⟨us,k3,F3,vv,hrd,hkk,rfl,hO,hFn,hR6,hG6⟩|⟨k3,hrd,rfl,hR6,hG6⟩
       ·obtain ⟨ua,ul,uc,rfl⟩:=zff hO
        have P3:=HA5.out.b3.move hG6 (by simp;omega)
        have P1:=HA5.out.b1.move hG6 (by simp;omega)
        have fz:=P3.free 5
        have cz:=P3.cell 5
        have B3:=P3.set 5 (.slice ua ul uc)
        have B1:=P1.move (zab w6 (W.heap.size+1) 5 (.slice ua ul uc)) (by simp)
        obtain ⟨y0,y1,y2,y3,y4,y5⟩:=B3.six
        obtain ⟨z0,z1,z2,z3,z4,z5⟩:=B1.six
        obtain ⟨f0,f1,f2,f3,f4,f5⟩:=B1.frees
        obtain ⟨q0,q1,q2,q3,q4,q5⟩:=(B1.put6 (.int .i64 x) (.int .i64 y) (.slice p pl pc) (.slice r rl rc) (.slice s sl sc) (.slice ua ul uc)).six
        have HF:Hid (zdq W rb g cap mb L (m+1+1) k (.returned (.tuple #[.agg #[.int .i64 x,.int .i64 y,.slice p pl pc,.slice r rl rc,.slice s sl sc,.slice ua ul uc],.bool true])) (S6 (w6.setCell ⟨W.heap.size+1,5,none⟩ (.slice ua ul uc)) W.heap.size (.int .i64 x) (.int .i64 y) (.slice p pl pc) (.slice r rl rc) (.slice s sl sc) (.slice ua ul uc))) :=
         arm_end HA5.out hO hFn hR6 hG6 (zab _ _ _ _) (by rw [zbz,HH.out];simp [HC.out,h6,hrd]) (by omega) (by omega) hrl hgl hml
        unfold S6 at HF q0 q1 q2 q3 q4 q5
        clear B1 B3 P3 P1 hO hFn hR6 hG6 hrd HA5
        go_wp2
        exact bodyPost_ret (v:=.tuple #[.agg #[.int .i64 x,.int .i64 y,.slice p pl pc,.slice r rl rc,.slice s sl sc,.slice ua ul uc],.bool true]) (by simp [results,Tryz.results119,go_sem,q0,q1,q2,q3,q4,q5]) rfl HF.out
       ·skip
        have P3:=HA5.out.b3.move hG6 (by simp;omega)
        have P1:=HA5.out.b1.move hG6 (by simp;omega)
        have fz:=P3.free 5
        have cz:=P3.cell 5
        have B3:=P3.set 5 (.slice none 0 0)
        have B1:=P1.move (zab w6 (W.heap.size+1) 5 (.slice none 0 0)) (by simp)
        obtain ⟨y0,y1,y2,y3,y4,y5⟩:=B3.six
        obtain ⟨z0,z1,z2,z3,z4,z5⟩:=B1.six
        obtain ⟨f0,f1,f2,f3,f4,f5⟩:=B1.frees
        obtain ⟨q0,q1,q2,q3,q4,q5⟩:=(B1.put6 (.int .i64 x) (.int .i64 y) (.slice p pl pc) (.slice r rl rc) (.slice s sl sc) (.slice none 0 0)).six
        have HF:Hid (zdq W rb g cap mb L (m+1+1) k (.returned (.tuple #[.agg #[.int .i64 x,.int .i64 y,.slice p pl pc,.slice r rl rc,.slice s sl sc,.slice none 0 0],.bool false])) (S6 (w6.setCell ⟨W.heap.size+1,5,none⟩ (.slice none 0 0)) W.heap.size (.int .i64 x) (.int .i64 y) (.slice p pl pc) (.slice r rl rc) (.slice s sl sc) (.slice none 0 0))) :=
         arm_bad hR6 (HA5.out.grown.trans hG6) (zab _ _ _ _) (by rw [zbz,HH.out];simp [HC.out,h6,hrd]) hrl hgl hml
        unfold S6 at HF q0 q1 q2 q3 q4 q5
        clear B1 B3 P3 P1 hR6 hG6 hrd HA5
        go_wp2
        exact bodyPost_ret (v:=.tuple #[.agg #[.int .i64 x,.int .i64 y,.slice p pl pc,.slice r rl rc,.slice s sl sc,.slice none 0 0],.bool false]) (by simp [results,Tryz.results119,go_sem,q0,q1,q2,q3,q4,q5]) rfl HF.out
      ·have b6:(kAt L k2==6)=false:=by rw [beq_eq_false_iff_ne];exact h6
       rw [if_neg h6] at hR5
       have HA5:Hid (ArmAt W rb g cap mb L (m+1) k2 x y p pl pc r rl rc s sl sc w5 net ts F1 F2):=HA.out.go hG5 hR5 (Nat.le_refl _) hrl
       clear hR5 hG5 HA
       have B3:=HA5.out.b3
       have B1:=HA5.out.b1
       obtain ⟨y0,y1,y2,y3,y4,y5⟩:=B3.six
       obtain ⟨z0,z1,z2,z3,z4,z5⟩:=B1.six
       obtain ⟨f0,f1,f2,f3,f4,f5⟩:=B1.frees
       obtain ⟨q0,q1,q2,q3,q4,q5⟩:=(B1.put6 (.int .i64 x) (.int .i64 y) (.slice p pl pc) (.slice r rl rc) (.slice s sl sc) (.slice none 0 0)).six
       have HF:Hid (zdq W rb g cap mb L (m+1+1) k (.returned (.tuple #[.agg #[.int .i64 x,.int .i64 y,.slice p pl pc,.slice r rl rc,.slice s sl sc,.slice none 0 0],.bool true])) (S6 w5 W.heap.size (.int .i64 x) (.int .i64 y) (.slice p pl pc) (.slice r rl rc) (.slice s sl sc) (.slice none 0 0))) :=
        arm_end HA5.out (RowOwn.nil _ _ _ _ _) List.nodup_nil HA5.out.rd (World.grownBy.refl w5 _) (World.grownBy.refl w5 _) (by rw [zbz,HH.out];simp [HC.out,h6]) (by omega) (Nat.le_refl _) hrl hgl hml
       unfold S6 at HF q0 q1 q2 q3 q4 q5
       clear B1 B3 HA5
       go_wp2
       exact bodyPost_ret (v:=.tuple #[.agg #[.int .i64 x,.int .i64 y,.slice p pl pc,.slice r rl rc,.slice s sl sc,.slice none 0 0],.bool true]) (by simp [results,Tryz.results119,go_sem,q0,q1,q2,q3,q4,q5]) rfl HF.out
   ·have b5:(kAt L k1==5)=false:=by rw [beq_eq_false_iff_ne];exact h5
    rw [if_neg h5] at hR3
    have B1:=HA.out.b1.move hG3 (by simp;omega)
    obtain ⟨z0,z1,z2,z3,z4,z5⟩:=B1.six
    obtain ⟨f0,f1,f2,f3,f4,f5⟩:=B1.frees
    obtain ⟨q0,q1,q2,q3,q4,q5⟩:=(B1.put6 (.int .i64 0) (.int .i64 0) (.slice none 0 0) (.slice none 0 0) (.slice none 0 0) (.slice none 0 0)).six
    have HF:Hid (zdq W rb g cap mb L (n+1) k (.returned (.tuple #[.agg #[.int .i64 0,.int .i64 0,.slice none 0 0,.slice none 0 0,.slice none 0 0,.slice none 0 0],.bool false])) (S6 w3 W.heap.size (.int .i64 0) (.int .i64 0) (.slice none 0 0) (.slice none 0 0) (.slice none 0 0) (.slice none 0 0))) :=
     arm_bad hR3 (HA.out.grown.trans hG3) (World.grownBy.refl w3 _) (by rw [zbz,H5b.out h5];rfl) hrl hgl hml
    unfold S6 at HF q0 q1 q2 q3 q4 q5
    clear hR3 hG3 h5 HA H5a H5b B1
    go_wp2
    exact bodyPost_ret (v:=.tuple #[.agg #[.int .i64 0,.int .i64 0,.slice none 0 0,.slice none 0 0,.slice none 0 0,.slice none 0 0],.bool false]) (by simp [results,Tryz.results119,go_sem,q0,q1,q2,q3,q4,q5]) rfl HF.out
  ·obtain ⟨z0,z1,z2,z3,z4,z5⟩:=hb1.six
   obtain ⟨f0,f1,f2,f3,f4,f5⟩:=hb1.frees
   obtain ⟨q0,q1,q2,q3,q4,q5⟩:=(hb1.put6 (.int .i64 0) (.int .i64 0) (.slice none 0 0) (.slice none 0 0) (.slice none 0 0) (.slice none 0 0)).six
   have HF:Hid (zdq W rb g cap mb L (n+1) k (.returned (.tuple #[.agg #[.int .i64 0,.int .i64 0,.slice none 0 0,.slice none 0 0,.slice none 0 0,.slice none 0 0],.bool false])) (S6 wc W.heap.size (.int .i64 0) (.int .i64 0) (.slice none 0 0) (.slice none 0 0) (.slice none 0 0) (.slice none 0 0))) :=
    arm_bad hR hG (World.grownBy.refl wc _) (by rw [zbz,hrd];rfl) hrl hgl hml
   unfold S6 at HF q0 q1 q2 q3 q4 q5
   clear hcut hb1 hR hG hrd
   go_wp2
   exact bodyPost_ret (v:=.tuple #[.agg #[.int .i64 0,.int .i64 0,.slice none 0 0,.slice none 0 0,.slice none 0 0,.slice none 0 0],.bool false]) (by simp [results,Tryz.results119,go_sem,q0,q1,q2,q3,q4,q5]) rfl HF.out
theorem rarm_all{W0:World}{rb g cap mb:Nat}{L:List ByteArray}(hb:Base W0 rb g L)(n:Nat):∀(W:World)(k:Nat),RdI W rb g cap mb L k→Below W0.heap.size W0 W→2*(L.length-k)+1<n →
  Calls Tryz.prog 119 #[.pointer (some ⟨rb,0,none⟩)] W fun e w'=>zdq W rb g cap mb L n k e w':=by
 induction n using Nat.strongRecOn with
 | _ n ih =>
  intro W k h hB hn
  match n,hn,ih with
  | 0,hn,_=>omega
  | n+1,hn,ih =>
   exact rarm_i W0 W rb g cap mb L n k hb h hB (by omega) fun W' k' h' hB' hn'=>rkids_i W0 W' rb g cap mb L n k' h' hB' hb.rb0 hb.g0 hn' fun W'' k'' m hm h'' hB'' hn''=>ih m (by omega) W'' k'' h'' hB'' hn''
theorem zaz(W:World)(row:Option Nat):W.grownBy W.drew row:=⟨rfl,rfl,rfl,Nat.le_refl _,fun _ _ _=>rfl⟩
noncomputable def zbv(L:List ByteArray):Option ArmT:=(zbz L (2*L.length+2) 0).bind fun r=>if r.2=L.length then some r.1 else none
def RungRes(W:World)(rb:Nat)(L:List ByteArray)(e:Ending)(w':World):Prop :=
 W.grownBy w' (some rb)∧∃(ok:Bool)(x y:Int)(p:Option Addr)(pl pc:Nat)(r:Option Addr)(rl rc:Nat)(s:Option Addr)(sl sc:Nat)(u:Option Addr)(ul uc:Nat),e=.returned (.tuple #[.agg #[.int .i64 x,.int .i64 y,.slice p pl pc,.slice r rl rc,.slice s sl sc,.slice u ul uc],.bool ok]) ∧
  (ok=true→∃t F,zbv L=some t∧ArmOwn w' W.heap.size (2*L.length+2) F t [.int .i64 x,.int .i64 y,.slice p pl pc,.slice r rl rc,.slice s sl sc,.slice u ul uc]∧F.Nodup)∧(ok=false→zbv L=none)
set_option maxRecDepth 10000 in
theorem rrung_i(W0 W:World)(rb g cap mb:Nat)(L:List ByteArray)(hb:Base W0 rb g L)(h:RdI W rb g cap mb L 0)(hB:Below W0.heap.size W0 W) :
  Calls Tryz.prog 75 #[.pointer (some ⟨rb,0,none⟩)] W fun e w'=>RungRes W rb L e w':=by
 have hrl:=h.lt
 have hml:=h.2.2.1.lt
 have hrb0:=hb.rb0
 have hgl:g<W.heap.size:=by have:=hB.size;have:=hb.g0;omega
 have HR:Hid (RdI (W.alloc (.cells armZ 56)) rb g cap mb L 0):=h.move (World.grownBy_alloc W _ none) (by simp) (by simp) (by simp)
 have HB1:Hid (Below W0.heap.size W0 (W.alloc (.cells armZ 56))):=hB.alloc hB.size _
 have HK1:Hid (Bk (W.alloc (.cells armZ 56)) W.heap.size armZ 56):=Bk.fresh W armZ 56
 have HAr:Hid (∀W' k,RdI W' rb g cap mb L k→Below W0.heap.size W0 W'→2*(L.length-k)+1<2*L.length+2→Calls Tryz.prog 119 #[.pointer (some ⟨rb,0,none⟩)] W' fun e w'=>zdq W' rb g cap mb L (2*L.length+2) k e w'):=fun W' k' h1 h2 h3=>rarm_all hb _ W' k' h1 h2 h3
 have hs1:(W.alloc (.cells armZ 56)).heap.size=W.heap.size+1:=by simp
 clear hb h hB
 go_enter Tryz.func75,Tryz.ntmps75
 go_wp2_with fail
 refine (HAr.out _ 0 HR.out HB1.out (by omega)).mono ?_
 intro e w2 hA
 rcases hA with ⟨t,k',F,x,y,p,pl,pc,r,rl,rc,s,sl,sc,u,ul,uc,hrd,hkk,rfl,hO,hFn,hR2,hG2⟩|⟨k',x,y,p,pl,pc,r,rl,rc,s,sl,sc,u,ul,uc,hrd,rfl,hR2,hG2⟩
 ·have hs2:=hG2.size
  have hR3:=hR2.move (World.grownBy_alloc w2 (.cells #[.int .i64 x,.int .i64 y,.slice p pl pc,.slice r rl rc,.slice s sl sc,.slice u ul uc] 56) none) (by simp) (by simp) (by simp)
  obtain ⟨c0,o,ho,c1⟩:=hR3.cells
  have P1:=(HK1.out.move hG2 (by simp;omega)).move (World.grownBy_alloc w2 (.cells #[.int .i64 x,.int .i64 y,.slice p pl pc,.slice r rl rc,.slice s sl sc,.slice u ul uc] 56) none) (by simp)
  obtain ⟨y0,y1,y2,y3,y4,y5⟩:=(Bk.fresh w2 #[.int .i64 x,.int .i64 y,.slice p pl pc,.slice r rl rc,.slice s sl sc,.slice u ul uc] 56).six
  obtain ⟨z0,z1,z2,z3,z4,z5⟩:=P1.six
  obtain ⟨f0,f1,f2,f3,f4,f5⟩:=P1.frees
  obtain ⟨q0,q1,q2,q3,q4,q5⟩:=(P1.put6 (.int .i64 x) (.int .i64 y) (.slice p pl pc) (.slice r rl rc) (.slice s sl sc) (.slice u ul uc)).six
  have hk':k'≤L.length:=hR2.2.2.2.2.2.1
  have HF:Hid (∀w',(w2.alloc (.cells #[.int .i64 x,.int .i64 y,.slice p pl pc,.slice r rl rc,.slice s sl sc,.slice u ul uc] 56)).grownBy w' (some W.heap.size)→RungRes W rb L (.returned (.tuple #[.agg #[.int .i64 x,.int .i64 y,.slice p pl pc,.slice r rl rc,.slice s sl sc,.slice u ul uc],.bool (((L.length-k':Nat):Int)==0)])) w'):=by
   intro w' hG'
   have G:=(World.grownBy_alloc w2 (.cells #[.int .i64 x,.int .i64 y,.slice p pl pc,.slice r rl rc,.slice s sl sc,.slice u ul uc] 56) (some W.heap.size)).trans hG'
   have hlt:=ArmOwn.lt _ _ _ _ hO
   refine ⟨(((World.grownBy_alloc W (.cells armZ 56) _).trans hG2)).andThen G (fun j hj=>.inl (by simp at hj;omega)),_,x,y,p,pl,pc,r,rl,rc,s,sl,sc,u,ul,uc,rfl,fun hv=>⟨t,F,?_,?_,hFn⟩,fun hv=>?_⟩
   ·unfold zbv
    have:k'=L.length:=by simp at hv;omega
    rw [hrd]
    simp [this]
   ·exact ArmOwn.move G _ _ (Nat.le_refl _) _ _ _ (fun b hb=>by have:=hlt b hb;rw [hs1] at this;simp;omega) (ArmOwn.base (by rw [hs1];omega) _ _ _ _ hO)
   ·unfold zbv
    have:¬ k'=L.length:=by simp at hv;omega
    rw [hrd]
    simp [this]
  have HS:Hid ((w2.alloc (.cells #[.int .i64 x,.int .i64 y,.slice p pl pc,.slice r rl rc,.slice s sl sc,.slice u ul uc] 56)).grownBy (S6 (w2.alloc (.cells #[.int .i64 x,.int .i64 y,.slice p pl pc,.slice r rl rc,.slice s sl sc,.slice u ul uc] 56)) W.heap.size (.int .i64 x) (.int .i64 y) (.slice p pl pc) (.slice r rl rc) (.slice s sl sc) (.slice u ul uc)) (some W.heap.size)):=S6.grown _ _ _ _ _ _ _ _
  have hd:=HF.out _ (HS.out.trans (zaz _ _))
  have HD:Hid _:=hd
  clear hd
  clear HS HF
  unfold S6 at HD q0 q1 q2 q3 q4 q5
  clear hO hFn hR2 hG2 hrd hkk hR3 P1 ho c0
  go_upto_region 2 with fail
  go_region
  all_goals go_wp2
  all_goals exact bodyPost_ret (v:=.tuple #[.agg #[.int .i64 x,.int .i64 y,.slice p pl pc,.slice r rl rc,.slice s sl sc,.slice u ul uc],.bool (((L.length-k':Nat):Int)==0)]) (by simp [results,Tryz.results75,go_sem,q0,q1,q2,q3,q4,q5]) rfl HD.out
 ·have hs2:=hG2.size
  have hR3:=hR2.move (World.grownBy_alloc w2 (.cells #[.int .i64 x,.int .i64 y,.slice p pl pc,.slice r rl rc,.slice s sl sc,.slice u ul uc] 56) none) (by simp) (by simp) (by simp)
  obtain ⟨c0,o,ho,c1⟩:=hR3.cells
  have P1:=(HK1.out.move hG2 (by simp;omega)).move (World.grownBy_alloc w2 (.cells #[.int .i64 x,.int .i64 y,.slice p pl pc,.slice r rl rc,.slice s sl sc,.slice u ul uc] 56) none) (by simp)
  obtain ⟨y0,y1,y2,y3,y4,y5⟩:=(Bk.fresh w2 #[.int .i64 x,.int .i64 y,.slice p pl pc,.slice r rl rc,.slice s sl sc,.slice u ul uc] 56).six
  obtain ⟨z0,z1,z2,z3,z4,z5⟩:=P1.six
  obtain ⟨f0,f1,f2,f3,f4,f5⟩:=P1.frees
  obtain ⟨q0,q1,q2,q3,q4,q5⟩:=(P1.put6 (.int .i64 x) (.int .i64 y) (.slice p pl pc) (.slice r rl rc) (.slice s sl sc) (.slice u ul uc)).six
  have HF:Hid (∀w',(w2.alloc (.cells #[.int .i64 x,.int .i64 y,.slice p pl pc,.slice r rl rc,.slice s sl sc,.slice u ul uc] 56)).grownBy w' (some W.heap.size)→RungRes W rb L (.returned (.tuple #[.agg #[.int .i64 x,.int .i64 y,.slice p pl pc,.slice r rl rc,.slice s sl sc,.slice u ul uc],.bool false])) w'):=by
   intro w' hG'
   have G:=(World.grownBy_alloc w2 (.cells #[.int .i64 x,.int .i64 y,.slice p pl pc,.slice r rl rc,.slice s sl sc,.slice u ul uc] 56) (some W.heap.size)).trans hG'
   refine ⟨(((World.grownBy_alloc W (.cells armZ 56) _).trans hG2)).andThen G (fun j hj=>.inl (by simp at hj;omega)),_,x,y,p,pl,pc,r,rl,rc,s,sl,sc,u,ul,uc,rfl,(fun hv=>by cases hv),fun hv=>?_⟩
   unfold zbv
   rw [hrd]
   rfl
  have HS:Hid ((w2.alloc (.cells #[.int .i64 x,.int .i64 y,.slice p pl pc,.slice r rl rc,.slice s sl sc,.slice u ul uc] 56)).grownBy (S6 (w2.alloc (.cells #[.int .i64 x,.int .i64 y,.slice p pl pc,.slice r rl rc,.slice s sl sc,.slice u ul uc] 56)) W.heap.size (.int .i64 x) (.int .i64 y) (.slice p pl pc) (.slice r rl rc) (.slice s sl sc) (.slice u ul uc)) (some W.heap.size)):=S6.grown _ _ _ _ _ _ _ _
  have hd:=HF.out _ (HS.out.trans (zaz _ _))
  have HD:Hid _:=hd
  clear hd
  clear HS HF
  unfold S6 at HD q0 q1 q2 q3 q4 q5
  clear hR2 hG2 hrd hR3 P1 ho c0
  go_upto_region 2 with fail
  go_region
  all_goals go_wp2
  all_goals exact bodyPost_ret (v:=.tuple #[.agg #[.int .i64 x,.int .i64 y,.slice p pl pc,.slice r rl rc,.slice s sl sc,.slice u ul uc],.bool false]) (by simp [results,Tryz.results75,go_sem,q0,q1,q2,q3,q4,q5]) rfl HD.out
end Go.Proofs.YtllmabgollkigaaGreatDoor
