/- The specification's TreeSize. -/
import Derived.Test.YtllmabgollkigaaGreatDoorGeM
set_option maxHeartbeats 16000000
namespace Go.Proofs.YtllmabgollkigaaGreatDoor
open Go.RowKit
set_option linter.unusedVariables false
def szP(ps:List PartT):Nat:=(ps.map pSize).sum
theorem zci{α:Type}(f:α→List PartT):∀xs:List α,szP (xs.flatMap f)=(xs.map fun x=>szP (f x)).sum
 | []=>rfl
 | x::xs=>by
  have h:=zci f xs
  simp only [szP,List.flatMap_cons,List.map_append,List.sum_append,List.map_cons,List.sum_cons] at h ⊢
  rw [h]
theorem szP_len:∀ps:List PartT,ps.length≤szP ps
 | []=>Nat.le_refl _
 | p::ps=>by
  have h:=szP_len ps
  have h1:1≤pSize p:=by
   cases p with
   | inl t=>exact Nat.le_refl _
   | inr a=>obtain ⟨a,r⟩:=a;cases a;show 1≤1+_;omega
  simp only [szP,List.map_cons,List.sum_cons,List.length_cons] at h ⊢
  omega
theorem zeb{α:Type}(f g:α→Nat):∀xs:List α,(∀x∈xs,f x≤g x)→(xs.map f).sum≤(xs.map g).sum
 | [],_=>Nat.le_refl _
 | x::xs,h=>by
  have h1:=zeb f g xs (fun y hy=>h y (List.mem_cons_of_mem _ hy))
  have h2:=h x (List.mem_cons_self ..)
  simp only [List.map_cons,List.sum_cons];omega
theorem zhl{α:Type}(g:α→Nat):∀xs:List α,(xs.map fun x=>1+g x).sum=xs.length+(xs.map g).sum
 | []=>rfl
 | x::xs=>by
  have:=zhl g xs
  simp only [List.map_cons,List.sum_cons,List.length_cons];omega
theorem zhm{α:Type}(g:α→Nat):∀xs:List α,(xs.map fun x=>2+2*g x).sum=2*(xs.length+(xs.map g).sum)
 | []=>rfl
 | x::xs=>by
  have:=zhm g xs
  simp only [List.map_cons,List.sum_cons,List.length_cons];omega
theorem szNet_le:∀(m:Nat)(t:NetT),szP (pNet m t)≤1+wN m t
 | 0,_=>Nat.zero_le _
 | m+1,.mk k e kids=>by
  have h:=zeb (fun x=>szP (pNet m x)) (fun x=>1+wN m x) kids (fun x _=>szNet_le m x)
  rw [zhl,←zci] at h
  show 1+szP (kids.flatMap (pNet m))≤1+(wE e+(kids.length+(kids.map (wN m)).sum))
  omega
theorem szP_flag(m:Nat)(r:Bool)(t:ArmT):szP (pArm m r t)=szP (pArm m false t):=by
 cases m with
 | zero=>rfl
 | succ m=>cases t;simp [pArm,szP,pSize]
theorem szP_app(a b:List PartT):szP (a++b)=szP a+szP b:=by simp [szP]
theorem szArm_le:∀(m:Nat)(t:ArmT),szP (pArm m false t)≤2+2*wA m t
 | 0,_=>Nat.zero_le _
 | m+1,.mk net coils kids=>by
  have h:=zeb (fun x=>szP (pArm m false x)) (fun x=>2+2*wA m x) kids (fun x _=>szArm_le m x)
  rw [zhm,←zci] at h
  have h2:=szNet_le m net
  have h3:szP (if zce net then ([]:List PartT) else pNet m net)≤1+wN m net:=by
   cases zce net
   ·exact h2
   ·exact Nat.zero_le _
  have e1:szP (pArm (m+1) false (.mk net coils kids))=szP (if zce net then ([]:List PartT) else pNet m net)+((1+coils.length)+szP (kids.flatMap (pArm m false))):=by
   show szP ((if zce net then ([]:List PartT) else pNet m net)++.inr (.mk net coils kids,false)::kids.flatMap (pArm m false))=_
   rw [szP_app];rfl
  rw [e1,show wA (m+1) (ArmT.mk net coils kids)=wN m net+(coils.length+(coils.map wE).sum)+(kids.length+(kids.map (wA m)).sum) from rfl]
  omega
theorem zhn(m:Nat)(xs:List ArmT):szP (xs.flatMap (pArm m false))≤2*(xs.length+(xs.map (wA m)).sum):=by
 have h:=zeb (fun x=>szP (pArm m false x)) (fun x=>2+2*wA m x) xs (fun x _=>szArm_le m x)
 rw [zhm,←zci] at h
 exact h
theorem none_s(k op:Int)(a1:Option Addr)(l1 c1:Nat)(a2:Option Addr)(l2 c2:Nat)(w:World)(h1:l1≤9223372036854775807)(h2:l2≤9223372036854775807) :
  Calls Tryz.prog 67 #[.agg #[.int .i64 k,.int .i64 op,.slice a1 l1 c1,.slice a2 l2 c2]] w fun e w'=>e=.returned (.bool (decide (k=0)&&decide (op=0)&&decide (l1=0)&&decide (l2=0)))∧Below w.heap.size w w':=by
 have b0:∀A,Below w.heap.size w (w.alloc A):=fun A=>(Below.refl _ _).alloc (Nat.le_refl _) _
 by_cases hk:k=0
 ·subst hk
  by_cases ho:op=0
  ·subst ho
   by_cases hl:l1=0
   ·subst hl
    by_cases hl2:l2=0
    ·subst hl2
     go_enter Tryz.func67,Tryz.ntmps67
     go_wp2
     go_ret
     exact ⟨by simp,b0 _⟩
    ·have e1:((l2:Int)==0)=false:=by simp;omega
     go_enter Tryz.func67,Tryz.ntmps67
     go_wp2
     go_ret
     exact ⟨by simp [hl2],b0 _⟩
   ·have e1:((l1:Int)==0)=false:=by simp;omega
    go_enter Tryz.func67,Tryz.ntmps67
    go_wp2
    go_ret
    exact ⟨by simp [hl],b0 _⟩
  ·have e1:(op==0)=false:=by simp [ho]
   go_enter Tryz.func67,Tryz.ntmps67
   go_wp2
   go_ret
   exact ⟨by simp [ho],b0 _⟩
 ·have e1:(k==0)=false:=by simp [hk]
  go_enter Tryz.func67,Tryz.ntmps67
  go_wp2
  go_ret
  exact ⟨by simp [hk],b0 _⟩
set_option maxRecDepth 10000 in
theorem ss_arms_row(m:Nat)(v:Value)(xs:List ArmT)(w:World)(lo:Nat)(hv:RowIs w lo 6 (ArmIs w lo m) v xs)
  (HC:Hid (∀x cs,x∈xs→∀(W:World),(ArmIs W lo m) x cs→Calls Tryz.prog 70 #[.agg cs.toArray] W fun r w'=>r=.returned (.int .i64 (((fun x=>szP (pArm m false x)) x:Nat):Int))∧Below W.heap.size W w'))
  (HM:Hid (∀x cs (W:World),Below w.heap.size w W→(ArmIs w lo m) x cs→(ArmIs W lo m) x cs)) (hbig:(xs.map (fun x=>szP (pArm m false x))).sum≤4194304) :
  Calls Tryz.prog 30 #[v] w fun r w'=>r=.returned (.int .i64 (((xs.map (fun x=>szP (pArm m false x))).sum:Nat):Int))∧Below w.heap.size w w':=by
 obtain ⟨a,cap,rfl,hl,hx⟩:=hv
 have HX:Hid (∀j x,xs[j]?=some x→∃b o cs,a=some ⟨b,o,none⟩∧lo≤b∧cs.length=6∧w.rangeAt b (o+j*6) cs∧(ArmIs w lo m) x cs):=hx
 have HTot:Hid (∀n,((xs.take n).map (fun x=>szP (pArm m false x))).sum≤(xs.map (fun x=>szP (pArm m false x))).sum):=fun n=>zcm _ _ _
 obtain ⟨len,HL⟩:∃len,Hid (len=xs.length):=⟨_,rfl⟩
 rw [←HL.out] at hl ⊢
 clear hx
 obtain ⟨A0,hA0⟩:∃A0:Nat,A0=0:=⟨_,rfl⟩
 have HBig:A0+(xs.map (fun x=>szP (pArm m false x))).sum≤4194304:=by omega
 obtain ⟨RES,HRES⟩:∃r,Hid (r=A0+(xs.map (fun x=>szP (pArm m false x))).sum):=⟨_,rfl⟩
 rw [show (xs.map (fun x=>szP (pArm m false x))).sum=RES by rw [HRES.out];omega]
 go_enter Tryz.func30,Tryz.ntmps30
 go_wp2
 go_loopg [3,4] len (fun g s i wr=>∃n S:Nat,n+g=len∧i=.int .i64 n∧s=.int .i64 (((A0+S:Nat)):Int)∧Hid (S=((xs.take n).map ((fun x=>szP (pArm m false x)))).sum)∧A0+S≤4194304∧Below w.heap.size w wr)
 case atStart=>exact ⟨0,0,by omega,rfl,by rw [hA0];rfl,(by simp:(0:Nat)=((xs.take 0).map ((fun x=>szP (pArm m false x)))).sum),by omega,Below.refl _ _⟩
 case round =>
  obtain ⟨n,S,hn,rfl,rfl,HS,hS,hb⟩:=hrel
  by_cases hlt:n<len
  ·have i2:(n:Int)<(len:Int):=by omega
   have i3:(0:Int)≤(n:Int):=by omega
   obtain ⟨x,hxn⟩:∃x,xs[n]?=some x:=⟨_,List.getElem?_eq_getElem (by have:=HL.out;omega)⟩
   obtain ⟨b,o,cs,rfl,hlo,hcs,hrg,hR⟩:=HX.out n x hxn
   have HB:Hid (Below w.heap.size w wr):=hb
   have HLd:Hid ((loadVar 56 ⟨b,o+n*6,none⟩).run Tryz.prog wr=.ok (.agg cs.toArray) wr):=run_loadVar_mid wr b (o+n*6) 56 cs _ (fun i c hi=>(Keeps.of_below hb 0) _ _ _ (Nat.zero_le _) (hrg i c hi)) Tryz.underlying56 rfl (by rw [hcs];kernel_rfl)
   have HCx:Hid (Calls Tryz.prog 70 #[.agg cs.toArray] wr fun r w'=>r=.returned (.int .i64 (((fun x=>szP (pArm m false x)) x:Nat):Int))∧Below wr.heap.size wr w'):=HC.out x cs (List.mem_of_getElem? hxn) wr (HM.out x cs wr hb hR)
   have HS':Hid (S+(fun x=>szP (pArm m false x)) x=((xs.take (n+1)).map ((fun x=>szP (pArm m false x)))).sum):=(by rw [zfa _ _ _ _ hxn,HS.out]:S+(fun x=>szP (pArm m false x)) x=((xs.take (n+1)).map ((fun x=>szP (pArm m false x)))).sum)
   have hle:A0+(S+(fun x=>szP (pArm m false x)) x)≤4194304:=by rw [HS'.out];have:=HTot.out (n+1);omega
   obtain ⟨q,Hq⟩:∃q,Hid (q=(fun x=>szP (pArm m false x)) x):=⟨_,rfl⟩
   rw [←Hq.out] at HCx HS' hle
   have w1:((A0+S:Nat):Int)+(q:Int)≤4194304:=by omega
   have w0:(0:Int)≤((A0+S:Nat):Int)+(q:Int):=by omega
   clear hb hrg hcs hR HS hlo
   go_wp2_with (first|(refine zau rfl 56 _ rfl _ _ rfl _ HLd.out ?_)|fail)
   refine HCx.out.mono ?_
   rintro r w1 ⟨rfl,g1⟩
   have b1:Below w.heap.size w w1:=HB.out.trans (g1.mono HB.out.size)
   clear g1 HCx HLd
   go_wp2
   go_roundg (gk-1)
   case measure=>omega
   case rel=>exact ⟨n+1,S+q,by omega,by simp,congrArg (Value.int .i64) (by omega),HS',hle,b1⟩
  ·have i2:¬((n:Int)<(len:Int)):=by omega
   have hSt:S=(xs.map ((fun x=>szP (pArm m false x)))).sum:=by rw [HS.out,List.take_of_length_le (by have:=HL.out;omega)]
   have HSt:Hid (S=(xs.map ((fun x=>szP (pArm m false x)))).sum):=hSt
   clear hSt
   go_wp2
   go_ret
   exact ⟨by rw [HRES.out,←HSt.out];exact congrArg (fun z=>Ending.returned (Value.int .i64 z)) (by omega),hb⟩
set_option maxRecDepth 10000 in
theorem ss_net_step(m:Nat)(k op:Int)(v1:Value)(p1:v1.oneCell'=true)(v:Value)(xs:List NetT)(w:World)(lo:Nat)(hv:RowIs w lo 4 (NetIs w lo m) v xs)
  (HC:Hid (∀x cs,x∈xs→∀(W:World),(NetIs W lo m) x cs→Calls Tryz.prog 112 #[.agg cs.toArray] W fun r w'=>r=.returned (.int .i64 (((fun x=>szP (pNet m x)) x:Nat):Int))∧Below W.heap.size W w'))
  (HM:Hid (∀x cs (W:World),Below w.heap.size w W→(NetIs w lo m) x cs→(NetIs W lo m) x cs)) (hbig:1+(xs.map (fun x=>szP (pNet m x))).sum≤4194304) :
  Calls Tryz.prog 112 #[.agg #[.int .i64 k,.int .i64 op,v1,v]] w fun r w'=>r=.returned (.int .i64 ((1+(xs.map (fun x=>szP (pNet m x))).sum:Nat):Int))∧Below w.heap.size w w':=by
 obtain ⟨a,cap,rfl,hl,hx⟩:=hv
 have HX:Hid (∀j x,xs[j]?=some x→∃b o cs,a=some ⟨b,o,none⟩∧lo≤b∧cs.length=4∧w.rangeAt b (o+j*4) cs∧(NetIs w lo m) x cs):=hx
 have HTot:Hid (∀n,((xs.take n).map (fun x=>szP (pNet m x))).sum≤(xs.map (fun x=>szP (pNet m x))).sum):=fun n=>zcm _ _ _
 obtain ⟨len,HL⟩:∃len,Hid (len=xs.length):=⟨_,rfl⟩
 rw [←HL.out] at hl ⊢
 clear hx
 obtain ⟨A0,hA0⟩:∃A0:Nat,A0=1:=⟨_,rfl⟩
 have HBig:A0+(xs.map (fun x=>szP (pNet m x))).sum≤4194304:=by omega
 obtain ⟨RES,HRES⟩:∃r,Hid (r=A0+(xs.map (fun x=>szP (pNet m x))).sum):=⟨_,rfl⟩
 rw [show 1+(xs.map (fun x=>szP (pNet m x))).sum=RES by rw [HRES.out];omega]
 have hk:=heap_alloc_last w (.cells #[.int .i64 k,.int .i64 op,v1,.slice a len cap] 53)
 have HKb:Hid ((w.alloc (.cells #[.int .i64 k,.int .i64 op,v1,.slice a len cap] 53)).heap[w.heap.size]?=some (.cells #[.int .i64 k,.int .i64 op,v1,.slice a len cap] 53 (0,0))):=hk
 clear hk
 go_enter Tryz.func112,Tryz.ntmps112
 go_wp2
 go_loopg [3,4] len (fun g s i wr=>∃n S:Nat,n+g=len∧i=.int .i64 n∧s=.int .i64 (((A0+S:Nat)):Int)∧Hid (S=((xs.take n).map ((fun x=>szP (pNet m x)))).sum)∧A0+S≤4194304∧Below w.heap.size w wr∧wr.heap[w.heap.size]?=some (.cells #[.int .i64 k,.int .i64 op,v1,.slice a len cap] 53 (0,0)))
 case atStart=>exact ⟨0,0,by omega,rfl,by rw [hA0];rfl,(by simp:(0:Nat)=((xs.take 0).map ((fun x=>szP (pNet m x)))).sum),by omega,(Below.refl _ _).alloc (Nat.le_refl _) _,HKb.out⟩
 case round =>
  obtain ⟨n,S,hn,rfl,rfl,HS,hS,hb,hk0⟩:=hrel
  have c0:wr.cell? ⟨w.heap.size,3,none⟩=some (.slice a len cap):=(cell_of_row _ _ _ _ _ _ hk0).trans rfl
  by_cases hlt:n<len
  ·have i2:(n:Int)<(len:Int):=by omega
   have i3:(0:Int)≤(n:Int):=by omega
   obtain ⟨x,hxn⟩:∃x,xs[n]?=some x:=⟨_,List.getElem?_eq_getElem (by have:=HL.out;omega)⟩
   obtain ⟨b,o,cs,rfl,hlo,hcs,hrg,hR⟩:=HX.out n x hxn
   have HB:Hid (Below w.heap.size w wr):=hb
   have HLd:Hid ((loadVar 53 ⟨b,o+n*4,none⟩).run Tryz.prog wr=.ok (.agg cs.toArray) wr):=run_loadVar_mid wr b (o+n*4) 53 cs _ (fun i c hi=>(Keeps.of_below hb 0) _ _ _ (Nat.zero_le _) (hrg i c hi)) Tryz.underlying53 rfl (by rw [hcs];kernel_rfl)
   have HCx:Hid (Calls Tryz.prog 112 #[.agg cs.toArray] wr fun r w'=>r=.returned (.int .i64 (((fun x=>szP (pNet m x)) x:Nat):Int))∧Below wr.heap.size wr w'):=HC.out x cs (List.mem_of_getElem? hxn) wr (HM.out x cs wr hb hR)
   have HS':Hid (S+(fun x=>szP (pNet m x)) x=((xs.take (n+1)).map ((fun x=>szP (pNet m x)))).sum):=(by rw [zfa _ _ _ _ hxn,HS.out]:S+(fun x=>szP (pNet m x)) x=((xs.take (n+1)).map ((fun x=>szP (pNet m x)))).sum)
   have hle:A0+(S+(fun x=>szP (pNet m x)) x)≤4194304:=by rw [HS'.out];have:=HTot.out (n+1);omega
   obtain ⟨q,Hq⟩:∃q,Hid (q=(fun x=>szP (pNet m x)) x):=⟨_,rfl⟩
   rw [←Hq.out] at HCx HS' hle
   have w1:((A0+S:Nat):Int)+(q:Int)≤4194304:=by omega
   have w0:(0:Int)≤((A0+S:Nat):Int)+(q:Int):=by omega
   have HK:Hid (wr.heap[w.heap.size]?=some (.cells #[.int .i64 k,.int .i64 op,v1,.slice (some ⟨b,o,none⟩) len cap] 53 (0,0))):=hk0
   clear hb hrg hcs hR HS hlo hk0
   go_wp2_with (first|(refine zau rfl 53 _ rfl _ _ rfl _ HLd.out ?_)|fail)
   refine HCx.out.mono ?_
   rintro r w1 ⟨rfl,g1⟩
   have b1:Below w.heap.size w w1:=HB.out.trans (g1.mono HB.out.size)
   have k1:Hid (w1.heap[w.heap.size]?=some (.cells #[.int .i64 k,.int .i64 op,v1,.slice (some ⟨b,o,none⟩) len cap] 53 (0,0))):=(g1.block _ (Array.getElem?_eq_some_iff.1 HK.out).1).trans HK.out
   clear g1 HCx HLd c0
   go_wp2
   go_roundg (gk-1)
   case measure=>omega
   case rel=>exact ⟨n+1,S+q,by omega,by simp,congrArg (Value.int .i64) (by omega),HS',hle,b1,k1.out⟩
  ·have i2:¬((n:Int)<(len:Int)):=by omega
   have hSt:S=(xs.map ((fun x=>szP (pNet m x)))).sum:=by rw [HS.out,List.take_of_length_le (by have:=HL.out;omega)]
   have HSt:Hid (S=(xs.map ((fun x=>szP (pNet m x)))).sum):=hSt
   clear hSt
   go_wp2
   go_ret
   exact ⟨by rw [HRES.out,←HSt.out];exact congrArg (fun z=>Ending.returned (Value.int .i64 z)) (by omega),hb⟩
set_option maxRecDepth 10000 in
theorem ss_arm_step(m:Nat)(k op:Int)(a1:Option Addr)(l1 c1:Nat)(a2:Option Addr)(l2 c2:Nat)(a3:Option Addr)(l3 c3:Nat)(hl3:l3≤1048576)(nn:Bool)(sn:Nat)(v:Value)(xs:List ArmT)(w:World)(lo:Nat)(hv:RowIs w lo 6 (ArmIs w lo m) v xs)
  (HC:Hid (∀x cs,x∈xs→∀(W:World),(ArmIs W lo m) x cs→Calls Tryz.prog 70 #[.agg cs.toArray] W fun r w'=>r=.returned (.int .i64 (((fun x=>szP (pArm m false x)) x:Nat):Int))∧Below W.heap.size W w'))
  (HM:Hid (∀x cs (W:World),Below w.heap.size w W→(ArmIs w lo m) x cs→(ArmIs W lo m) x cs))
  (HNn:Hid (∀W,Calls Tryz.prog 67 #[.agg #[.int .i64 k,.int .i64 op,.slice a1 l1 c1,.slice a2 l2 c2]] W fun e w'=>e=.returned (.bool nn)∧Below W.heap.size W w'))
  (HNs:Hid (∀W,Below w.heap.size w W→Calls Tryz.prog 112 #[.agg #[.int .i64 k,.int .i64 op,.slice a1 l1 c1,.slice a2 l2 c2]] W fun e w'=>e=.returned (.int .i64 (sn:Int))∧Below W.heap.size W w'))
  (hbig:1+l3+(if nn then 0 else sn)+(xs.map (fun x=>szP (pArm m false x))).sum≤4194304) :
  Calls Tryz.prog 70 #[.agg #[.int .i64 k,.int .i64 op,.slice a1 l1 c1,.slice a2 l2 c2,.slice a3 l3 c3,v]] w fun r w'=>r=.returned (.int .i64 ((1+l3+(if nn then 0 else sn)+(xs.map (fun x=>szP (pArm m false x))).sum:Nat):Int))∧Below w.heap.size w w':=by
 obtain ⟨a,cap,rfl,hl,hx⟩:=hv
 have HX:Hid (∀j x,xs[j]?=some x→∃b o cs,a=some ⟨b,o,none⟩∧lo≤b∧cs.length=6∧w.rangeAt b (o+j*6) cs∧(ArmIs w lo m) x cs):=hx
 have HTot:Hid (∀n,((xs.take n).map (fun x=>szP (pArm m false x))).sum≤(xs.map (fun x=>szP (pArm m false x))).sum):=fun n=>zcm _ _ _
 obtain ⟨len,HL⟩:∃len,Hid (len=xs.length):=⟨_,rfl⟩
 rw [←HL.out] at hl ⊢
 clear hx
 obtain ⟨A0,hA0⟩:∃A0:Nat,A0=1+l3+(if nn then 0 else sn):=⟨_,rfl⟩
 have HBig:A0+(xs.map (fun x=>szP (pArm m false x))).sum≤4194304:=by omega
 obtain ⟨RES,HRES⟩:∃r,Hid (r=A0+(xs.map (fun x=>szP (pArm m false x))).sum):=⟨_,rfl⟩
 rw [show 1+l3+(if nn then 0 else sn)+(xs.map (fun x=>szP (pArm m false x))).sum=RES by rw [HRES.out,hA0]]
 have hk:=heap_alloc_last w (.cells #[.int .i64 k,.int .i64 op,.slice a1 l1 c1,.slice a2 l2 c2,.slice a3 l3 c3,.slice a len cap] 56)
 have b0:Below w.heap.size w (w.alloc (.cells #[.int .i64 k,.int .i64 op,.slice a1 l1 c1,.slice a2 l2 c2,.slice a3 l3 c3,.slice a len cap] 56)):=(Below.refl _ _).alloc (Nat.le_refl _) _
 have HKb:Hid ((w.alloc (.cells #[.int .i64 k,.int .i64 op,.slice a1 l1 c1,.slice a2 l2 c2,.slice a3 l3 c3,.slice a len cap] 56)).heap[w.heap.size]?=some (.cells #[.int .i64 k,.int .i64 op,.slice a1 l1 c1,.slice a2 l2 c2,.slice a3 l3 c3,.slice a len cap] 56 (0,0))∧w.heap.size<(w.alloc (.cells #[.int .i64 k,.int .i64 op,.slice a1 l1 c1,.slice a2 l2 c2,.slice a3 l3 c3,.slice a len cap] 56)).heap.size):=⟨hk,by simp⟩
 have q3:(l3:Int)≤1048576:=by omega
 have q0:(0:Int)≤(l3:Int):=by omega
 clear hk
 go_enter Tryz.func70,Tryz.ntmps70
 go_wp2_with fail
 refine (HNn.out _).mono ?_
 rintro e w0 ⟨rfl,g0⟩
 have k0:w0.heap[w.heap.size]?=some (.cells #[.int .i64 k,.int .i64 op,.slice a1 l1 c1,.slice a2 l2 c2,.slice a3 l3 c3,.slice a len cap] 56 (0,0)):=(g0.block _ HKb.out.2).trans HKb.out.1
 have b1:=b0.trans (g0.mono b0.size)
 clear g0 HKb b0
 cases nn with
 | true =>
  have k1:Hid (w0.heap[w.heap.size]?=some (.cells #[.int .i64 k,.int .i64 op,.slice a1 l1 c1,.slice a2 l2 c2,.slice a3 l3 c3,.slice a len cap] 56 (0,0))):=k0
  have hA1:A0=1+l3:=by simpa using hA0
  clear k0 hA0 HNs HNn
  go_wp2
  go_loopg [3,4] len (fun g s i wr=>∃n S:Nat,n+g=len∧i=.int .i64 n∧s=.int .i64 (((A0+S:Nat)):Int)∧Hid (S=((xs.take n).map ((fun x=>szP (pArm m false x)))).sum)∧A0+S≤4194304∧Below w.heap.size w wr∧wr.heap[w.heap.size]?=some (.cells #[.int .i64 k,.int .i64 op,.slice a1 l1 c1,.slice a2 l2 c2,.slice a3 l3 c3,.slice a len cap] 56 (0,0)))
  case atStart=>exact ⟨0,0,by omega,rfl,by rw [hA1];exact congrArg (Value.int .i64) (by omega),(by simp:(0:Nat)=((xs.take 0).map ((fun x=>szP (pArm m false x)))).sum),by omega,b1,k1.out⟩
  case round =>
   obtain ⟨n,S,hn,rfl,rfl,HS,hS,hb,hk0⟩:=hrel
   have c0:wr.cell? ⟨w.heap.size,5,none⟩=some (.slice a len cap):=(cell_of_row _ _ _ _ _ _ hk0).trans rfl
   by_cases hlt:n<len
   ·have i2:(n:Int)<(len:Int):=by omega
    have i3:(0:Int)≤(n:Int):=by omega
    obtain ⟨x,hxn⟩:∃x,xs[n]?=some x:=⟨_,List.getElem?_eq_getElem (by have:=HL.out;omega)⟩
    obtain ⟨b,o,cs,rfl,hlo,hcs,hrg,hR⟩:=HX.out n x hxn
    have HB:Hid (Below w.heap.size w wr):=hb
    have HLd:Hid ((loadVar 56 ⟨b,o+n*6,none⟩).run Tryz.prog wr=.ok (.agg cs.toArray) wr):=run_loadVar_mid wr b (o+n*6) 56 cs _ (fun i c hi=>(Keeps.of_below hb 0) _ _ _ (Nat.zero_le _) (hrg i c hi)) Tryz.underlying56 rfl (by rw [hcs];kernel_rfl)
    have HCx:Hid (Calls Tryz.prog 70 #[.agg cs.toArray] wr fun r w'=>r=.returned (.int .i64 (((fun x=>szP (pArm m false x)) x:Nat):Int))∧Below wr.heap.size wr w'):=HC.out x cs (List.mem_of_getElem? hxn) wr (HM.out x cs wr hb hR)
    have HS':Hid (S+(fun x=>szP (pArm m false x)) x=((xs.take (n+1)).map ((fun x=>szP (pArm m false x)))).sum):=(by rw [zfa _ _ _ _ hxn,HS.out]:S+(fun x=>szP (pArm m false x)) x=((xs.take (n+1)).map ((fun x=>szP (pArm m false x)))).sum)
    have hle:A0+(S+(fun x=>szP (pArm m false x)) x)≤4194304:=by rw [HS'.out];have:=HTot.out (n+1);omega
    obtain ⟨q,Hq⟩:∃q,Hid (q=(fun x=>szP (pArm m false x)) x):=⟨_,rfl⟩
    rw [←Hq.out] at HCx HS' hle
    have w1:((A0+S:Nat):Int)+(q:Int)≤4194304:=by omega
    have w0:(0:Int)≤((A0+S:Nat):Int)+(q:Int):=by omega
    have HK:Hid (wr.heap[w.heap.size]?=some (.cells #[.int .i64 k,.int .i64 op,.slice a1 l1 c1,.slice a2 l2 c2,.slice a3 l3 c3,.slice (some ⟨b,o,none⟩) len cap] 56 (0,0))):=hk0
    clear hb hrg hcs hR HS hlo hk0
    go_wp2_with (first|(refine zau rfl 56 _ rfl _ _ rfl _ HLd.out ?_)|fail)
    refine HCx.out.mono ?_
    rintro r w1 ⟨rfl,g1⟩
    have b1:Below w.heap.size w w1:=HB.out.trans (g1.mono HB.out.size)
    have k1:Hid (w1.heap[w.heap.size]?=some (.cells #[.int .i64 k,.int .i64 op,.slice a1 l1 c1,.slice a2 l2 c2,.slice a3 l3 c3,.slice (some ⟨b,o,none⟩) len cap] 56 (0,0))):=(g1.block _ (Array.getElem?_eq_some_iff.1 HK.out).1).trans HK.out
    clear g1 HCx HLd c0
    go_wp2
    go_roundg (gk-1)
    case measure=>omega
    case rel=>exact ⟨n+1,S+q,by omega,by simp,congrArg (Value.int .i64) (by omega),HS',hle,b1,k1.out⟩
   ·have i2:¬((n:Int)<(len:Int)):=by omega
    have hSt:S=(xs.map ((fun x=>szP (pArm m false x)))).sum:=by rw [HS.out,List.take_of_length_le (by have:=HL.out;omega)]
    have HSt:Hid (S=(xs.map ((fun x=>szP (pArm m false x)))).sum):=hSt
    clear hSt
    go_wp2
    go_ret
    exact ⟨by rw [HRES.out,←HSt.out];exact congrArg (fun z=>Ending.returned (Value.int .i64 z)) (by omega),hb⟩
 | false =>
  have hA1:A0=1+l3+sn:=by simpa using hA0
  have d0:w0.cell? ⟨w.heap.size,0,none⟩=some (.int .i64 k):=(cell_of_row _ _ _ _ _ _ k0).trans rfl
  have d1:w0.cell? ⟨w.heap.size,1,none⟩=some (.int .i64 op):=(cell_of_row _ _ _ _ _ _ k0).trans rfl
  have d2:w0.cell? ⟨w.heap.size,2,none⟩=some (.slice a1 l1 c1):=(cell_of_row _ _ _ _ _ _ k0).trans rfl
  have d3:w0.cell? ⟨w.heap.size,3,none⟩=some (.slice a2 l2 c2):=(cell_of_row _ _ _ _ _ _ k0).trans rfl
  have K0:Hid (w0.heap[w.heap.size]?=some (.cells #[.int .i64 k,.int .i64 op,.slice a1 l1 c1,.slice a2 l2 c2,.slice a3 l3 c3,.slice a len cap] 56 (0,0))):=k0
  have s1:(sn:Int)≤4194304:=by omega
  have s0:(0:Int)≤(sn:Int):=by omega
  have B1:Hid (Below w.heap.size w w0):=b1
  clear k0 hA0 HNn b1
  go_wp2_with fail
  refine (HNs.out _ B1.out).mono ?_
  rintro e w2 ⟨rfl,g2⟩
  have k1:Hid (w2.heap[w.heap.size]?=some (.cells #[.int .i64 k,.int .i64 op,.slice a1 l1 c1,.slice a2 l2 c2,.slice a3 l3 c3,.slice a len cap] 56 (0,0))):=(g2.block _ (Array.getElem?_eq_some_iff.1 K0.out).1).trans K0.out
  have b1:=B1.out.trans (g2.mono B1.out.size)
  clear g2 K0 d0 d1 d2 d3 HNs B1
  go_wp2
  go_loopg [3,4] len (fun g s i wr=>∃n S:Nat,n+g=len∧i=.int .i64 n∧s=.int .i64 (((A0+S:Nat)):Int)∧Hid (S=((xs.take n).map ((fun x=>szP (pArm m false x)))).sum)∧A0+S≤4194304∧Below w.heap.size w wr∧wr.heap[w.heap.size]?=some (.cells #[.int .i64 k,.int .i64 op,.slice a1 l1 c1,.slice a2 l2 c2,.slice a3 l3 c3,.slice a len cap] 56 (0,0)))
  case atStart=>exact ⟨0,0,by omega,rfl,by rw [hA1];exact congrArg (Value.int .i64) (by omega),(by simp:(0:Nat)=((xs.take 0).map ((fun x=>szP (pArm m false x)))).sum),by omega,b1,k1.out⟩
  case round =>
   obtain ⟨n,S,hn,rfl,rfl,HS,hS,hb,hk0⟩:=hrel
   have c0:wr.cell? ⟨w.heap.size,5,none⟩=some (.slice a len cap):=(cell_of_row _ _ _ _ _ _ hk0).trans rfl
   by_cases hlt:n<len
   ·have i2:(n:Int)<(len:Int):=by omega
    have i3:(0:Int)≤(n:Int):=by omega
    obtain ⟨x,hxn⟩:∃x,xs[n]?=some x:=⟨_,List.getElem?_eq_getElem (by have:=HL.out;omega)⟩
    obtain ⟨b,o,cs,rfl,hlo,hcs,hrg,hR⟩:=HX.out n x hxn
    have HB:Hid (Below w.heap.size w wr):=hb
    have HLd:Hid ((loadVar 56 ⟨b,o+n*6,none⟩).run Tryz.prog wr=.ok (.agg cs.toArray) wr):=run_loadVar_mid wr b (o+n*6) 56 cs _ (fun i c hi=>(Keeps.of_below hb 0) _ _ _ (Nat.zero_le _) (hrg i c hi)) Tryz.underlying56 rfl (by rw [hcs];kernel_rfl)
    have HCx:Hid (Calls Tryz.prog 70 #[.agg cs.toArray] wr fun r w'=>r=.returned (.int .i64 (((fun x=>szP (pArm m false x)) x:Nat):Int))∧Below wr.heap.size wr w'):=HC.out x cs (List.mem_of_getElem? hxn) wr (HM.out x cs wr hb hR)
    have HS':Hid (S+(fun x=>szP (pArm m false x)) x=((xs.take (n+1)).map ((fun x=>szP (pArm m false x)))).sum):=(by rw [zfa _ _ _ _ hxn,HS.out]:S+(fun x=>szP (pArm m false x)) x=((xs.take (n+1)).map ((fun x=>szP (pArm m false x)))).sum)
    have hle:A0+(S+(fun x=>szP (pArm m false x)) x)≤4194304:=by rw [HS'.out];have:=HTot.out (n+1);omega
    obtain ⟨q,Hq⟩:∃q,Hid (q=(fun x=>szP (pArm m false x)) x):=⟨_,rfl⟩
    rw [←Hq.out] at HCx HS' hle
    have w1:((A0+S:Nat):Int)+(q:Int)≤4194304:=by omega
    have w0:(0:Int)≤((A0+S:Nat):Int)+(q:Int):=by omega
    have HK:Hid (wr.heap[w.heap.size]?=some (.cells #[.int .i64 k,.int .i64 op,.slice a1 l1 c1,.slice a2 l2 c2,.slice a3 l3 c3,.slice (some ⟨b,o,none⟩) len cap] 56 (0,0))):=hk0
    clear hb hrg hcs hR HS hlo hk0
    go_wp2_with (first|(refine zau rfl 56 _ rfl _ _ rfl _ HLd.out ?_)|fail)
    refine HCx.out.mono ?_
    rintro r w1 ⟨rfl,g1⟩
    have b1:Below w.heap.size w w1:=HB.out.trans (g1.mono HB.out.size)
    have k1:Hid (w1.heap[w.heap.size]?=some (.cells #[.int .i64 k,.int .i64 op,.slice a1 l1 c1,.slice a2 l2 c2,.slice a3 l3 c3,.slice (some ⟨b,o,none⟩) len cap] 56 (0,0))):=(g1.block _ (Array.getElem?_eq_some_iff.1 HK.out).1).trans HK.out
    clear g1 HCx HLd c0
    go_wp2
    go_roundg (gk-1)
    case measure=>omega
    case rel=>exact ⟨n+1,S+q,by omega,by simp,congrArg (Value.int .i64) (by omega),HS',hle,b1,k1.out⟩
   ·have i2:¬((n:Int)<(len:Int)):=by omega
    have hSt:S=(xs.map ((fun x=>szP (pArm m false x)))).sum:=by rw [HS.out,List.take_of_length_le (by have:=HL.out;omega)]
    have HSt:Hid (S=(xs.map ((fun x=>szP (pArm m false x)))).sum):=hSt
    clear hSt
    go_wp2
    go_ret
    exact ⟨by rw [HRES.out,←HSt.out];exact congrArg (fun z=>Ending.returned (Value.int .i64 z)) (by omega),hb⟩
theorem ss_net:∀(m:Nat)(t:NetT)(cs:List Value)(w:World)(lo:Nat)(hv:NetIs w lo m t cs)(hbig:szP (pNet m t)≤4194304),
  Calls Tryz.prog 112 #[.agg cs.toArray] w fun r w'=>r=.returned (.int .i64 (szP (pNet m t):Nat))∧Below w.heap.size w w'
 | 0,_,_,_,_,h,_=>h.elim
 | m+1,.mk k e kids,cs,w,lo,hv,hbig=>by
  obtain ⟨v,v',rfl,ha,hk⟩:=hv
  have e1:szP (pNet (m+1) (.mk k e kids))=1+(kids.map fun x=>szP (pNet m x)).sum:=by
   rw [←zci];rfl
  rw [e1] at hbig ⊢
  exact ss_net_step m k e.op v ha.one v' kids w lo hk (fun x cs hx W h=>ss_net m x cs W lo h (by have:=zdu (fun x=>szP (pNet m x)) kids x hx;omega)) (fun x cs W g h=>NetIs.move (Keeps.of_below g lo) (Nat.le_refl _) _ _ (Nat.le_refl _) _ _ h) hbig
theorem ss_arm:∀(m:Nat)(t:ArmT)(cs:List Value)(w:World)(lo:Nat)(hv:ArmIs w lo m t cs)(hbig:szP (pArm m false t)≤4194304)(hw:wA m t≤1048576),
  Calls Tryz.prog 70 #[.agg cs.toArray] w fun r w'=>r=.returned (.int .i64 (szP (pArm m false t):Nat))∧Below w.heap.size w w'
 | 0,_,_,_,_,h,_,_=>h.elim
 | m+1,.mk net coils kids,cs,w,lo,hv,hbig,hw=>by
  obtain ⟨ns,v,v',rfl,hn,hc,hk⟩:=hv
  have e1:szP (pArm (m+1) false (.mk net coils kids))=1+coils.length+(if zce net then 0 else szP (pNet m net))+(kids.map fun x=>szP (pArm m false x)).sum:=by
   show szP ((if zce net then ([]:List PartT) else pNet m net)++.inr (.mk net coils kids,false)::kids.flatMap (pArm m false))=_
   rw [szP_app,←zci,show szP (.inr (.mk net coils kids,false)::kids.flatMap (pArm m false))=1+coils.length+szP (kids.flatMap (pArm m false)) from rfl]
   cases zce net
   ·simp;omega
   ·show szP []+_=_
    rw [show szP []=0 from rfl];simp
  rw [e1] at hbig ⊢
  rw [show wA (m+1) (ArmT.mk net coils kids)=wN m net+(coils.length+(coils.map wE).sum)+(kids.length+(kids.map (wA m)).sum) from rfl] at hw
  have hn':=hn
  cases m with
  | zero=>exact hn.elim
  | succ m' =>
   cases net with
   | mk k e nk =>
    obtain ⟨v1,v2,rfl,ha,hnk⟩:=hn
    obtain ⟨a1,c1,rfl,hl1,_⟩:=id ha
    obtain ⟨a2,c2,rfl,hl2,_⟩:=id hnk
    obtain ⟨a3,c3,rfl,hl3,_⟩:=id hc
    exact ss_arm_step (m'+1) k e.op a1 _ c1 a2 _ c2 a3 _ c3 (by omega) (zce (.mk k e nk)) (szP (pNet (m'+1) (.mk k e nk))) v' kids w lo hk
     (fun x cs hx W h=>ss_arm (m'+1) x cs W lo h (by have:=zdu (fun x=>szP (pArm (m'+1) false x)) kids x hx;omega) (by have:=zdu (wA (m'+1)) kids x hx;omega))
     (fun x cs W g h=>ArmIs.move (Keeps.of_below g lo) (Nat.le_refl _) _ _ (Nat.le_refl _) _ _ h)
     (fun W=>by rw [zfb];exact none_s k e.op a1 _ c1 a2 _ c2 W hl1 hl2)
     (fun W g=>ss_net (m'+1) (.mk k e nk) _ W lo (NetIs.move (Keeps.of_below g lo) (Nat.le_refl _) _ _ (Nat.le_refl _) _ _ hn') (by have:=szNet_le (m'+1) (.mk k e nk);omega)) hbig
theorem ss_arms(m:Nat)(v:Value)(xs:List ArmT)(w:World)(lo:Nat)(hv:ArmsIs w lo m v xs)(hw:xs.length+(xs.map (wA m)).sum≤1048576) :
  Calls Tryz.prog 30 #[v] w fun r w'=>r=.returned (.int .i64 (szP (xs.flatMap (pArm m false)):Nat))∧Below w.heap.size w w':=by
 have hle:=zhn m xs
 rw [zci] at hle ⊢
 exact ss_arms_row m v xs w lo hv (fun x cs hx W h=>ss_arm m x cs W lo h (by have:=zdu (fun x=>szP (pArm m false x)) xs x hx;omega) (by have:=zdu (wA m) xs x hx;omega)) (fun x cs W g h=>ArmIs.move (Keeps.of_below g lo) (Nat.le_refl _) _ _ (Nat.le_refl _) _ _ h) (by omega)
def cNv(k op:Int)(l1 l2:Nat)(b:Bool):Int :=
 if k=1 then (if 0<l2 then 2 else if b then 0 else 3) else if 2≤k∧k≤4∧op=0∧l1=0∧0<l2∧(k=4→l2=1) then 0 else 2
def cN(ct:Int→List ArgT→Bool):NetT→Int
 | .mk k e kids=>cNv k e.op e.args.length kids.length (ct e.op e.args)
def cAv(r nn ok:Bool)(l3 l4:Nat):Int :=
 if r&&nn then 4 else if ok then (if l3=0∧l4=0 then 5 else 0) else 3
def cA(cl:Int→List ArgT→Bool):ArmT×Bool→Int
 | (.mk net coils kids,r)=>cAv r (zce net) (coils.all fun e=>cl e.op e.args) coils.length kids.length
def cP(ct cl:Int→List ArgT→Bool):PartT→Int
 | .inl t=>cN ct t
 | .inr a=>cA cl a
def zaa(ct cl:Int→List ArgT→Bool):List PartT→Int
 | []=>0
 | p::ps=>if cP ct cl p=0 then zaa ct cl ps else cP ct cl p
theorem cNv_range(k op:Int)(l1 l2:Nat)(b:Bool):0≤cNv k op l1 l2 b∧cNv k op l1 l2 b≤5:=by
 unfold cNv
 repeat' split
 all_goals omega
theorem cAv_range(r nn ok:Bool)(l3 l4:Nat):0≤cAv r nn ok l3 l4∧cAv r nn ok l3 l4≤5:=by
 unfold cAv
 repeat' split
 all_goals omega
theorem cP_range(ct cl:Int→List ArgT→Bool)(p:PartT):0≤cP ct cl p∧cP ct cl p≤5:=by
 cases p with
 | inl t=>cases t;exact cNv_range _ _ _ _ _
 | inr a=>obtain ⟨a,r⟩:=a;cases a;exact cAv_range _ _ _ _ _
theorem zar(ct cl:Int→List ArgT→Bool):∀ps:List PartT,0≤zaa ct cl ps∧zaa ct cl ps≤5
 | []=>by simp [zaa]
 | p::ps=>by
  unfold zaa
  split
  ·exact zar ct cl ps
  ·exact cP_range ct cl p
theorem zec(ct cl:Int→List ArgT→Bool):∀(a b:List PartT),zaa ct cl (a++b)=if zaa ct cl a=0 then zaa ct cl b else zaa ct cl a
 | [],b=>by simp [zaa]
 | p::ps,b=>by
  have h:=zec ct cl ps b
  simp only [List.cons_append,zaa]
  by_cases hp:cP ct cl p=0
  ·simp only [hp,if_true];exact h
  ·simp only [hp,if_false]
theorem zbt{ct cl:Int→List ArgT→Bool}{a b:List PartT}(h:zaa ct cl a=0):zaa ct cl (a++b)=zaa ct cl b:=by rw [zec,if_pos h]
theorem zek{ct cl:Int→List ArgT→Bool}{a b:List PartT}(h:zaa ct cl a≠0):zaa ct cl (a++b)=zaa ct cl a:=by rw [zec,if_neg h]
theorem zdd{α:Type}{ct cl:Int→List ArgT→Bool}(f:α→List PartT)(xs:List α)(c:Nat)(x:α)(h:xs[c]?=some x)(h0:zaa ct cl ((xs.take c).flatMap f)=0)(h1:zaa ct cl (f x)≠0):zaa ct cl (xs.flatMap f)=zaa ct cl (f x):=by
 rw [flat_at f xs c x h,zbt h0,zek h1]
theorem zed{α:Type}{ct cl:Int→List ArgT→Bool}(f:α→List PartT)(xs:List α)(c:Nat)(x:α)(h:xs[c]?=some x)(h0:zaa ct cl ((xs.take c).flatMap f)=0)(h1:zaa ct cl (f x)=0):zaa ct cl ((xs.take (c+1)).flatMap f)=0:=by
 rw [List.take_add_one,h]
 simp only [Option.toList_some,List.flatMap_append,List.flatMap_cons,List.flatMap_nil,List.append_nil]
 rw [zbt h0];exact h1
theorem firstC_net(ct cl:Int→List ArgT→Bool)(m:Nat)(k:Int)(e:ElemT)(kids:List NetT):zaa ct cl (pNet (m+1) (.mk k e kids))=if cNv k e.op e.args.length kids.length (ct e.op e.args)=0 then zaa ct cl (kids.flatMap (pNet m)) else cNv k e.op e.args.length kids.length (ct e.op e.args):=rfl
theorem firstC_arm(ct cl:Int→List ArgT→Bool)(m:Nat)(r:Bool)(net:NetT)(coils:List ElemT)(kids:List ArmT):zaa ct cl (pArm (m+1) r (.mk net coils kids)) =
  (let a:=if zce net then 0 else zaa ct cl (pNet m net)
   let b:=cAv r (zce net) (coils.all fun e=>cl e.op e.args) coils.length kids.length
   if a=0 then (if b=0 then zaa ct cl (kids.flatMap (pArm m false)) else b) else a):=by
 show zaa ct cl ((if zce net then ([]:List PartT) else pNet m net)++.inr (.mk net coils kids,r)::kids.flatMap (pArm m false))=_
 rw [zec]
 have e1:zaa ct cl (if zce net then ([]:List PartT) else pNet m net)=if zce net then 0 else zaa ct cl (pNet m net):=by
  cases zce net<;>rfl
 rw [e1]
 rfl
def zbc(f:ArmT→Int):Nat→List ArmT→Int×Int
 | _,[]=>(0,0)
 | i,x::xs=>if f x=0 then zbc f (i+1) xs else (f x,i)
def zfl(m:Nat)(xs:List ArmT):Bool:=decide (40<xs.length)||decide (400<szP (xs.flatMap (pArm m false)))
def zbr(ct cl:Int→List ArgT→Bool)(m:Nat)(xs:List ArmT):Int×Int :=
 if zfl m xs then (1,0) else zbc (fun x=>zaa ct cl (pArm m true x)) 0 xs
theorem zeq(f:ArmT→Int):∀(xs:List ArmT)(i c:Nat),(∀x∈xs.take c,f x=0)→zbc f i xs=zbc f (i+min c xs.length) (xs.drop c)
 | [],i,c,_=>by simp [zbc]
 | x::xs,i,0,_=>by simp
 | x::xs,i,c+1,h=>by
  have h0:f x=0:=h x (by simp)
  have hr:=zeq f xs (i+1) c (fun y hy=>h y (by simp [hy]))
  simp only [zbc,h0,if_true,List.drop_succ_cons,List.length_cons]
  rw [hr]
  congr 1
  omega
theorem zio(f:ArmT→Int)(xs:List ArmT)(c:Nat)(x:ArmT)(h:xs[c]?=some x)(h0:∀y∈xs.take c,f y=0)(h1:f x≠0):zbc f 0 xs=(f x,(c:Int)):=by
 obtain ⟨hc,rfl⟩:=List.getElem?_eq_some_iff.1 h
 rw [zeq f xs 0 c h0,List.drop_eq_getElem_cons hc]
 simp only [zbc,h1,if_false]
 congr 1
 omega
theorem zho(f:ArmT→Int)(xs:List ArmT)(h0:∀y∈xs,f y=0):zbc f 0 xs=(0,0):=by
 rw [zeq f xs 0 xs.length (fun y hy=>h0 y (List.mem_of_mem_take hy))]
 simp [zbc]
theorem take_go{α:Type}{f:α→Int}{xs:List α}{c:Nat}{x:α}(h:xs[c]?=some x)(h0:∀y∈xs.take c,f y=0)(h1:f x=0):∀y∈xs.take (c+1),f y=0:=by
 intro y hy
 rw [List.take_add_one,h] at hy
 simp only [Option.toList_some,List.mem_append,List.mem_singleton] at hy
 rcases hy with hy|rfl
 ·exact h0 y hy
 ·exact h1
def errV(c:Int):Value:=if c=0 then .nilIface else .iface 91 (.agg #[.int .i64 c])
theorem errV_0:errV 0=.nilIface:=rfl
theorem errV_ne{c:Int}(h:c≠0):errV c=.iface 91 (.agg #[.int .i64 c]):=if_neg h
end Go.Proofs.YtllmabgollkigaaGreatDoor
namespace Go.Proofs.YtllmabgollkigaaGreatDoor
open Go.RowKit Go.Shelf
set_option linter.unusedVariables false
attribute [local go_sem] Oper.semAt_some
theorem nw1_kids(op:Int)(a1:Option Addr)(l1 c1:Nat)(a2:Option Addr)(l2:Nat)(h2:0<l2)(c2:Nat)(w:World) :
  Calls Tryz.prog 299 #[.agg #[.int .i64 1,.int .i64 op,.slice a1 l1 c1,.slice a2 l2 c2]] w fun e w'=>e=.returned (.iface 91 (.agg #[.int .i64 2]))∧Below w.heap.size w w':=by
 have e1:(l2:Int) > 0:=by omega
 have e2:(0:Int)<(l2:Int):=by omega
 have b0:Below w.heap.size w (w.alloc (.cells #[.int .i64 1,.int .i64 op,.slice a1 l1 c1,.slice a2 l2 c2] 186)):=(Below.refl _ _).alloc (Nat.le_refl _) _
 go_enter Tryz.func299,Tryz.ntmps299
 go_wp2
 go_ret
 exact ⟨rfl,b0⟩
theorem nw1_one(op:Int)(a1:Option Addr)(l1 c1:Nat)(a2:Option Addr)(c2:Nat)(w:World)(b:Bool)(HC:Hid (∀W,Below w.heap.size w W→Calls Tryz.prog 185 #[.agg #[.int .i64 op,.slice a1 l1 c1]] W fun e w'=>e=.returned (.bool b)∧Below W.heap.size W w')) :
  Calls Tryz.prog 299 #[.agg #[.int .i64 1,.int .i64 op,.slice a1 l1 c1,.slice a2 0 c2]] w fun e w'=>e=.returned (if b then .nilIface else .iface 91 (.agg #[.int .i64 3]))∧Below w.heap.size w w':=by
 have b0:Below w.heap.size w (w.alloc (.cells #[.int .i64 1,.int .i64 op,.slice a1 l1 c1,.slice a2 0 c2] 186)):=(Below.refl _ _).alloc (Nat.le_refl _) _
 go_enter Tryz.func299,Tryz.ntmps299
 go_wp2_with fail
 refine (HC.out _ b0).mono ?_
 rintro e w1 ⟨rfl,g1⟩
 have b1:=b0.trans (g1.mono b0.size)
 clear g1 b0
 cases b with
 | true =>
  go_wp2
  go_ret
  exact ⟨rfl,b1⟩
 | false =>
  go_wp2
  go_ret
  exact ⟨rfl,b1⟩
theorem nw2_none(op:Int)(a1:Option Addr)(l1 c1:Nat)(a2:Option Addr)(c2:Nat)(w:World) :
  Calls Tryz.prog 299 #[.agg #[.int .i64 2,.int .i64 op,.slice a1 l1 c1,.slice a2 0 c2]] w fun e w'=>e=.returned (.iface 91 (.agg #[.int .i64 2]))∧Below w.heap.size w w':=by
 have b0:Below w.heap.size w (w.alloc (.cells #[.int .i64 2,.int .i64 op,.slice a1 l1 c1,.slice a2 0 c2] 186)):=(Below.refl _ _).alloc (Nat.le_refl _) _
 go_enter Tryz.func299,Tryz.ntmps299
 go_wp2
 go_ret
 exact ⟨rfl,b0⟩
theorem nw2_one(op:Int)(a1:Option Addr)(l1 c1:Nat)(a2:Option Addr)(c2:Nat)(w:World)(r:Bool)(HN:Hid (∀W,Below w.heap.size w W→Calls Tryz.prog 126 #[.agg #[.int .i64 op,.slice a1 l1 c1]] W fun e w'=>e=.returned (.bool r)∧Below W.heap.size W w')) :
  Calls Tryz.prog 299 #[.agg #[.int .i64 2,.int .i64 op,.slice a1 l1 c1,.slice a2 1 c2]] w fun e w'=>e=.returned (if r then .nilIface else .iface 91 (.agg #[.int .i64 2]))∧Below w.heap.size w w':=by
 have b0:Below w.heap.size w (w.alloc (.cells #[.int .i64 2,.int .i64 op,.slice a1 l1 c1,.slice a2 1 c2] 186)):=(Below.refl _ _).alloc (Nat.le_refl _) _
 go_enter Tryz.func299,Tryz.ntmps299
 go_wp2_with fail
 refine (HN.out _ b0).mono ?_
 rintro e w1 ⟨rfl,g1⟩
 have b1:=b0.trans (g1.mono b0.size)
 clear g1 b0
 cases r with
 | true =>
  go_wp2
  go_ret
  exact ⟨rfl,b1⟩
 | false =>
  go_wp2
  go_ret
  exact ⟨rfl,b1⟩
theorem nw2_more(op:Int)(a1:Option Addr)(l1 c1:Nat)(a2:Option Addr)(l2:Nat)(h2:1<l2)(c2:Nat)(w:World)(r:Bool)(HN:Hid (∀W,Below w.heap.size w W→Calls Tryz.prog 126 #[.agg #[.int .i64 op,.slice a1 l1 c1]] W fun e w'=>e=.returned (.bool r)∧Below W.heap.size W w')) :
  Calls Tryz.prog 299 #[.agg #[.int .i64 2,.int .i64 op,.slice a1 l1 c1,.slice a2 l2 c2]] w fun e w'=>e=.returned (if r then .nilIface else .iface 91 (.agg #[.int .i64 2]))∧Below w.heap.size w w':=by
 have e1:(l2:Int) > 1:=by omega
 have e2:(1:Int)<(l2:Int):=by omega
 have e3:((l2:Int)==0)=false:=by simp;omega
 have b0:Below w.heap.size w (w.alloc (.cells #[.int .i64 2,.int .i64 op,.slice a1 l1 c1,.slice a2 l2 c2] 186)):=(Below.refl _ _).alloc (Nat.le_refl _) _
 go_enter Tryz.func299,Tryz.ntmps299
 go_wp2_with fail
 refine (HN.out _ b0).mono ?_
 rintro e w1 ⟨rfl,g1⟩
 have b1:=b0.trans (g1.mono b0.size)
 clear g1 b0
 cases r with
 | true =>
  go_wp2
  go_ret
  exact ⟨rfl,b1⟩
 | false =>
  go_wp2
  go_ret
  exact ⟨rfl,b1⟩
theorem nw3_none(op:Int)(a1:Option Addr)(l1 c1:Nat)(a2:Option Addr)(c2:Nat)(w:World) :
  Calls Tryz.prog 299 #[.agg #[.int .i64 3,.int .i64 op,.slice a1 l1 c1,.slice a2 0 c2]] w fun e w'=>e=.returned (.iface 91 (.agg #[.int .i64 2]))∧Below w.heap.size w w':=by
 have b0:Below w.heap.size w (w.alloc (.cells #[.int .i64 3,.int .i64 op,.slice a1 l1 c1,.slice a2 0 c2] 186)):=(Below.refl _ _).alloc (Nat.le_refl _) _
 go_enter Tryz.func299,Tryz.ntmps299
 go_wp2
 go_ret
 exact ⟨rfl,b0⟩
theorem nw3_one(op:Int)(a1:Option Addr)(l1 c1:Nat)(a2:Option Addr)(c2:Nat)(w:World)(r:Bool)(HN:Hid (∀W,Below w.heap.size w W→Calls Tryz.prog 126 #[.agg #[.int .i64 op,.slice a1 l1 c1]] W fun e w'=>e=.returned (.bool r)∧Below W.heap.size W w')) :
  Calls Tryz.prog 299 #[.agg #[.int .i64 3,.int .i64 op,.slice a1 l1 c1,.slice a2 1 c2]] w fun e w'=>e=.returned (if r then .nilIface else .iface 91 (.agg #[.int .i64 2]))∧Below w.heap.size w w':=by
 have b0:Below w.heap.size w (w.alloc (.cells #[.int .i64 3,.int .i64 op,.slice a1 l1 c1,.slice a2 1 c2] 186)):=(Below.refl _ _).alloc (Nat.le_refl _) _
 go_enter Tryz.func299,Tryz.ntmps299
 go_wp2_with fail
 refine (HN.out _ b0).mono ?_
 rintro e w1 ⟨rfl,g1⟩
 have b1:=b0.trans (g1.mono b0.size)
 clear g1 b0
 cases r with
 | true =>
  go_wp2
  go_ret
  exact ⟨rfl,b1⟩
 | false =>
  go_wp2
  go_ret
  exact ⟨rfl,b1⟩
theorem nw3_more(op:Int)(a1:Option Addr)(l1 c1:Nat)(a2:Option Addr)(l2:Nat)(h2:1<l2)(c2:Nat)(w:World)(r:Bool)(HN:Hid (∀W,Below w.heap.size w W→Calls Tryz.prog 126 #[.agg #[.int .i64 op,.slice a1 l1 c1]] W fun e w'=>e=.returned (.bool r)∧Below W.heap.size W w')) :
  Calls Tryz.prog 299 #[.agg #[.int .i64 3,.int .i64 op,.slice a1 l1 c1,.slice a2 l2 c2]] w fun e w'=>e=.returned (if r then .nilIface else .iface 91 (.agg #[.int .i64 2]))∧Below w.heap.size w w':=by
 have e1:(l2:Int) > 1:=by omega
 have e2:(1:Int)<(l2:Int):=by omega
 have e3:((l2:Int)==0)=false:=by simp;omega
 have b0:Below w.heap.size w (w.alloc (.cells #[.int .i64 3,.int .i64 op,.slice a1 l1 c1,.slice a2 l2 c2] 186)):=(Below.refl _ _).alloc (Nat.le_refl _) _
 go_enter Tryz.func299,Tryz.ntmps299
 go_wp2_with fail
 refine (HN.out _ b0).mono ?_
 rintro e w1 ⟨rfl,g1⟩
 have b1:=b0.trans (g1.mono b0.size)
 clear g1 b0
 cases r with
 | true =>
  go_wp2
  go_ret
  exact ⟨rfl,b1⟩
 | false =>
  go_wp2
  go_ret
  exact ⟨rfl,b1⟩
theorem nw4_none(op:Int)(a1:Option Addr)(l1 c1:Nat)(a2:Option Addr)(c2:Nat)(w:World) :
  Calls Tryz.prog 299 #[.agg #[.int .i64 4,.int .i64 op,.slice a1 l1 c1,.slice a2 0 c2]] w fun e w'=>e=.returned (.iface 91 (.agg #[.int .i64 2]))∧Below w.heap.size w w':=by
 have b0:Below w.heap.size w (w.alloc (.cells #[.int .i64 4,.int .i64 op,.slice a1 l1 c1,.slice a2 0 c2] 186)):=(Below.refl _ _).alloc (Nat.le_refl _) _
 go_enter Tryz.func299,Tryz.ntmps299
 go_wp2
 go_ret
 exact ⟨rfl,b0⟩
theorem nw4_one(op:Int)(a1:Option Addr)(l1 c1:Nat)(a2:Option Addr)(c2:Nat)(w:World)(r:Bool)(HN:Hid (∀W,Below w.heap.size w W→Calls Tryz.prog 126 #[.agg #[.int .i64 op,.slice a1 l1 c1]] W fun e w'=>e=.returned (.bool r)∧Below W.heap.size W w')) :
  Calls Tryz.prog 299 #[.agg #[.int .i64 4,.int .i64 op,.slice a1 l1 c1,.slice a2 1 c2]] w fun e w'=>e=.returned (if r then .nilIface else .iface 91 (.agg #[.int .i64 2]))∧Below w.heap.size w w':=by
 have b0:Below w.heap.size w (w.alloc (.cells #[.int .i64 4,.int .i64 op,.slice a1 l1 c1,.slice a2 1 c2] 186)):=(Below.refl _ _).alloc (Nat.le_refl _) _
 go_enter Tryz.func299,Tryz.ntmps299
 go_wp2_with fail
 refine (HN.out _ b0).mono ?_
 rintro e w1 ⟨rfl,g1⟩
 have b1:=b0.trans (g1.mono b0.size)
 clear g1 b0
 cases r with
 | true =>
  go_wp2
  go_ret
  exact ⟨rfl,b1⟩
 | false =>
  go_wp2
  go_ret
  exact ⟨rfl,b1⟩
theorem nw4_more(op:Int)(a1:Option Addr)(l1 c1:Nat)(a2:Option Addr)(l2:Nat)(h2:1<l2)(c2:Nat)(w:World) :
  Calls Tryz.prog 299 #[.agg #[.int .i64 4,.int .i64 op,.slice a1 l1 c1,.slice a2 l2 c2]] w fun e w'=>e=.returned (.iface 91 (.agg #[.int .i64 2]))∧Below w.heap.size w w':=by
 have e1:(l2:Int) > 1:=by omega
 have e2:(1:Int)<(l2:Int):=by omega
 have e3:((l2:Int)==0)=false:=by simp;omega
 have b0:Below w.heap.size w (w.alloc (.cells #[.int .i64 4,.int .i64 op,.slice a1 l1 c1,.slice a2 l2 c2] 186)):=(Below.refl _ _).alloc (Nat.le_refl _) _
 go_enter Tryz.func299,Tryz.ntmps299
 go_wp2
 go_ret
 exact ⟨rfl,b0⟩
theorem nw_other(op:Int)(a1:Option Addr)(l1 c1:Nat)(a2:Option Addr)(k:Int)(h1:(k==1)=false)(h2:(k==2)=false)(h3:(k==3)=false)(h4:(k==4)=false)(l2:Nat)(c2:Nat)(w:World) :
  Calls Tryz.prog 299 #[.agg #[.int .i64 k,.int .i64 op,.slice a1 l1 c1,.slice a2 l2 c2]] w fun e w'=>e=.returned (.iface 91 (.agg #[.int .i64 2]))∧Below w.heap.size w w':=by
 have b0:Below w.heap.size w (w.alloc (.cells #[.int .i64 k,.int .i64 op,.slice a1 l1 c1,.slice a2 l2 c2] 186)):=(Below.refl _ _).alloc (Nat.le_refl _) _
 go_enter Tryz.func299,Tryz.ntmps299
 go_wp2
 go_ret
 exact ⟨rfl,b0⟩
theorem netWrong_i(k op:Int)(a1:Option Addr)(l1 c1:Nat)(a2:Option Addr)(l2 c2:Nat)(w:World)(h1:l1≤9223372036854775807)(b:Bool)(HC:Hid (∀W,Below w.heap.size w W→Calls Tryz.prog 185 #[.agg #[.int .i64 op,.slice a1 l1 c1]] W fun e w'=>e=.returned (.bool b)∧Below W.heap.size W w')) :
  Calls Tryz.prog 299 #[.agg #[.int .i64 k,.int .i64 op,.slice a1 l1 c1,.slice a2 l2 c2]] w fun e w'=>e=.returned (errV (cNv k op l1 l2 b))∧Below w.heap.size w w':=by
 have HN:Hid (∀W,Below w.heap.size w W→Calls Tryz.prog 126 #[.agg #[.int .i64 op,.slice a1 l1 c1]] W fun e w'=>e=.returned (.bool (decide (op=0)&&decide (l1=0)))∧Below W.heap.size W w'):=fun W _=>nothing_i op a1 l1 c1 W h1
 have hz:∀k:Int,2≤k→k≤4→∀l:Nat,0<l→(k=4→l=1)→(if (decide (op=0)&&decide (l1=0))=true then Value.nilIface else .iface 91 (.agg #[.int .i64 2]))=errV (cNv k op l1 l b):=by
  intro k hk2 hk4 l hl hk
  by_cases h:op=0∧l1=0
  ·rw [show cNv k op l1 l b=0 by unfold cNv;rw [if_neg (by omega),if_pos ⟨hk2,hk4,h.1,h.2,hl,hk⟩],if_pos (by simp [h.1,h.2])];rfl
  ·rw [show cNv k op l1 l b=2 by unfold cNv;rw [if_neg (by omega),if_neg (fun hh=>h ⟨hh.2.2.1,hh.2.2.2.1⟩)],if_neg (by simpa using h)];rfl
 by_cases k1:k=1
 ·subst k1
  by_cases hl:0<l2
  ·rw [show errV (cNv 1 op l1 l2 b)=.iface 91 (.agg #[.int .i64 2]) by unfold cNv;rw [if_pos rfl,if_pos hl];rfl]
   exact nw1_kids op a1 l1 c1 a2 l2 hl c2 w
  ·have hl0:l2=0:=by omega
   subst hl0
   rw [show errV (cNv 1 op l1 0 b)=(if b then .nilIface else .iface 91 (.agg #[.int .i64 3])) by cases b<;>rfl]
   exact nw1_one op a1 l1 c1 a2 c2 w b HC
 ·by_cases hk:2≤k∧k≤4
  ·by_cases hl:l2=0
   ·subst hl
    rw [show errV (cNv k op l1 0 b)=.iface 91 (.agg #[.int .i64 2]) by unfold cNv;rw [if_neg k1,if_neg (fun hh=>by omega)];rfl]
    rcases (by omega:k=2∨k=3∨k=4) with rfl|rfl|rfl
    ·exact nw2_none op a1 l1 c1 a2 c2 w
    ·exact nw3_none op a1 l1 c1 a2 c2 w
    ·exact nw4_none op a1 l1 c1 a2 c2 w
   ·by_cases hl1:l2=1
    ·subst hl1
     rw [←hz k hk.1 hk.2 1 (by omega) (fun _=>rfl)]
     rcases (by omega:k=2∨k=3∨k=4) with rfl|rfl|rfl
     ·exact nw2_one op a1 l1 c1 a2 c2 w _ HN
     ·exact nw3_one op a1 l1 c1 a2 c2 w _ HN
     ·exact nw4_one op a1 l1 c1 a2 c2 w _ HN
    ·by_cases h4:k=4
     ·subst h4
      rw [show errV (cNv 4 op l1 l2 b)=.iface 91 (.agg #[.int .i64 2]) by unfold cNv;rw [if_neg k1,if_neg (fun hh=>hl1 (hh.2.2.2.2.2 rfl))];rfl]
      exact nw4_more op a1 l1 c1 a2 l2 (by omega) c2 w
     ·rw [←hz k hk.1 hk.2 l2 (by omega) (fun h=>absurd h h4)]
      rcases (by omega:k=2∨k=3) with rfl|rfl
      ·exact nw2_more op a1 l1 c1 a2 l2 (by omega) c2 w _ HN
      ·exact nw3_more op a1 l1 c1 a2 l2 (by omega) c2 w _ HN
  ·rw [show errV (cNv k op l1 l2 b)=.iface 91 (.agg #[.int .i64 2]) by unfold cNv;rw [if_neg k1,if_neg (fun hh=>hk ⟨hh.1,hh.2.1⟩)];rfl]
   exact nw_other op a1 l1 c1 a2 k (by simpa using k1) (by simp;omega) (by simp;omega) (by simp;omega) l2 c2 w
set_option maxRecDepth 10000 in
theorem armWrong_i(k op:Int)(a1:Option Addr)(l1 c1:Nat)(a2:Option Addr)(l2 c2:Nat)(v3:Value)(coils:List ElemT)(a4:Option Addr)(l4 c4:Nat)(r nn:Bool)(w:World)(lo:Nat)(hv:ElemsIs w lo v3 coils)(cl:Int→List ArgT→Bool)
  (HL:Hid (∀W,Below w.heap.size w W→∀op v xs,ArgsIs W lo v xs→Calls Tryz.prog 156 #[.agg #[.int .i64 op,v]] W fun e w'=>e=.returned (.bool (cl op xs))∧Below W.heap.size W w'))
  (HN:Hid (∀W,Calls Tryz.prog 93 #[.agg #[.int .i64 k,.int .i64 op,.slice a1 l1 c1,.slice a2 l2 c2]] W fun e w'=>e=.returned (.bool nn)∧Below W.heap.size W w')) :
  Calls Tryz.prog 285 #[.agg #[.int .i64 k,.int .i64 op,.slice a1 l1 c1,.slice a2 l2 c2,v3,.slice a4 l4 c4,.bool r]] w fun e w'=>e=.returned (errV (cAv r nn (coils.all fun e=>cl e.op e.args) coils.length l4))∧Below w.heap.size w w':=by
 obtain ⟨a3,c3,rfl,hl3,hx⟩:=hv
 have HX:Hid (∀j x,coils[j]?=some x→∃b o cs,a3=some ⟨b,o,none⟩∧lo≤b∧cs.length=2∧w.rangeAt b (o+j*2) cs∧ElemIs w lo x cs):=hx
 obtain ⟨l3,HL3⟩:∃l3,Hid (l3=coils.length):=⟨_,rfl⟩
 rw [←HL3.out] at hl3 ⊢
 clear hx
 obtain ⟨OK,HOK⟩:∃ok,Hid (ok=coils.all fun e=>cl e.op e.args):=⟨_,rfl⟩
 rw [←HOK.out]
 obtain ⟨W0,hW0⟩:∃W0,W0=w.alloc (.cells #[.int .i64 k,.int .i64 op,.slice a1 l1 c1,.slice a2 l2 c2,.slice a3 l3 c3,.slice a4 l4 c4,.bool r] 157):=⟨_,rfl⟩
 have hk0:=heap_alloc_last w (.cells #[.int .i64 k,.int .i64 op,.slice a1 l1 c1,.slice a2 l2 c2,.slice a3 l3 c3,.slice a4 l4 c4,.bool r] 157)
 have b0:Below w.heap.size w (w.alloc (.cells #[.int .i64 k,.int .i64 op,.slice a1 l1 c1,.slice a2 l2 c2,.slice a3 l3 c3,.slice a4 l4 c4,.bool r] 157)):=(Below.refl _ _).alloc (Nat.le_refl _) _
 have HK0:Hid ((w.alloc (.cells #[.int .i64 k,.int .i64 op,.slice a1 l1 c1,.slice a2 l2 c2,.slice a3 l3 c3,.slice a4 l4 c4,.bool r] 157)).heap[w.heap.size]?=some (.cells #[.int .i64 k,.int .i64 op,.slice a1 l1 c1,.slice a2 l2 c2,.slice a3 l3 c3,.slice a4 l4 c4,.bool r] 157 (0,0))∧w.heap.size<(w.alloc (.cells #[.int .i64 k,.int .i64 op,.slice a1 l1 c1,.slice a2 l2 c2,.slice a3 l3 c3,.slice a4 l4 c4,.bool r] 157)).heap.size):=⟨hk0,by simp⟩
 clear hk0 hW0 W0
 -- what follows behind the first test
 have TAIL:(r&&nn)=false→∀(W:World)(t7 t8 t9 t10 t11:Value),Below w.heap.size w W→W.heap[w.heap.size]?=some (.cells #[.int .i64 k,.int .i64 op,.slice a1 l1 c1,.slice a2 l2 c2,.slice a3 l3 c3,.slice a4 l4 c4,.bool r] 157 (0,0))→True:=fun _ _ _ _ _ _ _ _ _=>trivial
 clear TAIL
 cases r with
 | false =>
  have kS:=HK0.out.1
  have bS:=b0
  clear HK0 b0 HN
  go_enter Tryz.func285,Tryz.ntmps285
  have q0:(0:Int)≤(l3:Int):=by omega
  go_wp2
  go_loopg [19] l3 (fun g i wr=>∃n:Nat,n+g=l3∧i=.int .i64 n∧Hid (∀e∈coils.take n,cl e.op e.args=true)∧Below w.heap.size w wr∧wr.heap[w.heap.size]?=some (.cells #[.int .i64 k,.int .i64 op,.slice a1 l1 c1,.slice a2 l2 c2,.slice a3 l3 c3,.slice a4 l4 c4,.bool false] 157 (0,0)))
  case atStart=>exact ⟨0,by omega,rfl,fun e he=>by simp at he,bS,kS⟩
  case round =>
   obtain ⟨n,hn,rfl,HA,hb,hk⟩:=hrel
   by_cases hlt:n<l3
   ·have i2:(n:Int)<(l3:Int):=by omega
    have i3:(0:Int)≤(n:Int):=by omega
    obtain ⟨x,hxn⟩:∃x,coils[n]?=some x:=⟨_,List.getElem?_eq_getElem (by have:=HL3.out;omega)⟩
    obtain ⟨b,o,cs,rfl,hlo,hcs,hrg,v,rfl,hR⟩:=HX.out n x hxn
    have hkk:=Keeps.of_below hb lo
    have x0:wr.cell? ⟨b,o+n*2,none⟩=some (.int .i64 x.op):=hkk _ _ _ hlo (hrg 0 _ rfl)
    have x1:wr.cell? ⟨b,o+n*2+1,none⟩=some v:=hkk _ _ _ hlo (hrg 1 _ rfl)
    obtain ⟨a5,c5,hv5,hl5,_⟩:=id hR
    have hRw:ArgsIs wr lo v x.args:=zap hkk (Nat.le_refl _) hR
    subst hv5
    obtain ⟨l5,HL5⟩:∃l5,Hid (l5=x.args.length):=⟨_,rfl⟩
    rw [←HL5.out] at x1 hRw hl5
    have gA:Below wr.heap.size wr (wr.alloc (.cells #[.int .i64 x.op,.slice a5 l5 c5] 50)):=(Below.refl _ _).alloc (Nat.le_refl _) _
    have hc:=HL.out _ (hb.trans (gA.mono hb.size)) x.op _ x.args (zap (Keeps.of_below gA lo) (Nat.le_refl _) hRw)
    have HC:Hid (Calls Tryz.prog 156 #[.agg #[.int .i64 x.op,.slice a5 l5 c5]] (wr.alloc (.cells #[.int .i64 x.op,.slice a5 l5 c5] 50)) fun e w'=>e=.returned (.bool (cl x.op x.args))∧Below (wr.alloc (.cells #[.int .i64 x.op,.slice a5 l5 c5] 50)).heap.size (wr.alloc (.cells #[.int .i64 x.op,.slice a5 l5 c5] 50)) w'):=hc
    have HB:Hid (Below w.heap.size w (wr.alloc (.cells #[.int .i64 x.op,.slice a5 l5 c5] 50))∧(wr.alloc (.cells #[.int .i64 x.op,.slice a5 l5 c5] 50)).heap[w.heap.size]?=some (.cells #[.int .i64 k,.int .i64 op,.slice a1 l1 c1,.slice a2 l2 c2,.slice (some ⟨b,o,none⟩) l3 c3,.slice a4 l4 c4,.bool false] 157 (0,0))):=⟨hb.trans (gA.mono hb.size),(gA.block _ (Array.getElem?_eq_some_iff.1 hk).1).trans hk⟩
    clear hc gA hRw hkk hb hk hrg hcs hR hl5
    go_wp2_with fail
    refine HC.out.mono ?_
    rintro e w1 ⟨rfl,g1⟩
    have b1:Below w.heap.size w w1:=HB.out.1.trans (g1.mono HB.out.1.size)
    have k1:Hid (w1.heap[w.heap.size]?=some (.cells #[.int .i64 k,.int .i64 op,.slice a1 l1 c1,.slice a2 l2 c2,.slice (some ⟨b,o,none⟩) l3 c3,.slice a4 l4 c4,.bool false] 157 (0,0))):=(g1.block _ (Array.getElem?_eq_some_iff.1 HB.out.2).1).trans HB.out.2
    have HD:Hid (coils[n]?=some x):=hxn
    clear g1 HB HC x0 x1 hxn
    obtain ⟨bb,HBB⟩:∃bb,Hid (bb=cl x.op x.args):=⟨_,rfl⟩
    rw [←HBB.out]
    cases bb with
    | true =>
     go_wp2
     go_roundg (gk-1)
     case measure=>omega
     case rel =>
      refine ⟨n+1,by omega,by simp,?_,b1,k1.out⟩
      intro e he
      rw [List.take_add_one,HD.out] at he
      simp only [Option.toList_some,List.mem_append,List.mem_singleton] at he
      rcases he with he|rfl
      ·exact HA.out e he
      ·exact HBB.out.symm
    | false =>
     go_wp2
     go_ret
     refine ⟨?_,b1⟩
     have hall:OK=false:=by
      rw [HOK.out]
      exact List.all_eq_false.2 ⟨x,List.mem_of_getElem? HD.out,by rw [←HBB.out];simp⟩
     (try rw [hall]);(try cases nn)<;>rfl
   ·have i2:¬((n:Int)<(l3:Int)):=by omega
    have hall:OK=true:=by
     rw [HOK.out]
     exact List.all_eq_true.2 (fun e he=>HA.out e (by rw [List.take_of_length_le (by have:=HL3.out;omega)];exact he))
    have d4:wr.cell? ⟨w.heap.size,4,none⟩=some (.slice a3 l3 c3):=(cell_of_row _ _ _ _ _ _ hk).trans rfl
    have d5:wr.cell? ⟨w.heap.size,5,none⟩=some (.slice a4 l4 c4):=(cell_of_row _ _ _ _ _ _ hk).trans rfl
    clear hk
    by_cases hz:l3=0
    ·have z3:((l3:Int)==0)=true:=by simp [hz]
     by_cases hz4:l4=0
     ·have z4:((l4:Int)==0)=true:=by simp [hz4]
      have HZ:Hid (l3=0∧l4=0):=⟨hz,hz4⟩
      clear hz hz4 hlt hn
      go_wp2
      go_ret
      exact ⟨by (try rw [hall]);rw [HZ.out.1,HZ.out.2];(try cases nn)<;>rfl,hb⟩
     ·have z4:((l4:Int)==0)=false:=by simp;omega
      have HZ:Hid (¬(l3=0∧l4=0)):=fun h=>hz4 h.2
      clear hz hz4 hlt hn
      go_wp2
      go_ret
      exact ⟨by (try rw [hall]);unfold cAv;rw [if_neg (by simp),if_pos rfl,if_neg HZ.out];rfl,hb⟩
    ·have z3:((l3:Int)==0)=false:=by simp;omega
     have HZ:Hid (¬(l3=0∧l4=0)):=fun h=>hz h.1
     clear hz hlt hn
     go_wp2
     go_ret
     exact ⟨by (try rw [hall]);unfold cAv;rw [if_neg (by simp),if_pos rfl,if_neg HZ.out];rfl,hb⟩
 | true =>
  go_enter Tryz.func285,Tryz.ntmps285
  go_wp2_with fail
  refine (HN.out _).mono ?_
  rintro e w1 ⟨rfl,g1⟩
  have kS:=(g1.block _ HK0.out.2).trans HK0.out.1
  have bS:=b0.trans (g1.mono b0.size)
  clear g1 b0 HK0
  cases nn with
  | true =>
   clear kS
   go_wp2
   go_ret
   exact ⟨rfl,bS⟩
  | false =>
   have m4:w1.cell? ⟨w.heap.size,4,none⟩=some (.slice a3 l3 c3):=(cell_of_row _ _ _ _ _ _ kS).trans rfl
   have q0:(0:Int)≤(l3:Int):=by omega
   go_wp2
   go_loopg [19] l3 (fun g i wr=>∃n:Nat,n+g=l3∧i=.int .i64 n∧Hid (∀e∈coils.take n,cl e.op e.args=true)∧Below w.heap.size w wr∧wr.heap[w.heap.size]?=some (.cells #[.int .i64 k,.int .i64 op,.slice a1 l1 c1,.slice a2 l2 c2,.slice a3 l3 c3,.slice a4 l4 c4,.bool true] 157 (0,0)))
   case atStart=>exact ⟨0,by omega,rfl,fun e he=>by simp at he,bS,kS⟩
   case round =>
    obtain ⟨n,hn,rfl,HA,hb,hk⟩:=hrel
    by_cases hlt:n<l3
    ·have i2:(n:Int)<(l3:Int):=by omega
     have i3:(0:Int)≤(n:Int):=by omega
     obtain ⟨x,hxn⟩:∃x,coils[n]?=some x:=⟨_,List.getElem?_eq_getElem (by have:=HL3.out;omega)⟩
     obtain ⟨b,o,cs,rfl,hlo,hcs,hrg,v,rfl,hR⟩:=HX.out n x hxn
     have hkk:=Keeps.of_below hb lo
     have x0:wr.cell? ⟨b,o+n*2,none⟩=some (.int .i64 x.op):=hkk _ _ _ hlo (hrg 0 _ rfl)
     have x1:wr.cell? ⟨b,o+n*2+1,none⟩=some v:=hkk _ _ _ hlo (hrg 1 _ rfl)
     obtain ⟨a5,c5,hv5,hl5,_⟩:=id hR
     have hRw:ArgsIs wr lo v x.args:=zap hkk (Nat.le_refl _) hR
     subst hv5
     obtain ⟨l5,HL5⟩:∃l5,Hid (l5=x.args.length):=⟨_,rfl⟩
     rw [←HL5.out] at x1 hRw hl5
     have gA:Below wr.heap.size wr (wr.alloc (.cells #[.int .i64 x.op,.slice a5 l5 c5] 50)):=(Below.refl _ _).alloc (Nat.le_refl _) _
     have hc:=HL.out _ (hb.trans (gA.mono hb.size)) x.op _ x.args (zap (Keeps.of_below gA lo) (Nat.le_refl _) hRw)
     have HC:Hid (Calls Tryz.prog 156 #[.agg #[.int .i64 x.op,.slice a5 l5 c5]] (wr.alloc (.cells #[.int .i64 x.op,.slice a5 l5 c5] 50)) fun e w'=>e=.returned (.bool (cl x.op x.args))∧Below (wr.alloc (.cells #[.int .i64 x.op,.slice a5 l5 c5] 50)).heap.size (wr.alloc (.cells #[.int .i64 x.op,.slice a5 l5 c5] 50)) w'):=hc
     have HB:Hid (Below w.heap.size w (wr.alloc (.cells #[.int .i64 x.op,.slice a5 l5 c5] 50))∧(wr.alloc (.cells #[.int .i64 x.op,.slice a5 l5 c5] 50)).heap[w.heap.size]?=some (.cells #[.int .i64 k,.int .i64 op,.slice a1 l1 c1,.slice a2 l2 c2,.slice (some ⟨b,o,none⟩) l3 c3,.slice a4 l4 c4,.bool true] 157 (0,0))):=⟨hb.trans (gA.mono hb.size),(gA.block _ (Array.getElem?_eq_some_iff.1 hk).1).trans hk⟩
     clear hc gA hRw hkk hb hk hrg hcs hR hl5
     go_wp2_with fail
     refine HC.out.mono ?_
     rintro e w1 ⟨rfl,g1⟩
     have b1:Below w.heap.size w w1:=HB.out.1.trans (g1.mono HB.out.1.size)
     have k1:Hid (w1.heap[w.heap.size]?=some (.cells #[.int .i64 k,.int .i64 op,.slice a1 l1 c1,.slice a2 l2 c2,.slice (some ⟨b,o,none⟩) l3 c3,.slice a4 l4 c4,.bool true] 157 (0,0))):=(g1.block _ (Array.getElem?_eq_some_iff.1 HB.out.2).1).trans HB.out.2
     have HD:Hid (coils[n]?=some x):=hxn
     clear g1 HB HC x0 x1 hxn
     obtain ⟨bb,HBB⟩:∃bb,Hid (bb=cl x.op x.args):=⟨_,rfl⟩
     rw [←HBB.out]
     cases bb with
     | true =>
      go_wp2
      go_roundg (gk-1)
      case measure=>omega
      case rel =>
       refine ⟨n+1,by omega,by simp,?_,b1,k1.out⟩
       intro e he
       rw [List.take_add_one,HD.out] at he
       simp only [Option.toList_some,List.mem_append,List.mem_singleton] at he
       rcases he with he|rfl
       ·exact HA.out e he
       ·exact HBB.out.symm
     | false =>
      go_wp2
      go_ret
      refine ⟨?_,b1⟩
      have hall:OK=false:=by
       rw [HOK.out]
       exact List.all_eq_false.2 ⟨x,List.mem_of_getElem? HD.out,by rw [←HBB.out];simp⟩
      (try rw [hall]);rfl
    ·have i2:¬((n:Int)<(l3:Int)):=by omega
     have hall:OK=true:=by
      rw [HOK.out]
      exact List.all_eq_true.2 (fun e he=>HA.out e (by rw [List.take_of_length_le (by have:=HL3.out;omega)];exact he))
     have d4:wr.cell? ⟨w.heap.size,4,none⟩=some (.slice a3 l3 c3):=(cell_of_row _ _ _ _ _ _ hk).trans rfl
     have d5:wr.cell? ⟨w.heap.size,5,none⟩=some (.slice a4 l4 c4):=(cell_of_row _ _ _ _ _ _ hk).trans rfl
     clear hk
     by_cases hz:l3=0
     ·have z3:((l3:Int)==0)=true:=by simp [hz]
      by_cases hz4:l4=0
      ·have z4:((l4:Int)==0)=true:=by simp [hz4]
       have HZ:Hid (l3=0∧l4=0):=⟨hz,hz4⟩
       clear hz hz4 hlt hn
       go_wp2
       go_ret
       exact ⟨by (try rw [hall]);rw [HZ.out.1,HZ.out.2];rfl,hb⟩
      ·have z4:((l4:Int)==0)=false:=by simp;omega
       have HZ:Hid (¬(l3=0∧l4=0)):=fun h=>hz4 h.2
       clear hz hz4 hlt hn
       go_wp2
       go_ret
       exact ⟨by (try rw [hall]);unfold cAv;rw [if_neg (by simp),if_pos rfl,if_neg HZ.out];rfl,hb⟩
     ·have z3:((l3:Int)==0)=false:=by simp;omega
      have HZ:Hid (¬(l3=0∧l4=0)):=fun h=>hz h.1
      clear hz hlt hn
      go_wp2
      go_ret
      exact ⟨by (try rw [hall]);unfold cAv;rw [if_neg (by simp),if_pos rfl,if_neg HZ.out];rfl,hb⟩
attribute [local go_sem] Oper.semAt_some
theorem part_wrong{w:World}(ct cl:Int→List ArgT→Bool)
  (HC:∀W,Below w.heap.size w W→∀op v xs,ArgsIs W 0 v xs→Calls Tryz.prog 185 #[.agg #[.int .i64 op,v]] W fun e w'=>e=.returned (.bool (ct op xs))∧Below W.heap.size W w')
  (HL:∀W,Below w.heap.size w W→∀op v xs,ArgsIs W 0 v xs→Calls Tryz.prog 156 #[.agg #[.int .i64 op,v]] W fun e w'=>e=.returned (.bool (cl op xs))∧Below W.heap.size W w')
  (x:Value×PartT) (h:POk w x):∃T u f,x.1=.iface T u∧(∀W,Below w.heap.size w W→Calls Tryz.prog f #[u] W fun e w'=>e=.returned (errV (cP ct cl x.2))∧Below W.heap.size W w')∧((T=186∧f=299)∨(T=157∧f=285)):=by
 obtain ⟨v,g⟩:=x
 cases g with
 | inl t =>
  obtain ⟨m,cs,hN,hw,hv⟩:=h
  subst hv
  refine ⟨_,_,_,rfl,fun W hb=>?_,.inl ⟨rfl,rfl⟩⟩
  cases m with
  | zero=>exact hN.elim
  | succ m =>
   cases t with
   | mk k e kids =>
    obtain ⟨v1,v2,rfl,ha,hk⟩:=hN
    obtain ⟨a1,c1,rfl,hl1,_⟩:=id ha
    obtain ⟨a2,c2,rfl,hl2,_⟩:=id hk
    exact netWrong_i k e.op a1 _ c1 a2 _ c2 W hl1 _ (fun W' g=>HC W' (hb.trans (g.mono hb.size)) e.op _ e.args (zap (Keeps.of_below (hb.trans (g.mono hb.size)) 0) (Nat.le_refl _) ha))
 | inr a =>
  obtain ⟨a,r⟩:=a
  obtain ⟨m,cs,hA,hw,hv⟩:=h
  subst hv
  refine ⟨_,_,_,rfl,fun W hb=>?_,.inr ⟨rfl,rfl⟩⟩
  cases m with
  | zero=>exact hA.elim
  | succ m =>
   cases a with
   | mk net coils kids =>
    obtain ⟨ns,v3,v4,rfl,hn,hc,hk⟩:=hA
    cases m with
    | zero=>exact hn.elim
    | succ m =>
     cases net with
     | mk k e nk =>
      obtain ⟨v1,v2,rfl,ha,hnk⟩:=hn
      obtain ⟨a1,c1,rfl,hl1,_⟩:=id ha
      obtain ⟨a2,c2,rfl,hl2,_⟩:=id hnk
      obtain ⟨a4,c4,rfl,hl4,_⟩:=id hk
      exact armWrong_i k e.op a1 _ c1 a2 _ c2 v3 coils a4 _ c4 r (zce (.mk k e nk)) W 0 (zdt (Keeps.of_below hb 0) (Nat.le_refl _) hc) cl (fun W' g=>HL W' (hb.trans (g.mono hb.size))) (fun W'=>by rw [zfb];exact none_i k e.op a1 _ c1 a2 _ c2 W' hl1 hl2)
theorem szP_sizes{w:World}(ys:List (PartW w)):zdc ys=szP (zaf ys):=rfl
theorem szP_pre{a b:List PartT}(h:a <+: b):szP a≤szP b:=by
 obtain ⟨z,rfl⟩:=h
 rw [szP_app];omega
theorem szP_lenT'(m:Nat)(xs:List ArmT):szP (xs.flatMap (pArm m true))=szP (xs.flatMap (pArm m false)):=by
 rw [zci,zci]
 congr 1
 exact List.map_congr_left fun x _=>szP_flag m true x
theorem fit_snoc{w:World}{L:List PartT}{pre:List (PartW w)}{x:PartW w}(h:Fit L pre [x.1.2]):zaf (pre++[x]) <+: L:=by
 have:zaf (pre++[x])=zaf pre++[x.1.2]:=by simp [zaf]
 rw [this];exact h
set_option maxRecDepth 100000 in
theorem many_i(m:Nat)(v:Value)(xs:List ArmT)(w:World)(hv:ArmsIs w 0 m v xs)(hw:(xs.map (wA m)).sum≤1048576)(hP:(xs.flatMap (pArm m true)).length≤4194304) :
  Calls Tryz.prog 84 #[v] w fun e w'=>e=.returned (.bool (zfl m xs))∧Below w.heap.size w w':=by
 refine (callsIn_wide (n:=5)).1 ?_
 refine callsIn_of_wp_marks Tryz.func84 rfl trivial ?_ rfl
 simp only [Tryz.ntmps84,List.size_toArray,List.length_cons,List.length_nil,Nat.reduceAdd,Nat.reduceSub,Array.replicate_succ,Array.replicate_zero,List.push_toArray,List.append_toArray,List.nil_append,List.cons_append]
 have hdd:∀k:Nat,(Fence.wide.depth.isSome=true→1≤k):=fun k h=>by cases h
 obtain ⟨a,cap,rfl,hlen,_⟩:=id hv
 have hM:zfl m xs=(decide (40<xs.length)||decide (400<szP (xs.flatMap (pArm m true)))):=by unfold zfl;rw [szP_lenT']
 obtain ⟨MT,HMT⟩:∃b,Hid (b=zfl m xs):=⟨_,rfl⟩
 rw [←HMT.out]
 have HM:Hid (MT=(decide (40<xs.length)||decide (400<szP (xs.flatMap (pArm m true))))):=(by rw [HMT.out,hM]:MT=_)
 clear hM
 have r0:=heap_alloc_last w (.cells #[.bool false] 4)
 by_cases h40:40<xs.length
 ·have g40:(xs.length:Int) > 40:=by omega
  have g40':(40:Int)<(xs.length:Int):=by omega
  have HMT2:Hid (MT=true):=(by rw [HM.out];simp [h40]:MT=true)
  clear h40 r0 hv hw hP hlen
  gi_wp2
  exact ⟨.bool true,by simp [results,Tryz.results84,go_sem],by rw [HMT2.out],(Below.refl _ _).alloc (Nat.le_refl _) _⟩
 ·have g40:¬((xs.length:Int) > 40):=by omega
  have g40':¬((40:Int)<(xs.length:Int)):=by omega
  gi_wp2_with (refine ⟨trivial,?_⟩;gi_at_call 49;refine (callsIn_wide.2 (parts_i _ _ _ _)).mono ?_;rintro e w' ⟨rfl,rfl⟩)
  obtain ⟨W0,hW0⟩:∃W0,((w.alloc (.cells #[.bool false] 4)).alloc (.cells #[.int .i64 0] 3)).alloc (.cells #[.slice a xs.length cap] 23)=W0:=⟨_,rfl⟩
  have hk:=rows3 w (.cells #[.bool false] 4) (.cells #[.int .i64 0] 3) (.cells #[.slice a xs.length cap] 23)
  have b0:Below w.heap.size w W0:=by rw [←hW0];exact (((Below.refl _ _).alloc (Nat.le_refl _) _).alloc (by simp) _).alloc (by simp<;>omega) _
  have hsz:W0.heap.size=w.heap.size+1+1+1:=by rw [←hW0];simp
  try simp only [World.size_alloc]
  rw [hW0] at hk ⊢
  have rr:W0.heap[w.heap.size]?=some (.cells #[.bool false] 4 (0,0)):=hk.1
  have c0:W0.cell? ⟨w.heap.size+1,0,none⟩=some (.int .i64 0):=(cell_of_row _ _ _ _ _ _ hk.2.1).trans rfl
  have f0:W0.frozen? ⟨w.heap.size+1,0,none⟩=false:=by simp [World.frozen?,hk.2.1]
  have c1:W0.cell? ⟨w.heap.size+1+1,0,none⟩=some (.slice a xs.length cap):=(cell_of_row _ _ _ _ _ _ hk.2.2).trans rfl
  refine range_n (α:=PartW w) (gf:=89) (lb:=#[.pointer (some ⟨w.heap.size+1+1,0,none⟩)]) rfl (enters_of Tryz.func89 (by kernel_rfl) rfl) (parts_seq w (w.heap.size+1) (w.heap.size+1+1) m (5-1) (by omega) (by omega) _ xs W0 b0 (by omega) c1 hv hw) (fun h k=>h.trans k) (kd_l (by omega)) (fun h k=>h.trans k) (kq_l (Nat.le_refl _)) (Below.refl _ _) (fun _=>rfl)
   (fun pre W=>(W.cell? ⟨w.heap.size+1,0,none⟩=some (.int .i64 (zdc pre:Nat))∧W.frozen? ⟨w.heap.size+1,0,none⟩=false)∧Below w.heap.size w W∧W.heap[w.heap.size]?=some (.cells #[.bool false] 4 (0,0))∧zdc pre≤400)
   (fun c pre W=>c=.ret∧Below w.heap.size w W∧W.heap[w.heap.size]?=some (.cells #[.bool true] 4 (0,0))∧400<zdc pre∧zaf pre <+: xs.flatMap (pArm m true))
   (fun s X Y g hs=>⟨⟨zdl g (by omega) hs.1.1,dep_frozen g (by omega) hs.1.2⟩,hs.2.1.trans (g.mono (by omega)),(g.block _ (by omega)).trans hs.2.2.1,hs.2.2.2⟩)
   (fun c s X Y g hs=>⟨hs.1,hs.2.1.trans (g.mono (by omega)),(g.block _ (by omega)).trans hs.2.2.1,hs.2.2.2⟩)
   ⟨⟨c0,f0⟩,b0,rr,by simp [zdc,zaf]⟩
   (fun x=>{ tmps:=#[.slice a xs.length cap,undef,.pointer (some ⟨w.heap.size,0,none⟩),.pointer (some ⟨w.heap.size+1,0,none⟩),x.1.1,.slice a xs.length cap,.int .i64 xs.length,.bool false,.slice a xs.length cap,.func (.func 89) #[] #[.pointer (some ⟨w.heap.size+1+1,0,none⟩)],x.1.1,undef,undef,undef,undef,undef,undef],defers:=[] }) ?assign ?body ?done ?stop
  case assign =>
   intro l x W K hK
   gi_wp2
   exact hK
  case body =>
   rintro l pre x W ⟨⟨hc,hf⟩,hB,hrr,h400⟩ hpre
   obtain ⟨T,u,f,hx,hcall,hT⟩:=part_size x.1 x.2
   have hp:=pSize_le x
   have hpx:=fit_snoc hpre
   have HPX:Hid (zaf (pre++[x]) <+: xs.flatMap (pArm m true)):=hpx
   have hsn:=zin pre x
   have hwr:IntKind.i64.wrap (((zdc pre:Nat):Int)+((pSize x.1.2:Nat):Int))=((zdc (pre++[x]):Nat):Int):=by
    rw [zin,wrap_small64 (by omega) (by omega)];omega
   have hbig:zdc (pre++[x])≤2000000:=by omega
   obtain ⟨S,HS⟩:∃S,Hid (S=zdc (pre++[x])):=⟨_,rfl⟩
   rw [←HS.out] at hwr hbig
   clear hsn hp hpx hpre
   rcases hT with ⟨rfl,rfl⟩|⟨rfl,rfl⟩
   all_goals
    rw [hx]
    have hmx:Tryz.prog.follows .mixedOrders=true:=by kernel_rfl
   ·have hmeth : ∀ W, (method 419 186 u "loop.example/stile/impl.size").run Tryz.prog W = .ok (297, u) W := fun W => by kernel_rfl
    gi_wp2
    gi_region_with_o ((first|refine ⟨trivial,?_⟩|refine ⟨fun _ _=>trivial,?_⟩|skip);gi_at_call 297;refine (CallsIn.inRound l (callsIn_wide.2 (hcall _))).mono ?_;rintro e w' ⟨rfl,g⟩;have hc':w'.cell? ⟨w.heap.size+1,0,none⟩=some (.int .i64 (zdc pre:Nat)):=(Keeps.of_below g 0) _ _ _ (Nat.zero_le _) (by simpa using hc);have hf':w'.frozen? ⟨w.heap.size+1,0,none⟩=false:=zhk g (by simpa using hf) (by simpa using hc))
    all_goals
     obtain ⟨q1,q2,q3,q4⟩:=round_end (n₀:=w.heap.size) (B:=w.heap.size+1) (by omega) hB.size (.inr rfl) g hc' hf' (.int .i64 ((S:Nat):Int))
     have rr2:(w'.setCell ⟨w.heap.size+1,0,none⟩ (.int .i64 ((S:Nat):Int))).heap[w.heap.size]?=some (.cells #[.bool false] 4 (0,0)):=q2.2 _ _ _ _ (by omega) hrr
     have bb:=hB.trans q2.1
     obtain ⟨V,hV⟩:∃V,w'.setCell ⟨w.heap.size+1,0,none⟩ (.int .i64 ((S:Nat):Int))=V:=⟨_,rfl⟩
     rw [hV] at q1 q2 q3 q4 rr2 bb ⊢
     clear hc' hf' g hc hf
     by_cases hb4:400<S
     ·have z:(S:Int) > 400:=by omega
      have z':(400:Int)<(S:Int):=by omega
      have d0:V.cell? ⟨w.heap.size,0,none⟩=some (.bool false):=(cell_of_row _ _ _ _ _ _ rr2).trans rfl
      have d1:V.frozen? ⟨w.heap.size,0,none⟩=false:=by simp [World.frozen?,rr2]
      have HP:Hid (KeepsFrom W0.heap.size W (V.setCell ⟨w.heap.size,0,none⟩ (.bool true))∧KQ (W0.heap.size+2) W (V.setCell ⟨w.heap.size,0,none⟩ (.bool true))∧Below w.heap.size w (V.setCell ⟨w.heap.size,0,none⟩ (.bool true))∧(V.setCell ⟨w.heap.size,0,none⟩ (.bool true)).heap[w.heap.size]?=some (.cells #[.bool true] 4 (0,0))∧400<zdc (pre++[x])∧zaf (pre++[x]) <+: xs.flatMap (pArm m true)):=by
       refine ⟨(q1.trans (KeepsOthers.setCell _ _ _)).from _,⟨fun b C t f hb hc=>?_,(q1.trans (KeepsOthers.setCell _ _ _)).from _⟩,bb.setCell (p:=⟨w.heap.size,0,none⟩) (Nat.le_refl _) _,zcn rr2 _ _,by rw [←HS.out];exact hb4,HPX.out⟩
       exact zbm (q2.2 b C t f (by omega) hc) _ _ (by omega) _
      clear hb4 q1 q2 rr2 bb
      gi_wp2
      obtain ⟨p1,p2,p3,p4,p5,p6⟩:=HP.out
      exact ⟨by first|exact p1|(rw [hsz] at p1;exact p1),by first|exact p2|(rw [hsz] at p2;exact p2),rfl,p3,p4,p5,p6⟩
     ·have z:¬((S:Int) > 400):=by omega
      have z':¬((400:Int)<(S:Int)):=by omega
      have HP:Hid (KeepsFrom W0.heap.size W V∧KD w.heap.size (w.heap.size+1) (W0.heap.size+2) W V∧((V.cell? ⟨w.heap.size+1,0,none⟩=some (.int .i64 (zdc (pre++[x]):Nat))∧V.frozen? ⟨w.heap.size+1,0,none⟩=false)∧Below w.heap.size w V∧V.heap[w.heap.size]?=some (.cells #[.bool false] 4 (0,0))∧zdc (pre++[x])≤400)) :=
       ⟨q1.from _,⟨q2,q1.from _⟩,⟨by rw [←HS.out];exact q3,q4⟩,bb,rr2,by rw [←HS.out];omega⟩
      clear hb4 q1 q2 rr2 bb
      gi_wp2
      obtain ⟨p1,p2,p3⟩:=HP.out
      exact ⟨by first|exact p1|(rw [hsz] at p1;exact p1),by first|exact p2|(rw [hsz] at p2;exact p2),p3⟩
   ·have hmeth : ∀ W, (method 419 157 u "loop.example/stile/impl.size").run Tryz.prog W = .ok (283, u) W := fun W => by kernel_rfl
    gi_wp2
    gi_region_with_o ((first|refine ⟨trivial,?_⟩|refine ⟨fun _ _=>trivial,?_⟩|skip);gi_at_call 283;refine (CallsIn.inRound l (callsIn_wide.2 (hcall _))).mono ?_;rintro e w' ⟨rfl,g⟩;have hc':w'.cell? ⟨w.heap.size+1,0,none⟩=some (.int .i64 (zdc pre:Nat)):=(Keeps.of_below g 0) _ _ _ (Nat.zero_le _) (by simpa using hc);have hf':w'.frozen? ⟨w.heap.size+1,0,none⟩=false:=zhk g (by simpa using hf) (by simpa using hc))
    all_goals
     obtain ⟨q1,q2,q3,q4⟩:=round_end (n₀:=w.heap.size) (B:=w.heap.size+1) (by omega) hB.size (.inr rfl) g hc' hf' (.int .i64 ((S:Nat):Int))
     have rr2:(w'.setCell ⟨w.heap.size+1,0,none⟩ (.int .i64 ((S:Nat):Int))).heap[w.heap.size]?=some (.cells #[.bool false] 4 (0,0)):=q2.2 _ _ _ _ (by omega) hrr
     have bb:=hB.trans q2.1
     obtain ⟨V,hV⟩:∃V,w'.setCell ⟨w.heap.size+1,0,none⟩ (.int .i64 ((S:Nat):Int))=V:=⟨_,rfl⟩
     rw [hV] at q1 q2 q3 q4 rr2 bb ⊢
     clear hc' hf' g hc hf
     by_cases hb4:400<S
     ·have z:(S:Int) > 400:=by omega
      have z':(400:Int)<(S:Int):=by omega
      have d0:V.cell? ⟨w.heap.size,0,none⟩=some (.bool false):=(cell_of_row _ _ _ _ _ _ rr2).trans rfl
      have d1:V.frozen? ⟨w.heap.size,0,none⟩=false:=by simp [World.frozen?,rr2]
      have HP:Hid (KeepsFrom W0.heap.size W (V.setCell ⟨w.heap.size,0,none⟩ (.bool true))∧KQ (W0.heap.size+2) W (V.setCell ⟨w.heap.size,0,none⟩ (.bool true))∧Below w.heap.size w (V.setCell ⟨w.heap.size,0,none⟩ (.bool true))∧(V.setCell ⟨w.heap.size,0,none⟩ (.bool true)).heap[w.heap.size]?=some (.cells #[.bool true] 4 (0,0))∧400<zdc (pre++[x])∧zaf (pre++[x]) <+: xs.flatMap (pArm m true)):=by
       refine ⟨(q1.trans (KeepsOthers.setCell _ _ _)).from _,⟨fun b C t f hb hc=>?_,(q1.trans (KeepsOthers.setCell _ _ _)).from _⟩,bb.setCell (p:=⟨w.heap.size,0,none⟩) (Nat.le_refl _) _,zcn rr2 _ _,by rw [←HS.out];exact hb4,HPX.out⟩
       exact zbm (q2.2 b C t f (by omega) hc) _ _ (by omega) _
      clear hb4 q1 q2 rr2 bb
      gi_wp2
      obtain ⟨p1,p2,p3,p4,p5,p6⟩:=HP.out
      exact ⟨by first|exact p1|(rw [hsz] at p1;exact p1),by first|exact p2|(rw [hsz] at p2;exact p2),rfl,p3,p4,p5,p6⟩
     ·have z:¬((S:Int) > 400):=by omega
      have z':¬((400:Int)<(S:Int)):=by omega
      have HP:Hid (KeepsFrom W0.heap.size W V∧KD w.heap.size (w.heap.size+1) (W0.heap.size+2) W V∧((V.cell? ⟨w.heap.size+1,0,none⟩=some (.int .i64 (zdc (pre++[x]):Nat))∧V.frozen? ⟨w.heap.size+1,0,none⟩=false)∧Below w.heap.size w V∧V.heap[w.heap.size]?=some (.cells #[.bool false] 4 (0,0))∧zdc (pre++[x])≤400)) :=
       ⟨q1.from _,⟨q2,q1.from _⟩,⟨by rw [←HS.out];exact q3,q4⟩,bb,rr2,by rw [←HS.out];omega⟩
      clear hb4 q1 q2 rr2 bb
      gi_wp2
      obtain ⟨p1,p2,p3⟩:=HP.out
      exact ⟨by first|exact p1|(rw [hsz] at p1;exact p1),by first|exact p2|(rw [hsz] at p2;exact p2),p3⟩
  case done =>
   rintro D ys W hD hys ⟨⟨hc,_⟩,hB,hrr,h400⟩ hK
   have q0:W.cell? ⟨w.heap.size,0,none⟩=some (.bool false):=(cell_of_row _ _ _ _ _ _ hrr).trans rfl
   have q1:W.frozen? ⟨w.heap.size,0,none⟩=false:=by simp [World.frozen?,hrr]
   obtain ⟨V2,hV2⟩:∃V2,W.setCell ⟨w.heap.size,0,none⟩ (.bool false)=V2:=⟨_,rfl⟩
   have rD:V2.heap[D]?=some (.deferred (some [])):=by rw [←hV2];exact zbm hK _ _ (by omega) _
   have r2:V2.heap[w.heap.size]?=some (.cells #[.bool false] 4 (0,0)):=by rw [←hV2];exact zcn hrr _ _
   have r3:(V2.putObj D (.deferred none)).heap[w.heap.size]?=some (.cells #[.bool false] 4 (0,0)):=(World.putObj_heap_other (by omega)).trans r2
   have c3:(V2.putObj D (.deferred none)).cell? ⟨w.heap.size,0,none⟩=some (.bool false):=(cell_of_row _ _ _ _ _ _ r3).trans rfl
   have bV:Below w.heap.size W (V2.putObj D (.deferred none)):=by
    have b1:Below w.heap.size W V2:=by rw [←hV2];exact (Below.refl _ _).setCell (p:=⟨w.heap.size,0,none⟩) (Nat.le_refl _) _
    exact b1.trans (zbq rD (by omega) _)
   have HF:Hid (MT=false):=(by
    rw [HM.out]
    have h1:szP (xs.flatMap (pArm m true))≤400:=by rw [←hys,←szP_sizes];exact h400
    simp;omega:MT=false)
   clear hc hrr h400 hys
   gi_wp2
   refine ⟨by simp,.inl ⟨_,_,rfl,run_takeDeferred rD,?_⟩⟩
   exact ⟨.bool false,by simp [results,Tryz.results84,go_sem,c3],by rw [HF.out],hB.trans bV⟩
  case stop =>
   rintro D c q V hD ⟨rfl,hB,hrr,h400,hpf⟩ hDV
   have r3:(V.putObj D (.deferred none)).heap[w.heap.size]?=some (.cells #[.bool true] 4 (0,0)):=(World.putObj_heap_other (by omega)).trans hrr
   have c3:(V.putObj D (.deferred none)).cell? ⟨w.heap.size,0,none⟩=some (.bool true):=(cell_of_row _ _ _ _ _ _ r3).trans rfl
   have bV:Below w.heap.size V (V.putObj D (.deferred none)):=zbq hDV (by omega) _
   have HF:Hid (MT=true):=(by
    rw [HM.out]
    have h1:=szP_pre hpf
    rw [←szP_sizes] at h1
    simp;omega:MT=true)
   clear hrr h400 hpf
   gi_wp2
   refine ⟨by simp,.inl ⟨_,_,rfl,run_takeDeferred hDV,?_⟩⟩
   exact ⟨.bool true,by simp [results,Tryz.results84,go_sem,c3],by rw [HF.out],hB.trans bV⟩
attribute [local go_sem] Oper.semAt_some
def coll(Ds:List Nat):List Deferred:=Ds.map fun D=>{ target:=.collected D,args:=#[] }
def Dok(lo:Nat)(W:World)(Ds:List Nat):Prop:=Ds.Nodup∧∀D∈Ds,lo≤D∧W.heap[D]?=some (.deferred (some []))
theorem zfm{F:Fence}{n:Nat}{P:Program}{fn:Func}{tmps:Array Value}{R:Ending→World→Prop}(lo:Nat):∀(Ds:List Nat)(W:World),Dok lo W Ds →
  (∀W',Below lo W W'→(∀(k:Nat)(C:Array Value)(t:TypeId)(f:Nat×Nat),W.heap[k]?=some (.cells C t f)→W'.heap[k]?=some (.cells C t f))→LeavesIn F n P fn tmps R [] .returning W')→LeavesInM F n P fn tmps R (coll Ds) .returning W
 | [],W,_,h=>h W (Below.refl _ _) (fun _ _ _ _ h=>h)
 | D::Ds,W,hd,h=>by
  have hD:=hd.2 D (by simp)
  refine ⟨by simp,.inl ⟨D,W.putObj D (.deferred none),rfl,run_takeDeferred hD.2,zfm lo Ds _ ⟨(List.nodup_cons.1 hd.1).2,fun D' h'=>?_⟩ (fun W' g k=>h W' ((zbq hD.2 hD.1 _).trans g) (fun k' C t f hc=>k k' C t f ?_))⟩⟩
  ·have hne:D'≠D:=fun e=>(List.nodup_cons.1 hd.1).1 (e ▸ h')
   exact ⟨(hd.2 D' (by simp [h'])).1,(World.putObj_heap_other hne).trans (hd.2 D' (by simp [h'])).2⟩
  ·have hne:k'≠D:=fun e=>by subst e;rw [hD.2] at hc;cases hc
   exact (World.putObj_heap_other hne).trans hc
theorem Dok.dep{lo b:Nat}{W W':World}{Ds:List Nat}(h:Dok lo W Ds)(hb:∀D∈Ds,D<b)(g:Below b W W'):Dok lo W' Ds:=⟨h.1,fun D hD=>⟨(h.2 D hD).1,(g.block _ (hb D hD)).trans (h.2 D hD).2⟩⟩
theorem Dok.lt{lo:Nat}{W:World}{Ds:List Nat}(h:Dok lo W Ds):∀D∈Ds,D<W.heap.size:=fun D hD=>(Array.getElem?_eq_some_iff.1 (h.2 D hD).2).1
theorem Dok.put{lo:Nat}{W:World}{Ds:List Nat}(h:Dok lo W Ds){k:Nat}{C:Array Value}{t:TypeId}{f:Nat×Nat}(hk:W.heap[k]?=some (.cells C t f))(o:Nat)(v:Value):Dok lo (W.setCell ⟨k,o,none⟩ v) Ds:=⟨h.1,fun D hD=>⟨(h.2 D hD).1,by
 have hne:k≠D:=fun e=>by subst e;have:=(h.2 k hD).2;rw [hk] at this;cases this
 exact zbm (h.2 D hD).2 _ _ hne _⟩⟩
def errW(r:Int×Int):Value:=if r.1=0 then .nilIface else .iface 95 (.agg #[.int .i64 r.2,.iface 91 (.agg #[.int .i64 r.1])])
def errT(ct cl:Int→List ArgT→Bool)(m:Nat)(xs:List ArmT):Value :=
 if zfl m xs then .iface 91 (.agg #[.int .i64 1]) else errW (zbc (fun x=>zaa ct cl (pArm m true x)) 0 xs)
theorem row_sub{w:World}{m:Nat}{a:Option Addr}{len cap n:Nat}{xs:List ArmT}{x:ArmT}{b o:Nat}{cs:List Value}(hx:xs[n]?=some x)(hc:cs.length=6)(hr:w.rangeAt b (o+n*6) cs)(hR:ArmIs w 0 m x cs)(c:Nat) :
  ArmsIs w 0 m (.slice (some ⟨b,o+n*6,none⟩) 1 c) [x]:=by
 refine ⟨some ⟨b,o+n*6,none⟩,c,rfl,by simp,fun j y hj=>?_⟩
 have hj0:j=0:=by have:=(List.getElem?_eq_some_iff.1 hj).1;simpa using this
 subst hj0
 simp only [List.getElem?_cons_zero,Option.some.injEq] at hj
 subst hj
 exact ⟨b,o+n*6,cs,rfl,Nat.zero_le _,hc,by simpa using hr,hR⟩
set_option maxRecDepth 100000 in
theorem wrong_i(ct cl:Int→List ArgT→Bool)(m:Nat)(a:Option Addr)(cap:Nat)(xs:List ArmT)(w:World)(hv:ArmsIs w 0 m (.slice a xs.length cap) xs)(hcap:xs.length≤cap)(hw:(xs.map (wA m)).sum≤1048576)(hP:(xs.flatMap (pArm m true)).length≤4194304)
  (HC:∀W,Below w.heap.size w W→∀op v xs,ArgsIs W 0 v xs→Calls Tryz.prog 185 #[.agg #[.int .i64 op,v]] W fun e w'=>e=.returned (.bool (ct op xs))∧Below W.heap.size W w')
  (HL:∀W,Below w.heap.size w W→∀op v xs,ArgsIs W 0 v xs→Calls Tryz.prog 156 #[.agg #[.int .i64 op,v]] W fun e w'=>e=.returned (.bool (cl op xs))∧Below W.heap.size W w') :
  Calls Tryz.prog 47 #[.slice a xs.length cap] w fun e w'=>e=.returned (errT ct cl m xs)∧Below w.heap.size w w':=by
 have HMany:Hid (∀W,Below w.heap.size w W→Calls Tryz.prog 84 #[.slice a xs.length cap] W fun e w'=>e=.returned (.bool (zfl m xs))∧Below W.heap.size W w'):=fun W g=>many_i m _ xs W (zbi (Keeps.of_below g 0) (Nat.le_refl _) (Nat.le_refl _) hv) hw hP
 have HPW:Hid (∀x:PartW w,∃T u f,x.1.1=.iface T u∧(∀W,Below w.heap.size w W→Calls Tryz.prog f #[u] W fun e w'=>e=.returned (errV (cP ct cl x.1.2))∧Below W.heap.size W w')∧((T=186∧f=299)∨(T=157∧f=285))):=fun x=>part_wrong ct cl HC HL x.1 x.2
 have HW1:Hid (∀x∈xs,wA m x≤1048576):=fun x hx=>Nat.le_trans (zdu (wA m) xs x hx) hw
 clear HC HL hw hP
 obtain ⟨a',cap',hv0,hlen,hx⟩:=id hv
 simp only [Value.slice.injEq,true_and] at hv0
 obtain ⟨rfl,rfl⟩:=hv0
 have HX:Hid (∀j x,xs[j]?=some x→∃b o cs,a=some ⟨b,o,none⟩∧cs.length=6∧w.rangeAt b (o+j*6) cs∧(ArmIs w 0 m) x cs):=fun j x h=>by
  obtain ⟨b,o,cs,h1,_,h2,h3,h4⟩:=hx j x h
  exact ⟨b,o,cs,h1,h2,h3,h4⟩
 clear hv hx
 obtain ⟨len,HLn⟩:∃len,Hid (len=xs.length):=⟨_,rfl⟩
 rw [←HLn.out] at hlen hcap HMany ⊢
 obtain ⟨MT,HMT⟩:∃b,Hid (b=zfl m xs):=⟨_,rfl⟩
 rw [←HMT.out] at HMany
 obtain ⟨E,HE⟩:∃e,Hid (e=errT ct cl m xs):=⟨_,rfl⟩
 rw [←HE.out]
 have r0:=heap_alloc_last w (.cells #[.nilIface] 63)
 have b0:Below w.heap.size w (w.alloc (.cells #[.nilIface] 63)):=(Below.refl _ _).alloc (Nat.le_refl _) _
 have R0:Hid ((w.alloc (.cells #[.nilIface] 63)).heap[w.heap.size]?=some (.cells #[.nilIface] 63 (0,0))∧w.heap.size<(w.alloc (.cells #[.nilIface] 63)).heap.size):=⟨r0,by simp⟩
 clear r0
 refine (callsIn_wide (n:=5)).1 ?_
 refine callsIn_of_wp_marks Tryz.func47 rfl trivial ?_ rfl
 simp only [Tryz.ntmps47,List.size_toArray,List.length_cons,List.length_nil,Nat.reduceAdd,Nat.reduceSub,Array.replicate_succ,Array.replicate_zero,List.push_toArray,List.append_toArray,List.nil_append,List.cons_append]
 have hdd:∀k:Nat,(Fence.wide.depth.isSome=true→1≤k):=fun k h=>by cases h
 gi_wp2
 refine ⟨trivial,?_⟩
 refine (callsIn_wide.2 (HMany.out _ b0)).mono ?_
 rintro e w1 ⟨rfl,g1⟩
 have r1:=(g1.block _ R0.out.2).trans R0.out.1
 have b1:=b0.trans (g1.mono b0.size)
 clear g1 b0 R0 HMany
 cases MT with
 | true =>
  have c0:w1.cell? ⟨w.heap.size,0,none⟩=some .nilIface:=(cell_of_row _ _ _ _ _ _ r1).trans rfl
  have f0:w1.frozen? ⟨w.heap.size,0,none⟩=false:=by simp [World.frozen?,r1]
  have q0:(w1.setCell ⟨w.heap.size,0,none⟩ (.iface 91 (.agg #[.int .i64 1]))).cell? ⟨w.heap.size,0,none⟩=some (.iface 91 (.agg #[.int .i64 1])):=World.cell?_setCell_same' _ _ _ (by rw [c0];rfl)
  have HEt:Hid (E=.iface 91 (.agg #[.int .i64 1])):=(by rw [HE.out];unfold errT;rw [←HMT.out];rfl:E=.iface 91 (.agg #[.int .i64 1]))
  have HB:Hid (Below w.heap.size w (w1.setCell ⟨w.heap.size,0,none⟩ (.iface 91 (.agg #[.int .i64 1])))):=b1.setCell (p:=⟨w.heap.size,0,none⟩) (Nat.le_refl _) _
  clear r1 b1
  gi_wp2
  exact ⟨.iface 91 (.agg #[.int .i64 1]),by simp [results,Tryz.results47,go_sem,q0],by rw [HEt.out],HB.out⟩
 | false =>
  have HEt:Hid (E=errW (zbc (fun x=>zaa ct cl (pArm m true x)) 0 xs)):=(by rw [HE.out];unfold errT;rw [←HMT.out];rfl:E=_)
  clear HE HMT
  have HS1:Hid (Below w.heap.size w w1∧w1.heap[w.heap.size]?=some (.cells #[.nilIface] 63 (0,0))):=⟨b1,r1⟩
  clear b1 r1
  gi_wp2
  refine wpIn_loop (fun ac W=>∃(n:Nat)(Ds:List Nat)(u3 u4 u5 u13 u14 u15 u16 u17 u18 u19 u20 u21 u22 u23 u24 u25 u26 u27 u28 u29 u30:Value),ac={ tmps:=#[.slice a len cap,undef,.pointer (some ⟨w.heap.size,0,none⟩),u3,u4,u5,.slice a len cap,.bool false,undef,undef,.slice a len cap,.int .i64 len,.int .i64 n,u13,u14,u15,u16,u17,u18,u19,u20,u21,u22,u23,u24,u25,u26,u27,u28,u29,u30],defers:=coll Ds }∧n≤len∧(∀y∈xs.take n,zaa ct cl (pArm m true y)=0)∧Below w.heap.size w W∧W.heap[w.heap.size]?=some (.cells #[.nilIface] 63 (0,0))∧Dok (w.heap.size+1) W Ds)
   (fun ac _=>len-(RowKit.intOf (ac.tmps.getD 12 undef)).toNat) ?start ?round
  case start=>exact ⟨0,[],_,_,_,_,_,_,_,_,_,_,_,_,_,_,_,_,_,_,_,_,_,rfl,Nat.zero_le _,fun y hy=>by simp at hy,HS1.out.1,HS1.out.2,⟨List.nodup_nil,fun D hD=>by simp at hD⟩⟩
  case round =>
   rintro ac W ⟨n,Ds,u3,u4,u5,u13,u14,u15,u16,u17,u18,u19,u20,u21,u22,u23,u24,u25,u26,u27,u28,u29,u30,rfl,hn,hS,hb,hr,hD⟩
   have HS:Hid (∀y∈xs.take n,zaa ct cl (pArm m true y)=0):=hS
   clear hS
   by_cases hlt:n<len
   ·have i1:(n:Int)<(len:Int):=by omega
    have i3:(0:Int)≤(n:Int):=by omega
    obtain ⟨x,hxn⟩:∃x,xs[n]?=some x:=⟨_,List.getElem?_eq_getElem (by have:=HLn.out;omega)⟩
    obtain ⟨b,o,cs,rfl,hcs,hrg,hR⟩:=HX.out n x hxn
    have hsub:=row_sub (a:=some ⟨b,o,none⟩) (len:=len) (cap:=cap) hxn hcs hrg hR (cap-n)
    have hwx:=HW1.out x (List.mem_of_getElem? hxn)
    have HD:Hid (xs[n]?=some x):=hxn
    have sl1:((n:Int)≤(n:Int)+1):=by omega
    have sl2:((n:Int)+1≤(cap:Int)):=by omega
    have HDs:Hid (Dok (w.heap.size+1) W Ds):=hD
    have HBW:Hid (Below w.heap.size w W∧W.heap[w.heap.size]?=some (.cells #[.nilIface] 63 (0,0))):=⟨hb,hr⟩
    clear hrg hR hcs hxn hlt hD hb hr
    gi_wp2_with (refine ⟨trivial,?_⟩;gi_at_call 49;refine (callsIn_wide.2 (parts_i _ _ _ _)).mono ?_;rintro e w' ⟨rfl,rfl⟩)
    obtain ⟨V,hV⟩:∃V,(W.alloc (.cells #[.int .i64 n] 3)).alloc (.cells #[.slice (some ⟨b,o+n*6,none⟩) 1 (cap-n)] 23)=V:=⟨_,rfl⟩
    have hk:=rows2 W (.cells #[.int .i64 n] 3) (.cells #[.slice (some ⟨b,o+n*6,none⟩) 1 (cap-n)] 23)
    have gV:Below W.heap.size W V:=by rw [←hV];exact ((Below.refl _ _).alloc (Nat.le_refl _) _).alloc (by simp) _
    have hsz:V.heap.size=W.heap.size+1+1:=by rw [←hV];simp
    try simp only [World.size_alloc]
    rw [hV] at hk ⊢
    have hwW:w.heap.size<W.heap.size:=(Array.getElem?_eq_some_iff.1 HBW.out.2).1
    have bV:Below w.heap.size w V:=HBW.out.1.trans (gV.mono HBW.out.1.size)
    have rV:V.heap[w.heap.size]?=some (.cells #[.nilIface] 63 (0,0)):=(gV.block _ hwW).trans HBW.out.2
    have DV:Dok (w.heap.size+1) V Ds:=HDs.out.dep HDs.out.lt gV
    have c1:V.cell? ⟨W.heap.size+1,0,none⟩=some (.slice (some ⟨b,o+n*6,none⟩) 1 (cap-n)):=(cell_of_row _ _ _ _ _ _ hk.2).trans rfl
    have hdl:∀D∈Ds,D<V.heap.size:=DV.lt
    refine range_n (α:=PartW w) (gf:=89) (lb:=#[.pointer (some ⟨W.heap.size+1,0,none⟩)]) rfl (enters_of Tryz.func89 (by kernel_rfl) rfl) (parts_seq w w.heap.size (W.heap.size+1) m (5-1) (Nat.le_refl _) (by omega) _ [x] V bV (by omega) c1 hsub (by simpa using hwx)) (fun h k=>h.trans k) (kd_l (by omega)) (fun h k=>h.trans k) (kq_l (Nat.le_refl _)) (Below.refl _ _) (fun _=>rfl)
     (fun pre U=>Below w.heap.size w U∧U.heap[w.heap.size]?=some (.cells #[.nilIface] 63 (0,0))∧U.heap[W.heap.size]?=some (.cells #[.int .i64 n] 3 (0,0))∧Dok (w.heap.size+1) U Ds∧zaa ct cl (zaf pre)=0)
     (fun c pre U=>c=.ret∧∃q,Below w.heap.size w U∧U.heap[w.heap.size]?=some (.cells #[.iface 95 (.agg #[.int .i64 n,.iface 91 (.agg #[.int .i64 q])])] 63 (0,0))∧Dok (w.heap.size+1) U Ds∧q=zaa ct cl (zaf pre)∧q≠0∧zaf pre <+: [x].flatMap (pArm m true))
     (fun s X Y g hs=>⟨hs.1.trans (g.mono (by omega)),(g.block _ (by omega)).trans hs.2.1,(g.block _ (by omega)).trans hs.2.2.1,hs.2.2.2.1.dep hdl g,hs.2.2.2.2⟩)
     (fun c s X Y g hs=>by obtain ⟨h1,q,h2,h3,h4,h5⟩:=hs;exact ⟨h1,q,h2.trans (g.mono (by omega)),(g.block _ (by omega)).trans h3,h4.dep hdl g,h5⟩)
     ⟨bV,rV,hk.1,DV,rfl⟩
     (fun x=>{ tmps:=#[.slice (some ⟨b,o,none⟩) len cap,undef,.pointer (some ⟨w.heap.size,0,none⟩),.pointer (some ⟨W.heap.size,0,none⟩),x.1.1,u5,.slice (some ⟨b,o,none⟩) len cap,.bool false,undef,undef,.slice (some ⟨b,o,none⟩) len cap,.int .i64 len,.int .i64 n,.bool true,.int .i64 n,.slice (some ⟨b,o,none⟩) len cap,.int .i64 n,.int .i64 n,.int .i64 ((n:Int)+1),.slice (some ⟨b,o+n*6,none⟩) 1 (cap-n),.func (.func 89) #[] #[.pointer (some ⟨W.heap.size+1,0,none⟩)],x.1.1,u22,u23,u24,u25,u26,u27,u28,u29,u30],defers:=[] }) ?assign ?body ?done ?stop
    case assign =>
     intro l y W' K hK
     gi_wp2
     exact hK
    case body =>
     rintro l pre y U hI hpre
     have HI:Hid (Below w.heap.size w U∧U.heap[w.heap.size]?=some (.cells #[.nilIface] 63 (0,0))∧U.heap[W.heap.size]?=some (.cells #[.int .i64 n] 3 (0,0))∧Dok (w.heap.size+1) U Ds∧zaa ct cl (zaf pre)=0):=hI
     obtain ⟨T,u,f,hx,hcall,hT⟩:=HPW.out y
     have HPF:Hid (zaf (pre++[y]) <+: [x].flatMap (pArm m true)):=fit_snoc hpre
     clear hI hpre hk
     rcases hT with ⟨rfl,rfl⟩|⟨rfl,rfl⟩
     all_goals rw [hx]
     ·have hmeth : ∀ W, (method 419 186 u "loop.example/stile/impl.wrong").run Tryz.prog W = .ok (299, u) W := fun W => by kernel_rfl
      gi_wp2
      refine ⟨trivial,?_⟩
      refine (CallsIn.inRound l (callsIn_wide.2 (hcall _ HI.out.1))).mono ?_
      rintro e w' ⟨rfl,g⟩
      have hB2:=HI.out.1.trans (g.mono HI.out.1.size)
      have hr2:=(g.block _ (Array.getElem?_eq_some_iff.1 HI.out.2.1).1).trans HI.out.2.1
      have hi2:=(g.block _ (Array.getElem?_eq_some_iff.1 HI.out.2.2.1).1).trans HI.out.2.2.1
      have hD2:=HI.out.2.2.2.1.dep HI.out.2.2.2.1.lt g
      have hk2:KeepsOthers U w':=KeepsOthers.of_grownBy (⟨g.os,g.tape,g.output,g.size,fun k hk _=>g.block k hk⟩:U.grownBy w' none) (fun j o e=>by cases e)
      have hkc:KC w.heap.size w.heap.size U w':=KC.of_below g HI.out.1.size
      have HQ:Hid (zaa ct cl (zaf (pre++[y]))=cP ct cl y.1.2):=(by
       rw [show zaf (pre++[y])=zaf pre++[y.1.2] by simp [zaf],zbt HI.out.2.2.2.2]
       show (if cP ct cl y.1.2=0 then 0 else cP ct cl y.1.2)=_
       split
       ·next h=>exact h.symm
       ·rfl:zaa ct cl (zaf (pre++[y]))=cP ct cl y.1.2)
      by_cases hq:cP ct cl y.1.2=0
      ·rw [hq,errV_0]
       have HP:Hid (KeepsFrom V.heap.size U w'∧KD w.heap.size w.heap.size (V.heap.size+2) U w'∧Below w.heap.size w w'∧w'.heap[w.heap.size]?=some (.cells #[.nilIface] 63 (0,0))∧w'.heap[W.heap.size]?=some (.cells #[.int .i64 n] 3 (0,0))∧Dok (w.heap.size+1) w' Ds∧zaa ct cl (zaf (pre++[y]))=0) :=
        ⟨hk2.from _,⟨hkc,hk2.from _⟩,hB2,hr2,hi2,hD2,by rw [HQ.out,hq]⟩
       clear hB2 hr2 hi2 hD2 hk2 hkc g hcall hmeth hq HQ HI
       gi_wp2
       first|exact HP.out|(have h:=HP.out;rw [hsz] at h;exact h)
      ·rw [errV_ne hq]
       obtain ⟨q,Hq⟩:∃q,Hid (q=cP ct cl y.1.2):=⟨_,rfl⟩
       rw [←Hq.out]
       have d0:w'.cell? ⟨w.heap.size,0,none⟩=some .nilIface:=(cell_of_row _ _ _ _ _ _ hr2).trans rfl
       have d1:w'.frozen? ⟨w.heap.size,0,none⟩=false:=by simp [World.frozen?,hr2]
       have d2:w'.cell? ⟨W.heap.size,0,none⟩=some (.int .i64 n):=(cell_of_row _ _ _ _ _ _ hi2).trans rfl
       obtain ⟨X,hX⟩:∃X,X=w'.setCell ⟨w.heap.size,0,none⟩ (.iface 95 (.agg #[.int .i64 n,.iface 91 (.agg #[.int .i64 q])])):=⟨_,rfl⟩
       have HP:Hid (KeepsFrom V.heap.size U X∧KQ (V.heap.size+2) U X∧Code.ret=Code.ret∧∃q,Below w.heap.size w X∧X.heap[w.heap.size]?=some (.cells #[.iface 95 (.agg #[.int .i64 n,.iface 91 (.agg #[.int .i64 q])])] 63 (0,0))∧Dok (w.heap.size+1) X Ds∧q=zaa ct cl (zaf (pre++[y]))∧q≠0∧zaf (pre++[y]) <+: [x].flatMap (pArm m true)):=by
        rw [hX]
        refine ⟨(hk2.trans (KeepsOthers.setCell _ _ _)).from _,⟨fun b C t f hb hc=>?_,(hk2.trans (KeepsOthers.setCell _ _ _)).from _⟩,rfl,q,hB2.setCell (p:=⟨w.heap.size,0,none⟩) (Nat.le_refl _) _,zcn hr2 _ _,hD2.put hr2 _ _,by rw [HQ.out,Hq.out],by rw [Hq.out];exact hq,HPF.out⟩
        exact zbm (hkc.2 b C t f (by have:=HI.out.1.size;omega) hc) _ _ (by omega) _
       clear hB2 hr2 hi2 hD2 hk2 hkc g hcall hmeth hq HQ HI Hq
       gi_wp2
       rw [←hX]
       obtain ⟨p1,p2,p3,p4⟩:=HP.out
       exact ⟨by first|exact p1|(rw [hsz] at p1;exact p1),by first|exact p2|(rw [hsz] at p2;exact p2),rfl,p4⟩
     ·have hmeth : ∀ W, (method 419 157 u "loop.example/stile/impl.wrong").run Tryz.prog W = .ok (285, u) W := fun W => by kernel_rfl
      gi_wp2
      refine ⟨trivial,?_⟩
      refine (CallsIn.inRound l (callsIn_wide.2 (hcall _ HI.out.1))).mono ?_
      rintro e w' ⟨rfl,g⟩
      have hB2:=HI.out.1.trans (g.mono HI.out.1.size)
      have hr2:=(g.block _ (Array.getElem?_eq_some_iff.1 HI.out.2.1).1).trans HI.out.2.1
      have hi2:=(g.block _ (Array.getElem?_eq_some_iff.1 HI.out.2.2.1).1).trans HI.out.2.2.1
      have hD2:=HI.out.2.2.2.1.dep HI.out.2.2.2.1.lt g
      have hk2:KeepsOthers U w':=KeepsOthers.of_grownBy (⟨g.os,g.tape,g.output,g.size,fun k hk _=>g.block k hk⟩:U.grownBy w' none) (fun j o e=>by cases e)
      have hkc:KC w.heap.size w.heap.size U w':=KC.of_below g HI.out.1.size
      have HQ:Hid (zaa ct cl (zaf (pre++[y]))=cP ct cl y.1.2):=(by
       rw [show zaf (pre++[y])=zaf pre++[y.1.2] by simp [zaf],zbt HI.out.2.2.2.2]
       show (if cP ct cl y.1.2=0 then 0 else cP ct cl y.1.2)=_
       split
       ·next h=>exact h.symm
       ·rfl:zaa ct cl (zaf (pre++[y]))=cP ct cl y.1.2)
      by_cases hq:cP ct cl y.1.2=0
      ·rw [hq,errV_0]
       have HP:Hid (KeepsFrom V.heap.size U w'∧KD w.heap.size w.heap.size (V.heap.size+2) U w'∧Below w.heap.size w w'∧w'.heap[w.heap.size]?=some (.cells #[.nilIface] 63 (0,0))∧w'.heap[W.heap.size]?=some (.cells #[.int .i64 n] 3 (0,0))∧Dok (w.heap.size+1) w' Ds∧zaa ct cl (zaf (pre++[y]))=0) :=
        ⟨hk2.from _,⟨hkc,hk2.from _⟩,hB2,hr2,hi2,hD2,by rw [HQ.out,hq]⟩
       clear hB2 hr2 hi2 hD2 hk2 hkc g hcall hmeth hq HQ HI
       gi_wp2
       first|exact HP.out|(have h:=HP.out;rw [hsz] at h;exact h)
      ·rw [errV_ne hq]
       obtain ⟨q,Hq⟩:∃q,Hid (q=cP ct cl y.1.2):=⟨_,rfl⟩
       rw [←Hq.out]
       have d0:w'.cell? ⟨w.heap.size,0,none⟩=some .nilIface:=(cell_of_row _ _ _ _ _ _ hr2).trans rfl
       have d1:w'.frozen? ⟨w.heap.size,0,none⟩=false:=by simp [World.frozen?,hr2]
       have d2:w'.cell? ⟨W.heap.size,0,none⟩=some (.int .i64 n):=(cell_of_row _ _ _ _ _ _ hi2).trans rfl
       obtain ⟨X,hX⟩:∃X,X=w'.setCell ⟨w.heap.size,0,none⟩ (.iface 95 (.agg #[.int .i64 n,.iface 91 (.agg #[.int .i64 q])])):=⟨_,rfl⟩
       have HP:Hid (KeepsFrom V.heap.size U X∧KQ (V.heap.size+2) U X∧Code.ret=Code.ret∧∃q,Below w.heap.size w X∧X.heap[w.heap.size]?=some (.cells #[.iface 95 (.agg #[.int .i64 n,.iface 91 (.agg #[.int .i64 q])])] 63 (0,0))∧Dok (w.heap.size+1) X Ds∧q=zaa ct cl (zaf (pre++[y]))∧q≠0∧zaf (pre++[y]) <+: [x].flatMap (pArm m true)):=by
        rw [hX]
        refine ⟨(hk2.trans (KeepsOthers.setCell _ _ _)).from _,⟨fun b C t f hb hc=>?_,(hk2.trans (KeepsOthers.setCell _ _ _)).from _⟩,rfl,q,hB2.setCell (p:=⟨w.heap.size,0,none⟩) (Nat.le_refl _) _,zcn hr2 _ _,hD2.put hr2 _ _,by rw [HQ.out,Hq.out],by rw [Hq.out];exact hq,HPF.out⟩
        exact zbm (hkc.2 b C t f (by have:=HI.out.1.size;omega) hc) _ _ (by omega) _
       clear hB2 hr2 hi2 hD2 hk2 hkc g hcall hmeth hq HQ HI Hq
       gi_wp2
       rw [←hX]
       obtain ⟨p1,p2,p3,p4⟩:=HP.out
       exact ⟨by first|exact p1|(rw [hsz] at p1;exact p1),by first|exact p2|(rw [hsz] at p2;exact p2),rfl,p4⟩
    case done =>
     rintro D ys U hDD hys ⟨hB,hr,hi,hDk,hz⟩ hK
     have hz2:zaa ct cl (pArm m true x)=0:=by rw [hys] at hz;simpa using hz
     have HN:Hid (Below w.heap.size w U∧U.heap[w.heap.size]?=some (.cells #[.nilIface] 63 (0,0))∧Dok (w.heap.size+1) U (D::Ds)∧∀y∈xs.take (n+1),zaa ct cl (pArm m true y)=0) :=
      ⟨hB,hr,⟨List.nodup_cons.2 ⟨fun h=>by have:=hdl D h;omega,hDk.1⟩,fun D' h'=>by
       rcases List.mem_cons.1 h' with rfl|h'
       ·exact ⟨by omega,hK⟩
       ·exact hDk.2 D' h'⟩,take_go (f:=fun y=>zaa ct cl (pArm m true y)) HD.out HS.out hz2⟩
     clear hB hr hi hDk hz hz2 hK hys
     gi_wp2
     have e12:((n:Int)+1)=((n+1:Nat):Int):=by omega
     rw [e12]
     refine ⟨?inv,?mea⟩
     case inv=>exact ⟨n+1,D::Ds,_,_,_,_,_,_,_,_,_,_,_,_,_,_,_,_,_,_,_,_,_,rfl,by omega,HN.out.2.2.2,HN.out.1,HN.out.2.1,HN.out.2.2.1⟩
     case mea=>simp [RowKit.intOf];omega
    case stop =>
     rintro D c q' U hDD ⟨rfl,q,hB,hr,hDk,hq,hq0,hpf⟩ hK
     have hF:zbc (fun x=>zaa ct cl (pArm m true x)) 0 xs=(q,(n:Int)):=by
      obtain ⟨Z,hZ⟩:=hpf
      have e1:zaa ct cl (pArm m true x)=q:=by
       have:[x].flatMap (pArm m true)=pArm m true x:=by simp
       rw [←this,←hZ,zek (by rw [←hq];exact hq0),hq]
      rw [zio (fun x=>zaa ct cl (pArm m true x)) xs n x HD.out HS.out (by show zaa ct cl (pArm m true x)≠0;rw [e1];exact hq0)]
      show (zaa ct cl (pArm m true x),_)=_
      rw [e1]
     have HEq:Hid (E=.iface 95 (.agg #[.int .i64 n,.iface 91 (.agg #[.int .i64 q])])):=(by rw [HEt.out,hF];exact if_neg hq0:E=_)
     have HDk:Hid (Dok (w.heap.size+1) U (D::Ds)):=⟨List.nodup_cons.2 ⟨fun h=>by have:=hdl D h;omega,hDk.1⟩,fun D' h'=>by
       rcases List.mem_cons.1 h' with rfl|h'
       ·exact ⟨by omega,hK⟩
       ·exact hDk.2 D' h'⟩
     have HBr:Hid (Below w.heap.size w U∧U.heap[w.heap.size]?=some (.cells #[.iface 95 (.agg #[.int .i64 n,.iface 91 (.agg #[.int .i64 q])])] 63 (0,0))):=⟨hB,hr⟩
     clear hB hr hDk hq hq0 hpf hF hK
     gi_wp2
     refine zfm (w.heap.size+1) (D::Ds) U HDk.out (fun W' g k=>?_)
     have r3:=k _ _ _ _ HBr.out.2
     have c3:W'.cell? ⟨w.heap.size,0,none⟩=some (.iface 95 (.agg #[.int .i64 n,.iface 91 (.agg #[.int .i64 q])])):=(cell_of_row _ _ _ _ _ _ r3).trans rfl
     exact ⟨.iface 95 (.agg #[.int .i64 n,.iface 91 (.agg #[.int .i64 q])]),by simp [results,Tryz.results47,go_sem,c3],by rw [HEq.out],HBr.out.1.trans (g.mono (by omega))⟩
   ·have i1:¬((n:Int)<(len:Int)):=by omega
    have hF:zbc (fun x=>zaa ct cl (pArm m true x)) 0 xs=(0,0):=zho _ _ (fun y hy=>HS.out y (by rw [List.take_of_length_le (by have:=HLn.out;omega)];exact hy))
    have HEq:Hid (E=.nilIface):=(by rw [HEt.out,hF];rfl:E=_)
    have d0:W.cell? ⟨w.heap.size,0,none⟩=some .nilIface:=(cell_of_row _ _ _ _ _ _ hr).trans rfl
    have d1:W.frozen? ⟨w.heap.size,0,none⟩=false:=by simp [World.frozen?,hr]
    have HBr:Hid (Below w.heap.size w (W.setCell ⟨w.heap.size,0,none⟩ .nilIface)∧(W.setCell ⟨w.heap.size,0,none⟩ .nilIface).heap[w.heap.size]?=some (.cells #[.nilIface] 63 (0,0))):=⟨hb.setCell (p:=⟨w.heap.size,0,none⟩) (Nat.le_refl _) _,zcn hr _ _⟩
    have HDk:Hid (Dok (w.heap.size+1) (W.setCell ⟨w.heap.size,0,none⟩ .nilIface) Ds):=hD.put hr _ _
    clear hb hr hD hF hlt hn
    gi_wp2
    refine zfm (w.heap.size+1) Ds _ HDk.out (fun W' g k=>?_)
    have r3:=k _ _ _ _ HBr.out.2
    have c3:W'.cell? ⟨w.heap.size,0,none⟩=some .nilIface:=(cell_of_row _ _ _ _ _ _ r3).trans rfl
    exact ⟨.nilIface,by simp [results,Tryz.results47,go_sem,c3],by rw [HEq.out],HBr.out.1.trans (g.mono (by omega))⟩
end Go.Proofs.YtllmabgollkigaaGreatDoor
