/- Arms marked, and the marks looked for. -/
import Derived.Test.YtllmabgollkigaaGreatDoorTrbM
import Derived.LaidLaws
import Derived.LaidHandle
import Derived.Handed
import Derived.Shelf.Vars
import Derived.Lib.LaidU8
import Derived.Lay
set_option maxHeartbeats 8000000
namespace Go.Proofs.YtllmabgollkigaaGreatDoor
open Go.RowKit
set_option linter.unusedVariables false
set_option maxRecDepth 10000 in
theorem mark_r1(L:List (Nat×Nat))(lo hi:Nat)(w0:World)(ok:LOk L lo hi w0)(n:Nat)(ih:∀r,n=r+1→∀(p:Nat)(v:Value)(xs:List ArmT)(w:World)(K:Int),RowL 6 (tA r) (ArmQ w0 r) v xs L p→p+(xs.map (tA r)).sum≤L.length→MkL L p lo hi w0 w→K=1+(p:Int)→Calls Tryz.prog 20 #[v,.int .i64 K] w fun e w'=>e=.returned (.int .i64 (1+((p+(xs.map (tA r)).sum:Nat):Int)))∧MkL L (p+(xs.map (tA r)).sum) lo hi w0 w'):∀(p:Nat)(v:Value)(xs:List ArmT)(w:World)(K:Int),RowL 6 (tA n) (ArmQ w0 n) v xs L p→p+(xs.map (tA n)).sum≤L.length→MkL L p lo hi w0 w→K=1+(p:Int)→Calls Tryz.prog 20 #[v,.int .i64 K] w fun e w'=>e=.returned (.int .i64 (1+((p+(xs.map (tA n)).sum:Nat):Int)))∧MkL L (p+(xs.map (tA n)).sum) lo hi w0 w':=by
 intro p v xs w K hv hp hM hK
 have hpl:=ok.len
 have HOk:Hid (LOk L lo hi w0):=ok
 have HIH0:Hid (∀r,n=r+1→∀(p:Nat)(v:Value)(xs:List ArmT)(w:World)(K:Int),RowL 6 (tA r) (ArmQ w0 r) v xs L p→p+(xs.map (tA r)).sum≤L.length→MkL L p lo hi w0 w→K=1+(p:Int)→Calls Tryz.prog 20 #[v,.int .i64 K] w fun e w'=>e=.returned (.int .i64 (1+((p+(xs.map (tA r)).sum:Nat):Int)))∧MkL L (p+(xs.map (tA r)).sum) lo hi w0 w'):=ih
 clear ih
 have HM0:Hid (MkL L p lo hi w0 w):=hM
 have hlen:=zjb hv (arm_1 w0 n)
 obtain ⟨a,cp,rfl,hx⟩:=hv
 have HX:Hid (∀j x,xs[j]?=some x→∃b o,a=some ⟨b,o,none⟩∧(ArmQ w0 n) b (o+j*6) x L (p+pt (tA n) xs j)):=hx
 have HLe:Hid (∀j,pt (tA n) xs j≤(xs.map (tA n)).sum):=fun j=>pt_le _ xs j
 have HAll:Hid (pt (tA n) xs xs.length=(xs.map (tA n)).sum∧p+(xs.map (tA n)).sum≤L.length∧L.length≤4000000):=⟨zja _ xs,hp,hpl⟩
 obtain ⟨len,HL⟩:∃len,Hid (len=xs.length):=⟨_,rfl⟩
 rw [←HL.out] at hlen ⊢
 have hlen4:len≤4000000:=by omega
 have hK0:0≤K:=by omega
 have hK1:K≤5000000:=by omega
 have HK0:Hid (K=1+(p:Int)):=hK
 clear ok hM hx hK hp hpl hlen
 go_enter Tryz.func20,Tryz.ntmps20
 go_wp2
 go_loopg [1,5] len (fun gg k i wr=>∃(m:Nat)(K:Int),m+gg=len∧i=.int .i64 m∧k=.int .i64 K∧Hid (K=1+((p+pt (tA n) xs m:Nat):Int))∧0≤K∧K≤5000000∧Hid (MkL L (p+pt (tA n) xs m) lo hi w0 wr))
 case atStart=>exact ⟨0,K,by omega,rfl,rfl,(by rw [HK0.out];simp [pt]:K=1+((p+pt (tA n) xs 0:Nat):Int)),hK0,hK1,(by simpa [pt] using HM0.out:MkL L (p+pt (tA n) xs 0) lo hi w0 w)⟩
 case round =>
  clear HM0 HK0 hK0 hK1
  obtain ⟨m,K,hm,rfl,rfl,HK,hK0,hK1,HM⟩:=hrel
  by_cases hlt:m<len
  ·have i1:(m:Int)<(len:Int):=by omega
   have i2:(0:Int)≤(m:Int):=by omega
   obtain ⟨x,hxn⟩:∃x,xs[m]?=some x:=⟨_,List.getElem?_eq_getElem (by have:=HL.out;omega)⟩
   obtain ⟨b,o,rfl,hq⟩:=HX.out m x hxn
   have hnx:=zfp (t:=tA n) hxn
   have hle:=HLe.out (m+1)
   have hal:=HAll.out
   obtain ⟨pp,HPP⟩:∃q,Hid (q=p+pt (tA n) xs m):=⟨_,rfl⟩
   have hpp:=HPP.out
   rw [←hpp] at hq HK HM
   clear HX
   obtain ⟨n',hn⟩:∃n',n=n'+1:=by cases n with|zero=>exact hq.elim|succ n'=>exact ⟨n',rfl⟩
   have HIH:Hid (∀(p:Nat)(v:Value)(xs:List ArmT)(w:World)(K:Int),RowL 6 (tA n') (ArmQ w0 n') v xs L p→p+(xs.map (tA n')).sum≤L.length→MkL L p lo hi w0 w→K=1+(p:Int)→Calls Tryz.prog 20 #[v,.int .i64 K] w fun e w'=>e=.returned (.int .i64 (1+((p+(xs.map (tA n')).sum:Nat):Int)))∧MkL L (p+(xs.map (tA n')).sum) lo hi w0 w'):=HIH0.out n' hn
   obtain ⟨net,coils,kids⟩:=x
   have ht:tA n (.mk net coils kids)=tN n' net+((coils.map tE).sum+(kids.map (tA n')).sum):=by rw [hn];rfl
   rw [ht] at hnx
   have hq2:ArmQ w0 (n'+1) b (o+m*6) (.mk net coils kids) L pp:=by rw [←hn];exact hq
   clear hq ht hn HIH0
   obtain ⟨t,t',⟨q4,q5⟩,hN,hC,hD⟩:=hq2
   obtain ⟨r,hr⟩:∃r,n'=r+1:=by cases n' with|zero=>exact hN.elim|succ r=>exact ⟨r,rfl⟩
   obtain ⟨k0,e0,nk⟩:=net
   have ht:tN n' (.mk k0 e0 nk)=1+(1+(e0.args.length*3+(nk.map (tN r)).sum)):=by rw [hr];rfl
   rw [ht] at hnx hC hD
   have hq2:NetQ w0 (r+1) b (o+m*6) (.mk k0 e0 nk) L pp:=by rw [←hr];exact hN
   clear hN ht hr
   obtain ⟨s,s',⟨q0,q1,q2,q3⟩,l0,l1,hA,hR⟩:=hq2
   obtain ⟨ua,uc,e,_⟩:=id hA
   obtain ⟨va,vc,e',_⟩:=id hR
   subst e
   subst e'
   obtain ⟨xa,xc,e,_⟩:=id hC
   obtain ⟨ya,yc,e',_⟩:=id hD
   subst e
   subst e'
   obtain ⟨n1,Hn1⟩:∃l,Hid (l=e0.args.length):=⟨_,rfl⟩
   obtain ⟨n2,Hn2⟩:∃l,Hid (l=nk.length):=⟨_,rfl⟩
   obtain ⟨s2,Hs2⟩:∃l,Hid (l=(nk.map (tN r)).sum):=⟨_,rfl⟩
   obtain ⟨n3,Hn3⟩:∃l,Hid (l=coils.length):=⟨_,rfl⟩
   obtain ⟨s3,Hs3⟩:∃l,Hid (l=(coils.map tE).sum):=⟨_,rfl⟩
   obtain ⟨n4,Hn4⟩:∃l,Hid (l=kids.length):=⟨_,rfl⟩
   obtain ⟨s4,Hs4⟩:∃l,Hid (l=(kids.map (tA n')).sum):=⟨_,rfl⟩
   rw [←Hn1.out] at hnx q2 hA hR hC hD
   rw [←Hn2.out] at q3 hR
   rw [←Hs2.out] at hnx hC hD
   rw [←Hn3.out] at q4 hC
   rw [←Hs3.out] at hnx hD
   rw [←Hn4.out] at q5 hD
   rw [←Hs4.out] at hnx
   have e3:pp+(1+(1+(n1*3+s2)))=pp+1+1+n1*3+s2:=by omega
   rw [e3] at hC hD
   have HR:Hid (RowL 4 (tN r) (NetQ w0 r) (.slice va n2 vc) nk L (pp+1+1+n1*3)):=hR
   have HC:Hid (RowL 2 tE (zge w0) (.slice xa n3 xc) coils L (pp+1+1+n1*3+s2)):=hC
   have HD:Hid (RowL 6 (tA n') (ArmQ w0 n') (.slice ya n4 yc) kids L (pp+1+1+n1*3+s2+s3)):=hD
   have HQ3:Hid (w0.cell? ⟨b,o+m*6+3,none⟩=some (.slice va n2 vc)):=q3
   have HQ4:Hid (w0.cell? ⟨b,o+m*6+4,none⟩=some (.slice xa n3 xc)):=q4
   have HQ5:Hid (w0.cell? ⟨b,o+m*6+5,none⟩=some (.slice ya n4 yc)):=q5
   clear hR hC hD q3 q4 q5 e3
   have HB:Hid (pp+1+1+n1*3+s2+s3+s4=p+pt (tA n) xs (m+1)∧pp+1+1+n1*3+s2+s3+s4≤L.length∧L.length≤4000000):=⟨by omega,by omega,hal.2.2⟩
   clear hnx hle hal hpp HPP
   have hB:=HB.out
   obtain ⟨⟨x0,c0⟩,f0,P0⟩:=HM.out.put HOk.out l0 q0 (K) (by have:=HK.out;omega)
   obtain ⟨⟨x1,c1⟩,f1,P1⟩:=P0.put HOk.out l1 q1 (K+1) (by have:=HK.out;omega)
   have d0:=P1.wm.cell b (o+m*6+1+1) _ q2 (by simp)
   have HCl0:Hid (Calls Tryz.prog 51 #[.slice ua n1 uc,.int .i64 (K+1+1)] ((wr.setCell ⟨b,o+m*6,none⟩ (.int .i64 (K))).setCell ⟨b,o+m*6+1,none⟩ (.int .i64 (K+1))) fun e w'=>e=.returned (.int .i64 (1+((pp+1+1+n1*3:Nat):Int)))∧MkL L (pp+1+1+n1*3) lo hi w0 w'):=mark_a L (pp+1+1) lo hi n1 _ w0 _ HOk.out hA (by omega) P1 (K+1+1) (by have:=HK.out;omega)
   obtain ⟨K2,HK2⟩:∃q,Hid (q=1+((pp+1+1+n1*3:Nat):Int)):=⟨_,rfl⟩
   rw [←HK2.out] at HCl0
   have hK20:0≤K2:=by have:=HK2.out;omega
   have hK21:K2≤5000000:=by have:=HK2.out;omega
   have nn0:¬(K2<0):=by omega
   clear hB l0 l1 q0 q1 q2 hA P0 P1 HM
   go_wp2_with fail
   refine HCl0.out.mono ?_
   rintro e w5 ⟨rfl,g5⟩
   have HG0:Hid (MkL L (pp+1+1+n1*3) lo hi w0 w5):=g5
   clear g5 HCl0 d0 c0 c1 f0 f1
   have hB:=HB.out
   have d1:=HG0.out.wm.cell b (o+m*6+3) _ HQ3.out (by simp)
   have HCl1:Hid (Calls Tryz.prog 52 #[.slice va n2 vc,.int .i64 (K2)] w5 fun e w'=>e=.returned (.int .i64 (1+((pp+1+1+n1*3+s2:Nat):Int)))∧MkL L (pp+1+1+n1*3+s2) lo hi w0 w'):=(by have h:=mark_n L lo hi w0 HOk.out r (pp+1+1+n1*3) _ nk w5 (K2) HR.out (by rw [←Hs2.out];omega) HG0.out (by have:=HK2.out;omega);rw [←Hs2.out] at h;exact h)
   obtain ⟨K3,HK3⟩:∃q,Hid (q=1+((pp+1+1+n1*3+s2:Nat):Int)):=⟨_,rfl⟩
   rw [←HK3.out] at HCl1
   have hK30:0≤K3:=by have:=HK3.out;omega
   have hK31:K3≤5000000:=by have:=HK3.out;omega
   have nn1:¬(K3<0):=by omega
   clear hB
   go_wp2_with fail
   refine HCl1.out.mono ?_
   rintro e w6 ⟨rfl,g6⟩
   have HG1:Hid (MkL L (pp+1+1+n1*3+s2) lo hi w0 w6):=g6
   clear g6 HCl1 d1 
   have hB:=HB.out
   have d2:=HG1.out.wm.cell b (o+m*6+4) _ HQ4.out (by simp)
   have HCl2:Hid (Calls Tryz.prog 53 #[.slice xa n3 xc,.int .i64 (K3)] w6 fun e w'=>e=.returned (.int .i64 (1+((pp+1+1+n1*3+s2+s3:Nat):Int)))∧MkL L (pp+1+1+n1*3+s2+s3) lo hi w0 w'):=(by have h:=mark_e L lo hi w0 HOk.out (pp+1+1+n1*3+s2) _ coils w6 (K3) HC.out (by rw [←Hs3.out];omega) HG1.out (by have:=HK3.out;omega);rw [←Hs3.out] at h;exact h)
   obtain ⟨K4,HK4⟩:∃q,Hid (q=1+((pp+1+1+n1*3+s2+s3:Nat):Int)):=⟨_,rfl⟩
   rw [←HK4.out] at HCl2
   have hK40:0≤K4:=by have:=HK4.out;omega
   have hK41:K4≤5000000:=by have:=HK4.out;omega
   have nn2:¬(K4<0):=by omega
   clear hB
   go_wp2_with fail
   refine HCl2.out.mono ?_
   rintro e w7 ⟨rfl,g7⟩
   have HG2:Hid (MkL L (pp+1+1+n1*3+s2+s3) lo hi w0 w7):=g7
   clear g7 HCl2 d2 
   have hB:=HB.out
   have d3:=HG2.out.wm.cell b (o+m*6+5) _ HQ5.out (by simp)
   have HCl3:Hid (Calls Tryz.prog 20 #[.slice ya n4 yc,.int .i64 (K4)] w7 fun e w'=>e=.returned (.int .i64 (1+((pp+1+1+n1*3+s2+s3+s4:Nat):Int)))∧MkL L (pp+1+1+n1*3+s2+s3+s4) lo hi w0 w'):=(by have h:=HIH.out (pp+1+1+n1*3+s2+s3) _ kids w7 (K4) HD.out (by rw [←Hs4.out];omega) HG2.out (by have:=HK4.out;omega);rw [←Hs4.out] at h;exact h)
   obtain ⟨K5,HK5⟩:∃q,Hid (q=1+((pp+1+1+n1*3+s2+s3+s4:Nat):Int)):=⟨_,rfl⟩
   rw [←HK5.out] at HCl3
   have hK50:0≤K5:=by have:=HK5.out;omega
   have hK51:K5≤5000000:=by have:=HK5.out;omega
   have nn3:¬(K5<0):=by omega
   have HKE:Hid (K5=1+((p+pt (tA n) xs (m+1):Nat):Int)):=(by have:=HK5.out;omega:K5=1+((p+pt (tA n) xs (m+1):Nat):Int))
   rw [hB.1] at HCl3
   clear hB
   go_wp2_with fail
   refine HCl3.out.mono ?_
   rintro e w8 ⟨rfl,g8⟩
   have HP5:Hid (MkL L (p+pt (tA n) xs (m+1)) lo hi w0 w8):=g8
   clear g8 HCl3 d3 
   go_wp2
   go_roundg (gk-1)
   case measure=>omega
   case rel=>exact ⟨m+1,K5,by omega,by go_num,rfl,HKE,hK50,hK51,HP5⟩
  ·have i1:¬((m:Int)<(len:Int)):=by omega
   have hqn:m=xs.length:=by have:=HL.out;omega
   have HKn:Hid (K=1+((p+(xs.map (tA n)).sum:Nat):Int)):=(by rw [←HAll.out.1,←hqn];exact HK.out:K=1+((p+(xs.map (tA n)).sum:Nat):Int))
   have HMn:Hid (MkL L (p+(xs.map (tA n)).sum) lo hi w0 wr):=(by rw [←HAll.out.1,←hqn];exact HM.out:MkL L (p+(xs.map (tA n)).sum) lo hi w0 wr)
   clear hqn HK HM
   go_wp2
   go_ret
   exact ⟨(by show Ending.returned (.int .i64 K)=_;rw [HKn.out];simp),HMn.out⟩
theorem mark_r(L:List (Nat×Nat))(lo hi:Nat)(w0:World)(ok:LOk L lo hi w0):∀n,∀(p:Nat)(v:Value)(xs:List ArmT)(w:World)(K:Int),RowL 6 (tA n) (ArmQ w0 n) v xs L p→p+(xs.map (tA n)).sum≤L.length→MkL L p lo hi w0 w→K=1+(p:Int)→Calls Tryz.prog 20 #[v,.int .i64 K] w fun e w'=>e=.returned (.int .i64 (1+((p+(xs.map (tA n)).sum:Nat):Int)))∧MkL L (p+(xs.map (tA n)).sum) lo hi w0 w'
 | 0=>mark_r1 L lo hi w0 ok 0 fun r h=>by omega
 | n+1=>mark_r1 L lo hi w0 ok (n+1) fun r h=>by cases h;exact mark_r L lo hi w0 ok n
set_option maxRecDepth 10000 in
theorem held_r1(L:List (Nat×Nat))(lo hi:Nat)(w0:World)(ok:LOk L lo hi w0)(n:Nat)(ih:∀r,n=r+1→∀(p:Nat)(v:Value)(xs:List ArmT)(w:World)(K:Int),RowL 6 (tA r) (ArmQ w0 r) v xs L p→p+(xs.map (tA r)).sum≤L.length→MkL L L.length lo hi w0 w→K=1+(p:Int)→Calls Tryz.prog 21 #[v,.int .i64 K] w fun e w'=>e=.returned (.int .i64 (1+((p+(xs.map (tA r)).sum:Nat):Int)))∧w'=w):∀(p:Nat)(v:Value)(xs:List ArmT)(w:World)(K:Int),RowL 6 (tA n) (ArmQ w0 n) v xs L p→p+(xs.map (tA n)).sum≤L.length→MkL L L.length lo hi w0 w→K=1+(p:Int)→Calls Tryz.prog 21 #[v,.int .i64 K] w fun e w'=>e=.returned (.int .i64 (1+((p+(xs.map (tA n)).sum:Nat):Int)))∧w'=w:=by
 intro p v xs w K hv hp hM hK
 have hpl:=ok.len
 have HOk:Hid (LOk L lo hi w0):=ok
 have HIH0:Hid (∀r,n=r+1→∀(p:Nat)(v:Value)(xs:List ArmT)(w:World)(K:Int),RowL 6 (tA r) (ArmQ w0 r) v xs L p→p+(xs.map (tA r)).sum≤L.length→MkL L L.length lo hi w0 w→K=1+(p:Int)→Calls Tryz.prog 21 #[v,.int .i64 K] w fun e w'=>e=.returned (.int .i64 (1+((p+(xs.map (tA r)).sum:Nat):Int)))∧w'=w):=ih
 clear ih
 have HM0:Hid (MkL L L.length lo hi w0 w):=hM
 have hlen:=zjb hv (arm_1 w0 n)
 obtain ⟨a,cp,rfl,hx⟩:=hv
 have HX:Hid (∀j x,xs[j]?=some x→∃b o,a=some ⟨b,o,none⟩∧(ArmQ w0 n) b (o+j*6) x L (p+pt (tA n) xs j)):=hx
 have HLe:Hid (∀j,pt (tA n) xs j≤(xs.map (tA n)).sum):=fun j=>pt_le _ xs j
 have HAll:Hid (pt (tA n) xs xs.length=(xs.map (tA n)).sum∧p+(xs.map (tA n)).sum≤L.length∧L.length≤4000000):=⟨zja _ xs,hp,hpl⟩
 obtain ⟨len,HL⟩:∃len,Hid (len=xs.length):=⟨_,rfl⟩
 rw [←HL.out] at hlen ⊢
 have hlen4:len≤4000000:=by omega
 have hK0:0≤K:=by omega
 have hK1:K≤5000000:=by omega
 have HK0:Hid (K=1+(p:Int)):=hK
 clear ok hM hx hK hp hpl hlen
 go_enter Tryz.func21,Tryz.ntmps21
 go_wp2
 go_loopg [1,5] len (fun gg k i wr=>∃(m:Nat)(K:Int),m+gg=len∧i=.int .i64 m∧k=.int .i64 K∧Hid (K=1+((p+pt (tA n) xs m:Nat):Int))∧0≤K∧K≤5000000∧wr=w)
 case atStart=>exact ⟨0,K,by omega,rfl,rfl,(by rw [HK0.out];simp [pt]:K=1+((p+pt (tA n) xs 0:Nat):Int)),hK0,hK1,rfl⟩
 case round =>
  clear HK0 hK0 hK1
  obtain ⟨m,K,hm,rfl,rfl,HK,hK0,hK1,rfl⟩:=hrel
  by_cases hlt:m<len
  ·have i1:(m:Int)<(len:Int):=by omega
   have i2:(0:Int)≤(m:Int):=by omega
   obtain ⟨x,hxn⟩:∃x,xs[m]?=some x:=⟨_,List.getElem?_eq_getElem (by have:=HL.out;omega)⟩
   obtain ⟨b,o,rfl,hq⟩:=HX.out m x hxn
   have hnx:=zfp (t:=tA n) hxn
   have hle:=HLe.out (m+1)
   have hal:=HAll.out
   obtain ⟨pp,HPP⟩:∃q,Hid (q=p+pt (tA n) xs m):=⟨_,rfl⟩
   have hpp:=HPP.out
   rw [←hpp] at hq HK
   clear HX
   obtain ⟨n',hn⟩:∃n',n=n'+1:=by cases n with|zero=>exact hq.elim|succ n'=>exact ⟨n',rfl⟩
   have HIH:Hid (∀(p:Nat)(v:Value)(xs:List ArmT)(w:World)(K:Int),RowL 6 (tA n') (ArmQ w0 n') v xs L p→p+(xs.map (tA n')).sum≤L.length→MkL L L.length lo hi w0 w→K=1+(p:Int)→Calls Tryz.prog 21 #[v,.int .i64 K] w fun e w'=>e=.returned (.int .i64 (1+((p+(xs.map (tA n')).sum:Nat):Int)))∧w'=w):=HIH0.out n' hn
   obtain ⟨net,coils,kids⟩:=x
   have ht:tA n (.mk net coils kids)=tN n' net+((coils.map tE).sum+(kids.map (tA n')).sum):=by rw [hn];rfl
   rw [ht] at hnx
   have hq2:ArmQ w0 (n'+1) b (o+m*6) (.mk net coils kids) L pp:=by rw [←hn];exact hq
   clear hq ht hn HIH0
   obtain ⟨t,t',⟨q4,q5⟩,hN,hC,hD⟩:=hq2
   obtain ⟨r,hr⟩:∃r,n'=r+1:=by cases n' with|zero=>exact hN.elim|succ r=>exact ⟨r,rfl⟩
   obtain ⟨k0,e0,nk⟩:=net
   have ht:tN n' (.mk k0 e0 nk)=1+(1+(e0.args.length*3+(nk.map (tN r)).sum)):=by rw [hr];rfl
   rw [ht] at hnx hC hD
   have hq2:NetQ w0 (r+1) b (o+m*6) (.mk k0 e0 nk) L pp:=by rw [←hr];exact hN
   clear hN ht hr
   obtain ⟨s,s',⟨q0,q1,q2,q3⟩,l0,l1,hA,hR⟩:=hq2
   obtain ⟨ua,uc,e,_⟩:=id hA
   obtain ⟨va,vc,e',_⟩:=id hR
   subst e
   subst e'
   obtain ⟨xa,xc,e,_⟩:=id hC
   obtain ⟨ya,yc,e',_⟩:=id hD
   subst e
   subst e'
   obtain ⟨n1,Hn1⟩:∃l,Hid (l=e0.args.length):=⟨_,rfl⟩
   obtain ⟨n2,Hn2⟩:∃l,Hid (l=nk.length):=⟨_,rfl⟩
   obtain ⟨s2,Hs2⟩:∃l,Hid (l=(nk.map (tN r)).sum):=⟨_,rfl⟩
   obtain ⟨n3,Hn3⟩:∃l,Hid (l=coils.length):=⟨_,rfl⟩
   obtain ⟨s3,Hs3⟩:∃l,Hid (l=(coils.map tE).sum):=⟨_,rfl⟩
   obtain ⟨n4,Hn4⟩:∃l,Hid (l=kids.length):=⟨_,rfl⟩
   obtain ⟨s4,Hs4⟩:∃l,Hid (l=(kids.map (tA n')).sum):=⟨_,rfl⟩
   rw [←Hn1.out] at hnx q2 hA hR hC hD
   rw [←Hn2.out] at q3 hR
   rw [←Hs2.out] at hnx hC hD
   rw [←Hn3.out] at q4 hC
   rw [←Hs3.out] at hnx hD
   rw [←Hn4.out] at q5 hD
   rw [←Hs4.out] at hnx
   have e3:pp+(1+(1+(n1*3+s2)))=pp+1+1+n1*3+s2:=by omega
   rw [e3] at hC hD
   have HR:Hid (RowL 4 (tN r) (NetQ w0 r) (.slice va n2 vc) nk L (pp+1+1+n1*3)):=hR
   have HC:Hid (RowL 2 tE (zge w0) (.slice xa n3 xc) coils L (pp+1+1+n1*3+s2)):=hC
   have HD:Hid (RowL 6 (tA n') (ArmQ w0 n') (.slice ya n4 yc) kids L (pp+1+1+n1*3+s2+s3)):=hD
   have HQ3:Hid (w0.cell? ⟨b,o+m*6+3,none⟩=some (.slice va n2 vc)):=q3
   have HQ4:Hid (w0.cell? ⟨b,o+m*6+4,none⟩=some (.slice xa n3 xc)):=q4
   have HQ5:Hid (w0.cell? ⟨b,o+m*6+5,none⟩=some (.slice ya n4 yc)):=q5
   clear hR hC hD q3 q4 q5 e3
   have HB:Hid (pp+1+1+n1*3+s2+s3+s4=p+pt (tA n) xs (m+1)∧pp+1+1+n1*3+s2+s3+s4≤L.length∧L.length≤4000000):=⟨by omega,by omega,hal.2.2⟩
   clear hnx hle hal hpp HPP
   have hB:=HB.out
   have c0:wr.cell? ⟨b,o+m*6,none⟩=some (.int .i64 (K)):=by
    have h:=HM0.out.at' _ _ (by omega) l0
    rw [show K=1+((pp:Nat):Int) by have:=HK.out;omega]
    exact h
   have c1:wr.cell? ⟨b,o+m*6+1,none⟩=some (.int .i64 (K+1)):=by
    have h:=HM0.out.at' _ _ (by omega) l1
    rw [show K+1=1+((pp+1:Nat):Int) by have:=HK.out;omega]
    exact h
   have d0:=HM0.out.wm.cell b (o+m*6+1+1) _ q2 (by simp)
   have HCl0:Hid (Calls Tryz.prog 54 #[.slice ua n1 uc,.int .i64 (K+1+1)] wr fun e w'=>e=.returned (.int .i64 (1+((pp+1+1+n1*3:Nat):Int)))∧w'=wr):=held_a L (pp+1+1) lo hi n1 _ w0 _ (by omega) hA (by omega) HM0.out (K+1+1) (by have:=HK.out;omega)
   obtain ⟨K2,HK2⟩:∃q,Hid (q=1+((pp+1+1+n1*3:Nat):Int)):=⟨_,rfl⟩
   rw [←HK2.out] at HCl0
   have hK20:0≤K2:=by have:=HK2.out;omega
   have hK21:K2≤5000000:=by have:=HK2.out;omega
   have nn0:¬(K2<0):=by omega
   clear hB l0 l1 q0 q1 q2 hA
   go_wp2_with fail
   refine HCl0.out.mono ?_
   rintro e w5 ⟨rfl,rfl⟩
   clear HCl0 d0 c0 c1
   have hB:=HB.out
   have d1:=HM0.out.wm.cell b (o+m*6+3) _ HQ3.out (by simp)
   have HCl1:Hid (Calls Tryz.prog 55 #[.slice va n2 vc,.int .i64 (K2)] w5 fun e w'=>e=.returned (.int .i64 (1+((pp+1+1+n1*3+s2:Nat):Int)))∧w'=w5):=(by have h:=held_n L lo hi w0 HOk.out r (pp+1+1+n1*3) _ nk w5 (K2) HR.out (by rw [←Hs2.out];omega) HM0.out (by have:=HK2.out;omega);rw [←Hs2.out] at h;exact h)
   obtain ⟨K3,HK3⟩:∃q,Hid (q=1+((pp+1+1+n1*3+s2:Nat):Int)):=⟨_,rfl⟩
   rw [←HK3.out] at HCl1
   have hK30:0≤K3:=by have:=HK3.out;omega
   have hK31:K3≤5000000:=by have:=HK3.out;omega
   have nn1:¬(K3<0):=by omega
   clear hB
   go_wp2_with fail
   refine HCl1.out.mono ?_
   rintro e w6 ⟨rfl,rfl⟩
   clear HCl1 d1 
   have hB:=HB.out
   have d2:=HM0.out.wm.cell b (o+m*6+4) _ HQ4.out (by simp)
   have HCl2:Hid (Calls Tryz.prog 56 #[.slice xa n3 xc,.int .i64 (K3)] w6 fun e w'=>e=.returned (.int .i64 (1+((pp+1+1+n1*3+s2+s3:Nat):Int)))∧w'=w6):=(by have h:=held_e L lo hi w0 HOk.out (pp+1+1+n1*3+s2) _ coils w6 (K3) HC.out (by rw [←Hs3.out];omega) HM0.out (by have:=HK3.out;omega);rw [←Hs3.out] at h;exact h)
   obtain ⟨K4,HK4⟩:∃q,Hid (q=1+((pp+1+1+n1*3+s2+s3:Nat):Int)):=⟨_,rfl⟩
   rw [←HK4.out] at HCl2
   have hK40:0≤K4:=by have:=HK4.out;omega
   have hK41:K4≤5000000:=by have:=HK4.out;omega
   have nn2:¬(K4<0):=by omega
   clear hB
   go_wp2_with fail
   refine HCl2.out.mono ?_
   rintro e w7 ⟨rfl,rfl⟩
   clear HCl2 d2 
   have hB:=HB.out
   have d3:=HM0.out.wm.cell b (o+m*6+5) _ HQ5.out (by simp)
   have HCl3:Hid (Calls Tryz.prog 21 #[.slice ya n4 yc,.int .i64 (K4)] w7 fun e w'=>e=.returned (.int .i64 (1+((pp+1+1+n1*3+s2+s3+s4:Nat):Int)))∧w'=w7):=(by have h:=HIH.out (pp+1+1+n1*3+s2+s3) _ kids w7 (K4) HD.out (by rw [←Hs4.out];omega) HM0.out (by have:=HK4.out;omega);rw [←Hs4.out] at h;exact h)
   obtain ⟨K5,HK5⟩:∃q,Hid (q=1+((pp+1+1+n1*3+s2+s3+s4:Nat):Int)):=⟨_,rfl⟩
   rw [←HK5.out] at HCl3
   have hK50:0≤K5:=by have:=HK5.out;omega
   have hK51:K5≤5000000:=by have:=HK5.out;omega
   have nn3:¬(K5<0):=by omega
   have HKE:Hid (K5=1+((p+pt (tA n) xs (m+1):Nat):Int)):=(by have:=HK5.out;omega:K5=1+((p+pt (tA n) xs (m+1):Nat):Int))
   clear hB
   go_wp2_with fail
   refine HCl3.out.mono ?_
   rintro e w8 ⟨rfl,rfl⟩
   clear HCl3 d3 
   go_wp2
   go_roundg (gk-1)
   case measure=>omega
   case rel=>exact ⟨m+1,K5,by omega,by go_num,rfl,HKE,hK50,hK51,rfl⟩
  ·have i1:¬((m:Int)<(len:Int)):=by omega
   have hqn:m=xs.length:=by have:=HL.out;omega
   have HKn:Hid (K=1+((p+(xs.map (tA n)).sum:Nat):Int)):=(by rw [←HAll.out.1,←hqn];exact HK.out:K=1+((p+(xs.map (tA n)).sum:Nat):Int))
   clear hqn HK
   go_wp2
   go_ret
   exact ⟨(by show Ending.returned (.int .i64 K)=_;rw [HKn.out];simp),rfl⟩
theorem held_r(L:List (Nat×Nat))(lo hi:Nat)(w0:World)(ok:LOk L lo hi w0):∀n,∀(p:Nat)(v:Value)(xs:List ArmT)(w:World)(K:Int),RowL 6 (tA n) (ArmQ w0 n) v xs L p→p+(xs.map (tA n)).sum≤L.length→MkL L L.length lo hi w0 w→K=1+(p:Int)→Calls Tryz.prog 21 #[v,.int .i64 K] w fun e w'=>e=.returned (.int .i64 (1+((p+(xs.map (tA n)).sum:Nat):Int)))∧w'=w
 | 0=>held_r1 L lo hi w0 ok 0 fun r h=>by omega
 | n+1=>held_r1 L lo hi w0 ok (n+1) fun r h=>by cases h;exact held_r L lo hi w0 ok n
end Go.Proofs.YtllmabgollkigaaGreatDoor
namespace Go.Proofs.YtllmabgollkigaaGreatDoor
open Go.RowKit Go.Shelf
set_option linter.unusedVariables false
theorem eq_fault(l c:Int)(w:World):Calls Tryz.prog 19 #[.agg #[.int .i64 l,.int .i64 c],.agg #[.int .i64 l,.int .i64 c]] w fun e w'=>e=.returned (.bool true)∧Below w.heap.size w w':=by
 have b2:∀A B,Below w.heap.size w ((w.alloc A).alloc B):=fun A B=>((Below.refl _ _).alloc (Nat.le_refl _) _).alloc (by simp) _
 go_enter Tryz.func19,Tryz.ntmps19
 go_wp2
 go_ret
 exact ⟨rfl,b2 _ _⟩
theorem tf_w(m:Nat):∀(ls:List (List UInt8))(n:Nat)(rs:List ArmT)(ats:List Nat),(tf ls n rs ats).1.length+((tf ls n rs ats).1.map (wA m)).sum≤rs.length+(rs.map (wA m)).sum+5*(ls.map fun l=>l.length+1).sum
 | [],n,rs,ats=>by simp [tf]
 | l::ls,n,rs,ats=>by
  rw [tf]
  have hsum:((l::ls).map fun l=>l.length+1).sum=(l.length+1)+(ls.map fun l=>l.length+1).sum:=by simp
  by_cases h:zal l=[]
  ·rw [if_pos h]
   have:=tf_w m ls (n+1) rs ats
   omega
  ·rw [if_neg h]
   cases hr:zbv (wsB l) with
   | none=>simp
   | some t =>
    have h1:=tf_w m ls (n+1) (rs++[t]) (ats++[n+1])
    have h2:=rung_w m hr
    have h3:=zdf l
    rw [wsB_len] at h2
    simp only [List.length_append,List.map_append,List.sum_append,List.length_cons,List.length_nil,List.map_cons,List.map_nil,List.sum_cons,List.sum_nil] at h1
    show (tf ls (n+1) (rs++[t]) (ats++[n+1])).1.length+((tf ls (n+1) (rs++[t]) (ats++[n+1])).1.map (wA m)).sum≤_
    omega
theorem text_w(s:ByteArray):((zdw ctE clE s).1.map (tA 40000)).sum≤4000000:=by
 have key:∀xs:List ArmT,(xs.map (tA 40000)).sum≤3*(xs.length+(xs.map (wA 40000)).sum):=fun xs=>by
  induction xs with
  | nil=>simp
  | cons y ys ih =>
   have:=tA_w 40000 y
   simp only [List.map_cons,List.sum_cons,List.length_cons]
   omega
 unfold zdw
 by_cases h:16000<s.size
 ·rw [if_pos h];simp
 ·rw [if_neg h]
  have h1:=tf_w 40000 (pieces 10 s.data.toList) 0 [] []
  have h2:=zgn 10 s.data.toList []
  have h3:s.data.toList.length=s.size:=(Array.length_toList:s.data.toList.length=s.data.size)
  have h4:=key (tf (pieces 10 s.data.toList) 0 [] []).1
  unfold pieces at *
  simp only [List.length_nil,List.map_nil,List.sum_nil] at h1 h2
  split
  ·simp
  ·split
   ·show ((tf (cutA 10 [] s.data.toList) 0 [] []).1.map (tA 40000)).sum≤4000000
    omega
   ·split
    ·simp
    ·simp
theorem mark_both(wb w:World)(F:List Nat)(a:Option Addr)(m cp:Nat)(xs:List ArmT)(h:ArmsOwn w wb.heap.size F (.slice a m cp) xs)(hnd:F.Nodup)(hx:(xs.map (tA 40000)).sum≤4000000)(hB:Below wb.heap.size wb w) :
  ∃(K:Int)(Q:World→Prop),1≤K∧Calls Tryz.prog 20 #[.slice a m cp,.int .i64 1] w (fun e w'=>e=.returned (.int .i64 K)∧Q w'∧Below wb.heap.size wb w') ∧
   (∀W,Q W→Calls Tryz.prog 21 #[.slice a m cp,.int .i64 1] W fun e w'=>e=.returned (.int .i64 K)∧w'=W)∧∀W W',Q W→Below W.heap.size W W'→Q W':=by
 obtain ⟨L,e1,e2,e3,e4,e5⟩:=arms_addr h hnd
 have ok:LOk L wb.heap.size w.heap.size w:=⟨e2,e3,e4,by omega⟩
 refine ⟨1+((0+(xs.map (tA 40000)).sum:Nat):Int),fun W=>MkL L L.length wb.heap.size w.heap.size w W,by omega,(mark_r L wb.heap.size w.heap.size w ok 40000 0 _ xs w 1 e5 (by omega) (MkL.none (WMk.refl _ _ _)) (by simp)).mono fun e w' ⟨h1,h2⟩=>⟨h1,by rw [e1];rwa [Nat.zero_add] at h2,WMk.below hB h2.wm (Nat.le_refl _) hB.size⟩,fun W hW=>held_r L wb.heap.size w.heap.size w ok 40000 0 _ xs W 1 e5 (by omega) hW (by simp),fun W W' hW g=>hW.later g⟩
theorem arms_is{W:World}{base:Nat}{F:List Nat}{v:Value}{xs:List ArmT}(h:ArmsOwn W base F v xs):ArmsIs W 0 40000 v xs:=RowOwn.is h (Nat.zero_le _) fun f x c h=>ArmOwn.is (Nat.zero_le _) 40000 f x c h
theorem zfo{W W':World}{base:Nat}{F:List Nat}{v:Value}{xs:List ArmT}(h:ArmsOwn W base F v xs)(g:Below W.heap.size W W'):ArmsOwn W' base F v xs:=h.go (zad g none) (fun b _=>by simp)
set_option maxRecDepth 10000 in
theorem law_tread(s:ByteArray)(w:World)(hT:Tabs w)(hM:ML w)(hH:EH w) :
  Calls Tryz.prog 6 #[.string s] w fun e w'=>e=.returned (.bool true)∧Below w.heap.size w w':=by
 by_cases hs:1048576<s.size
 ·have i1:(1048576:Int)<(s.size:Int):=by omega
  go_enter Tryz.func6,Tryz.ntmps6
  go_wp2
  go_ret
  exact ⟨rfl,Below.refl _ _⟩
 have i1:¬((1048576:Int)<(s.size:Int)):=by omega
 have HTs:Hid (Tabs w∧ML w∧EH w):=⟨hT,hM,hH⟩
 have HPi:Hid (∀W,Below w.heap.size w W→Calls Tryz.prog 11 #[.string s] W fun e w'=>TxR s W e w'):=fun W g=>text_i s W (by omega) (HTs.out.1.later g) (HTs.out.2.1.later g) (HTs.out.2.2.later g)
 have HPs:Hid (∀W,Calls Tryz.prog 14 #[.string s] W fun e w'=>TxR s W e w'):=fun W=>text_s s W (by omega)
 obtain ⟨xs,Hxs⟩:∃x,Hid (x=(zdw ctE clE s).1):=⟨_,rfl⟩
 obtain ⟨ln,Hln⟩:∃x,Hid (x=(zdw ctE clE s).2.1):=⟨_,rfl⟩
 obtain ⟨cd,Hcd⟩:∃x,Hid (x=(zdw ctE clE s).2.2):=⟨_,rfl⟩
 have HPR:Hid (∀(W:World)(e:Ending)(w':World),TxR s W e w'→∃(F:List Nat)(a:Option Addr)(m cp:Nat),e=.returned (.tuple #[.slice a m cp,.agg #[.int .i64 ln,.int .i64 cd]])∧ArmsOwn w' W.heap.size F (.slice a m cp) xs∧F.Nodup∧(xs.map (tA 40000)).sum≤4000000∧Below W.heap.size W w'):=fun W e w' h=>by
  obtain ⟨ys,l',c',F,a,m,cp,h1,h2,h3,h4,h6⟩:=h
  have h5:(xs.map (tA 40000)).sum≤4000000:=by rw [Hxs.out];exact text_w s
  have e1:xs=ys:=by rw [Hxs.out,h1]
  have e2:ln=l':=by rw [Hln.out,h1]
  have e3:cd=c':=by rw [Hcd.out,h1]
  subst e1 e2 e3
  exact ⟨F,a,m,cp,h2,h3,h4,h5,h6⟩
 have HEq:Hid (∀W v v',ArmsIs W 0 40000 v xs→ArmsIs W 0 40000 v' xs→Calls Tryz.prog 18 #[v,v'] W fun e w'=>e=.returned (.bool true)∧Below W.heap.size W w'):=fun W v v' h h'=>by
  have:=eq_arms 40000 40000 v v' xs xs W 0 0 h h'
  rwa [zch] at this
 clear hT hM hH Hxs Hln Hcd
 go_enter Tryz.func6,Tryz.ntmps6
 go_wp2_with fail
 refine (HPs.out w).mono ?_
 intro e w1 h1
 obtain ⟨F0,a0,m0,cp0,rfl,hO0,_,_,g1⟩:=HPR.out _ _ _ h1
 have HV0:Hid (ArmsIs w1 0 40000 (.slice a0 m0 cp0) xs):=arms_is hO0
 obtain ⟨W1,HW1⟩:∃W,Hid (W=w1.alloc (.cells #[.int .i64 ln,.int .i64 cd] 30)):=⟨_,rfl⟩
 have HS1:Hid ((storeVar 30 ⟨w1.heap.size,0,none⟩ (.agg #[.int .i64 ln,.int .i64 cd])).run Tryz.prog (w1.alloc (.cells #[.int .i64 0,.int .i64 0] 30))=.ok () W1):=by
  rw [HW1.out]
  exact run_storeVar_new w1 30 _ _ (by kernel_rfl) rfl (all_one [.int .i64 ln,.int .i64 cd] (by intro d hd;simp at hd;rcases hd with rfl|rfl<;>rfl))
 have k1:W1.heap[w1.heap.size]?=some (.cells #[.int .i64 ln,.int .i64 cd] 30 (0,0)):=by rw [HW1.out];exact heap_alloc_last w1 _
 have gW1:Below w1.heap.size w1 W1:=by rw [HW1.out];exact (Below.refl _ _).alloc (Nat.le_refl _) _
 have b1:Below w.heap.size w W1:=g1.trans (gW1.mono g1.size)
 have HV1:Hid (ArmsIs W1 0 40000 (.slice a0 m0 cp0) xs):=zbi (Keeps.of_below gW1 0) (Nat.le_refl _) (Nat.le_refl _) HV0.out
 have HB1:Hid (Below w.heap.size w W1∧W1.heap[w1.heap.size]?=some (.cells #[.int .i64 ln,.int .i64 cd] 30 (0,0))):=⟨b1,k1⟩
 clear h1 hO0 g1 HV0 HW1 gW1 b1 k1
 go_wp2_with (first|(refine zaj rfl 30 _ _ rfl _ _ rfl _ rfl _ HS1.out ?_)|fail)
 refine (HPi.out W1 HB1.out.1).mono ?_
 intro e w2 h2
 obtain ⟨F1,a1,m1,cp1,rfl,hO1,hnd1,hx1,g2⟩:=HPR.out _ _ _ h2
 obtain ⟨W2,HW2⟩:∃W,Hid (W=w2.alloc (.cells #[.int .i64 ln,.int .i64 cd] 30)):=⟨_,rfl⟩
 have HS2:Hid ((storeVar 30 ⟨w2.heap.size,0,none⟩ (.agg #[.int .i64 ln,.int .i64 cd])).run Tryz.prog (w2.alloc (.cells #[.int .i64 0,.int .i64 0] 30))=.ok () W2):=by
  rw [HW2.out]
  exact run_storeVar_new w2 30 _ _ (by kernel_rfl) rfl (all_one [.int .i64 ln,.int .i64 cd] (by intro d hd;simp at hd;rcases hd with rfl|rfl<;>rfl))
 have k2:W2.heap[w2.heap.size]?=some (.cells #[.int .i64 ln,.int .i64 cd] 30 (0,0)):=by rw [HW2.out];exact heap_alloc_last w2 _
 have gW2:Below w2.heap.size w2 W2:=by rw [HW2.out];exact (Below.refl _ _).alloc (Nat.le_refl _) _
 have gA:Below W1.heap.size W1 W2:=g2.trans (gW2.mono g2.size)
 have k1b:W2.heap[w1.heap.size]?=some (.cells #[.int .i64 ln,.int .i64 cd] 30 (0,0)):=(gA.block _ (Array.getElem?_eq_some_iff.1 HB1.out.2).1).trans HB1.out.2
 have HV2:Hid (ArmsIs W2 0 40000 (.slice a0 m0 cp0) xs):=zbi (Keeps.of_below gA 0) (Nat.le_refl _) (Nat.le_refl _) HV1.out
 have hO2:ArmsOwn W2 W1.heap.size F1 (.slice a1 m1 cp1) xs:=zfo hO1 gW2
 have HO2:Hid (ArmsOwn W2 W1.heap.size F1 (.slice a1 m1 cp1) xs∧F1.Nodup∧(xs.map (tA 40000)).sum≤4000000∧Below W1.heap.size W1 W2):=⟨hO2,hnd1,hx1,gA⟩
 have HU2:Hid (ArmsIs W2 0 40000 (.slice a1 m1 cp1) xs):=arms_is hO2
 have HK2:Hid (W2.heap[w1.heap.size]?=some (.cells #[.int .i64 ln,.int .i64 cd] 30 (0,0))∧W2.heap[w2.heap.size]?=some (.cells #[.int .i64 ln,.int .i64 cd] 30 (0,0))):=⟨k1b,k2⟩
 clear h2 hO1 hnd1 hx1 g2 HW2 gW2 k1b hO2 gA k2 HS1
 go_wp2_with (first|(refine zaj rfl 30 _ _ rfl _ _ rfl _ rfl _ HS2.out ?_)|fail)
 refine (HEq.out W2 _ _ HU2.out HV2.out).mono ?_
 rintro e w3 ⟨rfl,g3⟩
 have kA:=(g3.block _ (Array.getElem?_eq_some_iff.1 HK2.out.1).1).trans HK2.out.1
 have kB:=(g3.block _ (Array.getElem?_eq_some_iff.1 HK2.out.2).1).trans HK2.out.2
 have cA0:w3.cell? ⟨w1.heap.size,0,none⟩=some (.int .i64 ln):=(cell_of_row _ _ _ _ _ _ kA).trans rfl
 have cA1:w3.cell? ⟨w1.heap.size,1,none⟩=some (.int .i64 cd):=(cell_of_row _ _ _ _ _ _ kA).trans rfl
 have cB0:w3.cell? ⟨w2.heap.size,0,none⟩=some (.int .i64 ln):=(cell_of_row _ _ _ _ _ _ kB).trans rfl
 have cB1:w3.cell? ⟨w2.heap.size,1,none⟩=some (.int .i64 cd):=(cell_of_row _ _ _ _ _ _ kB).trans rfl
 have HG3:Hid (Below W2.heap.size W2 w3∧w3.heap[w1.heap.size]?=some (.cells #[.int .i64 ln,.int .i64 cd] 30 (0,0))):=⟨g3,kA⟩
 clear g3 kA kB HS2
 go_wp2_with fail
 refine (eq_fault ln cd _).mono ?_
 rintro e w4 ⟨rfl,g4⟩
 have gC:=HG3.out.1.trans (g4.mono HG3.out.1.size)
 have gD:Below W1.heap.size W1 w4:=HO2.out.2.2.2.trans (gC.mono HO2.out.2.2.2.size)
 obtain ⟨K,Q,hK1,hMk,hHd,hQl⟩:=mark_both W1 w4 F1 a1 m1 cp1 xs (zfo HO2.out.1 gC) HO2.out.2.1 HO2.out.2.2.1 gD
 have HMk:Hid (Calls Tryz.prog 20 #[.slice a1 m1 cp1,.int .i64 1] w4 (fun e w'=>e=.returned (.int .i64 K)∧Q w'∧Below W1.heap.size W1 w')):=hMk
 have HHd:Hid (∀W,Q W→Calls Tryz.prog 21 #[.slice a1 m1 cp1,.int .i64 1] W fun e w'=>e=.returned (.int .i64 K)∧w'=W):=hHd
 have HQl:Hid (∀W W',Q W→Below W.heap.size W W'→Q W'):=hQl
 have j1:¬(K<0):=by omega
 clear cA0 cA1 cB0 cB1 g4 gC gD hMk hHd hQl
 go_wp2_with fail
 refine HMk.out.mono ?_
 rintro e w5 ⟨rfl,hQ5,g5⟩
 have HQ5:Hid (Q w5∧Below W1.heap.size W1 w5):=⟨hQ5,g5⟩
 clear hQ5 g5 HMk
 go_wp2_with fail
 refine (HHd.out w5 HQ5.out.1).mono ?_
 rintro e w6 ⟨rfl,rfl⟩
 have HB6:Hid (Below w.heap.size w w6):=HB1.out.1.trans (HQ5.out.2.mono HB1.out.1.size)
 go_wp2_with fail
 refine (HPi.out w6 HB6.out).mono ?_
 intro e w7 h7
 obtain ⟨F2,a2,m2,cp2,rfl,hO7,_,_,g7⟩:=HPR.out _ _ _ h7
 obtain ⟨W7,HW7⟩:∃W,Hid (W=w7.alloc (.cells #[.int .i64 ln,.int .i64 cd] 30)):=⟨_,rfl⟩
 have HS7:Hid ((storeVar 30 ⟨w7.heap.size,0,none⟩ (.agg #[.int .i64 ln,.int .i64 cd])).run Tryz.prog (w7.alloc (.cells #[.int .i64 0,.int .i64 0] 30))=.ok () W7):=by
  rw [HW7.out]
  exact run_storeVar_new w7 30 _ _ (by kernel_rfl) rfl (all_one [.int .i64 ln,.int .i64 cd] (by intro d hd;simp at hd;rcases hd with rfl|rfl<;>rfl))
 have k7:W7.heap[w7.heap.size]?=some (.cells #[.int .i64 ln,.int .i64 cd] 30 (0,0)):=by rw [HW7.out];exact heap_alloc_last w7 _
 have gW7:Below w7.heap.size w7 W7:=by rw [HW7.out];exact (Below.refl _ _).alloc (Nat.le_refl _) _
 have gE:Below w6.heap.size w6 W7:=g7.trans (gW7.mono g7.size)
 have gF:Below W1.heap.size W1 W7:=HQ5.out.2.trans (gE.mono HQ5.out.2.size)
 have k17:W7.heap[w1.heap.size]?=some (.cells #[.int .i64 ln,.int .i64 cd] 30 (0,0)):=(gF.block _ (Array.getElem?_eq_some_iff.1 HB1.out.2).1).trans HB1.out.2
 have HV7:Hid (ArmsIs W7 0 40000 (.slice a0 m0 cp0) xs):=zbi (Keeps.of_below gF 0) (Nat.le_refl _) (Nat.le_refl _) HV1.out
 have HU7:Hid (ArmsIs W7 0 40000 (.slice a2 m2 cp2) xs):=arms_is (zfo hO7 gW7)
 have HQ7:Hid (Q W7∧Below w.heap.size w W7):=⟨HQl.out _ _ HQ5.out.1 gE,HB6.out.trans (gE.mono HB6.out.size)⟩
 have HK7:Hid (W7.heap[w1.heap.size]?=some (.cells #[.int .i64 ln,.int .i64 cd] 30 (0,0))∧W7.heap[w7.heap.size]?=some (.cells #[.int .i64 ln,.int .i64 cd] 30 (0,0))):=⟨k17,k7⟩
 clear h7 hO7 g7 HW7 gW7 gE gF k17 k7
 go_wp2_with (first|(refine zaj rfl 30 _ _ rfl _ _ rfl _ rfl _ HS7.out ?_)|fail)
 refine (HEq.out W7 _ _ HU7.out HV7.out).mono ?_
 rintro e w8 ⟨rfl,g8⟩
 have kA:=(g8.block _ (Array.getElem?_eq_some_iff.1 HK7.out.1).1).trans HK7.out.1
 have kB:=(g8.block _ (Array.getElem?_eq_some_iff.1 HK7.out.2).1).trans HK7.out.2
 have cA0:w8.cell? ⟨w1.heap.size,0,none⟩=some (.int .i64 ln):=(cell_of_row _ _ _ _ _ _ kA).trans rfl
 have cA1:w8.cell? ⟨w1.heap.size,1,none⟩=some (.int .i64 cd):=(cell_of_row _ _ _ _ _ _ kA).trans rfl
 have cB0:w8.cell? ⟨w7.heap.size,0,none⟩=some (.int .i64 ln):=(cell_of_row _ _ _ _ _ _ kB).trans rfl
 have cB1:w8.cell? ⟨w7.heap.size,1,none⟩=some (.int .i64 cd):=(cell_of_row _ _ _ _ _ _ kB).trans rfl
 have HG8:Hid (Below W7.heap.size W7 w8):=g8
 clear g8 kA kB HS7
 go_wp2_with fail
 refine (eq_fault ln cd _).mono ?_
 rintro e w9 ⟨rfl,g9⟩
 have gZ:=HG8.out.trans (g9.mono HG8.out.size)
 have HQ9:Hid (Q w9∧Below w.heap.size w w9):=⟨HQl.out _ _ HQ7.out.1 gZ,HQ7.out.2.trans (gZ.mono HQ7.out.2.size)⟩
 clear cA0 cA1 cB0 cB1 g9 gZ
 go_wp2_with fail
 refine (HHd.out w9 HQ9.out.1).mono ?_
 rintro e wa ⟨rfl,rfl⟩
 have bb:=HQ9.out.2
 go_wp2
 go_ret
 exact ⟨rfl,bb⟩
end Go.Proofs.YtllmabgollkigaaGreatDoor
namespace Go.Proofs.YtllmabgollkigaaGreatDoor
open Go.RowKit Go.Lib
set_option linter.unusedVariables false
theorem ml_of_shape{W:World}(h:W.ShapedOpen Tryz.prog):ML W :=
 cell_of_shapedOpen_int (t:=3) (zero:=#[.int .i64 0]) h (of_decide_eq_true (by kernel_rfl)) (by kernel_rfl) rfl (by kernel_rfl) (by kernel_rfl) Tryz.underlying3
theorem et_named : Tryz.prog.globalNamed "errors.errorType" = some 0 := by kernel_rfl
theorem rt_type : (Tryz.prog.cutTypes.find? (·.1 == "internal/reflectlite.rtype")).map (·.2) = some 173 := by kernel_rfl
theorem err_row:((List.range 319).filter fun t=>Tryz.prog.rowNamed t [101,114,114,111,114])=[63]:=by kernel_rfl
theorem types_size:Tryz.prog.types.size=319:=by kernel_rfl
theorem err_name:(Rows.laid_errors_errorType:DataW Unit).handleName?=some [101,114,114,111,114]:=by kernel_rfl
theorem err_nofn:(Rows.laid_errors_errorType:DataW Unit).funcsIn?=none:=by kernel_rfl
theorem eh_of_laid {W : World} (h : handlesMet Tryz.prog [("errors.errorType", Rows.laid_errors_errorType)] W) : EH W := by
 have h1:=h _ (List.mem_singleton.2 rfl)
 simp only [err_nofn] at h1
 obtain ⟨name,u,ty,e1,e2,e3,e4,e5⟩:=h1
 obtain rfl:=Option.some.inj (err_name.symm.trans e1)
 obtain rfl:=Option.some.inj (rt_type.symm.trans e2)
 have hm:ty∈(List.range 319).filter fun t=>Tryz.prog.rowNamed t [101,114,114,111,114]:=List.mem_filter.2 ⟨List.mem_range.2 (by rw [←types_size];exact e3),e4⟩
 rw [err_row] at hm
 obtain rfl:=List.mem_singleton.1 hm
 have hh:typeHandle Tryz.prog 63=.pointer (some ⟨9,63,none⟩):=by kernel_rfl
 rw [hh] at e5
 have:=World.var?_cell et_named e5 0
 simpa [EH] using this
noncomputable def zef(os:Os):World :=
 let w0:=World.holding Tryz.prog os ⟨#[],#[],[]⟩
 { w0 with heap:=w0.heap.modify 0 fun
   | .cells _ t frozen=>.cells #[.iface 173 (.agg #[.pointer (some ⟨9,63,none⟩)])] t frozen
   | o=>o }
noncomputable def zby(os:Os)(plain:List (String×DataW Unit)):World:=(zef os).layVars Tryz.prog plain
theorem zie(os:Os)(plain:List (String×DataW Unit)):(zby os plain).os=os:=World.layVars_os _ _ _
theorem zhw{os:Os}{laid:List (String×DataW Unit)}(args:Array Value)
  (hf:(zef os).layFits Tryz.prog (laid.filter fun x=>x.2.handleName?.isNone) []=true)
  (hi:(zef os).layIfaces Tryz.prog (laid.filter fun x=>x.2.handleName?.isNone) (zby os (laid.filter fun x=>x.2.handleName?.isNone))=true)
  (hh:(laid.filter fun x=>x.2.handleName?.isSome).all (handleAtB Tryz.prog ((zby os (laid.filter fun x=>x.2.handleName?.isNone)).forCall (fun _ _=>0) ⟨#[],args,[]⟩).memory)=true) :
  laidMetH Tryz.prog laid ((zby os (laid.filter fun x=>x.2.handleName?.isNone)).forCall (fun _ _=>0) ⟨#[],args,[]⟩).memory:=by
 refine laidMetH_of_parts ?_ hh
 generalize (laid.filter fun x=>x.2.handleName?.isNone)=pl at hf hi
 have e1 : (pl.filter fun x => (pl.map (·.1)).contains x.1) = pl := List.filter_eq_self.2 fun x hx => List.contains_iff_mem.2 (List.mem_map.2 ⟨x, hx, rfl⟩)
 have e2 : (pl.filter fun x => !(pl.map (·.1)).contains x.1) = [] := List.filter_eq_nil_iff.2 fun x hx => by rw [List.contains_iff_mem.2 (List.mem_map.2 ⟨x, hx, rfl⟩)]; simp
 have h : laidMet Tryz.prog pl (zby os pl) := laidMet_layVars (w0 := zef os) (pl.map (·.1)) [] (by rw [e1]; rfl) (by rw [e1]; exact hf) (by rw [e1]; exact hi) (by rw [e2]; exact LaidIn.none)
 exact h.of_heap (by simp [World.memory,World.forCall,Input.heap])
theorem lift_shaped{H:Type}{enc:TypeId×Value→H}{asm0:Assume}{C:Checked}{os:Os}{f:FuncId}{fn:Func}{s:ChangeSpec}{cs:List PathCond}{b1 b2 b3 b4:Bool}{X:World→Array Value→Prop}
  (keep:∀(w w':World)(args:Array Value),w.heap=w'.heap→X w args→X w' args) (own:ownKnob C.prog.godebug=none) (st:os.Started) (ni:C.prog.inits.idxOf? f=none) (hfn:C.prog.funcs[f]?=some fn)
  (wit:∃(w:World)(tape:Tape)(i:Input),w.os=os∧(w.forCall tape i).Shaped C.prog∧i.vars=[]∧Input.okWide C.prog (w.forCall tape i) .any w.heap.size f i ∧
   ((s.pre enc C.prog fn cs b1 (w.forCall tape i).memory i.args∧X (w.forCall tape i).memory i.args)∧sizedMet enc C.prog fn (OpenSpec.ofChange s) b1 (w.forCall tape i).memory i.args)∧asm0.holds C.prog (lone (Frame.enter C.prog f i.args .normal) [] (w.forCall tape i)))
  (walk:∀(W:World)(base:Nat)(args:Array Value)(ds gs:List (DataW H))(before:List MemPlace),
   (∀(j:Nat) t v,fn.params[j]?=some t→args[j]?=some v→Value.okWide C.prog W .any base t v) →
   DataW.Whole enc C.prog fn.params.toList s.vars b1 W args.toList ds gs before→W.ShapedOpen C.prog→X W args →
   Calls C.prog f args W fun e W'=>∃v,e=.returned v∧s.post enc C.prog fn b1 b2 b3 b4 W args v W') :
  ReturnsInHanded asm0 C os f .any (fun w args=>(s.pre enc C.prog fn cs b1 w args∧X w args)∧sizedMet enc C.prog fn (OpenSpec.ofChange s) b1 w args) (s.post enc C.prog fn b1 b2 b3 b4):=by
 refine returnsInHanded_of_calls own st ni wit (fun w tape i _ shape _ ok pre _=>?_)
 obtain ⟨-,-,-,fn',hfn',-,-,-,-,vals⟩:=ok
 obtain rfl:=Option.some.inj (hfn'.symm.trans hfn)
 obtain ⟨⟨⟨ds,gs,before,whole,-⟩,x⟩,-⟩:=pre
 refine (walk (w.forCall tape i) w.heap.size i.args ds gs before vals (DataW.Whole.of_heap (w':=w.forCall tape i) (by rfl) whole) shape (keep _ _ _ (by rfl) x)).mono ?_
 rintro e W' ⟨v,rfl,hp⟩
 exact ChangeSpec.post_blind hp
theorem walk_tread(s:ByteArray)(W:World){X:Prop}(_:X)(k:KT W)(p:PT W)(t:WT W)(m:ML W)(h:EH W) :
  Calls Tryz.prog 6 #[.string s] W fun e w'=>e=.returned (.bool true)∧Below W.heap.size W w':=law_tread s W ⟨k,p,t⟩ m h
end Go.Proofs.YtllmabgollkigaaGreatDoor
