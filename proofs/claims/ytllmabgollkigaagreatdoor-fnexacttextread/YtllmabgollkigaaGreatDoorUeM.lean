/- What the specification says is wrong with a net and with an arm. -/
import Derived.Test.YtllmabgollkigaaGreatDoorGrM
set_option maxHeartbeats 16000000
namespace Go.Proofs.YtllmabgollkigaaGreatDoor
open Go.RowKit
set_option linter.unusedVariables false
theorem sw1_kids(op:Int)(l1 l:Nat)(a1:Option Addr)(c1:Nat)(a:Option Addr)(cap:Nat)(h:0<l)(w:World) :
  Calls Tryz.prog 71 #[.agg #[.int .i64 1,.int .i64 op,.slice a1 l1 c1,.slice a l cap]] w fun e w'=>e=.returned (.int .i64 2)∧Below w.heap.size w w':=by
 have e1:(l:Int) > 0:=by omega
 have e2:(0:Int)<(l:Int):=by omega
 have b0:Below w.heap.size w (w.alloc (.cells #[.int .i64 1,.int .i64 op,.slice a1 l1 c1,.slice a l cap] 53)):=(Below.refl _ _).alloc (Nat.le_refl _) _
 go_enter Tryz.func71,Tryz.ntmps71
 go_wp2
 go_ret
 exact ⟨rfl,b0⟩
theorem sw1_one(op:Int)(l1:Nat)(a1:Option Addr)(c1:Nat)(a:Option Addr)(cap:Nat)(w:World)(b:Bool)(HC:Hid (∀W,Below w.heap.size w W→Calls Tryz.prog 110 #[.agg #[.int .i64 op,.slice a1 l1 c1]] W fun e w'=>e=.returned (.bool b)∧Below W.heap.size W w')) :
  Calls Tryz.prog 71 #[.agg #[.int .i64 1,.int .i64 op,.slice a1 l1 c1,.slice a 0 cap]] w fun e w'=>e=.returned (.int .i64 (if b then 0 else 3))∧Below w.heap.size w w':=by
 have b0:Below w.heap.size w (w.alloc (.cells #[.int .i64 1,.int .i64 op,.slice a1 l1 c1,.slice a 0 cap] 53)):=(Below.refl _ _).alloc (Nat.le_refl _) _
 go_enter Tryz.func71,Tryz.ntmps71
 go_wp2_with fail
 refine (HC.out _ b0).mono ?_
 rintro e w1 ⟨rfl,g1⟩
 have b1:=b0.trans (g1.mono b0.size)
 clear g1 b0
 cases b with
 | true =>
  go_wp2
  go_ret
  exact ⟨rfl,b1⟩
 | false =>
  go_wp2
  go_ret
  exact ⟨rfl,b1⟩
theorem sw_low(k op:Int)(l1 l:Nat)(a1:Option Addr)(c1:Nat)(a:Option Addr)(cap:Nat)(h1:(k==1)=false)(h:k<2)(w:World) :
  Calls Tryz.prog 71 #[.agg #[.int .i64 k,.int .i64 op,.slice a1 l1 c1,.slice a l cap]] w fun e w'=>e=.returned (.int .i64 2)∧Below w.heap.size w w':=by
 have b0:Below w.heap.size w (w.alloc (.cells #[.int .i64 k,.int .i64 op,.slice a1 l1 c1,.slice a l cap] 53)):=(Below.refl _ _).alloc (Nat.le_refl _) _
 go_enter Tryz.func71,Tryz.ntmps71
 go_wp2
 go_ret
 exact ⟨rfl,b0⟩
theorem sw_high(k op:Int)(l1 l:Nat)(a1:Option Addr)(c1:Nat)(a:Option Addr)(cap:Nat)(h1:(k==1)=false)(h0:¬ k<2)(h:k > 4)(w:World) :
  Calls Tryz.prog 71 #[.agg #[.int .i64 k,.int .i64 op,.slice a1 l1 c1,.slice a l cap]] w fun e w'=>e=.returned (.int .i64 2)∧Below w.heap.size w w':=by
 have h':4<k:=h
 have b0:Below w.heap.size w (w.alloc (.cells #[.int .i64 k,.int .i64 op,.slice a1 l1 c1,.slice a l cap] 53)):=(Below.refl _ _).alloc (Nat.le_refl _) _
 go_enter Tryz.func71,Tryz.ntmps71
 go_wp2
 go_ret
 exact ⟨rfl,b0⟩
theorem sw2_op(op:Int)(l1 l:Nat)(a1:Option Addr)(c1:Nat)(a:Option Addr)(cap:Nat)(h:(op != 0)=true)(w:World) :
  Calls Tryz.prog 71 #[.agg #[.int .i64 2,.int .i64 op,.slice a1 l1 c1,.slice a l cap]] w fun e w'=>e=.returned (.int .i64 2)∧Below w.heap.size w w':=by
 have b0:Below w.heap.size w (w.alloc (.cells #[.int .i64 2,.int .i64 op,.slice a1 l1 c1,.slice a l cap] 53)):=(Below.refl _ _).alloc (Nat.le_refl _) _
 go_enter Tryz.func71,Tryz.ntmps71
 go_wp2
 go_ret
 exact ⟨rfl,b0⟩
theorem sw2_args(l1 l:Nat)(a1:Option Addr)(c1:Nat)(a:Option Addr)(cap:Nat)(h:0<l1)(w:World) :
  Calls Tryz.prog 71 #[.agg #[.int .i64 2,.int .i64 0,.slice a1 l1 c1,.slice a l cap]] w fun e w'=>e=.returned (.int .i64 2)∧Below w.heap.size w w':=by
 have e1:(l1:Int) > 0:=by omega
 have e2:(0:Int)<(l1:Int):=by omega
 have b0:Below w.heap.size w (w.alloc (.cells #[.int .i64 2,.int .i64 0,.slice a1 l1 c1,.slice a l cap] 53)):=(Below.refl _ _).alloc (Nat.le_refl _) _
 go_enter Tryz.func71,Tryz.ntmps71
 go_wp2
 go_ret
 exact ⟨rfl,b0⟩
theorem sw2_none(a1:Option Addr)(c1:Nat)(a:Option Addr)(cap:Nat)(w:World) :
  Calls Tryz.prog 71 #[.agg #[.int .i64 2,.int .i64 0,.slice a1 0 c1,.slice a 0 cap]] w fun e w'=>e=.returned (.int .i64 2)∧Below w.heap.size w w':=by
 have b0:Below w.heap.size w (w.alloc (.cells #[.int .i64 2,.int .i64 0,.slice a1 0 c1,.slice a 0 cap] 53)):=(Below.refl _ _).alloc (Nat.le_refl _) _
 go_enter Tryz.func71,Tryz.ntmps71
 go_wp2
 go_ret
 exact ⟨rfl,b0⟩
theorem sw3_op(op:Int)(l1 l:Nat)(a1:Option Addr)(c1:Nat)(a:Option Addr)(cap:Nat)(h:(op != 0)=true)(w:World) :
  Calls Tryz.prog 71 #[.agg #[.int .i64 3,.int .i64 op,.slice a1 l1 c1,.slice a l cap]] w fun e w'=>e=.returned (.int .i64 2)∧Below w.heap.size w w':=by
 have b0:Below w.heap.size w (w.alloc (.cells #[.int .i64 3,.int .i64 op,.slice a1 l1 c1,.slice a l cap] 53)):=(Below.refl _ _).alloc (Nat.le_refl _) _
 go_enter Tryz.func71,Tryz.ntmps71
 go_wp2
 go_ret
 exact ⟨rfl,b0⟩
theorem sw3_args(l1 l:Nat)(a1:Option Addr)(c1:Nat)(a:Option Addr)(cap:Nat)(h:0<l1)(w:World) :
  Calls Tryz.prog 71 #[.agg #[.int .i64 3,.int .i64 0,.slice a1 l1 c1,.slice a l cap]] w fun e w'=>e=.returned (.int .i64 2)∧Below w.heap.size w w':=by
 have e1:(l1:Int) > 0:=by omega
 have e2:(0:Int)<(l1:Int):=by omega
 have b0:Below w.heap.size w (w.alloc (.cells #[.int .i64 3,.int .i64 0,.slice a1 l1 c1,.slice a l cap] 53)):=(Below.refl _ _).alloc (Nat.le_refl _) _
 go_enter Tryz.func71,Tryz.ntmps71
 go_wp2
 go_ret
 exact ⟨rfl,b0⟩
theorem sw3_none(a1:Option Addr)(c1:Nat)(a:Option Addr)(cap:Nat)(w:World) :
  Calls Tryz.prog 71 #[.agg #[.int .i64 3,.int .i64 0,.slice a1 0 c1,.slice a 0 cap]] w fun e w'=>e=.returned (.int .i64 2)∧Below w.heap.size w w':=by
 have b0:Below w.heap.size w (w.alloc (.cells #[.int .i64 3,.int .i64 0,.slice a1 0 c1,.slice a 0 cap] 53)):=(Below.refl _ _).alloc (Nat.le_refl _) _
 go_enter Tryz.func71,Tryz.ntmps71
 go_wp2
 go_ret
 exact ⟨rfl,b0⟩
theorem sw4_op(op:Int)(l1 l:Nat)(a1:Option Addr)(c1:Nat)(a:Option Addr)(cap:Nat)(h:(op != 0)=true)(w:World) :
  Calls Tryz.prog 71 #[.agg #[.int .i64 4,.int .i64 op,.slice a1 l1 c1,.slice a l cap]] w fun e w'=>e=.returned (.int .i64 2)∧Below w.heap.size w w':=by
 have b0:Below w.heap.size w (w.alloc (.cells #[.int .i64 4,.int .i64 op,.slice a1 l1 c1,.slice a l cap] 53)):=(Below.refl _ _).alloc (Nat.le_refl _) _
 go_enter Tryz.func71,Tryz.ntmps71
 go_wp2
 go_ret
 exact ⟨rfl,b0⟩
theorem sw4_args(l1 l:Nat)(a1:Option Addr)(c1:Nat)(a:Option Addr)(cap:Nat)(h:0<l1)(w:World) :
  Calls Tryz.prog 71 #[.agg #[.int .i64 4,.int .i64 0,.slice a1 l1 c1,.slice a l cap]] w fun e w'=>e=.returned (.int .i64 2)∧Below w.heap.size w w':=by
 have e1:(l1:Int) > 0:=by omega
 have e2:(0:Int)<(l1:Int):=by omega
 have b0:Below w.heap.size w (w.alloc (.cells #[.int .i64 4,.int .i64 0,.slice a1 l1 c1,.slice a l cap] 53)):=(Below.refl _ _).alloc (Nat.le_refl _) _
 go_enter Tryz.func71,Tryz.ntmps71
 go_wp2
 go_ret
 exact ⟨rfl,b0⟩
theorem sw4_none(a1:Option Addr)(c1:Nat)(a:Option Addr)(cap:Nat)(w:World) :
  Calls Tryz.prog 71 #[.agg #[.int .i64 4,.int .i64 0,.slice a1 0 c1,.slice a 0 cap]] w fun e w'=>e=.returned (.int .i64 2)∧Below w.heap.size w w':=by
 have b0:Below w.heap.size w (w.alloc (.cells #[.int .i64 4,.int .i64 0,.slice a1 0 c1,.slice a 0 cap] 53)):=(Below.refl _ _).alloc (Nat.le_refl _) _
 go_enter Tryz.func71,Tryz.ntmps71
 go_wp2
 go_ret
 exact ⟨rfl,b0⟩
theorem sw4_more(l:Nat)(a1:Option Addr)(c1:Nat)(a:Option Addr)(cap:Nat)(h0:((l:Int)==0)=false)(h1:((l:Int) != 1)=true)(w:World) :
  Calls Tryz.prog 71 #[.agg #[.int .i64 4,.int .i64 0,.slice a1 0 c1,.slice a l cap]] w fun e w'=>e=.returned (.int .i64 2)∧Below w.heap.size w w':=by
 have b0:Below w.heap.size w (w.alloc (.cells #[.int .i64 4,.int .i64 0,.slice a1 0 c1,.slice a l cap] 53)):=(Below.refl _ _).alloc (Nat.le_refl _) _
 go_enter Tryz.func71,Tryz.ntmps71
 go_wp2
 go_ret
 exact ⟨rfl,b0⟩
set_option maxRecDepth 10000 in
theorem sw2_go(ct cl:Int→List ArgT→Bool)(m:Nat)(a1:Option Addr)(c1:Nat)(v:Value)(xs:List NetT)(w:World)(lo:Nat)(hv:RowIs w lo 4 (NetIs w lo m) v xs)(hne:xs.length≠0)
  (HC:Hid (∀x cs,x∈xs→∀(W:World),Below w.heap.size w W→(NetIs W lo m) x cs→Calls Tryz.prog 71 #[.agg cs.toArray] W fun r w'=>r=.returned (.int .i64 (zaa ct cl (pNet m x)))∧Below W.heap.size W w'))
  (HM:Hid (∀x cs (W:World),Below w.heap.size w W→(NetIs w lo m) x cs→(NetIs W lo m) x cs)) :
  Calls Tryz.prog 71 #[.agg #[.int .i64 2,.int .i64 0,.slice a1 0 c1,v]] w fun r w'=>r=.returned (.int .i64 (zaa ct cl (xs.flatMap (pNet m))))∧Below w.heap.size w w':=by
 obtain ⟨a,cap,rfl,hl,hx⟩:=hv
 have HX:Hid (∀j x,xs[j]?=some x→∃b o cs,a=some ⟨b,o,none⟩∧lo≤b∧cs.length=4∧w.rangeAt b (o+j*4) cs∧(NetIs w lo m) x cs):=hx
 obtain ⟨len,HL⟩:∃len,Hid (len=xs.length):=⟨_,rfl⟩
 rw [←HL.out] at hl hne ⊢
 clear hx
 obtain ⟨RES,HRES⟩:∃r,Hid (r=zaa ct cl (xs.flatMap (pNet m))):=⟨_,rfl⟩
 rw [←HRES.out]
 have hk:=heap_alloc_last w (.cells #[.int .i64 2,.int .i64 0,.slice a1 0 c1,.slice a len cap] 53)
 have b0:Below w.heap.size w (w.alloc (.cells #[.int .i64 2,.int .i64 0,.slice a1 0 c1,.slice a len cap] 53)):=(Below.refl _ _).alloc (Nat.le_refl _) _
 have K0:Hid ((w.alloc (.cells #[.int .i64 2,.int .i64 0,.slice a1 0 c1,.slice a len cap] 53)).heap[w.heap.size]?=some (.cells #[.int .i64 2,.int .i64 0,.slice a1 0 c1,.slice a len cap] 53 (0,0))):=hk
 have z0:((len:Int)==0)=false:=by simp;omega
 clear hk hne
 go_enter Tryz.func71,Tryz.ntmps71
 go_wp2
 go_loopg [3] len (fun g i wr=>∃n:Nat,n+g=len∧i=.int .i64 n∧Hid (zaa ct cl ((xs.take n).flatMap (pNet m))=0)∧Below w.heap.size w wr∧wr.heap[w.heap.size]?=some (.cells #[.int .i64 2,.int .i64 0,.slice a1 0 c1,.slice a len cap] 53 (0,0)))
 case atStart=>exact ⟨0,by omega,rfl,rfl,b0,K0.out⟩
 case round =>
  obtain ⟨n,hn,rfl,HS,hb,hk0⟩:=hrel
  have c0:wr.cell? ⟨w.heap.size,3,none⟩=some (.slice a len cap):=(cell_of_row _ _ _ _ _ _ hk0).trans rfl
  by_cases hlt:n<len
  ·have i2:(n:Int)<(len:Int):=by omega
   have i3:(0:Int)≤(n:Int):=by omega
   obtain ⟨x,hxn⟩:∃x,xs[n]?=some x:=⟨_,List.getElem?_eq_getElem (by have:=HL.out;omega)⟩
   obtain ⟨b,o,cs,rfl,hlo,hcs,hrg,hR⟩:=HX.out n x hxn
   have HB:Hid (Below w.heap.size w wr):=hb
   have HLd:Hid ((loadVar 53 ⟨b,o+n*4,none⟩).run Tryz.prog wr=.ok (.agg cs.toArray) wr):=run_loadVar_mid wr b (o+n*4) 53 cs _ (fun i c hi=>(Keeps.of_below hb 0) _ _ _ (Nat.zero_le _) (hrg i c hi)) Tryz.underlying53 rfl (by rw [hcs];kernel_rfl)
   have HCx:Hid (Calls Tryz.prog 71 #[.agg cs.toArray] wr fun r w'=>r=.returned (.int .i64 (zaa ct cl (pNet m x)))∧Below wr.heap.size wr w'):=HC.out x cs (List.mem_of_getElem? hxn) wr hb (HM.out x cs wr hb hR)
   obtain ⟨q,Hq⟩:∃q,Hid (q=zaa ct cl (pNet m x)):=⟨_,rfl⟩
   rw [←Hq.out] at HCx
   have hq:=(zar ct cl (pNet m x)).1
   rw [←Hq.out] at hq
   have HK:Hid (wr.heap[w.heap.size]?=some (.cells #[.int .i64 2,.int .i64 0,.slice a1 0 c1,.slice (some ⟨b,o,none⟩) len cap] 53 (0,0))):=hk0
   have HD:Hid (xs[n]?=some x):=hxn
   clear hb hrg hcs hR hlo hk0 hxn
   go_wp2_with (first|(refine zau rfl 53 _ rfl _ _ rfl _ HLd.out ?_)|fail)
   refine HCx.out.mono ?_
   rintro r w1 ⟨rfl,g1⟩
   have b1:Below w.heap.size w w1:=HB.out.trans (g1.mono HB.out.size)
   have k1:Hid (w1.heap[w.heap.size]?=some (.cells #[.int .i64 2,.int .i64 0,.slice a1 0 c1,.slice (some ⟨b,o,none⟩) len cap] 53 (0,0))):=(g1.block _ (Array.getElem?_eq_some_iff.1 HK.out).1).trans HK.out
   clear g1 HCx HLd c0
   by_cases hz:q=0
   ·have z:¬(q > 0):=by omega
    have HZ:Hid (q=0):=hz
    have z':¬((0:Int)<q):=by omega
    clear hz hq
    go_wp2
    go_roundg (gk-1)
    case measure=>omega
    case rel=>exact ⟨n+1,by omega,by simp,zed _ _ _ _ HD.out HS.out (by rw [←Hq.out];exact HZ.out),b1,k1.out⟩
   ·have z:q > 0:=by omega
    have z':(0:Int)<q:=by omega
    have HZ:Hid (¬ q=0):=hz
    clear hz hq
    go_wp2
    go_ret
    exact ⟨by rw [HRES.out,zdd _ _ _ _ HD.out HS.out (by rw [←Hq.out];exact HZ.out),←Hq.out]<;>rfl,b1⟩
  ·have i2:¬((n:Int)<(len:Int)):=by omega
   have HSt:Hid (zaa ct cl (xs.flatMap (pNet m))=0):=(by have:=HS.out;rwa [List.take_of_length_le (by have:=HL.out;omega)] at this:zaa ct cl (xs.flatMap (pNet m))=0)
   go_wp2
   go_ret
   exact ⟨by rw [HRES.out,HSt.out]<;>rfl,hb⟩
set_option maxRecDepth 10000 in
theorem sw3_go(ct cl:Int→List ArgT→Bool)(m:Nat)(a1:Option Addr)(c1:Nat)(v:Value)(xs:List NetT)(w:World)(lo:Nat)(hv:RowIs w lo 4 (NetIs w lo m) v xs)(hne:xs.length≠0)
  (HC:Hid (∀x cs,x∈xs→∀(W:World),Below w.heap.size w W→(NetIs W lo m) x cs→Calls Tryz.prog 71 #[.agg cs.toArray] W fun r w'=>r=.returned (.int .i64 (zaa ct cl (pNet m x)))∧Below W.heap.size W w'))
  (HM:Hid (∀x cs (W:World),Below w.heap.size w W→(NetIs w lo m) x cs→(NetIs W lo m) x cs)) :
  Calls Tryz.prog 71 #[.agg #[.int .i64 3,.int .i64 0,.slice a1 0 c1,v]] w fun r w'=>r=.returned (.int .i64 (zaa ct cl (xs.flatMap (pNet m))))∧Below w.heap.size w w':=by
 obtain ⟨a,cap,rfl,hl,hx⟩:=hv
 have HX:Hid (∀j x,xs[j]?=some x→∃b o cs,a=some ⟨b,o,none⟩∧lo≤b∧cs.length=4∧w.rangeAt b (o+j*4) cs∧(NetIs w lo m) x cs):=hx
 obtain ⟨len,HL⟩:∃len,Hid (len=xs.length):=⟨_,rfl⟩
 rw [←HL.out] at hl hne ⊢
 clear hx
 obtain ⟨RES,HRES⟩:∃r,Hid (r=zaa ct cl (xs.flatMap (pNet m))):=⟨_,rfl⟩
 rw [←HRES.out]
 have hk:=heap_alloc_last w (.cells #[.int .i64 3,.int .i64 0,.slice a1 0 c1,.slice a len cap] 53)
 have b0:Below w.heap.size w (w.alloc (.cells #[.int .i64 3,.int .i64 0,.slice a1 0 c1,.slice a len cap] 53)):=(Below.refl _ _).alloc (Nat.le_refl _) _
 have K0:Hid ((w.alloc (.cells #[.int .i64 3,.int .i64 0,.slice a1 0 c1,.slice a len cap] 53)).heap[w.heap.size]?=some (.cells #[.int .i64 3,.int .i64 0,.slice a1 0 c1,.slice a len cap] 53 (0,0))):=hk
 have z0:((len:Int)==0)=false:=by simp;omega
 clear hk hne
 go_enter Tryz.func71,Tryz.ntmps71
 go_wp2
 go_loopg [3] len (fun g i wr=>∃n:Nat,n+g=len∧i=.int .i64 n∧Hid (zaa ct cl ((xs.take n).flatMap (pNet m))=0)∧Below w.heap.size w wr∧wr.heap[w.heap.size]?=some (.cells #[.int .i64 3,.int .i64 0,.slice a1 0 c1,.slice a len cap] 53 (0,0)))
 case atStart=>exact ⟨0,by omega,rfl,rfl,b0,K0.out⟩
 case round =>
  obtain ⟨n,hn,rfl,HS,hb,hk0⟩:=hrel
  have c0:wr.cell? ⟨w.heap.size,3,none⟩=some (.slice a len cap):=(cell_of_row _ _ _ _ _ _ hk0).trans rfl
  by_cases hlt:n<len
  ·have i2:(n:Int)<(len:Int):=by omega
   have i3:(0:Int)≤(n:Int):=by omega
   obtain ⟨x,hxn⟩:∃x,xs[n]?=some x:=⟨_,List.getElem?_eq_getElem (by have:=HL.out;omega)⟩
   obtain ⟨b,o,cs,rfl,hlo,hcs,hrg,hR⟩:=HX.out n x hxn
   have HB:Hid (Below w.heap.size w wr):=hb
   have HLd:Hid ((loadVar 53 ⟨b,o+n*4,none⟩).run Tryz.prog wr=.ok (.agg cs.toArray) wr):=run_loadVar_mid wr b (o+n*4) 53 cs _ (fun i c hi=>(Keeps.of_below hb 0) _ _ _ (Nat.zero_le _) (hrg i c hi)) Tryz.underlying53 rfl (by rw [hcs];kernel_rfl)
   have HCx:Hid (Calls Tryz.prog 71 #[.agg cs.toArray] wr fun r w'=>r=.returned (.int .i64 (zaa ct cl (pNet m x)))∧Below wr.heap.size wr w'):=HC.out x cs (List.mem_of_getElem? hxn) wr hb (HM.out x cs wr hb hR)
   obtain ⟨q,Hq⟩:∃q,Hid (q=zaa ct cl (pNet m x)):=⟨_,rfl⟩
   rw [←Hq.out] at HCx
   have hq:=(zar ct cl (pNet m x)).1
   rw [←Hq.out] at hq
   have HK:Hid (wr.heap[w.heap.size]?=some (.cells #[.int .i64 3,.int .i64 0,.slice a1 0 c1,.slice (some ⟨b,o,none⟩) len cap] 53 (0,0))):=hk0
   have HD:Hid (xs[n]?=some x):=hxn
   clear hb hrg hcs hR hlo hk0 hxn
   go_wp2_with (first|(refine zau rfl 53 _ rfl _ _ rfl _ HLd.out ?_)|fail)
   refine HCx.out.mono ?_
   rintro r w1 ⟨rfl,g1⟩
   have b1:Below w.heap.size w w1:=HB.out.trans (g1.mono HB.out.size)
   have k1:Hid (w1.heap[w.heap.size]?=some (.cells #[.int .i64 3,.int .i64 0,.slice a1 0 c1,.slice (some ⟨b,o,none⟩) len cap] 53 (0,0))):=(g1.block _ (Array.getElem?_eq_some_iff.1 HK.out).1).trans HK.out
   clear g1 HCx HLd c0
   by_cases hz:q=0
   ·have z:¬(q > 0):=by omega
    have HZ:Hid (q=0):=hz
    have z':¬((0:Int)<q):=by omega
    clear hz hq
    go_wp2
    go_roundg (gk-1)
    case measure=>omega
    case rel=>exact ⟨n+1,by omega,by simp,zed _ _ _ _ HD.out HS.out (by rw [←Hq.out];exact HZ.out),b1,k1.out⟩
   ·have z:q > 0:=by omega
    have z':(0:Int)<q:=by omega
    have HZ:Hid (¬ q=0):=hz
    clear hz hq
    go_wp2
    go_ret
    exact ⟨by rw [HRES.out,zdd _ _ _ _ HD.out HS.out (by rw [←Hq.out];exact HZ.out),←Hq.out]<;>rfl,b1⟩
  ·have i2:¬((n:Int)<(len:Int)):=by omega
   have HSt:Hid (zaa ct cl (xs.flatMap (pNet m))=0):=(by have:=HS.out;rwa [List.take_of_length_le (by have:=HL.out;omega)] at this:zaa ct cl (xs.flatMap (pNet m))=0)
   go_wp2
   go_ret
   exact ⟨by rw [HRES.out,HSt.out]<;>rfl,hb⟩
set_option maxRecDepth 10000 in
theorem sw4_go(ct cl:Int→List ArgT→Bool)(m:Nat)(a1:Option Addr)(c1:Nat)(v:Value)(xs:List NetT)(w:World)(lo:Nat)(hv:RowIs w lo 4 (NetIs w lo m) v xs)(hne:xs.length≠0)(h4:xs.length=1)
  (HC:Hid (∀x cs,x∈xs→∀(W:World),Below w.heap.size w W→(NetIs W lo m) x cs→Calls Tryz.prog 71 #[.agg cs.toArray] W fun r w'=>r=.returned (.int .i64 (zaa ct cl (pNet m x)))∧Below W.heap.size W w'))
  (HM:Hid (∀x cs (W:World),Below w.heap.size w W→(NetIs w lo m) x cs→(NetIs W lo m) x cs)) :
  Calls Tryz.prog 71 #[.agg #[.int .i64 4,.int .i64 0,.slice a1 0 c1,v]] w fun r w'=>r=.returned (.int .i64 (zaa ct cl (xs.flatMap (pNet m))))∧Below w.heap.size w w':=by
 obtain ⟨a,cap,rfl,hl,hx⟩:=hv
 have HX:Hid (∀j x,xs[j]?=some x→∃b o cs,a=some ⟨b,o,none⟩∧lo≤b∧cs.length=4∧w.rangeAt b (o+j*4) cs∧(NetIs w lo m) x cs):=hx
 obtain ⟨len,HL⟩:∃len,Hid (len=xs.length):=⟨_,rfl⟩
 rw [←HL.out] at hl hne h4 ⊢
 clear hx
 obtain ⟨RES,HRES⟩:∃r,Hid (r=zaa ct cl (xs.flatMap (pNet m))):=⟨_,rfl⟩
 rw [←HRES.out]
 have hk:=heap_alloc_last w (.cells #[.int .i64 4,.int .i64 0,.slice a1 0 c1,.slice a len cap] 53)
 have b0:Below w.heap.size w (w.alloc (.cells #[.int .i64 4,.int .i64 0,.slice a1 0 c1,.slice a len cap] 53)):=(Below.refl _ _).alloc (Nat.le_refl _) _
 have K0:Hid ((w.alloc (.cells #[.int .i64 4,.int .i64 0,.slice a1 0 c1,.slice a len cap] 53)).heap[w.heap.size]?=some (.cells #[.int .i64 4,.int .i64 0,.slice a1 0 c1,.slice a len cap] 53 (0,0))):=hk
 have z0:((len:Int)==0)=false:=by simp;omega
 have z1:((len:Int) != 1)=false:=by simp;omega
 clear hk hne h4
 go_enter Tryz.func71,Tryz.ntmps71
 go_wp2
 go_loopg [3] len (fun g i wr=>∃n:Nat,n+g=len∧i=.int .i64 n∧Hid (zaa ct cl ((xs.take n).flatMap (pNet m))=0)∧Below w.heap.size w wr∧wr.heap[w.heap.size]?=some (.cells #[.int .i64 4,.int .i64 0,.slice a1 0 c1,.slice a len cap] 53 (0,0)))
 case atStart=>exact ⟨0,by omega,rfl,rfl,b0,K0.out⟩
 case round =>
  obtain ⟨n,hn,rfl,HS,hb,hk0⟩:=hrel
  have c0:wr.cell? ⟨w.heap.size,3,none⟩=some (.slice a len cap):=(cell_of_row _ _ _ _ _ _ hk0).trans rfl
  by_cases hlt:n<len
  ·have i2:(n:Int)<(len:Int):=by omega
   have i3:(0:Int)≤(n:Int):=by omega
   obtain ⟨x,hxn⟩:∃x,xs[n]?=some x:=⟨_,List.getElem?_eq_getElem (by have:=HL.out;omega)⟩
   obtain ⟨b,o,cs,rfl,hlo,hcs,hrg,hR⟩:=HX.out n x hxn
   have HB:Hid (Below w.heap.size w wr):=hb
   have HLd:Hid ((loadVar 53 ⟨b,o+n*4,none⟩).run Tryz.prog wr=.ok (.agg cs.toArray) wr):=run_loadVar_mid wr b (o+n*4) 53 cs _ (fun i c hi=>(Keeps.of_below hb 0) _ _ _ (Nat.zero_le _) (hrg i c hi)) Tryz.underlying53 rfl (by rw [hcs];kernel_rfl)
   have HCx:Hid (Calls Tryz.prog 71 #[.agg cs.toArray] wr fun r w'=>r=.returned (.int .i64 (zaa ct cl (pNet m x)))∧Below wr.heap.size wr w'):=HC.out x cs (List.mem_of_getElem? hxn) wr hb (HM.out x cs wr hb hR)
   obtain ⟨q,Hq⟩:∃q,Hid (q=zaa ct cl (pNet m x)):=⟨_,rfl⟩
   rw [←Hq.out] at HCx
   have hq:=(zar ct cl (pNet m x)).1
   rw [←Hq.out] at hq
   have HK:Hid (wr.heap[w.heap.size]?=some (.cells #[.int .i64 4,.int .i64 0,.slice a1 0 c1,.slice (some ⟨b,o,none⟩) len cap] 53 (0,0))):=hk0
   have HD:Hid (xs[n]?=some x):=hxn
   clear hb hrg hcs hR hlo hk0 hxn
   go_wp2_with (first|(refine zau rfl 53 _ rfl _ _ rfl _ HLd.out ?_)|fail)
   refine HCx.out.mono ?_
   rintro r w1 ⟨rfl,g1⟩
   have b1:Below w.heap.size w w1:=HB.out.trans (g1.mono HB.out.size)
   have k1:Hid (w1.heap[w.heap.size]?=some (.cells #[.int .i64 4,.int .i64 0,.slice a1 0 c1,.slice (some ⟨b,o,none⟩) len cap] 53 (0,0))):=(g1.block _ (Array.getElem?_eq_some_iff.1 HK.out).1).trans HK.out
   clear g1 HCx HLd c0
   by_cases hz:q=0
   ·have z:¬(q > 0):=by omega
    have HZ:Hid (q=0):=hz
    have z':¬((0:Int)<q):=by omega
    clear hz hq
    go_wp2
    go_roundg (gk-1)
    case measure=>omega
    case rel=>exact ⟨n+1,by omega,by simp,zed _ _ _ _ HD.out HS.out (by rw [←Hq.out];exact HZ.out),b1,k1.out⟩
   ·have z:q > 0:=by omega
    have z':(0:Int)<q:=by omega
    have HZ:Hid (¬ q=0):=hz
    clear hz hq
    go_wp2
    go_ret
    exact ⟨by rw [HRES.out,zdd _ _ _ _ HD.out HS.out (by rw [←Hq.out];exact HZ.out),←Hq.out]<;>rfl,b1⟩
  ·have i2:¬((n:Int)<(len:Int)):=by omega
   have HSt:Hid (zaa ct cl (xs.flatMap (pNet m))=0):=(by have:=HS.out;rwa [List.take_of_length_le (by have:=HL.out;omega)] at this:zaa ct cl (xs.flatMap (pNet m))=0)
   go_wp2
   go_ret
   exact ⟨by rw [HRES.out,HSt.out]<;>rfl,hb⟩
theorem sw_net(ct cl:Int→List ArgT→Bool):∀(m:Nat)(t:NetT)(cs:List Value)(w:World)(lo:Nat)(hv:NetIs w lo m t cs)
  (HC:∀W,Below w.heap.size w W→∀op v xs,ArgsIs W lo v xs→Calls Tryz.prog 110 #[.agg #[.int .i64 op,v]] W fun e w'=>e=.returned (.bool (ct op xs))∧Below W.heap.size W w'),
  Calls Tryz.prog 71 #[.agg cs.toArray] w fun r w'=>r=.returned (.int .i64 (zaa ct cl (pNet m t)))∧Below w.heap.size w w'
 | 0,_,_,_,_,h,_=>h.elim
 | m+1,.mk k e kids,cs,w,lo,hv,HC=>by
  obtain ⟨v,v',rfl,ha,hk⟩:=hv
  rw [firstC_net]
  obtain ⟨a1,c1,rfl,hl1,_⟩:=id ha
  obtain ⟨a2,c2,hv2,hl2,_⟩:=id hk
  by_cases k1:k=1
  ·subst k1
   by_cases hl:0<kids.length
   ·rw [show cNv 1 e.op e.args.length kids.length (ct e.op e.args)=2 by unfold cNv;rw [if_pos rfl,if_pos hl],if_neg (by omega),hv2]
    exact sw1_kids e.op _ _ a1 c1 a2 c2 hl w
   ·have hl0:kids=[]:=List.eq_nil_of_length_eq_zero (by omega)
    subst hl0
    rw [show (if cNv 1 e.op e.args.length ([]:List NetT).length (ct e.op e.args)=0 then zaa ct cl (([]:List NetT).flatMap (pNet m)) else cNv 1 e.op e.args.length ([]:List NetT).length (ct e.op e.args))=(if ct e.op e.args then 0 else 3) by cases ct e.op e.args<;>rfl,hv2]
    exact sw1_one e.op _ a1 c1 a2 c2 w _ (fun W g=>HC W g e.op _ e.args (zap (Keeps.of_below g lo) (Nat.le_refl _) ha))
  ·have two:¬(2≤k∧k≤4∧e.op=0∧e.args.length=0∧0<kids.length∧(k=4→kids.length=1))→(if cNv k e.op e.args.length kids.length (ct e.op e.args)=0 then zaa ct cl (kids.flatMap (pNet m)) else cNv k e.op e.args.length kids.length (ct e.op e.args))=2:=fun h=>by
    rw [show cNv k e.op e.args.length kids.length (ct e.op e.args)=2 by unfold cNv;rw [if_neg k1,if_neg h],if_neg (by omega)]
   by_cases h2:k<2
   ·rw [two (fun h=>by omega),hv2]
    exact sw_low k e.op _ _ a1 c1 a2 c2 (by simpa using k1) h2 w
   by_cases h4:4<k
   ·rw [two (fun h=>by omega),hv2]
    exact sw_high k e.op _ _ a1 c1 a2 c2 (by simpa using k1) h2 h4 w
   by_cases ho:e.op=0
   rotate_left
   ·rw [two (fun h=>ho h.2.2.1),hv2]
    rcases (by omega:k=2∨k=3∨k=4) with rfl|rfl|rfl
    ·exact sw2_op e.op _ _ a1 c1 a2 c2 (by simpa using ho) w
    ·exact sw3_op e.op _ _ a1 c1 a2 c2 (by simpa using ho) w
    ·exact sw4_op e.op _ _ a1 c1 a2 c2 (by simpa using ho) w
   by_cases hla:e.args.length=0
   rotate_left
   ·rw [two (fun h=>hla h.2.2.2.1),hv2,ho]
    rcases (by omega:k=2∨k=3∨k=4) with rfl|rfl|rfl
    ·exact sw2_args _ _ a1 c1 a2 c2 (by omega) w
    ·exact sw3_args _ _ a1 c1 a2 c2 (by omega) w
    ·exact sw4_args _ _ a1 c1 a2 c2 (by omega) w
   by_cases hlk:kids.length=0
   ·rw [two (fun h=>by omega),hv2,ho,hla,hlk]
    rcases (by omega:k=2∨k=3∨k=4) with rfl|rfl|rfl
    ·exact sw2_none a1 c1 a2 c2 w
    ·exact sw3_none a1 c1 a2 c2 w
    ·exact sw4_none a1 c1 a2 c2 w
   by_cases h41:k=4∧kids.length≠1
   ·obtain ⟨rfl,h1⟩:=h41
    rw [two (fun h=>h1 (h.2.2.2.2.2 rfl)),hv2,ho,hla]
    exact sw4_more _ a1 c1 a2 c2 (by simpa using hlk) (by simp;omega) w
   have hz:cNv k e.op e.args.length kids.length (ct e.op e.args)=0:=by
    unfold cNv
    rw [if_neg k1,if_pos ⟨by omega,by omega,ho,hla,by omega,fun h=>by omega⟩]
   rw [if_pos hz,ho,hla]
   have HK:Hid (∀x cs,x∈kids→∀(W:World),Below w.heap.size w W→(NetIs W lo m) x cs→Calls Tryz.prog 71 #[.agg cs.toArray] W fun r w'=>r=.returned (.int .i64 (zaa ct cl (pNet m x)))∧Below W.heap.size W w') :=
    fun x cs hx W g h=>sw_net ct cl m x cs W lo h (fun W' g'=>HC W' (g.trans (g'.mono g.size)))
   have HM:Hid (∀x cs (W:World),Below w.heap.size w W→(NetIs w lo m) x cs→(NetIs W lo m) x cs):=fun x cs W g h=>NetIs.move (Keeps.of_below g lo) (Nat.le_refl _) _ _ (Nat.le_refl _) _ _ h
   rcases (by omega:k=2∨k=3∨k=4) with rfl|rfl|rfl
   ·exact sw2_go ct cl m a1 c1 v' kids w lo hk hlk HK HM
   ·exact sw3_go ct cl m a1 c1 v' kids w lo hk hlk HK HM
   ·exact sw4_go ct cl m a1 c1 v' kids w lo hk hlk (by omega) HK HM
def armR(ct cl:Int→List ArgT→Bool)(m:Nat)(r nn:Bool)(cn:Int)(coils:List ElemT)(kids:List ArmT):Int :=
 let a:=if nn then 0 else cn
 let b:=cAv r nn (coils.all fun e=>cl e.op e.args) coils.length kids.length
 if a=0 then (if b=0 then zaa ct cl (kids.flatMap (pArm m false)) else b) else a
theorem zhz{ct cl:Int→List ArgT→Bool}{m:Nat}{r nn:Bool}{cn:Int}{coils:List ElemT}{kids:List ArmT}(ha:(if nn then 0 else cn)=0){b:Int}(hb:cAv r nn (coils.all fun e=>cl e.op e.args) coils.length kids.length=b)(h0:b≠0):armR ct cl m r nn cn coils kids=b:=by
 unfold armR
 simp only [ha,hb,if_true,h0,if_false]
theorem armR_k{ct cl:Int→List ArgT→Bool}{m:Nat}{r nn:Bool}{cn:Int}{coils:List ElemT}{kids:List ArmT}(ha:(if nn then 0 else cn)=0)(hb:cAv r nn (coils.all fun e=>cl e.op e.args) coils.length kids.length=0):armR ct cl m r nn cn coils kids=zaa ct cl (kids.flatMap (pArm m false)):=by
 unfold armR
 simp only [ha,hb,if_true]
set_option maxRecDepth 10000 in
theorem sa_step(ct cl:Int→List ArgT→Bool)(m:Nat)(r nn:Bool)(cn:Int)(hcn:0≤cn)(k op:Int)(a1:Option Addr)(l1 c1:Nat)(a2:Option Addr)(l2 c2:Nat)(v3:Value)(coils:List ElemT)(v4:Value)(kids:List ArmT)(w:World)(lo:Nat)(hv3:ElemsIs w lo v3 coils)(hv4:RowIs w lo 6 (ArmIs w lo m) v4 kids)
  (HN:Hid (∀W,Calls Tryz.prog 67 #[.agg #[.int .i64 k,.int .i64 op,.slice a1 l1 c1,.slice a2 l2 c2]] W fun e w'=>e=.returned (.bool nn)∧Below W.heap.size W w'))
  (HW:Hid (∀W,Below w.heap.size w W→Calls Tryz.prog 71 #[.agg #[.int .i64 k,.int .i64 op,.slice a1 l1 c1,.slice a2 l2 c2]] W fun e w'=>e=.returned (.int .i64 cn)∧Below W.heap.size W w'))
  (HL:Hid (∀W,Below w.heap.size w W→∀op v xs,ArgsIs W lo v xs→Calls Tryz.prog 72 #[.agg #[.int .i64 op,v]] W fun e w'=>e=.returned (.bool (cl op xs))∧Below W.heap.size W w'))
  (HK:Hid (∀x cs,x∈kids→∀(W:World),Below w.heap.size w W→(ArmIs W lo m) x cs→Calls Tryz.prog 31 #[.agg cs.toArray,.bool false] W fun r w'=>r=.returned (.int .i64 (zaa ct cl (pArm m false x)))∧Below W.heap.size W w'))
  (HM:Hid (∀x cs (W:World),Below w.heap.size w W→(ArmIs w lo m) x cs→(ArmIs W lo m) x cs)) :
  Calls Tryz.prog 31 #[.agg #[.int .i64 k,.int .i64 op,.slice a1 l1 c1,.slice a2 l2 c2,v3,v4],.bool r] w fun e w'=>e=.returned (.int .i64 (armR ct cl m r nn cn coils kids))∧Below w.heap.size w w':=by
 obtain ⟨a3,c3,rfl,hl3,hx3⟩:=hv3
 obtain ⟨a4,c4,rfl,hl4,hx4⟩:=hv4
 have HX3:Hid (∀j x,coils[j]?=some x→∃b o cs,a3=some ⟨b,o,none⟩∧lo≤b∧cs.length=2∧w.rangeAt b (o+j*2) cs∧ElemIs w lo x cs):=hx3
 have HX4:Hid (∀j x,kids[j]?=some x→∃b o cs,a4=some ⟨b,o,none⟩∧lo≤b∧cs.length=6∧w.rangeAt b (o+j*6) cs∧(ArmIs w lo m) x cs):=hx4
 obtain ⟨l3,HL3⟩:∃l3,Hid (l3=coils.length):=⟨_,rfl⟩
 obtain ⟨l4,HL4⟩:∃l4,Hid (l4=kids.length):=⟨_,rfl⟩
 rw [←HL3.out] at hl3 ⊢
 rw [←HL4.out] at hl4 ⊢
 clear hx3 hx4
 obtain ⟨RES,HRES⟩:∃R,Hid (R=armR ct cl m r nn cn coils kids):=⟨_,rfl⟩
 rw [←HRES.out]
 have hk0:=heap_alloc_last w (.cells #[.int .i64 k,.int .i64 op,.slice a1 l1 c1,.slice a2 l2 c2,.slice a3 l3 c3,.slice a4 l4 c4] 56)
 have b0:Below w.heap.size w (w.alloc (.cells #[.int .i64 k,.int .i64 op,.slice a1 l1 c1,.slice a2 l2 c2,.slice a3 l3 c3,.slice a4 l4 c4] 56)):=(Below.refl _ _).alloc (Nat.le_refl _) _
 have HK0:Hid ((w.alloc (.cells #[.int .i64 k,.int .i64 op,.slice a1 l1 c1,.slice a2 l2 c2,.slice a3 l3 c3,.slice a4 l4 c4] 56)).heap[w.heap.size]?=some (.cells #[.int .i64 k,.int .i64 op,.slice a1 l1 c1,.slice a2 l2 c2,.slice a3 l3 c3,.slice a4 l4 c4] 56 (0,0))∧w.heap.size<(w.alloc (.cells #[.int .i64 k,.int .i64 op,.slice a1 l1 c1,.slice a2 l2 c2,.slice a3 l3 c3,.slice a4 l4 c4] 56)).heap.size):=⟨hk0,by simp⟩
 clear hk0
 cases r with
 | true =>
  go_enter Tryz.func31,Tryz.ntmps31
  go_wp2_with fail
  refine (HN.out _).mono ?_
  rintro e w1 ⟨rfl,g1⟩
  have kS:=(g1.block _ HK0.out.2).trans HK0.out.1
  have bS:=b0.trans (g1.mono b0.size)
  clear g1 b0 HK0
  cases nn with
  | true =>
   clear kS
   go_wp2
   go_ret
   exact ⟨by rw [HRES.out,zhz (ct:=ct) (cl:=cl) (m:=m) (r:=true) (nn:=true) (cn:=cn) (coils:=coils) (kids:=kids) rfl (b:=4) rfl (by omega)]<;>rfl,bS⟩
  | false =>
   have d0:w1.cell? ⟨w.heap.size,0,none⟩=some (.int .i64 k):=(cell_of_row _ _ _ _ _ _ kS).trans rfl
   have d1:w1.cell? ⟨w.heap.size,1,none⟩=some (.int .i64 op):=(cell_of_row _ _ _ _ _ _ kS).trans rfl
   have d2:w1.cell? ⟨w.heap.size,2,none⟩=some (.slice a1 l1 c1):=(cell_of_row _ _ _ _ _ _ kS).trans rfl
   have d3:w1.cell? ⟨w.heap.size,3,none⟩=some (.slice a2 l2 c2):=(cell_of_row _ _ _ _ _ _ kS).trans rfl
   have K1:Hid (w1.heap[w.heap.size]?=some (.cells #[.int .i64 k,.int .i64 op,.slice a1 l1 c1,.slice a2 l2 c2,.slice a3 l3 c3,.slice a4 l4 c4] 56 (0,0))):=kS
   have B1:Hid (Below w.heap.size w w1):=bS
   clear kS bS
   go_wp2_with fail
   refine (HN.out _).mono ?_
   rintro e w2 ⟨rfl,g2⟩
   have kS:=(g2.block _ (Array.getElem?_eq_some_iff.1 K1.out).1).trans K1.out
   have bS:=B1.out.trans (g2.mono B1.out.size)
   clear g2 K1 B1 d0 d1 d2 d3
   have d0:w2.cell? ⟨w.heap.size,0,none⟩=some (.int .i64 k):=(cell_of_row _ _ _ _ _ _ kS).trans rfl
   have d1:w2.cell? ⟨w.heap.size,1,none⟩=some (.int .i64 op):=(cell_of_row _ _ _ _ _ _ kS).trans rfl
   have d2:w2.cell? ⟨w.heap.size,2,none⟩=some (.slice a1 l1 c1):=(cell_of_row _ _ _ _ _ _ kS).trans rfl
   have d3:w2.cell? ⟨w.heap.size,3,none⟩=some (.slice a2 l2 c2):=(cell_of_row _ _ _ _ _ _ kS).trans rfl
   have K1:Hid (w2.heap[w.heap.size]?=some (.cells #[.int .i64 k,.int .i64 op,.slice a1 l1 c1,.slice a2 l2 c2,.slice a3 l3 c3,.slice a4 l4 c4] 56 (0,0))):=kS
   have B1:Hid (Below w.heap.size w w2):=bS
   clear kS bS
   go_wp2_with fail
   refine (HW.out _ B1.out).mono ?_
   rintro e w3 ⟨rfl,g2⟩
   have kS:=(g2.block _ (Array.getElem?_eq_some_iff.1 K1.out).1).trans K1.out
   have bS:=B1.out.trans (g2.mono B1.out.size)
   clear g2 K1 B1 d0 d1 d2 d3
   by_cases hz:cn=0
   ·have z:¬(cn > 0):=by omega
    have z':¬((0:Int)<cn):=by omega
    have HA0:Hid (cn=0):=hz
    clear hz hcn
    have q0:(0:Int)≤(l3:Int):=by omega
    go_wp2
    go_loopg [6] l3 (fun g i wr=>∃n:Nat,n+g=l3∧i=.int .i64 n∧Hid (∀e∈coils.take n,cl e.op e.args=true)∧Below w.heap.size w wr∧wr.heap[w.heap.size]?=some (.cells #[.int .i64 k,.int .i64 op,.slice a1 l1 c1,.slice a2 l2 c2,.slice a3 l3 c3,.slice a4 l4 c4] 56 (0,0)))
    case atStart=>exact ⟨0,by omega,rfl,fun e he=>by simp at he,bS,kS⟩
    case round =>
     obtain ⟨n,hn,rfl,HA,hb,hk⟩:=hrel
     have c4':wr.cell? ⟨w.heap.size,4,none⟩=some (.slice a3 l3 c3):=(cell_of_row _ _ _ _ _ _ hk).trans rfl
     by_cases hlt:n<l3
     ·have i2:(n:Int)<(l3:Int):=by omega
      have i3:(0:Int)≤(n:Int):=by omega
      obtain ⟨x,hxn⟩:∃x,coils[n]?=some x:=⟨_,List.getElem?_eq_getElem (by have:=HL3.out;omega)⟩
      obtain ⟨b,o,cs,rfl,hlo,hcs,hrg,v,rfl,hR⟩:=HX3.out n x hxn
      have hkk:=Keeps.of_below hb lo
      have x0:wr.cell? ⟨b,o+n*2,none⟩=some (.int .i64 x.op):=hkk _ _ _ hlo (hrg 0 _ rfl)
      have x1:wr.cell? ⟨b,o+n*2+1,none⟩=some v:=hkk _ _ _ hlo (hrg 1 _ rfl)
      obtain ⟨a5,c5,hv5,hl5,_⟩:=id hR
      have hRw:ArgsIs wr lo v x.args:=zap hkk (Nat.le_refl _) hR
      subst hv5
      obtain ⟨l5,HL5⟩:∃l5,Hid (l5=x.args.length):=⟨_,rfl⟩
      rw [←HL5.out] at x1 hRw hl5
      have hc:=HL.out _ hb x.op _ x.args hRw
      have HC:Hid (Calls Tryz.prog 72 #[.agg #[.int .i64 x.op,.slice a5 l5 c5]] wr fun e w'=>e=.returned (.bool (cl x.op x.args))∧Below wr.heap.size wr w'):=hc
      have HB:Hid (Below w.heap.size w wr∧wr.heap[w.heap.size]?=some (.cells #[.int .i64 k,.int .i64 op,.slice a1 l1 c1,.slice a2 l2 c2,.slice (some ⟨b,o,none⟩) l3 c3,.slice a4 l4 c4] 56 (0,0))):=⟨hb,hk⟩
      clear hc hRw hkk hb hk hrg hcs hR hl5
      go_wp2_with fail
      refine HC.out.mono ?_
      rintro e w1 ⟨rfl,g1⟩
      have b1:Below w.heap.size w w1:=HB.out.1.trans (g1.mono HB.out.1.size)
      have k1:Hid (w1.heap[w.heap.size]?=some (.cells #[.int .i64 k,.int .i64 op,.slice a1 l1 c1,.slice a2 l2 c2,.slice (some ⟨b,o,none⟩) l3 c3,.slice a4 l4 c4] 56 (0,0))):=(g1.block _ (Array.getElem?_eq_some_iff.1 HB.out.2).1).trans HB.out.2
      have HD:Hid (coils[n]?=some x):=hxn
      clear g1 HB HC x0 x1 hxn c4'
      obtain ⟨bb,HBB⟩:∃bb,Hid (bb=cl x.op x.args):=⟨_,rfl⟩
      rw [←HBB.out]
      cases bb with
      | true =>
       go_wp2
       go_roundg (gk-1)
       case measure=>omega
       case rel =>
        refine ⟨n+1,by omega,by simp,?_,b1,k1.out⟩
        intro e he
        rw [List.take_add_one,HD.out] at he
        simp only [Option.toList_some,List.mem_append,List.mem_singleton] at he
        rcases he with he|rfl
        ·exact HA.out e he
        ·exact HBB.out.symm
      | false =>
       go_wp2
       go_ret
       refine ⟨?_,b1⟩
       have hall:(coils.all fun e=>cl e.op e.args)=false:=List.all_eq_false.2 ⟨x,List.mem_of_getElem? HD.out,by rw [←HBB.out];simp⟩
       rw [HRES.out,zhz (ct:=ct) (cl:=cl) (m:=m) (r:=true) (nn:=false) (cn:=cn) (coils:=coils) (kids:=kids) HA0.out (b:=3) (by rw [hall];rfl) (by omega)]<;>rfl
     ·have i2:¬((n:Int)<(l3:Int)):=by omega
      have HALL:Hid ((coils.all fun e=>cl e.op e.args)=true):=List.all_eq_true.2 (fun e he=>HA.out e (by rw [List.take_of_length_le (by have:=HL3.out;omega)];exact he))
      have d5:wr.cell? ⟨w.heap.size,5,none⟩=some (.slice a4 l4 c4):=(cell_of_row _ _ _ _ _ _ hk).trans rfl
      have KR:Hid (wr.heap[w.heap.size]?=some (.cells #[.int .i64 k,.int .i64 op,.slice a1 l1 c1,.slice a2 l2 c2,.slice a3 l3 c3,.slice a4 l4 c4] 56 (0,0))):=hk
      clear hk
      by_cases hz:l3=0∧l4=0
      ·have z3:((l3:Int)==0)=true:=by simp [hz.1]
       have z4:((l4:Int)==0)=true:=by simp [hz.2]
       have HZ:Hid (l3=0∧l4=0):=hz
       clear hz hlt hn
       go_wp2
       go_ret
       exact ⟨by rw [HRES.out,zhz (ct:=ct) (cl:=cl) (m:=m) (r:=true) (nn:=false) (cn:=cn) (coils:=coils) (kids:=kids) HA0.out (b:=5) (by rw [HALL.out,←HL3.out,←HL4.out,HZ.out.1,HZ.out.2];rfl) (by omega)]<;>rfl,hb⟩
      ·have HZ:Hid (armR ct cl m true false cn coils kids=zaa ct cl (kids.flatMap (pArm m false))):=armR_k (ct:=ct) (cl:=cl) (m:=m) (r:=true) (nn:=false) (cn:=cn) (coils:=coils) (kids:=kids) HA0.out (by rw [HALL.out,←HL3.out,←HL4.out];unfold cAv;rw [if_neg (by simp),if_pos rfl,if_neg hz])
       rw [HZ.out] at HRES
       have HB0:Hid (Below w.heap.size w wr):=hb
       have LOOP:True:=trivial
       have z3:((l3:Int)==0)=false∨((l3:Int)==0)=true∧((l4:Int)==0)=false:=by
        by_cases h3:l3=0
        ·exact .inr ⟨by simp [h3],by simp;omega⟩
        ·exact .inl (by simp;omega)
       clear hz hlt hn HA HX3 HL HZ hb
       rcases z3 with z3|⟨z3,z4⟩
       all_goals
        go_wp2
        go_loopg [7] l4 (fun g i wr=>∃n:Nat,n+g=l4∧i=.int .i64 n∧Hid (zaa ct cl ((kids.take n).flatMap (pArm m false))=0)∧Below w.heap.size w wr∧wr.heap[w.heap.size]?=some (.cells #[.int .i64 k,.int .i64 op,.slice a1 l1 c1,.slice a2 l2 c2,.slice a3 l3 c3,.slice a4 l4 c4] 56 (0,0)))
        case atStart=>exact ⟨0,by omega,rfl,rfl,HB0.out,KR.out⟩
        case round =>
         clear z3 c4' d5
         try clear z4
         obtain ⟨n,hn,rfl,HS,hb,hk0⟩:=hrel
         have c0:wr.cell? ⟨w.heap.size,5,none⟩=some (.slice a4 l4 c4):=(cell_of_row _ _ _ _ _ _ hk0).trans rfl
         by_cases hlt:n<l4
         ·have i2:(n:Int)<(l4:Int):=by omega
          have i3:(0:Int)≤(n:Int):=by omega
          obtain ⟨x,hxn⟩:∃x,kids[n]?=some x:=⟨_,List.getElem?_eq_getElem (by have:=HL4.out;omega)⟩
          obtain ⟨b,o,cs,rfl,hlo,hcs,hrg,hR⟩:=HX4.out n x hxn
          have HB:Hid (Below w.heap.size w wr):=hb
          have HLd:Hid ((loadVar 56 ⟨b,o+n*6,none⟩).run Tryz.prog wr=.ok (.agg cs.toArray) wr):=run_loadVar_mid wr b (o+n*6) 56 cs _ (fun i c hi=>(Keeps.of_below hb 0) _ _ _ (Nat.zero_le _) (hrg i c hi)) Tryz.underlying56 rfl (by rw [hcs];kernel_rfl)
          have HCx:Hid (Calls Tryz.prog 31 #[.agg cs.toArray,.bool false] wr fun r w'=>r=.returned (.int .i64 (zaa ct cl (pArm m false x)))∧Below wr.heap.size wr w'):=HK.out x cs (List.mem_of_getElem? hxn) wr hb (HM.out x cs wr hb hR)
          obtain ⟨q,Hq⟩:∃q,Hid (q=zaa ct cl (pArm m false x)):=⟨_,rfl⟩
          rw [←Hq.out] at HCx
          have hq:=(zar ct cl (pArm m false x)).1
          rw [←Hq.out] at hq
          have HKk:Hid (wr.heap[w.heap.size]?=some (.cells #[.int .i64 k,.int .i64 op,.slice a1 l1 c1,.slice a2 l2 c2,.slice a3 l3 c3,.slice (some ⟨b,o,none⟩) l4 c4] 56 (0,0))):=hk0
          have HD:Hid (kids[n]?=some x):=hxn
          clear hb hrg hcs hR hlo hk0 hxn
          go_wp2_with (first|(refine zau rfl 56 _ rfl _ _ rfl _ HLd.out ?_)|fail)
          refine HCx.out.mono ?_
          rintro r w1 ⟨rfl,g1⟩
          have b1:Below w.heap.size w w1:=HB.out.trans (g1.mono HB.out.size)
          have k1:Hid (w1.heap[w.heap.size]?=some (.cells #[.int .i64 k,.int .i64 op,.slice a1 l1 c1,.slice a2 l2 c2,.slice a3 l3 c3,.slice (some ⟨b,o,none⟩) l4 c4] 56 (0,0))):=(g1.block _ (Array.getElem?_eq_some_iff.1 HKk.out).1).trans HKk.out
          clear g1 HCx HLd c0
          by_cases hz:q=0
          ·have z:¬(q > 0):=by omega
           have HZ:Hid (q=0):=hz
           have z':¬((0:Int)<q):=by omega
           clear hz hq
           go_wp2
           go_roundg (gk-1)
           case measure=>omega
           case rel=>exact ⟨n+1,by omega,by simp,zed _ _ _ _ HD.out HS.out (by rw [←Hq.out];exact HZ.out),b1,k1.out⟩
          ·have z:q > 0:=by omega
           have z':(0:Int)<q:=by omega
           have HZ:Hid (¬ q=0):=hz
           clear hz hq
           go_wp2
           go_ret
           exact ⟨by rw [HRES.out,zdd _ _ _ _ HD.out HS.out (by rw [←Hq.out];exact HZ.out),←Hq.out]<;>rfl,b1⟩
         ·have i2:¬((n:Int)<(l4:Int)):=by omega
          have HSt:Hid (zaa ct cl (kids.flatMap (pArm m false))=0):=(by have:=HS.out;rwa [List.take_of_length_le (by have:=HL4.out;omega)] at this:zaa ct cl (kids.flatMap (pArm m false))=0)
          go_wp2
          go_ret
          exact ⟨by rw [HRES.out,HSt.out]<;>rfl,hb⟩
   ·have z:cn > 0:=by omega
    have z':(0:Int)<cn:=by omega
    have HA0:Hid (¬ cn=0):=hz
    clear hz hcn kS
    go_wp2
    go_ret
    exact ⟨by rw [HRES.out];unfold armR;simp only [HA0.out,if_false,Bool.false_eq_true]<;>rfl,bS⟩
 | false =>
  go_enter Tryz.func31,Tryz.ntmps31
  go_wp2_with fail
  refine (HN.out _).mono ?_
  rintro e w1 ⟨rfl,g1⟩
  have kS:=(g1.block _ HK0.out.2).trans HK0.out.1
  have bS:=b0.trans (g1.mono b0.size)
  clear g1 b0 HK0
  cases nn with
  | true =>
   have q0:(0:Int)≤(l3:Int):=by omega
   go_wp2
   go_loopg [6] l3 (fun g i wr=>∃n:Nat,n+g=l3∧i=.int .i64 n∧Hid (∀e∈coils.take n,cl e.op e.args=true)∧Below w.heap.size w wr∧wr.heap[w.heap.size]?=some (.cells #[.int .i64 k,.int .i64 op,.slice a1 l1 c1,.slice a2 l2 c2,.slice a3 l3 c3,.slice a4 l4 c4] 56 (0,0)))
   case atStart=>exact ⟨0,by omega,rfl,fun e he=>by simp at he,bS,kS⟩
   case round =>
    obtain ⟨n,hn,rfl,HA,hb,hk⟩:=hrel
    have c4':wr.cell? ⟨w.heap.size,4,none⟩=some (.slice a3 l3 c3):=(cell_of_row _ _ _ _ _ _ hk).trans rfl
    by_cases hlt:n<l3
    ·have i2:(n:Int)<(l3:Int):=by omega
     have i3:(0:Int)≤(n:Int):=by omega
     obtain ⟨x,hxn⟩:∃x,coils[n]?=some x:=⟨_,List.getElem?_eq_getElem (by have:=HL3.out;omega)⟩
     obtain ⟨b,o,cs,rfl,hlo,hcs,hrg,v,rfl,hR⟩:=HX3.out n x hxn
     have hkk:=Keeps.of_below hb lo
     have x0:wr.cell? ⟨b,o+n*2,none⟩=some (.int .i64 x.op):=hkk _ _ _ hlo (hrg 0 _ rfl)
     have x1:wr.cell? ⟨b,o+n*2+1,none⟩=some v:=hkk _ _ _ hlo (hrg 1 _ rfl)
     obtain ⟨a5,c5,hv5,hl5,_⟩:=id hR
     have hRw:ArgsIs wr lo v x.args:=zap hkk (Nat.le_refl _) hR
     subst hv5
     obtain ⟨l5,HL5⟩:∃l5,Hid (l5=x.args.length):=⟨_,rfl⟩
     rw [←HL5.out] at x1 hRw hl5
     have hc:=HL.out _ hb x.op _ x.args hRw
     have HC:Hid (Calls Tryz.prog 72 #[.agg #[.int .i64 x.op,.slice a5 l5 c5]] wr fun e w'=>e=.returned (.bool (cl x.op x.args))∧Below wr.heap.size wr w'):=hc
     have HB:Hid (Below w.heap.size w wr∧wr.heap[w.heap.size]?=some (.cells #[.int .i64 k,.int .i64 op,.slice a1 l1 c1,.slice a2 l2 c2,.slice (some ⟨b,o,none⟩) l3 c3,.slice a4 l4 c4] 56 (0,0))):=⟨hb,hk⟩
     clear hc hRw hkk hb hk hrg hcs hR hl5
     go_wp2_with fail
     refine HC.out.mono ?_
     rintro e w1 ⟨rfl,g1⟩
     have b1:Below w.heap.size w w1:=HB.out.1.trans (g1.mono HB.out.1.size)
     have k1:Hid (w1.heap[w.heap.size]?=some (.cells #[.int .i64 k,.int .i64 op,.slice a1 l1 c1,.slice a2 l2 c2,.slice (some ⟨b,o,none⟩) l3 c3,.slice a4 l4 c4] 56 (0,0))):=(g1.block _ (Array.getElem?_eq_some_iff.1 HB.out.2).1).trans HB.out.2
     have HD:Hid (coils[n]?=some x):=hxn
     clear g1 HB HC x0 x1 hxn c4'
     obtain ⟨bb,HBB⟩:∃bb,Hid (bb=cl x.op x.args):=⟨_,rfl⟩
     rw [←HBB.out]
     cases bb with
     | true =>
      go_wp2
      go_roundg (gk-1)
      case measure=>omega
      case rel =>
       refine ⟨n+1,by omega,by simp,?_,b1,k1.out⟩
       intro e he
       rw [List.take_add_one,HD.out] at he
       simp only [Option.toList_some,List.mem_append,List.mem_singleton] at he
       rcases he with he|rfl
       ·exact HA.out e he
       ·exact HBB.out.symm
     | false =>
      go_wp2
      go_ret
      refine ⟨?_,b1⟩
      have hall:(coils.all fun e=>cl e.op e.args)=false:=List.all_eq_false.2 ⟨x,List.mem_of_getElem? HD.out,by rw [←HBB.out];simp⟩
      rw [HRES.out,zhz (ct:=ct) (cl:=cl) (m:=m) (r:=false) (nn:=true) (cn:=cn) (coils:=coils) (kids:=kids) (rfl:(if true=true then 0 else cn)=0) (b:=3) (by rw [hall];rfl) (by omega)]<;>rfl
    ·have i2:¬((n:Int)<(l3:Int)):=by omega
     have HALL:Hid ((coils.all fun e=>cl e.op e.args)=true):=List.all_eq_true.2 (fun e he=>HA.out e (by rw [List.take_of_length_le (by have:=HL3.out;omega)];exact he))
     have d5:wr.cell? ⟨w.heap.size,5,none⟩=some (.slice a4 l4 c4):=(cell_of_row _ _ _ _ _ _ hk).trans rfl
     have KR:Hid (wr.heap[w.heap.size]?=some (.cells #[.int .i64 k,.int .i64 op,.slice a1 l1 c1,.slice a2 l2 c2,.slice a3 l3 c3,.slice a4 l4 c4] 56 (0,0))):=hk
     clear hk
     by_cases hz:l3=0∧l4=0
     ·have z3:((l3:Int)==0)=true:=by simp [hz.1]
      have z4:((l4:Int)==0)=true:=by simp [hz.2]
      have HZ:Hid (l3=0∧l4=0):=hz
      clear hz hlt hn
      go_wp2
      go_ret
      exact ⟨by rw [HRES.out,zhz (ct:=ct) (cl:=cl) (m:=m) (r:=false) (nn:=true) (cn:=cn) (coils:=coils) (kids:=kids) (rfl:(if true=true then 0 else cn)=0) (b:=5) (by rw [HALL.out,←HL3.out,←HL4.out,HZ.out.1,HZ.out.2];rfl) (by omega)]<;>rfl,hb⟩
     ·have HZ:Hid (armR ct cl m false true cn coils kids=zaa ct cl (kids.flatMap (pArm m false))):=armR_k (ct:=ct) (cl:=cl) (m:=m) (r:=false) (nn:=true) (cn:=cn) (coils:=coils) (kids:=kids) (rfl:(if true=true then 0 else cn)=0) (by rw [HALL.out,←HL3.out,←HL4.out];unfold cAv;rw [if_neg (by simp),if_pos rfl,if_neg hz])
      rw [HZ.out] at HRES
      have HB0:Hid (Below w.heap.size w wr):=hb
      have LOOP:True:=trivial
      have z3:((l3:Int)==0)=false∨((l3:Int)==0)=true∧((l4:Int)==0)=false:=by
       by_cases h3:l3=0
       ·exact .inr ⟨by simp [h3],by simp;omega⟩
       ·exact .inl (by simp;omega)
      clear hz hlt hn HA HX3 HL HZ hb
      rcases z3 with z3|⟨z3,z4⟩
      all_goals
       go_wp2
       go_loopg [7] l4 (fun g i wr=>∃n:Nat,n+g=l4∧i=.int .i64 n∧Hid (zaa ct cl ((kids.take n).flatMap (pArm m false))=0)∧Below w.heap.size w wr∧wr.heap[w.heap.size]?=some (.cells #[.int .i64 k,.int .i64 op,.slice a1 l1 c1,.slice a2 l2 c2,.slice a3 l3 c3,.slice a4 l4 c4] 56 (0,0)))
       case atStart=>exact ⟨0,by omega,rfl,rfl,HB0.out,KR.out⟩
       case round =>
        clear z3 c4' d5
        try clear z4
        obtain ⟨n,hn,rfl,HS,hb,hk0⟩:=hrel
        have c0:wr.cell? ⟨w.heap.size,5,none⟩=some (.slice a4 l4 c4):=(cell_of_row _ _ _ _ _ _ hk0).trans rfl
        by_cases hlt:n<l4
        ·have i2:(n:Int)<(l4:Int):=by omega
         have i3:(0:Int)≤(n:Int):=by omega
         obtain ⟨x,hxn⟩:∃x,kids[n]?=some x:=⟨_,List.getElem?_eq_getElem (by have:=HL4.out;omega)⟩
         obtain ⟨b,o,cs,rfl,hlo,hcs,hrg,hR⟩:=HX4.out n x hxn
         have HB:Hid (Below w.heap.size w wr):=hb
         have HLd:Hid ((loadVar 56 ⟨b,o+n*6,none⟩).run Tryz.prog wr=.ok (.agg cs.toArray) wr):=run_loadVar_mid wr b (o+n*6) 56 cs _ (fun i c hi=>(Keeps.of_below hb 0) _ _ _ (Nat.zero_le _) (hrg i c hi)) Tryz.underlying56 rfl (by rw [hcs];kernel_rfl)
         have HCx:Hid (Calls Tryz.prog 31 #[.agg cs.toArray,.bool false] wr fun r w'=>r=.returned (.int .i64 (zaa ct cl (pArm m false x)))∧Below wr.heap.size wr w'):=HK.out x cs (List.mem_of_getElem? hxn) wr hb (HM.out x cs wr hb hR)
         obtain ⟨q,Hq⟩:∃q,Hid (q=zaa ct cl (pArm m false x)):=⟨_,rfl⟩
         rw [←Hq.out] at HCx
         have hq:=(zar ct cl (pArm m false x)).1
         rw [←Hq.out] at hq
         have HKk:Hid (wr.heap[w.heap.size]?=some (.cells #[.int .i64 k,.int .i64 op,.slice a1 l1 c1,.slice a2 l2 c2,.slice a3 l3 c3,.slice (some ⟨b,o,none⟩) l4 c4] 56 (0,0))):=hk0
         have HD:Hid (kids[n]?=some x):=hxn
         clear hb hrg hcs hR hlo hk0 hxn
         go_wp2_with (first|(refine zau rfl 56 _ rfl _ _ rfl _ HLd.out ?_)|fail)
         refine HCx.out.mono ?_
         rintro r w1 ⟨rfl,g1⟩
         have b1:Below w.heap.size w w1:=HB.out.trans (g1.mono HB.out.size)
         have k1:Hid (w1.heap[w.heap.size]?=some (.cells #[.int .i64 k,.int .i64 op,.slice a1 l1 c1,.slice a2 l2 c2,.slice a3 l3 c3,.slice (some ⟨b,o,none⟩) l4 c4] 56 (0,0))):=(g1.block _ (Array.getElem?_eq_some_iff.1 HKk.out).1).trans HKk.out
         clear g1 HCx HLd c0
         by_cases hz:q=0
         ·have z:¬(q > 0):=by omega
          have HZ:Hid (q=0):=hz
          have z':¬((0:Int)<q):=by omega
          clear hz hq
          go_wp2
          go_roundg (gk-1)
          case measure=>omega
          case rel=>exact ⟨n+1,by omega,by simp,zed _ _ _ _ HD.out HS.out (by rw [←Hq.out];exact HZ.out),b1,k1.out⟩
         ·have z:q > 0:=by omega
          have z':(0:Int)<q:=by omega
          have HZ:Hid (¬ q=0):=hz
          clear hz hq
          go_wp2
          go_ret
          exact ⟨by rw [HRES.out,zdd _ _ _ _ HD.out HS.out (by rw [←Hq.out];exact HZ.out),←Hq.out]<;>rfl,b1⟩
        ·have i2:¬((n:Int)<(l4:Int)):=by omega
         have HSt:Hid (zaa ct cl (kids.flatMap (pArm m false))=0):=(by have:=HS.out;rwa [List.take_of_length_le (by have:=HL4.out;omega)] at this:zaa ct cl (kids.flatMap (pArm m false))=0)
         go_wp2
         go_ret
         exact ⟨by rw [HRES.out,HSt.out]<;>rfl,hb⟩
  | false =>
   have d0:w1.cell? ⟨w.heap.size,0,none⟩=some (.int .i64 k):=(cell_of_row _ _ _ _ _ _ kS).trans rfl
   have d1:w1.cell? ⟨w.heap.size,1,none⟩=some (.int .i64 op):=(cell_of_row _ _ _ _ _ _ kS).trans rfl
   have d2:w1.cell? ⟨w.heap.size,2,none⟩=some (.slice a1 l1 c1):=(cell_of_row _ _ _ _ _ _ kS).trans rfl
   have d3:w1.cell? ⟨w.heap.size,3,none⟩=some (.slice a2 l2 c2):=(cell_of_row _ _ _ _ _ _ kS).trans rfl
   have K1:Hid (w1.heap[w.heap.size]?=some (.cells #[.int .i64 k,.int .i64 op,.slice a1 l1 c1,.slice a2 l2 c2,.slice a3 l3 c3,.slice a4 l4 c4] 56 (0,0))):=kS
   have B1:Hid (Below w.heap.size w w1):=bS
   clear kS bS
   go_wp2_with fail
   refine (HW.out _ B1.out).mono ?_
   rintro e w3 ⟨rfl,g2⟩
   have kS:=(g2.block _ (Array.getElem?_eq_some_iff.1 K1.out).1).trans K1.out
   have bS:=B1.out.trans (g2.mono B1.out.size)
   clear g2 K1 B1 d0 d1 d2 d3
   by_cases hz:cn=0
   ·have z:¬(cn > 0):=by omega
    have z':¬((0:Int)<cn):=by omega
    have HA0:Hid (cn=0):=hz
    clear hz hcn
    have q0:(0:Int)≤(l3:Int):=by omega
    go_wp2
    go_loopg [6] l3 (fun g i wr=>∃n:Nat,n+g=l3∧i=.int .i64 n∧Hid (∀e∈coils.take n,cl e.op e.args=true)∧Below w.heap.size w wr∧wr.heap[w.heap.size]?=some (.cells #[.int .i64 k,.int .i64 op,.slice a1 l1 c1,.slice a2 l2 c2,.slice a3 l3 c3,.slice a4 l4 c4] 56 (0,0)))
    case atStart=>exact ⟨0,by omega,rfl,fun e he=>by simp at he,bS,kS⟩
    case round =>
     obtain ⟨n,hn,rfl,HA,hb,hk⟩:=hrel
     have c4':wr.cell? ⟨w.heap.size,4,none⟩=some (.slice a3 l3 c3):=(cell_of_row _ _ _ _ _ _ hk).trans rfl
     by_cases hlt:n<l3
     ·have i2:(n:Int)<(l3:Int):=by omega
      have i3:(0:Int)≤(n:Int):=by omega
      obtain ⟨x,hxn⟩:∃x,coils[n]?=some x:=⟨_,List.getElem?_eq_getElem (by have:=HL3.out;omega)⟩
      obtain ⟨b,o,cs,rfl,hlo,hcs,hrg,v,rfl,hR⟩:=HX3.out n x hxn
      have hkk:=Keeps.of_below hb lo
      have x0:wr.cell? ⟨b,o+n*2,none⟩=some (.int .i64 x.op):=hkk _ _ _ hlo (hrg 0 _ rfl)
      have x1:wr.cell? ⟨b,o+n*2+1,none⟩=some v:=hkk _ _ _ hlo (hrg 1 _ rfl)
      obtain ⟨a5,c5,hv5,hl5,_⟩:=id hR
      have hRw:ArgsIs wr lo v x.args:=zap hkk (Nat.le_refl _) hR
      subst hv5
      obtain ⟨l5,HL5⟩:∃l5,Hid (l5=x.args.length):=⟨_,rfl⟩
      rw [←HL5.out] at x1 hRw hl5
      have hc:=HL.out _ hb x.op _ x.args hRw
      have HC:Hid (Calls Tryz.prog 72 #[.agg #[.int .i64 x.op,.slice a5 l5 c5]] wr fun e w'=>e=.returned (.bool (cl x.op x.args))∧Below wr.heap.size wr w'):=hc
      have HB:Hid (Below w.heap.size w wr∧wr.heap[w.heap.size]?=some (.cells #[.int .i64 k,.int .i64 op,.slice a1 l1 c1,.slice a2 l2 c2,.slice (some ⟨b,o,none⟩) l3 c3,.slice a4 l4 c4] 56 (0,0))):=⟨hb,hk⟩
      clear hc hRw hkk hb hk hrg hcs hR hl5
      go_wp2_with fail
      refine HC.out.mono ?_
      rintro e w1 ⟨rfl,g1⟩
      have b1:Below w.heap.size w w1:=HB.out.1.trans (g1.mono HB.out.1.size)
      have k1:Hid (w1.heap[w.heap.size]?=some (.cells #[.int .i64 k,.int .i64 op,.slice a1 l1 c1,.slice a2 l2 c2,.slice (some ⟨b,o,none⟩) l3 c3,.slice a4 l4 c4] 56 (0,0))):=(g1.block _ (Array.getElem?_eq_some_iff.1 HB.out.2).1).trans HB.out.2
      have HD:Hid (coils[n]?=some x):=hxn
      clear g1 HB HC x0 x1 hxn c4'
      obtain ⟨bb,HBB⟩:∃bb,Hid (bb=cl x.op x.args):=⟨_,rfl⟩
      rw [←HBB.out]
      cases bb with
      | true =>
       go_wp2
       go_roundg (gk-1)
       case measure=>omega
       case rel =>
        refine ⟨n+1,by omega,by simp,?_,b1,k1.out⟩
        intro e he
        rw [List.take_add_one,HD.out] at he
        simp only [Option.toList_some,List.mem_append,List.mem_singleton] at he
        rcases he with he|rfl
        ·exact HA.out e he
        ·exact HBB.out.symm
      | false =>
       go_wp2
       go_ret
       refine ⟨?_,b1⟩
       have hall:(coils.all fun e=>cl e.op e.args)=false:=List.all_eq_false.2 ⟨x,List.mem_of_getElem? HD.out,by rw [←HBB.out];simp⟩
       rw [HRES.out,zhz (ct:=ct) (cl:=cl) (m:=m) (r:=false) (nn:=false) (cn:=cn) (coils:=coils) (kids:=kids) HA0.out (b:=3) (by rw [hall];rfl) (by omega)]<;>rfl
     ·have i2:¬((n:Int)<(l3:Int)):=by omega
      have HALL:Hid ((coils.all fun e=>cl e.op e.args)=true):=List.all_eq_true.2 (fun e he=>HA.out e (by rw [List.take_of_length_le (by have:=HL3.out;omega)];exact he))
      have d5:wr.cell? ⟨w.heap.size,5,none⟩=some (.slice a4 l4 c4):=(cell_of_row _ _ _ _ _ _ hk).trans rfl
      have KR:Hid (wr.heap[w.heap.size]?=some (.cells #[.int .i64 k,.int .i64 op,.slice a1 l1 c1,.slice a2 l2 c2,.slice a3 l3 c3,.slice a4 l4 c4] 56 (0,0))):=hk
      clear hk
      by_cases hz:l3=0∧l4=0
      ·have z3:((l3:Int)==0)=true:=by simp [hz.1]
       have z4:((l4:Int)==0)=true:=by simp [hz.2]
       have HZ:Hid (l3=0∧l4=0):=hz
       clear hz hlt hn
       go_wp2
       go_ret
       exact ⟨by rw [HRES.out,zhz (ct:=ct) (cl:=cl) (m:=m) (r:=false) (nn:=false) (cn:=cn) (coils:=coils) (kids:=kids) HA0.out (b:=5) (by rw [HALL.out,←HL3.out,←HL4.out,HZ.out.1,HZ.out.2];rfl) (by omega)]<;>rfl,hb⟩
      ·have HZ:Hid (armR ct cl m false false cn coils kids=zaa ct cl (kids.flatMap (pArm m false))):=armR_k (ct:=ct) (cl:=cl) (m:=m) (r:=false) (nn:=false) (cn:=cn) (coils:=coils) (kids:=kids) HA0.out (by rw [HALL.out,←HL3.out,←HL4.out];unfold cAv;rw [if_neg (by simp),if_pos rfl,if_neg hz])
       rw [HZ.out] at HRES
       have HB0:Hid (Below w.heap.size w wr):=hb
       have LOOP:True:=trivial
       have z3:((l3:Int)==0)=false∨((l3:Int)==0)=true∧((l4:Int)==0)=false:=by
        by_cases h3:l3=0
        ·exact .inr ⟨by simp [h3],by simp;omega⟩
        ·exact .inl (by simp;omega)
       clear hz hlt hn HA HX3 HL HZ hb
       rcases z3 with z3|⟨z3,z4⟩
       all_goals
        go_wp2
        go_loopg [7] l4 (fun g i wr=>∃n:Nat,n+g=l4∧i=.int .i64 n∧Hid (zaa ct cl ((kids.take n).flatMap (pArm m false))=0)∧Below w.heap.size w wr∧wr.heap[w.heap.size]?=some (.cells #[.int .i64 k,.int .i64 op,.slice a1 l1 c1,.slice a2 l2 c2,.slice a3 l3 c3,.slice a4 l4 c4] 56 (0,0)))
        case atStart=>exact ⟨0,by omega,rfl,rfl,HB0.out,KR.out⟩
        case round =>
         clear z3 c4' d5
         try clear z4
         obtain ⟨n,hn,rfl,HS,hb,hk0⟩:=hrel
         have c0:wr.cell? ⟨w.heap.size,5,none⟩=some (.slice a4 l4 c4):=(cell_of_row _ _ _ _ _ _ hk0).trans rfl
         by_cases hlt:n<l4
         ·have i2:(n:Int)<(l4:Int):=by omega
          have i3:(0:Int)≤(n:Int):=by omega
          obtain ⟨x,hxn⟩:∃x,kids[n]?=some x:=⟨_,List.getElem?_eq_getElem (by have:=HL4.out;omega)⟩
          obtain ⟨b,o,cs,rfl,hlo,hcs,hrg,hR⟩:=HX4.out n x hxn
          have HB:Hid (Below w.heap.size w wr):=hb
          have HLd:Hid ((loadVar 56 ⟨b,o+n*6,none⟩).run Tryz.prog wr=.ok (.agg cs.toArray) wr):=run_loadVar_mid wr b (o+n*6) 56 cs _ (fun i c hi=>(Keeps.of_below hb 0) _ _ _ (Nat.zero_le _) (hrg i c hi)) Tryz.underlying56 rfl (by rw [hcs];kernel_rfl)
          have HCx:Hid (Calls Tryz.prog 31 #[.agg cs.toArray,.bool false] wr fun r w'=>r=.returned (.int .i64 (zaa ct cl (pArm m false x)))∧Below wr.heap.size wr w'):=HK.out x cs (List.mem_of_getElem? hxn) wr hb (HM.out x cs wr hb hR)
          obtain ⟨q,Hq⟩:∃q,Hid (q=zaa ct cl (pArm m false x)):=⟨_,rfl⟩
          rw [←Hq.out] at HCx
          have hq:=(zar ct cl (pArm m false x)).1
          rw [←Hq.out] at hq
          have HKk:Hid (wr.heap[w.heap.size]?=some (.cells #[.int .i64 k,.int .i64 op,.slice a1 l1 c1,.slice a2 l2 c2,.slice a3 l3 c3,.slice (some ⟨b,o,none⟩) l4 c4] 56 (0,0))):=hk0
          have HD:Hid (kids[n]?=some x):=hxn
          clear hb hrg hcs hR hlo hk0 hxn
          go_wp2_with (first|(refine zau rfl 56 _ rfl _ _ rfl _ HLd.out ?_)|fail)
          refine HCx.out.mono ?_
          rintro r w1 ⟨rfl,g1⟩
          have b1:Below w.heap.size w w1:=HB.out.trans (g1.mono HB.out.size)
          have k1:Hid (w1.heap[w.heap.size]?=some (.cells #[.int .i64 k,.int .i64 op,.slice a1 l1 c1,.slice a2 l2 c2,.slice a3 l3 c3,.slice (some ⟨b,o,none⟩) l4 c4] 56 (0,0))):=(g1.block _ (Array.getElem?_eq_some_iff.1 HKk.out).1).trans HKk.out
          clear g1 HCx HLd c0
          by_cases hz:q=0
          ·have z:¬(q > 0):=by omega
           have HZ:Hid (q=0):=hz
           have z':¬((0:Int)<q):=by omega
           clear hz hq
           go_wp2
           go_roundg (gk-1)
           case measure=>omega
           case rel=>exact ⟨n+1,by omega,by simp,zed _ _ _ _ HD.out HS.out (by rw [←Hq.out];exact HZ.out),b1,k1.out⟩
          ·have z:q > 0:=by omega
           have z':(0:Int)<q:=by omega
           have HZ:Hid (¬ q=0):=hz
           clear hz hq
           go_wp2
           go_ret
           exact ⟨by rw [HRES.out,zdd _ _ _ _ HD.out HS.out (by rw [←Hq.out];exact HZ.out),←Hq.out]<;>rfl,b1⟩
         ·have i2:¬((n:Int)<(l4:Int)):=by omega
          have HSt:Hid (zaa ct cl (kids.flatMap (pArm m false))=0):=(by have:=HS.out;rwa [List.take_of_length_le (by have:=HL4.out;omega)] at this:zaa ct cl (kids.flatMap (pArm m false))=0)
          go_wp2
          go_ret
          exact ⟨by rw [HRES.out,HSt.out]<;>rfl,hb⟩
   ·have z:cn > 0:=by omega
    have z':(0:Int)<cn:=by omega
    have HA0:Hid (¬ cn=0):=hz
    clear hz hcn kS
    go_wp2
    go_ret
    exact ⟨by rw [HRES.out];unfold armR;simp only [HA0.out,if_false,Bool.false_eq_true]<;>rfl,bS⟩
theorem sa_arm(ct cl:Int→List ArgT→Bool):∀(m:Nat)(r:Bool)(t:ArmT)(cs:List Value)(w:World)(lo:Nat)(hv:ArmIs w lo m t cs)
  (HC:∀W,Below w.heap.size w W→∀op v xs,ArgsIs W lo v xs→Calls Tryz.prog 110 #[.agg #[.int .i64 op,v]] W fun e w'=>e=.returned (.bool (ct op xs))∧Below W.heap.size W w')
  (HL:∀W,Below w.heap.size w W→∀op v xs,ArgsIs W lo v xs→Calls Tryz.prog 72 #[.agg #[.int .i64 op,v]] W fun e w'=>e=.returned (.bool (cl op xs))∧Below W.heap.size W w'),
  Calls Tryz.prog 31 #[.agg cs.toArray,.bool r] w fun e w'=>e=.returned (.int .i64 (zaa ct cl (pArm m r t)))∧Below w.heap.size w w'
 | 0,_,_,_,_,_,h,_,_=>h.elim
 | m+1,r,.mk net coils kids,cs,w,lo,hv,HC,HL=>by
  obtain ⟨ns,v,v',rfl,hn,hc,hk⟩:=hv
  have hn':=hn
  cases m with
  | zero=>exact hn.elim
  | succ m' =>
   cases net with
   | mk k e nk =>
    obtain ⟨v1,v2,rfl,ha,hnk⟩:=hn
    obtain ⟨a1,c1,rfl,hl1,_⟩:=id ha
    obtain ⟨a2,c2,rfl,hl2,_⟩:=id hnk
    have e1:zaa ct cl (pArm (m'+1+1) r (.mk (.mk k e nk) coils kids))=armR ct cl (m'+1) r (zce (.mk k e nk)) (zaa ct cl (pNet (m'+1) (.mk k e nk))) coils kids:=firstC_arm ct cl (m'+1) r _ coils kids
    rw [e1]
    exact sa_step ct cl (m'+1) r (zce (.mk k e nk)) _ (zar _ _ _).1 k e.op a1 _ c1 a2 _ c2 v coils v' kids w lo hc hk
     (fun W=>by rw [zfb];exact none_s k e.op a1 _ c1 a2 _ c2 W hl1 hl2)
     (fun W g=>sw_net ct cl (m'+1) (.mk k e nk) _ W lo (NetIs.move (Keeps.of_below g lo) (Nat.le_refl _) _ _ (Nat.le_refl _) _ _ hn') (fun W' g'=>HC W' (g.trans (g'.mono g.size))))
     HL
     (fun x cs hx W g h=>sa_arm ct cl (m'+1) false x cs W lo h (fun W' g'=>HC W' (g.trans (g'.mono g.size))) (fun W' g'=>HL W' (g.trans (g'.mono g.size))))
     (fun x cs W g h=>ArmIs.move (Keeps.of_below g lo) (Nat.le_refl _) _ _ (Nat.le_refl _) _ _ h)
set_option maxRecDepth 10000 in
theorem scheck(ct cl:Int→List ArgT→Bool)(m:Nat)(v:Value)(xs:List ArmT)(w:World)(lo:Nat)(hv:ArmsIs w lo m v xs)(hw:xs.length+(xs.map (wA m)).sum≤1048576)
  (HC:∀W,Below w.heap.size w W→∀op v xs,ArgsIs W lo v xs→Calls Tryz.prog 110 #[.agg #[.int .i64 op,v]] W fun e w'=>e=.returned (.bool (ct op xs))∧Below W.heap.size W w')
  (HL:∀W,Below w.heap.size w W→∀op v xs,ArgsIs W lo v xs→Calls Tryz.prog 72 #[.agg #[.int .i64 op,v]] W fun e w'=>e=.returned (.bool (cl op xs))∧Below W.heap.size W w') :
  Calls Tryz.prog 10 #[v] w fun e w'=>e=.returned (.agg #[.int .i64 (zbr ct cl m xs).1,.int .i64 (zbr ct cl m xs).2])∧Below w.heap.size w w':=by
 have HSz:Hid (∀W,Below w.heap.size w W→Calls Tryz.prog 30 #[v] W fun r w'=>r=.returned (.int .i64 (szP (xs.flatMap (pArm m false)):Nat))∧Below W.heap.size W w'):=fun W g=>ss_arms m v xs W lo (zbi (Keeps.of_below g lo) (Nat.le_refl _) (Nat.le_refl _) hv) hw
 have hsz:szP (xs.flatMap (pArm m false))≤2*1048576:=by have:=zhn m xs;omega
 have HA:Hid (∀x cs,∀(W:World),Below w.heap.size w W→ArmIs w lo m x cs→Calls Tryz.prog 31 #[.agg cs.toArray,.bool true] W fun r w'=>r=.returned (.int .i64 (zaa ct cl (pArm m true x)))∧Below W.heap.size W w'):=fun x cs W g h =>
  sa_arm ct cl m true x cs W lo (ArmIs.move (Keeps.of_below g lo) (Nat.le_refl _) _ _ (Nat.le_refl _) _ _ h) (fun W' g'=>HC W' (g.trans (g'.mono g.size))) (fun W' g'=>HL W' (g.trans (g'.mono g.size)))
 clear HC HL
 obtain ⟨a,cap,rfl,hl,hx⟩:=hv
 have HX:Hid (∀j x,xs[j]?=some x→∃b o cs,a=some ⟨b,o,none⟩∧lo≤b∧cs.length=6∧w.rangeAt b (o+j*6) cs∧(ArmIs w lo m) x cs):=hx
 obtain ⟨len,HLn⟩:∃len,Hid (len=xs.length):=⟨_,rfl⟩
 obtain ⟨sz,HSZ⟩:∃sz,Hid (sz=szP (xs.flatMap (pArm m false))):=⟨_,rfl⟩
 rw [←HSZ.out] at HSz hsz
 rw [←HLn.out] at hl HSz ⊢
 clear hx hw
 obtain ⟨R,HR⟩:∃R,Hid (R=zbr ct cl m xs):=⟨_,rfl⟩
 rw [←HR.out]
 have b0:Below w.heap.size w (w.alloc (.cells #[.int .i64 0,.int .i64 0] 27)):=(Below.refl _ _).alloc (Nat.le_refl _) _
 have hk0:=heap_alloc_last w (.cells #[.int .i64 0,.int .i64 0] 27)
 have fin:∀(W:World)(x y:Int),Below w.heap.size w W→W.heap[w.heap.size]?=some (.cells #[.int .i64 0,.int .i64 0] 27 (0,0)) →
   Below w.heap.size w ((W.setCell ⟨w.heap.size,0,none⟩ (.int .i64 x)).setCell ⟨w.heap.size,1,none⟩ (.int .i64 y)) ∧
   ((W.setCell ⟨w.heap.size,0,none⟩ (.int .i64 x)).setCell ⟨w.heap.size,1,none⟩ (.int .i64 y)).cell? ⟨w.heap.size,0,none⟩=some (.int .i64 x) ∧
   ((W.setCell ⟨w.heap.size,0,none⟩ (.int .i64 x)).setCell ⟨w.heap.size,1,none⟩ (.int .i64 y)).cell? ⟨w.heap.size,1,none⟩=some (.int .i64 y) ∧
   W.cell? ⟨w.heap.size,0,none⟩=some (.int .i64 0)∧W.cell? ⟨w.heap.size,1,none⟩=some (.int .i64 0)∧W.frozen? ⟨w.heap.size,0,none⟩=false∧W.frozen? ⟨w.heap.size,1,none⟩=false ∧
   (W.setCell ⟨w.heap.size,0,none⟩ (.int .i64 x)).cell? ⟨w.heap.size,1,none⟩=some (.int .i64 0)∧(W.setCell ⟨w.heap.size,0,none⟩ (.int .i64 x)).frozen? ⟨w.heap.size,1,none⟩=false:=by
  intro W x y hb hk
  have d0:W.cell? ⟨w.heap.size,0,none⟩=some (.int .i64 0):=(cell_of_row _ _ _ _ _ _ hk).trans rfl
  have d1:W.cell? ⟨w.heap.size,1,none⟩=some (.int .i64 0):=(cell_of_row _ _ _ _ _ _ hk).trans rfl
  have d2:(W.setCell ⟨w.heap.size,0,none⟩ (.int .i64 x)).cell? ⟨w.heap.size,1,none⟩=some (.int .i64 0):=by rw [World.cell?_setCell_other _ _ _ _ (by simp)];exact d1
  refine ⟨(hb.setCell (p:=⟨w.heap.size,0,none⟩) (Nat.le_refl _) _).setCell (p:=⟨w.heap.size,1,none⟩) (Nat.le_refl _) _,?_,World.cell?_setCell_same' _ _ _ (by rw [d2];rfl),d0,d1,by simp [World.frozen?,hk],by simp [World.frozen?,hk],d2,by rw [World.frozen?_setCell];simp [World.frozen?,hk]⟩
  rw [World.cell?_setCell_other _ _ _ _ (by simp)]
  exact World.cell?_setCell_same' _ _ _ (by rw [d0];rfl)
 have HFin:=(show Hid _ from fin)
 have K0:Hid ((w.alloc (.cells #[.int .i64 0,.int .i64 0] 27)).heap[w.heap.size]?=some (.cells #[.int .i64 0,.int .i64 0] 27 (0,0))∧w.heap.size<(w.alloc (.cells #[.int .i64 0,.int .i64 0] 27)).heap.size):=⟨hk0,by simp⟩
 clear hk0 fin
 by_cases h40:40<len
 ·have g40:(len:Int) > 40:=by omega
  have g40':(40:Int)<(len:Int):=by omega
  obtain ⟨f0,f1,f2,f3,f4,f5,f6,f7,f8⟩:=HFin.out _ 1 0 b0 K0.out.1
  have hR:R=(1,0):=by rw [HR.out];unfold zbr zfl;rw [←HLn.out];simp [h40]
  clear K0 h40
  go_enter Tryz.func10,Tryz.ntmps10
  go_wp2
  exact bodyPost_ret (v:=.agg #[.int .i64 1,.int .i64 0]) (by simp [results,Tryz.results10,go_sem]) rfl ⟨by rw [hR],(Below.refl _ _).alloc (Nat.le_refl _) _⟩
 ·have g40:¬((len:Int) > 40):=by omega
  have g40':¬((40:Int)<(len:Int)):=by omega
  go_enter Tryz.func10,Tryz.ntmps10
  go_wp2_with fail
  refine (HSz.out _ b0).mono ?_
  rintro e w1 ⟨rfl,g1⟩
  have k1:=(g1.block _ K0.out.2).trans K0.out.1
  have b1:=b0.trans (g1.mono b0.size)
  clear g1 b0 K0
  by_cases h400:400<sz
  ·have g4:(sz:Int) > 400:=by omega
   have g4':(400:Int)<(sz:Int):=by omega
   obtain ⟨f0,f1,f2,f3,f4,f5,f6,f7,f8⟩:=HFin.out _ 1 0 b1 k1
   have hR:R=(1,0):=by rw [HR.out];unfold zbr zfl;rw [←HSZ.out];simp [h400]
   clear k1 h400
   go_wp2
   exact bodyPost_ret (v:=.agg #[.int .i64 1,.int .i64 0]) (by simp [results,Tryz.results10,go_sem,f1,f2]) rfl ⟨by rw [hR],f0⟩
  ·have g4:¬((sz:Int) > 400):=by omega
   have g4':¬((400:Int)<(sz:Int)):=by omega
   have HRR:Hid (R=zbc (fun x=>zaa ct cl (pArm m true x)) 0 xs):=(by rw [HR.out];unfold zbr zfl;rw [←HSZ.out,←HLn.out];simp [h400,h40]:R=zbc (fun x=>zaa ct cl (pArm m true x)) 0 xs)
   have HB1:Hid (Below w.heap.size w w1∧w1.heap[w.heap.size]?=some (.cells #[.int .i64 0,.int .i64 0] 27 (0,0))):=⟨b1,k1⟩
   clear h400 h40 k1 b1
   go_wp2
   go_loopg [3] len (fun g i wr=>∃n:Nat,n+g=len∧i=.int .i64 n∧Hid (∀y∈xs.take n,zaa ct cl (pArm m true y)=0)∧Below w.heap.size w wr∧wr.heap[w.heap.size]?=some (.cells #[.int .i64 0,.int .i64 0] 27 (0,0)))
   case atStart=>exact ⟨0,by omega,rfl,fun e he=>by simp at he,HB1.out.1,HB1.out.2⟩
   case round =>
    obtain ⟨n,hn,rfl,HS,hb,hk⟩:=hrel
    by_cases hlt:n<len
    ·have i2:(n:Int)<(len:Int):=by omega
     have i3:(0:Int)≤(n:Int):=by omega
     obtain ⟨x,hxn⟩:∃x,xs[n]?=some x:=⟨_,List.getElem?_eq_getElem (by have:=HLn.out;omega)⟩
     obtain ⟨b,o,cs,rfl,hlo,hcs,hrg,hRR⟩:=HX.out n x hxn
     have HLd:Hid ((loadVar 56 ⟨b,o+n*6,none⟩).run Tryz.prog wr=.ok (.agg cs.toArray) wr):=run_loadVar_mid wr b (o+n*6) 56 cs _ (fun i c hi=>(Keeps.of_below hb 0) _ _ _ (Nat.zero_le _) (hrg i c hi)) Tryz.underlying56 rfl (by rw [hcs];kernel_rfl)
     have HCx:Hid (Calls Tryz.prog 31 #[.agg cs.toArray,.bool true] wr fun r w'=>r=.returned (.int .i64 (zaa ct cl (pArm m true x)))∧Below wr.heap.size wr w'):=HA.out x cs wr hb hRR
     obtain ⟨q,Hq⟩:∃q,Hid (q=zaa ct cl (pArm m true x)):=⟨_,rfl⟩
     rw [←Hq.out] at HCx
     have hq:=(zar ct cl (pArm m true x)).1
     rw [←Hq.out] at hq
     have HKk:Hid (Below w.heap.size w wr∧wr.heap[w.heap.size]?=some (.cells #[.int .i64 0,.int .i64 0] 27 (0,0))):=⟨hb,hk⟩
     have HD:Hid (xs[n]?=some x):=hxn
     clear hb hrg hcs hRR hlo hk hxn
     go_wp2_with (first|(refine zau rfl 56 _ rfl _ _ rfl _ HLd.out ?_)|fail)
     refine HCx.out.mono ?_
     rintro r w2 ⟨rfl,g2⟩
     have b2:Below w.heap.size w w2:=HKk.out.1.trans (g2.mono HKk.out.1.size)
     have k2:=(g2.block _ (Array.getElem?_eq_some_iff.1 HKk.out.2).1).trans HKk.out.2
     clear g2 HCx HLd
     by_cases hz:q=0
     ·have z:¬(q > 0):=by omega
      have HZ:Hid (q=0):=hz
      have z':¬((0:Int)<q):=by omega
      clear hz hq
      have HK2:Hid (w2.heap[w.heap.size]?=some (.cells #[.int .i64 0,.int .i64 0] 27 (0,0))):=k2
      clear k2
      go_wp2
      go_roundg (gk-1)
      case measure=>omega
      case rel=>exact ⟨n+1,by omega,by simp,take_go (f:=fun y=>zaa ct cl (pArm m true y)) HD.out HS.out (by show zaa ct cl (pArm m true x)=0;rw [←Hq.out];exact HZ.out),b2,HK2.out⟩
     ·have z:q > 0:=by omega
      have z':(0:Int)<q:=by omega
      have hR:R=(q,(n:Int)):=by rw [HRR.out,zio (fun y=>zaa ct cl (pArm m true y)) xs n x HD.out HS.out (by show zaa ct cl (pArm m true x)≠0;rw [←Hq.out];exact hz),Hq.out]
      have HRx:Hid (R=(q,(n:Int))):=hR
      obtain ⟨f0,f1,f2,f3,f4,f5,f6,f7,f8⟩:=HFin.out _ q n b2 k2
      clear hz hq hR k2
      go_wp2
      exact bodyPost_ret (v:=.agg #[.int .i64 q,.int .i64 n]) (by simp [results,Tryz.results10,go_sem,f1,f2]) rfl ⟨by rw [HRx.out],f0⟩
    ·have i2:¬((n:Int)<(len:Int)):=by omega
     have hR:R=(0,0):=by rw [HRR.out];exact zho _ _ (fun y hy=>HS.out y (by rw [List.take_of_length_le (by have:=HLn.out;omega)];exact hy))
     have HRx:Hid (R=(0,0)):=hR
     obtain ⟨f0,f1,f2,f3,f4,f5,f6,f7,f8⟩:=HFin.out _ 0 0 hb hk
     clear hR hk
     go_wp2
     exact bodyPost_ret (v:=.agg #[.int .i64 0,.int .i64 0]) (by simp [results,Tryz.results10,go_sem,f1,f2]) rfl ⟨by rw [HRx.out],f0⟩
end Go.Proofs.YtllmabgollkigaaGreatDoor
