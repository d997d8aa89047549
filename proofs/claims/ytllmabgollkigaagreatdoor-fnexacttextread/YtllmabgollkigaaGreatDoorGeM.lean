/- Ladders compared: the laws' eq.. functions. -/
import Derived.Test.YtllmabgollkigaaGreatDoorGbM
import Derived.Test.YtllmabgollkigaaGreatDoorMm
import Derived.Deep.RegionWith
import Derived.Deep.Cut
import Derived.Deep.QuietTactic
import Derived.BigQuiet
import Derived.Lib.QuietBelow
import Derived.Handy
import Derived.WalkLawsBesides
import Derived.RangeFuncNested
import Derived.RangeFuncBound
import Derived.RangeFuncCalls
import Derived.RangeFuncLeaves
import Derived.RangeFuncKeeps
import Derived.RangeFuncFrom
import Derived.Shelf.Abstract
import Derived.Shelf.RegionOpen
import Derived.WalkKit
import Derived.OwnWalkIn
import Derived.TacticsInMore
import Derived.LoopNIn
import Derived.LoopIn
set_option maxHeartbeats 8000000
namespace Go.Proofs.YtllmabgollkigaaGreatDoor
open Go.RowKit
set_option linter.unusedVariables false
noncomputable def eqB{α:Type}(a b:α):Bool:=@decide (a=b) (Classical.propDecidable _)
theorem eqB_true{α:Type}{a b:α}:eqB a b=true ↔ a=b:=by simp [eqB]
theorem zch{α:Type}(a:α):eqB a a=true:=eqB_true.2 rfl
theorem zbe{α:Type}{a b:α}(h:a≠b):eqB a b=false:=by
 cases hb:eqB a b with
 | false=>rfl
 | true=>exact absurd (eqB_true.1 hb) h
theorem eqB_iff{α:Type}{a b:α}{r:Bool}(h:r=true ↔ a=b):eqB a b=r:=by
 cases r with
 | true=>exact eqB_true.2 (h.1 rfl)
 | false=>exact zbe fun e=>by have:=h.2 e;cases this
theorem zax{w:World}{b o:Nat}{cs:List Value}(h:w.rangeAt b o cs){W:World}(hp:∃p:Regrown,W=Sort.grow (redrawn w p.d) p.os):W.rangeAt b o cs:=by
 obtain ⟨p,rfl⟩:=hp
 exact fun i c hi=>(Keeps.of_below (below_regrown w p.d p.os) 0) _ _ _ (Nat.zero_le _) (h i c hi)
theorem eq_arg(k n p k' n' p':Int)(w:World):Calls Tryz.prog 188 #[.agg #[.int .i64 k,.int .i64 n,.int .i64 p],.agg #[.int .i64 k',.int .i64 n',.int .i64 p']] w fun e w'=>e=.returned (.bool (eqB ((k,n,p):ArgT) (k',n',p')))∧Below w.heap.size w w':=by
 have b2:∀A B,Below w.heap.size w ((w.alloc A).alloc B):=fun A B=>((Below.refl _ _).alloc (Nat.le_refl _) _).alloc (by simp) _
 by_cases h1:k=k'
 ·by_cases h2:n=n'
  ·by_cases h3:p=p'
   ·rw [show eqB ((k,n,p):ArgT) (k',n',p')=true from eqB_true.2 (by rw [h1,h2,h3])]
    subst h1 h2 h3
    go_enter Tryz.func188,Tryz.ntmps188
    go_wp2
    go_ret
    exact ⟨rfl,b2 _ _⟩
   ·rw [show eqB ((k,n,p):ArgT) (k',n',p')=false from zbe (by intro e;simp at e;exact h3 e.2.2)]
    subst h1 h2
    go_enter Tryz.func188,Tryz.ntmps188
    go_wp2
    go_ret
    exact ⟨rfl,b2 _ _⟩
  ·rw [show eqB ((k,n,p):ArgT) (k',n',p')=false from zbe (by intro e;simp at e;exact h2 e.2.1)]
   subst h1
   go_enter Tryz.func188,Tryz.ntmps188
   go_wp2
   go_ret
   exact ⟨rfl,b2 _ _⟩
 ·rw [show eqB ((k,n,p):ArgT) (k',n',p')=false from zbe (by intro e;simp at e;exact h1 e.1)]
  go_enter Tryz.func188,Tryz.ntmps188
  go_wp2
  go_ret
  exact ⟨rfl,b2 _ _⟩
set_option maxRecDepth 10000 in
theorem eq_args_row(v v':Value)(xs ys:List ArgT)(w:World)(lo lo':Nat)(hv:RowIs w lo 3 (zgd) v xs)(hv':RowIs w lo' 3 (zgd) v' ys)
  (HC:Hid (∀x cs y ds,x∈xs→y∈ys→∀(W:World),(zgd) x cs→(zgd) y ds→Calls Tryz.prog 188 #[.agg cs.toArray,.agg ds.toArray] W fun r w'=>r=.returned (.bool (eqB x y))∧Below W.heap.size W w'))
  (HM:Hid (∀x cs (l n:Nat) (W W':World),Keeps l W W'→(zgd) x cs→(zgd) x cs)) :
  Calls Tryz.prog 159 #[v,v'] w fun r w'=>r=.returned (.bool (eqB xs ys))∧Below w.heap.size w w':=by
 obtain ⟨a,cap,rfl,hl,hx⟩:=hv
 obtain ⟨a',cap',rfl,hl',hx'⟩:=hv'
 have HX:Hid (∀j x,xs[j]?=some x→∃b o cs,a=some ⟨b,o,none⟩∧lo≤b∧cs.length=3∧w.rangeAt b (o+j*3) cs∧(zgd) x cs):=hx
 have HX':Hid (∀j x,ys[j]?=some x→∃b o cs,a'=some ⟨b,o,none⟩∧lo'≤b∧cs.length=3∧w.rangeAt b (o+j*3) cs∧(zgd) x cs):=hx'
 clear hx hx'
 by_cases hlen:xs.length=ys.length
 ·rw [←hlen] at hl' ⊢
  have HLY:Hid (xs.length=ys.length):=hlen
  obtain ⟨len,HL⟩:∃len,Hid (len=xs.length):=⟨_,rfl⟩
  obtain ⟨RES,HR⟩:∃r,Hid (r=eqB xs ys):=⟨_,rfl⟩
  rw [←HL.out] at hl hl' ⊢
  rw [←HR.out]
  clear hl' hlen
  go_enter Tryz.func159,Tryz.ntmps159
  go_wp2
  go_loopg [5] len (fun g i wr=>∃n:Nat,n+g=len∧i=.int .i64 n∧Below w.heap.size w wr∧Hid (∀j,j<n→xs[j]?=ys[j]?))
  case atStart=>exact ⟨0,by omega,rfl,Below.refl _ _,fun j hj=>by omega⟩
  case round =>
   obtain ⟨n,hn,rfl,hb,HS⟩:=hrel
   by_cases hlt:n<len
   ·have i1:(n:Int)<(len:Int):=by omega
    have i3:(0:Int)≤(n:Int):=by omega
    obtain ⟨x,hxn⟩:∃x,xs[n]?=some x:=⟨_,List.getElem?_eq_getElem (by have:=HL.out;omega)⟩
    obtain ⟨y,hyn⟩:∃y,ys[n]?=some y:=⟨_,List.getElem?_eq_getElem (by have:=HL.out;have:=HLY.out;omega)⟩
    obtain ⟨b,o,cs,rfl,_,hcs,hrg,hR⟩:=HX.out n x hxn
    obtain ⟨b',o',ds,rfl,_,hds,hrg',hR'⟩:=HX'.out n y hyn
    have HB:Hid (Below w.heap.size w wr):=hb
    have H1:Hid (wr.rangeAt b (o+n*3) cs∧cs.length=3):=⟨fun i c hi=>(Keeps.of_below hb 0) _ _ _ (Nat.zero_le _) (hrg i c hi),hcs⟩
    have H2:Hid (wr.rangeAt b' (o'+n*3) ds∧ds.length=3):=⟨fun i c hi=>(Keeps.of_below hb 0) _ _ _ (Nat.zero_le _) (hrg' i c hi),hds⟩
    obtain ⟨q,Hq⟩:∃q,Hid (q=eqB x y):=⟨_,rfl⟩
    have cE:∀d os,Calls Tryz.prog 188 #[.agg cs.toArray,.agg ds.toArray] (Sort.grow (redrawn wr d) os) fun e w''=>e=.returned (.bool q)∧∃p:Regrown,w''=Sort.grow (redrawn wr p.d) p.os :=
     fun d os=>Calls.regrown_of (by rw [Hq.out];exact HC.out x cs y ds (List.mem_of_getElem? hxn) (List.mem_of_getElem? hyn) _ (HM.out x cs lo 0 w _ ((Keeps.of_below hb lo).trans (Keeps.of_below (below_regrown wr d os) lo)) hR) (HM.out y ds lo' 0 w _ ((Keeps.of_below hb lo').trans (Keeps.of_below (below_regrown wr d os) lo')) hR'))
    clear hb hrg hrg' hcs hds hR hR'
    go_upto_region 6 with fail
    refine wp_region_quiet_below (by kernel_rfl) (by kernel_rfl) ?_
    go_big_quiet_step (first|with_reducible exact cE _ _)
    go_big_quiet_step (first|with_reducible exact cE _ _)
    go_big_quiet_step (first|with_reducible exact cE _ _)
    refine zcp rfl 133 _ rfl _ _ rfl (.agg cs.toArray) (fun W hW=>run_loadVar_mid W b (o+n*3) 133 cs _ (zax H1.out.1 hW) Tryz.underlying133 rfl (by rw [H1.out.2];kernel_rfl)) ?_
    simp only [Act.put,List.setIfInBounds_toArray,List.set_cons_succ,List.set_cons_zero]
    go_big_quiet_step (first|with_reducible exact cE _ _)
    go_big_quiet_step (first|with_reducible exact cE _ _)
    go_big_quiet_step (first|with_reducible exact cE _ _)
    refine zcp rfl 133 _ rfl _ _ rfl (.agg ds.toArray) (fun W hW=>run_loadVar_mid W b' (o'+n*3) 133 ds _ (zax H2.out.1 hW) Tryz.underlying133 rfl (by rw [H2.out.2];kernel_rfl)) ?_
    simp only [Act.put,List.setIfInBounds_toArray,List.set_cons_succ,List.set_cons_zero]
    go_big_quiet_step (first|with_reducible exact cE _ _)
    go_big_quiet_step (first|with_reducible exact cE _ _)
    refine wpQuiet_nil ?_
    intro w7 hw'
    have b7:Below w.heap.size w w7:=by
     obtain ⟨⟨dq,osq⟩,rfl⟩:=hw'
     exact HB.out.trans ((below_regrown wr dq osq).mono HB.out.size)
    clear hw' cE
    cases q with
    | true =>
     go_wp2
     go_roundg (gk-1)
     case measure=>omega
     case rel =>
      refine ⟨n+1,by omega,by simp,b7,?_⟩
      intro j hj
      by_cases hjn:j=n
      ·rw [hjn,hxn,hyn,eqB_true.1 Hq.out.symm]
      ·exact HS.out j (by omega)
    | false =>
     go_wp2
     go_ret
     refine ⟨?_,b7⟩
     rw [HR.out,zbe (fun e=>by
      rw [e] at hxn
      have hxy:=Option.some.inj (hxn.symm.trans hyn)
      have:=Hq.out
      rw [hxy,zch] at this
      cases this)]
     rfl
   ·have i1:¬((n:Int)<(len:Int)):=by omega
    have hE:xs=ys:=by
     apply List.ext_getElem?
     intro j
     by_cases hj:j<n
     ·exact HS.out j hj
     ·have:=HL.out;have:=HLY.out
      rw [List.getElem?_eq_none (by omega),List.getElem?_eq_none (by omega)]
    go_wp2
    go_ret
    exact ⟨by rw [HR.out,hE,zch];rfl,hb⟩
 ·have i1:((xs.length:Nat):Int)≠((ys.length:Nat):Int):=by omega
  rw [zbe (fun e=>hlen (by rw [e]))]
  generalize xs.length=l1 at hl i1 hlen ⊢
  generalize ys.length=l2 at hl' i1 hlen ⊢
  go_enter Tryz.func159,Tryz.ntmps159
  go_wp2
  go_ret
  exact ⟨rfl,Below.refl _ _⟩
set_option maxRecDepth 10000 in
theorem eq_elems_row(v v':Value)(xs ys:List ElemT)(w:World)(lo lo':Nat)(hv:RowIs w lo 2 (ElemIs w lo) v xs)(hv':RowIs w lo' 2 (ElemIs w lo') v' ys)
  (HC:Hid (∀x cs y ds,x∈xs→y∈ys→∀(W:World),(ElemIs W lo) x cs→(ElemIs W lo') y ds→Calls Tryz.prog 127 #[.agg cs.toArray,.agg ds.toArray] W fun r w'=>r=.returned (.bool (eqB x y))∧Below W.heap.size W w'))
  (HM:Hid (∀x cs (l n:Nat) (W W':World),Keeps l W W'→(ElemIs W l) x cs→(ElemIs W' l) x cs)) :
  Calls Tryz.prog 95 #[v,v'] w fun r w'=>r=.returned (.bool (eqB xs ys))∧Below w.heap.size w w':=by
 obtain ⟨a,cap,rfl,hl,hx⟩:=hv
 obtain ⟨a',cap',rfl,hl',hx'⟩:=hv'
 have HX:Hid (∀j x,xs[j]?=some x→∃b o cs,a=some ⟨b,o,none⟩∧lo≤b∧cs.length=2∧w.rangeAt b (o+j*2) cs∧(ElemIs w lo) x cs):=hx
 have HX':Hid (∀j x,ys[j]?=some x→∃b o cs,a'=some ⟨b,o,none⟩∧lo'≤b∧cs.length=2∧w.rangeAt b (o+j*2) cs∧(ElemIs w lo') x cs):=hx'
 clear hx hx'
 by_cases hlen:xs.length=ys.length
 ·rw [←hlen] at hl' ⊢
  have HLY:Hid (xs.length=ys.length):=hlen
  obtain ⟨len,HL⟩:∃len,Hid (len=xs.length):=⟨_,rfl⟩
  obtain ⟨RES,HR⟩:∃r,Hid (r=eqB xs ys):=⟨_,rfl⟩
  rw [←HL.out] at hl hl' ⊢
  rw [←HR.out]
  clear hl' hlen
  go_enter Tryz.func95,Tryz.ntmps95
  go_wp2
  go_loopg [5] len (fun g i wr=>∃n:Nat,n+g=len∧i=.int .i64 n∧Below w.heap.size w wr∧Hid (∀j,j<n→xs[j]?=ys[j]?))
  case atStart=>exact ⟨0,by omega,rfl,Below.refl _ _,fun j hj=>by omega⟩
  case round =>
   obtain ⟨n,hn,rfl,hb,HS⟩:=hrel
   by_cases hlt:n<len
   ·have i1:(n:Int)<(len:Int):=by omega
    have i3:(0:Int)≤(n:Int):=by omega
    obtain ⟨x,hxn⟩:∃x,xs[n]?=some x:=⟨_,List.getElem?_eq_getElem (by have:=HL.out;omega)⟩
    obtain ⟨y,hyn⟩:∃y,ys[n]?=some y:=⟨_,List.getElem?_eq_getElem (by have:=HL.out;have:=HLY.out;omega)⟩
    obtain ⟨b,o,cs,rfl,_,hcs,hrg,hR⟩:=HX.out n x hxn
    obtain ⟨b',o',ds,rfl,_,hds,hrg',hR'⟩:=HX'.out n y hyn
    have HB:Hid (Below w.heap.size w wr):=hb
    have H1:Hid (wr.rangeAt b (o+n*2) cs∧cs.length=2):=⟨fun i c hi=>(Keeps.of_below hb 0) _ _ _ (Nat.zero_le _) (hrg i c hi),hcs⟩
    have H2:Hid (wr.rangeAt b' (o'+n*2) ds∧ds.length=2):=⟨fun i c hi=>(Keeps.of_below hb 0) _ _ _ (Nat.zero_le _) (hrg' i c hi),hds⟩
    obtain ⟨q,Hq⟩:∃q,Hid (q=eqB x y):=⟨_,rfl⟩
    have cE:∀d os,Calls Tryz.prog 127 #[.agg cs.toArray,.agg ds.toArray] (Sort.grow (redrawn wr d) os) fun e w''=>e=.returned (.bool q)∧∃p:Regrown,w''=Sort.grow (redrawn wr p.d) p.os :=
     fun d os=>Calls.regrown_of (by rw [Hq.out];exact HC.out x cs y ds (List.mem_of_getElem? hxn) (List.mem_of_getElem? hyn) _ (HM.out x cs lo 0 w _ ((Keeps.of_below hb lo).trans (Keeps.of_below (below_regrown wr d os) lo)) hR) (HM.out y ds lo' 0 w _ ((Keeps.of_below hb lo').trans (Keeps.of_below (below_regrown wr d os) lo')) hR'))
    clear hb hrg hrg' hcs hds hR hR'
    go_upto_region 6 with fail
    refine wp_region_quiet_below (by kernel_rfl) (by kernel_rfl) ?_
    go_big_quiet_step (first|with_reducible exact cE _ _)
    go_big_quiet_step (first|with_reducible exact cE _ _)
    go_big_quiet_step (first|with_reducible exact cE _ _)
    refine zcp rfl 50 _ rfl _ _ rfl (.agg cs.toArray) (fun W hW=>run_loadVar_mid W b (o+n*2) 50 cs _ (zax H1.out.1 hW) Tryz.underlying50 rfl (by rw [H1.out.2];kernel_rfl)) ?_
    simp only [Act.put,List.setIfInBounds_toArray,List.set_cons_succ,List.set_cons_zero]
    go_big_quiet_step (first|with_reducible exact cE _ _)
    go_big_quiet_step (first|with_reducible exact cE _ _)
    go_big_quiet_step (first|with_reducible exact cE _ _)
    refine zcp rfl 50 _ rfl _ _ rfl (.agg ds.toArray) (fun W hW=>run_loadVar_mid W b' (o'+n*2) 50 ds _ (zax H2.out.1 hW) Tryz.underlying50 rfl (by rw [H2.out.2];kernel_rfl)) ?_
    simp only [Act.put,List.setIfInBounds_toArray,List.set_cons_succ,List.set_cons_zero]
    go_big_quiet_step (first|with_reducible exact cE _ _)
    go_big_quiet_step (first|with_reducible exact cE _ _)
    refine wpQuiet_nil ?_
    intro w7 hw'
    have b7:Below w.heap.size w w7:=by
     obtain ⟨⟨dq,osq⟩,rfl⟩:=hw'
     exact HB.out.trans ((below_regrown wr dq osq).mono HB.out.size)
    clear hw' cE
    cases q with
    | true =>
     go_wp2
     go_roundg (gk-1)
     case measure=>omega
     case rel =>
      refine ⟨n+1,by omega,by simp,b7,?_⟩
      intro j hj
      by_cases hjn:j=n
      ·rw [hjn,hxn,hyn,eqB_true.1 Hq.out.symm]
      ·exact HS.out j (by omega)
    | false =>
     go_wp2
     go_ret
     refine ⟨?_,b7⟩
     rw [HR.out,zbe (fun e=>by
      rw [e] at hxn
      have hxy:=Option.some.inj (hxn.symm.trans hyn)
      have:=Hq.out
      rw [hxy,zch] at this
      cases this)]
     rfl
   ·have i1:¬((n:Int)<(len:Int)):=by omega
    have hE:xs=ys:=by
     apply List.ext_getElem?
     intro j
     by_cases hj:j<n
     ·exact HS.out j hj
     ·have:=HL.out;have:=HLY.out
      rw [List.getElem?_eq_none (by omega),List.getElem?_eq_none (by omega)]
    go_wp2
    go_ret
    exact ⟨by rw [HR.out,hE,zch];rfl,hb⟩
 ·have i1:((xs.length:Nat):Int)≠((ys.length:Nat):Int):=by omega
  rw [zbe (fun e=>hlen (by rw [e]))]
  generalize xs.length=l1 at hl i1 hlen ⊢
  generalize ys.length=l2 at hl' i1 hlen ⊢
  go_enter Tryz.func95,Tryz.ntmps95
  go_wp2
  go_ret
  exact ⟨rfl,Below.refl _ _⟩
set_option maxRecDepth 10000 in
theorem eq_nets_row(m m':Nat)(v v':Value)(xs ys:List NetT)(w:World)(lo lo':Nat)(hv:RowIs w lo 4 (NetIs w lo m) v xs)(hv':RowIs w lo' 4 (NetIs w lo' m') v' ys)
  (HC:Hid (∀x cs y ds,x∈xs→y∈ys→∀(W:World),(NetIs W lo m) x cs→(NetIs W lo' m') y ds→Calls Tryz.prog 94 #[.agg cs.toArray,.agg ds.toArray] W fun r w'=>r=.returned (.bool (eqB x y))∧Below W.heap.size W w'))
  (HM:Hid (∀x cs (l n:Nat) (W W':World),Keeps l W W'→(NetIs W l n) x cs→(NetIs W' l n) x cs)) :
  Calls Tryz.prog 128 #[v,v'] w fun r w'=>r=.returned (.bool (eqB xs ys))∧Below w.heap.size w w':=by
 obtain ⟨a,cap,rfl,hl,hx⟩:=hv
 obtain ⟨a',cap',rfl,hl',hx'⟩:=hv'
 have HX:Hid (∀j x,xs[j]?=some x→∃b o cs,a=some ⟨b,o,none⟩∧lo≤b∧cs.length=4∧w.rangeAt b (o+j*4) cs∧(NetIs w lo m) x cs):=hx
 have HX':Hid (∀j x,ys[j]?=some x→∃b o cs,a'=some ⟨b,o,none⟩∧lo'≤b∧cs.length=4∧w.rangeAt b (o+j*4) cs∧(NetIs w lo' m') x cs):=hx'
 clear hx hx'
 by_cases hlen:xs.length=ys.length
 ·rw [←hlen] at hl' ⊢
  have HLY:Hid (xs.length=ys.length):=hlen
  obtain ⟨len,HL⟩:∃len,Hid (len=xs.length):=⟨_,rfl⟩
  obtain ⟨RES,HR⟩:∃r,Hid (r=eqB xs ys):=⟨_,rfl⟩
  rw [←HL.out] at hl hl' ⊢
  rw [←HR.out]
  clear hl' hlen
  go_enter Tryz.func128,Tryz.ntmps128
  go_wp2
  go_loopg [5] len (fun g i wr=>∃n:Nat,n+g=len∧i=.int .i64 n∧Below w.heap.size w wr∧Hid (∀j,j<n→xs[j]?=ys[j]?))
  case atStart=>exact ⟨0,by omega,rfl,Below.refl _ _,fun j hj=>by omega⟩
  case round =>
   obtain ⟨n,hn,rfl,hb,HS⟩:=hrel
   by_cases hlt:n<len
   ·have i1:(n:Int)<(len:Int):=by omega
    have i3:(0:Int)≤(n:Int):=by omega
    obtain ⟨x,hxn⟩:∃x,xs[n]?=some x:=⟨_,List.getElem?_eq_getElem (by have:=HL.out;omega)⟩
    obtain ⟨y,hyn⟩:∃y,ys[n]?=some y:=⟨_,List.getElem?_eq_getElem (by have:=HL.out;have:=HLY.out;omega)⟩
    obtain ⟨b,o,cs,rfl,_,hcs,hrg,hR⟩:=HX.out n x hxn
    obtain ⟨b',o',ds,rfl,_,hds,hrg',hR'⟩:=HX'.out n y hyn
    have HB:Hid (Below w.heap.size w wr):=hb
    have H1:Hid (wr.rangeAt b (o+n*4) cs∧cs.length=4):=⟨fun i c hi=>(Keeps.of_below hb 0) _ _ _ (Nat.zero_le _) (hrg i c hi),hcs⟩
    have H2:Hid (wr.rangeAt b' (o'+n*4) ds∧ds.length=4):=⟨fun i c hi=>(Keeps.of_below hb 0) _ _ _ (Nat.zero_le _) (hrg' i c hi),hds⟩
    obtain ⟨q,Hq⟩:∃q,Hid (q=eqB x y):=⟨_,rfl⟩
    have cE:∀d os,Calls Tryz.prog 94 #[.agg cs.toArray,.agg ds.toArray] (Sort.grow (redrawn wr d) os) fun e w''=>e=.returned (.bool q)∧∃p:Regrown,w''=Sort.grow (redrawn wr p.d) p.os :=
     fun d os=>Calls.regrown_of (by rw [Hq.out];exact HC.out x cs y ds (List.mem_of_getElem? hxn) (List.mem_of_getElem? hyn) _ (HM.out x cs lo m w _ ((Keeps.of_below hb lo).trans (Keeps.of_below (below_regrown wr d os) lo)) hR) (HM.out y ds lo' m' w _ ((Keeps.of_below hb lo').trans (Keeps.of_below (below_regrown wr d os) lo')) hR'))
    clear hb hrg hrg' hcs hds hR hR'
    go_upto_region 6 with fail
    refine wp_region_quiet_below (by kernel_rfl) (by kernel_rfl) ?_
    go_big_quiet_step (first|with_reducible exact cE _ _)
    go_big_quiet_step (first|with_reducible exact cE _ _)
    go_big_quiet_step (first|with_reducible exact cE _ _)
    refine zcp rfl 53 _ rfl _ _ rfl (.agg cs.toArray) (fun W hW=>run_loadVar_mid W b (o+n*4) 53 cs _ (zax H1.out.1 hW) Tryz.underlying53 rfl (by rw [H1.out.2];kernel_rfl)) ?_
    simp only [Act.put,List.setIfInBounds_toArray,List.set_cons_succ,List.set_cons_zero]
    go_big_quiet_step (first|with_reducible exact cE _ _)
    go_big_quiet_step (first|with_reducible exact cE _ _)
    go_big_quiet_step (first|with_reducible exact cE _ _)
    refine zcp rfl 53 _ rfl _ _ rfl (.agg ds.toArray) (fun W hW=>run_loadVar_mid W b' (o'+n*4) 53 ds _ (zax H2.out.1 hW) Tryz.underlying53 rfl (by rw [H2.out.2];kernel_rfl)) ?_
    simp only [Act.put,List.setIfInBounds_toArray,List.set_cons_succ,List.set_cons_zero]
    go_big_quiet_step (first|with_reducible exact cE _ _)
    go_big_quiet_step (first|with_reducible exact cE _ _)
    refine wpQuiet_nil ?_
    intro w7 hw'
    have b7:Below w.heap.size w w7:=by
     obtain ⟨⟨dq,osq⟩,rfl⟩:=hw'
     exact HB.out.trans ((below_regrown wr dq osq).mono HB.out.size)
    clear hw' cE
    cases q with
    | true =>
     go_wp2
     go_roundg (gk-1)
     case measure=>omega
     case rel =>
      refine ⟨n+1,by omega,by simp,b7,?_⟩
      intro j hj
      by_cases hjn:j=n
      ·rw [hjn,hxn,hyn,eqB_true.1 Hq.out.symm]
      ·exact HS.out j (by omega)
    | false =>
     go_wp2
     go_ret
     refine ⟨?_,b7⟩
     rw [HR.out,zbe (fun e=>by
      rw [e] at hxn
      have hxy:=Option.some.inj (hxn.symm.trans hyn)
      have:=Hq.out
      rw [hxy,zch] at this
      cases this)]
     rfl
   ·have i1:¬((n:Int)<(len:Int)):=by omega
    have hE:xs=ys:=by
     apply List.ext_getElem?
     intro j
     by_cases hj:j<n
     ·exact HS.out j hj
     ·have:=HL.out;have:=HLY.out
      rw [List.getElem?_eq_none (by omega),List.getElem?_eq_none (by omega)]
    go_wp2
    go_ret
    exact ⟨by rw [HR.out,hE,zch];rfl,hb⟩
 ·have i1:((xs.length:Nat):Int)≠((ys.length:Nat):Int):=by omega
  rw [zbe (fun e=>hlen (by rw [e]))]
  generalize xs.length=l1 at hl i1 hlen ⊢
  generalize ys.length=l2 at hl' i1 hlen ⊢
  go_enter Tryz.func128,Tryz.ntmps128
  go_wp2
  go_ret
  exact ⟨rfl,Below.refl _ _⟩
set_option maxRecDepth 10000 in
theorem zhj(m m':Nat)(v v':Value)(xs ys:List ArmT)(w:World)(lo lo':Nat)(hv:RowIs w lo 6 (ArmIs w lo m) v xs)(hv':RowIs w lo' 6 (ArmIs w lo' m') v' ys)
  (HC:Hid (∀x cs y ds,x∈xs→y∈ys→∀(W:World),(ArmIs W lo m) x cs→(ArmIs W lo' m') y ds→Calls Tryz.prog 50 #[.agg cs.toArray,.agg ds.toArray] W fun r w'=>r=.returned (.bool (eqB x y))∧Below W.heap.size W w'))
  (HM:Hid (∀x cs (l n:Nat) (W W':World),Keeps l W W'→(ArmIs W l n) x cs→(ArmIs W' l n) x cs)) :
  Calls Tryz.prog 18 #[v,v'] w fun r w'=>r=.returned (.bool (eqB xs ys))∧Below w.heap.size w w':=by
 obtain ⟨a,cap,rfl,hl,hx⟩:=hv
 obtain ⟨a',cap',rfl,hl',hx'⟩:=hv'
 have HX:Hid (∀j x,xs[j]?=some x→∃b o cs,a=some ⟨b,o,none⟩∧lo≤b∧cs.length=6∧w.rangeAt b (o+j*6) cs∧(ArmIs w lo m) x cs):=hx
 have HX':Hid (∀j x,ys[j]?=some x→∃b o cs,a'=some ⟨b,o,none⟩∧lo'≤b∧cs.length=6∧w.rangeAt b (o+j*6) cs∧(ArmIs w lo' m') x cs):=hx'
 clear hx hx'
 by_cases hlen:xs.length=ys.length
 ·rw [←hlen] at hl' ⊢
  have HLY:Hid (xs.length=ys.length):=hlen
  obtain ⟨len,HL⟩:∃len,Hid (len=xs.length):=⟨_,rfl⟩
  obtain ⟨RES,HR⟩:∃r,Hid (r=eqB xs ys):=⟨_,rfl⟩
  rw [←HL.out] at hl hl' ⊢
  rw [←HR.out]
  clear hl' hlen
  go_enter Tryz.func18,Tryz.ntmps18
  go_wp2
  go_loopg [5] len (fun g i wr=>∃n:Nat,n+g=len∧i=.int .i64 n∧Below w.heap.size w wr∧Hid (∀j,j<n→xs[j]?=ys[j]?))
  case atStart=>exact ⟨0,by omega,rfl,Below.refl _ _,fun j hj=>by omega⟩
  case round =>
   obtain ⟨n,hn,rfl,hb,HS⟩:=hrel
   by_cases hlt:n<len
   ·have i1:(n:Int)<(len:Int):=by omega
    have i3:(0:Int)≤(n:Int):=by omega
    obtain ⟨x,hxn⟩:∃x,xs[n]?=some x:=⟨_,List.getElem?_eq_getElem (by have:=HL.out;omega)⟩
    obtain ⟨y,hyn⟩:∃y,ys[n]?=some y:=⟨_,List.getElem?_eq_getElem (by have:=HL.out;have:=HLY.out;omega)⟩
    obtain ⟨b,o,cs,rfl,_,hcs,hrg,hR⟩:=HX.out n x hxn
    obtain ⟨b',o',ds,rfl,_,hds,hrg',hR'⟩:=HX'.out n y hyn
    have HB:Hid (Below w.heap.size w wr):=hb
    have H1:Hid (wr.rangeAt b (o+n*6) cs∧cs.length=6):=⟨fun i c hi=>(Keeps.of_below hb 0) _ _ _ (Nat.zero_le _) (hrg i c hi),hcs⟩
    have H2:Hid (wr.rangeAt b' (o'+n*6) ds∧ds.length=6):=⟨fun i c hi=>(Keeps.of_below hb 0) _ _ _ (Nat.zero_le _) (hrg' i c hi),hds⟩
    obtain ⟨q,Hq⟩:∃q,Hid (q=eqB x y):=⟨_,rfl⟩
    have cE:∀d os,Calls Tryz.prog 50 #[.agg cs.toArray,.agg ds.toArray] (Sort.grow (redrawn wr d) os) fun e w''=>e=.returned (.bool q)∧∃p:Regrown,w''=Sort.grow (redrawn wr p.d) p.os :=
     fun d os=>Calls.regrown_of (by rw [Hq.out];exact HC.out x cs y ds (List.mem_of_getElem? hxn) (List.mem_of_getElem? hyn) _ (HM.out x cs lo m w _ ((Keeps.of_below hb lo).trans (Keeps.of_below (below_regrown wr d os) lo)) hR) (HM.out y ds lo' m' w _ ((Keeps.of_below hb lo').trans (Keeps.of_below (below_regrown wr d os) lo')) hR'))
    clear hb hrg hrg' hcs hds hR hR'
    go_upto_region 6 with fail
    refine wp_region_quiet_below (by kernel_rfl) (by kernel_rfl) ?_
    go_big_quiet_step (first|with_reducible exact cE _ _)
    go_big_quiet_step (first|with_reducible exact cE _ _)
    go_big_quiet_step (first|with_reducible exact cE _ _)
    refine zcp rfl 56 _ rfl _ _ rfl (.agg cs.toArray) (fun W hW=>run_loadVar_mid W b (o+n*6) 56 cs _ (zax H1.out.1 hW) Tryz.underlying56 rfl (by rw [H1.out.2];kernel_rfl)) ?_
    simp only [Act.put,List.setIfInBounds_toArray,List.set_cons_succ,List.set_cons_zero]
    go_big_quiet_step (first|with_reducible exact cE _ _)
    go_big_quiet_step (first|with_reducible exact cE _ _)
    go_big_quiet_step (first|with_reducible exact cE _ _)
    refine zcp rfl 56 _ rfl _ _ rfl (.agg ds.toArray) (fun W hW=>run_loadVar_mid W b' (o'+n*6) 56 ds _ (zax H2.out.1 hW) Tryz.underlying56 rfl (by rw [H2.out.2];kernel_rfl)) ?_
    simp only [Act.put,List.setIfInBounds_toArray,List.set_cons_succ,List.set_cons_zero]
    go_big_quiet_step (first|with_reducible exact cE _ _)
    go_big_quiet_step (first|with_reducible exact cE _ _)
    refine wpQuiet_nil ?_
    intro w7 hw'
    have b7:Below w.heap.size w w7:=by
     obtain ⟨⟨dq,osq⟩,rfl⟩:=hw'
     exact HB.out.trans ((below_regrown wr dq osq).mono HB.out.size)
    clear hw' cE
    cases q with
    | true =>
     go_wp2
     go_roundg (gk-1)
     case measure=>omega
     case rel =>
      refine ⟨n+1,by omega,by simp,b7,?_⟩
      intro j hj
      by_cases hjn:j=n
      ·rw [hjn,hxn,hyn,eqB_true.1 Hq.out.symm]
      ·exact HS.out j (by omega)
    | false =>
     go_wp2
     go_ret
     refine ⟨?_,b7⟩
     rw [HR.out,zbe (fun e=>by
      rw [e] at hxn
      have hxy:=Option.some.inj (hxn.symm.trans hyn)
      have:=Hq.out
      rw [hxy,zch] at this
      cases this)]
     rfl
   ·have i1:¬((n:Int)<(len:Int)):=by omega
    have hE:xs=ys:=by
     apply List.ext_getElem?
     intro j
     by_cases hj:j<n
     ·exact HS.out j hj
     ·have:=HL.out;have:=HLY.out
      rw [List.getElem?_eq_none (by omega),List.getElem?_eq_none (by omega)]
    go_wp2
    go_ret
    exact ⟨by rw [HR.out,hE,zch];rfl,hb⟩
 ·have i1:((xs.length:Nat):Int)≠((ys.length:Nat):Int):=by omega
  rw [zbe (fun e=>hlen (by rw [e]))]
  generalize xs.length=l1 at hl i1 hlen ⊢
  generalize ys.length=l2 at hl' i1 hlen ⊢
  go_enter Tryz.func18,Tryz.ntmps18
  go_wp2
  go_ret
  exact ⟨rfl,Below.refl _ _⟩
theorem eq_args(v v':Value)(xs ys:List ArgT)(w:World)(lo lo':Nat)(hv:ArgsIs w lo v xs)(hv':ArgsIs w lo' v' ys) :
  Calls Tryz.prog 159 #[v,v'] w fun r w'=>r=.returned (.bool (eqB xs ys))∧Below w.heap.size w w' :=
 eq_args_row v v' xs ys w lo lo' hv hv' (fun x cs y ds _ _ W h h'=>by rw [show cs=_ from h,show ds=_ from h'];exact eq_arg _ _ _ _ _ _ W) (fun x cs l n W W' _ h=>h)
set_option maxRecDepth 10000 in
theorem eq_elem_step(x0 y0:Int)(x1 y1:Value)(r0:Bool)(p1:x1.oneCell'=true)(q1:y1.oneCell'=true)(w:World)
  (H0:Hid (∀W,Below w.heap.size w W→Calls Tryz.prog 159 #[x1,y1] W fun r w'=>r=.returned (.bool r0)∧Below W.heap.size W w')) :
  Calls Tryz.prog 127 #[.agg #[.int .i64 x0,x1],.agg #[.int .i64 y0,y1]] w fun r w'=>r=.returned (.bool (decide (x0=y0)&&r0))∧Below w.heap.size w w':=by
 have b0:Below w.heap.size w ((w.alloc (.cells #[.int .i64 x0,x1] 50)).alloc (.cells #[.int .i64 y0,y1] 50)):=((Below.refl _ _).alloc (Nat.le_refl _) _).alloc (by simp) _
 by_cases h0:x0=y0
 ·subst h0
  have e0:decide (x0=x0)=true:=by simp
  go_enter Tryz.func127,Tryz.ntmps127
  go_wp2_with fail
  have hk:=rows2 w (.cells #[.int .i64 x0,x1] 50) (.cells #[.int .i64 x0,y1] 50)
  have hz:((w.alloc (.cells #[.int .i64 x0,x1] 50)).alloc (.cells #[.int .i64 x0,y1] 50)).heap.size=w.heap.size+1+1:=by simp
  generalize ((w.alloc (.cells #[.int .i64 x0,x1] 50)).alloc (.cells #[.int .i64 x0,y1] 50))=W0 at b0 hk hz ⊢
  refine (H0.out _ b0).mono ?_
  rintro e w1 ⟨rfl,g1⟩
  have b1:=b0.trans (g1.mono b0.size)
  have k0:=(g1.block _ (by omega)).trans hk.1
  have k1:=(g1.block _ (by omega)).trans hk.2
  clear g1
  cases r0 with
  | false =>
   clear k0 k1 hk hz b0
   go_wp2
   go_ret
   exact ⟨by simp,b1⟩
  | true =>
   clear k0 k1 hk hz b0
   go_wp2
   go_ret
   exact ⟨by simp,b1⟩
 ·have e0:decide (x0=y0)=false:=by simp [h0]
  go_enter Tryz.func127,Tryz.ntmps127
  go_wp2
  go_ret
  exact ⟨by simp [e0],b0⟩
set_option maxRecDepth 10000 in
theorem eq_net_step(x0 y0:Int)(x1 y1:Int)(x2 y2:Value)(x3 y3:Value)(r0 r1:Bool)(p2:x2.oneCell'=true)(q2:y2.oneCell'=true)(p3:x3.oneCell'=true)(q3:y3.oneCell'=true)(w:World)
  (H0:Hid (∀W,Below w.heap.size w W→Calls Tryz.prog 127 #[.agg #[.int .i64 x1,x2],.agg #[.int .i64 y1,y2]] W fun r w'=>r=.returned (.bool r0)∧Below W.heap.size W w'))
  (H1:Hid (∀W,Below w.heap.size w W→Calls Tryz.prog 128 #[x3,y3] W fun r w'=>r=.returned (.bool r1)∧Below W.heap.size W w')) :
  Calls Tryz.prog 94 #[.agg #[.int .i64 x0,.int .i64 x1,x2,x3],.agg #[.int .i64 y0,.int .i64 y1,y2,y3]] w fun r w'=>r=.returned (.bool (decide (x0=y0)&&r0&&r1))∧Below w.heap.size w w':=by
 have b0:Below w.heap.size w ((w.alloc (.cells #[.int .i64 x0,.int .i64 x1,x2,x3] 53)).alloc (.cells #[.int .i64 y0,.int .i64 y1,y2,y3] 53)):=((Below.refl _ _).alloc (Nat.le_refl _) _).alloc (by simp) _
 by_cases h0:x0=y0
 ·subst h0
  have e0:decide (x0=x0)=true:=by simp
  go_enter Tryz.func94,Tryz.ntmps94
  go_wp2_with fail
  have hk:=rows2 w (.cells #[.int .i64 x0,.int .i64 x1,x2,x3] 53) (.cells #[.int .i64 x0,.int .i64 y1,y2,y3] 53)
  have hz:((w.alloc (.cells #[.int .i64 x0,.int .i64 x1,x2,x3] 53)).alloc (.cells #[.int .i64 x0,.int .i64 y1,y2,y3] 53)).heap.size=w.heap.size+1+1:=by simp
  generalize ((w.alloc (.cells #[.int .i64 x0,.int .i64 x1,x2,x3] 53)).alloc (.cells #[.int .i64 x0,.int .i64 y1,y2,y3] 53))=W0 at b0 hk hz ⊢
  refine (H0.out _ b0).mono ?_
  rintro e w1 ⟨rfl,g1⟩
  have b1:=b0.trans (g1.mono b0.size)
  have k0:=(g1.block _ (by omega)).trans hk.1
  have k1:=(g1.block _ (by omega)).trans hk.2
  clear g1
  cases r0 with
  | false =>
   clear k0 k1 hk hz b0
   go_wp2
   go_ret
   exact ⟨by simp,b1⟩
  | true =>
   have cx3:w1.cell? ⟨w.heap.size,3,none⟩=some (x3):=(cell_of_row _ _ _ _ _ _ k0).trans rfl
   have cy3:w1.cell? ⟨w.heap.size+1,3,none⟩=some (y3):=(cell_of_row _ _ _ _ _ _ k1).trans rfl
   have HK0:Hid _:=k0
   have HK1:Hid _:=k1
   clear k0 k1 hk hz b0
   go_wp2_with fail
   have k0:=HK0.out
   have k1:=HK1.out
   clear HK0 HK1 cx3 cy3
   refine (H1.out _ b1).mono ?_
   rintro e w2 ⟨rfl,g2⟩
   have b2:=b1.trans (g2.mono b1.size)
   have k0:=(g2.block _ (Array.getElem?_eq_some_iff.1 k0).1).trans k0
   have k1:=(g2.block _ (Array.getElem?_eq_some_iff.1 k1).1).trans k1
   clear g2
   cases r1 with
   | false =>
    clear k0 k1
    go_wp2
    go_ret
    exact ⟨by simp,b2⟩
   | true =>
    clear k0 k1
    go_wp2
    go_ret
    exact ⟨by simp,b2⟩
 ·have e0:decide (x0=y0)=false:=by simp [h0]
  go_enter Tryz.func94,Tryz.ntmps94
  go_wp2
  go_ret
  exact ⟨by simp [e0],b0⟩
set_option maxRecDepth 10000 in
theorem eq_arm_step(x0 y0:Value)(x1 y1:Value)(x2 y2:Value)(x3 y3:Value)(x4 y4:Value)(x5 y5:Value)(r0 r1 r2:Bool)(p0:x0.oneCell'=true)(q0:y0.oneCell'=true)(p1:x1.oneCell'=true)(q1:y1.oneCell'=true)(p2:x2.oneCell'=true)(q2:y2.oneCell'=true)(p3:x3.oneCell'=true)(q3:y3.oneCell'=true)(p4:x4.oneCell'=true)(q4:y4.oneCell'=true)(p5:x5.oneCell'=true)(q5:y5.oneCell'=true)(w:World)
  (H0:Hid (∀W,Below w.heap.size w W→Calls Tryz.prog 94 #[.agg #[x0,x1,x2,x3],.agg #[y0,y1,y2,y3]] W fun r w'=>r=.returned (.bool r0)∧Below W.heap.size W w'))
  (H1:Hid (∀W,Below w.heap.size w W→Calls Tryz.prog 95 #[x4,y4] W fun r w'=>r=.returned (.bool r1)∧Below W.heap.size W w'))
  (H2:Hid (∀W,Below w.heap.size w W→Calls Tryz.prog 18 #[x5,y5] W fun r w'=>r=.returned (.bool r2)∧Below W.heap.size W w')) :
  Calls Tryz.prog 50 #[.agg #[x0,x1,x2,x3,x4,x5],.agg #[y0,y1,y2,y3,y4,y5]] w fun r w'=>r=.returned (.bool (r0&&r1&&r2))∧Below w.heap.size w w':=by
 have b0:Below w.heap.size w ((w.alloc (.cells #[x0,x1,x2,x3,x4,x5] 56)).alloc (.cells #[y0,y1,y2,y3,y4,y5] 56)):=((Below.refl _ _).alloc (Nat.le_refl _) _).alloc (by simp) _
 go_enter Tryz.func50,Tryz.ntmps50
 go_wp2_with fail
 have hk:=rows2 w (.cells #[x0,x1,x2,x3,x4,x5] 56) (.cells #[y0,y1,y2,y3,y4,y5] 56)
 have hz:((w.alloc (.cells #[x0,x1,x2,x3,x4,x5] 56)).alloc (.cells #[y0,y1,y2,y3,y4,y5] 56)).heap.size=w.heap.size+1+1:=by simp
 generalize ((w.alloc (.cells #[x0,x1,x2,x3,x4,x5] 56)).alloc (.cells #[y0,y1,y2,y3,y4,y5] 56))=W0 at b0 hk hz ⊢
 refine (H0.out _ b0).mono ?_
 rintro e w1 ⟨rfl,g1⟩
 have b1:=b0.trans (g1.mono b0.size)
 have k0:=(g1.block _ (by omega)).trans hk.1
 have k1:=(g1.block _ (by omega)).trans hk.2
 clear g1
 cases r0 with
 | false =>
  clear k0 k1 hk hz b0
  go_wp2
  go_ret
  exact ⟨by simp,b1⟩
 | true =>
  have cx4:w1.cell? ⟨w.heap.size,4,none⟩=some (x4):=(cell_of_row _ _ _ _ _ _ k0).trans rfl
  have cy4:w1.cell? ⟨w.heap.size+1,4,none⟩=some (y4):=(cell_of_row _ _ _ _ _ _ k1).trans rfl
  have HK0:Hid _:=k0
  have HK1:Hid _:=k1
  clear k0 k1 hk hz b0
  go_wp2_with fail
  have k0:=HK0.out
  have k1:=HK1.out
  clear HK0 HK1 cx4 cy4
  refine (H1.out _ b1).mono ?_
  rintro e w2 ⟨rfl,g2⟩
  have b2:=b1.trans (g2.mono b1.size)
  have k0:=(g2.block _ (Array.getElem?_eq_some_iff.1 k0).1).trans k0
  have k1:=(g2.block _ (Array.getElem?_eq_some_iff.1 k1).1).trans k1
  clear g2
  cases r1 with
  | false =>
   clear k0 k1
   go_wp2
   go_ret
   exact ⟨by simp,b2⟩
  | true =>
   have cx5:w2.cell? ⟨w.heap.size,5,none⟩=some (x5):=(cell_of_row _ _ _ _ _ _ k0).trans rfl
   have cy5:w2.cell? ⟨w.heap.size+1,5,none⟩=some (y5):=(cell_of_row _ _ _ _ _ _ k1).trans rfl
   have HK0:Hid _:=k0
   have HK1:Hid _:=k1
   clear k0 k1
   go_wp2_with fail
   have k0:=HK0.out
   have k1:=HK1.out
   clear HK0 HK1 cx5 cy5
   refine (H2.out _ b2).mono ?_
   rintro e w3 ⟨rfl,g3⟩
   have b3:=b2.trans (g3.mono b2.size)
   have k0:=(g3.block _ (Array.getElem?_eq_some_iff.1 k0).1).trans k0
   have k1:=(g3.block _ (Array.getElem?_eq_some_iff.1 k1).1).trans k1
   clear g3
   cases r2 with
   | false =>
    clear k0 k1
    go_wp2
    go_ret
    exact ⟨by simp,b3⟩
   | true =>
    clear k0 k1
    go_wp2
    go_ret
    exact ⟨by simp,b3⟩
theorem bool_and3{a b c:Bool}{p q r:Prop}(ha:a=true ↔ p)(hb:b=true ↔ q)(hc:c=true ↔ r):(a&&b&&c)=true ↔ p∧q∧r:=by
 rw [Bool.and_eq_true,Bool.and_eq_true,ha,hb,hc,and_assoc]
theorem elemT_eq(e e':ElemT):(decide (e.op=e'.op)&&eqB e.args e'.args)=true ↔ e=e':=by
 rw [Bool.and_eq_true,decide_eq_true_iff,eqB_true]
 cases e;cases e';simp
theorem netT_eq(k k':Int)(e e':ElemT)(l l':List NetT):(decide (k=k')&&eqB e e'&&eqB l l')=true ↔ NetT.mk k e l=NetT.mk k' e' l':=by
 rw [bool_and3 decide_eq_true_iff eqB_true eqB_true,NetT.mk.injEq]
theorem armT_eq(n n':NetT)(e e':List ElemT)(l l':List ArmT):(eqB n n'&&eqB e e'&&eqB l l')=true ↔ ArmT.mk n e l=ArmT.mk n' e' l':=by
 rw [bool_and3 eqB_true eqB_true eqB_true,ArmT.mk.injEq]
theorem eq_elem(e e':ElemT)(cs ds:List Value)(w:World)(lo lo':Nat)(hv:ElemIs w lo e cs)(hv':ElemIs w lo' e' ds) :
  Calls Tryz.prog 127 #[.agg cs.toArray,.agg ds.toArray] w fun r w'=>r=.returned (.bool (eqB e e'))∧Below w.heap.size w w':=by
 obtain ⟨v,rfl,h⟩:=hv
 obtain ⟨v',rfl,h'⟩:=hv'
 rw [eqB_iff (elemT_eq e e')]
 exact eq_elem_step e.op e'.op v v' _ h.one h'.one w (fun W g=>eq_args v v' _ _ W lo lo' (zap (Keeps.of_below g lo) (Nat.le_refl _) h) (zap (Keeps.of_below g lo') (Nat.le_refl _) h'))
theorem eq_elems(v v':Value)(xs ys:List ElemT)(w:World)(lo lo':Nat)(hv:ElemsIs w lo v xs)(hv':ElemsIs w lo' v' ys) :
  Calls Tryz.prog 95 #[v,v'] w fun r w'=>r=.returned (.bool (eqB xs ys))∧Below w.heap.size w w' :=
 eq_elems_row v v' xs ys w lo lo' hv hv' (fun x cs y ds _ _ W h h'=>eq_elem x y cs ds W lo lo' h h') (fun x cs l n W W' k h=>h.move k (Nat.le_refl _))
theorem eq_net:∀(m m':Nat)(t t':NetT)(cs ds:List Value)(w:World)(lo lo':Nat)(hv:NetIs w lo m t cs)(hv':NetIs w lo' m' t' ds),
  Calls Tryz.prog 94 #[.agg cs.toArray,.agg ds.toArray] w fun r w'=>r=.returned (.bool (eqB t t'))∧Below w.heap.size w w'
 | 0,_,_,_,_,_,_,_,_,h,_=>h.elim
 | _+1,0,_,_,_,_,_,_,_,_,h=>h.elim
 | m+1,m'+1,.mk k e kids,.mk k' e' kids',cs,ds,w,lo,lo',hv,hv'=>by
  obtain ⟨v,u,rfl,ha,hk⟩:=hv
  obtain ⟨v',u',rfl,ha',hk'⟩:=hv'
  rw [eqB_iff (netT_eq k k' e e' kids kids')]
  exact eq_net_step k k' e.op e'.op v v' u u' _ _ ha.one ha'.one hk.one hk'.one w
   (fun W g=>eq_elem e e' _ _ W lo lo' ⟨v,rfl,zap (Keeps.of_below g lo) (Nat.le_refl _) ha⟩ ⟨v',rfl,zap (Keeps.of_below g lo') (Nat.le_refl _) ha'⟩)
   (fun W g=>eq_nets_row m m' u u' kids kids' W lo lo' (zhi (Keeps.of_below g lo) (Nat.le_refl _) (Nat.le_refl _) hk) (zhi (Keeps.of_below g lo') (Nat.le_refl _) (Nat.le_refl _) hk')
    (fun x cs y ds _ _ W h h'=>eq_net m m' x y cs ds W lo lo' h h') (fun x cs l n W W' k h=>NetIs.move k (Nat.le_refl _) _ _ (Nat.le_refl _) _ _ h))
theorem eq_arm:∀(m m':Nat)(t t':ArmT)(cs ds:List Value)(w:World)(lo lo':Nat)(hv:ArmIs w lo m t cs)(hv':ArmIs w lo' m' t' ds),
  Calls Tryz.prog 50 #[.agg cs.toArray,.agg ds.toArray] w fun r w'=>r=.returned (.bool (eqB t t'))∧Below w.heap.size w w'
 | 0,_,_,_,_,_,_,_,_,h,_=>h.elim
 | _+1,0,_,_,_,_,_,_,_,_,h=>h.elim
 | m+1,m'+1,.mk n c kids,.mk n' c' kids',cs,ds,w,lo,lo',hv,hv'=>by
  obtain ⟨ns,v,u,rfl,hn,ha,hk⟩:=hv
  obtain ⟨ns',v',u',rfl,hn',ha',hk'⟩:=hv'
  have q:=hn
  have q':=hn'
  obtain ⟨n0,n1,n2,n3,rfl,o0,o1,o2,o3⟩:=q.cells
  obtain ⟨n0',n1',n2',n3',rfl,o0',o1',o2',o3'⟩:=q'.cells
  rw [eqB_iff (armT_eq n n' c c' kids kids')]
  exact eq_arm_step n0 n0' n1 n1' n2 n2' n3 n3' v v' u u' _ _ _ o0 o0' o1 o1' o2 o2' o3 o3' ha.one ha'.one hk.one hk'.one w
   (fun W g=>eq_net m m' n n' _ _ W lo lo' (NetIs.move (Keeps.of_below g lo) (Nat.le_refl _) _ _ (Nat.le_refl _) _ _ hn) (NetIs.move (Keeps.of_below g lo') (Nat.le_refl _) _ _ (Nat.le_refl _) _ _ hn'))
   (fun W g=>eq_elems v v' c c' W lo lo' (zdt (Keeps.of_below g lo) (Nat.le_refl _) ha) (zdt (Keeps.of_below g lo') (Nat.le_refl _) ha'))
   (fun W g=>zhj m m' u u' kids kids' W lo lo' (zbi (Keeps.of_below g lo) (Nat.le_refl _) (Nat.le_refl _) hk) (zbi (Keeps.of_below g lo') (Nat.le_refl _) (Nat.le_refl _) hk')
    (fun x cs y ds _ _ W h h'=>eq_arm m m' x y cs ds W lo lo' h h') (fun x cs l n W W' k h=>ArmIs.move k (Nat.le_refl _) _ _ (Nat.le_refl _) _ _ h))
theorem eq_arms(m m':Nat)(v v':Value)(xs ys:List ArmT)(w:World)(lo lo':Nat)(hv:ArmsIs w lo m v xs)(hv':ArmsIs w lo' m' v' ys) :
  Calls Tryz.prog 18 #[v,v'] w fun r w'=>r=.returned (.bool (eqB xs ys))∧Below w.heap.size w w' :=
 zhj m m' v v' xs ys w lo lo' hv hv' (fun x cs y ds _ _ W h h'=>eq_arm m m' x y cs ds W lo lo' h h') (fun x cs l n W W' k h=>ArmIs.move k (Nat.le_refl _) _ _ (Nat.le_refl _) _ _ h)
end Go.Proofs.YtllmabgollkigaaGreatDoor
namespace Go.Proofs.YtllmabgollkigaaGreatDoor
open Go.RowKit Go.Shelf
set_option linter.unusedVariables false
def Dep{β:Type}(b:Nat)(J:β→World→Prop):Prop:=∀s W W',Below b W W'→J s W→J s W'
theorem zbq{b l:Nat}{W:World}{o:Obj}(h:W.heap[l]?=some o)(hb:b≤l)(o':Obj):Below b W (W.putObj l o') :=
 (Below.refl b W).grown (grownBy_putObj' W l o') (by have:=(Array.getElem?_eq_some_iff.1 h).1;omega) (fun k e=>by cases e;exact hb)
def SeqN{α:Type}(n:Nat)(P:Program)(g:Nat)(lb:Array Value)(encs:α→Array Value)(Kp Kq:World→World→Prop)(S:List α→Prop)(Nx:List α→α→Prop)(w:World):Prop :=
 ∀(l:Nat)(J Jx:List α→World→Prop)(W:World),Below w.heap.size w W→w.heap.size+2≤W.heap.size→Dep W.heap.size J→Dep W.heap.size Jx →
  (∀pre x W1,J pre W1→Nx pre x→YieldAt Fence.wide (n-1) P l (encs x) W1 fun e W'=>(e=.returned (.bool true)∧Kp W1 W'∧J (pre++[x]) W')∨(e=.returned (.bool false)∧Kq W1 W'∧Jx (pre++[x]) W')) →
  J [] W→CallsIn Fence.wide n P g (#[.func (.yield l) #[] #[]]++lb) W fun e W'=>(∃v,e=.returned v)∧((∃xs,S xs∧J xs W')∨∃pre,Jx pre W')
def postN{α:Type}(B:Nat)(Kp Kq:World→World→Prop)(I:List α→World→Prop)(Ix:Code→List α→World→Prop)(xs:List α)(W:World)(e:Exit)(W':World):Prop :=
 KeepsFrom B W W'∧(match e with|.normal=>Kp W W'∧I xs W'|.ret=>Kq W W'∧Ix .ret xs W'|.exit id=>Kq W W'∧Ix (.exit id) xs W'|.goto t=>Kq W W'∧Ix (.goto t) xs W' | _=>False)
theorem range_n{α:Type}{P:Program}{g:Operand}{ps:Array Tmp}{assign body:Code}{Q:Exit→Act→World→Prop}{a:Act}{w:World}{n:Nat}{gf:Nat}{lb:Array Value}(hg:a.eval g=.func (.func gf) #[] lb)
  (eg:∀args w,(callFunc gf args).run P w=.ok (.enter gf args) w) {encs:α→Array Value} {Kp Kq:World→World→Prop} {S:List α→Prop} {Nx:List α→α→Prop} {w0:World} (hseq:SeqN (n-1) P gf lb encs Kp Kq S Nx w0)
  (hKt:∀{X Y Z:World},Kp X Y→Kp Y Z→Kp X Z) (hKl:∀(W:World)(r:Loop)(o':Obj),W.heap[w.heap.size+1]?=some (.loop r)→Kp W (W.putObj (w.heap.size+1) o')) (hQt:∀{X Y Z:World},Kq X Y→Kq Y Z→Kq X Z) (hQl:∀(W:World)(r:Loop)(o':Obj),W.heap[w.heap.size+1]?=some (.loop r)→Kq W (W.putObj (w.heap.size+1) o')) (hb0:Below w0.heap.size w0 w) (hps:∀x,(encs x).size=ps.size)
  (I:List α→World→Prop) (Ix:Code→List α→World→Prop) (hI:Dep w.heap.size I) (hIx:∀c,Dep w.heap.size (Ix c)) (h0:I [] w) (a₁:α→Act)
  (hassign:∀(l:Nat)(x:α)(W:World)(K:Act→World→Prop),K (a₁ x) W →
   assign.wpIn (Fence.wide.inRound l) (n-1-1) P (Exit.then K (fun _ _ _=>False)) { tmps:=(ps.zip (encs x)).foldl (fun t (p,v)=>t.setIfInBounds p v) a.tmps,defers:=[] } W)
  (hbody:∀(l:Nat)(pre:List α)(x:α)(W:World),I pre W→Nx pre x→body.wpIn (Fence.wide.inRound l) (n-1-1) P (fun e _ W'=>postN w.heap.size Kp Kq I Ix (pre++[x]) W e W') (a₁ x) W)
  (hdone:∀(D:Nat)(xs:List α)(W:World),w.heap.size≤D→S xs→I xs W→W.heap[D]?=some (.deferred (some []))→Q .normal { a with defers:={ target:=.collected D,args:=#[] }::a.defers } W)
  (hstop:∀(D:Nat)(c:Code)(pre:List α)(W:World),w.heap.size≤D→Ix c pre W→W.heap[D]?=some (.deferred (some []))→c.wpIn Fence.wide n P Q { a with defers:={ target:=.collected D,args:=#[] }::a.defers } W) :
  (Code.rangeFunc g ps assign body).wpIn Fence.wide n P Q a w:=by
 refine wpIn_rangeFunc fun fn hfn=>?_
 obtain ⟨R,hR⟩:∃R:LoopState→Option Code→Loop,R=fun st pe=>{ state:=st,pending:=pe,fn,tmps:=a.tmps,params:=ps,assign,body,defers:=w.heap.size }:=⟨_,rfl⟩
 obtain ⟨V,hV⟩:∃V,V=(w.alloc (.deferred (some []))).alloc (.loop (R .ready none)):=⟨_,rfl⟩
 have sV:V.heap.size=w.heap.size+1+1:=by rw [hV];simp
 have dV:V.heap[w.heap.size]?=some (.deferred (some [])):=by rw [hV];exact (rows2 w _ _).1
 have lV:V.heap[w.heap.size+1]?=some (.loop (R .ready none)):=by rw [hV];exact (rows2 w _ _).2
 have iV:I [] V:=by rw [hV];exact hI _ _ _ (((Below.refl _ w).alloc (Nat.le_refl _) _).alloc (by simp) _) h0
 have bV:Below w0.heap.size w0 V:=by rw [hV];exact hb0.trans ((((Below.refl _ w).alloc (Nat.le_refl _) _).alloc (by simp) _).mono hb0.size)
 -- the law's two blocks beside the caller's word
 obtain ⟨Bk,hBk⟩:∃Bk:Loop→World→Prop,Bk=fun r W=>W.heap[w.heap.size+1]?=some (.loop r)∧W.heap[w.heap.size]?=some (.deferred (some [])):=⟨_,rfl⟩
 have depB:∀(r:Loop)(X Y:World),Below V.heap.size X Y→Bk r X→Bk r Y:=by
  intro r X Y g h
  rw [hBk] at h ⊢
  exact ⟨(g.block _ (by omega)).trans h.1,(g.block _ (by omega)).trans h.2⟩
 have putL:∀{r:Loop} {X:World} (o':Obj),X.heap[w.heap.size+1]?=some (.loop r)→Below w.heap.size X (X.putObj (w.heap.size+1) o'):=fun o' h=>zbq h (by omega) o'
 have turn:∀{r:Loop} (r':Loop) {X:World},Bk r X→Bk r' (X.putObj (w.heap.size+1) (.loop r')):=by
  intro r r' X h
  rw [hBk] at h ⊢
  exact ⟨World.putObj_heap_same (Array.getElem?_eq_some_iff.1 h.1).1,(World.putObj_heap_other (by omega)).trans h.2⟩
 have atL:∀{r:Loop} {X:World},Bk r X→X.heap[w.heap.size+1]?=some (.loop r):=fun h=>by rw [hBk] at h;exact h.1
 have atD:∀{r:Loop} {X:World},Bk r X→X.heap[w.heap.size]?=some (.deferred (some [])):=fun h=>by rw [hBk] at h;exact h.2
 have keepB:∀{r:Loop} {X Y:World},Bk r X→KeepsFrom w.heap.size X Y→Bk r Y:=fun h k=>by
  rw [hBk] at h ⊢
  exact ⟨k.same _ _ (by omega) h.1 rfl,k.same _ _ (Nat.le_refl _) h.2 rfl⟩
 have bkV:Bk (R .ready none) V:=by rw [hBk];exact ⟨lV,dV⟩
 refine ⟨w.heap.size+1,[{ target:=.collected w.heap.size,args:=#[] }],V,{ target:=.fn (.func gf) lb,args:=#[.func (.yield (w.heap.size+1)) #[] #[]] },V,gf,#[.func (.yield (w.heap.size+1)) #[] #[]]++lb,V,?_,?_,fun f' hf'=>trivial,?_,fun h=>(by cases h),?_⟩
 ·rw [hV,hR];exact run_enterLoop_outer _ _ _ _ _
 ·simp only [resolve,hg];simp [go_sem]
 ·simp [invoke,go_sem,eg]
 have hc:=hseq (w.heap.size+1) (fun pre W=>I pre W∧Bk (R .ready none) W) (fun pre W=>∃c,Ix c pre W∧Bk (R .done (some c)) W) V bV (by have:=hb0.size;omega)
  (fun s X Y g hs=>⟨hI s X Y (g.mono (by omega)) hs.1,depB _ X Y g hs.2⟩) (fun s X Y g hs=>by obtain ⟨c,k1,k2⟩:=hs;exact ⟨c,hIx c s X Y (g.mono (by omega)) k1,depB _ X Y g k2⟩) ?_ ⟨iV,bkV⟩
 ·refine hc.mono ?_
  rintro e W ⟨⟨v,rfl⟩,⟨xs,hS,hi,hb⟩|⟨pre,c,hi,hb⟩⟩
  ·have he:=run_endLoop (P:=P) (atL hb) (by rw [hR];simp)
   have hp:(R .ready none).pending=none:=by rw [hR]
   rw [hp] at he
   exact ⟨none,_,he,hdone _ xs _ (Nat.le_refl _) hS (hI _ _ _ (putL _ (atL hb)) hi) (atD (turn _ hb))⟩
  ·have he:=run_endLoop (P:=P) (atL hb) (by rw [hR];simp)
   have hp:(R .done (some c)).pending=some c:=by rw [hR]
   rw [hp] at he
   exact ⟨some c,_,he,hstop _ c pre _ (Nat.le_refl _) (hIx c _ _ _ (putL _ (atL hb)) hi) (atD (turn _ hb))⟩
 ·rintro pre x W ⟨hi,hb⟩ hlen
  have hy:=run_yield (P:=P) (args:=encs x) (atL hb) (by rw [hR];exact hps x)
  have hbr:=run_beginRound (P:=P) (atL hb) (by rw [hR])
  obtain ⟨rb,hrb⟩:∃rb:Loop,rb={ R .ready none with state:=.busy }:=⟨_,rfl⟩
  rw [←hrb] at hbr
  have hbb:=turn rb hb
  have hib:I pre (W.putObj (w.heap.size+1) (.loop rb)):=hI _ _ _ (putL _ (atL hb)) hi
  have e0:(R .ready none).fn=fn∧(R .ready none).assign=assign∧(R .ready none).body=body∧(R .ready none).params=ps∧(R .ready none).tmps=a.tmps:=by rw [hR];exact ⟨rfl,rfl,rfl,rfl,rfl⟩
  rw [e0.1,e0.2.1,e0.2.2.1,e0.2.2.2.1,e0.2.2.2.2] at hy
  refine ⟨fn,_,assign,body,hy,roundIn_of_wpIn hfn (hassign _ x W _ ⟨_,hbr,?_⟩)⟩
  refine wpIn_mono (hbody _ pre x _ hib hlen) ?_
  rintro e a3 W3 ⟨kf,he⟩
  have hb3:=keepB hbb kf
  have run:∀jump:Option Code,(Instr.endRound (w.heap.size+1) jump).run P W3=.ok (.bool jump.isNone) (W3.putObj (w.heap.size+1) (.loop (R (if jump.isNone then .ready else .done) jump))):=fun jump=>by
   have:=run_endRound (P:=P) jump (atL hb3)
   rw [hrb] at this
   rw [this,hR]
  cases e with
  | normal=>exact ⟨_,_,run none,.inl ⟨rfl,hKt (hKt (hKl _ _ _ (atL hb)) he.1) (hKl _ _ _ (atL hb3)),hI _ _ _ (putL _ (atL hb3)) he.2,turn _ hb3⟩⟩
  | ret=>exact ⟨_,_,run (some .ret),.inr ⟨rfl,hQt (hQt (hQl _ _ _ (atL hb)) he.1) (hQl _ _ _ (atL hb3)),_,hIx _ _ _ _ (putL _ (atL hb3)) he.2,turn _ hb3⟩⟩
  | exit id=>exact ⟨_,_,run (some (.exit id)),.inr ⟨rfl,hQt (hQt (hQl _ _ _ (atL hb)) he.1) (hQl _ _ _ (atL hb3)),_,hIx _ _ _ _ (putL _ (atL hb3)) he.2,turn _ hb3⟩⟩
  | goto t=>exact ⟨_,_,run (some (.goto t)),.inr ⟨rfl,hQt (hQt (hQl _ _ _ (atL hb)) he.1) (hQl _ _ _ (atL hb3)),_,hIx _ _ _ _ (putL _ (atL hb3)) he.2,turn _ hb3⟩⟩
  | panic ch=>exact he.elim
  | outgrown=>exact he.elim
attribute [local go_sem] Oper.semAt_some
theorem zdb{m:Nat}(m':Nat){P:Program}{l:Nat}{args:Array Value}{W:World}{R:Ending→World→Prop}(h:YieldAt Fence.wide m P l args W R):YieldAt Fence.wide m' P l args W R:=by
 obtain ⟨fn,tmps,assign,body,hy,hR⟩:=h
 exact ⟨fn,tmps,assign,body,hy,hR.1,fun c cs _=>hR.2 c cs (fun d h=>by cases h)⟩
abbrev PartT:=NetT ⊕ (ArmT×Bool)
def pNet:Nat→NetT→List PartT
 | 0,_=>[]
 | m+1,.mk k e kids=>.inl (.mk k e kids)::kids.flatMap (pNet m)
def zce:NetT→Bool
 | .mk k e kids=>decide (k=0)&&decide (e.op=0)&&e.args.isEmpty&&kids.isEmpty
def pArm:Nat→Bool→ArmT→List PartT
 | 0,_,_=>[]
 | m+1,r,.mk net coils kids=>(if zce net then [] else pNet m net)++.inr (.mk net coils kids,r)::kids.flatMap (pArm m false)
def POk(w:World)(x:Value×PartT):Prop :=
 match x.2 with
 | .inl t=>∃m cs,NetIs w 0 m t cs∧wN m t≤1048576∧x.1=.iface 186 (.agg cs.toArray)
 | .inr a=>∃m cs,ArmIs w 0 m a.1 cs∧wA m a.1≤1048576∧x.1=.iface 157 (.agg (cs++[Value.bool a.2]).toArray)
abbrev PartW(w:World):={ x:Value×PartT // POk w x }
def zaf{w:World}(ys:List (PartW w)):List PartT:=ys.map (fun y=>y.1.2)
def Fit{w:World}(L:List PartT)(pre:List (PartW w))(ps:List PartT):Prop:=(zaf pre++ps) <+: L
theorem Fit.go{w:World}{L:List PartT}{pre:List (PartW w)}{A:List PartT}(h:Fit L pre A)(ys:List (PartW w))(B Z:List PartT)(e:A=zaf ys++(B++Z)):Fit L (pre++ys) B :=
 List.IsPrefix.trans ⟨Z,by rw [e];simp [zaf]⟩ h
theorem flat_at{α β:Type}(f:α→List β)(xs:List α)(c:Nat)(x:α)(h:xs[c]?=some x):xs.flatMap f=(xs.take c).flatMap f++(f x++(xs.drop (c+1)).flatMap f):=by
 have h1:xs=xs.take c++x::xs.drop (c+1):=by
  obtain ⟨hc,rfl⟩:=List.getElem?_eq_some_iff.1 h
  rw [←List.drop_eq_getElem_cons hc,List.take_append_drop]
 conv=>lhs;rw [h1]
 simp
def KC(n₀ B:Nat)(W W':World):Prop:=Below n₀ W W'∧∀b C t f,b≠B→W.heap[b]?=some (.cells C t f)→W'.heap[b]?=some (.cells C t f)
theorem KC.refl(n₀ B:Nat)(W:World):KC n₀ B W W:=⟨Below.refl _ _,fun _ _ _ _ _ h=>h⟩
theorem KC.trans{n₀ B:Nat}{W W' W'':World}(h:KC n₀ B W W')(h':KC n₀ B W' W''):KC n₀ B W W'':=⟨h.1.trans h'.1,fun b C t f hb hc=>h'.2 b C t f hb (h.2 b C t f hb hc)⟩
theorem KC.of_below{n₀ B:Nat}{W W':World}(g:Below W.heap.size W W')(hn:n₀≤W.heap.size):KC n₀ B W W':=⟨g.mono hn,fun b C t f _ h=>(g.block _ (Array.getElem?_eq_some_iff.1 h).1).trans h⟩
theorem KC.alloc{n₀ B:Nat}{W:World}(hn:n₀≤W.heap.size)(o:Obj):KC n₀ B W (W.alloc o):=KC.of_below ((Below.refl _ _).alloc (Nat.le_refl _) _) hn
theorem KC.row{n₀ B:Nat}{W W':World}(h:KC n₀ B W W'){b:Nat}{C:Array Value}{t:TypeId}(hb:b≠B)(hr:W.heap[b]?=some (.cells C t (0,0))):W'.heap[b]?=some (.cells C t (0,0)):=h.2 _ _ _ _ hb hr
theorem KC.cell{n₀ B:Nat}{W W':World}(h:KC n₀ B W W'){b o:Nat}{v:Value}(hb:b≠B)(hc:W.cell? ⟨b,o,none⟩=some v):W'.cell? ⟨b,o,none⟩=some v:=by
 unfold World.cell? at hc ⊢
 cases hh:W.heap[b]? with
 | none=>simp [hh] at hc
 | some ob =>
  cases ob with
  | cells C t f=>rw [h.2 b C t f hb hh];rw [hh] at hc;exact hc
  | _=>simp [hh] at hc
def RowB{α:Type}(W:World)(B z:Nat)(R:α→List Value→Prop)(v:Value)(xs:List α):Prop :=
 ∃(a:Option Addr)(cap:Nat),v=.slice a xs.length cap∧xs.length≤9223372036854775807∧∀j x,xs[j]?=some x→∃b o cs,a=some ⟨b,o,none⟩∧b≠B∧cs.length=z∧W.rangeAt b (o+j*z) cs∧R x cs
theorem RowB.keep{α:Type}{n₀:Nat}{W W':World}{B z:Nat}{R:α→List Value→Prop}{v:Value}{xs:List α}(h:RowB W B z R v xs)(k:KC n₀ B W W'):RowB W' B z R v xs:=by
 obtain ⟨a,cap,hv,hl,hx⟩:=h
 refine ⟨a,cap,hv,hl,fun j x hj=>?_⟩
 obtain ⟨b,o,cs,ha,hb,hc,hr,hRx⟩:=hx j x hj
 exact ⟨b,o,cs,ha,hb,hc,fun i c hi=>k.cell hb (hr i c hi),hRx⟩
theorem RowIs.rowB{α:Type}{w W:World}{z:Nat}{R:α→List Value→Prop}{v:Value}{xs:List α}(h:RowIs w 0 z R v xs)(hz:0<z)(g:Below w.heap.size w W){B:Nat}(hB:w.heap.size≤B):RowB W B z R v xs:=by
 obtain ⟨a,cap,hv,hl,hx⟩:=h
 refine ⟨a,cap,hv,hl,fun j x hj=>?_⟩
 obtain ⟨b,o,cs,ha,hb,hc,hr,hRx⟩:=hx j x hj
 have hlt:b<w.heap.size:=by
  have:=hr 0 _ (List.getElem?_eq_getElem (by omega))
  exact World.block_lt_of_cell? _ _ this
 exact ⟨b,o,cs,ha,by omega,hc,fun i c hi=>(Keeps.of_below g 0) _ _ _ (Nat.zero_le _) (hr i c hi),hRx⟩
def YB(W:World)(By l:Nat):Prop:=W.heap[By]?=some (.cells #[.func (.yield l) #[] #[]] 153 (0,0))
def NB(W:World)(By Bn:Nat):Prop:=W.heap[Bn]?=some (.cells #[.func (.func 125) #[] #[.pointer (some ⟨By,0,none⟩),.pointer (some ⟨Bn,0,none⟩)]] 185 (0,0))
set_option maxRecDepth 100000 in
theorem nets_step(w:World)(B l By Bn:Nat)(L:List PartT)(hBw:w.heap.size≤B)(hBy:By≠B)(hBn:Bn≠B)(J Jx:List (PartW w)→World→Prop)(hJa:∀pre W o,J pre W→J pre (W.alloc o))
  (hY:∀pre (x:PartW w) W,J pre W→Fit L pre [x.1.2]→YieldAt Fence.wide 0 Tryz.prog l #[x.1.1] W fun e W'=>(e=.returned (.bool true)∧J (pre++[x]) W'∧KC w.heap.size B W W')∨(e=.returned (.bool false)∧Jx (pre++[x]) W'))
  (R:NetT→List Value→Prop) (PK:NetT→List PartT) (n:Nat) (v:Value) (kids:List NetT) (pre:List (PartW w)) (W:World) (hb:Below w.heap.size w W) (hBW:B<W.heap.size) (hyb:YB W By l) (hnb:NB W By Bn) (hr:RowB W B 4 R v kids) (hJ:J pre W) (hN:Fit L pre (kids.flatMap (fun t=>.inl t::PK t)))
  (HR:Hid (∀t cs,t∈kids→R t cs→∃k op a1 l1 c1 a2 l2 c2,cs=[.int .i64 k,.int .i64 op,.slice a1 l1 c1,.slice a2 l2 c2]∧POk w (.iface 186 (.agg cs.toArray),.inl t) ∧
   ∀n pre W,Below w.heap.size w W→B<W.heap.size→YB W By l→NB W By Bn→J pre W→Fit L pre (PK t) →
    CallsIn Fence.wide n Tryz.prog 125 #[.slice a2 l2 c2,.pointer (some ⟨By,0,none⟩),.pointer (some ⟨Bn,0,none⟩)] W fun e W' =>
     (e=.returned (.bool true)∧(∃ys,zaf ys=PK t∧J (pre++ys) W')∧KC w.heap.size B W W')∨(e=.returned (.bool false)∧∃q,Jx q W'))) :
   CallsIn Fence.wide n Tryz.prog 125 #[v,.pointer (some ⟨By,0,none⟩),.pointer (some ⟨Bn,0,none⟩)] W fun e W' =>
    (e=.returned (.bool true)∧(∃ys,zaf ys=kids.flatMap (fun t=>.inl t::PK t)∧J (pre++ys) W')∧KC w.heap.size B W W')∨(e=.returned (.bool false)∧∃q,Jx q W'):=by
 have hr0:=hr
 obtain ⟨a,cap,rfl,hl,_⟩:=hr
 have HRow:Hid (RowB W B 4 R (.slice a kids.length cap) kids):=hr0
 have HJ0:Hid (J pre W):=hJ
 have HYb:Hid (YB W By l∧NB W By Bn∧Below w.heap.size w W∧B<W.heap.size):=⟨hyb,hnb,hb,hBW⟩
 have HN:Hid (Fit L pre (kids.flatMap (fun t=>.inl t::PK t))):=hN
 have HJa:Hid (∀pre W o,J pre W→J pre (W.alloc o)):=hJa
 have HY:Hid (∀pre (x:PartW w) W,J pre W→Fit L pre [x.1.2]→YieldAt Fence.wide 0 Tryz.prog l #[x.1.1] W fun e W'=>(e=.returned (.bool true)∧J (pre++[x]) W'∧KC w.heap.size B W W')∨(e=.returned (.bool false)∧Jx (pre++[x]) W')):=hY
 obtain ⟨len,HL⟩:∃len,Hid (len=kids.length):=⟨_,rfl⟩
 rw [←HL.out] at hl HRow ⊢
 have hdd:∀k:Nat,(Fence.wide.depth.isSome=true→1≤k):=fun k h=>by cases h
 clear hr0 hJ hyb hnb hb hBW hN hJa hY
 refine callsIn_of_wp Tryz.func125 rfl trivial ?_ rfl
 simp only [Tryz.ntmps125,List.size_toArray,List.length_cons,List.length_nil,Nat.reduceAdd,Nat.reduceSub,Array.replicate_succ,Array.replicate_zero,List.push_toArray,List.append_toArray,List.nil_append,List.cons_append]
 gi_wp2
 gi_loopw [9] (fun i wr=>∃(c:Nat)(ys:List (PartW w)),i=.int .i64 c∧c≤len∧Hid (zaf ys=(kids.take c).flatMap (fun t=>.inl t::PK t))∧Hid (J (pre++ys) wr)∧Hid (KC w.heap.size B W wr))
  (fun i _=>len-(RowKit.intOf i).toNat)
 case atStart=>exact ⟨0,[],rfl,Nat.zero_le _,rfl,(by simpa using HJ0.out:J (pre++[]) W),KC.refl _ _ _⟩
 case round =>
  obtain ⟨c,ys,rfl,hc,HG,HJ,HK⟩:=hrel
  by_cases hlt:c<len
  ·have i1:(c:Int)<(len:Int):=by omega
   have i3:(0:Int)≤(c:Int):=by omega
   obtain ⟨t,ht⟩:∃t,kids[c]?=some t:=⟨_,List.getElem?_eq_getElem (by have:=HL.out;omega)⟩
   obtain ⟨a',cap',hv',hl',hx⟩:=HRow.out.keep HK.out
   simp only [Value.slice.injEq] at hv'
   obtain ⟨ea,ea1,ea2⟩:=hv'
   subst ea
   clear ea1 ea2
   obtain ⟨b,o,cs,rfl,hbB,hcs,hrg,hRt⟩:=hx c t ht
   obtain ⟨k,op,a1,l1,c1,a2,l2,c2,rfl,hpok,hrec⟩:=HR.out t cs (List.mem_of_getElem? ht) hRt
   have x0:wr.cell? ⟨b,o+c*4,none⟩=some (.int .i64 k):=hrg 0 _ rfl
   have x1:wr.cell? ⟨b,o+c*4+1,none⟩=some (.int .i64 op):=hrg 1 _ rfl
   have x2:wr.cell? ⟨b,o+c*4+2,none⟩=some (.slice a1 l1 c1):=hrg 2 _ rfl
   have x3:wr.cell? ⟨b,o+c*4+3,none⟩=some (.slice a2 l2 c2):=hrg 3 _ rfl
   obtain ⟨W1,hW1⟩:∃W1,W1=wr.alloc (.cells #[.int .i64 k,.int .i64 op,.slice a1 l1 c1,.slice a2 l2 c2] 53):=⟨_,rfl⟩
   have hgs:(kids.take (c+1)).flatMap (fun t=>Sum.inl t::PK t)=(kids.take c).flatMap (fun t=>.inl t::PK t)++.inl t::PK t:=by
    rw [List.take_add_one,ht];simp
   have hflat:kids.flatMap (fun t=>Sum.inl (β:=ArmT×Bool) t::PK t)=zaf ys++(Sum.inl t::(PK t++(kids.drop (c+1)).flatMap (fun t=>Sum.inl t::PK t))):=by
    rw [HG.out,flat_at _ _ _ _ ht];rfl
   have HF:Hid (kids.flatMap (fun t=>Sum.inl (β:=ArmT×Bool) t::PK t)=zaf ys++(Sum.inl t::(PK t++(kids.drop (c+1)).flatMap (fun t=>Sum.inl t::PK t)))):=hflat
   clear hflat
   have hKW1:KC w.heap.size B W W1:=by rw [hW1];exact HK.out.trans (KC.alloc (Nat.le_trans HYb.out.2.2.1.size HK.out.1.size) _)
   have hJ1:J (pre++ys) W1:=by rw [hW1];exact HJa.out _ _ _ HJ.out
   have yb1:W1.heap[By]?=_:=hKW1.row hBy HYb.out.1
   have cy1:W1.cell? ⟨By,0,none⟩=some (.func (.yield l) #[] #[]):=(cell_of_row _ _ _ _ _ _ yb1).trans rfl
   obtain ⟨fn,tmps,assign,body,hy,hR⟩:=zdb (n-1) (HY.out (pre++ys) ⟨(.iface 186 (.agg #[.int .i64 k,.int .i64 op,.slice a1 l1 c1,.slice a2 l2 c2]),.inl t),hpok⟩ W1 hJ1 (HN.out.go ys _ _ HF.out))
   rw [hW1] at hy hR cy1
   gi_wp2
   refine ⟨hdd _,?_⟩
   refine hR.mono ?_
   rintro e W3 (⟨rfl,hJ3,hk3⟩|⟨rfl,hx3⟩)
   rotate_left
   ·clear hy hR yb1 cy1 hJ1 hKW1 hW1 x0 x1 x2 x3 hrg hx hrec
    gi_wp2
    refine ⟨fun _ h=>(by cases h),?_⟩
    gi_wp2
    go_ret
    exact .inr ⟨rfl,_,hx3⟩
   rw [←hW1] at hk3
   have hK3:KC w.heap.size B W W3:=hKW1.trans hk3
   have yb3:YB W3 By l:=hK3.row hBy HYb.out.1
   have nb3:NB W3 By Bn:=hK3.row hBn HYb.out.2.1
   have szw:B<wr.heap.size:=Nat.lt_of_lt_of_le HYb.out.2.2.2 HK.out.1.size
   have cn3:W3.cell? ⟨Bn,0,none⟩=some (.func (.func 125) #[] #[.pointer (some ⟨By,0,none⟩),.pointer (some ⟨Bn,0,none⟩)]):=(cell_of_row _ _ _ _ _ _ nb3).trans rfl
   have bx3:W3.heap[wr.heap.size]?=some (.cells #[.int .i64 k,.int .i64 op,.slice a1 l1 c1,.slice a2 l2 c2] 53 (0,0)):=hk3.row (by omega) (by rw [hW1];exact heap_alloc_last wr _)
   have c33:W3.cell? ⟨wr.heap.size,3,none⟩=some (.slice a2 l2 c2):=(cell_of_row _ _ _ _ _ _ bx3).trans rfl
   have hrc:=hrec (n-1) _ W3 (HYb.out.2.2.1.trans hK3.1) (Nat.lt_of_lt_of_le HYb.out.2.2.2 hK3.1.size) yb3 nb3 hJ3 (by rw [List.append_assoc];exact HN.out.go _ _ ((kids.drop (c+1)).flatMap (fun t=>Sum.inl t::PK t)) (by rw [HF.out];simp [zaf]))
   have HK3:Hid (KC w.heap.size B W W3):=hK3
   clear hy hR hk3 yb3 nb3 bx3 hK3 hJ3 hrec yb1 cy1 hJ1 hKW1 hW1 x0 x1 x2 x3 hrg hx
   gi_wp2
   refine ⟨trivial,hdd _,?_⟩
   refine hrc.mono ?_
   rintro e W4 (⟨rfl,⟨zs,hzs,hJ4⟩,hk4⟩|⟨rfl,qx,hx4⟩)
   rotate_left
   ·clear hrc
    gi_wp2
    go_ret
    exact .inr ⟨rfl,qx,hx4⟩
   clear hrc
   gi_wp2
   go_roundw
   case rel =>
    refine ⟨c+1,ys++(⟨(.iface 186 (.agg #[.int .i64 k,.int .i64 op,.slice a1 l1 c1,.slice a2 l2 c2]),.inl t),hpok⟩:PartW w)::zs,by simp,by omega,?_,?_,HK3.out.trans hk4⟩
    ·show zaf _=_
     rw [hgs,←HG.out,←hzs];simp [zaf]
    ·show J _ W4
     simpa [List.append_assoc] using hJ4
   case measure=>simp [RowKit.intOf];omega
  ·have i1:¬((c:Int)<(len:Int)):=by omega
   gi_wp2
   go_ret
   refine .inl ⟨rfl,⟨ys,?_,HJ.out⟩,HK.out⟩
   rw [HG.out,List.take_of_length_le (by have:=HL.out;omega)]
theorem zim{α:Type}(f:α→Nat)(xs:List α)(x:α)(h:x∈xs){k:Nat}(hk:(xs.map f).sum≤k):f x≤k:=Nat.le_trans (zdu f xs x h) hk
theorem nets_in(w:World)(B l By Bn:Nat)(L:List PartT)(hBw:w.heap.size≤B)(hBy:By≠B)(hBn:Bn≠B)(J Jx:List (PartW w)→World→Prop)(hJa:∀pre W o,J pre W→J pre (W.alloc o))
  (hY:∀pre (x:PartW w) W,J pre W→Fit L pre [x.1.2]→YieldAt Fence.wide 0 Tryz.prog l #[x.1.1] W fun e W'=>(e=.returned (.bool true)∧J (pre++[x]) W'∧KC w.heap.size B W W')∨(e=.returned (.bool false)∧Jx (pre++[x]) W')) :
  ∀(m n:Nat)(v:Value)(kids:List NetT)(pre:List (PartW w))(W:World),Below w.heap.size w W→B<W.heap.size→YB W By l→NB W By Bn→RowB W B 4 (NetIs w 0 m) v kids→(kids.map (wN m)).sum≤1048576→J pre W→Fit L pre (kids.flatMap (pNet m)) →
   CallsIn Fence.wide n Tryz.prog 125 #[v,.pointer (some ⟨By,0,none⟩),.pointer (some ⟨Bn,0,none⟩)] W fun e W' =>
    (e=.returned (.bool true)∧(∃ys,zaf ys=kids.flatMap (pNet m)∧J (pre++ys) W')∧KC w.heap.size B W W')∨(e=.returned (.bool false)∧∃q,Jx q W'):=by
 intro m
 induction m with
 | zero =>
  intro n v kids pre W hb hBW hyb hnb hr hw hJ hN
  have hk:kids=[]:=by
   obtain ⟨a,cap,rfl,hl,hx⟩:=hr
   cases kids with
   | nil=>rfl
   | cons k r=>obtain ⟨_,_,_,_,_,_,_,h⟩:=hx 0 k rfl;exact h.elim
  subst hk
  exact nets_step w B l By Bn L hBw hBy hBn J Jx hJa hY (NetIs w 0 0) (fun _=>[]) n v [] pre W hb hBW hyb hnb hr hJ hN (fun t cs h=>by simp at h)
 | succ m ih =>
  intro n v kids pre W hb hBW hyb hnb hr hw hJ hN
  have e:kids.flatMap (pNet (m+1))=kids.flatMap (fun t=>Sum.inl t::(match t with|.mk k e ks=>ks.flatMap (pNet m))):=by
   congr 1;funext t;cases t;rfl
  rw [e] at hN ⊢
  refine nets_step w B l By Bn L hBw hBy hBn J Jx hJa hY (NetIs w 0 (m+1)) _ n v kids pre W hb hBW hyb hnb hr hJ hN ?_
  intro t cs ht hR
  have hwt:wN (m+1) t≤1048576:=zim _ _ _ ht hw
  cases t with
  | mk k e ks =>
   have hR':=hR
   obtain ⟨v1,v2,rfl,ha,hk⟩:=hR
   obtain ⟨a1,c1,rfl,_,_⟩:=id ha
   obtain ⟨a2,c2,rfl,_,_⟩:=id hk
   refine ⟨k,e.op,a1,_,c1,a2,_,c2,rfl,⟨m+1,_,hR',hwt,rfl⟩,?_⟩
   intro n' pre' W' hb' hBW' hyb' hnb' hJ' hN'
   simp only [wN] at hwt
   exact ih n' _ ks pre' W' hb' hBW' hyb' hnb' (RowIs.rowB hk (by omega) hb' hBw) (by omega) hJ' hN'
theorem kc_dep{β:Type}{n₀ B B1:Nat}{W0:World}(hn:n₀≤B1)(hW:W0.heap.size≤B1):Dep B1 (fun (_:β) W=>KC n₀ B W0 W):=fun s W W' g hs =>
 ⟨hs.1.trans (g.mono hn),fun b C t f hb hc=>(g.block b (by have:=(Array.getElem?_eq_some_iff.1 hc).1;omega)).trans (hs.2 b C t f hb hc)⟩
theorem kc_b{n₀ B:Nat}{w:World}(hn:n₀≤w.heap.size)(W:World)(l:Nat)(o o':Obj)(hl:w.heap.size≤l)(h:W.heap[l]?=some o)(hc:o.isCells=false)(hw:o.isWalk=false):KC n₀ B W (W.putObj l o') :=
 ⟨belowK_b hn W l o o' hl h hc hw,fun b C t f _ hb=>by
  have hne:b≠l:=fun e=>by subst e;rw [h] at hb;cases hb;cases hc
  rw [World.putObj_heap_other hne];exact hb⟩
theorem nets1_in(w:World)(B Bx l m:Nat)(L:List PartT)(hBw:w.heap.size≤B)(J Jx:List (PartW w)→World→Prop)(hJg:∀pre W W',Below W.heap.size W W'→J pre W→J pre W')
  (n:Nat) (hY:∀pre (x:PartW w) W,J pre W→Fit L pre [x.1.2]→YieldAt Fence.wide (n-1) Tryz.prog l #[x.1.1] W fun e W'=>(e=.returned (.bool true)∧J (pre++[x]) W'∧KC w.heap.size B W W')∨(e=.returned (.bool false)∧Jx (pre++[x]) W'))
  (v:Value) (kids:List NetT) (W:World) (hb:Below w.heap.size w W) (hBW:B<W.heap.size) (hc:W.cell? ⟨Bx,0,none⟩=some v) (hr:RowB W B 4 (NetIs w 0 m) v kids) (hw:(kids.map (wN m)).sum≤1048576) (hJ:J [] W) (hN:Fit (w:=w) L [] (kids.flatMap (pNet m))) :
   CallsIn Fence.wide n Tryz.prog 124 #[.func (.yield l) #[] #[],.pointer (some ⟨Bx,0,none⟩)] W fun e W' =>
    (∃v,e=.returned v)∧((∃ys,zaf ys=kids.flatMap (pNet m)∧J ys W')∨(∃q,Jx q W')):=by
 have hdd:∀k:Nat,(Fence.wide.depth.isSome=true→1≤k):=fun k h=>by cases h
 have hmf:∀(fn:Fn)(first cap:Array Value)(w:World),(Instr.makeFunc fn first cap).run Tryz.prog w=.ok (.func fn first cap) w:=fun _ _ _ _=>rfl
 have stf:∀(fn:Fn)(first cap:Array Value)(w:World)(a:Addr)(m:Mode),(store a (.func fn first cap) m).run Tryz.prog w=stored Tryz.prog w a (.func fn first cap) m:=fun _ _ _ w a m=>run_store Tryz.prog w a _ m rfl
 have hr0:=hr
 obtain ⟨a,cap,rfl,_,_⟩:=hr0
 have lx:Bx<W.heap.size:=World.block_lt_of_cell? _ _ hc
 obtain ⟨W1,hW1⟩:∃W1,W1=((W.alloc (.cells #[.func (.yield l) #[] #[]] 153)).alloc (.cells #[.func (.func 125) #[] #[.pointer (some ⟨W.heap.size,0,none⟩),.pointer (some ⟨W.heap.size+1,0,none⟩)]] 185)):=⟨_,rfl⟩
 have g1:Below W.heap.size W W1:=by rw [hW1];exact ((Below.refl _ _).alloc (Nat.le_refl _) _).alloc (by simp) _
 have hk:=rows2 W (.cells #[.func (.yield l) #[] #[]] 153) (.cells #[.func (.func 125) #[] #[.pointer (some ⟨W.heap.size,0,none⟩),.pointer (some ⟨W.heap.size+1,0,none⟩)]] 185)
 rw [←hW1] at hk
 have hca:=nets_in w B l W.heap.size (W.heap.size+1) L hBw (by omega) (by omega) J Jx (fun pre W o h=>hJg pre W _ ((Below.refl _ _).alloc (Nat.le_refl _) _) h) (fun pre x W h hl=>zdb 0 (hY pre x W h hl)) m (n-1) _ kids [] W1 (hb.trans (g1.mono hb.size)) (Nat.lt_of_lt_of_le hBW g1.size) hk.1 hk.2 (hr.keep (KC.of_below (n₀:=w.heap.size) g1 hb.size)) hw (hJg _ _ _ g1 hJ) hN
 have cx:W1.cell? ⟨Bx,0,none⟩=some (.slice a kids.length cap):=(Keeps.of_below g1 0) _ _ _ (Nat.zero_le _) hc
 rw [hW1] at hca cx
 clear hk g1 hW1 hY hJg
 refine callsIn_of_wp Tryz.func124 rfl trivial ?_ rfl
 simp only [Tryz.ntmps124,List.size_toArray,List.length_cons,List.length_nil,Nat.reduceAdd,Nat.reduceSub,Array.replicate_succ,Array.replicate_zero,List.push_toArray,List.append_toArray,List.nil_append,List.cons_append]
 gi_wp2
 refine ⟨trivial,hdd _,?_⟩
 refine hca.mono ?_
 rintro e W3 (⟨rfl,⟨ys,hys,hJ3⟩,_⟩|⟨rfl,q,hx⟩)
 ·gi_wp2
  go_end0
  exact ⟨⟨_,rfl⟩,.inl ⟨ys,hys,by simpa using hJ3⟩⟩
 ·gi_wp2
  go_end0
  exact ⟨⟨_,rfl⟩,.inr ⟨q,hx⟩⟩
theorem nets_call(a:Option Addr)(l c:Nat)(w:World):Calls Tryz.prog 91 #[.slice a l c] w fun e w'=>e=.returned (.func (.func 124) #[] #[.pointer (some ⟨w.heap.size,0,none⟩)])∧w'=w.alloc (.cells #[.slice a l c] 51):=by
 have hmf:∀(fn:Fn)(first cap:Array Value)(w:World),(Instr.makeFunc fn first cap).run Tryz.prog w=.ok (.func fn first cap) w:=fun _ _ _ _=>rfl
 go_enter Tryz.func91,Tryz.ntmps91
 go_wp2
 go_ret
 exact ⟨rfl,rfl⟩
theorem nothing_i(op:Int)(a:Option Addr)(l c:Nat)(w:World)(hl:l≤9223372036854775807) :
  Calls Tryz.prog 126 #[.agg #[.int .i64 op,.slice a l c]] w fun e w'=>e=.returned (.bool (decide (op=0)&&decide (l=0)))∧Below w.heap.size w w':=by
 have b0:∀A,Below w.heap.size w (w.alloc A):=fun A=>(Below.refl _ _).alloc (Nat.le_refl _) _
 by_cases h1:op=0
 ·subst h1
  by_cases h2:l=0
  ·subst h2
   go_enter Tryz.func126,Tryz.ntmps126
   go_wp2
   go_ret
   exact ⟨by simp,b0 _⟩
  ·have e1:((l:Int)==0)=false:=by simp;omega
   go_enter Tryz.func126,Tryz.ntmps126
   go_wp2
   go_ret
   exact ⟨by simp [h2],b0 _⟩
 ·have e1:(op==0)=false:=by simp [h1]
  go_enter Tryz.func126,Tryz.ntmps126
  go_wp2
  go_ret
  exact ⟨by simp [h1],b0 _⟩
theorem none_i(k op:Int)(a1:Option Addr)(l1 c1:Nat)(a2:Option Addr)(l2 c2:Nat)(w:World)(h1:l1≤9223372036854775807)(h2:l2≤9223372036854775807) :
  Calls Tryz.prog 93 #[.agg #[.int .i64 k,.int .i64 op,.slice a1 l1 c1,.slice a2 l2 c2]] w fun e w'=>e=.returned (.bool (decide (k=0)&&decide (op=0)&&decide (l1=0)&&decide (l2=0)))∧Below w.heap.size w w':=by
 have HN:Hid (∀W,Calls Tryz.prog 126 #[.agg #[.int .i64 op,.slice a1 l1 c1]] W fun e w'=>e=.returned (.bool (decide (op=0)&&decide (l1=0)))∧Below W.heap.size W w'):=fun W=>nothing_i op a1 l1 c1 W h1
 rw [Bool.and_assoc (decide (k=0)) (decide (op=0)) (decide (l1=0))]
 generalize (decide (op=0)&&decide (l1=0))=r at HN ⊢
 have b0:Below w.heap.size w (w.alloc (.cells #[.int .i64 k,.int .i64 op,.slice a1 l1 c1,.slice a2 l2 c2] 53)):=(Below.refl _ _).alloc (Nat.le_refl _) _
 by_cases hk:k=0
 ·subst hk
  have k0:=heap_alloc_last w (.cells #[.int .i64 0,.int .i64 op,.slice a1 l1 c1,.slice a2 l2 c2] 53)
  have K0:Hid ((w.alloc (.cells #[.int .i64 0,.int .i64 op,.slice a1 l1 c1,.slice a2 l2 c2] 53)).heap[w.heap.size]?=some (.cells #[.int .i64 0,.int .i64 op,.slice a1 l1 c1,.slice a2 l2 c2] 53 (0,0))):=k0
  clear k0
  go_enter Tryz.func93,Tryz.ntmps93
  go_wp2_with fail
  refine (HN.out _).mono ?_
  rintro e w1 ⟨rfl,g1⟩
  have c3:w1.cell? ⟨w.heap.size,3,none⟩=some (.slice a2 l2 c2):=(cell_of_row _ _ _ _ _ _ ((g1.block _ (by simp)).trans K0.out)).trans rfl
  have b1:=b0.trans (g1.mono b0.size)
  clear g1 b0 K0
  cases r with
  | false =>
   clear c3
   go_wp2
   go_ret
   exact ⟨by simp,b1⟩
  | true =>
   by_cases hl:l2=0
   ·subst hl
    go_wp2
    go_ret
    exact ⟨by simp,b1⟩
   ·have e1:((l2:Int)==0)=false:=by simp;omega
    go_wp2
    go_ret
    exact ⟨by simp [hl],b1⟩
 ·have e1:(k==0)=false:=by simp [hk]
  go_enter Tryz.func93,Tryz.ntmps93
  go_wp2
  go_ret
  exact ⟨by simp [hk],b0⟩
def MB(W:World)(By Bn:Nat):Prop:=W.heap[Bn]?=some (.cells #[.func (.func 90) #[] #[.pointer (some ⟨By,0,none⟩)]] 119 (0,0))
def AB(W:World)(By Bn Ba:Nat):Prop:=W.heap[Ba]?=some (.cells #[.func (.func 92) #[] #[.pointer (some ⟨Bn,0,none⟩),.pointer (some ⟨By,0,none⟩),.pointer (some ⟨Ba,0,none⟩)]] 155 (0,0))
attribute [local go_sem] Oper.semAt_some
def KD(n₀ B b0:Nat)(W W':World):Prop:=KC n₀ B W W'∧KeepsFrom b0 W W'
theorem KD.trans{n₀ B b0:Nat}{W W' W'':World}(h:KD n₀ B b0 W W')(h':KD n₀ B b0 W' W''):KD n₀ B b0 W W'':=⟨h.1.trans h'.1,h.2.trans h'.2⟩
def KQ(b0:Nat)(W W':World):Prop:=(∀b C t f,b0≤b→W.heap[b]?=some (.cells C t f)→W'.heap[b]?=some (.cells C t f))∧KeepsFrom b0 W W'
theorem KQ.trans{b0:Nat}{W W' W'':World}(h:KQ b0 W W')(h':KQ b0 W' W''):KQ b0 W W'':=⟨fun b C t f hb hc=>h'.1 b C t f hb (h.1 b C t f hb hc),h.2.trans h'.2⟩
theorem rows4(w:World)(o0 o1 o2 o3:Obj):((((w.alloc o0).alloc o1).alloc o2).alloc o3).heap[w.heap.size]?=some o0∧((((w.alloc o0).alloc o1).alloc o2).alloc o3).heap[w.heap.size+1]?=some o1∧((((w.alloc o0).alloc o1).alloc o2).alloc o3).heap[w.heap.size+1+1]?=some o2∧((((w.alloc o0).alloc o1).alloc o2).alloc o3).heap[w.heap.size+1+1+1]?=some o3:=by
 have h3:=rows3 w o0 o1 o2
 have hz:(((w.alloc o0).alloc o1).alloc o2).heap.size=w.heap.size+1+1+1:=by simp
 refine ⟨(heap_alloc_old _ _ (h:=by omega)).trans h3.1,(heap_alloc_old _ _ (h:=by omega)).trans h3.2.1,(heap_alloc_old _ _ (h:=by omega)).trans h3.2.2,?_⟩
 rw [←hz];exact heap_alloc_last _ _
theorem rowB_one{R:NetT→List Value→Prop}{W:World}{B:Nat}{c0 c1 c2 c3:Value}{t:NetT}(hB:B<W.heap.size)(hR:R t [c0,c1,c2,c3]) :
  RowB (W.alloc (.cells #[c0,c1,c2,c3] 53)) B 4 R (.slice (some ⟨W.heap.size,0,none⟩) 1 1) [t]:=by
 refine ⟨some ⟨W.heap.size,0,none⟩,1,rfl,by simp,fun j x hj=>?_⟩
 have hj0:j=0:=by have:=(List.getElem?_eq_some_iff.1 hj).1;simpa using this
 subst hj0
 simp only [List.getElem?_cons_zero,Option.some.injEq] at hj
 subst hj
 refine ⟨W.heap.size,0,[c0,c1,c2,c3],rfl,by omega,rfl,fun i c hi=>?_,hR⟩
 rw [cell_of_row _ _ _ _ _ _ (heap_alloc_last W _)]
 simpa using hi
set_option maxRecDepth 100000 in
theorem net1_in(w:World)(B l By b0 b1:Nat)(L:List PartT)(hBw:w.heap.size≤B)(hBb:B<b1)(h01:b0≤b1)(hBy:By≠B)(J Jx:List (PartW w)→World→Prop)(hJ:Dep b1 J)(hJx:Dep b1 Jx)
  (hY:∀pre (x:PartW w) W,J pre W→Fit L pre [x.1.2]→YieldAt Fence.wide 0 Tryz.prog l #[x.1.1] W fun e W'=>(e=.returned (.bool true)∧KD w.heap.size B b0 W W'∧J (pre++[x]) W')∨(e=.returned (.bool false)∧KQ b0 W W'∧Jx (pre++[x]) W'))
  (m n:Nat) (k op:Int) (a1:Option Addr) (l1 c1:Nat) (a2:Option Addr) (l2 c2:Nat) (t:NetT) (pre:List (PartW w)) (W:World) (hb:Below w.heap.size w W) (hbW:b1≤W.heap.size) (hyb:YB W By l) (ht:NetIs w 0 m t [.int .i64 k,.int .i64 op,.slice a1 l1 c1,.slice a2 l2 c2]) (hw:wN m t≤1048576) (hJ0:J pre W) (hN:Fit L pre (pNet m t)) :
  CallsIn Fence.wide n Tryz.prog 90 #[.agg #[.int .i64 k,.int .i64 op,.slice a1 l1 c1,.slice a2 l2 c2],.pointer (some ⟨By,0,none⟩)] W fun e W' =>
   (e=.returned (.bool true)∧(∃ys,zaf ys=pNet m t∧J (pre++ys) W')∧KC w.heap.size B W W')∨(e=.returned (.bool false)∧∃q,Jx q W'):=by
 have hdd:∀k:Nat,(Fence.wide.depth.isSome=true→1≤k):=fun k h=>by cases h
 obtain ⟨U,hU⟩:∃U,(((W.alloc (.cells #[.int .i64 k,.int .i64 op,.slice a1 l1 c1,.slice a2 l2 c2] 53)).alloc (.cells #[.bool false] 4)).alloc (.cells #[.int .i64 k,.int .i64 op,.slice a1 l1 c1,.slice a2 l2 c2] 53)).alloc (.cells #[.slice (some ⟨W.heap.size+1+1,0,none⟩) 1 1] 51)=U:=⟨_,rfl⟩
 have hk:=rows4 W (.cells #[.int .i64 k,.int .i64 op,.slice a1 l1 c1,.slice a2 l2 c2] 53) (.cells #[.bool false] 4) (.cells #[.int .i64 k,.int .i64 op,.slice a1 l1 c1,.slice a2 l2 c2] 53) (.cells #[.slice (some ⟨W.heap.size+1+1,0,none⟩) 1 1] 51)
 have gU:Below W.heap.size W U:=by rw [←hU];exact ((((Below.refl _ _).alloc (Nat.le_refl _) _).alloc (by simp) _).alloc (by simp<;>omega) _).alloc (by simp<;>omega) _
 have sU:U.heap.size=W.heap.size+1+1+1+1:=by rw [←hU];simp
 have hrow:RowB U B 4 (NetIs w 0 m) (.slice (some ⟨W.heap.size+1+1,0,none⟩) 1 1) [t]:=by
  have h:=rowB_one (R:=NetIs w 0 m) (W:=(W.alloc (.cells #[.int .i64 k,.int .i64 op,.slice a1 l1 c1,.slice a2 l2 c2] 53)).alloc (.cells #[.bool false] 4)) (B:=B) (t:=t) (by simp;omega) ht
  have hz:((W.alloc (.cells #[.int .i64 k,.int .i64 op,.slice a1 l1 c1,.slice a2 l2 c2] 53)).alloc (.cells #[.bool false] 4)).heap.size=W.heap.size+1+1:=by simp
  rw [hz] at h
  rw [←hU]
  exact h.keep (KC.alloc (n₀:=0) (Nat.zero_le _) _)
 rw [hU] at hk
 have cx:U.cell? ⟨W.heap.size+1+1+1,0,none⟩=some (.slice (some ⟨W.heap.size+1+1,0,none⟩) 1 1):=(cell_of_row _ _ _ _ _ _ hk.2.2.2).trans rfl
 have hbU:Below w.heap.size w U:=hb.trans (gU.mono hb.size)
 have eP:[t].flatMap (pNet m)=pNet m t:=by simp
 have hseq:SeqN (n-1) Tryz.prog 124 #[.pointer (some ⟨W.heap.size+1+1+1,0,none⟩)] (fun x:PartW w=>#[x.1.1]) (KC w.heap.size B) (fun _ _=>True) (fun ys=>zaf ys=pNet m t) (fun xs x=>Fit (pNet m t) xs [x.1.2]) U:=fun l' J' Jx' V hV hsz hJ' hJx' hY' h0=>by
  have h:=nets1_in w B (W.heap.size+1+1+1) l' m (pNet m t) hBw (fun ys X=>J' ys X∧V.heap.size≤X.heap.size) Jx' (fun pre X Y g h=>⟨hJ' _ _ _ (g.mono h.2) h.1,Nat.le_trans h.2 g.size⟩) (n-1) (fun pre x X h hl=>(hY' pre x X h.1 hl).mono fun e W' hh=>by
    rcases hh with ⟨he,hk,hj⟩|⟨he,hk,hj⟩
    ·exact .inl ⟨he,⟨hj,Nat.le_trans h.2 hk.1.size⟩,hk⟩
    ·exact .inr ⟨he,hj⟩) _ [t] V (hbU.trans (hV.mono hbU.size)) (by have:=hV.size;omega) ((Keeps.of_below hV 0) _ _ _ (Nat.zero_le _) cx) (hrow.keep (KC.of_below (n₀:=w.heap.size) hV hbU.size)) (by simpa using hw) ⟨h0,Nat.le_refl _⟩ (by rw [eP];exact List.prefix_refl _)
  rw [eP] at h
  refine h.mono fun e W' hh=>⟨hh.1,?_⟩
  rcases hh.2 with ⟨ys,k1,k2⟩|⟨q,k1⟩
  ·exact .inl ⟨ys,k1,k2.1⟩
  ·exact .inr ⟨q,k1⟩
 have hKU:KC w.heap.size B W U:=KC.of_below gU hb.size
 have HYU:Hid (YB U By l):=hKU.row hBy hyb
 have HR:Hid (U.heap[W.heap.size+1]?=some (.cells #[.bool false] 4 (0,0))):=hk.2.1
 have HJU:Hid (J pre U):=hJ _ _ _ (gU.mono hbW) hJ0
 have HKU:Hid (KC w.heap.size B W U):=hKU
 have HH:Hid (Dep b1 J∧Dep b1 Jx):=⟨hJ,hJx⟩
 have HY:Hid (∀pre (x:PartW w) W,J pre W→Fit L pre [x.1.2]→YieldAt Fence.wide 0 Tryz.prog l #[x.1.1] W fun e W'=>(e=.returned (.bool true)∧KD w.heap.size B b0 W W'∧J (pre++[x]) W')∨(e=.returned (.bool false)∧KQ b0 W W'∧Jx (pre++[x]) W')):=hY
 have HS:Hid (SeqN (n-1) Tryz.prog 124 #[.pointer (some ⟨W.heap.size+1+1+1,0,none⟩)] (fun x:PartW w=>#[x.1.1]) (KC w.heap.size B) (fun _ _=>True) (fun ys=>zaf ys=pNet m t) (fun xs x=>Fit (pNet m t) xs [x.1.2]) U):=hseq
 have hnU:w.heap.size≤U.heap.size:=hbU.size
 have HNN:Hid (Fit L pre (pNet m t)):=hN
 clear hY hJ hJx hseq hrow cx hk gU hb hyb ht hw hJ0 hKU eP
 refine callsIn_of_wp_marks Tryz.func90 rfl trivial ?_ rfl
 simp only [Tryz.ntmps90,List.size_toArray,List.length_cons,List.length_nil,Nat.reduceAdd,Nat.reduceSub,Array.replicate_succ,Array.replicate_zero,List.push_toArray,List.append_toArray,List.nil_append,List.cons_append]
 gi_wp2
 refine ⟨trivial,hdd _,?_⟩
 refine (callsIn_wide.2 (nets_call _ _ _ _)).mono ?_
 rintro e w' ⟨rfl,rfl⟩
 simp only [World.size_alloc]
 rw [hU]
 gi_wp2
 refine range_n (α:=PartW w) (gf:=124) (lb:=#[.pointer (some ⟨W.heap.size+1+1+1,0,none⟩)]) rfl (enters_of Tryz.func124 (by kernel_rfl) rfl) HS.out (fun h k=>h.trans k) (fun V r o' h=>kc_b (w:=U) hnU V _ _ o' (by omega) h rfl rfl) (fun _ _=>trivial) (fun _ _ _ _=>trivial) (Below.refl _ _) (fun _=>rfl)
  (fun xs V=>J (pre++xs) V∧KC w.heap.size B U V)
  (fun c xs V=>(c=.ret∧V.heap[W.heap.size+1]?=some (.cells #[.bool false] 4 (0,0)))∧∃q,Jx q V)
  (fun s X Y g hs=>⟨HH.out.1 _ _ _ (g.mono (by omega)) hs.1,kc_dep (β:=Unit) hnU (Nat.le_refl _) () X Y g hs.2⟩)
  (fun c s X Y g hs=>⟨⟨hs.1.1,(g.block _ (by omega)).trans hs.1.2⟩,by obtain ⟨q,hq⟩:=hs.2;exact ⟨q,HH.out.2 _ _ _ (g.mono (by omega)) hq⟩⟩)
  ⟨(by simpa using HJU.out:J (pre++[]) U),KC.refl _ _ _⟩
  (fun x=>{ tmps:=#[.agg #[.int .i64 k,.int .i64 op,.slice a1 l1 c1,.slice a2 l2 c2],.pointer (some ⟨By,0,none⟩),.pointer (some ⟨W.heap.size,0,none⟩),.pointer (some ⟨W.heap.size+1,0,none⟩),x.1.1,.agg #[.int .i64 k,.int .i64 op,.slice a1 l1 c1,.slice a2 l2 c2],.slice (some ⟨W.heap.size+1+1,0,none⟩) 1 1,.func (.func 124) #[] #[.pointer (some ⟨W.heap.size+1+1+1,0,none⟩)],x.1.1,undef,undef,undef,undef],defers:=[] }) ?assign ?body ?done ?stop
 case assign =>
  intro l x W K hK
  gi_wp2
  exact hK
 case body =>
  rintro l' xs x V ⟨hJV,hKV⟩ hlen
  have cy:V.cell? ⟨By,0,none⟩=some (.func (.yield l) #[] #[]):=(cell_of_row _ _ _ _ _ _ (hKV.row hBy HYU.out)).trans rfl
  obtain ⟨fn,tmps,assign,body,hy,hRd⟩:=zdb (n-1-1-1) (HY.out (pre++xs) x V hJV (by obtain ⟨Z,hZ⟩:=hlen;exact HNN.out.go xs _ Z (by rw [←hZ];simp)))
  have HKV:Hid (KC w.heap.size B U V):=hKV
  clear hJV hKV
  gi_wp2
  refine ⟨hdd _,?_⟩
  refine hRd.mono ?_
  rintro e V3 (⟨rfl,⟨kc,kf⟩,hJ3⟩|⟨rfl,⟨kq,kf⟩,hx3⟩)
  ·have HP:Hid (KeepsFrom U.heap.size V V3∧KC w.heap.size B V V3∧J (pre++(xs++[x])) V3∧KC w.heap.size B U V3):=⟨⟨kf.size,fun k o hk=>kf.same k o (by omega)⟩,kc,by simpa [List.append_assoc] using hJ3,HKV.out.trans kc⟩
   clear hy hRd cy kc kf hJ3
   gi_wp2
   exact HP.out
  ·have rV:V3.heap[W.heap.size+1]?=some (.cells #[.bool false] 4 (0,0)):=kq _ _ _ _ (by omega) (HKV.out.row (by omega) HR.out)
   have q0:V3.cell? ⟨W.heap.size+1,0,none⟩=some (.bool false):=(cell_of_row _ _ _ _ _ _ rV).trans rfl
   have q1:V3.frozen? ⟨W.heap.size+1,0,none⟩=false:=by simp [World.frozen?,rV]
   have HP:Hid (KeepsFrom U.heap.size V (V3.setCell ⟨W.heap.size+1,0,none⟩ (.bool false))∧True∧(Code.ret=Code.ret∧(V3.setCell ⟨W.heap.size+1,0,none⟩ (.bool false)).heap[W.heap.size+1]?=some (.cells #[.bool false] 4 (0,0)))∧∃q,Jx q (V3.setCell ⟨W.heap.size+1,0,none⟩ (.bool false))) :=
    ⟨(KeepsFrom.trans ⟨kf.size,fun k o hk=>kf.same k o (by omega)⟩ ((KeepsOthers.setCell _ _ _).from _)),trivial,⟨rfl,zcn rV _ _⟩,_,HH.out.2 _ _ _ ((Below.refl _ _).setCell (p:=⟨W.heap.size+1,0,none⟩) (by simp;omega) _) hx3⟩
   clear hy hRd cy kq kf hx3 rV
   gi_wp2
   obtain ⟨p1,_,⟨_,p3⟩,p4⟩:=HP.out
   exact ⟨p1,trivial,⟨rfl,p3⟩,p4⟩
 case done =>
  rintro D ys V hD hys ⟨hJV,hKV⟩ hDV
  have rV:V.heap[W.heap.size+1]?=some (.cells #[.bool false] 4 (0,0)):=hKV.row (by omega) HR.out
  have q0:V.cell? ⟨W.heap.size+1,0,none⟩=some (.bool false):=(cell_of_row _ _ _ _ _ _ rV).trans rfl
  have q1:V.frozen? ⟨W.heap.size+1,0,none⟩=false:=by simp [World.frozen?,rV]
  obtain ⟨V2,hV2⟩:∃V2,V.setCell ⟨W.heap.size+1,0,none⟩ (.bool true)=V2:=⟨_,rfl⟩
  have rD:V2.heap[D]?=some (.deferred (some [])):=by rw [←hV2];exact zbm hDV _ _ (by omega) _
  have r2:V2.heap[W.heap.size+1]?=some (.cells #[.bool true] 4 (0,0)):=by rw [←hV2];exact zcn rV _ _
  have r3:(V2.putObj D (.deferred none)).heap[W.heap.size+1]?=some (.cells #[.bool true] 4 (0,0)):=(World.putObj_heap_other (by omega)).trans r2
  have c3:(V2.putObj D (.deferred none)).cell? ⟨W.heap.size+1,0,none⟩=some (.bool true):=(cell_of_row _ _ _ _ _ _ r3).trans rfl
  have bV:Below W.heap.size V (V2.putObj D (.deferred none)):=by
   have b1:Below W.heap.size V V2:=by rw [←hV2];exact (Below.refl _ _).setCell (p:=⟨W.heap.size+1,0,none⟩) (by simp) _
   exact b1.trans (zbq rD (by omega) _)
  gi_wp2
  refine ⟨by simp,.inl ⟨_,_,rfl,run_takeDeferred rD,?_⟩⟩
  refine ⟨.bool true,?_,.inl ⟨rfl,⟨ys,hys,HH.out.1 _ _ _ (bV.mono hbW) hJV⟩,?_⟩⟩
  ·simp [results,Tryz.results90,go_sem,c3]
  ·have h1:KC w.heap.size B W V:=HKU.out.trans hKV
   exact kc_dep (β:=Unit) (by omega) (Nat.le_refl _) () _ _ bV h1
 case stop =>
  rintro D c q V hD ⟨⟨rfl,hcV⟩,hxV⟩ hDV
  have r3:(V.putObj D (.deferred none)).heap[W.heap.size+1]?=some (.cells #[.bool false] 4 (0,0)):=(World.putObj_heap_other (by omega)).trans hcV
  have c3:(V.putObj D (.deferred none)).cell? ⟨W.heap.size+1,0,none⟩=some (.bool false):=(cell_of_row _ _ _ _ _ _ r3).trans rfl
  have bV:Below W.heap.size V (V.putObj D (.deferred none)):=zbq hDV (by omega) _
  gi_wp2
  refine ⟨by simp,.inl ⟨_,_,rfl,run_takeDeferred hDV,?_⟩⟩
  refine ⟨.bool false,?_,.inr ⟨rfl,?_⟩⟩
  ·simp [results,Tryz.results90,go_sem,c3]
  ·obtain ⟨q,hq⟩:=hxV
   exact ⟨q,HH.out.2 _ _ _ (bV.mono hbW) hq⟩
attribute [local go_sem] Oper.semAt_some
set_option maxRecDepth 100000 in
theorem arms_step(w:World)(B l By Bn Ba:Nat)(L:List PartT)(hBw:w.heap.size≤B)(hBy:By≠B)(hBn:Bn≠B)(hBa:Ba≠B)(J Jx:List (PartW w)→World→Prop)(hJg:∀pre W W',Below W.heap.size W W'→J pre W→J pre W')
  (hY:∀pre (x:PartW w) W,J pre W→Fit L pre [x.1.2]→YieldAt Fence.wide 0 Tryz.prog l #[x.1.1] W fun e W'=>(e=.returned (.bool true)∧J (pre++[x]) W'∧KC w.heap.size B W W')∨(e=.returned (.bool false)∧Jx (pre++[x]) W'))
  (R:ArmT→List Value→Prop) (PN PK:ArmT→List PartT) (n:Nat) (v:Value) (rung:Bool) (kids:List ArmT) (pre:List (PartW w)) (W:World) (hb:Below w.heap.size w W) (hBW:B<W.heap.size) (hyb:YB W By l) (hnb:MB W By Bn) (hab:AB W By Bn Ba) (hr:RowB W B 6 R v kids) (hJ:J pre W) (hN:Fit L pre (kids.flatMap (fun t=>PN t++.inr (t,rung)::PK t)))
  (HR:Hid (∀t cs,t∈kids→R t cs→∃k op a1 l1 c1 a2 l2 c2 a3 l3 c3 a4 l4 c4,∃nn:Bool,cs=[.int .i64 k,.int .i64 op,.slice a1 l1 c1,.slice a2 l2 c2,.slice a3 l3 c3,.slice a4 l4 c4] ∧
   (∀r,POk w (.iface 157 (.agg #[.int .i64 k,.int .i64 op,.slice a1 l1 c1,.slice a2 l2 c2,.slice a3 l3 c3,.slice a4 l4 c4,.bool r]),.inr (t,r))) ∧
   (∀W,Calls Tryz.prog 93 #[.agg #[.int .i64 k,.int .i64 op,.slice a1 l1 c1,.slice a2 l2 c2]] W fun e w'=>e=.returned (.bool nn)∧Below W.heap.size W w')∧(nn=true→PN t=[]) ∧
   (nn=false→∀n pre W,Below w.heap.size w W→B<W.heap.size→YB W By l→MB W By Bn→J pre W→Fit L pre (PN t) →
    CallsIn Fence.wide n Tryz.prog 90 #[.agg #[.int .i64 k,.int .i64 op,.slice a1 l1 c1,.slice a2 l2 c2],.pointer (some ⟨By,0,none⟩)] W fun e W' =>
     (e=.returned (.bool true)∧(∃ys,zaf ys=PN t∧J (pre++ys) W')∧KC w.heap.size B W W')∨(e=.returned (.bool false)∧∃q,Jx q W')) ∧
   (∀n pre W,Below w.heap.size w W→B<W.heap.size→YB W By l→MB W By Bn→AB W By Bn Ba→J pre W→Fit L pre (PK t) →
    CallsIn Fence.wide n Tryz.prog 92 #[.slice a4 l4 c4,.bool false,.pointer (some ⟨Bn,0,none⟩),.pointer (some ⟨By,0,none⟩),.pointer (some ⟨Ba,0,none⟩)] W fun e W' =>
     (e=.returned (.bool true)∧(∃ys,zaf ys=PK t∧J (pre++ys) W')∧KC w.heap.size B W W')∨(e=.returned (.bool false)∧∃q,Jx q W')))) :
   CallsIn Fence.wide n Tryz.prog 92 #[v,.bool rung,.pointer (some ⟨Bn,0,none⟩),.pointer (some ⟨By,0,none⟩),.pointer (some ⟨Ba,0,none⟩)] W fun e W' =>
    (e=.returned (.bool true)∧(∃ys,zaf ys=kids.flatMap (fun t=>PN t++.inr (t,rung)::PK t)∧J (pre++ys) W')∧KC w.heap.size B W W')∨(e=.returned (.bool false)∧∃q,Jx q W'):=by
 have hr0:=hr
 obtain ⟨a,cap,rfl,hl,_⟩:=hr
 have HRow:Hid (RowB W B 6 R (.slice a kids.length cap) kids):=hr0
 have HJ0:Hid (J pre W):=hJ
 have HYb:Hid (YB W By l∧MB W By Bn∧AB W By Bn Ba∧Below w.heap.size w W∧B<W.heap.size):=⟨hyb,hnb,hab,hb,hBW⟩
 have HN:Hid (Fit L pre (kids.flatMap (fun t=>PN t++.inr (t,rung)::PK t))):=hN
 have HJg:Hid (∀pre W W',Below W.heap.size W W'→J pre W→J pre W'):=hJg
 have HY:Hid (∀pre (x:PartW w) W,J pre W→Fit L pre [x.1.2]→YieldAt Fence.wide 0 Tryz.prog l #[x.1.1] W fun e W'=>(e=.returned (.bool true)∧J (pre++[x]) W'∧KC w.heap.size B W W')∨(e=.returned (.bool false)∧Jx (pre++[x]) W')):=hY
 obtain ⟨len,HL⟩:∃len,Hid (len=kids.length):=⟨_,rfl⟩
 rw [←HL.out] at hl HRow ⊢
 have hdd:∀k:Nat,(Fence.wide.depth.isSome=true→1≤k):=fun k h=>by cases h
 clear hr0 hJ hyb hnb hab hb hBW hN hJg hY
 refine callsIn_of_wp Tryz.func92 rfl trivial ?_ rfl
 simp only [Tryz.ntmps92,List.size_toArray,List.length_cons,List.length_nil,Nat.reduceAdd,Nat.reduceSub,Array.replicate_succ,Array.replicate_zero,List.push_toArray,List.append_toArray,List.nil_append,List.cons_append]
 gi_wp2
 gi_loopw [12] (fun i wr=>∃(c:Nat)(ys:List (PartW w)),i=.int .i64 c∧c≤len∧Hid (zaf ys=(kids.take c).flatMap (fun t=>PN t++.inr (t,rung)::PK t))∧Hid (J (pre++ys) wr)∧Hid (KC w.heap.size B W wr))
  (fun i _=>len-(RowKit.intOf i).toNat)
 case atStart=>exact ⟨0,[],rfl,Nat.zero_le _,rfl,(by simpa using HJ0.out:J (pre++[]) W),KC.refl _ _ _⟩
 case round =>
  obtain ⟨c,ys,rfl,hc,HG,HJ,HK⟩:=hrel
  by_cases hlt:c<len
  ·have i1:(c:Int)<(len:Int):=by omega
   have i3:(0:Int)≤(c:Int):=by omega
   obtain ⟨t,ht⟩:∃t,kids[c]?=some t:=⟨_,List.getElem?_eq_getElem (by have:=HL.out;omega)⟩
   obtain ⟨a',cap',hv',hl',hx⟩:=HRow.out.keep HK.out
   simp only [Value.slice.injEq] at hv'
   obtain ⟨ea,ea1,ea2⟩:=hv'
   subst ea
   clear ea1 ea2
   obtain ⟨b,o,cs,rfl,hbB,hcs,hrg,hRt⟩:=hx c t ht
   obtain ⟨k,op,a1,l1,c1,a2,l2,c2,a3,l3,c3,a4,l4,c4,nn,rfl,hpok,hnone,hnn,hnet,hrec⟩:=HR.out t cs (List.mem_of_getElem? ht) hRt
   have x0:wr.cell? ⟨b,o+c*6,none⟩=some (.int .i64 k):=hrg 0 _ rfl
   have x1:wr.cell? ⟨b,o+c*6+1,none⟩=some (.int .i64 op):=hrg 1 _ rfl
   have x2:wr.cell? ⟨b,o+c*6+2,none⟩=some (.slice a1 l1 c1):=hrg 2 _ rfl
   have x3:wr.cell? ⟨b,o+c*6+3,none⟩=some (.slice a2 l2 c2):=hrg 3 _ rfl
   have x4:wr.cell? ⟨b,o+c*6+4,none⟩=some (.slice a3 l3 c3):=hrg 4 _ rfl
   have x5:wr.cell? ⟨b,o+c*6+5,none⟩=some (.slice a4 l4 c4):=hrg 5 _ rfl
   have hgs:(kids.take (c+1)).flatMap (fun t=>PN t++Sum.inr (t,rung)::PK t)=(kids.take c).flatMap (fun t=>PN t++.inr (t,rung)::PK t)++(PN t++.inr (t,rung)::PK t):=by
    rw [List.take_add_one,ht];simp
   have HF:Hid (kids.flatMap (fun t=>PN t++Sum.inr (t,rung)::PK t)=zaf ys++(PN t++(Sum.inr (t,rung)::(PK t++(kids.drop (c+1)).flatMap (fun t=>PN t++Sum.inr (t,rung)::PK t))))):=(by
    rw [HG.out,flat_at _ _ _ _ ht];simp:kids.flatMap (fun t=>PN t++Sum.inr (t,rung)::PK t)=zaf ys++(PN t++(Sum.inr (t,rung)::(PK t++(kids.drop (c+1)).flatMap (fun t=>PN t++Sum.inr (t,rung)::PK t)))))
   have hn₀:w.heap.size≤wr.heap.size:=Nat.le_trans HYb.out.2.2.2.1.size HK.out.1.size
   have szw:B<wr.heap.size:=Nat.lt_of_lt_of_le HYb.out.2.2.2.2 HK.out.1.size
   have bx0:=heap_alloc_last wr (.cells #[.int .i64 k,.int .i64 op,.slice a1 l1 c1,.slice a2 l2 c2,.slice a3 l3 c3,.slice a4 l4 c4] 56)
   have gA:Below wr.heap.size wr (wr.alloc (.cells #[.int .i64 k,.int .i64 op,.slice a1 l1 c1,.slice a2 l2 c2,.slice a3 l3 c3,.slice a4 l4 c4] 56)):=(Below.refl _ _).alloc (Nat.le_refl _) _
   have HA:Hid ((wr.alloc (.cells #[.int .i64 k,.int .i64 op,.slice a1 l1 c1,.slice a2 l2 c2,.slice a3 l3 c3,.slice a4 l4 c4] 56)).heap[wr.heap.size]?=some (.cells #[.int .i64 k,.int .i64 op,.slice a1 l1 c1,.slice a2 l2 c2,.slice a3 l3 c3,.slice a4 l4 c4] 56 (0,0))∧KC w.heap.size B W (wr.alloc (.cells #[.int .i64 k,.int .i64 op,.slice a1 l1 c1,.slice a2 l2 c2,.slice a3 l3 c3,.slice a4 l4 c4] 56))∧J (pre++ys) (wr.alloc (.cells #[.int .i64 k,.int .i64 op,.slice a1 l1 c1,.slice a2 l2 c2,.slice a3 l3 c3,.slice a4 l4 c4] 56))∧w.heap.size≤(wr.alloc (.cells #[.int .i64 k,.int .i64 op,.slice a1 l1 c1,.slice a2 l2 c2,.slice a3 l3 c3,.slice a4 l4 c4] 56)).heap.size):=⟨bx0,HK.out.trans (KC.alloc hn₀ _),HJg.out _ _ _ gA HJ.out,by simp;omega⟩
   clear hx hrg bx0 gA
   gi_wp2
   refine ⟨trivial,hdd _,?_⟩
   refine (callsIn_wide.2 (hnone _)).mono ?_
   rintro e w1 ⟨rfl,g1⟩
   have bx1:w1.heap[wr.heap.size]?=some (.cells #[.int .i64 k,.int .i64 op,.slice a1 l1 c1,.slice a2 l2 c2,.slice a3 l3 c3,.slice a4 l4 c4] 56 (0,0)):=(g1.block _ (Array.getElem?_eq_some_iff.1 HA.out.1).1).trans HA.out.1
   have K1:KC w.heap.size B W w1:=HA.out.2.1.trans (KC.of_below g1 HA.out.2.2.2)
   have J1:J (pre++ys) w1:=HJg.out _ _ _ g1 HA.out.2.2.1
   clear g1 HA x0 x1 x2 x3 x4 x5 hnone
   cases nn with
   | true =>
    have hPN:zaf ([]:List (PartW w))=PN t:=by rw [hnn rfl];rfl
    have J1':J (pre++ys++([]:List (PartW w))) w1:=by simpa using J1
    have d0:w1.cell? ⟨wr.heap.size,0,none⟩=some (.int .i64 k):=(cell_of_row _ _ _ _ _ _ bx1).trans rfl
    have d1:w1.cell? ⟨wr.heap.size,1,none⟩=some (.int .i64 op):=(cell_of_row _ _ _ _ _ _ bx1).trans rfl
    have d2:w1.cell? ⟨wr.heap.size,2,none⟩=some (.slice a1 l1 c1):=(cell_of_row _ _ _ _ _ _ bx1).trans rfl
    have d3:w1.cell? ⟨wr.heap.size,3,none⟩=some (.slice a2 l2 c2):=(cell_of_row _ _ _ _ _ _ bx1).trans rfl
    have d4:w1.cell? ⟨wr.heap.size,4,none⟩=some (.slice a3 l3 c3):=(cell_of_row _ _ _ _ _ _ bx1).trans rfl
    have d5:w1.cell? ⟨wr.heap.size,5,none⟩=some (.slice a4 l4 c4):=(cell_of_row _ _ _ _ _ _ bx1).trans rfl
    have cy:w1.cell? ⟨By,0,none⟩=some (.func (.yield l) #[] #[]):=(cell_of_row _ _ _ _ _ _ (K1.row hBy HYb.out.1)).trans rfl
    obtain ⟨fn,tmps,assign,body,hy,hR⟩:=zdb (n-1) (HY.out (pre++ys++([]:List (PartW w))) ⟨(.iface 157 (.agg #[.int .i64 k,.int .i64 op,.slice a1 l1 c1,.slice a2 l2 c2,.slice a3 l3 c3,.slice a4 l4 c4,.bool rung]),.inr (t,rung)),hpok rung⟩ w1 J1' (by rw [List.append_assoc];exact HN.out.go _ _ (PK t++((kids.drop (c+1)).flatMap (fun t=>PN t++Sum.inr (t,rung)::PK t))) (by rw [HF.out,←hPN];simp [zaf])))
    have HKx:Hid (KC w.heap.size B W w1∧w1.heap[wr.heap.size]?=some (.cells #[.int .i64 k,.int .i64 op,.slice a1 l1 c1,.slice a2 l2 c2,.slice a3 l3 c3,.slice a4 l4 c4] 56 (0,0))):=⟨K1,bx1⟩
    gi_wp2
    refine ⟨fun _ h=>(by cases h),?_⟩
    gi_wp2
    refine ⟨hdd _,?_⟩
    refine hR.mono ?_
    rintro e W5 (⟨rfl,hJ5,hk5⟩|⟨rfl,hx5⟩)
    rotate_left
    ·clear hy hR cy d0 d1 d2 d3 d4 d5 HKx hrec
     gi_wp2
     refine ⟨fun _ h=>(by cases h),?_⟩
     gi_wp2
     go_ret
     exact .inr ⟨rfl,_,hx5⟩
    have hK5:KC w.heap.size B W W5:=HKx.out.1.trans hk5
    have yb5:YB W5 By l:=hK5.row hBy HYb.out.1
    have nb5:MB W5 By Bn:=hK5.row hBn HYb.out.2.1
    have ab5:AB W5 By Bn Ba:=hK5.row hBa HYb.out.2.2.1
    have ca5:W5.cell? ⟨Ba,0,none⟩=some (.func (.func 92) #[] #[.pointer (some ⟨Bn,0,none⟩),.pointer (some ⟨By,0,none⟩),.pointer (some ⟨Ba,0,none⟩)]):=(cell_of_row _ _ _ _ _ _ ab5).trans rfl
    have bx5:W5.heap[wr.heap.size]?=some (.cells #[.int .i64 k,.int .i64 op,.slice a1 l1 c1,.slice a2 l2 c2,.slice a3 l3 c3,.slice a4 l4 c4] 56 (0,0)):=hk5.row (by omega) HKx.out.2
    have e5:W5.cell? ⟨wr.heap.size,5,none⟩=some (.slice a4 l4 c4):=(cell_of_row _ _ _ _ _ _ bx5).trans rfl
    have hrc:=hrec (n-1) _ W5 (HYb.out.2.2.2.1.trans hK5.1) (Nat.lt_of_lt_of_le HYb.out.2.2.2.2 hK5.1.size) yb5 nb5 ab5 hJ5 (by rw [List.append_assoc,List.append_assoc];exact HN.out.go _ _ ((kids.drop (c+1)).flatMap (fun t=>PN t++Sum.inr (t,rung)::PK t)) (by rw [HF.out,←hPN];simp [zaf]))
    have HK5:Hid (KC w.heap.size B W W5):=hK5
    clear hy hR hk5 yb5 nb5 ab5 bx5 hK5 hJ5 cy d0 d1 d2 d3 d4 d5 HKx
    gi_wp2
    refine ⟨trivial,hdd _,?_⟩
    refine hrc.mono ?_
    rintro e W6 (⟨rfl,⟨zs,hzs,hJ6⟩,hk6⟩|⟨rfl,qx,hx6⟩)
    rotate_left
    ·clear hrc
     gi_wp2
     go_ret
     exact .inr ⟨rfl,qx,hx6⟩
    clear hrc
    gi_wp2
    go_roundw
    case rel =>
     refine ⟨c+1,ys++(([]:List (PartW w))++(⟨(.iface 157 (.agg #[.int .i64 k,.int .i64 op,.slice a1 l1 c1,.slice a2 l2 c2,.slice a3 l3 c3,.slice a4 l4 c4,.bool rung]),.inr (t,rung)),hpok rung⟩:PartW w)::zs),by simp,by omega,?_,?_,HK5.out.trans hk6⟩
     ·show zaf _=_
      rw [hgs,←HG.out,←hPN,←hzs];simp [zaf]
     ·show J _ W6
      simpa [List.append_assoc] using hJ6
    case measure=>simp [RowKit.intOf];omega
   | false =>
    have yb1:YB w1 By l:=K1.row hBy HYb.out.1
    have nb1:MB w1 By Bn:=K1.row hBn HYb.out.2.1
    have cn1:w1.cell? ⟨Bn,0,none⟩=some (.func (.func 90) #[] #[.pointer (some ⟨By,0,none⟩)]):=(cell_of_row _ _ _ _ _ _ nb1).trans rfl
    have hnc:=hnet rfl (n-1) (pre++ys) w1 (HYb.out.2.2.2.1.trans K1.1) (Nat.lt_of_lt_of_le HYb.out.2.2.2.2 K1.1.size) yb1 nb1 J1 (HN.out.go ys _ _ HF.out)
    have HK1:Hid (KC w.heap.size B W w1∧w1.heap[wr.heap.size]?=some (.cells #[.int .i64 k,.int .i64 op,.slice a1 l1 c1,.slice a2 l2 c2,.slice a3 l3 c3,.slice a4 l4 c4] 56 (0,0))):=⟨K1,bx1⟩
    have d0:w1.cell? ⟨wr.heap.size,0,none⟩=some (.int .i64 k):=(cell_of_row _ _ _ _ _ _ bx1).trans rfl
    have d1:w1.cell? ⟨wr.heap.size,1,none⟩=some (.int .i64 op):=(cell_of_row _ _ _ _ _ _ bx1).trans rfl
    have d2:w1.cell? ⟨wr.heap.size,2,none⟩=some (.slice a1 l1 c1):=(cell_of_row _ _ _ _ _ _ bx1).trans rfl
    have d3:w1.cell? ⟨wr.heap.size,3,none⟩=some (.slice a2 l2 c2):=(cell_of_row _ _ _ _ _ _ bx1).trans rfl
    have d4:w1.cell? ⟨wr.heap.size,4,none⟩=some (.slice a3 l3 c3):=(cell_of_row _ _ _ _ _ _ bx1).trans rfl
    have d5:w1.cell? ⟨wr.heap.size,5,none⟩=some (.slice a4 l4 c4):=(cell_of_row _ _ _ _ _ _ bx1).trans rfl
    clear yb1 nb1 J1 K1 bx1 hnet
    gi_wp2
    refine ⟨trivial,hdd _,?_⟩
    refine hnc.mono ?_
    rintro e W3 (⟨rfl,⟨ns,hns,J3⟩,hk3⟩|⟨rfl,qx,hx3⟩)
    rotate_left
    ·clear hnc HK1 cn1 d0 d1 d2 d3 d4 d5 hrec
     gi_wp2
     go_ret
     exact .inr ⟨rfl,qx,hx3⟩
    have K3:KC w.heap.size B W W3:=HK1.out.1.trans hk3
    have bx3:W3.heap[wr.heap.size]?=some (.cells #[.int .i64 k,.int .i64 op,.slice a1 l1 c1,.slice a2 l2 c2,.slice a3 l3 c3,.slice a4 l4 c4] 56 (0,0)):=hk3.row (by omega) HK1.out.2
    clear hk3 hnc HK1 cn1 d0 d1 d2 d3 d4 d5
    have d0:W3.cell? ⟨wr.heap.size,0,none⟩=some (.int .i64 k):=(cell_of_row _ _ _ _ _ _ bx3).trans rfl
    have d1:W3.cell? ⟨wr.heap.size,1,none⟩=some (.int .i64 op):=(cell_of_row _ _ _ _ _ _ bx3).trans rfl
    have d2:W3.cell? ⟨wr.heap.size,2,none⟩=some (.slice a1 l1 c1):=(cell_of_row _ _ _ _ _ _ bx3).trans rfl
    have d3:W3.cell? ⟨wr.heap.size,3,none⟩=some (.slice a2 l2 c2):=(cell_of_row _ _ _ _ _ _ bx3).trans rfl
    have d4:W3.cell? ⟨wr.heap.size,4,none⟩=some (.slice a3 l3 c3):=(cell_of_row _ _ _ _ _ _ bx3).trans rfl
    have d5:W3.cell? ⟨wr.heap.size,5,none⟩=some (.slice a4 l4 c4):=(cell_of_row _ _ _ _ _ _ bx3).trans rfl
    have cy:W3.cell? ⟨By,0,none⟩=some (.func (.yield l) #[] #[]):=(cell_of_row _ _ _ _ _ _ (K3.row hBy HYb.out.1)).trans rfl
    obtain ⟨fn,tmps,assign,body,hy,hR⟩:=zdb (n-1) (HY.out (pre++ys++(ns)) ⟨(.iface 157 (.agg #[.int .i64 k,.int .i64 op,.slice a1 l1 c1,.slice a2 l2 c2,.slice a3 l3 c3,.slice a4 l4 c4,.bool rung]),.inr (t,rung)),hpok rung⟩ W3 J3 (by rw [List.append_assoc];exact HN.out.go _ _ (PK t++((kids.drop (c+1)).flatMap (fun t=>PN t++Sum.inr (t,rung)::PK t))) (by rw [HF.out,←hns];simp [zaf])))
    have HKx:Hid (KC w.heap.size B W W3∧W3.heap[wr.heap.size]?=some (.cells #[.int .i64 k,.int .i64 op,.slice a1 l1 c1,.slice a2 l2 c2,.slice a3 l3 c3,.slice a4 l4 c4] 56 (0,0))):=⟨K3,bx3⟩
    gi_wp2
    refine ⟨hdd _,?_⟩
    refine hR.mono ?_
    rintro e W5 (⟨rfl,hJ5,hk5⟩|⟨rfl,hx5⟩)
    rotate_left
    ·clear hy hR cy d0 d1 d2 d3 d4 d5 HKx hrec
     gi_wp2
     refine ⟨fun _ h=>(by cases h),?_⟩
     gi_wp2
     go_ret
     exact .inr ⟨rfl,_,hx5⟩
    have hK5:KC w.heap.size B W W5:=HKx.out.1.trans hk5
    have yb5:YB W5 By l:=hK5.row hBy HYb.out.1
    have nb5:MB W5 By Bn:=hK5.row hBn HYb.out.2.1
    have ab5:AB W5 By Bn Ba:=hK5.row hBa HYb.out.2.2.1
    have ca5:W5.cell? ⟨Ba,0,none⟩=some (.func (.func 92) #[] #[.pointer (some ⟨Bn,0,none⟩),.pointer (some ⟨By,0,none⟩),.pointer (some ⟨Ba,0,none⟩)]):=(cell_of_row _ _ _ _ _ _ ab5).trans rfl
    have bx5:W5.heap[wr.heap.size]?=some (.cells #[.int .i64 k,.int .i64 op,.slice a1 l1 c1,.slice a2 l2 c2,.slice a3 l3 c3,.slice a4 l4 c4] 56 (0,0)):=hk5.row (by omega) HKx.out.2
    have e5:W5.cell? ⟨wr.heap.size,5,none⟩=some (.slice a4 l4 c4):=(cell_of_row _ _ _ _ _ _ bx5).trans rfl
    have hrc:=hrec (n-1) _ W5 (HYb.out.2.2.2.1.trans hK5.1) (Nat.lt_of_lt_of_le HYb.out.2.2.2.2 hK5.1.size) yb5 nb5 ab5 hJ5 (by rw [List.append_assoc,List.append_assoc];exact HN.out.go _ _ ((kids.drop (c+1)).flatMap (fun t=>PN t++Sum.inr (t,rung)::PK t)) (by rw [HF.out,←hns];simp [zaf]))
    have HK5:Hid (KC w.heap.size B W W5):=hK5
    clear hy hR hk5 yb5 nb5 ab5 bx5 hK5 hJ5 cy d0 d1 d2 d3 d4 d5 HKx
    gi_wp2
    refine ⟨trivial,hdd _,?_⟩
    refine hrc.mono ?_
    rintro e W6 (⟨rfl,⟨zs,hzs,hJ6⟩,hk6⟩|⟨rfl,qx,hx6⟩)
    rotate_left
    ·clear hrc
     gi_wp2
     go_ret
     exact .inr ⟨rfl,qx,hx6⟩
    clear hrc
    gi_wp2
    go_roundw
    case rel =>
     refine ⟨c+1,ys++((ns)++(⟨(.iface 157 (.agg #[.int .i64 k,.int .i64 op,.slice a1 l1 c1,.slice a2 l2 c2,.slice a3 l3 c3,.slice a4 l4 c4,.bool rung]),.inr (t,rung)),hpok rung⟩:PartW w)::zs),by simp,by omega,?_,?_,HK5.out.trans hk6⟩
     ·show zaf _=_
      rw [hgs,←HG.out,←hns,←hzs];simp [zaf]
     ·show J _ W6
      simpa [List.append_assoc] using hJ6
    case measure=>simp [RowKit.intOf];omega
  ·have i1:¬((c:Int)<(len:Int)):=by omega
   gi_wp2
   go_ret
   refine .inl ⟨rfl,⟨ys,?_,HJ.out⟩,HK.out⟩
   rw [HG.out,List.take_of_length_le (by have:=HL.out;omega)]
attribute [local go_sem] Oper.semAt_some
theorem zfb(k:Int)(e:ElemT)(kids:List NetT):zce (.mk k e kids)=(decide (k=0)&&decide (e.op=0)&&decide (e.args.length=0)&&decide (kids.length=0)):=by
 cases e with
 | mk op args=>cases args<;>cases kids<;>simp [zce]
theorem arms_in(w:World)(B l By Bn Ba b0 b1:Nat)(L:List PartT)(hBw:w.heap.size≤B)(hBb:B<b1)(h01:b0≤b1)(hBy:By≠B)(hBn:Bn≠B)(hBa:Ba≠B)(J Jx:List (PartW w)→World→Prop)(hJg:∀pre W W',Below W.heap.size W W'→J pre W→J pre W')(hJd:Dep b1 J)(hJxd:Dep b1 Jx)(hJs:∀pre W,J pre W→b1≤W.heap.size)
  (hY0:∀pre (x:PartW w) W,J pre W→Fit L pre [x.1.2]→YieldAt Fence.wide 0 Tryz.prog l #[x.1.1] W fun e W'=>(e=.returned (.bool true)∧KD w.heap.size B b0 W W'∧J (pre++[x]) W')∨(e=.returned (.bool false)∧KQ b0 W W'∧Jx (pre++[x]) W')) :
  ∀(m n:Nat)(v:Value)(rung:Bool)(kids:List ArmT)(pre:List (PartW w))(W:World),Below w.heap.size w W→B<W.heap.size→YB W By l→MB W By Bn→AB W By Bn Ba→RowB W B 6 (ArmIs w 0 m) v kids→(kids.map (wA m)).sum≤1048576→J pre W→Fit L pre (kids.flatMap (pArm m rung)) →
   CallsIn Fence.wide n Tryz.prog 92 #[v,.bool rung,.pointer (some ⟨Bn,0,none⟩),.pointer (some ⟨By,0,none⟩),.pointer (some ⟨Ba,0,none⟩)] W fun e W' =>
    (e=.returned (.bool true)∧(∃ys,zaf ys=kids.flatMap (pArm m rung)∧J (pre++ys) W')∧KC w.heap.size B W W')∨(e=.returned (.bool false)∧∃q,Jx q W'):=by
 have hY:∀pre (x:PartW w) W,J pre W→Fit L pre [x.1.2]→YieldAt Fence.wide 0 Tryz.prog l #[x.1.1] W fun e W'=>(e=.returned (.bool true)∧J (pre++[x]) W'∧KC w.heap.size B W W')∨(e=.returned (.bool false)∧Jx (pre++[x]) W'):=fun pre x W h hl=>(hY0 pre x W h hl).mono fun e W' hh=>by
  rcases hh with ⟨he,hk,hj⟩|⟨he,hk,hj⟩
  ·exact .inl ⟨he,hj,hk.1⟩
  ·exact .inr ⟨he,hj⟩
 intro m
 induction m with
 | zero =>
  intro n v rung kids pre W hb hBW hyb hnb hab hr hw hJ hN
  have hk:kids=[]:=by
   obtain ⟨a,cap,rfl,hl,hx⟩:=hr
   cases kids with
   | nil=>rfl
   | cons k r=>obtain ⟨_,_,_,_,_,_,_,h⟩:=hx 0 k rfl;exact h.elim
  subst hk
  exact arms_step w B l By Bn Ba L hBw hBy hBn hBa J Jx hJg hY (ArmIs w 0 0) (fun _=>[]) (fun _=>[]) n v rung [] pre W hb hBW hyb hnb hab hr hJ hN (fun t cs h=>by simp at h)
 | succ m ih =>
  intro n v rung kids pre W hb hBW hyb hnb hab hr hw hJ hN
  have e:kids.flatMap (pArm (m+1) rung)=kids.flatMap (fun t=>(match t with|.mk net coils ks=>if zce net then [] else pNet m net)++Sum.inr (t,rung)::(match t with|.mk net coils ks=>ks.flatMap (pArm m false))):=by
   congr 1;funext t;cases t;rfl
  rw [e] at hN ⊢
  refine arms_step w B l By Bn Ba L hBw hBy hBn hBa J Jx hJg hY (ArmIs w 0 (m+1)) _ _ n v rung kids pre W hb hBW hyb hnb hab hr hJ hN ?_
  intro t cs ht hR
  have hwt:wA (m+1) t≤1048576:=zim _ _ _ ht hw
  cases t with
  | mk net coils ks =>
   have hR':=hR
   obtain ⟨ns,v3,v4,rfl,hn,hc,hk⟩:=hR
   have hn':=hn
   cases m with
   | zero=>exact hn.elim
   | succ m' =>
    cases net with
    | mk k e nk =>
     obtain ⟨v1,v2,rfl,ha,hnk⟩:=hn
     obtain ⟨a1,c1,rfl,hl1,_⟩:=id ha
     obtain ⟨a2,c2,rfl,hl2,_⟩:=id hnk
     obtain ⟨a3,c3,rfl,_,_⟩:=id hc
     obtain ⟨a4,c4,rfl,_,_⟩:=id hk
     have hww:=hwt
     rw [show wA (m'+1+1) (ArmT.mk (NetT.mk k e nk) coils ks)=wN (m'+1) (NetT.mk k e nk)+(coils.length+(coils.map wE).sum)+(ks.length+(ks.map (wA (m'+1))).sum) from rfl] at hww
     refine ⟨k,e.op,a1,_,c1,a2,_,c2,a3,_,c3,a4,_,c4,zce (.mk k e nk),rfl,fun r=>⟨m'+1+1,_,hR',hwt,rfl⟩,fun W=>?_,fun hnn=>?_,fun hnn n' pre' W' hb' hBW' hyb' hnb' hJ' hN'=>?_,fun n' pre' W' hb' hBW' hyb' hnb' hab' hJ' hN'=>?_⟩
     ·rw [zfb];exact none_i k e.op a1 _ c1 a2 _ c2 W hl1 hl2
     ·show (if zce (.mk k e nk) then [] else pNet (m'+1) (.mk k e nk))=[]
      rw [hnn];rfl
     ·have eP:(if zce (.mk k e nk) then ([]:List PartT) else pNet (m'+1) (.mk k e nk))=pNet (m'+1) (.mk k e nk):=by rw [hnn];simp
      have hN2:Fit L pre' (if zce (.mk k e nk) then ([]:List PartT) else pNet (m'+1) (.mk k e nk)):=hN'
      rw [eP] at hN2
      have h:=net1_in w B l By b0 b1 L hBw hBb h01 hBy J Jx hJd hJxd hY0 (m'+1) n' k e.op a1 _ c1 a2 _ c2 (NetT.mk k e nk) pre' W' hb' (hJs _ _ hJ') hyb' hn' (by omega) hJ' hN2
      rw [←eP] at h
      exact h
     ·exact ih n' _ false ks pre' W' hb' hBW' hyb' hnb' hab' (RowIs.rowB hk (by omega) hb' hBw) (by omega) hJ' hN'
set_option maxRecDepth 100000 in
theorem parts1_in(w:World)(B Bx l m b0 b1:Nat)(L:List PartT)(hBw:w.heap.size≤B)(hBb:B<b1)(h01:b0≤b1)(hBx:Bx≠B)(J Jx:List (PartW w)→World→Prop)(hJg:∀pre W W',Below W.heap.size W W'→J pre W→J pre W')(hJd:Dep b1 J)(hJxd:Dep b1 Jx)(hJs:∀pre W,J pre W→b1≤W.heap.size)
  (n:Nat) (hY:∀pre (x:PartW w) W,J pre W→Fit L pre [x.1.2]→YieldAt Fence.wide (n-1) Tryz.prog l #[x.1.1] W fun e W'=>(e=.returned (.bool true)∧KD w.heap.size B b0 W W'∧J (pre++[x]) W')∨(e=.returned (.bool false)∧KQ b0 W W'∧Jx (pre++[x]) W'))
  (v:Value) (kids:List ArmT) (W:World) (hb:Below w.heap.size w W) (hBW:B<W.heap.size) (hc:W.cell? ⟨Bx,0,none⟩=some v) (hr:ArmsIs w 0 m v kids) (hw:(kids.map (wA m)).sum≤1048576) (hJ:J [] W) (hN:Fit (w:=w) L [] (kids.flatMap (pArm m true))) :
   CallsIn Fence.wide n Tryz.prog 89 #[.func (.yield l) #[] #[],.pointer (some ⟨Bx,0,none⟩)] W fun e W' =>
    (∃v,e=.returned v)∧((∃ys,zaf ys=kids.flatMap (pArm m true)∧J ys W')∨(∃q,True∧Jx q W')):=by
 have hdd:∀k:Nat,(Fence.wide.depth.isSome=true→1≤k):=fun k h=>by cases h
 have hmf:∀(fn:Fn)(first cap:Array Value)(w:World),(Instr.makeFunc fn first cap).run Tryz.prog w=.ok (.func fn first cap) w:=fun _ _ _ _=>rfl
 have stf:∀(fn:Fn)(first cap:Array Value)(w:World)(a:Addr)(m:Mode),(store a (.func fn first cap) m).run Tryz.prog w=stored Tryz.prog w a (.func fn first cap) m:=fun _ _ _ w a m=>run_store Tryz.prog w a _ m rfl
 have hr0:=hr
 obtain ⟨a,cap,rfl,_,_⟩:=hr0
 have lx:Bx<W.heap.size:=World.block_lt_of_cell? _ _ hc
 obtain ⟨W1,hW1⟩:∃W1,W1=(((W.alloc (.cells #[.func (.yield l) #[] #[]] 153)).alloc (.cells #[.func (.func 90) #[] #[.pointer (some ⟨W.heap.size,0,none⟩)]] 119)).alloc (.cells #[.func (.func 92) #[] #[.pointer (some ⟨W.heap.size+1,0,none⟩),.pointer (some ⟨W.heap.size,0,none⟩),.pointer (some ⟨W.heap.size+1+1,0,none⟩)]] 155)):=⟨_,rfl⟩
 have g1:Below W.heap.size W W1:=by rw [hW1];exact (((Below.refl _ _).alloc (Nat.le_refl _) _).alloc (by simp) _).alloc (by simp<;>omega) _
 have hk:=rows3 W (.cells #[.func (.yield l) #[] #[]] 153) (.cells #[.func (.func 90) #[] #[.pointer (some ⟨W.heap.size,0,none⟩)]] 119) (.cells #[.func (.func 92) #[] #[.pointer (some ⟨W.heap.size+1,0,none⟩),.pointer (some ⟨W.heap.size,0,none⟩),.pointer (some ⟨W.heap.size+1+1,0,none⟩)]] 155)
 rw [←hW1] at hk
 have hca:=arms_in w B l W.heap.size (W.heap.size+1) (W.heap.size+1+1) b0 b1 L hBw hBb h01 (by omega) (by omega) (by omega) J Jx hJg hJd hJxd hJs (fun pre x W h hl=>zdb 0 (hY pre x W h hl)) m (n-1) _ true kids [] W1 (hb.trans (g1.mono hb.size)) (Nat.lt_of_lt_of_le hBW g1.size) hk.1 hk.2.1 hk.2.2 (RowIs.rowB hr (by omega) (hb.trans (g1.mono hb.size)) hBw) hw (hJg _ _ _ g1 hJ) hN
 have cx:W1.cell? ⟨Bx,0,none⟩=some (.slice a kids.length cap):=(Keeps.of_below g1 0) _ _ _ (Nat.zero_le _) hc
 rw [hW1] at hca cx
 clear hk g1 hW1 hY hJg
 refine callsIn_of_wp Tryz.func89 rfl trivial ?_ rfl
 simp only [Tryz.ntmps89,List.size_toArray,List.length_cons,List.length_nil,Nat.reduceAdd,Nat.reduceSub,Array.replicate_succ,Array.replicate_zero,List.push_toArray,List.append_toArray,List.nil_append,List.cons_append]
 gi_wp2
 refine ⟨trivial,hdd _,?_⟩
 refine hca.mono ?_
 rintro e W3 (⟨rfl,⟨ys,hys,hJ3⟩,_⟩|⟨rfl,q,hx⟩)
 ·gi_wp2
  go_end0
  exact ⟨⟨_,rfl⟩,.inl ⟨ys,hys,by simpa using hJ3⟩⟩
 ·gi_wp2
  go_end0
  exact ⟨⟨_,rfl⟩,.inr ⟨q,trivial,hx⟩⟩
attribute [local go_sem] Oper.semAt_some
def pSize:PartT→Nat
 | .inl _=>1
 | .inr (.mk _ coils _,_)=>1+coils.length
def zdc{w:World}(ys:List (PartW w)):Nat:=((zaf ys).map pSize).sum
theorem zin{w:World}(ys:List (PartW w))(x:PartW w):zdc (ys++[x])=zdc ys+pSize x.1.2:=by simp [zdc,zaf]
theorem pSize_le{w:World}(x:PartW w):pSize x.1.2≤1048577:=by
 obtain ⟨⟨v,g⟩,h⟩:=x
 cases g with
 | inl t=>show 1≤_;omega
 | inr a =>
  obtain ⟨a,r⟩:=a
  obtain ⟨m,cs,hA,hw,_⟩:=h
  cases m with
  | zero=>exact hA.elim
  | succ m =>
   cases a with
   | mk net coils kids =>
    replace hw:wA (m+1) (.mk net coils kids)≤1048576:=hw
    have:wA (m+1) (.mk net coils kids)=wN m net+(coils.length+(coils.map wE).sum)+(kids.length+(kids.map (wA m)).sum):=rfl
    show 1+coils.length≤_
    omega
theorem parts_i(a:Option Addr)(l c:Nat)(w:World):Calls Tryz.prog 49 #[.slice a l c] w fun e w'=>e=.returned (.func (.func 89) #[] #[.pointer (some ⟨w.heap.size,0,none⟩)])∧w'=w.alloc (.cells #[.slice a l c] 23):=by
 have hmf:∀(fn:Fn)(first cap:Array Value)(w:World),(Instr.makeFunc fn first cap).run Tryz.prog w=.ok (.func fn first cap) w:=fun _ _ _ _=>rfl
 go_enter Tryz.func49,Tryz.ntmps49
 go_wp2
 go_ret
 exact ⟨rfl,rfl⟩
theorem zhk{W W':World}(g:Below W.heap.size W W'){b o:Nat}{v:Value}(hf:W.frozen? ⟨b,o,none⟩=false)(hc:W.cell? ⟨b,o,none⟩=some v):W'.frozen? ⟨b,o,none⟩=false:=by
 have hh:=g.block b (World.block_lt_of_cell? _ _ hc)
 unfold World.frozen? at hf ⊢
 rw [hh];exact hf
theorem kd_l{n₀ B:Nat}{W0:World}(hn:n₀≤W0.heap.size)(W:World)(r:Loop)(o':Obj)(h:W.heap[W0.heap.size+1]?=some (.loop r)):KD n₀ B (W0.heap.size+2) W (W.putObj (W0.heap.size+1) o') :=
 ⟨kc_b (w:=W0) hn W _ _ o' (by omega) h rfl rfl,KeepsFrom.of_grownBy (grownBy_putObj' W _ o') (fun j e=>by cases e;omega)⟩
theorem kq_l{b0:Nat}{W0:World}(hb:b0≤W0.heap.size+2)(W:World)(r:Loop)(o':Obj)(h:W.heap[W0.heap.size+1]?=some (.loop r)):KQ (W0.heap.size+2) W (W.putObj (W0.heap.size+1) o') :=
 ⟨fun b C t f hb' hc=>by rw [World.putObj_heap_other (by omega)];exact hc,KeepsFrom.of_grownBy (grownBy_putObj' W _ o') (fun j e=>by cases e;omega)⟩
theorem zdl{b k o:Nat}{v:Value}{W W':World}(g:Below b W W')(h:k<b)(hc:W.cell? ⟨k,o,none⟩=some v):W'.cell? ⟨k,o,none⟩=some v:=by
 have e:=g.block k h
 unfold World.cell? at hc ⊢
 rw [e];exact hc
theorem dep_frozen{b k o:Nat}{v:Bool}{W W':World}(g:Below b W W')(h:k<b)(hc:W.frozen? ⟨k,o,none⟩=v):W'.frozen? ⟨k,o,none⟩=v:=by
 have e:=g.block k h
 unfold World.frozen? at hc ⊢
 rw [e];exact hc
theorem parts_seq(w:World)(B Bx m n:Nat)(hBw:w.heap.size≤B)(hBx:Bx≠B)(v:Value)(xs:List ArmT)(W0:World)(g0:Below w.heap.size w W0)(hB:B<W0.heap.size)(c1:W0.cell? ⟨Bx,0,none⟩=some v)(hv:ArmsIs w 0 m v xs)(hw:(xs.map (wA m)).sum≤1048576) :
  SeqN n Tryz.prog 89 #[.pointer (some ⟨Bx,0,none⟩)] (fun x:PartW w=>#[x.1.1]) (KD w.heap.size B (W0.heap.size+2)) (KQ (W0.heap.size+2)) (fun ys=>zaf ys=xs.flatMap (pArm m true)) (fun pre x=>Fit (xs.flatMap (pArm m true)) pre [x.1.2]) W0:=fun l J Jx W hW hsz hJ hJx hY h0=>by
 have h:=parts1_in w B Bx l m (W0.heap.size+2) W.heap.size (xs.flatMap (pArm m true)) hBw (by omega) hsz hBx (fun ys X=>J ys X∧W.heap.size≤X.heap.size) Jx (fun pre X Y g h=>⟨hJ _ _ _ (g.mono h.2) h.1,Nat.le_trans h.2 g.size⟩) (fun s X Y g h=>⟨hJ _ _ _ g h.1,Nat.le_trans h.2 g.size⟩) hJx (fun _ _ h=>h.2) n (fun pre x X h hl=>(hY pre x X h.1 hl).mono fun e W' hh=>by
   rcases hh with ⟨he,hk,hj⟩|⟨he,hk,hj⟩
   ·exact .inl ⟨he,hk,hj,Nat.le_trans h.2 hk.2.size⟩
   ·exact .inr ⟨he,hk,hj⟩) v xs W (g0.trans (hW.mono g0.size)) (by have:=hW.size;omega) ((Keeps.of_below hW 0) _ _ _ (Nat.zero_le _) c1) hv hw ⟨h0,Nat.le_refl _⟩ (List.prefix_refl _)
 refine h.mono fun e W' hh=>⟨hh.1,?_⟩
 rcases hh.2 with ⟨ys,k1,k2⟩|⟨q,_,k1⟩
 ·exact .inl ⟨ys,k1,k2.1⟩
 ·exact .inr ⟨q,k1⟩
theorem netSize_i(c0 c1 c2 c3:Value)(w:World):Calls Tryz.prog 297 #[.agg #[c0,c1,c2,c3]] w fun e w'=>e=.returned (.int .i64 1)∧Below w.heap.size w w':=by
 go_enter Tryz.func297,Tryz.ntmps297
 go_wp2
 go_ret
 exact ⟨rfl,(Below.refl _ _).alloc (Nat.le_refl _) _⟩
theorem armSize_i(c0 c1 c2 c3 c5 c6:Value)(a:Option Addr)(l cap:Nat)(hl:l≤1048576)(w:World):Calls Tryz.prog 283 #[.agg #[c0,c1,c2,c3,.slice a l cap,c5,c6]] w fun e w'=>e=.returned (.int .i64 (1+(l:Int)))∧Below w.heap.size w w':=by
 have h0:(0:Int)≤(l:Int):=by omega
 have h1:(l:Int)≤1048576:=by omega
 go_enter Tryz.func283,Tryz.ntmps283
 go_wp2
 go_ret
 exact ⟨rfl,(Below.refl _ _).alloc (Nat.le_refl _) _⟩
theorem part_size{w:World}(x:Value×PartT)(h:POk w x):∃T u f,x.1=.iface T u∧(∀W,Calls Tryz.prog f #[u] W fun e w'=>e=.returned (.int .i64 (pSize x.2))∧Below W.heap.size W w')∧((T=186∧f=297)∨(T=157∧f=283)):=by
 obtain ⟨v,g⟩:=x
 cases g with
 | inl t =>
  obtain ⟨m,cs,hN,hw,rfl⟩:=h
  obtain ⟨c0,c1,c2,c3,rfl,_⟩:=hN.cells
  exact ⟨_,_,_,rfl,fun W=>netSize_i c0 c1 c2 c3 W,.inl ⟨rfl,rfl⟩⟩
 | inr a =>
  have hle:pSize (.inr a)≤1048577:=pSize_le (w:=w) ⟨(v,.inr a),h⟩
  obtain ⟨a,r⟩:=a
  obtain ⟨m,cs,hA,hw,rfl⟩:=h
  cases m with
  | zero=>exact hA.elim
  | succ m =>
   cases a with
   | mk net coils kids =>
    obtain ⟨ns,v3,v4,rfl,hn,hc,hk⟩:=hA
    obtain ⟨c0,c1,c2,c3,rfl,_⟩:=hn.cells
    obtain ⟨a3,cap3,rfl,_,_⟩:=id hc
    have hle2:1+coils.length≤1048577:=hle
    refine ⟨_,_,_,rfl,fun W=>?_,.inr ⟨rfl,rfl⟩⟩
    have:=armSize_i c0 c1 c2 c3 v4 (.bool r) a3 coils.length cap3 (by omega) W
    show Calls _ _ _ W fun e w'=>e=.returned (.int .i64 ((1+coils.length:Nat):Int))∧_
    rw [show ((1+coils.length:Nat):Int)=1+(coils.length:Int) by omega]
    exact this
theorem wrap_small64{x:Int}(h0:0≤x)(h1:x≤9223372036854775807):IntKind.i64.wrap x=x:=by rw [IntKind.wrap_i64];omega
theorem round_end{n₀ B:Nat}{W W1 w':World}(hn:n₀≤B)(hW:n₀≤W.heap.size)(e1:W1=W∨W1=W.drew)(g:Below W1.heap.size W1 w'){x:Value}(hc:w'.cell? ⟨B,0,none⟩=some x)(hf:w'.frozen? ⟨B,0,none⟩=false)(v:Value) :
  KeepsOthers W (w'.setCell ⟨B,0,none⟩ v)∧KC n₀ B W (w'.setCell ⟨B,0,none⟩ v)∧(w'.setCell ⟨B,0,none⟩ v).cell? ⟨B,0,none⟩=some v∧(w'.setCell ⟨B,0,none⟩ v).frozen? ⟨B,0,none⟩=false:=by
 have k1:KeepsOthers W W1∧Below n₀ W W1∧W1.heap=W.heap:=by
  rcases e1 with rfl|rfl
  ·exact ⟨KeepsOthers.refl _,Below.refl _ _,rfl⟩
  ·exact ⟨KeepsOthers.drew _,(Below.refl _ _).drew,rfl⟩
 have hg:W1.grownBy w' none:=⟨g.os,g.tape,g.output,g.size,fun k hk _=>g.block k hk⟩
 refine ⟨(k1.1.trans (KeepsOthers.of_grownBy hg (fun j o e=>by cases e))).trans (KeepsOthers.setCell _ _ _),⟨(k1.2.1.trans (g.mono (by rw [k1.2.2];exact hW))).setCell (p:=⟨B,0,none⟩) hn _,fun b C t f hb hr=>?_⟩,World.cell?_setCell_same' _ _ _ (by rw [hc];rfl),by rw [World.frozen?_setCell];exact hf⟩
 have h2:w'.heap[b]?=some (.cells C t f):=(g.block b (by rw [k1.2.2];exact (Array.getElem?_eq_some_iff.1 hr).1)).trans (by rw [k1.2.2];exact hr)
 exact zbm h2 B 0 (fun e=>hb e.symm) v
end Go.Proofs.YtllmabgollkigaaGreatDoor
