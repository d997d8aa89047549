/- The Op of an element's text. -/
import Derived.Test.YtllmabgollkigaaGreatDoorJ0M
import Derived.Test.YtllmabgollkigaaGreatDoorRaM
namespace Go.Proofs.YtllmabgollkigaaGreatDoor
open Go.RowKit
set_option linter.unusedVariables false
theorem opF_is(s:ByteArray)(n:Nat)(h1:1≤n)(hm:mtc s n=true):∀N,n≤N→(∀m,n<m→m≤N→mtc s m=false)→opF s N=n
 | 0,h,_=>by omega
 | N+1,h,hno=>by
  unfold opF
  by_cases e:n=N+1
  ·subst e;rw [if_pos hm]
  ·rw [if_neg (by rw [hno (N+1) (by omega) (Nat.le_refl _)];simp)]
   exact opF_is s n h1 hm N (by omega) fun m a b=>hno m a (by omega)
theorem cut_58{a b R:List UInt8}(ha:∀x∈a,x≠58)(hb:∀x∈b,x≠58)(h:(b++[58]).isPrefixOf (a++58::R)=true):a=b:=by
 rw [List.isPrefixOf_iff_prefix] at h
 obtain ⟨t,ht⟩:=h
 induction a generalizing b with
 | nil =>
  cases b with
  | nil=>rfl
  | cons y b=>simp at ht;exact absurd ht.1 (hb y (by simp))
 | cons x a ih =>
  cases b with
  | nil=>simp at ht;exact absurd ht.1.symm (ha x (by simp))
  | cons y b =>
   simp only [List.cons_append,List.cons.injEq] at ht
   rw [ht.1,ih (fun z hz=>ha z (by simp [hz])) (fun z hz=>hb z (by simp [hz])) ht.2]
theorem ahd_coil(op:Int)(h1:21≤op)(h2:op≤37):∃c nm,(ahd op).data.toList=(c::nm)++[58]∧(∀b∈c::nm,b≠58)∧97≤c.toNat∧c.toNat≠110∧c.toNat≠105:=by
 have:op=21∨op=22∨op=23∨op=24∨op=25∨op=26∨op=27∨op=28∨op=29∨op=30∨op=31∨op=32∨op=33∨op=34∨op=35∨op=36∨op=37:=by omega
 rcases this with rfl|rfl|rfl|rfl|rfl|rfl|rfl|rfl|rfl|rfl|rfl|rfl|rfl|rfl|rfl|rfl|rfl
 ·exact ⟨111,[117,116],rfl,by decide,by decide,by decide,by decide⟩
 ·exact ⟨115,[101,116],rfl,by decide,by decide,by decide,by decide⟩
 ·exact ⟨114,[101,115,101,116],rfl,by decide,by decide,by decide,by decide⟩
 ·exact ⟨112,[117,108,115,101],rfl,by decide,by decide,by decide,by decide⟩
 ·exact ⟨115,[116,101,112],rfl,by decide,by decide,by decide,by decide⟩
 ·exact ⟨116,[105,109,101,114],rfl,by decide,by decide,by decide,by decide⟩
 ·exact ⟨104,[111,108,100],rfl,by decide,by decide,by decide,by decide⟩
 ·exact ⟨108,[97,116,101],rfl,by decide,by decide,by decide,by decide⟩
 ·exact ⟨99,[111,117,110,116],rfl,by decide,by decide,by decide,by decide⟩
 ·exact ⟨109,[111,118,101],rfl,by decide,by decide,by decide,by decide⟩
 ·exact ⟨97,[100,100],rfl,by decide,by decide,by decide,by decide⟩
 ·exact ⟨115,[117,98],rfl,by decide,by decide,by decide,by decide⟩
 ·exact ⟨109,[117,108],rfl,by decide,by decide,by decide,by decide⟩
 ·exact ⟨100,[105,118],rfl,by decide,by decide,by decide,by decide⟩
 ·exact ⟨114,[101,109],rfl,by decide,by decide,by decide,by decide⟩
 ·exact ⟨114,[101,97,108],rfl,by decide,by decide,by decide,by decide⟩
 ·exact ⟨119,[104,111,108,101],rfl,by decide,by decide,by decide,by decide⟩
theorem ahd_inj17:∀a∈List.range 17,∀b∈List.range 17,(ahd (21+(a:Int))).data.toList=(ahd (21+(b:Int))).data.toList→a=b:=by decide +kernel
theorem ahd_inj{a b:Int}(ha1:21≤a)(ha2:a≤37)(hb1:21≤b)(hb2:b≤37)(h:(ahd a).data.toList=(ahd b).data.toList):a=b:=by
 obtain ⟨x,hx⟩:=Int.eq_ofNat_of_zero_le (by omega:0≤a-21)
 obtain ⟨y,hy⟩:=Int.eq_ofNat_of_zero_le (by omega:0≤b-21)
 obtain rfl:a=21+(x:Int):=by omega
 obtain rfl:b=21+(y:Int):=by omega
 have:=ahd_inj17 x (List.mem_range.2 (by omega)) y (List.mem_range.2 (by omega)) h
 omega
theorem coil_pre{op:Int}{xs:List Arg}(h:rtk op xs=true)(m:Int)(h1:21≤m)(h2:m≤37)(hp:Lib.hasPrefix (etl op xs) (ahd m).data.toList=true):op=m:=by
 obtain ⟨c,nm,e,hn,hc1,hc2,hc3⟩:=ahd_coil m h1 h2
 rw [e] at hp
 obtain ⟨ho,hl⟩:=zbn h
 rcases ho with ⟨o1,o2⟩|⟨o1,o2⟩
 ·exfalso
  have hd:∀b r,etl op xs=b::r→b=c:=fun b r hbr=>by
   rw [hbr] at hp
   unfold Lib.hasPrefix at hp
   simp only [List.cons_append,List.isPrefixOf_cons_cons,Bool.and_eq_true,beq_iff_eq] at hp
   exact hp.1.symm
  have:op=1∨op=2∨op=3∨op=4∨(5≤op∧op≤10):=by omega
  have first:(ahd op).data.toList=[]→False:=fun ea=>by
   match xs,hl,zfn h with
   | [],hl,_=>have:=(zbo op (.inl ⟨o1,o2⟩)).1;simp at hl;omega
   | x::r,_,hok =>
    obtain ⟨z,hz⟩:=mid_head op x r
    obtain ⟨b,q,hb,hf⟩:=tl_first (hok x (by simp))
    have:=hd b (q++z) (by rw [zbd,ea,hz,hb];rfl)
    subst this
    omega
  have two:∀b:UInt8,(ahd op).data.toList=[b]→b.toNat<97→False:=fun b ea hb=>by
   have:=hd b (mid op xs) (by rw [zbd,ea];rfl)
   subst this
   omega
  rcases this with rfl|rfl|rfl|rfl|⟨a,b⟩
  ·exact first rfl
  ·exact two 47 rfl (by decide)
  ·exact two 43 rfl (by decide)
  ·exact two 45 rfl (by decide)
  ·refine first ?_
   have:op=5∨op=6∨op=7∨op=8∨op=9∨op=10:=by omega
   rcases this with rfl|rfl|rfl|rfl|rfl|rfl<;>rfl
 ·obtain ⟨d,nd,e',hn',_⟩:=ahd_coil op o1 o2
  have:d::nd=c::nm:=by
   refine cut_58 hn' hn (R:=mid op xs) ?_
   have:etl op xs=(d::nd)++58::mid op xs:=by rw [zbd,e'];simp
   rw [←this]
   exact hp
  exact ahd_inj o1 o2 h1 h2 (by rw [e,e',this])
theorem btw_inj6:∀a∈List.range 6,∀b∈List.range 6,(btw (5+(a:Int))).data.toList=(btw (5+(b:Int))).data.toList→a=b:=by decide +kernel
theorem btw_inj{a b:Int}(ha1:5≤a)(ha2:a≤10)(hb1:5≤b)(hb2:b≤10)(h:(btw a).data.toList=(btw b).data.toList):a=b:=by
 obtain ⟨x,hx⟩:=Int.eq_ofNat_of_zero_le (by omega:0≤a-5)
 obtain ⟨y,hy⟩:=Int.eq_ofNat_of_zero_le (by omega:0≤b-5)
 obtain rfl:a=5+(x:Int):=by omega
 obtain rfl:b=5+(y:Int):=by omega
 have:=btw_inj6 x (List.mem_range.2 (by omega)) y (List.mem_range.2 (by omega)) h
 omega
theorem btw_cmp(a:Int)(h1:5≤a)(h2:a≤10):(ahd a).data.toList=[]∧(btw a).data.toList≠[]∧(btw a).data.toList≠[58]∧(btw a).data.toList≠[44]:=by
 have:a=5∨a=6∨a=7∨a=8∨a=9∨a=10:=by omega
 rcases this with rfl|rfl|rfl|rfl|rfl|rfl<;>decide
theorem toList_beq(a b:ByteArray):(a.toList==b.toList)=(a.data.toList==b.data.toList):=by rw [Lib.toList_data,Lib.toList_data]
theorem bit_first{op:Int}{xs:List Arg}(h:rtk op xs=true)(h1:1≤op)(h4:op≤2):∃b r,mid op xs=b::r∧65≤b.toNat∧b.toNat≤90:=by
 have e:ndP op=[1]∧orP op=[]:=by
  have:op=1∨op=2:=by omega
  rcases this with rfl|rfl<;>exact ⟨rfl,rfl⟩
 have hl:=(zbn h).2
 rw [e.1] at hl
 match xs,hl with
 | [x],_ =>
  have:tk [1] [x]=true:=by
   unfold rtk at h
   rw [e.1,e.2] at h
   rcases Bool.or_eq_true _ _ ▸ h with h|h
   ·exact h
   ·simp [tk] at h
  have hp:pp 1 x=true:=by
   unfold tk at this
   simp only [Bool.and_eq_true,List.all_eq_true] at this
   exact this.2 0 (List.mem_range.2 (by simp))
  have hq:okA x.1 x.2.1 x.2.2=true∧kB x.1=true:=by simpa [pp] using hp
  rw [zbu]
  exact tl_cap hq.1 hq.2
theorem sgn_beq{s:ByteArray}(l:List UInt8)(hs:s=⟨l.toArray⟩)(ha:∀b∈l,b.toNat<128)(t:ByteArray):((sgn s).toList==t.toList)=(sgnL l==t.data.toList):=by
 have e:s.data.toList=l:=by rw [hs]
 rw [toList_beq,sgn_asc s (by rw [e];exact ha),e]
theorem mtc_own{n:Nat}{xs:List Arg}(h:rtk n xs=true):mtc ⟨(etl n xs).toArray⟩ n=true:=by
 obtain ⟨ho,hl⟩:=zbn h
 have hr:=zbo n ho
 have hp:Lib.hasPrefix (etl n xs) (ahd n).data.toList=true:=by
  unfold Lib.hasPrefix
  rw [List.isPrefixOf_iff_prefix,zbd]
  exact List.prefix_append _ _
 have ht:Lib.trimPrefix (etl n xs) (ahd n).data.toList=mid n xs:=by
  unfold Lib.trimPrefix
  rw [if_pos hp,zbd,List.drop_left]
 unfold mtc
 simp only
 rw [hp,ht,sgn_beq (mid n xs) rfl (mid_asc ho)]
 have:=sgn_mid h [] (by simp)
 rw [List.nil_append] at this
 rw [this]
 have h0:0<(ndP n).length:=by omega
 simp [h0]
theorem mtc_other{n:Nat}{xs:List Arg}(h:rtk n xs=true)(m:Nat)(hnm:n<m)(hm:m≤37):mtc ⟨(etl n xs).toArray⟩ m=false:=by
 obtain ⟨ho,hl⟩:=zbn h
 have key:∀b:Bool,(b=true→False)→b=false:=fun b hb=>by cases b<;>simp_all
 refine key _ fun ht=>?_
 unfold mtc at ht
 simp only [Bool.and_eq_true,decide_eq_true_eq] at ht
 obtain ⟨hp,hc,hs⟩:=ht
 by_cases h21:21≤m
 ·have:=coil_pre h m (by omega) (by omega) hp
  omega
 by_cases h11:11≤m
 ·have e:ndP (m:Int)=[]:=by unfold ndP;repeat rw [if_neg (by omega)]
  rw [e] at hc
  simp at hc
 by_cases h5:5≤m
 ·have hb:=btw_cmp m (by omega) (by omega)
  have e:Lib.trimPrefix (etl n xs) (ahd m).data.toList=etl n xs:=by
   unfold Lib.trimPrefix
   rw [hb.1];simp
  rw [e,sgn_beq (etl n xs) rfl (etl_asc ho),beq_iff_eq,zbd] at hs
  rw [sgn_mid h (ahd n).data.toList (by
   have:n=1∨n=2∨n=3∨n=4∨n=5∨n=6∨n=7∨n=8∨n=9:=by omega
   rcases this with rfl|rfl|rfl|rfl|rfl|rfl|rfl|rfl|rfl<;>decide)] at hs
  by_cases n5:5≤n
  ·have:=btw_inj (by omega) (by omega) (by omega) (by omega) hs
   omega
  ·rw [←hs] at hb
   have:n=1∨n=2∨n=3∨n=4:=by omega
   rcases this with rfl|rfl|rfl|rfl
   ·exact hb.2.1 rfl
   ·exact hb.2.1 rfl
   ·exact hb.2.2.1 rfl
   ·exact hb.2.2.1 rfl
 ·have hd:∀b r,etl n xs=b::r→∀c:UInt8,(ahd m).data.toList=[c]→b=c:=fun b r hbr c hc=>by
   rw [hbr,hc] at hp
   unfold Lib.hasPrefix at hp
   simp only [List.isPrefixOf_cons_cons,Bool.and_eq_true,beq_iff_eq] at hp
   exact hp.1.symm
  have hmc:(m=2∧(ahd m).data.toList=[47])∨(m=3∧(ahd m).data.toList=[43])∨(m=4∧(ahd m).data.toList=[45]):=by
   have:m=2∨m=3∨m=4:=by omega
   rcases this with rfl|rfl|rfl
   ·exact .inl ⟨rfl,rfl⟩
   ·exact .inr (.inl ⟨rfl,rfl⟩)
   ·exact .inr (.inr ⟨rfl,rfl⟩)
  have:n=1∨n=2∨n=3:=by omega
  rcases this with rfl|rfl|rfl
  ·obtain ⟨b,r,e,b1,b2⟩:=bit_first h (by decide) (by decide)
   have e':etl ((1:Nat):Int) xs=b::r:=by rw [zbd,e];rfl
   rcases hmc with ⟨_,hc⟩|⟨_,hc⟩|⟨_,hc⟩<;>(have:=hd b r e' _ hc;subst this;revert b1 b2;decide)
  ·rcases hmc with ⟨_,hc⟩|⟨_,hc⟩|⟨_,hc⟩
   ·omega
   ·exact absurd (hd 47 (mid _ xs) rfl _ hc) (by decide)
   ·exact absurd (hd 47 (mid _ xs) rfl _ hc) (by decide)
  ·rcases hmc with ⟨_,hc⟩|⟨_,hc⟩|⟨_,hc⟩
   ·omega
   ·omega
   ·exact absurd (hd 43 (mid _ xs) rfl _ hc) (by decide)
theorem opOf_etl{op:Int}{xs:List Arg}(h:rtk op xs=true):(opOf ⟨(etl op xs).toArray⟩:Int)=op:=by
 have ho:=(zbn h).1
 obtain ⟨n,rfl⟩:=Int.eq_ofNat_of_zero_le (by omega:0≤op)
 have:=opF_is ⟨(etl n xs).toArray⟩ n (by omega) (mtc_own h) 37 (by omega) (fun m a b=>mtc_other h m a b)
 unfold opOf
 rw [this]
end Go.Proofs.YtllmabgollkigaaGreatDoor
