/- The text of an operand, as a list of signs. -/
import Derived.Test.YtllmabgollkigaaGreatDoorRaM
import Derived.Test.YtllmabgollkigaaGreatDoorHf
namespace Go.Proofs.YtllmabgollkigaaGreatDoor
open Go.RowKit
open Go.Lib (decDigits itoa)
set_option linter.unusedVariables false
theorem tl_ne{x:Arg}(h:okA x.1 x.2.1 x.2.2=true):tl x≠[]:=by
 have:=(zcb h).ne
 rwa [Lib.toList_data] at this
theorem zht{k n p:Int}{s:ByteArray}(h:Shape k n p s):∃b r,s.data.toList=b::r∧(b.toNat=45∨(48≤b.toNat∧b.toNat≤57)∨(65≤b.toNat∧b.toNat≤90)∨b.toNat=110∨b.toNat=105)∧(1≤k→k≤10→65≤b.toNat∧b.toNat≤90):=by
 cases h with
 | word i h =>
  rw [wd_tx i h,zat]
  rcases c4 i h with rfl|rfl|rfl|rfl
  ·exact ⟨_,_,rfl,by decide,by intro _ h;omega⟩
  ·exact ⟨_,_,rfl,by decide,by intro _ h;omega⟩
  ·exact ⟨_,_,rfl,by decide,by intro _ h;omega⟩
  ·exact ⟨_,_,rfl,by decide,by intro _ h;omega⟩
 | dev k u h1 h2 h3 =>
  have hl:65≤(lc k).toNat∧(lc k).toNat≤90:=by
   rcases c10 k h1 h2 with rfl|rfl|rfl|rfl|rfl|rfl|rfl|rfl|rfl|rfl<;>decide
  exact ⟨lc k,decDigits u,zat _,by omega,fun _ _=>hl⟩
 | pos u h=>obtain ⟨b,r,e,hb⟩:=zew u;rw [zat,e];exact ⟨b,r,rfl,.inr (.inl hb),by intro _ h;omega⟩
 | neg u h0 h=>rw [zat];exact ⟨_,_,rfl,.inl (by decide),by intro _ h;omega⟩
 | dpos u p h hp=>obtain ⟨b,r,e,hb⟩:=zex u p;rw [zat,e];exact ⟨b,r,rfl,.inr (.inl hb),by intro _ h;omega⟩
 | dneg u p h0 h hp=>rw [zat];exact ⟨_,_,rfl,.inl (by decide),by intro _ h;omega⟩
theorem tl_first{x:Arg}(h:okA x.1 x.2.1 x.2.2=true):∃b r,tl x=b::r∧(b.toNat=45∨(48≤b.toNat∧b.toNat≤57)∨(65≤b.toNat∧b.toNat≤90)∨b.toNat=110∨b.toNat=105):=by
 obtain ⟨b,r,e,h1,_⟩:=zht (zcb h)
 exact ⟨b,r,e,h1⟩
theorem tl_cap{x:Arg}(h:okA x.1 x.2.1 x.2.2=true)(hk:kB x.1=true):∃b r,tl x=b::r∧65≤b.toNat∧b.toNat≤90:=by
 obtain ⟨b,r,e,_,h2⟩:=zht (zcb h)
 have:1≤x.1∧x.1≤10:=by
  unfold kB at hk
  simp at hk
  omega
 exact ⟨b,r,e,h2 this.1 this.2⟩
theorem shape_inj{k n p k' n' p':Int}{s:ByteArray}(h:Shape k n p s)(h':Shape k' n' p' s):(k,n,p)=(k',n',p'):=by
 by_cases hk:k=13
 ·by_cases hk':k'=13
  ·subst hk;subst hk'
   have e1:∃i:Nat,i<4∧n=i∧p=0∧s=wd i:=by
    generalize hq:(13:Int)=q at h
    cases h with
    | word i hi=>exact ⟨i,hi,rfl,rfl,rfl⟩
    | dev k u h1 h2 h3=>omega
    | pos u h=>omega
    | neg u h0 h=>omega
    | dpos u p h hp=>omega
    | dneg u p h0 h hp=>omega
   have e2:∃i:Nat,i<4∧n'=i∧p'=0∧s=wd i:=by
    generalize hq:(13:Int)=q at h'
    cases h' with
    | word i hi=>exact ⟨i,hi,rfl,rfl,rfl⟩
    | dev k u h1 h2 h3=>omega
    | pos u h=>omega
    | neg u h0 h=>omega
    | dpos u p h hp=>omega
    | dneg u p h0 h hp=>omega
   obtain ⟨i,hi,rfl,rfl,es⟩:=e1
   obtain ⟨j,hj,rfl,rfl,es'⟩:=e2
   have:=zjp j hj i hi
   rw [←es,←es',cmp_self] at this
   have:=of_decide_eq_true this.symm
   rw [this]
  ·exfalso
   have hn:=h'.nw hk'
   subst hk
   generalize hq:(13:Int)=q at h
   cases h with
   | word i hi=>exact hn i hi rfl
   | dev k u h1 h2 h3=>omega
   | pos u h=>omega
   | neg u h0 h=>omega
   | dpos u p h hp=>omega
   | dneg u p h0 h hp=>omega
 ·by_cases hk':k'=13
  ·exfalso
   have hn:=h.nw hk
   subst hk'
   generalize hq:(13:Int)=q at h'
   cases h' with
   | word i hi=>exact hn i hi rfl
   | dev k u h1 h2 h3=>omega
   | pos u h=>omega
   | neg u h0 h=>omega
   | dpos u p h hp=>omega
   | dneg u p h0 h hp=>omega
  ·exact (h.gI hk).symm.trans (h'.gI hk')
theorem tl_inj{x y:Arg}(hx:okA x.1 x.2.1 x.2.2=true)(hy:okA y.1 y.2.1 y.2.2=true)(h:tl x=tl y):x=y:=by
 have e:txt x.1 x.2.1 x.2.2=txt y.1 y.2.1 y.2.2:=zcs h
 have h1:=zcb hx
 rw [e] at h1
 have:=shape_inj h1 (zcb hy)
 obtain ⟨a,b,c⟩:=x
 obtain ⟨a',b',c'⟩:=y
 exact this
theorem tl_le(x:Arg):(tl x).length≤18:=by
 by_cases h:okA x.1 x.2.1 x.2.2=true
 ·have hs:=zcb h
  have hc:∀u p,u≤999999999→p≤6→(cutp u p).length≤17:=fun u p h1 h2=>by
   have:=pad_len9 u p h1 h2
   unfold cutp
   simp only [List.length_append,List.length_take,List.length_drop,List.length_cons,List.length_nil]
   omega
  unfold tl
  generalize txt x.1 x.2.1 x.2.2=s at hs
  revert hs
  generalize x.1=k
  generalize x.2.1=n
  generalize x.2.2=p
  intro hs
  cases hs with
  | word i h=>rw [wd_tx i h,zat];rcases c4 i h with rfl|rfl|rfl|rfl<;>decide
  | dev k u h1 h2 h3=>have:=zca u h3;rw [zat];simp;omega
  | pos u h=>have:=zca u h;rw [zat];omega
  | neg u h0 h=>have:=zca u h;rw [zat];simp;omega
  | dpos u p h hp=>have:=hc u p h hp;rw [zat];omega
  | dneg u p h0 h hp=>have:=hc u p h hp;rw [zat];simp;omega
 ·have:txt x.1 x.2.1 x.2.2=⟨#[]⟩:=by unfold txt;rw [if_neg h]
  unfold tl
  rw [this]
  simp
end Go.Proofs.YtllmabgollkigaaGreatDoor
namespace Go.Proofs.YtllmabgollkigaaGreatDoor
open Go.RowKit
set_option linter.unusedVariables false
def sgnL(l:List UInt8):List UInt8:=(l.dropWhile fun b=>!isSg b.toNat).takeWhile fun b=>isSg b.toNat
theorem dec_asc(s:ByteArray)(pos:Nat)(h:pos<s.size)(ha:(s[pos]'h).toNat<128):Utf8.decode s pos=((s[pos]'h).toNat,1):=by
 have e:s.get! (pos+0)=s[pos]'h:=by
  rw [Nat.add_zero]
  simp [ByteArray.get!,ByteArray.getElem_eq_getElem_data,ByteArray.size_data,h]
 unfold Utf8.decode
 simp only [e]
 rw [if_pos ha]
theorem idx_asc(p:Nat→Bool)(t:Bool)(s:ByteArray)(ha:∀b∈s.data.toList,b.toNat<128):∀(f pos:Nat),s.size≤pos+f →
  Lib.idxFuncFrom p t s f pos=match (s.data.toList.drop pos).findIdx? (fun b=>p b.toNat==t) with|none=>-1|some k=>((pos+k:Nat):Int)
 | 0,pos,h=>by
  rw [List.drop_eq_nil_of_le (by rw [←Lib.size_eq];omega)]
  rfl
 | f+1,pos,h=>by
  unfold Lib.idxFuncFrom
  by_cases hp:pos<s.size
  ·have hl:pos<s.data.toList.length:=by rw [←Lib.size_eq];exact hp
   have e1:s[pos]'hp=s.data.toList[pos]'hl:=rfl
   have h1:=ha _ (List.getElem_mem hl)
   rw [if_pos hp,dec_asc s pos hp (by rw [e1];exact h1),List.drop_eq_getElem_cons hl,List.findIdx?_cons,e1]
   simp only
   by_cases hpt:p (s.data.toList[pos]'hl).toNat=t
   ·rw [if_pos hpt,hpt]
    simp
   ·rw [if_neg hpt,idx_asc p t s ha f (pos+1) (by omega)]
    have hb:(p (s.data.toList[pos]'hl).toNat==t)=false:=by simpa using hpt
    rw [hb]
    cases (s.data.toList.drop (pos+1)).findIdx? (fun b=>p b.toNat==t) with
    | none=>rfl
    | some k =>
     simp only [Option.map_some,Bool.false_eq_true,if_false]
     exact congrArg Int.ofNat (by omega)
  ·rw [if_neg hp,List.drop_eq_nil_of_le (by rw [←Lib.size_eq];omega)]
   rfl
theorem zhu{α:Type}(p:α→Bool):∀(l:List α),(l.findIdx? p=none∧l.dropWhile (fun a=>!p a)=[])∨(∃k,l.findIdx? p=some k∧k<l.length∧l.dropWhile (fun a=>!p a)=l.drop k)
 | []=>.inl ⟨rfl,rfl⟩
 | a::l=>by
  rw [List.findIdx?_cons]
  cases ha:p a with
  | true=>exact .inr ⟨0,by simp,by simp,by simp [List.dropWhile,ha]⟩
  | false =>
   rcases zhu p l with ⟨h1,h2⟩|⟨k,h1,h2,h3⟩
   ·exact .inl ⟨by simp [h1],by simp [List.dropWhile,ha,h2]⟩
   ·exact .inr ⟨k+1,by simp [h1],by simp;omega,by simp [List.dropWhile,ha,h3]⟩
theorem zir{α:Type}(p:α→Bool):∀(l:List α),l.takeWhile p=l.take (l.length-(l.dropWhile p).length)
 | []=>rfl
 | a::l=>by
  cases ha:p a with
  | true =>
   have h:=zir p l
   have hle:(l.dropWhile p).length≤l.length:=(List.dropWhile_sublist p).length_le
   rw [List.takeWhile_cons_of_pos ha,List.dropWhile_cons_of_pos ha,h]
   have e:(a::l).length-(l.dropWhile p).length=(l.length-(l.dropWhile p).length)+1:=by simp;omega
   rw [e,List.take_succ_cons]
  | false =>
   rw [List.takeWhile_cons_of_neg (by simp [ha]),List.dropWhile_cons_of_neg (by simp [ha])]
   simp
theorem sgn_asc(s:ByteArray)(ha:∀b∈s.data.toList,b.toNat<128):(sgn s).data.toList=sgnL s.data.toList:=by
 have h0:=idx_asc isSg true s ha s.size 0 (by omega)
 have e1:(fun b:UInt8=>isSg b.toNat==true)=fun b=>isSg b.toNat:=by funext b;simp
 rw [List.drop_zero,e1] at h0
 unfold sgn sgnL Lib.idxFunc
 rw [h0]
 rcases zhu (fun b:UInt8=>isSg b.toNat) s.data.toList with ⟨h1,h2⟩|⟨k,h1,h2,h3⟩
 ·rw [h1,h2];rfl
 ·rw [h1,h3]
  simp only [Nat.zero_add]
  rw [if_neg (by omega),Int.toNat_natCast]
  have hx:(s.extract k s.size).data.toList=s.data.toList.drop k:=by
   rw [Lib.extract_data,List.take_of_length_le (by rw [List.length_drop,←Lib.size_eq];exact Nat.le_refl _)]
  have hxs:(s.extract k s.size).size=s.size-k:=by rw [Lib.size_eq,hx,List.length_drop,←Lib.size_eq]
  have hk:k<s.size:=by rw [Lib.size_eq];exact h2
  have h4:=idx_asc isSg false (s.extract k s.size) (by rw [hx];exact fun b hb=>ha b (List.mem_of_mem_drop hb)) (s.extract k s.size).size 0 (by omega)
  have e2:(fun b:UInt8=>isSg b.toNat==false)=fun b=>!isSg b.toNat:=by funext b;cases isSg b.toNat<;>rfl
  rw [List.drop_zero,e2,hx] at h4
  have e3:(fun b:UInt8=>!!isSg b.toNat)=fun b=>isSg b.toNat:=by funext b;simp
  rw [zir,Lib.extract_data]
  unfold Lib.trimLeftF Lib.idxFunc
  rw [h4]
  rcases zhu (fun b:UInt8=>!isSg b.toNat) (s.data.toList.drop k) with ⟨g1,g2⟩|⟨m,g1,g2,g3⟩
  ·rw [e3] at g2
   rw [g1,g2]
   have z:(⟨#[]⟩:ByteArray).size=0:=rfl
   simp only [if_true,z,List.length_nil,Nat.sub_zero]
   rw [List.length_drop,←Lib.size_eq]
  ·rw [e3] at g3
   rw [g1,g3]
   simp only [Nat.zero_add]
   rw [if_neg (by omega),Int.toNat_natCast]
   have hm:m<s.size-k:=by rw [List.length_drop,←Lib.size_eq] at g2;exact g2
   have hz:((s.extract k s.size).extract m (s.extract k s.size).size).size=s.size-k-m:=by
    rw [Lib.size_eq,Lib.extract_data,hx,List.length_take,List.length_drop,List.length_drop,←Lib.size_eq,hxs];omega
   rw [hz,List.length_drop,List.length_drop,←Lib.size_eq]
   have q:s.size-(s.size-k-m)-k=s.size-k-(s.size-k-m):=by omega
   rw [q,List.length_drop,←Lib.size_eq]
theorem sgnL_plain{l:List UInt8}(h:∀b∈l,isSg b.toNat=false):sgnL l=[]:=by
 unfold sgnL
 have:(l.dropWhile fun b=>!isSg b.toNat)=[]:=by
  induction l with
  | nil=>rfl
  | cons a l ih =>
   rw [List.dropWhile_cons_of_pos (by simp [h a (by simp)])]
   exact ih fun b hb=>h b (by simp [hb])
 rw [this];rfl
theorem sgnL_mid{a g:List UInt8}{b:UInt8}{r:List UInt8}(h1:∀x∈a,isSg x.toNat=false)(h2:∀x∈g,isSg x.toNat=true)(hg:g≠[])(h3:isSg b.toNat=false):sgnL (a++(g++b::r))=g:=by
 unfold sgnL
 have e:((a++(g++b::r)).dropWhile fun b=>!isSg b.toNat)=g++b::r:=by
  induction a with
  | nil =>
   cases g with
   | nil=>exact absurd rfl hg
   | cons c g=>rw [List.nil_append,List.cons_append,List.dropWhile_cons_of_neg (by simp [h2 c (by simp)])]
  | cons a l ih =>
   rw [List.cons_append,List.dropWhile_cons_of_pos (by simp [h1 a (by simp)])]
   exact ih fun b hb=>h1 b (by simp [hb])
 rw [e]
 clear e hg
 induction g with
 | nil=>rw [List.nil_append,List.takeWhile_cons_of_neg (by simp [h3])]
 | cons c g ih=>rw [List.cons_append,List.takeWhile_cons_of_pos (by simp [h2 c (by simp)]),ih fun x hx=>h2 x (by simp [hx])]
theorem pp_okA{c:Nat}{x:Int×Int×Int}(h:pp c x=true):okA x.1 x.2.1 x.2.2=true:=by
 cases ho:okA x.1 x.2.1 x.2.2 with
 | true=>rfl
 | false=>simp [pp,ho] at h
theorem tk_okA{l:List Nat}{xs:List Arg}(h:tk l xs=true):∀x∈xs,okA x.1 x.2.1 x.2.2=true:=by
 intro x hx
 obtain ⟨j,hj,hx⟩:=List.mem_iff_getElem.1 hx
 unfold tk at h
 simp only [Bool.and_eq_true,List.all_eq_true] at h
 have:=h.2 j (List.mem_range.2 hj)
 have e:xs.getD j (0,0,0)=x:=by rw [List.getD_eq_getElem?_getD,List.getElem?_eq_getElem hj,hx];rfl
 rw [e] at this
 exact pp_okA this
theorem zfn{op:Int}{xs:List Arg}(h:rtk op xs=true):∀x∈xs,okA x.1 x.2.1 x.2.2=true:=by
 unfold rtk at h
 rcases Bool.or_eq_true _ _ ▸ h with h|h
 ·exact tk_okA h
 ·exact tk_okA h
theorem zbn{op:Int}{xs:List Arg}(h:rtk op xs=true):((1≤op∧op≤10)∨(21≤op∧op≤37))∧xs.length=(ndP op).length:=by
 have hl:∀l:List Nat,tk l xs=true→xs.length=l.length∧xs≠[]:=fun l hl=>by
  unfold tk at hl
  simp only [Bool.and_eq_true,decide_eq_true_eq,Bool.not_eq_true',List.isEmpty_eq_false_iff] at hl
  exact ⟨hl.1.2,hl.1.1⟩
 by_cases hn:(1≤op∧op≤10)∨(21≤op∧op≤37)
 ·refine ⟨hn,?_⟩
  have ho:orP op=[]∨(orP op).length=(ndP op).length:=by
   obtain ⟨n,rfl⟩:=Int.eq_ofNat_of_zero_le (by omega:0≤op)
   rcases c38 n (by omega) with rfl|rfl|rfl|rfl|rfl|rfl|rfl|rfl|rfl|rfl|rfl|rfl|rfl|rfl|rfl|rfl|rfl|rfl|rfl|rfl|rfl|rfl|rfl|rfl|rfl|rfl|rfl|rfl|rfl|rfl|rfl|rfl|rfl|rfl|rfl|rfl|rfl|rfl
   all_goals first|exact .inl rfl|exact .inr rfl
  unfold rtk at h
  rcases Bool.or_eq_true _ _ ▸ h with h|h
  ·exact (hl _ h).1
  ·have h1:=hl _ h
   rcases ho with ho|ho
   ·rw [ho] at h1
    exact absurd (List.eq_nil_of_length_eq_zero h1.1) h1.2
   ·omega
 ·exfalso
  have e1:ndP op=[]:=by unfold ndP;repeat rw [if_neg (by omega)]
  have e2:orP op=[]:=by unfold orP;repeat rw [if_neg (by omega)]
  unfold rtk at h
  rw [e1,e2,Bool.or_self] at h
  have h1:=hl _ h
  exact h1.2 (List.eq_nil_of_length_eq_zero h1.1)
theorem zbo(op:Int)(h:(1≤op∧op≤10)∨(21≤op∧op≤37)) :
  (1≤(ndP op).length∧(ndP op).length≤3)∧(((ndP op).length=1∧(btw op).data.toList=[])∨(2≤(ndP op).length∧∃c g,(btw op).data.toList=c::g∧∀b∈(btw op).data.toList,isSg b.toNat=true∧b.toNat<128))∧(∀b∈(ahd op).data.toList,b.toNat<128):=by
 obtain ⟨n,rfl⟩:=Int.eq_ofNat_of_zero_le (by omega:0≤op)
 rcases c38 n (by omega) with rfl|rfl|rfl|rfl|rfl|rfl|rfl|rfl|rfl|rfl|rfl|rfl|rfl|rfl|rfl|rfl|rfl|rfl|rfl|rfl|rfl|rfl|rfl|rfl|rfl|rfl|rfl|rfl|rfl|rfl|rfl|rfl|rfl|rfl|rfl|rfl|rfl|rfl
 all_goals first
  | (exfalso;omega)
  | exact ⟨by decide,.inl ⟨rfl,rfl⟩,by decide⟩
  | exact ⟨by decide,.inr ⟨by decide,_,_,rfl,by decide⟩,by decide⟩
theorem Sg.sg{b:UInt8}(h:Sg b):isSg b.toNat=false∧b.toNat<128:=by
 unfold Sg at h
 refine ⟨?_,by omega⟩
 unfold isSg
 simp
 omega
theorem tl_sg(x:Arg):∀b∈tl x,isSg b.toNat=false∧b.toNat<128:=fun b hb=>(zhs _ _ _ b hb).sg
def mid(op:Int)(xs:List Arg):List UInt8:=Lib.join (xs.map tl) (btw op).data.toList
theorem zbd(op:Int)(xs:List Arg):etl op xs=(ahd op).data.toList++mid op xs:=rfl
theorem zbu(op:Int)(x:Arg):mid op [x]=tl x:=by unfold mid;rw [List.map_cons,List.map_nil,Lib.join_one]
theorem zcc(op:Int)(x y:Arg)(r:List Arg):mid op (x::y::r)=tl x++((btw op).data.toList++mid op (y::r)):=by
 unfold mid
 rw [List.map_cons,Lib.join_cons,List.map_cons,Lib.join_cons]
 simp [Lib.joinTail]
theorem mid_head(op:Int)(y:Arg)(r:List Arg):∃z,mid op (y::r)=tl y++z:=by
 cases r with
 | nil=>exact ⟨[],by rw [zbu];simp⟩
 | cons a r=>exact ⟨_,zcc op y a r⟩
theorem mid_asc{op:Int}{xs:List Arg}(h:(1≤op∧op≤10)∨(21≤op∧op≤37)):∀b∈mid op xs,b.toNat<128:=by
 have hb:∀b∈(btw op).data.toList,b.toNat<128:=by
  rcases (zbo op h).2.1 with ⟨_,e⟩|⟨_,c,g,_,e⟩
  ·rw [e];simp
  ·exact fun b hb=>(e b hb).2
 match xs with
 | []=>intro b hb;simp [mid,Lib.join_nil] at hb
 | [x]=>rw [zbu];exact fun b hb=>(tl_sg x b hb).2
 | x::y::r =>
  rw [zcc]
  intro b hbm
  rcases List.mem_append.1 hbm with hbm|hbm
  ·exact (tl_sg x b hbm).2
  ·rcases List.mem_append.1 hbm with hbm|hbm
   ·exact hb b hbm
   ·exact mid_asc h b hbm
theorem etl_asc{op:Int}{xs:List Arg}(h:(1≤op∧op≤10)∨(21≤op∧op≤37)):∀b∈etl op xs,b.toNat<128:=by
 intro b hb
 rw [zbd] at hb
 rcases List.mem_append.1 hb with hb|hb
 ·exact (zbo op h).2.2 b hb
 ·exact mid_asc h b hb
theorem sgn_mid{op:Int}{xs:List Arg}(h:rtk op xs=true)(a:List UInt8)(ha:∀b∈a,isSg b.toNat=false):sgnL (a++mid op xs)=(btw op).data.toList:=by
 obtain ⟨ho,hl⟩:=zbn h
 have hok:=zfn h
 obtain ⟨⟨h1,h3⟩,hs,_⟩:=zbo op ho
 match xs,hl,hok with
 | [],hl,_=>simp at hl;omega
 | [x],hl,hok =>
  rcases hs with ⟨_,e⟩|⟨hc,_⟩
  ·rw [zbu,e]
   refine sgnL_plain fun b hb=>?_
   rcases List.mem_append.1 hb with hb|hb
   ·exact ha b hb
   ·exact (tl_sg x b hb).1
  ·simp at hl;omega
 | x::y::r,hl,hok =>
  rcases hs with ⟨hc,_⟩|⟨_,c,g,e,hg⟩
  ·simp at hl;omega
  ·obtain ⟨z,hz⟩:=mid_head op y r
   have hne:=tl_ne (hok y (by simp))
   obtain ⟨b0,r0,hb0⟩:∃b0 r0,tl y=b0::r0:=by
    cases hq:tl y with
    | nil=>exact absurd hq hne
    | cons b r=>exact ⟨b,r,rfl⟩
   rw [zcc,hz,hb0,←List.append_assoc,List.cons_append]
   refine sgnL_mid (fun q hq=>?_) (fun q hq=>(hg q hq).1) (by rw [e];simp) (tl_sg y b0 (by rw [hb0];simp)).1
   rcases List.mem_append.1 hq with hq|hq
   ·exact ha q hq
   ·exact (tl_sg x q hq).1
end Go.Proofs.YtllmabgollkigaaGreatDoor
