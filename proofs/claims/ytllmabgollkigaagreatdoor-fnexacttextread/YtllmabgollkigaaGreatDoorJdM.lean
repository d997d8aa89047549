/- Texts split and joined; what is read of the pieces. -/
import Derived.Test.YtllmabgollkigaaGreatDoorJc
import Derived.Test.YtllmabgollkigaaGreatDoorHaM
import Derived.Lib.SplitLaws
import Derived.Lib.IndexMore
namespace Go.Proofs.YtllmabgollkigaaGreatDoor
open Go.RowKit
set_option linter.unusedVariables false
theorem hit_parts{s sub:List UInt8}{i:Nat}(h:Lib.index s sub=i):s=s.take i++(sub++s.drop (i+sub.length)):=by
 rcases Lib.index_spec s sub with ⟨h1,_⟩|⟨j,h1,h2,h3,_⟩
 ·omega
 ·obtain rfl:j=i:=by omega
  unfold Lib.occAt at h3
  rw [List.isPrefixOf_iff_prefix] at h3
  obtain ⟨t,ht⟩:=h3
  have e:s.drop (j+sub.length)=t:=by rw [←List.drop_drop,←ht,List.drop_left]
  rw [e,ht,List.take_append_drop]
theorem zis(sep : ByteArray) : ∀ (k : Nat) (s : ByteArray), Lib.splitB sep 0 k s ≠ [] ∧ Lib.join ((Lib.splitB sep 0 k s).map (·.data.toList)) sep.data.toList = s.data.toList
 | 0,s=>⟨by simp [Lib.splitB],by simp [Lib.splitB,Lib.join_one]⟩
 | k+1,s=>by
  have hB:Lib.indexB s sep=Lib.index s.data.toList sep.data.toList:=rfl
  rcases (by omega:Lib.indexB s sep<0∨0≤Lib.indexB s sep) with hneg|hpos
  ·have hm:Lib.indexB s sep=-1:=by have:=Lib.index_ge s.data.toList sep.data.toList;rw [hB] at hneg ⊢;omega
   rw [Lib.splitB_miss _ _ _ _ hm]
   exact ⟨by simp,by simp [Lib.join_one]⟩
  ·obtain ⟨i,hi⟩:=Int.eq_ofNat_of_zero_le hpos
   rw [Lib.splitB_hit _ _ _ _ i hi]
   refine ⟨by simp,?_⟩
   obtain ⟨h1,h2⟩:=zis sep k (s.extract (i+sep.size) s.size)
   have hp:=hit_parts (hB ▸ hi:Lib.index s.data.toList sep.data.toList=i)
   have hd:(s.extract (i+sep.size) s.size).data.toList=s.data.toList.drop (i+sep.data.toList.length):=by
    rw [Lib.extract_data,←Lib.size_eq]
    apply List.take_of_length_le
    rw [List.length_drop,←Lib.size_eq];exact Nat.le_refl _
   have ht:(s.extract 0 (i+0)).data.toList=s.data.toList.take i:=by
    rw [Lib.extract_data];simp
   rw [List.map_cons,Lib.join_cons,ht]
   have e : Lib.joinTail sep.data.toList ((Lib.splitB sep 0 k (s.extract (i + sep.size) s.size)).map (·.data.toList)) = sep.data.toList ++ Lib.join ((Lib.splitB sep 0 k (s.extract (i + sep.size) s.size)).map (·.data.toList)) sep.data.toList := by
    cases hq : (Lib.splitB sep 0 k (s.extract (i + sep.size) s.size)).map (·.data.toList) with
    | nil=>exact absurd (List.map_eq_nil_iff.1 hq) h1
    | cons y L=>rw [Lib.join_cons];simp [Lib.joinTail]
   rw [e,h2,hd,←hp]
theorem index_tl(x:Arg)(c:UInt8)(g r:List UInt8)(hc:isSg c.toNat=true):Lib.index (tl x++(c::g++r)) (c::g)=(tl x).length:=by
 refine Lib.index_first (i:=(tl x).length) (by simp) ?_ fun j hj=>?_
 ·unfold Lib.occAt
  rw [List.drop_left,List.isPrefixOf_iff_prefix]
  exact List.prefix_append _ _
 ·unfold Lib.occAt
  rw [List.drop_append_of_le_length (by omega),List.drop_eq_getElem_cons hj,List.cons_append,List.isPrefixOf_cons_cons]
  have:=(tl_sg x _ (List.getElem_mem hj)).1
  have hne:(c==(tl x)[j])=false:=by
   rw [beq_eq_false_iff_ne]
   intro e
   rw [←e,hc] at this
   cases this
  rw [hne];rfl
theorem split_mid(op : Int)(c : UInt8)(g : List UInt8)(hb : (btw op).data.toList = c :: g)(hc : isSg c.toNat = true) : ∀ (xs : List Arg), xs ≠ [] → ∀ s : ByteArray, s.data.toList = mid op xs → (Lib.splitB (btw op) 0 (xs.length - 1) s).map (·.data.toList) = xs.map tl
 | [],h,_,_=>absurd rfl h
 | [x],_,s,hs=>by
  rw [zbu] at hs
  simp [Lib.splitB,hs]
 | x::y::r,_,s,hs=>by
  rw [zcc,hb] at hs
  have hi:Lib.indexB s (btw op)=(tl x).length:=by
   show Lib.index s.data.toList (btw op).data.toList=_
   rw [hs,hb]
   exact index_tl x c g _ hc
  have e:(x::y::r).length-1=(y::r).length-1+1:=by simp
  have hbs:(btw op).size=(c::g).length:=by rw [Lib.size_eq,hb]
  rw [e,Lib.splitB_hit _ _ _ _ _ hi,List.map_cons,split_mid op c g hb hc (y::r) (by simp) _ ?_]
  ·rw [List.map_cons]
   congr 1
   rw [Lib.extract_data,hs]
   simp
  ·rw [Lib.extract_data,hs,hbs,←List.drop_drop,List.drop_left,List.drop_left]
   apply List.take_of_length_le
   rw [Lib.size_eq,hs]
   simp only [List.length_append]
   omega
def IsTl(s:ByteArray):Prop:=∃x:Arg,okA x.1 x.2.1 x.2.2=true∧tl x=s.data.toList
noncomputable def rdA(s:ByteArray):Arg:=@dite _ (IsTl s) (Classical.propDecidable _) (fun h=>h.choose) fun _=>(0,0,0)
noncomputable def rdB(s:ByteArray):Bool:=@decide (IsTl s) (Classical.propDecidable _)
theorem rd_yes{s:ByteArray}{x:Arg}(h:okA x.1 x.2.1 x.2.2=true)(e:tl x=s.data.toList):rdA s=x∧rdB s=true:=by
 have hx:IsTl s:=⟨x,h,e⟩
 refine ⟨?_,@decide_eq_true _ (Classical.propDecidable _) hx⟩
 unfold rdA
 rw [dif_pos hx]
 exact tl_inj hx.choose_spec.1 h (hx.choose_spec.2.trans e.symm)
theorem rd_tl{s:ByteArray}(h:rdB s=true):okA (rdA s).1 (rdA s).2.1 (rdA s).2.2=true∧tl (rdA s)=s.data.toList:=by
 have h:IsTl s:=@of_decide_eq_true _ (Classical.propDecidable _) h
 unfold rdA
 rw [dif_pos h]
 exact h.choose_spec
theorem rd_no{s:ByteArray}(h:rdB s=false):rdA s=(0,0,0)∧∀x:Arg,okA x.1 x.2.1 x.2.2=true→tl x≠s.data.toList:=by
 have h:¬ IsTl s:=@of_decide_eq_false _ (Classical.propDecidable _) h
 refine ⟨?_,fun x hx e=>h ⟨x,hx,e⟩⟩
 unfold rdA
 rw [dif_neg h]
def pcs(op:Int)(r:ByteArray):List ByteArray :=
 if (ndP op).length=0 then [] else if (btw op).size=0 then (if r.size=0 then [] else [r]) else Lib.splitB (btw op) 0 (min (ndP op).length (r.size+1)-1) r
theorem mtc_pre{s:ByteArray}{n:Nat}(h:mtc s n=true):s.data.toList=(ahd n).data.toList++s.data.toList.drop (ahd n).size∧(ahd n).size≤s.size:=by
 unfold mtc at h
 simp only [Bool.and_eq_true] at h
 have h1:=h.1
 unfold Lib.hasPrefix at h1
 rw [List.isPrefixOf_iff_prefix] at h1
 obtain ⟨t,ht⟩:=h1
 rw [Lib.size_eq,Lib.size_eq,←ht,List.drop_left]
 exact ⟨rfl,by simp⟩
theorem map_tl{L : List ByteArray}(h : L.all rdB = true) : (L.map rdA).map tl = L.map (·.data.toList) := by
 rw [List.map_map]
 apply List.map_congr_left
 intro s hs
 exact (rd_tl (List.all_eq_true.1 h s hs)).2
theorem read_sound{s r:ByteArray}(hr:r.data.toList=s.data.toList.drop (ahd (opOf s)).size)(ha:(pcs (opOf s) r).all rdB=true)(hk:rtk (opOf s) ((pcs (opOf s) r).map rdA)=true) :
  etl (opOf s) ((pcs (opOf s) r).map rdA)=s.data.toList:=by
 obtain ⟨ho,hl⟩:=zbn hk
 have hz:mtc s (opOf s)=true:=by
  rcases opF_zero s 37 with h|h
  ·exfalso
   have:opOf s=0:=h
   omega
  ·exact h
 have hp:=(mtc_pre hz).1
 rw [←hr] at hp
 have hs:=zbo _ ho
 rw [zbd,hp]
 congr 1
 unfold mid
 rw [map_tl ha]
 unfold pcs at hl ⊢
 rw [if_neg (by omega)] at hl ⊢
 rcases hs.2.1 with ⟨h1,h2⟩|⟨h1,c,g,h2,_⟩
 ·have hb:(btw (opOf s)).size=0:=by rw [Lib.size_eq,h2];rfl
  rw [if_pos hb] at hl ⊢
  by_cases hr0:r.size=0
  ·rw [if_pos hr0] at hl;simp at hl;omega
  ·rw [if_neg hr0];simp [Lib.join_one]
 ·have hb:(btw (opOf s)).size≠0:=by rw [Lib.size_eq,h2];simp
  rw [if_neg hb]
  exact (zis _ _ _).2
theorem zhv{s r:ByteArray}{op:Int}{xs:List Arg}(h:rtk op xs=true)(hs:s.data.toList=etl op xs)(hr:r.data.toList=s.data.toList.drop (ahd (opOf s)).size) :
  (opOf s:Int)=op∧(pcs op r).all rdB=true∧(pcs op r).map rdA=xs:=by
 obtain ⟨ho,hl⟩:=zbn h
 have hok:=zfn h
 have he:s=⟨(etl op xs).toArray⟩:=by
  apply ByteArray.ext
  rw [←hs]
 have hop:(opOf s:Int)=op:=by rw [he];exact opOf_etl h
 refine ⟨hop,?_⟩
 rw [hop,hs,zbd,Lib.size_eq,List.drop_left] at hr
 have hrs:=zbo op ho
 have key : (pcs op r).map (·.data.toList) = xs.map tl := by
  unfold pcs
  rw [if_neg (by omega)]
  rcases hrs.2.1 with ⟨h1,h2⟩|⟨h1,c,g,h2,h3⟩
  ·have hb:(btw op).size=0:=by rw [Lib.size_eq,h2];rfl
   rw [if_pos hb]
   match xs,hl,hok with
   | [x],_,hok =>
    rw [zbu] at hr
    have hne:=tl_ne (hok x (by simp))
    have:r.size≠0:=by
     rw [Lib.size_eq,hr]
     intro e
     exact hne (List.eq_nil_of_length_eq_zero e)
    rw [if_neg this]
    simp [hr]
   | [],hl,_=>simp at hl;omega
   | _::_::_,hl,_=>simp at hl;omega
  ·have hb:(btw op).size≠0:=by rw [Lib.size_eq,h2];simp
   rw [if_neg hb]
   have hn:min (ndP op).length (r.size+1)=xs.length:=by
    have hge:∀xs:List Arg,(∀x∈xs,okA x.1 x.2.1 x.2.2=true)→xs.length≤(mid op xs).length:=by
     intro xs
     induction xs with
     | nil=>intro _;simp
     | cons x xs ih =>
      intro hk
      have h0:1≤(tl x).length:=by
       have:=tl_ne (hk x (by simp))
       cases hq:tl x with
       | nil=>exact absurd hq this
       | cons a b=>simp
      cases xs with
      | nil=>rw [zbu];simpa using h0
      | cons y r =>
       have:=ih fun z hz=>hk z (by simp at hz ⊢;exact .inr hz)
       rw [zcc]
       simp only [List.length_append,List.length_cons] at this ⊢
       omega
    have:=hge xs hok
    rw [Lib.size_eq,hr]
    omega
   rw [hn]
   exact split_mid op c g h2 (h3 c (by rw [h2];simp)).1 xs (by intro e;rw [e] at hl;simp at hl;omega) r hr
 have key2 : ∀ (L : List ByteArray) (xs : List Arg), (∀ x ∈ xs, okA x.1 x.2.1 x.2.2 = true) → L.map (·.data.toList) = xs.map tl → L.all rdB = true ∧ L.map rdA = xs := by
  intro L
  induction L with
  | nil =>
   intro xs _ h
   cases xs with
   | nil=>exact ⟨rfl,rfl⟩
   | cons a b=>simp at h
  | cons a L ih =>
   intro xs hk h
   cases xs with
   | nil=>simp at h
   | cons x xs =>
    simp only [List.map_cons,List.cons.injEq] at h
    have h1:=rd_yes (hk x (by simp)) h.1.symm
    have h2:=ih xs (fun z hz=>hk z (by simp [hz])) h.2
    exact ⟨by simp [h1.2,h2.1],by simp [h1.1,h2.2]⟩
 exact key2 _ _ hok key
theorem zer{a b:Int}{xs ys:List Arg}(ha:rtk a xs=true)(hb:rtk b ys=true)(h:etl a xs=etl b ys):a=b∧xs=ys:=by
 have h1:=zhv (s:=⟨(etl a xs).toArray⟩) (r:=⟨((etl a xs).drop (ahd (opOf ⟨(etl a xs).toArray⟩)).size).toArray⟩) ha rfl rfl
 have h2:=zhv (s:=⟨(etl a xs).toArray⟩) (r:=⟨((etl a xs).drop (ahd (opOf ⟨(etl a xs).toArray⟩)).size).toArray⟩) hb h rfl
 have e:=h1.1.symm.trans h2.1
 refine ⟨e,?_⟩
 rw [←h1.2.2,←h2.2.2,e]
theorem etl_le{op:Int}{xs:List Arg}(h:rtk op xs=true):(etl op xs).length≤80∧etl op xs≠[]:=by
 obtain ⟨ho,hl⟩:=zbn h
 have hok:=zfn h
 have hrs:=zbo op ho
 have h6:(ahd op).data.toList.length≤6∧(btw op).data.toList.length≤2:=by
  obtain ⟨n,rfl⟩:=Int.eq_ofNat_of_zero_le (by omega:0≤op)
  rcases c38 n (by omega) with rfl|rfl|rfl|rfl|rfl|rfl|rfl|rfl|rfl|rfl|rfl|rfl|rfl|rfl|rfl|rfl|rfl|rfl|rfl|rfl|rfl|rfl|rfl|rfl|rfl|rfl|rfl|rfl|rfl|rfl|rfl|rfl|rfl|rfl|rfl|rfl|rfl|rfl
  all_goals decide
 rw [zbd,List.length_append]
 match xs,hl,hok with
 | [],hl,_=>simp at hl;omega
 | [x],_,hok =>
  have:=tl_le x
  have h0:=tl_ne (hok x (by simp))
  rw [zbu]
  exact ⟨by omega,by simp [h0]⟩
 | [x,y],_,hok =>
  have:=tl_le x
  have:=tl_le y
  have h0:=tl_ne (hok x (by simp))
  rw [zcc,zbu]
  simp only [List.length_append]
  exact ⟨by omega,by simp [h0]⟩
 | [x,y,z],_,hok =>
  have:=tl_le x
  have:=tl_le y
  have:=tl_le z
  have h0:=tl_ne (hok x (by simp))
  rw [zcc,zcc,zbu]
  simp only [List.length_append]
  exact ⟨by omega,by simp [h0]⟩
 | _::_::_::_::_,hl,_=>simp at hl;omega
def isC(b:UInt8):Bool:=b==60||b==61||b==62
def cmpN:List UInt8→Nat
 | _::b::_=>if b==61||b==62 then 2 else 1
 | _=>1
def cmpO(t:List UInt8):Nat→Option Int
 | 0=>none
 | k+1=>if t=(btw (10-(k:Int))).data.toList then some (10-(k:Int)) else cmpO t k
def zcv(l:List UInt8):Nat→Option Int
 | 0=>none
 | k+1=>if Lib.hasPrefix l (ahd (37-(k:Int))).data.toList=true then some (37-(k:Int)) else zcv l k
noncomputable def zas(c:UInt8)(l:List UInt8):List Arg:=((pieces c l).take 4).map fun p=>rdA ⟨p.toArray⟩
noncomputable def zel(l:List UInt8):Int×List Arg :=
 match zcv l 17 with
 | some op=>(op,zas 44 (l.drop (ahd op).size))
 | none=>if l.head?=some 47 then (2,zas 32 l.tail) else if l.head?=some 43 then (3,zas 58 l.tail) else if l.head?=some 45 then (4,zas 58 l.tail) else (1,zas 32 l)
noncomputable def guessT(l:List UInt8)(i:Nat):Int×List Arg :=
 match cmpO ((l.drop i).take (cmpN (l.drop i))) 6 with
 | some op=>(op,zas 32 (l.take i)++zas 32 (l.drop (i+cmpN (l.drop i))))
 | none=>(0,[])
noncomputable def zbk(l:List UInt8):Int×List Arg :=
 match l.findIdx? isC with
 | some i=>guessT l i
 | none=>zel l
theorem Sg.plain{b:UInt8}(h:Sg b):isC b=false:=by
 have:=h.ne
 unfold isC
 simp [this]
theorem find_none{l:List UInt8}(h:∀b∈l,isC b=false):l.findIdx? isC=none:=by
 rw [List.findIdx?_eq_none_iff]
 exact h
theorem find_at{a:List UInt8}{c:UInt8}{r:List UInt8}(h:∀b∈a,isC b=false)(hc:isC c=true):(a++c::r).findIdx? isC=some a.length:=by
 induction a with
 | nil=>simp [List.findIdx?_cons,hc]
 | cons x a ih=>rw [List.cons_append,List.findIdx?_cons,h x (by simp),ih fun b hb=>h b (by simp [hb])];simp
theorem args_of(c:UInt8)(hc:c=32∨c=44∨c=58)(xs:List Arg)(h1:1≤xs.length)(h4:xs.length≤4)(hok:∀x∈xs,okA x.1 x.2.1 x.2.2=true):zas c (Lib.join (xs.map tl) [c])=xs:=by
 match xs,h1 with
 | x::r,_ =>
  unfold zas
  rw [List.map_cons,zhp c (tl x) (r.map tl) ?_]
  ·rw [←List.map_cons,List.take_of_length_le (by simpa using h4),List.map_map]
   conv=>rhs;rw [←List.map_id (x::r)]
   apply List.map_congr_left
   intro y hy
   exact (rd_yes (s:=⟨(tl y).toArray⟩) (hok y hy) rfl).1
  ·intro y hy b hb
   rw [←List.map_cons] at hy
   obtain ⟨z,_,rfl⟩:=List.mem_map.1 hy
   have:=(zhs _ _ _ b hb).ne
   rcases hc with rfl|rfl|rfl
   ·exact this.1
   ·exact this.2.2.1
   ·exact this.2.2.2.2.1
theorem zgk(c:UInt8)(hc:c=32∨c=44∨c=58)(x:Arg)(hok:okA x.1 x.2.1 x.2.2=true):zas c (tl x)=[x]:=by
 have:=args_of c hc [x] (by simp) (by simp) (fun y hy=>by simp at hy;subst hy;exact hok)
 rwa [List.map_cons,List.map_nil,Lib.join_one] at this
theorem cmpO_own(op:Int)(h1:5≤op)(h2:op≤10):cmpO (btw op).data.toList 6=some op:=by
 have:op=5∨op=6∨op=7∨op=8∨op=9∨op=10:=by omega
 rcases this with rfl|rfl|rfl|rfl|rfl|rfl<;>decide +kernel
theorem btw_six(op:Int)(h1:5≤op)(h2:op≤10):(∃c,(btw op).data.toList=[c]∧isC c=true)∨(∃c d,(btw op).data.toList=[c,d]∧isC c=true∧(d==61||d==62)=true):=by
 have:op=5∨op=6∨op=7∨op=8∨op=9∨op=10:=by omega
 rcases this with rfl|rfl|rfl|rfl|rfl|rfl
 ·exact .inl ⟨_,rfl,by decide⟩
 ·exact .inr ⟨_,_,rfl,by decide,by decide⟩
 ·exact .inl ⟨_,rfl,by decide⟩
 ·exact .inr ⟨_,_,rfl,by decide,by decide⟩
 ·exact .inr ⟨_,_,rfl,by decide,by decide⟩
 ·exact .inl ⟨_,rfl,by decide⟩
theorem zit{l:List UInt8}(h:∀m:Int,21≤m→m≤37→Lib.hasPrefix l (ahd m).data.toList=false):∀k,k≤17→zcv l k=none
 | 0,_=>rfl
 | k+1,hk=>by
  unfold zcv
  rw [if_neg (by rw [h (37-(k:Int)) (by omega) (by omega)];simp),zit h k (by omega)]
theorem ziu{l:List UInt8}(op:Int)(hp:Lib.hasPrefix l (ahd op).data.toList=true)(h:∀m:Int,21≤m→m≤37→Lib.hasPrefix l (ahd m).data.toList=true→op=m):∀k:Nat,k≤17→38-(k:Int)≤op→op≤37→zcv l k=some op
 | 0,_,h1,h2=>by omega
 | k+1,hk,h1,h2=>by
  unfold zcv
  by_cases e:op=37-(k:Int)
  ·rw [←e,if_pos hp]
  ·rw [if_neg fun q=>e (h (37-(k:Int)) (by omega) (by omega) q),ziu op hp h k (by omega) (by omega) h2]
theorem guess_etl{op:Int}{xs:List Arg}(h:rtk op xs=true):zbk (etl op xs)=(op,xs):=by
 obtain ⟨ho,hl⟩:=zbn h
 have hok:=zfn h
 have hrs:=zbo op ho
 by_cases h5:5≤op∧op≤10
 ·have e2:(ndP op).length=2:=by
   have:op=5∨op=6∨op=7∨op=8∨op=9∨op=10:=by omega
   rcases this with rfl|rfl|rfl|rfl|rfl|rfl<;>rfl
  have ea:=(btw_cmp op h5.1 h5.2).1
  match xs,hl,hok with
  | [x,y],_,hok =>
   have hx:=hok x (by simp)
   have hy:=hok y (by simp)
   have hpl:∀b∈tl x,isC b=false:=fun b hb=>(zhs _ _ _ b hb).plain
   obtain ⟨b0,r0,hb0⟩:∃b0 r0,tl y=b0::r0:=by
    cases hq:tl y with
    | nil=>exact absurd hq (tl_ne hy)
    | cons b r=>exact ⟨b,r,rfl⟩
   have hb0s:=(zhs _ _ _ b0 (by show b0∈tl y;rw [hb0];simp)).ne
   have key:∀c g,(btw op).data.toList=c::g→isC c=true→cmpN (c::g++tl y)=(c::g).length→zbk (etl op [x,y])=(op,[x,y]):=fun c g eb hc hn=>by
    have e:etl op [x,y]=tl x++(c::(g++tl y)):=by
     rw [zbd,ea,List.nil_append,zcc,zbu,eb];rfl
    rw [e]
    unfold zbk
    rw [find_at hpl hc]
    simp only
    unfold guessT
    have hn':cmpN (c::(g++tl y))=(c::g).length:=hn
    rw [List.drop_left,hn']
    have et:List.take (c::g).length (c::(g++tl y))=c::g:=by
     rw [←List.cons_append,List.take_left]
    rw [et,←eb,cmpO_own op h5.1 h5.2]
    simp only
    rw [List.take_left,←List.drop_drop,List.drop_left,eb,←List.cons_append,List.drop_left,zgk 32 (.inl rfl) x hx,zgk 32 (.inl rfl) y hy]
    rfl
   rcases btw_six op h5.1 h5.2 with ⟨c,eb,hc⟩|⟨c,d,eb,hc,hd⟩
   ·refine key c [] eb hc ?_
    rw [hb0]
    show (if b0==61||b0==62 then 2 else 1)=1
    simp [hb0s.2.2.2.2.2.2.1,hb0s.2.2.2.2.2.2.2.1]
   ·refine key c [d] eb hc ?_
    show (if d==61||d==62 then 2 else 1)=2
    rw [hd];rfl
  | [],hl,_=>simp at hl;omega
  | [_],hl,_=>simp at hl;omega
  | _::_::_::_,hl,_=>simp at hl;omega
 ·have hplain:∀b∈etl op xs,isC b=false:=by
   have hs:(∀b∈(ahd op).data.toList,isC b=false)∧(∀b∈(btw op).data.toList,isC b=false):=by
    obtain ⟨n,rfl⟩:=Int.eq_ofNat_of_zero_le (by omega:0≤op)
    rcases c38 n (by omega) with rfl|rfl|rfl|rfl|rfl|rfl|rfl|rfl|rfl|rfl|rfl|rfl|rfl|rfl|rfl|rfl|rfl|rfl|rfl|rfl|rfl|rfl|rfl|rfl|rfl|rfl|rfl|rfl|rfl|rfl|rfl|rfl|rfl|rfl|rfl|rfl|rfl|rfl
    all_goals first|(exfalso;omega)|decide
   have hm:∀xs:List Arg,∀b∈mid op xs,isC b=false:=by
    intro xs
    induction xs with
    | nil=>intro b hb;simp [mid,Lib.join_nil] at hb
    | cons x r ih =>
     cases r with
     | nil=>rw [zbu];exact fun b hb=>(zhs _ _ _ b hb).plain
     | cons y r =>
      rw [zcc]
      intro b hb
      rcases List.mem_append.1 hb with hb|hb
      ·exact (zhs _ _ _ b hb).plain
      ·rcases List.mem_append.1 hb with hb|hb
       ·exact hs.2 b hb
       ·exact ih b hb
   intro b hb
   rw [zbd] at hb
   rcases List.mem_append.1 hb with hb|hb
   ·exact hs.1 b hb
   ·exact hm xs b hb
  unfold zbk
  rw [find_none hplain]
  simp only
  unfold zel
  by_cases h21:21≤op
  ·have hp:Lib.hasPrefix (etl op xs) (ahd op).data.toList=true:=by
    unfold Lib.hasPrefix
    rw [List.isPrefixOf_iff_prefix,zbd]
    exact List.prefix_append _ _
   rw [ziu op hp (fun m a b q=>coil_pre h m a b q) 17 (Nat.le_refl _) (by omega) (by omega)]
   simp only
   rw [zbd,Lib.size_eq,List.drop_left]
   have hj:mid op xs=Lib.join (xs.map tl) [44]:=by
    unfold mid
    have:(ndP op).length=1∨(btw op).data.toList=[44]:=by
     obtain ⟨n,rfl⟩:=Int.eq_ofNat_of_zero_le (by omega:0≤op)
     rcases c38 n (by omega) with rfl|rfl|rfl|rfl|rfl|rfl|rfl|rfl|rfl|rfl|rfl|rfl|rfl|rfl|rfl|rfl|rfl|rfl|rfl|rfl|rfl|rfl|rfl|rfl|rfl|rfl|rfl|rfl|rfl|rfl|rfl|rfl|rfl|rfl|rfl|rfl|rfl|rfl
     all_goals first|(exfalso;omega)|exact .inl rfl|exact .inr rfl
    rcases this with e|e
    ·match xs,hl with
     | [x],_=>rw [List.map_cons,List.map_nil,Lib.join_one,Lib.join_one]
     | [],hl=>simp at hl;omega
     | _::_::_,hl=>simp at hl;omega
    ·rw [e]
   rw [hj,args_of 44 (.inr (.inl rfl)) xs (by omega) (by omega) hok]
  ·rw [zit (fun m a b=>by
    cases hq:Lib.hasPrefix (etl op xs) (ahd m).data.toList with
    | false=>rfl
    | true=>have:=coil_pre h m a b hq;omega) 17 (Nat.le_refl _)]
   simp only
   have:op=1∨op=2∨op=3∨op=4:=by omega
   rcases this with rfl|rfl|rfl|rfl
   ·obtain ⟨b,r,e,b1,b2⟩:=bit_first h (by decide) (by decide)
    have e':etl 1 xs=b::r:=by rw [zbd,e];rfl
    have n1:b≠47∧b≠43∧b≠45:=⟨by rintro rfl;revert b1;decide,by rintro rfl;revert b1;decide,by rintro rfl;revert b1;decide⟩
    match xs,hl,hok with
    | [x],_,hok =>
     have et:etl 1 [x]=tl x:=by rw [zbd,zbu];rfl
     rw [e',List.head?_cons,if_neg (by simp [n1.1]),if_neg (by simp [n1.2.1]),if_neg (by simp [n1.2.2]),←e',et,zgk 32 (.inl rfl) x (hok x (by simp))]
   ·match xs,hl,hok with
    | [x],_,hok =>
     have et:etl 2 [x]=47::tl x:=by rw [zbd,zbu];rfl
     rw [et,List.head?_cons,if_pos rfl,List.tail_cons,zgk 32 (.inl rfl) x (hok x (by simp))]
   ·have et:etl 3 xs=43::Lib.join (xs.map tl) [58]:=rfl
    rw [et,List.head?_cons,if_neg (by decide),if_pos rfl,List.tail_cons,args_of 58 (.inr (.inr rfl)) xs (by omega) (by omega) hok]
   ·have et:etl 4 xs=45::Lib.join (xs.map tl) [58]:=rfl
    rw [et,List.head?_cons,if_neg (by decide),if_neg (by decide),if_pos rfl,List.tail_cons,args_of 58 (.inr (.inr rfl)) xs (by omega) (by omega) hok]
end Go.Proofs.YtllmabgollkigaaGreatDoor
