/- A ladder's text as mathematics: what the lines say, and how much memory it takes. -/
import Derived.Test.YtllmabgollkigaaGreatDoorWyM
import Derived.Test.YtllmabgollkigaaGreatDoorUj
namespace Go.Proofs.YtllmabgollkigaaGreatDoor
open Go.RowKit
set_option linter.unusedVariables false
theorem elAt_is{x:ByteArray}{e:ElemT}(h:elAt x=some e):IsEl x e.op e.args:=by
 unfold elAt at h
 split at h
 ·next hx =>
  injection h with h
  rw [←h]
  exact hx.choose_spec
 ·cases h
theorem elQ_3{L:List ByteArray}{q:Int→Bool}{k:Nat}{e:ElemT}(h:elQ L q k=some e):wE e≤3:=by
 unfold elQ at h
 split at h
 ·obtain ⟨h1,_⟩:=Option.filter_eq_some_iff.1 h
  exact (rtk_3 (elAt_is h1).1).2
 ·cases h
theorem net_w(L:List ByteArray):∀n,(∀m k r,zav L n k=some r→k<r.2∧wN m r.1+1≤4*(r.2-k))∧(∀m k r,zag L n k=some r→k<r.2∧r.1.length+(r.1.map (wN m)).sum≤4*(r.2-k))
 | 0=>⟨(fun m k r h=>by rw [zav] at h;cases h),(fun m k r h=>by rw [zag] at h;cases h)⟩
 | n+1=>by
  obtain ⟨i1,i2⟩:=net_w L n
  refine ⟨fun m k r h=>?_,fun m k r h=>?_⟩
  ·rw [zav] at h
   by_cases hq:kAt L k=2∨kAt L k=3∨kAt L k=4
   ·rw [if_pos hq] at h
    obtain ⟨u,h1,rfl⟩:=Option.map_eq_some_iff.1 h
    cases m with
    | zero =>
     have:=(i2 0 _ u h1).1
     refine ⟨by show k<u.2;omega,?_⟩
     show 0+1≤4*(u.2-k)
     omega
    | succ m =>
     have:=i2 m _ u h1
     refine ⟨by show k<u.2;omega,?_⟩
     show 0+(u.1.length+(u.1.map (wN m)).sum)+1≤4*(u.2-k)
     omega
   ·rw [if_neg hq] at h
    obtain ⟨e,h1,rfl⟩:=Option.map_eq_some_iff.1 h
    refine ⟨by show k<k+1;omega,?_⟩
    have:=elQ_3 h1
    cases m with
    | zero=>show 0+1≤4*(k+1-k);omega
    | succ m=>show wE e+(0+0)+1≤4*(k+1-k);omega
  ·rw [zag] at h
   by_cases hq:kAt L k=9
   ·rw [if_pos hq] at h
    cases h
    exact ⟨by show k<k+1;omega,by simp⟩
   ·rw [if_neg hq] at h
    obtain ⟨u,h1,h2⟩:=Option.bind_eq_some_iff.1 h
    obtain ⟨v,h3,rfl⟩:=Option.map_eq_some_iff.1 h2
    have a1:=i1 m k u h1
    have a2:=i2 m u.2 v h3
    refine ⟨by show k<v.2;omega,?_⟩
    simp only [List.length_cons,List.map_cons,List.sum_cons]
    omega
theorem coils_w(L:List ByteArray):∀n k,k≤(zae L n k).2∧(zae L n k).1.length+((zae L n k).1.map wE).sum≤4*((zae L n k).2-k)
 | 0,k=>by rw [zae];simp
 | n+1,k=>by
  rw [zae]
  cases he:elQ L qCl k with
  | none=>simp
  | some e =>
   have h3:=elQ_3 he
   have:=coils_w L n (k+1)
   simp only [List.length_cons,List.map_cons,List.sum_cons]
   omega
theorem arm_w(L:List ByteArray):∀n,(∀m k r,zbz L n k=some r→k<r.2∧wA m r.1+1≤4*(r.2-k))∧(∀m k r,zbb L n k=some r→k<r.2∧r.1.length+(r.1.map (wA m)).sum≤4*(r.2-k))
 | 0=>⟨(fun m k r h=>by rw [zbz] at h;cases h),(fun m k r h=>by rw [zbb] at h;cases h)⟩
 | n+1=>by
  obtain ⟨i1,i2⟩:=arm_w L n
  have hd:∀m k r,zba L n k=some r→k<r.2∧wN m r.1+1≤4*(r.2-k):=by
   intro m k r h
   unfold zba at h
   by_cases h5:kAt L k=5
   ·rw [if_pos h5] at h
    cases h
    refine ⟨by show k<k+1;omega,?_⟩
    cases m with
    | zero=>show 0+1≤4*(k+1-k);omega
    | succ m=>show 0+(0+0)+1≤4*(k+1-k);omega
   ·rw [if_neg h5] at h
    obtain ⟨u,h1,h2⟩:=Option.bind_eq_some_iff.1 h
    by_cases h6:kAt L u.2=5
    ·rw [if_pos h6] at h2
     cases h2
     have:=(net_w L n).1 m k u h1
     exact ⟨by show k<u.2+1;omega,by show wN m u.1+1≤4*(u.2+1-k);omega⟩
    ·rw [if_neg h6] at h2;cases h2
  refine ⟨fun m k r h=>?_,fun m k r h=>?_⟩
  ·rw [zbz] at h
   obtain ⟨u,h1,h2⟩:=Option.bind_eq_some_iff.1 h
   have hc:=coils_w L n u.2
   by_cases h6:kAt L (zae L n u.2).2=6
   ·rw [if_pos h6] at h2
    obtain ⟨v,h3,rfl⟩:=Option.map_eq_some_iff.1 h2
    cases m with
    | zero =>
     have a1:=hd 0 k u h1
     have a2:=(i2 0 _ v h3).1
     refine ⟨by show k<v.2;omega,?_⟩
     show 0+1≤4*(v.2-k)
     omega
    | succ m =>
     have a1:=hd m k u h1
     have a2:=i2 m _ v h3
     refine ⟨by show k<v.2;omega,?_⟩
     show wN m u.1+((zae L n u.2).1.length+((zae L n u.2).1.map wE).sum)+(v.1.length+(v.1.map (wA m)).sum)+1≤4*(v.2-k)
     omega
   ·rw [if_neg h6] at h2
    cases h2
    cases m with
    | zero =>
     have a1:=hd 0 k u h1
     refine ⟨by show k<(zae L n u.2).2;omega,?_⟩
     show 0+1≤4*((zae L n u.2).2-k)
     omega
    | succ m =>
     have a1:=hd m k u h1
     refine ⟨by show k<(zae L n u.2).2;omega,?_⟩
     show wN m u.1+((zae L n u.2).1.length+((zae L n u.2).1.map wE).sum)+(0+0)+1≤4*((zae L n u.2).2-k)
     omega
  ·rw [zbb] at h
   obtain ⟨u,h1,h2⟩:=Option.bind_eq_some_iff.1 h
   have a1:=i1 m k u h1
   by_cases h8:kAt L u.2=8
   ·rw [if_pos h8] at h2
    cases h2
    refine ⟨by show k<u.2+1;omega,?_⟩
    show 1+(wA m u.1+0)≤4*(u.2+1-k)
    omega
   ·rw [if_neg h8] at h2
    by_cases h7:kAt L u.2=7
    ·rw [if_pos h7] at h2
     obtain ⟨v,h3,rfl⟩:=Option.map_eq_some_iff.1 h2
     have a2:=i2 m _ v h3
     refine ⟨by show k<v.2;omega,?_⟩
     simp only [List.length_cons,List.map_cons,List.sum_cons]
     omega
    ·rw [if_neg h7] at h2;cases h2
theorem rung_w{L:List ByteArray}{t:ArmT}(m:Nat)(h:zbv L=some t):wA m t≤4*L.length:=by
 unfold zbv at h
 obtain ⟨u,h1,h2⟩:=Option.bind_eq_some_iff.1 h
 by_cases hk:u.2=L.length
 ·rw [if_pos hk] at h2
  cases h2
  have:=(arm_w L _).1 m 0 u h1
  omega
 ·rw [if_neg hk] at h2;cases h2
def wsB(l:List UInt8):List ByteArray:=(zal l).map fun x=>⟨x.toArray⟩
theorem wsB_of{L : List ByteArray}{l : List UInt8}(h : L.map (·.data.toList) = zal l) : L = wsB l := by
 unfold wsB
 rw [←h,List.map_map]
 conv=>lhs;rw [←List.map_id L]
 apply List.map_congr_left
 intro x _
 simp
theorem wsB_len(l:List UInt8):(wsB l).length=(zal l).length:=by unfold wsB;simp
noncomputable def tf:List (List UInt8)→Nat→List ArmT→List Nat→List ArmT×List Nat×Nat
 | [],n,rs,ats=>(rs,ats,0)
 | l::ls,n,rs,ats=>if zal l=[] then tf ls (n+1) rs ats else match zbv (wsB l) with
  | none=>([],[],n+1)
  | some t=>tf ls (n+1) (rs++[t]) (ats++[n+1])
theorem tf_skip{ls:List (List UInt8)}{l:List UInt8}{n:Nat}{rs:List ArmT}{ats:List Nat}(hl:ls[n]?=some l)(h:zal l=[]):tf (ls.drop n) n rs ats=tf (ls.drop (n+1)) (n+1) rs ats:=by
 obtain ⟨hn,rfl⟩:=List.getElem?_eq_some_iff.1 hl
 rw [List.drop_eq_getElem_cons hn,tf,if_pos h]
theorem tf_bad{ls:List (List UInt8)}{l:List UInt8}{n:Nat}{rs:List ArmT}{ats:List Nat}(hl:ls[n]?=some l)(h:zal l≠[])(hi:zbv (wsB l)=none):tf (ls.drop n) n rs ats=([],[],n+1):=by
 obtain ⟨hn,rfl⟩:=List.getElem?_eq_some_iff.1 hl
 rw [List.drop_eq_getElem_cons hn,tf,if_neg h,hi]
theorem tf_go{ls:List (List UInt8)}{l:List UInt8}{n:Nat}{rs:List ArmT}{ats:List Nat}{t:ArmT}(hl:ls[n]?=some l)(h:zal l≠[])(hi:zbv (wsB l)=some t):tf (ls.drop n) n rs ats=tf (ls.drop (n+1)) (n+1) (rs++[t]) (ats++[n+1]):=by
 obtain ⟨hn,rfl⟩:=List.getElem?_eq_some_iff.1 hl
 rw [List.drop_eq_getElem_cons hn,tf,if_neg h,hi]
theorem tf_end{ls:List (List UInt8)}{n:Nat}{rs:List ArmT}{ats:List Nat}(h:ls.length≤n):tf (ls.drop n) n rs ats=(rs,ats,0):=by
 rw [List.drop_eq_nil_of_le h,tf]
def bef(ls:List (List UInt8))(n:Nat):Nat:=((ls.take n).map fun l=>l.length+1).sum
theorem zgm{ls:List (List UInt8)}{l:List UInt8}{n:Nat}(h:ls[n]?=some l):bef ls (n+1)=bef ls n+(l.length+1):=by
 unfold bef
 rw [List.take_add_one,h]
 simp
theorem zgn(c:UInt8):∀(x cur:List UInt8),((cutA c cur x).map fun l=>l.length+1).sum=cur.length+x.length+1
 | [],cur=>by simp [cutA]
 | b::x,cur=>by
  unfold cutA
  split
  ·rw [List.map_cons,List.sum_cons,zgn c x []]
   simp only [List.length_cons,List.length_nil]
   omega
  ·rw [zgn c x (cur++[b])]
   simp only [List.length_append,List.length_cons,List.length_nil]
   omega
theorem bef_le(s:List UInt8)(n:Nat):bef (pieces 10 s) n≤s.length+1:=by
 have h1:bef (pieces 10 s) n≤((pieces 10 s).map fun l=>l.length+1).sum:=by
  unfold bef
  conv=>rhs;rw [←List.take_append_drop n (pieces 10 s)]
  rw [List.map_append,List.sum_append]
  omega
 have h2:=zgn 10 s []
 unfold pieces at h1 ⊢
 simp at h2
 omega
noncomputable def zdw(ct cl:Int→List ArgT→Bool)(s:ByteArray):List ArmT×Int×Int :=
 if 16000<s.size then ([],0,11) else
  if (tf (pieces 10 s.data.toList) 0 [] []).2.2≠0 then ([],((tf (pieces 10 s.data.toList) 0 [] []).2.2:Int),12) else
   if (zbr ct cl 40000 (tf (pieces 10 s.data.toList) 0 [] []).1).1=0 then ((tf (pieces 10 s.data.toList) 0 [] []).1,0,0) else
    if (zbr ct cl 40000 (tf (pieces 10 s.data.toList) 0 [] []).1).1=1 then ([],0,1) else
     ([],(((tf (pieces 10 s.data.toList) 0 [] []).2.1.getD (zbr ct cl 40000 (tf (pieces 10 s.data.toList) 0 [] []).1).2.toNat 0:Nat):Int),(zbr ct cl 40000 (tf (pieces 10 s.data.toList) 0 [] []).1).1)
end Go.Proofs.YtllmabgollkigaaGreatDoor
