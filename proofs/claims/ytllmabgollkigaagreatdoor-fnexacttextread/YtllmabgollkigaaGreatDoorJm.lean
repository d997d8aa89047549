/- The specification's l4Guess. -/
import Derived.Test.YtllmabgollkigaaGreatDoorJk
import Derived.Test.YtllmabgollkigaaGreatDoorJdM
import Derived.Lib.QuietBelow
namespace Go.Proofs.YtllmabgollkigaaGreatDoor
open Go.RowKit Go.Shelf Go.Lib
set_option linter.unusedVariables false
def IsA(xs:List Arg)(w:World)(e:Ending)(w':World):Prop:=∃(g cap:Nat),e=.returned (.slice (some ⟨g,0,none⟩) xs.length cap)∧OpsOwn w' w.heap.size g cap xs∧Below w.heap.size w w'
theorem args_eq{c : UInt8}{l : List UInt8}{M : List ByteArray}(h : M.map (·.data.toList) = pieces c l) : (M.take 4).map rdA = zas c l := by
 unfold zas
 rw [←h,←List.map_take,List.map_map]
 apply List.map_congr_left
 intro x _
 rfl
theorem zfx(x:ByteArray)(c:UInt8)(w:World)(hs:x.size≤1048576) :
  Calls Tryz.prog 158 #[.string x,.int .u8 (c.toNat:Int)] w fun e w'=>IsA (zas c x.data.toList) w e w':=by
 refine (args_s x c rdA rdB w hs (fun y hy W=>dev_s y hy W)).mono ?_
 rintro e w' ⟨g,cap,M,xs,h1,rfl,rfl,h2,h3⟩
 rw [args_eq h1] at h2 ⊢
 exact ⟨g,cap,rfl,h2,h3⟩
theorem argsL_len(c:UInt8)(l:List UInt8):1≤(zas c l).length∧(zas c l).length≤4:=by
 unfold zas
 have:=pieces_ne c l
 have h1:1≤(pieces c l).length:=by
  cases hq:pieces c l with
  | nil=>exact absurd hq this
  | cons a b=>simp
 rw [List.length_map,List.length_take]
 omega
def IsG(r:Int×List Arg)(w:World)(e:Ending)(w':World):Prop :=
 (∃(g cap:Nat),e=.returned (.agg #[.int .i64 r.1,.slice (some ⟨g,0,none⟩) r.2.length cap])∧OpsOwn w' w.heap.size g cap r.2∧Below w.heap.size w w') ∨
 (r.2=[]∧e=.returned (.agg #[.int .i64 r.1,.slice none 0 0])∧Below w.heap.size w w')
theorem find_first{l:List UInt8}{i:Nat}{c:UInt8}(h:∀b∈l.take i,isC b=false)(hi:l[i]?=some c)(hc:isC c=true):l.findIdx? isC=some i:=by
 have hl:=(List.getElem?_eq_some_iff.1 hi).1
 have e:l=l.take i++c::l.drop (i+1):=by
  rw [←List.take_append_drop i l]
  congr 1
  ·simp
  ·rw [List.take_append_drop,List.drop_eq_getElem_cons hl,(List.getElem?_eq_some_iff.1 hi).2]
 rw [e,find_at h hc,List.length_take]
 congr 1
 omega
theorem take_next{l:List UInt8}{i:Nat}{c:UInt8}(h:∀b∈l.take i,isC b=false)(hi:l[i]?=some c)(hc:isC c=false):∀b∈l.take (i+1),isC b=false:=by
 intro b hb
 rw [List.take_add_one,hi] at hb
 rcases List.mem_append.1 hb with hb|hb
 ·exact h b hb
 ·simp at hb;subst hb;exact hc
theorem isC_cases(c:UInt8):(c.toNat=60∧isC c=true)∨(c.toNat=61∧isC c=true)∨(c.toNat=62∧isC c=true)∨(c.toNat≠60∧c.toNat≠61∧c.toNat≠62∧isC c=false):=by
 have e60:c.toNat=60 ↔ c=60:=by rw [←UInt8.toNat_inj];rfl
 have e61:c.toNat=61 ↔ c=61:=by rw [←UInt8.toNat_inj];rfl
 have e62:c.toNat=62 ↔ c=62:=by rw [←UInt8.toNat_inj];rfl
 by_cases h1:c=60
 ·exact .inl ⟨e60.2 h1,by rw [h1];rfl⟩
 by_cases h2:c=61
 ·exact .inr (.inl ⟨e61.2 h2,by rw [h2];rfl⟩)
 by_cases h3:c=62
 ·exact .inr (.inr (.inl ⟨e62.2 h3,by rw [h3];rfl⟩))
 ·exact .inr (.inr (.inr ⟨fun h=>h1 (e60.1 h),fun h=>h2 (e61.1 h),fun h=>h3 (e62.1 h),by simp [isC,h1,h2,h3]⟩))
theorem cmpN_at(l:List UInt8)(i:Nat)(hi:i<l.length):(l.length≤i+1∧cmpN (l.drop i)=1)∨(∃d,l[i+1]?=some d∧((d.toNat=61∧cmpN (l.drop i)=2)∨(d.toNat=62∧cmpN (l.drop i)=2)∨(d.toNat≠61∧d.toNat≠62∧cmpN (l.drop i)=1))):=by
 rw [List.drop_eq_getElem_cons hi]
 by_cases h2:i+1<l.length
 ·right
  refine ⟨l[i+1],List.getElem?_eq_getElem h2,?_⟩
  rw [List.drop_eq_getElem_cons h2]
  generalize l[i+1]=d
  have e61:d.toNat=61 ↔ d=61:=by rw [←UInt8.toNat_inj];rfl
  have e62:d.toNat=62 ↔ d=62:=by rw [←UInt8.toNat_inj];rfl
  show _∨_∨_
  by_cases h3:d=61
  ·exact .inl ⟨e61.2 h3,by rw [h3];rfl⟩
  by_cases h4:d=62
  ·exact .inr (.inl ⟨e62.2 h4,by rw [h4];rfl⟩)
  ·exact .inr (.inr ⟨fun h=>h3 (e61.1 h),fun h=>h4 (e62.1 h),by simp [cmpN,h3,h4]⟩)
 ·left
  refine ⟨by omega,?_⟩
  rw [List.drop_eq_nil_of_le (by omega)]
  rfl
theorem cmpN_le(l:List UInt8)(i:Nat)(hi:i<l.length):1≤cmpN (l.drop i)∧i+cmpN (l.drop i)≤l.length:=by
 rcases cmpN_at l i hi with ⟨_,h⟩|⟨d,hd,⟨_,h⟩|⟨_,h⟩|⟨_,_,h⟩⟩
 ·omega
 all_goals (have:=(List.getElem?_eq_some_iff.1 hd).1;omega)
theorem cmpN_two(l:List UInt8):cmpN l=1∨cmpN l=2:=by
 unfold cmpN
 split
 ·split
  ·exact .inr rfl
  ·exact .inl rfl
 ·exact .inl rfl
theorem zdm(c:UInt8)(n:Nat)(m:Int)(hm:m=n)(h:c.toNat=n):(((c.toNat:Nat):Int)==m)=true:=by rw [h,hm];simp
theorem zbl(c:UInt8)(n:Nat)(m:Int)(hm:m=n)(h:c.toNat≠n):(((c.toNat:Nat):Int)==m)=false:=by rw [beq_eq_false_iff_ne];omega
theorem opsL_len(ys:List Arg):(opsL ys).length=ys.length*3:=by
 induction ys with
 | nil=>rfl
 | cons y ys ih =>
  show (opv y++opsL ys).length=_
  rw [List.length_append,ih,List.length_cons]
  simp [opv];omega
theorem opsL_one(ys:List Arg):∀u∈opsL ys,u.oneCell'=true:=by
 induction ys with
 | nil=>intro u hu;cases hu
 | cons y ys ih =>
  intro u hu
  have hu:u∈opv y++opsL ys:=hu
  rcases List.mem_append.1 hu with hu|hu
  ·simp [opv] at hu
   rcases hu with rfl|rfl|rfl<;>rfl
  ·exact ih u hu
theorem opsL_app(xs ys:List Arg):opsL xs++opsL ys=opsL (xs++ys):=by simp [opsL]
theorem own_join{w:World}{base g cap:Nat}{xs ys:List Arg}(h:w.ownsRow base 133 3 (.slice (some ⟨g,0,none⟩) (xs.length+ys.length) cap) (xs.length+ys.length) (opsL xs++opsL ys)):OpsOwn w base g cap (xs++ys):=by
 show World.ownsRow _ _ _ _ _ _ _
 rw [List.length_append,←opsL_app]
 exact h
theorem hp_short(s nm:ByteArray)(h:¬ nm.size<s.size):Lib.hasPrefix s.data.toList (nm++⟨#[58]⟩).data.toList=false:=by
 cases hq:Lib.hasPrefix s.data.toList (nm++⟨#[58]⟩).data.toList with
 | false=>rfl
 | true =>
  exfalso
  unfold Lib.hasPrefix at hq
  rw [List.isPrefixOf_iff_prefix] at hq
  have:=hq.length_le
  rw [←Lib.size_eq,←Lib.size_eq,ByteArray.size_append] at this
  have e:(⟨#[58]⟩:ByteArray).size=1:=rfl
  omega
theorem hp_eq(s nm:ByteArray)(h:nm.size<s.size):Lib.hasPrefix s.data.toList (nm++⟨#[58]⟩).data.toList=(((s.extract 0 nm.size).toList==nm.toList)&&decide ((s[nm.size]'h).toNat=58)):=by
 have hl:nm.size<s.data.toList.length:=by rw [←Lib.size_eq];exact h
 have e1:(s.extract 0 nm.size).toList=s.data.toList.take nm.size:=by rw [Lib.extract_toList];simp
 have e2:s.data.toList=s.data.toList.take nm.size++(s[nm.size]'h)::s.data.toList.drop (nm.size+1):=by
  conv=>lhs;rw [←List.take_append_drop nm.size s.data.toList,List.drop_eq_getElem_cons hl]
  rfl
 have e3:(nm++⟨#[58]⟩:ByteArray).data.toList=nm.data.toList++[58]:=by simp
 have e4:(s.data.toList.take nm.size).length=nm.data.toList.length:=by rw [List.length_take,←Lib.size_eq,←Lib.size_eq];omega
 rw [e1,Lib.toList_data,e3,Bool.eq_iff_iff]
 unfold Lib.hasPrefix
 rw [List.isPrefixOf_iff_prefix,Bool.and_eq_true,beq_iff_eq,decide_eq_true_eq]
 generalize s[nm.size]'h=d at e2
 generalize s.data.toList.take nm.size=tk at e2 e4 ⊢
 rw [e2]
 constructor
 ·rintro ⟨t,ht⟩
  rw [List.append_assoc] at ht
  obtain ⟨h1,h2⟩:=List.append_inj ht e4.symm
  simp at h2
  exact ⟨h1.symm,by rw [←h2.1];rfl⟩
 ·rintro ⟨h1,h2⟩
  have hd:d=58:=UInt8.toNat_inj.1 h2
  rw [h1,hd]
  exact ⟨s.data.toList.drop (nm.size+1),by simp⟩
set_option maxRecDepth 10000 in
set_option maxHeartbeats 8000000 in
theorem guess_s(s:ByteArray)(w:World)(hs:s.size≤1048576) :
  Calls Tryz.prog 120 #[.string s] w fun e w'=>IsG (zbk s.data.toList) w e w':=by
 have hinfo:(Tryz.prog.info? 133).map (fun i=>(i.zero,i.size,i.bytes))=some (some (.agg #[.int .i64 0,.int .i64 0,.int .i64 0]),3,24):=by kernel_rfl
 obtain ⟨i0,hi,hzz⟩:=Option.map_eq_some_iff.1 hinfo
 simp only [Prod.mk.injEq] at hzz
 obtain ⟨hz0,hz1,hz2⟩:=hzz
 have HI:Hid (Tryz.prog.info? 133=some i0∧i0.zero=some (.agg #[.int .i64 0,.int .i64 0,.int .i64 0])∧i0.size=3∧i0.bytes=24):=⟨hi,hz0,hz1,hz2⟩
 clear hi hz0 hz1 hz2 hinfo
 go_enter Tryz.func120,Tryz.ntmps120
 go_wp2_with fail
 have B0:Hid (Below w.heap.size w (w.alloc (.cells #[.int .i64 0,.slice none 0 0] 50))):=(Below.refl _ w).alloc (Nat.le_refl _) _
 have E0:Hid (E2 (w.alloc (.cells #[.int .i64 0,.slice none 0 0] 50)) w.heap.size (.int .i64 0) (.slice none 0 0)):=E2.fresh w _ _ _
 generalize w.alloc (.cells #[.int .i64 0,.slice none 0 0] 50)=W0 at B0 E0 ⊢
 go_loopg [3] s.size (fun g o wr=>∃i:Nat,i+g=s.size∧o=.int .i64 i∧wr=W0∧Hid (∀b∈s.data.toList.take i,isC b=false))
 case atStart=>exact ⟨0,by omega,rfl,rfl,by intro b hb;simp at hb⟩
 case round =>
  obtain ⟨i,hig,rfl,rfl,HF⟩:=hrel
  by_cases hlt:i<s.size
  ·have i1:(i:Int)<(s.size:Int):=by omega
   have i2:(0:Int)≤(i:Int):=by omega
   have hsi:s[i]?=some (s[i]'hlt):=by simp [hlt]
   have hl:i<s.data.toList.length:=by rw [←Lib.size_eq];exact hlt
   have hci:s.data.toList[i]?=some (s[i]'hlt):=by rw [List.getElem?_eq_getElem hl];rfl
   go_upto_region 4 with fail
   go_cut [29] from 8 to 75 (fun v wc=>v=.bool (isC (s[i]'hlt))∧wr=wc)
   case first =>
    rcases isC_cases (s[i]'hlt) with ⟨hq,hcc⟩|⟨hq,hcc⟩|⟨hq,hcc⟩|⟨n0,n1,n2,hcc⟩
    ·have e0:=zdm (s[i]'hlt) 60 60 rfl hq
     go_wp2_with fail
     go_meet
     exact ⟨by rw [hcc],rfl⟩
    ·have e0:=zbl (s[i]'hlt) 60 60 rfl (by omega)
     have e1:=zdm (s[i]'hlt) 61 61 rfl hq
     go_wp2_with fail
     go_meet
     exact ⟨by rw [hcc],rfl⟩
    ·have e0:=zbl (s[i]'hlt) 60 60 rfl (by omega)
     have e1:=zbl (s[i]'hlt) 61 61 rfl (by omega)
     have e2:=zdm (s[i]'hlt) 62 62 rfl hq
     go_wp2_with fail
     go_meet
     exact ⟨by rw [hcc],rfl⟩
    ·have e0:=zbl (s[i]'hlt) 60 60 rfl n0
     have e1:=zbl (s[i]'hlt) 61 61 rfl n1
     have e2:=zbl (s[i]'hlt) 62 62 rfl n2
     go_wp2_with fail
     go_meet
     exact ⟨by rw [hcc],rfl⟩
   case rest =>
    obtain ⟨rfl,rfl⟩:=hcut
    cases hcc:isC (s[i]'hlt) with
    | false =>
     have HF1:Hid (∀b∈s.data.toList.take (i+1),isC b=false):=take_next HF.out hci hcc
     clear hcc hci HF
     go_wp2
     go_roundg (gk-1)
     case measure=>omega
     case rel=>exact ⟨i+1,by omega,by go_num,rfl,HF1⟩
    | true =>
     have HFI:Hid (s.data.toList.findIdx? isC=some i):=find_first HF.out hci hcc
     clear hcc hci HF
     go_upto_region 6 with fail
     go_cut [48] from 8 to 75 (fun v wc=>v=.bool (decide (cmpN (s.data.toList.drop i)=2))∧wr=wc)
     case first =>
      rcases cmpN_at s.data.toList i hl with ⟨hs1,hcn⟩|⟨d,hd,⟨hdd,hcn⟩|⟨hdd,hcn⟩|⟨hd1,hd2,hcn⟩⟩
      ·have k1:¬((i:Int)+1<(s.size:Int)):=by rw [←Lib.size_eq] at hs1;omega
       have HCN:Hid (cmpN (s.data.toList.drop i)=1):=hcn
       clear hcn
       go_wp2_with fail
       go_meet
       exact ⟨by rw [HCN.out];rfl,rfl⟩
      ·have hsl:i+1<s.size:=by have:=(List.getElem?_eq_some_iff.1 hd).1;rw [←Lib.size_eq] at this;exact this
       have k1:((i:Int)+1<(s.size:Int)):=by omega
       have hdd':s[i+1]'hsl=d:=(List.getElem?_eq_some_iff.1 hd).2
       subst hdd'
       have hsd:s[i+1]?=some (s[i+1]'hsl):=by simp [hsl]
       have k2:(0:Int)≤(i:Int)+1:=by omega
       have k3:((i:Int)+1).toNat=i+1:=by omega
       have g1:=zdm (s[i+1]'hsl) 61 61 rfl hdd
       clear hd
       have HCN:Hid (cmpN (s.data.toList.drop i)=2):=hcn
       clear hcn
       go_wp2_with fail
       go_meet
       exact ⟨by rw [HCN.out];rfl,rfl⟩
      ·have hsl:i+1<s.size:=by have:=(List.getElem?_eq_some_iff.1 hd).1;rw [←Lib.size_eq] at this;exact this
       have k1:((i:Int)+1<(s.size:Int)):=by omega
       have hdd':s[i+1]'hsl=d:=(List.getElem?_eq_some_iff.1 hd).2
       subst hdd'
       have hsd:s[i+1]?=some (s[i+1]'hsl):=by simp [hsl]
       have k2:(0:Int)≤(i:Int)+1:=by omega
       have k3:((i:Int)+1).toNat=i+1:=by omega
       have g1:=zbl (s[i+1]'hsl) 61 61 rfl (by omega)
       have g2:=zdm (s[i+1]'hsl) 62 62 rfl hdd
       clear hd
       have HCN:Hid (cmpN (s.data.toList.drop i)=2):=hcn
       clear hcn
       go_wp2_with fail
       go_meet
       exact ⟨by rw [HCN.out];rfl,rfl⟩
      ·have hsl:i+1<s.size:=by have:=(List.getElem?_eq_some_iff.1 hd).1;rw [←Lib.size_eq] at this;exact this
       have k1:((i:Int)+1<(s.size:Int)):=by omega
       have hdd':s[i+1]'hsl=d:=(List.getElem?_eq_some_iff.1 hd).2
       subst hdd'
       have hsd:s[i+1]?=some (s[i+1]'hsl):=by simp [hsl]
       have k2:(0:Int)≤(i:Int)+1:=by omega
       have k3:((i:Int)+1).toNat=i+1:=by omega
       have g1:=zbl (s[i+1]'hsl) 61 61 rfl hd1
       have g2:=zbl (s[i+1]'hsl) 62 62 rfl hd2
       clear hd
       have HCN:Hid (cmpN (s.data.toList.drop i)=1):=hcn
       clear hcn
       go_wp2_with fail
       go_meet
       exact ⟨by rw [HCN.out];rfl,rfl⟩
     case rest =>
      obtain ⟨rfl,rfl⟩:=hcut
      have hN:=cmpN_le s.data.toList i hl
      have hN2:=cmpN_two (s.data.toList.drop i)
      go_upto_if 48 with fail
      go_cut [4] from 8 to 75 (fun v wc=>v=.int .i64 (cmpN (s.data.toList.drop i):Int)∧wr=wc)
      case first =>
       cases h2:decide (cmpN (s.data.toList.drop i)=2) with
       | true =>
        have HCN:Hid (cmpN (s.data.toList.drop i)=2):=(of_decide_eq_true h2:cmpN (s.data.toList.drop i)=2)
        clear h2 hN hN2
        go_wp2_with fail
        go_meet
        exact ⟨by rw [HCN.out];rfl,rfl⟩
       | false =>
        have HCN:Hid (cmpN (s.data.toList.drop i)=1):=(by have:=of_decide_eq_false h2;omega:cmpN (s.data.toList.drop i)=1)
        clear h2 hN hN2
        go_wp2_with fail
        go_meet
        exact ⟨by rw [HCN.out];rfl,rfl⟩
      case rest =>
       obtain ⟨rfl,rfl⟩:=hcut
       obtain ⟨N,hcn⟩:∃N,cmpN (s.data.toList.drop i)=N:=⟨_,rfl⟩
       rw [←Lib.size_eq,hcn] at hN
       clear hN2
       have HG:Hid (zbk s.data.toList=guessT s.data.toList i):=(by unfold zbk;rw [HFI.out]:zbk s.data.toList=guessT s.data.toList i)
       obtain ⟨X0,hX0⟩:∃X0,s.extract i (i+N)=X0:=⟨_,rfl⟩
       obtain ⟨X1,hX1⟩:∃X1,s.extract 0 i=X1:=⟨_,rfl⟩
       obtain ⟨X2,hX2⟩:∃X2,s.extract (i+N) s.size=X2:=⟨_,rfl⟩
       have d0:X0.data.toList=(s.data.toList.drop i).take (cmpN (s.data.toList.drop i)):=by rw [←hX0,Lib.extract_data,hcn];congr 1;omega
       have d1:X1.data.toList=s.data.toList.take i:=by rw [←hX1,Lib.extract_data];simp
       have d2:X2.data.toList=s.data.toList.drop (i+cmpN (s.data.toList.drop i)):=by rw [←hX2,Lib.extract_data,hcn,List.take_of_length_le (by rw [List.length_drop,←Lib.size_eq];exact Nat.le_refl _)]
       have HT:Hid (zbk s.data.toList=match cmpO X0.data.toList 6 with|some op=>(op,zas 32 X1.data.toList++zas 32 X2.data.toList)|none=>(0,[])):=(by rw [HG.out,d0,d1,d2];rfl:zbk s.data.toList=match cmpO X0.data.toList 6 with|some op=>(op,zas 32 X1.data.toList++zas 32 X2.data.toList)|none=>(0,[]))
       have s1:X1.size≤1048576:=by rw [Lib.size_eq,d1,List.length_take,←Lib.size_eq];omega
       have s2:X2.size≤1048576:=by rw [Lib.size_eq,d2,List.length_drop,←Lib.size_eq];omega
       have HA1:Hid (∀W,Calls Tryz.prog 158 #[.string X1,.int .u8 32] W fun e w'=>IsA (zas 32 X1.data.toList) W e w'):=fun W=>zfx X1 32 W s1
       have HA2:Hid (∀W,Calls Tryz.prog 158 #[.string X2,.int .u8 32] W fun e w'=>IsA (zas 32 X2.data.toList) W e w'):=fun W=>zfx X2 32 W s2
       have ln1:=argsL_len 32 X1.data.toList
       have ln2:=argsL_len 32 X2.data.toList
       generalize zas 32 X1.data.toList=Y1 at HA1 HT ln1
       generalize zas 32 X2.data.toList=Y2 at HA2 HT ln2
       rw [hcn]
       clear HG d0 d1 d2 s1 s2 hcn HFI
       have i3:(i:Int)+(N:Int)≤(s.size:Int):=by omega
       have i4:(i:Int)≤(i:Int)+(N:Int):=by omega
       have i5:(0:Int)≤(i:Int)+(N:Int):=by omega
       have i6:((i:Int)+(N:Int)).toNat=i+N:=by omega
       have i7:(i:Int)≤(s.size:Int):=by omega
       have i8:IntKind.i64.wrap ((i:Int)+(N:Int))=(i:Int)+(N:Int):=by rw [IntKind.wrap_i64];omega
       go_wp2_with fail
       go_loopg [5] 6 (fun g o wr=>o=.int .i64 (11-(g:Int))∧g≤6∧Hid (Below w.heap.size w wr)∧Hid (E2 wr w.heap.size (.int .i64 0) (.slice none 0 0))∧Hid (cmpO X0.data.toList g=cmpO X0.data.toList 6))
       case atStart=>exact ⟨rfl,by omega,B0,E0,Eq.refl (cmpO X0.data.toList 6)⟩
       case round =>
        obtain ⟨rfl,hg6,HB,HE,HC⟩:=hrel
        cases gk with
        | zero =>
         have HT0:Hid (zbk s.data.toList=(0,[])):=(by rw [HT.out,←HC.out];rfl:zbk s.data.toList=(0,[]))
         have EA:=HE.out
         have EP:=EA.put (.int .i64 0) (.slice none 0 0)
         obtain ⟨c0,c1,f0,f1⟩:=EA
         obtain ⟨q0,q1,_,_⟩:=EP
         have BP:Hid (Below w.heap.size w ((wr.setCell ⟨w.heap.size,0,none⟩ (.int .i64 0)).setCell ⟨w.heap.size,1,none⟩ (.slice none 0 0))):=(HB.out.setCell (Nat.le_refl _) _).setCell (Nat.le_refl _) _
         clear HE HB HC HT HA1 HA2
         go_wp2
         exact bodyPost_ret (v:=.agg #[.int .i64 0,.slice none 0 0]) (by simp [results,Tryz.results120,go_sem,q0,q1]) rfl (by rw [HT0.out];exact .inr ⟨rfl,rfl,BP.out⟩)
        | succ m =>
         obtain ⟨op,hop⟩:∃op:Int,11-((m+1:Nat):Int)=op:=⟨_,rfl⟩
         have o1:5≤op:=by omega
         have o2:op≤10:=by omega
         have HS:Hid (∀W,Calls Tryz.prog 111 #[.int .i64 op] W fun e w'=>e=.returned (.string (btw op))∧Below W.heap.size W w'):=fun W=>spec_sign op o1 o2 W
         have HC1:Hid (cmpO X0.data.toList (m+1)=if X0.data.toList=(btw op).data.toList then some op else cmpO X0.data.toList m):=(by
          have e10:10-(m:Int)=op:=by omega
          show cmpO X0.data.toList (m+1)=_
          rw [cmpO,e10]:cmpO X0.data.toList (m+1)=if X0.data.toList=(btw op).data.toList then some op else cmpO X0.data.toList m)
         have hnx:op+1=11-(m:Int):=by omega
         rw [hop]
         have cS:∀d os,Calls Tryz.prog 111 #[.int .i64 op] (Sort.grow (redrawn wr d) os) fun e w''=>e=.returned (.string (btw op))∧∃p:Regrown,w''=Sort.grow (redrawn wr p.d) p.os:=fun d os=>Calls.regrown_of (HS.out _)
         generalize btw op=BT at HS cS HC1
         cases heq:(X0.toList==BT.toList) with
         | false =>
          have HC2:Hid (cmpO X0.data.toList m=cmpO X0.data.toList 6):=(by
           rw [←HC.out,HC1.out,if_neg]
           intro e
           rw [Lib.toList_data,Lib.toList_data,e] at heq
           simp at heq:cmpO X0.data.toList m=cmpO X0.data.toList 6)
          clear HS HC1 HC
          go_upto_region 11 with fail
          refine wp_region_quiet_below (by kernel_rfl) (by kernel_rfl) ?_
          repeat (go_big_quiet_step (first|(go_at_call 111;exact cS _ _)))
          refine wpQuiet_nil ?_
          intro _ hw'
          obtain ⟨⟨dq,osq⟩,hw''⟩:=hw'
          subst hw''
          have gq:=below_regrown wr dq osq
          have HB2:Hid (Below w.heap.size w (Sort.grow (redrawn wr dq) osq)):=HB.out.trans (gq.mono HB.out.size)
          have HE2:Hid (E2 (Sort.grow (redrawn wr dq) osq) w.heap.size (.int .i64 0) (.slice none 0 0)):=HE.out.later gq
          clear gq HB HE cS
          generalize Sort.grow (redrawn wr dq) osq=W6 at HB2 HE2 ⊢
          go_wp2
          go_roundg m
          case measure=>omega
          case rel=>exact ⟨by rw [←hnx],by omega,HB2,HE2,HC2⟩
         | true =>
          have HT2:Hid (zbk s.data.toList=(op,Y1++Y2)):=(by
           rw [HT.out,←HC.out,HC1.out,if_pos]
           have:=eq_of_beq heq
           rwa [Lib.toList_data,Lib.toList_data] at this:zbk s.data.toList=(op,Y1++Y2))
          clear HS HC1 HC HT
          go_upto_region 11 with fail
          refine wp_region_quiet_below (by kernel_rfl) (by kernel_rfl) ?_
          repeat (go_big_quiet_step (first|(go_at_call 111;exact cS _ _)))
          refine wpQuiet_nil ?_
          intro _ hw'
          obtain ⟨⟨dq,osq⟩,hw''⟩:=hw'
          subst hw''
          have gq:=below_regrown wr dq osq
          have HB2:Hid (Below w.heap.size w (Sort.grow (redrawn wr dq) osq)):=HB.out.trans (gq.mono HB.out.size)
          have HE2:Hid (E2 (Sort.grow (redrawn wr dq) osq) w.heap.size (.int .i64 0) (.slice none 0 0)):=HE.out.later gq
          clear gq HB HE cS heq
          generalize Sort.grow (redrawn wr dq) osq=W6 at HB2 HE2 ⊢
          have hW6:=HE2.out.lt
          go_upto_region 12 with fail
          go_region_held3 (fun _=>True)
           (first|go_keep|trivial)
           (first
            | (go_at_call 158;(with_reducible refine (HA1.out _).mono ?_);rintro e w7 ⟨g1,cap1,rfl,ow1,b1⟩;have B7:Hid (Below w.heap.size w w7):=HB2.out.trans ((zdv b1).mono HB2.out.size);have E7:Hid (E2 w7 w.heap.size (.int .i64 0) (.slice none 0 0)):=HE2.out.later (zdv b1);have O7:Hid (OpsOwn w7 W6.heap.size g1 cap1 Y1):=ow1)
            | (go_at_call 158;(with_reducible refine (HA2.out _).mono ?_);rintro e w8 ⟨g2,cap2,rfl,ow2,b2⟩;have B8:Hid (Below w.heap.size w w8):=B7.out.trans (b2.mono B7.out.size);have E8:Hid (E2 w8 w.heap.size (.int .i64 0) (.slice none 0 0)):=E7.out.later b2;have own8:OpsOwn w8 W6.heap.size g1 cap1 Y1:=O7.out.later b2;have hsz8:=b2.size;have hc2:=ow2.cells rfl)
            | (refine step_append_lies _ (by rfl) (.tmp 66) (.tmp 72) 48 (by rfl) W6.heap.size 133 i0 (.agg #[.int .i64 0,.int .i64 0,.int .i64 0]) 3 24 Tryz.underlying48 HI.out.1 HI.out.2.1 HI.out.2.2.1 HI.out.2.2.2 (by rfl) (by decide) (.slice (some ⟨g1,0,none⟩) Y1.length cap1) Y1.length (opsL Y1) (by rfl) own8 ⟨g2,0,none⟩ Y2.length cap2 (opsL Y2) (by rfl) (opsL_len Y2) hc2 (opsL_one Y2) (by omega) (by unfold maxLen;omega) (by omega) (by have:=(own8.lt g1 rfl);omega) _ rfl ?_;intro g9 cap9 w9 own9 gg9 hat9 hlt9;have E9:E2 w9 w.heap.size (.int .i64 0) (.slice none 0 0):=E8.out.grown gg9 (by simp [Value.ownBlock];have:=(own8.lt g1 rfl);omega);have B9:Hid (Below w.heap.size w w9):=B8.out.grown gg9 (by have:=B8.out.size;omega) (fun z hz=>by simp [Value.ownBlock] at hz;have:=(own8.lt g1 rfl);omega);have O9:Hid (OpsOwn w9 W6.heap.size g9 cap9 (Y1++Y2)):=own_join own9;obtain ⟨c0,c1,f0,f1⟩:=id E9)
            | fail)
          have EP:=E9.put (.int .i64 op) (.slice (some ⟨g9,0,none⟩) (Y1.length+Y2.length) cap9)
          obtain ⟨q0,q1,_,_⟩:=EP
          have hg9:=(O9.out.lt g9 rfl).1
          have BP:Hid (Below w.heap.size w ((w9.setCell ⟨w.heap.size,0,none⟩ (.int .i64 op)).setCell ⟨w.heap.size,1,none⟩ (.slice (some ⟨g9,0,none⟩) (Y1.length+Y2.length) cap9))):=(B9.out.setCell (Nat.le_refl _) _).setCell (Nat.le_refl _) _
          have WP:Hid (OpsOwn ((w9.setCell ⟨w.heap.size,0,none⟩ (.int .i64 op)).setCell ⟨w.heap.size,1,none⟩ (.slice (some ⟨g9,0,none⟩) (Y1.length+Y2.length) cap9)) w.heap.size g9 cap9 (Y1++Y2)):=zai (zai (O9.out.base (by omega)) w.heap.size 0 (by omega) _) w.heap.size 1 (by omega) _
          go_wp2
          exact bodyPost_ret (v:=.agg #[.int .i64 op,.slice (some ⟨g9,0,none⟩) (Y1.length+Y2.length) cap9]) (by simp [results,Tryz.results120,go_sem,q0,q1]) rfl (by rw [HT2.out];exact .inl ⟨g9,cap9,by rw [List.length_append],WP.out,BP.out⟩)
  ·have i1:¬((i:Int)<(s.size:Int)):=by omega
   have hiz:i=s.size:=by omega
   have HG:Hid (zbk s.data.toList=zel s.data.toList):=(by
    have hf:=HF.out
    rw [hiz,Lib.size_eq,List.take_length] at hf
    unfold zbk
    rw [find_none hf]:zbk s.data.toList=zel s.data.toList)
   clear hiz HF
   go_wp2_with fail
   go_loopg [6] 17 (fun g o wr=>o=.int .i64 (38-(g:Int))∧g≤17∧Hid (Below w.heap.size w wr)∧Hid (E2 wr w.heap.size (.int .i64 0) (.slice none 0 0))∧Hid (zcv s.data.toList g=zcv s.data.toList 17))
   case atStart=>exact ⟨rfl,by omega,B0,E0,Eq.refl (zcv s.data.toList 17)⟩
   case round =>
    obtain ⟨rfl,hg17,HB,HE,HC⟩:=hrel
    cases gk with
    | zero =>
     have HG2:Hid (zcv s.data.toList 17=none):=(by rw [←HC.out];rfl:zcv s.data.toList 17=none)
     clear HC
     by_cases hs0:s.size=0
     ·have hnil:s.data.toList=[]:=List.eq_nil_of_length_eq_zero (by rw [←Lib.size_eq];exact hs0)
      have se:(s.toList==[])=true:=by rw [Lib.toList_data,hnil];rfl
      have se2:s.toList.isEmpty=true:=by rw [Lib.toList_data,hnil];rfl
      have HH:Hid (s.data.toList.head?=none):=(by rw [hnil];rfl:s.data.toList.head?=none)
      clear hnil
      have s2:s.size≤1048576:=hs
      have HT:Hid (zbk s.data.toList=(1,zas 32 s.data.toList)):=(by
       rw [HG.out]
       unfold zel
       rw [HG2.out]
       simp only
       rw [HH.out,if_neg (by simp),if_neg (by simp),if_neg (by simp)]:zbk s.data.toList=(1,zas 32 s.data.toList))
      have HA2:Hid (∀W,Calls Tryz.prog 158 #[.string s,.int .u8 32] W fun e w'=>IsA (zas 32 s.data.toList) W e w'):=fun W=>zfx s 32 W s2
      generalize zas 32 s.data.toList=Y2 at HA2 HT
      clear HG HG2 s2
      have HB8:=HB
      have HE8:=HE
      clear HB HE
      go_wp2_with fail
      refine (HA2.out _).mono ?_
      rintro e w9 ⟨g9,cap9,rfl,ow9,b9⟩
      have B9:Hid (Below w.heap.size w w9):=HB8.out.trans (b9.mono HB8.out.size)
      have E9:E2 w9 w.heap.size (.int .i64 0) (.slice none 0 0):=HE8.out.later b9
      have hl8:=HE8.out.lt
      have hg9:=(ow9.lt g9 rfl).1
      have EP:=E9.put (.int .i64 1) (.slice (some ⟨g9,0,none⟩) Y2.length cap9)
      obtain ⟨c0,c1,f0,f1⟩:=E9
      obtain ⟨q0,q1,_,_⟩:=EP
      have BP:Hid (Below w.heap.size w ((w9.setCell ⟨w.heap.size,0,none⟩ (.int .i64 1)).setCell ⟨w.heap.size,1,none⟩ (.slice (some ⟨g9,0,none⟩) Y2.length cap9))):=(B9.out.setCell (Nat.le_refl _) _).setCell (Nat.le_refl _) _
      have WP:Hid (OpsOwn ((w9.setCell ⟨w.heap.size,0,none⟩ (.int .i64 1)).setCell ⟨w.heap.size,1,none⟩ (.slice (some ⟨g9,0,none⟩) Y2.length cap9)) w.heap.size g9 cap9 Y2):=zai (zai (OpsOwn.base ow9 (by omega)) w.heap.size 0 (by omega) _) w.heap.size 1 (by omega) _
      clear b9 ow9 HB8 HE8 HA2
      go_wp2
      exact bodyPost_ret (v:=.agg #[.int .i64 1,.slice (some ⟨g9,0,none⟩) Y2.length cap9]) (by simp [results,Tryz.results120,go_sem,q0,q1]) rfl (by rw [HT.out];exact .inl ⟨g9,cap9,rfl,WP.out,BP.out⟩)
     ·have hs1:0<s.size:=by omega
      have hne:s.data.toList≠[]:=by intro e;apply hs0;rw [Lib.size_eq,e];rfl
      have se:(s.toList==[])=false:=by
       rw [Lib.toList_data,beq_eq_false_iff_ne]
       exact hne
      have se2:s.toList.isEmpty=false:=by
       rw [Lib.toList_data]
       cases hq:s.data.toList with
       | nil=>exact absurd hq hne
       | cons a b=>rfl
      have hsi:s[0]?=some (s[0]'hs1):=by simp [hs1]
      have hhd:s.data.toList.head?=some (s[0]'hs1):=by rw [List.head?_eq_getElem?,List.getElem?_eq_getElem (by rw [←Lib.size_eq];exact hs1)];rfl
      have y1:(1:Int)≤(s.size:Int):=by omega
      clear hne
      by_cases h47:(s[0]'hs1).toNat=47
      ·have k47:=zdm (s[0]'hs1) 47 47 rfl h47
       obtain ⟨X2,hX2⟩:∃X2,s.extract 1 s.size=X2:=⟨_,rfl⟩
       have d2:X2.data.toList=s.data.toList.tail:=by rw [←hX2,Lib.extract_data,List.take_of_length_le (by rw [List.length_drop,←Lib.size_eq];exact Nat.le_refl _),List.drop_one]
       have s2:X2.size≤1048576:=by rw [Lib.size_eq,d2,List.length_tail,←Lib.size_eq];omega
       have HT:Hid (zbk s.data.toList=(2,zas 32 X2.data.toList)):=(by
        rw [HG.out]
        unfold zel
        rw [HG2.out]
        simp only
        rw [hhd,if_pos (congrArg some (UInt8.toNat_inj.1 h47)),d2]:zbk s.data.toList=(2,zas 32 X2.data.toList))
       have HA2:Hid (∀W,Calls Tryz.prog 158 #[.string X2,.int .u8 32] W fun e w'=>IsA (zas 32 X2.data.toList) W e w'):=fun W=>zfx X2 32 W s2
       generalize zas 32 X2.data.toList=Y2 at HA2 HT
       clear HG HG2 s2 d2
       have HB8:=HB
       have HE8:=HE
       clear HB HE
       go_wp2_with fail
       refine (HA2.out _).mono ?_
       rintro e w9 ⟨g9,cap9,rfl,ow9,b9⟩
       have B9:Hid (Below w.heap.size w w9):=HB8.out.trans (b9.mono HB8.out.size)
       have E9:E2 w9 w.heap.size (.int .i64 0) (.slice none 0 0):=HE8.out.later b9
       have hl8:=HE8.out.lt
       have hg9:=(ow9.lt g9 rfl).1
       have EP:=E9.put (.int .i64 2) (.slice (some ⟨g9,0,none⟩) Y2.length cap9)
       obtain ⟨c0,c1,f0,f1⟩:=E9
       obtain ⟨q0,q1,_,_⟩:=EP
       have BP:Hid (Below w.heap.size w ((w9.setCell ⟨w.heap.size,0,none⟩ (.int .i64 2)).setCell ⟨w.heap.size,1,none⟩ (.slice (some ⟨g9,0,none⟩) Y2.length cap9))):=(B9.out.setCell (Nat.le_refl _) _).setCell (Nat.le_refl _) _
       have WP:Hid (OpsOwn ((w9.setCell ⟨w.heap.size,0,none⟩ (.int .i64 2)).setCell ⟨w.heap.size,1,none⟩ (.slice (some ⟨g9,0,none⟩) Y2.length cap9)) w.heap.size g9 cap9 Y2):=zai (zai (OpsOwn.base ow9 (by omega)) w.heap.size 0 (by omega) _) w.heap.size 1 (by omega) _
       clear b9 ow9 HB8 HE8 HA2
       go_wp2
       exact bodyPost_ret (v:=.agg #[.int .i64 2,.slice (some ⟨g9,0,none⟩) Y2.length cap9]) (by simp [results,Tryz.results120,go_sem,q0,q1]) rfl (by rw [HT.out];exact .inl ⟨g9,cap9,rfl,WP.out,BP.out⟩)
      ·by_cases h43:(s[0]'hs1).toNat=43
       ·have k47:=zbl (s[0]'hs1) 47 47 rfl h47
        have k43:=zdm (s[0]'hs1) 43 43 rfl h43
        obtain ⟨X2,hX2⟩:∃X2,s.extract 1 s.size=X2:=⟨_,rfl⟩
        have d2:X2.data.toList=s.data.toList.tail:=by rw [←hX2,Lib.extract_data,List.take_of_length_le (by rw [List.length_drop,←Lib.size_eq];exact Nat.le_refl _),List.drop_one]
        have s2:X2.size≤1048576:=by rw [Lib.size_eq,d2,List.length_tail,←Lib.size_eq];omega
        have HT:Hid (zbk s.data.toList=(3,zas 58 X2.data.toList)):=(by
         rw [HG.out]
         unfold zel
         rw [HG2.out]
         simp only
         rw [hhd,if_neg (fun q=>h47 (by rw [Option.some.inj q];rfl)),if_pos (congrArg some (UInt8.toNat_inj.1 h43)),d2]:zbk s.data.toList=(3,zas 58 X2.data.toList))
        have HA2:Hid (∀W,Calls Tryz.prog 158 #[.string X2,.int .u8 58] W fun e w'=>IsA (zas 58 X2.data.toList) W e w'):=fun W=>zfx X2 58 W s2
        generalize zas 58 X2.data.toList=Y2 at HA2 HT
        clear HG HG2 s2 d2
        have HB8:=HB
        have HE8:=HE
        clear HB HE
        go_wp2_with fail
        refine (HA2.out _).mono ?_
        rintro e w9 ⟨g9,cap9,rfl,ow9,b9⟩
        have B9:Hid (Below w.heap.size w w9):=HB8.out.trans (b9.mono HB8.out.size)
        have E9:E2 w9 w.heap.size (.int .i64 0) (.slice none 0 0):=HE8.out.later b9
        have hl8:=HE8.out.lt
        have hg9:=(ow9.lt g9 rfl).1
        have EP:=E9.put (.int .i64 3) (.slice (some ⟨g9,0,none⟩) Y2.length cap9)
        obtain ⟨c0,c1,f0,f1⟩:=E9
        obtain ⟨q0,q1,_,_⟩:=EP
        have BP:Hid (Below w.heap.size w ((w9.setCell ⟨w.heap.size,0,none⟩ (.int .i64 3)).setCell ⟨w.heap.size,1,none⟩ (.slice (some ⟨g9,0,none⟩) Y2.length cap9))):=(B9.out.setCell (Nat.le_refl _) _).setCell (Nat.le_refl _) _
        have WP:Hid (OpsOwn ((w9.setCell ⟨w.heap.size,0,none⟩ (.int .i64 3)).setCell ⟨w.heap.size,1,none⟩ (.slice (some ⟨g9,0,none⟩) Y2.length cap9)) w.heap.size g9 cap9 Y2):=zai (zai (OpsOwn.base ow9 (by omega)) w.heap.size 0 (by omega) _) w.heap.size 1 (by omega) _
        clear b9 ow9 HB8 HE8 HA2
        go_wp2
        exact bodyPost_ret (v:=.agg #[.int .i64 3,.slice (some ⟨g9,0,none⟩) Y2.length cap9]) (by simp [results,Tryz.results120,go_sem,q0,q1]) rfl (by rw [HT.out];exact .inl ⟨g9,cap9,rfl,WP.out,BP.out⟩)
       ·by_cases h45:(s[0]'hs1).toNat=45
        ·have k47:=zbl (s[0]'hs1) 47 47 rfl h47
         have k43:=zbl (s[0]'hs1) 43 43 rfl h43
         have k45:=zdm (s[0]'hs1) 45 45 rfl h45
         obtain ⟨X2,hX2⟩:∃X2,s.extract 1 s.size=X2:=⟨_,rfl⟩
         have d2:X2.data.toList=s.data.toList.tail:=by rw [←hX2,Lib.extract_data,List.take_of_length_le (by rw [List.length_drop,←Lib.size_eq];exact Nat.le_refl _),List.drop_one]
         have s2:X2.size≤1048576:=by rw [Lib.size_eq,d2,List.length_tail,←Lib.size_eq];omega
         have HT:Hid (zbk s.data.toList=(4,zas 58 X2.data.toList)):=(by
          rw [HG.out]
          unfold zel
          rw [HG2.out]
          simp only
          rw [hhd,if_neg (fun q=>h47 (by rw [Option.some.inj q];rfl)),if_neg (fun q=>h43 (by rw [Option.some.inj q];rfl)),if_pos (congrArg some (UInt8.toNat_inj.1 h45)),d2]:zbk s.data.toList=(4,zas 58 X2.data.toList))
         have HA2:Hid (∀W,Calls Tryz.prog 158 #[.string X2,.int .u8 58] W fun e w'=>IsA (zas 58 X2.data.toList) W e w'):=fun W=>zfx X2 58 W s2
         generalize zas 58 X2.data.toList=Y2 at HA2 HT
         clear HG HG2 s2 d2
         have HB8:=HB
         have HE8:=HE
         clear HB HE
         go_wp2_with fail
         refine (HA2.out _).mono ?_
         rintro e w9 ⟨g9,cap9,rfl,ow9,b9⟩
         have B9:Hid (Below w.heap.size w w9):=HB8.out.trans (b9.mono HB8.out.size)
         have E9:E2 w9 w.heap.size (.int .i64 0) (.slice none 0 0):=HE8.out.later b9
         have hl8:=HE8.out.lt
         have hg9:=(ow9.lt g9 rfl).1
         have EP:=E9.put (.int .i64 4) (.slice (some ⟨g9,0,none⟩) Y2.length cap9)
         obtain ⟨c0,c1,f0,f1⟩:=E9
         obtain ⟨q0,q1,_,_⟩:=EP
         have BP:Hid (Below w.heap.size w ((w9.setCell ⟨w.heap.size,0,none⟩ (.int .i64 4)).setCell ⟨w.heap.size,1,none⟩ (.slice (some ⟨g9,0,none⟩) Y2.length cap9))):=(B9.out.setCell (Nat.le_refl _) _).setCell (Nat.le_refl _) _
         have WP:Hid (OpsOwn ((w9.setCell ⟨w.heap.size,0,none⟩ (.int .i64 4)).setCell ⟨w.heap.size,1,none⟩ (.slice (some ⟨g9,0,none⟩) Y2.length cap9)) w.heap.size g9 cap9 Y2):=zai (zai (OpsOwn.base ow9 (by omega)) w.heap.size 0 (by omega) _) w.heap.size 1 (by omega) _
         clear b9 ow9 HB8 HE8 HA2
         go_wp2
         exact bodyPost_ret (v:=.agg #[.int .i64 4,.slice (some ⟨g9,0,none⟩) Y2.length cap9]) (by simp [results,Tryz.results120,go_sem,q0,q1]) rfl (by rw [HT.out];exact .inl ⟨g9,cap9,rfl,WP.out,BP.out⟩)
        ·have k47:=zbl (s[0]'hs1) 47 47 rfl h47
         have k43:=zbl (s[0]'hs1) 43 43 rfl h43
         have k45:=zbl (s[0]'hs1) 45 45 rfl h45
         have s2:s.size≤1048576:=hs
         have HT:Hid (zbk s.data.toList=(1,zas 32 s.data.toList)):=(by
          rw [HG.out]
          unfold zel
          rw [HG2.out]
          simp only
          rw [hhd,if_neg (fun q=>h47 (by rw [Option.some.inj q];rfl)),if_neg (fun q=>h43 (by rw [Option.some.inj q];rfl)),if_neg (fun q=>h45 (by rw [Option.some.inj q];rfl))]:zbk s.data.toList=(1,zas 32 s.data.toList))
         have HA2:Hid (∀W,Calls Tryz.prog 158 #[.string s,.int .u8 32] W fun e w'=>IsA (zas 32 s.data.toList) W e w'):=fun W=>zfx s 32 W s2
         generalize zas 32 s.data.toList=Y2 at HA2 HT
         clear HG HG2 s2
         have HB8:=HB
         have HE8:=HE
         clear HB HE
         go_wp2_with fail
         refine (HA2.out _).mono ?_
         rintro e w9 ⟨g9,cap9,rfl,ow9,b9⟩
         have B9:Hid (Below w.heap.size w w9):=HB8.out.trans (b9.mono HB8.out.size)
         have E9:E2 w9 w.heap.size (.int .i64 0) (.slice none 0 0):=HE8.out.later b9
         have hl8:=HE8.out.lt
         have hg9:=(ow9.lt g9 rfl).1
         have EP:=E9.put (.int .i64 1) (.slice (some ⟨g9,0,none⟩) Y2.length cap9)
         obtain ⟨c0,c1,f0,f1⟩:=E9
         obtain ⟨q0,q1,_,_⟩:=EP
         have BP:Hid (Below w.heap.size w ((w9.setCell ⟨w.heap.size,0,none⟩ (.int .i64 1)).setCell ⟨w.heap.size,1,none⟩ (.slice (some ⟨g9,0,none⟩) Y2.length cap9))):=(B9.out.setCell (Nat.le_refl _) _).setCell (Nat.le_refl _) _
         have WP:Hid (OpsOwn ((w9.setCell ⟨w.heap.size,0,none⟩ (.int .i64 1)).setCell ⟨w.heap.size,1,none⟩ (.slice (some ⟨g9,0,none⟩) Y2.length cap9)) w.heap.size g9 cap9 Y2):=zai (zai (OpsOwn.base ow9 (by omega)) w.heap.size 0 (by omega) _) w.heap.size 1 (by omega) _
         clear b9 ow9 HB8 HE8 HA2
         go_wp2
         exact bodyPost_ret (v:=.agg #[.int .i64 1,.slice (some ⟨g9,0,none⟩) Y2.length cap9]) (by simp [results,Tryz.results120,go_sem,q0,q1]) rfl (by rw [HT.out];exact .inl ⟨g9,cap9,rfl,WP.out,BP.out⟩)
    | succ m =>
     obtain ⟨op,hop⟩:∃op:Int,38-((m+1:Nat):Int)=op:=⟨_,rfl⟩
     have o1:21≤op:=by omega
     have o2:op≤37:=by omega
     have HS:Hid (∀W,Calls Tryz.prog 108 #[.int .i64 op] W fun e w'=>e=.returned (.string (nmE op))∧Below W.heap.size W w'):=fun W=>spec_name op W
     have HC1:Hid (zcv s.data.toList (m+1)=if Lib.hasPrefix s.data.toList (ahd op).data.toList=true then some op else zcv s.data.toList m):=(by
      have e37:37-(m:Int)=op:=by omega
      show zcv s.data.toList (m+1)=_
      rw [zcv,e37]:zcv s.data.toList (m+1)=if Lib.hasPrefix s.data.toList (ahd op).data.toList=true then some op else zcv s.data.toList m)
     have hnx:op+1=38-(m:Int):=by omega
     have han:=ahd_nm op o1 (by omega)
     have hasz:(ahd op).size=(nmE op).size+1:=by rw [han,ByteArray.size_append];rfl
     have hn6:=nm_le op
     rw [hop]
     rw [han] at HC1
     generalize nmE op=NM at HS HC1 hasz hn6 han
     have i9:(0:Int)≤(NM.size:Int):=by omega
     go_wp2_with fail
     refine (HS.out _).mono ?_
     rintro e w7 ⟨rfl,g7⟩
     have HB7:Hid (Below w.heap.size w w7):=HB.out.trans (g7.mono HB.out.size)
     have HE7:Hid (E2 w7 w.heap.size (.int .i64 0) (.slice none 0 0)):=HE.out.later g7
     clear g7 HB HE
     have cS:∀d os,Calls Tryz.prog 108 #[.int .i64 op] (Sort.grow (redrawn w7 d) os) fun e w''=>e=.returned (.string NM)∧∃p:Regrown,w''=Sort.grow (redrawn w7 p.d) p.os:=fun d os=>Calls.regrown_of (HS.out _)
     go_upto_region 18 with fail
     go_cut [100] from 76 to 107 (fun v wc=>v=.bool (Lib.hasPrefix s.data.toList (NM++⟨#[58]⟩).data.toList)∧Hid (Below w.heap.size w wc)∧Hid (E2 wc w.heap.size (.int .i64 0) (.slice none 0 0)))
     case first =>
      by_cases hsz:NM.size<s.size
      ·have z1:(NM.size:Int)<(s.size:Int):=by omega
       have z2:(NM.size:Int)≤(s.size:Int):=by omega
       have zd:decide ((NM.size:Int)<(s.size:Int))=true:=by simpa using z1
       have hsi:s[NM.size]?=some (s[NM.size]'hsz):=by simp [hsz]
       have hpe:=hp_eq s NM hsz
       obtain ⟨X,hX⟩:∃X,s.extract 0 NM.size=X:=⟨_,rfl⟩
       rw [hX] at hpe
       cases hxe:(X.toList==NM.toList) with
       | false =>
        have HPE:Hid (Lib.hasPrefix s.data.toList (NM++⟨#[58]⟩).data.toList=false):=(by rw [hpe,hxe];rfl:Lib.hasPrefix s.data.toList (NM++⟨#[58]⟩).data.toList=false)
        clear hpe
        have HBE:Hid (∀dq osq,Below w.heap.size w (Sort.grow (redrawn w7 dq) osq)∧E2 (Sort.grow (redrawn w7 dq) osq) w.heap.size (.int .i64 0) (.slice none 0 0)):=fun dq osq=>⟨HB7.out.trans ((below_regrown w7 dq osq).mono HB7.out.size),HE7.out.later (below_regrown w7 dq osq)⟩
        refine wp_region_quiet_below (by kernel_rfl) (by kernel_rfl) ?_
        repeat (go_big_quiet_step (first|(go_at_call 108;exact cS _ _)))
        refine wpQuiet_nil ?_
        intro _ hw'
        obtain ⟨⟨dq,osq⟩,hw''⟩:=hw'
        subst hw''
        go_wp2
        go_meet
        exact ⟨by rw [HPE.out],(HBE.out dq osq).1,(HBE.out dq osq).2⟩
       | true =>
        by_cases h58:(s[NM.size]'hsz).toNat=58
        ·have k1:=zdm (s[NM.size]'hsz) 58 58 rfl h58
         have HPE:Hid (Lib.hasPrefix s.data.toList (NM++⟨#[58]⟩).data.toList=true):=(by rw [hpe,hxe,h58];rfl:Lib.hasPrefix s.data.toList (NM++⟨#[58]⟩).data.toList=true)
         clear hpe h58
         have HBE:Hid (∀dq osq,Below w.heap.size w (Sort.grow (redrawn w7 dq) osq)∧E2 (Sort.grow (redrawn w7 dq) osq) w.heap.size (.int .i64 0) (.slice none 0 0)):=fun dq osq=>⟨HB7.out.trans ((below_regrown w7 dq osq).mono HB7.out.size),HE7.out.later (below_regrown w7 dq osq)⟩
         refine wp_region_quiet_below (by kernel_rfl) (by kernel_rfl) ?_
         repeat (go_big_quiet_step (first|(go_at_call 108;exact cS _ _)))
         refine wpQuiet_nil ?_
         intro _ hw'
         obtain ⟨⟨dq,osq⟩,hw''⟩:=hw'
         subst hw''
         go_wp2
         go_meet
         exact ⟨by rw [HPE.out],(HBE.out dq osq).1,(HBE.out dq osq).2⟩
        ·have k1:=zbl (s[NM.size]'hsz) 58 58 rfl h58
         have HPE:Hid (Lib.hasPrefix s.data.toList (NM++⟨#[58]⟩).data.toList=false):=(by rw [hpe,hxe,decide_eq_false h58];rfl:Lib.hasPrefix s.data.toList (NM++⟨#[58]⟩).data.toList=false)
         clear hpe h58
         have HBE:Hid (∀dq osq,Below w.heap.size w (Sort.grow (redrawn w7 dq) osq)∧E2 (Sort.grow (redrawn w7 dq) osq) w.heap.size (.int .i64 0) (.slice none 0 0)):=fun dq osq=>⟨HB7.out.trans ((below_regrown w7 dq osq).mono HB7.out.size),HE7.out.later (below_regrown w7 dq osq)⟩
         refine wp_region_quiet_below (by kernel_rfl) (by kernel_rfl) ?_
         repeat (go_big_quiet_step (first|(go_at_call 108;exact cS _ _)))
         refine wpQuiet_nil ?_
         intro _ hw'
         obtain ⟨⟨dq,osq⟩,hw''⟩:=hw'
         subst hw''
         go_wp2
         go_meet
         exact ⟨by rw [HPE.out],(HBE.out dq osq).1,(HBE.out dq osq).2⟩
      ·have z1:¬((NM.size:Int)<(s.size:Int)):=by omega
       have zd:decide ((NM.size:Int)<(s.size:Int))=false:=decide_eq_false z1
       have HPE:Hid (Lib.hasPrefix s.data.toList (NM++⟨#[58]⟩).data.toList=false):=hp_short s NM hsz
       have HBE:Hid (∀dq osq,Below w.heap.size w (Sort.grow (redrawn w7 dq) osq)∧E2 (Sort.grow (redrawn w7 dq) osq) w.heap.size (.int .i64 0) (.slice none 0 0)):=fun dq osq=>⟨HB7.out.trans ((below_regrown w7 dq osq).mono HB7.out.size),HE7.out.later (below_regrown w7 dq osq)⟩
       refine wp_region_quiet_below (by kernel_rfl) (by kernel_rfl) ?_
       repeat (go_big_quiet_step (first|(go_at_call 108;exact cS _ _)))
       refine wpQuiet_nil ?_
       intro _ hw'
       obtain ⟨⟨dq,osq⟩,hw''⟩:=hw'
       subst hw''
       go_wp2
       go_meet
       exact ⟨by rw [HPE.out],(HBE.out dq osq).1,(HBE.out dq osq).2⟩
     case rest =>
      obtain ⟨rfl,HB8,HE8⟩:=hcut
      clear cS HS HB7 HE7
      cases hp:Lib.hasPrefix s.data.toList (NM++⟨#[58]⟩).data.toList with
      | false =>
       have HC2:Hid (zcv s.data.toList m=zcv s.data.toList 17):=(by rw [←HC.out,HC1.out,if_neg (by rw [hp];simp)]:zcv s.data.toList m=zcv s.data.toList 17)
       clear HC HC1 hp
       go_wp2
       go_roundg m
       case measure=>omega
       case rel=>exact ⟨by rw [←hnx],by omega,HB8,HE8,HC2⟩
      | true =>
       obtain ⟨X2,hX2⟩:∃X2,s.extract (NM.size+1) s.size=X2:=⟨_,rfl⟩
       have d2:X2.data.toList=s.data.toList.drop (NM.size+1):=by rw [←hX2,Lib.extract_data,List.take_of_length_le (by rw [List.length_drop,←Lib.size_eq];exact Nat.le_refl _)]
       have HT:Hid (zbk s.data.toList=(op,zas 44 X2.data.toList)):=(by
        rw [HG.out]
        unfold zel
        rw [←HC.out,HC1.out,if_pos hp]
        simp only
        rw [hasz,d2]:zbk s.data.toList=(op,zas 44 X2.data.toList))
       have s2:X2.size≤1048576:=by rw [Lib.size_eq,d2,List.length_drop,←Lib.size_eq];omega
       have HA2:Hid (∀W,Calls Tryz.prog 158 #[.string X2,.int .u8 44] W fun e w'=>IsA (zas 44 X2.data.toList) W e w'):=fun W=>zfx X2 44 W s2
       have hsl:NM.size+1≤s.size:=by
        by_cases hq:NM.size<s.size
        ·omega
        ·rw [hp_short s NM hq] at hp;cases hp
       generalize zas 44 X2.data.toList=Y2 at HA2 HT
       have j1:(NM.size:Int)+1≤(s.size:Int):=by omega
       have j2:(0:Int)≤(NM.size:Int)+1:=by omega
       have j3:((NM.size:Int)+1).toNat=NM.size+1:=by omega
       clear HG HC HC1 d2 s2 hp
       go_wp2_with fail
       refine (HA2.out _).mono ?_
       rintro e w9 ⟨g9,cap9,rfl,ow9,b9⟩
       have B9:Hid (Below w.heap.size w w9):=HB8.out.trans (b9.mono HB8.out.size)
       have E9:E2 w9 w.heap.size (.int .i64 0) (.slice none 0 0):=HE8.out.later b9
       have hl8:=HE8.out.lt
       have hg9:=(ow9.lt g9 rfl).1
       have EP:=E9.put (.int .i64 op) (.slice (some ⟨g9,0,none⟩) Y2.length cap9)
       obtain ⟨c0,c1,f0,f1⟩:=E9
       obtain ⟨q0,q1,_,_⟩:=EP
       have BP:Hid (Below w.heap.size w ((w9.setCell ⟨w.heap.size,0,none⟩ (.int .i64 op)).setCell ⟨w.heap.size,1,none⟩ (.slice (some ⟨g9,0,none⟩) Y2.length cap9))):=(B9.out.setCell (Nat.le_refl _) _).setCell (Nat.le_refl _) _
       have WP:Hid (OpsOwn ((w9.setCell ⟨w.heap.size,0,none⟩ (.int .i64 op)).setCell ⟨w.heap.size,1,none⟩ (.slice (some ⟨g9,0,none⟩) Y2.length cap9)) w.heap.size g9 cap9 Y2):=zai (zai (OpsOwn.base ow9 (by omega)) w.heap.size 0 (by omega) _) w.heap.size 1 (by omega) _
       clear b9 ow9 HB8 HE8 HA2
       go_wp2
       exact bodyPost_ret (v:=.agg #[.int .i64 op,.slice (some ⟨g9,0,none⟩) Y2.length cap9]) (by simp [results,Tryz.results120,go_sem,q0,q1]) rfl (by rw [HT.out];exact .inl ⟨g9,cap9,rfl,WP.out,BP.out⟩)
end Go.Proofs.YtllmabgollkigaaGreatDoor
