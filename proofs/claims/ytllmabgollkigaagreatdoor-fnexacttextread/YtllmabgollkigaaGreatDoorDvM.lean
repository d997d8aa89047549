/- The table of kinds loaded whole; the program's zbk as a plain function. -/
import Derived.Test.YtllmabgollkigaaGreatDoorDqM
import Derived.Test.YtllmabgollkigaaGreatDoorRM
import Derived.Deep.LoopGhost
import Derived.Deep.Cut
import Derived.WalkMore
import Derived.Lib.OthersKept
import Derived.Great.Walk
import Derived.Deep.CutRange
import Derived.Deep.RegionWith
import Derived.Lib.IndexBytes
set_option maxHeartbeats 20000000
namespace Go.Proofs.YtllmabgollkigaaGreatDoor
open Go.RowKit
set_option linter.unusedVariables false
def rowK(i:Nat):List Value:=[.string (kL i),.int .i64 (kS i),.bool (kB i),.bool (kW i),.bool (kR i)]
def bigK:List Value:=(List.range 14).flatMap rowK
theorem bigK_len:bigK.length=70:=by decide +kernel
theorem addr_add(b j:Nat):(⟨b,0,none⟩:Addr).add j=⟨b,j,none⟩:=by
 by_cases hz:j=0
 ·subst hz;rfl
 ·simp [Addr.add,hz]
theorem bigK_key(i r:Nat)(hi:i<14)(hr:r<5):bigK[i*5+r]?=(rowK i)[r]?:=by
 rcases c14 i hi with rfl|rfl|rfl|rfl|rfl|rfl|rfl|rfl|rfl|rfl|rfl|rfl|rfl|rfl
 all_goals
  match r,hr with
  | 0,_=>rfl
  | 1,_=>rfl
  | 2,_=>rfl
  | 3,_=>rfl
  | 4,_=>rfl
theorem bigK_at{W:World}(h:KT W):∀j v,bigK[j]?=some v→W.cell? ((⟨3,0,none⟩:Addr).add j)=some v:=by
 intro j v hj
 have hlt:j<70:=by
  have:=(List.getElem?_eq_some_iff.1 hj).1
  rwa [bigK_len] at this
 rw [addr_add]
 obtain ⟨i,r,rfl,hi,hr⟩:∃i r,j=i*5+r∧i<14∧r<5:=⟨j / 5,j % 5,by omega,by omega,by omega⟩
 rw [bigK_key i r hi hr] at hj
 have h0:=h i hi
 match r,hr with
 | 0,_=>simp [rowK] at hj;rw [←hj];exact h0.1
 | 1,_=>simp [rowK] at hj;rw [←hj];exact h0.2.1
 | 2,_=>simp [rowK] at hj;rw [←hj];exact h0.2.2.1
 | 3,_=>simp [rowK] at hj;rw [←hj];exact h0.2.2.2.1
 | 4,_=>simp [rowK] at hj;rw [←hj];exact h0.2.2.2.2
theorem load58{W:World}(h:KT W)(ρ:Operand→Value)(hρ:ρ (.global 3)=.pointer (some ⟨3,0,none⟩))(o:Oper)(ho:o.op=.load 262 (.global 3)) :
  (execOp ρ o).run Tryz.prog W=.ok (.value (.agg bigK.toArray)) W:=by
 have hl:=run_loadCells_list (P:=Tryz.prog) W ⟨3,0,none⟩ bigK (bigK_at h)
 rw [bigK_len] at hl
 unfold execOp
 rw [ho]
 simp only [hρ]
 simp [Instr.loadAt,Instr.sureAddr,loadVar,Sem.run_bind,Tryz.isAgg262,Tryz.sizeOf262,hl,Result.andThen]
theorem zgh(i:Nat)(hi:i<14):bigK.toArray.extract (i*5) (i*5+5)=#[.string (kL i),.int .i64 (kS i),.bool (kB i),.bool (kW i),.bool (kR i)]:=by
 rcases c14 i hi with rfl|rfl|rfl|rfl|rfl|rfl|rfl|rfl|rfl|rfl|rfl|rfl|rfl|rfl<;>rfl
theorem idx44_0(a b c d:Value)(w:World):(Instr.index 231 (.agg #[a,b,c,d]) (.int .i64 0)).run Tryz.prog w=.ok a w:=by kernel_rfl
theorem idx44_1(a b c d:Value)(w:World):(Instr.index 231 (.agg #[a,b,c,d]) (.int .i64 1)).run Tryz.prog w=.ok b w:=by kernel_rfl
theorem idx44_2(a b c d:Value)(w:World):(Instr.index 231 (.agg #[a,b,c,d]) (.int .i64 2)).run Tryz.prog w=.ok c w:=by kernel_rfl
theorem idx44_3(a b c d:Value)(w:World):(Instr.index 231 (.agg #[a,b,c,d]) (.int .i64 3)).run Tryz.prog w=.ok d w:=by kernel_rfl
attribute [go_sem] idx44_0 idx44_1 idx44_2 idx44_3
theorem idx58(cs:Array Value)(n:Nat)(hn:n<14)(w:World):(Instr.index 262 (.agg cs) (.int .i64 n)).run Tryz.prog w=.ok (.agg (cs.extract (n*5) (n*5+5))) w:=by
 have h1:(0:Int)≤(n:Int)∧(n:Int)<((14:Nat):Int):=by omega
 simp only [Instr.index,asIntOf,run_underlying Tryz.underlying262,Sem.run_bind,Result.andThen,Sem.run_pure,h1,part,Tryz.isAgg248,Tryz.sizeOf248,and_self,if_true]
 simp
def ltr(b:Nat):Nat:=if b=88 then 1 else if b=89 then 2 else if b=77 then 3 else if b=83 then 4 else if b=69 then 5 else if b=71 then 6 else if b=84 then 7 else if b=67 then 8 else if b=68 then 9 else if b=82 then 10 else 0
def gl:Bool→Int→Int→Int→Int→List UInt8→Int×Int×Int
 | _,s,K,N,P,[]=>(K,N*s,P)
 | f,s,K,N,P,b::r =>
  if f=true∧b.toNat=45 then gl false (-1) K N P r
  else if f=true∧ltr b.toNat≠0 then gl false s (ltr b.toNat) N P r
  else if b.toNat=46∧K=11 then gl false s 12 N P r
  else if 48≤b.toNat∧b.toNat≤57∧N≤99999999 then gl false s K (N*10+((b.toNat:Int)-48)) (if K=12 then P+1 else P) r
  else (0,0,0)
theorem ltr_dig(b:Nat)(h1:48≤b)(h2:b≤57):ltr b=0:=by
 unfold ltr
 rw [if_neg (by omega),if_neg (by omega),if_neg (by omega),if_neg (by omega),if_neg (by omega),if_neg (by omega),if_neg (by omega),if_neg (by omega),if_neg (by omega),if_neg (by omega)]
theorem ltr_big(b:Nat)(h:128≤b):ltr b=0:=by
 unfold ltr
 rw [if_neg (by omega),if_neg (by omega),if_neg (by omega),if_neg (by omega),if_neg (by omega),if_neg (by omega),if_neg (by omega),if_neg (by omega),if_neg (by omega),if_neg (by omega)]
theorem ltr_le(b:Nat):ltr b≤10:=by
 unfold ltr
 repeat' split
 all_goals omega
theorem zjh(S K N P:Int)(b:UInt8)(r:List UInt8)(h:b.toNat=45):gl true S K N P (b::r)=gl false (-1) K N P r:=by
 rw [gl,if_pos ⟨rfl,h⟩]
theorem gl_ltr(S K N P:Int)(b:UInt8)(r:List UInt8)(h1:b.toNat≠45)(h:ltr b.toNat≠0):gl true S K N P (b::r)=gl false S (ltr b.toNat) N P r:=by
 rw [gl,if_neg (fun e=>h1 e.2),if_pos ⟨rfl,h⟩]
theorem gl_dot(f:Bool)(S N P:Int)(b:UInt8)(r:List UInt8)(h:b.toNat=46):gl f S 11 N P (b::r)=gl false S 12 N P r:=by
 rw [gl,if_neg (fun e=>by omega),if_neg (fun e=>e.2 (by rw [h];rfl)),if_pos ⟨h,rfl⟩]
theorem gl_dig(f:Bool)(S K N P:Int)(b:UInt8)(r:List UInt8)(h1:48≤b.toNat)(h2:b.toNat≤57)(hN:N≤99999999) :
  gl f S K N P (b::r)=gl false S K (N*10+((b.toNat:Int)-48)) (if K=12 then P+1 else P) r:=by
 rw [gl,if_neg (fun e=>by omega),if_neg (fun e=>e.2 (ltr_dig _ h1 h2)),if_neg (fun e=>by omega),if_pos ⟨h1,h2,hN⟩]
theorem gl_bad(f:Bool)(S K N P:Int)(b:UInt8)(r:List UInt8)(h1:f=true→b.toNat≠45∧ltr b.toNat=0)(h2:¬(b.toNat=46∧K=11))(h3:¬(48≤b.toNat∧b.toNat≤57∧N≤99999999)):gl f S K N P (b::r)=(0,0,0):=by
 rw [gl,if_neg (fun e=>(h1 e.1).1 e.2),if_neg (fun e=>e.2 (h1 e.1).2),if_neg h2,if_neg h3]
theorem zbs(s:ByteArray)(pos:Nat)(hp:pos<s.size):s.data.toList.drop pos=(s[pos]'hp)::s.data.toList.drop (pos+1):=by
 have h:pos<s.data.toList.length:=by simpa using hp
 rw [List.drop_eq_getElem_cons h]
 congr 1
theorem cmpL(n b:Nat)(hn:n<14)(hb:b<128):((kL n).toList==(Utf8.encode b).toList)=decide (ltr b=n∧n≠0):=by
 have h:∀(n:Fin 14)(b:Fin 128),((kL (n.val:Nat)).toList==(Utf8.encode b.val).toList)=decide (ltr b.val=n.val∧n.val≠0):=by decide +kernel
 exact h ⟨n,hn⟩ ⟨b,hb⟩
theorem decode_big(s:ByteArray)(pos:Nat)(hp:pos<s.size)(h:¬(s[pos]'hp).toNat<128):128≤(Utf8.decode s pos).1:=by
 have e:s.get! (pos+0)=s[pos]'hp:=by
  show s.get! pos=_
  simp [ByteArray.get!,getElem!_pos,hp]
  rfl
 simp only [Utf8.decode,e,h,if_false]
 repeat' split
 all_goals simp_all [Utf8.runeError]
 all_goals omega
theorem encode_long(r:Nat)(hr:128≤r):2≤(Utf8.encode r).data.toList.length:=by
 simp only [Utf8.encode]
 have hc:128≤(if Utf8.valid (r:Int) then (r:Int).toNat else Utf8.runeError):=by
  split
  ·omega
  ·decide
 generalize (if Utf8.valid (r:Int) then (r:Int).toNat else Utf8.runeError)=c at hc
 rw [if_neg (by omega)]
 split
 ·simp
 ·split<;>simp
theorem cmpBig(n r:Nat)(hr:128≤r):((kL n).toList==(Utf8.encode r).toList)=false:=by
 rw [Bool.eq_false_iff]
 intro e
 have e1:=eq_of_beq e
 have h1:=zgg n
 have h2:=encode_long r hr
 rw [Lib.toList_data,Lib.toList_data] at e1
 rw [←e1] at h2
 have h3:(kL n).data.toList.length=(kL n).size:=(Lib.size_eq (kL n)).symm
 omega
theorem zcx{w:World}{k:Nat}{o o':Obj}(h:w.heap[k]?=some o):(w.alloc o').heap[k]?=some o:=by
 rw [Below.heap_alloc _ _ _ (Array.getElem?_eq_some_iff.1 h).1];exact h
theorem zcg{w:World}{k:Nat}{o:Obj}(h:w.heap[k]?=some o)(b f:Nat)(hne:b≠k)(v:Value):(w.setCell ⟨b,f,none⟩ v).heap[k]?=some o:=by
 rw [Below.heap_setCell _ _ _ _ (by show k≠b;omega)];exact h
theorem A3.iter{w:World}{bl:Nat}{k n p:Int}(h:A3 w bl k n p)(j:Nat)(hne:bl≠j)(s:ByteArray)(pos:Nat):A3 (w.iterAt j s pos) bl k n p:=by
 have e:=Lib.iterAt_other w j bl s pos hne
 exact ⟨(World.cell?_of_block (a:=⟨bl,0,none⟩) e).trans h.c0,(World.cell?_of_block (a:=⟨bl,1,none⟩) e).trans h.c1,(World.cell?_of_block (a:=⟨bl,2,none⟩) e).trans h.c2,(World.frozen?_of_block (a:=⟨bl,0,none⟩) e).trans h.f0,(World.frozen?_of_block (a:=⟨bl,1,none⟩) e).trans h.f1,(World.frozen?_of_block (a:=⟨bl,2,none⟩) e).trans h.f2⟩
set_option maxRecDepth 100000 in
theorem guess_rest(s:ByteArray)(w:World)(hT:Tabs w)(hsz:s.size≤1048576)(n0:(s.toList==[110,97,110])=false)(n1:(s.toList==[105,110,102])=false)(n2:(s.toList==[45,105,110,102])=false)(n3:(s.toList==[45,48,46,48])=false) :
  Calls Tryz.prog 245 #[.string s] w fun e w'=>(e=.returned (.agg #[.int .i64 (gl true 1 11 0 0 s.data.toList).1,.int .i64 (gl true 1 11 0 0 s.data.toList).2.1,.int .i64 (gl true 1 11 0 0 s.data.toList).2.2]))∧Below w.heap.size w w':=by
 have hl:=hT.w.lt
 have q0:∀o:Obj,(w.alloc o).cell? ⟨1,0,none⟩=some (.string ⟨#[110,97,110]⟩):=fun o=>(World.cell?_alloc_past _ _ _ hl).trans (hT.w 0 (by omega))
 have q1:∀o:Obj,(w.alloc o).cell? ⟨1,1,none⟩=some (.string ⟨#[105,110,102]⟩):=fun o=>(World.cell?_alloc_past _ _ _ hl).trans (hT.w 1 (by omega))
 have q2:∀o:Obj,(w.alloc o).cell? ⟨1,2,none⟩=some (.string ⟨#[45,105,110,102]⟩):=fun o=>(World.cell?_alloc_past _ _ _ hl).trans (hT.w 2 (by omega))
 have q3:∀o:Obj,(w.alloc o).cell? ⟨1,3,none⟩=some (.string ⟨#[45,48,46,48]⟩):=fun o=>(World.cell?_alloc_past _ _ _ hl).trans (hT.w 3 (by omega))
 obtain ⟨G,HG⟩:∃G,Hid (G=gl true 1 11 0 0 s.data.toList):=⟨_,Eq.refl (gl true 1 11 0 0 s.data.toList)⟩
 rw [←HG.out]
 go_enter Tryz.func245,Tryz.ntmps245
 go_wp2
 go_step3
 go_wp2
 clear q0 q1 q2 q3
 go_loopg [12] 4 (fun g i wr=>∃n:Nat,n+g=4∧i=.int .i64 n∧wr=w.alloc (.cells #[.int .i64 0,.int .i64 0,.int .i64 0] 133))
 case atStart=>exact ⟨0,rfl,rfl,rfl⟩
 case round =>
  obtain ⟨n,hn,rfl,rfl⟩:=hrel
  by_cases hlt:n<4
  ·rcases c4 n hlt with rfl|rfl|rfl|rfl
   all_goals
    go_wp2
    go_roundg (gk-1)
    case measure=>omega
    case rel=>first|exact ⟨1,by omega,rfl,rfl⟩|exact ⟨2,by omega,rfl,rfl⟩|exact ⟨3,by omega,rfl,rfl⟩|exact ⟨4,by omega,rfl,rfl⟩
  ·obtain rfl:n=4:=by omega
   clear n0 n1 n2 n3 hlt hn
   go_wp2
   go_step3
   go_wp2
   go_loopg [6] s.size (fun g sg wr=>∃(pos:Nat)(S K N P:Int),pos+g=s.size∧sg=.int .i64 S∧A3 wr (w.heap.size+1) K N P∧A3 wr w.heap.size 0 0 0∧wr.heap[w.heap.size+2]?=some (.stringIter s pos)∧Below w.heap.size w wr ∧
    (0≤N∧N≤999999999∧0≤P∧P≤pos∧(S=1∨S=-1))∧Hid (G=gl (pos==0) S K N P (s.data.toList.drop pos)))
   case atStart =>
    refine ⟨0,1,11,0,0,by omega,rfl,?_,?_,?_,?_,by omega,HG.out⟩
    ·have:=(A3.fresh (w.alloc (.cells #[.int .i64 0,.int .i64 0,.int .i64 0] 133)) 11 0 0 133).alloc (.stringIter s 0)
     rw [World.size_alloc] at this
     exact this
    ·exact ((A3.fresh w 0 0 0 133).alloc _).alloc _
    ·have:=World.iter_heap ((w.alloc (.cells #[.int .i64 0,.int .i64 0,.int .i64 0] 133)).alloc (.cells #[.int .i64 11,.int .i64 0,.int .i64 0] 133)) s 0
     simpa using this
    ·exact (((Below.refl _ _).alloc (Nat.le_refl _) _).alloc (by simp) _).alloc (by simp;omega) _
   case round =>
    clear HG
    obtain ⟨pos,S,K,N,P,hpos,rfl,ha,hr,hit,hb,bd,HG⟩:=hrel
    by_cases hp:pos<s.size
    ·by_cases ha8:(s[pos]'hp).toNat<128
     ·have hnx:∀ty,(Instr.next (.pointer (some ⟨w.heap.size+2,0,none⟩)) true ty).run Tryz.prog wr=_:=fun ty=>Lib.run_next_ascii_at wr (w.heap.size+2) s pos ty hit hp ha8
      obtain ⟨b,Hb⟩:∃b,Hid (b=(s[pos]'hp).toNat):=⟨_,Eq.refl ((s[pos]'hp).toNat)⟩
      rw [←Hb.out] at hnx ha8
      have it1:=Lib.iterAt_heap wr (w.heap.size+2) s pos (pos+1) hit
      have b1:=Lib.below_iterAt hb (k:=w.heap.size+2) (by omega) s (pos+1)
      have a1:A3 (wr.iterAt (w.heap.size+2) s (pos+1)) (w.heap.size+1) K N P:=ha.iter _ (by omega) _ _
      have r1:A3 (wr.iterAt (w.heap.size+2) s (pos+1)) w.heap.size 0 0 0:=hr.iter _ (by omega) _ _
      obtain ⟨W,HW⟩:∃W,Hid (W=wr.iterAt (w.heap.size+2) s (pos+1)):=⟨_,Eq.refl (wr.iterAt (w.heap.size+2) s (pos+1))⟩
      rw [←HW.out] at hnx it1 b1 a1 r1
      clear HW ha hr hit hb
      by_cases hp0:pos=0
      ·have hp0':((pos:Int)==0)=true:=by simp [hp0]
       have hpt:(pos==0)=true:=by simp [hp0]
       by_cases h45:b=45
       ·have h45':((b:Int)==45)=true:=by simp;omega
        have HE:Hid (G=gl false (-1) K N P (s.data.toList.drop (pos+1))):=by
         have h:=HG.out
         rw [hpt,zbs s pos hp,zjh _ _ _ _ _ _ (by rw [←Hb.out];exact h45)] at h
         exact h
        clear HG Hb
        go_wp2
        go_roundg (s.size-(pos+1))
        case measure=>omega
        case rel=>exact ⟨pos+1,-1,K,N,P,by omega,rfl,a1,r1,it1,b1,by omega,by rw [show (pos+1==0)=false by simp];exact HE.out⟩
       ·have h45':((b:Int)==45)=false:=by simp;omega
        go_upto_region 13 with fail
        have hld:=fun ρ hρ o ho=>load58 (hT.k.later b1) ρ hρ o ho
        obtain ⟨CS,HCS⟩:∃CS,Hid (CS=bigK.toArray):=⟨_,Eq.refl bigK.toArray⟩
        rw [←HCS.out] at hld
        refine wp_region_lit ?_
        refine Go.Great.wpList_readTo rfl (some 35) rfl (.agg CS) (hld _ rfl _ rfl) ?_
        clear hld
        go_wp2
        go_loopg [36] 14 (fun g i wi=>∃n:Nat,n+g=14∧i=.int .i64 n∧A3 wi (w.heap.size+1) K N P∧A3 wi w.heap.size 0 0 0∧wi.heap[w.heap.size+2]?=some (.stringIter s (pos+1))∧Below w.heap.size w wi∧(ltr b=0∨n≤ltr b))
        case atStart=>exact ⟨0,rfl,rfl,a1,r1,it1,b1,by omega⟩
        case round =>
         clear a1 r1 it1 b1
         obtain ⟨n,hn,rfl,a1,r1,it1,b1,hlt2⟩:=hrel
         by_cases hlt:n<14
         ·have hix:=fun w=>idx58 CS n hlt w
          have hrow:CS.extract (n*5) (n*5+5)=#[.string (kL n),.int .i64 (kS n),.bool (kB n),.bool (kW n),.bool (kR n)]:=by rw [HCS.out];exact zgh n hlt
          rw [hrow] at hix
          clear hrow HCS
          have hcmp:=cmpL n b hlt ha8
          by_cases hhit:ltr b=n∧n≠0
          ·rw [decide_eq_true hhit] at hcmp
           have a2:=(a1.alloc (.cells #[.string (kL n),.int .i64 (kS n),.bool (kB n),.bool (kW n),.bool (kR n)] 248)).put0 n
           have r2:=(r1.alloc (.cells #[.string (kL n),.int .i64 (kS n),.bool (kB n),.bool (kW n),.bool (kR n)] 248)).other (w.heap.size+1) 0 (by omega) (.int .i64 n)
           have it2:=zcg (zcx (o':=.cells #[.string (kL n),.int .i64 (kS n),.bool (kB n),.bool (kW n),.bool (kR n)] 248) it1) (w.heap.size+1) 0 (by omega) (.int .i64 n)
           have b2:=(b1.alloc b1.size (.cells #[.string (kL n),.int .i64 (kS n),.bool (kB n),.bool (kW n),.bool (kR n)] 248)).setCell (p:=⟨w.heap.size+1,0,none⟩) (by show w.heap.size≤w.heap.size+1;omega) (.int .i64 n)
           have ac:=a1.alloc (.cells #[.string (kL n),.int .i64 (kS n),.bool (kB n),.bool (kW n),.bool (kR n)] 248)
           obtain ⟨c0,c1,c2,f0,f1,f2⟩:=ac
           have HE:Hid (G=gl false S n N P (s.data.toList.drop (pos+1))):=by
            have h:=HG.out
            rw [hpt,zbs s pos hp,gl_ltr _ _ _ _ _ _ (by rw [←Hb.out];omega) (by rw [←Hb.out];omega),←Hb.out,hhit.1] at h
            exact h
           clear HG Hb a1 r1 it1 b1 hlt2 hhit
           go_wp2
           go_roundg (s.size-(pos+1))
           case measure=>omega
           case rel=>exact ⟨pos+1,S,n,N,P,by omega,rfl,a2,r2,it2,b2,by omega,by rw [show (pos+1==0)=false by simp];exact HE.out⟩
          ·rw [decide_eq_false hhit] at hcmp
           go_wp2
           go_roundg (gk-1)
           case measure=>omega
           case rel=>exact ⟨n+1,by omega,by go_num,a1.alloc _,r1.alloc _,zcx it1,b1.alloc b1.size _,by omega⟩
         ·obtain rfl:n=14:=by omega
          clear HCS
          have hl0:ltr b=0:=by have:=ltr_le b;omega
          clear hlt2
          by_cases hd:48≤b∧b≤57∧N≤99999999
          ·obtain ⟨hd1,hd2,hd3⟩:=hd
           have q1':(((b:Nat):Int)==46)=false:=by simp;omega
           have q2:48≤((b:Nat):Int):=by omega
           have q3:((b:Nat):Int)≤57:=by omega
           by_cases hK:K=12
           ·have hK':(K==12)=true:=by simp [hK]
            have HE:Hid (G=gl false S K (N*10+((b:Int)-48)) (P+1) (s.data.toList.drop (pos+1))):=by
             have h:=HG.out
             rw [zbs s pos hp,gl_dig _ _ _ _ _ _ _ (by rw [←Hb.out];omega) (by rw [←Hb.out];omega) hd3,←Hb.out,if_pos hK] at h
             exact h
            have a2:=a1.put1 (N*10+((b:Int)-48))
            have a3:=a2.put2 (P+1)
            have r3:=(r1.other (w.heap.size+1) 1 (by omega) (.int .i64 (N*10+((b:Int)-48)))).other (w.heap.size+1) 2 (by omega) (.int .i64 (P+1))
            have it3:=zcg (zcg it1 (w.heap.size+1) 1 (by omega) (.int .i64 (N*10+((b:Int)-48)))) (w.heap.size+1) 2 (by omega) (.int .i64 (P+1))
            have b3:=(b1.setCell (p:=⟨w.heap.size+1,1,none⟩) (by show w.heap.size≤w.heap.size+1;omega) (.int .i64 (N*10+((b:Int)-48)))).setCell (p:=⟨w.heap.size+1,2,none⟩) (by show w.heap.size≤w.heap.size+1;omega) (.int .i64 (P+1))
            obtain ⟨c0,c1,c2,f0,f1,f2⟩:=a1
            obtain ⟨d0,d1,d2,g0,g1,g2⟩:=a2
            clear HG Hb r1 it1 b1 hK
            go_wp2
            go_roundg (s.size-(pos+1))
            case measure=>omega
            case rel=>exact ⟨pos+1,S,K,_,_,by omega,rfl,a3,r3,it3,b3,by omega,by rw [show (pos+1==0)=false by simp];exact HE.out⟩
           ·have hK':(K==12)=false:=by simp [hK]
            have HE:Hid (G=gl false S K (N*10+((b:Int)-48)) P (s.data.toList.drop (pos+1))):=by
             have h:=HG.out
             rw [zbs s pos hp,gl_dig _ _ _ _ _ _ _ (by rw [←Hb.out];omega) (by rw [←Hb.out];omega) hd3,←Hb.out,if_neg hK] at h
             exact h
            have a2:=a1.put1 (N*10+((b:Int)-48))
            have r3:=r1.other (w.heap.size+1) 1 (by omega) (.int .i64 (N*10+((b:Int)-48)))
            have it3:=zcg it1 (w.heap.size+1) 1 (by omega) (.int .i64 (N*10+((b:Int)-48)))
            have b3:=b1.setCell (p:=⟨w.heap.size+1,1,none⟩) (by show w.heap.size≤w.heap.size+1;omega) (.int .i64 (N*10+((b:Int)-48)))
            have a3:=a2
            obtain ⟨c0,c1,c2,f0,f1,f2⟩:=a1
            obtain ⟨d0,d1,d2,g0,g1,g2⟩:=a2
            clear HG Hb r1 it1 b1 hK
            go_wp2
            go_roundg (s.size-(pos+1))
            case measure=>omega
            case rel=>exact ⟨pos+1,S,K,_,_,by omega,rfl,a3,r3,it3,b3,by omega,by rw [show (pos+1==0)=false by simp];exact HE.out⟩
          ·by_cases hdot:b=46∧K=11
           ·obtain ⟨hd1,rfl⟩:=hdot
            have q1':(((b:Nat):Int)==46)=true:=by simp;omega
            have HE:Hid (G=gl false S 12 N P (s.data.toList.drop (pos+1))):=by
             have h:=HG.out
             rw [zbs s pos hp,gl_dot _ _ _ _ _ _ (by rw [←Hb.out];exact hd1)] at h
             exact h
            have a3:=a1.put0 12
            have r3:=r1.other (w.heap.size+1) 0 (by omega) (.int .i64 12)
            have it3:=zcg it1 (w.heap.size+1) 0 (by omega) (.int .i64 12)
            have b3:=b1.setCell (p:=⟨w.heap.size+1,0,none⟩) (by show w.heap.size≤w.heap.size+1;omega) (.int .i64 12)
            obtain ⟨c0,c1,c2,f0,f1,f2⟩:=a1
            clear HG Hb r1 it1 b1 hd1
            go_wp2
            go_roundg (s.size-(pos+1))
            case measure=>omega
            case rel=>exact ⟨pos+1,S,12,N,P,by omega,rfl,a3,r3,it3,b3,by omega,by rw [show (pos+1==0)=false by simp];exact HE.out⟩
           ·have HE:Hid (G=(0,0,0)):=by
             have h:=HG.out
             rw [zbs s pos hp,gl_bad _ _ _ _ _ _ _ (fun _=>⟨by rw [←Hb.out];omega,by rw [←Hb.out];exact hl0⟩) (by rw [←Hb.out];exact hdot) (by rw [←Hb.out];exact hd)] at h
             exact h
            have r3:=r1.set 0 0 0
            obtain ⟨x0,x1,x2,y0,y1,y2⟩:=r1
            obtain ⟨z0,z1,z2,_,_,_⟩:=r3
            obtain ⟨c0,c1,c2,f0,f1,f2⟩:=a1
            clear HG Hb
            by_cases h46:b=46
            ·have q1':(((b:Nat):Int)==46)=true:=by simp;omega
             have qK:(K==11)=false:=by simp;omega
             have q2:decide (48≤((b:Nat):Int))=false:=by simp;omega
             go_wp2
             try rw [Exit.noGoto_ret]
             refine bodyPost_ret (v:=.agg #[.int .i64 0,.int .i64 0,.int .i64 0]) (by simp [results,Tryz.results245,go_sem,z0,z1,z2]) rfl ⟨by rw [HE.out],?_⟩
             exact ((b1.setCell (Nat.le_refl _) _).setCell (Nat.le_refl _) _).setCell (Nat.le_refl _) _
            ·have q1':(((b:Nat):Int)==46)=false:=by simp;omega
             by_cases h48:48≤b
             ·have q2:48≤((b:Nat):Int):=by omega
              by_cases h57:b≤57
              ·have q3:((b:Nat):Int)≤57:=by omega
               have q4:decide (N≤99999999)=false:=by simp;omega
               go_wp2
               try rw [Exit.noGoto_ret]
               refine bodyPost_ret (v:=.agg #[.int .i64 0,.int .i64 0,.int .i64 0]) (by simp [results,Tryz.results245,go_sem,z0,z1,z2]) rfl ⟨by rw [HE.out],?_⟩
               exact ((b1.setCell (Nat.le_refl _) _).setCell (Nat.le_refl _) _).setCell (Nat.le_refl _) _
              ·have q3:decide (((b:Nat):Int)≤57)=false:=by simp;omega
               go_wp2
               try rw [Exit.noGoto_ret]
               refine bodyPost_ret (v:=.agg #[.int .i64 0,.int .i64 0,.int .i64 0]) (by simp [results,Tryz.results245,go_sem,z0,z1,z2]) rfl ⟨by rw [HE.out],?_⟩
               exact ((b1.setCell (Nat.le_refl _) _).setCell (Nat.le_refl _) _).setCell (Nat.le_refl _) _
             ·have q2:decide (48≤((b:Nat):Int))=false:=by simp;omega
              go_wp2
              try rw [Exit.noGoto_ret]
              refine bodyPost_ret (v:=.agg #[.int .i64 0,.int .i64 0,.int .i64 0]) (by simp [results,Tryz.results245,go_sem,z0,z1,z2]) rfl ⟨by rw [HE.out],?_⟩
              exact ((b1.setCell (Nat.le_refl _) _).setCell (Nat.le_refl _) _).setCell (Nat.le_refl _) _
      ·have hp0':((pos:Int)==0)=false:=by simp;omega
       go_upto_region 13 with fail
       have hld:=fun ρ hρ o ho=>load58 (hT.k.later b1) ρ hρ o ho
       obtain ⟨CS,HCS⟩:∃CS,Hid (CS=bigK.toArray):=⟨_,Eq.refl bigK.toArray⟩
       rw [←HCS.out] at hld
       refine wp_region_lit ?_
       refine Go.Great.wpList_readTo rfl (some 35) rfl (.agg CS) (hld _ rfl _ rfl) ?_
       clear hld
       go_wp2
       go_loopg [36] 14 (fun g i wi=>∃n:Nat,n+g=14∧i=.int .i64 n∧A3 wi (w.heap.size+1) K N P∧A3 wi w.heap.size 0 0 0∧wi.heap[w.heap.size+2]?=some (.stringIter s (pos+1))∧Below w.heap.size w wi)
       case atStart=>exact ⟨0,rfl,rfl,a1,r1,it1,b1⟩
       case round =>
        clear a1 r1 it1 b1
        obtain ⟨n,hn,rfl,a1,r1,it1,b1⟩:=hrel
        by_cases hlt:n<14
        ·have hix:=fun w=>idx58 CS n hlt w
         have hrow:CS.extract (n*5) (n*5+5)=#[.string (kL n),.int .i64 (kS n),.bool (kB n),.bool (kW n),.bool (kR n)]:=by rw [HCS.out];exact zgh n hlt
         rw [hrow] at hix
         clear hrow HCS
         go_wp2
         go_roundg (gk-1)
         case measure=>omega
         case rel=>exact ⟨n+1,by omega,by go_num,a1.alloc _,r1.alloc _,zcx it1,b1.alloc b1.size _⟩
        ·obtain rfl:n=14:=by omega
         clear HCS
         by_cases hd:48≤b∧b≤57∧N≤99999999
         ·obtain ⟨hd1,hd2,hd3⟩:=hd
          have q1':(((b:Nat):Int)==46)=false:=by simp;omega
          have q2:48≤((b:Nat):Int):=by omega
          have q3:((b:Nat):Int)≤57:=by omega
          by_cases hK:K=12
          ·have hK':(K==12)=true:=by simp [hK]
           have HE:Hid (G=gl false S K (N*10+((b:Int)-48)) (P+1) (s.data.toList.drop (pos+1))):=by
            have h:=HG.out
            rw [zbs s pos hp,gl_dig _ _ _ _ _ _ _ (by rw [←Hb.out];omega) (by rw [←Hb.out];omega) hd3,←Hb.out,if_pos hK] at h
            exact h
           have a2:=a1.put1 (N*10+((b:Int)-48))
           have a3:=a2.put2 (P+1)
           have r3:=(r1.other (w.heap.size+1) 1 (by omega) (.int .i64 (N*10+((b:Int)-48)))).other (w.heap.size+1) 2 (by omega) (.int .i64 (P+1))
           have it3:=zcg (zcg it1 (w.heap.size+1) 1 (by omega) (.int .i64 (N*10+((b:Int)-48)))) (w.heap.size+1) 2 (by omega) (.int .i64 (P+1))
           have b3:=(b1.setCell (p:=⟨w.heap.size+1,1,none⟩) (by show w.heap.size≤w.heap.size+1;omega) (.int .i64 (N*10+((b:Int)-48)))).setCell (p:=⟨w.heap.size+1,2,none⟩) (by show w.heap.size≤w.heap.size+1;omega) (.int .i64 (P+1))
           obtain ⟨c0,c1,c2,f0,f1,f2⟩:=a1
           obtain ⟨d0,d1,d2,g0,g1,g2⟩:=a2
           clear HG Hb r1 it1 b1 hK
           go_wp2
           go_roundg (s.size-(pos+1))
           case measure=>omega
           case rel=>exact ⟨pos+1,S,K,_,_,by omega,rfl,a3,r3,it3,b3,by omega,by rw [show (pos+1==0)=false by simp];exact HE.out⟩
          ·have hK':(K==12)=false:=by simp [hK]
           have HE:Hid (G=gl false S K (N*10+((b:Int)-48)) P (s.data.toList.drop (pos+1))):=by
            have h:=HG.out
            rw [zbs s pos hp,gl_dig _ _ _ _ _ _ _ (by rw [←Hb.out];omega) (by rw [←Hb.out];omega) hd3,←Hb.out,if_neg hK] at h
            exact h
           have a2:=a1.put1 (N*10+((b:Int)-48))
           have r3:=r1.other (w.heap.size+1) 1 (by omega) (.int .i64 (N*10+((b:Int)-48)))
           have it3:=zcg it1 (w.heap.size+1) 1 (by omega) (.int .i64 (N*10+((b:Int)-48)))
           have b3:=b1.setCell (p:=⟨w.heap.size+1,1,none⟩) (by show w.heap.size≤w.heap.size+1;omega) (.int .i64 (N*10+((b:Int)-48)))
           have a3:=a2
           obtain ⟨c0,c1,c2,f0,f1,f2⟩:=a1
           obtain ⟨d0,d1,d2,g0,g1,g2⟩:=a2
           clear HG Hb r1 it1 b1 hK
           go_wp2
           go_roundg (s.size-(pos+1))
           case measure=>omega
           case rel=>exact ⟨pos+1,S,K,_,_,by omega,rfl,a3,r3,it3,b3,by omega,by rw [show (pos+1==0)=false by simp];exact HE.out⟩
         ·by_cases hdot:b=46∧K=11
          ·obtain ⟨hd1,rfl⟩:=hdot
           have q1':(((b:Nat):Int)==46)=true:=by simp;omega
           have HE:Hid (G=gl false S 12 N P (s.data.toList.drop (pos+1))):=by
            have h:=HG.out
            rw [zbs s pos hp,gl_dot _ _ _ _ _ _ (by rw [←Hb.out];exact hd1)] at h
            exact h
           have a3:=a1.put0 12
           have r3:=r1.other (w.heap.size+1) 0 (by omega) (.int .i64 12)
           have it3:=zcg it1 (w.heap.size+1) 0 (by omega) (.int .i64 12)
           have b3:=b1.setCell (p:=⟨w.heap.size+1,0,none⟩) (by show w.heap.size≤w.heap.size+1;omega) (.int .i64 12)
           obtain ⟨c0,c1,c2,f0,f1,f2⟩:=a1
           clear HG Hb r1 it1 b1 hd1
           go_wp2
           go_roundg (s.size-(pos+1))
           case measure=>omega
           case rel=>exact ⟨pos+1,S,12,N,P,by omega,rfl,a3,r3,it3,b3,by omega,by rw [show (pos+1==0)=false by simp];exact HE.out⟩
          ·have HE:Hid (G=(0,0,0)):=by
            have h:=HG.out
            rw [zbs s pos hp,gl_bad _ _ _ _ _ _ _ (fun e=>by simp [hp0] at e) (by rw [←Hb.out];exact hdot) (by rw [←Hb.out];exact hd)] at h
            exact h
           have r3:=r1.set 0 0 0
           obtain ⟨x0,x1,x2,y0,y1,y2⟩:=r1
           obtain ⟨z0,z1,z2,_,_,_⟩:=r3
           obtain ⟨c0,c1,c2,f0,f1,f2⟩:=a1
           clear HG Hb
           by_cases h46:b=46
           ·have q1':(((b:Nat):Int)==46)=true:=by simp;omega
            have qK:(K==11)=false:=by simp;omega
            have q2:decide (48≤((b:Nat):Int))=false:=by simp;omega
            go_wp2
            try rw [Exit.noGoto_ret]
            refine bodyPost_ret (v:=.agg #[.int .i64 0,.int .i64 0,.int .i64 0]) (by simp [results,Tryz.results245,go_sem,z0,z1,z2]) rfl ⟨by rw [HE.out],?_⟩
            exact ((b1.setCell (Nat.le_refl _) _).setCell (Nat.le_refl _) _).setCell (Nat.le_refl _) _
           ·have q1':(((b:Nat):Int)==46)=false:=by simp;omega
            by_cases h48:48≤b
            ·have q2:48≤((b:Nat):Int):=by omega
             by_cases h57:b≤57
             ·have q3:((b:Nat):Int)≤57:=by omega
              have q4:decide (N≤99999999)=false:=by simp;omega
              go_wp2
              try rw [Exit.noGoto_ret]
              refine bodyPost_ret (v:=.agg #[.int .i64 0,.int .i64 0,.int .i64 0]) (by simp [results,Tryz.results245,go_sem,z0,z1,z2]) rfl ⟨by rw [HE.out],?_⟩
              exact ((b1.setCell (Nat.le_refl _) _).setCell (Nat.le_refl _) _).setCell (Nat.le_refl _) _
             ·have q3:decide (((b:Nat):Int)≤57)=false:=by simp;omega
              go_wp2
              try rw [Exit.noGoto_ret]
              refine bodyPost_ret (v:=.agg #[.int .i64 0,.int .i64 0,.int .i64 0]) (by simp [results,Tryz.results245,go_sem,z0,z1,z2]) rfl ⟨by rw [HE.out],?_⟩
              exact ((b1.setCell (Nat.le_refl _) _).setCell (Nat.le_refl _) _).setCell (Nat.le_refl _) _
            ·have q2:decide (48≤((b:Nat):Int))=false:=by simp;omega
             go_wp2
             try rw [Exit.noGoto_ret]
             refine bodyPost_ret (v:=.agg #[.int .i64 0,.int .i64 0,.int .i64 0]) (by simp [results,Tryz.results245,go_sem,z0,z1,z2]) rfl ⟨by rw [HE.out],?_⟩
             exact ((b1.setCell (Nat.le_refl _) _).setCell (Nat.le_refl _) _).setCell (Nat.le_refl _) _
     ·have hnx:∀ty,(Instr.next (.pointer (some ⟨w.heap.size+2,0,none⟩)) true ty).run Tryz.prog wr=_:=fun ty=>Lib.run_next_any_at wr (w.heap.size+2) s pos ty hit hp
      have hbig:=decode_big s pos hp ha8
      obtain ⟨r,Hr⟩:∃r,Hid (r=(Utf8.decode s pos).1):=⟨_,Eq.refl (Utf8.decode s pos).1⟩
      obtain ⟨np,Hnp⟩:∃np,Hid (np=pos+(Utf8.decode s pos).2):=⟨_,Eq.refl (pos+(Utf8.decode s pos).2)⟩
      rw [←Hr.out] at hbig
      rw [←Hr.out,←Hnp.out] at hnx
      clear Hr Hnp
      have it1:=Lib.iterAt_heap wr (w.heap.size+2) s pos (np) hit
      have b1:=Lib.below_iterAt hb (k:=w.heap.size+2) (by omega) s (np)
      have a1:A3 (wr.iterAt (w.heap.size+2) s (np)) (w.heap.size+1) K N P:=ha.iter _ (by omega) _ _
      have r1:A3 (wr.iterAt (w.heap.size+2) s (np)) w.heap.size 0 0 0:=hr.iter _ (by omega) _ _
      obtain ⟨W,HW⟩:∃W,Hid (W=wr.iterAt (w.heap.size+2) s (np)):=⟨_,Eq.refl (wr.iterAt (w.heap.size+2) s (np))⟩
      rw [←HW.out] at hnx it1 b1 a1 r1
      clear HW ha hr hit hb
      by_cases hp0:pos=0
      ·have hp0':((pos:Int)==0)=true:=by simp [hp0]
       have h45':((r:Int)==45)=false:=by simp;omega
       go_upto_region 13 with fail
       have hld:=fun ρ hρ o ho=>load58 (hT.k.later b1) ρ hρ o ho
       obtain ⟨CS,HCS⟩:∃CS,Hid (CS=bigK.toArray):=⟨_,Eq.refl bigK.toArray⟩
       rw [←HCS.out] at hld
       refine wp_region_lit ?_
       refine Go.Great.wpList_readTo rfl (some 35) rfl (.agg CS) (hld _ rfl _ rfl) ?_
       clear hld
       go_wp2
       go_loopg [36] 14 (fun g i wi=>∃n:Nat,n+g=14∧i=.int .i64 n∧A3 wi (w.heap.size+1) K N P∧A3 wi w.heap.size 0 0 0∧wi.heap[w.heap.size+2]?=some (.stringIter s (np))∧Below w.heap.size w wi)
       case atStart=>exact ⟨0,rfl,rfl,a1,r1,it1,b1⟩
       case round =>
        clear a1 r1 it1 b1
        obtain ⟨n,hn,rfl,a1,r1,it1,b1⟩:=hrel
        by_cases hlt:n<14
        ·have hix:=fun w=>idx58 CS n hlt w
         have hrow:CS.extract (n*5) (n*5+5)=#[.string (kL n),.int .i64 (kS n),.bool (kB n),.bool (kW n),.bool (kR n)]:=by rw [HCS.out];exact zgh n hlt
         rw [hrow] at hix
         clear hrow HCS
         have hcmp:=cmpBig n r hbig
         go_wp2
         go_roundg (gk-1)
         case measure=>omega
         case rel=>exact ⟨n+1,by omega,by go_num,a1.alloc _,r1.alloc _,zcx it1,b1.alloc b1.size _⟩
        ·obtain rfl:n=14:=by omega
         clear HCS
         have HE:Hid (G=(0,0,0)):=by
          have h:=HG.out
          rw [zbs s pos hp,gl_bad _ _ _ _ _ _ _ (fun _=>⟨by omega,ltr_big _ (by omega)⟩) (by omega) (by omega)] at h
          exact h
         have q1:((r:Nat):Int)≠46:=by omega
         have q1':(((r:Nat):Int)==46)=false:=by simp;omega
         have q2:48≤((r:Nat):Int):=by omega
         have q3:decide (((r:Nat):Int)≤57)=false:=by simp;omega
         have r3:=r1.set 0 0 0
         obtain ⟨x0,x1,x2,y0,y1,y2⟩:=r1
         obtain ⟨z0,z1,z2,_,_,_⟩:=r3
         obtain ⟨c0,c1,c2,f0,f1,f2⟩:=a1
         clear HG
         go_wp2
         try rw [Exit.noGoto_ret]
         refine bodyPost_ret (v:=.agg #[.int .i64 0,.int .i64 0,.int .i64 0]) (by simp [results,Tryz.results245,go_sem,z0,z1,z2]) rfl ⟨by rw [HE.out],?_⟩
         exact ((b1.setCell (Nat.le_refl _) _).setCell (Nat.le_refl _) _).setCell (Nat.le_refl _) _
      ·have hp0':((pos:Int)==0)=false:=by simp;omega
       go_upto_region 13 with fail
       have hld:=fun ρ hρ o ho=>load58 (hT.k.later b1) ρ hρ o ho
       obtain ⟨CS,HCS⟩:∃CS,Hid (CS=bigK.toArray):=⟨_,Eq.refl bigK.toArray⟩
       rw [←HCS.out] at hld
       refine wp_region_lit ?_
       refine Go.Great.wpList_readTo rfl (some 35) rfl (.agg CS) (hld _ rfl _ rfl) ?_
       clear hld
       go_wp2
       go_loopg [36] 14 (fun g i wi=>∃n:Nat,n+g=14∧i=.int .i64 n∧A3 wi (w.heap.size+1) K N P∧A3 wi w.heap.size 0 0 0∧wi.heap[w.heap.size+2]?=some (.stringIter s (np))∧Below w.heap.size w wi)
       case atStart=>exact ⟨0,rfl,rfl,a1,r1,it1,b1⟩
       case round =>
        clear a1 r1 it1 b1
        obtain ⟨n,hn,rfl,a1,r1,it1,b1⟩:=hrel
        by_cases hlt:n<14
        ·have hix:=fun w=>idx58 CS n hlt w
         have hrow:CS.extract (n*5) (n*5+5)=#[.string (kL n),.int .i64 (kS n),.bool (kB n),.bool (kW n),.bool (kR n)]:=by rw [HCS.out];exact zgh n hlt
         rw [hrow] at hix
         clear hrow HCS
         go_wp2
         go_roundg (gk-1)
         case measure=>omega
         case rel=>exact ⟨n+1,by omega,by go_num,a1.alloc _,r1.alloc _,zcx it1,b1.alloc b1.size _⟩
        ·obtain rfl:n=14:=by omega
         clear HCS
         have HE:Hid (G=(0,0,0)):=by
          have h:=HG.out
          rw [zbs s pos hp,gl_bad _ _ _ _ _ _ _ (fun _=>⟨by omega,ltr_big _ (by omega)⟩) (by omega) (by omega)] at h
          exact h
         have q1:((r:Nat):Int)≠46:=by omega
         have q1':(((r:Nat):Int)==46)=false:=by simp;omega
         have q2:48≤((r:Nat):Int):=by omega
         have q3:decide (((r:Nat):Int)≤57)=false:=by simp;omega
         have r3:=r1.set 0 0 0
         obtain ⟨x0,x1,x2,y0,y1,y2⟩:=r1
         obtain ⟨z0,z1,z2,_,_,_⟩:=r3
         obtain ⟨c0,c1,c2,f0,f1,f2⟩:=a1
         clear HG
         go_wp2
         try rw [Exit.noGoto_ret]
         refine bodyPost_ret (v:=.agg #[.int .i64 0,.int .i64 0,.int .i64 0]) (by simp [results,Tryz.results245,go_sem,z0,z1,z2]) rfl ⟨by rw [HE.out],?_⟩
         exact ((b1.setCell (Nat.le_refl _) _).setCell (Nat.le_refl _) _).setCell (Nat.le_refl _) _
    ·have hnx:∀ty,(Instr.next (.pointer (some ⟨w.heap.size+2,0,none⟩)) true ty).run Tryz.prog wr=_:=fun ty=>Lib.run_next_end_at wr (w.heap.size+2) s pos ty hit hp
     have e0:s.data.toList.drop pos=[]:=List.drop_eq_nil_of_le (by simp;omega)
     rw [e0] at HG
     obtain ⟨hN0,hN1,hP0,hP1,hS⟩:=bd
     rcases hS with rfl|rfl
     ·have HE:Hid (G=(K,N*1,P)):=HG.out
      clear HG e0
      have a2:=ha.put1 N
      have r2:=hr.other (w.heap.size+1) 1 (by omega) (.int .i64 N)
      have r3:=r2.set K N P
      obtain ⟨c0,c1,c2,f0,f1,f2⟩:=ha
      obtain ⟨d0,d1,d2,g0,g1,g2⟩:=a2
      obtain ⟨x0,x1,x2,y0,y1,y2⟩:=r2
      obtain ⟨z0,z1,z2,_,_,_⟩:=r3
      go_wp2
      try rw [Exit.noGoto_ret]
      refine bodyPost_ret (v:=.agg #[.int .i64 K,.int .i64 N,.int .i64 P]) (by simp [results,Tryz.results245,go_sem,z0,z1,z2]) rfl ⟨?_,?_⟩
      ·rw [HE.out];simp
      ·exact (((hb.setCell (by show w.heap.size≤w.heap.size+1;omega) _).setCell (Nat.le_refl _) _).setCell (Nat.le_refl _) _).setCell (Nat.le_refl _) _
     ·have HE:Hid (G=(K,N*-1,P)):=HG.out
      clear HG e0
      have a2:=ha.put1 (-N)
      have r2:=hr.other (w.heap.size+1) 1 (by omega) (.int .i64 (-N))
      have r3:=r2.set K (-N) P
      obtain ⟨c0,c1,c2,f0,f1,f2⟩:=ha
      obtain ⟨d0,d1,d2,g0,g1,g2⟩:=a2
      obtain ⟨x0,x1,x2,y0,y1,y2⟩:=r2
      obtain ⟨z0,z1,z2,_,_,_⟩:=r3
      go_wp2
      try rw [Exit.noGoto_ret]
      refine bodyPost_ret (v:=.agg #[.int .i64 K,.int .i64 (-N),.int .i64 P]) (by simp [results,Tryz.results245,go_sem,z0,z1,z2]) rfl ⟨?_,?_⟩
      ·rw [HE.out];simp
      ·exact (((hb.setCell (by show w.heap.size≤w.heap.size+1;omega) _).setCell (Nat.le_refl _) _).setCell (Nat.le_refl _) _).setCell (Nat.le_refl _) _
set_option maxRecDepth 100000 in
theorem guess_word0(s:ByteArray)(w:World)(hT:Tabs w)(n0:(s.toList==[110,97,110])=true) :
  Calls Tryz.prog 245 #[.string s] w fun e w'=>e=.returned (.agg #[.int .i64 13,.int .i64 0,.int .i64 0])∧Below w.heap.size w w':=by
 have hl:=hT.w.lt
 have q0:∀o:Obj,(w.alloc o).cell? ⟨1,0,none⟩=some (.string ⟨#[110,97,110]⟩):=fun o=>(World.cell?_alloc_past _ _ _ hl).trans (hT.w 0 (by omega))
 have q1:∀o:Obj,(w.alloc o).cell? ⟨1,1,none⟩=some (.string ⟨#[105,110,102]⟩):=fun o=>(World.cell?_alloc_past _ _ _ hl).trans (hT.w 1 (by omega))
 have q2:∀o:Obj,(w.alloc o).cell? ⟨1,2,none⟩=some (.string ⟨#[45,105,110,102]⟩):=fun o=>(World.cell?_alloc_past _ _ _ hl).trans (hT.w 2 (by omega))
 have q3:∀o:Obj,(w.alloc o).cell? ⟨1,3,none⟩=some (.string ⟨#[45,48,46,48]⟩):=fun o=>(World.cell?_alloc_past _ _ _ hl).trans (hT.w 3 (by omega))
 go_enter Tryz.func245,Tryz.ntmps245
 go_wp2
 go_step3
 go_wp2
 clear q0 q1 q2 q3
 go_loopg [12] 0 (fun g i wr=>∃n:Nat,n+g=0∧i=.int .i64 n∧wr=w.alloc (.cells #[.int .i64 0,.int .i64 0,.int .i64 0] 133))
 case atStart=>exact ⟨0,rfl,rfl,rfl⟩
 case round =>
  obtain ⟨n,hn,rfl,rfl⟩:=hrel
  have hc:n=0:=by omega
  rcases hc with rfl
  ·go_wp2
   try rw [Exit.noGoto_ret]
   refine bodyPost_ret (v:=.agg #[.int .i64 13,.int .i64 0,.int .i64 0]) (by simp [results,Tryz.results245,go_sem]) rfl ⟨rfl,?_⟩
   go_grown
set_option maxRecDepth 100000 in
theorem guess_word1(s:ByteArray)(w:World)(hT:Tabs w)(n0:(s.toList==[110,97,110])=false)(n1:(s.toList==[105,110,102])=true) :
  Calls Tryz.prog 245 #[.string s] w fun e w'=>e=.returned (.agg #[.int .i64 13,.int .i64 1,.int .i64 0])∧Below w.heap.size w w':=by
 have hl:=hT.w.lt
 have q0:∀o:Obj,(w.alloc o).cell? ⟨1,0,none⟩=some (.string ⟨#[110,97,110]⟩):=fun o=>(World.cell?_alloc_past _ _ _ hl).trans (hT.w 0 (by omega))
 have q1:∀o:Obj,(w.alloc o).cell? ⟨1,1,none⟩=some (.string ⟨#[105,110,102]⟩):=fun o=>(World.cell?_alloc_past _ _ _ hl).trans (hT.w 1 (by omega))
 have q2:∀o:Obj,(w.alloc o).cell? ⟨1,2,none⟩=some (.string ⟨#[45,105,110,102]⟩):=fun o=>(World.cell?_alloc_past _ _ _ hl).trans (hT.w 2 (by omega))
 have q3:∀o:Obj,(w.alloc o).cell? ⟨1,3,none⟩=some (.string ⟨#[45,48,46,48]⟩):=fun o=>(World.cell?_alloc_past _ _ _ hl).trans (hT.w 3 (by omega))
 go_enter Tryz.func245,Tryz.ntmps245
 go_wp2
 go_step3
 go_wp2
 clear q0 q1 q2 q3
 go_loopg [12] 1 (fun g i wr=>∃n:Nat,n+g=1∧i=.int .i64 n∧wr=w.alloc (.cells #[.int .i64 0,.int .i64 0,.int .i64 0] 133))
 case atStart=>exact ⟨0,rfl,rfl,rfl⟩
 case round =>
  obtain ⟨n,hn,rfl,rfl⟩:=hrel
  have hc:n=0∨n=1:=by omega
  rcases hc with rfl|rfl
  ·go_wp2
   go_roundg (gk-1)
   case measure=>omega
   case rel=>exact ⟨1,by omega,rfl,rfl⟩
  ·go_wp2
   try rw [Exit.noGoto_ret]
   refine bodyPost_ret (v:=.agg #[.int .i64 13,.int .i64 1,.int .i64 0]) (by simp [results,Tryz.results245,go_sem]) rfl ⟨rfl,?_⟩
   go_grown
set_option maxRecDepth 100000 in
theorem guess_word2(s:ByteArray)(w:World)(hT:Tabs w)(n0:(s.toList==[110,97,110])=false)(n1:(s.toList==[105,110,102])=false)(n2:(s.toList==[45,105,110,102])=true) :
  Calls Tryz.prog 245 #[.string s] w fun e w'=>e=.returned (.agg #[.int .i64 13,.int .i64 2,.int .i64 0])∧Below w.heap.size w w':=by
 have hl:=hT.w.lt
 have q0:∀o:Obj,(w.alloc o).cell? ⟨1,0,none⟩=some (.string ⟨#[110,97,110]⟩):=fun o=>(World.cell?_alloc_past _ _ _ hl).trans (hT.w 0 (by omega))
 have q1:∀o:Obj,(w.alloc o).cell? ⟨1,1,none⟩=some (.string ⟨#[105,110,102]⟩):=fun o=>(World.cell?_alloc_past _ _ _ hl).trans (hT.w 1 (by omega))
 have q2:∀o:Obj,(w.alloc o).cell? ⟨1,2,none⟩=some (.string ⟨#[45,105,110,102]⟩):=fun o=>(World.cell?_alloc_past _ _ _ hl).trans (hT.w 2 (by omega))
 have q3:∀o:Obj,(w.alloc o).cell? ⟨1,3,none⟩=some (.string ⟨#[45,48,46,48]⟩):=fun o=>(World.cell?_alloc_past _ _ _ hl).trans (hT.w 3 (by omega))
 go_enter Tryz.func245,Tryz.ntmps245
 go_wp2
 go_step3
 go_wp2
 clear q0 q1 q2 q3
 go_loopg [12] 2 (fun g i wr=>∃n:Nat,n+g=2∧i=.int .i64 n∧wr=w.alloc (.cells #[.int .i64 0,.int .i64 0,.int .i64 0] 133))
 case atStart=>exact ⟨0,rfl,rfl,rfl⟩
 case round =>
  obtain ⟨n,hn,rfl,rfl⟩:=hrel
  have hc:n=0∨n=1∨n=2:=by omega
  rcases hc with rfl|rfl|rfl
  ·go_wp2
   go_roundg (gk-1)
   case measure=>omega
   case rel=>exact ⟨1,by omega,rfl,rfl⟩
  ·go_wp2
   go_roundg (gk-1)
   case measure=>omega
   case rel=>exact ⟨2,by omega,rfl,rfl⟩
  ·go_wp2
   try rw [Exit.noGoto_ret]
   refine bodyPost_ret (v:=.agg #[.int .i64 13,.int .i64 2,.int .i64 0]) (by simp [results,Tryz.results245,go_sem]) rfl ⟨rfl,?_⟩
   go_grown
set_option maxRecDepth 100000 in
theorem guess_word3(s:ByteArray)(w:World)(hT:Tabs w)(n0:(s.toList==[110,97,110])=false)(n1:(s.toList==[105,110,102])=false)(n2:(s.toList==[45,105,110,102])=false)(n3:(s.toList==[45,48,46,48])=true) :
  Calls Tryz.prog 245 #[.string s] w fun e w'=>e=.returned (.agg #[.int .i64 13,.int .i64 3,.int .i64 0])∧Below w.heap.size w w':=by
 have hl:=hT.w.lt
 have q0:∀o:Obj,(w.alloc o).cell? ⟨1,0,none⟩=some (.string ⟨#[110,97,110]⟩):=fun o=>(World.cell?_alloc_past _ _ _ hl).trans (hT.w 0 (by omega))
 have q1:∀o:Obj,(w.alloc o).cell? ⟨1,1,none⟩=some (.string ⟨#[105,110,102]⟩):=fun o=>(World.cell?_alloc_past _ _ _ hl).trans (hT.w 1 (by omega))
 have q2:∀o:Obj,(w.alloc o).cell? ⟨1,2,none⟩=some (.string ⟨#[45,105,110,102]⟩):=fun o=>(World.cell?_alloc_past _ _ _ hl).trans (hT.w 2 (by omega))
 have q3:∀o:Obj,(w.alloc o).cell? ⟨1,3,none⟩=some (.string ⟨#[45,48,46,48]⟩):=fun o=>(World.cell?_alloc_past _ _ _ hl).trans (hT.w 3 (by omega))
 go_enter Tryz.func245,Tryz.ntmps245
 go_wp2
 go_step3
 go_wp2
 clear q0 q1 q2 q3
 go_loopg [12] 3 (fun g i wr=>∃n:Nat,n+g=3∧i=.int .i64 n∧wr=w.alloc (.cells #[.int .i64 0,.int .i64 0,.int .i64 0] 133))
 case atStart=>exact ⟨0,rfl,rfl,rfl⟩
 case round =>
  obtain ⟨n,hn,rfl,rfl⟩:=hrel
  have hc:n=0∨n=1∨n=2∨n=3:=by omega
  rcases hc with rfl|rfl|rfl|rfl
  ·go_wp2
   go_roundg (gk-1)
   case measure=>omega
   case rel=>exact ⟨1,by omega,rfl,rfl⟩
  ·go_wp2
   go_roundg (gk-1)
   case measure=>omega
   case rel=>exact ⟨2,by omega,rfl,rfl⟩
  ·go_wp2
   go_roundg (gk-1)
   case measure=>omega
   case rel=>exact ⟨3,by omega,rfl,rfl⟩
  ·go_wp2
   try rw [Exit.noGoto_ret]
   refine bodyPost_ret (v:=.agg #[.int .i64 13,.int .i64 3,.int .i64 0]) (by simp [results,Tryz.results245,go_sem]) rfl ⟨rfl,?_⟩
   go_grown
theorem zig(i:Nat)(hi:i<4)(w:World)(hT:Tabs w) :
  Calls Tryz.prog 245 #[.string (wd i)] w fun e w'=>e=.returned (.agg #[.int .i64 13,.int .i64 i,.int .i64 0])∧Below w.heap.size w w':=by
 rcases c4 i hi with rfl|rfl|rfl|rfl
 ·exact guess_word0 _ w hT (by decide +kernel)
 ·exact guess_word1 _ w hT (by decide +kernel) (by decide +kernel)
 ·exact guess_word2 _ w hT (by decide +kernel) (by decide +kernel) (by decide +kernel)
 ·exact guess_word3 _ w hT (by decide +kernel) (by decide +kernel) (by decide +kernel) (by decide +kernel)
def gI(s:ByteArray):Int×Int×Int:=gl true 1 11 0 0 s.data.toList
theorem guess_any(s:ByteArray)(w:World)(hT:Tabs w)(hsz:s.size≤1048576)(h:∀i:Nat,i<4→s≠wd i) :
  Calls Tryz.prog 245 #[.string s] w fun e w'=>e=.returned (.agg #[.int .i64 (gI s).1,.int .i64 (gI s).2.1,.int .i64 (gI s).2.2])∧Below w.heap.size w w':=by
 have hf:∀(i:Nat)(l:List UInt8),i<4→(wd i).toList=l→(s.toList==l)=false:=by
  intro i l hi hl
  rw [Bool.eq_false_iff]
  intro e
  have e1:=eq_of_beq e
  rw [←hl,Lib.toList_data,Lib.toList_data] at e1
  apply h i hi
  have:=zcs e1
  rw [this,Lib.mk_data]
 exact guess_rest s w hT hsz (hf 0 _ (by omega) (by decide +kernel)) (hf 1 _ (by omega) (by decide +kernel)) (hf 2 _ (by omega) (by decide +kernel)) (hf 3 _ (by omega) (by decide +kernel))
theorem impl_read_no(s:ByteArray)(K N P:Int)(w:World)(hT:Tabs w)(hne:s.toList≠[])
  (HG:Hid (∀W,Tabs W→Calls Tryz.prog 245 #[.string s] W fun e w'=>e=.returned (.agg #[.int .i64 K,.int .i64 N,.int .i64 P])∧Below W.heap.size W w')) (hx:((txt K N P).toList==s.toList)=false) :
  Calls Tryz.prog 232 #[.string s] w fun e w'=>e=.returned (.tuple #[.agg #[.int .i64 0,.int .i64 0,.int .i64 0],.bool false])∧Below w.heap.size w w':=by
 have HX:Hid (∀W,Tabs W→Calls Tryz.prog 141 #[.agg #[.int .i64 K,.int .i64 N,.int .i64 P]] W fun e w'=>e=.returned (.string (txt K N P))∧Below W.heap.size W w'):=fun W h=>impl_text K N P W h
 obtain ⟨X,HXX⟩:∃X,Hid (X=txt K N P):=⟨_,Eq.refl (txt K N P)⟩
 rw [←HXX.out] at HX hx
 clear HXX
 have he:(s.toList==[])=false:=by cases h:s.toList with|nil=>exact absurd h hne|cons a b=>rfl
 go_enter Tryz.func232,Tryz.ntmps232
 go_wp2_with fail
 refine (HG.out _ (hT.alloc _)).mono ?_
 rintro e w1 ⟨rfl,g1⟩
 have r1:A3 w1 w.heap.size 0 0 0:=(A3.fresh w 0 0 0 133).later g1
 have b1:Below w.heap.size w w1:=((Below.refl _ _).alloc (Nat.le_refl _) _).trans (g1.mono (by simp))
 clear g1 HG
 go_wp2_with fail
 refine (HX.out _ ((hT.later b1).alloc _)).mono ?_
 rintro e w2 ⟨rfl,g2⟩
 have r2:A3 w2 w.heap.size 0 0 0:=(r1.alloc _).later g2
 have b2:Below w.heap.size w w2:=(b1.alloc b1.size _).trans (g2.mono (by simp;have:=b1.size;omega))
 clear g2 HX r1 b1
 have r3:=r2.set 0 0 0
 obtain ⟨x0,x1,x2,y0,y1,y2⟩:=r2
 obtain ⟨z0,z1,z2,_,_,_⟩:=r3
 go_wp2
 refine bodyPost_ret (v:=.tuple #[.agg #[.int .i64 0,.int .i64 0,.int .i64 0],.bool false]) (by simp [results,Tryz.results232,go_sem,z0,z1,z2]) rfl ⟨rfl,?_⟩
 exact ((b2.setCell (Nat.le_refl _) _).setCell (Nat.le_refl _) _).setCell (Nat.le_refl _) _
theorem zji(s:ByteArray)(K N P:Int)(w:World)(hT:Tabs w)(hne:s.toList≠[])
  (HG:Hid (∀W,Tabs W→Calls Tryz.prog 245 #[.string s] W fun e w'=>e=.returned (.agg #[.int .i64 K,.int .i64 N,.int .i64 P])∧Below W.heap.size W w')) (hx:((txt K N P).toList==s.toList)=true) :
  Calls Tryz.prog 232 #[.string s] w fun e w'=>e=.returned (.tuple #[.agg #[.int .i64 K,.int .i64 N,.int .i64 P],.bool true])∧Below w.heap.size w w':=by
 have HX:Hid (∀W,Tabs W→Calls Tryz.prog 141 #[.agg #[.int .i64 K,.int .i64 N,.int .i64 P]] W fun e w'=>e=.returned (.string (txt K N P))∧Below W.heap.size W w'):=fun W h=>impl_text K N P W h
 obtain ⟨X,HXX⟩:∃X,Hid (X=txt K N P):=⟨_,Eq.refl (txt K N P)⟩
 rw [←HXX.out] at HX hx
 clear HXX
 have he:(s.toList==[])=false:=by cases h:s.toList with|nil=>exact absurd h hne|cons a b=>rfl
 go_enter Tryz.func232,Tryz.ntmps232
 go_wp2_with fail
 refine (HG.out _ (hT.alloc _)).mono ?_
 rintro e w1 ⟨rfl,g1⟩
 have r1:A3 w1 w.heap.size 0 0 0:=(A3.fresh w 0 0 0 133).later g1
 have b1:Below w.heap.size w w1:=((Below.refl _ _).alloc (Nat.le_refl _) _).trans (g1.mono (by simp))
 have n1:w.heap.size<w1.heap.size:=r1.lt
 clear g1 HG
 go_wp2_with fail
 refine (HX.out _ ((hT.later b1).alloc _)).mono ?_
 rintro e w2 ⟨rfl,g2⟩
 have r2:A3 w2 w.heap.size 0 0 0:=(r1.alloc _).later g2
 have a2:A3 w2 w1.heap.size K N P:=(A3.fresh w1 K N P 133).later g2
 have b2:Below w.heap.size w w2:=(b1.alloc b1.size _).trans (g2.mono (by simp;have:=b1.size;omega))
 clear g2 HX r1 b1
 have r3:=r2.set K N P
 obtain ⟨x0,x1,x2,y0,y1,y2⟩:=r2
 obtain ⟨c0,c1,c2,f0,f1,f2⟩:=a2
 obtain ⟨z0,z1,z2,_,_,_⟩:=r3
 go_wp2
 refine bodyPost_ret (v:=.tuple #[.agg #[.int .i64 K,.int .i64 N,.int .i64 P],.bool true]) (by simp [results,Tryz.results232,go_sem,z0,z1,z2]) rfl ⟨rfl,?_⟩
 exact ((b2.setCell (Nat.le_refl _) _).setCell (Nat.le_refl _) _).setCell (Nat.le_refl _) _
theorem zgx(s:ByteArray)(K N P:Int)(w:World)(hT:Tabs w)(he:(s.toList==[])=true)
  (HG:Hid (∀W,Tabs W→Calls Tryz.prog 245 #[.string s] W fun e w'=>e=.returned (.agg #[.int .i64 K,.int .i64 N,.int .i64 P])∧Below W.heap.size W w')) :
  Calls Tryz.prog 232 #[.string s] w fun e w'=>e=.returned (.tuple #[.agg #[.int .i64 0,.int .i64 0,.int .i64 0],.bool false])∧Below w.heap.size w w':=by
 go_enter Tryz.func232,Tryz.ntmps232
 go_wp2_with fail
 refine (HG.out _ (hT.alloc _)).mono ?_
 rintro e w1 ⟨rfl,g1⟩
 have r1:A3 w1 w.heap.size 0 0 0:=(A3.fresh w 0 0 0 133).later g1
 have b1:Below w.heap.size w w1:=((Below.refl _ _).alloc (Nat.le_refl _) _).trans (g1.mono (by simp))
 clear g1 HG
 have r2:=r1.alloc (.cells #[.int .i64 K,.int .i64 N,.int .i64 P] 133)
 have b2:=b1.alloc b1.size (.cells #[.int .i64 K,.int .i64 N,.int .i64 P] 133)
 have r3:=r2.set 0 0 0
 obtain ⟨x0,x1,x2,y0,y1,y2⟩:=r2
 obtain ⟨z0,z1,z2,_,_,_⟩:=r3
 go_wp2
 refine bodyPost_ret (v:=.tuple #[.agg #[.int .i64 0,.int .i64 0,.int .i64 0],.bool false]) (by simp [results,Tryz.results232,go_sem,z0,z1,z2]) rfl ⟨rfl,?_⟩
 exact ((b2.setCell (Nat.le_refl _) _).setCell (Nat.le_refl _) _).setCell (Nat.le_refl _) _
def dgF:List UInt8→Int→Int
 | [],acc=>acc
 | b::r,acc=>if b.toNat<48∨57<b.toNat then -1 else dgF r (acc*10+((b.toNat:Int)-48))
def digS(l:List UInt8):Int:=if l.length=0∨17<l.length then -1 else dgF l 0
theorem pow10_le(i:Nat)(h:i≤16):(10:Int) ^ i≤10000000000000000:=by
 have:∀j:Fin 17,(10:Int) ^ j.val≤10000000000000000:=by decide
 exact this ⟨i,by omega⟩
set_option maxRecDepth 100000 in
theorem digits_r(s:ByteArray)(w:World)(h1:1≤s.size)(h2:s.size≤17) :
  Calls Tryz.prog 233 #[.string s] w fun e w'=>e=.returned (.int .i64 (dgF s.data.toList 0))∧w'=w:=by
 have i1:((s.size:Int)==0)=false:=by rw [beq_eq_false_iff_ne];omega
 have i2:¬(17<(s.size:Int)):=by omega
 obtain ⟨G,HG⟩:∃G,Hid (G=dgF s.data.toList 0):=⟨_,Eq.refl (dgF s.data.toList 0)⟩
 rw [←HG.out]
 go_enter Tryz.func233,Tryz.ntmps233
 go_wp2
 go_loopg [3,4] s.size (fun g n i wr=>∃(j:Nat)(A:Int),j+g=s.size∧i=.int .i64 j∧n=.int .i64 A∧0≤A∧A<(10:Int) ^ j∧Hid (G=dgF (s.data.toList.drop j) A)∧wr=w)
 case atStart=>exact ⟨0,0,by omega,rfl,rfl,by omega,by simp,HG.out,rfl⟩
 case round =>
  clear HG
  obtain ⟨j,A,hj,rfl,rfl,hA0,hA1,HG,rfl⟩:=hrel
  by_cases hlt:j<s.size
  ·have hp:=pow10_le j (by omega)
   have hA2:A<10000000000000000:=Int.lt_of_lt_of_le hA1 hp
   have hA3:A+1≤(10:Int) ^ j:=hA1
   have hpw:(10:Int) ^ (j+1)=10 ^ j*10:=Int.pow_succ 10 j
   have hdr:=zbs s j hlt
   have hsj:s[j]?=some (s[j]'hlt):=by simp [hlt]
   by_cases d1:(s[j]'hlt).toNat<48
   ·have d1':(((s[j]'hlt).toNat:Nat):Int)<48:=by omega
    have HE:Hid (G=-1):=by
     have h:=HG.out
     rw [hdr,dgF,if_pos (.inl d1)] at h
     exact h
    clear HG hdr hp hpw hA3
    go_wp2
    go_ret
    exact ⟨by rw [HE.out];rfl,rfl⟩
   ·by_cases d2:57<(s[j]'hlt).toNat
    ·have d1':¬(((s[j]'hlt).toNat:Nat):Int)<48:=by omega
     have d2':57<(((s[j]'hlt).toNat:Nat):Int):=by omega
     have HE:Hid (G=-1):=by
      have h:=HG.out
      rw [hdr,dgF,if_pos (.inr d2)] at h
      exact h
     clear HG hdr hp hpw hA3
     go_wp2
     go_ret
     exact ⟨by rw [HE.out];rfl,rfl⟩
    ·have d1':¬(((s[j]'hlt).toNat:Nat):Int)<48:=by omega
     have d2':¬ 57<(((s[j]'hlt).toNat:Nat):Int):=by omega
     have HE:Hid (G=dgF (s.data.toList.drop (j+1)) (A*10+(((s[j]'hlt).toNat:Int)-48))):=by
      have h:=HG.out
      rw [hdr,dgF,if_neg (by omega)] at h
      exact h
     have HB:Hid (0≤A*10+(((s[j]'hlt).toNat:Int)-48)∧A*10+(((s[j]'hlt).toNat:Int)-48)<(10:Int) ^ (j+1)):=by
      refine ⟨by omega,?_⟩
      rw [hpw]
      omega
     clear HG hdr hp hpw hA3 hA1
     go_wp2
     go_roundg (gk-1)
     case measure=>omega
     case rel=>exact ⟨j+1,_,by omega,by go_num,rfl,HB.out.1,HB.out.2,HE,rfl⟩
  ·have e0:s.data.toList.drop j=[]:=List.drop_eq_nil_of_le (by simp;omega)
   have HE:Hid (G=A):=by
    have h:=HG.out
    rw [e0] at h
    exact h
   clear HG e0 hA1
   go_wp2
   go_ret
   exact ⟨by rw [HE.out];rfl,rfl⟩
theorem zih(s:ByteArray)(w:World)(h:s.size=0∨17<s.size)(hs:s.size≤1048577) :
  Calls Tryz.prog 233 #[.string s] w fun e w'=>e=.returned (.int .i64 (-1))∧w'=w:=by
 by_cases h0:s.size=0
 ·have i1:((s.size:Int)==0)=true:=by rw [beq_iff_eq];omega
  go_enter Tryz.func233,Tryz.ntmps233
  go_wp2
  go_ret
  exact ⟨rfl,rfl⟩
 ·have i1:((s.size:Int)==0)=false:=by rw [beq_eq_false_iff_ne];omega
  have i2:17<(s.size:Int):=by omega
  go_enter Tryz.func233,Tryz.ntmps233
  go_wp2
  go_ret
  exact ⟨rfl,rfl⟩
theorem zea(s:ByteArray)(w:World)(hs:s.size≤1048577) :
  Calls Tryz.prog 233 #[.string s] w fun e w'=>e=.returned (.int .i64 (digS s.data.toList))∧w'=w:=by
 unfold digS
 by_cases h:s.size=0∨17<s.size
 ·rw [if_pos (by rw [←Lib.size_eq];exact h)]
  exact zih s w h hs
 ·rw [if_neg (by rw [←Lib.size_eq];exact h)]
  exact digits_r s w (by omega) (by omega)
theorem zjj(l:List UInt8):-1≤digS l∧digS l≤1000000000000000000:=by
 have key:∀(l:List UInt8)(A:Int)(B:Int),0≤A→A<B→-1≤dgF l A∧dgF l A<B*10 ^ l.length:=by
  intro l
  induction l with
  | nil=>intro A B h1 h2;simp [dgF];omega
  | cons b r ih =>
   intro A B h1 h2
   simp only [dgF,List.length_cons]
   split
   ·have:(0:Int)<B*10 ^ (r.length+1):=Int.mul_pos (by omega) (Int.pow_pos (by decide))
    omega
   ·rename_i hb
    have:=ih (A*10+((b.toNat:Int)-48)) (B*10) (by omega) (by omega)
    rw [Int.pow_succ,Int.mul_comm (10 ^ r.length) 10,←Int.mul_assoc]
    exact this
 unfold digS
 split
 ·omega
 ·rename_i h
  have h1:=key l 0 1 (by omega) (by omega)
  have hp:(10:Int) ^ l.length≤1000000000000000000:=by
   have:∀j:Fin 18,(10:Int) ^ j.val≤1000000000000000000:=by decide
   exact this ⟨l.length,by omega⟩
  omega
set_option maxRecDepth 100000 in
theorem find_r(s:ByteArray)(w:World)(d:Nat)(hs:s.size≤1048576)(hd:d≤s.size)(hno:∀j,j<d→∀h:j<s.size,(s[j]'h).toNat≠46)(hat:∀h:d<s.size,(s[d]'h).toNat=46) :
  Calls Tryz.prog 234 #[.string s,.int .u8 46] w fun e w'=>e=.returned (.int .i64 (if d<s.size then (d:Int) else -1))∧w'=w:=by
 obtain ⟨G,HG⟩:∃G:Int,Hid (G=if d<s.size then (d:Int) else -1):=⟨_,Eq.refl (if d<s.size then (d:Int) else -1)⟩
 rw [←HG.out]
 have Hno:Hid (∀j,j<d→∀h:j<s.size,(s[j]'h).toNat≠46):=hno
 have Hat:Hid (∀h:d<s.size,(s[d]'h).toNat=46):=hat
 clear hno hat
 go_enter Tryz.func234,Tryz.ntmps234
 go_wp2
 go_loopg [5] s.size (fun g i wr=>∃(j:Nat),j+g=s.size∧i=.int .i64 j∧j≤d∧wr=w)
 case atStart=>exact ⟨0,by omega,rfl,by omega,rfl⟩
 case round =>
  obtain ⟨j,hj,rfl,hjd,rfl⟩:=hrel
  by_cases hlt:j<s.size
  ·by_cases hj2:j<d
   ·have hne:((((s[j]'hlt).toNat:Nat):Int)==46)=false:=by
     rw [beq_eq_false_iff_ne]
     have:=Hno.out j hj2 hlt
     omega
    go_wp2
    go_roundg (gk-1)
    case measure=>omega
    case rel=>exact ⟨j+1,by omega,by go_num,by omega,rfl⟩
   ·obtain rfl:j=d:=by omega
    have hne:((((s[j]'hlt).toNat:Nat):Int)==46)=true:=by
     rw [beq_iff_eq]
     have:=Hat.out hlt
     omega
    go_wp2
    go_ret
    exact ⟨by rw [HG.out,if_pos hlt];rfl,rfl⟩
  ·go_wp2
   go_ret
   exact ⟨by rw [HG.out,if_neg (by omega)];rfl,rfl⟩
theorem ext1(s:ByteArray)(h:0<s.size):(s.extract 0 1).toList=[s[0]'h]:=by
 rw [Lib.extract_toList]
 have h0:0<s.data.toList.length:=by rw [←Lib.size_eq];exact h
 rw [List.drop_zero]
 cases hl:s.data.toList with
 | nil=>rw [hl] at h0;simp at h0
 | cons a r =>
  have e:s[0]'h=a:=by
   have:=zbs s 0 h
   rw [List.drop_zero,hl] at this
   simp at this
   exact this.symm
  rw [e]
  rfl
theorem cmpF(s:ByteArray)(k:Nat)(h:0<s.size)(h1:1≤k)(h2:k≤10):((s.extract 0 1).toList==(kL k).toList)=decide (ltr (s[0]'h).toNat=k):=by
 rw [ext1 s h]
 generalize s[0]'h=b
 have key:∀(k:Fin 11)(b:Fin 256),1≤k.val→([UInt8.ofNat b.val]==(kL (k.val:Nat)).toList)=decide (ltr b.val=k.val):=by decide +kernel
 have:=key ⟨k,by omega⟩ ⟨b.toNat,b.toNat_lt⟩ h1
 simpa using this
set_option maxRecDepth 100000 in
theorem zii(s:ByteArray)(w:World)(hs:s.size≤1048576)(h0:0<s.size)(hl:ltr (s[0]'h0).toNat≠0)(Hw:Hid (∀i:Nat,i<4→(s.toList==(wd i).toList)=false)) :
  Calls Tryz.prog 220 #[.string s] w fun e w'=>e=.returned (.agg #[.int .i64 (ltr (s[0]'h0).toNat),.int .i64 (digS (s.data.toList.drop 1)),.int .i64 0])∧Below w.heap.size w w':=by
 have HC:=fun k=>cmpF s k h0
 have Hc:Hid (∀k:Nat,1≤k→k≤10→((s.extract 0 1).toList==(kL k).toList)=decide (ltr (s[0]'h0).toNat=k)):=HC
 clear HC
 have hk10:=ltr_le (s[0]'h0).toNat
 obtain ⟨kk,Hk⟩:∃kk,Hid (kk=ltr (s[0]'h0).toNat):=⟨_,Eq.refl (ltr (s[0]'h0).toNat)⟩
 rw [←Hk.out] at hl hk10 Hc ⊢
 have HD:Hid (∀W:World,Calls Tryz.prog 233 #[.string (s.extract 1 s.size)] W fun e w'=>e=.returned (.int .i64 (digS (s.data.toList.drop 1)))∧w'=W):=fun W=>by
  have h:=zea (s.extract 1 s.size) W (by simp;omega)
  have e:(s.extract 1 s.size).data.toList=s.data.toList.drop 1:=Lib.extract_to_end s 1
  rw [e] at h
  exact h
 obtain ⟨D,HDD⟩:∃D,Hid (D=digS (s.data.toList.drop 1)):=⟨_,Eq.refl (digS (s.data.toList.drop 1))⟩
 rw [←HDD.out] at HD ⊢
 clear HDD Hk
 have hne:s.toList.isEmpty=false:=by
  rw [Lib.toList_data]
  have:0<s.data.toList.length:=by rw [←Lib.size_eq];exact h0
  cases hx:s.data.toList with
  | nil=>rw [hx] at this;simp at this
  | cons a r=>rfl
 have i1:(1:Int)≤(s.size:Int):=by omega
 go_enter Tryz.func220,Tryz.ntmps220
 go_wp2
 go_loopg [3] 4 (fun g i wr=>∃n:Nat,n+g=4∧i=.int .i64 n∧A3 wr w.heap.size 0 0 0∧Below w.heap.size w wr)
 case atStart=>exact ⟨0,rfl,rfl,A3.fresh w 0 0 0 133,(Below.refl _ _).alloc (Nat.le_refl _) _⟩
 case round =>
  obtain ⟨n,hn,rfl,r1,b1⟩:=hrel
  by_cases hlt:n<4
  ·have hcmp:=Hw.out n hlt
   have hlt':(n:Int)<4:=by omega
   go_wp2_with fail
   refine (zeo _).mono ?_
   rintro e w1 ⟨rfl,g1,hx⟩
   have hxn:=hx n hlt
   have r2:=r1.later g1
   have b2:=b1.trans (g1.mono b1.size)
   clear hx g1 r1 b1
   go_wp2
   go_roundg (gk-1)
   case measure=>omega
   case rel=>exact ⟨n+1,by omega,by go_num,r2,b2⟩
  ·clear Hw
   go_wp2
   go_loopg [4] 10 (fun g i wr=>∃n:Nat,n+g=11∧i=.int .i64 n∧1≤n∧n≤kk∧A3 wr w.heap.size 0 0 0∧Below w.heap.size w wr)
   case atStart=>exact ⟨1,rfl,rfl,by omega,by omega,r1,b1⟩
   case round =>
    clear r1 b1
    obtain ⟨n,hn,rfl,n1,n2,r1,b1⟩:=hrel
    have hcmp:=Hc.out n n1 (by omega)
    have HL:Hid (∀W:World,Calls Tryz.prog 147 #[.int .i64 n] W fun e w'=>e=.returned (.string (kL n))∧w'=W):=fun W=>zdj n W
    have hlt':(n:Int)≤10:=by omega
    by_cases hhit:kk=n
    ·rw [decide_eq_true hhit] at hcmp
     go_upto_region 9 with fail
     go_quiet (first|(go_at_call 147;refine Calls.quiet_of_same (HL.out _)))
     clear HL
     go_wp2_with fail
     refine (HD.out _).mono ?_
     rintro e w1 ⟨rfl,rfl⟩
     have r2:A3 (wr.drewN nq) w.heap.size 0 0 0:=⟨r1.c0,r1.c1,r1.c2,r1.f0,r1.f1,r1.f2⟩
     have b2:Below w.heap.size w (wr.drewN nq):=zgc b1 nq
     have r3:=r2.set n D 0
     obtain ⟨x0,x1,x2,y0,y1,y2⟩:=r2
     obtain ⟨z0,z1,z2,_,_,_⟩:=r3
     clear r1 b1 HD
     go_wp2
     refine bodyPost_ret (v:=.agg #[.int .i64 n,.int .i64 D,.int .i64 0]) (by simp [results,Tryz.results220,go_sem,z0,z1,z2]) rfl ⟨by rw [hhit],?_⟩
     exact ((b2.setCell (Nat.le_refl _) _).setCell (Nat.le_refl _) _).setCell (Nat.le_refl _) _
    ·rw [decide_eq_false hhit] at hcmp
     go_upto_region 9 with fail
     go_quiet (first|(go_at_call 147;refine Calls.quiet_of_same (HL.out _)))
     clear HL
     have r2:A3 (wr.drewN nq) w.heap.size 0 0 0:=⟨r1.c0,r1.c1,r1.c2,r1.f0,r1.f1,r1.f2⟩
     have b2:Below w.heap.size w (wr.drewN nq):=zgc b1 nq
     go_wp2
     go_roundg (gk-1)
     case measure=>omega
     case rel=>exact ⟨n+1,by omega,by go_num,by omega,by omega,r2,b2⟩
def numG(sg:Int)(T:ByteArray)(d:Nat):Int×Int×Int :=
 if d<T.size then (12,sg*digS ((T.data.toList.take d)++(T.data.toList.drop (d+1))),(T.size:Int)-d-1) else (11,sg*digS T.data.toList,0)
theorem dig_cut(T:ByteArray)(d:Nat)(hd:d<T.size)(hTs:T.size≤1048576)(W:World) :
  Calls Tryz.prog 233 #[.string (T.extract 0 d++T.extract (d+1) T.size)] W fun e w'=>e=.returned (.int .i64 (digS ((T.data.toList.take d)++(T.data.toList.drop (d+1)))))∧w'=W:=by
 have e:(T.extract 0 d++T.extract (d+1) T.size).data.toList=(T.data.toList.take d)++(T.data.toList.drop (d+1)):=by
  have e1:(T.extract 0 d).data.toList=T.data.toList.take d:=by rw [Lib.extract_data];simp
  have e2:(T.extract (d+1) T.size).data.toList=T.data.toList.drop (d+1):=Lib.extract_to_end T (d+1)
  rw [←e1,←e2]
  simp
 have h:=zea (T.extract 0 d++T.extract (d+1) T.size) W (by
  rw [Lib.size_eq,e,List.length_append,List.length_take,List.length_drop,←Lib.size_eq];omega)
 rw [e] at h
 exact h
set_option maxRecDepth 100000 in
theorem sguess_pos(s:ByteArray)(G:Int×Int×Int)(d:Nat)(w:World)(hs:s.size≤1048576)(h0:0<s.size)(Hw:Hid (∀i:Nat,i<4→(s.toList==(wd i).toList)=false))
  (Hc:Hid (∀k:Nat,1≤k→k≤10→((s.extract 0 1).toList==(kL k).toList)=false)) (hne:s.toList.isEmpty=false) (h45:(((s[0]'h0).toNat:Int)==45)=false) (hTs:s.size≤1048576) (hd0:d≤s.size)
  (Hno:Hid (∀j,j<d→∀h:j<s.size,(s[j]'h).toNat≠46)) (Hat:Hid (∀h:d<s.size,(s[d]'h).toNat=46)) (HG:Hid (G=numG (1) s d)) :
  Calls Tryz.prog 220 #[.string s] w fun e w'=>e=.returned (.agg #[.int .i64 G.1,.int .i64 G.2.1,.int .i64 G.2.2])∧Below w.heap.size w w':=by
 have i1:(1:Int)≤(s.size:Int):=by omega
 have i0:(0:Int)<(s.size:Int):=by omega
 go_enter Tryz.func220,Tryz.ntmps220
 go_wp2
 go_loopg [3] 4 (fun g i wr=>∃n:Nat,n+g=4∧i=.int .i64 n∧A3 wr w.heap.size 0 0 0∧Below w.heap.size w wr)
 case atStart=>exact ⟨0,rfl,rfl,A3.fresh w 0 0 0 133,(Below.refl _ _).alloc (Nat.le_refl _) _⟩
 case round =>
  obtain ⟨n,hn,rfl,r1,b1⟩:=hrel
  by_cases hlt:n<4
  ·have hcmp:=Hw.out n hlt
   have hlt':(n:Int)<4:=by omega
   go_wp2_with fail
   refine (zeo _).mono ?_
   rintro e w1 ⟨rfl,g1,hx⟩
   have hxn:=hx n hlt
   have r2:=r1.later g1
   have b2:=b1.trans (g1.mono b1.size)
   clear hx g1 r1 b1
   go_wp2
   go_roundg (gk-1)
   case measure=>omega
   case rel=>exact ⟨n+1,by omega,by go_num,r2,b2⟩
  ·clear Hw
   go_wp2
   go_loopg [4] 10 (fun g i wr=>∃n:Nat,n+g=11∧i=.int .i64 n∧1≤n∧A3 wr w.heap.size 0 0 0∧Below w.heap.size w wr)
   case atStart=>exact ⟨1,rfl,rfl,by omega,r1,b1⟩
   case round =>
    clear r1 b1
    obtain ⟨n,hn,rfl,n1,r1,b1⟩:=hrel
    by_cases hlt:n≤10
    ·have hcmp:=Hc.out n n1 hlt
     have HL:Hid (∀W:World,Calls Tryz.prog 147 #[.int .i64 n] W fun e w'=>e=.returned (.string (kL n))∧w'=W):=fun W=>zdj n W
     have hlt':(n:Int)≤10:=by omega
     go_upto_region 9 with fail
     go_quiet (first|(go_at_call 147;refine Calls.quiet_of_same (HL.out _)))
     clear HL
     have r2:A3 (wr.drewN nq) w.heap.size 0 0 0:=⟨r1.c0,r1.c1,r1.c2,r1.f0,r1.f1,r1.f2⟩
     have b2:Below w.heap.size w (wr.drewN nq):=zgc b1 nq
     go_wp2
     go_roundg (gk-1)
     case measure=>omega
     case rel=>exact ⟨n+1,by omega,by go_num,by omega,r2,b2⟩
    ·clear Hc
     go_wp2_with fail
     refine (find_r s _ d hTs hd0 Hno.out Hat.out).mono ?_
     rintro e w1 ⟨rfl,rfl⟩
     clear Hno Hat
     by_cases hd:d<s.size
     ·have HE:Hid (G=(12,1*digS ((s.data.toList.take d)++(s.data.toList.drop (d+1))),(s.size:Int)-d-1)):=by have h:=HG.out;rw [numG,if_pos hd] at h;exact h
      have HD:Hid (∀W:World,Calls Tryz.prog 233 #[.string (s.extract 0 d++s.extract (d+1) s.size)] W fun e w'=>e=.returned (.int .i64 (digS ((s.data.toList.take d)++(s.data.toList.drop (d+1)))))∧w'=W):=fun W=>dig_cut s d hd hTs W
      have bdg:=zjj ((s.data.toList.take d)++(s.data.toList.drop (d+1)))
      obtain ⟨D,HDD⟩:∃D,Hid (D=digS ((s.data.toList.take d)++(s.data.toList.drop (d+1)))):=⟨_,Eq.refl (digS ((s.data.toList.take d)++(s.data.toList.drop (d+1))))⟩
      rw [←HDD.out] at HD bdg HE
      rw [if_pos hd]
      clear HDD HG
      have r3:=r1.set 12 D ((s.size:Int)-d-1)
      obtain ⟨x0,x1,x2,y0,y1,y2⟩:=r1
      obtain ⟨z0,z1,z2,_,_,_⟩:=r3
      have j1:(d:Int)≤(s.size:Int):=by omega
      have j2:(d:Int)+1≤(s.size:Int):=by omega
      have j3:(0:Int)≤(d:Int)+1:=by omega
      have j6:d+1≤s.size:=hd
      have v1:IntKind.i64.wrap ((d:Int)+1)=(d:Int)+1:=by rw [IntKind.wrap_i64];omega
      have v2:IntKind.i64.wrap ((s.size:Int)-(d:Int))=(s.size:Int)-(d:Int):=by rw [IntKind.wrap_i64];omega
      have v3:IntKind.i64.wrap ((s.size:Int)-(d:Int)-1)=(s.size:Int)-(d:Int)-1:=by rw [IntKind.wrap_i64];omega
      have v4:IntKind.i64.wrap (1*D)=D:=by rw [IntKind.wrap_i64];omega
      have v6:IntKind.i64.wrap D=D:=by rw [IntKind.wrap_i64];omega
      have v5:((d:Int)+1).toNat=d+1:=by omega
      go_upto_region 18 with fail
      go_region_with (go_at_call 233;refine (HD.out _).mono ?_;rintro e w2 ⟨rfl,rfl⟩)
      all_goals
       go_wp2
       refine bodyPost_ret (v:=.agg #[.int .i64 12,.int .i64 D,.int .i64 ((s.size:Int)-d-1)]) (by simp [results,Tryz.results220,go_sem,z0,z1,z2]) rfl ⟨by rw [HE.out];simp,?_⟩
       exact (((b1.setCell (Nat.le_refl _) _).setCell (Nat.le_refl _) _).setCell (Nat.le_refl _) _).drew
     ·have HE:Hid (G=(11,1*digS s.data.toList,0)):=by have h:=HG.out;rw [numG,if_neg hd] at h;exact h
      have HD:Hid (∀W:World,Calls Tryz.prog 233 #[.string s] W fun e w'=>e=.returned (.int .i64 (digS s.data.toList))∧w'=W):=fun W=>zea s W (by omega)
      have bdg:=zjj s.data.toList
      obtain ⟨D,HDD⟩:∃D,Hid (D=digS s.data.toList):=⟨_,Eq.refl (digS s.data.toList)⟩
      rw [←HDD.out] at HD bdg HE
      rw [if_neg hd]
      clear HDD HG
      go_wp2_with fail
      refine (HD.out _).mono ?_
      rintro e w2 ⟨rfl,rfl⟩
      have r3:=r1.set 11 D 0
      obtain ⟨x0,x1,x2,y0,y1,y2⟩:=r1
      obtain ⟨z0,z1,z2,_,_,_⟩:=r3
      clear HD
      go_wp2
      refine bodyPost_ret (v:=.agg #[.int .i64 11,.int .i64 D,.int .i64 0]) (by simp [results,Tryz.results220,go_sem,z0,z1,z2]) rfl ⟨by rw [HE.out];simp,?_⟩
      exact ((b1.setCell (Nat.le_refl _) _).setCell (Nat.le_refl _) _).setCell (Nat.le_refl _) _
set_option maxRecDepth 100000 in
theorem sguess_neg(s:ByteArray)(T:ByteArray)(G:Int×Int×Int)(d:Nat)(w:World)(hs:s.size≤1048576)(h0:0<s.size)(Hw:Hid (∀i:Nat,i<4→(s.toList==(wd i).toList)=false))
  (Hc:Hid (∀k:Nat,1≤k→k≤10→((s.extract 0 1).toList==(kL k).toList)=false)) (hne:s.toList.isEmpty=false) (hT1:s.extract 1 s.size=T) (h45:(((s[0]'h0).toNat:Int)==45)=true) (hTs:T.size≤1048576) (hd0:d≤T.size)
  (Hno:Hid (∀j,j<d→∀h:j<T.size,(T[j]'h).toNat≠46)) (Hat:Hid (∀h:d<T.size,(T[d]'h).toNat=46)) (HG:Hid (G=numG (-1) T d)) :
  Calls Tryz.prog 220 #[.string s] w fun e w'=>e=.returned (.agg #[.int .i64 G.1,.int .i64 G.2.1,.int .i64 G.2.2])∧Below w.heap.size w w':=by
 have i1:(1:Int)≤(s.size:Int):=by omega
 have i0:(0:Int)<(s.size:Int):=by omega
 go_enter Tryz.func220,Tryz.ntmps220
 go_wp2
 go_loopg [3] 4 (fun g i wr=>∃n:Nat,n+g=4∧i=.int .i64 n∧A3 wr w.heap.size 0 0 0∧Below w.heap.size w wr)
 case atStart=>exact ⟨0,rfl,rfl,A3.fresh w 0 0 0 133,(Below.refl _ _).alloc (Nat.le_refl _) _⟩
 case round =>
  obtain ⟨n,hn,rfl,r1,b1⟩:=hrel
  by_cases hlt:n<4
  ·have hcmp:=Hw.out n hlt
   have hlt':(n:Int)<4:=by omega
   go_wp2_with fail
   refine (zeo _).mono ?_
   rintro e w1 ⟨rfl,g1,hx⟩
   have hxn:=hx n hlt
   have r2:=r1.later g1
   have b2:=b1.trans (g1.mono b1.size)
   clear hx g1 r1 b1
   go_wp2
   go_roundg (gk-1)
   case measure=>omega
   case rel=>exact ⟨n+1,by omega,by go_num,r2,b2⟩
  ·clear Hw
   go_wp2
   go_loopg [4] 10 (fun g i wr=>∃n:Nat,n+g=11∧i=.int .i64 n∧1≤n∧A3 wr w.heap.size 0 0 0∧Below w.heap.size w wr)
   case atStart=>exact ⟨1,rfl,rfl,by omega,r1,b1⟩
   case round =>
    clear r1 b1
    obtain ⟨n,hn,rfl,n1,r1,b1⟩:=hrel
    by_cases hlt:n≤10
    ·have hcmp:=Hc.out n n1 hlt
     have HL:Hid (∀W:World,Calls Tryz.prog 147 #[.int .i64 n] W fun e w'=>e=.returned (.string (kL n))∧w'=W):=fun W=>zdj n W
     have hlt':(n:Int)≤10:=by omega
     go_upto_region 9 with fail
     go_quiet (first|(go_at_call 147;refine Calls.quiet_of_same (HL.out _)))
     clear HL
     have r2:A3 (wr.drewN nq) w.heap.size 0 0 0:=⟨r1.c0,r1.c1,r1.c2,r1.f0,r1.f1,r1.f2⟩
     have b2:Below w.heap.size w (wr.drewN nq):=zgc b1 nq
     go_wp2
     go_roundg (gk-1)
     case measure=>omega
     case rel=>exact ⟨n+1,by omega,by go_num,by omega,r2,b2⟩
    ·clear Hc
     go_wp2_with fail
     refine (find_r T _ d hTs hd0 Hno.out Hat.out).mono ?_
     rintro e w1 ⟨rfl,rfl⟩
     clear Hno Hat
     by_cases hd:d<T.size
     ·have HE:Hid (G=(12,-1*digS ((T.data.toList.take d)++(T.data.toList.drop (d+1))),(T.size:Int)-d-1)):=by have h:=HG.out;rw [numG,if_pos hd] at h;exact h
      have HD:Hid (∀W:World,Calls Tryz.prog 233 #[.string (T.extract 0 d++T.extract (d+1) T.size)] W fun e w'=>e=.returned (.int .i64 (digS ((T.data.toList.take d)++(T.data.toList.drop (d+1)))))∧w'=W):=fun W=>dig_cut T d hd hTs W
      have bdg:=zjj ((T.data.toList.take d)++(T.data.toList.drop (d+1)))
      obtain ⟨D,HDD⟩:∃D,Hid (D=digS ((T.data.toList.take d)++(T.data.toList.drop (d+1)))):=⟨_,Eq.refl (digS ((T.data.toList.take d)++(T.data.toList.drop (d+1))))⟩
      rw [←HDD.out] at HD bdg HE
      rw [if_pos hd]
      clear HDD HG
      have r3:=r1.set 12 (-D) ((T.size:Int)-d-1)
      obtain ⟨x0,x1,x2,y0,y1,y2⟩:=r1
      obtain ⟨z0,z1,z2,_,_,_⟩:=r3
      have j1:(d:Int)≤(T.size:Int):=by omega
      have j2:(d:Int)+1≤(T.size:Int):=by omega
      have j3:(0:Int)≤(d:Int)+1:=by omega
      have j6:d+1≤T.size:=hd
      have v1:IntKind.i64.wrap ((d:Int)+1)=(d:Int)+1:=by rw [IntKind.wrap_i64];omega
      have v2:IntKind.i64.wrap ((T.size:Int)-(d:Int))=(T.size:Int)-(d:Int):=by rw [IntKind.wrap_i64];omega
      have v3:IntKind.i64.wrap ((T.size:Int)-(d:Int)-1)=(T.size:Int)-(d:Int)-1:=by rw [IntKind.wrap_i64];omega
      have v4:IntKind.i64.wrap (-1*D)=(-D):=by rw [IntKind.wrap_i64];omega
      have v6:IntKind.i64.wrap (-D)=(-D):=by rw [IntKind.wrap_i64];omega
      have v5:((d:Int)+1).toNat=d+1:=by omega
      go_upto_region 18 with fail
      go_region_with (go_at_call 233;refine (HD.out _).mono ?_;rintro e w2 ⟨rfl,rfl⟩)
      all_goals
       go_wp2
       refine bodyPost_ret (v:=.agg #[.int .i64 12,.int .i64 (-D),.int .i64 ((T.size:Int)-d-1)]) (by simp [results,Tryz.results220,go_sem,z0,z1,z2]) rfl ⟨by rw [HE.out];simp,?_⟩
       exact (((b1.setCell (Nat.le_refl _) _).setCell (Nat.le_refl _) _).setCell (Nat.le_refl _) _).drew
     ·have HE:Hid (G=(11,-1*digS T.data.toList,0)):=by have h:=HG.out;rw [numG,if_neg hd] at h;exact h
      have HD:Hid (∀W:World,Calls Tryz.prog 233 #[.string T] W fun e w'=>e=.returned (.int .i64 (digS T.data.toList))∧w'=W):=fun W=>zea T W (by omega)
      have bdg:=zjj T.data.toList
      obtain ⟨D,HDD⟩:∃D,Hid (D=digS T.data.toList):=⟨_,Eq.refl (digS T.data.toList)⟩
      rw [←HDD.out] at HD bdg HE
      rw [if_neg hd]
      clear HDD HG
      go_wp2_with fail
      refine (HD.out _).mono ?_
      rintro e w2 ⟨rfl,rfl⟩
      have r3:=r1.set 11 (-D) 0
      obtain ⟨x0,x1,x2,y0,y1,y2⟩:=r1
      obtain ⟨z0,z1,z2,_,_,_⟩:=r3
      clear HD
      go_wp2
      refine bodyPost_ret (v:=.agg #[.int .i64 11,.int .i64 (-D),.int .i64 0]) (by simp [results,Tryz.results220,go_sem,z0,z1,z2]) rfl ⟨by rw [HE.out];simp,?_⟩
      exact ((b1.setCell (Nat.le_refl _) _).setCell (Nat.le_refl _) _).setCell (Nat.le_refl _) _
set_option maxRecDepth 100000 in
theorem zgy(s:ByteArray)(j:Nat)(hj:j<4)(w:World)(Hw:Hid (∀i:Nat,i<4→(s.toList==(wd i).toList)=decide (i=j))) :
  Calls Tryz.prog 220 #[.string s] w fun e w'=>e=.returned (.agg #[.int .i64 13,.int .i64 j,.int .i64 0])∧Below w.heap.size w w':=by
 go_enter Tryz.func220,Tryz.ntmps220
 go_wp2
 go_loopg [3] 4 (fun g i wr=>∃n:Nat,n+g=4∧i=.int .i64 n∧n≤j∧A3 wr w.heap.size 0 0 0∧Below w.heap.size w wr)
 case atStart=>exact ⟨0,rfl,rfl,by omega,A3.fresh w 0 0 0 133,(Below.refl _ _).alloc (Nat.le_refl _) _⟩
 case round =>
  obtain ⟨n,hn,rfl,hnj,r1,b1⟩:=hrel
  have hlt:n<4:=by omega
  have hcmp:=Hw.out n hlt
  have hlt':(n:Int)<4:=by omega
  by_cases e:n=j
  ·subst e
   rw [decide_eq_true rfl] at hcmp
   clear Hw hnj hj
   go_wp2_with fail
   refine (zeo _).mono ?_
   rintro e w1 ⟨rfl,g1,hx⟩
   have hxn:=hx n hlt
   have r2:=r1.later g1
   have b2:=b1.trans (g1.mono b1.size)
   clear hx g1 r1 b1
   have r3:=r2.set 13 n 0
   obtain ⟨x0,x1,x2,y0,y1,y2⟩:=r2
   obtain ⟨z0,z1,z2,_,_,_⟩:=r3
   go_wp2
   refine bodyPost_ret (v:=.agg #[.int .i64 13,.int .i64 n,.int .i64 0]) (by simp [results,Tryz.results220,go_sem,z0,z1,z2]) rfl ⟨rfl,?_⟩
   exact ((b2.setCell (Nat.le_refl _) _).setCell (Nat.le_refl _) _).setCell (Nat.le_refl _) _
  ·rw [decide_eq_false e] at hcmp
   go_wp2_with fail
   refine (zeo _).mono ?_
   rintro e w1 ⟨rfl,g1,hx⟩
   have hxn:=hx n hlt
   have r2:=r1.later g1
   have b2:=b1.trans (g1.mono b1.size)
   clear hx g1 r1 b1
   go_wp2
   go_roundg (gk-1)
   case measure=>omega
   case rel=>exact ⟨n+1,by omega,by go_num,by omega,r2,b2⟩
set_option maxRecDepth 100000 in
theorem sguess_empty(w:World) :
  Calls Tryz.prog 220 #[.string ⟨#[]⟩] w fun e w'=>e=.returned (.agg #[.int .i64 11,.int .i64 (-1),.int .i64 0])∧Below w.heap.size w w':=by
 have Hw:Hid (∀i:Nat,i<4→((ByteArray.mk #[]).toList==(wd i).toList)=false):=by
  intro i hi
  rcases c4 i hi with rfl|rfl|rfl|rfl<;>decide +kernel
 have Hno:Hid (∀j,j<0→∀h:j<(ByteArray.mk #[]).size,((ByteArray.mk #[])[j]'h).toNat≠46):=fun j hj=>by omega
 have HF:Hid (∀W:World,Calls Tryz.prog 234 #[.string ⟨#[]⟩,.int .u8 46] W fun e w'=>e=.returned (.int .i64 (-1))∧w'=W):=fun W=>find_r ⟨#[]⟩ W 0 (by decide) (by decide) Hno.out (fun h=>absurd h (by decide))
 have HD:Hid (∀W:World,Calls Tryz.prog 233 #[.string ⟨#[]⟩] W fun e w'=>e=.returned (.int .i64 (-1))∧w'=W):=fun W=>zih ⟨#[]⟩ W (.inl rfl) (by decide)
 clear Hno
 obtain ⟨s,HS⟩:∃s:ByteArray,Hid (s=⟨#[]⟩):=⟨_,Eq.refl (ByteArray.mk #[])⟩
 have hne:s.toList.isEmpty=true:=by rw [HS.out];decide +kernel
 rw [←HS.out] at Hw HF HD ⊢
 clear HS
 go_enter Tryz.func220,Tryz.ntmps220
 go_wp2
 go_loopg [3] 4 (fun g i wr=>∃n:Nat,n+g=4∧i=.int .i64 n∧A3 wr w.heap.size 0 0 0∧Below w.heap.size w wr)
 case atStart=>exact ⟨0,rfl,rfl,A3.fresh w 0 0 0 133,(Below.refl _ _).alloc (Nat.le_refl _) _⟩
 case round =>
  obtain ⟨n,hn,rfl,r1,b1⟩:=hrel
  by_cases hlt:n<4
  ·have hcmp:=Hw.out n hlt
   have hlt':(n:Int)<4:=by omega
   go_wp2_with fail
   refine (zeo _).mono ?_
   rintro e w1 ⟨rfl,g1,hx⟩
   have hxn:=hx n hlt
   have r2:=r1.later g1
   have b2:=b1.trans (g1.mono b1.size)
   clear hx g1 r1 b1
   go_wp2
   go_roundg (gk-1)
   case measure=>omega
   case rel=>exact ⟨n+1,by omega,by go_num,r2,b2⟩
  ·clear Hw
   go_wp2
   go_loopg [4] 10 (fun g i wr=>∃n:Nat,n+g=11∧i=.int .i64 n∧1≤n∧A3 wr w.heap.size 0 0 0∧Below w.heap.size w wr)
   case atStart=>exact ⟨1,rfl,rfl,by omega,r1,b1⟩
   case round =>
    clear r1 b1
    obtain ⟨n,hn,rfl,n1,r1,b1⟩:=hrel
    by_cases hlt:n≤10
    ·have hlt':(n:Int)≤10:=by omega
     go_upto_region 9 with fail
     go_quiet (fail)
     have r2:A3 (wr.drewN nq) w.heap.size 0 0 0:=⟨r1.c0,r1.c1,r1.c2,r1.f0,r1.f1,r1.f2⟩
     have b2:Below w.heap.size w (wr.drewN nq):=zgc b1 nq
     go_wp2
     go_roundg (gk-1)
     case measure=>omega
     case rel=>exact ⟨n+1,by omega,by go_num,by omega,r2,b2⟩
    ·go_wp2_with fail
     refine (HF.out _).mono ?_
     rintro e w1 ⟨rfl,rfl⟩
     go_wp2_with fail
     refine (HD.out _).mono ?_
     rintro e w2 ⟨rfl,rfl⟩
     have r3:=r1.set 11 (-1) 0
     obtain ⟨x0,x1,x2,y0,y1,y2⟩:=r1
     obtain ⟨z0,z1,z2,_,_,_⟩:=r3
     go_wp2
     refine bodyPost_ret (v:=.agg #[.int .i64 11,.int .i64 (-1),.int .i64 0]) (by simp [results,Tryz.results220,go_sem,z0,z1,z2]) rfl ⟨rfl,?_⟩
     exact ((b1.setCell (Nat.le_refl _) _).setCell (Nat.le_refl _) _).setCell (Nat.le_refl _) _
end Go.Proofs.YtllmabgollkigaaGreatDoor
namespace Go.Proofs.YtllmabgollkigaaGreatDoor
open Go.RowKit
open Go.Lib (decDigits itoa)
set_option linter.unusedVariables false
def isD(b:UInt8):Prop:=48≤b.toNat∧b.toNat≤57
def valD:List UInt8→Int→Int
 | [],A=>A
 | b::r,A=>valD r (A*10+((b.toNat:Int)-48))
theorem zgz(a b:List UInt8)(A:Int):valD (a++b) A=valD b (valD a A):=by
 induction a generalizing A with
 | nil=>rfl
 | cons x a ih=>exact ih _
theorem valD_ge(l:List UInt8)(A:Int)(hA:0≤A)(h:∀b∈l,isD b):A≤valD l A:=by
 induction l generalizing A with
 | nil=>exact Int.le_refl _
 | cons x l ih =>
  have hx:=h x (by simp)
  have:=ih (A*10+((x.toNat:Int)-48)) (by have:=hx.1;omega) (fun b hb=>h b (by simp [hb]))
  have h1:=hx.1
  simp only [valD]
  omega
theorem dgF_val(l:List UInt8)(A:Int)(h:∀b∈l,isD b):dgF l A=valD l A:=by
 induction l generalizing A with
 | nil=>rfl
 | cons x l ih =>
  have hx:=h x (by simp)
  rw [dgF,if_neg (by have:=hx.1;have:=hx.2;omega),valD]
  exact ih _ (fun b hb=>h b (by simp [hb]))
theorem zjk(l:List UInt8)(h:∀b∈l,isD b)(h1:1≤l.length)(h2:l.length≤17):digS l=valD l 0:=by
 unfold digS
 rw [if_neg (by omega),dgF_val l 0 h]
theorem zev(d:Nat)(h:d<10):(UInt8.ofNat (48+d)).toNat=48+d:=by simp;omega
theorem zds(u:Nat):∀b∈decDigits u,isD b:=by
 induction u using Nat.strongRecOn with
 | _ u ih =>
  intro b hb
  by_cases h:u<10
  ·rw [Lib.decDigits_one h] at hb
   rw [List.mem_singleton.1 hb]
   have:=zev u h
   unfold isD
   omega
  ·rw [zct u (by omega)] at hb
   rcases List.mem_append.1 hb with hb|hb
   ·exact ih (u / 10) (by omega) b hb
   ·rw [List.mem_singleton.1 hb]
    have:=zev (u % 10) (by omega)
    unfold isD
    omega
theorem zjl(u:Nat):valD (decDigits u) 0=u:=by
 induction u using Nat.strongRecOn with
 | _ u ih =>
  by_cases h:u<10
  ·rw [Lib.decDigits_one h]
   have:=zev u h
   simp only [valD]
   omega
  ·rw [zct u (by omega),zgz,ih (u / 10) (by omega)]
   have:=zev (u % 10) (by omega)
   simp only [valD]
   omega
theorem dec_len(u:Nat)(hu:u≤1000000000000):1≤(decDigits u).length∧(decDigits u).length≤21:=by
 have:=zbw u (by omega)
 rw [zam] at this
 exact ⟨this.2,this.1⟩
theorem zca(u:Nat)(hu:u≤999999999):(decDigits u).length≤9:=by
 have h:=Lib.decDigits_length u
 rw [h]
 by_cases h0:Lib.nDigits u≤9
 ·exact h0
 ·exfalso
  have key:∀k u,k<Lib.nDigits u→1≤k→10 ^ k≤u:=by
   intro k
   induction k with
   | zero=>intro u _ h;omega
   | succ k ih =>
    intro u hk _
    by_cases hu:u<10
    ·rw [Lib.nDigits_small hu] at hk;omega
    ·rw [Lib.nDigits_big hu] at hk
     by_cases hk0:k=0
     ·subst hk0;simp;omega
     ·have:=ih (u / 10) (by omega) (by omega)
      rw [Nat.pow_succ]
      omega
  have:=key 9 u (by omega) (by omega)
  have e:(10:Nat) ^ 9=1000000000:=by decide
  omega
theorem zeros_val(j:Nat)(l:List UInt8):valD (List.replicate j 48++l) 0=valD l 0:=by
 induction j with
 | zero=>rfl
 | succ j ih =>
  rw [List.replicate_succ,List.cons_append,valD]
  exact ih
theorem pad_val(u p:Nat):valD (pad u p) 0=u:=by rw [pad,zeros_val,zjl]
theorem zjm(u p:Nat):∀b∈pad u p,isD b:=by
 intro b hb
 rcases List.mem_append.1 hb with hb|hb
 ·have:=(List.mem_replicate.1 hb).2
  subst this
  exact ⟨by decide,by decide⟩
 ·exact zds u b hb
theorem pad_len9(u p:Nat)(hu:u≤999999999)(hp:p≤6):(pad u p).length≤16:=by
 have:=zca u hu
 have:=zjg u p
 omega
theorem zfi(u p:Nat):∃A B:List UInt8,cutp u p=A++46::B∧A++B=pad u p∧B.length=p∧1≤A.length:=by
 have h:=zjg u p
 refine ⟨(pad u p).take ((pad u p).length-p),(pad u p).drop ((pad u p).length-p),?_,List.take_append_drop _ _,?_,?_⟩
 ·simp [cutp]
 ·rw [List.length_drop];omega
 ·rw [List.length_take];omega
theorem gl_val(l r:List UInt8)(f:Bool)(S K N P:Int)(hN:0≤N)(h:∀b∈l,isD b)(hv:valD l N≤999999999) :
  gl f S K N P (l++r)=gl (f&&l.isEmpty) S K (valD l N) (if K=12 then P+l.length else P) r:=by
 induction l generalizing f N P with
 | nil=>simp [valD]
 | cons b l ih =>
  have hb:=h b (by simp)
  have hge:=valD_ge l (N*10+((b.toNat:Int)-48)) (by have:=hb.1;omega) (fun x hx=>h x (by simp [hx]))
  have hb1:=hb.1
  simp only [valD] at hv
  rw [List.cons_append,gl_dig f S K N P b (l++r) hb.1 hb.2 (by omega),ih false _ _ (by omega) (fun x hx=>h x (by simp [hx])) hv]
  simp only [valD,List.isEmpty_cons,Bool.and_false,Bool.false_and,List.length_cons]
  congr 1
  split
  ·omega
  ·rfl
theorem gl_cut(u p:Nat)(f:Bool)(S:Int)(hu:u≤999999999):gl f S 11 0 0 (cutp u p)=(12,(u:Int)*S,(p:Int)):=by
 obtain ⟨A,B,h1,h2,h3,h4⟩:=zfi u p
 have hd:=zjm u p
 rw [←h2] at hd
 have hv:=pad_val u p
 rw [←h2,zgz] at hv
 have hA:∀b∈A,isD b:=fun b hb=>hd b (by simp [hb])
 have hB:∀b∈B,isD b:=fun b hb=>hd b (by simp [hb])
 have g0:=valD_ge A 0 (by omega) hA
 have g1:=valD_ge B (valD A 0) g0 hB
 rw [h1,gl_val A (46::B) f S 11 0 0 (by omega) hA (by omega),if_neg (by decide),gl_dot _ _ _ _ _ _ (by decide)]
 have:=gl_val B [] false S 12 (valD A 0) 0 g0 hB (by omega)
 rw [List.append_nil] at this
 rw [this,if_pos rfl,hv,h3]
 simp [gl]
theorem gl_int(u:Nat)(f:Bool)(S K:Int)(hu:u≤999999999)(hK:K≠12):gl f S K 0 0 (decDigits u)=(K,(u:Int)*S,0):=by
 have hv:=zjl u
 have:=gl_val (decDigits u) [] f S K 0 0 (by omega) (zds u) (by omega)
 rw [List.append_nil] at this
 rw [this,if_neg hK,hv]
 simp [gl]
end Go.Proofs.YtllmabgollkigaaGreatDoor
namespace Go.Proofs.YtllmabgollkigaaGreatDoor
open Go.RowKit
open Go.Lib (decDigits itoa)
set_option linter.unusedVariables false
theorem spec_read_no(s:ByteArray)(K N P:Int)(w:World)(hne:s.toList≠[])
  (HG:Hid (∀W,Calls Tryz.prog 220 #[.string s] W fun e w'=>e=.returned (.agg #[.int .i64 K,.int .i64 N,.int .i64 P])∧Below W.heap.size W w')) (hx:((txt K N P).toList==s.toList)=false) :
  Calls Tryz.prog 187 #[.string s] w fun e w'=>e=.returned (.tuple #[.agg #[.int .i64 0,.int .i64 0,.int .i64 0],.bool false])∧Below w.heap.size w w':=by
 have HX:Hid (∀W,Calls Tryz.prog 109 #[.agg #[.int .i64 K,.int .i64 N,.int .i64 P]] W fun e w'=>e=.returned (.string (txt K N P))∧Below W.heap.size W w'):=fun W=>zcd K N P W
 obtain ⟨X,HXX⟩:∃X,Hid (X=txt K N P):=⟨_,Eq.refl (txt K N P)⟩
 rw [←HXX.out] at HX hx
 clear HXX
 have he:(s.toList==[])=false:=by cases h:s.toList with|nil=>exact absurd h hne|cons a b=>rfl
 go_enter Tryz.func187,Tryz.ntmps187
 go_wp2_with fail
 refine (HG.out _).mono ?_
 rintro e w1 ⟨rfl,g1⟩
 have r1:A3 w1 w.heap.size 0 0 0:=(A3.fresh w 0 0 0 133).later g1
 have b1:Below w.heap.size w w1:=((Below.refl _ _).alloc (Nat.le_refl _) _).trans (g1.mono (by simp))
 clear g1 HG
 go_wp2_with fail
 refine (HX.out _).mono ?_
 rintro e w2 ⟨rfl,g2⟩
 have r2:A3 w2 w.heap.size 0 0 0:=(r1.alloc _).later g2
 have b2:Below w.heap.size w w2:=(b1.alloc b1.size _).trans (g2.mono (by simp;have:=b1.size;omega))
 clear g2 HX r1 b1
 have r3:=r2.set 0 0 0
 obtain ⟨x0,x1,x2,y0,y1,y2⟩:=r2
 obtain ⟨z0,z1,z2,_,_,_⟩:=r3
 go_wp2
 refine bodyPost_ret (v:=.tuple #[.agg #[.int .i64 0,.int .i64 0,.int .i64 0],.bool false]) (by simp [results,Tryz.results187,go_sem,z0,z1,z2]) rfl ⟨rfl,?_⟩
 exact ((b2.setCell (Nat.le_refl _) _).setCell (Nat.le_refl _) _).setCell (Nat.le_refl _) _
theorem zjn(s:ByteArray)(K N P:Int)(w:World)(hne:s.toList≠[])
  (HG:Hid (∀W,Calls Tryz.prog 220 #[.string s] W fun e w'=>e=.returned (.agg #[.int .i64 K,.int .i64 N,.int .i64 P])∧Below W.heap.size W w')) (hx:((txt K N P).toList==s.toList)=true) :
  Calls Tryz.prog 187 #[.string s] w fun e w'=>e=.returned (.tuple #[.agg #[.int .i64 K,.int .i64 N,.int .i64 P],.bool true])∧Below w.heap.size w w':=by
 have HX:Hid (∀W,Calls Tryz.prog 109 #[.agg #[.int .i64 K,.int .i64 N,.int .i64 P]] W fun e w'=>e=.returned (.string (txt K N P))∧Below W.heap.size W w'):=fun W=>zcd K N P W
 obtain ⟨X,HXX⟩:∃X,Hid (X=txt K N P):=⟨_,Eq.refl (txt K N P)⟩
 rw [←HXX.out] at HX hx
 clear HXX
 have he:(s.toList==[])=false:=by cases h:s.toList with|nil=>exact absurd h hne|cons a b=>rfl
 go_enter Tryz.func187,Tryz.ntmps187
 go_wp2_with fail
 refine (HG.out _).mono ?_
 rintro e w1 ⟨rfl,g1⟩
 have r1:A3 w1 w.heap.size 0 0 0:=(A3.fresh w 0 0 0 133).later g1
 have b1:Below w.heap.size w w1:=((Below.refl _ _).alloc (Nat.le_refl _) _).trans (g1.mono (by simp))
 have n1:w.heap.size<w1.heap.size:=r1.lt
 clear g1 HG
 go_wp2_with fail
 refine (HX.out _).mono ?_
 rintro e w2 ⟨rfl,g2⟩
 have r2:A3 w2 w.heap.size 0 0 0:=(r1.alloc _).later g2
 have a2:A3 w2 w1.heap.size K N P:=(A3.fresh w1 K N P 133).later g2
 have b2:Below w.heap.size w w2:=(b1.alloc b1.size _).trans (g2.mono (by simp;have:=b1.size;omega))
 clear g2 HX r1 b1
 have r3:=r2.set K N P
 obtain ⟨x0,x1,x2,y0,y1,y2⟩:=r2
 obtain ⟨c0,c1,c2,f0,f1,f2⟩:=a2
 obtain ⟨z0,z1,z2,_,_,_⟩:=r3
 go_wp2
 refine bodyPost_ret (v:=.tuple #[.agg #[.int .i64 K,.int .i64 N,.int .i64 P],.bool true]) (by simp [results,Tryz.results187,go_sem,z0,z1,z2]) rfl ⟨rfl,?_⟩
 exact ((b2.setCell (Nat.le_refl _) _).setCell (Nat.le_refl _) _).setCell (Nat.le_refl _) _
theorem zha(s:ByteArray)(K N P:Int)(w:World)(he:(s.toList==[])=true)
  (HG:Hid (∀W,Calls Tryz.prog 220 #[.string s] W fun e w'=>e=.returned (.agg #[.int .i64 K,.int .i64 N,.int .i64 P])∧Below W.heap.size W w')) :
  Calls Tryz.prog 187 #[.string s] w fun e w'=>e=.returned (.tuple #[.agg #[.int .i64 0,.int .i64 0,.int .i64 0],.bool false])∧Below w.heap.size w w':=by
 go_enter Tryz.func187,Tryz.ntmps187
 go_wp2_with fail
 refine (HG.out _).mono ?_
 rintro e w1 ⟨rfl,g1⟩
 have r1:A3 w1 w.heap.size 0 0 0:=(A3.fresh w 0 0 0 133).later g1
 have b1:Below w.heap.size w w1:=((Below.refl _ _).alloc (Nat.le_refl _) _).trans (g1.mono (by simp))
 clear g1 HG
 have r2:=r1.alloc (.cells #[.int .i64 K,.int .i64 N,.int .i64 P] 133)
 have b2:=b1.alloc b1.size (.cells #[.int .i64 K,.int .i64 N,.int .i64 P] 133)
 have r3:=r2.set 0 0 0
 obtain ⟨x0,x1,x2,y0,y1,y2⟩:=r2
 obtain ⟨z0,z1,z2,_,_,_⟩:=r3
 go_wp2
 refine bodyPost_ret (v:=.tuple #[.agg #[.int .i64 0,.int .i64 0,.int .i64 0],.bool false]) (by simp [results,Tryz.results187,go_sem,z0,z1,z2]) rfl ⟨rfl,?_⟩
 exact ((b2.setCell (Nat.le_refl _) _).setCell (Nat.le_refl _) _).setCell (Nat.le_refl _) _
theorem zat(l:List UInt8):(tx l).data.toList=l:=by simp [tx]
theorem zcy(l:List UInt8):(tx l).toList=l:=by rw [Lib.toList_data,zat]
theorem tx_inj{a b:List UInt8}(h:tx a=tx b):a=b:=by rw [←zat a,h,zat]
theorem tx_get(l:List UInt8)(j:Nat)(h:j<(tx l).size)(h':j<l.length):(tx l)[j]'h=l[j]'h':=rfl
def wl(i:Nat):List UInt8:=if i=0 then [110,97,110] else if i=1 then [105,110,102] else if i=2 then [45,105,110,102] else [45,48,46,48]
theorem wd_tx(i:Nat)(hi:i<4):wd i=tx (wl i):=by
 rcases c4 i hi with rfl|rfl|rfl|rfl<;>rfl
def NW(s:ByteArray):Prop:=∀i:Nat,i<4→s≠wd i
theorem nw1(b:UInt8)(r:List UInt8)(h1:b.toNat≠110)(h2:b.toNat≠105)(h3:b.toNat≠45):NW (tx (b::r)):=by
 intro i hi e
 rw [wd_tx i hi] at e
 have e1:=tx_inj e
 rcases c4 i hi with rfl|rfl|rfl|rfl
 all_goals
  have e2:=(List.cons.inj e1).1
  subst e2
  first|exact h1 rfl|exact h2 rfl|exact h3 rfl
theorem nw2(b:UInt8)(r:List UInt8)(h1:isD b)(h2:b::r≠[48,46,48]):NW (tx (45::b::r)):=by
 intro i hi e
 rw [wd_tx i hi] at e
 have e1:=tx_inj e
 rcases c4 i hi with rfl|rfl|rfl|rfl
 ·exact absurd (List.cons.inj e1).1 (by decide)
 ·exact absurd (List.cons.inj e1).1 (by decide)
 ·have e2:=(List.cons.inj (List.cons.inj e1).2).1
  subst e2
  exact absurd h1.2 (by decide)
 ·exact h2 (List.cons.inj e1).2
theorem zew(u:Nat):∃b r,decDigits u=b::r∧isD b:=by
 have h:=Lib.nDigits_pos u
 rw [←Lib.decDigits_length] at h
 cases hd:decDigits u with
 | nil=>rw [hd] at h;simp at h
 | cons b r=>exact ⟨b,r,rfl,zds u b (by rw [hd];simp)⟩
theorem zex(u p:Nat):∃b r,cutp u p=b::r∧isD b:=by
 obtain ⟨A,B,h1,h2,h3,h4⟩:=zfi u p
 cases A with
 | nil=>simp at h4
 | cons a A=>exact ⟨a,A++46::B,h1,zjm u p a (by rw [←h2];simp)⟩
theorem zij{b:UInt8}(h:isD b):b.toNat≠110∧b.toNat≠105∧b.toNat≠45∧b.toNat≠46∧ltr b.toNat=0:=by
 have h1:=h.1
 have h2:=h.2
 exact ⟨by omega,by omega,by omega,by omega,ltr_dig _ h1 h2⟩
def lc(k:Nat):UInt8:=if k=1 then 88 else if k=2 then 89 else if k=3 then 77 else if k=4 then 83 else if k=5 then 69 else if k=6 then 71 else if k=7 then 84 else if k=8 then 67 else if k=9 then 68 else 82
theorem c10(k:Nat)(h1:1≤k)(h2:k≤10):k=1∨k=2∨k=3∨k=4∨k=5∨k=6∨k=7∨k=8∨k=9∨k=10:=by omega
theorem kL_tx(k:Nat)(h1:1≤k)(h2:k≤10):kL k=tx [lc k]:=by
 rcases c10 k h1 h2 with rfl|rfl|rfl|rfl|rfl|rfl|rfl|rfl|rfl|rfl<;>rfl
theorem lc_ltr(k:Nat)(h1:1≤k)(h2:k≤10):ltr (lc k).toNat=k∧(lc k).toNat≠110∧(lc k).toNat≠105∧(lc k).toNat≠45:=by
 rcases c10 k h1 h2 with rfl|rfl|rfl|rfl|rfl|rfl|rfl|rfl|rfl|rfl<;>decide
inductive Shape:Int→Int→Int→ByteArray→Prop
 | word (i:Nat) (h:i<4):Shape 13 i 0 (wd i)
 | dev (k u:Nat) (h1:1≤k) (h2:k≤10) (h3:u≤999999999):Shape k u 0 (tx (lc k::decDigits u))
 | pos (u:Nat) (h:u≤999999999):Shape 11 u 0 (tx (decDigits u))
 | neg (u:Nat) (h0:1≤u) (h:u≤999999999):Shape 11 (-(u:Int)) 0 (tx (45::decDigits u))
 | dpos (u p:Nat) (h:u≤999999999) (hp:p≤6):Shape 12 u p (tx (cutp u p))
 | dneg (u p:Nat) (h0:1≤u) (h:u≤999999999) (hp:p≤6):Shape 12 (-(u:Int)) p (tx (45::cutp u p))
theorem zcb{k n p:Int}(h:okA k n p=true):Shape k n p (txt k n p):=by
 unfold txt
 rw [if_pos h]
 by_cases k2:k=12
 ·subst k2
  rw [if_pos rfl]
  have bd:=zif (by rw [←zem];exact h)
  obtain ⟨P,rfl⟩:=Int.eq_ofNat_of_zero_le (by omega:0≤p)
  have eP:(P:Int).toNat=P:=by omega
  by_cases hn:0≤n
  ·obtain ⟨u,rfl⟩:=Int.eq_ofNat_of_zero_le hn
   have e:decL (u:Int) (P:Int).toNat=cutp u P:=by unfold decL;rw [if_neg (by omega),eP];rfl
   rw [e]
   exact .dpos u P (by omega) (by omega)
  ·obtain ⟨u,hu⟩:=Int.eq_ofNat_of_zero_le (by omega:0≤-n)
   obtain rfl:n=-(u:Int):=by omega
   have e:decL (-(u:Int)) (P:Int).toNat=45::cutp u P:=by unfold decL;rw [if_pos (by omega),eP];simp
   rw [e]
   exact .dneg u P (by omega) (by omega) (by omega)
 rw [if_neg k2]
 have bd:=ok_bd h k2
 obtain ⟨b1,b2,rfl⟩:=bd
 by_cases k3:k=13
 ·subst k3
  rw [if_pos rfl]
  have bw:=zfh h
  obtain ⟨i,rfl⟩:=Int.eq_ofNat_of_zero_le bw.1
  exact .word i (by omega)
 rw [if_neg k3]
 by_cases k1:k=11
 ·subst k1
  rw [kL11]
  by_cases hn:0≤n
  ·obtain ⟨u,rfl⟩:=Int.eq_ofNat_of_zero_le hn
   rw [Lib.itoa_nonneg]
   exact .pos u (by omega)
  ·obtain ⟨u,hu⟩:=Int.eq_ofNat_of_zero_le (by omega:0≤-n)
   obtain rfl:n=-(u:Int):=by omega
   rw [Lib.itoa_neg u (by omega)]
   exact .neg u (by omega) (by omega)
 ·have hc:=zgf h
  obtain ⟨K,rfl⟩:=Int.eq_ofNat_of_zero_le (by omega:0≤k)
  have e:okA K n 0=decide (0≤n∧n<kS K∧(0:Int)=0):=by
   unfold okA
   rw [if_neg k2,if_neg k1,if_neg k3]
  rw [e] at h
  simp at h
  obtain ⟨u,rfl⟩:=Int.eq_ofNat_of_zero_le h.1
  rw [Lib.itoa_nonneg,kL_tx K (by omega) (by omega),zbh]
  exact .dev K u (by omega) (by omega) (by omega)
theorem Shape.ne{k n p:Int}{s:ByteArray}(h:Shape k n p s):s.toList≠[]:=by
 cases h with
 | word i h=>rw [wd_tx i h,zcy];rcases c4 i h with rfl|rfl|rfl|rfl<;>decide
 | dev k u h1 h2 h3=>rw [zcy];simp
 | pos u h=>obtain ⟨b,r,e,_⟩:=zew u;rw [zcy,e];simp
 | neg u h0 h=>rw [zcy];simp
 | dpos u p h hp=>obtain ⟨b,r,e,_⟩:=zex u p;rw [zcy,e];simp
 | dneg u p h0 h hp=>rw [zcy];simp
theorem Shape.size{k n p:Int}{s:ByteArray}(h:Shape k n p s):s.size≤1048576:=by
 have hc:∀u p,u≤999999999→p≤6→(cutp u p).length≤40:=fun u p h1 h2=>zeu u p (by omega) h2
 cases h with
 | word i h=>rw [wd_tx i h,zam];rcases c4 i h with rfl|rfl|rfl|rfl<;>decide
 | dev k u h1 h2 h3=>have:=zca u h3;rw [zam];simp;omega
 | pos u h=>have:=zca u h;rw [zam];omega
 | neg u h0 h=>have:=zca u h;rw [zam];simp;omega
 | dpos u p h hp=>have:=hc u p h hp;rw [zam];omega
 | dneg u p h0 h hp=>have:=hc u p h hp;rw [zam];simp;omega
theorem cut_ne(u p:Nat)(h0:1≤u)(h:u≤999999999):cutp u p≠[48,46,48]:=by
 intro e
 have h1:=gl_cut u p false 1 h
 rw [e] at h1
 have h2:gl false 1 11 0 0 [48,46,48]=(12,0,1):=by decide +kernel
 rw [h2] at h1
 have:=congrArg (fun x=>x.2.1) h1
 simp at this
 omega
theorem Shape.nw{k n p:Int}{s:ByteArray}(h:Shape k n p s)(hk:k≠13):NW s:=by
 cases h with
 | word i h=>exact absurd rfl hk
 | dev k u h1 h2 h3=>have:=lc_ltr k h1 h2;exact nw1 _ _ this.2.1 this.2.2.1 this.2.2.2
 | pos u h=>obtain ⟨b,r,e,hb⟩:=zew u;rw [e];have:=zij hb;exact nw1 _ _ this.1 this.2.1 this.2.2.1
 | neg u h0 h =>
  obtain ⟨b,r,e,hb⟩:=zew u
  rw [e]
  refine nw2 b r hb ?_
  intro e2
  rw [←e] at e2
  have:=zds u 46 (by rw [e2];simp)
  exact absurd this.1 (by decide)
 | dpos u p h hp=>obtain ⟨b,r,e,hb⟩:=zex u p;rw [e];have:=zij hb;exact nw1 _ _ this.1 this.2.1 this.2.2.1
 | dneg u p h0 h hp =>
  obtain ⟨b,r,e,hb⟩:=zex u p
  have:=cut_ne u p h0 h
  rw [e] at this ⊢
  exact nw2 b r hb this
theorem Shape.gI{k n p:Int}{s:ByteArray}(h:Shape k n p s)(hk:k≠13):gI s=(k,n,p):=by
 unfold YtllmabgollkigaaGreatDoor.gI
 cases h with
 | word i h=>exact absurd rfl hk
 | dev k u h1 h2 h3 =>
  have hl:=lc_ltr k h1 h2
  rw [zat,gl_ltr _ _ _ _ _ _ hl.2.2.2 (by rw [hl.1];omega),hl.1,gl_int u false 1 k h3 (by omega)]
  simp
 | pos u h=>rw [zat,gl_int u true 1 11 h (by decide)];simp
 | neg u h0 h=>rw [zat,zjh _ _ _ _ _ _ (by decide),gl_int u false (-1) 11 h (by decide)];simp
 | dpos u p h hp=>rw [zat,gl_cut u p true 1 h];simp
 | dneg u p h0 h hp=>rw [zat,zjh _ _ _ _ _ _ (by decide),gl_cut u p false (-1) h];simp
theorem zjo{k n p:Int}{s:ByteArray}(h:Shape k n p s)(w:World)(hT:Tabs w) :
  Calls Tryz.prog 245 #[.string s] w fun e w'=>e=.returned (.agg #[.int .i64 k,.int .i64 n,.int .i64 p])∧Below w.heap.size w w':=by
 by_cases hk:k=13
 ·cases h with
  | word i h=>exact zig i h w hT
  | dev k u h1 h2 h3=>omega
  | pos u h=>omega
  | neg u h0 h=>omega
  | dpos u p h hp=>omega
  | dneg u p h0 h hp=>omega
 ·have h1:=guess_any s w hT h.size (h.nw hk)
  rw [h.gI hk] at h1
  exact h1
theorem zhb(s:ByteArray)(hs:s.size≤1048576):∃G:Int×Int×Int,∀w,Tabs w→Calls Tryz.prog 245 #[.string s] w fun e w'=>e=.returned (.agg #[.int .i64 G.1,.int .i64 G.2.1,.int .i64 G.2.2])∧Below w.heap.size w w':=by
 by_cases h:NW s
 ·exact ⟨gI s,fun w hT=>guess_any s w hT hs h⟩
 ·obtain ⟨i,hi,e⟩:∃i:Nat,i<4∧s=wd i:=Classical.byContradiction fun hn=>h fun i hi e=>hn ⟨i,hi,e⟩
  subst e
  exact ⟨(13,i,0),fun w hT=>zig i hi w hT⟩
end Go.Proofs.YtllmabgollkigaaGreatDoor
namespace Go.Proofs.YtllmabgollkigaaGreatDoor
open Go.RowKit
open Go.Lib (decDigits itoa)
set_option linter.unusedVariables false
theorem nw_cmp{s:ByteArray}(h:NW s):∀i:Nat,i<4→(s.toList==(wd i).toList)=false:=by
 intro i hi
 rw [Bool.eq_false_iff]
 intro e
 have e1:=eq_of_beq e
 rw [Lib.toList_data,Lib.toList_data] at e1
 apply h i hi
 have:=zcs e1
 rw [this,Lib.mk_data]
theorem zjp(j:Nat)(hj:j<4):∀i:Nat,i<4→((wd j).toList==(wd i).toList)=decide (i=j):=by
 intro i hi
 rcases c4 i hi with rfl|rfl|rfl|rfl<;>rcases c4 j hj with rfl|rfl|rfl|rfl<;>decide +kernel
theorem zbg{s:ByteArray}(h:s.toList≠[]):0<s.size:=by
 rw [Lib.size_eq,←Lib.toList_data]
 cases hx:s.toList with
 | nil=>exact absurd hx h
 | cons a r=>simp
theorem not_empty{s:ByteArray}(h:s.toList≠[]):s.toList.isEmpty=false:=by
 cases hx:s.toList with
 | nil=>exact absurd hx h
 | cons a r=>rfl
theorem no_ltr{s:ByteArray}(h0:0<s.size)(hl:ltr (s[0]'h0).toNat=0):∀k:Nat,1≤k→k≤10→((s.extract 0 1).toList==(kL k).toList)=false:=by
 intro k h1 h2
 rw [cmpF s k h0 h1 h2,hl]
 simp
 omega
theorem first_dot(T:ByteArray):∃d,d≤T.size∧(∀j,j<d→∀h:j<T.size,(T[j]'h).toNat≠46)∧(∀h:d<T.size,(T[d]'h).toNat=46):=by
 have key:∀m,m≤T.size→(∀j,j<T.size-m→∀h:j<T.size,(T[j]'h).toNat≠46)→∃d,d≤T.size∧(∀j,j<d→∀h:j<T.size,(T[j]'h).toNat≠46)∧(∀h:d<T.size,(T[d]'h).toNat=46):=by
  intro m
  induction m with
  | zero=>intro _ h;exact ⟨T.size,Nat.le_refl _,fun j hj=>h j (by omega),fun h=>absurd h (Nat.lt_irrefl _)⟩
  | succ m ih =>
   intro hm h
   have hlt:T.size-(m+1)<T.size:=by omega
   by_cases e:(T[T.size-(m+1)]'hlt).toNat=46
   ·exact ⟨T.size-(m+1),by omega,h,fun _=>e⟩
   ·refine ih (by omega) ?_
    intro j hj hh
    by_cases ej:j=T.size-(m+1)
    ·subst ej;exact e
    ·exact h j (by omega) hh
 exact key T.size (Nat.le_refl _) (fun j hj=>by omega)
theorem ext_tail(b:UInt8)(r:List UInt8):(tx (b::r)).extract 1 (tx (b::r)).size=tx r:=by
 rw [zdz,zam]
 simp
theorem byte45(b:UInt8)(h:b.toNat=45):(((b.toNat:Nat):Int)==45)=true:=by rw [h];rfl
theorem byteN45(b:UInt8)(h:b.toNat≠45):(((b.toNat:Nat):Int)==45)=false:=by rw [beq_eq_false_iff_ne];omega
theorem zfj{s:ByteArray}(G:Int×Int×Int)(hs:s.size≤1048576)(hne:s.toList≠[])(hw:NW s)(hl:ltr (s[0]'(zbg hne)).toNat=0)(h45:(s[0]'(zbg hne)).toNat≠45)(d:Nat)(hd0:d≤s.size)
  (hno:∀j,j<d→∀h:j<s.size,(s[j]'h).toNat≠46) (hat:∀h:d<s.size,(s[d]'h).toNat=46) (hG:G=numG 1 s d) (w:World) :
  Calls Tryz.prog 220 #[.string s] w fun e w'=>e=.returned (.agg #[.int .i64 G.1,.int .i64 G.2.1,.int .i64 G.2.2])∧Below w.heap.size w w' :=
 sguess_pos s G d w hs (zbg hne) (nw_cmp hw) (no_ltr (zbg hne) hl) (not_empty hne) (byteN45 _ h45) hs hd0 hno hat hG
theorem zfk{s:ByteArray}(T:ByteArray)(G:Int×Int×Int)(hs:s.size≤1048576)(hne:s.toList≠[])(hw:NW s)(h45:(s[0]'(zbg hne)).toNat=45)(hT:s.extract 1 s.size=T)(hTs:T.size≤1048576)(d:Nat)(hd0:d≤T.size)
  (hno:∀j,j<d→∀h:j<T.size,(T[j]'h).toNat≠46) (hat:∀h:d<T.size,(T[d]'h).toNat=46) (hG:G=numG (-1) T d) (w:World) :
  Calls Tryz.prog 220 #[.string s] w fun e w'=>e=.returned (.agg #[.int .i64 G.1,.int .i64 G.2.1,.int .i64 G.2.2])∧Below w.heap.size w w' :=
 sguess_neg s T G d w hs (zbg hne) (nw_cmp hw) (no_ltr (zbg hne) (by rw [h45];rfl)) (not_empty hne) hT (byte45 _ h45) hTs hd0 hno hat hG
theorem zhc(s:ByteArray)(hs:s.size≤1048576):∃G:Int×Int×Int,∀w,Calls Tryz.prog 220 #[.string s] w fun e w'=>e=.returned (.agg #[.int .i64 G.1,.int .i64 G.2.1,.int .i64 G.2.2])∧Below w.heap.size w w':=by
 by_cases h:NW s
 ·by_cases hne:s.toList=[]
  ·obtain rfl:s=⟨#[]⟩:=by rw [Lib.toList_data] at hne;have:=zcs hne;rw [this]
   exact ⟨(11,-1,0),fun w=>sguess_empty w⟩
  ·by_cases hl:ltr (s[0]'(zbg hne)).toNat=0
   ·by_cases h45:(s[0]'(zbg hne)).toNat=45
    ·obtain ⟨d,hd0,hno,hat⟩:=first_dot (s.extract 1 s.size)
     exact ⟨numG (-1) (s.extract 1 s.size) d,fun w=>zfk (s.extract 1 s.size) _ hs hne h h45 rfl (by simp;omega) d hd0 hno hat rfl w⟩
    ·obtain ⟨d,hd0,hno,hat⟩:=first_dot s
     exact ⟨numG 1 s d,fun w=>zfj _ hs hne h hl h45 d hd0 hno hat rfl w⟩
   ·exact ⟨(_,_,0),fun w=>zii s w hs (zbg hne) hl (nw_cmp h)⟩
 ·obtain ⟨i,hi,e⟩:∃i:Nat,i<4∧s=wd i:=Classical.byContradiction fun hn=>h fun i hi e=>hn ⟨i,hi,e⟩
  subst e
  exact ⟨(13,i,0),fun w=>zgy _ i hi w (zjp i hi)⟩
theorem no_dots(l:List UInt8)(h:∀b∈l,isD b):∀j,j<l.length→∀hh:j<(tx l).size,((tx l)[j]'hh).toNat≠46:=by
 intro j hj hh
 rw [tx_get l j hh hj]
 exact (zij (h _ (List.getElem_mem hj))).2.2.2.1
theorem numG_int(sg:Int)(u:Nat)(hu:u≤999999999):numG sg (tx (decDigits u)) (decDigits u).length=(11,sg*u,0):=by
 have h1:=zca u hu
 have h2:=(dec_len u (by omega)).1
 unfold numG
 rw [zam,if_neg (Nat.lt_irrefl _),zat,zjk _ (zds u) h2 (by omega),zjl]
theorem cut_dot(u p:Nat):∃d,d<(cutp u p).length∧(∀j,j<d→∀hh:j<(tx (cutp u p)).size,((tx (cutp u p))[j]'hh).toNat≠46)∧(∀hh:d<(tx (cutp u p)).size,((tx (cutp u p))[d]'hh).toNat=46) ∧
  (cutp u p).take d++(cutp u p).drop (d+1)=pad u p∧(cutp u p).length=d+1+p:=by
 obtain ⟨A,B,h1,h2,h3,h4⟩:=zfi u p
 have hd:=zjm u p
 rw [←h2] at hd
 rw [h1]
 refine ⟨A.length,by simp,?_,?_,?_,?_⟩
 ·intro j hj hh
  have hj':j<(A++46::B).length:=by simp;omega
  rw [tx_get _ j hh hj',List.getElem_append_left hj]
  exact (zij (hd _ (by simp))).2.2.2.1
 ·intro hh
  have hj':A.length<(A++46::B).length:=by simp
  rw [tx_get _ A.length hh hj',List.getElem_append_right (Nat.le_refl _)]
  simp
 ·rw [←h2]
  simp
 ·simp
  omega
theorem numG_cut(sg:Int)(u p d:Nat)(hu:u≤999999999)(hp:p≤6)(h1:d<(cutp u p).length)(h2:(cutp u p).take d++(cutp u p).drop (d+1)=pad u p)(h3:(cutp u p).length=d+1+p) :
  numG sg (tx (cutp u p)) d=(12,sg*u,(p:Int)):=by
 have h4:=pad_len9 u p hu hp
 have h5:=zjg u p
 unfold numG
 rw [zam,if_pos h1,zat,h2,zjk _ (zjm u p) (by omega) (by omega),pad_val,h3]
 congr 2
 omega
theorem zjq{k n p:Int}{s:ByteArray}(h:Shape k n p s)(w:World) :
  Calls Tryz.prog 220 #[.string s] w fun e w'=>e=.returned (.agg #[.int .i64 k,.int .i64 n,.int .i64 p])∧Below w.heap.size w w':=by
 have hsz:=h.size
 have hne:=h.ne
 have hnw:=fun hk=>h.nw hk
 cases h with
 | word i h=>exact zgy _ i h w (zjp i h)
 | dev k u h1 h2 h3 =>
  have hl:=lc_ltr k h1 h2
  have hg:=zii (tx (lc k::decDigits u)) w hsz (zbg hne) (by show ltr (lc k).toNat≠0;rw [hl.1];omega) (nw_cmp (hnw (by omega)))
  have e0:ltr ((tx (lc k::decDigits u))[0]'(zbg hne)).toNat=k:=hl.1
  have e1:(tx (lc k::decDigits u)).data.toList.drop 1=decDigits u:=by rw [zat];rfl
  have e2:digS (decDigits u)=u:=by
   have:=zca u h3
   rw [zjk _ (zds u) (dec_len u (by omega)).1 (by omega),zjl]
  rw [e1,e2] at hg
  rw [e0] at hg
  exact hg
 | pos u h =>
  obtain ⟨b,r,e,hb⟩:=zew u
  have hi:=zij hb
  have hb0:((tx (decDigits u))[0]'(zbg hne))=b:=by
   have:∀(l:List UInt8)(hl:l=b::r)(hh:0<(tx l).size),(tx l)[0]'hh=b:=by intro l hl hh;subst hl;rfl
   exact this _ e _
  have hg:=zfj (11,(u:Int),0) hsz hne (hnw (by decide)) (by rw [hb0];exact hi.2.2.2.2) (by rw [hb0];exact hi.2.2.1) (decDigits u).length (by rw [zam];exact Nat.le_refl _) (no_dots _ (zds u)) (fun hh=>absurd hh (by rw [zam];exact Nat.lt_irrefl _)) (by rw [numG_int 1 u h];simp) w
  exact hg
 | neg u h0 h =>
  have hg:=zfk (tx (decDigits u)) (11,-(u:Int),0) hsz hne (hnw (by decide)) rfl (ext_tail 45 (decDigits u)) (by have:=zca u h;rw [zam];omega) (decDigits u).length (by rw [zam];exact Nat.le_refl _) (no_dots _ (zds u)) (fun hh=>absurd hh (by rw [zam];exact Nat.lt_irrefl _)) (by rw [numG_int (-1) u h];simp) w
  exact hg
 | dpos u p h hp =>
  obtain ⟨b,r,e,hb⟩:=zex u p
  have hi:=zij hb
  have hb0:((tx (cutp u p))[0]'(zbg hne))=b:=by
   have:∀(l:List UInt8)(hl:l=b::r)(hh:0<(tx l).size),(tx l)[0]'hh=b:=by intro l hl hh;subst hl;rfl
   exact this _ e _
  obtain ⟨d,d1,d2,d3,d4,d5⟩:=cut_dot u p
  have hg:=zfj (12,(u:Int),(p:Int)) hsz hne (hnw (by decide)) (by rw [hb0];exact hi.2.2.2.2) (by rw [hb0];exact hi.2.2.1) d (by rw [zam];omega) d2 d3 (by rw [numG_cut 1 u p d h hp d1 d4 d5];simp) w
  exact hg
 | dneg u p h0 h hp =>
  obtain ⟨d,d1,d2,d3,d4,d5⟩:=cut_dot u p
  have hg:=zfk (tx (cutp u p)) (12,-(u:Int),(p:Int)) hsz hne (hnw (by decide)) rfl (ext_tail 45 (cutp u p)) (by have:=zeu u p (by omega) hp;rw [zam];omega) d (by rw [zam];omega) d2 d3 (by rw [numG_cut (-1) u p d h hp d1 d4 d5];simp) w
  exact hg
theorem cmp_self(s:ByteArray):(s.toList==s.toList)=true:=beq_self_eq_true _
theorem cmp_ne{a b:ByteArray}(h:a≠b):(a.toList==b.toList)=false:=by
 rw [Bool.eq_false_iff]
 intro e
 have e1:=eq_of_beq e
 rw [Lib.toList_data,Lib.toList_data] at e1
 have:=zcs e1
 exact h (by rw [this,Lib.mk_data])
def NT(s:ByteArray):Prop:=∀k n p:Int,okA k n p=true→txt k n p≠s
theorem nt_ne{s:ByteArray}(h:NT s)(hne:s.toList≠[])(k n p:Int):((txt k n p).toList==s.toList)=false:=by
 apply cmp_ne
 by_cases ho:okA k n p=true
 ·exact h k n p ho
 ·intro e
  apply hne
  rw [←e]
  unfold txt
  rw [if_neg ho,Lib.toList_data]
theorem impl_dev_yes{k n p:Int}(ho:okA k n p=true)(w:World)(hT:Tabs w) :
  Calls Tryz.prog 232 #[.string (txt k n p)] w fun e w'=>e=.returned (.tuple #[.agg #[.int .i64 k,.int .i64 n,.int .i64 p],.bool true])∧Below w.heap.size w w' :=
 zji _ k n p w hT (zcb ho).ne (fun W hW=>zjo (zcb ho) W hW) (cmp_self _)
theorem impl_dev_no{s:ByteArray}(h:NT s)(hs:s.size≤1048576)(w:World)(hT:Tabs w) :
  Calls Tryz.prog 232 #[.string s] w fun e w'=>e=.returned (.tuple #[.agg #[.int .i64 0,.int .i64 0,.int .i64 0],.bool false])∧Below w.heap.size w w':=by
 obtain ⟨G,hG⟩:=zhb s hs
 by_cases hne:s.toList=[]
 ·exact zgx s G.1 G.2.1 G.2.2 w hT (by rw [hne];rfl) hG
 ·exact impl_read_no s G.1 G.2.1 G.2.2 w hT hne hG (nt_ne h hne _ _ _)
theorem spec_dev_yes{k n p:Int}(ho:okA k n p=true)(w:World) :
  Calls Tryz.prog 187 #[.string (txt k n p)] w fun e w'=>e=.returned (.tuple #[.agg #[.int .i64 k,.int .i64 n,.int .i64 p],.bool true])∧Below w.heap.size w w' :=
 zjn _ k n p w (zcb ho).ne (fun W=>zjq (zcb ho) W) (cmp_self _)
theorem spec_dev_no{s:ByteArray}(h:NT s)(hs:s.size≤1048576)(w:World) :
  Calls Tryz.prog 187 #[.string s] w fun e w'=>e=.returned (.tuple #[.agg #[.int .i64 0,.int .i64 0,.int .i64 0],.bool false])∧Below w.heap.size w w':=by
 obtain ⟨G,hG⟩:=zhc s hs
 by_cases hne:s.toList=[]
 ·exact zha s G.1 G.2.1 G.2.2 w (by rw [hne];rfl) hG
 ·exact spec_read_no s G.1 G.2.1 G.2.2 w hne hG (nt_ne h hne _ _ _)
end Go.Proofs.YtllmabgollkigaaGreatDoor
