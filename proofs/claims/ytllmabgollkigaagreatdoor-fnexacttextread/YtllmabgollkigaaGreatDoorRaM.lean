/- Reading: the signs between operands. -/
import Derived.Test.YtllmabgollkigaaGreatDoorEpM
import Derived.Test.YtllmabgollkigaaGreatDoorLx
import Derived.Test.YtllmabgollkigaaGreatDoorDvM
set_option maxHeartbeats 2000000
namespace Go.Proofs.YtllmabgollkigaaGreatDoor
open Go.RowKit Go.Shelf Go.Lib
set_option linter.unusedVariables false
def isSg(r:Nat):Bool:=r==60||r==61||r==62||r==58||r==44
theorem isSign_r(r:Nat)(w:World) :
  Calls Tryz.prog 253 #[.int .i32 r] w fun e w'=>e=.returned (.bool (isSg r))∧w'=w:=by
 have hc:r=60∨r=61∨r=62∨r=58∨r=44∨(r≠60∧r≠61∧r≠62∧r≠58∧r≠44):=by omega
 rcases hc with rfl|rfl|rfl|rfl|rfl|⟨h1,h2,h3,h4,h5⟩
 iterate 5
  ·go_enter Tryz.func253,Tryz.ntmps253
   go_wp2
   go_ret
   exact ⟨rfl,rfl⟩
 ·have e0:isSg r=false:=by simp [isSg,h1,h2,h3,h4,h5]
  rw [e0]
  have n1:((r:Int)==60)=false:=by simp;omega
  have n2:((r:Int)==61)=false:=by simp;omega
  have n3:((r:Int)==62)=false:=by simp;omega
  have n4:((r:Int)==58)=false:=by simp;omega
  have n5:((r:Int)==44)=false:=by simp;omega
  go_enter Tryz.func253,Tryz.ntmps253
  go_wp2
  go_ret
  exact ⟨rfl,rfl⟩
set_option maxRecDepth 100000 in
theorem sign_pred(w:World):PredAtRunes Tryz.prog 253 #[] isSg w:=fun W x _ _=>by
 have h:=isSign_r x W
 have e0:(#[.int .i32 (x:Int)]:Array Value)=#[encR x]++#[]:=rfl
 rw [e0] at h
 unfold FnGives
 exact h.mono fun e w' hh=>⟨hh.1,0,hh.2⟩
theorem ziw:∀args w,(callFunc 253 args).run Tryz.prog w=.ok (.enter 253 args) w:=enters_of Tryz.func253 (by kernel_rfl) rfl
theorem index_sign(s:ByteArray)(w:World) :
  Calls Tryz.prog 252 #[.string s,.func (.func 253) #[] #[]] w fun e w'=>e=.returned (.int .i64 (Lib.idxFunc isSg true s))∧Below w.heap.size w w' :=
 Any.strings_IndexFunc_runes Tryz.layX 253 #[] ziw isSg s w (sign_pred w)
theorem trim_sign(s:ByteArray)(w:World) :
  Calls Tryz.prog 254 #[.string s,.func (.func 253) #[] #[]] w fun e w'=>e=.returned (.string (Lib.trimLeftF isSg s))∧Below w.heap.size w w' :=
 Any.strings_TrimLeftFunc_runes Tryz.layT 253 #[] ziw isSg s w (sign_pred w)
def sgn(s:ByteArray):ByteArray :=
 if Lib.idxFunc isSg true s<0 then ⟨#[]⟩ else s.extract (Lib.idxFunc isSg true s).toNat (s.size-(Lib.trimLeftF isSg (s.extract (Lib.idxFunc isSg true s).toNat s.size)).size)
theorem sign_r(s:ByteArray)(w:World)(hs:s.size≤1048576) :
  Calls Tryz.prog 244 #[.string s] w fun e w'=>e=.returned (.string (sgn s))∧Below w.heap.size w w':=by
 have HI:Hid (∀W,Calls Tryz.prog 252 #[.string s,.func (.func 253) #[] #[]] W fun e w'=>e=.returned (.int .i64 (Lib.idxFunc isSg true s))∧Below W.heap.size W w'):=fun W=>index_sign s W
 have hrg:Lib.idxFunc isSg true s=-1∨((0:Int)≤Lib.idxFunc isSg true s∧Lib.idxFunc isSg true s<s.size):=Lib.idxFuncFrom_range isSg true s s.size 0
 unfold sgn
 generalize Lib.idxFunc isSg true s=I at HI hrg ⊢
 rcases hrg with rfl|⟨h0,h1⟩
 ·rw [if_pos (by omega)]
  go_enter Tryz.func244,Tryz.ntmps244
  go_wp2_with fail
  refine (HI.out _).mono ?_
  rintro e w1 ⟨rfl,g1⟩
  go_wp2
  go_ret
  exact ⟨rfl,g1⟩
 ·rw [if_neg (by omega)]
  obtain ⟨i,rfl⟩:=Int.eq_ofNat_of_zero_le h0
  simp only [Int.toNat_natCast]
  have HT:Hid (∀W,Calls Tryz.prog 254 #[.string (s.extract i s.size),.func (.func 253) #[] #[]] W fun e w'=>e=.returned (.string (Lib.trimLeftF isSg (s.extract i s.size)))∧Below W.heap.size W w'):=fun W=>trim_sign _ W
  have hsz:=trimLeftF_size isSg (s.extract i s.size)
  have hxs:(s.extract i s.size).size=s.size-i:=by rw [Lib.size_eq,Lib.extract_data,List.length_take,List.length_drop,←Lib.size_eq];omega
  rw [hxs] at hsz
  generalize Lib.trimLeftF isSg (s.extract i s.size)=T at HT hsz ⊢
  have i1:(i:Int)≤(s.size:Int)-(T.size:Int):=by omega
  have i2:(s.size:Int)-(T.size:Int)≤(s.size:Int):=by omega
  have i3:((s.size:Int)-(T.size:Int)).toNat=s.size-T.size:=by omega
  go_enter Tryz.func244,Tryz.ntmps244
  go_wp2_with fail
  refine (HI.out _).mono ?_
  rintro e w1 ⟨rfl,g1⟩
  go_wp2_with fail
  refine (HT.out _).mono ?_
  rintro e w2 ⟨rfl,g2⟩
  have b2:=g1.trans (g2.mono g1.size)
  clear g1 g2
  go_wp2
  go_ret
  exact ⟨by first|rfl|(rw [i3];rfl)|simp [i3],b2⟩
theorem RV_get(n:Nat)(hn:n<38)(j:Nat)(hj:j<8):RV[n*8+j]?=(rowV n)[j]?:=by
 have h:=RV_row n hn
 have h2:(RV.extract (n*8) (n*8+8))[j]?=(rowV n).toArray[j]?:=by rw [h]
 rw [Array.getElem?_extract,RV_size,if_pos (by omega)] at h2
 rw [h2];simp
def mtc(s:ByteArray)(n:Nat):Bool:=Lib.hasPrefix s.data.toList (ahd n).data.toList&&(decide (0<(ndP n).length)&&((sgn ⟨(Lib.trimPrefix s.data.toList (ahd n).data.toList).toArray⟩).toList==(btw n).toList))
def opF(s:ByteArray):Nat→Nat
 | 0=>0
 | n+1=>if mtc s (n+1) then n+1 else opF s n
def opOf(s:ByteArray):Nat:=opF s 37
theorem opF_zero(s:ByteArray):∀n,opF s n=0∨mtc s (opF s n)=true
 | 0=>.inl rfl
 | n+1=>by
  unfold opF
  split
  ·rename_i h;exact .inr h
  ·exact opF_zero s n
theorem trimP_size(s p:ByteArray):(⟨(Lib.trimPrefix s.data.toList p.data.toList).toArray⟩:ByteArray).size≤s.size:=by
 have:(Lib.trimPrefix s.data.toList p.data.toList).length≤s.data.toList.length:=by
  unfold Lib.trimPrefix;split<;>simp
 have e1:(⟨(Lib.trimPrefix s.data.toList p.data.toList).toArray⟩:ByteArray).size=(Lib.trimPrefix s.data.toList p.data.toList).length:=by simp only [ByteArray.size,List.size_toArray]
 have e2:s.size=s.data.toList.length:=by simp only [ByteArray.size,Array.length_toList]
 rw [e1,e2];exact this
set_option maxRecDepth 10000 in
theorem op_of(s:ByteArray)(w:World)(hs:s.size≤1048576) :
  Calls Tryz.prog 229 #[.string s] w fun e w'=>e=.returned (.int .i64 (opOf s))∧Below w.heap.size w w':=by
 have hP:Hid (∀n W,Calls Tryz.prog 243 #[.string s,.string (ahd n)] W fun e w'=>e=.returned (.tuple #[.string ⟨(Lib.trimPrefix s.data.toList (ahd n).data.toList).toArray⟩,.bool (Lib.hasPrefix s.data.toList (ahd n).data.toList)])∧w'=W):=fun n W=>Any.strings_CutPrefix Tryz.layP s (ahd n) W
 have hC:Hid (∀n W,Calls Tryz.prog 208 #[plV (ndP n)] W fun e w'=>e=.returned (.int .i64 ((ndP n).length:Int))∧Below W.heap.size W w'):=fun n W=>zgi _ (nd_ok n) W
 have hS:Hid (∀n:Int,∀W,Calls Tryz.prog 244 #[.string ⟨(Lib.trimPrefix s.data.toList (ahd n).data.toList).toArray⟩] W fun e w'=>e=.returned (.string (sgn ⟨(Lib.trimPrefix s.data.toList (ahd n).data.toList).toArray⟩))∧Below W.heap.size W w'):=fun n W=>sign_r _ W (Nat.le_trans (trimP_size s (ahd n)) hs)
 obtain ⟨OP,HOP⟩:∃OP,Hid (OP=opOf s):=⟨_,Eq.refl (opOf s)⟩
 rw [←HOP.out]
 go_enter Tryz.func229,Tryz.ntmps229
 go_wp2_with fail
 refine (rules_r _).mono ?_
 rintro e w1 ⟨rfl,g1⟩
 rename_i K1 hK1 K2 hK2
 refine hK2 _ _ ?_
 refine Go.Great.wpList_allocTo rfl (some 3) rfl (.pointer (some ⟨w1.heap.size,0,none⟩)) (.cells Tryz.zeroCells229 229) (by kernel_rfl) ?_
 refine wpList_store_row rfl _ _ _ rfl w1.heap.size RV (by kernel_rfl) (by kernel_rfl) 229 Tryz.zeroCells229 (heap_alloc_last w1 _) RV_info zero_size RV_one ?_
 rw [World.setRow_alloc_new]
 apply wpList_nil
 refine hK1 _ _ ?_
 clear hK1 hK2 K1 K2
 have bR:Below w.heap.size w (w1.alloc (.cells RV 229)):=g1.alloc g1.size _
 have hRW:(w1.alloc (.cells RV 229)).heap[w1.heap.size]?=some (.cells RV 229 (0,0)):=heap_alloc_last w1 _
 have hsz:(w1.alloc (.cells RV 229)).heap.size=w1.heap.size+1:=by simp
 generalize w1.alloc (.cells RV 229)=w2 at bR hRW hsz ⊢
 simp only [Act.put]
 go_wp2
 go_loopg [4] 37 (fun g i wr=>i=.int .i64 (g:Int)∧g≤37∧Below w2.heap.size w2 wr∧Hid (opF s g=OP))
 case atStart=>exact ⟨rfl,Nat.le_refl _,Below.refl _ _,HOP.out.symm⟩
 case round =>
  obtain ⟨rfl,hg37,hb,hop⟩:=hrel
  have hbw:Below w.heap.size w wr:=bR.trans (hb.mono bR.size)
  cases gk with
  | zero =>
   go_wp2
   go_ret
   exact ⟨by rw [←hop.out];rfl,hbw⟩
  | succ m =>
   have hRr:wr.heap[w1.heap.size]?=some (.cells RV 229 (0,0)):=(hb.block _ (by omega)).trans hRW
   obtain ⟨n,hn⟩:∃n,m+1=n:=⟨_,rfl⟩
   rw [hn] at hop hg37 ⊢
   have cc:∀j,j<8→wr.cell? ⟨w1.heap.size,n*8+j,none⟩=(rowV n)[j]?:=fun j hj=>by rw [cell_of_row _ _ _ _ _ _ hRr];exact RV_get n (by omega) j hj
   have c0:wr.cell? ⟨w1.heap.size,n*8,none⟩=some (.string (ahd n)):=cc 0 (by omega)
   have c1:wr.cell? ⟨w1.heap.size,n*8+1,none⟩=some (.string (btw n)):=cc 1 (by omega)
   have c2:wr.cell? ⟨w1.heap.size,n*8+2,none⟩=some (pv ((ndP n).getD 0 0)):=cc 2 (by omega)
   have c3:wr.cell? ⟨w1.heap.size,n*8+2+1,none⟩=some (pv ((ndP n).getD 1 0)):=cc 3 (by omega)
   have c4:wr.cell? ⟨w1.heap.size,n*8+2+2,none⟩=some (pv ((ndP n).getD 2 0)):=cc 4 (by omega)
   have i0:(0:Int)<(n:Int):=by omega
   have i1:(n:Int)<38:=by omega
   have i2:(0:Int)≤(n:Int):=by omega
   have hopn:Hid (opF s n=if mtc s n then n else opF s m):=by rw [←hn];rfl
   have HP:Hid (∀W,Calls Tryz.prog 243 #[.string s,.string (ahd n)] W fun e w'=>e=.returned (.tuple #[.string ⟨(Lib.trimPrefix s.data.toList (ahd n).data.toList).toArray⟩,.bool (Lib.hasPrefix s.data.toList (ahd n).data.toList)])∧w'=W):=fun W=>hP.out n W
   have HC:Hid (∀W,Calls Tryz.prog 208 #[.agg #[pv ((ndP n).getD 0 0),pv ((ndP n).getD 1 0),pv ((ndP n).getD 2 0)]] W fun e w'=>e=.returned (.int .i64 ((ndP n).length:Int))∧Below W.heap.size W w'):=fun W=>hC.out n W
   have HS:Hid (∀W,Calls Tryz.prog 244 #[.string ⟨(Lib.trimPrefix s.data.toList (ahd n).data.toList).toArray⟩] W fun e w'=>e=.returned (.string (sgn ⟨(Lib.trimPrefix s.data.toList (ahd n).data.toList).toArray⟩))∧Below W.heap.size W w'):=fun W=>hS.out n W
   have hmt:mtc s n=(Lib.hasPrefix s.data.toList (ahd n).data.toList&&(decide (0<(ndP n).length)&&((sgn ⟨(Lib.trimPrefix s.data.toList (ahd n).data.toList).toArray⟩).toList==(btw n).toList))):=rfl
   generalize sgn ⟨(Lib.trimPrefix s.data.toList (ahd n).data.toList).toArray⟩=G at HS hmt
   generalize (⟨(Lib.trimPrefix s.data.toList (ahd n).data.toList).toArray⟩:ByteArray)=T at HS HP
   generalize Lib.hasPrefix s.data.toList (ahd n).data.toList=bg at HP hmt
   generalize pv ((ndP n).getD 0 0)=f0 at c2 HC
   generalize pv ((ndP n).getD 1 0)=f1 at c3 HC
   generalize pv ((ndP n).getD 2 0)=f2 at c4 HC
   generalize (ndP n).length=N at HC hmt
   generalize ahd n=A at c0 HP
   generalize btw n=BT at c1 hmt
   clear hP hC hS cc
   go_wp2_with fail
   refine (HP.out _).mono ?_
   rintro e w5 ⟨rfl,rfl⟩
   have k1:=cell_regrown c1
   have k2:=cell_regrown c2
   have k3:=cell_regrown c3
   have k4:=cell_regrown c4
   have cC:∀d os,Calls Tryz.prog 208 #[.agg #[f0,f1,f2]] (Sort.grow (redrawn w5 d) os) fun e w''=>e=.returned (.int .i64 (N:Int))∧∃p:Regrown,w''=Sort.grow (redrawn w5 p.d) p.os:=fun d os=>Calls.regrown_of (HC.out _)
   have cS:∀d os,Calls Tryz.prog 244 #[.string T] (Sort.grow (redrawn w5 d) os) fun e w''=>e=.returned (.string G)∧∃p:Regrown,w''=Sort.grow (redrawn w5 p.d) p.os:=fun d os=>Calls.regrown_of (HS.out _)
   clear HP HC HS c0 c1 c2 c3 c4
   go_upto_region 6 with fail
   refine wp_region_quiet_below (by kernel_rfl) (by kernel_rfl) ?_
   cases hbg:bg with
   | false =>
    have HM:Hid (mtc s n=false):=by show mtc s n=false;rw [hmt,hbg];rfl
    clear hmt
    repeat (go_big_quiet_step (first|(go_at_call 208;exact cC _ _)|(go_at_call 244;exact cS _ _)))
    refine wpQuiet_nil ?_
    intro _ hw'
    obtain ⟨⟨dq,osq⟩,hw''⟩:=hw'
    subst hw''
    go_wp2
    go_roundg m
    case measure=>omega
    case rel=>exact ⟨by simp;omega,by omega,hb.trans ((below_regrown w5 dq osq).mono hb.size),by rw [←hop.out,hopn.out,HM.out];rfl⟩
   | true =>
    by_cases hN:0<N
    ·have hNi:(0:Int)<(N:Int):=by omega
     cases hGB:(G.toList==BT.toList) with
     | false =>
      have HM:Hid (mtc s n=false):=by show mtc s n=false;rw [hmt,hbg,hGB];simp
      clear hmt
      repeat (go_big_quiet_step (first|(go_at_call 208;exact cC _ _)|(go_at_call 244;exact cS _ _)))
      refine wpQuiet_nil ?_
      intro _ hw'
      obtain ⟨⟨dq,osq⟩,hw''⟩:=hw'
      subst hw''
      go_wp2
      go_roundg m
      case measure=>omega
      case rel=>exact ⟨by simp;omega,by omega,hb.trans ((below_regrown w5 dq osq).mono hb.size),by rw [←hop.out,hopn.out,HM.out];rfl⟩
     | true =>
      have HM:Hid (mtc s n=true):=by show mtc s n=true;rw [hmt,hbg,hGB];simp [hN]
      clear hmt
      repeat (go_big_quiet_step (first|(go_at_call 208;exact cC _ _)|(go_at_call 244;exact cS _ _)))
      refine wpQuiet_nil ?_
      intro _ hw'
      obtain ⟨⟨dq,osq⟩,hw''⟩:=hw'
      subst hw''
      go_wp2
      go_ret
      exact ⟨by rw [←hop.out,hopn.out,HM.out];rfl,hbw.trans ((below_regrown w5 dq osq).mono hbw.size)⟩
    ·have hN0:N=0:=by omega
     subst hN0
     have HM:Hid (mtc s n=false):=by show mtc s n=false;rw [hmt];simp
     clear hmt
     repeat (go_big_quiet_step (first|(go_at_call 208;exact cC _ _)|(go_at_call 244;exact cS _ _)))
     refine wpQuiet_nil ?_
     intro _ hw'
     obtain ⟨⟨dq,osq⟩,hw''⟩:=hw'
     subst hw''
     go_wp2
     go_roundg m
     case measure=>omega
     case rel=>exact ⟨by simp;omega,by omega,hb.trans ((below_regrown w5 dq osq).mono hb.size),by rw [←hop.out,hopn.out,HM.out];rfl⟩
end Go.Proofs.YtllmabgollkigaaGreatDoor
