/- ElemArity and ElemName, the program's and the specification's. -/
import Derived.Test.YtllmabgollkigaaGreatDoorDaM
import Derived.Test.YtllmabgollkigaaGreatDoorLy
import Derived.Lib.QuietBelow
import Derived.Deep.Cut
set_option maxHeartbeats 4000000
namespace Go.Proofs.YtllmabgollkigaaGreatDoor
open Go.RowKit Go.Shelf
set_option linter.unusedVariables false
theorem zey(op:Int):(op<0∨38≤op)∨∃n:Nat,n<38∧op=n:=by
 by_cases h:op<0∨38≤op
 ·exact .inl h
 ·exact .inr ⟨op.toNat,by omega,by omega⟩
def okPl(l:List Nat):Bool:=decide (l.length≤3)&&l.all fun c=>decide (1≤c)&&decide (c≤13)
theorem nd_ok(op:Int):okPl (ndP op)=true:=by
 rcases zey op with h|⟨n,hn,rfl⟩
 ·rw [(zen op h).2.2.1];rfl
 ·rcases c38 n hn with rfl|rfl|rfl|rfl|rfl|rfl|rfl|rfl|rfl|rfl|rfl|rfl|rfl|rfl|rfl|rfl|rfl|rfl|rfl|rfl|rfl|rfl|rfl|rfl|rfl|rfl|rfl|rfl|rfl|rfl|rfl|rfl|rfl|rfl|rfl|rfl|rfl|rfl
  all_goals rfl
theorem or_ok(op:Int):okPl (orP op)=true:=by
 rcases zey op with h|⟨n,hn,rfl⟩
 ·rw [(zen op h).2.2.2];rfl
 ·rcases c38 n hn with rfl|rfl|rfl|rfl|rfl|rfl|rfl|rfl|rfl|rfl|rfl|rfl|rfl|rfl|rfl|rfl|rfl|rfl|rfl|rfl|rfl|rfl|rfl|rfl|rfl|rfl|rfl|rfl|rfl|rfl|rfl|rfl|rfl|rfl|rfl|rfl|rfl|rfl
  all_goals rfl
theorem pv_fn(c:Nat)(h1:1≤c)(h2:c≤13):∃f,pv c=.func (.func f) #[] #[]:=by
 rcases pc c with h|rfl|rfl|rfl|rfl|rfl|rfl|rfl|rfl|rfl|rfl|rfl|rfl|rfl
 ·omega
 all_goals exact ⟨_,rfl⟩
def plV(l:List Nat):Value:=.agg #[pv (l.getD 0 0),pv (l.getD 1 0),pv (l.getD 2 0)]
theorem zgi(l:List Nat)(h:okPl l=true)(w:World) :
  Calls Tryz.prog 208 #[plV l] w fun e w'=>e=.returned (.int .i64 (l.length:Int))∧Below w.heap.size w w':=by
 simp only [okPl,Bool.and_eq_true,decide_eq_true_eq,List.all_eq_true] at h
 obtain ⟨h3,ha⟩:=h
 match l,h3,ha with
 | [],_,_=>exact count0 w
 | [a],_,ha =>
  obtain ⟨f,hf⟩:=pv_fn a (ha a (by simp)).1 (ha a (by simp)).2
  have:=count1 f w
  rw [←hf] at this
  exact this
 | [a,b],_,ha =>
  obtain ⟨f,hf⟩:=pv_fn a (ha a (by simp)).1 (ha a (by simp)).2
  obtain ⟨g,hg⟩:=pv_fn b (ha b (by simp)).1 (ha b (by simp)).2
  have:=count2 f g w
  rw [←hf,←hg] at this
  exact this
 | [a,b,c],_,ha =>
  obtain ⟨f,hf⟩:=pv_fn a (ha a (by simp)).1 (ha a (by simp)).2
  obtain ⟨g,hg⟩:=pv_fn b (ha b (by simp)).1 (ha b (by simp)).2
  obtain ⟨k,hk⟩:=pv_fn c (ha c (by simp)).1 (ha c (by simp)).2
  have:=count3 f g k w
  rw [←hf,←hg,←hk] at this
  exact this
 | _::_::_::_::_,h3,_=>simp at h3
theorem fieldR0(a b c d e f g h:Value)(w:World):(Instr.field 200 (.agg #[a,b,c,d,e,f,g,h]) 0).run Tryz.prog w=.ok a w:=by kernel_rfl
theorem fieldR1(a b c d e f g h:Value)(w:World):(Instr.field 200 (.agg #[a,b,c,d,e,f,g,h]) 1).run Tryz.prog w=.ok b w:=by kernel_rfl
theorem fieldR2(a b c d e f g h:Value)(w:World):(Instr.field 200 (.agg #[a,b,c,d,e,f,g,h]) 2).run Tryz.prog w=.ok (.agg #[c,d,e]) w:=by kernel_rfl
theorem fieldR3(a b c d e f g h:Value)(w:World):(Instr.field 200 (.agg #[a,b,c,d,e,f,g,h]) 3).run Tryz.prog w=.ok (.agg #[f,g,h]) w:=by kernel_rfl
attribute [go_sem] fieldR0 fieldR1 fieldR2 fieldR3
theorem impl_arity(op:Int)(w:World) :
  Calls Tryz.prog 230 #[.int .i64 op] w fun e w'=>e=.returned (.int .i64 ((ndP op).length:Int))∧Below w.heap.size w w':=by
 have HR:Hid (∀W,Calls Tryz.prog 139 #[.int .i64 op] W fun e w'=>e=.returned (.agg (rulV op))∧Below W.heap.size W w'):=fun W=>zjf op W
 have HC:Hid (∀W,Calls Tryz.prog 208 #[plV (ndP op)] W fun e w'=>e=.returned (.int .i64 ((ndP op).length:Int))∧Below W.heap.size W w'):=fun W=>zgi _ (nd_ok op) W
 unfold plV at HC
 unfold rulV at HR
 generalize (ndP op).length=N at HC ⊢
 generalize pv ((ndP op).getD 0 0)=f0 at HC HR
 generalize pv ((ndP op).getD 1 0)=f1 at HC HR
 generalize pv ((ndP op).getD 2 0)=f2 at HC HR
 generalize pv ((orP op).getD 0 0)=k0 at HR
 generalize pv ((orP op).getD 1 0)=k1 at HR
 generalize pv ((orP op).getD 2 0)=k2 at HR
 generalize ahd op=A at HR
 generalize btw op=B at HR
 go_enter Tryz.func230,Tryz.ntmps230
 go_wp2_with fail
 refine (HR.out _).mono ?_
 rintro e w1 ⟨rfl,g1⟩
 go_wp2_with fail
 refine (HC.out _).mono ?_
 rintro e w2 ⟨rfl,g2⟩
 have b2:=g1.trans (g2.mono g1.size)
 clear g1 g2
 go_wp2
 go_ret
 exact ⟨rfl,b2⟩
def arN(op:Int):Int:=((ndP op).length:Int)
theorem spec_arity(op:Int)(w:World) :
  Calls Tryz.prog 113 #[.int .i64 op] w fun e w'=>e=.returned (.int .i64 (arN op))∧w'=w:=by
 rcases zey op with h|⟨n,hn,rfl⟩
 ·have e0:arN op=0:=by unfold arN;rw [(zen op h).2.2.1];rfl
  rw [e0]
  have n1:(op==1)=false:=by simp;omega
  have n2:(op==2)=false:=by simp;omega
  have n21:(op==21)=false:=by simp;omega
  have n22:(op==22)=false:=by simp;omega
  have n23:(op==23)=false:=by simp;omega
  have n25:(op==25)=false:=by simp;omega
  have n31:(op==31)=false:=by simp;omega
  have n32:(op==32)=false:=by simp;omega
  have n33:(op==33)=false:=by simp;omega
  have n34:(op==34)=false:=by simp;omega
  have n35:(op==35)=false:=by simp;omega
  rcases h with h|h
  ·have h1:¬(1≤op):=by omega
   have h2:¬(21≤op):=by omega
   go_enter Tryz.func113,Tryz.ntmps113
   go_wp2
   go_ret
   exact ⟨rfl,rfl⟩
  ·have h1:1≤op:=by omega
   have h2:21≤op:=by omega
   have h3:¬(op≤10):=by omega
   have h4:¬(op≤37):=by omega
   go_enter Tryz.func113,Tryz.ntmps113
   go_wp2
   go_ret
   exact ⟨rfl,rfl⟩
 ·rcases c38 n hn with rfl|rfl|rfl|rfl|rfl|rfl|rfl|rfl|rfl|rfl|rfl|rfl|rfl|rfl|rfl|rfl|rfl|rfl|rfl|rfl|rfl|rfl|rfl|rfl|rfl|rfl|rfl|rfl|rfl|rfl|rfl|rfl|rfl|rfl|rfl|rfl|rfl|rfl
  all_goals
   go_enter Tryz.func113,Tryz.ntmps113
   go_wp2
   go_ret
   exact ⟨rfl,rfl⟩
def nmE(op:Int):ByteArray:=if op=21 then ⟨#[111,117,116]⟩ else if op=22 then ⟨#[115,101,116]⟩ else if op=23 then ⟨#[114,101,115,101,116]⟩ else if op=24 then ⟨#[112,117,108,115,101]⟩ else if op=25 then ⟨#[115,116,101,112]⟩ else if op=26 then ⟨#[116,105,109,101,114]⟩ else if op=27 then ⟨#[104,111,108,100]⟩ else if op=28 then ⟨#[108,97,116,101]⟩ else if op=29 then ⟨#[99,111,117,110,116]⟩ else if op=30 then ⟨#[109,111,118,101]⟩ else if op=31 then ⟨#[97,100,100]⟩ else if op=32 then ⟨#[115,117,98]⟩ else if op=33 then ⟨#[109,117,108]⟩ else if op=34 then ⟨#[100,105,118]⟩ else if op=35 then ⟨#[114,101,109]⟩ else if op=36 then ⟨#[114,101,97,108]⟩ else if op=37 then ⟨#[119,104,111,108,101]⟩ else ⟨#[]⟩
theorem nm_out(op:Int)(h:op<21∨38≤op):nmE op=⟨#[]⟩:=by unfold nmE;repeat rw [if_neg (by omega)]
theorem c17(op:Int)(h1:21≤op)(h2:op<38):op=21∨op=22∨op=23∨op=24∨op=25∨op=26∨op=27∨op=28∨op=29∨op=30∨op=31∨op=32∨op=33∨op=34∨op=35∨op=36∨op=37:=by omega
theorem spec_name(op:Int)(w:World) :
  Calls Tryz.prog 108 #[.int .i64 op] w fun e w'=>e=.returned (.string (nmE op))∧Below w.heap.size w w':=by
 by_cases h:op<21∨38≤op
 ·rw [nm_out op h]
  rcases h with h|h
  ·go_enter Tryz.func108,Tryz.ntmps108
   go_wp2
   go_ret
   exact ⟨rfl,by go_grown⟩
  ·have h1:¬(op<21):=by omega
   have h2:37<op:=by omega
   go_enter Tryz.func108,Tryz.ntmps108
   go_wp2
   go_ret
   exact ⟨rfl,by go_grown⟩
 ·rcases c17 op (by omega) (by omega) with rfl|rfl|rfl|rfl|rfl|rfl|rfl|rfl|rfl|rfl|rfl|rfl|rfl|rfl|rfl|rfl|rfl
  all_goals
   go_enter Tryz.func108,Tryz.ntmps108
   go_wp2
   go_ret
   exact ⟨rfl,by go_grown⟩
def pp(c:Nat)(x:Int×Int×Int):Bool :=
 if c=1 then okA x.1 x.2.1 x.2.2&&kB x.1 else if c=3 then okA x.1 x.2.1 x.2.2&&kW x.1 else if c=4 then okA x.1 x.2.1 x.2.2&&kR x.1
 else if c=10 then okA x.1 x.2.1 x.2.2&&[(11:Int)].contains x.1&&decide (0≤x.2.1) else if c=2 then okA x.1 x.2.1 x.2.2&&([5]:List Int).contains x.1 else if c=5 then okA x.1 x.2.1 x.2.2&&([2,3]:List Int).contains x.1 else if c=6 then okA x.1 x.2.1 x.2.2&&([2,3,4]:List Int).contains x.1 else if c=7 then okA x.1 x.2.1 x.2.2&&([2,3,4,7,8]:List Int).contains x.1 else if c=8 then okA x.1 x.2.1 x.2.2&&([4]:List Int).contains x.1 else if c=9 then okA x.1 x.2.1 x.2.2&&([7]:List Int).contains x.1 else if c=11 then okA x.1 x.2.1 x.2.2&&([8]:List Int).contains x.1 else if c=12 then okA x.1 x.2.1 x.2.2&&([9]:List Int).contains x.1 else if c=13 then okA x.1 x.2.1 x.2.2&&([10]:List Int).contains x.1 else false
theorem zei(k n p:Int)(b:Nat)(zs:List Int)(w:World)(hT:KT w)(hl:zs.length≤10)(hz:∀j z,zs[j]?=some z→w.cell? ⟨b,j,none⟩=some (.int .i64 z)) :
  Calls Tryz.prog 222 #[.agg #[.int .i64 k,.int .i64 n,.int .i64 p],.slice (some ⟨b,0,none⟩) zs.length zs.length] w fun e w'=>e=.returned (.bool (okA k n p&&zs.contains k))∧Below w.heap.size w w':=by
 have HK:Hid (∀W,KT W→Calls Tryz.prog 176 #[.agg #[.int .i64 k,.int .i64 n,.int .i64 p]] W fun e w'=>e=.returned (.bool (okA k n p))∧Below W.heap.size W w'):=fun W h=>zdr k n p W h
 have HC:Hid (∀W:World,Below w.heap.size w W→Calls Tryz.prog 235 #[.slice (some ⟨b,0,none⟩) zs.length zs.length,.int .i64 k] W fun e w'=>e=.returned (.bool (zs.contains k))∧w'=W):=by
  intro W hW
  have:=Any.slices_Contains_int Tryz.layC b 0 zs.length zs.length zs k W (Nat.le_refl _) (by omega) (fun j hj=>by
   have hh:=hz j zs[j] (List.getElem?_eq_getElem hj)
   rw [Nat.zero_add,hW.cell (p:=⟨b,j,none⟩) (World.block_lt_of_cell? _ _ hh),hh]
   simp [List.getD,List.getElem?_eq_getElem hj])
  rw [List.take_length] at this
  exact this
 generalize zs.contains k=C at HC ⊢
 generalize zs.length=m at HC ⊢ hl
 cases ho:okA k n p with
 | false =>
  rw [ho] at HK
  go_enter Tryz.func222,Tryz.ntmps222
  go_wp2_with fail
  refine (HK.out _ (hT.alloc _)).mono ?_
  rintro e w1 ⟨rfl,g1⟩
  have b1:Below w.heap.size w w1:=((Below.refl _ _).alloc (Nat.le_refl _) _).trans (g1.mono (by simp))
  clear g1
  go_wp2
  go_ret
  exact ⟨rfl,b1⟩
 | true =>
  rw [ho] at HK
  go_enter Tryz.func222,Tryz.ntmps222
  go_wp2_with fail
  refine (HK.out _ (hT.alloc _)).mono ?_
  rintro e w1 ⟨rfl,g1⟩
  have c0:w1.cell? ⟨w.heap.size,0,none⟩=some (.int .i64 k):=cell_later g1 (by simp)
  have b1:Below w.heap.size w w1:=((Below.refl _ _).alloc (Nat.le_refl _) _).trans (g1.mono (by simp))
  clear g1
  go_wp2_with fail
  refine (HC.out _ b1).mono ?_
  rintro e w2 ⟨rfl,rfl⟩
  go_wp2
  go_ret
  exact ⟨by simp,b1⟩
theorem zcl(w:World)(o:Obj)(xs:List Int)(t:TypeId):∀j x,xs[j]?=some x→((w.alloc o).alloc (.cells (xs.map (Value.int .i64)).toArray t)).cell? ⟨w.heap.size+1,j,none⟩=some (.int .i64 x):=by
 intro j x hx
 have h1:(w.alloc o).heap.size=w.heap.size+1:=by simp
 rw [←h1,cell_of_row _ _ j _ t (0,0) (heap_alloc_last (w.alloc o) _)]
 simp [hx]
theorem isOut_r(k n p:Int)(w:World)(hT:KT w) :
  Calls Tryz.prog 199 #[.agg #[.int .i64 k,.int .i64 n,.int .i64 p]] w fun e w'=>e=.returned (.bool (okA k n p&&([2,3]:List Int).contains k))∧Below w.heap.size w w':=by
 have HI:Hid (∀W,KT W→(∀j z,([2,3]:List Int)[j]?=some z→W.cell? ⟨w.heap.size+1,j,none⟩=some (.int .i64 z))→Calls Tryz.prog 222 #[.agg #[.int .i64 k,.int .i64 n,.int .i64 p],.slice (some ⟨w.heap.size+1,0,none⟩) 2 2] W fun e w'=>e=.returned (.bool (okA k n p&&([2,3]:List Int).contains k))∧Below W.heap.size W w') :=
  fun W h hz=>zei k n p (w.heap.size+1) [2,3] W h (by simp) hz
 generalize (okA k n p&&([2,3]:List Int).contains k)=C at HI ⊢
 go_enter Tryz.func199,Tryz.ntmps199
 go_wp2_with fail
 refine (HI.out _ ((hT.alloc _).alloc _) (zcl w _ [2,3] _)).mono ?_
 rintro e w1 ⟨rfl,g1⟩
 have b1:Below w.heap.size w w1:=(((Below.refl _ _).alloc (Nat.le_refl _) _).alloc (by simp) _).trans (g1.mono (by simp;omega))
 clear g1
 go_wp2
 go_ret
 exact ⟨rfl,b1⟩
theorem isSet_r(k n p:Int)(w:World)(hT:KT w) :
  Calls Tryz.prog 200 #[.agg #[.int .i64 k,.int .i64 n,.int .i64 p]] w fun e w'=>e=.returned (.bool (okA k n p&&([2,3,4]:List Int).contains k))∧Below w.heap.size w w':=by
 have HI:Hid (∀W,KT W→(∀j z,([2,3,4]:List Int)[j]?=some z→W.cell? ⟨w.heap.size+1,j,none⟩=some (.int .i64 z))→Calls Tryz.prog 222 #[.agg #[.int .i64 k,.int .i64 n,.int .i64 p],.slice (some ⟨w.heap.size+1,0,none⟩) 3 3] W fun e w'=>e=.returned (.bool (okA k n p&&([2,3,4]:List Int).contains k))∧Below W.heap.size W w') :=
  fun W h hz=>zei k n p (w.heap.size+1) [2,3,4] W h (by simp) hz
 generalize (okA k n p&&([2,3,4]:List Int).contains k)=C at HI ⊢
 go_enter Tryz.func200,Tryz.ntmps200
 go_wp2_with fail
 refine (HI.out _ ((hT.alloc _).alloc _) (zcl w _ [2,3,4] _)).mono ?_
 rintro e w1 ⟨rfl,g1⟩
 have b1:Below w.heap.size w w1:=(((Below.refl _ _).alloc (Nat.le_refl _) _).alloc (by simp) _).trans (g1.mono (by simp;omega))
 clear g1
 go_wp2
 go_ret
 exact ⟨rfl,b1⟩
theorem isReset_r(k n p:Int)(w:World)(hT:KT w) :
  Calls Tryz.prog 201 #[.agg #[.int .i64 k,.int .i64 n,.int .i64 p]] w fun e w'=>e=.returned (.bool (okA k n p&&([2,3,4,7,8]:List Int).contains k))∧Below w.heap.size w w':=by
 have HI:Hid (∀W,KT W→(∀j z,([2,3,4,7,8]:List Int)[j]?=some z→W.cell? ⟨w.heap.size+1,j,none⟩=some (.int .i64 z))→Calls Tryz.prog 222 #[.agg #[.int .i64 k,.int .i64 n,.int .i64 p],.slice (some ⟨w.heap.size+1,0,none⟩) 5 5] W fun e w'=>e=.returned (.bool (okA k n p&&([2,3,4,7,8]:List Int).contains k))∧Below W.heap.size W w') :=
  fun W h hz=>zei k n p (w.heap.size+1) [2,3,4,7,8] W h (by simp) hz
 generalize (okA k n p&&([2,3,4,7,8]:List Int).contains k)=C at HI ⊢
 go_enter Tryz.func201,Tryz.ntmps201
 go_wp2_with fail
 refine (HI.out _ ((hT.alloc _).alloc _) (zcl w _ [2,3,4,7,8] _)).mono ?_
 rintro e w1 ⟨rfl,g1⟩
 have b1:Below w.heap.size w w1:=(((Below.refl _ _).alloc (Nat.le_refl _) _).alloc (by simp) _).trans (g1.mono (by simp;omega))
 clear g1
 go_wp2
 go_ret
 exact ⟨rfl,b1⟩
theorem isStep_r(k n p:Int)(w:World)(hT:KT w) :
  Calls Tryz.prog 202 #[.agg #[.int .i64 k,.int .i64 n,.int .i64 p]] w fun e w'=>e=.returned (.bool (okA k n p&&([4]:List Int).contains k))∧Below w.heap.size w w':=by
 have HI:Hid (∀W,KT W→(∀j z,([4]:List Int)[j]?=some z→W.cell? ⟨w.heap.size+1,j,none⟩=some (.int .i64 z))→Calls Tryz.prog 222 #[.agg #[.int .i64 k,.int .i64 n,.int .i64 p],.slice (some ⟨w.heap.size+1,0,none⟩) 1 1] W fun e w'=>e=.returned (.bool (okA k n p&&([4]:List Int).contains k))∧Below W.heap.size W w') :=
  fun W h hz=>zei k n p (w.heap.size+1) [4] W h (by simp) hz
 generalize (okA k n p&&([4]:List Int).contains k)=C at HI ⊢
 go_enter Tryz.func202,Tryz.ntmps202
 go_wp2_with fail
 refine (HI.out _ ((hT.alloc _).alloc _) (zcl w _ [4] _)).mono ?_
 rintro e w1 ⟨rfl,g1⟩
 have b1:Below w.heap.size w w1:=(((Below.refl _ _).alloc (Nat.le_refl _) _).alloc (by simp) _).trans (g1.mono (by simp;omega))
 clear g1
 go_wp2
 go_ret
 exact ⟨rfl,b1⟩
theorem isTimer_r(k n p:Int)(w:World)(hT:KT w) :
  Calls Tryz.prog 203 #[.agg #[.int .i64 k,.int .i64 n,.int .i64 p]] w fun e w'=>e=.returned (.bool (okA k n p&&([7]:List Int).contains k))∧Below w.heap.size w w':=by
 have HI:Hid (∀W,KT W→(∀j z,([7]:List Int)[j]?=some z→W.cell? ⟨w.heap.size+1,j,none⟩=some (.int .i64 z))→Calls Tryz.prog 222 #[.agg #[.int .i64 k,.int .i64 n,.int .i64 p],.slice (some ⟨w.heap.size+1,0,none⟩) 1 1] W fun e w'=>e=.returned (.bool (okA k n p&&([7]:List Int).contains k))∧Below W.heap.size W w') :=
  fun W h hz=>zei k n p (w.heap.size+1) [7] W h (by simp) hz
 generalize (okA k n p&&([7]:List Int).contains k)=C at HI ⊢
 go_enter Tryz.func203,Tryz.ntmps203
 go_wp2_with fail
 refine (HI.out _ ((hT.alloc _).alloc _) (zcl w _ [7] _)).mono ?_
 rintro e w1 ⟨rfl,g1⟩
 have b1:Below w.heap.size w w1:=(((Below.refl _ _).alloc (Nat.le_refl _) _).alloc (by simp) _).trans (g1.mono (by simp;omega))
 clear g1
 go_wp2
 go_ret
 exact ⟨rfl,b1⟩
theorem isCounter_r(k n p:Int)(w:World)(hT:KT w) :
  Calls Tryz.prog 205 #[.agg #[.int .i64 k,.int .i64 n,.int .i64 p]] w fun e w'=>e=.returned (.bool (okA k n p&&([8]:List Int).contains k))∧Below w.heap.size w w':=by
 have HI:Hid (∀W,KT W→(∀j z,([8]:List Int)[j]?=some z→W.cell? ⟨w.heap.size+1,j,none⟩=some (.int .i64 z))→Calls Tryz.prog 222 #[.agg #[.int .i64 k,.int .i64 n,.int .i64 p],.slice (some ⟨w.heap.size+1,0,none⟩) 1 1] W fun e w'=>e=.returned (.bool (okA k n p&&([8]:List Int).contains k))∧Below W.heap.size W w') :=
  fun W h hz=>zei k n p (w.heap.size+1) [8] W h (by simp) hz
 generalize (okA k n p&&([8]:List Int).contains k)=C at HI ⊢
 go_enter Tryz.func205,Tryz.ntmps205
 go_wp2_with fail
 refine (HI.out _ ((hT.alloc _).alloc _) (zcl w _ [8] _)).mono ?_
 rintro e w1 ⟨rfl,g1⟩
 have b1:Below w.heap.size w w1:=(((Below.refl _ _).alloc (Nat.le_refl _) _).alloc (by simp) _).trans (g1.mono (by simp;omega))
 clear g1
 go_wp2
 go_ret
 exact ⟨rfl,b1⟩
theorem isWholeReg_r(k n p:Int)(w:World)(hT:KT w) :
  Calls Tryz.prog 206 #[.agg #[.int .i64 k,.int .i64 n,.int .i64 p]] w fun e w'=>e=.returned (.bool (okA k n p&&([9]:List Int).contains k))∧Below w.heap.size w w':=by
 have HI:Hid (∀W,KT W→(∀j z,([9]:List Int)[j]?=some z→W.cell? ⟨w.heap.size+1,j,none⟩=some (.int .i64 z))→Calls Tryz.prog 222 #[.agg #[.int .i64 k,.int .i64 n,.int .i64 p],.slice (some ⟨w.heap.size+1,0,none⟩) 1 1] W fun e w'=>e=.returned (.bool (okA k n p&&([9]:List Int).contains k))∧Below W.heap.size W w') :=
  fun W h hz=>zei k n p (w.heap.size+1) [9] W h (by simp) hz
 generalize (okA k n p&&([9]:List Int).contains k)=C at HI ⊢
 go_enter Tryz.func206,Tryz.ntmps206
 go_wp2_with fail
 refine (HI.out _ ((hT.alloc _).alloc _) (zcl w _ [9] _)).mono ?_
 rintro e w1 ⟨rfl,g1⟩
 have b1:Below w.heap.size w w1:=(((Below.refl _ _).alloc (Nat.le_refl _) _).alloc (by simp) _).trans (g1.mono (by simp;omega))
 clear g1
 go_wp2
 go_ret
 exact ⟨rfl,b1⟩
theorem isRealReg_r(k n p:Int)(w:World)(hT:KT w) :
  Calls Tryz.prog 207 #[.agg #[.int .i64 k,.int .i64 n,.int .i64 p]] w fun e w'=>e=.returned (.bool (okA k n p&&([10]:List Int).contains k))∧Below w.heap.size w w':=by
 have HI:Hid (∀W,KT W→(∀j z,([10]:List Int)[j]?=some z→W.cell? ⟨w.heap.size+1,j,none⟩=some (.int .i64 z))→Calls Tryz.prog 222 #[.agg #[.int .i64 k,.int .i64 n,.int .i64 p],.slice (some ⟨w.heap.size+1,0,none⟩) 1 1] W fun e w'=>e=.returned (.bool (okA k n p&&([10]:List Int).contains k))∧Below W.heap.size W w') :=
  fun W h hz=>zei k n p (w.heap.size+1) [10] W h (by simp) hz
 generalize (okA k n p&&([10]:List Int).contains k)=C at HI ⊢
 go_enter Tryz.func207,Tryz.ntmps207
 go_wp2_with fail
 refine (HI.out _ ((hT.alloc _).alloc _) (zcl w _ [10] _)).mono ?_
 rintro e w1 ⟨rfl,g1⟩
 have b1:Below w.heap.size w w1:=(((Below.refl _ _).alloc (Nat.le_refl _) _).alloc (by simp) _).trans (g1.mono (by simp;omega))
 clear g1
 go_wp2
 go_ret
 exact ⟨rfl,b1⟩
theorem isPast_r(k n p:Int)(w:World)(hT:KT w) :
  Calls Tryz.prog 196 #[.agg #[.int .i64 k,.int .i64 n,.int .i64 p]] w fun e w'=>e=.returned (.bool (okA k n p&&([5]:List Int).contains k))∧Below w.heap.size w w':=by
 have HI:Hid (∀W,KT W→(∀j z,([5]:List Int)[j]?=some z→W.cell? ⟨w.heap.size+1,j,none⟩=some (.int .i64 z))→Calls Tryz.prog 222 #[.agg #[.int .i64 k,.int .i64 n,.int .i64 p],.slice (some ⟨w.heap.size+1,0,none⟩) 1 1] W fun e w'=>e=.returned (.bool (okA k n p&&([5]:List Int).contains k))∧Below W.heap.size W w') :=
  fun W h hz=>zei k n p (w.heap.size+1) [5] W h (by simp) hz
 generalize (okA k n p&&([5]:List Int).contains k)=C at HI ⊢
 go_enter Tryz.func196,Tryz.ntmps196
 go_wp2_with fail
 refine (HI.out _ ((hT.alloc _).alloc _) (zcl w _ [5] _)).mono ?_
 rintro e w1 ⟨rfl,g1⟩
 have b1:Below w.heap.size w w1:=(((Below.refl _ _).alloc (Nat.le_refl _) _).alloc (by simp) _).trans (g1.mono (by simp;omega))
 clear g1
 go_wp2
 go_ret
 exact ⟨rfl,b1⟩
theorem isPreset_r(k n p:Int)(w:World)(hT:KT w) :
  Calls Tryz.prog 204 #[.agg #[.int .i64 k,.int .i64 n,.int .i64 p]] w fun e w'=>e=.returned (.bool (okA k n p&&([11]:List Int).contains k&&decide (0≤n)))∧Below w.heap.size w w':=by
 have HI:Hid (∀W,KT W→(∀j z,([11]:List Int)[j]?=some z→W.cell? ⟨w.heap.size+1,j,none⟩=some (.int .i64 z))→Calls Tryz.prog 222 #[.agg #[.int .i64 k,.int .i64 n,.int .i64 p],.slice (some ⟨w.heap.size+1,0,none⟩) 1 1] W fun e w'=>e=.returned (.bool (okA k n p&&([11]:List Int).contains k))∧Below W.heap.size W w') :=
  fun W h hz=>zei k n p (w.heap.size+1) [11] W h (by simp) hz
 generalize (okA k n p&&([11]:List Int).contains k)=C at HI ⊢
 cases C with
 | false =>
  go_enter Tryz.func204,Tryz.ntmps204
  go_wp2_with fail
  refine (HI.out _ ((hT.alloc _).alloc _) (zcl w _ [11] _)).mono ?_
  rintro e w1 ⟨rfl,g1⟩
  have b1:Below w.heap.size w w1:=(((Below.refl _ _).alloc (Nat.le_refl _) _).alloc (by simp) _).trans (g1.mono (by simp;omega))
  clear g1
  go_wp2
  go_ret
  exact ⟨by simp,b1⟩
 | true =>
  go_enter Tryz.func204,Tryz.ntmps204
  go_wp2_with fail
  refine (HI.out _ ((hT.alloc _).alloc _) (zcl w _ [11] _)).mono ?_
  rintro e w1 ⟨rfl,g1⟩
  have c1:w1.cell? ⟨w.heap.size,1,none⟩=some (.int .i64 n):=cell_later g1 (by simp)
  have b1:Below w.heap.size w w1:=(((Below.refl _ _).alloc (Nat.le_refl _) _).alloc (by simp) _).trans (g1.mono (by simp;omega))
  clear g1
  go_wp2
  go_ret
  exact ⟨by simp,b1⟩
theorem place_r(c:Nat)(h1:1≤c)(h2:c≤13):∃f,pv c=.func (.func f) #[] #[]∧(∀args W,(callFunc f args).run Tryz.prog W=.ok (.enter f args) W)∧∀(k n p:Int)(w:World),KT w→Calls Tryz.prog f #[.agg #[.int .i64 k,.int .i64 n,.int .i64 p]] w fun e w'=>e=.returned (.bool (pp c (k,n,p)))∧Below w.heap.size w w':=by
 rcases pc c with h|rfl|rfl|rfl|rfl|rfl|rfl|rfl|rfl|rfl|rfl|rfl|rfl|rfl
 ·omega
 ·exact ⟨_,rfl,enters_of Tryz.func195 (by kernel_rfl) rfl,fun k n p w hT=>impl_isbit k n p w hT⟩
 ·exact ⟨_,rfl,enters_of Tryz.func196 (by kernel_rfl) rfl,fun k n p w hT=>isPast_r k n p w hT⟩
 ·exact ⟨_,rfl,enters_of Tryz.func197 (by kernel_rfl) rfl,fun k n p w hT=>impl_iswhole k n p w hT⟩
 ·exact ⟨_,rfl,enters_of Tryz.func198 (by kernel_rfl) rfl,fun k n p w hT=>impl_isreal k n p w hT⟩
 ·exact ⟨_,rfl,enters_of Tryz.func199 (by kernel_rfl) rfl,fun k n p w hT=>isOut_r k n p w hT⟩
 ·exact ⟨_,rfl,enters_of Tryz.func200 (by kernel_rfl) rfl,fun k n p w hT=>isSet_r k n p w hT⟩
 ·exact ⟨_,rfl,enters_of Tryz.func201 (by kernel_rfl) rfl,fun k n p w hT=>isReset_r k n p w hT⟩
 ·exact ⟨_,rfl,enters_of Tryz.func202 (by kernel_rfl) rfl,fun k n p w hT=>isStep_r k n p w hT⟩
 ·exact ⟨_,rfl,enters_of Tryz.func203 (by kernel_rfl) rfl,fun k n p w hT=>isTimer_r k n p w hT⟩
 ·exact ⟨_,rfl,enters_of Tryz.func204 (by kernel_rfl) rfl,fun k n p w hT=>isPreset_r k n p w hT⟩
 ·exact ⟨_,rfl,enters_of Tryz.func205 (by kernel_rfl) rfl,fun k n p w hT=>isCounter_r k n p w hT⟩
 ·exact ⟨_,rfl,enters_of Tryz.func206 (by kernel_rfl) rfl,fun k n p w hT=>isWholeReg_r k n p w hT⟩
 ·exact ⟨_,rfl,enters_of Tryz.func207 (by kernel_rfl) rfl,fun k n p w hT=>isRealReg_r k n p w hT⟩
abbrev Arg:=Int×Int×Int
def Ops(w:World)(b o:Nat)(xs:List Arg):Prop :=
 ∀j x,xs[j]?=some x→w.cell? ⟨b,o+j*3,none⟩=some (.int .i64 x.1)∧w.cell? ⟨b,o+j*3+1,none⟩=some (.int .i64 x.2.1)∧w.cell? ⟨b,o+j*3+2,none⟩=some (.int .i64 x.2.2)
theorem Ops.below{w w':World}{b o:Nat}{xs:List Arg}(h:Ops w b o xs){B:Nat}(hB:b<B)(g:Below B w w'):Ops w' b o xs:=fun j x hx=>by
 have:=h j x hx
 refine ⟨?_,?_,?_⟩
 ·exact (g.cell (p:=⟨b,o+j*3,none⟩) hB).trans this.1
 ·exact (g.cell (p:=⟨b,o+j*3+1,none⟩) hB).trans this.2.1
 ·exact (g.cell (p:=⟨b,o+j*3+2,none⟩) hB).trans this.2.2
theorem Ops.lt{w:World}{b o:Nat}{xs:List Arg}(h:Ops w b o xs)(hne:xs≠[]):b<w.heap.size:=by
 match xs,hne with
 | x::_,_=>exact World.block_lt_of_cell? _ _ (h 0 x rfl).1
theorem Ops.later{w w':World}{b o:Nat}{xs:List Arg}(h:Ops w b o xs)(g:Below w.heap.size w w'):Ops w' b o xs:=by
 match xs,h with
 | [],_=>intro j x hx;simp at hx
 | x::r,h=>exact h.below (h.lt (by simp)) g
set_option maxRecDepth 10000 in
theorem take_run(V0 V1 V2:Value)(m:Nat)(hm1:1≤m)(hm3:m≤3)(F:Nat→Nat)(X:Nat→Arg)(Pr:Nat→Bool)(b o cap:Nat)(w:World)(hT:KT w)
  (hV:∀n,n<m→#[V0,V1,V2][n]?=some (.func (.func (F n)) #[] #[]))
  (hX:∀n,n<m→w.cell? ⟨b,o+n*3,none⟩=some (.int .i64 (X n).1)∧w.cell? ⟨b,o+n*3+1,none⟩=some (.int .i64 (X n).2.1)∧w.cell? ⟨b,o+n*3+2,none⟩=some (.int .i64 (X n).2.2))
  (hE:∀n,n<m→∀args W,(callFunc (F n) args).run Tryz.prog W=.ok (.enter (F n) args) W)
  (hF:Hid (∀n,n<m→∀W,KT W→Calls Tryz.prog (F n) #[.agg #[.int .i64 (X n).1,.int .i64 (X n).2.1,.int .i64 (X n).2.2]] W fun e w'=>e=.returned (.bool (Pr n))∧Below W.heap.size W w'))
  (hcnt:Hid (∀W,Calls Tryz.prog 208 #[.agg #[V0,V1,V2]] W fun e w'=>e=.returned (.int .i64 m)∧Below W.heap.size W w')) :
  Calls Tryz.prog 175 #[.agg #[V0,V1,V2],.slice (some ⟨b,o,none⟩) m cap] w fun e w'=>e=.returned (.bool ((List.range m).all Pr))∧Below w.heap.size w w':=by
 have m0:((m:Int)==0)=false:=by simp;omega
 obtain ⟨R,HR⟩:∃R,Hid (R=(List.range m).all Pr):=⟨_,Eq.refl ((List.range m).all Pr)⟩
 rw [←HR.out]
 go_enter Tryz.func175,Tryz.ntmps175
 go_wp2_with fail
 refine (hcnt.out _).mono ?_
 rintro e w1 ⟨rfl,g1⟩
 go_wp2
 go_loopg [19] m (fun g i wr=>∃n:Nat,n+g=m∧i=.int .i64 n∧Below (w.heap.size+1) (w.alloc (.cells #[V0,V1,V2] 198)) wr∧∀j,j<n→Pr j=true)
 case atStart=>exact ⟨0,by omega,rfl,by simpa using g1,fun j hj=>by omega⟩
 case round =>
  obtain ⟨n,hn,rfl,hb,hp⟩:=hrel
  have hbw:Below w.heap.size w wr:=((Below.refl _ _).alloc (Nat.le_refl _) _).trans (hb.mono (by simp))
  by_cases hlt:n<m
  ·have bl:b<w.heap.size:=World.block_lt_of_cell? _ _ (hX 0 (by omega)).1
   have x0:wr.cell? ⟨b,o+n*3,none⟩=some (.int .i64 (X n).1):=(hbw.cell (p:=⟨b,o+n*3,none⟩) bl).trans (hX n hlt).1
   have x1:wr.cell? ⟨b,o+n*3+1,none⟩=some (.int .i64 (X n).2.1):=(hbw.cell (p:=⟨b,o+n*3+1,none⟩) bl).trans (hX n hlt).2.1
   have x2:wr.cell? ⟨b,o+n*3+2,none⟩=some (.int .i64 (X n).2.2):=(hbw.cell (p:=⟨b,o+n*3+2,none⟩) bl).trans (hX n hlt).2.2
   have fc:wr.cell? ⟨w.heap.size,n,none⟩=some (.func (.func (F n)) #[] #[]):=by
    rw [hb.cell (p:=⟨w.heap.size,n,none⟩) (by show w.heap.size<w.heap.size+1;omega),cell_of_row _ _ n _ 198 (0,0) (heap_alloc_last w _)]
    exact hV n hlt
   have HFn:Hid (∀W,KT W→Calls Tryz.prog (F n) #[.agg #[.int .i64 (X n).1,.int .i64 (X n).2.1,.int .i64 (X n).2.2]] W fun e w'=>e=.returned (.bool (Pr n))∧Below W.heap.size W w'):=fun W h=>hF.out n hlt W h
   have kt:=hT.later hbw
   have sz:=hbw.size
   have i1:(n:Int)<(m:Int):=by omega
   have i2:(n:Int)<3:=by omega
   have i3:(0:Int)≤(n:Int):=by omega
   generalize hA:(X n).1=A1 at x0 HFn
   generalize hB:(X n).2.1=A2 at x1 HFn
   generalize hC:(X n).2.2=A3 at x2 HFn
   have en:=hE n hlt
   generalize hFF:F n=f at fc HFn en
   clear hX hV hF hE hcnt g1 hA hB hC hFF
   go_upto_region 6 with fail
   have sz2:w.heap.size<wr.heap.size:=by have:=hb.size;simp at this;omega
   have kf:=cell_regrown (w:=wr.alloc (.cells #[.int .i64 A1,.int .i64 A2,.int .i64 A3] 133)) (a:=⟨w.heap.size,n,none⟩) ((World.cell?_alloc_past _ _ _ sz2).trans fc)
   have ka0:=cell_regrown (w:=wr.alloc (.cells #[.int .i64 A1,.int .i64 A2,.int .i64 A3] 133)) (a:=⟨wr.heap.size,0,none⟩) (v:=.int .i64 A1) (by simp)
   have ka1:=cell_regrown (w:=wr.alloc (.cells #[.int .i64 A1,.int .i64 A2,.int .i64 A3] 133)) (a:=⟨wr.heap.size,1,none⟩) (v:=.int .i64 A2) (by simp)
   have ka2:=cell_regrown (w:=wr.alloc (.cells #[.int .i64 A1,.int .i64 A2,.int .i64 A3] 133)) (a:=⟨wr.heap.size,2,none⟩) (v:=.int .i64 A3) (by simp)
   have cF:∀d os,Calls Tryz.prog f #[.agg #[.int .i64 A1,.int .i64 A2,.int .i64 A3]] (Sort.grow (redrawn (wr.alloc (.cells #[.int .i64 A1,.int .i64 A2,.int .i64 A3] 133)) d) os) fun e w''=>e=.returned (.bool (Pr n))∧∃p:Regrown,w''=Sort.grow (redrawn (wr.alloc (.cells #[.int .i64 A1,.int .i64 A2,.int .i64 A3] 133)) p.d) p.os :=
    fun d os=>Calls.regrown_of (HFn.out _ ((kt.alloc _).later (below_regrown _ d os)))
   have hb2:Below (w.heap.size+1) (w.alloc (.cells #[V0,V1,V2] 198)) (wr.alloc (.cells #[.int .i64 A1,.int .i64 A2,.int .i64 A3] 133)):=hb.alloc (by simpa using hb.size) _
   clear HFn kt x0 x1 x2 fc
   refine wp_region_quiet_below (by kernel_rfl) (by kernel_rfl) ?_
   cases hq:Pr n with
   | true =>
    rw [hq] at cF
    repeat (go_big_quiet_step (first|exact cF _ _))
    refine wpQuiet_nil ?_
    intro _ hw'
    obtain ⟨⟨dq,osq⟩,hw''⟩:=hw'
    subst hw''
    go_wp2
    go_roundg (gk-1)
    case measure=>omega
    case rel =>
     refine ⟨n+1,by omega,by simp,hb2.trans ((below_regrown _ dq osq).mono (by simp;omega)),?_⟩
     intro j hj
     by_cases hjn:j=n
     ·rw [hjn];exact hq
     ·exact hp j (by omega)
   | false =>
    rw [hq] at cF
    repeat (go_big_quiet_step (first|exact cF _ _))
    refine wpQuiet_nil ?_
    intro _ hw'
    obtain ⟨⟨dq,osq⟩,hw''⟩:=hw'
    subst hw''
    go_wp2
    go_ret
    refine ⟨?_,(hbw.alloc hbw.size _).trans ((below_regrown _ dq osq).mono (by simp;omega))⟩
    rw [HR.out,show (List.range m).all Pr=false from by
     rw [List.all_eq_false]
     exact ⟨n,List.mem_range.2 hlt,by rw [hq];simp⟩]
    rfl
  ·have i1:¬((n:Int)<(m:Int)):=by omega
   have ea:(List.range m).all Pr=true:=by
    rw [List.all_eq_true]
    intro j hj
    exact hp j (by have:=List.mem_range.1 hj;omega)
   go_wp2
   go_ret
   exact ⟨by rw [HR.out,ea];rfl,hbw⟩
def tk(l:List Nat)(xs:List Arg):Bool:=!xs.isEmpty&&decide (xs.length=l.length)&&(List.range xs.length).all fun n=>pp (l.getD n 0) (xs.getD n (0,0,0))
def Sl(w:World)(a:Option Addr)(xs:List Arg):Prop:=xs=[]∨∃b o,a=some ⟨b,o,none⟩∧Ops w b o xs
theorem Sl.later{w w':World}{a:Option Addr}{xs:List Arg}(h:Sl w a xs)(g:Below w.heap.size w w'):Sl w' a xs:=by
 rcases h with h|⟨b,o,h1,h2⟩
 ·exact .inl h
 ·exact .inr ⟨b,o,h1,h2.later g⟩
set_option maxRecDepth 10000 in
theorem take_no(V0 V1 V2:Value)(m len cap:Nat)(a:Option Addr)(w:World)(hne:len=0∨len≠m)
  (hcnt:Hid (∀W,Calls Tryz.prog 208 #[.agg #[V0,V1,V2]] W fun e w'=>e=.returned (.int .i64 m)∧Below W.heap.size W w')) :
  Calls Tryz.prog 175 #[.agg #[V0,V1,V2],.slice a len cap] w fun e w'=>e=.returned (.bool false)∧Below w.heap.size w w':=by
 by_cases h0:len=0
 ·subst h0
  go_enter Tryz.func175,Tryz.ntmps175
  go_wp2
  go_ret
  exact ⟨rfl,by go_grown⟩
 ·have m0:((len:Int)==0)=false:=by simp;omega
  have m1:((len:Int)==(m:Int))=false:=by simp;omega
  go_enter Tryz.func175,Tryz.ntmps175
  go_wp2_with fail
  refine (hcnt.out _).mono ?_
  rintro e w1 ⟨rfl,g1⟩
  have b1:Below w.heap.size w w1:=((Below.refl _ _).alloc (Nat.le_refl _) _).trans (g1.mono (by simp))
  clear g1
  go_wp2
  go_ret
  exact ⟨rfl,b1⟩
theorem take_of(l:List Nat)(h:okPl l=true)(a:Option Addr)(xs:List Arg)(len cap:Nat)(hlen:len=xs.length)(w:World)(hT:KT w)(hx:Sl w a xs) :
  Calls Tryz.prog 175 #[plV l,.slice a len cap] w fun e w'=>e=.returned (.bool (tk l xs))∧Below w.heap.size w w':=by
 subst hlen
 by_cases hne:xs.length=0∨xs.length≠l.length
 ·have e0:tk l xs=false:=by
   unfold tk
   rcases hne with h0|h0
   ·have:xs=[]:=List.length_eq_zero_iff.1 h0
    subst this;rfl
   ·simp [h0]
  rw [e0]
  exact take_no _ _ _ l.length xs.length cap a w hne (fun W=>zgi l h W)
 ·have h1:1≤xs.length:=by omega
  have h2:xs.length=l.length:=by omega
  have h':=h
  simp only [okPl,Bool.and_eq_true,decide_eq_true_eq,List.all_eq_true] at h'
  obtain ⟨h3,ha⟩:=h'
  rcases hx with rfl|⟨b,o,rfl,hx⟩
  ·simp at h1
  have e0:tk l xs=(List.range xs.length).all fun n=>pp (l.getD n 0) (xs.getD n (0,0,0)):=by
   have:xs.isEmpty=false:=by cases xs with|nil=>simp at h1|cons=>rfl
   simp [tk,h2,this]
  rw [e0]
  have key:∀n,∃f,n<xs.length→(pv (l.getD n 0)=.func (.func f) #[] #[]∧(∀args W,(callFunc f args).run Tryz.prog W=.ok (.enter f args) W)∧∀(k n' p:Int)(w:World),KT w→Calls Tryz.prog f #[.agg #[.int .i64 k,.int .i64 n',.int .i64 p]] w fun e w'=>e=.returned (.bool (pp (l.getD n 0) (k,n',p)))∧Below w.heap.size w w'):=by
   intro n
   by_cases hn:n<xs.length
   ·have hm:l.getD n 0∈l:=by
     rw [List.getD_eq_getElem?_getD,List.getElem?_eq_getElem (by omega)]
     exact List.getElem_mem _
    obtain ⟨f,q⟩:=place_r (l.getD n 0) (ha _ hm).1 (ha _ hm).2
    exact ⟨f,fun _=>q⟩
   ·exact ⟨0,fun h=>absurd h hn⟩
  obtain ⟨F,hF⟩:=Classical.axiomOfChoice key
  have hl3:xs.length≤3:=by omega
  refine take_run (pv (l.getD 0 0)) (pv (l.getD 1 0)) (pv (l.getD 2 0)) xs.length h1 hl3 F (fun n=>xs.getD n (0,0,0)) _ b o cap w hT ?_ ?_ (fun n hn=>(hF n hn).2.1) ?_ ?_
  ·intro n hn
   rw [←(hF n hn).1]
   have:n=0∨n=1∨n=2:=by omega
   rcases this with rfl|rfl|rfl<;>rfl
  ·intro n hn
   refine hx n _ ?_
   rw [List.getD_eq_getElem?_getD,List.getElem?_eq_getElem hn];rfl
  ·intro n hn W hW
   exact (hF n hn).2.2 _ _ _ W hW
  ·intro W
   rw [h2]
   exact zgi l h W
def rtk(op:Int)(xs:List Arg):Bool:=tk (ndP op) xs||tk (orP op) xs
set_option maxRecDepth 10000 in
theorem rule_take_run(A B V0 V1 V2 U0 U1 U2:Value)(r1 r2:Bool)(a:Option Addr)(len cap:Nat)(w:World)
  (h1:Hid (∀W,Below w.heap.size w W→Calls Tryz.prog 175 #[.agg #[V0,V1,V2],.slice a len cap] W fun e w'=>e=.returned (.bool r1)∧Below W.heap.size W w'))
  (h2:Hid (∀W,Below w.heap.size w W→Calls Tryz.prog 175 #[.agg #[U0,U1,U2],.slice a len cap] W fun e w'=>e=.returned (.bool r2)∧Below W.heap.size W w')) :
  Calls Tryz.prog 140 #[.agg #[A,B,V0,V1,V2,U0,U1,U2],.slice a len cap] w fun e w'=>e=.returned (.bool (r1||r2))∧Below w.heap.size w w':=by
 cases r1 with
 | true =>
  go_enter Tryz.func140,Tryz.ntmps140
  go_wp2_with fail
  refine (h1.out _ ((Below.refl _ _).alloc (Nat.le_refl _) _)).mono ?_
  rintro e w1 ⟨rfl,g1⟩
  have b1:Below w.heap.size w w1:=((Below.refl _ _).alloc (Nat.le_refl _) _).trans (g1.mono (by simp))
  clear g1
  go_wp2
  go_ret
  exact ⟨by simp,b1⟩
 | false =>
  go_enter Tryz.func140,Tryz.ntmps140
  go_wp2_with fail
  refine (h1.out _ ((Below.refl _ _).alloc (Nat.le_refl _) _)).mono ?_
  rintro e w1 ⟨rfl,g1⟩
  have c5:w1.cell? ⟨w.heap.size,5,none⟩=some U0:=cell_later g1 (by simp)
  have c6:w1.cell? ⟨w.heap.size,6,none⟩=some U1:=cell_later g1 (by simp)
  have c7:w1.cell? ⟨w.heap.size,7,none⟩=some U2:=cell_later g1 (by simp)
  have b1:Below w.heap.size w w1:=((Below.refl _ _).alloc (Nat.le_refl _) _).trans (g1.mono (by simp))
  clear g1
  go_wp2_with fail
  refine (h2.out _ b1).mono ?_
  rintro e w2 ⟨rfl,g2⟩
  have b2:=b1.trans (g2.mono b1.size)
  clear g2
  go_wp2
  go_ret
  exact ⟨by simp,b2⟩
theorem zhd(op:Int)(a:Option Addr)(xs:List Arg)(len cap:Nat)(hlen:len=xs.length)(w:World)(hT:KT w)(hx:Sl w a xs) :
  Calls Tryz.prog 140 #[.agg (rulV op),.slice a len cap] w fun e w'=>e=.returned (.bool (rtk op xs))∧Below w.heap.size w w' :=
 rule_take_run _ _ _ _ _ _ _ _ _ _ a len cap w (fun W h=>take_of (ndP op) (nd_ok op) a xs len cap hlen W (hT.later h) (hx.later h)) (fun W h=>take_of (orP op) (or_ok op) a xs len cap hlen W (hT.later h) (hx.later h))
set_option maxRecDepth 10000 in
theorem zez(op:Int)(RV0:Array Value)(r:Bool)(a:Option Addr)(len cap:Nat)(w:World)
  (hR:Hid (∀W,Below w.heap.size w W→Calls Tryz.prog 139 #[.int .i64 op] W fun e w'=>e=.returned (.agg RV0)∧Below W.heap.size W w'))
  (hX:Hid (∀W,Below w.heap.size w W→Calls Tryz.prog 140 #[.agg RV0,.slice a len cap] W fun e w'=>e=.returned (.bool r)∧Below W.heap.size W w')) :
  Calls Tryz.prog 185 #[.agg #[.int .i64 op,.slice a len cap]] w fun e w'=>e=.returned (.bool (decide (op≤10)&&r))∧Below w.heap.size w w':=by
 have hb0:Below w.heap.size w (w.alloc (.cells #[.int .i64 op,.slice a len cap] 50)):=(Below.refl _ _).alloc (Nat.le_refl _) _
 have k0:=cell_regrown (w:=(w.alloc (.cells #[.int .i64 op,.slice a len cap] 50))) (a:=⟨w.heap.size,0,none⟩) (v:=.int .i64 op) (by simp)
 have k1:=cell_regrown (w:=(w.alloc (.cells #[.int .i64 op,.slice a len cap] 50))) (a:=⟨w.heap.size,1,none⟩) (v:=.slice a len cap) (by simp)
 have cR:∀d os,Calls Tryz.prog 139 #[.int .i64 op] (Sort.grow (redrawn (w.alloc (.cells #[.int .i64 op,.slice a len cap] 50)) d) os) fun e w''=>e=.returned (.agg RV0)∧∃p:Regrown,w''=Sort.grow (redrawn (w.alloc (.cells #[.int .i64 op,.slice a len cap] 50)) p.d) p.os :=
  fun d os=>Calls.regrown_of (hR.out _ (hb0.trans ((below_regrown _ d os).mono hb0.size)))
 have cX:∀d os,Calls Tryz.prog 140 #[.agg RV0,.slice a len cap] (Sort.grow (redrawn (w.alloc (.cells #[.int .i64 op,.slice a len cap] 50)) d) os) fun e w''=>e=.returned (.bool r)∧∃p:Regrown,w''=Sort.grow (redrawn (w.alloc (.cells #[.int .i64 op,.slice a len cap] 50)) p.d) p.os :=
  fun d os=>Calls.regrown_of (hX.out _ (hb0.trans ((below_regrown _ d os).mono hb0.size)))
 clear hR hX
 by_cases hg:op≤10
 ·have ed:decide (op≤10)=true:=by simpa using hg
  rw [ed,Bool.true_and]
  go_enter Tryz.func185,Tryz.ntmps185
  go_upto_region 1 with fail
  refine wp_region_quiet_below (by kernel_rfl) (by kernel_rfl) ?_
  repeat (go_big_quiet_step (first|exact cR _ _|exact cX _ _))
  refine wpQuiet_nil ?_
  intro _ hw'
  obtain ⟨⟨dq,osq⟩,hw''⟩:=hw'
  subst hw''
  go_wp2
  go_ret
  exact ⟨rfl,hb0.trans ((below_regrown _ dq osq).mono hb0.size)⟩
 ·have ed:decide (op≤10)=false:=by simpa using hg
  rw [ed,Bool.false_and]
  go_enter Tryz.func185,Tryz.ntmps185
  go_upto_region 1 with fail
  refine wp_region_quiet_below (by kernel_rfl) (by kernel_rfl) ?_
  repeat (go_big_quiet_step (first|exact cR _ _|exact cX _ _))
  refine wpQuiet_nil ?_
  intro _ hw'
  obtain ⟨⟨dq,osq⟩,hw''⟩:=hw'
  subst hw''
  go_wp2
  go_ret
  exact ⟨rfl,hb0.trans ((below_regrown _ dq osq).mono hb0.size)⟩
theorem zej(op:Int)(a:Option Addr)(xs:List Arg)(len cap:Nat)(hlen:len=xs.length)(w:World)(hT:KT w)(hx:Sl w a xs) :
  Calls Tryz.prog 185 #[.agg #[.int .i64 op,.slice a len cap]] w fun e w'=>e=.returned (.bool (decide (op≤10)&&rtk op xs))∧Below w.heap.size w w' :=
 zez op (rulV op) _ a len cap w (fun W _=>zjf op W) (fun W h=>zhd op a xs len cap hlen W (hT.later h) (hx.later h))
set_option maxRecDepth 10000 in
theorem zhe(op:Int)(RV0:Array Value)(r:Bool)(a:Option Addr)(len cap:Nat)(w:World)
  (hR:Hid (∀W,Below w.heap.size w W→Calls Tryz.prog 139 #[.int .i64 op] W fun e w'=>e=.returned (.agg RV0)∧Below W.heap.size W w'))
  (hX:Hid (∀W,Below w.heap.size w W→Calls Tryz.prog 140 #[.agg RV0,.slice a len cap] W fun e w'=>e=.returned (.bool r)∧Below W.heap.size W w')) :
  Calls Tryz.prog 156 #[.agg #[.int .i64 op,.slice a len cap]] w fun e w'=>e=.returned (.bool (decide (21≤op)&&r))∧Below w.heap.size w w':=by
 have hb0:Below w.heap.size w (w.alloc (.cells #[.int .i64 op,.slice a len cap] 50)):=(Below.refl _ _).alloc (Nat.le_refl _) _
 have k0:=cell_regrown (w:=(w.alloc (.cells #[.int .i64 op,.slice a len cap] 50))) (a:=⟨w.heap.size,0,none⟩) (v:=.int .i64 op) (by simp)
 have k1:=cell_regrown (w:=(w.alloc (.cells #[.int .i64 op,.slice a len cap] 50))) (a:=⟨w.heap.size,1,none⟩) (v:=.slice a len cap) (by simp)
 have cR:∀d os,Calls Tryz.prog 139 #[.int .i64 op] (Sort.grow (redrawn (w.alloc (.cells #[.int .i64 op,.slice a len cap] 50)) d) os) fun e w''=>e=.returned (.agg RV0)∧∃p:Regrown,w''=Sort.grow (redrawn (w.alloc (.cells #[.int .i64 op,.slice a len cap] 50)) p.d) p.os :=
  fun d os=>Calls.regrown_of (hR.out _ (hb0.trans ((below_regrown _ d os).mono hb0.size)))
 have cX:∀d os,Calls Tryz.prog 140 #[.agg RV0,.slice a len cap] (Sort.grow (redrawn (w.alloc (.cells #[.int .i64 op,.slice a len cap] 50)) d) os) fun e w''=>e=.returned (.bool r)∧∃p:Regrown,w''=Sort.grow (redrawn (w.alloc (.cells #[.int .i64 op,.slice a len cap] 50)) p.d) p.os :=
  fun d os=>Calls.regrown_of (hX.out _ (hb0.trans ((below_regrown _ d os).mono hb0.size)))
 clear hR hX
 by_cases hg:21≤op
 ·have ed:decide (21≤op)=true:=by simpa using hg
  rw [ed,Bool.true_and]
  go_enter Tryz.func156,Tryz.ntmps156
  go_upto_region 1 with fail
  refine wp_region_quiet_below (by kernel_rfl) (by kernel_rfl) ?_
  repeat (go_big_quiet_step (first|exact cR _ _|exact cX _ _))
  refine wpQuiet_nil ?_
  intro _ hw'
  obtain ⟨⟨dq,osq⟩,hw''⟩:=hw'
  subst hw''
  go_wp2
  go_ret
  exact ⟨rfl,hb0.trans ((below_regrown _ dq osq).mono hb0.size)⟩
 ·have ed:decide (21≤op)=false:=by simpa using hg
  rw [ed,Bool.false_and]
  go_enter Tryz.func156,Tryz.ntmps156
  go_upto_region 1 with fail
  refine wp_region_quiet_below (by kernel_rfl) (by kernel_rfl) ?_
  repeat (go_big_quiet_step (first|exact cR _ _|exact cX _ _))
  refine wpQuiet_nil ?_
  intro _ hw'
  obtain ⟨⟨dq,osq⟩,hw''⟩:=hw'
  subst hw''
  go_wp2
  go_ret
  exact ⟨rfl,hb0.trans ((below_regrown _ dq osq).mono hb0.size)⟩
theorem zhf(op:Int)(a:Option Addr)(xs:List Arg)(len cap:Nat)(hlen:len=xs.length)(w:World)(hT:KT w)(hx:Sl w a xs) :
  Calls Tryz.prog 156 #[.agg #[.int .i64 op,.slice a len cap]] w fun e w'=>e=.returned (.bool (decide (21≤op)&&rtk op xs))∧Below w.heap.size w w' :=
 zhe op (rulV op) _ a len cap w (fun W _=>zjf op W) (fun W h=>zhd op a xs len cap hlen W (hT.later h) (hx.later h))
theorem ar_or(op:Int):orP op=[]∨(orP op).length=(ndP op).length:=by
 rcases zey op with h|⟨n,hn,rfl⟩
 ·exact .inl (zen op h).2.2.2
 ·rcases c38 n hn with rfl|rfl|rfl|rfl|rfl|rfl|rfl|rfl|rfl|rfl|rfl|rfl|rfl|rfl|rfl|rfl|rfl|rfl|rfl|rfl|rfl|rfl|rfl|rfl|rfl|rfl|rfl|rfl|rfl|rfl|rfl|rfl|rfl|rfl|rfl|rfl|rfl|rfl
  all_goals first|exact .inl rfl|exact .inr rfl
theorem zhg{op:Int}{xs:List Arg}(h:rtk op xs=true):(xs.length:Int)=arN op∧xs≠[]:=by
 unfold rtk tk at h
 simp only [Bool.or_eq_true,Bool.and_eq_true,decide_eq_true_eq] at h
 unfold arN
 rcases h with ⟨⟨h1,h2⟩,_⟩|⟨⟨h1,h2⟩,_⟩
 ·exact ⟨by omega,fun e=>by subst e;simp at h1⟩
 ·refine ⟨?_,fun e=>by subst e;simp at h1⟩
  rcases ar_or op with e|e
  ·rw [e] at h2
   have:=List.length_eq_zero_iff.1 h2
   subst this;simp at h1
  ·omega
theorem rtk_no{op:Int}{xs:List Arg}(h:(xs.length:Int)≠arN op):rtk op xs=false:=by
 cases hr:rtk op xs with
 | false=>rfl
 | true=>exact absurd (zhg hr).1 h
theorem nd_none(op:Int)(h:ndP op=[])(xs:List Arg):rtk op xs=false:=by
 cases hr:rtk op xs with
 | false=>rfl
 | true =>
  obtain ⟨h1,h2⟩:=zhg hr
  unfold arN at h1
  rw [h] at h1
  exact absurd (List.length_eq_zero_iff.1 (by simpa using h1)) h2
theorem zdk(op:Int)(W:World):Calls Tryz.prog 113 #[.int .i64 op] W fun e w'=>e=.returned (.int .i64 (arN op))∧Below W.heap.size W w' :=
 (spec_arity op W).mono fun e w' ⟨h1,h2⟩=>⟨h1,by rw [h2];exact Below.refl _ _⟩
set_option maxRecDepth 10000 in
theorem scontact_no(op N:Int)(a:Option Addr)(len cap:Nat)(w:World)(h:op<1∨10<op∨(len:Int)≠N)
  (hA:Hid (∀W,Calls Tryz.prog 113 #[.int .i64 op] W fun e w'=>e=.returned (.int .i64 N)∧Below W.heap.size W w')) :
  Calls Tryz.prog 110 #[.agg #[.int .i64 op,.slice a len cap]] w fun e w'=>e=.returned (.bool false)∧Below w.heap.size w w':=by
 have hb0:Below w.heap.size w (w.alloc (.cells #[.int .i64 op,.slice a len cap] 50)):=(Below.refl _ _).alloc (Nat.le_refl _) _
 have k0:=cell_regrown (w:=w.alloc (.cells #[.int .i64 op,.slice a len cap] 50)) (a:=⟨w.heap.size,0,none⟩) (v:=.int .i64 op) (by simp)
 have k1:=cell_regrown (w:=w.alloc (.cells #[.int .i64 op,.slice a len cap] 50)) (a:=⟨w.heap.size,1,none⟩) (v:=.slice a len cap) (by simp)
 have cA:∀d os,Calls Tryz.prog 113 #[.int .i64 op] (Sort.grow (redrawn (w.alloc (.cells #[.int .i64 op,.slice a len cap] 50)) d) os) fun e w''=>e=.returned (.int .i64 N)∧∃p:Regrown,w''=Sort.grow (redrawn (w.alloc (.cells #[.int .i64 op,.slice a len cap] 50)) p.d) p.os :=
  fun d os=>Calls.regrown_of (hA.out _)
 clear hA
 by_cases h1:op<1
 ·clear h
  go_enter Tryz.func110,Tryz.ntmps110
  go_upto_region 1 with fail
  refine wp_region_quiet_below (by kernel_rfl) (by kernel_rfl) ?_
  repeat (go_big_quiet_step (first|exact cA _ _))
  refine wpQuiet_nil ?_
  intro _ hw'
  obtain ⟨⟨dq,osq⟩,hw''⟩:=hw'
  subst hw''
  go_wp2
  go_ret
  exact ⟨rfl,hb0.trans ((below_regrown _ dq osq).mono hb0.size)⟩
 ·by_cases h2:10<op
  ·clear h
   go_enter Tryz.func110,Tryz.ntmps110
   go_upto_region 1 with fail
   refine wp_region_quiet_below (by kernel_rfl) (by kernel_rfl) ?_
   repeat (go_big_quiet_step (first|exact cA _ _))
   refine wpQuiet_nil ?_
   intro _ hw'
   obtain ⟨⟨dq,osq⟩,hw''⟩:=hw'
   subst hw''
   go_wp2
   go_ret
   exact ⟨rfl,hb0.trans ((below_regrown _ dq osq).mono hb0.size)⟩
  ·have h3:((len:Int)==N)=false:=by rw [beq_eq_false_iff_ne];omega
   clear h
   go_enter Tryz.func110,Tryz.ntmps110
   go_upto_region 1 with fail
   refine wp_region_quiet_below (by kernel_rfl) (by kernel_rfl) ?_
   repeat (go_big_quiet_step (first|exact cA _ _))
   refine wpQuiet_nil ?_
   intro _ hw'
   obtain ⟨⟨dq,osq⟩,hw''⟩:=hw'
   subst hw''
   go_wp2
   go_ret
   exact ⟨rfl,hb0.trans ((below_regrown _ dq osq).mono hb0.size)⟩
set_option maxRecDepth 10000 in
theorem scontact1(op k n p:Int)(r:Bool)(b o cap:Nat)(w:World)(ho1:1≤op)(ho2:op≤2)(hx:Ops w b o [(k,n,p)])
  (hA:Hid (∀W,Calls Tryz.prog 113 #[.int .i64 op] W fun e w'=>e=.returned (.int .i64 1)∧Below W.heap.size W w'))
  (hB:Hid (∀W,Calls Tryz.prog 148 #[.agg #[.int .i64 k,.int .i64 n,.int .i64 p]] W fun e w'=>e=.returned (.bool r)∧Below W.heap.size W w')) :
  Calls Tryz.prog 110 #[.agg #[.int .i64 op,.slice (some ⟨b,o,none⟩) 1 cap]] w fun e w'=>e=.returned (.bool r)∧Below w.heap.size w w':=by
 have hb0:Below w.heap.size w (w.alloc (.cells #[.int .i64 op,.slice (some ⟨b,o,none⟩) 1 cap] 50)):=(Below.refl _ _).alloc (Nat.le_refl _) _
 have k0:=cell_regrown (w:=w.alloc (.cells #[.int .i64 op,.slice (some ⟨b,o,none⟩) 1 cap] 50)) (a:=⟨w.heap.size,0,none⟩) (v:=.int .i64 op) (by simp)
 have k1:=cell_regrown (w:=w.alloc (.cells #[.int .i64 op,.slice (some ⟨b,o,none⟩) 1 cap] 50)) (a:=⟨w.heap.size,1,none⟩) (v:=.slice (some ⟨b,o,none⟩) 1 cap) (by simp)
 have cA:∀d os,Calls Tryz.prog 113 #[.int .i64 op] (Sort.grow (redrawn (w.alloc (.cells #[.int .i64 op,.slice (some ⟨b,o,none⟩) 1 cap] 50)) d) os) fun e w''=>e=.returned (.int .i64 1)∧∃p:Regrown,w''=Sort.grow (redrawn (w.alloc (.cells #[.int .i64 op,.slice (some ⟨b,o,none⟩) 1 cap] 50)) p.d) p.os :=
  fun d os=>Calls.regrown_of (hA.out _)
 clear hA
 have h1:¬(op<1):=by omega
 have h2:¬(10<op):=by omega
 go_enter Tryz.func110,Tryz.ntmps110
 go_upto_region 1 with fail
 refine wp_region_quiet_below (by kernel_rfl) (by kernel_rfl) ?_
 repeat (go_big_quiet_step (first|exact cA _ _))
 refine wpQuiet_nil ?_
 intro _ hw'
 obtain ⟨⟨dq,osq⟩,hw''⟩:=hw'
 subst hw''
 have e0:=k0 dq osq
 have e1:=k1 dq osq
 have hb1:=hb0.trans ((below_regrown (w.alloc (.cells #[.int .i64 op,.slice (some ⟨b,o,none⟩) 1 cap] 50)) dq osq).mono hb0.size)
 have hx1:=hx.later hb1
 dsimp only at e0 e1 hb1 hx1 ⊢
 generalize Sort.grow (redrawn (w.alloc (.cells #[.int .i64 op,.slice (some ⟨b,o,none⟩) 1 cap] 50)) dq) osq=w2 at e0 e1 hb1 hx1 ⊢
 clear cA k0 k1 hb0 hx
 have x0:=(hx1 0 _ rfl).1
 have x1:=(hx1 0 _ rfl).2.1
 have x2:=(hx1 0 _ rfl).2.2
 simp only [Nat.zero_mul,Nat.add_zero] at x0 x1 x2
 go_wp2_with fail
 refine (hB.out _).mono ?_
 rintro e w3 ⟨rfl,g3⟩
 have b3:=hb1.trans (g3.mono hb1.size)
 clear g3
 go_wp2
 go_ret
 exact ⟨rfl,b3⟩
set_option maxRecDepth 10000 in
theorem scontact2(op k n p k1 n1 p1:Int)(r0 r1:Bool)(b o cap:Nat)(w:World)(ho1:3≤op)(ho2:op≤4)(ho3:¬ op≤2)(hx:Ops w b o [(k,n,p),(k1,n1,p1)])
  (hA:Hid (∀W,Calls Tryz.prog 113 #[.int .i64 op] W fun e w'=>e=.returned (.int .i64 2)∧Below W.heap.size W w'))
  (h0:Hid (∀W,Calls Tryz.prog 148 #[.agg #[.int .i64 k,.int .i64 n,.int .i64 p]] W fun e w'=>e=.returned (.bool r0)∧Below W.heap.size W w'))
  (h1:Hid (∀W,Calls Tryz.prog 143 #[.agg #[.int .i64 k1,.int .i64 n1,.int .i64 p1]] W fun e w'=>e=.returned (.bool r1)∧Below W.heap.size W w')) :
  Calls Tryz.prog 110 #[.agg #[.int .i64 op,.slice (some ⟨b,o,none⟩) 2 cap]] w fun e w'=>e=.returned (.bool (r0&&(r1&&(k1==5))))∧Below w.heap.size w w':=by
 have hb0:Below w.heap.size w (w.alloc (.cells #[.int .i64 op,.slice (some ⟨b,o,none⟩) 2 cap] 50)):=(Below.refl _ _).alloc (Nat.le_refl _) _
 have k0:=cell_regrown (w:=(w.alloc (.cells #[.int .i64 op,.slice (some ⟨b,o,none⟩) 2 cap] 50))) (a:=⟨w.heap.size,0,none⟩) (v:=.int .i64 op) (by simp)
 have k1:=cell_regrown (w:=(w.alloc (.cells #[.int .i64 op,.slice (some ⟨b,o,none⟩) 2 cap] 50))) (a:=⟨w.heap.size,1,none⟩) (v:=.slice (some ⟨b,o,none⟩) 2 cap) (by simp)
 have cA:∀d os,Calls Tryz.prog 113 #[.int .i64 op] (Sort.grow (redrawn (w.alloc (.cells #[.int .i64 op,.slice (some ⟨b,o,none⟩) 2 cap] 50)) d) os) fun e w''=>e=.returned (.int .i64 2)∧∃p:Regrown,w''=Sort.grow (redrawn (w.alloc (.cells #[.int .i64 op,.slice (some ⟨b,o,none⟩) 2 cap] 50)) p.d) p.os :=
  fun d os=>Calls.regrown_of (hA.out _)
 clear hA
 have h_1:¬(op<1):=by omega
 have h_2:¬(10<op):=by omega
 go_enter Tryz.func110,Tryz.ntmps110
 go_upto_region 1 with fail
 refine wp_region_quiet_below (by kernel_rfl) (by kernel_rfl) ?_
 repeat (go_big_quiet_step (first|exact cA _ _))
 refine wpQuiet_nil ?_
 intro _ hw'
 obtain ⟨⟨dq,osq⟩,hw''⟩:=hw'
 subst hw''
 have e0:=k0 dq osq
 have e1:=k1 dq osq
 have hb1:=hb0.trans ((below_regrown (w.alloc (.cells #[.int .i64 op,.slice (some ⟨b,o,none⟩) 2 cap] 50)) dq osq).mono hb0.size)
 have hx1:=hx.later hb1
 have lt1:w.heap.size<(Sort.grow (redrawn (w.alloc (.cells #[.int .i64 op,.slice (some ⟨b,o,none⟩) 2 cap] 50)) dq) osq).heap.size:=World.block_lt_of_cell? _ _ e0
 dsimp only at e0 e1 hb1 hx1 lt1 ⊢
 generalize Sort.grow (redrawn (w.alloc (.cells #[.int .i64 op,.slice (some ⟨b,o,none⟩) 2 cap] 50)) dq) osq=w2 at e0 e1 hb1 hx1 lt1 ⊢
 clear cA k0 k1 hb0 hx
 have lt2:b<w2.heap.size:=hx1.lt (by simp)
 have x00:=(hx1 0 _ rfl).1
 have x01:=(hx1 0 _ rfl).2.1
 have x02:=(hx1 0 _ rfl).2.2
 have x10:=(hx1 1 _ rfl).1
 have x11:=(hx1 1 _ rfl).2.1
 have x12:=(hx1 1 _ rfl).2.2
 simp only [Nat.zero_mul,Nat.add_zero,Nat.one_mul,Nat.add_assoc,Nat.reduceAdd] at x00 x01 x02 x10 x11 x12
 go_wp2_with fail
 refine (h0.out _).mono ?_
 rintro e w3 ⟨rfl,g3⟩
 have D3:Below w2.heap.size w2 w3:=g3
 have z3e0:=cell_later D3 e0
 have z3e1:=cell_later D3 e1
 have z3x00:=cell_later D3 x00
 have z3x01:=cell_later D3 x01
 have z3x02:=cell_later D3 x02
 have z3x10:=cell_later D3 x10
 have z3x11:=cell_later D3 x11
 have z3x12:=cell_later D3 x12
 clear g3
 cases r0 with
 | true =>
  go_wp2_with fail
  refine (h1.out _).mono ?_
  rintro e w4 ⟨rfl,g4⟩
  have D4:Below w2.heap.size w2 w4:=D3.trans (g4.mono D3.size)
  have z4e0:=cell_later D4 e0
  have z4e1:=cell_later D4 e1
  have z4x00:=cell_later D4 x00
  have z4x01:=cell_later D4 x01
  have z4x02:=cell_later D4 x02
  have z4x10:=cell_later D4 x10
  have z4x11:=cell_later D4 x11
  have z4x12:=cell_later D4 x12
  clear g4
  cases r1 with
  | true =>
   go_wp2
   go_ret
   exact ⟨by simp,hb1.trans (D4.mono hb1.size)⟩
  | false =>
   go_wp2
   go_ret
   exact ⟨by simp,hb1.trans (D4.mono hb1.size)⟩
 | false =>
  go_wp2
  go_ret
  exact ⟨by simp,hb1.trans (D3.mono hb1.size)⟩
set_option maxRecDepth 10000 in
theorem zcz(op k n p k1 n1 p1:Int)(r0 r1 r2 r3:Bool)(b o cap:Nat)(w:World)(ho1:5≤op)(ho2:op≤10)(ho3:¬ op≤2)(ho4:¬ op≤4)(hx:Ops w b o [(k,n,p),(k1,n1,p1)])
  (hA:Hid (∀W,Calls Tryz.prog 113 #[.int .i64 op] W fun e w'=>e=.returned (.int .i64 2)∧Below W.heap.size W w'))
  (h0:Hid (∀W,Calls Tryz.prog 115 #[.agg #[.int .i64 k,.int .i64 n,.int .i64 p]] W fun e w'=>e=.returned (.bool r0)∧Below W.heap.size W w'))
  (h1:Hid (∀W,Calls Tryz.prog 115 #[.agg #[.int .i64 k1,.int .i64 n1,.int .i64 p1]] W fun e w'=>e=.returned (.bool r1)∧Below W.heap.size W w'))
  (h2:Hid (∀W,Calls Tryz.prog 116 #[.agg #[.int .i64 k,.int .i64 n,.int .i64 p]] W fun e w'=>e=.returned (.bool r2)∧Below W.heap.size W w'))
  (h3:Hid (∀W,Calls Tryz.prog 116 #[.agg #[.int .i64 k1,.int .i64 n1,.int .i64 p1]] W fun e w'=>e=.returned (.bool r3)∧Below W.heap.size W w')) :
  Calls Tryz.prog 110 #[.agg #[.int .i64 op,.slice (some ⟨b,o,none⟩) 2 cap]] w fun e w'=>e=.returned (.bool (r0&&r1||r2&&r3))∧Below w.heap.size w w':=by
 have hb0:Below w.heap.size w (w.alloc (.cells #[.int .i64 op,.slice (some ⟨b,o,none⟩) 2 cap] 50)):=(Below.refl _ _).alloc (Nat.le_refl _) _
 have k0:=cell_regrown (w:=(w.alloc (.cells #[.int .i64 op,.slice (some ⟨b,o,none⟩) 2 cap] 50))) (a:=⟨w.heap.size,0,none⟩) (v:=.int .i64 op) (by simp)
 have k1:=cell_regrown (w:=(w.alloc (.cells #[.int .i64 op,.slice (some ⟨b,o,none⟩) 2 cap] 50))) (a:=⟨w.heap.size,1,none⟩) (v:=.slice (some ⟨b,o,none⟩) 2 cap) (by simp)
 have cA:∀d os,Calls Tryz.prog 113 #[.int .i64 op] (Sort.grow (redrawn (w.alloc (.cells #[.int .i64 op,.slice (some ⟨b,o,none⟩) 2 cap] 50)) d) os) fun e w''=>e=.returned (.int .i64 2)∧∃p:Regrown,w''=Sort.grow (redrawn (w.alloc (.cells #[.int .i64 op,.slice (some ⟨b,o,none⟩) 2 cap] 50)) p.d) p.os :=
  fun d os=>Calls.regrown_of (hA.out _)
 clear hA
 have h_1:¬(op<1):=by omega
 have h_2:¬(10<op):=by omega
 go_enter Tryz.func110,Tryz.ntmps110
 go_upto_region 1 with fail
 refine wp_region_quiet_below (by kernel_rfl) (by kernel_rfl) ?_
 repeat (go_big_quiet_step (first|exact cA _ _))
 refine wpQuiet_nil ?_
 intro _ hw'
 obtain ⟨⟨dq,osq⟩,hw''⟩:=hw'
 subst hw''
 have e0:=k0 dq osq
 have e1:=k1 dq osq
 have hb1:=hb0.trans ((below_regrown (w.alloc (.cells #[.int .i64 op,.slice (some ⟨b,o,none⟩) 2 cap] 50)) dq osq).mono hb0.size)
 have hx1:=hx.later hb1
 have lt1:w.heap.size<(Sort.grow (redrawn (w.alloc (.cells #[.int .i64 op,.slice (some ⟨b,o,none⟩) 2 cap] 50)) dq) osq).heap.size:=World.block_lt_of_cell? _ _ e0
 dsimp only at e0 e1 hb1 hx1 lt1 ⊢
 generalize Sort.grow (redrawn (w.alloc (.cells #[.int .i64 op,.slice (some ⟨b,o,none⟩) 2 cap] 50)) dq) osq=w2 at e0 e1 hb1 hx1 lt1 ⊢
 clear cA k0 k1 hb0 hx
 have lt2:b<w2.heap.size:=hx1.lt (by simp)
 have x00:=(hx1 0 _ rfl).1
 have x01:=(hx1 0 _ rfl).2.1
 have x02:=(hx1 0 _ rfl).2.2
 have x10:=(hx1 1 _ rfl).1
 have x11:=(hx1 1 _ rfl).2.1
 have x12:=(hx1 1 _ rfl).2.2
 simp only [Nat.zero_mul,Nat.add_zero,Nat.one_mul,Nat.add_assoc,Nat.reduceAdd] at x00 x01 x02 x10 x11 x12
 go_wp2_with fail
 refine (h0.out _).mono ?_
 rintro e w3 ⟨rfl,g3⟩
 have D3:Below w2.heap.size w2 w3:=g3
 have z3e0:=cell_later D3 e0
 have z3e1:=cell_later D3 e1
 have z3x00:=cell_later D3 x00
 have z3x01:=cell_later D3 x01
 have z3x02:=cell_later D3 x02
 have z3x10:=cell_later D3 x10
 have z3x11:=cell_later D3 x11
 have z3x12:=cell_later D3 x12
 clear g3
 cases r0 with
 | true =>
  go_wp2_with fail
  refine (h1.out _).mono ?_
  rintro e w4 ⟨rfl,g4⟩
  have D4:Below w2.heap.size w2 w4:=D3.trans (g4.mono D3.size)
  have z4e0:=cell_later D4 e0
  have z4e1:=cell_later D4 e1
  have z4x00:=cell_later D4 x00
  have z4x01:=cell_later D4 x01
  have z4x02:=cell_later D4 x02
  have z4x10:=cell_later D4 x10
  have z4x11:=cell_later D4 x11
  have z4x12:=cell_later D4 x12
  clear g4
  cases r1 with
  | true =>
   go_wp2
   go_ret
   exact ⟨by simp,hb1.trans (D4.mono hb1.size)⟩
  | false =>
   go_wp2_with fail
   refine (h2.out _).mono ?_
   rintro e w5 ⟨rfl,g5⟩
   have D5:Below w2.heap.size w2 w5:=D4.trans (g5.mono D4.size)
   have z5e0:=cell_later D5 e0
   have z5e1:=cell_later D5 e1
   have z5x00:=cell_later D5 x00
   have z5x01:=cell_later D5 x01
   have z5x02:=cell_later D5 x02
   have z5x10:=cell_later D5 x10
   have z5x11:=cell_later D5 x11
   have z5x12:=cell_later D5 x12
   clear g5
   cases r2 with
   | true =>
    go_wp2_with fail
    refine (h3.out _).mono ?_
    rintro e w6 ⟨rfl,g6⟩
    have D6:Below w2.heap.size w2 w6:=D5.trans (g6.mono D5.size)
    have z6e0:=cell_later D6 e0
    have z6e1:=cell_later D6 e1
    have z6x00:=cell_later D6 x00
    have z6x01:=cell_later D6 x01
    have z6x02:=cell_later D6 x02
    have z6x10:=cell_later D6 x10
    have z6x11:=cell_later D6 x11
    have z6x12:=cell_later D6 x12
    clear g6
    cases r3 with
    | true =>
     go_wp2
     go_ret
     exact ⟨by simp,hb1.trans (D6.mono hb1.size)⟩
    | false =>
     go_wp2
     go_ret
     exact ⟨by simp,hb1.trans (D6.mono hb1.size)⟩
   | false =>
    go_wp2
    go_ret
    exact ⟨by simp,hb1.trans (D5.mono hb1.size)⟩
 | false =>
  go_wp2_with fail
  refine (h2.out _).mono ?_
  rintro e w4 ⟨rfl,g4⟩
  have D4:Below w2.heap.size w2 w4:=D3.trans (g4.mono D3.size)
  have z4e0:=cell_later D4 e0
  have z4e1:=cell_later D4 e1
  have z4x00:=cell_later D4 x00
  have z4x01:=cell_later D4 x01
  have z4x02:=cell_later D4 x02
  have z4x10:=cell_later D4 x10
  have z4x11:=cell_later D4 x11
  have z4x12:=cell_later D4 x12
  clear g4
  cases r2 with
  | true =>
   go_wp2_with fail
   refine (h3.out _).mono ?_
   rintro e w5 ⟨rfl,g5⟩
   have D5:Below w2.heap.size w2 w5:=D4.trans (g5.mono D4.size)
   have z5e0:=cell_later D5 e0
   have z5e1:=cell_later D5 e1
   have z5x00:=cell_later D5 x00
   have z5x01:=cell_later D5 x01
   have z5x02:=cell_later D5 x02
   have z5x10:=cell_later D5 x10
   have z5x11:=cell_later D5 x11
   have z5x12:=cell_later D5 x12
   clear g5
   cases r3 with
   | true =>
    go_wp2
    go_ret
    exact ⟨by simp,hb1.trans (D5.mono hb1.size)⟩
   | false =>
    go_wp2
    go_ret
    exact ⟨by simp,hb1.trans (D5.mono hb1.size)⟩
  | false =>
   go_wp2
   go_ret
   exact ⟨by simp,hb1.trans (D4.mono hb1.size)⟩
set_option maxRecDepth 10000 in
theorem scoil21(k n p:Int)(r0:Bool)(b o cap:Nat)(w:World)(hx:Ops w b o [(k,n,p)])
  (hA:Hid (∀W,Calls Tryz.prog 113 #[.int .i64 21] W fun e w'=>e=.returned (.int .i64 1)∧Below W.heap.size W w'))
  (h0:Hid (∀W,Calls Tryz.prog 114 #[.agg #[.int .i64 k,.int .i64 n,.int .i64 p],.int .i64 2,.int .i64 3] W fun e w'=>e=.returned (.bool r0)∧Below W.heap.size W w')) :
  Calls Tryz.prog 72 #[.agg #[.int .i64 21,.slice (some ⟨b,o,none⟩) 1 cap]] w fun e w'=>e=.returned (.bool (r0))∧Below w.heap.size w w':=by
 have hb0:Below w.heap.size w (w.alloc (.cells #[.int .i64 21,.slice (some ⟨b,o,none⟩) 1 cap] 50)):=(Below.refl _ _).alloc (Nat.le_refl _) _
 have k0:=cell_regrown (w:=(w.alloc (.cells #[.int .i64 21,.slice (some ⟨b,o,none⟩) 1 cap] 50))) (a:=⟨w.heap.size,0,none⟩) (v:=.int .i64 21) (by simp)
 have k1:=cell_regrown (w:=(w.alloc (.cells #[.int .i64 21,.slice (some ⟨b,o,none⟩) 1 cap] 50))) (a:=⟨w.heap.size,1,none⟩) (v:=.slice (some ⟨b,o,none⟩) 1 cap) (by simp)
 have cA:∀d os,Calls Tryz.prog 113 #[.int .i64 21] (Sort.grow (redrawn (w.alloc (.cells #[.int .i64 21,.slice (some ⟨b,o,none⟩) 1 cap] 50)) d) os) fun e w''=>e=.returned (.int .i64 1)∧∃p:Regrown,w''=Sort.grow (redrawn (w.alloc (.cells #[.int .i64 21,.slice (some ⟨b,o,none⟩) 1 cap] 50)) p.d) p.os :=
  fun d os=>Calls.regrown_of (hA.out _)
 clear hA
 go_enter Tryz.func72,Tryz.ntmps72
 go_upto_region 1 with fail
 refine wp_region_quiet_below (by kernel_rfl) (by kernel_rfl) ?_
 repeat (go_big_quiet_step (first|exact cA _ _))
 refine wpQuiet_nil ?_
 intro _ hw'
 obtain ⟨⟨dq,osq⟩,hw''⟩:=hw'
 subst hw''
 have e0:=k0 dq osq
 have e1:=k1 dq osq
 have hb1:=hb0.trans ((below_regrown (w.alloc (.cells #[.int .i64 21,.slice (some ⟨b,o,none⟩) 1 cap] 50)) dq osq).mono hb0.size)
 have hx1:=hx.later hb1
 have lt1:w.heap.size<(Sort.grow (redrawn (w.alloc (.cells #[.int .i64 21,.slice (some ⟨b,o,none⟩) 1 cap] 50)) dq) osq).heap.size:=World.block_lt_of_cell? _ _ e0
 dsimp only at e0 e1 hb1 hx1 lt1 ⊢
 generalize Sort.grow (redrawn (w.alloc (.cells #[.int .i64 21,.slice (some ⟨b,o,none⟩) 1 cap] 50)) dq) osq=w2 at e0 e1 hb1 hx1 lt1 ⊢
 clear cA k0 k1 hb0 hx
 have lt2:b<w2.heap.size:=hx1.lt (by simp)
 have x00:=(hx1 0 _ rfl).1
 have x01:=(hx1 0 _ rfl).2.1
 have x02:=(hx1 0 _ rfl).2.2
 simp only [Nat.zero_mul,Nat.add_zero] at x00 x01 x02
 have hA0:Below w2.heap.size w2 (w2.alloc (.cells #[.int .i64 k,.int .i64 n,.int .i64 p] 133)):=(Below.refl _ _).alloc (Nat.le_refl _) _
 have fe0:=cell_later hA0 e0
 have fe1:=cell_later hA0 e1
 have fx00:=cell_later hA0 x00
 have fx01:=cell_later hA0 x01
 have fx02:=cell_later hA0 x02
 have fa0:(w2.alloc (.cells #[.int .i64 k,.int .i64 n,.int .i64 p] 133)).cell? ⟨w2.heap.size,0,none⟩=some (.int .i64 k):=by simp
 have fa1:(w2.alloc (.cells #[.int .i64 k,.int .i64 n,.int .i64 p] 133)).cell? ⟨w2.heap.size,1,none⟩=some (.int .i64 n):=by simp
 have fa2:(w2.alloc (.cells #[.int .i64 k,.int .i64 n,.int .i64 p] 133)).cell? ⟨w2.heap.size,2,none⟩=some (.int .i64 p):=by simp
 have hbA:Below w.heap.size w (w2.alloc (.cells #[.int .i64 k,.int .i64 n,.int .i64 p] 133)):=hb1.alloc hb1.size _
 go_wp2_with fail
 refine (h0.out _).mono ?_
 rintro e w3 ⟨rfl,g3⟩
 have D3:Below (w2.alloc (.cells #[.int .i64 k,.int .i64 n,.int .i64 p] 133)).heap.size (w2.alloc (.cells #[.int .i64 k,.int .i64 n,.int .i64 p] 133)) w3:=g3
 have z3fe0:=cell_later D3 fe0
 have z3fe1:=cell_later D3 fe1
 have z3fx00:=cell_later D3 fx00
 have z3fx01:=cell_later D3 fx01
 have z3fx02:=cell_later D3 fx02
 have z3fa0:=cell_later D3 fa0
 have z3fa1:=cell_later D3 fa1
 have z3fa2:=cell_later D3 fa2
 clear g3
 cases r0 with
 | true =>
  go_wp2
  go_ret
  exact ⟨by simp,hbA.trans (D3.mono hbA.size)⟩
 | false =>
  go_wp2
  go_ret
  exact ⟨by simp,hbA.trans (D3.mono hbA.size)⟩
set_option maxRecDepth 10000 in
theorem scoil22(k n p:Int)(r0 r1:Bool)(b o cap:Nat)(w:World)(hx:Ops w b o [(k,n,p)])
  (hA:Hid (∀W,Calls Tryz.prog 113 #[.int .i64 22] W fun e w'=>e=.returned (.int .i64 1)∧Below W.heap.size W w'))
  (h0:Hid (∀W,Calls Tryz.prog 114 #[.agg #[.int .i64 k,.int .i64 n,.int .i64 p],.int .i64 2,.int .i64 3] W fun e w'=>e=.returned (.bool r0)∧Below W.heap.size W w'))
  (h1:Hid (∀W,Calls Tryz.prog 114 #[.agg #[.int .i64 k,.int .i64 n,.int .i64 p],.int .i64 4,.int .i64 4] W fun e w'=>e=.returned (.bool r1)∧Below W.heap.size W w')) :
  Calls Tryz.prog 72 #[.agg #[.int .i64 22,.slice (some ⟨b,o,none⟩) 1 cap]] w fun e w'=>e=.returned (.bool (r0||r1))∧Below w.heap.size w w':=by
 have hb0:Below w.heap.size w (w.alloc (.cells #[.int .i64 22,.slice (some ⟨b,o,none⟩) 1 cap] 50)):=(Below.refl _ _).alloc (Nat.le_refl _) _
 have k0:=cell_regrown (w:=(w.alloc (.cells #[.int .i64 22,.slice (some ⟨b,o,none⟩) 1 cap] 50))) (a:=⟨w.heap.size,0,none⟩) (v:=.int .i64 22) (by simp)
 have k1:=cell_regrown (w:=(w.alloc (.cells #[.int .i64 22,.slice (some ⟨b,o,none⟩) 1 cap] 50))) (a:=⟨w.heap.size,1,none⟩) (v:=.slice (some ⟨b,o,none⟩) 1 cap) (by simp)
 have cA:∀d os,Calls Tryz.prog 113 #[.int .i64 22] (Sort.grow (redrawn (w.alloc (.cells #[.int .i64 22,.slice (some ⟨b,o,none⟩) 1 cap] 50)) d) os) fun e w''=>e=.returned (.int .i64 1)∧∃p:Regrown,w''=Sort.grow (redrawn (w.alloc (.cells #[.int .i64 22,.slice (some ⟨b,o,none⟩) 1 cap] 50)) p.d) p.os :=
  fun d os=>Calls.regrown_of (hA.out _)
 clear hA
 go_enter Tryz.func72,Tryz.ntmps72
 go_upto_region 1 with fail
 refine wp_region_quiet_below (by kernel_rfl) (by kernel_rfl) ?_
 repeat (go_big_quiet_step (first|exact cA _ _))
 refine wpQuiet_nil ?_
 intro _ hw'
 obtain ⟨⟨dq,osq⟩,hw''⟩:=hw'
 subst hw''
 have e0:=k0 dq osq
 have e1:=k1 dq osq
 have hb1:=hb0.trans ((below_regrown (w.alloc (.cells #[.int .i64 22,.slice (some ⟨b,o,none⟩) 1 cap] 50)) dq osq).mono hb0.size)
 have hx1:=hx.later hb1
 have lt1:w.heap.size<(Sort.grow (redrawn (w.alloc (.cells #[.int .i64 22,.slice (some ⟨b,o,none⟩) 1 cap] 50)) dq) osq).heap.size:=World.block_lt_of_cell? _ _ e0
 dsimp only at e0 e1 hb1 hx1 lt1 ⊢
 generalize Sort.grow (redrawn (w.alloc (.cells #[.int .i64 22,.slice (some ⟨b,o,none⟩) 1 cap] 50)) dq) osq=w2 at e0 e1 hb1 hx1 lt1 ⊢
 clear cA k0 k1 hb0 hx
 have lt2:b<w2.heap.size:=hx1.lt (by simp)
 have x00:=(hx1 0 _ rfl).1
 have x01:=(hx1 0 _ rfl).2.1
 have x02:=(hx1 0 _ rfl).2.2
 simp only [Nat.zero_mul,Nat.add_zero] at x00 x01 x02
 have hA0:Below w2.heap.size w2 (w2.alloc (.cells #[.int .i64 k,.int .i64 n,.int .i64 p] 133)):=(Below.refl _ _).alloc (Nat.le_refl _) _
 have fe0:=cell_later hA0 e0
 have fe1:=cell_later hA0 e1
 have fx00:=cell_later hA0 x00
 have fx01:=cell_later hA0 x01
 have fx02:=cell_later hA0 x02
 have fa0:(w2.alloc (.cells #[.int .i64 k,.int .i64 n,.int .i64 p] 133)).cell? ⟨w2.heap.size,0,none⟩=some (.int .i64 k):=by simp
 have fa1:(w2.alloc (.cells #[.int .i64 k,.int .i64 n,.int .i64 p] 133)).cell? ⟨w2.heap.size,1,none⟩=some (.int .i64 n):=by simp
 have fa2:(w2.alloc (.cells #[.int .i64 k,.int .i64 n,.int .i64 p] 133)).cell? ⟨w2.heap.size,2,none⟩=some (.int .i64 p):=by simp
 have hbA:Below w.heap.size w (w2.alloc (.cells #[.int .i64 k,.int .i64 n,.int .i64 p] 133)):=hb1.alloc hb1.size _
 go_wp2_with fail
 refine (h0.out _).mono ?_
 rintro e w3 ⟨rfl,g3⟩
 have D3:Below (w2.alloc (.cells #[.int .i64 k,.int .i64 n,.int .i64 p] 133)).heap.size (w2.alloc (.cells #[.int .i64 k,.int .i64 n,.int .i64 p] 133)) w3:=g3
 have z3fe0:=cell_later D3 fe0
 have z3fe1:=cell_later D3 fe1
 have z3fx00:=cell_later D3 fx00
 have z3fx01:=cell_later D3 fx01
 have z3fx02:=cell_later D3 fx02
 have z3fa0:=cell_later D3 fa0
 have z3fa1:=cell_later D3 fa1
 have z3fa2:=cell_later D3 fa2
 clear g3
 cases r0 with
 | true =>
  go_wp2
  go_ret
  exact ⟨by simp,hbA.trans (D3.mono hbA.size)⟩
 | false =>
  go_wp2_with fail
  refine (h1.out _).mono ?_
  rintro e w4 ⟨rfl,g4⟩
  have D4:Below (w2.alloc (.cells #[.int .i64 k,.int .i64 n,.int .i64 p] 133)).heap.size (w2.alloc (.cells #[.int .i64 k,.int .i64 n,.int .i64 p] 133)) w4:=D3.trans (g4.mono D3.size)
  have z4fe0:=cell_later D4 fe0
  have z4fe1:=cell_later D4 fe1
  have z4fx00:=cell_later D4 fx00
  have z4fx01:=cell_later D4 fx01
  have z4fx02:=cell_later D4 fx02
  have z4fa0:=cell_later D4 fa0
  have z4fa1:=cell_later D4 fa1
  have z4fa2:=cell_later D4 fa2
  clear g4
  cases r1 with
  | true =>
   go_wp2
   go_ret
   exact ⟨by simp,hbA.trans (D4.mono hbA.size)⟩
  | false =>
   go_wp2
   go_ret
   exact ⟨by simp,hbA.trans (D4.mono hbA.size)⟩
set_option maxRecDepth 10000 in
theorem scoil23(k n p:Int)(r0 r1 r2:Bool)(b o cap:Nat)(w:World)(hx:Ops w b o [(k,n,p)])
  (hA:Hid (∀W,Calls Tryz.prog 113 #[.int .i64 23] W fun e w'=>e=.returned (.int .i64 1)∧Below W.heap.size W w'))
  (h0:Hid (∀W,Calls Tryz.prog 114 #[.agg #[.int .i64 k,.int .i64 n,.int .i64 p],.int .i64 2,.int .i64 3] W fun e w'=>e=.returned (.bool r0)∧Below W.heap.size W w'))
  (h1:Hid (∀W,Calls Tryz.prog 114 #[.agg #[.int .i64 k,.int .i64 n,.int .i64 p],.int .i64 4,.int .i64 7] W fun e w'=>e=.returned (.bool r1)∧Below W.heap.size W w'))
  (h2:Hid (∀W,Calls Tryz.prog 114 #[.agg #[.int .i64 k,.int .i64 n,.int .i64 p],.int .i64 8,.int .i64 8] W fun e w'=>e=.returned (.bool r2)∧Below W.heap.size W w')) :
  Calls Tryz.prog 72 #[.agg #[.int .i64 23,.slice (some ⟨b,o,none⟩) 1 cap]] w fun e w'=>e=.returned (.bool (r0||r1||r2))∧Below w.heap.size w w':=by
 have hb0:Below w.heap.size w (w.alloc (.cells #[.int .i64 23,.slice (some ⟨b,o,none⟩) 1 cap] 50)):=(Below.refl _ _).alloc (Nat.le_refl _) _
 have k0:=cell_regrown (w:=(w.alloc (.cells #[.int .i64 23,.slice (some ⟨b,o,none⟩) 1 cap] 50))) (a:=⟨w.heap.size,0,none⟩) (v:=.int .i64 23) (by simp)
 have k1:=cell_regrown (w:=(w.alloc (.cells #[.int .i64 23,.slice (some ⟨b,o,none⟩) 1 cap] 50))) (a:=⟨w.heap.size,1,none⟩) (v:=.slice (some ⟨b,o,none⟩) 1 cap) (by simp)
 have cA:∀d os,Calls Tryz.prog 113 #[.int .i64 23] (Sort.grow (redrawn (w.alloc (.cells #[.int .i64 23,.slice (some ⟨b,o,none⟩) 1 cap] 50)) d) os) fun e w''=>e=.returned (.int .i64 1)∧∃p:Regrown,w''=Sort.grow (redrawn (w.alloc (.cells #[.int .i64 23,.slice (some ⟨b,o,none⟩) 1 cap] 50)) p.d) p.os :=
  fun d os=>Calls.regrown_of (hA.out _)
 clear hA
 go_enter Tryz.func72,Tryz.ntmps72
 go_upto_region 1 with fail
 refine wp_region_quiet_below (by kernel_rfl) (by kernel_rfl) ?_
 repeat (go_big_quiet_step (first|exact cA _ _))
 refine wpQuiet_nil ?_
 intro _ hw'
 obtain ⟨⟨dq,osq⟩,hw''⟩:=hw'
 subst hw''
 have e0:=k0 dq osq
 have e1:=k1 dq osq
 have hb1:=hb0.trans ((below_regrown (w.alloc (.cells #[.int .i64 23,.slice (some ⟨b,o,none⟩) 1 cap] 50)) dq osq).mono hb0.size)
 have hx1:=hx.later hb1
 have lt1:w.heap.size<(Sort.grow (redrawn (w.alloc (.cells #[.int .i64 23,.slice (some ⟨b,o,none⟩) 1 cap] 50)) dq) osq).heap.size:=World.block_lt_of_cell? _ _ e0
 dsimp only at e0 e1 hb1 hx1 lt1 ⊢
 generalize Sort.grow (redrawn (w.alloc (.cells #[.int .i64 23,.slice (some ⟨b,o,none⟩) 1 cap] 50)) dq) osq=w2 at e0 e1 hb1 hx1 lt1 ⊢
 clear cA k0 k1 hb0 hx
 have lt2:b<w2.heap.size:=hx1.lt (by simp)
 have x00:=(hx1 0 _ rfl).1
 have x01:=(hx1 0 _ rfl).2.1
 have x02:=(hx1 0 _ rfl).2.2
 simp only [Nat.zero_mul,Nat.add_zero] at x00 x01 x02
 have hA0:Below w2.heap.size w2 (w2.alloc (.cells #[.int .i64 k,.int .i64 n,.int .i64 p] 133)):=(Below.refl _ _).alloc (Nat.le_refl _) _
 have fe0:=cell_later hA0 e0
 have fe1:=cell_later hA0 e1
 have fx00:=cell_later hA0 x00
 have fx01:=cell_later hA0 x01
 have fx02:=cell_later hA0 x02
 have fa0:(w2.alloc (.cells #[.int .i64 k,.int .i64 n,.int .i64 p] 133)).cell? ⟨w2.heap.size,0,none⟩=some (.int .i64 k):=by simp
 have fa1:(w2.alloc (.cells #[.int .i64 k,.int .i64 n,.int .i64 p] 133)).cell? ⟨w2.heap.size,1,none⟩=some (.int .i64 n):=by simp
 have fa2:(w2.alloc (.cells #[.int .i64 k,.int .i64 n,.int .i64 p] 133)).cell? ⟨w2.heap.size,2,none⟩=some (.int .i64 p):=by simp
 have hbA:Below w.heap.size w (w2.alloc (.cells #[.int .i64 k,.int .i64 n,.int .i64 p] 133)):=hb1.alloc hb1.size _
 go_wp2_with fail
 refine (h0.out _).mono ?_
 rintro e w3 ⟨rfl,g3⟩
 have D3:Below (w2.alloc (.cells #[.int .i64 k,.int .i64 n,.int .i64 p] 133)).heap.size (w2.alloc (.cells #[.int .i64 k,.int .i64 n,.int .i64 p] 133)) w3:=g3
 have z3fe0:=cell_later D3 fe0
 have z3fe1:=cell_later D3 fe1
 have z3fx00:=cell_later D3 fx00
 have z3fx01:=cell_later D3 fx01
 have z3fx02:=cell_later D3 fx02
 have z3fa0:=cell_later D3 fa0
 have z3fa1:=cell_later D3 fa1
 have z3fa2:=cell_later D3 fa2
 clear g3
 cases r0 with
 | true =>
  go_wp2
  go_ret
  exact ⟨by simp,hbA.trans (D3.mono hbA.size)⟩
 | false =>
  go_wp2_with fail
  refine (h1.out _).mono ?_
  rintro e w4 ⟨rfl,g4⟩
  have D4:Below (w2.alloc (.cells #[.int .i64 k,.int .i64 n,.int .i64 p] 133)).heap.size (w2.alloc (.cells #[.int .i64 k,.int .i64 n,.int .i64 p] 133)) w4:=D3.trans (g4.mono D3.size)
  have z4fe0:=cell_later D4 fe0
  have z4fe1:=cell_later D4 fe1
  have z4fx00:=cell_later D4 fx00
  have z4fx01:=cell_later D4 fx01
  have z4fx02:=cell_later D4 fx02
  have z4fa0:=cell_later D4 fa0
  have z4fa1:=cell_later D4 fa1
  have z4fa2:=cell_later D4 fa2
  clear g4
  cases r1 with
  | true =>
   go_wp2
   go_ret
   exact ⟨by simp,hbA.trans (D4.mono hbA.size)⟩
  | false =>
   go_wp2_with fail
   refine (h2.out _).mono ?_
   rintro e w5 ⟨rfl,g5⟩
   have D5:Below (w2.alloc (.cells #[.int .i64 k,.int .i64 n,.int .i64 p] 133)).heap.size (w2.alloc (.cells #[.int .i64 k,.int .i64 n,.int .i64 p] 133)) w5:=D4.trans (g5.mono D4.size)
   have z5fe0:=cell_later D5 fe0
   have z5fe1:=cell_later D5 fe1
   have z5fx00:=cell_later D5 fx00
   have z5fx01:=cell_later D5 fx01
   have z5fx02:=cell_later D5 fx02
   have z5fa0:=cell_later D5 fa0
   have z5fa1:=cell_later D5 fa1
   have z5fa2:=cell_later D5 fa2
   clear g5
   cases r2 with
   | true =>
    go_wp2
    go_ret
    exact ⟨by simp,hbA.trans (D5.mono hbA.size)⟩
   | false =>
    go_wp2
    go_ret
    exact ⟨by simp,hbA.trans (D5.mono hbA.size)⟩
set_option maxRecDepth 10000 in
theorem scoil24(k n p k1 n1 p1:Int)(r0 r1:Bool)(b o cap:Nat)(w:World)(hx:Ops w b o [(k,n,p),(k1,n1,p1)])
  (hA:Hid (∀W,Calls Tryz.prog 113 #[.int .i64 24] W fun e w'=>e=.returned (.int .i64 2)∧Below W.heap.size W w'))
  (h0:Hid (∀W,Calls Tryz.prog 114 #[.agg #[.int .i64 k,.int .i64 n,.int .i64 p],.int .i64 2,.int .i64 3] W fun e w'=>e=.returned (.bool r0)∧Below W.heap.size W w'))
  (h1:Hid (∀W,Calls Tryz.prog 114 #[.agg #[.int .i64 k1,.int .i64 n1,.int .i64 p1],.int .i64 5,.int .i64 5] W fun e w'=>e=.returned (.bool r1)∧Below W.heap.size W w')) :
  Calls Tryz.prog 72 #[.agg #[.int .i64 24,.slice (some ⟨b,o,none⟩) 2 cap]] w fun e w'=>e=.returned (.bool (r0&&r1))∧Below w.heap.size w w':=by
 have hb0:Below w.heap.size w (w.alloc (.cells #[.int .i64 24,.slice (some ⟨b,o,none⟩) 2 cap] 50)):=(Below.refl _ _).alloc (Nat.le_refl _) _
 have k0:=cell_regrown (w:=(w.alloc (.cells #[.int .i64 24,.slice (some ⟨b,o,none⟩) 2 cap] 50))) (a:=⟨w.heap.size,0,none⟩) (v:=.int .i64 24) (by simp)
 have k1:=cell_regrown (w:=(w.alloc (.cells #[.int .i64 24,.slice (some ⟨b,o,none⟩) 2 cap] 50))) (a:=⟨w.heap.size,1,none⟩) (v:=.slice (some ⟨b,o,none⟩) 2 cap) (by simp)
 have cA:∀d os,Calls Tryz.prog 113 #[.int .i64 24] (Sort.grow (redrawn (w.alloc (.cells #[.int .i64 24,.slice (some ⟨b,o,none⟩) 2 cap] 50)) d) os) fun e w''=>e=.returned (.int .i64 2)∧∃p:Regrown,w''=Sort.grow (redrawn (w.alloc (.cells #[.int .i64 24,.slice (some ⟨b,o,none⟩) 2 cap] 50)) p.d) p.os :=
  fun d os=>Calls.regrown_of (hA.out _)
 clear hA
 go_enter Tryz.func72,Tryz.ntmps72
 go_upto_region 1 with fail
 refine wp_region_quiet_below (by kernel_rfl) (by kernel_rfl) ?_
 repeat (go_big_quiet_step (first|exact cA _ _))
 refine wpQuiet_nil ?_
 intro _ hw'
 obtain ⟨⟨dq,osq⟩,hw''⟩:=hw'
 subst hw''
 have e0:=k0 dq osq
 have e1:=k1 dq osq
 have hb1:=hb0.trans ((below_regrown (w.alloc (.cells #[.int .i64 24,.slice (some ⟨b,o,none⟩) 2 cap] 50)) dq osq).mono hb0.size)
 have hx1:=hx.later hb1
 have lt1:w.heap.size<(Sort.grow (redrawn (w.alloc (.cells #[.int .i64 24,.slice (some ⟨b,o,none⟩) 2 cap] 50)) dq) osq).heap.size:=World.block_lt_of_cell? _ _ e0
 dsimp only at e0 e1 hb1 hx1 lt1 ⊢
 generalize Sort.grow (redrawn (w.alloc (.cells #[.int .i64 24,.slice (some ⟨b,o,none⟩) 2 cap] 50)) dq) osq=w2 at e0 e1 hb1 hx1 lt1 ⊢
 clear cA k0 k1 hb0 hx
 have lt2:b<w2.heap.size:=hx1.lt (by simp)
 have x00:=(hx1 0 _ rfl).1
 have x01:=(hx1 0 _ rfl).2.1
 have x02:=(hx1 0 _ rfl).2.2
 have x10:=(hx1 1 _ rfl).1
 have x11:=(hx1 1 _ rfl).2.1
 have x12:=(hx1 1 _ rfl).2.2
 simp only [Nat.zero_mul,Nat.add_zero,Nat.one_mul,Nat.add_assoc,Nat.reduceAdd] at x00 x01 x02 x10 x11 x12
 have hA0:Below w2.heap.size w2 (w2.alloc (.cells #[.int .i64 k,.int .i64 n,.int .i64 p] 133)):=(Below.refl _ _).alloc (Nat.le_refl _) _
 have fe0:=cell_later hA0 e0
 have fe1:=cell_later hA0 e1
 have fx00:=cell_later hA0 x00
 have fx01:=cell_later hA0 x01
 have fx02:=cell_later hA0 x02
 have fx10:=cell_later hA0 x10
 have fx11:=cell_later hA0 x11
 have fx12:=cell_later hA0 x12
 have fa0:(w2.alloc (.cells #[.int .i64 k,.int .i64 n,.int .i64 p] 133)).cell? ⟨w2.heap.size,0,none⟩=some (.int .i64 k):=by simp
 have fa1:(w2.alloc (.cells #[.int .i64 k,.int .i64 n,.int .i64 p] 133)).cell? ⟨w2.heap.size,1,none⟩=some (.int .i64 n):=by simp
 have fa2:(w2.alloc (.cells #[.int .i64 k,.int .i64 n,.int .i64 p] 133)).cell? ⟨w2.heap.size,2,none⟩=some (.int .i64 p):=by simp
 have hbA:Below w.heap.size w (w2.alloc (.cells #[.int .i64 k,.int .i64 n,.int .i64 p] 133)):=hb1.alloc hb1.size _
 go_wp2_with fail
 refine (h0.out _).mono ?_
 rintro e w3 ⟨rfl,g3⟩
 have D3:Below (w2.alloc (.cells #[.int .i64 k,.int .i64 n,.int .i64 p] 133)).heap.size (w2.alloc (.cells #[.int .i64 k,.int .i64 n,.int .i64 p] 133)) w3:=g3
 have z3fe0:=cell_later D3 fe0
 have z3fe1:=cell_later D3 fe1
 have z3fx00:=cell_later D3 fx00
 have z3fx01:=cell_later D3 fx01
 have z3fx02:=cell_later D3 fx02
 have z3fx10:=cell_later D3 fx10
 have z3fx11:=cell_later D3 fx11
 have z3fx12:=cell_later D3 fx12
 have z3fa0:=cell_later D3 fa0
 have z3fa1:=cell_later D3 fa1
 have z3fa2:=cell_later D3 fa2
 clear g3
 cases r0 with
 | true =>
  go_wp2_with fail
  refine (h1.out _).mono ?_
  rintro e w4 ⟨rfl,g4⟩
  have D4:Below (w2.alloc (.cells #[.int .i64 k,.int .i64 n,.int .i64 p] 133)).heap.size (w2.alloc (.cells #[.int .i64 k,.int .i64 n,.int .i64 p] 133)) w4:=D3.trans (g4.mono D3.size)
  have z4fe0:=cell_later D4 fe0
  have z4fe1:=cell_later D4 fe1
  have z4fx00:=cell_later D4 fx00
  have z4fx01:=cell_later D4 fx01
  have z4fx02:=cell_later D4 fx02
  have z4fx10:=cell_later D4 fx10
  have z4fx11:=cell_later D4 fx11
  have z4fx12:=cell_later D4 fx12
  have z4fa0:=cell_later D4 fa0
  have z4fa1:=cell_later D4 fa1
  have z4fa2:=cell_later D4 fa2
  clear g4
  cases r1 with
  | true =>
   go_wp2
   go_ret
   exact ⟨by simp,hbA.trans (D4.mono hbA.size)⟩
  | false =>
   go_wp2
   go_ret
   exact ⟨by simp,hbA.trans (D4.mono hbA.size)⟩
 | false =>
  go_wp2
  go_ret
  exact ⟨by simp,hbA.trans (D3.mono hbA.size)⟩
set_option maxRecDepth 10000 in
theorem scoil25(k n p:Int)(r0:Bool)(b o cap:Nat)(w:World)(hx:Ops w b o [(k,n,p)])
  (hA:Hid (∀W,Calls Tryz.prog 113 #[.int .i64 25] W fun e w'=>e=.returned (.int .i64 1)∧Below W.heap.size W w'))
  (h0:Hid (∀W,Calls Tryz.prog 114 #[.agg #[.int .i64 k,.int .i64 n,.int .i64 p],.int .i64 4,.int .i64 4] W fun e w'=>e=.returned (.bool r0)∧Below W.heap.size W w')) :
  Calls Tryz.prog 72 #[.agg #[.int .i64 25,.slice (some ⟨b,o,none⟩) 1 cap]] w fun e w'=>e=.returned (.bool (r0))∧Below w.heap.size w w':=by
 have hb0:Below w.heap.size w (w.alloc (.cells #[.int .i64 25,.slice (some ⟨b,o,none⟩) 1 cap] 50)):=(Below.refl _ _).alloc (Nat.le_refl _) _
 have k0:=cell_regrown (w:=(w.alloc (.cells #[.int .i64 25,.slice (some ⟨b,o,none⟩) 1 cap] 50))) (a:=⟨w.heap.size,0,none⟩) (v:=.int .i64 25) (by simp)
 have k1:=cell_regrown (w:=(w.alloc (.cells #[.int .i64 25,.slice (some ⟨b,o,none⟩) 1 cap] 50))) (a:=⟨w.heap.size,1,none⟩) (v:=.slice (some ⟨b,o,none⟩) 1 cap) (by simp)
 have cA:∀d os,Calls Tryz.prog 113 #[.int .i64 25] (Sort.grow (redrawn (w.alloc (.cells #[.int .i64 25,.slice (some ⟨b,o,none⟩) 1 cap] 50)) d) os) fun e w''=>e=.returned (.int .i64 1)∧∃p:Regrown,w''=Sort.grow (redrawn (w.alloc (.cells #[.int .i64 25,.slice (some ⟨b,o,none⟩) 1 cap] 50)) p.d) p.os :=
  fun d os=>Calls.regrown_of (hA.out _)
 clear hA
 go_enter Tryz.func72,Tryz.ntmps72
 go_upto_region 1 with fail
 refine wp_region_quiet_below (by kernel_rfl) (by kernel_rfl) ?_
 repeat (go_big_quiet_step (first|exact cA _ _))
 refine wpQuiet_nil ?_
 intro _ hw'
 obtain ⟨⟨dq,osq⟩,hw''⟩:=hw'
 subst hw''
 have e0:=k0 dq osq
 have e1:=k1 dq osq
 have hb1:=hb0.trans ((below_regrown (w.alloc (.cells #[.int .i64 25,.slice (some ⟨b,o,none⟩) 1 cap] 50)) dq osq).mono hb0.size)
 have hx1:=hx.later hb1
 have lt1:w.heap.size<(Sort.grow (redrawn (w.alloc (.cells #[.int .i64 25,.slice (some ⟨b,o,none⟩) 1 cap] 50)) dq) osq).heap.size:=World.block_lt_of_cell? _ _ e0
 dsimp only at e0 e1 hb1 hx1 lt1 ⊢
 generalize Sort.grow (redrawn (w.alloc (.cells #[.int .i64 25,.slice (some ⟨b,o,none⟩) 1 cap] 50)) dq) osq=w2 at e0 e1 hb1 hx1 lt1 ⊢
 clear cA k0 k1 hb0 hx
 have lt2:b<w2.heap.size:=hx1.lt (by simp)
 have x00:=(hx1 0 _ rfl).1
 have x01:=(hx1 0 _ rfl).2.1
 have x02:=(hx1 0 _ rfl).2.2
 simp only [Nat.zero_mul,Nat.add_zero] at x00 x01 x02
 have hA0:Below w2.heap.size w2 (w2.alloc (.cells #[.int .i64 k,.int .i64 n,.int .i64 p] 133)):=(Below.refl _ _).alloc (Nat.le_refl _) _
 have fe0:=cell_later hA0 e0
 have fe1:=cell_later hA0 e1
 have fx00:=cell_later hA0 x00
 have fx01:=cell_later hA0 x01
 have fx02:=cell_later hA0 x02
 have fa0:(w2.alloc (.cells #[.int .i64 k,.int .i64 n,.int .i64 p] 133)).cell? ⟨w2.heap.size,0,none⟩=some (.int .i64 k):=by simp
 have fa1:(w2.alloc (.cells #[.int .i64 k,.int .i64 n,.int .i64 p] 133)).cell? ⟨w2.heap.size,1,none⟩=some (.int .i64 n):=by simp
 have fa2:(w2.alloc (.cells #[.int .i64 k,.int .i64 n,.int .i64 p] 133)).cell? ⟨w2.heap.size,2,none⟩=some (.int .i64 p):=by simp
 have hbA:Below w.heap.size w (w2.alloc (.cells #[.int .i64 k,.int .i64 n,.int .i64 p] 133)):=hb1.alloc hb1.size _
 go_wp2_with fail
 refine (h0.out _).mono ?_
 rintro e w3 ⟨rfl,g3⟩
 have D3:Below (w2.alloc (.cells #[.int .i64 k,.int .i64 n,.int .i64 p] 133)).heap.size (w2.alloc (.cells #[.int .i64 k,.int .i64 n,.int .i64 p] 133)) w3:=g3
 have z3fe0:=cell_later D3 fe0
 have z3fe1:=cell_later D3 fe1
 have z3fx00:=cell_later D3 fx00
 have z3fx01:=cell_later D3 fx01
 have z3fx02:=cell_later D3 fx02
 have z3fa0:=cell_later D3 fa0
 have z3fa1:=cell_later D3 fa1
 have z3fa2:=cell_later D3 fa2
 clear g3
 cases r0 with
 | true =>
  go_wp2
  go_ret
  exact ⟨by simp,hbA.trans (D3.mono hbA.size)⟩
 | false =>
  go_wp2
  go_ret
  exact ⟨by simp,hbA.trans (D3.mono hbA.size)⟩
set_option maxRecDepth 10000 in
theorem scoil26(k n p k1 n1 p1:Int)(r0 r1:Bool)(b o cap:Nat)(w:World)(hx:Ops w b o [(k,n,p),(k1,n1,p1)])
  (hA:Hid (∀W,Calls Tryz.prog 113 #[.int .i64 26] W fun e w'=>e=.returned (.int .i64 2)∧Below W.heap.size W w'))
  (h0:Hid (∀W,Calls Tryz.prog 114 #[.agg #[.int .i64 k,.int .i64 n,.int .i64 p],.int .i64 7,.int .i64 7] W fun e w'=>e=.returned (.bool r0)∧Below W.heap.size W w'))
  (h1:Hid (∀W,Calls Tryz.prog 114 #[.agg #[.int .i64 k1,.int .i64 n1,.int .i64 p1],.int .i64 11,.int .i64 11] W fun e w'=>e=.returned (.bool r1)∧Below W.heap.size W w')) :
  Calls Tryz.prog 72 #[.agg #[.int .i64 26,.slice (some ⟨b,o,none⟩) 2 cap]] w fun e w'=>e=.returned (.bool (r0&&r1&&decide (0≤n1)))∧Below w.heap.size w w':=by
 have hb0:Below w.heap.size w (w.alloc (.cells #[.int .i64 26,.slice (some ⟨b,o,none⟩) 2 cap] 50)):=(Below.refl _ _).alloc (Nat.le_refl _) _
 have k0:=cell_regrown (w:=(w.alloc (.cells #[.int .i64 26,.slice (some ⟨b,o,none⟩) 2 cap] 50))) (a:=⟨w.heap.size,0,none⟩) (v:=.int .i64 26) (by simp)
 have k1:=cell_regrown (w:=(w.alloc (.cells #[.int .i64 26,.slice (some ⟨b,o,none⟩) 2 cap] 50))) (a:=⟨w.heap.size,1,none⟩) (v:=.slice (some ⟨b,o,none⟩) 2 cap) (by simp)
 have cA:∀d os,Calls Tryz.prog 113 #[.int .i64 26] (Sort.grow (redrawn (w.alloc (.cells #[.int .i64 26,.slice (some ⟨b,o,none⟩) 2 cap] 50)) d) os) fun e w''=>e=.returned (.int .i64 2)∧∃p:Regrown,w''=Sort.grow (redrawn (w.alloc (.cells #[.int .i64 26,.slice (some ⟨b,o,none⟩) 2 cap] 50)) p.d) p.os :=
  fun d os=>Calls.regrown_of (hA.out _)
 clear hA
 go_enter Tryz.func72,Tryz.ntmps72
 go_upto_region 1 with fail
 refine wp_region_quiet_below (by kernel_rfl) (by kernel_rfl) ?_
 repeat (go_big_quiet_step (first|exact cA _ _))
 refine wpQuiet_nil ?_
 intro _ hw'
 obtain ⟨⟨dq,osq⟩,hw''⟩:=hw'
 subst hw''
 have e0:=k0 dq osq
 have e1:=k1 dq osq
 have hb1:=hb0.trans ((below_regrown (w.alloc (.cells #[.int .i64 26,.slice (some ⟨b,o,none⟩) 2 cap] 50)) dq osq).mono hb0.size)
 have hx1:=hx.later hb1
 have lt1:w.heap.size<(Sort.grow (redrawn (w.alloc (.cells #[.int .i64 26,.slice (some ⟨b,o,none⟩) 2 cap] 50)) dq) osq).heap.size:=World.block_lt_of_cell? _ _ e0
 dsimp only at e0 e1 hb1 hx1 lt1 ⊢
 generalize Sort.grow (redrawn (w.alloc (.cells #[.int .i64 26,.slice (some ⟨b,o,none⟩) 2 cap] 50)) dq) osq=w2 at e0 e1 hb1 hx1 lt1 ⊢
 clear cA k0 k1 hb0 hx
 have lt2:b<w2.heap.size:=hx1.lt (by simp)
 have x00:=(hx1 0 _ rfl).1
 have x01:=(hx1 0 _ rfl).2.1
 have x02:=(hx1 0 _ rfl).2.2
 have x10:=(hx1 1 _ rfl).1
 have x11:=(hx1 1 _ rfl).2.1
 have x12:=(hx1 1 _ rfl).2.2
 simp only [Nat.zero_mul,Nat.add_zero,Nat.one_mul,Nat.add_assoc,Nat.reduceAdd] at x00 x01 x02 x10 x11 x12
 have hA0:Below w2.heap.size w2 (w2.alloc (.cells #[.int .i64 k,.int .i64 n,.int .i64 p] 133)):=(Below.refl _ _).alloc (Nat.le_refl _) _
 have fe0:=cell_later hA0 e0
 have fe1:=cell_later hA0 e1
 have fx00:=cell_later hA0 x00
 have fx01:=cell_later hA0 x01
 have fx02:=cell_later hA0 x02
 have fx10:=cell_later hA0 x10
 have fx11:=cell_later hA0 x11
 have fx12:=cell_later hA0 x12
 have fa0:(w2.alloc (.cells #[.int .i64 k,.int .i64 n,.int .i64 p] 133)).cell? ⟨w2.heap.size,0,none⟩=some (.int .i64 k):=by simp
 have fa1:(w2.alloc (.cells #[.int .i64 k,.int .i64 n,.int .i64 p] 133)).cell? ⟨w2.heap.size,1,none⟩=some (.int .i64 n):=by simp
 have fa2:(w2.alloc (.cells #[.int .i64 k,.int .i64 n,.int .i64 p] 133)).cell? ⟨w2.heap.size,2,none⟩=some (.int .i64 p):=by simp
 have hbA:Below w.heap.size w (w2.alloc (.cells #[.int .i64 k,.int .i64 n,.int .i64 p] 133)):=hb1.alloc hb1.size _
 go_wp2_with fail
 refine (h0.out _).mono ?_
 rintro e w3 ⟨rfl,g3⟩
 have D3:Below (w2.alloc (.cells #[.int .i64 k,.int .i64 n,.int .i64 p] 133)).heap.size (w2.alloc (.cells #[.int .i64 k,.int .i64 n,.int .i64 p] 133)) w3:=g3
 have z3fe0:=cell_later D3 fe0
 have z3fe1:=cell_later D3 fe1
 have z3fx00:=cell_later D3 fx00
 have z3fx01:=cell_later D3 fx01
 have z3fx02:=cell_later D3 fx02
 have z3fx10:=cell_later D3 fx10
 have z3fx11:=cell_later D3 fx11
 have z3fx12:=cell_later D3 fx12
 have z3fa0:=cell_later D3 fa0
 have z3fa1:=cell_later D3 fa1
 have z3fa2:=cell_later D3 fa2
 clear g3
 cases r0 with
 | true =>
  go_wp2_with fail
  refine (h1.out _).mono ?_
  rintro e w4 ⟨rfl,g4⟩
  have D4:Below (w2.alloc (.cells #[.int .i64 k,.int .i64 n,.int .i64 p] 133)).heap.size (w2.alloc (.cells #[.int .i64 k,.int .i64 n,.int .i64 p] 133)) w4:=D3.trans (g4.mono D3.size)
  have z4fe0:=cell_later D4 fe0
  have z4fe1:=cell_later D4 fe1
  have z4fx00:=cell_later D4 fx00
  have z4fx01:=cell_later D4 fx01
  have z4fx02:=cell_later D4 fx02
  have z4fx10:=cell_later D4 fx10
  have z4fx11:=cell_later D4 fx11
  have z4fx12:=cell_later D4 fx12
  have z4fa0:=cell_later D4 fa0
  have z4fa1:=cell_later D4 fa1
  have z4fa2:=cell_later D4 fa2
  clear g4
  cases r1 with
  | true =>
   go_wp2
   go_ret
   exact ⟨by simp,hbA.trans (D4.mono hbA.size)⟩
  | false =>
   go_wp2
   go_ret
   exact ⟨by simp,hbA.trans (D4.mono hbA.size)⟩
 | false =>
  go_wp2
  go_ret
  exact ⟨by simp,hbA.trans (D3.mono hbA.size)⟩
set_option maxRecDepth 10000 in
theorem scoil27(k n p k1 n1 p1:Int)(r0 r1:Bool)(b o cap:Nat)(w:World)(hx:Ops w b o [(k,n,p),(k1,n1,p1)])
  (hA:Hid (∀W,Calls Tryz.prog 113 #[.int .i64 27] W fun e w'=>e=.returned (.int .i64 2)∧Below W.heap.size W w'))
  (h0:Hid (∀W,Calls Tryz.prog 114 #[.agg #[.int .i64 k,.int .i64 n,.int .i64 p],.int .i64 7,.int .i64 7] W fun e w'=>e=.returned (.bool r0)∧Below W.heap.size W w'))
  (h1:Hid (∀W,Calls Tryz.prog 114 #[.agg #[.int .i64 k1,.int .i64 n1,.int .i64 p1],.int .i64 11,.int .i64 11] W fun e w'=>e=.returned (.bool r1)∧Below W.heap.size W w')) :
  Calls Tryz.prog 72 #[.agg #[.int .i64 27,.slice (some ⟨b,o,none⟩) 2 cap]] w fun e w'=>e=.returned (.bool (r0&&r1&&decide (0≤n1)))∧Below w.heap.size w w':=by
 have hb0:Below w.heap.size w (w.alloc (.cells #[.int .i64 27,.slice (some ⟨b,o,none⟩) 2 cap] 50)):=(Below.refl _ _).alloc (Nat.le_refl _) _
 have k0:=cell_regrown (w:=(w.alloc (.cells #[.int .i64 27,.slice (some ⟨b,o,none⟩) 2 cap] 50))) (a:=⟨w.heap.size,0,none⟩) (v:=.int .i64 27) (by simp)
 have k1:=cell_regrown (w:=(w.alloc (.cells #[.int .i64 27,.slice (some ⟨b,o,none⟩) 2 cap] 50))) (a:=⟨w.heap.size,1,none⟩) (v:=.slice (some ⟨b,o,none⟩) 2 cap) (by simp)
 have cA:∀d os,Calls Tryz.prog 113 #[.int .i64 27] (Sort.grow (redrawn (w.alloc (.cells #[.int .i64 27,.slice (some ⟨b,o,none⟩) 2 cap] 50)) d) os) fun e w''=>e=.returned (.int .i64 2)∧∃p:Regrown,w''=Sort.grow (redrawn (w.alloc (.cells #[.int .i64 27,.slice (some ⟨b,o,none⟩) 2 cap] 50)) p.d) p.os :=
  fun d os=>Calls.regrown_of (hA.out _)
 clear hA
 go_enter Tryz.func72,Tryz.ntmps72
 go_upto_region 1 with fail
 refine wp_region_quiet_below (by kernel_rfl) (by kernel_rfl) ?_
 repeat (go_big_quiet_step (first|exact cA _ _))
 refine wpQuiet_nil ?_
 intro _ hw'
 obtain ⟨⟨dq,osq⟩,hw''⟩:=hw'
 subst hw''
 have e0:=k0 dq osq
 have e1:=k1 dq osq
 have hb1:=hb0.trans ((below_regrown (w.alloc (.cells #[.int .i64 27,.slice (some ⟨b,o,none⟩) 2 cap] 50)) dq osq).mono hb0.size)
 have hx1:=hx.later hb1
 have lt1:w.heap.size<(Sort.grow (redrawn (w.alloc (.cells #[.int .i64 27,.slice (some ⟨b,o,none⟩) 2 cap] 50)) dq) osq).heap.size:=World.block_lt_of_cell? _ _ e0
 dsimp only at e0 e1 hb1 hx1 lt1 ⊢
 generalize Sort.grow (redrawn (w.alloc (.cells #[.int .i64 27,.slice (some ⟨b,o,none⟩) 2 cap] 50)) dq) osq=w2 at e0 e1 hb1 hx1 lt1 ⊢
 clear cA k0 k1 hb0 hx
 have lt2:b<w2.heap.size:=hx1.lt (by simp)
 have x00:=(hx1 0 _ rfl).1
 have x01:=(hx1 0 _ rfl).2.1
 have x02:=(hx1 0 _ rfl).2.2
 have x10:=(hx1 1 _ rfl).1
 have x11:=(hx1 1 _ rfl).2.1
 have x12:=(hx1 1 _ rfl).2.2
 simp only [Nat.zero_mul,Nat.add_zero,Nat.one_mul,Nat.add_assoc,Nat.reduceAdd] at x00 x01 x02 x10 x11 x12
 have hA0:Below w2.heap.size w2 (w2.alloc (.cells #[.int .i64 k,.int .i64 n,.int .i64 p] 133)):=(Below.refl _ _).alloc (Nat.le_refl _) _
 have fe0:=cell_later hA0 e0
 have fe1:=cell_later hA0 e1
 have fx00:=cell_later hA0 x00
 have fx01:=cell_later hA0 x01
 have fx02:=cell_later hA0 x02
 have fx10:=cell_later hA0 x10
 have fx11:=cell_later hA0 x11
 have fx12:=cell_later hA0 x12
 have fa0:(w2.alloc (.cells #[.int .i64 k,.int .i64 n,.int .i64 p] 133)).cell? ⟨w2.heap.size,0,none⟩=some (.int .i64 k):=by simp
 have fa1:(w2.alloc (.cells #[.int .i64 k,.int .i64 n,.int .i64 p] 133)).cell? ⟨w2.heap.size,1,none⟩=some (.int .i64 n):=by simp
 have fa2:(w2.alloc (.cells #[.int .i64 k,.int .i64 n,.int .i64 p] 133)).cell? ⟨w2.heap.size,2,none⟩=some (.int .i64 p):=by simp
 have hbA:Below w.heap.size w (w2.alloc (.cells #[.int .i64 k,.int .i64 n,.int .i64 p] 133)):=hb1.alloc hb1.size _
 go_wp2_with fail
 refine (h0.out _).mono ?_
 rintro e w3 ⟨rfl,g3⟩
 have D3:Below (w2.alloc (.cells #[.int .i64 k,.int .i64 n,.int .i64 p] 133)).heap.size (w2.alloc (.cells #[.int .i64 k,.int .i64 n,.int .i64 p] 133)) w3:=g3
 have z3fe0:=cell_later D3 fe0
 have z3fe1:=cell_later D3 fe1
 have z3fx00:=cell_later D3 fx00
 have z3fx01:=cell_later D3 fx01
 have z3fx02:=cell_later D3 fx02
 have z3fx10:=cell_later D3 fx10
 have z3fx11:=cell_later D3 fx11
 have z3fx12:=cell_later D3 fx12
 have z3fa0:=cell_later D3 fa0
 have z3fa1:=cell_later D3 fa1
 have z3fa2:=cell_later D3 fa2
 clear g3
 cases r0 with
 | true =>
  go_wp2_with fail
  refine (h1.out _).mono ?_
  rintro e w4 ⟨rfl,g4⟩
  have D4:Below (w2.alloc (.cells #[.int .i64 k,.int .i64 n,.int .i64 p] 133)).heap.size (w2.alloc (.cells #[.int .i64 k,.int .i64 n,.int .i64 p] 133)) w4:=D3.trans (g4.mono D3.size)
  have z4fe0:=cell_later D4 fe0
  have z4fe1:=cell_later D4 fe1
  have z4fx00:=cell_later D4 fx00
  have z4fx01:=cell_later D4 fx01
  have z4fx02:=cell_later D4 fx02
  have z4fx10:=cell_later D4 fx10
  have z4fx11:=cell_later D4 fx11
  have z4fx12:=cell_later D4 fx12
  have z4fa0:=cell_later D4 fa0
  have z4fa1:=cell_later D4 fa1
  have z4fa2:=cell_later D4 fa2
  clear g4
  cases r1 with
  | true =>
   go_wp2
   go_ret
   exact ⟨by simp,hbA.trans (D4.mono hbA.size)⟩
  | false =>
   go_wp2
   go_ret
   exact ⟨by simp,hbA.trans (D4.mono hbA.size)⟩
 | false =>
  go_wp2
  go_ret
  exact ⟨by simp,hbA.trans (D3.mono hbA.size)⟩
set_option maxRecDepth 10000 in
theorem scoil28(k n p k1 n1 p1:Int)(r0 r1:Bool)(b o cap:Nat)(w:World)(hx:Ops w b o [(k,n,p),(k1,n1,p1)])
  (hA:Hid (∀W,Calls Tryz.prog 113 #[.int .i64 28] W fun e w'=>e=.returned (.int .i64 2)∧Below W.heap.size W w'))
  (h0:Hid (∀W,Calls Tryz.prog 114 #[.agg #[.int .i64 k,.int .i64 n,.int .i64 p],.int .i64 7,.int .i64 7] W fun e w'=>e=.returned (.bool r0)∧Below W.heap.size W w'))
  (h1:Hid (∀W,Calls Tryz.prog 114 #[.agg #[.int .i64 k1,.int .i64 n1,.int .i64 p1],.int .i64 11,.int .i64 11] W fun e w'=>e=.returned (.bool r1)∧Below W.heap.size W w')) :
  Calls Tryz.prog 72 #[.agg #[.int .i64 28,.slice (some ⟨b,o,none⟩) 2 cap]] w fun e w'=>e=.returned (.bool (r0&&r1&&decide (0≤n1)))∧Below w.heap.size w w':=by
 have hb0:Below w.heap.size w (w.alloc (.cells #[.int .i64 28,.slice (some ⟨b,o,none⟩) 2 cap] 50)):=(Below.refl _ _).alloc (Nat.le_refl _) _
 have k0:=cell_regrown (w:=(w.alloc (.cells #[.int .i64 28,.slice (some ⟨b,o,none⟩) 2 cap] 50))) (a:=⟨w.heap.size,0,none⟩) (v:=.int .i64 28) (by simp)
 have k1:=cell_regrown (w:=(w.alloc (.cells #[.int .i64 28,.slice (some ⟨b,o,none⟩) 2 cap] 50))) (a:=⟨w.heap.size,1,none⟩) (v:=.slice (some ⟨b,o,none⟩) 2 cap) (by simp)
 have cA:∀d os,Calls Tryz.prog 113 #[.int .i64 28] (Sort.grow (redrawn (w.alloc (.cells #[.int .i64 28,.slice (some ⟨b,o,none⟩) 2 cap] 50)) d) os) fun e w''=>e=.returned (.int .i64 2)∧∃p:Regrown,w''=Sort.grow (redrawn (w.alloc (.cells #[.int .i64 28,.slice (some ⟨b,o,none⟩) 2 cap] 50)) p.d) p.os :=
  fun d os=>Calls.regrown_of (hA.out _)
 clear hA
 go_enter Tryz.func72,Tryz.ntmps72
 go_upto_region 1 with fail
 refine wp_region_quiet_below (by kernel_rfl) (by kernel_rfl) ?_
 repeat (go_big_quiet_step (first|exact cA _ _))
 refine wpQuiet_nil ?_
 intro _ hw'
 obtain ⟨⟨dq,osq⟩,hw''⟩:=hw'
 subst hw''
 have e0:=k0 dq osq
 have e1:=k1 dq osq
 have hb1:=hb0.trans ((below_regrown (w.alloc (.cells #[.int .i64 28,.slice (some ⟨b,o,none⟩) 2 cap] 50)) dq osq).mono hb0.size)
 have hx1:=hx.later hb1
 have lt1:w.heap.size<(Sort.grow (redrawn (w.alloc (.cells #[.int .i64 28,.slice (some ⟨b,o,none⟩) 2 cap] 50)) dq) osq).heap.size:=World.block_lt_of_cell? _ _ e0
 dsimp only at e0 e1 hb1 hx1 lt1 ⊢
 generalize Sort.grow (redrawn (w.alloc (.cells #[.int .i64 28,.slice (some ⟨b,o,none⟩) 2 cap] 50)) dq) osq=w2 at e0 e1 hb1 hx1 lt1 ⊢
 clear cA k0 k1 hb0 hx
 have lt2:b<w2.heap.size:=hx1.lt (by simp)
 have x00:=(hx1 0 _ rfl).1
 have x01:=(hx1 0 _ rfl).2.1
 have x02:=(hx1 0 _ rfl).2.2
 have x10:=(hx1 1 _ rfl).1
 have x11:=(hx1 1 _ rfl).2.1
 have x12:=(hx1 1 _ rfl).2.2
 simp only [Nat.zero_mul,Nat.add_zero,Nat.one_mul,Nat.add_assoc,Nat.reduceAdd] at x00 x01 x02 x10 x11 x12
 have hA0:Below w2.heap.size w2 (w2.alloc (.cells #[.int .i64 k,.int .i64 n,.int .i64 p] 133)):=(Below.refl _ _).alloc (Nat.le_refl _) _
 have fe0:=cell_later hA0 e0
 have fe1:=cell_later hA0 e1
 have fx00:=cell_later hA0 x00
 have fx01:=cell_later hA0 x01
 have fx02:=cell_later hA0 x02
 have fx10:=cell_later hA0 x10
 have fx11:=cell_later hA0 x11
 have fx12:=cell_later hA0 x12
 have fa0:(w2.alloc (.cells #[.int .i64 k,.int .i64 n,.int .i64 p] 133)).cell? ⟨w2.heap.size,0,none⟩=some (.int .i64 k):=by simp
 have fa1:(w2.alloc (.cells #[.int .i64 k,.int .i64 n,.int .i64 p] 133)).cell? ⟨w2.heap.size,1,none⟩=some (.int .i64 n):=by simp
 have fa2:(w2.alloc (.cells #[.int .i64 k,.int .i64 n,.int .i64 p] 133)).cell? ⟨w2.heap.size,2,none⟩=some (.int .i64 p):=by simp
 have hbA:Below w.heap.size w (w2.alloc (.cells #[.int .i64 k,.int .i64 n,.int .i64 p] 133)):=hb1.alloc hb1.size _
 go_wp2_with fail
 refine (h0.out _).mono ?_
 rintro e w3 ⟨rfl,g3⟩
 have D3:Below (w2.alloc (.cells #[.int .i64 k,.int .i64 n,.int .i64 p] 133)).heap.size (w2.alloc (.cells #[.int .i64 k,.int .i64 n,.int .i64 p] 133)) w3:=g3
 have z3fe0:=cell_later D3 fe0
 have z3fe1:=cell_later D3 fe1
 have z3fx00:=cell_later D3 fx00
 have z3fx01:=cell_later D3 fx01
 have z3fx02:=cell_later D3 fx02
 have z3fx10:=cell_later D3 fx10
 have z3fx11:=cell_later D3 fx11
 have z3fx12:=cell_later D3 fx12
 have z3fa0:=cell_later D3 fa0
 have z3fa1:=cell_later D3 fa1
 have z3fa2:=cell_later D3 fa2
 clear g3
 cases r0 with
 | true =>
  go_wp2_with fail
  refine (h1.out _).mono ?_
  rintro e w4 ⟨rfl,g4⟩
  have D4:Below (w2.alloc (.cells #[.int .i64 k,.int .i64 n,.int .i64 p] 133)).heap.size (w2.alloc (.cells #[.int .i64 k,.int .i64 n,.int .i64 p] 133)) w4:=D3.trans (g4.mono D3.size)
  have z4fe0:=cell_later D4 fe0
  have z4fe1:=cell_later D4 fe1
  have z4fx00:=cell_later D4 fx00
  have z4fx01:=cell_later D4 fx01
  have z4fx02:=cell_later D4 fx02
  have z4fx10:=cell_later D4 fx10
  have z4fx11:=cell_later D4 fx11
  have z4fx12:=cell_later D4 fx12
  have z4fa0:=cell_later D4 fa0
  have z4fa1:=cell_later D4 fa1
  have z4fa2:=cell_later D4 fa2
  clear g4
  cases r1 with
  | true =>
   go_wp2
   go_ret
   exact ⟨by simp,hbA.trans (D4.mono hbA.size)⟩
  | false =>
   go_wp2
   go_ret
   exact ⟨by simp,hbA.trans (D4.mono hbA.size)⟩
 | false =>
  go_wp2
  go_ret
  exact ⟨by simp,hbA.trans (D3.mono hbA.size)⟩
set_option maxRecDepth 10000 in
theorem scoil29(k n p k1 n1 p1:Int)(r0 r1:Bool)(b o cap:Nat)(w:World)(hx:Ops w b o [(k,n,p),(k1,n1,p1)])
  (hA:Hid (∀W,Calls Tryz.prog 113 #[.int .i64 29] W fun e w'=>e=.returned (.int .i64 2)∧Below W.heap.size W w'))
  (h0:Hid (∀W,Calls Tryz.prog 114 #[.agg #[.int .i64 k,.int .i64 n,.int .i64 p],.int .i64 8,.int .i64 8] W fun e w'=>e=.returned (.bool r0)∧Below W.heap.size W w'))
  (h1:Hid (∀W,Calls Tryz.prog 114 #[.agg #[.int .i64 k1,.int .i64 n1,.int .i64 p1],.int .i64 11,.int .i64 11] W fun e w'=>e=.returned (.bool r1)∧Below W.heap.size W w')) :
  Calls Tryz.prog 72 #[.agg #[.int .i64 29,.slice (some ⟨b,o,none⟩) 2 cap]] w fun e w'=>e=.returned (.bool (r0&&r1&&decide (0≤n1)))∧Below w.heap.size w w':=by
 have hb0:Below w.heap.size w (w.alloc (.cells #[.int .i64 29,.slice (some ⟨b,o,none⟩) 2 cap] 50)):=(Below.refl _ _).alloc (Nat.le_refl _) _
 have k0:=cell_regrown (w:=(w.alloc (.cells #[.int .i64 29,.slice (some ⟨b,o,none⟩) 2 cap] 50))) (a:=⟨w.heap.size,0,none⟩) (v:=.int .i64 29) (by simp)
 have k1:=cell_regrown (w:=(w.alloc (.cells #[.int .i64 29,.slice (some ⟨b,o,none⟩) 2 cap] 50))) (a:=⟨w.heap.size,1,none⟩) (v:=.slice (some ⟨b,o,none⟩) 2 cap) (by simp)
 have cA:∀d os,Calls Tryz.prog 113 #[.int .i64 29] (Sort.grow (redrawn (w.alloc (.cells #[.int .i64 29,.slice (some ⟨b,o,none⟩) 2 cap] 50)) d) os) fun e w''=>e=.returned (.int .i64 2)∧∃p:Regrown,w''=Sort.grow (redrawn (w.alloc (.cells #[.int .i64 29,.slice (some ⟨b,o,none⟩) 2 cap] 50)) p.d) p.os :=
  fun d os=>Calls.regrown_of (hA.out _)
 clear hA
 go_enter Tryz.func72,Tryz.ntmps72
 go_upto_region 1 with fail
 refine wp_region_quiet_below (by kernel_rfl) (by kernel_rfl) ?_
 repeat (go_big_quiet_step (first|exact cA _ _))
 refine wpQuiet_nil ?_
 intro _ hw'
 obtain ⟨⟨dq,osq⟩,hw''⟩:=hw'
 subst hw''
 have e0:=k0 dq osq
 have e1:=k1 dq osq
 have hb1:=hb0.trans ((below_regrown (w.alloc (.cells #[.int .i64 29,.slice (some ⟨b,o,none⟩) 2 cap] 50)) dq osq).mono hb0.size)
 have hx1:=hx.later hb1
 have lt1:w.heap.size<(Sort.grow (redrawn (w.alloc (.cells #[.int .i64 29,.slice (some ⟨b,o,none⟩) 2 cap] 50)) dq) osq).heap.size:=World.block_lt_of_cell? _ _ e0
 dsimp only at e0 e1 hb1 hx1 lt1 ⊢
 generalize Sort.grow (redrawn (w.alloc (.cells #[.int .i64 29,.slice (some ⟨b,o,none⟩) 2 cap] 50)) dq) osq=w2 at e0 e1 hb1 hx1 lt1 ⊢
 clear cA k0 k1 hb0 hx
 have lt2:b<w2.heap.size:=hx1.lt (by simp)
 have x00:=(hx1 0 _ rfl).1
 have x01:=(hx1 0 _ rfl).2.1
 have x02:=(hx1 0 _ rfl).2.2
 have x10:=(hx1 1 _ rfl).1
 have x11:=(hx1 1 _ rfl).2.1
 have x12:=(hx1 1 _ rfl).2.2
 simp only [Nat.zero_mul,Nat.add_zero,Nat.one_mul,Nat.add_assoc,Nat.reduceAdd] at x00 x01 x02 x10 x11 x12
 have hA0:Below w2.heap.size w2 (w2.alloc (.cells #[.int .i64 k,.int .i64 n,.int .i64 p] 133)):=(Below.refl _ _).alloc (Nat.le_refl _) _
 have fe0:=cell_later hA0 e0
 have fe1:=cell_later hA0 e1
 have fx00:=cell_later hA0 x00
 have fx01:=cell_later hA0 x01
 have fx02:=cell_later hA0 x02
 have fx10:=cell_later hA0 x10
 have fx11:=cell_later hA0 x11
 have fx12:=cell_later hA0 x12
 have fa0:(w2.alloc (.cells #[.int .i64 k,.int .i64 n,.int .i64 p] 133)).cell? ⟨w2.heap.size,0,none⟩=some (.int .i64 k):=by simp
 have fa1:(w2.alloc (.cells #[.int .i64 k,.int .i64 n,.int .i64 p] 133)).cell? ⟨w2.heap.size,1,none⟩=some (.int .i64 n):=by simp
 have fa2:(w2.alloc (.cells #[.int .i64 k,.int .i64 n,.int .i64 p] 133)).cell? ⟨w2.heap.size,2,none⟩=some (.int .i64 p):=by simp
 have hbA:Below w.heap.size w (w2.alloc (.cells #[.int .i64 k,.int .i64 n,.int .i64 p] 133)):=hb1.alloc hb1.size _
 go_wp2_with fail
 refine (h0.out _).mono ?_
 rintro e w3 ⟨rfl,g3⟩
 have D3:Below (w2.alloc (.cells #[.int .i64 k,.int .i64 n,.int .i64 p] 133)).heap.size (w2.alloc (.cells #[.int .i64 k,.int .i64 n,.int .i64 p] 133)) w3:=g3
 have z3fe0:=cell_later D3 fe0
 have z3fe1:=cell_later D3 fe1
 have z3fx00:=cell_later D3 fx00
 have z3fx01:=cell_later D3 fx01
 have z3fx02:=cell_later D3 fx02
 have z3fx10:=cell_later D3 fx10
 have z3fx11:=cell_later D3 fx11
 have z3fx12:=cell_later D3 fx12
 have z3fa0:=cell_later D3 fa0
 have z3fa1:=cell_later D3 fa1
 have z3fa2:=cell_later D3 fa2
 clear g3
 cases r0 with
 | true =>
  go_wp2_with fail
  refine (h1.out _).mono ?_
  rintro e w4 ⟨rfl,g4⟩
  have D4:Below (w2.alloc (.cells #[.int .i64 k,.int .i64 n,.int .i64 p] 133)).heap.size (w2.alloc (.cells #[.int .i64 k,.int .i64 n,.int .i64 p] 133)) w4:=D3.trans (g4.mono D3.size)
  have z4fe0:=cell_later D4 fe0
  have z4fe1:=cell_later D4 fe1
  have z4fx00:=cell_later D4 fx00
  have z4fx01:=cell_later D4 fx01
  have z4fx02:=cell_later D4 fx02
  have z4fx10:=cell_later D4 fx10
  have z4fx11:=cell_later D4 fx11
  have z4fx12:=cell_later D4 fx12
  have z4fa0:=cell_later D4 fa0
  have z4fa1:=cell_later D4 fa1
  have z4fa2:=cell_later D4 fa2
  clear g4
  cases r1 with
  | true =>
   go_wp2
   go_ret
   exact ⟨by simp,hbA.trans (D4.mono hbA.size)⟩
  | false =>
   go_wp2
   go_ret
   exact ⟨by simp,hbA.trans (D4.mono hbA.size)⟩
 | false =>
  go_wp2
  go_ret
  exact ⟨by simp,hbA.trans (D3.mono hbA.size)⟩
set_option maxRecDepth 10000 in
theorem scoil36(k n p k1 n1 p1:Int)(r0 r1:Bool)(b o cap:Nat)(w:World)(hx:Ops w b o [(k,n,p),(k1,n1,p1)])
  (hA:Hid (∀W,Calls Tryz.prog 113 #[.int .i64 36] W fun e w'=>e=.returned (.int .i64 2)∧Below W.heap.size W w'))
  (h0:Hid (∀W,Calls Tryz.prog 114 #[.agg #[.int .i64 k,.int .i64 n,.int .i64 p],.int .i64 10,.int .i64 10] W fun e w'=>e=.returned (.bool r0)∧Below W.heap.size W w'))
  (h1:Hid (∀W,Calls Tryz.prog 115 #[.agg #[.int .i64 k1,.int .i64 n1,.int .i64 p1]] W fun e w'=>e=.returned (.bool r1)∧Below W.heap.size W w')) :
  Calls Tryz.prog 72 #[.agg #[.int .i64 36,.slice (some ⟨b,o,none⟩) 2 cap]] w fun e w'=>e=.returned (.bool (r0&&r1))∧Below w.heap.size w w':=by
 have hb0:Below w.heap.size w (w.alloc (.cells #[.int .i64 36,.slice (some ⟨b,o,none⟩) 2 cap] 50)):=(Below.refl _ _).alloc (Nat.le_refl _) _
 have k0:=cell_regrown (w:=(w.alloc (.cells #[.int .i64 36,.slice (some ⟨b,o,none⟩) 2 cap] 50))) (a:=⟨w.heap.size,0,none⟩) (v:=.int .i64 36) (by simp)
 have k1:=cell_regrown (w:=(w.alloc (.cells #[.int .i64 36,.slice (some ⟨b,o,none⟩) 2 cap] 50))) (a:=⟨w.heap.size,1,none⟩) (v:=.slice (some ⟨b,o,none⟩) 2 cap) (by simp)
 have cA:∀d os,Calls Tryz.prog 113 #[.int .i64 36] (Sort.grow (redrawn (w.alloc (.cells #[.int .i64 36,.slice (some ⟨b,o,none⟩) 2 cap] 50)) d) os) fun e w''=>e=.returned (.int .i64 2)∧∃p:Regrown,w''=Sort.grow (redrawn (w.alloc (.cells #[.int .i64 36,.slice (some ⟨b,o,none⟩) 2 cap] 50)) p.d) p.os :=
  fun d os=>Calls.regrown_of (hA.out _)
 clear hA
 go_enter Tryz.func72,Tryz.ntmps72
 go_upto_region 1 with fail
 refine wp_region_quiet_below (by kernel_rfl) (by kernel_rfl) ?_
 repeat (go_big_quiet_step (first|exact cA _ _))
 refine wpQuiet_nil ?_
 intro _ hw'
 obtain ⟨⟨dq,osq⟩,hw''⟩:=hw'
 subst hw''
 have e0:=k0 dq osq
 have e1:=k1 dq osq
 have hb1:=hb0.trans ((below_regrown (w.alloc (.cells #[.int .i64 36,.slice (some ⟨b,o,none⟩) 2 cap] 50)) dq osq).mono hb0.size)
 have hx1:=hx.later hb1
 have lt1:w.heap.size<(Sort.grow (redrawn (w.alloc (.cells #[.int .i64 36,.slice (some ⟨b,o,none⟩) 2 cap] 50)) dq) osq).heap.size:=World.block_lt_of_cell? _ _ e0
 dsimp only at e0 e1 hb1 hx1 lt1 ⊢
 generalize Sort.grow (redrawn (w.alloc (.cells #[.int .i64 36,.slice (some ⟨b,o,none⟩) 2 cap] 50)) dq) osq=w2 at e0 e1 hb1 hx1 lt1 ⊢
 clear cA k0 k1 hb0 hx
 have lt2:b<w2.heap.size:=hx1.lt (by simp)
 have x00:=(hx1 0 _ rfl).1
 have x01:=(hx1 0 _ rfl).2.1
 have x02:=(hx1 0 _ rfl).2.2
 have x10:=(hx1 1 _ rfl).1
 have x11:=(hx1 1 _ rfl).2.1
 have x12:=(hx1 1 _ rfl).2.2
 simp only [Nat.zero_mul,Nat.add_zero,Nat.one_mul,Nat.add_assoc,Nat.reduceAdd] at x00 x01 x02 x10 x11 x12
 have hA0:Below w2.heap.size w2 (w2.alloc (.cells #[.int .i64 k,.int .i64 n,.int .i64 p] 133)):=(Below.refl _ _).alloc (Nat.le_refl _) _
 have fe0:=cell_later hA0 e0
 have fe1:=cell_later hA0 e1
 have fx00:=cell_later hA0 x00
 have fx01:=cell_later hA0 x01
 have fx02:=cell_later hA0 x02
 have fx10:=cell_later hA0 x10
 have fx11:=cell_later hA0 x11
 have fx12:=cell_later hA0 x12
 have fa0:(w2.alloc (.cells #[.int .i64 k,.int .i64 n,.int .i64 p] 133)).cell? ⟨w2.heap.size,0,none⟩=some (.int .i64 k):=by simp
 have fa1:(w2.alloc (.cells #[.int .i64 k,.int .i64 n,.int .i64 p] 133)).cell? ⟨w2.heap.size,1,none⟩=some (.int .i64 n):=by simp
 have fa2:(w2.alloc (.cells #[.int .i64 k,.int .i64 n,.int .i64 p] 133)).cell? ⟨w2.heap.size,2,none⟩=some (.int .i64 p):=by simp
 have hbA:Below w.heap.size w (w2.alloc (.cells #[.int .i64 k,.int .i64 n,.int .i64 p] 133)):=hb1.alloc hb1.size _
 go_wp2_with fail
 refine (h0.out _).mono ?_
 rintro e w3 ⟨rfl,g3⟩
 have D3:Below (w2.alloc (.cells #[.int .i64 k,.int .i64 n,.int .i64 p] 133)).heap.size (w2.alloc (.cells #[.int .i64 k,.int .i64 n,.int .i64 p] 133)) w3:=g3
 have z3fe0:=cell_later D3 fe0
 have z3fe1:=cell_later D3 fe1
 have z3fx00:=cell_later D3 fx00
 have z3fx01:=cell_later D3 fx01
 have z3fx02:=cell_later D3 fx02
 have z3fx10:=cell_later D3 fx10
 have z3fx11:=cell_later D3 fx11
 have z3fx12:=cell_later D3 fx12
 have z3fa0:=cell_later D3 fa0
 have z3fa1:=cell_later D3 fa1
 have z3fa2:=cell_later D3 fa2
 clear g3
 cases r0 with
 | true =>
  go_wp2_with fail
  refine (h1.out _).mono ?_
  rintro e w4 ⟨rfl,g4⟩
  have D4:Below (w2.alloc (.cells #[.int .i64 k,.int .i64 n,.int .i64 p] 133)).heap.size (w2.alloc (.cells #[.int .i64 k,.int .i64 n,.int .i64 p] 133)) w4:=D3.trans (g4.mono D3.size)
  have z4fe0:=cell_later D4 fe0
  have z4fe1:=cell_later D4 fe1
  have z4fx00:=cell_later D4 fx00
  have z4fx01:=cell_later D4 fx01
  have z4fx02:=cell_later D4 fx02
  have z4fx10:=cell_later D4 fx10
  have z4fx11:=cell_later D4 fx11
  have z4fx12:=cell_later D4 fx12
  have z4fa0:=cell_later D4 fa0
  have z4fa1:=cell_later D4 fa1
  have z4fa2:=cell_later D4 fa2
  clear g4
  cases r1 with
  | true =>
   go_wp2
   go_ret
   exact ⟨by simp,hbA.trans (D4.mono hbA.size)⟩
  | false =>
   go_wp2
   go_ret
   exact ⟨by simp,hbA.trans (D4.mono hbA.size)⟩
 | false =>
  go_wp2
  go_ret
  exact ⟨by simp,hbA.trans (D3.mono hbA.size)⟩
set_option maxRecDepth 10000 in
theorem scoil37(k n p k1 n1 p1:Int)(r0 r1:Bool)(b o cap:Nat)(w:World)(hx:Ops w b o [(k,n,p),(k1,n1,p1)])
  (hA:Hid (∀W,Calls Tryz.prog 113 #[.int .i64 37] W fun e w'=>e=.returned (.int .i64 2)∧Below W.heap.size W w'))
  (h0:Hid (∀W,Calls Tryz.prog 114 #[.agg #[.int .i64 k,.int .i64 n,.int .i64 p],.int .i64 9,.int .i64 9] W fun e w'=>e=.returned (.bool r0)∧Below W.heap.size W w'))
  (h1:Hid (∀W,Calls Tryz.prog 116 #[.agg #[.int .i64 k1,.int .i64 n1,.int .i64 p1]] W fun e w'=>e=.returned (.bool r1)∧Below W.heap.size W w')) :
  Calls Tryz.prog 72 #[.agg #[.int .i64 37,.slice (some ⟨b,o,none⟩) 2 cap]] w fun e w'=>e=.returned (.bool (r0&&r1))∧Below w.heap.size w w':=by
 have hb0:Below w.heap.size w (w.alloc (.cells #[.int .i64 37,.slice (some ⟨b,o,none⟩) 2 cap] 50)):=(Below.refl _ _).alloc (Nat.le_refl _) _
 have k0:=cell_regrown (w:=(w.alloc (.cells #[.int .i64 37,.slice (some ⟨b,o,none⟩) 2 cap] 50))) (a:=⟨w.heap.size,0,none⟩) (v:=.int .i64 37) (by simp)
 have k1:=cell_regrown (w:=(w.alloc (.cells #[.int .i64 37,.slice (some ⟨b,o,none⟩) 2 cap] 50))) (a:=⟨w.heap.size,1,none⟩) (v:=.slice (some ⟨b,o,none⟩) 2 cap) (by simp)
 have cA:∀d os,Calls Tryz.prog 113 #[.int .i64 37] (Sort.grow (redrawn (w.alloc (.cells #[.int .i64 37,.slice (some ⟨b,o,none⟩) 2 cap] 50)) d) os) fun e w''=>e=.returned (.int .i64 2)∧∃p:Regrown,w''=Sort.grow (redrawn (w.alloc (.cells #[.int .i64 37,.slice (some ⟨b,o,none⟩) 2 cap] 50)) p.d) p.os :=
  fun d os=>Calls.regrown_of (hA.out _)
 clear hA
 go_enter Tryz.func72,Tryz.ntmps72
 go_upto_region 1 with fail
 refine wp_region_quiet_below (by kernel_rfl) (by kernel_rfl) ?_
 repeat (go_big_quiet_step (first|exact cA _ _))
 refine wpQuiet_nil ?_
 intro _ hw'
 obtain ⟨⟨dq,osq⟩,hw''⟩:=hw'
 subst hw''
 have e0:=k0 dq osq
 have e1:=k1 dq osq
 have hb1:=hb0.trans ((below_regrown (w.alloc (.cells #[.int .i64 37,.slice (some ⟨b,o,none⟩) 2 cap] 50)) dq osq).mono hb0.size)
 have hx1:=hx.later hb1
 have lt1:w.heap.size<(Sort.grow (redrawn (w.alloc (.cells #[.int .i64 37,.slice (some ⟨b,o,none⟩) 2 cap] 50)) dq) osq).heap.size:=World.block_lt_of_cell? _ _ e0
 dsimp only at e0 e1 hb1 hx1 lt1 ⊢
 generalize Sort.grow (redrawn (w.alloc (.cells #[.int .i64 37,.slice (some ⟨b,o,none⟩) 2 cap] 50)) dq) osq=w2 at e0 e1 hb1 hx1 lt1 ⊢
 clear cA k0 k1 hb0 hx
 have lt2:b<w2.heap.size:=hx1.lt (by simp)
 have x00:=(hx1 0 _ rfl).1
 have x01:=(hx1 0 _ rfl).2.1
 have x02:=(hx1 0 _ rfl).2.2
 have x10:=(hx1 1 _ rfl).1
 have x11:=(hx1 1 _ rfl).2.1
 have x12:=(hx1 1 _ rfl).2.2
 simp only [Nat.zero_mul,Nat.add_zero,Nat.one_mul,Nat.add_assoc,Nat.reduceAdd] at x00 x01 x02 x10 x11 x12
 have hA0:Below w2.heap.size w2 (w2.alloc (.cells #[.int .i64 k,.int .i64 n,.int .i64 p] 133)):=(Below.refl _ _).alloc (Nat.le_refl _) _
 have fe0:=cell_later hA0 e0
 have fe1:=cell_later hA0 e1
 have fx00:=cell_later hA0 x00
 have fx01:=cell_later hA0 x01
 have fx02:=cell_later hA0 x02
 have fx10:=cell_later hA0 x10
 have fx11:=cell_later hA0 x11
 have fx12:=cell_later hA0 x12
 have fa0:(w2.alloc (.cells #[.int .i64 k,.int .i64 n,.int .i64 p] 133)).cell? ⟨w2.heap.size,0,none⟩=some (.int .i64 k):=by simp
 have fa1:(w2.alloc (.cells #[.int .i64 k,.int .i64 n,.int .i64 p] 133)).cell? ⟨w2.heap.size,1,none⟩=some (.int .i64 n):=by simp
 have fa2:(w2.alloc (.cells #[.int .i64 k,.int .i64 n,.int .i64 p] 133)).cell? ⟨w2.heap.size,2,none⟩=some (.int .i64 p):=by simp
 have hbA:Below w.heap.size w (w2.alloc (.cells #[.int .i64 k,.int .i64 n,.int .i64 p] 133)):=hb1.alloc hb1.size _
 go_wp2_with fail
 refine (h0.out _).mono ?_
 rintro e w3 ⟨rfl,g3⟩
 have D3:Below (w2.alloc (.cells #[.int .i64 k,.int .i64 n,.int .i64 p] 133)).heap.size (w2.alloc (.cells #[.int .i64 k,.int .i64 n,.int .i64 p] 133)) w3:=g3
 have z3fe0:=cell_later D3 fe0
 have z3fe1:=cell_later D3 fe1
 have z3fx00:=cell_later D3 fx00
 have z3fx01:=cell_later D3 fx01
 have z3fx02:=cell_later D3 fx02
 have z3fx10:=cell_later D3 fx10
 have z3fx11:=cell_later D3 fx11
 have z3fx12:=cell_later D3 fx12
 have z3fa0:=cell_later D3 fa0
 have z3fa1:=cell_later D3 fa1
 have z3fa2:=cell_later D3 fa2
 clear g3
 cases r0 with
 | true =>
  go_wp2_with fail
  refine (h1.out _).mono ?_
  rintro e w4 ⟨rfl,g4⟩
  have D4:Below (w2.alloc (.cells #[.int .i64 k,.int .i64 n,.int .i64 p] 133)).heap.size (w2.alloc (.cells #[.int .i64 k,.int .i64 n,.int .i64 p] 133)) w4:=D3.trans (g4.mono D3.size)
  have z4fe0:=cell_later D4 fe0
  have z4fe1:=cell_later D4 fe1
  have z4fx00:=cell_later D4 fx00
  have z4fx01:=cell_later D4 fx01
  have z4fx02:=cell_later D4 fx02
  have z4fx10:=cell_later D4 fx10
  have z4fx11:=cell_later D4 fx11
  have z4fx12:=cell_later D4 fx12
  have z4fa0:=cell_later D4 fa0
  have z4fa1:=cell_later D4 fa1
  have z4fa2:=cell_later D4 fa2
  clear g4
  cases r1 with
  | true =>
   go_wp2
   go_ret
   exact ⟨by simp,hbA.trans (D4.mono hbA.size)⟩
  | false =>
   go_wp2
   go_ret
   exact ⟨by simp,hbA.trans (D4.mono hbA.size)⟩
 | false =>
  go_wp2
  go_ret
  exact ⟨by simp,hbA.trans (D3.mono hbA.size)⟩
theorem zan(k n p A B:Int)(w:World) :
  Calls Tryz.prog 114 #[.agg #[.int .i64 k,.int .i64 n,.int .i64 p],.int .i64 A,.int .i64 B] w fun e w'=>e=.returned (.bool (okA k n p&&(k==A||k==B)))∧Below w.heap.size w w':=by
 have HK:Hid (∀W,Calls Tryz.prog 143 #[.agg #[.int .i64 k,.int .i64 n,.int .i64 p]] W fun e w'=>e=.returned (.bool (okA k n p))∧Below W.heap.size W w'):=fun W=>zck k n p W
 cases ho:okA k n p with
 | false =>
  rw [ho] at HK
  go_enter Tryz.func114,Tryz.ntmps114
  go_wp2_with fail
  refine (HK.out _).mono ?_
  rintro e w1 ⟨rfl,g1⟩
  have b1:Below w.heap.size w w1:=((Below.refl _ _).alloc (Nat.le_refl _) _).trans (g1.mono (by simp))
  clear g1
  go_wp2
  go_ret
  exact ⟨by simp,b1⟩
 | true =>
  rw [ho] at HK
  cases hA:(k==A) with
  | true =>
   go_enter Tryz.func114,Tryz.ntmps114
   go_wp2_with fail
   refine (HK.out _).mono ?_
   rintro e w1 ⟨rfl,g1⟩
   have c0:w1.cell? ⟨w.heap.size,0,none⟩=some (.int .i64 k):=cell_later g1 (by simp)
   have b1:Below w.heap.size w w1:=((Below.refl _ _).alloc (Nat.le_refl _) _).trans (g1.mono (by simp))
   clear g1
   go_wp2
   go_ret
   exact ⟨by simp,b1⟩
  | false =>
   go_enter Tryz.func114,Tryz.ntmps114
   go_wp2_with fail
   refine (HK.out _).mono ?_
   rintro e w1 ⟨rfl,g1⟩
   have c0:w1.cell? ⟨w.heap.size,0,none⟩=some (.int .i64 k):=cell_later g1 (by simp)
   have b1:Below w.heap.size w w1:=((Below.refl _ _).alloc (Nat.le_refl _) _).trans (g1.mono (by simp))
   clear g1
   go_wp2
   go_ret
   exact ⟨by simp,b1⟩
def zbp(op:Int)(m:Nat)(X:Nat→Arg):Bool :=
 (okA (X 0).1 (X 0).2.1 (X 0).2.2&&((X 0).1==9||(X 0).1==10))&&((List.range (m-1)).all fun j=>if (X 0).1==9 then okA (X (j+1)).1 (X (j+1)).2.1 (X (j+1)).2.2&&kW (X (j+1)).1 else okA (X (j+1)).1 (X (j+1)).2.1 (X (j+1)).2.2&&kR (X (j+1)).1)&&((X 0).1==9||!(op==35))
set_option maxRecDepth 10000 in
theorem zda(op:Int)(m:Nat)(hm2:2≤m)(hm3:m≤3)(X:Nat→Arg)(b o cap:Nat)(w:World)
  (hX:∀n,n<m→w.cell? ⟨b,o+n*3,none⟩=some (.int .i64 (X n).1)∧w.cell? ⟨b,o+n*3+1,none⟩=some (.int .i64 (X n).2.1)∧w.cell? ⟨b,o+n*3+2,none⟩=some (.int .i64 (X n).2.2)) :
  Calls Tryz.prog 117 #[.agg #[.int .i64 op,.slice (some ⟨b,o,none⟩) m cap]] w fun e w'=>e=.returned (.bool (zbp op m X))∧Below w.heap.size w w':=by
 have HK:Hid (∀W,Calls Tryz.prog 114 #[.agg #[.int .i64 (X 0).1,.int .i64 (X 0).2.1,.int .i64 (X 0).2.2],.int .i64 9,.int .i64 10] W fun e w'=>e=.returned (.bool (okA (X 0).1 (X 0).2.1 (X 0).2.2&&((X 0).1==9||(X 0).1==10)))∧Below W.heap.size W w'):=fun W=>zan _ _ _ 9 10 W
 have bl:b<w.heap.size:=World.block_lt_of_cell? _ _ (hX 0 (by omega)).1
 have x0:=(hX 0 (by omega)).1
 have x1:=(hX 0 (by omega)).2.1
 have x2:=(hX 0 (by omega)).2.2
 simp only [Nat.zero_mul,Nat.add_zero] at x0 x1 x2
 obtain ⟨R,HR⟩:∃R,Hid (R=zbp op m X):=⟨_,Eq.refl (zbp op m X)⟩
 rw [←HR.out]
 generalize hr0:(okA (X 0).1 (X 0).2.1 (X 0).2.2&&((X 0).1==9||(X 0).1==10))=r0 at HK
 have hm0:(0:Int)<(m:Int):=by omega
 have h0:∀ob,(w.alloc ob).cell? ⟨b,o,none⟩=some (.int .i64 (X 0).1):=fun ob=>(World.cell?_alloc_past _ _ _ bl).trans x0
 have h1:∀ob,(w.alloc ob).cell? ⟨b,o+1,none⟩=some (.int .i64 (X 0).2.1):=fun ob=>(World.cell?_alloc_past _ _ _ bl).trans x1
 have h2:∀ob,(w.alloc ob).cell? ⟨b,o+2,none⟩=some (.int .i64 (X 0).2.2):=fun ob=>(World.cell?_alloc_past _ _ _ bl).trans x2
 clear x0 x1 x2
 cases r0 with
 | false =>
  go_enter Tryz.func117,Tryz.ntmps117
  go_wp2_with fail
  refine (HK.out _).mono ?_
  rintro e w1 ⟨rfl,g1⟩
  have b1:Below w.heap.size w w1:=((Below.refl _ _).alloc (Nat.le_refl _) _).trans (g1.mono (by simp))
  clear g1
  go_wp2
  go_ret
  refine ⟨?_,b1⟩
  rw [HR.out]
  unfold zbp
  rw [hr0]
  rfl
 | true =>
  go_enter Tryz.func117,Tryz.ntmps117
  go_wp2_with fail
  refine (HK.out _).mono ?_
  rintro e w1 ⟨rfl,g1⟩
  have q0:=cell_later g1 (h0 _)
  have q1:w1.cell? ⟨w.heap.size,0,none⟩=some (.int .i64 op):=cell_later g1 (by simp)
  have q2:w1.cell? ⟨w.heap.size,1,none⟩=some (.slice (some ⟨b,o,none⟩) m cap):=cell_later g1 (by simp)
  have hWE:Below w.heap.size w (w.alloc (.cells #[.int .i64 op,.slice (some ⟨b,o,none⟩) m cap] 50)):=(Below.refl _ _).alloc (Nat.le_refl _) _
  clear h0 h1 h2 HK
  cases hw:((X 0).1==9) with
  | true =>
   have HQ:Hid (∀n W,Calls Tryz.prog 115 #[.agg #[.int .i64 (X n).1,.int .i64 (X n).2.1,.int .i64 (X n).2.2]] W fun e w'=>e=.returned (.bool (okA (X n).1 (X n).2.1 (X n).2.2&&kW (X n).1))∧Below W.heap.size W w'):=fun n W=>zak _ _ _ W
   go_wp2
   go_loopg [4] (m-1) (fun g i wr=>∃n:Nat,n+g=m∧1≤n∧i=.int .i64 n∧Below (w.alloc (.cells #[.int .i64 op,.slice (some ⟨b,o,none⟩) m cap] 50)).heap.size (w.alloc (.cells #[.int .i64 op,.slice (some ⟨b,o,none⟩) m cap] 50)) wr∧∀j,1≤j→j<n→(okA (X j).1 (X j).2.1 (X j).2.2&&kW (X j).1)=true)
   case atStart=>exact ⟨1,by omega,by omega,rfl,g1,fun j h1 h2=>by omega⟩
   case round =>
    obtain ⟨n,hn,hn1,rfl,hb,hp⟩:=hrel
    have hbw:Below w.heap.size w wr:=hWE.trans (hb.mono hWE.size)
    have e0:wr.cell? ⟨w.heap.size,0,none⟩=some (.int .i64 op):=cell_later hb (by simp)
    have e1:wr.cell? ⟨w.heap.size,1,none⟩=some (.slice (some ⟨b,o,none⟩) m cap):=cell_later hb (by simp)
    by_cases hlt:n<m
    ·have y0:wr.cell? ⟨b,o+n*3,none⟩=some (.int .i64 (X n).1):=(hbw.cell (p:=⟨b,o+n*3,none⟩) bl).trans (hX n hlt).1
     have y1:wr.cell? ⟨b,o+n*3+1,none⟩=some (.int .i64 (X n).2.1):=(hbw.cell (p:=⟨b,o+n*3+1,none⟩) bl).trans (hX n hlt).2.1
     have y2:wr.cell? ⟨b,o+n*3+2,none⟩=some (.int .i64 (X n).2.2):=(hbw.cell (p:=⟨b,o+n*3+2,none⟩) bl).trans (hX n hlt).2.2
     have i1:(n:Int)<(m:Int):=by omega
     have i3:(0:Int)≤(n:Int):=by omega
     have HQn:Hid (∀W,Calls Tryz.prog 115 #[.agg #[.int .i64 (X n).1,.int .i64 (X n).2.1,.int .i64 (X n).2.2]] W fun e w'=>e=.returned (.bool (okA (X n).1 (X n).2.1 (X n).2.2&&kW (X n).1))∧Below W.heap.size W w'):=fun W=>HQ.out n W
     generalize hA:(X n).1=A1 at y0 HQn
     generalize hB:(X n).2.1=A2 at y1 HQn
     generalize hC:(X n).2.2=A3 at y2 HQn
     generalize hq:(okA A1 A2 A3&&kW A1)=q at HQn
     go_wp2_with fail
     refine (HQn.out _).mono ?_
     rintro e w4 ⟨rfl,g4⟩
     have D4:=hb.trans (g4.mono hb.size)
     have b4:Below w.heap.size w w4:=hWE.trans (D4.mono hWE.size)
     have z0:=cell_later g4 e0
     have z1:=cell_later g4 e1
     clear g4
     cases q with
     | true =>
      go_wp2
      go_roundg (gk-1)
      case measure=>omega
      case rel =>
       refine ⟨n+1,by omega,by omega,by simp,D4,?_⟩
       intro j h1 h2
       by_cases hjn:j=n
       ·rw [hjn,hA,hB,hC];exact hq
       ·exact hp j h1 (by omega)
     | false =>
      go_wp2
      go_ret
      refine ⟨?_,b4⟩
      rw [HR.out]
      unfold zbp
      rw [hr0,hw]
      have:((List.range (m-1)).all fun j=>if true=true then okA (X (j+1)).1 (X (j+1)).2.1 (X (j+1)).2.2&&kW (X (j+1)).1 else okA (X (j+1)).1 (X (j+1)).2.1 (X (j+1)).2.2&&kR (X (j+1)).1)=false:=by
       rw [List.all_eq_false]
       refine ⟨n-1,List.mem_range.2 (by omega),?_⟩
       rw [show n-1+1=n by omega,hA,hB,hC]
       simp [hq]
      rw [this]
      simp
    ·have i1:¬((n:Int)<(m:Int)):=by omega
     have ea:((List.range (m-1)).all fun j=>if true=true then okA (X (j+1)).1 (X (j+1)).2.1 (X (j+1)).2.2&&kW (X (j+1)).1 else okA (X (j+1)).1 (X (j+1)).2.1 (X (j+1)).2.2&&kR (X (j+1)).1)=true:=by
      rw [List.all_eq_true]
      intro j hj
      have:=hp (j+1) (by omega) (by have:=List.mem_range.1 hj;omega)
      simpa using this
     have eR:R=(true||!(op==35)):=by
      rw [HR.out]
      unfold zbp
      rw [hr0,hw,ea]
      rfl
     go_wp2
     go_ret
     refine ⟨?_,hbw⟩
     try rw [eR]
     first|rfl|simp [bne]
  | false =>
   have HQ:Hid (∀n W,Calls Tryz.prog 116 #[.agg #[.int .i64 (X n).1,.int .i64 (X n).2.1,.int .i64 (X n).2.2]] W fun e w'=>e=.returned (.bool (okA (X n).1 (X n).2.1 (X n).2.2&&kR (X n).1))∧Below W.heap.size W w'):=fun n W=>zao _ _ _ W
   go_wp2
   go_loopg [4] (m-1) (fun g i wr=>∃n:Nat,n+g=m∧1≤n∧i=.int .i64 n∧Below (w.alloc (.cells #[.int .i64 op,.slice (some ⟨b,o,none⟩) m cap] 50)).heap.size (w.alloc (.cells #[.int .i64 op,.slice (some ⟨b,o,none⟩) m cap] 50)) wr∧∀j,1≤j→j<n→(okA (X j).1 (X j).2.1 (X j).2.2&&kR (X j).1)=true)
   case atStart=>exact ⟨1,by omega,by omega,rfl,g1,fun j h1 h2=>by omega⟩
   case round =>
    obtain ⟨n,hn,hn1,rfl,hb,hp⟩:=hrel
    have hbw:Below w.heap.size w wr:=hWE.trans (hb.mono hWE.size)
    have e0:wr.cell? ⟨w.heap.size,0,none⟩=some (.int .i64 op):=cell_later hb (by simp)
    have e1:wr.cell? ⟨w.heap.size,1,none⟩=some (.slice (some ⟨b,o,none⟩) m cap):=cell_later hb (by simp)
    by_cases hlt:n<m
    ·have y0:wr.cell? ⟨b,o+n*3,none⟩=some (.int .i64 (X n).1):=(hbw.cell (p:=⟨b,o+n*3,none⟩) bl).trans (hX n hlt).1
     have y1:wr.cell? ⟨b,o+n*3+1,none⟩=some (.int .i64 (X n).2.1):=(hbw.cell (p:=⟨b,o+n*3+1,none⟩) bl).trans (hX n hlt).2.1
     have y2:wr.cell? ⟨b,o+n*3+2,none⟩=some (.int .i64 (X n).2.2):=(hbw.cell (p:=⟨b,o+n*3+2,none⟩) bl).trans (hX n hlt).2.2
     have i1:(n:Int)<(m:Int):=by omega
     have i3:(0:Int)≤(n:Int):=by omega
     have HQn:Hid (∀W,Calls Tryz.prog 116 #[.agg #[.int .i64 (X n).1,.int .i64 (X n).2.1,.int .i64 (X n).2.2]] W fun e w'=>e=.returned (.bool (okA (X n).1 (X n).2.1 (X n).2.2&&kR (X n).1))∧Below W.heap.size W w'):=fun W=>HQ.out n W
     generalize hA:(X n).1=A1 at y0 HQn
     generalize hB:(X n).2.1=A2 at y1 HQn
     generalize hC:(X n).2.2=A3 at y2 HQn
     generalize hq:(okA A1 A2 A3&&kR A1)=q at HQn
     go_wp2_with fail
     refine (HQn.out _).mono ?_
     rintro e w4 ⟨rfl,g4⟩
     have D4:=hb.trans (g4.mono hb.size)
     have b4:Below w.heap.size w w4:=hWE.trans (D4.mono hWE.size)
     have z0:=cell_later g4 e0
     have z1:=cell_later g4 e1
     clear g4
     cases q with
     | true =>
      go_wp2
      go_roundg (gk-1)
      case measure=>omega
      case rel =>
       refine ⟨n+1,by omega,by omega,by simp,D4,?_⟩
       intro j h1 h2
       by_cases hjn:j=n
       ·rw [hjn,hA,hB,hC];exact hq
       ·exact hp j h1 (by omega)
     | false =>
      go_wp2
      go_ret
      refine ⟨?_,b4⟩
      rw [HR.out]
      unfold zbp
      rw [hr0,hw]
      have:((List.range (m-1)).all fun j=>if false=true then okA (X (j+1)).1 (X (j+1)).2.1 (X (j+1)).2.2&&kW (X (j+1)).1 else okA (X (j+1)).1 (X (j+1)).2.1 (X (j+1)).2.2&&kR (X (j+1)).1)=false:=by
       rw [List.all_eq_false]
       refine ⟨n-1,List.mem_range.2 (by omega),?_⟩
       rw [show n-1+1=n by omega,hA,hB,hC]
       simp [hq]
      rw [this]
      simp
    ·have i1:¬((n:Int)<(m:Int)):=by omega
     have ea:((List.range (m-1)).all fun j=>if false=true then okA (X (j+1)).1 (X (j+1)).2.1 (X (j+1)).2.2&&kW (X (j+1)).1 else okA (X (j+1)).1 (X (j+1)).2.1 (X (j+1)).2.2&&kR (X (j+1)).1)=true:=by
      rw [List.all_eq_true]
      intro j hj
      have:=hp (j+1) (by omega) (by have:=List.mem_range.1 hj;omega)
      simpa using this
     have eR:R=(false||!(op==35)):=by
      rw [HR.out]
      unfold zbp
      rw [hr0,hw,ea]
      rfl
     go_wp2
     go_ret
     refine ⟨?_,hbw⟩
     try rw [eR]
     first|rfl|simp [bne]
end Go.Proofs.YtllmabgollkigaaGreatDoor
