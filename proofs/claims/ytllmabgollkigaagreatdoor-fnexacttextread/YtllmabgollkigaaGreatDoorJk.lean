/- elemParse: the pieces read, and taken by the rule. -/
import Derived.Test.YtllmabgollkigaaGreatDoorJj
import Derived.Test.YtllmabgollkigaaGreatDoorHe
import Derived.Test.YtllmabgollkigaaGreatDoorEu
import Derived.Deep.RegionHeld3
namespace Go.Proofs.YtllmabgollkigaaGreatDoor
open Go.RowKit Go.Shelf Go.Lib
set_option linter.unusedVariables false
theorem dev_i(s:ByteArray)(hs:s.size≤1048576)(w:World)(hT:Tabs w) :
  Calls Tryz.prog 232 #[.string s] w fun e w'=>e=.returned (.tuple #[.agg #[.int .i64 (rdA s).1,.int .i64 (rdA s).2.1,.int .i64 (rdA s).2.2],.bool (rdB s)])∧Below w.heap.size w w':=by
 cases hb:rdB s with
 | true =>
  obtain ⟨h1,h2⟩:=rd_tl hb
  have e:txt (rdA s).1 (rdA s).2.1 (rdA s).2.2=s:=zcs h2
  have:=impl_dev_yes h1 w hT
  rwa [e] at this
 | false =>
  obtain ⟨h1,h2⟩:=rd_no hb
  rw [h1]
  exact impl_dev_no (fun k n p ho e=>h2 (k,n,p) ho (by unfold tl;rw [e])) hs w hT
theorem dev_s(s:ByteArray)(hs:s.size≤1048576)(w:World) :
  Calls Tryz.prog 187 #[.string s] w fun e w'=>e=.returned (.tuple #[.agg #[.int .i64 (rdA s).1,.int .i64 (rdA s).2.1,.int .i64 (rdA s).2.2],.bool (rdB s)])∧Below w.heap.size w w':=by
 cases hb:rdB s with
 | true =>
  obtain ⟨h1,h2⟩:=rd_tl hb
  have e:txt (rdA s).1 (rdA s).2.1 (rdA s).2.2=s:=zcs h2
  have:=spec_dev_yes h1 w
  rwa [e] at this
 | false =>
  obtain ⟨h1,h2⟩:=rd_no hb
  rw [h1]
  exact spec_dev_no (fun k n p ho e=>h2 (k,n,p) ho (by unfold tl;rw [e])) hs w
def StrNe(w:World)(a:Option Addr)(L:List ByteArray)(gb:Nat):Prop:=L=[]∨∃b,a=some ⟨b,0,none⟩∧b≠gb∧∀j x,L[j]?=some x→w.cell? ⟨b,j,none⟩=some (.string x)
theorem StrAt.ne{w:World}{B gb:Nat}{a:Option Addr}{L:List ByteArray}(h:StrAt w B a L)(hg:gb<B):StrNe w a L gb:=by
 rcases h with h|⟨b,h1,h3,h2⟩
 ·exact .inl h
 ·exact .inr ⟨b,h1,by omega,h2⟩
theorem StrNe.later{w w':World}{gb:Nat}{a:Option Addr}{L:List ByteArray}(h:StrNe w a L gb)(g:Below w.heap.size w w'):StrNe w' a L gb:=by
 rcases h with h|⟨b,h1,h3,h2⟩
 ·exact .inl h
 ·refine .inr ⟨b,h1,h3,fun j x hx=>?_⟩
  have:=h2 j x hx
  exact (g.cell (p:=⟨b,j,none⟩) (World.block_lt_of_cell? _ _ this)).trans this
theorem StrNe.grown{w w':World}{gb g H:Nat}{a:Option Addr}{L:List ByteArray}(h:StrNe w a L gb)(k:w.grownBy w' (some gb))(hg:some gb=some g∨g=H)(hH:w.heap.size=H):StrNe w' a L g:=by
 rcases h with h|⟨b,h1,h3,h2⟩
 ·exact .inl h
 ·by_cases hL:L=[]
  ·exact .inl hL
  ·obtain ⟨x0,hx0⟩:∃x,L[0]?=some x:=by
    cases L with
    | nil=>exact absurd rfl hL
    | cons x r=>exact ⟨x,rfl⟩
   have hb:=World.block_lt_of_cell? _ _ (h2 0 x0 hx0)
   refine .inr ⟨b,h1,?_,fun j x hx=>?_⟩
   ·rcases hg with hg|hg
    ·simp at hg;omega
    ·show b≠g
     have:b<w.heap.size:=hb
     omega
   ·have:=h2 j x hx
    exact (k.cell_far _ (World.block_lt_of_cell? _ _ this) (by simp;omega)).trans this
theorem StrNe.alloc{w:World}{gb:Nat}{a:Option Addr}{L:List ByteArray}(h:StrNe w a L gb)(o:Obj):StrNe (w.alloc o) a L gb:=h.later ((Below.refl _ _).alloc (Nat.le_refl _) _)
theorem below_drew{B:Nat}{a w:World}(h:Below B a w):Below B a w.drew:=⟨h.os,h.tape,h.output,h.size,h.block⟩
theorem zdv{a w:World}(h:Below a.drew.heap.size a.drew w):Below a.heap.size a w:=⟨h.os,h.tape,h.output,h.size,h.block⟩
theorem row_far{w w':World}{R gb:Nat}{o:Obj}(h:w.heap[R]?=some o)(k:w.grownBy w' (some gb))(hne:R≠gb):w'.heap[R]?=some o :=
 (k.block R (Array.getElem?_eq_some_iff.1 h).1 (by simp;omega)).trans h
theorem zai{w:World}{base g cap:Nat}{xs:List Arg}(h:OpsOwn w base g cap xs)(b o:Nat)(hne:b≠g)(v:Value):OpsOwn (w.setCell ⟨b,o,none⟩ v) base g cap xs:=by
 obtain ⟨h1,h2|⟨g',cap',cur,hv,hb',hh,h3⟩⟩:=h
 ·exact ⟨h1,.inl h2⟩
 ·have hg:g'=g:=by simp only [Value.slice.injEq,Option.some.injEq,Addr.mk.injEq] at hv;omega
  refine ⟨h1,.inr ⟨g',cap',cur,hv,hb',?_,h3⟩⟩
  rw [←hh]
  exact heap_setCell_other w _ _ v (by show g'≠b;omega)
def IsParse(s:ByteArray)(op:Int)(L:List ByteArray)(w:World)(e:Ending)(w':World):Prop :=
 ((L.all rdB&&rtk op (L.map rdA))=true∧∃(g cap:Nat),e=.returned (.tuple #[.agg #[.int .i64 op,.slice (some ⟨g,0,none⟩) (L.map rdA).length cap],.nilIface])∧OpsOwn w' w.heap.size g cap (L.map rdA)∧Below w.heap.size w w') ∨
 ((L.all rdB&&rtk op (L.map rdA))=false∧e=.returned (.tuple #[.agg #[.int .i64 0,.slice none 0 0],.iface 253 (.agg #[.string s])])∧Below w.heap.size w w')
set_option maxRecDepth 10000 in
set_option maxHeartbeats 4000000 in
theorem parse_run(s A B R:ByteArray)(OP:Int)(V0 V1 V2 V3 V4 V5:Value)(n:Nat)(L:List ByteArray)(w:World)(o0:V0.oneCell'=true)(o1:V1.oneCell'=true)(o2:V2.oneCell'=true)(o3:V3.oneCell'=true)(o4:V4.oneCell'=true)(o5:V5.oneCell'=true)
  (hA:A.size≤s.size) (hR:s.extract A.size s.size=R) (hn:n≤3) (hL:L.length≤4)
  (HO:Hid (∀W,Calls Tryz.prog 229 #[.string s] W fun e w'=>e=.returned (.int .i64 OP)∧Below W.heap.size W w'))
  (HR:Hid (∀W,Calls Tryz.prog 139 #[.int .i64 OP] W fun e w'=>e=.returned (.agg #[.string A,.string B,V0,V1,V2,V3,V4,V5])∧Below W.heap.size W w'))
  (HN:Hid (∀W,Calls Tryz.prog 230 #[.int .i64 OP] W fun e w'=>e=.returned (.int .i64 n)∧Below W.heap.size W w'))
  (HS:Hid (∀W,Below w.heap.size w W→Calls Tryz.prog 231 #[.string R,.string B,.int .i64 n] W fun e w'=>∃a cap,e=.returned (.slice a L.length cap)∧StrAt w' W.heap.size a L∧Below W.heap.size W w'))
  (HD:Hid (∀x∈L,∀W,Below w.heap.size w W→Calls Tryz.prog 232 #[.string x] W fun e w'=>e=.returned (.tuple #[.agg #[.int .i64 (rdA x).1,.int .i64 (rdA x).2.1,.int .i64 (rdA x).2.2],.bool (rdB x)])∧Below W.heap.size W w'))
  (HK:Hid (∀(xs:List Arg)(base g cap:Nat) W,Below w.heap.size w W→OpsOwn W base g cap xs→Calls Tryz.prog 140 #[.agg #[.string A,.string B,V0,V1,V2,V3,V4,V5],.slice (some ⟨g,0,none⟩) xs.length cap] W fun e w'=>e=.returned (.bool (rtk OP xs))∧Below W.heap.size W w')) :
  Calls Tryz.prog 219 #[.string s] w fun e w'=>IsParse s OP L w e w':=by
 have hinfo:(Tryz.prog.info? 133).map (fun i=>(i.zero,i.size,i.bytes))=some (some (.agg #[.int .i64 0,.int .i64 0,.int .i64 0]),3,24):=by kernel_rfl
 obtain ⟨i0,hi,hzz⟩:=Option.map_eq_some_iff.1 hinfo
 simp only [Prod.mk.injEq] at hzz
 obtain ⟨hz0,hz1,hz2⟩:=hzz
 obtain ⟨MC,hMC,hmk⟩:∃MC:Array Value,MC.size=n*3∧∀W:World,(Instr.makeSlice 48 (.int .i64 0) (.int .i64 n)).run Tryz.prog W=.ok (.slice (some ⟨W.heap.size,0,none⟩) 0 n) (W.alloc (.cells MC 133)):=by
  refine ⟨madeCells (Value.agg #[.int .i64 0,.int .i64 0,.int .i64 0]).cells (n*3),size_madeCells _ _,fun W=>?_⟩
  have:=run_make (P:=Tryz.prog) W 48 133 i0 _ Tryz.underlying48 hi hz0 .i64 .i64 0 n (Int.le_refl _) (by omega) (by rw [hz2];omega) (by omega)
  rw [hz1] at this
  simpa using this
 have HI:Hid (Tryz.prog.info? 133=some i0∧i0.zero=some (.agg #[.int .i64 0,.int .i64 0,.int .i64 0])∧i0.size=3∧i0.bytes=24):=⟨hi,hz0,hz1,hz2⟩
 clear hi hz0 hz1 hz2 hinfo
 have st0:∀(W:World)(p:Addr)(m:Mode),(store p V0 m).run Tryz.prog W=stored Tryz.prog W p V0 m:=fun W p m=>run_store Tryz.prog W p V0 m o0
 have st1:∀(W:World)(p:Addr)(m:Mode),(store p V1 m).run Tryz.prog W=stored Tryz.prog W p V1 m:=fun W p m=>run_store Tryz.prog W p V1 m o1
 have st2:∀(W:World)(p:Addr)(m:Mode),(store p V2 m).run Tryz.prog W=stored Tryz.prog W p V2 m:=fun W p m=>run_store Tryz.prog W p V2 m o2
 have st3:∀(W:World)(p:Addr)(m:Mode),(store p V3 m).run Tryz.prog W=stored Tryz.prog W p V3 m:=fun W p m=>run_store Tryz.prog W p V3 m o3
 have st4:∀(W:World)(p:Addr)(m:Mode),(store p V4 m).run Tryz.prog W=stored Tryz.prog W p V4 m:=fun W p m=>run_store Tryz.prog W p V4 m o4
 have st5:∀(W:World)(p:Addr)(m:Mode),(store p V5 m).run Tryz.prog W=stored Tryz.prog W p V5 m:=fun W p m=>run_store Tryz.prog W p V5 m o5
 go_enter Tryz.func219,Tryz.ntmps219
 go_wp2_with fail
 refine (HO.out _).mono ?_
 rintro e w1 ⟨rfl,g1⟩
 have E1:Hid (E2 w1 w.heap.size (.int .i64 0) (.slice none 0 0)):=(E2.fresh w _ _ 50).later g1
 have B1:Hid (Below w.heap.size w w1):=((Below.refl _ w).alloc (Nat.le_refl _) _).trans (g1.mono (by simp))
 clear g1
 go_wp2_with fail
 refine (HR.out _).mono ?_
 rintro e w2 ⟨rfl,g2⟩
 have E2':Hid (E2 w2 w.heap.size (.int .i64 0) (.slice none 0 0)):=E1.out.later g2
 have B2:Hid (Below w.heap.size w w2):=B1.out.trans (g2.mono B1.out.size)
 clear g2 E1 B1
 go_wp2_with fail
 refine (HN.out _).mono ?_
 rintro e w3 ⟨rfl,g3⟩
 have E3:Hid (E2 w3 w.heap.size (.int .i64 0) (.slice none 0 0)):=E2'.out.later g3
 have B3:Hid (Below w.heap.size w w3):=B2.out.trans (g3.mono B2.out.size)
 clear g3 E2' B2
 go_upto_region 4 with fail
 have B4:Below w.heap.size w ((w3.alloc (.cells #[.string A,.string B,V0,V1,V2,V3,V4,V5] 200)).alloc (.cells MC 133)):=(B3.out.alloc B3.out.size _).alloc (by have:=B3.out.size;simp;omega) _
 have E4:E2 ((w3.alloc (.cells #[.string A,.string B,V0,V1,V2,V3,V4,V5] 200)).alloc (.cells MC 133)) w.heap.size (.int .i64 0) (.slice none 0 0):=(E3.out.alloc _).alloc _
 have hlt3:=E3.out.lt
 have O4:OpsOwn ((w3.alloc (.cells #[.string A,.string B,V0,V1,V2,V3,V4,V5] 200)).alloc (.cells MC 133)) (w3.heap.size+1) (w3.heap.size+1) n []:=by
  have:=World.ownsRow_made (base:=w3.heap.size+1) (e:=133) (size:=3) (w3.alloc (.cells #[.string A,.string B,V0,V1,V2,V3,V4,V5] 200)) MC n (by simp) (by unfold maxLen;omega) hMC
  show World.ownsRow _ _ _ _ _ _ _
  simpa [opsL] using this
 have R4:((w3.alloc (.cells #[.string A,.string B,V0,V1,V2,V3,V4,V5] 200)).alloc (.cells MC 133)).heap[w3.heap.size]?=some (.cells #[.string A,.string B,V0,V1,V2,V3,V4,V5] 200 (0,0)):=((Below.refl _ _).alloc (Nat.le_refl _) _).block _ (by simp) |>.trans (heap_alloc_last w3 _)
 have s4:((w3.alloc (.cells #[.string A,.string B,V0,V1,V2,V3,V4,V5] 200)).alloc (.cells MC 133)).heap.size=w3.heap.size+2:=by simp
 generalize (w3.alloc (.cells #[.string A,.string B,V0,V1,V2,V3,V4,V5] 200)).alloc (.cells MC 133)=W4 at B4 E4 O4 R4 s4 ⊢
 obtain ⟨R5,hR5⟩:∃R5,w3.heap.size=R5:=⟨_,rfl⟩
 rw [hR5] at O4 R4 s4 hlt3 ⊢
 clear hR5 B3 E3 hMC hmk
 have c40:W4.cell? ⟨R5,0,none⟩=some (.string A):=by rw [cell_of_row _ _ _ _ _ _ R4];rfl
 have c41:W4.cell? ⟨R5,1,none⟩=some (.string B):=by rw [cell_of_row _ _ _ _ _ _ R4];rfl
 have iA:(A.size:Int)≤(s.size:Int):=by omega
 have iA0:(0:Int)≤(A.size:Int):=by omega
 go_region_held3 (fun w'=>w'.cell? ⟨R5,0,none⟩=some (.string A)∧w'.cell? ⟨R5,1,none⟩=some (.string B))
  (first|go_keep|exact ⟨c40,c41⟩|exact ⟨d40,d41⟩)
  (first
   | (go_at_call 231;refine (HS.out _ (below_drew B4)).mono ?_;rintro e w5 ⟨a5,cap5,rfl,hs5,g5⟩;have d40:w5.cell? ⟨R5,0,none⟩=some (.string A):=(g5.cell (p:=⟨R5,0,none⟩) (World.block_lt_of_cell? _ _ c40)).trans c40;have d41:w5.cell? ⟨R5,1,none⟩=some (.string B):=(g5.cell (p:=⟨R5,1,none⟩) (World.block_lt_of_cell? _ _ c41)).trans c41)
   | fail)
 have G5:=zdv g5
 have B5:Hid (Below w.heap.size w w5):=B4.trans (G5.mono B4.size)
 have E5:Hid (E2 w5 w.heap.size (.int .i64 0) (.slice none 0 0)):=E4.later G5
 have O5:Hid (OpsOwn w5 (R5+1) (R5+1) n []):=O4.later G5
 have R5c:Hid (w5.heap[R5]?=some (.cells #[.string A,.string B,V0,V1,V2,V3,V4,V5] 200 (0,0))):=(G5.block R5 (by omega)).trans R4
 have S5:Hid (StrNe w5 a5 L (R5+1)):=hs5.ne (by show R5+1<W4.heap.size;omega)
 clear g5 G5 d40 d41 c40 c41 R4 hs5 O4 E4 B4 HS HO HR HN s4
 go_wp2_with fail
 go_loopg [7,30] L.length (fun g o i wr=>∃(m gb cap:Nat)(xs:List Arg),m+g=L.length∧i=.int .i64 m∧o=.slice (some ⟨gb,0,none⟩) xs.length cap∧Hid (OpsOwn wr (R5+1) gb cap xs)∧Hid (Below w.heap.size w wr)∧Hid (E2 wr w.heap.size (.int .i64 0) (.slice none 0 0))∧Hid (wr.heap[R5]?=some (.cells #[.string A,.string B,V0,V1,V2,V3,V4,V5] 200 (0,0)))∧Hid (StrNe wr a5 L gb)∧xs.length≤m∧Hid (xs=(L.take m).map rdA∧(L.take m).all rdB=true))
 case atStart=>exact ⟨0,R5+1,n,[],by omega,rfl,rfl,O5,B5,E5,R5c,S5,Nat.le_refl _,(⟨by simp,by simp⟩:[]=(L.take 0).map rdA∧(L.take 0).all rdB=true)⟩
 case round =>
  obtain ⟨m,gb,cap,xs,hm,rfl,rfl,HW,HB,HE,HRr,HSn,hxl,HX⟩:=hrel
  by_cases hlt:m<L.length
  ·have i1:(m:Int)<(L.length:Int):=by omega
   have i2:(0:Int)≤(m:Int):=by omega
   obtain ⟨x,hx⟩:∃x,L[m]?=some x:=⟨_,List.getElem?_eq_getElem hlt⟩
   obtain ⟨b,rfl,hbg,hcell⟩:∃b,a5=some ⟨b,0,none⟩∧b≠gb∧∀j x,L[j]?=some x→wr.cell? ⟨b,j,none⟩=some (.string x):=by
    rcases HSn.out with h|h
    ·rw [h] at hlt;simp at hlt
    ·exact h
   have cx:wr.cell? ⟨b,m,none⟩=some (.string x):=hcell m x hx
   have HDx:=HD.out x (List.mem_of_getElem? hx)
   have ht:(L.take (m+1)).map rdA=(L.take m).map rdA++[rdA x]:=by
    rw [List.take_add_one,hx];simp
   have hta:(L.take (m+1)).all rdB=((L.take m).all rdB&&rdB x):=by
    rw [List.take_add_one,hx];simp
   have hall:rdB x=false→L.all rdB=false:=fun h=>by
    rw [Bool.eq_false_iff]
    intro hq
    have:=List.all_eq_true.1 hq x (List.mem_of_getElem? hx)
    rw [h] at this
    cases this
   obtain ⟨k,v,q,hrx⟩:∃k v q,rdA x=(k,v,q):=⟨_,_,_,rfl⟩
   rw [hrx] at HDx ht
   have HE1:Hid (xs++[(k,v,q)]=(L.take (m+1)).map rdA):=(by rw [ht,←HX.out.1]:xs++[(k,v,q)]=(L.take (m+1)).map rdA)
   have HTA:Hid ((L.take (m+1)).all rdB=rdB x):=(by rw [hta,HX.out.2];simp:(L.take (m+1)).all rdB=rdB x)
   have HAL:Hid (rdB x=false→L.all rdB=false):=hall
   clear ht hta hrx hall hcell
   go_wp2_with fail
   refine (HDx _ HB.out).mono ?_
   rintro e w6 ⟨rfl,g6⟩
   have HB6:Hid (Below w.heap.size w w6):=HB.out.trans (g6.mono HB.out.size)
   have HW6:Hid (OpsOwn w6 (R5+1) gb cap xs):=HW.out.later g6
   have HE6:Hid (E2 w6 w.heap.size (.int .i64 0) (.slice none 0 0)):=HE.out.later g6
   have HR6:Hid (w6.heap[R5]?=some (.cells #[.string A,.string B,V0,V1,V2,V3,V4,V5] 200 (0,0))):=(g6.block R5 (Array.getElem?_eq_some_iff.1 HRr.out).1).trans HRr.out
   have HS6:Hid (StrNe w6 (some ⟨b,0,none⟩) L gb):=HSn.out.later g6
   clear g6 cx HDx HW HB HE HRr HSn
   cases hb:rdB x with
   | false =>
    have hno:(L.all rdB&&rtk OP (L.map rdA))=false:=by rw [HAL.out hb];rfl
    have EA:=HE6.out.alloc (.cells #[.int .i64 k,.int .i64 v,.int .i64 q] 133)
    have EP:=EA.put (.int .i64 0) (.slice none 0 0)
    obtain ⟨c0,c1,f0,f1⟩:=EA
    obtain ⟨q0,q1,_,_⟩:=EP
    have BP:Hid (Below w.heap.size w (((w6.alloc (.cells #[.int .i64 k,.int .i64 v,.int .i64 q] 133)).setCell ⟨w.heap.size,0,none⟩ (.int .i64 0)).setCell ⟨w.heap.size,1,none⟩ (.slice none 0 0))):=((HB6.out.alloc HB6.out.size _).setCell (Nat.le_refl _) _).setCell (Nat.le_refl _) _
    clear HE1 HTA HAL
    go_wp2
    exact bodyPost_ret (v:=.tuple #[.agg #[.int .i64 0,.slice none 0 0],.iface 253 (.agg #[.string s])]) (by simp [results,Tryz.results219,go_sem,q0,q1]) rfl (.inr ⟨hno,rfl,BP.out⟩)
   | true =>
    have HTA2:Hid ((L.take (m+1)).all rdB=true):=(by rw [HTA.out,hb]:(L.take (m+1)).all rdB=true)
    have own3:((w6.alloc (.cells #[.int .i64 k,.int .i64 v,.int .i64 q] 133)).alloc (.cells #[.int .i64 k,.int .i64 v,.int .i64 q] 133)).ownsRow (R5+1) 133 3 (.slice (some ⟨gb,0,none⟩) xs.length cap) xs.length (opsL xs):=World.ownsRow.alloc (World.ownsRow.alloc HW6.out _) _
    have hsz:(w6.alloc (.cells #[.int .i64 k,.int .i64 v,.int .i64 q] 133)).heap.size=w6.heap.size+1:=by simp
    have news3:=new_three (w6.alloc (.cells #[.int .i64 k,.int .i64 v,.int .i64 q] 133)) (.int .i64 k) (.int .i64 v) (.int .i64 q)
    rw [hsz] at news3
    clear hsz HTA HAL
    have hgl:=own3.lt gb rfl
    have hgw:gb<w6.heap.size:=(HW6.out.lt gb rfl).2
    have hR6l:R5<w6.heap.size:=(Array.getElem?_eq_some_iff.1 HR6.out).1
    go_wp2_with (first|(at_builtin;refine wpList_append_lies _ rfl _ _ 48 rfl (R5+1) 133 i0 (.agg #[.int .i64 0,.int .i64 0,.int .i64 0]) 3 24 Tryz.underlying48 HI.out.1 HI.out.2.1 HI.out.2.2.1 HI.out.2.2.2 rfl (by decide) _ xs.length (opsL xs) rfl own3 ⟨w6.heap.size+1,0,none⟩ 1 1 [.int .i64 k,.int .i64 v,.int .i64 q] rfl rfl news3 (by intro u hu;simp at hu;rcases hu with rfl|rfl|rfl<;>rfl) (by omega) ?c3 ?c4 ?c5 _ rfl ?_)|fail)
    case c3=>unfold maxLen;omega
    case c4=>omega
    case c5=>simp;omega
    intro g cap1 w7 own7 g7 hat hlt7
    have g7':((w6.alloc (.cells #[.int .i64 k,.int .i64 v,.int .i64 q] 133)).alloc (.cells #[.int .i64 k,.int .i64 v,.int .i64 q] 133)).grownBy w7 (some gb):=g7
    have HB7:Hid (Below w.heap.size w w7):=((HB6.out.alloc HB6.out.size _).alloc (by have:=HB6.out.size;simp;omega) _).grown g7 (by have:=HB6.out.size;simp;omega) (fun z hz=>by simp [Value.ownBlock] at hz;omega)
    have HW7:Hid (OpsOwn w7 (R5+1) g cap1 (xs++[(k,v,q)])):=by
     show World.ownsRow _ _ _ _ _ _ _
     simpa [opsL,opv] using own7
    have HE7:Hid (E2 w7 w.heap.size (.int .i64 0) (.slice none 0 0)):=((HE6.out.alloc _).alloc _).grown g7' (by simp;omega)
    have HR7:Hid (w7.heap[R5]?=some (.cells #[.string A,.string B,V0,V1,V2,V3,V4,V5] 200 (0,0))):=row_far (((((Below.refl _ w6).alloc (Nat.le_refl _) _).alloc (by simp) _).block R5 hR6l).trans HR6.out) g7' (by omega)
    have HS7:Hid (StrNe w7 (some ⟨b,0,none⟩) L g):=((HS6.out.alloc _).alloc _).grown g7' (by simpa [Value.ownBlock] using hat) rfl
    clear own3 news3 own7 g7 g7' hat hlt7 HB6 HW6 HE6 HR6 HS6 hgl hgw hR6l hbg
    go_wp2
    go_roundg (gk-1)
    case measure=>omega
    case rel=>exact ⟨m+1,g,cap1,xs++[(k,v,q)],by omega,by go_num,by simp,HW7,HB7,HE7,HR7,HS7,by simp;omega,HE1.out,HTA2.out⟩
  ·have i1:¬((m:Int)<(L.length:Int)):=by omega
   have hml:m=L.length:=by omega
   have hX:xs=L.map rdA∧L.all rdB=true:=by
    have:=HX.out
    rw [hml,List.take_length] at this
    exact this
   have HX2:Hid (xs=L.map rdA∧L.all rdB=true):=hX
   clear HX hX hml
   have c8:∀j,wr.cell? ⟨R5,j,none⟩=#[.string A,.string B,V0,V1,V2,V3,V4,V5][j]?:=fun j=>cell_of_row _ _ _ _ _ _ HRr.out
   have k0:wr.cell? ⟨R5,0,none⟩=some (.string A):=c8 0
   have k1:wr.cell? ⟨R5,1,none⟩=some (.string B):=c8 1
   have k2:wr.cell? ⟨R5,2,none⟩=some V0:=c8 2
   have k3:wr.cell? ⟨R5,3,none⟩=some V1:=c8 3
   have k4:wr.cell? ⟨R5,4,none⟩=some V2:=c8 4
   have k5:wr.cell? ⟨R5,5,none⟩=some V3:=c8 5
   have k6:wr.cell? ⟨R5,6,none⟩=some V4:=c8 6
   have k7:wr.cell? ⟨R5,7,none⟩=some V5:=c8 7
   clear c8
   have HKx:=HK.out xs (R5+1) gb cap
   go_wp2_with fail
   refine (HKx _ HB.out HW.out).mono ?_
   rintro e w6 ⟨rfl,g6⟩
   have HB6:Hid (Below w.heap.size w w6):=HB.out.trans (g6.mono HB.out.size)
   have HW6:Hid (OpsOwn w6 (R5+1) gb cap xs):=HW.out.later g6
   have HE6:Hid (E2 w6 w.heap.size (.int .i64 0) (.slice none 0 0)):=HE.out.later g6
   clear g6 HKx k0 k1 k2 k3 k4 k5 k6 k7 HW HB HE HRr HSn
   have EA:=HE6.out
   cases hb:rtk OP xs with
   | false =>
    have hno:(L.all rdB&&rtk OP (L.map rdA))=false:=by rw [←HX2.out.1,hb];simp
    have EP:=EA.put (.int .i64 0) (.slice none 0 0)
    obtain ⟨c0,c1,f0,f1⟩:=EA
    obtain ⟨q0,q1,_,_⟩:=EP
    have BP:Hid (Below w.heap.size w ((w6.setCell ⟨w.heap.size,0,none⟩ (.int .i64 0)).setCell ⟨w.heap.size,1,none⟩ (.slice none 0 0))):=(HB6.out.setCell (Nat.le_refl _) _).setCell (Nat.le_refl _) _
    go_wp2
    exact bodyPost_ret (v:=.tuple #[.agg #[.int .i64 0,.slice none 0 0],.iface 253 (.agg #[.string s])]) (by simp [results,Tryz.results219,go_sem,q0,q1]) rfl (.inr ⟨hno,rfl,BP.out⟩)
   | true =>
    have hyes:(L.all rdB&&rtk OP (L.map rdA))=true:=by rw [←HX2.out.1,hb,HX2.out.2];rfl
    have EP:=EA.put (.int .i64 OP) (.slice (some ⟨gb,0,none⟩) xs.length cap)
    obtain ⟨c0,c1,f0,f1⟩:=EA
    obtain ⟨q0,q1,_,_⟩:=EP
    have BP:Hid (Below w.heap.size w ((w6.setCell ⟨w.heap.size,0,none⟩ (.int .i64 OP)).setCell ⟨w.heap.size,1,none⟩ (.slice (some ⟨gb,0,none⟩) xs.length cap))):=(HB6.out.setCell (Nat.le_refl _) _).setCell (Nat.le_refl _) _
    have WP:Hid (OpsOwn ((w6.setCell ⟨w.heap.size,0,none⟩ (.int .i64 OP)).setCell ⟨w.heap.size,1,none⟩ (.slice (some ⟨gb,0,none⟩) xs.length cap)) w.heap.size gb cap xs):=zai (zai (HW6.out.base (by omega)) w.heap.size 0 (by have:=(HW6.out.lt gb rfl).1;omega) _) w.heap.size 1 (by have:=(HW6.out.lt gb rfl).1;omega) _
    go_wp2
    exact bodyPost_ret (v:=.tuple #[.agg #[.int .i64 OP,.slice (some ⟨gb,0,none⟩) xs.length cap],.nilIface]) (by simp [results,Tryz.results219,go_sem,q0,q1]) rfl (.inl ⟨hyes,gb,cap,by rw [HX2.out.1],by have:=WP.out;rw [HX2.out.1] at this ⊢;exact this,BP.out⟩)
end Go.Proofs.YtllmabgollkigaaGreatDoor
