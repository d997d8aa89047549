/- ElemText, the program's. -/
import Derived.Test.YtllmabgollkigaaGreatDoorEjM
import Derived.Test.YtllmabgollkigaaGreatDoorDqM
import Derived.Deep.OwnRows
import Derived.Laws.MakeOwn
set_option maxHeartbeats 2000000
namespace Go.Proofs.YtllmabgollkigaaGreatDoor
open Go.RowKit Go.Shelf
set_option linter.unusedVariables false
theorem info_str:(Tryz.prog.info? 9).map (fun i=>(i.zero,i.size,i.bytes))=some (some (.string ⟨#[]⟩),1,16):=by kernel_rfl
def tl(x:Arg):List UInt8:=(txt x.1 x.2.1 x.2.2).data.toList
def etl(op:Int)(xs:List Arg):List UInt8:=(ahd op).data.toList++Lib.join (xs.map tl) (btw op).data.toList
def etx(op:Int)(xs:List Arg):ByteArray:=if rtk op xs then ⟨(etl op xs).toArray⟩ else ⟨#[]⟩
theorem zik(k n p:Int):(txt k n p).size≤60:=by
 unfold txt
 split
 ·rename_i ho
  split
  ·rename_i h12
   subst h12
   have hb:okD n p=true:=by simpa [okA] using ho
   have:=zif hb
   rw [zam]
   unfold decL
   split
   ·have:=zeu n.natAbs p.toNat (by omega) (by omega);simp;omega
   ·have:=zeu n.toNat p.toNat (by omega) (by omega);omega
  ·split
   ·rename_i h13
    subst h13
    have:=zfh ho
    have:n=0∨n=1∨n=2∨n=3:=by omega
    rcases this with rfl|rfl|rfl|rfl<;>decide
   ·rename_i h12 h13
    have hb:=ok_bd ho h12
    have h1:=zgg k
    have h2:=zgw n (by omega) (by omega)
    rw [ByteArray.size_append];omega
 ·decide
theorem btw_le(op:Int):(btw op).size≤2:=by
 rcases zey op with h|⟨n,hn,rfl⟩
 ·rw [(zen op h).2.1];decide
 ·rcases c38 n hn with rfl|rfl|rfl|rfl|rfl|rfl|rfl|rfl|rfl|rfl|rfl|rfl|rfl|rfl|rfl|rfl|rfl|rfl|rfl|rfl|rfl|rfl|rfl|rfl|rfl|rfl|rfl|rfl|rfl|rfl|rfl|rfl|rfl|rfl|rfl|rfl|rfl|rfl
  all_goals decide
theorem rtk_3{op:Int}{xs:List Arg}(h:rtk op xs=true):1≤xs.length∧xs.length≤3:=by
 obtain ⟨h1,h2⟩:=zhg h
 have:=nd_ok op
 simp only [okPl,Bool.and_eq_true,decide_eq_true_eq] at this
 unfold arN at h1
 refine ⟨?_,by omega⟩
 cases xs with
 | nil=>exact absurd rfl h2
 | cons=>simp
theorem spec_sign(op:Int)(h1:5≤op)(h2:op≤10)(w:World) :
  Calls Tryz.prog 111 #[.int .i64 op] w fun e w'=>e=.returned (.string (btw op))∧Below w.heap.size w w':=by
 have:op=5∨op=6∨op=7∨op=8∨op=9∨op=10:=by omega
 rcases this with rfl|rfl|rfl|rfl|rfl|rfl
 all_goals
  go_enter Tryz.func111,Tryz.ntmps111
  go_wp2
  go_ret
  exact ⟨rfl,by go_grown⟩
set_option maxRecDepth 10000 in
theorem stext1(k n p:Int)(TXT:Int→Int→Int→ByteArray)(hS:∀k n p,(TXT k n p).size≤60)(b o cap:Nat)(w:World)(hx:Ops w b o [(k,n,p)])
  (hL:Hid (∀W,Below w.heap.size w W→Calls Tryz.prog 72 #[.agg #[.int .i64 1,.slice (some ⟨b,o,none⟩) 1 cap]] W fun e w'=>e=.returned (.bool false)∧Below W.heap.size W w'))
  (hC:Hid (∀W,Below w.heap.size w W→Calls Tryz.prog 110 #[.agg #[.int .i64 1,.slice (some ⟨b,o,none⟩) 1 cap]] W fun e w'=>e=.returned (.bool true)∧Below W.heap.size W w'))
  (h0:Hid (∀k n p W,Calls Tryz.prog 109 #[.agg #[.int .i64 k,.int .i64 n,.int .i64 p]] W fun e w'=>e=.returned (.string (TXT k n p))∧Below W.heap.size W w')) :
  Calls Tryz.prog 69 #[.agg #[.int .i64 1,.slice (some ⟨b,o,none⟩) 1 cap]] w fun e w'=>e=.returned (.string (TXT k n p))∧Below w.heap.size w w':=by
 have bA:Below w.heap.size w (w.alloc (.cells #[.int .i64 1,.slice (some ⟨b,o,none⟩) 1 cap] 50)):=(Below.refl _ _).alloc (Nat.le_refl _) _
 have p0:(w.alloc (.cells #[.int .i64 1,.slice (some ⟨b,o,none⟩) 1 cap] 50)).cell? ⟨w.heap.size,0,none⟩=some (.int .i64 1):=by simp
 have p1:(w.alloc (.cells #[.int .i64 1,.slice (some ⟨b,o,none⟩) 1 cap] 50)).cell? ⟨w.heap.size,1,none⟩=some (.slice (some ⟨b,o,none⟩) 1 cap):=by simp
 go_enter Tryz.func69,Tryz.ntmps69
 go_wp2_with fail
 refine (hL.out _ bA).mono ?_
 rintro e w1 ⟨rfl,g1⟩
 have b1:=bA.trans (g1.mono bA.size)
 have q0:=cell_later g1 p0
 have q1:=cell_later g1 p1
 go_wp2_with fail
 refine (hC.out _ b1).mono ?_
 rintro e w2 ⟨rfl,g2⟩
 have D2:=g1.trans (g2.mono g1.size)
 have b2:=bA.trans (D2.mono bA.size)
 have e0:=cell_later D2 p0
 have e1:=cell_later D2 p1
 have hx2:=hx.later b2
 clear g1 g2 q0 q1 p0 p1 hx hL hC
 have x00:=(hx2 0 _ rfl).1
 have x01:=(hx2 0 _ rfl).2.1
 have x02:=(hx2 0 _ rfl).2.2
 simp only [Nat.zero_mul,Nat.add_zero] at x00 x01 x02
 go_wp2_with fail
 refine (h0.out _ _ _ _).mono ?_
 rintro e w3 ⟨rfl,g3⟩
 have b3:=b2.trans (g3.mono b2.size)
 clear g3
 have s0:=hS k n p
 have hz:¬ 9223372036854775807<1+(TXT k n p).size:=by omega
 clear hS
 go_wp2
 go_ret
 exact ⟨rfl,b3⟩
set_option maxRecDepth 10000 in
theorem stext2(k n p:Int)(TXT:Int→Int→Int→ByteArray)(hS:∀k n p,(TXT k n p).size≤60)(b o cap:Nat)(w:World)(hx:Ops w b o [(k,n,p)])
  (hL:Hid (∀W,Below w.heap.size w W→Calls Tryz.prog 72 #[.agg #[.int .i64 2,.slice (some ⟨b,o,none⟩) 1 cap]] W fun e w'=>e=.returned (.bool false)∧Below W.heap.size W w'))
  (hC:Hid (∀W,Below w.heap.size w W→Calls Tryz.prog 110 #[.agg #[.int .i64 2,.slice (some ⟨b,o,none⟩) 1 cap]] W fun e w'=>e=.returned (.bool true)∧Below W.heap.size W w'))
  (h0:Hid (∀k n p W,Calls Tryz.prog 109 #[.agg #[.int .i64 k,.int .i64 n,.int .i64 p]] W fun e w'=>e=.returned (.string (TXT k n p))∧Below W.heap.size W w')) :
  Calls Tryz.prog 69 #[.agg #[.int .i64 2,.slice (some ⟨b,o,none⟩) 1 cap]] w fun e w'=>e=.returned (.string (⟨#[47]⟩++TXT k n p))∧Below w.heap.size w w':=by
 have bA:Below w.heap.size w (w.alloc (.cells #[.int .i64 2,.slice (some ⟨b,o,none⟩) 1 cap] 50)):=(Below.refl _ _).alloc (Nat.le_refl _) _
 have p0:(w.alloc (.cells #[.int .i64 2,.slice (some ⟨b,o,none⟩) 1 cap] 50)).cell? ⟨w.heap.size,0,none⟩=some (.int .i64 2):=by simp
 have p1:(w.alloc (.cells #[.int .i64 2,.slice (some ⟨b,o,none⟩) 1 cap] 50)).cell? ⟨w.heap.size,1,none⟩=some (.slice (some ⟨b,o,none⟩) 1 cap):=by simp
 go_enter Tryz.func69,Tryz.ntmps69
 go_wp2_with fail
 refine (hL.out _ bA).mono ?_
 rintro e w1 ⟨rfl,g1⟩
 have b1:=bA.trans (g1.mono bA.size)
 have q0:=cell_later g1 p0
 have q1:=cell_later g1 p1
 go_wp2_with fail
 refine (hC.out _ b1).mono ?_
 rintro e w2 ⟨rfl,g2⟩
 have D2:=g1.trans (g2.mono g1.size)
 have b2:=bA.trans (D2.mono bA.size)
 have e0:=cell_later D2 p0
 have e1:=cell_later D2 p1
 have hx2:=hx.later b2
 clear g1 g2 q0 q1 p0 p1 hx hL hC
 have x00:=(hx2 0 _ rfl).1
 have x01:=(hx2 0 _ rfl).2.1
 have x02:=(hx2 0 _ rfl).2.2
 simp only [Nat.zero_mul,Nat.add_zero] at x00 x01 x02
 go_wp2_with fail
 refine (h0.out _ _ _ _).mono ?_
 rintro e w3 ⟨rfl,g3⟩
 have b3:=b2.trans (g3.mono b2.size)
 clear g3
 have s0:=hS k n p
 have hz:¬ 9223372036854775807<1+(TXT k n p).size:=by omega
 clear hS
 go_wp2
 go_ret
 exact ⟨by first|rfl|simp,b3⟩
set_option maxRecDepth 10000 in
theorem stext3(k n p k1 n1 p1:Int)(TXT:Int→Int→Int→ByteArray)(hS:∀k n p,(TXT k n p).size≤60)(b o cap:Nat)(w:World)(hx:Ops w b o [(k,n,p),(k1,n1,p1)])
  (hL:Hid (∀W,Below w.heap.size w W→Calls Tryz.prog 72 #[.agg #[.int .i64 3,.slice (some ⟨b,o,none⟩) 2 cap]] W fun e w'=>e=.returned (.bool false)∧Below W.heap.size W w'))
  (hC:Hid (∀W,Below w.heap.size w W→Calls Tryz.prog 110 #[.agg #[.int .i64 3,.slice (some ⟨b,o,none⟩) 2 cap]] W fun e w'=>e=.returned (.bool true)∧Below W.heap.size W w'))
  (h0:Hid (∀k n p W,Calls Tryz.prog 109 #[.agg #[.int .i64 k,.int .i64 n,.int .i64 p]] W fun e w'=>e=.returned (.string (TXT k n p))∧Below W.heap.size W w')) :
  Calls Tryz.prog 69 #[.agg #[.int .i64 3,.slice (some ⟨b,o,none⟩) 2 cap]] w fun e w'=>e=.returned (.string (⟨#[43]⟩++TXT k n p++⟨#[58]⟩++TXT k1 n1 p1))∧Below w.heap.size w w':=by
 have bA:Below w.heap.size w (w.alloc (.cells #[.int .i64 3,.slice (some ⟨b,o,none⟩) 2 cap] 50)):=(Below.refl _ _).alloc (Nat.le_refl _) _
 have p0:(w.alloc (.cells #[.int .i64 3,.slice (some ⟨b,o,none⟩) 2 cap] 50)).cell? ⟨w.heap.size,0,none⟩=some (.int .i64 3):=by simp
 have p1:(w.alloc (.cells #[.int .i64 3,.slice (some ⟨b,o,none⟩) 2 cap] 50)).cell? ⟨w.heap.size,1,none⟩=some (.slice (some ⟨b,o,none⟩) 2 cap):=by simp
 go_enter Tryz.func69,Tryz.ntmps69
 go_wp2_with fail
 refine (hL.out _ bA).mono ?_
 rintro e w1 ⟨rfl,g1⟩
 have b1:=bA.trans (g1.mono bA.size)
 have q0:=cell_later g1 p0
 have q1:=cell_later g1 p1
 go_wp2_with fail
 refine (hC.out _ b1).mono ?_
 rintro e w2 ⟨rfl,g2⟩
 have D2:=g1.trans (g2.mono g1.size)
 have b2:=bA.trans (D2.mono bA.size)
 have e0:=cell_later D2 p0
 have e1:=cell_later D2 p1
 have hx2:=hx.later b2
 clear g1 g2 q0 q1 p0 p1 hx hL hC
 have x00:=(hx2 0 _ rfl).1
 have x01:=(hx2 0 _ rfl).2.1
 have x02:=(hx2 0 _ rfl).2.2
 have x10:=(hx2 1 _ rfl).1
 have x11:=(hx2 1 _ rfl).2.1
 have x12:=(hx2 1 _ rfl).2.2
 simp only [Nat.zero_mul,Nat.add_zero,Nat.one_mul,Nat.add_assoc,Nat.reduceAdd] at x00 x01 x02 x10 x11 x12
 have Kx00:=cell_regrown x00
 have Kx01:=cell_regrown x01
 have Kx02:=cell_regrown x02
 have Kx10:=cell_regrown x10
 have Kx11:=cell_regrown x11
 have Kx12:=cell_regrown x12
 have Ke0:=cell_regrown e0
 have Ke1:=cell_regrown e1
 have cT:∀k n p d os,Calls Tryz.prog 109 #[.agg #[.int .i64 k,.int .i64 n,.int .i64 p]] (Sort.grow (redrawn w2 d) os) fun e w''=>e=.returned (.string (TXT k n p))∧∃p:Regrown,w''=Sort.grow (redrawn w2 p.d) p.os:=fun k n p d os=>Calls.regrown_of (h0.out k n p _)
 have s0:=hS k n p
 have s1:=hS k1 n1 p1
 have z1:¬ 9223372036854775807<1+(TXT k n p).size:=by omega
 have z2:¬ 9223372036854775807<1+(TXT k n p).size+1:=by omega
 have z3:¬ 9223372036854775807<1+(TXT k n p).size+1+(TXT k1 n1 p1).size:=by omega
 clear h0 hS
 go_upto_region 16 with fail
 refine wp_region_quiet_below (by kernel_rfl) (by kernel_rfl) ?_
 repeat (go_big_quiet_step (first|(go_at_call 109;exact cT _ _ _ _ _)))
 refine wpQuiet_nil ?_
 intro _ hw'
 obtain ⟨⟨dq,osq⟩,hw''⟩:=hw'
 subst hw''
 go_wp2
 go_ret
 exact ⟨by first|rfl|simp,b2.trans ((below_regrown w2 dq osq).mono b2.size)⟩
set_option maxRecDepth 10000 in
theorem stext4(k n p k1 n1 p1:Int)(TXT:Int→Int→Int→ByteArray)(hS:∀k n p,(TXT k n p).size≤60)(b o cap:Nat)(w:World)(hx:Ops w b o [(k,n,p),(k1,n1,p1)])
  (hL:Hid (∀W,Below w.heap.size w W→Calls Tryz.prog 72 #[.agg #[.int .i64 4,.slice (some ⟨b,o,none⟩) 2 cap]] W fun e w'=>e=.returned (.bool false)∧Below W.heap.size W w'))
  (hC:Hid (∀W,Below w.heap.size w W→Calls Tryz.prog 110 #[.agg #[.int .i64 4,.slice (some ⟨b,o,none⟩) 2 cap]] W fun e w'=>e=.returned (.bool true)∧Below W.heap.size W w'))
  (h0:Hid (∀k n p W,Calls Tryz.prog 109 #[.agg #[.int .i64 k,.int .i64 n,.int .i64 p]] W fun e w'=>e=.returned (.string (TXT k n p))∧Below W.heap.size W w')) :
  Calls Tryz.prog 69 #[.agg #[.int .i64 4,.slice (some ⟨b,o,none⟩) 2 cap]] w fun e w'=>e=.returned (.string (⟨#[45]⟩++TXT k n p++⟨#[58]⟩++TXT k1 n1 p1))∧Below w.heap.size w w':=by
 have bA:Below w.heap.size w (w.alloc (.cells #[.int .i64 4,.slice (some ⟨b,o,none⟩) 2 cap] 50)):=(Below.refl _ _).alloc (Nat.le_refl _) _
 have p0:(w.alloc (.cells #[.int .i64 4,.slice (some ⟨b,o,none⟩) 2 cap] 50)).cell? ⟨w.heap.size,0,none⟩=some (.int .i64 4):=by simp
 have p1:(w.alloc (.cells #[.int .i64 4,.slice (some ⟨b,o,none⟩) 2 cap] 50)).cell? ⟨w.heap.size,1,none⟩=some (.slice (some ⟨b,o,none⟩) 2 cap):=by simp
 go_enter Tryz.func69,Tryz.ntmps69
 go_wp2_with fail
 refine (hL.out _ bA).mono ?_
 rintro e w1 ⟨rfl,g1⟩
 have b1:=bA.trans (g1.mono bA.size)
 have q0:=cell_later g1 p0
 have q1:=cell_later g1 p1
 go_wp2_with fail
 refine (hC.out _ b1).mono ?_
 rintro e w2 ⟨rfl,g2⟩
 have D2:=g1.trans (g2.mono g1.size)
 have b2:=bA.trans (D2.mono bA.size)
 have e0:=cell_later D2 p0
 have e1:=cell_later D2 p1
 have hx2:=hx.later b2
 clear g1 g2 q0 q1 p0 p1 hx hL hC
 have x00:=(hx2 0 _ rfl).1
 have x01:=(hx2 0 _ rfl).2.1
 have x02:=(hx2 0 _ rfl).2.2
 have x10:=(hx2 1 _ rfl).1
 have x11:=(hx2 1 _ rfl).2.1
 have x12:=(hx2 1 _ rfl).2.2
 simp only [Nat.zero_mul,Nat.add_zero,Nat.one_mul,Nat.add_assoc,Nat.reduceAdd] at x00 x01 x02 x10 x11 x12
 have Kx00:=cell_regrown x00
 have Kx01:=cell_regrown x01
 have Kx02:=cell_regrown x02
 have Kx10:=cell_regrown x10
 have Kx11:=cell_regrown x11
 have Kx12:=cell_regrown x12
 have Ke0:=cell_regrown e0
 have Ke1:=cell_regrown e1
 have cT:∀k n p d os,Calls Tryz.prog 109 #[.agg #[.int .i64 k,.int .i64 n,.int .i64 p]] (Sort.grow (redrawn w2 d) os) fun e w''=>e=.returned (.string (TXT k n p))∧∃p:Regrown,w''=Sort.grow (redrawn w2 p.d) p.os:=fun k n p d os=>Calls.regrown_of (h0.out k n p _)
 have s0:=hS k n p
 have s1:=hS k1 n1 p1
 have z1:¬ 9223372036854775807<1+(TXT k n p).size:=by omega
 have z2:¬ 9223372036854775807<1+(TXT k n p).size+1:=by omega
 have z3:¬ 9223372036854775807<1+(TXT k n p).size+1+(TXT k1 n1 p1).size:=by omega
 clear h0 hS
 go_upto_region 18 with fail
 refine wp_region_quiet_below (by kernel_rfl) (by kernel_rfl) ?_
 repeat (go_big_quiet_step (first|(go_at_call 109;exact cT _ _ _ _ _)))
 refine wpQuiet_nil ?_
 intro _ hw'
 obtain ⟨⟨dq,osq⟩,hw''⟩:=hw'
 subst hw''
 go_wp2
 go_ret
 exact ⟨by first|rfl|simp,b2.trans ((below_regrown w2 dq osq).mono b2.size)⟩
set_option maxRecDepth 10000 in
theorem stext5(op k n p k1 n1 p1:Int)(TXT:Int→Int→Int→ByteArray)(hS:∀k n p,(TXT k n p).size≤60)(G:ByteArray)(b o cap:Nat)(w:World)(ho1:5≤op)(ho2:op≤10)(m1:(op==1)=false)(m2:(op==2)=false)(m3:(op==3)=false)(m4:(op==4)=false)(hx:Ops w b o [(k,n,p),(k1,n1,p1)])
  (hL:Hid (∀W,Below w.heap.size w W→Calls Tryz.prog 72 #[.agg #[.int .i64 op,.slice (some ⟨b,o,none⟩) 2 cap]] W fun e w'=>e=.returned (.bool false)∧Below W.heap.size W w'))
  (hC:Hid (∀W,Below w.heap.size w W→Calls Tryz.prog 110 #[.agg #[.int .i64 op,.slice (some ⟨b,o,none⟩) 2 cap]] W fun e w'=>e=.returned (.bool true)∧Below W.heap.size W w'))
  (h0:Hid (∀k n p W,Calls Tryz.prog 109 #[.agg #[.int .i64 k,.int .i64 n,.int .i64 p]] W fun e w'=>e=.returned (.string (TXT k n p))∧Below W.heap.size W w'))
  (hG:Hid (∀W,Calls Tryz.prog 111 #[.int .i64 op] W fun e w'=>e=.returned (.string G)∧Below W.heap.size W w')) (sG:G.size≤2) :
  Calls Tryz.prog 69 #[.agg #[.int .i64 op,.slice (some ⟨b,o,none⟩) 2 cap]] w fun e w'=>e=.returned (.string (TXT k n p++G++TXT k1 n1 p1))∧Below w.heap.size w w':=by
 have bA:Below w.heap.size w (w.alloc (.cells #[.int .i64 op,.slice (some ⟨b,o,none⟩) 2 cap] 50)):=(Below.refl _ _).alloc (Nat.le_refl _) _
 have p0:(w.alloc (.cells #[.int .i64 op,.slice (some ⟨b,o,none⟩) 2 cap] 50)).cell? ⟨w.heap.size,0,none⟩=some (.int .i64 op):=by simp
 have p1:(w.alloc (.cells #[.int .i64 op,.slice (some ⟨b,o,none⟩) 2 cap] 50)).cell? ⟨w.heap.size,1,none⟩=some (.slice (some ⟨b,o,none⟩) 2 cap):=by simp
 go_enter Tryz.func69,Tryz.ntmps69
 go_wp2_with fail
 refine (hL.out _ bA).mono ?_
 rintro e w1 ⟨rfl,g1⟩
 have b1:=bA.trans (g1.mono bA.size)
 have q0:=cell_later g1 p0
 have q1:=cell_later g1 p1
 go_wp2_with fail
 refine (hC.out _ b1).mono ?_
 rintro e w2 ⟨rfl,g2⟩
 have D2:=g1.trans (g2.mono g1.size)
 have b2:=bA.trans (D2.mono bA.size)
 have e0:=cell_later D2 p0
 have e1:=cell_later D2 p1
 have hx2:=hx.later b2
 clear g1 g2 q0 q1 p0 p1 hx hL hC
 have x00:=(hx2 0 _ rfl).1
 have x01:=(hx2 0 _ rfl).2.1
 have x02:=(hx2 0 _ rfl).2.2
 have x10:=(hx2 1 _ rfl).1
 have x11:=(hx2 1 _ rfl).2.1
 have x12:=(hx2 1 _ rfl).2.2
 simp only [Nat.zero_mul,Nat.add_zero,Nat.one_mul,Nat.add_assoc,Nat.reduceAdd] at x00 x01 x02 x10 x11 x12
 have Kx00:=cell_regrown x00
 have Kx01:=cell_regrown x01
 have Kx02:=cell_regrown x02
 have Kx10:=cell_regrown x10
 have Kx11:=cell_regrown x11
 have Kx12:=cell_regrown x12
 have Ke0:=cell_regrown e0
 have Ke1:=cell_regrown e1
 have cT:∀k n p d os,Calls Tryz.prog 109 #[.agg #[.int .i64 k,.int .i64 n,.int .i64 p]] (Sort.grow (redrawn w2 d) os) fun e w''=>e=.returned (.string (TXT k n p))∧∃p:Regrown,w''=Sort.grow (redrawn w2 p.d) p.os:=fun k n p d os=>Calls.regrown_of (h0.out k n p _)
 have s0:=hS k n p
 have s1:=hS k1 n1 p1
 have cG:∀d os,Calls Tryz.prog 111 #[.int .i64 op] (Sort.grow (redrawn w2 d) os) fun e w''=>e=.returned (.string G)∧∃p:Regrown,w''=Sort.grow (redrawn w2 p.d) p.os:=fun d os=>Calls.regrown_of (hG.out _)
 have z1:¬ 9223372036854775807<(TXT k n p).size+G.size:=by omega
 have z2:¬ 9223372036854775807<(TXT k n p++G).size+(TXT k1 n1 p1).size:=by rw [ByteArray.size_append];omega
 have z3:¬ 9223372036854775807<(TXT k n p).size+G.size+(TXT k1 n1 p1).size:=by omega
 clear h0 hS hG
 go_upto_region 19 with fail
 refine wp_region_quiet_below (by kernel_rfl) (by kernel_rfl) ?_
 repeat (go_big_quiet_step (first|(go_at_call 109;exact cT _ _ _ _ _)|(go_at_call 111;exact cG _ _)))
 refine wpQuiet_nil ?_
 intro _ hw'
 obtain ⟨⟨dq,osq⟩,hw''⟩:=hw'
 subst hw''
 go_wp2
 go_ret
 exact ⟨by first|rfl|simp,b2.trans ((below_regrown w2 dq osq).mono b2.size)⟩
def accT(P:ByteArray)(TX:Nat→ByteArray):Nat→ByteArray
 | 0=>P++TX 0
 | n+1=>accT P TX n++⟨#[44]⟩++TX (n+1)
theorem acc_size(P:ByteArray)(TX:Nat→ByteArray)(hP:P.size≤8)(hT:∀n,(TX n).size≤60):∀n,(accT P TX n).size≤8+61*(n+1)
 | 0=>by have:=hT 0;simp only [accT,ByteArray.size_append];omega
 | n+1=>by
  have h1:=acc_size P TX hP hT n
  have h2:=hT (n+1)
  have h3:(⟨#[44]⟩:ByteArray).size=1:=rfl
  simp only [accT,ByteArray.size_append,h3];omega
set_option maxRecDepth 10000 in
theorem stext_coil(op:Int)(m b o cap:Nat)(hm1:1≤m)(hm3:m≤3)(X:Nat→Arg)(TXT:Int→Int→Int→ByteArray)(hS:∀k n p,(TXT k n p).size≤60)(NM:ByteArray)(hNM:NM.size≤6)(w:World)
  (hX:∀n,n<m→w.cell? ⟨b,o+n*3,none⟩=some (.int .i64 (X n).1)∧w.cell? ⟨b,o+n*3+1,none⟩=some (.int .i64 (X n).2.1)∧w.cell? ⟨b,o+n*3+2,none⟩=some (.int .i64 (X n).2.2))
  (hL:Hid (∀W,Below w.heap.size w W→Calls Tryz.prog 72 #[.agg #[.int .i64 op,.slice (some ⟨b,o,none⟩) m cap]] W fun e w'=>e=.returned (.bool true)∧Below W.heap.size W w'))
  (hN:Hid (∀W,Calls Tryz.prog 108 #[.int .i64 op] W fun e w'=>e=.returned (.string NM)∧Below W.heap.size W w'))
  (h0:Hid (∀k n p W,Calls Tryz.prog 109 #[.agg #[.int .i64 k,.int .i64 n,.int .i64 p]] W fun e w'=>e=.returned (.string (TXT k n p))∧Below W.heap.size W w')) :
  Calls Tryz.prog 69 #[.agg #[.int .i64 op,.slice (some ⟨b,o,none⟩) m cap]] w fun e w'=>e=.returned (.string (accT (NM++⟨#[58]⟩) (fun n=>TXT (X n).1 (X n).2.1 (X n).2.2) (m-1)))∧Below w.heap.size w w':=by
 have hP:(NM++⟨#[58]⟩).size≤8:=by rw [ByteArray.size_append];have:(⟨#[58]⟩:ByteArray).size=1:=rfl;omega
 have hacc:=acc_size (NM++⟨#[58]⟩) (fun n=>TXT (X n).1 (X n).2.1 (X n).2.2) hP (fun n=>hS _ _ _)
 obtain ⟨AC,HAC⟩:∃AC,Hid (AC=accT (NM++⟨#[58]⟩) (fun n=>TXT (X n).1 (X n).2.1 (X n).2.2)):=⟨_,Eq.refl (accT (NM++(⟨#[58]⟩:ByteArray)) (fun n=>TXT (X n).1 (X n).2.1 (X n).2.2))⟩
 rw [←HAC.out] at hacc ⊢
 have ac0:Hid (AC 0=NM++⟨#[58]⟩++TXT (X 0).1 (X 0).2.1 (X 0).2.2):=by show AC 0=_;rw [HAC.out];rfl
 have ac1:Hid (∀n,AC (n+1)=AC n++⟨#[44]⟩++TXT (X (n+1)).1 (X (n+1)).2.1 (X (n+1)).2.2):=by show ∀n,_;intro n;rw [HAC.out];rfl
 clear HAC hP
 have bA:Below w.heap.size w (w.alloc (.cells #[.int .i64 op,.slice (some ⟨b,o,none⟩) m cap] 50)):=(Below.refl _ _).alloc (Nat.le_refl _) _
 have bl:b<w.heap.size:=World.block_lt_of_cell? _ _ (hX 0 (by omega)).1
 have p0:(w.alloc (.cells #[.int .i64 op,.slice (some ⟨b,o,none⟩) m cap] 50)).cell? ⟨w.heap.size,0,none⟩=some (.int .i64 op):=by simp
 have p1:(w.alloc (.cells #[.int .i64 op,.slice (some ⟨b,o,none⟩) m cap] 50)).cell? ⟨w.heap.size,1,none⟩=some (.slice (some ⟨b,o,none⟩) m cap):=by simp
 have hm0:(0:Int)<(m:Int):=by omega
 go_enter Tryz.func69,Tryz.ntmps69
 go_wp2_with fail
 refine (hL.out _ bA).mono ?_
 rintro e w1 ⟨rfl,g1⟩
 have b1:=bA.trans (g1.mono bA.size)
 have e0:=cell_later g1 p0
 have e1:=cell_later g1 p1
 have x0:=(b1.cell (p:=⟨b,o+0*3,none⟩) bl).trans (hX 0 (by omega)).1
 have x1:=(b1.cell (p:=⟨b,o+0*3+1,none⟩) bl).trans (hX 0 (by omega)).2.1
 have x2:=(b1.cell (p:=⟨b,o+0*3+2,none⟩) bl).trans (hX 0 (by omega)).2.2
 simp only [Nat.zero_mul,Nat.add_zero] at x0 x1 x2
 have Kx0:=cell_regrown x0
 have Kx1:=cell_regrown x1
 have Kx2:=cell_regrown x2
 have Ke0:=cell_regrown e0
 have Ke1:=cell_regrown e1
 have cT:∀k n p d os,Calls Tryz.prog 109 #[.agg #[.int .i64 k,.int .i64 n,.int .i64 p]] (Sort.grow (redrawn w1 d) os) fun e w''=>e=.returned (.string (TXT k n p))∧∃p:Regrown,w''=Sort.grow (redrawn w1 p.d) p.os:=fun k n p d os=>Calls.regrown_of (h0.out k n p _)
 have cN:∀d os,Calls Tryz.prog 108 #[.int .i64 op] (Sort.grow (redrawn w1 d) os) fun e w''=>e=.returned (.string NM)∧∃p:Regrown,w''=Sort.grow (redrawn w1 p.d) p.os:=fun d os=>Calls.regrown_of (hN.out _)
 have s0:=hS (X 0).1 (X 0).2.1 (X 0).2.2
 have z1:¬ 9223372036854775807<NM.size+1:=by omega
 have z2:¬ 9223372036854775807<NM.size+1+(TXT (X 0).1 (X 0).2.1 (X 0).2.2).size:=by omega
 go_upto_region 2 with fail
 refine wp_region_quiet_below (by kernel_rfl) (by kernel_rfl) ?_
 repeat (go_big_quiet_step (first|(go_at_call 109;exact cT _ _ _ _ _)|(go_at_call 108;exact cN _ _)))
 refine wpQuiet_nil ?_
 intro _ hw'
 obtain ⟨⟨dq,osq⟩,hw''⟩:=hw'
 subst hw''
 have g2:=g1.trans ((below_regrown w1 dq osq).mono g1.size)
 dsimp only at g2 ⊢
 generalize Sort.grow (redrawn w1 dq) osq=w2 at g2 ⊢
 clear cT cN Kx0 Kx1 Kx2 Ke0 Ke1 x0 x1 x2 e0 e1 b1 g1 hL hN
 go_wp2
 go_loopg [3,4] (m-1) (fun g s i wr=>∃n:Nat,n+g=m∧1≤n∧i=.int .i64 n∧s=.string (AC (n-1))∧Below (w.alloc (.cells #[.int .i64 op,.slice (some ⟨b,o,none⟩) m cap] 50)).heap.size (w.alloc (.cells #[.int .i64 op,.slice (some ⟨b,o,none⟩) m cap] 50)) wr)
 case atStart=>exact ⟨1,by omega,by omega,rfl,by rw [ac0.out],g2⟩
 case round =>
  obtain ⟨n,hn,hn1,rfl,rfl,hb⟩:=hrel
  have hbw:Below w.heap.size w wr:=bA.trans (hb.mono bA.size)
  have e1:=cell_later hb p1
  by_cases hlt:n<m
  ·have i1:(n:Int)<(m:Int):=by omega
   have i3:(0:Int)≤(n:Int):=by omega
   have y0:wr.cell? ⟨b,o+n*3,none⟩=some (.int .i64 (X n).1):=(hbw.cell (p:=⟨b,o+n*3,none⟩) bl).trans (hX n hlt).1
   have y1:wr.cell? ⟨b,o+n*3+1,none⟩=some (.int .i64 (X n).2.1):=(hbw.cell (p:=⟨b,o+n*3+1,none⟩) bl).trans (hX n hlt).2.1
   have y2:wr.cell? ⟨b,o+n*3+2,none⟩=some (.int .i64 (X n).2.2):=(hbw.cell (p:=⟨b,o+n*3+2,none⟩) bl).trans (hX n hlt).2.2
   have HE:Hid (AC n=AC (n-1)++⟨#[44]⟩++TXT (X n).1 (X n).2.1 (X n).2.2):=by
    have:=ac1.out (n-1)
    rw [show n-1+1=n by omega] at this
    exact this
   have hsz:=hacc (n-1)
   have hst:=hS (X n).1 (X n).2.1 (X n).2.2
   obtain ⟨PA,HPA⟩:∃PA,Hid (PA=AC (n-1)):=⟨_,Eq.refl (AC (n-1))⟩
   rw [←HPA.out] at HE hsz ⊢
   have z1:¬ 9223372036854775807<PA.size+1:=by omega
   have z2:¬ 9223372036854775807<PA.size+1+(TXT (X n).1 (X n).2.1 (X n).2.2).size:=by omega
   have HT0:Hid (∀W,Calls Tryz.prog 109 #[.agg #[.int .i64 (X n).1,.int .i64 (X n).2.1,.int .i64 (X n).2.2]] W fun e w'=>e=.returned (.string (TXT (X n).1 (X n).2.1 (X n).2.2))∧Below W.heap.size W w'):=fun W=>h0.out _ _ _ W
   generalize TXT (X n).1 (X n).2.1 (X n).2.2=TT at HE hst z2 HT0
   generalize (X n).1=A1 at y0 HT0
   generalize (X n).2.1=A2 at y1 HT0
   generalize (X n).2.2=A3 at y2 HT0
   clear hX hS hacc h0 ac0 ac1 HPA
   go_wp2_with fail
   refine (HT0.out _).mono ?_
   rintro e w4 ⟨rfl,g4⟩
   have D4:=hb.trans (g4.mono hb.size)
   clear g4
   go_wp2
   go_roundg (gk-1)
   case measure=>omega
   case rel=>exact ⟨n+1,by omega,by omega,by simp,by rw [show n+1-1=n by omega,HE.out],D4⟩
  ·have i1:¬((n:Int)<(m:Int)):=by omega
   have hnm:n=m:=by omega
   subst hnm
   go_wp2
   go_ret
   exact ⟨rfl,hbw⟩
theorem nm_le(op:Int):(nmE op).size≤6:=by
 by_cases h:op<21∨38≤op
 ·rw [nm_out op h];decide
 ·rcases c17 op (by omega) (by omega) with rfl|rfl|rfl|rfl|rfl|rfl|rfl|rfl|rfl|rfl|rfl|rfl|rfl|rfl|rfl|rfl|rfl
  all_goals decide
theorem ahd_nm(op:Int)(h1:21≤op)(h2:op<38):ahd op=nmE op++⟨#[58]⟩:=by
 rcases c17 op h1 h2 with rfl|rfl|rfl|rfl|rfl|rfl|rfl|rfl|rfl|rfl|rfl|rfl|rfl|rfl|rfl|rfl|rfl
 all_goals rfl
theorem btw_comma(op:Int)(h1:21≤op)(h2:op<38)(h3:2≤(ndP op).length):btw op=⟨#[44]⟩:=by
 rcases c17 op h1 h2 with rfl|rfl|rfl|rfl|rfl|rfl|rfl|rfl|rfl|rfl|rfl|rfl|rfl|rfl|rfl|rfl|rfl
 all_goals first|rfl|(exfalso;revert h3;decide)
theorem etl_ba(op:Int)(xs:List Arg):(⟨(etl op xs).toArray⟩:ByteArray)=ahd op++⟨(Lib.join (xs.map tl) (btw op).data.toList).toArray⟩:=by
 unfold etl
 apply ByteArray.ext
 simp
theorem ba_tl(x:Arg):(⟨(tl x).toArray⟩:ByteArray)=txt x.1 x.2.1 x.2.2:=by
 apply ByteArray.ext
 simp [tl]
theorem join1(x:Arg)(sep:List UInt8):(⟨(Lib.join ([x].map tl) sep).toArray⟩:ByteArray)=txt x.1 x.2.1 x.2.2:=by
 rw [List.map_cons,List.map_nil,Lib.join_one,ba_tl]
theorem join2(x y:Arg)(sep:ByteArray):(⟨(Lib.join ([x,y].map tl) sep.data.toList).toArray⟩:ByteArray)=txt x.1 x.2.1 x.2.2++sep++txt y.1 y.2.1 y.2.2:=by
 rw [List.map_cons,List.map_cons,List.map_nil,Lib.join_cons]
 apply ByteArray.ext
 simp [Lib.joinTail,tl]
theorem join3(x y z:Arg)(sep:ByteArray):(⟨(Lib.join ([x,y,z].map tl) sep.data.toList).toArray⟩:ByteArray)=txt x.1 x.2.1 x.2.2++sep++txt y.1 y.2.1 y.2.2++sep++txt z.1 z.2.1 z.2.2:=by
 rw [List.map_cons,List.map_cons,List.map_cons,List.map_nil,Lib.join_cons]
 apply ByteArray.ext
 simp [Lib.joinTail,tl]
theorem len_cases{xs:List Arg}(h1:1≤xs.length)(h3:xs.length≤3):(∃x,xs=[x])∨(∃x y,xs=[x,y])∨∃x y z,xs=[x,y,z]:=by
 match xs,h1,h3 with
 | [x],_,_=>exact .inl ⟨x,rfl⟩
 | [x,y],_,_=>exact .inr (.inl ⟨x,y,rfl⟩)
 | [x,y,z],_,_=>exact .inr (.inr ⟨x,y,z,rfl⟩)
 | [],h,_=>simp at h
 | _::_::_::_::_,_,h=>simp at h
theorem acc_etx(op:Int)(xs:List Arg)(hr:rtk op xs=true)(h21:21≤op) :
  accT (nmE op++⟨#[58]⟩) (fun n=>txt (xf xs n).1 (xf xs n).2.1 (xf xs n).2.2) (xs.length-1)=ahd op++⟨(Lib.join (xs.map tl) (btw op).data.toList).toArray⟩:=by
 have h38:op<38:=by
  by_cases h:op<38
  ·exact h
  ·have:ndP op=[]:=(zen op (by omega)).2.2.1
   rw [nd_none op this] at hr;cases hr
 obtain ⟨hl,_⟩:=zhg hr
 obtain ⟨h1,h3⟩:=rtk_3 hr
 unfold arN at hl
 rw [ahd_nm op h21 h38]
 rcases len_cases h1 h3 with ⟨x,rfl⟩|⟨x,y,rfl⟩|⟨x,y,z,rfl⟩
 ·rw [join1];rfl
 ·rw [join2,btw_comma op h21 h38 (by simp at hl;omega)]
  show nmE op++⟨#[58]⟩++txt x.1 x.2.1 x.2.2++⟨#[44]⟩++txt y.1 y.2.1 y.2.2=_
  simp only [ByteArray.append_assoc]
 ·rw [join3,btw_comma op h21 h38 (by simp at hl;omega)]
  show nmE op++⟨#[58]⟩++txt x.1 x.2.1 x.2.2++⟨#[44]⟩++txt y.1 y.2.1 y.2.2++⟨#[44]⟩++txt z.1 z.2.1 z.2.2=_
  simp only [ByteArray.append_assoc]
theorem selem_no(op:Int)(a:Option Addr)(len cap:Nat)(w:World)
  (hL:Hid (∀W,Below w.heap.size w W→Calls Tryz.prog 72 #[.agg #[.int .i64 op,.slice a len cap]] W fun e w'=>e=.returned (.bool false)∧Below W.heap.size W w'))
  (hC:Hid (∀W,Below w.heap.size w W→Calls Tryz.prog 110 #[.agg #[.int .i64 op,.slice a len cap]] W fun e w'=>e=.returned (.bool false)∧Below W.heap.size W w')) :
  Calls Tryz.prog 69 #[.agg #[.int .i64 op,.slice a len cap]] w fun e w'=>e=.returned (.string ⟨#[]⟩)∧Below w.heap.size w w':=by
 have bA:Below w.heap.size w (w.alloc (.cells #[.int .i64 op,.slice a len cap] 50)):=(Below.refl _ _).alloc (Nat.le_refl _) _
 have p0:(w.alloc (.cells #[.int .i64 op,.slice a len cap] 50)).cell? ⟨w.heap.size,0,none⟩=some (.int .i64 op):=by simp
 have p1:(w.alloc (.cells #[.int .i64 op,.slice a len cap] 50)).cell? ⟨w.heap.size,1,none⟩=some (.slice a len cap):=by simp
 go_enter Tryz.func69,Tryz.ntmps69
 go_wp2_with fail
 refine (hL.out _ bA).mono ?_
 rintro e w1 ⟨rfl,g1⟩
 have b1:=bA.trans (g1.mono bA.size)
 have q0:=cell_later g1 p0
 have q1:=cell_later g1 p1
 clear g1
 go_wp2_with fail
 refine (hC.out _ b1).mono ?_
 rintro e w2 ⟨rfl,g2⟩
 have b2:=b1.trans (g2.mono b1.size)
 clear g2
 go_wp2
 go_ret
 exact ⟨rfl,b2⟩
theorem zil(op:Int)(a:Option Addr)(xs:List Arg)(len cap:Nat)(hlen:len=xs.length)(w:World)(hx:Sl w a xs) :
  Calls Tryz.prog 69 #[.agg #[.int .i64 op,.slice a len cap]] w fun e w'=>e=.returned (.string (etx op xs))∧Below w.heap.size w w':=by
 have hL:=fun W h=>zep op a xs len cap hlen W (hx.later (w':=W) h)
 have hC:=fun W h=>zcu op a xs len cap hlen W (hx.later (w':=W) h)
 cases hr:rtk op xs with
 | false =>
  rw [show etx op xs=⟨#[]⟩ by unfold etx;rw [hr];rfl]
  rw [hr] at hL hC
  simp only [Bool.and_false] at hL hC
  exact selem_no op a len cap w hL hC
 | true =>
  rw [hr] at hL hC
  simp only [Bool.and_true] at hL hC
  obtain ⟨h1,h3⟩:=rtk_3 hr
  subst hlen
  obtain ⟨b,o,rfl,ho⟩:∃b o,a=some ⟨b,o,none⟩∧Ops w b o xs:=by
   rcases hx with rfl|h
   ·simp at h1
   ·exact h
  rw [show etx op xs=ahd op++⟨(Lib.join (xs.map tl) (btw op).data.toList).toArray⟩ by unfold etx;rw [hr,if_pos rfl,etl_ba]]
  by_cases h21:21≤op
  ·rw [←acc_etx op xs hr h21]
   have ed:decide (21≤op)=true:=by simpa using h21
   rw [ed] at hL
   exact stext_coil op xs.length b o cap h1 h3 (xf xs) txt zik (nmE op) (nm_le op) w (fun n hn=>ho.fn n hn) hL (fun W=>spec_name op W) (fun k n p W=>zcd k n p W)
  ·have ed:decide (21≤op)=false:=by simpa using h21
   rw [ed] at hL
   have h10:1≤op∧op≤10:=by
    by_cases h:1≤op∧op≤10
    ·exact h
    ·have:ndP op=[]:=by unfold ndP;repeat rw [if_neg (by omega)]
     rw [nd_none op this] at hr;cases hr
   have ec:decide (op≤10)=true:=by simpa using h10.2
   rw [ec] at hC
   obtain ⟨hl,_⟩:=zhg hr
   have:op=1∨op=2∨op=3∨op=4∨(5≤op∧op≤10):=by omega
   rcases this with rfl|rfl|rfl|rfl|⟨h5,h6⟩
   ·obtain ⟨k,n,p,rfl⟩:=len1 (hl.trans rfl)
    rw [join1,show ahd 1=⟨#[]⟩ from rfl]
    rw [show (⟨#[]⟩:ByteArray)++txt k n p=txt k n p by apply ByteArray.ext;simp]
    exact stext1 k n p txt zik b o cap w ho hL hC (fun k n p W=>zcd k n p W)
   ·obtain ⟨k,n,p,rfl⟩:=len1 (hl.trans rfl)
    rw [join1,show ahd 2=⟨#[47]⟩ from rfl]
    exact stext2 k n p txt zik b o cap w ho hL hC (fun k n p W=>zcd k n p W)
   ·obtain ⟨k,n,p,k1,n1,p1,rfl⟩:=len2 (hl.trans rfl)
    rw [join2,show ahd 3=⟨#[43]⟩ from rfl,show btw 3=⟨#[58]⟩ from rfl]
    rw [show (⟨#[43]⟩:ByteArray)++(txt k n p++⟨#[58]⟩++txt k1 n1 p1)=⟨#[43]⟩++txt k n p++⟨#[58]⟩++txt k1 n1 p1 by simp only [ByteArray.append_assoc]]
    exact stext3 k n p k1 n1 p1 txt zik b o cap w ho hL hC (fun k n p W=>zcd k n p W)
   ·obtain ⟨k,n,p,k1,n1,p1,rfl⟩:=len2 (hl.trans rfl)
    rw [join2,show ahd 4=⟨#[45]⟩ from rfl,show btw 4=⟨#[58]⟩ from rfl]
    rw [show (⟨#[45]⟩:ByteArray)++(txt k n p++⟨#[58]⟩++txt k1 n1 p1)=⟨#[45]⟩++txt k n p++⟨#[58]⟩++txt k1 n1 p1 by simp only [ByteArray.append_assoc]]
    exact stext4 k n p k1 n1 p1 txt zik b o cap w ho hL hC (fun k n p W=>zcd k n p W)
   ·have ar2:arN op=2∧ahd op=⟨#[]⟩:=by
     have:op=5∨op=6∨op=7∨op=8∨op=9∨op=10:=by omega
     rcases this with rfl|rfl|rfl|rfl|rfl|rfl<;>exact ⟨rfl,rfl⟩
    obtain ⟨k,n,p,k1,n1,p1,rfl⟩:=len2 (hl.trans ar2.1)
    rw [join2,ar2.2]
    rw [show (⟨#[]⟩:ByteArray)++(txt k n p++btw op++txt k1 n1 p1)=txt k n p++btw op++txt k1 n1 p1 by apply ByteArray.ext;simp]
    exact stext5 op k n p k1 n1 p1 txt zik (btw op) b o cap w h5 h6 (by simp;omega) (by simp;omega) (by simp;omega) (by simp;omega) ho hL hC (fun k n p W=>zcd k n p W) (fun W=>spec_sign op h5 h6 W) (btw_le op)
end Go.Proofs.YtllmabgollkigaaGreatDoor
