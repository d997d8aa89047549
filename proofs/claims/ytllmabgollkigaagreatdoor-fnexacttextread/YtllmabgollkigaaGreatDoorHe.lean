/- The specification's l4Args: operands read between signs. -/
import Derived.Test.YtllmabgollkigaaGreatDoorHaM
namespace Go.Proofs.YtllmabgollkigaaGreatDoor
open Go.RowKit
set_option linter.unusedVariables false
def opv(x:Int×Int×Int):List Value:=[.int .i64 x.1,.int .i64 x.2.1,.int .i64 x.2.2]
def opsL(xs:List (Int×Int×Int)):List Value:=(xs.map opv).flatten
def OpsOwn(W:World)(base g cap:Nat)(xs:List (Int×Int×Int)):Prop:=W.ownsRow base 133 3 (.slice (some ⟨g,0,none⟩) xs.length cap) xs.length (opsL xs)
theorem OpsOwn.later{W W':World}{base g cap:Nat}{xs:List (Int×Int×Int)}(h:OpsOwn W base g cap xs)(b:Below W.heap.size W W'):OpsOwn W' base g cap xs:=zbx h b
theorem OpsOwn.base{W:World}{base base' g cap:Nat}{xs:List (Int×Int×Int)}(h:OpsOwn W base g cap xs)(hb:base'≤base):OpsOwn W base' g cap xs:=by
 obtain ⟨h1,h2|⟨g',cap',cur,hv,hb',hh,h3⟩⟩:=h
 ·exact ⟨h1,.inl h2⟩
 ·exact ⟨h1,.inr ⟨g',cap',cur,hv,by omega,hh,h3⟩⟩
theorem new_three(W:World)(x y z:Value):∀(q:Nat)(u:Value),[x,y,z][q]?=some u→(W.alloc (.cells #[x,y,z] 133)).cell? ((⟨W.heap.size,0,none⟩:Addr).add q)=some u:=by
 intro q u h
 have hq:q<3:=by have:=(List.getElem?_eq_some_iff.1 h).1;simpa using this
 rcases (by omega:q=0∨q=1∨q=2) with rfl|rfl|rfl<;>(simp at h;subst h;simp [Addr.add])
theorem M_size{c : UInt8}{s : ByteArray}{M : List ByteArray}(h : M.map (·.data.toList) = pieces c s.data.toList) : ∀ x ∈ M, x.size ≤ s.size := fun x hx => by
 have hm:x.data.toList∈pieces c s.data.toList:=by rw [←h];exact List.mem_map.2 ⟨x,hx,rfl⟩
 have hj:∀(L:List (List UInt8))(y:List UInt8),y∈L→y.length≤(Lib.join L [c]).length:=by
  intro L y hy
  cases L with
  | nil=>cases hy
  | cons a L =>
   rw [Lib.join_cons]
   rcases List.mem_cons.1 hy with rfl|hy
   ·simp
   ·have:∀L:List (List UInt8),y∈L→y.length≤(Lib.joinTail [c] L).length:=by
     intro L
     induction L with
     | nil=>intro h;cases h
     | cons b L ih =>
      intro h
      simp only [Lib.joinTail,List.map_cons,List.flatten_cons,List.length_append,List.length_cons] at ih ⊢
      rcases List.mem_cons.1 h with rfl|h
      ·omega
      ·have:=ih h
       omega
    have:=this L hy
    simp;omega
 have:=hj _ _ hm
 rw [join_pieces] at this
 simpa using this
def IsArgs(s:ByteArray)(c:UInt8)(rd:ByteArray→Int×Int×Int)(w:World)(e:Ending)(w':World):Prop :=
 ∃ (g cap : Nat) (M : List ByteArray) (xs : List (Int × Int × Int)), M.map (·.data.toList) = pieces c s.data.toList ∧ xs = (M.take 4).map rd ∧ e = .returned (.slice (some ⟨g, 0, none⟩) xs.length cap) ∧ OpsOwn w' w.heap.size g cap xs ∧ Below w.heap.size w w'
set_option maxRecDepth 10000 in
set_option maxHeartbeats 4000000 in
theorem args_s(s:ByteArray)(c:UInt8)(rd:ByteArray→Int×Int×Int)(ok:ByteArray→Bool)(w:World)(hs:s.size≤1048576)
  (HR:Hid (∀x:ByteArray,x.size≤1048576→∀W,Calls Tryz.prog 187 #[.string x] W fun e w'=>e=.returned (.tuple #[.agg #[.int .i64 (rd x).1,.int .i64 (rd x).2.1,.int .i64 (rd x).2.2],.bool (ok x)])∧Below W.heap.size W w')) :
  Calls Tryz.prog 158 #[.string s,.int .u8 (c.toNat:Int)] w fun e w'=>IsArgs s c rd w e w':=by
 have hinfo:(Tryz.prog.info? 133).map (fun i=>(i.zero,i.size,i.bytes))=some (some (.agg #[.int .i64 0,.int .i64 0,.int .i64 0]),3,24):=by kernel_rfl
 obtain ⟨i0,hi,hzz⟩:=Option.map_eq_some_iff.1 hinfo
 simp only [Prod.mk.injEq] at hzz
 obtain ⟨hz0,hz1,hz2⟩:=hzz
 have HI:Hid (Tryz.prog.info? 133=some i0∧i0.zero=some (.agg #[.int .i64 0,.int .i64 0,.int .i64 0])∧i0.size=3∧i0.bytes=24):=⟨hi,hz0,hz1,hz2⟩
 clear hi hz0 hz1 hz2 hinfo
 go_enter Tryz.func158,Tryz.ntmps158
 go_wp2_with fail
 refine (cut_s s c w (by omega)).mono ?_
 rintro e w1 ⟨g0,cap0,M,rfl,HW1,HB1,HP⟩
 have HW0:Hid (Words w1 w.heap.size g0 cap0 M):=HW1
 have HB0:Hid (Below w.heap.size w w1):=HB1
 have HP0 : Hid (M.map (·.data.toList) = pieces c s.data.toList) := HP
 have hMl:M.length≤s.size+1:=by
  have h1:=congrArg List.length HP
  have h2:=zde c s.data.toList
  simp at h1 h2
  omega
 have hMc:=owns_cap HW1
 have hg0:=HW1.lt
 clear HW1 HB1 HP
 go_wp2_with fail
 go_loopg [6,7] 4 (fun g o i wr=>∃(n gb cap:Nat)(xs:List (Int×Int×Int)),n+g=4∧n≤M.length∧i=.int .i64 n∧o=.slice (some ⟨gb,0,none⟩) xs.length cap∧Hid (OpsOwn wr w1.heap.size gb cap xs)∧Hid (Below w1.heap.size w1 wr)∧xs.length≤n∧Hid (xs=(M.take n).map rd))
 case atStart =>
  refine ⟨0,w1.heap.size,0,[],by omega,by omega,rfl,rfl,?_,(Below.refl _ _).alloc (Nat.le_refl _) _,Nat.le_refl _,(by simp:[]=(M.take 0).map rd)⟩
  have:=World.ownsRow_made (base:=w1.heap.size) (e:=133) (size:=3) w1 #[] 0 (by simp) (by unfold maxLen;omega) rfl
  show OpsOwn _ _ _ _ _
  simpa [OpsOwn,opsL] using this
 case round =>
  obtain ⟨n,gb,cap,xs,hn,hnM,rfl,rfl,HW,HB,hL,HE⟩:=hrel
  by_cases hlt:n<M.length
  ·have i1:(n:Int)<(M.length:Int):=by omega
   by_cases hl4:n<4
   ·have i2:(n:Int)<4:=by omega
    obtain ⟨x,hx⟩:∃x,M[n]?=some x:=⟨_,List.getElem?_eq_getElem hlt⟩
    have cx:wr.cell? ⟨g0,n,none⟩=some (.string x):=(HW0.out.later HB.out).cell hx
    have ht:(M.take (n+1)).map rd=(M.take n).map rd++[rd x]:=by
     rw [List.take_add_one,hx];simp
    have hxs:x.size≤1048576:=by have:=M_size HP0.out x (List.mem_of_getElem? hx);omega
    have HRx:=HR.out x hxs
    obtain ⟨k,v,m,hrx⟩:∃k v m,rd x=(k,v,m):=⟨_,_,_,rfl⟩
    rw [hrx] at HRx ht
    have HE1:Hid (xs++[(k,v,m)]=(M.take (n+1)).map rd):=(by rw [ht,←HE.out]:xs++[(k,v,m)]=(M.take (n+1)).map rd)
    clear ht hrx
    go_wp2_with fail
    refine (HRx _).mono ?_
    rintro e w2 ⟨rfl,g2⟩
    have HB2:Hid (Below w1.heap.size w1 w2):=HB.out.trans (g2.mono HB.out.size)
    have HW2:Hid (OpsOwn w2 w1.heap.size gb cap xs):=HW.out.later g2
    clear g2 cx HRx
    have own3:((w2.alloc (.cells #[.int .i64 k,.int .i64 v,.int .i64 m] 133)).alloc (.cells #[.int .i64 k,.int .i64 v,.int .i64 m] 133)).ownsRow w1.heap.size 133 3 (.slice (some ⟨gb,0,none⟩) xs.length cap) xs.length (opsL xs):=World.ownsRow.alloc (World.ownsRow.alloc HW2.out _) _
    have hsz:(w2.alloc (.cells #[.int .i64 k,.int .i64 v,.int .i64 m] 133)).heap.size=w2.heap.size+1:=by simp
    have news3:=new_three (w2.alloc (.cells #[.int .i64 k,.int .i64 v,.int .i64 m] 133)) (.int .i64 k) (.int .i64 v) (.int .i64 m)
    rw [hsz] at news3
    clear hsz
    go_wp2_with (first|(at_builtin;refine wpList_append_lies _ rfl _ _ 48 rfl w1.heap.size 133 i0 (.agg #[.int .i64 0,.int .i64 0,.int .i64 0]) 3 24 Tryz.underlying48 HI.out.1 HI.out.2.1 HI.out.2.2.1 HI.out.2.2.2 rfl (by decide) _ xs.length (opsL xs) rfl own3 ⟨w2.heap.size+1,0,none⟩ 1 1 [.int .i64 k,.int .i64 v,.int .i64 m] rfl rfl news3 (by intro u hu;simp at hu;rcases hu with rfl|rfl|rfl<;>rfl) (by omega) ?c3 ?c4 ?c5 _ rfl ?_)|fail)
    case c3=>unfold maxLen;omega
    case c4=>omega
    case c5=>have:=HB2.out.size;simp;omega
    intro g cap1 w4 own4 g4 hat hlt4
    have hgb:w1.heap.size≤gb:=(own3.lt gb rfl).1
    have HB4:Hid (Below w1.heap.size w1 w4):=((HB2.out.alloc HB2.out.size _).alloc (by have:=HB2.out.size;simp;omega) _).grown g4 (by have:=HB2.out.size;simp;omega) (fun k hk=>by simp [Value.ownBlock] at hk;omega)
    have HW4:Hid (OpsOwn w4 w1.heap.size g cap1 (xs++[(k,v,m)])):=by
     show World.ownsRow _ _ _ _ _ _ _
     simpa [opsL,opv] using own4
    clear own3 news3 own4 g4 hat hlt4 HB2 HW2 HB HW
    go_wp2
    go_roundg (gk-1)
    case measure=>omega
    case rel=>exact ⟨n+1,g,cap1,xs++[(k,v,m)],by omega,by omega,by go_num,by simp,HW4,HB4,by simp;omega,HE1⟩
   ·have i2:¬((n:Int)<4):=by omega
    have HF:Hid (xs=(M.take 4).map rd):=(by have:n=4:=(by omega);rw [HE.out,this]:xs=(M.take 4).map rd)
    have HB9:Hid (Below w.heap.size w wr):=HB0.out.trans (HB.out.mono HB0.out.size)
    go_wp2
    go_ret
    exact ⟨gb,cap,M,xs,HP0.out,HF.out,rfl,HW.out.base HB0.out.size,HB9.out⟩
  ·have i1:¬((n:Int)<(M.length:Int)):=by omega
   have HF:Hid (xs=(M.take 4).map rd):=(by have:n=M.length:=(by omega);rw [HE.out,this,List.take_length,List.take_of_length_le (by omega)]:xs=(M.take 4).map rd)
   have HB9:Hid (Below w.heap.size w wr):=HB0.out.trans (HB.out.mono HB0.out.size)
   go_wp2
   go_ret
   exact ⟨gb,cap,M,xs,HP0.out,HF.out,rfl,HW.out.base HB0.out.size,HB9.out⟩
end Go.Proofs.YtllmabgollkigaaGreatDoor
