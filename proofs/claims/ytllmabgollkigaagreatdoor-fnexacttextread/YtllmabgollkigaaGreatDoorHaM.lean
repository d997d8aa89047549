/- Rows of strings of one's own; a text cut at a sign, as mathematics. -/
import Derived.Test.YtllmabgollkigaaGreatDoorMa
import Derived.Deep.AppendLies
import Derived.Laws.OwnMore
import Derived.Laws.AppendOwn
import Derived.Lib.Join
import Derived.Below
import Derived.Test.YtllmabgollkigaaGreatDoorRows
import Derived.WalkKit
import Derived.ProofKit
import Derived.Handy
import Derived.WalkLawsBesides
import Derived.Deep.LoopGhost
import Derived.Deep.Light
import Derived.WalkSpells
import Derived.Laws.RangeAny
import Derived.Lib.OthersKept
import Derived.Shelf.Lay
import Derived.Maps.OwnOps
import Derived.Maps.OwnSet
import Derived.Sort.KeysCollected
import Derived.StringKeys
set_option maxHeartbeats 4000000
namespace Go.Proofs.YtllmabgollkigaaGreatDoor
open Go.RowKit
set_option linter.unusedVariables false
theorem zbx{W W':World}{base:Nat}{e:TypeId}{size:Nat}{v:Value}{n:Nat}{xs:List Value}(h:W.ownsRow base e size v n xs)(g:Below W.heap.size W W'):W'.ownsRow base e size v n xs:=by
 obtain ⟨h1,h2|⟨g',cap,cur,hv,hb,hh,h3,h4,h5,h6⟩⟩:=h
 ·exact ⟨h1,.inl h2⟩
 ·exact ⟨h1,.inr ⟨g',cap,cur,hv,hb,(g.block _ (Array.getElem?_eq_some_iff.1 hh).1).trans hh,h3,h4,h5,h6⟩⟩
theorem owns_cap{W:World}{base:Nat}{e:TypeId}{size g n cap:Nat}{xs:List Value}(h:W.ownsRow base e size (.slice (some ⟨g,0,none⟩) n cap) n xs):n≤cap:=by
 obtain ⟨_,⟨h,_⟩|⟨g',cap',cur,hv,_,_,h3,_⟩⟩:=h
 ·cases h
 ·simp only [Value.slice.injEq] at hv;omega
theorem new_one(W:World)(v:Value):∀(q:Nat)(u:Value),[v][q]?=some u→(W.alloc (.cells #[v] 9)).cell? ((⟨W.heap.size,0,none⟩:Addr).add q)=some u:=by
 intro q u h
 have hq:q=0:=by have:=(List.getElem?_eq_some_iff.1 h).1;simpa using this
 subst hq
 simp at h
 subst h
 simp [Addr.add]
def strs(L:List ByteArray):List Value:=L.map Value.string
def Words(W:World)(base g cap:Nat)(L:List ByteArray):Prop:=W.ownsRow base 9 1 (.slice (some ⟨g,0,none⟩) L.length cap) L.length (strs L)
theorem Words.later{W W':World}{base g cap:Nat}{L:List ByteArray}(h:Words W base g cap L)(b:Below W.heap.size W W'):Words W' base g cap L:=zbx h b
def cutA(c:UInt8):List UInt8→List UInt8→List (List UInt8)
 | cur,[]=>[cur]
 | cur,b::r=>if b=c then cur::cutA c [] r else cutA c (cur++[b]) r
def pieces(c:UInt8)(s:List UInt8):List (List UInt8):=cutA c [] s
theorem zee(c:UInt8):∀(x cur:List UInt8),(∀b∈x,b≠c)→cutA c cur x=[cur++x]
 | [],cur,_=>by simp [cutA]
 | b::x,cur,h=>by
  unfold cutA
  rw [if_neg (h b (by simp)),zee c x _ (fun a ha=>h a (by simp [ha]))]
  simp
theorem zfc(c:UInt8)(r:List UInt8):∀(x cur:List UInt8),(∀b∈x,b≠c)→cutA c cur (x++c::r)=(cur++x)::cutA c [] r
 | [],cur,_=>by simp [cutA]
 | b::x,cur,h=>by
  rw [List.cons_append,cutA,if_neg (h b (by simp)),zfc c r x _ (fun a ha=>h a (by simp [ha]))]
  simp
theorem cutA_ne(c:UInt8):∀(x cur:List UInt8),cutA c cur x≠[]
 | [],cur=>by simp [cutA]
 | b::x,cur=>by
  unfold cutA
  split
  ·simp
  ·exact cutA_ne c x _
theorem pieces_ne(c:UInt8)(s:List UInt8):pieces c s≠[]:=cutA_ne c s []
theorem zhp(c:UInt8):∀(x:List UInt8)(L:List (List UInt8)),(∀y∈x::L,∀b∈y,b≠c)→pieces c (Lib.join (x::L) [c])=x::L
 | x,[],h=>by
  rw [Lib.join_one]
  unfold pieces
  rw [zee c x [] (h x (by simp))]
  simp
 | x,y::L,h=>by
  rw [Lib.join_cons]
  have e:Lib.joinTail [c] (y::L)=c::Lib.join (y::L) [c]:=by
   rw [Lib.join_cons];simp [Lib.joinTail]
  rw [e]
  unfold pieces
  rw [zfc c _ x [] (h x (by simp))]
  have:=zhp c y L (fun z hz=>h z (by simp at hz ⊢;exact .inr hz))
  unfold pieces at this
  rw [this]
  simp
theorem zhq(c:UInt8):∀(x cur:List UInt8),Lib.join (cutA c cur x) [c]=cur++x
 | [],cur=>by simp [cutA,Lib.join_one]
 | b::x,cur=>by
  unfold cutA
  split
  ·rename_i hb
   subst hb
   rw [Lib.join_cons]
   have ih:=zhq b x []
   cases hq:cutA b [] x with
   | nil=>exact absurd hq (cutA_ne b x [])
   | cons y L =>
    rw [hq] at ih
    have e:Lib.joinTail [b] (y::L)=b::Lib.join (y::L) [b]:=by
     rw [Lib.join_cons];simp [Lib.joinTail]
    rw [e,ih]
    simp
  ·rw [zhq c x]
   simp
theorem join_pieces(c:UInt8)(s:List UInt8):Lib.join (pieces c s) [c]=s:=by
 unfold pieces;rw [zhq];simp
theorem cutA_len(c:UInt8):∀(x cur:List UInt8),(cutA c cur x).length≤x.length+1
 | [],cur=>by simp [cutA]
 | b::x,cur=>by
  unfold cutA
  split
  ·have:=cutA_len c x []
   simp only [List.length_cons];omega
  ·have:=cutA_len c x (cur++[b])
   simp only [List.length_cons];omega
theorem zde(c:UInt8)(s:List UInt8):(pieces c s).length≤s.length+1:=cutA_len c s []
def seg(s:ByteArray)(f n:Nat):List UInt8:=(s.data.toList.take n).drop f
theorem zgj(s:ByteArray)(f n:Nat):(s.extract f n).data.toList=seg s f n:=by
 unfold seg
 rw [ByteArray.data_extract,Array.toList_extract,List.extract_eq_take_drop,List.drop_take]
theorem seg_same(s:ByteArray)(n:Nat):seg s n n=[]:=by
 unfold seg;simp
theorem seg_next(s:ByteArray)(f n:Nat)(hf:f≤n)(hn:n<s.size):seg s f (n+1)=seg s f n++[s[n]'hn]:=by
 unfold seg
 have hl:n<s.data.toList.length:=by simpa using hn
 rw [List.take_succ_eq_append_getElem hl,List.drop_append_of_le_length (by simp;omega)]
 rfl
theorem zhr(s:ByteArray)(n:Nat)(hn:n<s.size):s.data.toList.drop n=(s[n]'hn)::s.data.toList.drop (n+1):=by
 have hl:n<s.data.toList.length:=by simpa using hn
 rw [List.drop_eq_getElem_cons hl]
 rfl
def Mid(s:ByteArray)(c:UInt8)(n f:Nat)(L:List ByteArray):Prop :=
 (n ≤ s.size → L.map (·.data.toList) ++ cutA c (seg s f n) (s.data.toList.drop n) = pieces c s.data.toList) ∧ (n = s.size + 1 → L.map (·.data.toList) = pieces c s.data.toList)
theorem Mid.start(s:ByteArray)(c:UInt8):Mid s c 0 0 []:=⟨fun _=>by rw [seg_same];rfl,fun h=>by omega⟩
theorem Mid.on{s:ByteArray}{c:UInt8}{n f:Nat}{L:List ByteArray}(h:Mid s c n f L)(hf:f≤n)(hn:n<s.size)(hc:(s[n]'hn)≠c):Mid s c (n+1) f L :=
 ⟨fun _=>by
  have:=h.1 (by omega)
  rw [zhr s n hn,cutA,if_neg hc,←seg_next s f n hf hn] at this
  exact this,fun e=>by omega⟩
theorem Mid.cut{s:ByteArray}{c:UInt8}{n f:Nat}{L:List ByteArray}(h:Mid s c n f L)(hn:n<s.size)(hc:(s[n]'hn)=c):Mid s c (n+1) (n+1) (L++[s.extract f n]) :=
 ⟨fun _=>by
  have:=h.1 (by omega)
  rw [zhr s n hn,cutA,if_pos hc] at this
  rw [←this,seg_same,List.map_append,List.append_assoc]
  simp only [List.map_cons,List.map_nil,zgj,List.cons_append,List.nil_append],fun e=>by omega⟩
theorem Mid.last{s:ByteArray}{c:UInt8}{n f:Nat}{L:List ByteArray}(h:Mid s c n f L)(hn:n=s.size):Mid s c (n+1) (n+1) (L++[s.extract f n]) :=
 ⟨fun e=>by omega,fun _=>by
  have:=h.1 (by omega)
  rw [List.drop_eq_nil_of_le (by simp;omega),cutA] at this
  rw [←this,List.map_append]
  simp only [List.map_cons,List.map_nil,zgj]⟩
set_option maxRecDepth 10000 in
theorem cut_s(s:ByteArray)(c:UInt8)(w:World)(hs:s.size≤4194304) :
  Calls Tryz.prog 43 #[.string s, .int .u8 (c.toNat : Int)] w fun e w' => ∃ (g cap : Nat) (L : List ByteArray), e = .returned (.slice (some ⟨g, 0, none⟩) L.length cap) ∧ Words w' w.heap.size g cap L ∧ Below w.heap.size w w' ∧ L.map (·.data.toList) = pieces c s.data.toList := by
 have hinfo:(Tryz.prog.info? 9).map (fun i=>(i.zero,i.size,i.bytes))=some (some (.string ⟨#[]⟩),1,16):=by kernel_rfl
 obtain ⟨i0,hi,hzz⟩:=Option.map_eq_some_iff.1 hinfo
 simp only [Prod.mk.injEq] at hzz
 obtain ⟨hz0,hz1,hz2⟩:=hzz
 have HI:Hid (Tryz.prog.info? 9=some i0∧i0.zero=some (.string ⟨#[]⟩)∧i0.size=1∧i0.bytes=16):=⟨hi,hz0,hz1,hz2⟩
 clear hi hz0 hz1 hz2 hinfo
 go_enter Tryz.func43,Tryz.ntmps43
 go_wp2_with fail
 go_loopg [5,6,7] (s.size+1) (fun g o f i wr=>∃(n fr gb cap:Nat)(L:List ByteArray),n+g=s.size+1∧i=.int .i64 n∧f=.int .i64 fr∧o=.slice (some ⟨gb,0,none⟩) L.length cap∧Hid (Words wr w.heap.size gb cap L)∧Hid (Below w.heap.size w wr)∧fr≤n∧L.length≤n∧Hid (Mid s c n fr L))
 case atStart =>
  refine ⟨0,0,w.heap.size,0,[],by omega,rfl,rfl,rfl,?_,(Below.refl _ _).alloc (Nat.le_refl _) _,Nat.le_refl _,Nat.le_refl _,Mid.start s c⟩
  have:=World.ownsRow_made (base:=w.heap.size) (e:=9) (size:=1) w #[] 0 (by simp) (by unfold maxLen;omega) rfl
  show Words _ _ _ _ _
  simpa [Words,strs] using this
 case round =>
  obtain ⟨n,fr,gb,cap,L,hn,rfl,rfl,rfl,HW,HB,hfr,hL,HM⟩:=hrel
  by_cases hlt:n≤s.size
  ·have i1:(n:Int)≤(s.size:Int):=by omega
   have f1:(fr:Int)≤(n:Int):=by omega
   have own3:(wr.alloc (.cells #[.string (s.extract fr n)] 9)).ownsRow w.heap.size 9 1 (.slice (some ⟨gb,0,none⟩) L.length cap) L.length (strs L):=World.ownsRow.alloc HW.out _
   have news3:∀(q:Nat)(u:Value),[Value.string (s.extract fr n)][q]?=some u→(wr.alloc (.cells #[.string (s.extract fr n)] 9)).cell? ((⟨wr.heap.size,0,none⟩:Addr).add q)=some u:=new_one wr _
   by_cases he:n=s.size
   ·have e1:((n:Int)==(s.size:Int))=true:=by rw [he];simp
    have HN:Hid (Mid s c (n+1) (n+1) (L++[s.extract fr n])):=HM.out.last he
    clear he
    go_wp2_with (first|(at_builtin;refine wpList_append_lies _ rfl _ _ 58 rfl w.heap.size 9 i0 (.string ⟨#[]⟩) 1 16 Tryz.underlying58 HI.out.1 HI.out.2.1 HI.out.2.2.1 HI.out.2.2.2 rfl (by decide) _ L.length (strs L) rfl own3 ⟨wr.heap.size,0,none⟩ 1 1 [.string (s.extract fr n)] rfl rfl news3 (by intro u hu;simp at hu;rw [hu];rfl) (by omega) ?c3 ?c4 ?c5 _ rfl ?_)|fail)
    case c3=>unfold maxLen;omega
    case c4=>omega
    case c5=>have:=HB.out.size;simp;omega
    intro g cap1 w4 own4 g4 hat hlt4
    have hgb:w.heap.size≤gb:=(own3.lt gb rfl).1
    have HB4:Hid (Below w.heap.size w w4):=(HB.out.alloc HB.out.size _).grown g4 (by have:=HB.out.size;simp;omega) (fun k hk=>by simp [Value.ownBlock] at hk;omega)
    have HW4:Hid (Words w4 w.heap.size g cap1 (L++[s.extract fr n])):=by
     show World.ownsRow _ _ _ _ _ _ _
     simpa [strs] using own4
    clear own3 news3 own4 g4 hat hlt4 HB HW HM
    go_wp2
    go_roundg (gk-1)
    case measure=>omega
    case rel=>exact ⟨n+1,n+1,g,cap1,L++[s.extract fr n],by omega,by go_num,by go_num,by simp,HW4,HB4,Nat.le_refl _,by simp;omega,HN⟩
   ·have e1:((n:Int)==(s.size:Int))=false:=by rw [beq_eq_false_iff_ne];omega
    have hlt2:n<s.size:=by omega
    have hsj:s[n]?=some (s[n]'hlt2):=by simp [hlt2]
    by_cases hc:(s[n]'hlt2)=c
    ·have e2:((((s[n]'hlt2).toNat:Nat):Int)==(c.toNat:Int))=true:=by rw [hc];simp
     have HN:Hid (Mid s c (n+1) (n+1) (L++[s.extract fr n])):=HM.out.cut hlt2 hc
     clear he hc
     go_wp2_with (first|(at_builtin;refine wpList_append_lies _ rfl _ _ 58 rfl w.heap.size 9 i0 (.string ⟨#[]⟩) 1 16 Tryz.underlying58 HI.out.1 HI.out.2.1 HI.out.2.2.1 HI.out.2.2.2 rfl (by decide) _ L.length (strs L) rfl own3 ⟨wr.heap.size,0,none⟩ 1 1 [.string (s.extract fr n)] rfl rfl news3 (by intro u hu;simp at hu;rw [hu];rfl) (by omega) ?c3 ?c4 ?c5 _ rfl ?_)|fail)
     case c3=>unfold maxLen;omega
     case c4=>omega
     case c5=>have:=HB.out.size;simp;omega
     intro g cap1 w4 own4 g4 hat hlt4
     have hgb:w.heap.size≤gb:=(own3.lt gb rfl).1
     have HB4:Hid (Below w.heap.size w w4):=(HB.out.alloc HB.out.size _).grown g4 (by have:=HB.out.size;simp;omega) (fun k hk=>by simp [Value.ownBlock] at hk;omega)
     have HW4:Hid (Words w4 w.heap.size g cap1 (L++[s.extract fr n])):=by
      show World.ownsRow _ _ _ _ _ _ _
      simpa [strs] using own4
     clear own3 news3 own4 g4 hat hlt4 HB HW HM
     go_wp2
     go_roundg (gk-1)
     case measure=>omega
     case rel=>exact ⟨n+1,n+1,g,cap1,L++[s.extract fr n],by omega,by go_num,by go_num,by simp,HW4,HB4,Nat.le_refl _,by simp;omega,HN⟩
    ·have e2:((((s[n]'hlt2).toNat:Nat):Int)==(c.toNat:Int))=false:=by
      rw [beq_eq_false_iff_ne]
      intro e
      exact hc (UInt8.toNat_inj.1 (by omega))
     have HN:Hid (Mid s c (n+1) fr L):=HM.out.on hfr hlt2 hc
     clear he hc own3 news3 HM
     go_wp2
     go_roundg (gk-1)
     case measure=>omega
     case rel=>exact ⟨n+1,fr,gb,cap,L,by omega,by go_num,rfl,rfl,HW,HB,by omega,by omega,HN⟩
  ·have i1:¬((n:Int)≤(s.size:Int)):=by omega
   have HE:=HM.out.2 (by omega)
   go_wp2
   go_ret
   exact ⟨gb,cap,L,rfl,HW.out,HB.out,HE⟩
theorem Words.cell{W:World}{base g cap:Nat}{L:List ByteArray}(h:Words W base g cap L){n:Nat}{x:ByteArray}(hx:L[n]?=some x):W.cell? ⟨g,n,none⟩=some (.string x):=by
 have hj:n<L.length:=(List.getElem?_eq_some_iff.1 hx).1
 rw [World.ownsRow.cellAt h n (by omega),strs,List.getElem?_map,hx]
 rfl
theorem Words.base{W:World}{base base' g cap:Nat}{L:List ByteArray}(h:Words W base g cap L)(hb:base'≤base):Words W base' g cap L:=by
 obtain ⟨h1,h2|⟨g',cap',cur,hv,hb',hh,h3⟩⟩:=h
 ·exact ⟨h1,.inl h2⟩
 ·exact ⟨h1,.inr ⟨g',cap',cur,hv,by omega,hh,h3⟩⟩
theorem Words.lt{W:World}{base g cap:Nat}{L:List ByteArray}(h:Words W base g cap L):base≤g∧g<W.heap.size:=World.ownsRow.lt h g rfl
def full(x:ByteArray):Bool:=!x.data.toList.isEmpty
set_option maxRecDepth 10000 in
theorem words_s(s:ByteArray)(w:World)(hs:s.size≤4194304) :
  Calls Tryz.prog 44 #[.string s] w fun e w' => ∃ (g cap : Nat) (L : List ByteArray), e = .returned (.slice (some ⟨g, 0, none⟩) L.length cap) ∧ Words w' w.heap.size g cap L ∧ Below w.heap.size w w' ∧ L.map (·.data.toList) = (pieces 32 s.data.toList).filter (fun x => !x.isEmpty) := by
 have hinfo:(Tryz.prog.info? 9).map (fun i=>(i.zero,i.size,i.bytes))=some (some (.string ⟨#[]⟩),1,16):=by kernel_rfl
 obtain ⟨i0,hi,hzz⟩:=Option.map_eq_some_iff.1 hinfo
 simp only [Prod.mk.injEq] at hzz
 obtain ⟨hz0,hz1,hz2⟩:=hzz
 have HI:Hid (Tryz.prog.info? 9=some i0∧i0.zero=some (.string ⟨#[]⟩)∧i0.size=1∧i0.bytes=16):=⟨hi,hz0,hz1,hz2⟩
 clear hi hz0 hz1 hz2 hinfo
 go_enter Tryz.func44,Tryz.ntmps44
 go_wp2_with fail
 refine (cut_s s 32 w hs).mono ?_
 rintro e w1 ⟨g0,cap0,M,rfl,HW1,HB1,HP⟩
 have HW0:Hid (Words w1 w.heap.size g0 cap0 M):=HW1
 have HB0:Hid (Below w.heap.size w w1):=HB1
 have HP0 : Hid (M.map (·.data.toList) = pieces 32 s.data.toList) := HP
 have hMl:M.length≤s.size+1:=by
  have h1:=congrArg List.length HP
  have h2:=zde 32 s.data.toList
  simp at h1 h2
  omega
 have hMc:=owns_cap HW1
 have hg0:=HW1.lt
 clear HW1 HB1 HP
 go_wp2_with fail
 go_loopg [4,5] M.length (fun g o i wr=>∃(n gb cap:Nat)(L:List ByteArray),n+g=M.length∧i=.int .i64 n∧o=.slice (some ⟨gb,0,none⟩) L.length cap∧Hid (Words wr w1.heap.size gb cap L)∧Hid (Below w1.heap.size w1 wr)∧L.length≤n∧Hid (L=(M.take n).filter full))
 case atStart =>
  refine ⟨0,w1.heap.size,0,[],by omega,rfl,rfl,?_,(Below.refl _ _).alloc (Nat.le_refl _) _,Nat.le_refl _,(by simp:[]=(M.take 0).filter full)⟩
  have:=World.ownsRow_made (base:=w1.heap.size) (e:=9) (size:=1) w1 #[] 0 (by simp) (by unfold maxLen;omega) rfl
  show Words _ _ _ _ _
  simpa [Words,strs] using this
 case round =>
  obtain ⟨n,gb,cap,L,hn,rfl,rfl,HW,HB,hL,HE⟩:=hrel
  by_cases hlt:n<M.length
  ·have i1:(n:Int)<(M.length:Int):=by omega
   obtain ⟨x,hx⟩:∃x,M[n]?=some x:=⟨_,List.getElem?_eq_getElem hlt⟩
   have cx:wr.cell? ⟨g0,n,none⟩=some (.string x):=(HW0.out.later HB.out).cell hx
   have ht:M.take (n+1)=M.take n++[x]:=by
    rw [List.take_add_one,hx];rfl
   by_cases hf:x.toList=[]
   ·have f1:(x.toList==[])=true:=by rw [hf];rfl
    have HE1:Hid (L=(M.take (n+1)).filter full):=by
     show L=(M.take (n+1)).filter full
     have hd:x.data.toList=[]:=by rw [←Lib.toList_data];exact hf
     rw [ht,List.filter_append,←HE.out]
     simp [full,hd]
    clear ht
    go_wp2
    go_roundg (gk-1)
    case measure=>omega
    case rel=>exact ⟨n+1,gb,cap,L,by omega,by go_num,rfl,HW,HB,by omega,HE1⟩
   ·have f1:(x.toList==[])=false:=by rw [beq_eq_false_iff_ne];exact hf
    have HE1:Hid (L++[x]=(M.take (n+1)).filter full):=by
     show L++[x]=(M.take (n+1)).filter full
     have hd:x.data.toList≠[]:=by rw [←Lib.toList_data];exact hf
     rw [ht,List.filter_append,←HE.out]
     have:full x=true:=by
      unfold full
      cases hq:x.data.toList with
      | nil=>exact absurd hq hd
      | cons a l=>rfl
     simp [this]
    clear ht hf
    have own3:(wr.alloc (.cells #[.string x] 9)).ownsRow w1.heap.size 9 1 (.slice (some ⟨gb,0,none⟩) L.length cap) L.length (strs L):=World.ownsRow.alloc HW.out _
    have news3:∀(q:Nat)(u:Value),[Value.string x][q]?=some u→(wr.alloc (.cells #[.string x] 9)).cell? ((⟨wr.heap.size,0,none⟩:Addr).add q)=some u:=new_one wr _
    go_wp2_with (first|(at_builtin;refine wpList_append_lies _ rfl _ _ 58 rfl w1.heap.size 9 i0 (.string ⟨#[]⟩) 1 16 Tryz.underlying58 HI.out.1 HI.out.2.1 HI.out.2.2.1 HI.out.2.2.2 rfl (by decide) _ L.length (strs L) rfl own3 ⟨wr.heap.size,0,none⟩ 1 1 [.string x] rfl rfl news3 (by intro u hu;simp at hu;rw [hu];rfl) (by omega) ?c3 ?c4 ?c5 _ rfl ?_)|fail)
    case c3=>unfold maxLen;omega
    case c4=>omega
    case c5=>have:=HB.out.size;simp;omega
    intro g cap1 w4 own4 g4 hat hlt4
    have hgb:w1.heap.size≤gb:=(own3.lt gb rfl).1
    have HB4:Hid (Below w1.heap.size w1 w4):=(HB.out.alloc HB.out.size _).grown g4 (by have:=HB.out.size;simp;omega) (fun k hk=>by simp [Value.ownBlock] at hk;omega)
    have HW4:Hid (Words w4 w1.heap.size g cap1 (L++[x])):=by
     show World.ownsRow _ _ _ _ _ _ _
     simpa [strs] using own4
    clear own3 news3 own4 g4 hat hlt4 HB HW
    go_wp2
    go_roundg (gk-1)
    case measure=>omega
    case rel=>exact ⟨n+1,g,cap1,L++[x],by omega,by go_num,by simp,HW4,HB4,by simp;omega,HE1⟩
  ·have i1:¬((n:Int)<(M.length:Int)):=by omega
   have HF : Hid (L.map (·.data.toList) = (pieces 32 s.data.toList).filter (fun x => !x.isEmpty)) := by
    show L.map (·.data.toList) = (pieces 32 s.data.toList).filter (fun x => !x.isEmpty)
    have:n=M.length:=by omega
    rw [HE.out,this,List.take_length,←HP0.out,List.filter_map]
    rfl
   have HB9:Hid (Below w.heap.size w wr):=HB0.out.trans (HB.out.mono HB0.out.size)
   have HW9:Hid (Words wr w.heap.size gb cap L):=HW.out.base HB0.out.size
   go_wp2
   go_ret
   exact ⟨gb,cap,L,rfl,HW9.out,HB9.out,HF.out⟩
def NoSp(r:ByteArray)(n:Nat):Prop:=∀j (h:j<r.size),j<n→(r[j]'h)≠32
theorem NoSp.zero(r:ByteArray):NoSp r 0:=fun j h hj=>by omega
theorem NoSp.on{r:ByteArray}{n:Nat}(a:NoSp r n)(h:n<r.size)(hb:(r[n]'h)≠32):NoSp r (n+1):=fun j hj hlt=>by
 by_cases e:j=n
 ·subst e;exact hb
 ·exact a j hj (by omega)
theorem get_bang(s:ByteArray)(j:Nat)(h:j<s.size):s.get! j=s[j]'h:=by
 simp [ByteArray.get!,getElem!_pos,h]
 rfl
theorem high_run(s:ByteArray)(pos:Nat)(h:pos<s.size)(ha:128≤(s[pos]'h).toNat):∀k,k<(Utf8.decode s pos).2→128≤(s.get! (pos+k)).toNat:=by
 have hn:¬(s[pos]'h).toNat<128:=by omega
 have h0:128≤(s.get! (pos+0)).toNat:=by rw [get_at s pos h];exact ha
 simp only [Utf8.decode,get_at s pos h,hn,if_false]
 repeat' split
 all_goals intro k hk
 all_goals simp only [Bool.and_eq_true,beq_iff_eq,decide_eq_true_eq] at *
 all_goals
  match k with
  | 0=>exact h0
  | 1=>first|omega
  | 2=>first|omega
  | 3=>first|omega
  | (m+4)=>omega
theorem NoSp.high{r:ByteArray}{n:Nat}(a:NoSp r n)(h:n<r.size)(hb:128≤(r[n]'h).toNat):NoSp r (n+(Utf8.decode r n).2):=fun j hj hlt=>by
 by_cases e:j<n
 ·exact a j hj e
 ·have h1:=high_run r n h hb (j-n) (by omega)
  rw [show n+(j-n)=j by omega,get_bang r j hj] at h1
  intro e2
  rw [e2] at h1
  exact absurd h1 (by decide)
def zal(l:List UInt8):List (List UInt8):=(pieces 32 l).filter fun x=>!x.isEmpty
theorem lwords_nil:zal []=[]:=by rfl
theorem NoSp.mem{r:ByteArray}{n:Nat}(a:NoSp r n)(hn:n≤r.size):∀b∈r.data.toList.take n,b≠32:=by
 intro b hb
 obtain ⟨j,hj,rfl⟩:=List.mem_iff_getElem.1 hb
 have hj2:j<r.size:=by simp at hj;omega
 have:=a j hj2 (by simp at hj;omega)
 rw [List.getElem_take]
 exact this
theorem lwords_last{r:ByteArray}(a:NoSp r r.size)(h:0<r.size):zal r.data.toList=[r.data.toList]:=by
 have h1:r.data.toList.take r.size=r.data.toList:=List.take_of_length_le (by simp)
 have h2:=a.mem (Nat.le_refl _)
 rw [h1] at h2
 unfold zal pieces
 rw [zee 32 _ _ h2]
 have:r.data.toList≠[]:=by
  intro e
  have hl:r.data.toList.length=r.size:=Array.length_toList
  rw [e] at hl
  simp at hl
  omega
 cases hq:r.data.toList with
 | nil=>exact absurd hq this
 | cons x l=>rfl
theorem lwords_cut{r:ByteArray}{n:Nat}(a:NoSp r n)(h:n<r.size)(hb:(r[n]'h)=32) :
  zal r.data.toList=(if n=0 then [] else [(r.extract 0 n).data.toList])++zal (r.extract (n+1) r.size).data.toList:=by
 have h2:=a.mem (Nat.le_of_lt h)
 have hd:r.data.toList=r.data.toList.take n++32::r.data.toList.drop (n+1):=by
  conv=>lhs;rw [←List.take_append_drop n r.data.toList,zhr r n h,hb]
 have e1:(r.extract 0 n).data.toList=r.data.toList.take n:=by rw [zgj];simp [seg]
 have e2:(r.extract (n+1) r.size).data.toList=r.data.toList.drop (n+1):=by
  rw [zgj];unfold seg;rw [List.take_of_length_le (by simp)]
 rw [e1,e2]
 unfold zal pieces
 conv=>lhs;rw [hd,zfc 32 _ _ _ h2]
 by_cases hz:n=0
 ·subst hz;simp
 ·have hne:r.data.toList.take n≠[]:=by
   intro e
   have hl:r.data.toList.length=r.size:=Array.length_toList
   have h3:(r.data.toList.take n).length=0:=by rw [e];rfl
   rw [List.length_take,hl] at h3
   omega
  rw [if_neg hz]
  cases hq:r.data.toList.take n with
  | nil=>exact absurd hq hne
  | cons x l=>rfl
set_option maxRecDepth 10000 in
theorem twords_i(s:ByteArray)(w:World)(hs:s.size≤4194304) :
  Calls Tryz.prog 74 #[.string s] w fun e w' => ∃ (g cap : Nat) (L : List ByteArray), e = .returned (.slice (some ⟨g, 0, none⟩) L.length cap) ∧ Words w' w.heap.size g cap L ∧ Below w.heap.size w w' ∧ L.map (·.data.toList) = zal s.data.toList := by
 have hinfo:(Tryz.prog.info? 9).map (fun i=>(i.zero,i.size,i.bytes))=some (some (.string ⟨#[]⟩),1,16):=by kernel_rfl
 obtain ⟨i0,hi,hzz⟩:=Option.map_eq_some_iff.1 hinfo
 simp only [Prod.mk.injEq] at hzz
 obtain ⟨hz0,hz1,hz2⟩:=hzz
 have HI:Hid (Tryz.prog.info? 9=some i0∧i0.zero=some (.string ⟨#[]⟩)∧i0.size=1∧i0.bytes=16):=⟨hi,hz0,hz1,hz2⟩
 clear hi hz0 hz1 hz2 hinfo
 go_enter Tryz.func74,Tryz.ntmps74
 go_wp2_with fail
 go_step3
 go_wp2_with fail
 go_step3
 go_wp2_with fail
 go_loopg [3, 4] s.size (fun g o rs wr => ∃ (r : ByteArray) (gb cap : Nat) (L : List ByteArray), g = r.size ∧ rs = .string r ∧ o = .slice (some ⟨gb, 0, none⟩) L.length cap ∧ Hid (Words wr w.heap.size gb cap L) ∧ Hid (Below w.heap.size w wr) ∧ L.length + r.size ≤ s.size ∧ Hid (L.map (·.data.toList) ++ zal r.data.toList = zal s.data.toList))
 case atStart =>
  refine ⟨s, w.heap.size, 0, [], rfl, rfl, rfl, ?_, (Below.refl _ _).alloc (Nat.le_refl _) _, by simp, (by simp : ([] : List ByteArray).map (·.data.toList) ++ zal s.data.toList = zal s.data.toList)⟩
  have:=World.ownsRow_made (base:=w.heap.size) (e:=9) (size:=1) w #[] 0 (by simp) (by unfold maxLen;omega) rfl
  show Words _ _ _ _ _
  simpa [Words,strs] using this
 case round =>
  obtain ⟨r,gb,cap,L,rfl,rfl,rfl,HW,HB,hL,HE⟩:=hrel
  by_cases hf:r.toList=[]
  ·have f1:(r.toList==[])=true:=by rw [hf];rfl
   have hd:r.data.toList=[]:=by rw [←Lib.toList_data];exact hf
   have HE1 : Hid (L.map (·.data.toList) = zal s.data.toList) := by
    have:=HE.out
    rw [hd,lwords_nil,List.append_nil] at this
    exact this
   go_wp2
   rw [Exit.noGoto_ret]
   go_ret
   exact ⟨gb,cap,L,rfl,HW.out,HB.out,HE1.out⟩
  ·have f1:(r.toList==[])=false:=by rw [beq_eq_false_iff_ne];exact hf
   have hpos:0<r.size:=by
    rcases Nat.eq_zero_or_pos r.size with h0|h0
    ·exfalso
     apply hf
     rw [Lib.toList_data]
     exact List.length_eq_zero_iff.1 (by rw [Array.length_toList];exact h0)
    ·exact h0
   clear hf
   go_wp2_with fail
   go_loopg [3,4] r.size (fun g o rs w2=>∃pos:Nat,g=r.size-pos∧o=.slice (some ⟨gb,0,none⟩) L.length cap∧rs=.string r∧w2=wr.iter r pos∧Hid (NoSp r pos))
   case atStart=>exact ⟨0,by omega,rfl,rfl,rfl,NoSp.zero r⟩
   case round =>
    obtain ⟨pos,rfl,rfl,rfl,rfl,HN⟩:=hrel
    by_cases hp:pos<r.size
    ·have hsz:wr.heap.size<(wr.iter r (pos+(Utf8.decode r pos).2)).heap.size:=by simp [World.iter]
     by_cases ha:(r[pos]'hp).toNat<128
     ·have hnx:∀ty,(Instr.next (.pointer (some ⟨wr.heap.size,0,none⟩)) true ty).run Tryz.prog (wr.iter r pos)=_:=fun ty=>run_next_ascii wr r pos ty hp ha
      by_cases hb:(r[pos]'hp)=32
      ·have e2:((((r[pos]'hp).toNat:Nat):Int) != 32)=false:=by rw [hb];rfl
       have HC:=lwords_cut HN.out hp hb
       have q1:((pos:Int)+1≤(r.size:Int)):=by omega
       by_cases hz:pos=0
       ·have z1:¬(0:Int)<(pos:Int):=by omega
        have HE1 : Hid (L.map (·.data.toList) ++ zal (r.extract (pos + 1) r.size).data.toList = zal s.data.toList) := by
         have:=HE.out
         rw [HC,if_pos hz,List.nil_append] at this
         exact this
        clear HC hb hz
        go_wp2
        have hsz2:(r.extract (pos+1) r.size).size=r.size-(pos+1):=by simp
        have HB4:Hid (Below w.heap.size w (wr.iter r (pos+1))):=HB.out.alloc HB.out.size _
        have HW4:Hid (Words (wr.iter r (pos+1)) w.heap.size gb cap L):=World.ownsRow.alloc HW.out _
        go_roundg (r.size-(pos+1))
        case measure=>omega
        case rel=>exact ⟨r.extract (pos+1) r.size,gb,cap,L,hsz2.symm,rfl,rfl,HW4,HB4,by omega,HE1⟩
       ·have z1:(0:Int)<(pos:Int):=by omega
        have HE1 : Hid ((L ++ [r.extract 0 pos]).map (·.data.toList) ++ zal (r.extract (pos + 1) r.size).data.toList = zal s.data.toList) := by
         have:=HE.out
         rw [HC,if_neg hz,←List.append_assoc] at this
         show (L ++ [r.extract 0 pos]).map (·.data.toList) ++ _ = _
         rw [List.map_append]
         exact this
        clear HC hb hz
        have own3:((wr.iter r (pos+1)).alloc (.cells #[.string (r.extract 0 pos)] 9)).ownsRow w.heap.size 9 1 (.slice (some ⟨gb,0,none⟩) L.length cap) L.length (strs L):=World.ownsRow.alloc (World.ownsRow.alloc HW.out _) _
        have news3:∀(q:Nat)(u:Value),[Value.string (r.extract 0 pos)][q]?=some u→((wr.iter r (pos+1)).alloc (.cells #[.string (r.extract 0 pos)] 9)).cell? ((⟨(wr.iter r (pos+1)).heap.size,0,none⟩:Addr).add q)=some u:=new_one (wr.iter r (pos+1)) _
        go_wp2_with (first|(at_builtin;refine wpList_append_lies _ rfl _ _ 58 rfl w.heap.size 9 i0 (.string ⟨#[]⟩) 1 16 Tryz.underlying58 HI.out.1 HI.out.2.1 HI.out.2.2.1 HI.out.2.2.2 rfl (by decide) _ L.length (strs L) rfl own3 ⟨(wr.iter r (pos+1)).heap.size,0,none⟩ 1 1 [.string (r.extract 0 pos)] rfl rfl news3 (by intro u hu;simp at hu;rw [hu];rfl) (by omega) ?c3 ?c4 ?c5 _ rfl ?_)|fail)
        case c3=>unfold maxLen;omega
        case c4=>omega
        case c5=>have:=HB.out.size;simp [World.iter];omega
        intro g cap1 w4 own4 g4 hat hlt4
        have hgb:w.heap.size≤gb:=(own3.lt gb rfl).1
        have HB4:Hid (Below w.heap.size w w4):=((HB.out.alloc HB.out.size _).alloc (by have:=HB.out.size;simp;omega) _).grown g4 (by have:=HB.out.size;simp;omega) (fun k hk=>by simp [Value.ownBlock] at hk;omega)
        have HW4:Hid (Words w4 w.heap.size g cap1 (L++[r.extract 0 pos])):=by
         show World.ownsRow _ _ _ _ _ _ _
         simpa [strs] using own4
        clear own3 news3 own4 g4 hat hlt4 HB HW
        go_wp2
        have hsz2:(r.extract (pos+1) r.size).size=r.size-(pos+1):=by simp
        go_roundg (r.size-(pos+1))
        case measure=>omega
        case rel=>exact ⟨r.extract (pos+1) r.size,g,cap1,L++[r.extract 0 pos],hsz2.symm,rfl,by simp,HW4,HB4,by simp;omega,HE1⟩
      ·have e2:((((r[pos]'hp).toNat:Nat):Int) != 32)=true:=by
        have:(r[pos]'hp).toNat≠32:=fun e=>hb (UInt8.toNat.inj e)
        simp only [bne_iff_ne,ne_eq]
        omega
       have HN1:Hid (NoSp r (pos+1)):=HN.out.on hp hb
       clear hb
       go_wp2
       go_roundg (r.size-(pos+1))
       case measure=>omega
       case rel=>exact ⟨pos+1,rfl,rfl,rfl,rfl,HN1⟩
     ·have hnx:∀ty,(Instr.next (.pointer (some ⟨wr.heap.size,0,none⟩)) true ty).run Tryz.prog (wr.iter r pos)=_:=fun ty=>run_next_any wr r pos ty hp
      have hd:=decode_high r pos hp (by omega)
      have e2:(((Utf8.decode r pos).1:Int) != 32)=true:=by
       simp only [bne_iff_ne,ne_eq]
       omega
      have HN1:Hid (NoSp r (pos+(Utf8.decode r pos).2)):=HN.out.high hp (by omega)
      go_wp2
      go_roundg (r.size-(pos+(Utf8.decode r pos).2))
      case measure=>omega
      case rel=>exact ⟨_,rfl,rfl,rfl,rfl,HN1⟩
    ·have hnx:∀ty,(Instr.next (.pointer (some ⟨wr.heap.size,0,none⟩)) true ty).run Tryz.prog (wr.iter r pos)=_:=fun ty=>run_next_end wr r pos ty hp
     have HN1:NoSp r r.size:=fun j hj h2=>HN.out j hj (by omega)
     have HE1 : Hid ((L ++ [r]).map (·.data.toList) = zal s.data.toList) := by
      have:=HE.out
      rw [lwords_last HN1 hpos] at this
      show (L ++ [r]).map (·.data.toList) = _
      rw [List.map_append]
      exact this
     have own3:((wr.iter r pos).alloc (.cells #[.string r] 9)).ownsRow w.heap.size 9 1 (.slice (some ⟨gb,0,none⟩) L.length cap) L.length (strs L):=World.ownsRow.alloc (World.ownsRow.alloc HW.out _) _
     have news3:∀(q:Nat)(u:Value),[Value.string r][q]?=some u→((wr.iter r pos).alloc (.cells #[.string r] 9)).cell? ((⟨(wr.iter r pos).heap.size,0,none⟩:Addr).add q)=some u:=new_one (wr.iter r pos) _
     go_wp2_with (at_builtin;refine wpList_append_lies _ rfl _ _ 58 rfl w.heap.size 9 i0 (.string ⟨#[]⟩) 1 16 Tryz.underlying58 HI.out.1 HI.out.2.1 HI.out.2.2.1 HI.out.2.2.2 rfl (by decide) _ L.length (strs L) rfl own3 ⟨(wr.iter r pos).heap.size,0,none⟩ 1 1 [.string (r)] rfl rfl news3 (by intro u hu;simp at hu;rw [hu];rfl) (by omega) ?c3 ?c4 ?c5 _ rfl ?_)
     case c3=>unfold maxLen;omega
     case c4=>omega
     case c5=>have:=HB.out.size;simp [World.iter];omega
     intro g cap1 w4 own4 g4 hat hlt4
     have hgb:w.heap.size≤gb:=(own3.lt gb rfl).1
     have HB4:Hid (Below w.heap.size w w4):=((HB.out.alloc HB.out.size _).alloc (by have:=HB.out.size;simp;omega) _).grown g4 (by have:=HB.out.size;simp;omega) (fun k hk=>by simp [Value.ownBlock] at hk;omega)
     have HW4:Hid (Words w4 w.heap.size g cap1 (L++[r])):=by
      show World.ownsRow _ _ _ _ _ _ _
      simpa [strs] using own4
     clear own3 news3 own4 g4 hat hlt4 HB HW
     go_wp2
     rw [Exit.noGoto_ret]
     go_ret
     exact ⟨g,cap1,L++[r],by simp,HW4.out,HB4.out,HE1.out⟩
end Go.Proofs.YtllmabgollkigaaGreatDoor
namespace Go.Proofs.YtllmabgollkigaaGreatDoor
open Go.RowKit Go.Maps Go.Sort Go.Shelf
set_option linter.unusedVariables false
def DK:DataW Unit:=(((((((((DataW.map []:DataW Unit).put (.string [97,110,100,40]) (.lit (.int .i64 2))).put (.string [111,114,40]) (.lit (.int .i64 3))).put (.string [110,111,116,40]) (.lit (.int .i64 4))).put (.string [41]) (.lit (.int .i64 9))).put (.string [45,62]) (.lit (.int .i64 5))).put (.string [91]) (.lit (.int .i64 6))).put (.string [124]) (.lit (.int .i64 7))).put (.string [93]) (.lit (.int .i64 8)))
theorem keyS:Keyed Tryz.prog 9:=Keyed.of_law (Go.WideMaps.string_law Tryz.underlying9)
theorem kinds_i(w:World):Calls Tryz.prog 59 #[] w fun e w'=>e=.returned (.map (some w.heap.size))∧w'.ownsMap Tryz.prog 9 (plainElem Tryz.prog 3) w.heap.size 8 DK∧Below w.heap.size w w':=by
 have h0:=World.ownsMap_made (H:=Unit) w Tryz.prog 9 (plainElem Tryz.prog 3)
 have b0:Below w.heap.size w (w.alloc (.map #[] 0)):=(Below.refl _ _).alloc (Nat.le_refl _) _
 obtain ⟨w1,e1,h1,g1⟩:=h0.update (t:=109) (e:=3) keyS Tryz.underlying109 (by unfold maxLen;omega) (key:=.string ⟨#[97,110,100,40]⟩) (val:=.int .i64 2) (kl:=.string [97,110,100,40]) (by kernel_rfl) (plainElem_int Tryz.underlying3 (by decide))
 have b1:=b0.grown g1 (by have:=b0.size;omega) (fun k hk=>by simp at hk;omega)
 obtain ⟨w2,e2,h2,g2⟩:=h1.update (t:=109) (e:=3) keyS Tryz.underlying109 (by unfold maxLen;omega) (key:=.string ⟨#[111,114,40]⟩) (val:=.int .i64 3) (kl:=.string [111,114,40]) (by kernel_rfl) (plainElem_int Tryz.underlying3 (by decide))
 have b2:=b1.grown g2 (by have:=b1.size;omega) (fun k hk=>by simp at hk;omega)
 obtain ⟨w3,e3,h3,g3⟩:=h2.update (t:=109) (e:=3) keyS Tryz.underlying109 (by unfold maxLen;omega) (key:=.string ⟨#[110,111,116,40]⟩) (val:=.int .i64 4) (kl:=.string [110,111,116,40]) (by kernel_rfl) (plainElem_int Tryz.underlying3 (by decide))
 have b3:=b2.grown g3 (by have:=b2.size;omega) (fun k hk=>by simp at hk;omega)
 obtain ⟨w4,e4,h4,g4⟩:=h3.update (t:=109) (e:=3) keyS Tryz.underlying109 (by unfold maxLen;omega) (key:=.string ⟨#[41]⟩) (val:=.int .i64 9) (kl:=.string [41]) (by kernel_rfl) (plainElem_int Tryz.underlying3 (by decide))
 have b4:=b3.grown g4 (by have:=b3.size;omega) (fun k hk=>by simp at hk;omega)
 obtain ⟨w5,e5,h5,g5⟩:=h4.update (t:=109) (e:=3) keyS Tryz.underlying109 (by unfold maxLen;omega) (key:=.string ⟨#[45,62]⟩) (val:=.int .i64 5) (kl:=.string [45,62]) (by kernel_rfl) (plainElem_int Tryz.underlying3 (by decide))
 have b5:=b4.grown g5 (by have:=b4.size;omega) (fun k hk=>by simp at hk;omega)
 obtain ⟨w6,e6,h6,g6⟩:=h5.update (t:=109) (e:=3) keyS Tryz.underlying109 (by unfold maxLen;omega) (key:=.string ⟨#[91]⟩) (val:=.int .i64 6) (kl:=.string [91]) (by kernel_rfl) (plainElem_int Tryz.underlying3 (by decide))
 have b6:=b5.grown g6 (by have:=b5.size;omega) (fun k hk=>by simp at hk;omega)
 obtain ⟨w7,e7,h7,g7⟩:=h6.update (t:=109) (e:=3) keyS Tryz.underlying109 (by unfold maxLen;omega) (key:=.string ⟨#[124]⟩) (val:=.int .i64 7) (kl:=.string [124]) (by kernel_rfl) (plainElem_int Tryz.underlying3 (by decide))
 have b7:=b6.grown g7 (by have:=b6.size;omega) (fun k hk=>by simp at hk;omega)
 obtain ⟨w8,e8,h8,g8⟩:=h7.update (t:=109) (e:=3) keyS Tryz.underlying109 (by unfold maxLen;omega) (key:=.string ⟨#[93]⟩) (val:=.int .i64 8) (kl:=.string [93]) (by kernel_rfl) (plainElem_int Tryz.underlying3 (by decide))
 have b8:=b7.grown g8 (by have:=b7.size;omega) (fun k hk=>by simp at hk;omega)
 have hmk:(Instr.makeMap 109 none).run Tryz.prog w=.ok (.map (some w.heap.size)) (w.alloc (.map #[] 0)):=rfl
 go_enter Tryz.func59,Tryz.ntmps59
 go_wp2
 go_ret
 exact ⟨rfl,h8,b8⟩
def kOf(x:List UInt8):Int :=
 if x=[97,110,100,40] then 2 else if x=[111,114,40] then 3 else if x=[110,111,116,40] then 4 else if x=[41] then 9 else if x=[45,62] then 5 else if x=[91] then 6 else if x=[124] then 7 else if x=[93] then 8 else 0
def dkL:List (Lit×DataW Unit):=match DK with|.map l=>l | _=>[]
theorem dk_map:DK=.map dkL:=by rfl
theorem dkL_eq:dkL=[(.string [41],.lit (.int .i64 9)),(.string [45,62],.lit (.int .i64 5)),(.string [91],.lit (.int .i64 6)),(.string [93],.lit (.int .i64 8)),(.string [97,110,100,40],.lit (.int .i64 2)),(.string [110,111,116,40],.lit (.int .i64 4)),(.string [111,114,40],.lit (.int .i64 3)),(.string [124],.lit (.int .i64 7))]:=by rfl
theorem dk_at(x:List UInt8):DK.atKey (.string x) (.lit (.int .i64 0))=(.lit (.int .i64 (kOf x)):DataW Unit):=by
 by_cases h0:x=[97,110,100,40]
 ·subst h0;rfl
 by_cases h1:x=[111,114,40]
 ·subst h1;rfl
 by_cases h2:x=[110,111,116,40]
 ·subst h2;rfl
 by_cases h3:x=[41]
 ·subst h3;rfl
 by_cases h4:x=[45,62]
 ·subst h4;rfl
 by_cases h5:x=[91]
 ·subst h5;rfl
 by_cases h6:x=[124]
 ·subst h6;rfl
 by_cases h7:x=[93]
 ·subst h7;rfl
 have f0:(([97,110,100,40]:List UInt8)==x)=false:=by rw [beq_eq_false_iff_ne];exact Ne.symm h0
 have f1:(([111,114,40]:List UInt8)==x)=false:=by rw [beq_eq_false_iff_ne];exact Ne.symm h1
 have f2:(([110,111,116,40]:List UInt8)==x)=false:=by rw [beq_eq_false_iff_ne];exact Ne.symm h2
 have f3:(([41]:List UInt8)==x)=false:=by rw [beq_eq_false_iff_ne];exact Ne.symm h3
 have f4:(([45,62]:List UInt8)==x)=false:=by rw [beq_eq_false_iff_ne];exact Ne.symm h4
 have f5:(([91]:List UInt8)==x)=false:=by rw [beq_eq_false_iff_ne];exact Ne.symm h5
 have f6:(([124]:List UInt8)==x)=false:=by rw [beq_eq_false_iff_ne];exact Ne.symm h6
 have f7:(([93]:List UInt8)==x)=false:=by rw [beq_eq_false_iff_ne];exact Ne.symm h7
 rw [dk_map,dkL_eq]
 simp only [DataW.atKey,List.find?,Lit.sameKey,f0,f1,f2,f3,f4,f5,f6,f7]
 simp only [kOf,h0,h1,h2,h3,h4,h5,h6,h7,if_false]
theorem key_str(x:ByteArray)(hx:x.size≤4194304):keyOf Tryz.prog 9 (.string x)=some (.string x.data.toList):=by
 exact Go.WideMaps.keyOf_string_mk Tryz.underlying9 (by unfold maxLen;omega)
end Go.Proofs.YtllmabgollkigaaGreatDoor
