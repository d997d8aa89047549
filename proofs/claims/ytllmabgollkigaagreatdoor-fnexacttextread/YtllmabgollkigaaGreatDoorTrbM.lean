/- Where the reading of a ladder's text stands, both sides. -/
import Derived.Test.YtllmabgollkigaaGreatDoorTra
import Derived.Test.YtllmabgollkigaaGreatDoorUeM
import Derived.Test.YtllmabgollkigaaGreatDoorWf
import Derived.Deep.RegionLaw
set_option maxHeartbeats 8000000
namespace Go.Proofs.YtllmabgollkigaaGreatDoor
open Go.RowKit
set_option linter.unusedVariables false
abbrev ArmsOwn(W:World)(base:Nat)(F:List Nat)(v:Value)(xs:List ArmT):Prop:=RowOwn W base 56 6 (ArmOwn W base 40000) F v xs
theorem ArmsOwn.lt{W:World}{base:Nat}{F:List Nat}{v:Value}{xs:List ArmT}(h:ArmsOwn W base F v xs):∀b∈F,base≤b∧b<W.heap.size:=RowOwn.lt h fun f x c h=>ArmOwn.lt 40000 f x c h
theorem ArmsOwn.go{W W':World}{base:Nat}{F:List Nat}{v:Value}{xs:List ArmT}{row:Option Nat}(h:ArmsOwn W base F v xs)(g:W.grownBy W' row)(hr:∀b∈F,some b≠row):ArmsOwn W' base F v xs:=RowOwn.move h g hr fun f x c hf hh=>ArmOwn.move g 40000 40000 (Nat.le_refl _) f x c hf hh
structure TS (ls:List (List UInt8)) (W1 wr:World) (n:Nat) (a:Option Addr) (m cp:Nat) (rs:List ArmT) (F:List Nat) (a2:Option Addr) (m2 cp2:Nat) (ats:List Nat):Prop where
 hm:m=rs.length
 hm2:m2=ats.length
 eq:ats.length=rs.length
 arms:ArmsOwn wr W1.heap.size F (.slice a m cp) rs
 row:wr.ownsRow W1.heap.size 3 1 (.slice a2 m2 cp2) m2 (ats.map fun k:Nat=>Value.int .i64 (k:Int))
 nodup:((Value.slice a2 m2 cp2).ownBlock.toList++F).Nodup
 bel:Below W1.heap.size W1 wr
 wt:rs.length+(rs.map (wA 40000)).sum≤5*bef ls n
section
variable {ls:List (List UInt8)} {W1 wr:World} {n:Nat} {a:Option Addr} {m cp:Nat} {rs:List ArmT} {F:List Nat} {a2:Option Addr} {m2 cp2:Nat} {ats:List Nat}
theorem TS.later{wr':World}(h:TS ls W1 wr n a m cp rs F a2 m2 cp2 ats)(g:Below wr.heap.size wr wr'):TS ls W1 wr' n a m cp rs F a2 m2 cp2 ats :=
 ⟨h.hm,h.hm2,h.eq,h.arms.go (zad g none) (fun b _=>by simp),zbx h.row g,h.nodup,h.bel.trans (g.mono h.bel.size),h.wt⟩
theorem TS.next{l:List UInt8}(h:TS ls W1 wr n a m cp rs F a2 m2 cp2 ats)(hl:ls[n]?=some l):TS ls W1 wr (n+1) a m cp rs F a2 m2 cp2 ats :=
 ⟨h.hm,h.hm2,h.eq,h.arms,h.row,h.nodup,h.bel,by rw [zgm hl];have:=h.wt;omega⟩
theorem TS.step{l:List UInt8}{N base4 g1 cap1 g2 cap2:Nat}{t:ArmT}{f F':List Nat}{c cs:List Value}{w4 w6 w8:World}{o1 o2:Obj}(h:TS ls W1 wr n a m cp rs F a2 m2 cp2 ats)(hl:ls[n]?=some l)(hN:N≤40000)
  (hB:Below wr.heap.size wr w4) (hA:ArmOwn w4 base4 N f t c) (hb4:wr.heap.size≤base4) (hfn:f.Nodup) (hc:c.length=6) (hw:wA 40000 t≤4*(zal l).length) (hwl:(zal l).length≤l.length+1)
  (hE:Each (ArmOwn wr W1.heap.size 40000) 6 F' rs cs) (hF:F=(Value.slice a m cp).ownBlock.toList++F')
  (own6:w6.ownsRow W1.heap.size 56 6 (.slice (some ⟨g1,0,none⟩) (m+1) cap1) (m+1) (cs++c)) (g6:(w4.alloc o1).grownBy w6 (Value.slice a m cp).ownBlock) (hat6:(Value.slice a m cp).ownBlock=some g1∨(w4.alloc o1).heap.size≤g1)
  (own8:w8.ownsRow W1.heap.size 3 1 (.slice (some ⟨g2,0,none⟩) (m2+1) cap2) (m2+1) ((ats.map fun k:Nat=>Value.int .i64 (k:Int))++[.int .i64 ((n:Int)+1)])) (g8:(w6.alloc o2).grownBy w8 (Value.slice a2 m2 cp2).ownBlock) (hat8:(Value.slice a2 m2 cp2).ownBlock=some g2∨(w6.alloc o2).heap.size≤g2) :
  TS ls W1 w8 (n+1) (some ⟨g1,0,none⟩) (m+1) cap1 (rs++[t]) (g1::(F'++f)) (some ⟨g2,0,none⟩) (m2+1) cap2 (ats++[n+1]):=by
 have hmr:=h.hm
 have hFl:=h.arms.lt
 have hs1:=h.bel.size
 have hB4:=hB.size
 have hfl:=ArmOwn.lt N _ _ _ hA
 have GB:wr.grownBy (w4.alloc o1) none:=(zad hB none).trans (World.grownBy_alloc w4 o1 none)
 have hE4:Each (ArmOwn (w4.alloc o1) W1.heap.size 40000) 6 F' rs cs:=hE.move fun f1 x1 c1 _ e2=>ArmOwn.move GB 40000 40000 (Nat.le_refl _) _ _ _ (fun b _=>by simp) e2
 have hx:ArmOwn (w4.alloc o1) W1.heap.size 40000 f t c:=ArmOwn.move (World.grownBy_alloc w4 o1 none) N 40000 hN _ _ _ (fun b _=>by simp) (ArmOwn.base (by omega) N _ _ _ hA)
 have hsz:(w4.alloc o1).heap.size=w4.heap.size+1:=by simp
 have hFl4:∀b∈F,W1.heap.size≤b∧b<(w4.alloc o1).heap.size:=fun b hb=>by have:=hFl b hb;omega
 have hfl4:∀b∈f,W1.heap.size≤b∧b<(w4.alloc o1).heap.size:=fun b hb=>by have:=hfl b hb;omega
 have hndF:F.Nodup:=(List.nodup_append.1 h.nodup).2.1
 rw [hmr] at own6
 obtain ⟨k1,k2,k3⟩:=row_more (R:=fun W=>ArmOwn W W1.heap.size 40000) (fun _ _ _ _ _ _ hg hr hh=>ArmOwn.move hg 40000 40000 (Nat.le_refl _) _ _ _ hr hh) hE4 hF hFl4 hndF hx hc hfl4 hfn (fun b hb hm=>by have:=hfl b hb;have:=hFl b hm;omega) own6 g6 hat6
 have hA2:∀j,(Value.slice a2 m2 cp2).ownBlock=some j→W1.heap.size≤j∧j<wr.heap.size∧j∉F:=fun j hj=>by
  have h1:=h.row.lt j hj
  refine ⟨h1.1,h1.2,fun hm=>?_⟩
  exact (List.nodup_append.1 h.nodup).2.2 j (by rw [hj];simp) j hm rfl
 have hk6:=k1.lt fun f x c hh=>ArmOwn.lt 40000 f x c hh
 have hs6:=g6.size
 have hne:∀b∈g1::(F'++f),some b≠(Value.slice a2 m2 cp2).ownBlock:=fun b hb e=>by
  obtain ⟨q1,q2,q3⟩:=hA2 b e.symm
  rcases k3 b hb with hh|hh|hh
  ·exact q3 hh
  ·have:=hfl b hh;omega
  ·omega
 have G8:w6.grownBy w8 (Value.slice a2 m2 cp2).ownBlock:=(World.grownBy_alloc w6 o2 _).trans g8
 refine ⟨by simp [hmr],by simp [h.hm2],by simp [h.eq],?_,?_,?_,?_,?_⟩
 ·rw [hmr]
  exact ArmsOwn.go k1 G8 hne
 ·simpa using own8
 ·show (g2::(g1::(F'++f))).Nodup
  refine List.nodup_cons.2 ⟨fun hm=>?_,k2⟩
  rcases hat8 with hh|hh
  ·exact hne g2 hm hh.symm
  ·have:=hk6 g2 hm
   have h9:(w6.alloc o2).heap.size=w6.heap.size+1:=by simp
   omega
 ·have b4:=(h.bel.trans (hB.mono hs1)).alloc (by omega) o1
  have b6:=b4.grown g6 (by omega) (fun j hj=>by have:=hFl j (by rw [hF,hj];simp);omega)
  have h9:(w6.alloc o2).heap.size=w6.heap.size+1:=by simp
  exact (b6.alloc (by omega) o2).grown g8 (by omega) (fun j hj=>(hA2 j hj).1)
 ·rw [zgm hl]
  have:=h.wt
  simp only [List.length_append,List.map_append,List.sum_append,List.map_cons,List.map_nil,List.sum_cons,List.sum_nil,List.length_cons,List.length_nil]
  omega
end
def ctE(op:Int)(xs:List ArgT):Bool:=decide (op≤10)&&rtk op xs
def clE(op:Int)(xs:List ArgT):Bool:=decide (21≤op)&&rtk op xs
def TxR(s:ByteArray)(w:World)(e:Ending)(w':World):Prop :=
 ∃(xs:List ArmT)(line code:Int)(F:List Nat)(a:Option Addr)(m cp:Nat),zdw ctE clE s=(xs,line,code)∧e=.returned (.tuple #[.slice a m cp,.agg #[.int .i64 line,.int .i64 code]])∧ArmsOwn w' w.heap.size F (.slice a m cp) xs∧F.Nodup∧Below w.heap.size w w'
theorem piece_le:∀(c:UInt8)(l cur x:List UInt8),x∈cutA c cur l→x.length≤cur.length+l.length
 | c,[],cur,x,h=>by simp [cutA] at h;rw [h];simp
 | c,b::r,cur,x,h=>by
  unfold cutA at h
  split at h
  ·rcases List.mem_cons.1 h with rfl|h
   ·simp
   ·have:=piece_le c r [] x h;simp at this ⊢;omega
  ·have:=piece_le c r (cur++[b]) x h;simp at this ⊢;omega
theorem word_le{l x:List UInt8}(h:x∈zal l):x.length≤l.length:=by
 have:=piece_le 32 l [] x (List.mem_filter.1 h).1
 simpa using this
theorem zdf(l:List UInt8):(zal l).length≤l.length+1:=by
 have h1:=zde 32 l
 have h2:(zal l).length≤(pieces 32 l).length:=List.length_filter_le _ _
 omega
theorem zix(f:ArmT→Int):∀(xs:List ArmT)(i:Nat),(zbc f i xs).1≠0→∃j:Nat,(zbc f i xs).2=(j:Int)∧i≤j∧j<i+xs.length
 | [],i,h=>absurd rfl h
 | x::xs,i,h=>by
  unfold zbc at h ⊢
  by_cases hx:f x=0
  ·rw [if_pos hx] at h ⊢
   obtain ⟨j,h1,h2,h3⟩:=zix f xs (i+1) h
   exact ⟨j,h1,by omega,by simp only [List.length_cons];omega⟩
  ·rw [if_neg hx]
   exact ⟨i,rfl,Nat.le_refl _,by simp⟩
theorem tree_idx{ct cl:Int→List ArgT→Bool}{m:Nat}{xs:List ArmT}(h0:(zbr ct cl m xs).1≠0)(h1:(zbr ct cl m xs).1≠1):∃j:Nat,(zbr ct cl m xs).2=(j:Int)∧j<xs.length:=by
 unfold zbr at h0 h1 ⊢
 by_cases hm:zfl m xs=true
 ·rw [if_pos hm] at h1;exact absurd rfl h1
 ·rw [if_neg hm] at h0 ⊢
  obtain ⟨j,q1,_,q3⟩:=zix _ xs 0 h0
  exact ⟨j,q1,by omega⟩
theorem zhx(f:ArmT→Int)(hf:∀x,0≤f x):∀(xs:List ArmT)(i:Nat),0≤(zbc f i xs).1
 | [],i=>by simp [zbc]
 | y::ys,i=>by
  unfold zbc
  split
  ·exact zhx f hf ys _
  ·exact hf y
theorem ziy(ct cl:Int→List ArgT→Bool)(m:Nat)(xs:List ArmT):0≤(zbr ct cl m xs).1:=by
 unfold zbr
 split
 ·show (0:Int)≤1;omega
 ·exact zhx _ (fun x=>(zar ct cl _).1) xs 0
theorem ziz{s:ByteArray}{k:Nat}(hs:s.size≤16000)(h:tf (pieces 10 s.data.toList) 0 [] []=([],[],k+1)):zdw ctE clE s=([],(k:Int)+1,12):=by
 unfold zdw
 rw [if_neg (by omega),h,if_pos (by simp)]
 rfl
theorem text_good{s:ByteArray}{rs:List ArmT}{ats:List Nat}(hs:s.size≤16000)(h:tf (pieces 10 s.data.toList) 0 [] []=(rs,ats,0))(h0:(zbr ctE clE 40000 rs).1=0):zdw ctE clE s=(rs,0,0):=by
 unfold zdw
 rw [if_neg (by omega),h,if_neg (by simp),if_pos h0]
theorem text_many{s:ByteArray}{rs:List ArmT}{ats:List Nat}(hs:s.size≤16000)(h:tf (pieces 10 s.data.toList) 0 [] []=(rs,ats,0))(h0:(zbr ctE clE 40000 rs).1=1):zdw ctE clE s=([],0,1):=by
 unfold zdw
 rw [if_neg (by omega),h,if_neg (by simp),if_neg (by rw [h0];decide),if_pos h0]
theorem text_bad{s:ByteArray}{rs:List ArmT}{ats:List Nat}{j:Nat}{l:Nat}(hs:s.size≤16000)(h:tf (pieces 10 s.data.toList) 0 [] []=(rs,ats,0))(h0:(zbr ctE clE 40000 rs).1≠0)(h1:(zbr ctE clE 40000 rs).1≠1)(hj:(zbr ctE clE 40000 rs).2=(j:Int))(hl:ats[j]?=some l):zdw ctE clE s=([],(l:Int),(zbr ctE clE 40000 rs).1):=by
 unfold zdw
 rw [if_neg (by omega),h,if_neg (by simp),if_neg h0,if_neg h1]
 simp only [hj,Int.toNat_natCast,List.getD_eq_getElem?_getD,hl,Option.getD_some]
theorem zfy{W:World}{lo:Nat}{a:Option Addr}{len cap:Nat}{xs:List ArgT}(h:ArgsIs W lo (.slice a len cap) xs):len=xs.length∧Sl W a xs:=by
 obtain ⟨a',cap',e,hl,hx⟩:=h
 simp only [Value.slice.injEq] at e
 obtain ⟨rfl,rfl,rfl⟩:=e
 refine ⟨rfl,?_⟩
 cases xs with
 | nil=>exact .inl rfl
 | cons x xs =>
  obtain ⟨b,o,cs,rfl,_,_,_,_⟩:=hx 0 x rfl
  refine .inr ⟨b,o,rfl,fun j y hy=>?_⟩
  obtain ⟨b',o',cs',e,_,_,hr,hR⟩:=hx j y hy
  simp only [Option.some.injEq,Addr.mk.injEq] at e
  obtain ⟨rfl,rfl,_⟩:=e
  have hR:cs'=_:=hR
  rw [hR] at hr
  exact ⟨hr 0 _ rfl,hr 1 _ rfl,hr 2 _ rfl⟩
theorem aic_s{W:World}{lo:Nat}(op:Int)(v:Value)(xs:List ArgT)(h:ArgsIs W lo v xs):Calls Tryz.prog 110 #[.agg #[.int .i64 op,v]] W fun e w'=>e=.returned (.bool (ctE op xs))∧Below W.heap.size W w':=by
 obtain ⟨a,cap,rfl,_,_⟩:=id h
 exact zcu op a xs _ cap (zfy h).1 W (zfy h).2
theorem ail_s{W:World}{lo:Nat}(op:Int)(v:Value)(xs:List ArgT)(h:ArgsIs W lo v xs):Calls Tryz.prog 72 #[.agg #[.int .i64 op,v]] W fun e w'=>e=.returned (.bool (clE op xs))∧Below W.heap.size W w':=by
 obtain ⟨a,cap,rfl,_,_⟩:=id h
 exact zep op a xs _ cap (zfy h).1 W (zfy h).2
theorem zco{w W:World}{x y:Value}(hx:x.oneCell'=true)(hy:y.oneCell'=true)(k:W.heap[w.heap.size]?=some (.cells #[.int .i64 0,.int .i64 0] 30 (0,0)))(b:Below w.heap.size w W) :
  ∃WF,Hid ((storeVar 30 ⟨w.heap.size,0,none⟩ (.agg #[x,y])).run Tryz.prog W=.ok () WF)∧WF.cell? ⟨w.heap.size,0,none⟩=some x∧WF.cell? ⟨w.heap.size,1,none⟩=some y∧Below w.heap.size w WF∧W.grownBy WF (some w.heap.size):=by
 have rF:=row_set k #[x,y]
 exact ⟨W.setRow w.heap.size #[x,y],store_all k 30 _ rfl (by kernel_rfl) (all_one [x,y] (by intro d hd;simp at hd;rcases hd with rfl|rfl;exact hx;exact hy)),(cell_of_row _ _ _ _ _ _ rF).trans rfl,(cell_of_row _ _ _ _ _ _ rF).trans rfl,below_setRow b (Nat.le_refl _) _,⟨rfl,rfl,rfl,Nat.le_of_eq (size_setRow W _ _).symm,fun k hk hne=>setRow_other _ _ _ _ (fun e=>hne (by rw [e]))⟩⟩
theorem two_put{W:World}{b:Nat}{x y:Value}(x' y':Value)(h0:W.cell? ⟨b,0,none⟩=some x)(h1:W.cell? ⟨b,1,none⟩=some y) :
  ((W.setCell ⟨b,0,none⟩ x').setCell ⟨b,1,none⟩ y').cell? ⟨b,0,none⟩=some x'∧((W.setCell ⟨b,0,none⟩ x').setCell ⟨b,1,none⟩ y').cell? ⟨b,1,none⟩=some y' :=
 ⟨(World.cell?_setCell_other _ _ _ _ (by simp)).trans (World.cell?_setCell_same _ _ _ h0),World.cell?_setCell_same _ _ _ ((World.cell?_setCell_other _ _ _ _ (by simp)).trans h1)⟩
theorem ats_at{W:World}{base m2 cp2:Nat}{a2:Option Addr}{ats:List Nat}{j l:Nat}(h:W.ownsRow base 3 1 (.slice a2 m2 cp2) m2 (ats.map fun k:Nat=>Value.int .i64 (k:Int)))(hl:ats[j]?=some l)(hj:j<m2):∃g,a2=some ⟨g,0,none⟩∧W.cell? ⟨g,j,none⟩=some (.int .i64 (l:Int)):=by
 rcases h.2 with ⟨_,hz⟩|⟨g,cap,cur,e,_⟩
 ·omega
 ·simp only [Value.slice.injEq] at e
  obtain ⟨rfl,_,_⟩:=e
  refine ⟨g,rfl,?_⟩
  have:=h.cells (g:=g) rfl j (.int .i64 (l:Int)) (by rw [List.getElem?_map,hl];rfl)
  rw [show (⟨g,0,none⟩:Addr).add j=⟨g,0+j,none⟩ from Addr.add_mid g 0 j,Nat.zero_add] at this
  exact this
theorem zcf{s:ByteArray}{w w':World}{line code:Int}(h:zdw ctE clE s=([],line,code))(g:Below w.heap.size w w'):TxR s w (.returned (.tuple #[.slice none 0 0,.agg #[.int .i64 line,.int .i64 code]])) w' :=
 ⟨[],line,code,[],none,0,0,h,rfl,RowOwn.nil _ _ _ _ _,List.nodup_nil,g⟩
set_option maxRecDepth 10000 in
theorem tread_s(s:ByteArray)(w:World)(hs:s.size≤16000):Calls Tryz.prog 14 #[.string s] w fun e w'=>TxR s w e w':=by
 have hinf6:(Tryz.prog.info? 56).map (fun i=>(i.zero,i.size,i.bytes))=some (some (.agg armZ),6,112):=by kernel_rfl
 obtain ⟨i6,hi6,hz6⟩:=Option.map_eq_some_iff.1 hinf6
 simp only [Prod.mk.injEq] at hz6
 obtain ⟨hz60,hz61,hz62⟩:=hz6
 have HI6:Hid (Tryz.prog.info? 56=some i6∧i6.zero=some (.agg armZ)∧i6.size=6∧i6.bytes=112):=⟨hi6,hz60,hz61,hz62⟩
 have hinf1:(Tryz.prog.info? 3).map (fun i=>(i.zero,i.size,i.bytes))=some (some (.int .i64 0),1,8):=by kernel_rfl
 obtain ⟨i1n,hi1,hz1⟩:=Option.map_eq_some_iff.1 hinf1
 simp only [Prod.mk.injEq] at hz1
 obtain ⟨hz10,hz11,hz12⟩:=hz1
 have HI1:Hid (Tryz.prog.info? 3=some i1n∧i1n.zero=some (.int .i64 0)∧i1n.size=1∧i1n.bytes=8):=⟨hi1,hz10,hz11,hz12⟩
 clear hi6 hz60 hz61 hz62 hinf6 hi1 hz10 hz11 hz12 hinf1
 have i9:¬((16000:Int)<(s.size:Int)):=by omega
 obtain ⟨ls,Hls⟩:∃ls,Hid (ls=pieces 10 s.data.toList):=⟨_,rfl⟩
 have HP:Hid (tf (pieces 10 s.data.toList) 0 [] []=tf (ls.drop 0) 0 [] []):=by show _=_;rw [Hls.out];rfl
 have HBf:Hid (∀n,bef ls n≤16001):=fun n=>by rw [Hls.out];have:=bef_le s.data.toList n;have h2:s.data.toList.length=s.size:=Array.length_toList;omega
 have HCu : Hid (Calls Tryz.prog 43 #[.string s, .int .u8 10] (w.alloc (.cells #[.int .i64 0, .int .i64 0] 30)) fun e w' => ∃ (g cap : Nat) (L : List ByteArray), e = .returned (.slice (some ⟨g, 0, none⟩) L.length cap) ∧ Words w' (w.alloc (.cells #[.int .i64 0, .int .i64 0] 30)).heap.size g cap L ∧ Below (w.alloc (.cells #[.int .i64 0, .int .i64 0] 30)).heap.size (w.alloc (.cells #[.int .i64 0, .int .i64 0] 30)) w' ∧ L.map (·.data.toList) = pieces 10 s.data.toList) := cut_s s 10 _ (by omega)
 go_enter Tryz.func14,Tryz.ntmps14
 go_wp2_with fail
 refine HCu.out.mono ?_
 rintro e w1 ⟨g0,cap0,M,rfl,hWd,hB1,hMp⟩
 have HWd:Hid (Words w1 (w.alloc (.cells #[.int .i64 0,.int .i64 0] 30)).heap.size g0 cap0 M):=hWd
 have HKF0:Hid (w1.heap[w.heap.size]?=some (.cells #[.int .i64 0,.int .i64 0] 30 (0,0))):=(hB1.block _ (by simp)).trans (heap_alloc_last w _)
 have HB1:Hid (Below w.heap.size w w1):=((Below.refl _ _).alloc (Nat.le_refl _) _).trans (hB1.mono (by simp))
 have HMp : Hid (M.map (·.data.toList) = ls) := hMp.trans Hls.out.symm
 have hM5:M.length≤16001:=by
  have h1:=congrArg List.length hMp
  have h2:=zde 10 s.data.toList
  simp at h1 h2
  have:s.data.toList.length=s.size:=Array.length_toList
  omega
 have HSz:Hid (∀(n:Nat)(x:ByteArray),M[n]?=some x→x.size≤16001):=fun n x hx=>by
  have h1:ls[n]?=some x.data.toList:=by rw [←HMp.out,List.getElem?_map,hx];rfl
  have h2:=zgm h1
  have h3:=HBf.out (n+1)
  have h4:x.data.toList.length=x.size:=Array.length_toList
  omega
 obtain ⟨len,HLn⟩:∃l,Hid (l=M.length):=⟨_,rfl⟩
 rw [←HLn.out] at hM5 ⊢
 have HST:Hid (TS ls w1 ((w1.alloc (.cells #[] 56)).alloc (.cells #[] 3)) 0 (some ⟨w1.heap.size,0,none⟩) 0 0 [] [w1.heap.size] (some ⟨w1.heap.size+1,0,none⟩) 0 0 []):=by
  have g2:Below w1.heap.size w1 ((w1.alloc (.cells #[] 56)).alloc (.cells #[] 3)):=((Below.refl _ _).alloc (Nat.le_refl _) _).alloc (by simp) _
  refine ⟨rfl,rfl,rfl,⟨[],[],.nil,?_,rfl⟩,?_,by simp [Value.ownBlock],g2,by simp⟩
  ·have:=World.ownsRow_made (base:=w1.heap.size) (e:=56) (size:=6) w1 #[] 0 (by simp) (by unfold maxLen;omega) rfl
   exact World.ownsRow.alloc (by simpa using this) _
  ·have:=World.ownsRow_made (base:=w1.heap.size) (e:=3) (size:=1) (w1.alloc (.cells #[] 56)) #[] 0 (by simp) (by unfold maxLen;omega) rfl
   simpa using this
 clear hWd hB1 hMp HCu
 go_wp2
 go_loopg [5,6,7] len (fun gg ov av iv wr=>∃(n m cp m2 cp2:Nat)(a a2:Option Addr)(rs:List ArmT)(ats:List Nat)(F:List Nat),n+gg=len∧iv=.int .i64 n∧ov=.slice a m cp∧av=.slice a2 m2 cp2∧m≤80005∧m2≤80005∧Hid (TS ls w1 wr n a m cp rs F a2 m2 cp2 ats)∧Hid (tf (pieces 10 s.data.toList) 0 [] []=tf (ls.drop n) n rs ats))
 case atStart=>exact ⟨0,0,0,0,0,_,_,[],[],_,by omega,rfl,rfl,rfl,by omega,by omega,HST,HP⟩
 case round =>
  clear HST HP
  obtain ⟨n,m,cp,m2,cp2,a,a2,rs,ats,F,hn,rfl,rfl,rfl,hm,hm2,HA,HP⟩:=hrel
  have HKF:Hid (∀W,Below wr.heap.size wr W→W.heap[w.heap.size]?=some (.cells #[.int .i64 0,.int .i64 0] 30 (0,0))∧Below w.heap.size w W):=fun W g=>by
   have g1:=HA.out.bel.trans (g.mono HA.out.bel.size)
   exact ⟨(g1.block _ (Array.getElem?_eq_some_iff.1 HKF0.out).1).trans HKF0.out,HB1.out.trans (g1.mono HB1.out.size)⟩
  by_cases hlt:n<len
  ·have i1:(n:Int)<(len:Int):=by omega
   have i3:(0:Int)≤(n:Int):=by omega
   obtain ⟨x,hx⟩:∃x,M[n]?=some x:=⟨_,List.getElem?_eq_getElem (by have:=HLn.out;omega)⟩
   have cx:wr.cell? ⟨g0,n,none⟩=some (.string x):=(HWd.out.later HA.out.bel).cell hx
   have Hln:Hid (ls[n]?=some x.data.toList):=by show ls[n]?=_;rw [←HMp.out,List.getElem?_map,hx];rfl
   have hxs:=HSz.out n x hx
   have HSc : Hid (Calls Tryz.prog 44 #[.string x] wr fun e w' => ∃ (g cap : Nat) (L : List ByteArray), e = .returned (.slice (some ⟨g, 0, none⟩) L.length cap) ∧ Words w' wr.heap.size g cap L ∧ Below wr.heap.size wr w' ∧ L.map (·.data.toList) = zal x.data.toList) := words_s x wr (by omega)
   clear hx
   go_wp2_with fail
   refine HSc.out.mono ?_
   rintro e W2 ⟨gw,cw,L,rfl,hWW,gW,hLw⟩
   have hLe:L=wsB x.data.toList:=wsB_of hLw
   have hLl:L.length=(zal x.data.toList).length:=by rw [←hLw];simp
   have hl16:L.length≤16002:=by
    have h1:=zdf x.data.toList
    have h2:x.data.toList.length=x.size:=Array.length_toList
    omega
   have HgW:Hid (Below wr.heap.size wr W2):=gW
   have HWW:Hid (Words W2 wr.heap.size gw cw L):=hWW
   have HLe:Hid (L=wsB x.data.toList∧L.length=(zal x.data.toList).length∧∀y∈L,y.size≤1048576):=⟨hLe,hLl,fun y hy=>by
    have h1:y.data.toList∈zal x.data.toList:=by rw [←hLw];exact List.mem_map.2 ⟨y,hy,rfl⟩
    have h2:=word_le h1
    have h3:y.data.toList.length=y.size:=Array.length_toList
    have h4:x.data.toList.length=x.size:=Array.length_toList
    omega⟩
   obtain ⟨lw,Hlw⟩:∃l,Hid (l=L.length):=⟨_,rfl⟩
   rw [←Hlw.out]
   have hlw:lw≤16002:=by rw [Hlw.out];exact hl16
   clear gW hWW hLw HSc cx hLe hl16
   by_cases hE:lw=0
   ·have f1:((lw:Int)==0)=true:=by rw [hE];rfl
    have hw0:zal x.data.toList=[]:=List.length_eq_zero_iff.1 (by rw [←hLl,←Hlw.out];exact hE)
    have HA2:Hid (TS ls w1 W2 (n+1) a m cp rs F a2 m2 cp2 ats):=(HA.out.later HgW.out).next Hln.out
    have HP2:Hid (tf (pieces 10 s.data.toList) 0 [] []=tf (ls.drop (n+1)) (n+1) rs ats):=by show _=_;rw [HP.out];exact tf_skip Hln.out hw0
    clear hE hLl hw0
    go_wp2
    go_roundg (gk-1)
    case measure=>omega
    case rel=>exact ⟨n+1,m,cp,m2,cp2,a,a2,rs,ats,F,by omega,by simp,rfl,rfl,hm,hm2,HA2,HP2⟩
   ·have f1:((lw:Int)==0)=false:=by rw [beq_eq_false_iff_ne];omega
    have Hw1:Hid (zal x.data.toList≠[]):=fun h=>hE (by rw [Hlw.out,hLl,h];rfl)
    obtain ⟨W3,HW3⟩:∃W,Hid (W=W2.alloc (.cells #[.slice (some ⟨gw,0,none⟩) lw cw,.int .i64 0,.bool false] 87)):=⟨_,rfl⟩
    have g3:Below W2.heap.size W2 W3:=by rw [HW3.out];exact (Below.refl _ _).alloc (Nat.le_refl _) _
    have hgw:gw<W2.heap.size:=(World.ownsRow.lt HWW.out gw rfl).2
    have hIn:InS W3 W2.heap.size gw cw L 0 false:=by
     refine ⟨?_,fun j y hy=>(HWW.out.later g3).cell hy,by omega,by have:=Hlw.out;omega⟩
     rw [HW3.out,←Hlw.out]
     exact heap_alloc_last W2 _
    have hs3:W2.heap.size<W3.heap.size:=by rw [HW3.out];simp
    have HAr:Hid (Calls Tryz.prog 45 #[.pointer (some ⟨W2.heap.size,0,none⟩)] W3 fun e w'=>SRung W3 W2.heap.size gw cw L e w'):=srung_i HLe.out.2.2 W3 hIn (by omega)
    have HG3:Hid (Below W2.heap.size W2 W3):=g3
    clear hE hLl hIn g3
    go_wp2_with fail
    rw [←HW3.out]
    refine HAr.out.mono ?_
    rintro e w4 ⟨xx,yy,p,pl,pc,r,rl,rc,sx,sl,sc,u,ul,uc,k',bad,rfl,hI,hG,hres⟩
    have hs4:=hG.size
    obtain ⟨W5,HW5⟩:∃W,Hid (W=w4.alloc (.cells #[.int .i64 xx,.int .i64 yy,.slice p pl pc,.slice r rl rc,.slice sx sl sc,.slice u ul uc] 56)):=⟨_,rfl⟩
    have g45:w4.grownBy W5 none:=by rw [HW5.out];exact World.grownBy_alloc _ _ _
    have hB4:Below wr.heap.size wr w4:=(HgW.out.trans (HG3.out.mono HgW.out.size)).grown hG (by have:=HgW.out.size;omega) (fun j hj=>by cases hj;exact HgW.out.size)
    have hB5:Below wr.heap.size wr W5:=hB4.grown g45 (by have:=HgW.out.size;omega) (fun j hj=>by cases hj)
    have HB5:Hid (Below wr.heap.size wr W5):=hB5
    obtain ⟨e0,e1,e2⟩:=(hI.move g45 (by simp) (by simp)).cells
    have hs5:w4.heap.size<W5.heap.size:=by rw [HW5.out];simp
    have hgs:=HgW.out.size
    go_upto_region 13 with fail
    rw [←HW5.out]
    rcases hres with ⟨rfl,rfl,t,f,hrd,hO,hfn⟩|⟨hbk,hno⟩
    ·have j1:¬((L.length:Int)<(lw:Int)):=by have:=Hlw.out;omega
     have HLd:Hid ((loadVar 56 ⟨w4.heap.size,0,none⟩).run Tryz.prog W5=.ok (.agg #[.int .i64 xx,.int .i64 yy,.slice p pl pc,.slice r rl rc,.slice sx sl sc,.slice u ul uc]) W5):=by
      have hb:Bk W5 w4.heap.size #[.int .i64 xx,.int .i64 yy,.slice p pl pc,.slice r rl rc,.slice sx sl sc,.slice u ul uc] 56:=by rw [HW5.out];exact Bk.fresh w4 _ _
      exact zgl (P:=Tryz.prog) hb 56 _ Tryz.underlying56 rfl (by kernel_rfl)
     have HO5:Hid (ArmOwn W5 W3.heap.size (2*L.length+2) f t [.int .i64 xx,.int .i64 yy,.slice p pl pc,.slice r rl rc,.slice sx sl sc,.slice u ul uc]∧f.Nodup∧zbv (wsB x.data.toList)=some t∧wA 40000 t≤4*(zal x.data.toList).length∧2*L.length+2≤40000):=by
      refine ⟨ArmOwn.move g45 _ _ (Nat.le_refl _) _ _ _ (fun b _=>by simp) hO,hfn,?_,?_,by have:=Hlw.out;omega⟩
      ·rw [←HLe.out.1];exact hrd
      ·rw [←HLe.out.2.1];exact rung_w 40000 hrd
     obtain ⟨cs,F',hEa,hOw,hF⟩:=HA.out.arms
     have HEE:Hid (Each (ArmOwn wr w1.heap.size 40000) 6 F' rs cs∧F=(Value.slice a m cp).ownBlock.toList++F'):=⟨hEa,hF⟩
     have hOm:wr.ownsRow w1.heap.size 56 6 (.slice a m cp) m cs:=by rw [HA.out.hm] at hOw ⊢;exact hOw
     have own5:(W5.alloc (.cells #[.int .i64 xx,.int .i64 yy,.slice p pl pc,.slice r rl rc,.slice sx sl sc,.slice u ul uc] 56)).ownsRow w1.heap.size 56 6 (.slice a m cp) m cs:=World.ownsRow.alloc (zbx hOm hB5) _
     have news5:∀(q:Nat)(v:Value),([.int .i64 xx,.int .i64 yy,.slice p pl pc,.slice r rl rc,.slice sx sl sc,.slice u ul uc]:List Value)[q]?=some v→(W5.alloc (.cells #[.int .i64 xx,.int .i64 yy,.slice p pl pc,.slice r rl rc,.slice sx sl sc,.slice u ul uc] 56)).cell? ((⟨W5.heap.size,0,none⟩:Addr).add q)=some v:=by
      intro q v hq
      match q with
      | 0=>simp at hq;subst hq;simp [Addr.add]
      | 1=>simp at hq;subst hq;simp [Addr.add]
      | 2=>simp at hq;subst hq;simp [Addr.add]
      | 3=>simp at hq;subst hq;simp [Addr.add]
      | 4=>simp at hq;subst hq;simp [Addr.add]
      | 5=>simp at hq;subst hq;simp [Addr.add]
      | (j+6)=>simp at hq
     have hsw1:w1.heap.size≤W5.heap.size:=by have:=HA.out.bel.size;omega
     have HRw:Hid (∀w6 o,(W5.alloc (.cells #[.int .i64 xx,.int .i64 yy,.slice p pl pc,.slice r rl rc,.slice sx sl sc,.slice u ul uc] 56)).grownBy w6 (Value.slice a m cp).ownBlock→(w6.alloc o).ownsRow w1.heap.size 3 1 (.slice a2 m2 cp2) m2 (ats.map fun k:Nat=>Value.int .i64 (k:Int))):=fun w6 o g6=>by
      refine World.ownsRow.alloc ((World.ownsRow.alloc (zbx HA.out.row hB5) _).kept g6 ?_) o
      cases hv:(Value.slice a2 m2 cp2).ownBlock with
      | none=>exact .inl rfl
      | some b =>
       refine .inr fun e=>?_
       have hd:=(List.nodup_append.1 HA.out.nodup).2.2 b (by rw [hv];simp) b (by rw [hF,←e];simp)
       exact hd rfl
     clear hEa hOw hF hOm hO hrd hfn hI hG g45 hB4 hB5 HW5 HAr HW3
     go_upto_region 16 with (first|(refine zau rfl 56 _ rfl _ _ rfl _ HLd.out ?_)|(at_builtin;refine wpList_append_lies _ rfl _ _ 23 rfl w1.heap.size 56 i6 (.agg armZ) 6 112 Tryz.underlying23 HI6.out.1 HI6.out.2.1 HI6.out.2.2.1 HI6.out.2.2.2 rfl (by decide) _ m cs rfl own5 ⟨W5.heap.size,0,none⟩ 1 1 [.int .i64 xx,.int .i64 yy,.slice p pl pc,.slice r rl rc,.slice sx sl sc,.slice u ul uc] rfl rfl news5 ?c2 (by omega) ?c3 ?c4 ?c5 _ rfl ?_)|fail)
     case c2=>first|(intro v hu;simp at hu;rcases hu with rfl|rfl|rfl|rfl|rfl|rfl<;>rfl)|exact ⟨rfl,rfl,rfl,rfl,rfl,rfl⟩
     case c3=>unfold maxLen;omega
     case c4=>omega
     case c5=>first|omega|(simp;omega)
     intro g1 cap1 w6 own6 g6 hat6 hlt6
     have own7:=HRw.out w6 (.cells #[.int .i64 ((n:Int)+1)] 3) g6
     have news7:∀(q:Nat)(v:Value),([.int .i64 ((n:Int)+1)]:List Value)[q]?=some v→(w6.alloc (.cells #[.int .i64 ((n:Int)+1)] 3)).cell? ((⟨w6.heap.size,0,none⟩:Addr).add q)=some v:=by
      intro q v hq
      match q with
      | 0=>simp at hq;subst hq;simp [Addr.add]
      | (j+1)=>simp at hq
     have hs6:=g6.size
     have hs6b:W5.heap.size<w6.heap.size:=by simp at hs6;omega
     have HSt:Hid (∀(g2 cap2:Nat)(w8:World),w8.ownsRow w1.heap.size 3 1 (.slice (some ⟨g2,0,none⟩) (m2+1) cap2) (m2+1) ((ats.map fun k:Nat=>Value.int .i64 (k:Int))++[.int .i64 ((n:Int)+1)])→(w6.alloc (.cells #[.int .i64 ((n:Int)+1)] 3)).grownBy w8 (Value.slice a2 m2 cp2).ownBlock→((Value.slice a2 m2 cp2).ownBlock=some g2∨g2=w6.heap.size+1)→TS ls w1 w8 (n+1) (some ⟨g1,0,none⟩) (m+1) cap1 (rs++[t]) (g1::(F'++f)) (some ⟨g2,0,none⟩) (m2+1) cap2 (ats++[n+1])):=fun g2 cap2 w8 o8 g8 h8 =>
      TS.step HA.out Hln.out HO5.out.2.2.2.2 HB5.out HO5.out.1 (by omega) HO5.out.2.1 rfl HO5.out.2.2.2.1 (zdf _) HEE.out.1 HEE.out.2 own6 g6 (hat6.imp id fun e=>by simp;omega) o8 g8 (h8.imp id fun e=>by simp;omega)
     have HP2:Hid (tf (pieces 10 s.data.toList) 0 [] []=tf (ls.drop (n+1)) (n+1) (rs++[t]) (ats++[n+1])):=by show _=_;rw [HP.out];exact tf_go Hln.out Hw1.out HO5.out.2.2.1
     have Hwt:Hid (∀w8 a' m' cp' rs' F' a2' m2' cp2' ats',TS ls w1 w8 (n+1) a' m' cp' rs' F' a2' m2' cp2' ats'→m'≤80005∧m2'≤80005):=fun w8 a' m' cp' rs' F' a2' m2' cp2' ats' h=>by
      have h1:=h.wt
      have h2:=HBf.out (n+1)
      have h3:=h.hm
      have h4:=h.hm2
      have h5:=h.eq
      omega
     clear own5 news5 own6 g6 hat6 hlt6 HRw e0 e1 e2
     go_wp2_with (at_builtin;refine wpList_append_lies _ rfl _ _ 70 rfl w1.heap.size 3 i1n (.int .i64 0) 1 8 Tryz.underlying70 HI1.out.1 HI1.out.2.1 HI1.out.2.2.1 HI1.out.2.2.2 rfl (by decide) _ m2 (ats.map fun k:Nat=>Value.int .i64 (k:Int)) rfl own7 ⟨w6.heap.size,0,none⟩ 1 1 [.int .i64 ((n:Int)+1)] rfl rfl news7 ?c2 (by omega) ?c3 ?c4 ?c5 _ rfl ?_)
     case c2=>first|(intro v hu;simp at hu;subst hu;rfl)|rfl|exact ⟨rfl,trivial⟩
     case c3=>unfold maxLen;omega
     case c4=>omega
     case c5=>first|omega|(simp;omega)
     intro g2 cap2 w8 own8 g8 hat8 hlt8
     have hTS:=HSt.out g2 cap2 w8 own8 g8 hat8
     have hbd:=Hwt.out _ _ _ _ _ _ _ _ _ _ hTS
     have HTS:Hid (TS ls w1 w8 (n+1) (some ⟨g1,0,none⟩) (m+1) cap1 (rs++[t]) (g1::(F'++f)) (some ⟨g2,0,none⟩) (m2+1) cap2 (ats++[n+1])):=hTS
     clear own7 news7 own8 g8 hat8 hlt8 hTS HSt HA Hwt
     go_wp2
     go_roundg (gk-1)
     case measure=>omega
     case rel=>exact ⟨n+1,m+1,cap1,m2+1,cap2,_,_,_,_,_,by omega,by simp,rfl,rfl,hbd.1,hbd.2,HTS,HP2⟩
    ·obtain ⟨WF,HSF,q0,q1,bF,_⟩:=zco (x:=.int .i64 ((n:Int)+1)) (y:=.int .i64 12) rfl rfl (HKF.out W5 HB5.out).1 (HKF.out W5 HB5.out).2
     have HF:Hid (TxR s w (.returned (.tuple #[.slice none 0 0,.agg #[.int .i64 ((n:Int)+1),.int .i64 12]])) WF):=zcf (ziz hs (by rw [HP.out];exact tf_bad Hln.out Hw1.out (by rw [←HLe.out.1];exact hno))) bF
     clear hI hG g45 hB4 hB5 HW5 HAr HW3 bF
     have hkl:bad=true∨(k':Int)<(lw:Int):=by
      rcases hbk with h|h
      ·exact .inl h
      ·exact .inr (by have:=Hlw.out;omega)
     clear hbk hno
     cases bad with
     | true =>
      go_wp2_with (first|(refine zaj rfl 30 _ _ rfl _ _ rfl _ rfl _ HSF.out ?_)|fail)
      exact bodyPost_ret (v:=.tuple #[.slice none 0 0,.agg #[.int .i64 ((n:Int)+1),.int .i64 12]]) (by simp [results,Tryz.results14,go_sem,q0,q1]) rfl HF.out
     | false =>
      have j1:(k':Int)<(lw:Int):=by
       rcases hkl with h|h
       ·cases h
       ·exact h
      clear hkl
      go_wp2_with (first|(refine zaj rfl 30 _ _ rfl _ _ rfl _ rfl _ HSF.out ?_)|fail)
      exact bodyPost_ret (v:=.tuple #[.slice none 0 0,.agg #[.int .i64 ((n:Int)+1),.int .i64 12]]) (by simp [results,Tryz.results14,go_sem,q0,q1]) rfl HF.out
  ·have i1:¬((n:Int)<(len:Int)):=by omega
   have HTe:Hid (tf (pieces 10 s.data.toList) 0 [] []=(rs,ats,0)):=by show _=_;rw [HP.out];exact tf_end (by rw [←HMp.out];simp;have:=HLn.out;omega)
   have hIs:ArmsIs wr 0 40000 (.slice a m cp) rs:=RowOwn.is HA.out.arms (Nat.zero_le _) fun f x c hh=>ArmOwn.is (Nat.zero_le _) 40000 f x c hh
   obtain ⟨C,HC⟩:∃q,Hid (q=(zbr ctE clE 40000 rs).1):=⟨_,rfl⟩
   obtain ⟨D,HD⟩:∃q,Hid (q=(zbr ctE clE 40000 rs).2):=⟨_,rfl⟩
   have hC0:0≤C:=by rw [HC.out];exact ziy _ _ _ _
   have HTr:Hid (Calls Tryz.prog 10 #[.slice a m cp] wr fun e w'=>e=.returned (.agg #[.int .i64 C,.int .i64 D])∧Below wr.heap.size wr w'):=by
    rw [HC.out,HD.out]
    exact scheck ctE clE 40000 _ rs wr 0 hIs (by have:=HA.out.wt;have:=HBf.out n;omega) (fun W' _=>aic_s) (fun W' _=>ail_s)
   clear hIs
   go_wp2_with fail
   refine HTr.out.mono ?_
   rintro e w2 ⟨rfl,g2⟩
   obtain ⟨W3,HW3⟩:∃W,Hid (W=w2.alloc (.cells #[.int .i64 C,.int .i64 D] 27)):=⟨_,rfl⟩
   have gA:Below w2.heap.size w2 W3:=by rw [HW3.out];exact (Below.refl _ _).alloc (Nat.le_refl _) _
   have g23:Below wr.heap.size wr W3:=g2.trans (gA.mono g2.size)
   have HG3:Hid (Below wr.heap.size wr W3):=g23
   have kA:W3.heap[w2.heap.size]?=some (.cells #[.int .i64 C,.int .i64 D] 27 (0,0)):=by rw [HW3.out];exact heap_alloc_last w2 _
   have c0:W3.cell? ⟨w2.heap.size,0,none⟩=some (.int .i64 C):=(cell_of_row _ _ _ _ _ _ kA).trans rfl
   have c1:W3.cell? ⟨w2.heap.size,1,none⟩=some (.int .i64 D):=(cell_of_row _ _ _ _ _ _ kA).trans rfl
   go_upto_region 18 with fail
   rw [←HW3.out]
   clear HW3 g2 gA kA HTr g23
   by_cases h1:C=1
   ·have f1:(C==1)=true:=by simp [h1]
    have kF:W3.heap[w.heap.size]?=some (.cells #[.int .i64 0,.int .i64 0] 30 (0,0)):=(HKF.out W3 HG3.out).1
    have d0:W3.cell? ⟨w.heap.size,0,none⟩=some (.int .i64 0):=(cell_of_row _ _ _ _ _ _ kF).trans rfl
    have d1:W3.cell? ⟨w.heap.size,1,none⟩=some (.int .i64 0):=(cell_of_row _ _ _ _ _ _ kF).trans rfl
    have z0:W3.frozen? ⟨w.heap.size,0,none⟩=false:=by simp [World.frozen?,kF]
    have z1:W3.frozen? ⟨w.heap.size,1,none⟩=false:=by simp [World.frozen?,kF]
    obtain ⟨q0,q1⟩:=two_put (.int .i64 0) (.int .i64 C) d0 d1
    have HF:Hid (TxR s w (.returned (.tuple #[.slice none 0 0,.agg #[.int .i64 0,.int .i64 C]])) ((W3.setCell ⟨w.heap.size,0,none⟩ (.int .i64 0)).setCell ⟨w.heap.size,1,none⟩ (.int .i64 C)).drew):=by
     refine zcf ?_ (((HKF.out W3 HG3.out).2.setCell (p:=⟨w.heap.size,0,none⟩) (Nat.le_refl _) _).setCell (p:=⟨w.heap.size,1,none⟩) (Nat.le_refl _) _).drew
     rw [h1]
     exact text_many hs HTe.out (by rw [←HC.out];exact h1)
    clear h1 kF
    go_upto_region 19 with fail
    go_region_law (first|fail)
    all_goals go_wp2
    all_goals exact bodyPost_ret (v:=.tuple #[.slice none 0 0,.agg #[.int .i64 0,.int .i64 C]]) (by simp [results,Tryz.results14,go_sem,q0,q1]) rfl HF.out
   ·have f1:(C==1)=false:=by simp [h1]
    by_cases h0:C=0
    ·have f0:¬((0:Int)<C):=by omega
     obtain ⟨WF,HSF,q0,q1,bF,gF⟩:=zco (x:=.int .i64 0) (y:=.int .i64 0) rfl rfl (HKF.out W3 HG3.out).1 (HKF.out W3 HG3.out).2
     have HF:Hid (TxR s w (.returned (.tuple #[.slice a m cp,.agg #[.int .i64 0,.int .i64 0]])) WF):=by
      have hT:=HA.out.later HG3.out
      have hlt:=hT.arms.lt
      have hsz:=HB1.out.size
      have hw1:w.heap.size<w1.heap.size:=(Array.getElem?_eq_some_iff.1 HKF0.out).1
      refine ⟨rs,0,0,F,a,m,cp,text_good hs HTe.out (by rw [←HC.out];exact h0),rfl,?_,(List.nodup_append.1 hT.nodup).2.1,bF⟩
      exact RowOwn.base (hT.arms.go gF (fun b hb=>by have:=hlt b hb;simp;omega)) (by omega) fun f x c hh=>ArmOwn.base (by omega) 40000 f x c hh
     clear bF gF
     go_wp2_with (first|(refine zaj rfl 30 _ _ rfl _ _ rfl _ rfl _ HSF.out ?_)|fail)
     exact bodyPost_ret (v:=.tuple #[.slice a m cp,.agg #[.int .i64 0,.int .i64 0]]) (by simp [results,Tryz.results14,go_sem,q0,q1]) rfl HF.out
    ·have f0:(0:Int)<C:=by omega
     obtain ⟨j,hj,hjl⟩:=tree_idx (ct:=ctE) (cl:=clE) (m:=40000) (xs:=rs) (by rw [←HC.out];exact h0) (by rw [←HC.out];exact h1)
     have hDj:D=(j:Int):=HD.out.trans hj
     have hjm:j<m2:=by have:=HA.out.hm2;have:=HA.out.eq;omega
     obtain ⟨l,hl⟩:∃l,ats[j]?=some l:=⟨_,List.getElem?_eq_getElem (by have:=HA.out.hm2;omega)⟩
     obtain ⟨ga,rfl,cl⟩:=ats_at (HA.out.later HG3.out).row hl hjm
     have i5:(j:Int)<(m2:Int):=by omega
     have i6:(0:Int)≤(j:Int):=by omega
     have kF:W3.heap[w.heap.size]?=some (.cells #[.int .i64 0,.int .i64 0] 30 (0,0)):=(HKF.out W3 HG3.out).1
     have d0:W3.cell? ⟨w.heap.size,0,none⟩=some (.int .i64 0):=(cell_of_row _ _ _ _ _ _ kF).trans rfl
     have d1:W3.cell? ⟨w.heap.size,1,none⟩=some (.int .i64 0):=(cell_of_row _ _ _ _ _ _ kF).trans rfl
     have z0:W3.frozen? ⟨w.heap.size,0,none⟩=false:=by simp [World.frozen?,kF]
     have z1:W3.frozen? ⟨w.heap.size,1,none⟩=false:=by simp [World.frozen?,kF]
     have c1d:W3.cell? ⟨w2.heap.size,1,none⟩=some (.int .i64 (j:Int)):=by rw [←hDj];exact c1
     obtain ⟨q0,q1⟩:=two_put (.int .i64 (l:Int)) (.int .i64 C) d0 d1
     have HF:Hid (TxR s w (.returned (.tuple #[.slice none 0 0,.agg #[.int .i64 (l:Int),.int .i64 C]])) ((W3.setCell ⟨w.heap.size,0,none⟩ (.int .i64 (l:Int))).setCell ⟨w.heap.size,1,none⟩ (.int .i64 C)).drew):=by
      refine zcf ?_ (((HKF.out W3 HG3.out).2.setCell (p:=⟨w.heap.size,0,none⟩) (Nat.le_refl _) _).setCell (p:=⟨w.heap.size,1,none⟩) (Nat.le_refl _) _).drew
      rw [HC.out]
      exact text_bad hs HTe.out (by rw [←HC.out];exact h0) (by rw [←HC.out];exact h1) hj hl
     clear h1 h0 kF hDj hj hjl hl HD c1
     go_upto_region 21 with fail
     go_region_law (first|fail)
     all_goals go_wp2
     all_goals exact bodyPost_ret (v:=.tuple #[.slice none 0 0,.agg #[.int .i64 (l:Int),.int .i64 C]]) (by simp [results,Tryz.results14,go_sem,q0,q1]) rfl HF.out
def RgR(s:ByteArray)(w:World)(e:Ending)(w':World):Prop :=
 (∃(n:Nat)(rs:List ArmT)(ats:List Nat)(F:List Nat)(a a2:Option Addr)(m cp m2 cp2:Nat),tf (pieces 10 s.data.toList) 0 [] []=(rs,ats,0)∧e=.returned (.tuple #[.slice a m cp,.slice a2 m2 cp2,.int .i64 0])∧∃W1,Below w.heap.size w W1∧TS (pieces 10 s.data.toList) W1 w' n a m cp rs F a2 m2 cp2 ats) ∨
 (∃k:Nat,tf (pieces 10 s.data.toList) 0 [] []=([],[],k+1)∧k≤16001∧e=.returned (.tuple #[.slice none 0 0,.slice none 0 0,.int .i64 ((k:Int)+1)])∧Below w.heap.size w w')
set_option maxRecDepth 10000 in
theorem rungs_i(s:ByteArray)(w:World)(hs:s.size≤16000)(hT:Tabs w)(hM:ML w)(hH:EH w):Calls Tryz.prog 32 #[.string s] w fun e w'=>RgR s w e w':=by
 have hinf6:(Tryz.prog.info? 56).map (fun i=>(i.zero,i.size,i.bytes))=some (some (.agg armZ),6,112):=by kernel_rfl
 obtain ⟨i6,hi6,hz6⟩:=Option.map_eq_some_iff.1 hinf6
 simp only [Prod.mk.injEq] at hz6
 obtain ⟨hz60,hz61,hz62⟩:=hz6
 have HI6:Hid (Tryz.prog.info? 56=some i6∧i6.zero=some (.agg armZ)∧i6.size=6∧i6.bytes=112):=⟨hi6,hz60,hz61,hz62⟩
 have hinf1:(Tryz.prog.info? 3).map (fun i=>(i.zero,i.size,i.bytes))=some (some (.int .i64 0),1,8):=by kernel_rfl
 obtain ⟨i1n,hi1,hz1⟩:=Option.map_eq_some_iff.1 hinf1
 simp only [Prod.mk.injEq] at hz1
 obtain ⟨hz10,hz11,hz12⟩:=hz1
 have HI1:Hid (Tryz.prog.info? 3=some i1n∧i1n.zero=some (.int .i64 0)∧i1n.size=1∧i1n.bytes=8):=⟨hi1,hz10,hz11,hz12⟩
 clear hi6 hz60 hz61 hz62 hinf6 hi1 hz10 hz11 hz12 hinf1
 have HTs:Hid (∀W,Below w.heap.size w W→Tabs W∧ML W∧EH W):=fun W g=>⟨hT.later g,hM.later g,hH.later g⟩
 obtain ⟨ls,Hls⟩:∃ls,Hid (ls=pieces 10 s.data.toList):=⟨_,rfl⟩
 have HP:Hid (tf (pieces 10 s.data.toList) 0 [] []=tf (ls.drop 0) 0 [] []):=by show _=_;rw [Hls.out];rfl
 have HBf:Hid (∀n,bef ls n≤16001):=fun n=>by rw [Hls.out];have:=bef_le s.data.toList n;have h2:s.data.toList.length=s.size:=Array.length_toList;omega
 clear hT hM hH
 go_enter Tryz.func32,Tryz.ntmps32
 go_wp2_with fail
 refine (kinds_i w).mono ?_
 rintro e w1 ⟨rfl,hMap,g1⟩
 have HG1:Hid (Below w.heap.size w w1):=g1
 have HMap1:Hid (w1.ownsMap Tryz.prog 9 (plainElem (H:=Unit) Tryz.prog 3) w.heap.size 8 DK):=hMap
 have hmb1:w.heap.size<w1.heap.size:=hMap.lt
 clear hMap g1
 go_wp2_with fail
 refine (lines_i s (by omega) w1 (HTs.out w1 HG1.out).2.1).mono ?_
 rintro e w2 ⟨g0,cap0,M,rfl,hWd,hg0,g2,hcp0,hMp⟩
 have HG2:Hid (Below w.heap.size w w2):=HG1.out.trans (g2.mono HG1.out.size)
 have HWd:Hid (WdsAt w2 g0 M):=hWd
 have HMap:Hid (w2.ownsMap Tryz.prog 9 (plainElem (H:=Unit) Tryz.prog 3) w.heap.size 8 DK):=HMap1.out.kept (zad g2 none) (by simp)
 have hs12:=g2.size
 have HMp : Hid (M.map (·.data.toList) = ls) := hMp.trans Hls.out.symm
 have hM5:M.length≤16001:=by
  have h1:=congrArg List.length hMp
  have h2:=zde 10 s.data.toList
  simp at h1 h2
  have:s.data.toList.length=s.size:=Array.length_toList
  omega
 have HSz:Hid (∀(n:Nat)(x:ByteArray),M[n]?=some x→x.size≤16001):=fun n x hx=>by
  have h1:ls[n]?=some x.data.toList:=by rw [←HMp.out,List.getElem?_map,hx];rfl
  have h2:=zgm h1
  have h3:=HBf.out (n+1)
  have h4:x.data.toList.length=x.size:=Array.length_toList
  omega
 obtain ⟨len,HLn⟩:∃l,Hid (l=M.length):=⟨_,rfl⟩
 rw [←HLn.out] at hM5 ⊢
 have HST:Hid (TS ls w2 w2 0 none 0 0 [] [] none 0 0 []):=⟨rfl,rfl,rfl,RowOwn.nil _ _ _ _ _,⟨by simp,.inl ⟨rfl,rfl⟩⟩,by simp [Value.ownBlock],Below.refl _ _,by simp⟩
 clear hWd g2 hMp HMap1 hg0
 go_wp2
 go_loopg [2,3,16] len (fun gg ov av iv wr=>∃(n m cp m2 cp2:Nat)(a a2:Option Addr)(rs:List ArmT)(ats:List Nat)(F:List Nat),n+gg=len∧iv=.int .i64 n∧ov=.slice a m cp∧av=.slice a2 m2 cp2∧m≤80005∧m2≤80005∧Hid (TS ls w2 wr n a m cp rs F a2 m2 cp2 ats)∧Hid (tf (pieces 10 s.data.toList) 0 [] []=tf (ls.drop n) n rs ats))
 case atStart=>exact ⟨0,0,0,0,0,none,none,[],[],[],by omega,rfl,rfl,rfl,by omega,by omega,HST,HP⟩
 case round =>
  clear HST HP
  obtain ⟨n,m,cp,m2,cp2,a,a2,rs,ats,F,hn,rfl,rfl,rfl,hm,hm2,HA,HP⟩:=hrel
  have HBr:Hid (Below w2.heap.size w2 wr):=HA.out.bel
  by_cases hlt:n<len
  ·have i1:(n:Int)<(len:Int):=by omega
   have i3:(0:Int)≤(n:Int):=by omega
   obtain ⟨x,hx⟩:∃x,M[n]?=some x:=⟨_,List.getElem?_eq_getElem (by have:=HLn.out;omega)⟩
   have cx:wr.cell? ⟨g0,n,none⟩=some (.string x):=(Keeps.of_below HBr.out 0) _ _ _ (Nat.zero_le _) (HWd.out n x hx)
   have Hln:Hid (ls[n]?=some x.data.toList):=by show ls[n]?=_;rw [←HMp.out,List.getElem?_map,hx];rfl
   have hxs:=HSz.out n x hx
   have HSc : Hid (Calls Tryz.prog 74 #[.string x] wr fun e w' => ∃ (g cap : Nat) (L : List ByteArray), e = .returned (.slice (some ⟨g, 0, none⟩) L.length cap) ∧ Words w' wr.heap.size g cap L ∧ Below wr.heap.size wr w' ∧ L.map (·.data.toList) = zal x.data.toList) := twords_i x wr (by omega)
   clear hx
   go_wp2_with fail
   refine HSc.out.mono ?_
   rintro e W2 ⟨gw,cw,L,rfl,hWW,gW,hLw⟩
   have hLe:L=wsB x.data.toList:=wsB_of hLw
   have hLl:L.length=(zal x.data.toList).length:=by rw [←hLw];simp
   have hl16:L.length≤16002:=by
    have h1:=zdf x.data.toList
    have h2:x.data.toList.length=x.size:=Array.length_toList
    omega
   have HgW:Hid (Below wr.heap.size wr W2):=gW
   have HWW:Hid (Words W2 wr.heap.size gw cw L∧L.length≤cw):=⟨hWW,owns_cap hWW⟩
   have HLe:Hid (L=wsB x.data.toList∧L.length=(zal x.data.toList).length∧∀y∈L,y.size≤1048576):=⟨hLe,hLl,fun y hy=>by
    have h1:y.data.toList∈zal x.data.toList:=by rw [←hLw];exact List.mem_map.2 ⟨y,hy,rfl⟩
    have h2:=word_le h1
    have h3:y.data.toList.length=y.size:=Array.length_toList
    have h4:x.data.toList.length=x.size:=Array.length_toList
    omega⟩
   obtain ⟨lw,Hlw⟩:∃l,Hid (l=L.length):=⟨_,rfl⟩
   rw [←Hlw.out]
   have hlw:lw≤16002:=by rw [Hlw.out];exact hl16
   clear gW hWW hLw HSc cx hLe hl16
   by_cases hE:lw=0
   ·have f1:((lw:Int)==0)=true:=by rw [hE];rfl
    have hw0:zal x.data.toList=[]:=List.length_eq_zero_iff.1 (by rw [←hLl,←Hlw.out];exact hE)
    have HA2:Hid (TS ls w2 W2 (n+1) a m cp rs F a2 m2 cp2 ats):=(HA.out.later HgW.out).next Hln.out
    have HP2:Hid (tf (pieces 10 s.data.toList) 0 [] []=tf (ls.drop (n+1)) (n+1) rs ats):=by show _=_;rw [HP.out];exact tf_skip Hln.out hw0
    clear hE hLl hw0
    go_wp2
    go_roundg (gk-1)
    case measure=>omega
    case rel=>exact ⟨n+1,m,cp,m2,cp2,a,a2,rs,ats,F,by omega,by simp,rfl,rfl,hm,hm2,HA2,HP2⟩
   ·have f1:((lw:Int)==0)=false:=by rw [beq_eq_false_iff_ne];omega
    have Hw1:Hid (zal x.data.toList≠[]):=fun h=>hE (by rw [Hlw.out,hLl,h];rfl)
    obtain ⟨W3,HW3⟩:∃W,Hid (W=W2.alloc (.cells #[.map (some w.heap.size),.slice (some ⟨gw,0,none⟩) lw cw] 128)):=⟨_,rfl⟩
    have g3:Below W2.heap.size W2 W3:=by rw [HW3.out];exact (Below.refl _ _).alloc (Nat.le_refl _) _
    have hgw:=HWW.out.1.lt
    have hsr:=HBr.out.size
    have hgs:=HgW.out.size
    have HbW:Hid (Below w.heap.size w W2):=HG2.out.trans ((HA.out.bel.trans (HgW.out.mono HA.out.bel.size)).mono HG2.out.size)
    have hRd:RdI W3 W2.heap.size gw cw w.heap.size L 0:=by
     refine ⟨⟨0,fun _=>rfl,?_⟩,fun j y hy=>(HWW.out.1.later g3).cell hy,HMap.out.kept (zad (HBr.out.trans ((HgW.out.trans (g3.mono HgW.out.size)).mono HBr.out.size)) none) (by simp),by omega,by omega,Nat.zero_le _,HWW.out.2,by have:=Hlw.out;omega,fun y hy=>by have:=HLe.out.2.2 y hy;omega⟩
     rw [HW3.out,Nat.sub_zero,Nat.sub_zero,←Hlw.out]
     exact heap_alloc_last W2 _
    have hs3:W2.heap.size<W3.heap.size:=by rw [HW3.out];simp
    have HAr:Hid (Calls Tryz.prog 75 #[.pointer (some ⟨W2.heap.size,0,none⟩)] W3 fun e w'=>RungRes W3 W2.heap.size L e w'):=rrung_i W2 W3 W2.heap.size gw cw w.heap.size L ⟨(HTs.out W2 HbW.out).1,(HTs.out W2 HbW.out).2.1,(HTs.out W2 HbW.out).2.2,hgw.2,Nat.le_refl _,HLe.out.2.2⟩ hRd g3
    have HG3:Hid (Below W2.heap.size W2 W3):=g3
    clear hE hLl hRd g3
    go_wp2_with fail
    rw [←HW3.out]
    refine HAr.out.mono ?_
    rintro e w4 ⟨hG,okv,xx,yy,p,pl,pc,r,rl,rc,sx,sl,sc,u,ul,uc,rfl,hyes,hno⟩
    have hs4:=hG.size
    obtain ⟨W5,HW5⟩:∃W,Hid (W=w4.alloc (.cells #[.int .i64 xx,.int .i64 yy,.slice p pl pc,.slice r rl rc,.slice sx sl sc,.slice u ul uc] 56)):=⟨_,rfl⟩
    have g45:w4.grownBy W5 none:=by rw [HW5.out];exact World.grownBy_alloc _ _ _
    have hB4:Below wr.heap.size wr w4:=(HgW.out.trans (HG3.out.mono HgW.out.size)).grown hG (by have:=HgW.out.size;omega) (fun j hj=>by cases hj;exact HgW.out.size)
    have hB5:Below wr.heap.size wr W5:=hB4.grown g45 (by have:=HgW.out.size;omega) (fun j hj=>by cases hj)
    have HB5:Hid (Below wr.heap.size wr W5):=hB5
    have hs5:w4.heap.size<W5.heap.size:=by rw [HW5.out];simp
    go_upto_region 9 with fail
    rw [←HW5.out]
    cases okv with
    | true =>
     obtain ⟨t,f,hrd,hO,hfn⟩:=hyes rfl
     have HLd:Hid ((loadVar 56 ⟨w4.heap.size,0,none⟩).run Tryz.prog W5=.ok (.agg #[.int .i64 xx,.int .i64 yy,.slice p pl pc,.slice r rl rc,.slice sx sl sc,.slice u ul uc]) W5):=by
      have hb:Bk W5 w4.heap.size #[.int .i64 xx,.int .i64 yy,.slice p pl pc,.slice r rl rc,.slice sx sl sc,.slice u ul uc] 56:=by rw [HW5.out];exact Bk.fresh w4 _ _
      exact zgl (P:=Tryz.prog) hb 56 _ Tryz.underlying56 rfl (by kernel_rfl)
     have HO5:Hid (ArmOwn W5 W3.heap.size (2*L.length+2) f t [.int .i64 xx,.int .i64 yy,.slice p pl pc,.slice r rl rc,.slice sx sl sc,.slice u ul uc]∧f.Nodup∧zbv (wsB x.data.toList)=some t∧wA 40000 t≤4*(zal x.data.toList).length∧2*L.length+2≤40000):=by
      refine ⟨ArmOwn.move g45 _ _ (Nat.le_refl _) _ _ _ (fun b _=>by simp) hO,hfn,?_,?_,by have:=Hlw.out;omega⟩
      ·rw [←HLe.out.1];exact hrd
      ·rw [←HLe.out.2.1];exact rung_w 40000 hrd
     obtain ⟨cs,F',hEa,hOw,hF⟩:=HA.out.arms
     have HEE:Hid (Each (ArmOwn wr w2.heap.size 40000) 6 F' rs cs∧F=(Value.slice a m cp).ownBlock.toList++F'):=⟨hEa,hF⟩
     have hOm:wr.ownsRow w2.heap.size 56 6 (.slice a m cp) m cs:=by rw [HA.out.hm] at hOw ⊢;exact hOw
     have own5:(W5.alloc (.cells #[.int .i64 xx,.int .i64 yy,.slice p pl pc,.slice r rl rc,.slice sx sl sc,.slice u ul uc] 56)).ownsRow w2.heap.size 56 6 (.slice a m cp) m cs:=World.ownsRow.alloc (zbx hOm hB5) _
     have news5:∀(q:Nat)(v:Value),([.int .i64 xx,.int .i64 yy,.slice p pl pc,.slice r rl rc,.slice sx sl sc,.slice u ul uc]:List Value)[q]?=some v→(W5.alloc (.cells #[.int .i64 xx,.int .i64 yy,.slice p pl pc,.slice r rl rc,.slice sx sl sc,.slice u ul uc] 56)).cell? ((⟨W5.heap.size,0,none⟩:Addr).add q)=some v:=by
      intro q v hq
      match q with
      | 0=>simp at hq;subst hq;simp [Addr.add]
      | 1=>simp at hq;subst hq;simp [Addr.add]
      | 2=>simp at hq;subst hq;simp [Addr.add]
      | 3=>simp at hq;subst hq;simp [Addr.add]
      | 4=>simp at hq;subst hq;simp [Addr.add]
      | 5=>simp at hq;subst hq;simp [Addr.add]
      | (j+6)=>simp at hq
     have hsw1:w2.heap.size≤W5.heap.size:=by have:=HA.out.bel.size;omega
     have HRw:Hid (∀w6 o,(W5.alloc (.cells #[.int .i64 xx,.int .i64 yy,.slice p pl pc,.slice r rl rc,.slice sx sl sc,.slice u ul uc] 56)).grownBy w6 (Value.slice a m cp).ownBlock→(w6.alloc o).ownsRow w2.heap.size 3 1 (.slice a2 m2 cp2) m2 (ats.map fun k:Nat=>Value.int .i64 (k:Int))):=fun w6 o g6=>by
      refine World.ownsRow.alloc ((World.ownsRow.alloc (zbx HA.out.row hB5) _).kept g6 ?_) o
      cases hv:(Value.slice a2 m2 cp2).ownBlock with
      | none=>exact .inl rfl
      | some b =>
       refine .inr fun e=>?_
       have hd:=(List.nodup_append.1 HA.out.nodup).2.2 b (by rw [hv];simp) b (by rw [hF,←e];simp)
       exact hd rfl
     clear hEa hOw hF hOm hO hrd hfn hG g45 hB4 hB5 HW5 HAr HW3 hyes hno
     go_wp2_with (first|(refine zau rfl 56 _ rfl _ _ rfl _ HLd.out ?_)|(at_builtin;refine wpList_append_lies _ rfl _ _ 23 rfl w2.heap.size 56 i6 (.agg armZ) 6 112 Tryz.underlying23 HI6.out.1 HI6.out.2.1 HI6.out.2.2.1 HI6.out.2.2.2 rfl (by decide) _ m cs rfl own5 ⟨W5.heap.size,0,none⟩ 1 1 [.int .i64 xx,.int .i64 yy,.slice p pl pc,.slice r rl rc,.slice sx sl sc,.slice u ul uc] rfl rfl news5 ?c2 (by omega) ?c3 ?c4 ?c5 _ rfl ?_)|fail)
     case c2=>first|(intro v hu;simp at hu;rcases hu with rfl|rfl|rfl|rfl|rfl|rfl<;>rfl)|exact ⟨rfl,rfl,rfl,rfl,rfl,rfl⟩
     case c3=>unfold maxLen;omega
     case c4=>omega
     case c5=>first|omega|(simp;omega)
     intro g1 cap1 w6 own6 g6 hat6 hlt6
     have own7:=HRw.out w6 (.cells #[.int .i64 ((n:Int)+1)] 3) g6
     have news7:∀(q:Nat)(v:Value),([.int .i64 ((n:Int)+1)]:List Value)[q]?=some v→(w6.alloc (.cells #[.int .i64 ((n:Int)+1)] 3)).cell? ((⟨w6.heap.size,0,none⟩:Addr).add q)=some v:=by
      intro q v hq
      match q with
      | 0=>simp at hq;subst hq;simp [Addr.add]
      | (j+1)=>simp at hq
     have hs6:=g6.size
     have hs6b:W5.heap.size<w6.heap.size:=by simp at hs6;omega
     have HSt:Hid (∀(g2 cap2:Nat)(w8:World),w8.ownsRow w2.heap.size 3 1 (.slice (some ⟨g2,0,none⟩) (m2+1) cap2) (m2+1) ((ats.map fun k:Nat=>Value.int .i64 (k:Int))++[.int .i64 ((n:Int)+1)])→(w6.alloc (.cells #[.int .i64 ((n:Int)+1)] 3)).grownBy w8 (Value.slice a2 m2 cp2).ownBlock→((Value.slice a2 m2 cp2).ownBlock=some g2∨g2=w6.heap.size+1)→TS ls w2 w8 (n+1) (some ⟨g1,0,none⟩) (m+1) cap1 (rs++[t]) (g1::(F'++f)) (some ⟨g2,0,none⟩) (m2+1) cap2 (ats++[n+1])):=fun g2 cap2 w8 o8 g8 h8 =>
      TS.step HA.out Hln.out HO5.out.2.2.2.2 HB5.out HO5.out.1 (by omega) HO5.out.2.1 rfl HO5.out.2.2.2.1 (zdf _) HEE.out.1 HEE.out.2 own6 g6 (hat6.imp id fun e=>by simp;omega) o8 g8 (h8.imp id fun e=>by simp;omega)
     have HP2:Hid (tf (pieces 10 s.data.toList) 0 [] []=tf (ls.drop (n+1)) (n+1) (rs++[t]) (ats++[n+1])):=by show _=_;rw [HP.out];exact tf_go Hln.out Hw1.out HO5.out.2.2.1
     have Hwt:Hid (∀w8 a' m' cp' rs' F' a2' m2' cp2' ats',TS ls w2 w8 (n+1) a' m' cp' rs' F' a2' m2' cp2' ats'→m'≤80005∧m2'≤80005):=fun w8 a' m' cp' rs' F' a2' m2' cp2' ats' h=>by
      have h1:=h.wt
      have h2:=HBf.out (n+1)
      have h3:=h.hm
      have h4:=h.hm2
      have h5:=h.eq
      omega
     clear own5 news5 own6 g6 hat6 hlt6 HRw
     go_wp2_with (at_builtin;refine wpList_append_lies _ rfl _ _ 70 rfl w2.heap.size 3 i1n (.int .i64 0) 1 8 Tryz.underlying70 HI1.out.1 HI1.out.2.1 HI1.out.2.2.1 HI1.out.2.2.2 rfl (by decide) _ m2 (ats.map fun k:Nat=>Value.int .i64 (k:Int)) rfl own7 ⟨w6.heap.size,0,none⟩ 1 1 [.int .i64 ((n:Int)+1)] rfl rfl news7 ?c2 (by omega) ?c3 ?c4 ?c5 _ rfl ?_)
     case c2=>first|(intro v hu;simp at hu;subst hu;rfl)|rfl|exact ⟨rfl,trivial⟩
     case c3=>unfold maxLen;omega
     case c4=>omega
     case c5=>first|omega|(simp;omega)
     intro g2 cap2 w8 own8 g8 hat8 hlt8
     have hTS:=HSt.out g2 cap2 w8 own8 g8 hat8
     have hbd:=Hwt.out _ _ _ _ _ _ _ _ _ _ hTS
     have HTS:Hid (TS ls w2 w8 (n+1) (some ⟨g1,0,none⟩) (m+1) cap1 (rs++[t]) (g1::(F'++f)) (some ⟨g2,0,none⟩) (m2+1) cap2 (ats++[n+1])):=hTS
     clear own7 news7 own8 g8 hat8 hlt8 hTS HSt HA Hwt
     go_wp2
     go_roundg (gk-1)
     case measure=>omega
     case rel=>exact ⟨n+1,m+1,cap1,m2+1,cap2,_,_,_,_,_,by omega,by simp,rfl,rfl,hbd.1,hbd.2,HTS,HP2⟩
    | false =>
     have hnr:zbv L=none:=hno rfl
     have HF:Hid (RgR s w (.returned (.tuple #[.slice none 0 0,.slice none 0 0,.int .i64 ((n:Int)+1)])) W5):=.inr ⟨n,by rw [HP.out];exact tf_bad Hln.out Hw1.out (by rw [←HLe.out.1];exact hnr),by omega,rfl,HG2.out.trans ((HA.out.bel.trans (hB5.mono HA.out.bel.size)).mono HG2.out.size)⟩
     clear hG g45 hB4 hB5 HW5 HAr HW3 hyes hno hnr
     go_wp2
     go_ret3
     exact HF.out
  ·have i1:¬((n:Int)<(len:Int)):=by omega
   have HF:Hid (RgR s w (.returned (.tuple #[.slice a m cp,.slice a2 m2 cp2,.int .i64 0])) wr):=.inl ⟨n,rs,ats,F,a,a2,m,cp,m2,cp2,by rw [HP.out];exact tf_end (by rw [←HMp.out];simp;have:=HLn.out;omega),rfl,w2,HG2.out,by rw [←Hls.out];exact HA.out⟩
   clear HA HP
   go_wp2
   go_ret3
   exact HF.out
theorem aic_i{W:World}(hT:KT W){lo:Nat}(op:Int)(v:Value)(xs:List ArgT)(h:ArgsIs W lo v xs):Calls Tryz.prog 185 #[.agg #[.int .i64 op,v]] W fun e w'=>e=.returned (.bool (ctE op xs))∧Below W.heap.size W w':=by
 obtain ⟨a,cap,rfl,_,_⟩:=id h
 exact zej op a xs _ cap (zfy h).1 W hT (zfy h).2
theorem ail_i{W:World}(hT:KT W){lo:Nat}(op:Int)(v:Value)(xs:List ArgT)(h:ArgsIs W lo v xs):Calls Tryz.prog 156 #[.agg #[.int .i64 op,v]] W fun e w'=>e=.returned (.bool (clE op xs))∧Below W.heap.size W w':=by
 obtain ⟨a,cap,rfl,_,_⟩:=id h
 exact zhf op a xs _ cap (zfy h).1 W hT (zfy h).2
theorem arms_cap{W:World}{base:Nat}{F:List Nat}{a:Option Addr}{m cp:Nat}{rs:List ArmT}(h:ArmsOwn W base F (.slice a m cp) rs):m≤cp:=by
 obtain ⟨cs,F',_,h3,_⟩:=h
 rcases h3.2 with ⟨e,_⟩|⟨g,cap',cur,e,_,_,h4,_⟩
 ·simp only [Value.slice.injEq] at e;omega
 ·simp only [Value.slice.injEq] at e;omega
theorem text_long{s:ByteArray}(h:16000<s.size):zdw ctE clE s=([],0,11):=by unfold zdw;rw [if_pos h]
set_option maxRecDepth 10000 in
theorem tread_long_s(s:ByteArray)(w:World)(hs:s.size≤1048576)(h:16000<s.size):Calls Tryz.prog 14 #[.string s] w fun e w'=>TxR s w e w':=by
 have i9:(16000:Int)<(s.size:Int):=by omega
 obtain ⟨WF,HSF,q0,q1,bF,_⟩:=zco (w:=w) (W:=w.alloc (.cells #[.int .i64 0,.int .i64 0] 30)) (x:=.int .i64 0) (y:=.int .i64 11) rfl rfl (heap_alloc_last w _) ((Below.refl _ _).alloc (Nat.le_refl _) _)
 have HF:Hid (TxR s w (.returned (.tuple #[.slice none 0 0,.agg #[.int .i64 0,.int .i64 11]])) WF):=zcf (text_long h) bF
 go_enter Tryz.func14,Tryz.ntmps14
 go_wp2_with (first|(refine zaj rfl 30 _ _ rfl _ _ rfl _ rfl _ HSF.out ?_)|fail)
 exact bodyPost_ret (v:=.tuple #[.slice none 0 0,.agg #[.int .i64 0,.int .i64 11]]) (by simp [results,Tryz.results14,go_sem,q0,q1]) rfl HF.out
set_option maxRecDepth 10000 in
theorem tread_long_i(s:ByteArray)(w:World)(hs:s.size≤1048576)(h:16000<s.size):Calls Tryz.prog 11 #[.string s] w fun e w'=>TxR s w e w':=by
 have i9:(16000:Int)<(s.size:Int):=by omega
 obtain ⟨WF,HSF,q0,q1,bF,_⟩:=zco (w:=w) (W:=w.alloc (.cells #[.int .i64 0,.int .i64 0] 30)) (x:=.int .i64 0) (y:=.int .i64 11) rfl rfl (heap_alloc_last w _) ((Below.refl _ _).alloc (Nat.le_refl _) _)
 have HF:Hid (TxR s w (.returned (.tuple #[.slice none 0 0,.agg #[.int .i64 0,.int .i64 11]])) WF):=zcf (text_long h) bF
 go_enter Tryz.func11,Tryz.ntmps11
 go_wp2_with (first|(refine zaj rfl 30 _ _ rfl _ _ rfl _ rfl _ HSF.out ?_)|fail)
 exact bodyPost_ret (v:=.tuple #[.slice none 0 0,.agg #[.int .i64 0,.int .i64 11]]) (by simp [results,Tryz.results11,go_sem,q0,q1]) rfl HF.out
set_option maxRecDepth 10000 in
theorem tread_i(s:ByteArray)(w:World)(hs:s.size≤16000)(hT:Tabs w)(hM:ML w)(hH:EH w):Calls Tryz.prog 11 #[.string s] w fun e w'=>TxR s w e w':=by
 have i9:¬((16000:Int)<(s.size:Int)):=by omega
 obtain ⟨W0,HW0⟩:∃W,Hid (W=w.alloc (.cells #[.int .i64 0,.int .i64 0] 30)):=⟨_,rfl⟩
 have g0:Below w.heap.size w W0:=by rw [HW0.out];exact (Below.refl _ _).alloc (Nat.le_refl _) _
 have k0:W0.heap[w.heap.size]?=some (.cells #[.int .i64 0,.int .i64 0] 30 (0,0)):=by rw [HW0.out];exact heap_alloc_last w _
 have hw0:w.heap.size<W0.heap.size:=(Array.getElem?_eq_some_iff.1 k0).1
 have HTs:Hid (∀W,Below w.heap.size w W→Tabs W∧ML W∧EH W):=fun W g=>⟨hT.later g,hM.later g,hH.later g⟩
 have HRg:Hid (Calls Tryz.prog 32 #[.string s] W0 fun e w'=>RgR s W0 e w'):=rungs_i s W0 hs (HTs.out W0 g0).1 (HTs.out W0 g0).2.1 (HTs.out W0 g0).2.2
 have HKF:Hid (∀W,Below W0.heap.size W0 W→W.heap[w.heap.size]?=some (.cells #[.int .i64 0,.int .i64 0] 30 (0,0))∧Below w.heap.size w W):=fun W g=>⟨(g.block _ hw0).trans k0,g0.trans (g.mono (Nat.le_of_lt hw0))⟩
 clear hT hM hH k0 g0
 go_enter Tryz.func11,Tryz.ntmps11
 go_wp2_with fail
 rw [←HW0.out]
 refine HRg.out.mono ?_
 intro e w1 hR
 rcases hR with ⟨n,rs,ats,F,a,a2,m,cp,m2,cp2,htf,rfl,W1,gW1,hTS⟩|⟨k,htf,hk,rfl,gB⟩
 ·have HTe:Hid (tf (pieces 10 s.data.toList) 0 [] []=(rs,ats,0)):=htf
  have HA:Hid (TS (pieces 10 s.data.toList) W1 w1 n a m cp rs F a2 m2 cp2 ats∧Below W0.heap.size W0 W1):=⟨hTS,gW1⟩
  have g01:Below W0.heap.size W0 w1:=gW1.trans (hTS.bel.mono gW1.size)
  have HG1:Hid (Below W0.heap.size W0 w1):=g01
  have hbf:bef (pieces 10 s.data.toList) n≤16001:=by have:=bef_le s.data.toList n;have h2:s.data.toList.length=s.size:=Array.length_toList;omega
  have hIs:ArmsIs w1 0 40000 (.slice a rs.length cp) rs:=by
   have:=RowOwn.is hTS.arms (Nat.zero_le _) fun f x c hh=>ArmOwn.is (Nat.zero_le _) 40000 f x c hh
   rw [←hTS.hm];exact this
  obtain ⟨C,HC⟩:∃q,Hid (q=(zbr ctE clE 40000 rs).1):=⟨_,rfl⟩
  obtain ⟨D,HD⟩:∃q,Hid (q=(zbr ctE clE 40000 rs).2):=⟨_,rfl⟩
  have HTr:Hid (Calls Tryz.prog 16 #[.slice a m cp] w1 fun e w'=>e=.returned (.agg #[.int .i64 C,.int .i64 D])∧Below w1.heap.size w1 w'):=by
   rw [HC.out,HD.out,hTS.hm]
   exact check_i ctE clE 40000 a cp rs w1 hIs (by rw [←hTS.hm];exact arms_cap hTS.arms) (by have:=hTS.wt;omega) (HTs.out w1 (HKF.out w1 g01).2).2.2 (fun W' g'=>aic_i (HTs.out W' ((HKF.out w1 g01).2.trans (g'.mono (HKF.out w1 g01).2.size))).1.k) (fun W' g'=>ail_i (HTs.out W' ((HKF.out w1 g01).2.trans (g'.mono (HKF.out w1 g01).2.size))).1.k)
  have hC0:0≤C:=by rw [HC.out];exact ziy _ _ _ _
  clear hIs htf gW1 hTS g01 HRg HW0
  go_wp2_with fail
  refine HTr.out.mono ?_
  rintro e w2 ⟨rfl,g2⟩
  obtain ⟨W3,HW3⟩:∃W,Hid (W=w2.alloc (.cells #[.int .i64 C,.int .i64 D] 27)):=⟨_,rfl⟩
  have gA:Below w2.heap.size w2 W3:=by rw [HW3.out];exact (Below.refl _ _).alloc (Nat.le_refl _) _
  have g23:Below w1.heap.size w1 W3:=g2.trans (gA.mono g2.size)
  have HG13:Hid (Below w1.heap.size w1 W3):=g23
  have HG3:Hid (Below W0.heap.size W0 W3):=HG1.out.trans (g23.mono HG1.out.size)
  have kA:W3.heap[w2.heap.size]?=some (.cells #[.int .i64 C,.int .i64 D] 27 (0,0)):=by rw [HW3.out];exact heap_alloc_last w2 _
  have c0:W3.cell? ⟨w2.heap.size,0,none⟩=some (.int .i64 C):=(cell_of_row _ _ _ _ _ _ kA).trans rfl
  have c1:W3.cell? ⟨w2.heap.size,1,none⟩=some (.int .i64 D):=(cell_of_row _ _ _ _ _ _ kA).trans rfl
  go_upto_region 7 with fail
  rw [←HW3.out]
  clear HW3 g2 gA kA HTr g23
  by_cases h0:C=0
  ·have f0:(C==0)=true:=by simp [h0]
   obtain ⟨WF,HSF,q0,q1,bF,gF⟩:=zco (x:=.int .i64 0) (y:=.int .i64 0) rfl rfl (HKF.out W3 HG3.out).1 (HKF.out W3 HG3.out).2
   have HF:Hid (TxR s w (.returned (.tuple #[.slice a m cp,.agg #[.int .i64 0,.int .i64 0]])) WF):=by
    have hT:=HA.out.1.later HG13.out
    have hlt:=hT.arms.lt
    have hsz:=HA.out.2.size
    refine ⟨rs,0,0,F,a,m,cp,text_good hs HTe.out (by rw [←HC.out];exact h0),rfl,?_,(List.nodup_append.1 hT.nodup).2.1,bF⟩
    exact RowOwn.base (hT.arms.go gF (fun b hb=>by have:=hlt b hb;simp;omega)) (by omega) fun f x c hh=>ArmOwn.base (by omega) 40000 f x c hh
   clear bF gF h0
   go_wp2_with (first|(refine zaj rfl 30 _ _ rfl _ _ rfl _ rfl _ HSF.out ?_)|fail)
   exact bodyPost_ret (v:=.tuple #[.slice a m cp,.agg #[.int .i64 0,.int .i64 0]]) (by simp [results,Tryz.results11,go_sem,q0,q1]) rfl HF.out
  ·have f0:(C==0)=false:=by simp [h0]
   by_cases h1:C=1
   ·have f1:(C==1)=true:=by simp [h1]
    obtain ⟨WF,HSF,q0,q1,bF,gF⟩:=zco (x:=.int .i64 0) (y:=.int .i64 1) rfl rfl (HKF.out W3 HG3.out).1 (HKF.out W3 HG3.out).2
    have HF:Hid (TxR s w (.returned (.tuple #[.slice none 0 0,.agg #[.int .i64 0,.int .i64 1]])) WF):=zcf (text_many hs HTe.out (by rw [←HC.out];exact h1)) bF
    clear bF gF h0 h1
    go_wp2_with (first|(refine zaj rfl 30 _ _ rfl _ _ rfl _ rfl _ HSF.out ?_)|fail)
    exact bodyPost_ret (v:=.tuple #[.slice none 0 0,.agg #[.int .i64 0,.int .i64 1]]) (by simp [results,Tryz.results11,go_sem,q0,q1]) rfl HF.out
   ·have f1:(C==1)=false:=by simp [h1]
    obtain ⟨j,hj,hjl⟩:=tree_idx (ct:=ctE) (cl:=clE) (m:=40000) (xs:=rs) (by rw [←HC.out];exact h0) (by rw [←HC.out];exact h1)
    have hDj:D=(j:Int):=HD.out.trans hj
    have hjm:j<m2:=by have:=HA.out.1.hm2;have:=HA.out.1.eq;omega
    obtain ⟨l,hl⟩:∃l,ats[j]?=some l:=⟨_,List.getElem?_eq_getElem (by have:=HA.out.1.hm2;omega)⟩
    obtain ⟨ga,rfl,cl⟩:=ats_at (HA.out.1.later HG13.out).row hl hjm
    have i5:(j:Int)<(m2:Int):=by omega
    have i6:(0:Int)≤(j:Int):=by omega
    have kF:W3.heap[w.heap.size]?=some (.cells #[.int .i64 0,.int .i64 0] 30 (0,0)):=(HKF.out W3 HG3.out).1
    have d0:W3.cell? ⟨w.heap.size,0,none⟩=some (.int .i64 0):=(cell_of_row _ _ _ _ _ _ kF).trans rfl
    have d1:W3.cell? ⟨w.heap.size,1,none⟩=some (.int .i64 0):=(cell_of_row _ _ _ _ _ _ kF).trans rfl
    have z0:W3.frozen? ⟨w.heap.size,0,none⟩=false:=by simp [World.frozen?,kF]
    have z1:W3.frozen? ⟨w.heap.size,1,none⟩=false:=by simp [World.frozen?,kF]
    have c1d:W3.cell? ⟨w2.heap.size,1,none⟩=some (.int .i64 (j:Int)):=by rw [←hDj];exact c1
    obtain ⟨q0,q1⟩:=two_put (.int .i64 (l:Int)) (.int .i64 C) d0 d1
    have HF:Hid (TxR s w (.returned (.tuple #[.slice none 0 0,.agg #[.int .i64 (l:Int),.int .i64 C]])) ((W3.setCell ⟨w.heap.size,0,none⟩ (.int .i64 (l:Int))).setCell ⟨w.heap.size,1,none⟩ (.int .i64 C)).drew):=by
     refine zcf ?_ (((HKF.out W3 HG3.out).2.setCell (p:=⟨w.heap.size,0,none⟩) (Nat.le_refl _) _).setCell (p:=⟨w.heap.size,1,none⟩) (Nat.le_refl _) _).drew
     rw [HC.out]
     exact text_bad hs HTe.out (by rw [←HC.out];exact h0) (by rw [←HC.out];exact h1) hj hl
    clear h1 h0 kF hDj hj hjl hl HD c1
    go_upto_region 12 with fail
    go_region_law (first|fail)
    all_goals go_wp2
    all_goals exact bodyPost_ret (v:=.tuple #[.slice none 0 0,.agg #[.int .i64 (l:Int),.int .i64 C]]) (by simp [results,Tryz.results11,go_sem,q0,q1]) rfl HF.out
 ·have f1:(0:Int)<(k:Int)+1:=by omega
  obtain ⟨WF,HSF,q0,q1,bF,gF⟩:=zco (x:=.int .i64 ((k:Int)+1)) (y:=.int .i64 12) rfl rfl (HKF.out w1 gB).1 (HKF.out w1 gB).2
  have HF:Hid (TxR s w (.returned (.tuple #[.slice none 0 0,.agg #[.int .i64 ((k:Int)+1),.int .i64 12]])) WF):=zcf (ziz hs htf) bF
  clear bF gF htf gB HRg HW0
  go_wp2_with (first|(refine zaj rfl 30 _ _ rfl _ _ rfl _ rfl _ HSF.out ?_)|fail)
  exact bodyPost_ret (v:=.tuple #[.slice none 0 0,.agg #[.int .i64 ((k:Int)+1),.int .i64 12]]) (by simp [results,Tryz.results11,go_sem,q0,q1]) rfl HF.out
theorem text_i(s:ByteArray)(w:World)(hs:s.size≤1048576)(hT:Tabs w)(hM:ML w)(hH:EH w):Calls Tryz.prog 11 #[.string s] w fun e w'=>TxR s w e w':=by
 by_cases h:16000<s.size
 ·exact tread_long_i s w hs h
 ·exact tread_i s w (by omega) hT hM hH
theorem text_s(s:ByteArray)(w:World)(hs:s.size≤1048576):Calls Tryz.prog 14 #[.string s] w fun e w'=>TxR s w e w':=by
 by_cases h:16000<s.size
 ·exact tread_long_s s w hs h
 ·exact tread_s s w (by omega)
def avs(xs:List ArgT):List Value:=xs.flatMap fun x=>[.int .i64 x.1,.int .i64 x.2.1,.int .i64 x.2.2]
theorem avs_len(xs:List ArgT):(avs xs).length=xs.length*3:=by
 unfold avs
 induction xs with
 | nil=>rfl
 | cons x xs ih=>simp [ih];omega
theorem avs_snoc(xs:List ArgT)(x:ArgT):avs (xs++[x])=avs xs++[.int .i64 x.1,.int .i64 x.2.1,.int .i64 x.2.2]:=by simp [avs]
structure WMk (lo hi:Nat) (w w':World):Prop where
 os:w'.os=w.os
 tape:w'.tape=w.tape
 output:w'.output=w.output
 size:w.heap.size≤w'.heap.size
 out:∀j,j<w.heap.size→(j<lo∨hi≤j)→w'.heap[j]?=w.heap[j]?
 cell:∀(b o:Nat)(v:Value),w.cell? ⟨b,o,none⟩=some v→(∀k u,v≠.int k u)→w'.cell? ⟨b,o,none⟩=some v
 num:∀(b o:Nat)(u:Int),w.cell? ⟨b,o,none⟩=some (.int .i64 u)→∃u',w'.cell? ⟨b,o,none⟩=some (.int .i64 u')
 soft:∀(b:Nat),(∃C t,w.heap[b]?=some (.cells C t (0,0)))→∃C t,w'.heap[b]?=some (.cells C t (0,0))
theorem WMk.refl(lo hi:Nat)(w:World):WMk lo hi w w:=⟨rfl,rfl,rfl,Nat.le_refl _,fun _ _ _=>rfl,fun _ _ _ h _=>h,fun _ _ u h=>⟨u,h⟩,fun _ h=>h⟩
theorem WMk.trans{lo hi:Nat}{w w' w'':World}(h:WMk lo hi w w')(h':WMk lo hi w' w''):WMk lo hi w w'' :=
 ⟨h'.os.trans h.os,h'.tape.trans h.tape,h'.output.trans h.output,Nat.le_trans h.size h'.size,fun j h1 hj=>(h'.out j (Nat.lt_of_lt_of_le h1 h.size) hj).trans (h.out j h1 hj),fun b o v h1 h2=>h'.cell b o v (h.cell b o v h1 h2) h2,fun b o u h1=>by
  obtain ⟨u',h2⟩:=h.num b o u h1
  exact h'.num b o u' h2,fun b h1=>h'.soft b (h.soft b h1)⟩
theorem WMk.of_below(lo hi:Nat){w w':World}(g:Below w.heap.size w w'):WMk lo hi w w' :=
 ⟨g.os,g.tape,g.output,g.size,fun j h1 _=>g.block j h1,fun b o v h _=>(Keeps.of_below g 0) b o v (Nat.zero_le _) h,fun b o u h=>⟨u,(Keeps.of_below g 0) b o _ (Nat.zero_le _) h⟩,fun b h=>by
  obtain ⟨C,t,k⟩:=h
  exact ⟨C,t,(g.block _ (Array.getElem?_eq_some_iff.1 k).1).trans k⟩⟩
theorem WMk.below{lo hi B:Nat}{a w w':World}(h:Below B a w)(g:WMk lo hi w w')(hb:B≤lo)(hs:B≤w.heap.size):Below B a w' :=
 ⟨g.os.trans h.os,g.tape.trans h.tape,g.output.trans h.output,Nat.le_trans h.size g.size,fun j hj=>(g.out j (by omega) (.inl (by omega))).trans (h.block j hj)⟩
theorem zfd{w:World}{b o:Nat}{C:Array Value}{t:TypeId}{v:Value}(h:w.heap[b]?=some (.cells C t (0,0)))(hc:w.cell? ⟨b,o,none⟩=some v):o<C.size:=by
 rw [cell_of_row _ _ _ _ _ _ h] at hc
 exact (Array.getElem?_eq_some_iff.1 hc).1
theorem WMk.put{lo hi:Nat}{w:World}{b o:Nat}{u:Int}(hc:w.cell? ⟨b,o,none⟩=some (.int .i64 u))(hs:∃C t,w.heap[b]?=some (.cells C t (0,0)))(hl:lo≤b)(hh:b<hi)(x:Int):WMk lo hi w (w.setCell ⟨b,o,none⟩ (.int .i64 x)):=by
 obtain ⟨C,t,h⟩:=hs
 have h2:=zcn h o (.int .i64 x)
 have ho:=zfd h hc
 have hcell:∀(b' o':Nat),(w.setCell ⟨b,o,none⟩ (.int .i64 x)).cell? ⟨b',o',none⟩=if b'=b∧o'=o then some (.int .i64 x) else w.cell? ⟨b',o',none⟩:=fun b' o'=>by
  by_cases e:b'=b
  ·subst e
   rw [cell_of_row _ _ _ _ _ _ h2,cell_of_row _ _ _ _ _ _ h]
   by_cases e2:o'=o
   ·subst e2
    rw [if_pos ⟨rfl,rfl⟩]
    simp [ho]
   ·rw [if_neg (fun q=>e2 q.2)]
    rw [Array.getElem?_setIfInBounds_ne (fun q=>e2 q.symm)]
  ·rw [if_neg (fun q=>e q.1)]
   exact World.cell?_setCell_other _ _ _ _ (by simp)
 refine ⟨rfl,rfl,rfl,?_,?_,?_,?_,?_⟩
 ·simp [World.setCell]
 ·intro j _ hj
  by_cases e:j=b
  ·subst e;omega
  ·simp only [World.setCell]
   simp only [Array.getElem?_modify]
   rw [if_neg (fun q:b=j=>e q.symm)]
 ·intro b' o' v hv hn
  rw [hcell]
  split
  ·next e =>
   obtain ⟨rfl,rfl⟩:=e
   rw [hc] at hv
   exact absurd (Option.some.inj hv).symm (hn _ _)
  ·exact hv
 ·intro b' o' u' hu
  rw [hcell]
  split
  ·exact ⟨x,rfl⟩
  ·exact ⟨u',hu⟩
 ·intro b' hb'
  by_cases e:b=b'
  ·subst e;exact ⟨_,t,h2⟩
  ·obtain ⟨C',t',k⟩:=hb'
   exact ⟨C',t',zbm k b o e _⟩
theorem soft_free{w:World}{b:Nat}(h:∃C t,w.heap[b]?=some (.cells C t (0,0)))(o:Nat):w.frozen? ⟨b,o,none⟩=false:=by
 obtain ⟨C,t,k⟩:=h
 simp [World.frozen?,k]
def ArgsL(w0:World)(L:List (Nat×Nat))(p:Nat)(s:Value)(n:Nat):Prop:=∃a cp,s=.slice a n cp∧∀i,i<n*3→∃b o u,a=some ⟨b,o,none⟩∧L[p+i]?=some (b,o+i)∧w0.cell? ⟨b,o+i,none⟩=some (.int .i64 u)
def LSoft(w0:World)(L:List (Nat×Nat)):Prop:=∀q∈L,∃C t,w0.heap[q.1]?=some (.cells C t (0,0))
theorem ArgsL.shift{w0:World}{L L':List (Nat×Nat)}{p p':Nat}{s:Value}{n:Nat}(h:ArgsL w0 L p s n)(hs:∀i q,L[p+i]?=some q→L'[p'+i]?=some q):ArgsL w0 L' p' s n:=by
 obtain ⟨a,cp,e,hx⟩:=h
 refine ⟨a,cp,e,fun i hi=>?_⟩
 obtain ⟨b,o,u,h1,h2,h3⟩:=hx i hi
 exact ⟨b,o,u,h1,hs _ _ h2,h3⟩
theorem own_soft{w:World}{base:Nat}{e:TypeId}{size:Nat}{v:Value}{n:Nat}{xs:List Value}(h:w.ownsRow base e size v n xs){g:Nat}(hg:v.ownBlock=some g):∃C t,w.heap[g]?=some (.cells C t (0,0)):=by
 rcases h.2 with ⟨rfl,_⟩|⟨g1,cap,cur,rfl,_,e3,_⟩
 ·simp [Value.ownBlock] at hg
 ·simp [Value.ownBlock] at hg
  subst hg
  exact ⟨cur,e,e3⟩
theorem args_addr{w0:World}{base:Nat}{f:List Nat}{v:Value}{xs:List ArgT}(h:ArgsOwn w0 base f v xs):∃La:List (Nat×Nat),La.length=xs.length*3∧ArgsL w0 La 0 v xs.length∧La.Nodup∧(∀q∈La,q.1∈f)∧LSoft w0 La:=by
 obtain ⟨cs,F',h1,h2,rfl⟩:=h
 have hcs:cs=avs xs:=by
  clear h2
  induction h1 with
  | nil=>rfl
  | add h hc hr ih=>rw [avs_snoc,←ih,hr.2]
 subst hcs
 rcases id h2.2 with ⟨rfl,hn⟩|⟨g,cap,cur,rfl,_⟩
 ·refine ⟨[],by simp [hn],⟨none,0,by rw [hn],fun i hi=>by omega⟩,List.nodup_nil,fun q hq=>by simp at hq,fun q hq=>by simp at hq⟩
 ·refine ⟨(List.range (xs.length*3)).map fun i=>(g,i),by simp,⟨some ⟨g,0,none⟩,cap,rfl,fun i hi=>?_⟩,?_,fun q hq=>?_,fun q hq=>?_⟩
  ·have hc:=h2.cellAt i hi
   have hal:=avs_len xs
   obtain ⟨x,hx⟩:∃x,(avs xs)[i]?=some x:=⟨_,List.getElem?_eq_getElem (by omega)⟩
   have hint:∃u,x=.int .i64 u:=by
    have:=List.mem_of_getElem? hx
    unfold avs at this
    simp only [List.mem_flatMap] at this
    obtain ⟨y,_,hy⟩:=this
    simp at hy
    rcases hy with rfl|rfl|rfl<;>exact ⟨_,rfl⟩
   obtain ⟨u,rfl⟩:=hint
   refine ⟨g,0,u,rfl,?_,?_⟩
   ·simp [hi]
   ·rw [Nat.zero_add,hc,hx]
  ·exact List.Pairwise.map _ (fun a b hab e=>hab (by simpa using e)) List.nodup_range
  ·simp at hq
   obtain ⟨i,_,rfl⟩:=hq
   simp [Value.ownBlock]
  ·simp at hq
   obtain ⟨i,_,rfl⟩:=hq
   exact own_soft h2 rfl
structure MkL (L:List (Nat×Nat)) (p lo hi:Nat) (w0 w:World):Prop where
 wm:WMk lo hi w0 w
 at':∀i q,i<p→L[i]?=some q→w.cell? ⟨q.1,q.2,none⟩=some (.int .i64 (1+(i:Int)))
structure LOk (L:List (Nat×Nat)) (lo hi:Nat) (w0:World):Prop where
 nd:L.Nodup
 rng:∀q∈L,lo≤q.1∧q.1<hi
 soft:LSoft w0 L
 len:L.length≤4000000
theorem cell_put{w:World}{b o:Nat}{C:Array Value}{t:TypeId}(h:w.heap[b]?=some (.cells C t (0,0)))(ho:o<C.size)(x:Value)(b' o':Nat):(w.setCell ⟨b,o,none⟩ x).cell? ⟨b',o',none⟩=if b'=b∧o'=o then some x else w.cell? ⟨b',o',none⟩:=by
 have h2:=zcn h o x
 by_cases e:b'=b
 ·subst e
  rw [cell_of_row _ _ _ _ _ _ h2,cell_of_row _ _ _ _ _ _ h]
  by_cases e2:o'=o
  ·subst e2
   rw [if_pos ⟨rfl,rfl⟩]
   simp [ho]
  ·rw [if_neg (fun q=>e2 q.2)]
   rw [Array.getElem?_setIfInBounds_ne (fun q=>e2 q.symm)]
 ·rw [if_neg (fun q=>e q.1)]
  exact World.cell?_setCell_other _ _ _ _ (by simp)
theorem nodup_inj{α:Type}:∀{L:List α} (h:L.Nodup) {i j:Nat} {q:α},L[i]?=some q→L[j]?=some q→i=j
 | [],_,i,j,q,hi,_=>by simp at hi
 | a::L,h,i,j,q,hi,hj=>by
  rw [List.nodup_cons] at h
  match i,j with
  | 0,0=>rfl
  | 0,j+1=>simp at hi hj;subst hi;exact absurd (List.mem_of_getElem? hj) h.1
  | i+1,0=>simp at hi hj;subst hj;exact absurd (List.mem_of_getElem? hi) h.1
  | i+1,j+1=>simp at hi hj;rw [nodup_inj h.2 hi hj]
theorem MkL.put{L:List (Nat×Nat)}{p lo hi:Nat}{w0 w:World}(h:MkL L p lo hi w0 w)(ok:LOk L lo hi w0){b o:Nat}{u:Int}(hL:L[p]?=some (b,o))(hc:w0.cell? ⟨b,o,none⟩=some (.int .i64 u))(K:Int)(hK:K=1+(p:Int)) :
  (∃x,w.cell? ⟨b,o,none⟩=some x)∧w.frozen? ⟨b,o,none⟩=false∧MkL L (p+1) lo hi w0 (w.setCell ⟨b,o,none⟩ (.int .i64 K)):=by
 have hm:=List.mem_of_getElem? hL
 have hs:=ok.soft _ hm
 obtain ⟨u',hu⟩:=h.wm.num b o u hc
 have hsw:=h.wm.soft b hs
 have hr:=ok.rng _ hm
 obtain ⟨C,t,k⟩:=hsw
 refine ⟨⟨_,hu⟩,soft_free ⟨C,t,k⟩ o,h.wm.trans (WMk.put hu ⟨C,t,k⟩ hr.1 hr.2 K),fun i q hi hq=>?_⟩
 rw [cell_put k (zfd k hu)]
 split
 ·next e =>
  have:i=p:=nodup_inj ok.nd hq (by rw [hL];exact congrArg some (by cases q;simp at e;rw [e.1,e.2]))
  rw [this,hK]
 ·next e =>
  by_cases hip:i=p
  ·subst hip
   rw [hL] at hq
   cases hq
   exact absurd ⟨rfl,rfl⟩ e
  ·exact h.at' i q (by omega) hq
theorem MkL.later{L:List (Nat×Nat)}{p lo hi:Nat}{w0 w w':World}(h:MkL L p lo hi w0 w)(g:Below w.heap.size w w'):MkL L p lo hi w0 w':=⟨h.wm.trans (WMk.of_below lo hi g),fun i q hi hq=>(Keeps.of_below g 0) _ _ _ (Nat.zero_le _) (h.at' i q hi hq)⟩
theorem MkL.none{L:List (Nat×Nat)}{lo hi:Nat}{w0 w:World}(h:WMk lo hi w0 w):MkL L 0 lo hi w0 w:=⟨h,fun i q hi=>by omega⟩
set_option maxRecDepth 10000 in
theorem mark_a(L:List (Nat×Nat))(p lo hi n:Nat)(v:Value)(w0 w:World)(ok:LOk L lo hi w0)(hv:ArgsL w0 L p v n)(hp:p+n*3≤L.length)(hM:MkL L p lo hi w0 w)(K:Int)(hK:K=1+(p:Int)) :
  Calls Tryz.prog 51 #[v,.int .i64 K] w fun e w'=>e=.returned (.int .i64 (1+((p+n*3:Nat):Int)))∧MkL L (p+n*3) lo hi w0 w':=by
 have hpl:=ok.len
 have HOk:Hid (LOk L lo hi w0):=ok
 have HM0:Hid (MkL L p lo hi w0 w):=hM
 obtain ⟨a,cp,rfl,hx⟩:=hv
 have HX:Hid (∀i,i<n*3→∃b o u,a=some ⟨b,o,none⟩∧L[p+i]?=some (b,o+i)∧w0.cell? ⟨b,o+i,none⟩=some (.int .i64 u)):=hx
 obtain ⟨lL,HLL⟩:∃l,Hid (l=L.length):=⟨_,rfl⟩
 rw [←HLL.out] at hp hpl
 have hK0:0≤K:=by omega
 have hK1:K≤5000000:=by omega
 have HK0:Hid (K=1+(p:Int)):=hK
 clear ok hM hx hK
 go_enter Tryz.func51,Tryz.ntmps51
 go_wp2
 go_loopg [1,5] n (fun gg k i wr=>∃(m:Nat)(K:Int),m+gg=n∧i=.int .i64 m∧k=.int .i64 K∧Hid (K=1+((p+m*3:Nat):Int))∧0≤K∧K≤5000000∧Hid (MkL L (p+m*3) lo hi w0 wr))
 case atStart=>exact ⟨0,K,by omega,rfl,rfl,(by rw [HK0.out];simp:K=1+((p+0*3:Nat):Int)),hK0,hK1,(by simpa using HM0.out:MkL L (p+0*3) lo hi w0 w)⟩
 case round =>
  clear HM0 HK0 hK0 hK1
  obtain ⟨m,K,hm,rfl,rfl,HK,hK0,hK1,HM⟩:=hrel
  by_cases hlt:m<n
  ·have i1:(m:Int)<(n:Int):=by omega
   have i2:(0:Int)≤(m:Int):=by omega
   obtain ⟨b,o,u0,rfl,l0,q0⟩:=HX.out (m*3) (by omega)
   obtain ⟨b',o',u1,e1,l1,q1⟩:=HX.out (m*3+1) (by omega)
   cases e1
   obtain ⟨b',o',u2,e2,l2,q2⟩:=HX.out (m*3+2) (by omega)
   cases e2
   obtain ⟨⟨x0,c0⟩,f0,P1⟩:=HM.out.put HOk.out l0 q0 K HK.out
   obtain ⟨⟨x1,c1⟩,f1,P2⟩:=P1.put HOk.out (by rw [Nat.add_assoc];exact l1) q1 (K+1) (by rw [HK.out];omega)
   obtain ⟨⟨x2,c2⟩,f2,P3⟩:=P2.put HOk.out (by rw [Nat.add_assoc,Nat.add_assoc];exact l2) q2 (K+1+1) (by rw [HK.out];omega)
   have s1:o+(m*3+1)=o+m*3+1:=by omega
   have s2:o+(m*3+2)=o+m*3+1+1:=by omega
   rw [s1] at c1 f1
   rw [s2,s1] at c2 f2
   have HP3:Hid (MkL L (p+(m+1)*3) lo hi w0 (((wr.setCell ⟨b,o+m*3,none⟩ (.int .i64 K)).setCell ⟨b,o+m*3+1,none⟩ (.int .i64 (K+1))).setCell ⟨b,o+m*3+1+1,none⟩ (.int .i64 (K+1+1)))):=by
    have h:=P3
    rw [s2,s1] at h
    rwa [show p+m*3+1+1+1=p+(m+1)*3 by omega] at h
   have HK2:Hid (K+1+1+1=1+((p+(m+1)*3:Nat):Int)):=by show K+1+1+1=1+((p+(m+1)*3:Nat):Int);rw [HK.out];omega
   have hK3:K+1+1+1≤5000000:=by have:=HK2.out;omega
   clear l0 l1 l2 q0 q1 q2 P1 P2 P3 HM s1 s2
   go_wp2
   go_roundg (gk-1)
   case measure=>omega
   case rel=>exact ⟨m+1,K+1+1+1,by omega,by go_num,rfl,HK2,by omega,hK3,HP3⟩
  ·have i1:¬((m:Int)<(n:Int)):=by omega
   have hqn:m=n:=by omega
   have HKn:Hid (K=1+((p+n*3:Nat):Int)):=(by rw [←hqn];exact HK.out:K=1+((p+n*3:Nat):Int))
   have HMn:Hid (MkL L (p+n*3) lo hi w0 wr):=(by rw [←hqn];exact HM.out:MkL L (p+n*3) lo hi w0 wr)
   clear hqn HK HM
   go_wp2
   go_ret
   exact ⟨(by show Ending.returned (.int .i64 K)=_;rw [HKn.out];simp),HMn.out⟩
set_option maxRecDepth 10000 in
theorem held_a(L:List (Nat×Nat))(p lo hi n:Nat)(v:Value)(w0 w:World)(hll:L.length≤4000000)(hv:ArgsL w0 L p v n)(hp:p+n*3≤L.length)(hM:MkL L L.length lo hi w0 w)(K:Int)(hK:K=1+(p:Int)) :
  Calls Tryz.prog 54 #[v,.int .i64 K] w fun e w'=>e=.returned (.int .i64 (1+((p+n*3:Nat):Int)))∧w'=w:=by
 have HM:Hid (MkL L L.length lo hi w0 w):=hM
 obtain ⟨a,cp,rfl,hx⟩:=hv
 have HX:Hid (∀i,i<n*3→∃b o u,a=some ⟨b,o,none⟩∧L[p+i]?=some (b,o+i)∧w0.cell? ⟨b,o+i,none⟩=some (.int .i64 u)):=hx
 obtain ⟨lL,HLL⟩:∃l,Hid (l=L.length):=⟨_,rfl⟩
 rw [←HLL.out] at hp hll
 have hK0:0≤K:=by omega
 have hK1:K≤5000000:=by omega
 have HK0:Hid (K=1+(p:Int)):=hK
 clear hM hx hK
 go_enter Tryz.func54,Tryz.ntmps54
 go_wp2
 go_loopg [1,5] n (fun gg k i wr=>∃(m:Nat)(K:Int),m+gg=n∧i=.int .i64 m∧k=.int .i64 K∧Hid (K=1+((p+m*3:Nat):Int))∧0≤K∧K≤5000000∧wr=w)
 case atStart=>exact ⟨0,K,by omega,rfl,rfl,(by rw [HK0.out];simp:K=1+((p+0*3:Nat):Int)),hK0,hK1,rfl⟩
 case round =>
  clear HK0 hK0 hK1
  obtain ⟨m,K,hm,rfl,rfl,HK,hK0,hK1,rfl⟩:=hrel
  by_cases hlt:m<n
  ·have i1:(m:Int)<(n:Int):=by omega
   have i2:(0:Int)≤(m:Int):=by omega
   obtain ⟨b,o,u0,rfl,l0,q0⟩:=HX.out (m*3) (by omega)
   obtain ⟨b',o',u1,e1,l1,q1⟩:=HX.out (m*3+1) (by omega)
   cases e1
   obtain ⟨b',o',u2,e2,l2,q2⟩:=HX.out (m*3+2) (by omega)
   cases e2
   have hll2:=HLL.out
   have c0:wr.cell? ⟨b,o+m*3,none⟩=some (.int .i64 K):=by have:=HM.out.at' _ _ (by omega) l0;rw [HK.out];exact this
   have c1:wr.cell? ⟨b,o+m*3+1,none⟩=some (.int .i64 (K+1)):=by
    have h:=HM.out.at' _ _ (by omega) l1
    rw [show K+1=1+((p+(m*3+1):Nat):Int) by rw [HK.out];omega]
    exact h
   have c2:wr.cell? ⟨b,o+m*3+1+1,none⟩=some (.int .i64 (K+1+1)):=by
    have h:=HM.out.at' _ _ (by omega) l2
    rw [show K+1+1=1+((p+(m*3+2):Nat):Int) by rw [HK.out];omega]
    exact h
   have HK2:Hid (K+1+1+1=1+((p+(m+1)*3:Nat):Int)):=by show K+1+1+1=1+((p+(m+1)*3:Nat):Int);rw [HK.out];omega
   have hK3:K+1+1+1≤5000000:=by have:=HK2.out;omega
   clear l0 l1 l2 q0 q1 q2 hll2
   go_wp2
   go_roundg (gk-1)
   case measure=>omega
   case rel=>exact ⟨m+1,K+1+1+1,by omega,by go_num,rfl,HK2,by omega,hK3,rfl⟩
  ·have i1:¬((m:Int)<(n:Int)):=by omega
   have hqn:m=n:=by omega
   have HKn:Hid (K=1+((p+n*3:Nat):Int)):=(by rw [←hqn];exact HK.out:K=1+((p+n*3:Nat):Int))
   clear hqn HK
   go_wp2
   go_ret
   exact ⟨(by show Ending.returned (.int .i64 K)=_;rw [HKn.out];simp),rfl⟩
def Mov(Q:List (Nat×Nat)→Nat→Prop):Prop:=∀L L' p p',Q L p→(∀i q,L[p+i]?=some q→L'[p'+i]?=some q)→Q L' p'
def Lst(w0:World)(P:Nat×Nat→Prop)(n:Nat)(Q:List (Nat×Nat)→Nat→Prop):Prop:=∃L:List (Nat×Nat),L.length=n∧L.Nodup∧(∀q∈L,P q)∧LSoft w0 L∧Q L 0
theorem Lst.mono{w0:World}{P P':Nat×Nat→Prop}{n n':Nat}{Q Q':List (Nat×Nat)→Nat→Prop}(h:Lst w0 P n Q)(hP:∀q,P q→P' q)(hn:n=n')(hQ:∀L p,Q L p→Q' L p):Lst w0 P' n' Q':=by
 obtain ⟨L,a,b,c,d,e⟩:=h
 exact ⟨L,a.trans hn,b,fun q hq=>hP q (c q hq),d,hQ _ _ e⟩
theorem Lst.app{w0:World}{P1 P2:Nat×Nat→Prop}{n1 n2:Nat}{Q1 Q2:List (Nat×Nat)→Nat→Prop}(h1:Lst w0 P1 n1 Q1)(h2:Lst w0 P2 n2 Q2)(m1:Mov Q1)(m2:Mov Q2)(hd:∀q,P1 q→P2 q→False):Lst w0 (fun q=>P1 q∨P2 q) (n1+n2) (fun L p=>Q1 L p∧Q2 L (p+n1)):=by
 obtain ⟨L1,a1,b1,c1,d1,e1⟩:=h1
 obtain ⟨L2,a2,b2,c2,d2,e2⟩:=h2
 refine ⟨L1++L2,by simp [a1,a2],List.nodup_append.2 ⟨b1,b2,fun a ha b hb e=>by subst e;exact hd a (c1 _ ha) (c2 _ hb)⟩,fun q hq=>?_,fun q hq=>?_,?_,?_⟩
 ·rcases List.mem_append.1 hq with hq|hq
  ·exact .inl (c1 q hq)
  ·exact .inr (c2 q hq)
 ·rcases List.mem_append.1 hq with hq|hq
  ·exact d1 q hq
  ·exact d2 q hq
 ·exact m1 _ _ _ _ e1 fun i q hq=>by rw [List.getElem?_append_left (List.getElem?_eq_some_iff.1 hq).1];exact hq
 ·exact m2 _ _ _ _ e2 fun i q hq=>by
   rw [List.getElem?_append_right (by omega),show 0+n1+i-L1.length=0+i by omega]
   exact hq
theorem Lst.one{w0:World}{g o:Nat}(hg:∃C t,w0.heap[g]?=some (.cells C t (0,0))):Lst w0 (fun q=>q=(g,o)) 1 (fun L p=>L[p]?=some (g,o)):=⟨[(g,o)],rfl,by simp,fun q hq=>by simpa using hq,fun q hq=>by simp at hq;subst hq;exact hg,rfl⟩
theorem zes(g o:Nat):Mov (fun L p=>L[p]?=some (g,o)):=fun L L' p p' h hs=>by
 have:=hs 0 _ (by simpa using h)
 simpa using this
theorem zeg(w0:World)(s:Value)(n:Nat):Mov (fun L p=>ArgsL w0 L p s n):=fun L L' p p' h hs=>h.shift hs
theorem Mov.and{Q1 Q2:List (Nat×Nat)→Nat→Prop}(m1:Mov Q1)(m2:Mov Q2)(n:Nat):Mov (fun L p=>Q1 L p∧Q2 L (p+n)):=fun L L' p p' h hs=>⟨m1 _ _ _ _ h.1 hs,m2 _ _ _ _ h.2 fun i q hq=>by
 have:=hs (n+i) q (by rw [←Nat.add_assoc];exact hq)
 rwa [←Nat.add_assoc] at this⟩
theorem Mov.with{Q:List (Nat×Nat)→Nat→Prop}(m:Mov Q)(A:Prop):Mov (fun L p=>A∧Q L p):=fun L L' p p' h hs=>⟨h.1,m _ _ _ _ h.2 hs⟩
def pt{α:Type}(t:α→Nat)(xs:List α)(j:Nat):Nat:=((xs.take j).map t).sum
theorem zfp{α:Type}{t:α→Nat}{xs:List α}{j:Nat}{x:α}(h:xs[j]?=some x):pt t xs (j+1)=pt t xs j+t x:=zfa t xs j x h
theorem zja{α:Type}(t:α→Nat)(xs:List α):pt t xs xs.length=(xs.map t).sum:=by unfold pt;rw [List.take_length]
theorem pt_le{α:Type}(t:α→Nat)(xs:List α)(j:Nat):pt t xs j≤(xs.map t).sum:=zcm t xs j
def RowL{α:Type}(z:Nat)(t:α→Nat)(Q:Nat→Nat→α→List (Nat×Nat)→Nat→Prop)(v:Value)(xs:List α)(L:List (Nat×Nat))(p:Nat):Prop:=∃a cp,v=.slice a xs.length cp∧∀j x,xs[j]?=some x→∃b o,a=some ⟨b,o,none⟩∧Q b (o+j*z) x L (p+pt t xs j)
theorem zfq{α:Type}(z:Nat)(t:α→Nat)(Q:Nat→Nat→α→List (Nat×Nat)→Nat→Prop)(hQ:∀b o x,Mov (Q b o x))(v:Value)(xs:List α):Mov (RowL z t Q v xs):=fun L L' p p' h hs=>by
 obtain ⟨a,cp,e,hx⟩:=h
 refine ⟨a,cp,e,fun j x hj=>?_⟩
 obtain ⟨b,o,e1,e2⟩:=hx j x hj
 exact ⟨b,o,e1,hQ _ _ _ _ _ _ _ e2 fun i q hq=>by
  have:=hs (pt t xs j+i) q (by rw [←Nat.add_assoc];exact hq)
  rwa [←Nat.add_assoc] at this⟩
def InB(g o z:Nat)(f:List Nat)(q:Nat×Nat):Prop:=(q.1=g∧o≤q.2∧q.2<o+z)∨q.1∈f
def Each1{α:Type}(w0:World)(R:List Nat→α→List Value→Prop)(z:Nat)(t:α→Nat)(Q:Nat→Nat→α→List (Nat×Nat)→Nat→Prop):Prop :=
 ∀(g o:Nat) f x c,(∃C t,w0.heap[g]?=some (.cells C t (0,0)))→R f x c→f.Nodup→g∉f→(∀i,i<z→w0.cell? ⟨g,o+i,none⟩=c[i]?)→Lst w0 (InB g o z f) (t x) (Q g o x)
theorem row_aux{α:Type}{w0:World}{R:List Nat→α→List Value→Prop}{z:Nat}{t:α→Nat}{Q:Nat→Nat→α→List (Nat×Nat)→Nat→Prop}(hQ:∀b o x,Mov (Q b o x))(hR:Each1 w0 R z t Q){g:Nat}(hg:∃C t,w0.heap[g]?=some (.cells C t (0,0))){F:List Nat}{xs:List α}{cs:List Value}(h:Each R z F xs cs) :
  g∉F→F.Nodup→(∀i,i<xs.length*z→w0.cell? ⟨g,i,none⟩=cs[i]?)→Lst w0 (InB g 0 (xs.length*z) F) (xs.map t).sum (fun L p=>∀j x,xs[j]?=some x→Q g (j*z) x L (p+pt t xs j)):=by
 induction h with
 | nil=>intro _ _ _;exact ⟨[],rfl,List.nodup_nil,fun q hq=>by simp at hq,fun q hq=>by simp at hq,fun j x hx=>by simp at hx⟩
 | @add F xs cs f y c h hc hr ih =>
  intro hgF hnd hcell
  have hn:=List.nodup_append.1 hnd
  have hlen:=h.len
  have hml:(xs++[y]).length*z=xs.length*z+z:=by simp [Nat.add_mul]
  have i1:=ih (fun hm=>hgF (List.mem_append_left _ hm)) hn.1 (fun i hi=>by rw [hcell i (by omega),List.getElem?_append_left (by omega)])
  have i2:=hR g (xs.length*z) f y c hg hr hn.2.1 (fun hm=>hgF (List.mem_append_right _ hm)) (fun i hi=>by rw [hcell _ (by omega),List.getElem?_append_right (by omega),show xs.length*z+i-cs.length=i by omega])
  refine (Lst.app i1 i2 ?_ (hQ _ _ _) ?_).mono ?_ ?_ ?_
  ·intro L L' p p' h1 hs j x hj
   exact hQ _ _ _ _ _ _ _ (h1 j x hj) fun i q hq=>by
    have:=hs (pt t xs j+i) q (by rw [←Nat.add_assoc];exact hq)
    rwa [←Nat.add_assoc] at this
  ·rintro q (⟨a1,a2,a3⟩|a1) (⟨b1,b2,b3⟩|b1)
   ·omega
   ·rw [a1] at b1;exact hgF (List.mem_append_right _ b1)
   ·rw [b1] at a1;exact hgF (List.mem_append_left _ a1)
   ·exact hn.2.2 _ a1 _ b1 rfl
  ·rintro q ((⟨a1,a2,a3⟩|a1)|(⟨b1,b2,b3⟩|b1))
   ·exact .inl ⟨a1,a2,by omega⟩
   ·exact .inr (List.mem_append_left _ a1)
   ·exact .inl ⟨b1,by omega,by omega⟩
   ·exact .inr (List.mem_append_right _ b1)
  ·simp
  ·rintro L p ⟨q1,q2⟩ j x hj
   rcases Nat.lt_or_ge j xs.length with hlt|hge
   ·rw [List.getElem?_append_left hlt] at hj
    have:=q1 j x hj
    unfold pt at this ⊢
    rw [List.take_append_of_le_length (by omega)]
    exact this
   ·rw [List.getElem?_append_right hge] at hj
    have hj0:j=xs.length:=by
     have:=(List.getElem?_eq_some_iff.1 hj).1
     simp at this
     omega
    subst hj0
    simp at hj
    subst hj
    unfold pt
    rw [List.take_append_of_le_length (Nat.le_refl _),List.take_length]
    exact q2
theorem zgo{α:Type}{w0:World}{R:List Nat→α→List Value→Prop}{base e z:Nat}{t:α→Nat}{Q:Nat→Nat→α→List (Nat×Nat)→Nat→Prop}(hQ:∀b o x,Mov (Q b o x))(hR:Each1 w0 R z t Q){F:List Nat}{v:Value}{xs:List α}(h:RowOwn w0 base e z R F v xs)(hnd:F.Nodup):Lst w0 (fun q=>q.1∈F) (xs.map t).sum (RowL z t Q v xs):=by
 obtain ⟨cs,F',h1,h2,rfl⟩:=h
 have hn:=List.nodup_append.1 hnd
 rcases id h2.2 with ⟨rfl,hl⟩|⟨g,cap,cur,rfl,_⟩
 ·have hx:xs=[]:=List.length_eq_zero_iff.1 hl
  subst hx
  exact ⟨[],rfl,List.nodup_nil,fun q hq=>by simp at hq,fun q hq=>by simp at hq,none,0,rfl,fun j x hx=>by simp at hx⟩
 ·have hgF:g∉F':=fun hm=>hn.2.2 g (by simp [Value.ownBlock]) g hm rfl
  refine (row_aux hQ hR (own_soft h2 rfl) h1 hgF hn.2.1 (fun i hi=>h2.cellAt i hi)).mono ?_ rfl ?_
  ·rintro q (⟨a1,_⟩|a1)
   ·rw [a1];simp [Value.ownBlock]
   ·exact List.mem_append_right _ a1
  ·intro L p hq
   exact ⟨some ⟨g,0,none⟩,cap,rfl,fun j x hj=>⟨g,0,rfl,by rw [Nat.zero_add];exact hq j x hj⟩⟩
def tE(e:ElemT):Nat:=1+e.args.length*3
def zge(w0:World)(b o:Nat)(e:ElemT)(L:List (Nat×Nat))(p:Nat):Prop:=∃s,(w0.cell? ⟨b,o,none⟩=some (.int .i64 e.op)∧w0.cell? ⟨b,o+1,none⟩=some s)∧(L[p]?=some (b,o)∧ArgsL w0 L (p+1) s e.args.length)
theorem mov_ex{β:Type}{Q:β→List (Nat×Nat)→Nat→Prop}(h:∀s,Mov (Q s)):Mov (fun L p=>∃s,Q s L p):=fun L L' p p' ⟨s,hq⟩ hs=>⟨s,h s _ _ _ _ hq hs⟩
theorem mov_elem(w0:World)(b o:Nat)(e:ElemT):Mov (zge w0 b o e):=mov_ex fun s=>((zes b o).and (zeg w0 s e.args.length) 1).with _
theorem args_lst{w0:World}{base:Nat}{f:List Nat}{v:Value}{xs:List ArgT}(h:ArgsOwn w0 base f v xs):Lst w0 (fun q=>q.1∈f) (xs.length*3) (fun L p=>ArgsL w0 L p v xs.length):=by
 obtain ⟨La,a1,a2,a3,a4,a5⟩:=args_addr h
 exact ⟨La,a1,a3,a4,a5,a2⟩
theorem elem_each(w0:World)(base:Nat):Each1 w0 (ElemOwn w0 base) 2 tE (zge w0):=by
 intro g o f x c hg hr hnd hgf hcell
 obtain ⟨v,rfl,hv⟩:=hr
 have c0:=hcell 0 (by omega)
 have c1:=hcell 1 (by omega)
 refine (Lst.app (Lst.one (o:=o) hg) (args_lst hv) (zes g o) (zeg w0 v _) ?_).mono ?_ rfl ?_
 ·rintro q rfl h2;exact hgf h2
 ·rintro q (rfl|h2)
  ·exact .inl ⟨rfl,by simp,by simp⟩
  ·exact .inr h2
 ·intro L p hq
  exact ⟨v,⟨c0,c1⟩,hq⟩
def tN:Nat→NetT→Nat
 | 0,_=>0
 | n+1,.mk _ e kids=>1+(1+(e.args.length*3+(kids.map (tN n)).sum))
def NetQ(w0:World):Nat→Nat→Nat→NetT→List (Nat×Nat)→Nat→Prop
 | 0,_,_,_,_,_=>False
 | n+1,b,o,.mk k e kids,L,p=>∃s s',(w0.cell? ⟨b,o,none⟩=some (.int .i64 k)∧w0.cell? ⟨b,o+1,none⟩=some (.int .i64 e.op)∧w0.cell? ⟨b,o+2,none⟩=some s∧w0.cell? ⟨b,o+3,none⟩=some s')∧(L[p]?=some (b,o)∧(L[p+1]?=some (b,o+1)∧(ArgsL w0 L (p+1+1) s e.args.length∧RowL 4 (tN n) (NetQ w0 n) s' kids L (p+1+1+e.args.length*3))))
theorem zhy(w0:World):∀n b o t,Mov (NetQ w0 n b o t)
 | 0,_,_,_=>fun _ _ _ _ h _=>h.elim
 | n+1,b,o,.mk k e kids=>by
  have m:=zfq 4 (tN n) (NetQ w0 n) (fun b o x=>zhy w0 n b o x)
  intro L L' p p' h hs
  obtain ⟨s,s',hc,hq⟩:=h
  exact ⟨s,s',hc,(zes b o).and ((zes b (o+1)).and ((zeg w0 s e.args.length).and (m s' kids) _) 1) 1 L L' p p' hq hs⟩
theorem net_each(w0:World)(base:Nat):∀n,Each1 w0 (NetOwn w0 base n) 4 (tN n) (NetQ w0 n)
 | 0=>fun _ _ _ _ _ _ h=>h.elim
 | n+1=>by
  intro g o f x c hg hr hnd hgf hcell
  obtain ⟨k,e,kids⟩:=x
  obtain ⟨v,v',F1,F2,rfl,rfl,ha,hk⟩:=hr
  have hn:=List.nodup_append.1 hnd
  have c0:=hcell 0 (by omega)
  have c1:=hcell 1 (by omega)
  have c2:=hcell 2 (by omega)
  have c3:=hcell 3 (by omega)
  have ik:=zgo (fun b o x=>zhy w0 n b o x) (net_each w0 base n) hk hn.2.1
  have m:=zfq 4 (tN n) (NetQ w0 n) (fun b o x=>zhy w0 n b o x) v' kids
  have q1:=Lst.app (args_lst ha) ik (zeg w0 v _) m (fun q h1 h2=>hn.2.2 _ h1 _ h2 rfl)
  have q2:=Lst.app (Lst.one (o:=o+1) hg) q1 (zes g (o+1)) ((zeg w0 v _).and m _) (by
   rintro q rfl (h2|h2)
   ·exact hgf (List.mem_append_left _ h2)
   ·exact hgf (List.mem_append_right _ h2))
  refine (Lst.app (Lst.one (o:=o) hg) q2 (zes g o) ((zes g (o+1)).and ((zeg w0 v _).and m _) 1) ?_).mono ?_ rfl ?_
  ·rintro q rfl (h2|h2|h2)
   ·simp at h2
   ·exact hgf (List.mem_append_left _ h2)
   ·exact hgf (List.mem_append_right _ h2)
  ·rintro q (rfl|rfl|h2|h2)
   ·exact .inl ⟨rfl,by simp,by simp⟩
   ·exact .inl ⟨rfl,by simp,by simp⟩
   ·exact .inr (List.mem_append_left _ h2)
   ·exact .inr (List.mem_append_right _ h2)
  ·intro L p hq
   exact ⟨v,v',⟨c0,c1,c2,c3⟩,hq⟩
def tA:Nat→ArmT→Nat
 | 0,_=>0
 | n+1,.mk net coils kids=>tN n net+((coils.map tE).sum+(kids.map (tA n)).sum)
def ArmQ(w0:World):Nat→Nat→Nat→ArmT→List (Nat×Nat)→Nat→Prop
 | 0,_,_,_,_,_=>False
 | n+1,b,o,.mk net coils kids,L,p=>∃s s',(w0.cell? ⟨b,o+4,none⟩=some s∧w0.cell? ⟨b,o+5,none⟩=some s')∧(NetQ w0 n b o net L p∧(RowL 2 tE (zge w0) s coils L (p+tN n net)∧RowL 6 (tA n) (ArmQ w0 n) s' kids L (p+tN n net+(coils.map tE).sum)))
theorem mov_arm(w0:World):∀n b o t,Mov (ArmQ w0 n b o t)
 | 0,_,_,_=>fun _ _ _ _ h _=>h.elim
 | n+1,b,o,.mk net coils kids=>by
  have m:=zfq 6 (tA n) (ArmQ w0 n) (fun b o x=>mov_arm w0 n b o x)
  intro L L' p p' h hs
  obtain ⟨s,s',hc,hq⟩:=h
  exact ⟨s,s',hc,(zhy w0 n b o net).and ((zfq 2 tE (zge w0) (mov_elem w0) s coils).and (m s' kids) _) _ L L' p p' hq hs⟩
theorem net_len{w0:World}{base:Nat}:∀{n:Nat} {F:List Nat} {t:NetT} {c:List Value},NetOwn w0 base n F t c→c.length=4
 | 0,_,_,_,h=>h.elim
 | n+1,F,.mk k e kids,c,h=>by
  obtain ⟨v,v',F1,F2,rfl,_⟩:=h
  rfl
theorem arm_each(w0:World)(base:Nat):∀n,Each1 w0 (ArmOwn w0 base n) 6 (tA n) (ArmQ w0 n)
 | 0=>fun _ _ _ _ _ _ h=>h.elim
 | n+1=>by
  intro g o f x c hg hr hnd hgf hcell
  obtain ⟨net,coils,kids⟩:=x
  obtain ⟨ns,v,v',F1,F2,F3,rfl,rfl,hn1,hc,hk⟩:=hr
  have hl:=net_len hn1
  have hn:=List.nodup_append.1 hnd
  have hn2:=List.nodup_append.1 hn.2.1
  have c4:=hcell 4 (by omega)
  have c5:=hcell 5 (by omega)
  rw [List.getElem?_append_right (by omega),hl] at c4 c5
  have in1:=net_each w0 base n g o F1 net ns hg hn1 hn.1 (fun h=>hgf (List.mem_append_left _ h)) (fun i hi=>by rw [hcell i (by omega),List.getElem?_append_left (by omega)])
  have ic:=zgo (mov_elem w0) (elem_each w0 base) hc hn2.1
  have ik:=zgo (fun b o x=>mov_arm w0 n b o x) (arm_each w0 base n) hk hn2.2.1
  have mc:=zfq 2 tE (zge w0) (mov_elem w0) v coils
  have mk:=zfq 6 (tA n) (ArmQ w0 n) (fun b o x=>mov_arm w0 n b o x) v' kids
  have q1:=Lst.app ic ik mc mk (fun q h1 h2=>hn2.2.2 _ h1 _ h2 rfl)
  refine (Lst.app in1 q1 (zhy w0 n g o net) (mc.and mk _) ?_).mono ?_ rfl ?_
  ·rintro q (⟨h1,_⟩|h1) h2
   ·rw [h1] at h2
    rcases h2 with h2|h2
    ·exact hgf (List.mem_append_right _ (List.mem_append_left _ h2))
    ·exact hgf (List.mem_append_right _ (List.mem_append_right _ h2))
   ·rcases h2 with h2|h2
    ·exact hn.2.2 _ h1 _ (List.mem_append_left _ h2) rfl
    ·exact hn.2.2 _ h1 _ (List.mem_append_right _ h2) rfl
  ·rintro q ((⟨h1,h2,h3⟩|h1)|h2|h2)
   ·exact .inl ⟨h1,h2,by omega⟩
   ·exact .inr (List.mem_append_left _ h1)
   ·exact .inr (List.mem_append_right _ (List.mem_append_left _ h2))
   ·exact .inr (List.mem_append_right _ (List.mem_append_right _ h2))
  ·intro L p hq
   exact ⟨v,v',⟨c4,c5⟩,hq⟩
theorem arms_addr{w0:World}{base:Nat}{F:List Nat}{v:Value}{xs:List ArmT}(h:ArmsOwn w0 base F v xs)(hnd:F.Nodup):∃L:List (Nat×Nat),L.length=(xs.map (tA 40000)).sum∧L.Nodup∧(∀q∈L,base≤q.1∧q.1<w0.heap.size)∧LSoft w0 L∧RowL 6 (tA 40000) (ArmQ w0 40000) v xs L 0:=by
 have hlt:=ArmsOwn.lt h
 obtain ⟨L,a,b,c,d,e⟩:=zgo (fun b o x=>mov_arm w0 40000 b o x) (arm_each w0 base 40000) h hnd
 exact ⟨L,a,b,fun q hq=>hlt _ (c q hq),d,e⟩
theorem tE_w(e:ElemT):tE e≤1+3*wE e:=by unfold tE wE;omega
theorem tN_w:∀n t,tN n t≤2+3*wN n t
 | 0,t=>by show 0≤_;omega
 | n+1,.mk k e kids=>by
  have:(kids.map (tN n)).sum≤3*(kids.length+(kids.map (wN n)).sum):=by
   induction kids with
   | nil=>simp
   | cons y ys ih =>
    have:=tN_w n y
    simp only [List.map_cons,List.sum_cons,List.length_cons]
    omega
  show 1+(1+(e.args.length*3+(kids.map (tN n)).sum))≤2+3*(e.args.length+(kids.length+(kids.map (wN n)).sum))
  omega
theorem tA_w:∀n t,tA n t≤2+3*wA n t
 | 0,t=>by show 0≤_;omega
 | n+1,.mk net coils kids=>by
  have h1:(kids.map (tA n)).sum≤3*(kids.length+(kids.map (wA n)).sum):=by
   induction kids with
   | nil=>simp
   | cons y ys ih =>
    have:=tA_w n y
    simp only [List.map_cons,List.sum_cons,List.length_cons]
    omega
  have h2:(coils.map tE).sum≤3*(coils.length+(coils.map wE).sum):=by
   induction coils with
   | nil=>simp
   | cons y ys ih =>
    have:=tE_w y
    simp only [List.map_cons,List.sum_cons,List.length_cons]
    omega
  have h3:=tN_w n net
  show tN n net+((coils.map tE).sum+(kids.map (tA n)).sum)≤2+3*(wN n net+(coils.length+(coils.map wE).sum)+(kids.length+(kids.map (wA n)).sum))
  omega
theorem sum_ge{α:Type}{t:α→Nat}:∀{xs:List α},(∀x∈xs,1≤t x)→xs.length≤(xs.map t).sum
 | [],_=>Nat.le_refl _
 | x::xs,h=>by
  have h1:=h x (by simp)
  have h2:=sum_ge (xs:=xs) fun y hy=>h y (by simp [hy])
  simp only [List.length_cons,List.map_cons,List.sum_cons]
  omega
theorem zjb{α:Type}{z:Nat}{t:α→Nat}{Q:Nat→Nat→α→List (Nat×Nat)→Nat→Prop}{v:Value}{xs:List α}{L:List (Nat×Nat)}{p:Nat}(h:RowL z t Q v xs L p)(hQ:∀b o x L p,Q b o x L p→1≤t x):xs.length≤(xs.map t).sum:=by
 obtain ⟨a,cp,_,hx⟩:=h
 refine sum_ge fun x hm=>?_
 obtain ⟨j,hj⟩:=List.mem_iff_getElem?.1 hm
 obtain ⟨b,o,_,hq⟩:=hx j x hj
 exact hQ _ _ _ _ _ hq
theorem elem_1(w0:World):∀b o x L p,zge w0 b o x L p→1≤tE x:=fun b o x L p _=>by unfold tE;omega
theorem net_1(w0:World):∀n b o x L p,NetQ w0 n b o x L p→1≤tN n x
 | 0,_,_,_,_,_,h=>h.elim
 | n+1,b,o,.mk k e kids,L,p,_=>by show 1≤1+_;omega
theorem arm_1(w0:World):∀n b o x L p,ArmQ w0 n b o x L p→1≤tA n x
 | 0,_,_,_,_,_,h=>h.elim
 | n+1,b,o,.mk net coils kids,L,p,h=>by
  obtain ⟨s,s',_,h1,_⟩:=h
  have:=net_1 w0 n _ _ _ _ _ h1
  show 1≤tN n net+_
  omega
set_option maxRecDepth 10000 in
theorem mark_e(L:List (Nat×Nat))(lo hi:Nat)(w0:World)(ok:LOk L lo hi w0):∀(p:Nat)(v:Value)(xs:List ElemT)(w:World)(K:Int),RowL 2 (tE) (zge w0) v xs L p→p+(xs.map (tE)).sum≤L.length→MkL L p lo hi w0 w→K=1+(p:Int)→Calls Tryz.prog 53 #[v,.int .i64 K] w fun e w'=>e=.returned (.int .i64 (1+((p+(xs.map (tE)).sum:Nat):Int)))∧MkL L (p+(xs.map (tE)).sum) lo hi w0 w':=by
 intro p v xs w K hv hp hM hK
 have hpl:=ok.len
 have HOk:Hid (LOk L lo hi w0):=ok
 have HM0:Hid (MkL L p lo hi w0 w):=hM
 have hlen:=zjb hv (elem_1 w0)
 obtain ⟨a,cp,rfl,hx⟩:=hv
 have HX:Hid (∀j x,xs[j]?=some x→∃b o,a=some ⟨b,o,none⟩∧(zge w0) b (o+j*2) x L (p+pt (tE) xs j)):=hx
 have HLe:Hid (∀j,pt (tE) xs j≤(xs.map (tE)).sum):=fun j=>pt_le _ xs j
 have HAll:Hid (pt (tE) xs xs.length=(xs.map (tE)).sum∧p+(xs.map (tE)).sum≤L.length∧L.length≤4000000):=⟨zja _ xs,hp,hpl⟩
 obtain ⟨len,HL⟩:∃len,Hid (len=xs.length):=⟨_,rfl⟩
 rw [←HL.out] at hlen ⊢
 have hlen4:len≤4000000:=by omega
 have hK0:0≤K:=by omega
 have hK1:K≤5000000:=by omega
 have HK0:Hid (K=1+(p:Int)):=hK
 clear ok hM hx hK hp hpl hlen
 go_enter Tryz.func53,Tryz.ntmps53
 go_wp2
 go_loopg [1,5] len (fun gg k i wr=>∃(m:Nat)(K:Int),m+gg=len∧i=.int .i64 m∧k=.int .i64 K∧Hid (K=1+((p+pt (tE) xs m:Nat):Int))∧0≤K∧K≤5000000∧Hid (MkL L (p+pt (tE) xs m) lo hi w0 wr))
 case atStart=>exact ⟨0,K,by omega,rfl,rfl,(by rw [HK0.out];simp [pt]:K=1+((p+pt (tE) xs 0:Nat):Int)),hK0,hK1,(by simpa [pt] using HM0.out:MkL L (p+pt (tE) xs 0) lo hi w0 w)⟩
 case round =>
  clear HM0 HK0 hK0 hK1
  obtain ⟨m,K,hm,rfl,rfl,HK,hK0,hK1,HM⟩:=hrel
  by_cases hlt:m<len
  ·have i1:(m:Int)<(len:Int):=by omega
   have i2:(0:Int)≤(m:Int):=by omega
   obtain ⟨x,hxn⟩:∃x,xs[m]?=some x:=⟨_,List.getElem?_eq_getElem (by have:=HL.out;omega)⟩
   obtain ⟨b,o,rfl,hq⟩:=HX.out m x hxn
   have hnx:=zfp (t:=tE) hxn
   have hle:=HLe.out (m+1)
   have hal:=HAll.out
   obtain ⟨pp,HPP⟩:∃q,Hid (q=p+pt (tE) xs m):=⟨_,rfl⟩
   have hpp:=HPP.out
   rw [←hpp] at hq HK HM
   clear HX
   obtain ⟨s,⟨q0,q1⟩,l0,hA⟩:=hq
   have ht:tE x=1+x.args.length*3:=rfl
   rw [ht] at hnx
   obtain ⟨ua,uc,e,_⟩:=id hA
   subst e
   obtain ⟨n1,Hn1⟩:∃l,Hid (l=x.args.length):=⟨_,rfl⟩
   rw [←Hn1.out] at hnx q1 hA
   clear ht
   have HB:Hid (pp+1+n1*3=p+pt (tE) xs (m+1)∧pp+1+n1*3≤L.length∧L.length≤4000000):=⟨by omega,by omega,hal.2.2⟩
   clear hnx hle hal hpp HPP
   have hB:=HB.out
   obtain ⟨⟨x0,c0⟩,f0,P0⟩:=HM.out.put HOk.out l0 q0 (K) (by have:=HK.out;omega)
   have d0:=P0.wm.cell b (o+m*2+1) _ q1 (by simp)
   have HCl0:Hid (Calls Tryz.prog 51 #[.slice ua n1 uc,.int .i64 (K+1)] (wr.setCell ⟨b,o+m*2,none⟩ (.int .i64 (K))) fun e w'=>e=.returned (.int .i64 (1+((pp+1+n1*3:Nat):Int)))∧MkL L (pp+1+n1*3) lo hi w0 w'):=mark_a L (pp+1) lo hi n1 _ w0 _ HOk.out hA (by omega) P0 (K+1) (by have:=HK.out;omega)
   obtain ⟨K2,HK2⟩:∃q,Hid (q=1+((pp+1+n1*3:Nat):Int)):=⟨_,rfl⟩
   rw [←HK2.out] at HCl0
   have hK20:0≤K2:=by have:=HK2.out;omega
   have hK21:K2≤5000000:=by have:=HK2.out;omega
   have nn0:¬(K2<0):=by omega
   have HKE:Hid (K2=1+((p+pt (tE) xs (m+1):Nat):Int)):=(by have:=HK2.out;omega:K2=1+((p+pt (tE) xs (m+1):Nat):Int))
   rw [hB.1] at HCl0
   clear hB l0 q0 q1 hA P0 HM
   go_wp2_with fail
   refine HCl0.out.mono ?_
   rintro e w5 ⟨rfl,g5⟩
   have HP5:Hid (MkL L (p+pt (tE) xs (m+1)) lo hi w0 w5):=g5
   clear g5 HCl0 d0 c0 f0
   go_wp2
   go_roundg (gk-1)
   case measure=>omega
   case rel=>exact ⟨m+1,K2,by omega,by go_num,rfl,HKE,hK20,hK21,HP5⟩
  ·have i1:¬((m:Int)<(len:Int)):=by omega
   have hqn:m=xs.length:=by have:=HL.out;omega
   have HKn:Hid (K=1+((p+(xs.map (tE)).sum:Nat):Int)):=(by rw [←HAll.out.1,←hqn];exact HK.out:K=1+((p+(xs.map (tE)).sum:Nat):Int))
   have HMn:Hid (MkL L (p+(xs.map (tE)).sum) lo hi w0 wr):=(by rw [←HAll.out.1,←hqn];exact HM.out:MkL L (p+(xs.map (tE)).sum) lo hi w0 wr)
   clear hqn HK HM
   go_wp2
   go_ret
   exact ⟨(by show Ending.returned (.int .i64 K)=_;rw [HKn.out];simp),HMn.out⟩
set_option maxRecDepth 10000 in
theorem held_e(L:List (Nat×Nat))(lo hi:Nat)(w0:World)(ok:LOk L lo hi w0):∀(p:Nat)(v:Value)(xs:List ElemT)(w:World)(K:Int),RowL 2 (tE) (zge w0) v xs L p→p+(xs.map (tE)).sum≤L.length→MkL L L.length lo hi w0 w→K=1+(p:Int)→Calls Tryz.prog 56 #[v,.int .i64 K] w fun e w'=>e=.returned (.int .i64 (1+((p+(xs.map (tE)).sum:Nat):Int)))∧w'=w:=by
 intro p v xs w K hv hp hM hK
 have hpl:=ok.len
 have HOk:Hid (LOk L lo hi w0):=ok
 have HM0:Hid (MkL L L.length lo hi w0 w):=hM
 have hlen:=zjb hv (elem_1 w0)
 obtain ⟨a,cp,rfl,hx⟩:=hv
 have HX:Hid (∀j x,xs[j]?=some x→∃b o,a=some ⟨b,o,none⟩∧(zge w0) b (o+j*2) x L (p+pt (tE) xs j)):=hx
 have HLe:Hid (∀j,pt (tE) xs j≤(xs.map (tE)).sum):=fun j=>pt_le _ xs j
 have HAll:Hid (pt (tE) xs xs.length=(xs.map (tE)).sum∧p+(xs.map (tE)).sum≤L.length∧L.length≤4000000):=⟨zja _ xs,hp,hpl⟩
 obtain ⟨len,HL⟩:∃len,Hid (len=xs.length):=⟨_,rfl⟩
 rw [←HL.out] at hlen ⊢
 have hlen4:len≤4000000:=by omega
 have hK0:0≤K:=by omega
 have hK1:K≤5000000:=by omega
 have HK0:Hid (K=1+(p:Int)):=hK
 clear ok hM hx hK hp hpl hlen
 go_enter Tryz.func56,Tryz.ntmps56
 go_wp2
 go_loopg [1,5] len (fun gg k i wr=>∃(m:Nat)(K:Int),m+gg=len∧i=.int .i64 m∧k=.int .i64 K∧Hid (K=1+((p+pt (tE) xs m:Nat):Int))∧0≤K∧K≤5000000∧wr=w)
 case atStart=>exact ⟨0,K,by omega,rfl,rfl,(by rw [HK0.out];simp [pt]:K=1+((p+pt (tE) xs 0:Nat):Int)),hK0,hK1,rfl⟩
 case round =>
  clear HK0 hK0 hK1
  obtain ⟨m,K,hm,rfl,rfl,HK,hK0,hK1,rfl⟩:=hrel
  by_cases hlt:m<len
  ·have i1:(m:Int)<(len:Int):=by omega
   have i2:(0:Int)≤(m:Int):=by omega
   obtain ⟨x,hxn⟩:∃x,xs[m]?=some x:=⟨_,List.getElem?_eq_getElem (by have:=HL.out;omega)⟩
   obtain ⟨b,o,rfl,hq⟩:=HX.out m x hxn
   have hnx:=zfp (t:=tE) hxn
   have hle:=HLe.out (m+1)
   have hal:=HAll.out
   obtain ⟨pp,HPP⟩:∃q,Hid (q=p+pt (tE) xs m):=⟨_,rfl⟩
   have hpp:=HPP.out
   rw [←hpp] at hq HK
   clear HX
   obtain ⟨s,⟨q0,q1⟩,l0,hA⟩:=hq
   have ht:tE x=1+x.args.length*3:=rfl
   rw [ht] at hnx
   obtain ⟨ua,uc,e,_⟩:=id hA
   subst e
   obtain ⟨n1,Hn1⟩:∃l,Hid (l=x.args.length):=⟨_,rfl⟩
   rw [←Hn1.out] at hnx q1 hA
   clear ht
   have HB:Hid (pp+1+n1*3=p+pt (tE) xs (m+1)∧pp+1+n1*3≤L.length∧L.length≤4000000):=⟨by omega,by omega,hal.2.2⟩
   clear hnx hle hal hpp HPP
   have hB:=HB.out
   have c0:wr.cell? ⟨b,o+m*2,none⟩=some (.int .i64 (K)):=by
    have h:=HM0.out.at' _ _ (by omega) l0
    rw [show K=1+((pp:Nat):Int) by have:=HK.out;omega]
    exact h
   have d0:=HM0.out.wm.cell b (o+m*2+1) _ q1 (by simp)
   have HCl0:Hid (Calls Tryz.prog 54 #[.slice ua n1 uc,.int .i64 (K+1)] wr fun e w'=>e=.returned (.int .i64 (1+((pp+1+n1*3:Nat):Int)))∧w'=wr):=held_a L (pp+1) lo hi n1 _ w0 _ (by omega) hA (by omega) HM0.out (K+1) (by have:=HK.out;omega)
   obtain ⟨K2,HK2⟩:∃q,Hid (q=1+((pp+1+n1*3:Nat):Int)):=⟨_,rfl⟩
   rw [←HK2.out] at HCl0
   have hK20:0≤K2:=by have:=HK2.out;omega
   have hK21:K2≤5000000:=by have:=HK2.out;omega
   have nn0:¬(K2<0):=by omega
   have HKE:Hid (K2=1+((p+pt (tE) xs (m+1):Nat):Int)):=(by have:=HK2.out;omega:K2=1+((p+pt (tE) xs (m+1):Nat):Int))
   clear hB l0 q0 q1 hA
   go_wp2_with fail
   refine HCl0.out.mono ?_
   rintro e w5 ⟨rfl,rfl⟩
   clear HCl0 d0 c0
   go_wp2
   go_roundg (gk-1)
   case measure=>omega
   case rel=>exact ⟨m+1,K2,by omega,by go_num,rfl,HKE,hK20,hK21,rfl⟩
  ·have i1:¬((m:Int)<(len:Int)):=by omega
   have hqn:m=xs.length:=by have:=HL.out;omega
   have HKn:Hid (K=1+((p+(xs.map (tE)).sum:Nat):Int)):=(by rw [←HAll.out.1,←hqn];exact HK.out:K=1+((p+(xs.map (tE)).sum:Nat):Int))
   clear hqn HK
   go_wp2
   go_ret
   exact ⟨(by show Ending.returned (.int .i64 K)=_;rw [HKn.out];simp),rfl⟩
set_option maxRecDepth 10000 in
theorem mark_n1(L:List (Nat×Nat))(lo hi:Nat)(w0:World)(ok:LOk L lo hi w0)(n:Nat)(ih:∀r,n=r+1→∀(p:Nat)(v:Value)(xs:List NetT)(w:World)(K:Int),RowL 4 (tN r) (NetQ w0 r) v xs L p→p+(xs.map (tN r)).sum≤L.length→MkL L p lo hi w0 w→K=1+(p:Int)→Calls Tryz.prog 52 #[v,.int .i64 K] w fun e w'=>e=.returned (.int .i64 (1+((p+(xs.map (tN r)).sum:Nat):Int)))∧MkL L (p+(xs.map (tN r)).sum) lo hi w0 w'):∀(p:Nat)(v:Value)(xs:List NetT)(w:World)(K:Int),RowL 4 (tN n) (NetQ w0 n) v xs L p→p+(xs.map (tN n)).sum≤L.length→MkL L p lo hi w0 w→K=1+(p:Int)→Calls Tryz.prog 52 #[v,.int .i64 K] w fun e w'=>e=.returned (.int .i64 (1+((p+(xs.map (tN n)).sum:Nat):Int)))∧MkL L (p+(xs.map (tN n)).sum) lo hi w0 w':=by
 intro p v xs w K hv hp hM hK
 have hpl:=ok.len
 have HOk:Hid (LOk L lo hi w0):=ok
 have HIH0:Hid (∀r,n=r+1→∀(p:Nat)(v:Value)(xs:List NetT)(w:World)(K:Int),RowL 4 (tN r) (NetQ w0 r) v xs L p→p+(xs.map (tN r)).sum≤L.length→MkL L p lo hi w0 w→K=1+(p:Int)→Calls Tryz.prog 52 #[v,.int .i64 K] w fun e w'=>e=.returned (.int .i64 (1+((p+(xs.map (tN r)).sum:Nat):Int)))∧MkL L (p+(xs.map (tN r)).sum) lo hi w0 w'):=ih
 clear ih
 have HM0:Hid (MkL L p lo hi w0 w):=hM
 have hlen:=zjb hv (net_1 w0 n)
 obtain ⟨a,cp,rfl,hx⟩:=hv
 have HX:Hid (∀j x,xs[j]?=some x→∃b o,a=some ⟨b,o,none⟩∧(NetQ w0 n) b (o+j*4) x L (p+pt (tN n) xs j)):=hx
 have HLe:Hid (∀j,pt (tN n) xs j≤(xs.map (tN n)).sum):=fun j=>pt_le _ xs j
 have HAll:Hid (pt (tN n) xs xs.length=(xs.map (tN n)).sum∧p+(xs.map (tN n)).sum≤L.length∧L.length≤4000000):=⟨zja _ xs,hp,hpl⟩
 obtain ⟨len,HL⟩:∃len,Hid (len=xs.length):=⟨_,rfl⟩
 rw [←HL.out] at hlen ⊢
 have hlen4:len≤4000000:=by omega
 have hK0:0≤K:=by omega
 have hK1:K≤5000000:=by omega
 have HK0:Hid (K=1+(p:Int)):=hK
 clear ok hM hx hK hp hpl hlen
 go_enter Tryz.func52,Tryz.ntmps52
 go_wp2
 go_loopg [1,5] len (fun gg k i wr=>∃(m:Nat)(K:Int),m+gg=len∧i=.int .i64 m∧k=.int .i64 K∧Hid (K=1+((p+pt (tN n) xs m:Nat):Int))∧0≤K∧K≤5000000∧Hid (MkL L (p+pt (tN n) xs m) lo hi w0 wr))
 case atStart=>exact ⟨0,K,by omega,rfl,rfl,(by rw [HK0.out];simp [pt]:K=1+((p+pt (tN n) xs 0:Nat):Int)),hK0,hK1,(by simpa [pt] using HM0.out:MkL L (p+pt (tN n) xs 0) lo hi w0 w)⟩
 case round =>
  clear HM0 HK0 hK0 hK1
  obtain ⟨m,K,hm,rfl,rfl,HK,hK0,hK1,HM⟩:=hrel
  by_cases hlt:m<len
  ·have i1:(m:Int)<(len:Int):=by omega
   have i2:(0:Int)≤(m:Int):=by omega
   obtain ⟨x,hxn⟩:∃x,xs[m]?=some x:=⟨_,List.getElem?_eq_getElem (by have:=HL.out;omega)⟩
   obtain ⟨b,o,rfl,hq⟩:=HX.out m x hxn
   have hnx:=zfp (t:=tN n) hxn
   have hle:=HLe.out (m+1)
   have hal:=HAll.out
   obtain ⟨pp,HPP⟩:∃q,Hid (q=p+pt (tN n) xs m):=⟨_,rfl⟩
   have hpp:=HPP.out
   rw [←hpp] at hq HK HM
   clear HX
   obtain ⟨n',hn⟩:∃n',n=n'+1:=by cases n with|zero=>exact hq.elim|succ n'=>exact ⟨n',rfl⟩
   have HIH:Hid (∀(p:Nat)(v:Value)(xs:List NetT)(w:World)(K:Int),RowL 4 (tN n') (NetQ w0 n') v xs L p→p+(xs.map (tN n')).sum≤L.length→MkL L p lo hi w0 w→K=1+(p:Int)→Calls Tryz.prog 52 #[v,.int .i64 K] w fun e w'=>e=.returned (.int .i64 (1+((p+(xs.map (tN n')).sum:Nat):Int)))∧MkL L (p+(xs.map (tN n')).sum) lo hi w0 w'):=HIH0.out n' hn
   obtain ⟨k0,e0,kids⟩:=x
   have ht:tN n (.mk k0 e0 kids)=1+(1+(e0.args.length*3+(kids.map (tN n')).sum)):=by rw [hn];rfl
   rw [ht] at hnx
   have hq2:NetQ w0 (n'+1) b (o+m*4) (.mk k0 e0 kids) L pp:=by rw [←hn];exact hq
   clear hq ht hn HIH0
   obtain ⟨s,s',⟨q0,q1,q2,q3⟩,l0,l1,hA,hR⟩:=hq2
   obtain ⟨ua,uc,e,_⟩:=id hA
   obtain ⟨va,vc,e',_⟩:=id hR
   subst e
   subst e'
   obtain ⟨n1,Hn1⟩:∃l,Hid (l=e0.args.length):=⟨_,rfl⟩
   obtain ⟨n2,Hn2⟩:∃l,Hid (l=kids.length):=⟨_,rfl⟩
   obtain ⟨s2,Hs2⟩:∃l,Hid (l=(kids.map (tN n')).sum):=⟨_,rfl⟩
   rw [←Hn1.out] at hnx q2 hA hR
   rw [←Hn2.out] at q3 hR
   rw [←Hs2.out] at hnx
   have HR:Hid (RowL 4 (tN n') (NetQ w0 n') (.slice va n2 vc) kids L (pp+1+1+n1*3)):=hR
   have HQ3:Hid (w0.cell? ⟨b,o+m*4+3,none⟩=some (.slice va n2 vc)):=q3
   clear hR q3
   have HB:Hid (pp+1+1+n1*3+s2=p+pt (tN n) xs (m+1)∧pp+1+1+n1*3+s2≤L.length∧L.length≤4000000):=⟨by omega,by omega,hal.2.2⟩
   clear hnx hle hal hpp HPP
   have hB:=HB.out
   obtain ⟨⟨x0,c0⟩,f0,P0⟩:=HM.out.put HOk.out l0 q0 (K) (by have:=HK.out;omega)
   obtain ⟨⟨x1,c1⟩,f1,P1⟩:=P0.put HOk.out l1 q1 (K+1) (by have:=HK.out;omega)
   have d0:=P1.wm.cell b (o+m*4+1+1) _ q2 (by simp)
   have HCl0:Hid (Calls Tryz.prog 51 #[.slice ua n1 uc,.int .i64 (K+1+1)] ((wr.setCell ⟨b,o+m*4,none⟩ (.int .i64 (K))).setCell ⟨b,o+m*4+1,none⟩ (.int .i64 (K+1))) fun e w'=>e=.returned (.int .i64 (1+((pp+1+1+n1*3:Nat):Int)))∧MkL L (pp+1+1+n1*3) lo hi w0 w'):=mark_a L (pp+1+1) lo hi n1 _ w0 _ HOk.out hA (by omega) P1 (K+1+1) (by have:=HK.out;omega)
   obtain ⟨K2,HK2⟩:∃q,Hid (q=1+((pp+1+1+n1*3:Nat):Int)):=⟨_,rfl⟩
   rw [←HK2.out] at HCl0
   have hK20:0≤K2:=by have:=HK2.out;omega
   have hK21:K2≤5000000:=by have:=HK2.out;omega
   have nn0:¬(K2<0):=by omega
   clear hB l0 l1 q0 q1 q2 hA P0 P1 HM
   go_wp2_with fail
   refine HCl0.out.mono ?_
   rintro e w5 ⟨rfl,g5⟩
   have HG0:Hid (MkL L (pp+1+1+n1*3) lo hi w0 w5):=g5
   clear g5 HCl0 d0 c0 c1 f0 f1
   have hB:=HB.out
   have d1:=HG0.out.wm.cell b (o+m*4+3) _ HQ3.out (by simp)
   have HCl1:Hid (Calls Tryz.prog 52 #[.slice va n2 vc,.int .i64 (K2)] w5 fun e w'=>e=.returned (.int .i64 (1+((pp+1+1+n1*3+s2:Nat):Int)))∧MkL L (pp+1+1+n1*3+s2) lo hi w0 w'):=(by have h:=HIH.out (pp+1+1+n1*3) _ kids w5 (K2) HR.out (by rw [←Hs2.out];omega) HG0.out (by have:=HK2.out;omega);rw [←Hs2.out] at h;exact h)
   obtain ⟨K3,HK3⟩:∃q,Hid (q=1+((pp+1+1+n1*3+s2:Nat):Int)):=⟨_,rfl⟩
   rw [←HK3.out] at HCl1
   have hK30:0≤K3:=by have:=HK3.out;omega
   have hK31:K3≤5000000:=by have:=HK3.out;omega
   have nn1:¬(K3<0):=by omega
   have HKE:Hid (K3=1+((p+pt (tN n) xs (m+1):Nat):Int)):=(by have:=HK3.out;omega:K3=1+((p+pt (tN n) xs (m+1):Nat):Int))
   rw [hB.1] at HCl1
   clear hB
   go_wp2_with fail
   refine HCl1.out.mono ?_
   rintro e w6 ⟨rfl,g6⟩
   have HP5:Hid (MkL L (p+pt (tN n) xs (m+1)) lo hi w0 w6):=g6
   clear g6 HCl1 d1 
   go_wp2
   go_roundg (gk-1)
   case measure=>omega
   case rel=>exact ⟨m+1,K3,by omega,by go_num,rfl,HKE,hK30,hK31,HP5⟩
  ·have i1:¬((m:Int)<(len:Int)):=by omega
   have hqn:m=xs.length:=by have:=HL.out;omega
   have HKn:Hid (K=1+((p+(xs.map (tN n)).sum:Nat):Int)):=(by rw [←HAll.out.1,←hqn];exact HK.out:K=1+((p+(xs.map (tN n)).sum:Nat):Int))
   have HMn:Hid (MkL L (p+(xs.map (tN n)).sum) lo hi w0 wr):=(by rw [←HAll.out.1,←hqn];exact HM.out:MkL L (p+(xs.map (tN n)).sum) lo hi w0 wr)
   clear hqn HK HM
   go_wp2
   go_ret
   exact ⟨(by show Ending.returned (.int .i64 K)=_;rw [HKn.out];simp),HMn.out⟩
theorem mark_n(L:List (Nat×Nat))(lo hi:Nat)(w0:World)(ok:LOk L lo hi w0):∀n,∀(p:Nat)(v:Value)(xs:List NetT)(w:World)(K:Int),RowL 4 (tN n) (NetQ w0 n) v xs L p→p+(xs.map (tN n)).sum≤L.length→MkL L p lo hi w0 w→K=1+(p:Int)→Calls Tryz.prog 52 #[v,.int .i64 K] w fun e w'=>e=.returned (.int .i64 (1+((p+(xs.map (tN n)).sum:Nat):Int)))∧MkL L (p+(xs.map (tN n)).sum) lo hi w0 w'
 | 0=>mark_n1 L lo hi w0 ok 0 fun r h=>by omega
 | n+1=>mark_n1 L lo hi w0 ok (n+1) fun r h=>by cases h;exact mark_n L lo hi w0 ok n
set_option maxRecDepth 10000 in
theorem held_n1(L:List (Nat×Nat))(lo hi:Nat)(w0:World)(ok:LOk L lo hi w0)(n:Nat)(ih:∀r,n=r+1→∀(p:Nat)(v:Value)(xs:List NetT)(w:World)(K:Int),RowL 4 (tN r) (NetQ w0 r) v xs L p→p+(xs.map (tN r)).sum≤L.length→MkL L L.length lo hi w0 w→K=1+(p:Int)→Calls Tryz.prog 55 #[v,.int .i64 K] w fun e w'=>e=.returned (.int .i64 (1+((p+(xs.map (tN r)).sum:Nat):Int)))∧w'=w):∀(p:Nat)(v:Value)(xs:List NetT)(w:World)(K:Int),RowL 4 (tN n) (NetQ w0 n) v xs L p→p+(xs.map (tN n)).sum≤L.length→MkL L L.length lo hi w0 w→K=1+(p:Int)→Calls Tryz.prog 55 #[v,.int .i64 K] w fun e w'=>e=.returned (.int .i64 (1+((p+(xs.map (tN n)).sum:Nat):Int)))∧w'=w:=by
 intro p v xs w K hv hp hM hK
 have hpl:=ok.len
 have HOk:Hid (LOk L lo hi w0):=ok
 have HIH0:Hid (∀r,n=r+1→∀(p:Nat)(v:Value)(xs:List NetT)(w:World)(K:Int),RowL 4 (tN r) (NetQ w0 r) v xs L p→p+(xs.map (tN r)).sum≤L.length→MkL L L.length lo hi w0 w→K=1+(p:Int)→Calls Tryz.prog 55 #[v,.int .i64 K] w fun e w'=>e=.returned (.int .i64 (1+((p+(xs.map (tN r)).sum:Nat):Int)))∧w'=w):=ih
 clear ih
 have HM0:Hid (MkL L L.length lo hi w0 w):=hM
 have hlen:=zjb hv (net_1 w0 n)
 obtain ⟨a,cp,rfl,hx⟩:=hv
 have HX:Hid (∀j x,xs[j]?=some x→∃b o,a=some ⟨b,o,none⟩∧(NetQ w0 n) b (o+j*4) x L (p+pt (tN n) xs j)):=hx
 have HLe:Hid (∀j,pt (tN n) xs j≤(xs.map (tN n)).sum):=fun j=>pt_le _ xs j
 have HAll:Hid (pt (tN n) xs xs.length=(xs.map (tN n)).sum∧p+(xs.map (tN n)).sum≤L.length∧L.length≤4000000):=⟨zja _ xs,hp,hpl⟩
 obtain ⟨len,HL⟩:∃len,Hid (len=xs.length):=⟨_,rfl⟩
 rw [←HL.out] at hlen ⊢
 have hlen4:len≤4000000:=by omega
 have hK0:0≤K:=by omega
 have hK1:K≤5000000:=by omega
 have HK0:Hid (K=1+(p:Int)):=hK
 clear ok hM hx hK hp hpl hlen
 go_enter Tryz.func55,Tryz.ntmps55
 go_wp2
 go_loopg [1,5] len (fun gg k i wr=>∃(m:Nat)(K:Int),m+gg=len∧i=.int .i64 m∧k=.int .i64 K∧Hid (K=1+((p+pt (tN n) xs m:Nat):Int))∧0≤K∧K≤5000000∧wr=w)
 case atStart=>exact ⟨0,K,by omega,rfl,rfl,(by rw [HK0.out];simp [pt]:K=1+((p+pt (tN n) xs 0:Nat):Int)),hK0,hK1,rfl⟩
 case round =>
  clear HK0 hK0 hK1
  obtain ⟨m,K,hm,rfl,rfl,HK,hK0,hK1,rfl⟩:=hrel
  by_cases hlt:m<len
  ·have i1:(m:Int)<(len:Int):=by omega
   have i2:(0:Int)≤(m:Int):=by omega
   obtain ⟨x,hxn⟩:∃x,xs[m]?=some x:=⟨_,List.getElem?_eq_getElem (by have:=HL.out;omega)⟩
   obtain ⟨b,o,rfl,hq⟩:=HX.out m x hxn
   have hnx:=zfp (t:=tN n) hxn
   have hle:=HLe.out (m+1)
   have hal:=HAll.out
   obtain ⟨pp,HPP⟩:∃q,Hid (q=p+pt (tN n) xs m):=⟨_,rfl⟩
   have hpp:=HPP.out
   rw [←hpp] at hq HK
   clear HX
   obtain ⟨n',hn⟩:∃n',n=n'+1:=by cases n with|zero=>exact hq.elim|succ n'=>exact ⟨n',rfl⟩
   have HIH:Hid (∀(p:Nat)(v:Value)(xs:List NetT)(w:World)(K:Int),RowL 4 (tN n') (NetQ w0 n') v xs L p→p+(xs.map (tN n')).sum≤L.length→MkL L L.length lo hi w0 w→K=1+(p:Int)→Calls Tryz.prog 55 #[v,.int .i64 K] w fun e w'=>e=.returned (.int .i64 (1+((p+(xs.map (tN n')).sum:Nat):Int)))∧w'=w):=HIH0.out n' hn
   obtain ⟨k0,e0,kids⟩:=x
   have ht:tN n (.mk k0 e0 kids)=1+(1+(e0.args.length*3+(kids.map (tN n')).sum)):=by rw [hn];rfl
   rw [ht] at hnx
   have hq2:NetQ w0 (n'+1) b (o+m*4) (.mk k0 e0 kids) L pp:=by rw [←hn];exact hq
   clear hq ht hn HIH0
   obtain ⟨s,s',⟨q0,q1,q2,q3⟩,l0,l1,hA,hR⟩:=hq2
   obtain ⟨ua,uc,e,_⟩:=id hA
   obtain ⟨va,vc,e',_⟩:=id hR
   subst e
   subst e'
   obtain ⟨n1,Hn1⟩:∃l,Hid (l=e0.args.length):=⟨_,rfl⟩
   obtain ⟨n2,Hn2⟩:∃l,Hid (l=kids.length):=⟨_,rfl⟩
   obtain ⟨s2,Hs2⟩:∃l,Hid (l=(kids.map (tN n')).sum):=⟨_,rfl⟩
   rw [←Hn1.out] at hnx q2 hA hR
   rw [←Hn2.out] at q3 hR
   rw [←Hs2.out] at hnx
   have HR:Hid (RowL 4 (tN n') (NetQ w0 n') (.slice va n2 vc) kids L (pp+1+1+n1*3)):=hR
   have HQ3:Hid (w0.cell? ⟨b,o+m*4+3,none⟩=some (.slice va n2 vc)):=q3
   clear hR q3
   have HB:Hid (pp+1+1+n1*3+s2=p+pt (tN n) xs (m+1)∧pp+1+1+n1*3+s2≤L.length∧L.length≤4000000):=⟨by omega,by omega,hal.2.2⟩
   clear hnx hle hal hpp HPP
   have hB:=HB.out
   have c0:wr.cell? ⟨b,o+m*4,none⟩=some (.int .i64 (K)):=by
    have h:=HM0.out.at' _ _ (by omega) l0
    rw [show K=1+((pp:Nat):Int) by have:=HK.out;omega]
    exact h
   have c1:wr.cell? ⟨b,o+m*4+1,none⟩=some (.int .i64 (K+1)):=by
    have h:=HM0.out.at' _ _ (by omega) l1
    rw [show K+1=1+((pp+1:Nat):Int) by have:=HK.out;omega]
    exact h
   have d0:=HM0.out.wm.cell b (o+m*4+1+1) _ q2 (by simp)
   have HCl0:Hid (Calls Tryz.prog 54 #[.slice ua n1 uc,.int .i64 (K+1+1)] wr fun e w'=>e=.returned (.int .i64 (1+((pp+1+1+n1*3:Nat):Int)))∧w'=wr):=held_a L (pp+1+1) lo hi n1 _ w0 _ (by omega) hA (by omega) HM0.out (K+1+1) (by have:=HK.out;omega)
   obtain ⟨K2,HK2⟩:∃q,Hid (q=1+((pp+1+1+n1*3:Nat):Int)):=⟨_,rfl⟩
   rw [←HK2.out] at HCl0
   have hK20:0≤K2:=by have:=HK2.out;omega
   have hK21:K2≤5000000:=by have:=HK2.out;omega
   have nn0:¬(K2<0):=by omega
   clear hB l0 l1 q0 q1 q2 hA
   go_wp2_with fail
   refine HCl0.out.mono ?_
   rintro e w5 ⟨rfl,rfl⟩
   clear HCl0 d0 c0 c1
   have hB:=HB.out
   have d1:=HM0.out.wm.cell b (o+m*4+3) _ HQ3.out (by simp)
   have HCl1:Hid (Calls Tryz.prog 55 #[.slice va n2 vc,.int .i64 (K2)] w5 fun e w'=>e=.returned (.int .i64 (1+((pp+1+1+n1*3+s2:Nat):Int)))∧w'=w5):=(by have h:=HIH.out (pp+1+1+n1*3) _ kids w5 (K2) HR.out (by rw [←Hs2.out];omega) HM0.out (by have:=HK2.out;omega);rw [←Hs2.out] at h;exact h)
   obtain ⟨K3,HK3⟩:∃q,Hid (q=1+((pp+1+1+n1*3+s2:Nat):Int)):=⟨_,rfl⟩
   rw [←HK3.out] at HCl1
   have hK30:0≤K3:=by have:=HK3.out;omega
   have hK31:K3≤5000000:=by have:=HK3.out;omega
   have nn1:¬(K3<0):=by omega
   have HKE:Hid (K3=1+((p+pt (tN n) xs (m+1):Nat):Int)):=(by have:=HK3.out;omega:K3=1+((p+pt (tN n) xs (m+1):Nat):Int))
   clear hB
   go_wp2_with fail
   refine HCl1.out.mono ?_
   rintro e w6 ⟨rfl,rfl⟩
   clear HCl1 d1 
   go_wp2
   go_roundg (gk-1)
   case measure=>omega
   case rel=>exact ⟨m+1,K3,by omega,by go_num,rfl,HKE,hK30,hK31,rfl⟩
  ·have i1:¬((m:Int)<(len:Int)):=by omega
   have hqn:m=xs.length:=by have:=HL.out;omega
   have HKn:Hid (K=1+((p+(xs.map (tN n)).sum:Nat):Int)):=(by rw [←HAll.out.1,←hqn];exact HK.out:K=1+((p+(xs.map (tN n)).sum:Nat):Int))
   clear hqn HK
   go_wp2
   go_ret
   exact ⟨(by show Ending.returned (.int .i64 K)=_;rw [HKn.out];simp),rfl⟩
theorem held_n(L:List (Nat×Nat))(lo hi:Nat)(w0:World)(ok:LOk L lo hi w0):∀n,∀(p:Nat)(v:Value)(xs:List NetT)(w:World)(K:Int),RowL 4 (tN n) (NetQ w0 n) v xs L p→p+(xs.map (tN n)).sum≤L.length→MkL L L.length lo hi w0 w→K=1+(p:Int)→Calls Tryz.prog 55 #[v,.int .i64 K] w fun e w'=>e=.returned (.int .i64 (1+((p+(xs.map (tN n)).sum:Nat):Int)))∧w'=w
 | 0=>held_n1 L lo hi w0 ok 0 fun r h=>by omega
 | n+1=>held_n1 L lo hi w0 ok (n+1) fun r h=>by cases h;exact held_n L lo hi w0 ok n
end Go.Proofs.YtllmabgollkigaaGreatDoor
