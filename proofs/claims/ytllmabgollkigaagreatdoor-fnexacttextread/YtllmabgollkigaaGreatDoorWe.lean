/- The program's reader of a line: an element. -/
import Derived.Test.YtllmabgollkigaaGreatDoorWd
import Derived.Test.YtllmabgollkigaaGreatDoorJl
import Derived.Maps.Range
set_option maxHeartbeats 4000000
namespace Go.Proofs.YtllmabgollkigaaGreatDoor
open Go.RowKit Go.Maps
set_option linter.unusedVariables false
def ElI(W:World)(rb g cap mb:Nat)(L:List ByteArray)(k:Nat)(q:Int→Bool)(e:Ending)(w':World):Prop :=
 (∃(op:Int)(xs:List Arg)(b c:Nat),k<L.length∧IsEl (wAt L k) op xs∧q op=true∧e=.returned (.tuple #[.agg #[.int .i64 op,.slice (some ⟨b,0,none⟩) xs.length c],.bool true])∧OpsOwn w' W.heap.size b c xs∧RdI w' rb g cap mb L (k+1)∧W.grownBy w' (some rb)) ∨
 ((∀op xs,k<L.length→IsEl (wAt L k) op xs→q op=false)∧e=.returned (.tuple #[.agg #[.int .i64 0,.slice none 0 0],.bool false])∧RdI w' rb g cap mb L k∧W.grownBy w' (some rb))
theorem zad{W w':World}(h:Below W.heap.size W w')(row:Option Nat):W.grownBy w' row:=⟨h.os,h.tape,h.output,h.size,fun i hi _=>h.block i hi⟩
theorem zcj(w:World)(b:Nat)(u v:Value):w.grownBy ((w.setCell ⟨b,0,none⟩ u).setCell ⟨b,1,none⟩ v) (some b) :=
 Lib.Hx.grownBy_set (b:=b) (Lib.Hx.grownBy_set (b:=b) (World.grownBy.refl w _) ⟨b,0,none⟩ rfl u) ⟨b,1,none⟩ rfl v
theorem elem_fin{W w3:World}{rb g cap mb k:Nat}{L:List ByteArray}{op:Int}{xs:List Arg}{b c:Nat}(H3:RdI w3 rb g cap mb L k)(hk:k<L.length)(B3:Below W.heap.size W w3)(E:E2 w3 W.heap.size (.int .i64 0) (.slice none 0 0))
  (HO:OpsOwn w3 (W.heap.size+1) b c xs) (h1:rb<W.heap.size) (h2:g<W.heap.size) (h3:mb<W.heap.size) {o' c':Nat} (ho:k+1<cap→o'=k+1) (hc:c'=cap-k-1) :
  E2 (((w3.setCell ⟨rb,1,none⟩ (.slice (some ⟨g,o',none⟩) (L.length-k-1) c')).setCell ⟨W.heap.size,0,none⟩ (.int .i64 op)).setCell ⟨W.heap.size,1,none⟩ (.slice (some ⟨b,0,none⟩) xs.length c)) W.heap.size (.int .i64 op) (.slice (some ⟨b,0,none⟩) xs.length c) ∧
  OpsOwn (((w3.setCell ⟨rb,1,none⟩ (.slice (some ⟨g,o',none⟩) (L.length-k-1) c')).setCell ⟨W.heap.size,0,none⟩ (.int .i64 op)).setCell ⟨W.heap.size,1,none⟩ (.slice (some ⟨b,0,none⟩) xs.length c)) W.heap.size b c xs ∧
  RdI (((w3.setCell ⟨rb,1,none⟩ (.slice (some ⟨g,o',none⟩) (L.length-k-1) c')).setCell ⟨W.heap.size,0,none⟩ (.int .i64 op)).setCell ⟨W.heap.size,1,none⟩ (.slice (some ⟨b,0,none⟩) xs.length c)) rb g cap mb L (k+1) ∧
  W.grownBy (((w3.setCell ⟨rb,1,none⟩ (.slice (some ⟨g,o',none⟩) (L.length-k-1) c')).setCell ⟨W.heap.size,0,none⟩ (.int .i64 op)).setCell ⟨W.heap.size,1,none⟩ (.slice (some ⟨b,0,none⟩) xs.length c)) (some rb):=by
 have hb:=HO.lt b rfl
 refine ⟨(E.other rb 1 (by omega) _).put _ _,zai (zai (zai (HO.base (by omega)) rb 1 (by omega) _) _ 0 (by omega) _) _ 1 (by omega) _,?_,?_⟩
 ·exact (H3.put hk ho hc).move (zcj _ W.heap.size _ _) (by simp;omega) (by simp;omega) (by simp;omega)
 ·exact ((zad B3 (some rb)).andThen (row':=some rb) (Lib.Hx.grownBy_set (b:=rb) (World.grownBy.refl w3 _) ⟨rb,1,none⟩ rfl _) (fun j hj=>.inr hj)).andThen (row':=some W.heap.size) (zcj _ W.heap.size _ _) (fun j hj=>.inl (by simp at hj;omega))
set_option maxRecDepth 10000 in
theorem elem_over(W:World)(rb g cap mb k:Nat)(L:List ByteArray)(h:RdI W rb g cap mb L k)(fid:Nat)(eg:∀args w,(callFunc fid args).run Tryz.prog w=.ok (.enter fid args) w)(q:Int→Bool)(hT:Tabs W)(hM:ML W)(hH:EH W)(hL:∀x∈L,x.size≤1048576)
  (HF:Hid (∀W',Below W.heap.size W W'→∀(op:Int)(xs:List Arg)(b c:Nat),Ops W' b 0 xs→Calls Tryz.prog fid #[.agg #[.int .i64 op,.slice (some ⟨b,0,none⟩) xs.length c]] W' fun e w'=>e=.returned (.bool (q op&&rtk op xs))∧Below W'.heap.size W' w')) (hk:¬ k<L.length) :
  Calls Tryz.prog 155 #[.pointer (some ⟨rb,0,none⟩),.func (.func fid) #[] #[]] W fun e w'=>ElI W rb g cap mb L k q e w':=by
 have B0:Below W.heap.size W (W.alloc (.cells #[.int .i64 0,.slice none 0 0] 50)):=(Below.refl _ W).alloc (Nat.le_refl _) _
 have H0:RdI (W.alloc (.cells #[.int .i64 0,.slice none 0 0] 50)) rb g cap mb L k:=h.move (zad B0 none) (by simp) (by simp) (by simp)
 have HH0:Hid (RdI (W.alloc (.cells #[.int .i64 0,.slice none 0 0] 50)) rb g cap mb L k):=H0
 obtain ⟨c0,o,ho,c1⟩:=H0.cells
 have E0:=E2.fresh W (.int .i64 0) (.slice none 0 0) 50
 have HE0:Hid (E2 (W.alloc (.cells #[.int .i64 0,.slice none 0 0] 50)) W.heap.size (.int .i64 0) (.slice none 0 0)):=E0
 have hrb:=h.lt
 have b1:(((L.length-k:Nat):Int)==0)=true:=by rw [beq_iff_eq];omega
 have HN:Hid (∀op' xs',k<L.length→IsEl (wAt L k) op' xs'→q op'=false):=fun _ _ h'=>absurd h' hk
 have HG:Hid (W.grownBy (W.alloc (.cells #[.int .i64 0,.slice none 0 0] 50)) (some rb)):=World.grownBy_alloc W _ (some rb)
 obtain ⟨a0,a1,f0,f1⟩:=E0
 clear ho hT hM hH hL H0 HE0 h B0
 go_enter Tryz.func155,Tryz.ntmps155
 go_wp2
 exact bodyPost_ret (v:=.tuple #[.agg #[.int .i64 0,.slice none 0 0],.bool false]) (by simp [results,Tryz.results155,go_sem]) rfl (.inr ⟨HN.out,rfl,HH0.out,HG.out⟩)
set_option maxRecDepth 10000 in
theorem elem_bad(W:World)(rb g cap mb k:Nat)(L:List ByteArray)(h:RdI W rb g cap mb L k)(fid:Nat)(eg:∀args w,(callFunc fid args).run Tryz.prog w=.ok (.enter fid args) w)(q:Int→Bool)(hT:Tabs W)(hM:ML W)(hH:EH W)(hL:∀x∈L,x.size≤1048576)
  (HF:Hid (∀W',Below W.heap.size W W'→∀(op:Int)(xs:List Arg)(b c:Nat),Ops W' b 0 xs→Calls Tryz.prog fid #[.agg #[.int .i64 op,.slice (some ⟨b,0,none⟩) xs.length c]] W' fun e w'=>e=.returned (.bool (q op&&rtk op xs))∧Below W'.heap.size W' w')) (hk:k<L.length) (hX:∀op xs,¬ IsEl L[k] op xs) :
  Calls Tryz.prog 155 #[.pointer (some ⟨rb,0,none⟩),.func (.func fid) #[] #[]] W fun e w'=>ElI W rb g cap mb L k q e w':=by
 have B0:Below W.heap.size W (W.alloc (.cells #[.int .i64 0,.slice none 0 0] 50)):=(Below.refl _ W).alloc (Nat.le_refl _) _
 have H0:RdI (W.alloc (.cells #[.int .i64 0,.slice none 0 0] 50)) rb g cap mb L k:=h.move (zad B0 none) (by simp) (by simp) (by simp)
 have HH0:Hid (RdI (W.alloc (.cells #[.int .i64 0,.slice none 0 0] 50)) rb g cap mb L k):=H0
 obtain ⟨c0,o,ho,c1⟩:=H0.cells
 have E0:=E2.fresh W (.int .i64 0) (.slice none 0 0) 50
 have HE0:Hid (E2 (W.alloc (.cells #[.int .i64 0,.slice none 0 0] 50)) W.heap.size (.int .i64 0) (.slice none 0 0)):=E0
 have hrb:=h.lt
 have ho1:=ho hk
 rw [ho1] at c1
 clear ho ho1
 have b1:(((L.length-k:Nat):Int)==0)=false:=by rw [beq_eq_false_iff_ne];omega
 have hpos:0<L.length-k:=by omega
 have hx:L[k]?=some L[k]:=List.getElem?_eq_getElem hk
 have cx:=H0.2.1 k _ hx
 have HWd:Hid (wAt L k=L[k]):=by show wAt L k=L[k];unfold wAt;rw [hx];rfl
 have HXs:Hid (L[k].size≤1048576):=hL _ (List.getElem_mem hk)
 have HB0:Hid (Below W.heap.size W (W.alloc (.cells #[.int .i64 0,.slice none 0 0] 50))):=B0
 have HTT:Hid (Tabs W∧ML W∧EH W):=⟨hT,hM,hH⟩
 have HR:Hid (RdI W rb g cap mb L k):=h
 clear hx H0 hL E0 hT hM hH B0 h
 go_enter Tryz.func155,Tryz.ntmps155
 go_wp2_with fail
 refine (eread_i L[k] _ (HTT.out.1.later HB0.out) (HTT.out.2.1.later HB0.out) (HTT.out.2.2.later HB0.out) HXs.out).mono ?_
 intro e w1 hE
 have hsz0:(W.alloc (.cells #[.int .i64 0,.slice none 0 0] 50)).heap.size=W.heap.size+1:=by simp
 have hgl:g<W.heap.size:=by
  have:=HR.out.2.1 k _ (List.getElem?_eq_getElem hk)
  exact World.block_lt_of_cell? _ _ this
 have hml:mb<W.heap.size:=HR.out.2.2.1.lt
 rcases hE with ⟨op,xs,b,c,hI,rfl,hO,g1⟩|⟨hno,rfl,g1⟩
 ·exact absurd hI (hX op xs)
 have B1:Below W.heap.size W w1:=HB0.out.trans (g1.mono HB0.out.size)
 have E1:=HE0.out.later g1
 have H1:=HH0.out.move (zad g1 none) (by simp) (by simp) (by simp)
 have HN:Hid (∀op' xs',k<L.length→IsEl (wAt L k) op' xs'→q op'=false):=by
  intro op' xs' _ h'
  rw [HWd.out] at h'
  exact absurd h' (hno op' xs')
 have E2a:=E1.alloc (.cells #[.int .i64 0,.slice none 0 0] 50)
 have H2:RdI (w1.alloc (.cells #[.int .i64 0,.slice none 0 0] 50)) rb g cap mb L k:=H1.move (World.grownBy_alloc w1 _ none) (by simp) (by simp) (by simp)
 have B2:=B1.alloc B1.size (.cells #[.int .i64 0,.slice none 0 0] 50)
 have HP:Hid (RdI (((w1.alloc (.cells #[.int .i64 0,.slice none 0 0] 50)).setCell ⟨W.heap.size,0,none⟩ (.int .i64 0)).setCell ⟨W.heap.size,1,none⟩ (.slice none 0 0)) rb g cap mb L k) :=
  H2.move (row:=some W.heap.size) (zcj _ W.heap.size _ _) (by simp;omega) (by simp;omega) (by simp;omega)
 have HG:Hid (W.grownBy (((w1.alloc (.cells #[.int .i64 0,.slice none 0 0] 50)).setCell ⟨W.heap.size,0,none⟩ (.int .i64 0)).setCell ⟨W.heap.size,1,none⟩ (.slice none 0 0)) (some rb)) :=
  (zad B2 (some rb)).andThen (row':=some W.heap.size) (zcj _ W.heap.size _ _) (fun j hj=>.inl (by simp at hj;omega))
 obtain ⟨q0,q1,_,_⟩:=E2a.put (.int .i64 0) (.slice none 0 0)
 obtain ⟨a0,a1,f0,f1⟩:=E2a
 clear hno g1 B1 B2 E1 H1 H2 HE0 HH0 c0 c1 cx
 go_wp2
 exact bodyPost_ret (v:=.tuple #[.agg #[.int .i64 0,.slice none 0 0],.bool false]) (by simp [results,Tryz.results155,go_sem,q0,q1]) rfl (.inr ⟨HN.out,rfl,HP.out,HG.out⟩)
set_option maxRecDepth 10000 in
theorem elem_unfit(W:World)(rb g cap mb k:Nat)(L:List ByteArray)(h:RdI W rb g cap mb L k)(fid:Nat)(eg:∀args w,(callFunc fid args).run Tryz.prog w=.ok (.enter fid args) w)(q:Int→Bool)(hT:Tabs W)(hM:ML W)(hH:EH W)(hL:∀x∈L,x.size≤1048576)
  (HF:Hid (∀W',Below W.heap.size W W'→∀(op:Int)(xs:List Arg)(b c:Nat),Ops W' b 0 xs→Calls Tryz.prog fid #[.agg #[.int .i64 op,.slice (some ⟨b,0,none⟩) xs.length c]] W' fun e w'=>e=.returned (.bool (q op&&rtk op xs))∧Below W'.heap.size W' w')) (hk:k<L.length) (op:Int) (xs:List Arg) (hX:IsEl L[k] op xs) (hq:¬ q op=true) :
  Calls Tryz.prog 155 #[.pointer (some ⟨rb,0,none⟩),.func (.func fid) #[] #[]] W fun e w'=>ElI W rb g cap mb L k q e w':=by
 have B0:Below W.heap.size W (W.alloc (.cells #[.int .i64 0,.slice none 0 0] 50)):=(Below.refl _ W).alloc (Nat.le_refl _) _
 have H0:RdI (W.alloc (.cells #[.int .i64 0,.slice none 0 0] 50)) rb g cap mb L k:=h.move (zad B0 none) (by simp) (by simp) (by simp)
 have HH0:Hid (RdI (W.alloc (.cells #[.int .i64 0,.slice none 0 0] 50)) rb g cap mb L k):=H0
 obtain ⟨c0,o,ho,c1⟩:=H0.cells
 have E0:=E2.fresh W (.int .i64 0) (.slice none 0 0) 50
 have HE0:Hid (E2 (W.alloc (.cells #[.int .i64 0,.slice none 0 0] 50)) W.heap.size (.int .i64 0) (.slice none 0 0)):=E0
 have hrb:=h.lt
 have ho1:=ho hk
 rw [ho1] at c1
 clear ho ho1
 have b1:(((L.length-k:Nat):Int)==0)=false:=by rw [beq_eq_false_iff_ne];omega
 have hpos:0<L.length-k:=by omega
 have hx:L[k]?=some L[k]:=List.getElem?_eq_getElem hk
 have cx:=H0.2.1 k _ hx
 have HWd:Hid (wAt L k=L[k]):=by show wAt L k=L[k];unfold wAt;rw [hx];rfl
 have HXs:Hid (L[k].size≤1048576):=hL _ (List.getElem_mem hk)
 have HB0:Hid (Below W.heap.size W (W.alloc (.cells #[.int .i64 0,.slice none 0 0] 50))):=B0
 have HTT:Hid (Tabs W∧ML W∧EH W):=⟨hT,hM,hH⟩
 have HR:Hid (RdI W rb g cap mb L k):=h
 clear hx H0 hL E0 hT hM hH B0 h
 go_enter Tryz.func155,Tryz.ntmps155
 go_wp2_with fail
 refine (eread_i L[k] _ (HTT.out.1.later HB0.out) (HTT.out.2.1.later HB0.out) (HTT.out.2.2.later HB0.out) HXs.out).mono ?_
 intro e w1 hE
 have hsz0:(W.alloc (.cells #[.int .i64 0,.slice none 0 0] 50)).heap.size=W.heap.size+1:=by simp
 have hgl:g<W.heap.size:=by
  have:=HR.out.2.1 k _ (List.getElem?_eq_getElem hk)
  exact World.block_lt_of_cell? _ _ this
 have hml:mb<W.heap.size:=HR.out.2.2.1.lt
 rcases hE with ⟨op',xs',b,c,hI,rfl,hO,g1⟩|⟨hno,rfl,g1⟩
 rotate_left
 ·exact absurd hX (hno op xs)
 obtain ⟨rfl,rfl⟩:=zer hX.1 hI.1 (hX.2.trans hI.2.symm)
 clear hX
 have HI:Hid (IsEl L[k] op xs):=hI
 have hrt:rtk op xs=true:=hI.1
 have hbl:=hO.lt b rfl
 have B1:Below W.heap.size W w1:=HB0.out.trans (g1.mono HB0.out.size)
 have E1:=HE0.out.later g1
 have H1:=HH0.out.move (zad g1 none) (by simp) (by simp) (by simp)
 have HO2:Hid (OpsOwn (w1.alloc (.cells #[.int .i64 op,.slice (some ⟨b,0,none⟩) xs.length c] 50)) (W.heap.size+1) b c xs):=by rw [hsz0] at hO;exact World.ownsRow.alloc hO _
 have B2:Hid (Below W.heap.size W (w1.alloc (.cells #[.int .i64 op,.slice (some ⟨b,0,none⟩) xs.length c] 50))):=B1.alloc B1.size _
 have E2a:Hid (E2 (w1.alloc (.cells #[.int .i64 op,.slice (some ⟨b,0,none⟩) xs.length c] 50)) W.heap.size (.int .i64 0) (.slice none 0 0)):=E1.alloc _
 have E2b:Hid (E2 (w1.alloc (.cells #[.int .i64 op,.slice (some ⟨b,0,none⟩) xs.length c] 50)) w1.heap.size (.int .i64 op) (.slice (some ⟨b,0,none⟩) xs.length c)):=E2.fresh w1 _ _ 50
 have H2:Hid (RdI (w1.alloc (.cells #[.int .i64 op,.slice (some ⟨b,0,none⟩) xs.length c] 50)) rb g cap mb L k):=H1.move (World.grownBy_alloc w1 _ none) (by simp) (by simp) (by simp)
 obtain ⟨d0,d1,_,_⟩:=E2b.out
 have hw1:=B1.size
 clear hI hO g1 B1 E1 H1
 go_wp2_with fail
 refine (HF.out _ B2.out op xs b c HO2.out.ops).mono ?_
 rintro e w3 ⟨rfl,g3⟩
 have hsz2:(w1.alloc (.cells #[.int .i64 op,.slice (some ⟨b,0,none⟩) xs.length c] 50)).heap.size=w1.heap.size+1:=by simp
 have B3:Hid (Below W.heap.size W w3):=B2.out.trans (g3.mono B2.out.size)
 have H3:Hid (RdI w3 rb g cap mb L k):=H2.out.move (zad g3 none) (by simp) (by simp) (by simp)
 have HO3:Hid (OpsOwn w3 (W.heap.size+1) b c xs):=HO2.out.later g3
 have E3a:Hid (E2 w3 W.heap.size (.int .i64 0) (.slice none 0 0)):=E2a.out.later g3
 have E3b:Hid (E2 w3 w1.heap.size (.int .i64 op) (.slice (some ⟨b,0,none⟩) xs.length c)):=E2b.out.later g3
 obtain ⟨d0,d1,_,_⟩:=E3b.out
 obtain ⟨a0,a1,f0,f1⟩:=E3a.out
 obtain ⟨r0,o3,ho3,r1⟩:=H3.out.cells
 have fz:=H3.out.free 1
 have ho1:=ho3 hk
 rw [ho1] at r1
 clear ho3 ho1 c0 c1 cx H2 HO2 E2a E2b B2 g3 HE0 HH0 HB0
 have v1:(q op&&rtk op xs)=false:=by simp at hq;rw [hq];rfl
 have HP:Hid (RdI ((w3.setCell ⟨W.heap.size,0,none⟩ (.int .i64 0)).setCell ⟨W.heap.size,1,none⟩ (.slice none 0 0)) rb g cap mb L k) :=
  H3.out.move (row:=some W.heap.size) (zcj w3 W.heap.size _ _) (by simp;omega) (by simp;omega) (by simp;omega)
 have HG:Hid (W.grownBy ((w3.setCell ⟨W.heap.size,0,none⟩ (.int .i64 0)).setCell ⟨W.heap.size,1,none⟩ (.slice none 0 0)) (some rb)) :=
  (zad B3.out (some rb)).andThen (row':=some W.heap.size) (zcj w3 W.heap.size _ _) (fun j hj=>.inl (by simp at hj;omega))
 have HN:Hid (∀op' xs',k<L.length→IsEl (wAt L k) op' xs'→q op'=false):=by
  intro op' xs' _ h'
  rw [HWd.out] at h'
  have h2:=zer HI.out.1 h'.1 (HI.out.2.trans h'.2.symm)
  rw [←h2.1]
  simpa using hq
 obtain ⟨q0,q1,_,_⟩:=E3a.out.put (.int .i64 0) (.slice none 0 0)
 clear hq hrt
 go_wp2
 exact bodyPost_ret (v:=.tuple #[.agg #[.int .i64 0,.slice none 0 0],.bool false]) (by simp [results,Tryz.results155,go_sem,q0,q1]) rfl (.inr ⟨HN.out,rfl,HP.out,HG.out⟩)
set_option maxRecDepth 10000 in
theorem elem_fit1(W:World)(rb g cap mb k:Nat)(L:List ByteArray)(h:RdI W rb g cap mb L k)(fid:Nat)(eg:∀args w,(callFunc fid args).run Tryz.prog w=.ok (.enter fid args) w)(q:Int→Bool)(hT:Tabs W)(hM:ML W)(hH:EH W)(hL:∀x∈L,x.size≤1048576)
  (HF:Hid (∀W',Below W.heap.size W W'→∀(op:Int)(xs:List Arg)(b c:Nat),Ops W' b 0 xs→Calls Tryz.prog fid #[.agg #[.int .i64 op,.slice (some ⟨b,0,none⟩) xs.length c]] W' fun e w'=>e=.returned (.bool (q op&&rtk op xs))∧Below W'.heap.size W' w')) (hk:k<L.length) (op:Int) (xs:List Arg) (hX:IsEl L[k] op xs) (hq:q op=true) (hc1:cap-k=1) :
  Calls Tryz.prog 155 #[.pointer (some ⟨rb,0,none⟩),.func (.func fid) #[] #[]] W fun e w'=>ElI W rb g cap mb L k q e w':=by
 have B0:Below W.heap.size W (W.alloc (.cells #[.int .i64 0,.slice none 0 0] 50)):=(Below.refl _ W).alloc (Nat.le_refl _) _
 have H0:RdI (W.alloc (.cells #[.int .i64 0,.slice none 0 0] 50)) rb g cap mb L k:=h.move (zad B0 none) (by simp) (by simp) (by simp)
 have HH0:Hid (RdI (W.alloc (.cells #[.int .i64 0,.slice none 0 0] 50)) rb g cap mb L k):=H0
 obtain ⟨c0,o,ho,c1⟩:=H0.cells
 have E0:=E2.fresh W (.int .i64 0) (.slice none 0 0) 50
 have HE0:Hid (E2 (W.alloc (.cells #[.int .i64 0,.slice none 0 0] 50)) W.heap.size (.int .i64 0) (.slice none 0 0)):=E0
 have hrb:=h.lt
 have ho1:=ho hk
 rw [ho1] at c1
 clear ho ho1
 have b1:(((L.length-k:Nat):Int)==0)=false:=by rw [beq_eq_false_iff_ne];omega
 have hpos:0<L.length-k:=by omega
 have hx:L[k]?=some L[k]:=List.getElem?_eq_getElem hk
 have cx:=H0.2.1 k _ hx
 have HWd:Hid (wAt L k=L[k]):=by show wAt L k=L[k];unfold wAt;rw [hx];rfl
 have HXs:Hid (L[k].size≤1048576):=hL _ (List.getElem_mem hk)
 have HB0:Hid (Below W.heap.size W (W.alloc (.cells #[.int .i64 0,.slice none 0 0] 50))):=B0
 have HTT:Hid (Tabs W∧ML W∧EH W):=⟨hT,hM,hH⟩
 have HR:Hid (RdI W rb g cap mb L k):=h
 clear hx H0 hL E0 hT hM hH B0 h
 go_enter Tryz.func155,Tryz.ntmps155
 go_wp2_with fail
 refine (eread_i L[k] _ (HTT.out.1.later HB0.out) (HTT.out.2.1.later HB0.out) (HTT.out.2.2.later HB0.out) HXs.out).mono ?_
 intro e w1 hE
 have hsz0:(W.alloc (.cells #[.int .i64 0,.slice none 0 0] 50)).heap.size=W.heap.size+1:=by simp
 have hgl:g<W.heap.size:=by
  have:=HR.out.2.1 k _ (List.getElem?_eq_getElem hk)
  exact World.block_lt_of_cell? _ _ this
 have hml:mb<W.heap.size:=HR.out.2.2.1.lt
 rcases hE with ⟨op',xs',b,c,hI,rfl,hO,g1⟩|⟨hno,rfl,g1⟩
 rotate_left
 ·exact absurd hX (hno op xs)
 obtain ⟨rfl,rfl⟩:=zer hX.1 hI.1 (hX.2.trans hI.2.symm)
 clear hX
 have HI:Hid (IsEl L[k] op xs):=hI
 have hrt:rtk op xs=true:=hI.1
 have hbl:=hO.lt b rfl
 have B1:Below W.heap.size W w1:=HB0.out.trans (g1.mono HB0.out.size)
 have E1:=HE0.out.later g1
 have H1:=HH0.out.move (zad g1 none) (by simp) (by simp) (by simp)
 have HO2:Hid (OpsOwn (w1.alloc (.cells #[.int .i64 op,.slice (some ⟨b,0,none⟩) xs.length c] 50)) (W.heap.size+1) b c xs):=by rw [hsz0] at hO;exact World.ownsRow.alloc hO _
 have B2:Hid (Below W.heap.size W (w1.alloc (.cells #[.int .i64 op,.slice (some ⟨b,0,none⟩) xs.length c] 50))):=B1.alloc B1.size _
 have E2a:Hid (E2 (w1.alloc (.cells #[.int .i64 op,.slice (some ⟨b,0,none⟩) xs.length c] 50)) W.heap.size (.int .i64 0) (.slice none 0 0)):=E1.alloc _
 have E2b:Hid (E2 (w1.alloc (.cells #[.int .i64 op,.slice (some ⟨b,0,none⟩) xs.length c] 50)) w1.heap.size (.int .i64 op) (.slice (some ⟨b,0,none⟩) xs.length c)):=E2.fresh w1 _ _ 50
 have H2:Hid (RdI (w1.alloc (.cells #[.int .i64 op,.slice (some ⟨b,0,none⟩) xs.length c] 50)) rb g cap mb L k):=H1.move (World.grownBy_alloc w1 _ none) (by simp) (by simp) (by simp)
 obtain ⟨d0,d1,_,_⟩:=E2b.out
 have hw1:=B1.size
 clear hI hO g1 B1 E1 H1
 go_wp2_with fail
 refine (HF.out _ B2.out op xs b c HO2.out.ops).mono ?_
 rintro e w3 ⟨rfl,g3⟩
 have hsz2:(w1.alloc (.cells #[.int .i64 op,.slice (some ⟨b,0,none⟩) xs.length c] 50)).heap.size=w1.heap.size+1:=by simp
 have B3:Hid (Below W.heap.size W w3):=B2.out.trans (g3.mono B2.out.size)
 have H3:Hid (RdI w3 rb g cap mb L k):=H2.out.move (zad g3 none) (by simp) (by simp) (by simp)
 have HO3:Hid (OpsOwn w3 (W.heap.size+1) b c xs):=HO2.out.later g3
 have E3a:Hid (E2 w3 W.heap.size (.int .i64 0) (.slice none 0 0)):=E2a.out.later g3
 have E3b:Hid (E2 w3 w1.heap.size (.int .i64 op) (.slice (some ⟨b,0,none⟩) xs.length c)):=E2b.out.later g3
 obtain ⟨d0,d1,_,_⟩:=E3b.out
 obtain ⟨a0,a1,f0,f1⟩:=E3a.out
 obtain ⟨r0,o3,ho3,r1⟩:=H3.out.cells
 have fz:=H3.out.free 1
 have ho1:=ho3 hk
 rw [ho1] at r1
 clear ho3 ho1 c0 c1 cx H2 HO2 E2a E2b B2 g3 HE0 HH0 HB0
 have v1:(q op&&rtk op xs)=true:=by rw [hq,hrt];rfl
 have HQ:Hid (q op=true):=hq
 have l1:(1:Int)≤((L.length-k:Nat):Int):=by omega
 have n1:rb≠w1.heap.size:=by omega
 have n2:rb≠W.heap.size:=by omega
 have n3:w1.heap.size≠rb:=by omega
 have n4:W.heap.size≠rb:=by omega
 have n5:w1.heap.size≠W.heap.size:=by have:=E3a.out.lt;omega
 clear hq hrt
 have HIw:Hid (IsEl (wAt L k) op xs):=by show IsEl (wAt L k) op xs;rw [HWd.out];exact HI.out
 have hcap:=H3.out.2.2.2.2.2.2.1
 have FIN:=elem_fin (op:=op) H3.out hk B3.out E3a.out HO3.out hrb hgl hml (o':=k) (c':=0) (by omega) (by omega)
 have HF4:Hid (OpsOwn (((w3.setCell ⟨rb,1,none⟩ (.slice (some ⟨g,k,none⟩) (L.length-k-1) 0)).setCell ⟨W.heap.size,0,none⟩ (.int .i64 op)).setCell ⟨W.heap.size,1,none⟩ (.slice (some ⟨b,0,none⟩) xs.length c)) W.heap.size b c xs∧RdI (((w3.setCell ⟨rb,1,none⟩ (.slice (some ⟨g,k,none⟩) (L.length-k-1) 0)).setCell ⟨W.heap.size,0,none⟩ (.int .i64 op)).setCell ⟨W.heap.size,1,none⟩ (.slice (some ⟨b,0,none⟩) xs.length c)) rb g cap mb L (k+1)∧W.grownBy (((w3.setCell ⟨rb,1,none⟩ (.slice (some ⟨g,k,none⟩) (L.length-k-1) 0)).setCell ⟨W.heap.size,0,none⟩ (.int .i64 op)).setCell ⟨W.heap.size,1,none⟩ (.slice (some ⟨b,0,none⟩) xs.length c)) (some rb)):=FIN.2
 obtain ⟨q0,q1,_,_⟩:=FIN.1
 clear FIN
 go_wp2
 exact bodyPost_ret (v:=.tuple #[.agg #[.int .i64 op,.slice (some ⟨b,0,none⟩) xs.length c],.bool true]) (by simp [results,Tryz.results155,go_sem,q0,q1]) rfl (.inl ⟨op,xs,b,c,hk,HIw.out,HQ.out,rfl,HF4.out⟩)
set_option maxRecDepth 10000 in
theorem elem_fit2(W:World)(rb g cap mb k:Nat)(L:List ByteArray)(h:RdI W rb g cap mb L k)(fid:Nat)(eg:∀args w,(callFunc fid args).run Tryz.prog w=.ok (.enter fid args) w)(q:Int→Bool)(hT:Tabs W)(hM:ML W)(hH:EH W)(hL:∀x∈L,x.size≤1048576)
  (HF:Hid (∀W',Below W.heap.size W W'→∀(op:Int)(xs:List Arg)(b c:Nat),Ops W' b 0 xs→Calls Tryz.prog fid #[.agg #[.int .i64 op,.slice (some ⟨b,0,none⟩) xs.length c]] W' fun e w'=>e=.returned (.bool (q op&&rtk op xs))∧Below W'.heap.size W' w')) (hk:k<L.length) (op:Int) (xs:List Arg) (hX:IsEl L[k] op xs) (hq:q op=true) (hc1:¬ cap-k=1) :
  Calls Tryz.prog 155 #[.pointer (some ⟨rb,0,none⟩),.func (.func fid) #[] #[]] W fun e w'=>ElI W rb g cap mb L k q e w':=by
 have B0:Below W.heap.size W (W.alloc (.cells #[.int .i64 0,.slice none 0 0] 50)):=(Below.refl _ W).alloc (Nat.le_refl _) _
 have H0:RdI (W.alloc (.cells #[.int .i64 0,.slice none 0 0] 50)) rb g cap mb L k:=h.move (zad B0 none) (by simp) (by simp) (by simp)
 have HH0:Hid (RdI (W.alloc (.cells #[.int .i64 0,.slice none 0 0] 50)) rb g cap mb L k):=H0
 obtain ⟨c0,o,ho,c1⟩:=H0.cells
 have E0:=E2.fresh W (.int .i64 0) (.slice none 0 0) 50
 have HE0:Hid (E2 (W.alloc (.cells #[.int .i64 0,.slice none 0 0] 50)) W.heap.size (.int .i64 0) (.slice none 0 0)):=E0
 have hrb:=h.lt
 have ho1:=ho hk
 rw [ho1] at c1
 clear ho ho1
 have b1:(((L.length-k:Nat):Int)==0)=false:=by rw [beq_eq_false_iff_ne];omega
 have hpos:0<L.length-k:=by omega
 have hx:L[k]?=some L[k]:=List.getElem?_eq_getElem hk
 have cx:=H0.2.1 k _ hx
 have HWd:Hid (wAt L k=L[k]):=by show wAt L k=L[k];unfold wAt;rw [hx];rfl
 have HXs:Hid (L[k].size≤1048576):=hL _ (List.getElem_mem hk)
 have HB0:Hid (Below W.heap.size W (W.alloc (.cells #[.int .i64 0,.slice none 0 0] 50))):=B0
 have HTT:Hid (Tabs W∧ML W∧EH W):=⟨hT,hM,hH⟩
 have HR:Hid (RdI W rb g cap mb L k):=h
 clear hx H0 hL E0 hT hM hH B0 h
 go_enter Tryz.func155,Tryz.ntmps155
 go_wp2_with fail
 refine (eread_i L[k] _ (HTT.out.1.later HB0.out) (HTT.out.2.1.later HB0.out) (HTT.out.2.2.later HB0.out) HXs.out).mono ?_
 intro e w1 hE
 have hsz0:(W.alloc (.cells #[.int .i64 0,.slice none 0 0] 50)).heap.size=W.heap.size+1:=by simp
 have hgl:g<W.heap.size:=by
  have:=HR.out.2.1 k _ (List.getElem?_eq_getElem hk)
  exact World.block_lt_of_cell? _ _ this
 have hml:mb<W.heap.size:=HR.out.2.2.1.lt
 rcases hE with ⟨op',xs',b,c,hI,rfl,hO,g1⟩|⟨hno,rfl,g1⟩
 rotate_left
 ·exact absurd hX (hno op xs)
 obtain ⟨rfl,rfl⟩:=zer hX.1 hI.1 (hX.2.trans hI.2.symm)
 clear hX
 have HI:Hid (IsEl L[k] op xs):=hI
 have hrt:rtk op xs=true:=hI.1
 have hbl:=hO.lt b rfl
 have B1:Below W.heap.size W w1:=HB0.out.trans (g1.mono HB0.out.size)
 have E1:=HE0.out.later g1
 have H1:=HH0.out.move (zad g1 none) (by simp) (by simp) (by simp)
 have HO2:Hid (OpsOwn (w1.alloc (.cells #[.int .i64 op,.slice (some ⟨b,0,none⟩) xs.length c] 50)) (W.heap.size+1) b c xs):=by rw [hsz0] at hO;exact World.ownsRow.alloc hO _
 have B2:Hid (Below W.heap.size W (w1.alloc (.cells #[.int .i64 op,.slice (some ⟨b,0,none⟩) xs.length c] 50))):=B1.alloc B1.size _
 have E2a:Hid (E2 (w1.alloc (.cells #[.int .i64 op,.slice (some ⟨b,0,none⟩) xs.length c] 50)) W.heap.size (.int .i64 0) (.slice none 0 0)):=E1.alloc _
 have E2b:Hid (E2 (w1.alloc (.cells #[.int .i64 op,.slice (some ⟨b,0,none⟩) xs.length c] 50)) w1.heap.size (.int .i64 op) (.slice (some ⟨b,0,none⟩) xs.length c)):=E2.fresh w1 _ _ 50
 have H2:Hid (RdI (w1.alloc (.cells #[.int .i64 op,.slice (some ⟨b,0,none⟩) xs.length c] 50)) rb g cap mb L k):=H1.move (World.grownBy_alloc w1 _ none) (by simp) (by simp) (by simp)
 obtain ⟨d0,d1,_,_⟩:=E2b.out
 have hw1:=B1.size
 clear hI hO g1 B1 E1 H1
 go_wp2_with fail
 refine (HF.out _ B2.out op xs b c HO2.out.ops).mono ?_
 rintro e w3 ⟨rfl,g3⟩
 have hsz2:(w1.alloc (.cells #[.int .i64 op,.slice (some ⟨b,0,none⟩) xs.length c] 50)).heap.size=w1.heap.size+1:=by simp
 have B3:Hid (Below W.heap.size W w3):=B2.out.trans (g3.mono B2.out.size)
 have H3:Hid (RdI w3 rb g cap mb L k):=H2.out.move (zad g3 none) (by simp) (by simp) (by simp)
 have HO3:Hid (OpsOwn w3 (W.heap.size+1) b c xs):=HO2.out.later g3
 have E3a:Hid (E2 w3 W.heap.size (.int .i64 0) (.slice none 0 0)):=E2a.out.later g3
 have E3b:Hid (E2 w3 w1.heap.size (.int .i64 op) (.slice (some ⟨b,0,none⟩) xs.length c)):=E2b.out.later g3
 obtain ⟨d0,d1,_,_⟩:=E3b.out
 obtain ⟨a0,a1,f0,f1⟩:=E3a.out
 obtain ⟨r0,o3,ho3,r1⟩:=H3.out.cells
 have fz:=H3.out.free 1
 have ho1:=ho3 hk
 rw [ho1] at r1
 clear ho3 ho1 c0 c1 cx H2 HO2 E2a E2b B2 g3 HE0 HH0 HB0
 have v1:(q op&&rtk op xs)=true:=by rw [hq,hrt];rfl
 have HQ:Hid (q op=true):=hq
 have l1:(1:Int)≤((L.length-k:Nat):Int):=by omega
 have n1:rb≠w1.heap.size:=by omega
 have n2:rb≠W.heap.size:=by omega
 have n3:w1.heap.size≠rb:=by omega
 have n4:W.heap.size≠rb:=by omega
 have n5:w1.heap.size≠W.heap.size:=by have:=E3a.out.lt;omega
 clear hq hrt
 have HIw:Hid (IsEl (wAt L k) op xs):=by show IsEl (wAt L k) op xs;rw [HWd.out];exact HI.out
 have hcap:=H3.out.2.2.2.2.2.2.1
 have FIN:=elem_fin (op:=op) H3.out hk B3.out E3a.out HO3.out hrb hgl hml (o':=(k+1)) (c':=(cap-k-1)) (by omega) (by omega)
 have HF4:Hid (OpsOwn (((w3.setCell ⟨rb,1,none⟩ (.slice (some ⟨g,(k+1),none⟩) (L.length-k-1) (cap-k-1))).setCell ⟨W.heap.size,0,none⟩ (.int .i64 op)).setCell ⟨W.heap.size,1,none⟩ (.slice (some ⟨b,0,none⟩) xs.length c)) W.heap.size b c xs∧RdI (((w3.setCell ⟨rb,1,none⟩ (.slice (some ⟨g,(k+1),none⟩) (L.length-k-1) (cap-k-1))).setCell ⟨W.heap.size,0,none⟩ (.int .i64 op)).setCell ⟨W.heap.size,1,none⟩ (.slice (some ⟨b,0,none⟩) xs.length c)) rb g cap mb L (k+1)∧W.grownBy (((w3.setCell ⟨rb,1,none⟩ (.slice (some ⟨g,(k+1),none⟩) (L.length-k-1) (cap-k-1))).setCell ⟨W.heap.size,0,none⟩ (.int .i64 op)).setCell ⟨W.heap.size,1,none⟩ (.slice (some ⟨b,0,none⟩) xs.length c)) (some rb)):=FIN.2
 obtain ⟨q0,q1,_,_⟩:=FIN.1
 clear FIN
 go_wp2
 exact bodyPost_ret (v:=.tuple #[.agg #[.int .i64 op,.slice (some ⟨b,0,none⟩) xs.length c],.bool true]) (by simp [results,Tryz.results155,go_sem,q0,q1]) rfl (.inl ⟨op,xs,b,c,hk,HIw.out,HQ.out,rfl,HF4.out⟩)
set_option maxRecDepth 10000 in
theorem elem_i(W:World)(rb g cap mb k:Nat)(L:List ByteArray)(h:RdI W rb g cap mb L k)(fid:Nat)(eg:∀args w,(callFunc fid args).run Tryz.prog w=.ok (.enter fid args) w)(q:Int→Bool)(hT:Tabs W)(hM:ML W)(hH:EH W)(hL:∀x∈L,x.size≤1048576)
  (HF:Hid (∀W',Below W.heap.size W W'→∀(op:Int)(xs:List Arg)(b c:Nat),Ops W' b 0 xs→Calls Tryz.prog fid #[.agg #[.int .i64 op,.slice (some ⟨b,0,none⟩) xs.length c]] W' fun e w'=>e=.returned (.bool (q op&&rtk op xs))∧Below W'.heap.size W' w')) :
  Calls Tryz.prog 155 #[.pointer (some ⟨rb,0,none⟩),.func (.func fid) #[] #[]] W fun e w'=>ElI W rb g cap mb L k q e w':=by
 by_cases hk:k<L.length
 ·by_cases hX:∃op xs,IsEl L[k] op xs
  ·obtain ⟨op,xs,hX⟩:=hX
   by_cases hq:q op=true
   ·by_cases hc1:cap-k=1
    ·exact elem_fit1 W rb g cap mb k L h fid eg q hT hM hH hL HF hk op xs hX hq hc1
    ·exact elem_fit2 W rb g cap mb k L h fid eg q hT hM hH hL HF hk op xs hX hq hc1
   ·exact elem_unfit W rb g cap mb k L h fid eg q hT hM hH hL HF hk op xs hX hq
  ·exact elem_bad W rb g cap mb k L h fid eg q hT hM hH hL HF hk (fun op xs h'=>hX ⟨op,xs,h'⟩)
 ·exact elem_over W rb g cap mb k L h fid eg q hT hM hH hL HF hk
end Go.Proofs.YtllmabgollkigaaGreatDoor
