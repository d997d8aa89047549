/- The specification's ElemRead. -/
import Derived.Test.YtllmabgollkigaaGreatDoorJm
import Derived.Test.YtllmabgollkigaaGreatDoorJl
set_option maxHeartbeats 4000000
namespace Go.Proofs.YtllmabgollkigaaGreatDoor
open Go.RowKit Go.Shelf Go.Lib
set_option linter.unusedVariables false
theorem etx_yes{s:ByteArray}{op:Int}{xs:List Arg}(hne:s.data.toList≠[])(h:etx op xs=s):IsEl s op xs:=by
 unfold etx at h
 split at h
 ·rename_i hr
  exact ⟨hr,by rw [←h]⟩
 ·exact absurd (by rw [←h]) hne
theorem etx_of{s:ByteArray}{op:Int}{xs:List Arg}(h:IsEl s op xs):etx op xs=s:=by
 unfold etx
 rw [if_pos h.1]
 apply ByteArray.ext
 rw [h.2]
theorem guess_of{s:ByteArray}{op:Int}{xs:List Arg}(h:IsEl s op xs):zbk s.data.toList=(op,xs):=by
 rw [←h.2]
 exact guess_etl h.1
theorem ziv(s:ByteArray)(w:World)(h:(s.toList==[])=true∨((s.toList==[])=false∧100<s.size)) :
  Calls Tryz.prog 81 #[.string s] w fun e w'=>e=.returned (.tuple #[.agg #[.int .i64 0,.slice none 0 0],.bool false])∧Below w.heap.size w w':=by
 rcases h with h|⟨h,h2⟩
 ·go_enter Tryz.func81,Tryz.ntmps81
  go_wp2
  go_returns
  exact ⟨rfl,by go_grown⟩
 ·have h3:(100:Int)<(s.size:Int):=by omega
  go_enter Tryz.func81,Tryz.ntmps81
  go_wp2
  go_returns
  exact ⟨rfl,by go_grown⟩
theorem eread_s(s:ByteArray)(w:World)(hs:s.size≤1048576) :
  Calls Tryz.prog 81 #[.string s] w fun e w'=>IsERead s w e w':=by
 by_cases h0:(s.toList==[])=true
 ·refine (ziv s w (.inl h0)).mono ?_
  rintro e w' ⟨rfl,hb⟩
  refine .inr ⟨fun op xs h=>?_,rfl,hb⟩
  have:=(etl_le h.1).2
  rw [h.2,←Lib.toList_data] at this
  exact this (eq_of_beq h0)
 have h1:(s.toList==[])=false:=by simpa using h0
 by_cases h100:100<s.size
 ·refine (ziv s w (.inr ⟨h1,h100⟩)).mono ?_
  rintro e w' ⟨rfl,hb⟩
  refine .inr ⟨fun op xs h=>?_,rfl,hb⟩
  have:=(etl_le h.1).1
  rw [h.2,←Lib.size_eq] at this
  omega
 have hne:s.data.toList≠[]:=by
  rw [←Lib.toList_data]
  intro e
  rw [e] at h1
  cases h1
 have h2:¬((100:Int)<(s.size:Int)):=by omega
 have HGs:Hid (∀W,Calls Tryz.prog 120 #[.string s] W fun e w'=>IsG (zbk s.data.toList) W e w'):=fun W=>guess_s s W hs
 have HN:Hid (∀op xs,IsEl s op xs→zbk s.data.toList=(op,xs)):=fun op xs h=>guess_of h
 have HNE:Hid (s.data.toList≠[]):=hne
 clear hne h0
 obtain ⟨op,xs,hr⟩:∃op xs,zbk s.data.toList=(op,xs):=⟨_,_,rfl⟩
 rw [hr] at HGs HN
 have B0:Below w.heap.size w (w.alloc (.cells #[.int .i64 0,.slice none 0 0] 50)):=(Below.refl _ w).alloc (Nat.le_refl _) _
 have sz0:(w.alloc (.cells #[.int .i64 0,.slice none 0 0] 50)).heap.size=w.heap.size+1:=by simp
 go_enter Tryz.func81,Tryz.ntmps81
 go_wp2_with fail
 refine (HGs.out _).mono ?_
 intro e w1 hG
 unfold IsG at hG
 rcases hG with ⟨g,cap,rfl,ho,g1⟩|⟨hx,rfl,g1⟩
 ·rw [sz0] at ho
  have hgl:=ho.lt g rfl
  have HO:Hid (OpsOwn w1 (w.heap.size+1) g cap xs):=ho
  have E1:=(E2.fresh w (.int .i64 0) (.slice none 0 0) 50).later g1
  have B1:Below w.heap.size w w1:=B0.trans (g1.mono B0.size)
  have hlt1:=E1.lt
  have HO1:OpsOwn (w1.alloc (.cells #[.int .i64 op,.slice (some ⟨g,0,none⟩) xs.length cap] 50)) (w.heap.size+1) g cap xs:=World.ownsRow.alloc HO.out _
  have HT:Hid (∀W,Below (w1.alloc (.cells #[.int .i64 op,.slice (some ⟨g,0,none⟩) xs.length cap] 50)).heap.size (w1.alloc (.cells #[.int .i64 op,.slice (some ⟨g,0,none⟩) xs.length cap] 50)) W→Calls Tryz.prog 69 #[.agg #[.int .i64 op,.slice (some ⟨g,0,none⟩) xs.length cap]] W fun e w'=>e=.returned (.string (etx op xs))∧Below W.heap.size W w'):=fun W hW=>zil op (some ⟨g,0,none⟩) xs xs.length cap rfl W (.inr ⟨g,0,rfl,(OpsOwn.later HO1 hW).ops⟩)
  have HE:Hid (etx op xs=s→IsEl s op xs):=fun h=>etx_yes HNE.out h
  have HF:Hid (IsEl s op xs→etx op xs=s):=etx_of
  obtain ⟨T,hT⟩:∃T,etx op xs=T:=⟨_,rfl⟩
  rw [hT] at HT HE HF
  have EA:=E1.alloc (.cells #[.int .i64 op,.slice (some ⟨g,0,none⟩) xs.length cap] 50)
  have EB:E2 (w1.alloc (.cells #[.int .i64 op,.slice (some ⟨g,0,none⟩) xs.length cap] 50)) w1.heap.size (.int .i64 op) (.slice (some ⟨g,0,none⟩) xs.length cap):=E2.fresh w1 _ _ _
  have B2:=B1.alloc B1.size (.cells #[.int .i64 op,.slice (some ⟨g,0,none⟩) xs.length cap] 50)
  clear E1 B1 g1 ho B0 hT
  go_wp2_with fail
  generalize w1.alloc (.cells #[.int .i64 op,.slice (some ⟨g,0,none⟩) xs.length cap] 50)=W2 at HO1 HT EA EB B2 ⊢
  refine (HT.out W2 (Below.refl _ _)).mono ?_
  rintro e w3 ⟨rfl,g3⟩
  have EA3:=EA.later g3
  have EB3:=EB.later g3
  have B3:=B2.trans (g3.mono B2.size)
  have O3:OpsOwn w3 (w.heap.size+1) g cap xs:=OpsOwn.later HO1 g3
  clear EA EB B2 HO1 g3 HT
  cases hq:(T.toList==s.toList) with
  | false =>
   have HNo:Hid (∀op xs,¬ IsEl s op xs):=fun op' xs' h=>by
    have e:=HN.out op' xs' h
    simp only [Prod.mk.injEq] at e
    rw [←e.1,←e.2] at h
    rw [HF.out h] at hq
    simp at hq
   have EP:=EA3.put (.int .i64 0) (.slice none 0 0)
   have BP:Hid (Below w.heap.size w ((w3.setCell ⟨w.heap.size,0,none⟩ (.int .i64 0)).setCell ⟨w.heap.size,1,none⟩ (.slice none 0 0))):=(B3.setCell (Nat.le_refl _) _).setCell (Nat.le_refl _) _
   obtain ⟨c0,c1,f0,f1⟩:=EA3
   obtain ⟨q0,q1,_,_⟩:=EP
   clear EB3 B3 O3 HE HF HN
   go_wp2
   exact bodyPost_ret (v:=.tuple #[.agg #[.int .i64 0,.slice none 0 0],.bool false]) (by simp [results,Tryz.results81,go_sem,q0,q1]) rfl (.inr ⟨HNo.out,rfl,BP.out⟩)
  | true =>
   have hTs:T=s:=by
    have:=eq_of_beq hq
    rw [Lib.toList_data,Lib.toList_data] at this
    exact zcs this
   have HIs:Hid (IsEl s op xs):=HE.out hTs
   have EP:=EA3.put (.int .i64 op) (.slice (some ⟨g,0,none⟩) xs.length cap)
   have BP:Hid (Below w.heap.size w ((w3.setCell ⟨w.heap.size,0,none⟩ (.int .i64 op)).setCell ⟨w.heap.size,1,none⟩ (.slice (some ⟨g,0,none⟩) xs.length cap))):=(B3.setCell (Nat.le_refl _) _).setCell (Nat.le_refl _) _
   have WP:Hid (OpsOwn ((w3.setCell ⟨w.heap.size,0,none⟩ (.int .i64 op)).setCell ⟨w.heap.size,1,none⟩ (.slice (some ⟨g,0,none⟩) xs.length cap)) w.heap.size g cap xs):=zai (zai (OpsOwn.base O3 (by omega)) w.heap.size 0 (by omega) _) w.heap.size 1 (by omega) _
   obtain ⟨c0,c1,f0,f1⟩:=EA3
   obtain ⟨d0,d1,_,_⟩:=EB3
   obtain ⟨q0,q1,_,_⟩:=EP
   clear B3 O3 HE HF HN hTs
   go_wp2
   exact bodyPost_ret (v:=.tuple #[.agg #[.int .i64 op,.slice (some ⟨g,0,none⟩) xs.length cap],.bool true]) (by simp [results,Tryz.results81,go_sem,q0,q1]) rfl (.inl ⟨op,xs,g,cap,HIs.out,rfl,WP.out,BP.out⟩)
 ·have hx:xs=[]:=hx
  subst hx
  have E1:=(E2.fresh w (.int .i64 0) (.slice none 0 0) 50).later g1
  have B1:Below w.heap.size w w1:=B0.trans (g1.mono B0.size)
  have hlt1:=E1.lt
  have HT:Hid (∀W,Calls Tryz.prog 69 #[.agg #[.int .i64 op,.slice none 0 0]] W fun e w'=>e=.returned (.string (etx op []))∧Below W.heap.size W w'):=fun W=>zil op none [] 0 0 rfl W (.inl rfl)
  have hex:etx op []=⟨#[]⟩:=by
   unfold etx
   rw [if_neg]
   intro h
   have:=zbn h
   have hr:=zbo op this.1
   have h3:=this.2
   simp at h3
   omega
  have HNo:Hid (∀op xs,¬ IsEl s op xs):=fun op' xs' h=>by
   have e:=HN.out op' xs' h
   simp only [Prod.mk.injEq] at e
   rw [←e.1,←e.2] at h
   have h5:=etx_of h
   rw [hex] at h5
   exact HNE.out (by rw [←h5])
  rw [hex] at HT
  have hq:((⟨#[]⟩:ByteArray).toList==s.toList)=false:=by
   rw [beq_eq_false_iff_ne]
   intro e
   rw [←e] at h1
   simp at h1
  have hq2:s.toList.isEmpty=false:=by
   cases hh:s.toList with
   | nil=>rw [hh] at h1;cases h1
   | cons a b=>rfl
  have EA:=E1.alloc (.cells #[.int .i64 op,.slice none 0 0] 50)
  have EB:E2 (w1.alloc (.cells #[.int .i64 op,.slice none 0 0] 50)) w1.heap.size (.int .i64 op) (.slice none 0 0):=E2.fresh w1 _ _ _
  have B2:=B1.alloc B1.size (.cells #[.int .i64 op,.slice none 0 0] 50)
  clear E1 B1 g1 B0 hex
  go_wp2_with fail
  generalize w1.alloc (.cells #[.int .i64 op,.slice none 0 0] 50)=W2 at EA EB B2 ⊢
  refine (HT.out W2).mono ?_
  rintro e w3 ⟨rfl,g3⟩
  have EA3:=EA.later g3
  have B3:=B2.trans (g3.mono B2.size)
  have EP:=EA3.put (.int .i64 0) (.slice none 0 0)
  have BP:Hid (Below w.heap.size w ((w3.setCell ⟨w.heap.size,0,none⟩ (.int .i64 0)).setCell ⟨w.heap.size,1,none⟩ (.slice none 0 0))):=(B3.setCell (Nat.le_refl _) _).setCell (Nat.le_refl _) _
  obtain ⟨c0,c1,f0,f1⟩:=EA3
  obtain ⟨q0,q1,_,_⟩:=EP
  clear EA EB B2 g3 B3 HT
  go_wp2
  exact bodyPost_ret (v:=.tuple #[.agg #[.int .i64 0,.slice none 0 0],.bool false]) (by simp [results,Tryz.results81,go_sem,q0,q1]) rfl (.inr ⟨HNo.out,rfl,BP.out⟩)
end Go.Proofs.YtllmabgollkigaaGreatDoor
