/- The program's ElemRead. -/
import Derived.Test.YtllmabgollkigaaGreatDoorJk
import Derived.Test.YtllmabgollkigaaGreatDoorUaM
namespace Go.Proofs.YtllmabgollkigaaGreatDoor
open Go.RowKit Go.Shelf Go.Lib
set_option linter.unusedVariables false
def rst(s:ByteArray):ByteArray:=s.extract (ahd (opOf s)).size s.size
theorem rst_data(s:ByteArray):(rst s).data.toList=s.data.toList.drop (ahd (opOf s)).size:=by
 unfold rst
 rw [Lib.extract_data,List.take_of_length_le (by rw [List.length_drop,←Lib.size_eq];exact Nat.le_refl _)]
theorem rst_size(s:ByteArray):(rst s).size≤s.size:=by
 rw [Lib.size_eq,rst_data,List.length_drop,←Lib.size_eq]
 omega
theorem ahd_fits(s:ByteArray):(ahd (opOf s)).size≤s.size:=by
 rcases opF_zero s 37 with h|h
 ·have e:opOf s=0:=h
  rw [e]
  show (ahd 0).size≤s.size
  have:(ahd 0).size=0:=rfl
  omega
 ·exact (mtc_pre h).2
theorem pcs_len(op:Int)(r:ByteArray):(pcs op r).length≤3:=by
 unfold pcs
 by_cases h0:(ndP op).length=0
 ·rw [if_pos h0];simp
 ·rw [if_neg h0]
  by_cases h1:(btw op).size=0
  ·rw [if_pos h1]
   split<;>simp
  ·rw [if_neg h1]
   have hn:(ndP op).length≤3:=by
    have:=nd_ok op
    simp only [okPl,Bool.and_eq_true,decide_eq_true_eq] at this
    omega
   have:∀(k:Nat)(s:ByteArray),(Lib.splitB (btw op) 0 k s).length≤k+1:=by
    intro k
    induction k with
    | zero=>intro s;simp [Lib.splitB]
    | succ k ih =>
     intro s
     unfold Lib.splitB
     split
     ·simp
     ·rw [List.length_cons]
      have:=ih (s.extract ((Lib.indexB s (btw op)).toNat+(btw op).size) s.size)
      omega
   have:=this (min (ndP op).length (r.size+1)-1) r
   omega
theorem pcs_size(op:Int)(r:ByteArray):∀x∈pcs op r,x.size≤r.size:=by
 intro x hx
 unfold pcs at hx
 by_cases h0:(ndP op).length=0
 ·rw [if_pos h0] at hx;cases hx
 ·rw [if_neg h0] at hx
  by_cases h1:(btw op).size=0
  ·rw [if_pos h1] at hx
   split at hx
   ·cases hx
   ·simp at hx;subst hx;exact Nat.le_refl _
  ·rw [if_neg h1] at hx
   have key:∀(k:Nat)(s:ByteArray),∀y∈Lib.splitB (btw op) 0 k s,y.size≤s.size:=by
    intro k
    induction k with
    | zero=>intro s y hy;simp [Lib.splitB] at hy;subst hy;exact Nat.le_refl _
    | succ k ih =>
     intro s y hy
     unfold Lib.splitB at hy
     split at hy
     ·simp at hy;subst hy;exact Nat.le_refl _
     ·rcases List.mem_cons.1 hy with rfl|hy
      ·rw [Lib.size_eq,Lib.extract_data,List.length_take,Lib.size_eq];simp<;>omega
      ·have h2:=ih _ y hy
       have h3:(s.extract ((Lib.indexB s (btw op)).toNat+(btw op).size) s.size).size≤s.size:=by
        rw [Lib.size_eq,Lib.extract_data,List.length_take,Lib.size_eq];simp<;>omega
       omega
   exact key _ _ x hx
theorem OpsOwn.ops{w:World}{base g cap:Nat}{xs:List Arg}(h:OpsOwn w base g cap xs):Ops w g 0 xs:=by
 have hc:=h.cells rfl
 intro j x hx
 have hj:=(List.getElem?_eq_some_iff.1 hx).1
 have key:∀(ys:List Arg)(i:Nat)(y:Arg),ys[i]?=some y→∀t,t<3→(opsL ys)[i*3+t]?=(opv y)[t]?:=by
  intro ys
  induction ys with
  | nil=>intro i y h;simp at h
  | cons z ys ih =>
   intro i y h t ht
   cases i with
   | zero =>
    simp at h;subst h
    show (opv z++opsL ys)[0*3+t]?=_
    rw [List.getElem?_append_left (by simp [opv];omega),Nat.zero_mul,Nat.zero_add]
   | succ i =>
    show (opv z++opsL ys)[(i+1)*3+t]?=_
    rw [List.getElem?_append_right (by simp [opv];omega)]
    have e:(i+1)*3+t-(opv z).length=i*3+t:=by simp [opv];omega
    rw [e]
    exact ih i y (by simpa using h) t ht
 have k0:=key xs j x hx 0 (by omega)
 have k1:=key xs j x hx 1 (by omega)
 have k2:=key xs j x hx 2 (by omega)
 refine ⟨?_,?_,?_⟩
 ·have:=hc (j*3+0) (.int .i64 x.1) k0
  cases j with
  | zero=>simpa [Addr.add] using this
  | succ j=>simpa [Addr.add] using this
 ·have:=hc (j*3+1) (.int .i64 x.2.1) k1
  simpa [Addr.add] using this
 ·have:=hc (j*3+2) (.int .i64 x.2.2) k2
  simpa [Addr.add] using this
theorem parse_r(s:ByteArray)(w:World)(hT:Tabs w)(hM:ML w)(hs:s.size≤1048576) :
  Calls Tryz.prog 219 #[.string s] w fun e w'=>IsParse s (opOf s) (pcs (opOf s) (rst s)) w e w':=by
 have hn:(ndP (opOf s)).length≤3:=by
  have:=nd_ok (opOf s)
  simp only [okPl,Bool.and_eq_true,decide_eq_true_eq] at this
  omega
 refine parse_run s (ahd (opOf s)) (btw (opOf s)) (rst s) (opOf s) _ _ _ _ _ _ (ndP (opOf s)).length (pcs (opOf s) (rst s)) w (zdp _) (zdp _) (zdp _) (zdp _) (zdp _) (zdp _) (ahd_fits s) rfl hn (by have:=pcs_len (opOf s) (rst s);omega)
  (fun W=>op_of s W hs) (fun W=>zjf (opOf s) W) (fun W=>impl_arity (opOf s) W) ?_ ?_ ?_
 ·intro W hW
  exact splitn_r (opOf s) (rst s) W (hM.later hW) (by have:=rst_size s;omega)
 ·intro x hx W hW
  exact dev_i x (by have:=pcs_size _ _ x hx;have:=rst_size s;omega) W (hT.later hW)
 ·intro xs base g cap W hW ho
  exact zhd (opOf s) (some ⟨g,0,none⟩) xs xs.length cap rfl W (hT.k.later hW) (.inr ⟨g,0,rfl,ho.ops⟩)
def EH(w:World):Prop:=w.cell? ⟨0,0,none⟩=some (.iface 173 (.agg #[.pointer (some ⟨9,63,none⟩)]))
theorem EH.later{w w':World}(h:EH w)(g:Below w.heap.size w w'):EH w':=(g.cell (p:=⟨0,0,none⟩) (World.block_lt_of_cell? _ _ h)).trans h
def IsEl(s:ByteArray)(op:Int)(xs:List Arg):Prop:=rtk op xs=true∧etl op xs=s.data.toList
def IsERead(s:ByteArray)(w:World)(e:Ending)(w':World):Prop :=
 (∃(op:Int)(xs:List Arg)(g cap:Nat),IsEl s op xs∧e=.returned (.tuple #[.agg #[.int .i64 op,.slice (some ⟨g,0,none⟩) xs.length cap],.bool true])∧OpsOwn w' w.heap.size g cap xs∧Below w.heap.size w w') ∨
 ((∀op xs,¬ IsEl s op xs)∧e=.returned (.tuple #[.agg #[.int .i64 0,.slice none 0 0],.bool false])∧Below w.heap.size w w')
set_option maxHeartbeats 2000000 in
theorem eread_run(s:ByteArray)(w:World)(hH:EH w)(OP:Int)(L:List ByteArray)
  (HP:Hid (∀W,Below w.heap.size w W→Calls Tryz.prog 219 #[.string s] W fun e w'=>IsParse s OP L W e w'))
  (hyes:(L.all rdB&&rtk OP (L.map rdA))=true→IsEl s OP (L.map rdA)) (hno:(L.all rdB&&rtk OP (L.map rdA))=false→∀op xs,¬ IsEl s op xs) :
  Calls Tryz.prog 186 #[.string s] w fun e w'=>IsERead s w e w':=by
 have HY:Hid ((L.all rdB&&rtk OP (L.map rdA))=true→IsEl s OP (L.map rdA)):=hyes
 have HN:Hid ((L.all rdB&&rtk OP (L.map rdA))=false→∀op xs,¬ IsEl s op xs):=hno
 clear hyes hno
 have B0:Below w.heap.size w (w.alloc (.cells #[.int .i64 0,.slice none 0 0] 50)):=(Below.refl _ w).alloc (Nat.le_refl _) _
 go_enter Tryz.func186,Tryz.ntmps186
 go_wp2_with fail
 refine (HP.out _ B0).mono ?_
 intro e w1 hPm
 unfold IsParse at hPm
 have sz0:(w.alloc (.cells #[.int .i64 0,.slice none 0 0] 50)).heap.size=w.heap.size+1:=by simp
 rcases hPm with ⟨hb,g,cap,rfl,ho,g1⟩|⟨hb,rfl,g1⟩
 ·have HI:=HY.out hb
  obtain ⟨xs,hxs⟩:∃xs,L.map rdA=xs:=⟨_,rfl⟩
  rw [hxs] at ho HI ⊢
  have HIs:Hid (IsEl s OP xs):=HI
  clear HI HY HN hb hxs
  rw [sz0] at ho
  have hgl:=ho.lt g rfl
  have HO:Hid (OpsOwn w1 (w.heap.size+1) g cap xs):=ho
  have E1:=(E2.fresh w (.int .i64 0) (.slice none 0 0) 50).later g1
  have B1:Below w.heap.size w w1:=B0.trans (g1.mono B0.size)
  have hlt1:=E1.lt
  go_wp2_with fail
  refine (as_nil _ _).mono ?_
  rintro e w2 ⟨rfl,rfl⟩
  have EA:=(E1.alloc (.cells #[.int .i64 OP,.slice (some ⟨g,0,none⟩) xs.length cap] 50)).alloc (.cells #[.string ⟨#[]⟩] 253)
  have EP:=EA.put (.int .i64 OP) (.slice (some ⟨g,0,none⟩) xs.length cap)
  have EB:E2 ((w1.alloc (.cells #[.int .i64 OP,.slice (some ⟨g,0,none⟩) xs.length cap] 50)).alloc (.cells #[.string ⟨#[]⟩] 253)) w1.heap.size (.int .i64 OP) (.slice (some ⟨g,0,none⟩) xs.length cap):=(E2.fresh w1 _ _ 50).alloc _
  have BP:Hid (Below w.heap.size w ((((w1.alloc (.cells #[.int .i64 OP,.slice (some ⟨g,0,none⟩) xs.length cap] 50)).alloc (.cells #[.string ⟨#[]⟩] 253)).setCell ⟨w.heap.size,0,none⟩ (.int .i64 OP)).setCell ⟨w.heap.size,1,none⟩ (.slice (some ⟨g,0,none⟩) xs.length cap))):=(((B1.alloc B1.size _).alloc (by simp;omega) _).setCell (Nat.le_refl _) _).setCell (Nat.le_refl _) _
  have WP:Hid (OpsOwn ((((w1.alloc (.cells #[.int .i64 OP,.slice (some ⟨g,0,none⟩) xs.length cap] 50)).alloc (.cells #[.string ⟨#[]⟩] 253)).setCell ⟨w.heap.size,0,none⟩ (.int .i64 OP)).setCell ⟨w.heap.size,1,none⟩ (.slice (some ⟨g,0,none⟩) xs.length cap)) w.heap.size g cap xs):=zai (zai (OpsOwn.base (base:=w.heap.size+1) (World.ownsRow.alloc (World.ownsRow.alloc HO.out _) _) (by omega)) w.heap.size 0 (by omega) _) w.heap.size 1 (by omega) _
  generalize (w1.alloc (.cells #[.int .i64 OP,.slice (some ⟨g,0,none⟩) xs.length cap] 50)).alloc (.cells #[.string ⟨#[]⟩] 253)=W2 at EA EB EP BP WP ⊢
  obtain ⟨c0,c1,f0,f1⟩:=EA
  obtain ⟨d0,d1,_,_⟩:=EB
  obtain ⟨q0,q1,_,_⟩:=EP
  clear E1 B1 g1 ho B0
  go_wp2
  exact bodyPost_ret (v:=.tuple #[.agg #[.int .i64 OP,.slice (some ⟨g,0,none⟩) xs.length cap],.bool true]) (by simp [results,Tryz.results186,go_sem,q0,q1]) rfl (.inl ⟨OP,xs,g,cap,HIs.out,rfl,WP.out,BP.out⟩)
 ·have HNo:Hid (∀op xs,¬ IsEl s op xs):=HN.out hb
  clear HY HN hb
  have E1:=(E2.fresh w (.int .i64 0) (.slice none 0 0) 50).later g1
  have B1:Below w.heap.size w w1:=B0.trans (g1.mono B0.size)
  have hlt1:=E1.lt
  have H1:EH ((w1.alloc (.cells #[.int .i64 0,.slice none 0 0] 50)).alloc (.cells #[.string ⟨#[]⟩] 253)):=hH.later (((B1.alloc B1.size _).alloc (by simp;omega) _))
  have EA:=(E1.alloc (.cells #[.int .i64 0,.slice none 0 0] 50)).alloc (.cells #[.string ⟨#[]⟩] 253)
  have B2:=(B1.alloc B1.size (.cells #[.int .i64 0,.slice none 0 0] 50)).alloc (by simp;omega) (.cells #[.string ⟨#[]⟩] 253)
  have t1:((w1.alloc (.cells #[.int .i64 0,.slice none 0 0] 50)).alloc (.cells #[.string ⟨#[]⟩] 253)).cell? ⟨w1.heap.size+1,0,none⟩=some (.string ⟨#[]⟩):=by simp
  have t2:((w1.alloc (.cells #[.int .i64 0,.slice none 0 0] 50)).alloc (.cells #[.string ⟨#[]⟩] 253)).frozen? ⟨w1.heap.size+1,0,none⟩=false:=by simp
  have sz2:((w1.alloc (.cells #[.int .i64 0,.slice none 0 0] 50)).alloc (.cells #[.string ⟨#[]⟩] 253)).heap.size=w1.heap.size+2:=by simp
  clear E1 B1 g1 B0
  go_wp2_with fail
  generalize (w1.alloc (.cells #[.int .i64 0,.slice none 0 0] 50)).alloc (.cells #[.string ⟨#[]⟩] 253)=W2 at H1 EA B2 t1 t2 sz2 ⊢
  refine (as_hit s _ _ W2 H1 t1 t2).mono ?_
  rintro e w3 ⟨rfl,rfl⟩
  have hlt2:=EA.lt
  have EB:=((((EA.alloc (.cells #[.pointer (some ⟨w1.heap.size+1,0,none⟩)] 254)).alloc (.cells #[.pointer (some ⟨9,254,none⟩),.pointer (some ⟨W2.heap.size,0,none⟩),.int .u64 150] 143)).alloc (.cells #[.pointer (some ⟨9,254,none⟩),.pointer (some ⟨W2.heap.size,0,none⟩),.int .u64 150] 143)).alloc (.cells #[.string s] 253)).other (w1.heap.size+1) 0 (by omega) (.string s)
  have B3:=((((B2.alloc (by omega) (.cells #[.pointer (some ⟨w1.heap.size+1,0,none⟩)] 254)).alloc (by simp;omega) (.cells #[.pointer (some ⟨9,254,none⟩),.pointer (some ⟨W2.heap.size,0,none⟩),.int .u64 150] 143)).alloc (by simp;omega) (.cells #[.pointer (some ⟨9,254,none⟩),.pointer (some ⟨W2.heap.size,0,none⟩),.int .u64 150] 143)).alloc (by simp;omega) (.cells #[.string s] 253)).setCell (p:=⟨w1.heap.size+1,0,none⟩) (by show w.heap.size≤w1.heap.size+1;omega) (.string s)
  generalize ((((W2.alloc (.cells #[.pointer (some ⟨w1.heap.size+1,0,none⟩)] 254)).alloc (.cells #[.pointer (some ⟨9,254,none⟩),.pointer (some ⟨W2.heap.size,0,none⟩),.int .u64 150] 143)).alloc (.cells #[.pointer (some ⟨9,254,none⟩),.pointer (some ⟨W2.heap.size,0,none⟩),.int .u64 150] 143)).alloc (.cells #[.string s] 253)).setCell ⟨w1.heap.size+1,0,none⟩ (.string s)=W3 at EB B3 ⊢
  have EP:=EB.put (.int .i64 0) (.slice none 0 0)
  have BP:Hid (Below w.heap.size w ((W3.setCell ⟨w.heap.size,0,none⟩ (.int .i64 0)).setCell ⟨w.heap.size,1,none⟩ (.slice none 0 0))):=(B3.setCell (Nat.le_refl _) _).setCell (Nat.le_refl _) _
  obtain ⟨c0,c1,f0,f1⟩:=EB
  obtain ⟨q0,q1,_,_⟩:=EP
  clear EA B2 t1 t2 sz2 H1 B3
  go_wp2
  exact bodyPost_ret (v:=.tuple #[.agg #[.int .i64 0,.slice none 0 0],.bool false]) (by simp [results,Tryz.results186,go_sem,q0,q1]) rfl (.inr ⟨HNo.out,rfl,BP.out⟩)
theorem eread_i(s:ByteArray)(w:World)(hT:Tabs w)(hM:ML w)(hH:EH w)(hs:s.size≤1048576) :
  Calls Tryz.prog 186 #[.string s] w fun e w'=>IsERead s w e w':=by
 refine eread_run s w hH (opOf s) (pcs (opOf s) (rst s)) (fun W hW=>parse_r s W (hT.later hW) (hM.later hW) hs) ?_ ?_
 ·intro h
  rw [Bool.and_eq_true] at h
  exact ⟨h.2,read_sound (rst_data s) h.1 h.2⟩
 ·intro h op xs he
  obtain ⟨h1,h2,h3⟩:=zhv he.1 he.2.symm (rst_data s)
  rw [h1,h2,h3,he.1] at h
  cases h
end Go.Proofs.YtllmabgollkigaaGreatDoor
