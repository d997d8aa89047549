/- The program's reader of a line: the kind of the next word; going on. -/
import Derived.Test.YtllmabgollkigaaGreatDoorHaM
import Derived.Test.YtllmabgollkigaaGreatDoorWc
namespace Go.Proofs.YtllmabgollkigaaGreatDoor
open Go.RowKit Go.Maps
set_option linter.unusedVariables false
def Short(L:List ByteArray):Prop:=∀x∈L,x.size≤4194304
def kAt(L:List ByteArray)(k:Nat):Int:=if k<L.length then kOf (wAt L k).data.toList else 0
def RdI(W:World)(rb g cap mb:Nat)(L:List ByteArray)(k:Nat):Prop :=
 (∃o:Nat,(k<cap→o=k)∧W.heap[rb]?=some (.cells #[.map (some mb),.slice (some ⟨g,o,none⟩) (L.length-k) (cap-k)] 128))∧WdsAt W g L∧W.ownsMap Tryz.prog 9 (plainElem (H:=Unit) Tryz.prog 3) mb 8 DK ∧
  rb≠g∧rb≠mb∧k≤L.length∧L.length≤cap∧L.length≤4194304∧Short L
theorem RdI.lt{W:World}{rb g cap mb k:Nat}{L:List ByteArray}(h:RdI W rb g cap mb L k):rb<W.heap.size:=by
 obtain ⟨o,_,h1⟩:=h.1
 exact (Array.getElem?_eq_some_iff.1 h1).1
theorem RdI.move{W W':World}{rb g cap mb k:Nat}{L:List ByteArray}{row:Option Nat}(h:RdI W rb g cap mb L k)(hg:W.grownBy W' row)(h1:some rb≠row)(h2:some g≠row)(h3:some mb≠row):RdI W' rb g cap mb L k :=
 ⟨by obtain ⟨o,ho,hh⟩:=h.1;exact ⟨o,ho,(hg.block rb h.lt h1).trans hh⟩,h.2.1.move hg h2,h.2.2.1.kept hg h3,h.2.2.2⟩
theorem RdI.cells{W:World}{rb g cap mb k:Nat}{L:List ByteArray}(h:RdI W rb g cap mb L k) :
  W.cell? ⟨rb,0,none⟩=some (.map (some mb))∧∃o,(k<L.length→o=k)∧W.cell? ⟨rb,1,none⟩=some (.slice (some ⟨g,o,none⟩) (L.length-k) (cap-k)):=by
 obtain ⟨o,ho,h1⟩:=h.1
 have:=h.2.2.2.2.2.2.1
 refine ⟨?_,o,fun hk=>ho (by omega),?_⟩<;>simp [World.cell?,h1]
theorem RdI.free{W:World}{rb g cap mb k:Nat}{L:List ByteArray}(h:RdI W rb g cap mb L k)(i:Nat):W.frozen? ⟨rb,i,none⟩=false:=by
 obtain ⟨o,ho,h1⟩:=h.1
 simp [World.frozen?,h1]
theorem RdI.put{W:World}{rb g cap mb k:Nat}{L:List ByteArray}(h:RdI W rb g cap mb L k)(hk:k<L.length){o c:Nat}(ho:k+1<cap→o=k+1)(hc:c=cap-k-1):RdI (W.setCell ⟨rb,1,none⟩ (.slice (some ⟨g,o,none⟩) (L.length-k-1) c)) rb g cap mb L (k+1):=by
 subst hc
 refine ⟨⟨o,ho,?_⟩,fun j x hx=>?_,h.2.2.1.kept (Lib.Hx.grownBy_set (World.grownBy.refl W _) _ rfl _) (by simp;exact Ne.symm h.2.2.2.2.1),h.2.2.2.1,h.2.2.2.2.1,hk,h.2.2.2.2.2.2⟩
 ·obtain ⟨o',_,h1⟩:=h.1
  obtain ⟨hlt,hv⟩:=Array.getElem?_eq_some_iff.1 h1
  simp [World.setCell,hlt,Array.getElem_modify,hv,Nat.sub_sub]
 ·rw [←h.2.1 j x hx]
  exact World.cell?_setCell_far W _ _ _ h.2.2.2.1
set_option maxRecDepth 10000 in
theorem kind_i(W:World)(rb g cap mb k:Nat)(L:List ByteArray)(h:RdI W rb g cap mb L k) :
  Calls Tryz.prog 152 #[.pointer (some ⟨rb,0,none⟩)] W fun e w'=>e=.returned (.int .i64 (kAt L k))∧∃n,w'=W.drewN n:=by
 obtain ⟨c0,o,ho,c1⟩:=h.cells
 have z3:∀W,(zeroValue 3).run Tryz.prog W=.ok (.int .i64 0) W:=Tryz.zeroValue3
 by_cases hk:k<L.length
 ·have ho1:=ho hk
  rw [ho1] at c1
  clear ho ho1
  have b1:(((L.length-k:Nat):Int)==0)=false:=by rw [beq_eq_false_iff_ne];omega
  have hpos:0<L.length-k:=by omega
  have hx:L[k]?=some L[k]:=List.getElem?_eq_getElem hk
  have cx:=h.2.1 k _ hx
  have hwd:wAt L k=L[k]:=by unfold wAt;rw [hx];rfl
  have hsh:L[k].size≤4194304:=h.2.2.2.2.2.2.2.2 _ (List.getElem_mem hk)
  have HK:Hid (kAt L k=kOf L[k].data.toList):=by
   show kAt L k=kOf L[k].data.toList
   unfold kAt;rw [if_pos hk,hwd]
  have hrun:∀n,(Instr.lookup 109 (.map (some mb)) (.string L[k]) false).run Tryz.prog (W.drewN n)=.ok (.int .i64 (kOf L[k].data.toList)) (W.drewN n):=by
   intro n
   have hM:(W.drewN n).ownsMap Tryz.prog 9 (plainElem (H:=Unit) Tryz.prog 3) mb 8 DK:=h.2.2.1
   obtain ⟨c,hr,hat,_⟩:=hM.lookup_int keyS Tryz.underlying109 Tryz.underlying3 (z3 _) (key_str L[k] hsh)
   rw [dk_at] at hat
   simp at hat
   rw [hr,hat]
  clear hx hwd z3
  go_enter Tryz.func152,Tryz.ntmps152
  go_wp2
  go_quiet (fail)
  go_wp2
  go_ret
  exact ⟨by rw [HK.out];rfl,_,rfl⟩
 ·have b1:(((L.length-k:Nat):Int)==0)=true:=by rw [beq_iff_eq];omega
  have HK:Hid (kAt L k=0):=by
   show kAt L k=0
   unfold kAt;rw [if_neg hk]
  clear z3 ho
  go_enter Tryz.func152,Tryz.ntmps152
  go_wp2
  go_ret
  exact ⟨by rw [HK.out];rfl,0,rfl⟩
def TkI(W:World)(rb g cap mb:Nat)(L:List ByteArray)(k:Nat)(q:Int)(e:Ending)(w':World):Prop :=
 e=.returned (.bool (kAt L k==q))∧RdI w' rb g cap mb L (if kAt L k=q then k+1 else k)∧W.grownBy w' (some rb)
set_option maxRecDepth 10000 in
theorem zjc(W:World)(rb g cap mb k:Nat)(L:List ByteArray)(q:Int)(h:RdI W rb g cap mb L k)(hq0:q≠0) :
  Calls Tryz.prog 154 #[.pointer (some ⟨rb,0,none⟩),.int .i64 q] W fun e w'=>TkI W rb g cap mb L k q e w':=by
 go_enter Tryz.func154,Tryz.ntmps154
 go_wp2_with fail
 refine (kind_i W rb g cap mb k L h).mono ?_
 rintro e w1 ⟨rfl,n,rfl⟩
 have H1:Hid (RdI (W.drewN n) rb g cap mb L k):=h.move (zac W n none) (by simp) (by simp) (by simp)
 obtain ⟨c0,o,ho,c1⟩:=H1.out.cells
 have fz:=H1.out.free 1
 by_cases hq:kAt L k=q
 ·have hk:k<L.length:=by
   rcases Nat.lt_or_ge k L.length with h0|h0
   ·exact h0
   ·exfalso
    apply hq0
    rw [←hq]
    unfold kAt
    rw [if_neg (by omega)]
  have ho1:=ho hk
  rw [ho1] at c1
  clear ho ho1
  have b1:(kAt L k != q)=false:=by rw [hq];simp
  have l1:(1:Int)≤((L.length-k:Nat):Int):=by omega
  have HQ:Hid (kAt L k=q):=hq
  have HV:Hid ((Value.bool true)=.bool (kAt L k==q)):=by
   have:(kAt L k==q)=true:=by rw [hq];simp
   rw [this];rfl
  have hcap:=H1.out.2.2.2.2.2.2.1
  clear hq
  go_wp2
  all_goals
   go_ret
   refine ⟨congrArg Ending.returned HV.out,?_,Lib.Hx.grownBy_set (zac W n _) _ rfl _⟩
   rw [if_pos HQ.out]
   exact H1.out.put hk (by omega) (by omega)
 ·have b1:(kAt L k != q)=true:=by simpa using hq
  have HP:Hid (RdI (W.drewN n) rb g cap mb L (if kAt L k=q then k+1 else k)):=by
   rw [if_neg hq];exact H1
  have HG:Hid (W.grownBy (W.drewN n) (some rb)):=zac W n _
  have HV:Hid ((Value.bool false)=.bool (kAt L k==q)):=by
   have:(kAt L k==q)=false:=by rw [beq_eq_false_iff_ne];exact hq
   rw [this];rfl
  clear hq H1
  go_wp2
  go_ret
  exact ⟨congrArg Ending.returned HV.out,HP.out,HG.out⟩
end Go.Proofs.YtllmabgollkigaaGreatDoor
