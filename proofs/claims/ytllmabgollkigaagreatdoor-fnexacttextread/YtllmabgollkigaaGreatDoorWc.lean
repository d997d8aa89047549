/- The readers of a line's words: the next word, its kind, and going on. -/
import Derived.Test.YtllmabgollkigaaGreatDoorHaM
import Derived.Deep.QuietTactic
import Derived.RangeFuncBox
import Derived.Lib.HexFns
import Derived.Deep.RegionHeld
namespace Go.Proofs.YtllmabgollkigaaGreatDoor
open Go.RowKit
set_option linter.unusedVariables false
def wAt(L:List ByteArray)(k:Nat):ByteArray:=(L[k]?).getD ⟨#[]⟩
def WdsAt(W:World)(g:Nat)(L:List ByteArray):Prop:=∀j x,L[j]?=some x→W.cell? ⟨g,j,none⟩=some (.string x)
theorem WdsAt.move{W W':World}{g:Nat}{L:List ByteArray}{row:Option Nat}(h:WdsAt W g L)(hg:W.grownBy W' row)(hr:some g≠row):WdsAt W' g L:=fun j x hx=>hg.cell (h j x hx) hr
def InS(W:World)(pb g cap:Nat)(L:List ByteArray)(k:Nat)(bad:Bool):Prop :=
 W.heap[pb]?=some (.cells #[.slice (some ⟨g,0,none⟩) L.length cap,.int .i64 k,.bool bad] 87)∧WdsAt W g L∧pb≠g∧L.length≤4194304
theorem InS.lt{W:World}{pb g cap k:Nat}{L:List ByteArray}{bad:Bool}(h:InS W pb g cap L k bad):pb<W.heap.size:=(Array.getElem?_eq_some_iff.1 h.1).1
theorem InS.move{W W':World}{pb g cap k:Nat}{L:List ByteArray}{bad:Bool}{row:Option Nat}(h:InS W pb g cap L k bad)(hg:W.grownBy W' row)(h1:some pb≠row)(h2:some g≠row):InS W' pb g cap L k bad :=
 ⟨(hg.block pb h.lt h1).trans h.1,h.2.1.move hg h2,h.2.2⟩
theorem InS.cells{W:World}{pb g cap k:Nat}{L:List ByteArray}{bad:Bool}(h:InS W pb g cap L k bad) :
  W.cell? ⟨pb,0,none⟩=some (.slice (some ⟨g,0,none⟩) L.length cap)∧W.cell? ⟨pb,1,none⟩=some (.int .i64 k)∧W.cell? ⟨pb,2,none⟩=some (.bool bad):=by
 have h1:=h.1
 refine ⟨?_,?_,?_⟩<;>simp [World.cell?,h1]
theorem InS.free{W:World}{pb g cap k:Nat}{L:List ByteArray}{bad:Bool}(h:InS W pb g cap L k bad)(i:Nat):W.frozen? ⟨pb,i,none⟩=false:=by
 have h1:=h.1
 simp [World.frozen?,h1]
set_option maxRecDepth 10000 in
theorem zdx(W:World)(pb g cap k:Nat)(L:List ByteArray)(bad:Bool)(h:InS W pb g cap L k bad) :
  Calls Tryz.prog 80 #[.pointer (some ⟨pb,0,none⟩)] W fun e w'=>e=.returned (.string (wAt L k))∧∃n,w'=W.drewN n:=by
 obtain ⟨c0,c1,c2⟩:=h.cells
 have hl:=h.2.2.2
 have hw:=h.2.1
 go_enter Tryz.func80,Tryz.ntmps80
 go_wp2
 by_cases hk:k<L.length
 ·have k1:(k:Int)<(L.length:Int):=by omega
  have hx:L[k]?=some L[k]:=List.getElem?_eq_getElem hk
  have cx:=hw k _ hx
  have hwd:wAt L k=L[k]:=by unfold wAt;rw [hx];rfl
  clear hw hx
  go_quiet (fail)
  go_wp2
  go_quiet (fail)
  go_wp2
  go_ret
  exact ⟨by rw [hwd];rfl,_,World.drewN_drewN _ _ _⟩
 ·have k1:¬(k:Int)<(L.length:Int):=by omega
  have hwd:wAt L k=⟨#[]⟩:=by unfold wAt;rw [List.getElem?_eq_none (by omega)];rfl
  clear hw
  go_quiet (fail)
  go_wp2
  go_ret
  exact ⟨by first|rfl|(rw [hwd];rfl),_,rfl⟩
theorem zac(W:World)(n:Nat)(row:Option Nat):W.grownBy (W.drewN n) row:=⟨rfl,rfl,rfl,Nat.le_refl _,fun _ _ _=>rfl⟩
theorem InS.put{W:World}{pb g cap k:Nat}{L:List ByteArray}{bad:Bool}(h:InS W pb g cap L k bad)(k':Nat):InS (W.setCell ⟨pb,1,none⟩ (.int .i64 k')) pb g cap L k' bad:=by
 refine ⟨?_,fun j x hx=>?_,h.2.2⟩
 ·obtain ⟨hlt,hv⟩:=Array.getElem?_eq_some_iff.1 h.1
  simp [World.setCell,hlt,Array.getElem_modify,hv]
 ·rw [←h.2.1 j x hx]
  exact World.cell?_setCell_far W _ _ _ h.2.2.1
def TkS(W:World)(pb g cap:Nat)(L:List ByteArray)(k:Nat)(bad:Bool)(x:ByteArray)(e:Ending)(w':World):Prop :=
 e=.returned (.bool ((wAt L k).toList==x.toList))∧InS w' pb g cap L (if (wAt L k).toList=x.toList then k+1 else k) bad∧W.grownBy w' (some pb)
set_option maxRecDepth 10000 in
theorem zdn(W:World)(pb g cap k:Nat)(L:List ByteArray)(bad:Bool)(x:ByteArray)(h:InS W pb g cap L k bad)(hx:x.toList≠[]) :
  Calls Tryz.prog 78 #[.pointer (some ⟨pb,0,none⟩),.string x] W fun e w'=>TkS W pb g cap L k bad x e w':=by
 have hl:=h.2.2.2
 go_enter Tryz.func78,Tryz.ntmps78
 go_wp2_with fail
 refine (zdx W pb g cap k L bad h).mono ?_
 rintro e w1 ⟨rfl,n,rfl⟩
 have H1:Hid (InS (W.drewN n) pb g cap L k bad):=h.move (zac W n none) (by simp) (by simp)
 obtain ⟨c0,c1,c2⟩:=H1.out.cells
 have fz:=H1.out.free 1
 by_cases hq:(wAt L k).toList=x.toList
 ·have hk:k<L.length:=by
   rcases Nat.lt_or_ge k L.length with h0|h0
   ·exact h0
   ·exfalso
    apply hx
    rw [←hq]
    unfold wAt
    rw [List.getElem?_eq_none h0,Lib.toList_data]
    rfl
  have b1:((wAt L k).toList==x.toList)=true:=by rw [hq];simp
  have HP:Hid (InS ((W.drewN n).setCell ⟨pb,1,none⟩ (.int .i64 (k+1))) pb g cap L (if (wAt L k).toList=x.toList then k+1 else k) bad):=by
   rw [if_pos hq]
   have:=H1.out.put (k+1)
   exact this
  have HG:Hid (W.grownBy ((W.drewN n).setCell ⟨pb,1,none⟩ (.int .i64 (k+1))) (some pb)):=Lib.Hx.grownBy_set (zac W n _) _ rfl _
  have HV:Hid ((Value.bool true)=.bool ((wAt L k).toList==x.toList)):=by rw [b1];rfl
  clear hq H1
  go_wp2
  go_ret
  exact ⟨congrArg Ending.returned HV.out,HP.out,HG.out⟩
 ·have b1:((wAt L k).toList==x.toList)=false:=by rw [beq_eq_false_iff_ne];exact hq
  have HP:Hid (InS (W.drewN n) pb g cap L (if (wAt L k).toList=x.toList then k+1 else k) bad):=by
   rw [if_neg hq];exact H1
  have HG:Hid (W.grownBy (W.drewN n) (some pb)):=zac W n _
  have HV:Hid ((Value.bool false)=.bool ((wAt L k).toList==x.toList)):=by rw [b1];rfl
  clear hq H1
  go_wp2
  go_ret
  exact ⟨congrArg Ending.returned HV.out,HP.out,HG.out⟩
end Go.Proofs.YtllmabgollkigaaGreatDoor
