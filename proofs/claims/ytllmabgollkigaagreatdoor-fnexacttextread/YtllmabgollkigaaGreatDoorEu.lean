/- Draws: operands of a sort, contacts. -/
import Derived.Test.YtllmabgollkigaaGreatDoorEjM
import Derived.Test.YtllmabgollkigaaGreatDoorRM
import Derived.Deep.RegionWith
namespace Go.Proofs.YtllmabgollkigaaGreatDoor
open Go.RowKit
set_option linter.unusedVariables false
structure E2 (w:World) (bl:Nat) (u v:Value):Prop where
 c0:w.cell? ⟨bl,0,none⟩=some u
 c1:w.cell? ⟨bl,1,none⟩=some v
 f0:w.frozen? ⟨bl,0,none⟩=false
 f1:w.frozen? ⟨bl,1,none⟩=false
theorem E2.fresh(w:World)(u v:Value)(t:TypeId):E2 (w.alloc (.cells #[u,v] t)) w.heap.size u v:=⟨by simp,by simp,by simp,by simp⟩
theorem E2.lt{w:World}{bl:Nat}{u v:Value}(h:E2 w bl u v):bl<w.heap.size:=World.block_lt_of_cell? _ _ h.c0
theorem E2.grown{w w':World}{bl:Nat}{u v:Value}{row:Option Nat}(h:E2 w bl u v)(g:w.grownBy w' row)(hne:some bl≠row):E2 w' bl u v :=
 ⟨(g.cell_far _ h.lt hne).trans h.c0,(g.cell_far _ h.lt hne).trans h.c1,(g.frozen_far _ h.lt hne).trans h.f0,(g.frozen_far _ h.lt hne).trans h.f1⟩
theorem E2.later{w w':World}{bl:Nat}{u v:Value}(h:E2 w bl u v)(g:Below w.heap.size w w'):E2 w' bl u v:=h.grown (gb_below g) (by simp)
theorem E2.alloc{w:World}{bl:Nat}{u v:Value}(h:E2 w bl u v)(o:Obj):E2 (w.alloc o) bl u v:=h.grown (World.grownBy_alloc w o none) (by simp)
theorem E2.other{w:World}{bl:Nat}{u v:Value}(h:E2 w bl u v)(bl' o:Nat)(hne:bl'≠bl)(x:Value):E2 (w.setCell ⟨bl',o,none⟩ x) bl u v :=
 ⟨(World.cell?_setCell_other _ _ _ _ (by simp)).trans h.c0,(World.cell?_setCell_other _ _ _ _ (by simp)).trans h.c1,by simpa using h.f0,by simpa using h.f1⟩
theorem E2.put{w:World}{bl:Nat}{u v:Value}(h:E2 w bl u v)(u' v':Value):E2 ((w.setCell ⟨bl,0,none⟩ u').setCell ⟨bl,1,none⟩ v') bl u' v' :=
 ⟨(World.cell?_setCell_other _ _ _ _ (by simp)).trans (World.cell?_setCell_same _ _ _ h.c0),World.cell?_setCell_same _ _ _ ((World.cell?_setCell_other _ _ _ _ (by simp)).trans h.c1),by simpa using h.f0,by simpa using h.f1⟩
def Bd(xs:List Arg):Prop:=∀x∈xs,-2000000000≤x.2.1∧x.2.1≤2000000000
end Go.Proofs.YtllmabgollkigaaGreatDoor
