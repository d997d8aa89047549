/- The specification's reader of codes: numbers and texts out of a code, whatever the code. Made by wip/tools/gen_reader.py. -/
import Derived.Test.YtllmabgollkigaaGreatDoorDaM
import Derived.Deep.Light
import Derived.Deep.AppendLies
import Derived.WalkSpells
import Derived.Maps.Range
import Derived.Maps.AppendAt
namespace Go.Proofs.YtllmabgollkigaaGreatDoor
open Go.RowKit
set_option linter.unusedVariables false
theorem gb_below{w w':World}(h:Below w.heap.size w w'):w.grownBy w' none:=⟨h.os,h.tape,h.output,h.size,fun k hk _=>h.block k hk⟩
structure Src (w:World) (a:Option Addr) (len blk off:Nat) (z:Nat→Int):Prop where
 at_:0<len→a=some ⟨blk,off,none⟩
 byte:∀j,j<len→w.cell? ⟨blk,off+j,none⟩=some (.int .u8 (z j))
 fits:∀j,0≤z j∧z j≤255
 short:len≤2000
structure Rd (w:World) (R:Nat) (a:Option Addr) (len cap:Nat) (p:Nat):Prop where
 c0:w.cell? ⟨R,0,none⟩=some (.slice a len cap)
 c1:w.cell? ⟨R,1,none⟩=some (.int .i64 p)
 f1:w.frozen? ⟨R,1,none⟩=false
structure Code0 (w:World) (a:Option Addr) (len cap blk off:Nat) (z:Nat→Int):Prop where
 short:len≤1048576
 cap:len≤cap
 at_:0<len→a=some ⟨blk,off,none⟩∧blk<w.heap.size
 byte:∀j,j<len→w.cell? ⟨blk,off+j,none⟩=some (.int .u8 (z j))
 fits:∀j,0≤z j∧z j≤255
structure A3 (w:World) (bl:Nat) (k n p:Int):Prop where
 c0:w.cell? ⟨bl,0,none⟩=some (.int .i64 k)
 c1:w.cell? ⟨bl,1,none⟩=some (.int .i64 n)
 c2:w.cell? ⟨bl,2,none⟩=some (.int .i64 p)
 f0:w.frozen? ⟨bl,0,none⟩=false
 f1:w.frozen? ⟨bl,1,none⟩=false
 f2:w.frozen? ⟨bl,2,none⟩=false
theorem A3.fresh(w:World)(k n p:Int)(t:TypeId):A3 (w.alloc (.cells #[.int .i64 k,.int .i64 n,.int .i64 p] t)) w.heap.size k n p:=⟨by simp,by simp,by simp,by simp,by simp,by simp⟩
theorem A3.lt{w:World}{bl:Nat}{k n p:Int}(h:A3 w bl k n p):bl<w.heap.size:=World.block_lt_of_cell? _ _ h.c0
theorem A3.grown{w w':World}{bl:Nat}{k n p:Int}{row:Option Nat}(h:A3 w bl k n p)(g:w.grownBy w' row)(hne:some bl≠row):A3 w' bl k n p :=
 ⟨(g.cell_far _ h.lt hne).trans h.c0,(g.cell_far _ h.lt hne).trans h.c1,(g.cell_far _ h.lt hne).trans h.c2,(g.frozen_far _ h.lt hne).trans h.f0,(g.frozen_far _ h.lt hne).trans h.f1,(g.frozen_far _ h.lt hne).trans h.f2⟩
theorem A3.later{w w':World}{bl:Nat}{k n p:Int}(h:A3 w bl k n p)(g:Below w.heap.size w w'):A3 w' bl k n p:=h.grown (gb_below g) (by simp)
theorem A3.alloc{w:World}{bl:Nat}{k n p:Int}(h:A3 w bl k n p)(o:Obj):A3 (w.alloc o) bl k n p:=h.grown (World.grownBy_alloc w o none) (by simp)
theorem A3.put0{w:World}{bl:Nat}{k n p:Int}(h:A3 w bl k n p)(k':Int):A3 (w.setCell ⟨bl,0,none⟩ (.int .i64 k')) bl k' n p :=
 ⟨World.cell?_setCell_same _ _ _ h.c0,(World.cell?_setCell_other _ _ _ _ (by simp)).trans h.c1,(World.cell?_setCell_other _ _ _ _ (by simp)).trans h.c2,by simpa using h.f0,by simpa using h.f1,by simpa using h.f2⟩
theorem A3.put1{w:World}{bl:Nat}{k n p:Int}(h:A3 w bl k n p)(n':Int):A3 (w.setCell ⟨bl,1,none⟩ (.int .i64 n')) bl k n' p :=
 ⟨(World.cell?_setCell_other _ _ _ _ (by simp)).trans h.c0,World.cell?_setCell_same _ _ _ h.c1,(World.cell?_setCell_other _ _ _ _ (by simp)).trans h.c2,by simpa using h.f0,by simpa using h.f1,by simpa using h.f2⟩
theorem A3.put2{w:World}{bl:Nat}{k n p:Int}(h:A3 w bl k n p)(p':Int):A3 (w.setCell ⟨bl,2,none⟩ (.int .i64 p')) bl k n p' :=
 ⟨(World.cell?_setCell_other _ _ _ _ (by simp)).trans h.c0,(World.cell?_setCell_other _ _ _ _ (by simp)).trans h.c1,World.cell?_setCell_same _ _ _ h.c2,by simpa using h.f0,by simpa using h.f1,by simpa using h.f2⟩
theorem A3.set{w:World}{bl:Nat}{k n p:Int}(h:A3 w bl k n p)(k' n' p':Int):A3 (((w.setCell ⟨bl,0,none⟩ (.int .i64 k')).setCell ⟨bl,1,none⟩ (.int .i64 n')).setCell ⟨bl,2,none⟩ (.int .i64 p')) bl k' n' p':=((h.put0 k').put1 n').put2 p'
theorem A3.other{w:World}{bl:Nat}{k n p:Int}(h:A3 w bl k n p)(bl' o:Nat)(hne:bl'≠bl)(u:Value):A3 (w.setCell ⟨bl',o,none⟩ u) bl k n p :=
 ⟨(World.cell?_setCell_other _ _ _ _ (by simp)).trans h.c0,(World.cell?_setCell_other _ _ _ _ (by simp)).trans h.c1,(World.cell?_setCell_other _ _ _ _ (by simp)).trans h.c2,by simpa using h.f0,by simpa using h.f1,by simpa using h.f2⟩
end Go.Proofs.YtllmabgollkigaaGreatDoor
