/- errors.As at targets that are structs: what is wrong with a ladder, and where. -/
import Derived.Test.YtllmabgollkigaaGreatDoorChecked
import Derived.WalkKit
import Derived.LaidEql
import Derived.Stop.Asserts
import Derived.RowKitTokens
import Derived.Below
namespace Go.Proofs.YtllmabgollkigaaGreatDoor
open Go.RowKit Go.Extern.Stop Go.Stop Go.Extern
set_option linter.unusedVariables false
theorem as_nil(t:Value)(w:World) :
  Calls Tryz.prog 48 #[.nilIface,t] w fun e w'=>e=.returned (.bool false)∧w'=w:=by
 go_enter Tryz.func48,Tryz.ntmps48
 go_wp2
 go_ret
 exact ⟨rfl,rfl⟩
theorem zdg (h : Value) (w : World) : (Go.method 419 173 (.agg #[h]) "Kind").run Tryz.prog w = .ok (272, h) w := by kernel_rfl
theorem zdh (h : Value) (w : World) : (Go.method 419 173 (.agg #[h]) "Elem").run Tryz.prog w = .ok (289, .agg #[h]) w := by kernel_rfl
theorem zbf (h : Value) (w : World) : (Go.method 419 173 (.agg #[h]) "Implements").run Tryz.prog w = .ok (290, .agg #[h]) w := by kernel_rfl
theorem zay (h : Value) (w : World) : (Go.method 419 173 (.agg #[h]) "AssignableTo").run Tryz.prog w = .ok (287, .agg #[h]) w := by kernel_rfl
theorem methodUnwrap (h : Value) (w : World) : (Go.method 419 95 h "Unwrap").run Tryz.prog w = .ok (279, h) w := by kernel_rfl
theorem rlm(z:Sem Value)(f:TypeId→Addr→Nat→Nat→Sem Value)(v:Value) :
  ReflectliteValue.method z f #[v]=(do match ←ReflectliteValue.parts v with|none=>z|some (t,a,fl)=>f t a fl (fl % 32)):=rfl
theorem rls(v x:Value):ReflectliteValue.set #[v,x]=(do
  let (some (dst,a,fl),some (src,b,_)):=(←ReflectliteValue.parts v,←ReflectliteValue.parts x)
   | unsupported (.noEntry "extern/(internal/reflectlite.Value).Set.zeroValue")
  if fl / ReflectliteValue.flagAddr % 2 == 0 then unsupported (.noEntry "extern/(internal/reflectlite.Value).Set.unaddressable")
  let val ←loadVar src b
  if ←Rtype.directlyAssignable dst src then storeVar dst a val
  else if ←Rtype.implements dst src then
   if (←Rtype.kind src)==20 then
    match val with
    | .nilIface => unsupported (.noEntry "extern/reflectlite: a nil value of one interface type handed on as a value of another")
    | _=>storeVar dst a val
   else storeVar dst a (.iface src val)
  else panicString ("reflectlite.Set: value of type " ++ (← Rtype.spelt src) ++ " is not assignable to type " ++ (← Rtype.spelt dst))
  pure (.tuple #[])):=rfl
theorem valueOfPB(t:Addr)(w:World):(ReflectliteValue.unpack (.iface 93 (.pointer (some t)))).run Tryz.prog w
  = .ok (.agg #[.pointer (some ⟨9,93,none⟩),.pointer (some ⟨w.heap.size,0,none⟩),.int .u64 150]) (w.alloc (.cells #[.pointer (some t)] 93)):=by kernel_rfl
theorem typePB (a : Addr) (w : World) : (ReflectliteValue.methodAny (ReflectliteValue.valueError "reflectlite.Value.Type" 0) (fun t _ _ _ => ReflectliteType.toType t) #[.agg #[.pointer (some ⟨9, 93, none⟩), .pointer (some a), .int .u64 150]]).run Tryz.prog w
  = .ok (.iface 173 (.agg #[.pointer (some ⟨9,93,none⟩)])) w:=by kernel_rfl
theorem kindPB(w:World):((ReflectliteType.abiMethod fun t=>(fun a:Nat=>Value.int IntKind.u8 (a:Int)) <$> Rtype.kind t) #[.pointer (some ⟨9,93,none⟩)]).run Tryz.prog w=.ok (.int .u8 22) w:=by kernel_rfl
theorem kindSB(w:World):((ReflectliteType.abiMethod fun t=>(fun a:Nat=>Value.int IntKind.u8 (a:Int)) <$> Rtype.kind t) #[.pointer (some ⟨9,91,none⟩)]).run Tryz.prog w=.ok (.int .u8 25) w:=by kernel_rfl
theorem partsPB(a:Addr)(w:World):(ReflectliteValue.parts (.agg #[.pointer (some ⟨9,93,none⟩),.pointer (some a),.int .u64 150])).run Tryz.prog w=.ok (some (93,a,150)) w:=by kernel_rfl
theorem isNilPB(a p:Addr)(W:World)(ha:W.cell? a=some (.pointer (some p))) :
  (ReflectliteValue.method (ReflectliteValue.valueError "reflectlite.Value.IsNil" 0) ReflectliteValue.isNil #[.agg #[.pointer (some ⟨9, 93, none⟩), .pointer (some a), .int .u64 150]]).run Tryz.prog W = .ok (.bool false) W := by
 rw [rlm]
 simp only [Sem.run_bind,partsPB,Result.andThen]
 simp [ReflectliteValue.isNil,loadVar,isAgg,underlying,Tryz.underlying93,ha,Result.andThen]
theorem elemPB(w:World):(ReflectliteType.method ReflectliteType.elem #[.agg #[.pointer (some ⟨9,93,none⟩)]]).run Tryz.prog w=.ok (.iface 173 (.agg #[.pointer (some ⟨9,91,none⟩)])) w:=by kernel_rfl
theorem zfz (w : World) : (ReflectliteType.relation "Implements" ReflectliteType.implements_ #[.agg #[.pointer (some ⟨9, 91, none⟩)], .iface 173 (.agg #[.pointer (some ⟨9, 63, none⟩)])]).run Tryz.prog w = .ok (.bool true) w := by kernel_rfl
theorem typeOfSB(v:Value)(w:World):(ReflectliteType.typeOf #[.iface 91 v]).run Tryz.prog w=.ok (.iface 173 (.agg #[.pointer (some ⟨9,91,none⟩)])) w:=by kernel_rfl
theorem zga (w : World) : (ReflectliteType.relation "AssignableTo" ReflectliteType.assignableTo #[.agg #[.pointer (some ⟨9, 91, none⟩)], .iface 173 (.agg #[.pointer (some ⟨9, 91, none⟩)])]).run Tryz.prog w = .ok (.bool true) w := by kernel_rfl
theorem valueOfSB(c:Int)(w:World):(ReflectliteValue.unpack (.iface 91 (.agg #[.int .i64 c]))).run Tryz.prog w
  = .ok (.agg #[.pointer (some ⟨9,91,none⟩),.pointer (some ⟨w.heap.size,0,none⟩),.int .u64 153]) (w.alloc (.cells #[.int .i64 c] 91)):=by kernel_rfl
theorem elemOfPB(w:World):(Rtype.elem? 93).run Tryz.prog w=.ok (some 91) w:=by kernel_rfl
theorem mkSB(p:Addr)(w:World):(ReflectliteValue.mk 91 p ReflectliteValue.flagAddr).run Tryz.prog w=.ok (.agg #[.pointer (some ⟨9,91,none⟩),.pointer (some p),.int .u64 409]) w:=by kernel_rfl
theorem elemVPB(a p:Addr)(W:World)(ha:W.cell? a=some (.pointer (some p))) :
  (ReflectliteValue.method (ReflectliteValue.valueError "reflectlite.Value.Elem" 0) ReflectliteValue.elem #[.agg #[.pointer (some ⟨9, 93, none⟩), .pointer (some a), .int .u64 150]]).run Tryz.prog W
   = .ok (.agg #[.pointer (some ⟨9,91,none⟩),.pointer (some p),.int .u64 409]) W:=by
 rw [rlm]
 simp only [Sem.run_bind,partsPB,Result.andThen]
 simp [ReflectliteValue.elem,loadVar,isAgg,underlying,Tryz.underlying93,ha,Result.andThen,elemOfPB,mkSB]
theorem partsSaB(a:Addr)(w:World):(ReflectliteValue.parts (.agg #[.pointer (some ⟨9,91,none⟩),.pointer (some a),.int .u64 409])).run Tryz.prog w=.ok (some (91,a,409)) w:=by kernel_rfl
theorem partsSB(a:Addr)(w:World):(ReflectliteValue.parts (.agg #[.pointer (some ⟨9,91,none⟩),.pointer (some a),.int .u64 153])).run Tryz.prog w=.ok (some (91,a,153)) w:=by kernel_rfl
theorem directSB(w:World):(Rtype.directlyAssignable 91 91).run Tryz.prog w=.ok true w:=by kernel_rfl
theorem valueOfPA(t:Addr)(w:World):(ReflectliteValue.unpack (.iface 96 (.pointer (some t)))).run Tryz.prog w
  = .ok (.agg #[.pointer (some ⟨9,96,none⟩),.pointer (some ⟨w.heap.size,0,none⟩),.int .u64 150]) (w.alloc (.cells #[.pointer (some t)] 96)):=by kernel_rfl
theorem typePA (a : Addr) (w : World) : (ReflectliteValue.methodAny (ReflectliteValue.valueError "reflectlite.Value.Type" 0) (fun t _ _ _ => ReflectliteType.toType t) #[.agg #[.pointer (some ⟨9, 96, none⟩), .pointer (some a), .int .u64 150]]).run Tryz.prog w
  = .ok (.iface 173 (.agg #[.pointer (some ⟨9,96,none⟩)])) w:=by kernel_rfl
theorem kindPA(w:World):((ReflectliteType.abiMethod fun t=>(fun a:Nat=>Value.int IntKind.u8 (a:Int)) <$> Rtype.kind t) #[.pointer (some ⟨9,96,none⟩)]).run Tryz.prog w=.ok (.int .u8 22) w:=by kernel_rfl
theorem kindSA(w:World):((ReflectliteType.abiMethod fun t=>(fun a:Nat=>Value.int IntKind.u8 (a:Int)) <$> Rtype.kind t) #[.pointer (some ⟨9,95,none⟩)]).run Tryz.prog w=.ok (.int .u8 25) w:=by kernel_rfl
theorem partsPA(a:Addr)(w:World):(ReflectliteValue.parts (.agg #[.pointer (some ⟨9,96,none⟩),.pointer (some a),.int .u64 150])).run Tryz.prog w=.ok (some (96,a,150)) w:=by kernel_rfl
theorem isNilPA(a p:Addr)(W:World)(ha:W.cell? a=some (.pointer (some p))) :
  (ReflectliteValue.method (ReflectliteValue.valueError "reflectlite.Value.IsNil" 0) ReflectliteValue.isNil #[.agg #[.pointer (some ⟨9, 96, none⟩), .pointer (some a), .int .u64 150]]).run Tryz.prog W = .ok (.bool false) W := by
 rw [rlm]
 simp only [Sem.run_bind,partsPA,Result.andThen]
 simp [ReflectliteValue.isNil,loadVar,isAgg,underlying,Tryz.underlying96,ha,Result.andThen]
theorem elemPA(w:World):(ReflectliteType.method ReflectliteType.elem #[.agg #[.pointer (some ⟨9,96,none⟩)]]).run Tryz.prog w=.ok (.iface 173 (.agg #[.pointer (some ⟨9,95,none⟩)])) w:=by kernel_rfl
theorem zgb (w : World) : (ReflectliteType.relation "Implements" ReflectliteType.implements_ #[.agg #[.pointer (some ⟨9, 95, none⟩)], .iface 173 (.agg #[.pointer (some ⟨9, 63, none⟩)])]).run Tryz.prog w = .ok (.bool true) w := by kernel_rfl
theorem typeOfSA(v:Value)(w:World):(ReflectliteType.typeOf #[.iface 95 v]).run Tryz.prog w=.ok (.iface 173 (.agg #[.pointer (some ⟨9,95,none⟩)])) w:=by kernel_rfl
theorem assignableSA (w : World) : (ReflectliteType.relation "AssignableTo" ReflectliteType.assignableTo #[.agg #[.pointer (some ⟨9, 95, none⟩)], .iface 173 (.agg #[.pointer (some ⟨9, 95, none⟩)])]).run Tryz.prog w = .ok (.bool true) w := by kernel_rfl
theorem valueOfSA(i:Int)(x:Value)(w:World):(ReflectliteValue.unpack (.iface 95 (.agg #[.int .i64 i,x]))).run Tryz.prog w
  = .ok (.agg #[.pointer (some ⟨9,95,none⟩),.pointer (some ⟨w.heap.size,0,none⟩),.int .u64 153]) (w.alloc (.cells #[.int .i64 i,x] 95)):=by kernel_rfl
theorem elemOfPA(w:World):(Rtype.elem? 96).run Tryz.prog w=.ok (some 95) w:=by kernel_rfl
theorem mkSA(p:Addr)(w:World):(ReflectliteValue.mk 95 p ReflectliteValue.flagAddr).run Tryz.prog w=.ok (.agg #[.pointer (some ⟨9,95,none⟩),.pointer (some p),.int .u64 409]) w:=by kernel_rfl
theorem elemVPA(a p:Addr)(W:World)(ha:W.cell? a=some (.pointer (some p))) :
  (ReflectliteValue.method (ReflectliteValue.valueError "reflectlite.Value.Elem" 0) ReflectliteValue.elem #[.agg #[.pointer (some ⟨9, 96, none⟩), .pointer (some a), .int .u64 150]]).run Tryz.prog W
   = .ok (.agg #[.pointer (some ⟨9,95,none⟩),.pointer (some p),.int .u64 409]) W:=by
 rw [rlm]
 simp only [Sem.run_bind,partsPA,Result.andThen]
 simp [ReflectliteValue.elem,loadVar,isAgg,underlying,Tryz.underlying96,ha,Result.andThen,elemOfPA,mkSA]
theorem partsSaA(a:Addr)(w:World):(ReflectliteValue.parts (.agg #[.pointer (some ⟨9,95,none⟩),.pointer (some a),.int .u64 409])).run Tryz.prog w=.ok (some (95,a,409)) w:=by kernel_rfl
theorem partsSA(a:Addr)(w:World):(ReflectliteValue.parts (.agg #[.pointer (some ⟨9,95,none⟩),.pointer (some a),.int .u64 153])).run Tryz.prog w=.ok (some (95,a,153)) w:=by kernel_rfl
theorem directSA(w:World):(Rtype.directlyAssignable 95 95).run Tryz.prog w=.ok true w:=by kernel_rfl
theorem unassBA (w : World) : (ReflectliteType.relation "AssignableTo" ReflectliteType.assignableTo #[.agg #[.pointer (some ⟨9, 91, none⟩)], .iface 173 (.agg #[.pointer (some ⟨9, 95, none⟩)])]).run Tryz.prog w = .ok (.bool false) w := by kernel_rfl
theorem unassAB (w : World) : (ReflectliteType.relation "AssignableTo" ReflectliteType.assignableTo #[.agg #[.pointer (some ⟨9, 95, none⟩)], .iface 173 (.agg #[.pointer (some ⟨9, 91, none⟩)])]).run Tryz.prog w = .ok (.bool false) w := by kernel_rfl
theorem setB(ta b:Addr)(c:Int)(old:Value)(W:World)(hb:W.cell? b=some (.int .i64 c))(ht:W.cell? ta=some old)(hf:W.frozen? ta=false) :
  (ReflectliteValue.set #[.agg #[.pointer (some ⟨9,91,none⟩),.pointer (some ta),.int .u64 409],.agg #[.pointer (some ⟨9,91,none⟩),.pointer (some b),.int .u64 153]]).run Tryz.prog W
   = .ok (.tuple #[]) (W.setCell ta (.int .i64 c)):=by
 have hl:(loadVar 91 b).run Tryz.prog W=.ok (.agg #[.int .i64 c]) W:=by
  simp [loadVar,isAgg,underlying,Tryz.underlying91,Result.andThen,loadCells,loadCellsFrom,hb,Addr.add]
 rw [rls]
 simp only [Sem.run_bind,partsSaB,partsSB,Result.andThen]
 simp [ReflectliteValue.flagAddr,hl,Result.andThen,directSB,storeVar,Value.cells,storeCells,Addr.add]
 rw [run_store Tryz.prog W ta _ _ (by rfl)]
 simp [ht,hf]
theorem setA(g b:Nat)(i:Int)(T:TypeId)(u:Value)(o0 o1:Value)(W:World)(hb:W.heap[b]?=some (.cells #[.int .i64 i,.iface T u] 95 (0,0)))(ht:W.heap[g]?=some (.cells #[o0,o1] 95 (0,0))) :
  (ReflectliteValue.set #[.agg #[.pointer (some ⟨9,95,none⟩),.pointer (some ⟨g,0,none⟩),.int .u64 409],.agg #[.pointer (some ⟨9,95,none⟩),.pointer (some ⟨b,0,none⟩),.int .u64 153]]).run Tryz.prog W
   = .ok (.tuple #[]) ((W.setCell ⟨g,0,none⟩ (.int .i64 i)).setCell ⟨g,1,none⟩ (.iface T u)):=by
 have b0:W.cell? ⟨b,0,none⟩=some (.int .i64 i):=(cell_of_row _ _ _ _ _ _ hb).trans rfl
 have b1:W.cell? ⟨b,1,none⟩=some (.iface T u):=(cell_of_row _ _ _ _ _ _ hb).trans rfl
 have t0:W.cell? ⟨g,0,none⟩=some o0:=(cell_of_row _ _ _ _ _ _ ht).trans rfl
 have t1:W.cell? ⟨g,1,none⟩=some o1:=(cell_of_row _ _ _ _ _ _ ht).trans rfl
 have f0:W.frozen? ⟨g,0,none⟩=false:=by simp [World.frozen?,ht]
 have f1:(W.setCell ⟨g,0,none⟩ (.int .i64 i)).frozen? ⟨g,1,none⟩=false:=by rw [World.frozen?_setCell];simp [World.frozen?,ht]
 have t2:(W.setCell ⟨g,0,none⟩ (.int .i64 i)).cell? ⟨g,1,none⟩=some o1:=by rw [World.cell?_setCell_other _ _ _ _ (by simp)];exact t1
 have hl:(loadVar 95 ⟨b,0,none⟩).run Tryz.prog W=.ok (.agg #[.int .i64 i,.iface T u]) W:=by
  simp [loadVar,isAgg,underlying,Tryz.underlying95,Result.andThen,loadCells,loadCellsFrom,b0,b1,Addr.add]
 rw [rls]
 simp only [Sem.run_bind,partsSaA,partsSA,Result.andThen]
 simp [ReflectliteValue.flagAddr,hl,Result.andThen,directSA,storeVar,Value.cells,storeCells,Addr.add]
 rw [run_store Tryz.prog W ⟨g,0,none⟩ _ _ (by rfl)]
 simp [t0,f0]
 rw [run_store Tryz.prog _ ⟨g,1,none⟩ _ _ (by rfl)]
 simp [t2,f1]
theorem valueOfP(t:Addr)(w:World):(ReflectliteValue.unpack (.iface 254 (.pointer (some t)))).run Tryz.prog w
  = .ok (.agg #[.pointer (some ⟨9,254,none⟩),.pointer (some ⟨w.heap.size,0,none⟩),.int .u64 150]) (w.alloc (.cells #[.pointer (some t)] 254)):=by kernel_rfl
theorem typeP (a : Addr) (w : World) : (ReflectliteValue.methodAny (ReflectliteValue.valueError "reflectlite.Value.Type" 0) (fun t _ _ _ => ReflectliteType.toType t) #[.agg #[.pointer (some ⟨9, 254, none⟩), .pointer (some a), .int .u64 150]]).run Tryz.prog w
  = .ok (.iface 173 (.agg #[.pointer (some ⟨9,254,none⟩)])) w:=by kernel_rfl
theorem kindP(w:World):((ReflectliteType.abiMethod fun t=>(fun a:Nat=>Value.int IntKind.u8 (a:Int)) <$> Rtype.kind t) #[.pointer (some ⟨9,254,none⟩)]).run Tryz.prog w=.ok (.int .u8 22) w:=by kernel_rfl
theorem kindS(w:World):((ReflectliteType.abiMethod fun t=>(fun a:Nat=>Value.int IntKind.u8 (a:Int)) <$> Rtype.kind t) #[.pointer (some ⟨9,253,none⟩)]).run Tryz.prog w=.ok (.int .u8 25) w:=by kernel_rfl
theorem partsP(a:Addr)(w:World):(ReflectliteValue.parts (.agg #[.pointer (some ⟨9,254,none⟩),.pointer (some a),.int .u64 150])).run Tryz.prog w=.ok (some (254,a,150)) w:=by kernel_rfl
theorem isNilP(a p:Addr)(W:World)(ha:W.cell? a=some (.pointer (some p))) :
  (ReflectliteValue.method (ReflectliteValue.valueError "reflectlite.Value.IsNil" 0) ReflectliteValue.isNil #[.agg #[.pointer (some ⟨9, 254, none⟩), .pointer (some a), .int .u64 150]]).run Tryz.prog W = .ok (.bool false) W := by
 rw [rlm]
 simp only [Sem.run_bind,partsP,Result.andThen]
 simp [ReflectliteValue.isNil,loadVar,isAgg,underlying,Tryz.underlying254,ha,Result.andThen]
theorem elemP(w:World):(ReflectliteType.method ReflectliteType.elem #[.agg #[.pointer (some ⟨9,254,none⟩)]]).run Tryz.prog w=.ok (.iface 173 (.agg #[.pointer (some ⟨9,253,none⟩)])) w:=by kernel_rfl
theorem implementsS (w : World) : (ReflectliteType.relation "Implements" ReflectliteType.implements_ #[.agg #[.pointer (some ⟨9, 253, none⟩)], .iface 173 (.agg #[.pointer (some ⟨9, 63, none⟩)])]).run Tryz.prog w = .ok (.bool true) w := by kernel_rfl
theorem typeOfS(v:Value)(w:World):(ReflectliteType.typeOf #[.iface 253 v]).run Tryz.prog w=.ok (.iface 173 (.agg #[.pointer (some ⟨9,253,none⟩)])) w:=by kernel_rfl
theorem assignableS (w : World) : (ReflectliteType.relation "AssignableTo" ReflectliteType.assignableTo #[.agg #[.pointer (some ⟨9, 253, none⟩)], .iface 173 (.agg #[.pointer (some ⟨9, 253, none⟩)])]).run Tryz.prog w = .ok (.bool true) w := by kernel_rfl
theorem valueOfS(s:ByteArray)(w:World):(ReflectliteValue.unpack (.iface 253 (.agg #[.string s]))).run Tryz.prog w
  = .ok (.agg #[.pointer (some ⟨9,253,none⟩),.pointer (some ⟨w.heap.size,0,none⟩),.int .u64 153]) (w.alloc (.cells #[.string s] 253)):=by kernel_rfl
theorem elemOfP(w:World):(Rtype.elem? 254).run Tryz.prog w=.ok (some 253) w:=by kernel_rfl
theorem mkS(p:Addr)(w:World):(ReflectliteValue.mk 253 p ReflectliteValue.flagAddr).run Tryz.prog w=.ok (.agg #[.pointer (some ⟨9,253,none⟩),.pointer (some p),.int .u64 409]) w:=by kernel_rfl
theorem elemVP(a p:Addr)(W:World)(ha:W.cell? a=some (.pointer (some p))) :
  (ReflectliteValue.method (ReflectliteValue.valueError "reflectlite.Value.Elem" 0) ReflectliteValue.elem #[.agg #[.pointer (some ⟨9, 254, none⟩), .pointer (some a), .int .u64 150]]).run Tryz.prog W
   = .ok (.agg #[.pointer (some ⟨9,253,none⟩),.pointer (some p),.int .u64 409]) W:=by
 rw [rlm]
 simp only [Sem.run_bind,partsP,Result.andThen]
 simp [ReflectliteValue.elem,loadVar,isAgg,underlying,Tryz.underlying254,ha,Result.andThen,elemOfP,mkS]
theorem partsSa(a:Addr)(w:World):(ReflectliteValue.parts (.agg #[.pointer (some ⟨9,253,none⟩),.pointer (some a),.int .u64 409])).run Tryz.prog w=.ok (some (253,a,409)) w:=by kernel_rfl
theorem partsS(a:Addr)(w:World):(ReflectliteValue.parts (.agg #[.pointer (some ⟨9,253,none⟩),.pointer (some a),.int .u64 153])).run Tryz.prog w=.ok (some (253,a,153)) w:=by kernel_rfl
theorem directS(w:World):(Rtype.directlyAssignable 253 253).run Tryz.prog w=.ok true w:=by kernel_rfl
theorem setS(ta b:Addr)(s:ByteArray)(old:Value)(W:World)(hb:W.cell? b=some (.string s))(ht:W.cell? ta=some old)(hf:W.frozen? ta=false) :
  (ReflectliteValue.set #[.agg #[.pointer (some ⟨9,253,none⟩),.pointer (some ta),.int .u64 409],.agg #[.pointer (some ⟨9,253,none⟩),.pointer (some b),.int .u64 153]]).run Tryz.prog W
   = .ok (.tuple #[]) (W.setCell ta (.string s)):=by
 have hl:(loadVar 253 b).run Tryz.prog W=.ok (.agg #[.string s]) W:=by
  simp [loadVar,isAgg,underlying,Tryz.underlying253,Result.andThen,loadCells,loadCellsFrom,hb,Addr.add]
 rw [rls]
 simp only [Sem.run_bind,partsSa,partsS,Result.andThen]
 simp [ReflectliteValue.flagAddr,hl,Result.andThen,directS,storeVar,Value.cells,storeCells,Addr.add]
 rw [run_store Tryz.prog W ta _ _ (by rfl)]
 simp [ht,hf]
set_option maxHeartbeats 4000000 in
theorem as_hit(s:ByteArray)(t:Addr)(old:Value)(w:World)(hg:w.cell? ⟨0,0,none⟩=some (.iface 173 (.agg #[.pointer (some ⟨9,63,none⟩)])))(ht0:w.cell? t=some old)(hf0:w.frozen? t=false) :
  Calls Tryz.prog 48 #[.iface 253 (.agg #[.string s]),.iface 254 (.pointer (some t))] w fun ev w'=>ev=.returned (.bool true)∧w'=((((w.alloc (.cells #[.pointer (some t)] 254)).alloc (.cells #[.pointer (some ⟨9,254,none⟩),.pointer (some ⟨w.heap.size,0,none⟩),.int .u64 150] 143)).alloc (.cells #[.pointer (some ⟨9,254,none⟩),.pointer (some ⟨w.heap.size,0,none⟩),.int .u64 150] 143)).alloc (.cells #[.string s] 253)).setCell t (.string s):=by
 have h6:=@run_callFunc_extern Tryz.prog 85 _ (fun args=>ReflectliteValue.unpack (args.getD 0 (.tuple #[]))) Tryz.func85 (by kernel_rfl) (by kernel_rfl) (by kernel_rfl) (by kernel_rfl)
 have h7 := @run_callFunc_extern Tryz.prog 86 _ (ReflectliteValue.methodAny (ReflectliteValue.valueError "reflectlite.Value.Type" 0) (fun t _ _ _ => ReflectliteType.toType t)) Tryz.func86 (by kernel_rfl) (by kernel_rfl) (by kernel_rfl) (by kernel_rfl)
 have h8 := @run_callFunc_extern Tryz.prog 87 _ (ReflectliteValue.method (ReflectliteValue.valueError "reflectlite.Value.IsNil" 0) ReflectliteValue.isNil) Tryz.func87 (by kernel_rfl) (by kernel_rfl) (by kernel_rfl) (by kernel_rfl)
 have h27:=@run_callFunc_extern Tryz.prog 272 _ (ReflectliteType.abiMethod fun t=>do pure (.int .u8 (←Rtype.kind t))) Tryz.func272 (by kernel_rfl) (by kernel_rfl) (by kernel_rfl) (by kernel_rfl)
 have h37:=@run_callFunc_extern Tryz.prog 289 _ (ReflectliteType.method ReflectliteType.elem) Tryz.func289 (by kernel_rfl) (by kernel_rfl) (by kernel_rfl) (by kernel_rfl)
 have h38 := @run_callFunc_extern Tryz.prog 290 _ (ReflectliteType.relation "Implements" ReflectliteType.implements_) Tryz.func290 (by kernel_rfl) (by kernel_rfl) (by kernel_rfl) (by kernel_rfl)
 have h10:=@run_callFunc_extern Tryz.prog 121 _ ReflectliteType.typeOf Tryz.func121 (by kernel_rfl) (by kernel_rfl) (by kernel_rfl) (by kernel_rfl)
 have h35 := @run_callFunc_extern Tryz.prog 287 _ (ReflectliteType.relation "AssignableTo" ReflectliteType.assignableTo) Tryz.func287 (by kernel_rfl) (by kernel_rfl) (by kernel_rfl) (by kernel_rfl)
 have h11 := @run_callFunc_extern Tryz.prog 122 _ (ReflectliteValue.method (ReflectliteValue.valueError "reflectlite.Value.Elem" 0) ReflectliteValue.elem) Tryz.func122 (by kernel_rfl) (by kernel_rfl) (by kernel_rfl) (by kernel_rfl)
 have h12:=@run_callFunc_extern Tryz.prog 123 _ ReflectliteValue.set Tryz.func123 (by kernel_rfl) (by kernel_rfl) (by kernel_rfl) (by kernel_rfl)
 have tO:=typeOfS
 have mA:=zay
 have a25:=assignableS
 have v25:=valueOfS
 have f6:=valueOfP
 have f7:=typeP
 have mK:=zdg
 have mE:=zdh
 have mI:=zbf
 have k27:=kindP
 have k25:=kindS
 have e27:=elemP
 have i25:=implementsS
 have n8:=isNilP ⟨w.heap.size,0,none⟩ t ((w.alloc (.cells #[.pointer (some t)] 254)).alloc (.cells #[.pointer (some ⟨9,254,none⟩),.pointer (some ⟨w.heap.size,0,none⟩),.int .u64 150] 143)) (by simp)
 have hlt:0<w.heap.size:=World.block_lt_of_cell? _ _ hg
 have hg2:((w.alloc (.cells #[.pointer (some t)] 254)).alloc (.cells #[.pointer (some ⟨9,254,none⟩),.pointer (some ⟨w.heap.size,0,none⟩),.int .u64 150] 143)).cell? ⟨0,0,none⟩=some (.iface 173 (.agg #[.pointer (some ⟨9,63,none⟩)])):=by
  rw [World.cell?_alloc_lt _ _ ⟨0,0,none⟩ (by first|(simp;done)|(simp;omega)),World.cell?_alloc_lt _ _ ⟨0,0,none⟩ hlt];exact hg
 have htl:t.block<w.heap.size:=World.block_lt_of_cell? _ _ ht0
 have el:=elemVP ⟨w.heap.size,0,none⟩ t (((w.alloc (.cells #[.pointer (some t)] 254)).alloc (.cells #[.pointer (some ⟨9,254,none⟩),.pointer (some ⟨w.heap.size,0,none⟩),.int .u64 150] 143)).alloc (.cells #[.pointer (some ⟨9,254,none⟩),.pointer (some ⟨w.heap.size,0,none⟩),.int .u64 150] 143)) (by rw [World.cell?_alloc_lt _ _ ⟨w.heap.size,0,none⟩ (by simp;omega)];simp)
 have st:=setS t ⟨w.heap.size+1+1+1,0,none⟩ s old ((((w.alloc (.cells #[.pointer (some t)] 254)).alloc (.cells #[.pointer (some ⟨9,254,none⟩),.pointer (some ⟨w.heap.size,0,none⟩),.int .u64 150] 143)).alloc (.cells #[.pointer (some ⟨9,254,none⟩),.pointer (some ⟨w.heap.size,0,none⟩),.int .u64 150] 143)).alloc (.cells #[.string s] 253))
  (by rw [World.cell?_alloc_at _ _ _ _ (by simp)];rfl)
  (by rw [World.cell?_alloc_lt _ _ t (by simp;omega),World.cell?_alloc_lt _ _ t (by simp;omega),World.cell?_alloc_lt _ _ t (by simp;omega),World.cell?_alloc_lt _ _ t htl];exact ht0)
  (by rw [World.frozen?_alloc_old _ _ t (by simp;omega),World.frozen?_alloc_old _ _ t (by simp;omega),World.frozen?_alloc_old _ _ t (by simp;omega),World.frozen?_alloc_old _ _ t (Nat.ne_of_lt htl)];exact hf0)
 go_enter Tryz.func48,Tryz.ntmps48
 go_wp2
 refine wp_loop_rounds 1 ?_
 rw [rounds_succ]
 go_wp2
 go_ret
 exact ⟨rfl,rfl⟩
end Go.Proofs.YtllmabgollkigaaGreatDoor
