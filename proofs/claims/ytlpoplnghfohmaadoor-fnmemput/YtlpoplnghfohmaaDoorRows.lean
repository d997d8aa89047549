/-
  NARROWER THAN 'FOR EVERY INPUT', by the rows' own cells (each row's printed sentence says how): FnMemPut: laid · FnMemRound: laid · FnActEdge: laid · FnActStep: laid.
  DERIVED. THE GIVEN ROWS OF THIS SEAT. 4 by the template 'for every input the law returns true; each argument reads behind the call as it read before'; 0 by the template 'total and deterministic' (their statements: YtlpoplnghfohmaaDoorTotals.lean).
  GIVEN WITH THE SEED: the statements are not yours to turn. If you find one false, say at which input.
  Laid BY PROGRAM, IN A SANDBOX (cutbox-rows.mjs): the forced cells as the released guide's own fill.sh prints them over the translation b0cdb249e9fc17fe… (all of the seat's roots in one cut). By AI agents, Wed Nov 11 2026. No macro, syntax, notation, axiom, sorry.
-/
import Derived.Test.YtlpoplnghfohmaaDoorChecked
import GoSem.Claim
import GoSem.ClaimJoined
import GoSem.ClaimMapViews
import Derived.JoinedTies
import Derived.KernelRfl
namespace Go.Proofs.YtlpoplnghfohmaaDoor
/- THE CELL 'sum', in the pinned program and in every row, IS THE sha256 OF THE DUMP (.gsa) THAT YtlpoplnghfohmaaDoorProg.lean LOADS. Nothing in Lean hashes anything: it is a label: what it is worth is what the hold of that sum in a sandbox is worth. -/
noncomputable def Tryd.pinned : Pinned := { name := "ytlpoplnghfohmaadoor", sum := "b0cdb249e9fc17fe54d589424e4d18cb7107416686a564703bbc787cc1e41e65", checked := Tryd.checked }
namespace Rows
def none {H : Type} : Left H := { results := [], args := [] }

/- WHAT THE LISTED PACKAGE-LEVEL VARIABLES READ AS WHEN THE CALL BEGINS. Each datum BY PROGRAM (the guide's laid-datum.mjs) off the statement by which the dump's own 'gosem.cut.vars' lays the variable. In a bare row this is a premise. The card (YtlpoplnghfohmaaDoorCards.lean) ties it to the program's text. -/
def laid_loop_example_stile_impl_devKinds {H : Type} : DataW H := .agg [.agg [.lit (.string []), .lit (.int .i64 0), .lit (.bool false), .lit (.bool false), .lit (.bool false)], .agg [.lit (.string [88]), .lit (.int .i64 32), .lit (.bool true), .lit (.bool false), .lit (.bool false)], .agg [.lit (.string [89]), .lit (.int .i64 32), .lit (.bool true), .lit (.bool false), .lit (.bool false)], .agg [.lit (.string [77]), .lit (.int .i64 64), .lit (.bool true), .lit (.bool false), .lit (.bool false)], .agg [.lit (.string [83]), .lit (.int .i64 16), .lit (.bool true), .lit (.bool false), .lit (.bool false)], .agg [.lit (.string [69]), .lit (.int .i64 32), .lit (.bool false), .lit (.bool false), .lit (.bool false)], .agg [.lit (.string [71]), .lit (.int .i64 5), .lit (.bool true), .lit (.bool false), .lit (.bool false)], .agg [.lit (.string [84]), .lit (.int .i64 16), .lit (.bool true), .lit (.bool true), .lit (.bool false)], .agg [.lit (.string [67]), .lit (.int .i64 16), .lit (.bool true), .lit (.bool true), .lit (.bool false)], .agg [.lit (.string [68]), .lit (.int .i64 32), .lit (.bool false), .lit (.bool true), .lit (.bool false)], .agg [.lit (.string [82]), .lit (.int .i64 16), .lit (.bool false), .lit (.bool false), .lit (.bool true)], .agg [.lit (.string []), .lit (.int .i64 0), .lit (.bool false), .lit (.bool true), .lit (.bool false)], .agg [.lit (.string []), .lit (.int .i64 0), .lit (.bool false), .lit (.bool false), .lit (.bool true)], .agg [.lit (.string []), .lit (.int .i64 0), .lit (.bool false), .lit (.bool false), .lit (.bool true)]]

/-- 'laws.FnMemPut': WHATEVER THE INPUT: true; the input reads as it did. -/
def fnMemPutSpec : ChangeSpec := { name := "fnMemPut", vars := ["loop.example/stile/impl.devKinds"], fn := fun _ => fun
  | [d1, d2, g1] => { results := [.lit (.bool true)], args := [d1, d2], vars := [g1] }
  | _ => none }
def fnMemPutRow : OpenClaim := { program := "ytlpoplnghfohmaadoor", sum := "b0cdb249e9fc17fe54d589424e4d18cb7107416686a564703bbc787cc1e41e65", func := "loop.example/stile/laws.FnMemPut", spec := "fnMemPut", inPlace := ["math.Float64frombits", "math.Float64bits"], unfollowed := true, recurses := true, named := ["loop.example/stile/impl.devKinds"], apart := false, laid := [("loop.example/stile/impl.devKinds", laid_loop_example_stile_impl_devKinds)] }
def FnMemPutSaid : Prop := fnMemPutRow.holds Tryd.pinned (OpenSpec.ofChange fnMemPutSpec)

/-- ITS FALSE NEIGHBOUR: 'it returns false'. Refute it at one input. -/
def fnMemPutWrong : ChangeSpec := { name := "fnMemPut", vars := ["loop.example/stile/impl.devKinds"], fn := fun _ => fun
  | [d1, d2, g1] => { results := [.lit (.bool false)], args := [d1, d2], vars := [g1] }
  | _ => none }
def FnMemPutWrongFalsely : Prop := fnMemPutRow.holds Tryd.pinned (OpenSpec.ofChange fnMemPutWrong)

/-- 'laws.FnMemRound': WHATEVER THE INPUT: true; the input reads as it did. -/
def fnMemRoundSpec : ChangeSpec := { name := "fnMemRound", vars := ["loop.example/stile/impl.devKinds"], fn := fun _ => fun
  | [d, g1] => { results := [.lit (.bool true)], args := [d], vars := [g1] }
  | _ => none }
def fnMemRoundRow : OpenClaim := { program := "ytlpoplnghfohmaadoor", sum := "b0cdb249e9fc17fe54d589424e4d18cb7107416686a564703bbc787cc1e41e65", func := "loop.example/stile/laws.FnMemRound", spec := "fnMemRound", inPlace := ["math.Float64frombits"], named := ["loop.example/stile/impl.devKinds"], apart := false, laid := [("loop.example/stile/impl.devKinds", laid_loop_example_stile_impl_devKinds)] }
def FnMemRoundSaid : Prop := fnMemRoundRow.holds Tryd.pinned (OpenSpec.ofChange fnMemRoundSpec)

/-- ITS FALSE NEIGHBOUR: 'it returns false'. Refute it at one input. -/
def fnMemRoundWrong : ChangeSpec := { name := "fnMemRound", vars := ["loop.example/stile/impl.devKinds"], fn := fun _ => fun
  | [d, g1] => { results := [.lit (.bool false)], args := [d], vars := [g1] }
  | _ => none }
def FnMemRoundWrongFalsely : Prop := fnMemRoundRow.holds Tryd.pinned (OpenSpec.ofChange fnMemRoundWrong)

/-- 'laws.FnActEdge': WHATEVER THE INPUT: true; the input reads as it did. -/
def fnActEdgeSpec : ChangeSpec := { name := "fnActEdge", vars := ["loop.example/stile/impl.devKinds"], fn := fun _ => fun
  | [d, g1] => { results := [.lit (.bool true)], args := [d], vars := [g1] }
  | _ => none }
def fnActEdgeRow : OpenClaim := { program := "ytlpoplnghfohmaadoor", sum := "b0cdb249e9fc17fe54d589424e4d18cb7107416686a564703bbc787cc1e41e65", func := "loop.example/stile/laws.FnActEdge", spec := "fnActEdge", unfollowed := true, recurses := true, named := ["loop.example/stile/impl.devKinds"], apart := false, laid := [("loop.example/stile/impl.devKinds", laid_loop_example_stile_impl_devKinds)] }
def FnActEdgeSaid : Prop := fnActEdgeRow.holds Tryd.pinned (OpenSpec.ofChange fnActEdgeSpec)

/-- ITS FALSE NEIGHBOUR: 'it returns false'. Refute it at one input. -/
def fnActEdgeWrong : ChangeSpec := { name := "fnActEdge", vars := ["loop.example/stile/impl.devKinds"], fn := fun _ => fun
  | [d, g1] => { results := [.lit (.bool false)], args := [d], vars := [g1] }
  | _ => none }
def FnActEdgeWrongFalsely : Prop := fnActEdgeRow.holds Tryd.pinned (OpenSpec.ofChange fnActEdgeWrong)

/-- 'laws.FnActStep': WHATEVER THE INPUT: true; the input reads as it did. -/
def fnActStepSpec : ChangeSpec := { name := "fnActStep", vars := ["loop.example/stile/impl.devKinds"], fn := fun _ => fun
  | [d, g1] => { results := [.lit (.bool true)], args := [d], vars := [g1] }
  | _ => none }
def fnActStepRow : OpenClaim := { program := "ytlpoplnghfohmaadoor", sum := "b0cdb249e9fc17fe54d589424e4d18cb7107416686a564703bbc787cc1e41e65", func := "loop.example/stile/laws.FnActStep", spec := "fnActStep", unfollowed := true, recurses := true, named := ["loop.example/stile/impl.devKinds"], apart := false, laid := [("loop.example/stile/impl.devKinds", laid_loop_example_stile_impl_devKinds)] }
def FnActStepSaid : Prop := fnActStepRow.holds Tryd.pinned (OpenSpec.ofChange fnActStepSpec)

/-- ITS FALSE NEIGHBOUR: 'it returns false'. Refute it at one input. -/
def fnActStepWrong : ChangeSpec := { name := "fnActStep", vars := ["loop.example/stile/impl.devKinds"], fn := fun _ => fun
  | [d, g1] => { results := [.lit (.bool false)], args := [d], vars := [g1] }
  | _ => none }
def FnActStepWrongFalsely : Prop := fnActStepRow.holds Tryd.pinned (OpenSpec.ofChange fnActStepWrong)

/- THE SECOND FORM. 'bulk': how many values and letters a reading holds, each counted each time it is reached (what is shared counts as often as it is met; a slice's spare places count too). A statement '..UptoSaid' is the law's where the arguments, and the package variables that the reading takes, are together of bulk at most 1048576: NARROWER than '..Said'. Prove '..Said' where nothing that the law and all that it calls make is longer than what came in: it says more and counts as full. Else prove '..UptoSaid'. A law counts once. -/
mutual
def uptoBulk {H : Type} : DataW H → Nat
  | .lit (.string bytes) => bytes.length + 1
  | .lit _ => 1
  | .nil => 1
  | .ptr d => uptoBulk d + 1
  | .slice elems spare => uptoBulkAll elems + uptoBulkAll spare + 1
  | .agg parts => uptoBulkAll parts + 1
  | .iface _ d => uptoBulk d + 1
  | .map entries => uptoBulkEntries entries + 1
  | .held _ => 1
def uptoBulkAll {H : Type} : List (DataW H) → Nat
  | [] => 0
  | d :: r => uptoBulk d + uptoBulkAll r
def uptoBulkEntries {H : Type} : List (Lit × DataW H) → Nat
  | [] => 0
  | x :: r => uptoBulkEntry x + uptoBulkEntries r
def uptoBulkEntry {H : Type} : Lit × DataW H → Nat
  | (.string bytes, d) => bytes.length + uptoBulk d + 1
  | (_, d) => uptoBulk d + 1
 end
def uptoSmall : (H : Type) → List (DataW H) → Bool := fun _ ds => decide (uptoBulkAll ds ≤ 1048576)
def OpenSpec.upto (s : _root_.Go.ChangeSpec) : _root_.Go.OpenSpec := { _root_.Go.OpenSpec.ofChange s with cond := some uptoSmall }

/-- 'laws.FnMemPut', WHERE WHAT IT READS IS OF BULK AT MOST 1048576: true; the input reads as it did. -/
def fnMemPutUptoRow : OpenClaim := { program := "ytlpoplnghfohmaadoor", sum := "b0cdb249e9fc17fe54d589424e4d18cb7107416686a564703bbc787cc1e41e65", func := "loop.example/stile/laws.FnMemPut", spec := "fnMemPut", inPlace := ["math.Float64frombits", "math.Float64bits"], unfollowed := true, recurses := true, named := ["loop.example/stile/impl.devKinds"], apart := false, laid := [("loop.example/stile/impl.devKinds", laid_loop_example_stile_impl_devKinds)], narrowed := true }
def FnMemPutUptoSaid : Prop := fnMemPutUptoRow.holds Tryd.pinned (OpenSpec.upto fnMemPutSpec)

/-- 'laws.FnMemRound', WHERE WHAT IT READS IS OF BULK AT MOST 1048576: true; the input reads as it did. -/
def fnMemRoundUptoRow : OpenClaim := { program := "ytlpoplnghfohmaadoor", sum := "b0cdb249e9fc17fe54d589424e4d18cb7107416686a564703bbc787cc1e41e65", func := "loop.example/stile/laws.FnMemRound", spec := "fnMemRound", inPlace := ["math.Float64frombits"], named := ["loop.example/stile/impl.devKinds"], apart := false, laid := [("loop.example/stile/impl.devKinds", laid_loop_example_stile_impl_devKinds)], narrowed := true }
def FnMemRoundUptoSaid : Prop := fnMemRoundUptoRow.holds Tryd.pinned (OpenSpec.upto fnMemRoundSpec)

/-- 'laws.FnActEdge', WHERE WHAT IT READS IS OF BULK AT MOST 1048576: true; the input reads as it did. -/
def fnActEdgeUptoRow : OpenClaim := { program := "ytlpoplnghfohmaadoor", sum := "b0cdb249e9fc17fe54d589424e4d18cb7107416686a564703bbc787cc1e41e65", func := "loop.example/stile/laws.FnActEdge", spec := "fnActEdge", unfollowed := true, recurses := true, named := ["loop.example/stile/impl.devKinds"], apart := false, laid := [("loop.example/stile/impl.devKinds", laid_loop_example_stile_impl_devKinds)], narrowed := true }
def FnActEdgeUptoSaid : Prop := fnActEdgeUptoRow.holds Tryd.pinned (OpenSpec.upto fnActEdgeSpec)

/-- 'laws.FnActStep', WHERE WHAT IT READS IS OF BULK AT MOST 1048576: true; the input reads as it did. -/
def fnActStepUptoRow : OpenClaim := { program := "ytlpoplnghfohmaadoor", sum := "b0cdb249e9fc17fe54d589424e4d18cb7107416686a564703bbc787cc1e41e65", func := "loop.example/stile/laws.FnActStep", spec := "fnActStep", unfollowed := true, recurses := true, named := ["loop.example/stile/impl.devKinds"], apart := false, laid := [("loop.example/stile/impl.devKinds", laid_loop_example_stile_impl_devKinds)], narrowed := true }
def FnActStepUptoSaid : Prop := fnActStepUptoRow.holds Tryd.pinned (OpenSpec.upto fnActStepSpec)

end Rows
end Go.Proofs.YtlpoplnghfohmaaDoor
