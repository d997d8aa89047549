/-
  NARROWER THAN 'FOR EVERY INPUT', by the rows' own cells (each row's printed sentence says how): FnPeepTop: laid · FnPeepStep: laid · FnPeepTurn: laid · FnPeepEdge: laid · FnPeepReal: laid · FnExactPeepSure: laid · FnExactPeepOnce: laid · FnExactPeepAll: laid.
  DERIVED. THE GIVEN ROWS OF THIS SEAT. 8 by the template 'for every input the law returns true; each argument reads behind the call as it read before'; 0 by the template 'total and deterministic' (their statements: YtlgacbjopobeoaaGreatDoorTotals.lean).
  GIVEN WITH THE SEED: the statements are not yours to turn. If you find one false, say at which input.
  Laid BY PROGRAM, IN A SANDBOX (cutbox-rows.mjs): the forced cells as the released guide's own fill.sh prints them over the translation 9c3b274f429e44a6… (all of the seat's roots in one cut). By AI agents, Wed Nov 11 2026. No macro, syntax, notation, axiom, sorry.
-/
import Derived.Test.YtlgacbjopobeoaaGreatDoorChecked
import GoSem.Claim
import GoSem.ClaimJoined
import GoSem.ClaimMapViews
import Derived.JoinedTies
import Derived.KernelRfl
namespace Go.Proofs.YtlgacbjopobeoaaGreatDoor
/- THE CELL 'sum', in the pinned program and in every row, IS THE sha256 OF THE DUMP (.gsa) THAT YtlgacbjopobeoaaGreatDoorProg.lean LOADS. Nothing in Lean hashes anything: it is a label: what it is worth is what the hold of that sum in a sandbox is worth. -/
noncomputable def Tryz.pinned : Pinned := { name := "ytlgacbjopobeoaagreatdoor", sum := "9c3b274f429e44a6905083fd64d3a991f298ea5e87bd8deda98b684151a27a4a", checked := Tryz.checked }
namespace Rows
def none {H : Type} : Left H := { results := [], args := [] }

/- WHAT THE LISTED PACKAGE-LEVEL VARIABLES READ AS WHEN THE CALL BEGINS. Each datum BY PROGRAM (the guide's laid-datum.mjs) off the statement by which the dump's own 'gosem.cut.vars' lays the variable. In a bare row this is a premise. The card (YtlgacbjopobeoaaGreatDoorCards.lean) ties it to the program's text. -/
def laid_loop_example_stile_impl_devKinds {H : Type} : DataW H := .agg [.agg [.lit (.string []), .lit (.int .i64 0), .lit (.bool false), .lit (.bool false), .lit (.bool false)], .agg [.lit (.string [88]), .lit (.int .i64 32), .lit (.bool true), .lit (.bool false), .lit (.bool false)], .agg [.lit (.string [89]), .lit (.int .i64 32), .lit (.bool true), .lit (.bool false), .lit (.bool false)], .agg [.lit (.string [77]), .lit (.int .i64 64), .lit (.bool true), .lit (.bool false), .lit (.bool false)], .agg [.lit (.string [83]), .lit (.int .i64 16), .lit (.bool true), .lit (.bool false), .lit (.bool false)], .agg [.lit (.string [69]), .lit (.int .i64 32), .lit (.bool false), .lit (.bool false), .lit (.bool false)], .agg [.lit (.string [71]), .lit (.int .i64 5), .lit (.bool true), .lit (.bool false), .lit (.bool false)], .agg [.lit (.string [84]), .lit (.int .i64 16), .lit (.bool true), .lit (.bool true), .lit (.bool false)], .agg [.lit (.string [67]), .lit (.int .i64 16), .lit (.bool true), .lit (.bool true), .lit (.bool false)], .agg [.lit (.string [68]), .lit (.int .i64 32), .lit (.bool false), .lit (.bool true), .lit (.bool false)], .agg [.lit (.string [82]), .lit (.int .i64 16), .lit (.bool false), .lit (.bool false), .lit (.bool true)], .agg [.lit (.string []), .lit (.int .i64 0), .lit (.bool false), .lit (.bool true), .lit (.bool false)], .agg [.lit (.string []), .lit (.int .i64 0), .lit (.bool false), .lit (.bool false), .lit (.bool true)], .agg [.lit (.string []), .lit (.int .i64 0), .lit (.bool false), .lit (.bool false), .lit (.bool true)]]
def laid_loop_example_stile_impl_listWords {H : Type} : DataW H := .agg [.lit (.string []), .lit (.string [108, 100]), .lit (.string [97, 110, 100]), .lit (.string [111, 114]), .lit (.string [97, 110, 98]), .lit (.string [111, 114, 98]), .lit (.string [105, 110, 118]), .lit (.string [109, 112, 115]), .lit (.string [109, 114, 100]), .lit (.string [109, 112, 112]), .lit (.string [99, 111, 105, 108]), .lit (.string [101, 110, 100])]
def laid_loop_example_stile_impl_cmpRows {H : Type} : DataW H := .agg [.agg [.lit (.string []), .lit (.int .i64 0), .lit (.int .i64 0)], .agg [.lit (.string [60]), .lit (.int .i64 5), .lit (.int .i64 6)], .agg [.lit (.string [60, 61]), .lit (.int .i64 6), .lit (.int .i64 5)], .agg [.lit (.string [61]), .lit (.int .i64 4), .lit (.int .i64 3)], .agg [.lit (.string [60, 62]), .lit (.int .i64 3), .lit (.int .i64 4)], .agg [.lit (.string [62, 61]), .lit (.int .i64 1), .lit (.int .i64 2)], .agg [.lit (.string [62]), .lit (.int .i64 2), .lit (.int .i64 1)]]

/-- 'laws.FnPeepTop': WHATEVER THE INPUT: true; the input reads as it did. -/
def fnPeepTopSpec : ChangeSpec := { name := "fnPeepTop", vars := ["loop.example/stile/impl.devKinds", "loop.example/stile/impl.listWords", "loop.example/stile/impl.cmpRows"], fn := fun _ => fun
  | [d1, d2, g1, g2, g3] => { results := [.lit (.bool true)], args := [d1, d2], vars := [g1, g2, g3] }
  | _ => none }
def fnPeepTopRow : OpenClaim := { program := "ytlgacbjopobeoaagreatdoor", sum := "9c3b274f429e44a6905083fd64d3a991f298ea5e87bd8deda98b684151a27a4a", func := "loop.example/stile/laws.FnPeepTop", spec := "fnPeepTop", inPlace := ["math.Float64frombits", "math.Float64bits"], unfollowed := true, recurses := true, named := ["loop.example/stile/impl.devKinds", "loop.example/stile/impl.listWords", "loop.example/stile/impl.cmpRows"], apart := false, laid := [("loop.example/stile/impl.devKinds", laid_loop_example_stile_impl_devKinds), ("loop.example/stile/impl.listWords", laid_loop_example_stile_impl_listWords), ("loop.example/stile/impl.cmpRows", laid_loop_example_stile_impl_cmpRows)] }
def FnPeepTopSaid : Prop := fnPeepTopRow.holds Tryz.pinned (OpenSpec.ofChange fnPeepTopSpec)

/-- ITS FALSE NEIGHBOUR: 'it returns false'. Refute it at one input. -/
def fnPeepTopWrong : ChangeSpec := { name := "fnPeepTop", vars := ["loop.example/stile/impl.devKinds", "loop.example/stile/impl.listWords", "loop.example/stile/impl.cmpRows"], fn := fun _ => fun
  | [d1, d2, g1, g2, g3] => { results := [.lit (.bool false)], args := [d1, d2], vars := [g1, g2, g3] }
  | _ => none }
def FnPeepTopWrongFalsely : Prop := fnPeepTopRow.holds Tryz.pinned (OpenSpec.ofChange fnPeepTopWrong)

/-- 'laws.FnPeepStep': WHATEVER THE INPUT: true; the input reads as it did. -/
def fnPeepStepSpec : ChangeSpec := { name := "fnPeepStep", vars := ["loop.example/stile/impl.devKinds", "loop.example/stile/impl.listWords", "loop.example/stile/impl.cmpRows"], fn := fun _ => fun
  | [d1, d2, g1, g2, g3] => { results := [.lit (.bool true)], args := [d1, d2], vars := [g1, g2, g3] }
  | _ => none }
def fnPeepStepRow : OpenClaim := { program := "ytlgacbjopobeoaagreatdoor", sum := "9c3b274f429e44a6905083fd64d3a991f298ea5e87bd8deda98b684151a27a4a", func := "loop.example/stile/laws.FnPeepStep", spec := "fnPeepStep", inPlace := ["math.Float64frombits", "math.Float64bits"], unfollowed := true, recurses := true, named := ["loop.example/stile/impl.devKinds", "loop.example/stile/impl.listWords", "loop.example/stile/impl.cmpRows"], apart := false, laid := [("loop.example/stile/impl.devKinds", laid_loop_example_stile_impl_devKinds), ("loop.example/stile/impl.listWords", laid_loop_example_stile_impl_listWords), ("loop.example/stile/impl.cmpRows", laid_loop_example_stile_impl_cmpRows)] }
def FnPeepStepSaid : Prop := fnPeepStepRow.holds Tryz.pinned (OpenSpec.ofChange fnPeepStepSpec)

/-- ITS FALSE NEIGHBOUR: 'it returns false'. Refute it at one input. -/
def fnPeepStepWrong : ChangeSpec := { name := "fnPeepStep", vars := ["loop.example/stile/impl.devKinds", "loop.example/stile/impl.listWords", "loop.example/stile/impl.cmpRows"], fn := fun _ => fun
  | [d1, d2, g1, g2, g3] => { results := [.lit (.bool false)], args := [d1, d2], vars := [g1, g2, g3] }
  | _ => none }
def FnPeepStepWrongFalsely : Prop := fnPeepStepRow.holds Tryz.pinned (OpenSpec.ofChange fnPeepStepWrong)

/-- 'laws.FnPeepTurn': WHATEVER THE INPUT: true; the input reads as it did. -/
def fnPeepTurnSpec : ChangeSpec := { name := "fnPeepTurn", vars := ["loop.example/stile/impl.devKinds", "loop.example/stile/impl.cmpRows"], fn := fun _ => fun
  | [d1, d2, g1, g2] => { results := [.lit (.bool true)], args := [d1, d2], vars := [g1, g2] }
  | _ => none }
def fnPeepTurnRow : OpenClaim := { program := "ytlgacbjopobeoaagreatdoor", sum := "9c3b274f429e44a6905083fd64d3a991f298ea5e87bd8deda98b684151a27a4a", func := "loop.example/stile/laws.FnPeepTurn", spec := "fnPeepTurn", unfollowed := true, recurses := true, named := ["loop.example/stile/impl.devKinds", "loop.example/stile/impl.cmpRows"], apart := false, laid := [("loop.example/stile/impl.devKinds", laid_loop_example_stile_impl_devKinds), ("loop.example/stile/impl.cmpRows", laid_loop_example_stile_impl_cmpRows)] }
def FnPeepTurnSaid : Prop := fnPeepTurnRow.holds Tryz.pinned (OpenSpec.ofChange fnPeepTurnSpec)

/-- ITS FALSE NEIGHBOUR: 'it returns false'. Refute it at one input. -/
def fnPeepTurnWrong : ChangeSpec := { name := "fnPeepTurn", vars := ["loop.example/stile/impl.devKinds", "loop.example/stile/impl.cmpRows"], fn := fun _ => fun
  | [d1, d2, g1, g2] => { results := [.lit (.bool false)], args := [d1, d2], vars := [g1, g2] }
  | _ => none }
def FnPeepTurnWrongFalsely : Prop := fnPeepTurnRow.holds Tryz.pinned (OpenSpec.ofChange fnPeepTurnWrong)

/-- 'laws.FnPeepEdge': WHATEVER THE INPUT: true; the input reads as it did. -/
def fnPeepEdgeSpec : ChangeSpec := { name := "fnPeepEdge", vars := ["loop.example/stile/impl.devKinds", "loop.example/stile/impl.listWords", "loop.example/stile/impl.cmpRows"], fn := fun _ => fun
  | [d, g1, g2, g3] => { results := [.lit (.bool true)], args := [d], vars := [g1, g2, g3] }
  | _ => none }
def fnPeepEdgeRow : OpenClaim := { program := "ytlgacbjopobeoaagreatdoor", sum := "9c3b274f429e44a6905083fd64d3a991f298ea5e87bd8deda98b684151a27a4a", func := "loop.example/stile/laws.FnPeepEdge", spec := "fnPeepEdge", unfollowed := true, recurses := true, named := ["loop.example/stile/impl.devKinds", "loop.example/stile/impl.listWords", "loop.example/stile/impl.cmpRows"], apart := false, laid := [("loop.example/stile/impl.devKinds", laid_loop_example_stile_impl_devKinds), ("loop.example/stile/impl.listWords", laid_loop_example_stile_impl_listWords), ("loop.example/stile/impl.cmpRows", laid_loop_example_stile_impl_cmpRows)] }
def FnPeepEdgeSaid : Prop := fnPeepEdgeRow.holds Tryz.pinned (OpenSpec.ofChange fnPeepEdgeSpec)

/-- ITS FALSE NEIGHBOUR: 'it returns false'. Refute it at one input. -/
def fnPeepEdgeWrong : ChangeSpec := { name := "fnPeepEdge", vars := ["loop.example/stile/impl.devKinds", "loop.example/stile/impl.listWords", "loop.example/stile/impl.cmpRows"], fn := fun _ => fun
  | [d, g1, g2, g3] => { results := [.lit (.bool false)], args := [d], vars := [g1, g2, g3] }
  | _ => none }
def FnPeepEdgeWrongFalsely : Prop := fnPeepEdgeRow.holds Tryz.pinned (OpenSpec.ofChange fnPeepEdgeWrong)

/-- 'laws.FnPeepReal': WHATEVER THE INPUT: true; the input reads as it did. -/
def fnPeepRealSpec : ChangeSpec := { name := "fnPeepReal", vars := ["loop.example/stile/impl.devKinds", "loop.example/stile/impl.listWords", "loop.example/stile/impl.cmpRows"], fn := fun _ => fun
  | [d, g1, g2, g3] => { results := [.lit (.bool true)], args := [d], vars := [g1, g2, g3] }
  | _ => none }
def fnPeepRealRow : OpenClaim := { program := "ytlgacbjopobeoaagreatdoor", sum := "9c3b274f429e44a6905083fd64d3a991f298ea5e87bd8deda98b684151a27a4a", func := "loop.example/stile/laws.FnPeepReal", spec := "fnPeepReal", unfollowed := true, recurses := true, named := ["loop.example/stile/impl.devKinds", "loop.example/stile/impl.listWords", "loop.example/stile/impl.cmpRows"], apart := false, laid := [("loop.example/stile/impl.devKinds", laid_loop_example_stile_impl_devKinds), ("loop.example/stile/impl.listWords", laid_loop_example_stile_impl_listWords), ("loop.example/stile/impl.cmpRows", laid_loop_example_stile_impl_cmpRows)] }
def FnPeepRealSaid : Prop := fnPeepRealRow.holds Tryz.pinned (OpenSpec.ofChange fnPeepRealSpec)

/-- ITS FALSE NEIGHBOUR: 'it returns false'. Refute it at one input. -/
def fnPeepRealWrong : ChangeSpec := { name := "fnPeepReal", vars := ["loop.example/stile/impl.devKinds", "loop.example/stile/impl.listWords", "loop.example/stile/impl.cmpRows"], fn := fun _ => fun
  | [d, g1, g2, g3] => { results := [.lit (.bool false)], args := [d], vars := [g1, g2, g3] }
  | _ => none }
def FnPeepRealWrongFalsely : Prop := fnPeepRealRow.holds Tryz.pinned (OpenSpec.ofChange fnPeepRealWrong)

/-- 'laws.FnExactPeepSure': WHATEVER THE INPUT: true; the input reads as it did. -/
def fnExactPeepSureSpec : ChangeSpec := { name := "fnExactPeepSure", vars := ["loop.example/stile/impl.devKinds"], fn := fun _ => fun
  | [d, g1] => { results := [.lit (.bool true)], args := [d], vars := [g1] }
  | _ => none }
def fnExactPeepSureRow : OpenClaim := { program := "ytlgacbjopobeoaagreatdoor", sum := "9c3b274f429e44a6905083fd64d3a991f298ea5e87bd8deda98b684151a27a4a", func := "loop.example/stile/laws.FnExactPeepSure", spec := "fnExactPeepSure", unfollowed := true, recurses := true, named := ["loop.example/stile/impl.devKinds"], apart := false, laid := [("loop.example/stile/impl.devKinds", laid_loop_example_stile_impl_devKinds)] }
def FnExactPeepSureSaid : Prop := fnExactPeepSureRow.holds Tryz.pinned (OpenSpec.ofChange fnExactPeepSureSpec)

/-- ITS FALSE NEIGHBOUR: 'it returns false'. Refute it at one input. -/
def fnExactPeepSureWrong : ChangeSpec := { name := "fnExactPeepSure", vars := ["loop.example/stile/impl.devKinds"], fn := fun _ => fun
  | [d, g1] => { results := [.lit (.bool false)], args := [d], vars := [g1] }
  | _ => none }
def FnExactPeepSureWrongFalsely : Prop := fnExactPeepSureRow.holds Tryz.pinned (OpenSpec.ofChange fnExactPeepSureWrong)

/-- 'laws.FnExactPeepOnce': WHATEVER THE INPUT: true; the input reads as it did. -/
def fnExactPeepOnceSpec : ChangeSpec := { name := "fnExactPeepOnce", vars := ["loop.example/stile/impl.devKinds", "loop.example/stile/impl.listWords", "loop.example/stile/impl.cmpRows"], fn := fun _ => fun
  | [d, g1, g2, g3] => { results := [.lit (.bool true)], args := [d], vars := [g1, g2, g3] }
  | _ => none }
def fnExactPeepOnceRow : OpenClaim := { program := "ytlgacbjopobeoaagreatdoor", sum := "9c3b274f429e44a6905083fd64d3a991f298ea5e87bd8deda98b684151a27a4a", func := "loop.example/stile/laws.FnExactPeepOnce", spec := "fnExactPeepOnce", unfollowed := true, recurses := true, named := ["loop.example/stile/impl.devKinds", "loop.example/stile/impl.listWords", "loop.example/stile/impl.cmpRows"], apart := false, laid := [("loop.example/stile/impl.devKinds", laid_loop_example_stile_impl_devKinds), ("loop.example/stile/impl.listWords", laid_loop_example_stile_impl_listWords), ("loop.example/stile/impl.cmpRows", laid_loop_example_stile_impl_cmpRows)] }
def FnExactPeepOnceSaid : Prop := fnExactPeepOnceRow.holds Tryz.pinned (OpenSpec.ofChange fnExactPeepOnceSpec)

/-- ITS FALSE NEIGHBOUR: 'it returns false'. Refute it at one input. -/
def fnExactPeepOnceWrong : ChangeSpec := { name := "fnExactPeepOnce", vars := ["loop.example/stile/impl.devKinds", "loop.example/stile/impl.listWords", "loop.example/stile/impl.cmpRows"], fn := fun _ => fun
  | [d, g1, g2, g3] => { results := [.lit (.bool false)], args := [d], vars := [g1, g2, g3] }
  | _ => none }
def FnExactPeepOnceWrongFalsely : Prop := fnExactPeepOnceRow.holds Tryz.pinned (OpenSpec.ofChange fnExactPeepOnceWrong)

/-- 'laws.FnExactPeepAll': WHATEVER THE INPUT: true; the input reads as it did. -/
def fnExactPeepAllSpec : ChangeSpec := { name := "fnExactPeepAll", vars := ["loop.example/stile/impl.devKinds", "loop.example/stile/impl.listWords", "loop.example/stile/impl.cmpRows"], fn := fun _ => fun
  | [d, g1, g2, g3] => { results := [.lit (.bool true)], args := [d], vars := [g1, g2, g3] }
  | _ => none }
def fnExactPeepAllRow : OpenClaim := { program := "ytlgacbjopobeoaagreatdoor", sum := "9c3b274f429e44a6905083fd64d3a991f298ea5e87bd8deda98b684151a27a4a", func := "loop.example/stile/laws.FnExactPeepAll", spec := "fnExactPeepAll", unfollowed := true, recurses := true, named := ["loop.example/stile/impl.devKinds", "loop.example/stile/impl.listWords", "loop.example/stile/impl.cmpRows"], apart := false, laid := [("loop.example/stile/impl.devKinds", laid_loop_example_stile_impl_devKinds), ("loop.example/stile/impl.listWords", laid_loop_example_stile_impl_listWords), ("loop.example/stile/impl.cmpRows", laid_loop_example_stile_impl_cmpRows)] }
def FnExactPeepAllSaid : Prop := fnExactPeepAllRow.holds Tryz.pinned (OpenSpec.ofChange fnExactPeepAllSpec)

/-- ITS FALSE NEIGHBOUR: 'it returns false'. Refute it at one input. -/
def fnExactPeepAllWrong : ChangeSpec := { name := "fnExactPeepAll", vars := ["loop.example/stile/impl.devKinds", "loop.example/stile/impl.listWords", "loop.example/stile/impl.cmpRows"], fn := fun _ => fun
  | [d, g1, g2, g3] => { results := [.lit (.bool false)], args := [d], vars := [g1, g2, g3] }
  | _ => none }
def FnExactPeepAllWrongFalsely : Prop := fnExactPeepAllRow.holds Tryz.pinned (OpenSpec.ofChange fnExactPeepAllWrong)

/- THE SECOND FORM. 'bulk': how many values and letters a reading holds, each counted each time it is reached (what is shared counts as often as it is met; a slice's spare places count too). A statement '..UptoSaid' is the law's where the arguments, and the package variables that the reading takes, are together of bulk at most 1048576: NARROWER than '..Said'. Prove '..Said' where nothing that the law and all that it calls make is longer than what came in: it says more and counts as full. Else prove '..UptoSaid'. A law counts once. -/
mutual
def uptoBulk {H : Type} : DataW H → Nat
  | .lit (.string bytes) => bytes.length + 1
  | .lit _ => 1
  | .nil => 1
  | .ptr d => uptoBulk d + 1
  | .slice elems spare => uptoBulkAll elems + uptoBulkAll spare + 1
  | .agg parts => uptoBulkAll parts + 1
  | .iface _ d => uptoBulk d + 1
  | .map entries => uptoBulkEntries entries + 1
  | .held _ => 1
def uptoBulkAll {H : Type} : List (DataW H) → Nat
  | [] => 0
  | d :: r => uptoBulk d + uptoBulkAll r
def uptoBulkEntries {H : Type} : List (Lit × DataW H) → Nat
  | [] => 0
  | x :: r => uptoBulkEntry x + uptoBulkEntries r
def uptoBulkEntry {H : Type} : Lit × DataW H → Nat
  | (.string bytes, d) => bytes.length + uptoBulk d + 1
  | (_, d) => uptoBulk d + 1
 end
def uptoSmall : (H : Type) → List (DataW H) → Bool := fun _ ds => decide (uptoBulkAll ds ≤ 1048576)
def OpenSpec.upto (s : _root_.Go.ChangeSpec) : _root_.Go.OpenSpec := { _root_.Go.OpenSpec.ofChange s with cond := some uptoSmall }

/-- 'laws.FnPeepTop', WHERE WHAT IT READS IS OF BULK AT MOST 1048576: true; the input reads as it did. -/
def fnPeepTopUptoRow : OpenClaim := { program := "ytlgacbjopobeoaagreatdoor", sum := "9c3b274f429e44a6905083fd64d3a991f298ea5e87bd8deda98b684151a27a4a", func := "loop.example/stile/laws.FnPeepTop", spec := "fnPeepTop", inPlace := ["math.Float64frombits", "math.Float64bits"], unfollowed := true, recurses := true, named := ["loop.example/stile/impl.devKinds", "loop.example/stile/impl.listWords", "loop.example/stile/impl.cmpRows"], apart := false, laid := [("loop.example/stile/impl.devKinds", laid_loop_example_stile_impl_devKinds), ("loop.example/stile/impl.listWords", laid_loop_example_stile_impl_listWords), ("loop.example/stile/impl.cmpRows", laid_loop_example_stile_impl_cmpRows)], narrowed := true }
def FnPeepTopUptoSaid : Prop := fnPeepTopUptoRow.holds Tryz.pinned (OpenSpec.upto fnPeepTopSpec)

/-- 'laws.FnPeepStep', WHERE WHAT IT READS IS OF BULK AT MOST 1048576: true; the input reads as it did. -/
def fnPeepStepUptoRow : OpenClaim := { program := "ytlgacbjopobeoaagreatdoor", sum := "9c3b274f429e44a6905083fd64d3a991f298ea5e87bd8deda98b684151a27a4a", func := "loop.example/stile/laws.FnPeepStep", spec := "fnPeepStep", inPlace := ["math.Float64frombits", "math.Float64bits"], unfollowed := true, recurses := true, named := ["loop.example/stile/impl.devKinds", "loop.example/stile/impl.listWords", "loop.example/stile/impl.cmpRows"], apart := false, laid := [("loop.example/stile/impl.devKinds", laid_loop_example_stile_impl_devKinds), ("loop.example/stile/impl.listWords", laid_loop_example_stile_impl_listWords), ("loop.example/stile/impl.cmpRows", laid_loop_example_stile_impl_cmpRows)], narrowed := true }
def FnPeepStepUptoSaid : Prop := fnPeepStepUptoRow.holds Tryz.pinned (OpenSpec.upto fnPeepStepSpec)

/-- 'laws.FnPeepTurn', WHERE WHAT IT READS IS OF BULK AT MOST 1048576: true; the input reads as it did. -/
def fnPeepTurnUptoRow : OpenClaim := { program := "ytlgacbjopobeoaagreatdoor", sum := "9c3b274f429e44a6905083fd64d3a991f298ea5e87bd8deda98b684151a27a4a", func := "loop.example/stile/laws.FnPeepTurn", spec := "fnPeepTurn", unfollowed := true, recurses := true, named := ["loop.example/stile/impl.devKinds", "loop.example/stile/impl.cmpRows"], apart := false, laid := [("loop.example/stile/impl.devKinds", laid_loop_example_stile_impl_devKinds), ("loop.example/stile/impl.cmpRows", laid_loop_example_stile_impl_cmpRows)], narrowed := true }
def FnPeepTurnUptoSaid : Prop := fnPeepTurnUptoRow.holds Tryz.pinned (OpenSpec.upto fnPeepTurnSpec)

/-- 'laws.FnPeepEdge', WHERE WHAT IT READS IS OF BULK AT MOST 1048576: true; the input reads as it did. -/
def fnPeepEdgeUptoRow : OpenClaim := { program := "ytlgacbjopobeoaagreatdoor", sum := "9c3b274f429e44a6905083fd64d3a991f298ea5e87bd8deda98b684151a27a4a", func := "loop.example/stile/laws.FnPeepEdge", spec := "fnPeepEdge", unfollowed := true, recurses := true, named := ["loop.example/stile/impl.devKinds", "loop.example/stile/impl.listWords", "loop.example/stile/impl.cmpRows"], apart := false, laid := [("loop.example/stile/impl.devKinds", laid_loop_example_stile_impl_devKinds), ("loop.example/stile/impl.listWords", laid_loop_example_stile_impl_listWords), ("loop.example/stile/impl.cmpRows", laid_loop_example_stile_impl_cmpRows)], narrowed := true }
def FnPeepEdgeUptoSaid : Prop := fnPeepEdgeUptoRow.holds Tryz.pinned (OpenSpec.upto fnPeepEdgeSpec)

/-- 'laws.FnPeepReal', WHERE WHAT IT READS IS OF BULK AT MOST 1048576: true; the input reads as it did. -/
def fnPeepRealUptoRow : OpenClaim := { program := "ytlgacbjopobeoaagreatdoor", sum := "9c3b274f429e44a6905083fd64d3a991f298ea5e87bd8deda98b684151a27a4a", func := "loop.example/stile/laws.FnPeepReal", spec := "fnPeepReal", unfollowed := true, recurses := true, named := ["loop.example/stile/impl.devKinds", "loop.example/stile/impl.listWords", "loop.example/stile/impl.cmpRows"], apart := false, laid := [("loop.example/stile/impl.devKinds", laid_loop_example_stile_impl_devKinds), ("loop.example/stile/impl.listWords", laid_loop_example_stile_impl_listWords), ("loop.example/stile/impl.cmpRows", laid_loop_example_stile_impl_cmpRows)], narrowed := true }
def FnPeepRealUptoSaid : Prop := fnPeepRealUptoRow.holds Tryz.pinned (OpenSpec.upto fnPeepRealSpec)

/-- 'laws.FnExactPeepSure', WHERE WHAT IT READS IS OF BULK AT MOST 1048576: true; the input reads as it did. -/
def fnExactPeepSureUptoRow : OpenClaim := { program := "ytlgacbjopobeoaagreatdoor", sum := "9c3b274f429e44a6905083fd64d3a991f298ea5e87bd8deda98b684151a27a4a", func := "loop.example/stile/laws.FnExactPeepSure", spec := "fnExactPeepSure", unfollowed := true, recurses := true, named := ["loop.example/stile/impl.devKinds"], apart := false, laid := [("loop.example/stile/impl.devKinds", laid_loop_example_stile_impl_devKinds)], narrowed := true }
def FnExactPeepSureUptoSaid : Prop := fnExactPeepSureUptoRow.holds Tryz.pinned (OpenSpec.upto fnExactPeepSureSpec)

/-- 'laws.FnExactPeepOnce', WHERE WHAT IT READS IS OF BULK AT MOST 1048576: true; the input reads as it did. -/
def fnExactPeepOnceUptoRow : OpenClaim := { program := "ytlgacbjopobeoaagreatdoor", sum := "9c3b274f429e44a6905083fd64d3a991f298ea5e87bd8deda98b684151a27a4a", func := "loop.example/stile/laws.FnExactPeepOnce", spec := "fnExactPeepOnce", unfollowed := true, recurses := true, named := ["loop.example/stile/impl.devKinds", "loop.example/stile/impl.listWords", "loop.example/stile/impl.cmpRows"], apart := false, laid := [("loop.example/stile/impl.devKinds", laid_loop_example_stile_impl_devKinds), ("loop.example/stile/impl.listWords", laid_loop_example_stile_impl_listWords), ("loop.example/stile/impl.cmpRows", laid_loop_example_stile_impl_cmpRows)], narrowed := true }
def FnExactPeepOnceUptoSaid : Prop := fnExactPeepOnceUptoRow.holds Tryz.pinned (OpenSpec.upto fnExactPeepOnceSpec)

/-- 'laws.FnExactPeepAll', WHERE WHAT IT READS IS OF BULK AT MOST 1048576: true; the input reads as it did. -/
def fnExactPeepAllUptoRow : OpenClaim := { program := "ytlgacbjopobeoaagreatdoor", sum := "9c3b274f429e44a6905083fd64d3a991f298ea5e87bd8deda98b684151a27a4a", func := "loop.example/stile/laws.FnExactPeepAll", spec := "fnExactPeepAll", unfollowed := true, recurses := true, named := ["loop.example/stile/impl.devKinds", "loop.example/stile/impl.listWords", "loop.example/stile/impl.cmpRows"], apart := false, laid := [("loop.example/stile/impl.devKinds", laid_loop_example_stile_impl_devKinds), ("loop.example/stile/impl.listWords", laid_loop_example_stile_impl_listWords), ("loop.example/stile/impl.cmpRows", laid_loop_example_stile_impl_cmpRows)], narrowed := true }
def FnExactPeepAllUptoSaid : Prop := fnExactPeepAllUptoRow.holds Tryz.pinned (OpenSpec.upto fnExactPeepAllSpec)

end Rows
end Go.Proofs.YtlgacbjopobeoaaGreatDoor
