/-
  NARROWER THAN 'FOR EVERY INPUT', by the rows' own cells (each row's printed sentence says how): FnPicOne: laid · FnExactPicMake: laid · FnExactPicRead: laid.
  DERIVED. THE GIVEN ROWS OF THIS SEAT. 3 by the template 'for every input the law returns true; each argument reads behind the call as it read before'; 0 by the template 'total and deterministic' (their statements: YtcihplachlokiaaDoorTotals.lean).
  GIVEN WITH THE SEED: the statements are not yours to turn. If you find one false, say at which input.
  Laid BY PROGRAM, IN A SANDBOX (cutbox-rows.mjs): the forced cells as the released guide's own fill.sh prints them over the translation 67b1ed03d9474616… (all of the seat's roots in one cut). By AI agents, Wed Nov 11 2026. No macro, syntax, notation, axiom, sorry.
-/
import Derived.Test.YtcihplachlokiaaDoorChecked
import GoSem.Claim
import GoSem.ClaimJoined
import GoSem.ClaimMapViews
import Derived.JoinedTies
import Derived.KernelRfl
namespace Go.Proofs.YtcihplachlokiaaDoor
/- THE CELL 'sum', in the pinned program and in every row, IS THE sha256 OF THE DUMP (.gsa) THAT YtcihplachlokiaaDoorProg.lean LOADS. Nothing in Lean hashes anything: it is a label: what it is worth is what the hold of that sum in a sandbox is worth. -/
noncomputable def Tryd.pinned : Pinned := { name := "ytcihplachlokiaadoor", sum := "67b1ed03d9474616c7602269c2be6fade7b2fe50d7465bf05b49f5f27b78f766", checked := Tryd.checked }
namespace Rows
def none {H : Type} : Left H := { results := [], args := [] }

/- WHAT THE LISTED PACKAGE-LEVEL VARIABLES READ AS WHEN THE CALL BEGINS. Each datum BY PROGRAM (the guide's laid-datum.mjs) off the statement by which the dump's own 'gosem.cut.vars' lays the variable. In a bare row this is a premise. The card (YtcihplachlokiaaDoorCards.lean) ties it to the program's text. -/
def laid_loop_example_stile_impl_devKinds {H : Type} : DataW H := .agg [.agg [.lit (.string []), .lit (.int .i64 0), .lit (.bool false), .lit (.bool false), .lit (.bool false)], .agg [.lit (.string [88]), .lit (.int .i64 32), .lit (.bool true), .lit (.bool false), .lit (.bool false)], .agg [.lit (.string [89]), .lit (.int .i64 32), .lit (.bool true), .lit (.bool false), .lit (.bool false)], .agg [.lit (.string [77]), .lit (.int .i64 64), .lit (.bool true), .lit (.bool false), .lit (.bool false)], .agg [.lit (.string [83]), .lit (.int .i64 16), .lit (.bool true), .lit (.bool false), .lit (.bool false)], .agg [.lit (.string [69]), .lit (.int .i64 32), .lit (.bool false), .lit (.bool false), .lit (.bool false)], .agg [.lit (.string [71]), .lit (.int .i64 5), .lit (.bool true), .lit (.bool false), .lit (.bool false)], .agg [.lit (.string [84]), .lit (.int .i64 16), .lit (.bool true), .lit (.bool true), .lit (.bool false)], .agg [.lit (.string [67]), .lit (.int .i64 16), .lit (.bool true), .lit (.bool true), .lit (.bool false)], .agg [.lit (.string [68]), .lit (.int .i64 32), .lit (.bool false), .lit (.bool true), .lit (.bool false)], .agg [.lit (.string [82]), .lit (.int .i64 16), .lit (.bool false), .lit (.bool false), .lit (.bool true)], .agg [.lit (.string []), .lit (.int .i64 0), .lit (.bool false), .lit (.bool true), .lit (.bool false)], .agg [.lit (.string []), .lit (.int .i64 0), .lit (.bool false), .lit (.bool false), .lit (.bool true)], .agg [.lit (.string []), .lit (.int .i64 0), .lit (.bool false), .lit (.bool false), .lit (.bool true)]]

/-- 'laws.FnPicOne': WHATEVER THE INPUT: true; the input reads as it did. -/
def fnPicOneSpec : ChangeSpec := { name := "fnPicOne", vars := ["loop.example/stile/impl.devKinds"], fn := fun _ => fun
  | [d1, d2, g1] => { results := [.lit (.bool true)], args := [d1, d2], vars := [g1] }
  | _ => none }
def fnPicOneRow : OpenClaim := { program := "ytcihplachlokiaadoor", sum := "67b1ed03d9474616c7602269c2be6fade7b2fe50d7465bf05b49f5f27b78f766", func := "loop.example/stile/laws.FnPicOne", spec := "fnPicOne", unfollowed := true, recurses := true, named := ["loop.example/stile/impl.devKinds"], apart := false, laid := [("loop.example/stile/impl.devKinds", laid_loop_example_stile_impl_devKinds)] }
def FnPicOneSaid : Prop := fnPicOneRow.holds Tryd.pinned (OpenSpec.ofChange fnPicOneSpec)

/-- ITS FALSE NEIGHBOUR: 'it returns false'. Refute it at one input. -/
def fnPicOneWrong : ChangeSpec := { name := "fnPicOne", vars := ["loop.example/stile/impl.devKinds"], fn := fun _ => fun
  | [d1, d2, g1] => { results := [.lit (.bool false)], args := [d1, d2], vars := [g1] }
  | _ => none }
def FnPicOneWrongFalsely : Prop := fnPicOneRow.holds Tryd.pinned (OpenSpec.ofChange fnPicOneWrong)

/-- 'laws.FnExactPicMake': WHATEVER THE INPUT: true; the input reads as it did. -/
def fnExactPicMakeSpec : ChangeSpec := { name := "fnExactPicMake", vars := ["loop.example/stile/impl.devKinds"], fn := fun _ => fun
  | [d, g1] => { results := [.lit (.bool true)], args := [d], vars := [g1] }
  | _ => none }
def fnExactPicMakeRow : OpenClaim := { program := "ytcihplachlokiaadoor", sum := "67b1ed03d9474616c7602269c2be6fade7b2fe50d7465bf05b49f5f27b78f766", func := "loop.example/stile/laws.FnExactPicMake", spec := "fnExactPicMake", named := ["loop.example/stile/impl.devKinds"], apart := false, laid := [("loop.example/stile/impl.devKinds", laid_loop_example_stile_impl_devKinds)] }
def FnExactPicMakeSaid : Prop := fnExactPicMakeRow.holds Tryd.pinned (OpenSpec.ofChange fnExactPicMakeSpec)

/-- ITS FALSE NEIGHBOUR: 'it returns false'. Refute it at one input. -/
def fnExactPicMakeWrong : ChangeSpec := { name := "fnExactPicMake", vars := ["loop.example/stile/impl.devKinds"], fn := fun _ => fun
  | [d, g1] => { results := [.lit (.bool false)], args := [d], vars := [g1] }
  | _ => none }
def FnExactPicMakeWrongFalsely : Prop := fnExactPicMakeRow.holds Tryd.pinned (OpenSpec.ofChange fnExactPicMakeWrong)

/-- 'laws.FnExactPicRead': WHATEVER THE INPUT: true; the input reads as it did. -/
def fnExactPicReadSpec : ChangeSpec := { name := "fnExactPicRead", vars := ["loop.example/stile/impl.devKinds"], fn := fun _ => fun
  | [d, g1] => { results := [.lit (.bool true)], args := [d], vars := [g1] }
  | _ => none }
def fnExactPicReadRow : OpenClaim := { program := "ytcihplachlokiaadoor", sum := "67b1ed03d9474616c7602269c2be6fade7b2fe50d7465bf05b49f5f27b78f766", func := "loop.example/stile/laws.FnExactPicRead", spec := "fnExactPicRead", unfollowed := true, recurses := true, named := ["loop.example/stile/impl.devKinds"], apart := false, laid := [("loop.example/stile/impl.devKinds", laid_loop_example_stile_impl_devKinds)] }
def FnExactPicReadSaid : Prop := fnExactPicReadRow.holds Tryd.pinned (OpenSpec.ofChange fnExactPicReadSpec)

/-- ITS FALSE NEIGHBOUR: 'it returns false'. Refute it at one input. -/
def fnExactPicReadWrong : ChangeSpec := { name := "fnExactPicRead", vars := ["loop.example/stile/impl.devKinds"], fn := fun _ => fun
  | [d, g1] => { results := [.lit (.bool false)], args := [d], vars := [g1] }
  | _ => none }
def FnExactPicReadWrongFalsely : Prop := fnExactPicReadRow.holds Tryd.pinned (OpenSpec.ofChange fnExactPicReadWrong)

/- THE SECOND FORM. 'bulk': how many values and letters a reading holds, each counted each time it is reached (what is shared counts as often as it is met; a slice's spare places count too). A statement '..UptoSaid' is the law's where the arguments, and the package variables that the reading takes, are together of bulk at most 1048576: NARROWER than '..Said'. Prove '..Said' where nothing that the law and all that it calls make is longer than what came in: it says more and counts as full. Else prove '..UptoSaid'. A law counts once. -/
mutual
def uptoBulk {H : Type} : DataW H → Nat
  | .lit (.string bytes) => bytes.length + 1
  | .lit _ => 1
  | .nil => 1
  | .ptr d => uptoBulk d + 1
  | .slice elems spare => uptoBulkAll elems + uptoBulkAll spare + 1
  | .agg parts => uptoBulkAll parts + 1
  | .iface _ d => uptoBulk d + 1
  | .map entries => uptoBulkEntries entries + 1
  | .held _ => 1
def uptoBulkAll {H : Type} : List (DataW H) → Nat
  | [] => 0
  | d :: r => uptoBulk d + uptoBulkAll r
def uptoBulkEntries {H : Type} : List (Lit × DataW H) → Nat
  | [] => 0
  | x :: r => uptoBulkEntry x + uptoBulkEntries r
def uptoBulkEntry {H : Type} : Lit × DataW H → Nat
  | (.string bytes, d) => bytes.length + uptoBulk d + 1
  | (_, d) => uptoBulk d + 1
 end
def uptoSmall : (H : Type) → List (DataW H) → Bool := fun _ ds => decide (uptoBulkAll ds ≤ 1048576)
def OpenSpec.upto (s : _root_.Go.ChangeSpec) : _root_.Go.OpenSpec := { _root_.Go.OpenSpec.ofChange s with cond := some uptoSmall }

/-- 'laws.FnPicOne', WHERE WHAT IT READS IS OF BULK AT MOST 1048576: true; the input reads as it did. -/
def fnPicOneUptoRow : OpenClaim := { program := "ytcihplachlokiaadoor", sum := "67b1ed03d9474616c7602269c2be6fade7b2fe50d7465bf05b49f5f27b78f766", func := "loop.example/stile/laws.FnPicOne", spec := "fnPicOne", unfollowed := true, recurses := true, named := ["loop.example/stile/impl.devKinds"], apart := false, laid := [("loop.example/stile/impl.devKinds", laid_loop_example_stile_impl_devKinds)], narrowed := true }
def FnPicOneUptoSaid : Prop := fnPicOneUptoRow.holds Tryd.pinned (OpenSpec.upto fnPicOneSpec)

/-- 'laws.FnExactPicMake', WHERE WHAT IT READS IS OF BULK AT MOST 1048576: true; the input reads as it did. -/
def fnExactPicMakeUptoRow : OpenClaim := { program := "ytcihplachlokiaadoor", sum := "67b1ed03d9474616c7602269c2be6fade7b2fe50d7465bf05b49f5f27b78f766", func := "loop.example/stile/laws.FnExactPicMake", spec := "fnExactPicMake", named := ["loop.example/stile/impl.devKinds"], apart := false, laid := [("loop.example/stile/impl.devKinds", laid_loop_example_stile_impl_devKinds)], narrowed := true }
def FnExactPicMakeUptoSaid : Prop := fnExactPicMakeUptoRow.holds Tryd.pinned (OpenSpec.upto fnExactPicMakeSpec)

/-- 'laws.FnExactPicRead', WHERE WHAT IT READS IS OF BULK AT MOST 1048576: true; the input reads as it did. -/
def fnExactPicReadUptoRow : OpenClaim := { program := "ytcihplachlokiaadoor", sum := "67b1ed03d9474616c7602269c2be6fade7b2fe50d7465bf05b49f5f27b78f766", func := "loop.example/stile/laws.FnExactPicRead", spec := "fnExactPicRead", unfollowed := true, recurses := true, named := ["loop.example/stile/impl.devKinds"], apart := false, laid := [("loop.example/stile/impl.devKinds", laid_loop_example_stile_impl_devKinds)], narrowed := true }
def FnExactPicReadUptoSaid : Prop := fnExactPicReadUptoRow.holds Tryd.pinned (OpenSpec.upto fnExactPicReadSpec)

end Rows
end Go.Proofs.YtcihplachlokiaaDoor
