/-
  NARROWER THAN 'FOR EVERY INPUT', by the rows' own cells (each row's printed sentence says how): FnExactPeepTurn: laid.
  DERIVED. THE GIVEN ROWS OF THIS SEAT. 1 by the template 'for every input the law returns true; each argument reads behind the call as it read before'; 0 by the template 'total and deterministic' (their statements: YtlgacbjopobeoaaDoorTotals.lean).
  GIVEN WITH THE SEED: the statements are not yours to turn. If you find one false, say at which input.
  Laid BY PROGRAM, IN A SANDBOX (cutbox-rows.mjs): the forced cells as the released guide's own fill.sh prints them over the translation 441f96f431386112… (all of the seat's roots in one cut). By AI agents, Wed Nov 11 2026. No macro, syntax, notation, axiom, sorry.
-/
import Derived.Test.YtlgacbjopobeoaaDoorChecked
import GoSem.Claim
import GoSem.ClaimJoined
import GoSem.ClaimMapViews
import Derived.JoinedTies
import Derived.KernelRfl
namespace Go.Proofs.YtlgacbjopobeoaaDoor
/- THE CELL 'sum', in the pinned program and in every row, IS THE sha256 OF THE DUMP (.gsa) THAT YtlgacbjopobeoaaDoorProg.lean LOADS. Nothing in Lean hashes anything: it is a label: what it is worth is what the hold of that sum in a sandbox is worth. -/
noncomputable def Tryd.pinned : Pinned := { name := "ytlgacbjopobeoaadoor", sum := "441f96f431386112afd81c4d3e16ca9b67d2d74de6de025e5af6708c9353320f", checked := Tryd.checked }
namespace Rows
def none {H : Type} : Left H := { results := [], args := [] }

/- WHAT THE LISTED PACKAGE-LEVEL VARIABLES READ AS WHEN THE CALL BEGINS. Each datum BY PROGRAM (the guide's laid-datum.mjs) off the statement by which the dump's own 'gosem.cut.vars' lays the variable. In a bare row this is a premise. The card (YtlgacbjopobeoaaDoorCards.lean) ties it to the program's text. -/
def laid_loop_example_stile_impl_devKinds {H : Type} : DataW H := .agg [.agg [.lit (.string []), .lit (.int .i64 0), .lit (.bool false), .lit (.bool false), .lit (.bool false)], .agg [.lit (.string [88]), .lit (.int .i64 32), .lit (.bool true), .lit (.bool false), .lit (.bool false)], .agg [.lit (.string [89]), .lit (.int .i64 32), .lit (.bool true), .lit (.bool false), .lit (.bool false)], .agg [.lit (.string [77]), .lit (.int .i64 64), .lit (.bool true), .lit (.bool false), .lit (.bool false)], .agg [.lit (.string [83]), .lit (.int .i64 16), .lit (.bool true), .lit (.bool false), .lit (.bool false)], .agg [.lit (.string [69]), .lit (.int .i64 32), .lit (.bool false), .lit (.bool false), .lit (.bool false)], .agg [.lit (.string [71]), .lit (.int .i64 5), .lit (.bool true), .lit (.bool false), .lit (.bool false)], .agg [.lit (.string [84]), .lit (.int .i64 16), .lit (.bool true), .lit (.bool true), .lit (.bool false)], .agg [.lit (.string [67]), .lit (.int .i64 16), .lit (.bool true), .lit (.bool true), .lit (.bool false)], .agg [.lit (.string [68]), .lit (.int .i64 32), .lit (.bool false), .lit (.bool true), .lit (.bool false)], .agg [.lit (.string [82]), .lit (.int .i64 16), .lit (.bool false), .lit (.bool false), .lit (.bool true)], .agg [.lit (.string []), .lit (.int .i64 0), .lit (.bool false), .lit (.bool true), .lit (.bool false)], .agg [.lit (.string []), .lit (.int .i64 0), .lit (.bool false), .lit (.bool false), .lit (.bool true)], .agg [.lit (.string []), .lit (.int .i64 0), .lit (.bool false), .lit (.bool false), .lit (.bool true)]]
def laid_loop_example_stile_impl_cmpRows {H : Type} : DataW H := .agg [.agg [.lit (.string []), .lit (.int .i64 0), .lit (.int .i64 0)], .agg [.lit (.string [60]), .lit (.int .i64 5), .lit (.int .i64 6)], .agg [.lit (.string [60, 61]), .lit (.int .i64 6), .lit (.int .i64 5)], .agg [.lit (.string [61]), .lit (.int .i64 4), .lit (.int .i64 3)], .agg [.lit (.string [60, 62]), .lit (.int .i64 3), .lit (.int .i64 4)], .agg [.lit (.string [62, 61]), .lit (.int .i64 1), .lit (.int .i64 2)], .agg [.lit (.string [62]), .lit (.int .i64 2), .lit (.int .i64 1)]]

/-- 'laws.FnExactPeepTurn': WHATEVER THE INPUT: true; the input reads as it did. -/
def fnExactPeepTurnSpec : ChangeSpec := { name := "fnExactPeepTurn", vars := ["loop.example/stile/impl.devKinds", "loop.example/stile/impl.cmpRows"], fn := fun _ => fun
  | [d, g1, g2] => { results := [.lit (.bool true)], args := [d], vars := [g1, g2] }
  | _ => none }
def fnExactPeepTurnRow : OpenClaim := { program := "ytlgacbjopobeoaadoor", sum := "441f96f431386112afd81c4d3e16ca9b67d2d74de6de025e5af6708c9353320f", func := "loop.example/stile/laws.FnExactPeepTurn", spec := "fnExactPeepTurn", unfollowed := true, recurses := true, named := ["loop.example/stile/impl.devKinds", "loop.example/stile/impl.cmpRows"], apart := false, laid := [("loop.example/stile/impl.devKinds", laid_loop_example_stile_impl_devKinds), ("loop.example/stile/impl.cmpRows", laid_loop_example_stile_impl_cmpRows)] }
def FnExactPeepTurnSaid : Prop := fnExactPeepTurnRow.holds Tryd.pinned (OpenSpec.ofChange fnExactPeepTurnSpec)

/-- ITS FALSE NEIGHBOUR: 'it returns false'. Refute it at one input. -/
def fnExactPeepTurnWrong : ChangeSpec := { name := "fnExactPeepTurn", vars := ["loop.example/stile/impl.devKinds", "loop.example/stile/impl.cmpRows"], fn := fun _ => fun
  | [d, g1, g2] => { results := [.lit (.bool false)], args := [d], vars := [g1, g2] }
  | _ => none }
def FnExactPeepTurnWrongFalsely : Prop := fnExactPeepTurnRow.holds Tryd.pinned (OpenSpec.ofChange fnExactPeepTurnWrong)

/- THE SECOND FORM. 'bulk': how many values and letters a reading holds, each counted each time it is reached (what is shared counts as often as it is met; a slice's spare places count too). A statement '..UptoSaid' is the law's where the arguments, and the package variables that the reading takes, are together of bulk at most 1048576: NARROWER than '..Said'. Prove '..Said' where nothing that the law and all that it calls make is longer than what came in: it says more and counts as full. Else prove '..UptoSaid'. A law counts once. -/
mutual
def uptoBulk {H : Type} : DataW H → Nat
  | .lit (.string bytes) => bytes.length + 1
  | .lit _ => 1
  | .nil => 1
  | .ptr d => uptoBulk d + 1
  | .slice elems spare => uptoBulkAll elems + uptoBulkAll spare + 1
  | .agg parts => uptoBulkAll parts + 1
  | .iface _ d => uptoBulk d + 1
  | .map entries => uptoBulkEntries entries + 1
  | .held _ => 1
def uptoBulkAll {H : Type} : List (DataW H) → Nat
  | [] => 0
  | d :: r => uptoBulk d + uptoBulkAll r
def uptoBulkEntries {H : Type} : List (Lit × DataW H) → Nat
  | [] => 0
  | x :: r => uptoBulkEntry x + uptoBulkEntries r
def uptoBulkEntry {H : Type} : Lit × DataW H → Nat
  | (.string bytes, d) => bytes.length + uptoBulk d + 1
  | (_, d) => uptoBulk d + 1
 end
def uptoSmall : (H : Type) → List (DataW H) → Bool := fun _ ds => decide (uptoBulkAll ds ≤ 1048576)
def OpenSpec.upto (s : _root_.Go.ChangeSpec) : _root_.Go.OpenSpec := { _root_.Go.OpenSpec.ofChange s with cond := some uptoSmall }

/-- 'laws.FnExactPeepTurn', WHERE WHAT IT READS IS OF BULK AT MOST 1048576: true; the input reads as it did. -/
def fnExactPeepTurnUptoRow : OpenClaim := { program := "ytlgacbjopobeoaadoor", sum := "441f96f431386112afd81c4d3e16ca9b67d2d74de6de025e5af6708c9353320f", func := "loop.example/stile/laws.FnExactPeepTurn", spec := "fnExactPeepTurn", unfollowed := true, recurses := true, named := ["loop.example/stile/impl.devKinds", "loop.example/stile/impl.cmpRows"], apart := false, laid := [("loop.example/stile/impl.devKinds", laid_loop_example_stile_impl_devKinds), ("loop.example/stile/impl.cmpRows", laid_loop_example_stile_impl_cmpRows)], narrowed := true }
def FnExactPeepTurnUptoSaid : Prop := fnExactPeepTurnUptoRow.holds Tryd.pinned (OpenSpec.upto fnExactPeepTurnSpec)

end Rows
end Go.Proofs.YtlgacbjopobeoaaDoor
