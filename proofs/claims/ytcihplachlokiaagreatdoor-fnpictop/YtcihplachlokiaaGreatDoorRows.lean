/-
  NARROWER THAN 'FOR EVERY INPUT', by the rows' own cells (each row's printed sentence says how): FnPicTop: laid.
  DERIVED. THE GIVEN ROWS OF THIS SEAT. 1 by the template 'for every input the law returns true; each argument reads behind the call as it read before'; 0 by the template 'total and deterministic' (their statements: YtcihplachlokiaaGreatDoorTotals.lean).
  GIVEN WITH THE SEED: the statements are not yours to turn. If you find one false, say at which input.
  Laid BY PROGRAM, IN A SANDBOX (cutbox-rows.mjs): the forced cells as the released guide's own fill.sh prints them over the translation 2813398cfa06e862… (all of the seat's roots in one cut). By AI agents, Wed Nov 11 2026. No macro, syntax, notation, axiom, sorry.
-/
import Derived.Test.YtcihplachlokiaaGreatDoorChecked
import GoSem.Claim
import GoSem.ClaimJoined
import GoSem.ClaimMapViews
import Derived.JoinedTies
import Derived.KernelRfl
namespace Go.Proofs.YtcihplachlokiaaGreatDoor
/- THE CELL 'sum', in the pinned program and in every row, IS THE sha256 OF THE DUMP (.gsa) THAT YtcihplachlokiaaGreatDoorProg.lean LOADS. Nothing in Lean hashes anything: it is a label: what it is worth is what the hold of that sum in a sandbox is worth. -/
noncomputable def Tryz.pinned : Pinned := { name := "ytcihplachlokiaagreatdoor", sum := "2813398cfa06e862877f3bb911c53e6ce50dc15d0e837ed5ff5a74d12fab62fa", checked := Tryz.checked }
namespace Rows
def none {H : Type} : Left H := { results := [], args := [] }

/- WHAT THE LISTED PACKAGE-LEVEL VARIABLES READ AS WHEN THE CALL BEGINS. Each datum BY PROGRAM (the guide's laid-datum.mjs) off the statement by which the dump's own 'gosem.cut.vars' lays the variable. In a bare row this is a premise. The card (YtcihplachlokiaaGreatDoorCards.lean) ties it to the program's text. -/
def laid_loop_example_stile_impl_devKinds {H : Type} : DataW H := .agg [.agg [.lit (.string []), .lit (.int .i64 0), .lit (.bool false), .lit (.bool false), .lit (.bool false)], .agg [.lit (.string [88]), .lit (.int .i64 32), .lit (.bool true), .lit (.bool false), .lit (.bool false)], .agg [.lit (.string [89]), .lit (.int .i64 32), .lit (.bool true), .lit (.bool false), .lit (.bool false)], .agg [.lit (.string [77]), .lit (.int .i64 64), .lit (.bool true), .lit (.bool false), .lit (.bool false)], .agg [.lit (.string [83]), .lit (.int .i64 16), .lit (.bool true), .lit (.bool false), .lit (.bool false)], .agg [.lit (.string [69]), .lit (.int .i64 32), .lit (.bool false), .lit (.bool false), .lit (.bool false)], .agg [.lit (.string [71]), .lit (.int .i64 5), .lit (.bool true), .lit (.bool false), .lit (.bool false)], .agg [.lit (.string [84]), .lit (.int .i64 16), .lit (.bool true), .lit (.bool true), .lit (.bool false)], .agg [.lit (.string [67]), .lit (.int .i64 16), .lit (.bool true), .lit (.bool true), .lit (.bool false)], .agg [.lit (.string [68]), .lit (.int .i64 32), .lit (.bool false), .lit (.bool true), .lit (.bool false)], .agg [.lit (.string [82]), .lit (.int .i64 16), .lit (.bool false), .lit (.bool false), .lit (.bool true)], .agg [.lit (.string []), .lit (.int .i64 0), .lit (.bool false), .lit (.bool true), .lit (.bool false)], .agg [.lit (.string []), .lit (.int .i64 0), .lit (.bool false), .lit (.bool false), .lit (.bool true)], .agg [.lit (.string []), .lit (.int .i64 0), .lit (.bool false), .lit (.bool false), .lit (.bool true)]]

/-- 'laws.FnPicTop': WHATEVER THE INPUT: true; the input reads as it did. -/
def fnPicTopSpec : ChangeSpec := { name := "fnPicTop", vars := ["loop.example/stile/impl.devKinds"], fn := fun _ => fun
  | [d1, d2, g1] => { results := [.lit (.bool true)], args := [d1, d2], vars := [g1] }
  | _ => none }
def fnPicTopRow : OpenClaim := { program := "ytcihplachlokiaagreatdoor", sum := "2813398cfa06e862877f3bb911c53e6ce50dc15d0e837ed5ff5a74d12fab62fa", func := "loop.example/stile/laws.FnPicTop", spec := "fnPicTop", unfollowed := true, recurses := true, named := ["loop.example/stile/impl.devKinds"], apart := false, laid := [("loop.example/stile/impl.devKinds", laid_loop_example_stile_impl_devKinds)] }
def FnPicTopSaid : Prop := fnPicTopRow.holds Tryz.pinned (OpenSpec.ofChange fnPicTopSpec)

/-- ITS FALSE NEIGHBOUR: 'it returns false'. Refute it at one input. -/
def fnPicTopWrong : ChangeSpec := { name := "fnPicTop", vars := ["loop.example/stile/impl.devKinds"], fn := fun _ => fun
  | [d1, d2, g1] => { results := [.lit (.bool false)], args := [d1, d2], vars := [g1] }
  | _ => none }
def FnPicTopWrongFalsely : Prop := fnPicTopRow.holds Tryz.pinned (OpenSpec.ofChange fnPicTopWrong)

/- THE SECOND FORM. 'bulk': how many values and letters a reading holds, each counted each time it is reached (what is shared counts as often as it is met; a slice's spare places count too). A statement '..UptoSaid' is the law's where the arguments, and the package variables that the reading takes, are together of bulk at most 1048576: NARROWER than '..Said'. Prove '..Said' where nothing that the law and all that it calls make is longer than what came in: it says more and counts as full. Else prove '..UptoSaid'. A law counts once. -/
mutual
def uptoBulk {H : Type} : DataW H → Nat
  | .lit (.string bytes) => bytes.length + 1
  | .lit _ => 1
  | .nil => 1
  | .ptr d => uptoBulk d + 1
  | .slice elems spare => uptoBulkAll elems + uptoBulkAll spare + 1
  | .agg parts => uptoBulkAll parts + 1
  | .iface _ d => uptoBulk d + 1
  | .map entries => uptoBulkEntries entries + 1
  | .held _ => 1
def uptoBulkAll {H : Type} : List (DataW H) → Nat
  | [] => 0
  | d :: r => uptoBulk d + uptoBulkAll r
def uptoBulkEntries {H : Type} : List (Lit × DataW H) → Nat
  | [] => 0
  | x :: r => uptoBulkEntry x + uptoBulkEntries r
def uptoBulkEntry {H : Type} : Lit × DataW H → Nat
  | (.string bytes, d) => bytes.length + uptoBulk d + 1
  | (_, d) => uptoBulk d + 1
 end
def uptoSmall : (H : Type) → List (DataW H) → Bool := fun _ ds => decide (uptoBulkAll ds ≤ 1048576)
def OpenSpec.upto (s : _root_.Go.ChangeSpec) : _root_.Go.OpenSpec := { _root_.Go.OpenSpec.ofChange s with cond := some uptoSmall }

/-- 'laws.FnPicTop', WHERE WHAT IT READS IS OF BULK AT MOST 1048576: true; the input reads as it did. -/
def fnPicTopUptoRow : OpenClaim := { program := "ytcihplachlokiaagreatdoor", sum := "2813398cfa06e862877f3bb911c53e6ce50dc15d0e837ed5ff5a74d12fab62fa", func := "loop.example/stile/laws.FnPicTop", spec := "fnPicTop", unfollowed := true, recurses := true, named := ["loop.example/stile/impl.devKinds"], apart := false, laid := [("loop.example/stile/impl.devKinds", laid_loop_example_stile_impl_devKinds)], narrowed := true }
def FnPicTopUptoSaid : Prop := fnPicTopUptoRow.holds Tryz.pinned (OpenSpec.upto fnPicTopSpec)

end Rows
end Go.Proofs.YtcihplachlokiaaGreatDoor
