/-
  No cell of these rows narrows 'for every input' (looked for: loops, veiled, ifaces, maps, wideKeys, modest, calm, conditions, laid).
  DERIVED. THE GIVEN ROWS OF THIS SEAT. 4 by the template 'for every input the law returns true; each argument reads behind the call as it read before'; 0 by the template 'total and deterministic' (their statements: YtlpoplnghfohmaaTotals.lean).
  GIVEN WITH THE SEED: the statements are not yours to turn. If you find one false, say at which input.
  Laid BY PROGRAM, IN A SANDBOX (cutbox-rows.mjs): the forced cells as the released guide's own fill.sh prints them over the translation d15ce2129a0c6439… (all of the seat's roots in one cut). By AI agents, Wed Nov 11 2026. No macro, syntax, notation, axiom, sorry.
-/
import Derived.Test.YtlpoplnghfohmaaChecked
import GoSem.Claim
import GoSem.ClaimJoined
import GoSem.ClaimMapViews
import Derived.JoinedTies
import Derived.KernelRfl
namespace Go.Proofs.Ytlpoplnghfohmaa
/- THE CELL 'sum', in the pinned program and in every row, IS THE sha256 OF THE DUMP (.gsa) THAT YtlpoplnghfohmaaProg.lean LOADS. Nothing in Lean hashes anything: it is a label: what it is worth is what the hold of that sum in a sandbox is worth. -/
noncomputable def Try.pinned : Pinned := { name := "ytlpoplnghfohmaa", sum := "d15ce2129a0c643910a3c3ca13e1499e9daff2ea95af27f83aac72134c477a9b", checked := Try.checked }
namespace Rows
def none {H : Type} : Left H := { results := [], args := [] }

/-- 'laws.FnActTimer': WHATEVER THE INPUT: true; the input reads as it did. -/
def fnActTimerSpec : ChangeSpec := { name := "fnActTimer", fn := fun _ => fun
  | [d] => { results := [.lit (.bool true)], args := [d] }
  | _ => none }
def fnActTimerRow : OpenClaim := { program := "ytlpoplnghfohmaa", sum := "d15ce2129a0c643910a3c3ca13e1499e9daff2ea95af27f83aac72134c477a9b", func := "loop.example/stile/laws.FnActTimer", spec := "fnActTimer", unfollowed := true, recurses := true, apart := false }
def FnActTimerSaid : Prop := fnActTimerRow.holds Try.pinned (OpenSpec.ofChange fnActTimerSpec)

/-- ITS FALSE NEIGHBOUR: 'it returns false'. Refute it at one input. -/
def fnActTimerWrong : ChangeSpec := { name := "fnActTimer", fn := fun _ => fun
  | [d] => { results := [.lit (.bool false)], args := [d] }
  | _ => none }
def FnActTimerWrongFalsely : Prop := fnActTimerRow.holds Try.pinned (OpenSpec.ofChange fnActTimerWrong)

/-- 'laws.FnActCount': WHATEVER THE INPUT: true; the input reads as it did. -/
def fnActCountSpec : ChangeSpec := { name := "fnActCount", fn := fun _ => fun
  | [d] => { results := [.lit (.bool true)], args := [d] }
  | _ => none }
def fnActCountRow : OpenClaim := { program := "ytlpoplnghfohmaa", sum := "d15ce2129a0c643910a3c3ca13e1499e9daff2ea95af27f83aac72134c477a9b", func := "loop.example/stile/laws.FnActCount", spec := "fnActCount", unfollowed := true, recurses := true, apart := false }
def FnActCountSaid : Prop := fnActCountRow.holds Try.pinned (OpenSpec.ofChange fnActCountSpec)

/-- ITS FALSE NEIGHBOUR: 'it returns false'. Refute it at one input. -/
def fnActCountWrong : ChangeSpec := { name := "fnActCount", fn := fun _ => fun
  | [d] => { results := [.lit (.bool false)], args := [d] }
  | _ => none }
def FnActCountWrongFalsely : Prop := fnActCountRow.holds Try.pinned (OpenSpec.ofChange fnActCountWrong)

/-- 'laws.FnExactActStart': WHATEVER THE INPUT: true; the input reads as it did. -/
def fnExactActStartSpec : ChangeSpec := { name := "fnExactActStart", fn := fun _ => fun
  | [d1, d2] => { results := [.lit (.bool true)], args := [d1, d2] }
  | _ => none }
def fnExactActStartRow : OpenClaim := { program := "ytlpoplnghfohmaa", sum := "d15ce2129a0c643910a3c3ca13e1499e9daff2ea95af27f83aac72134c477a9b", func := "loop.example/stile/laws.FnExactActStart", spec := "fnExactActStart", apart := false }
def FnExactActStartSaid : Prop := fnExactActStartRow.holds Try.pinned (OpenSpec.ofChange fnExactActStartSpec)

/-- ITS FALSE NEIGHBOUR: 'it returns false'. Refute it at one input. -/
def fnExactActStartWrong : ChangeSpec := { name := "fnExactActStart", fn := fun _ => fun
  | [d1, d2] => { results := [.lit (.bool false)], args := [d1, d2] }
  | _ => none }
def FnExactActStartWrongFalsely : Prop := fnExactActStartRow.holds Try.pinned (OpenSpec.ofChange fnExactActStartWrong)

/-- 'laws.FnExactActEnd': WHATEVER THE INPUT: true; the input reads as it did. -/
def fnExactActEndSpec : ChangeSpec := { name := "fnExactActEnd", fn := fun _ => fun
  | [d] => { results := [.lit (.bool true)], args := [d] }
  | _ => none }
def fnExactActEndRow : OpenClaim := { program := "ytlpoplnghfohmaa", sum := "d15ce2129a0c643910a3c3ca13e1499e9daff2ea95af27f83aac72134c477a9b", func := "loop.example/stile/laws.FnExactActEnd", spec := "fnExactActEnd", apart := false }
def FnExactActEndSaid : Prop := fnExactActEndRow.holds Try.pinned (OpenSpec.ofChange fnExactActEndSpec)

/-- ITS FALSE NEIGHBOUR: 'it returns false'. Refute it at one input. -/
def fnExactActEndWrong : ChangeSpec := { name := "fnExactActEnd", fn := fun _ => fun
  | [d] => { results := [.lit (.bool false)], args := [d] }
  | _ => none }
def FnExactActEndWrongFalsely : Prop := fnExactActEndRow.holds Try.pinned (OpenSpec.ofChange fnExactActEndWrong)

/- THE SECOND FORM. 'bulk': how many values and letters a reading holds, each counted each time it is reached (what is shared counts as often as it is met; a slice's spare places count too). A statement '..UptoSaid' is the law's where the arguments, and the package variables that the reading takes, are together of bulk at most 1048576: NARROWER than '..Said'. Prove '..Said' where nothing that the law and all that it calls make is longer than what came in: it says more and counts as full. Else prove '..UptoSaid'. A law counts once. -/
mutual
def uptoBulk {H : Type} : DataW H → Nat
  | .lit (.string bytes) => bytes.length + 1
  | .lit _ => 1
  | .nil => 1
  | .ptr d => uptoBulk d + 1
  | .slice elems spare => uptoBulkAll elems + uptoBulkAll spare + 1
  | .agg parts => uptoBulkAll parts + 1
  | .iface _ d => uptoBulk d + 1
  | .map entries => uptoBulkEntries entries + 1
  | .held _ => 1
def uptoBulkAll {H : Type} : List (DataW H) → Nat
  | [] => 0
  | d :: r => uptoBulk d + uptoBulkAll r
def uptoBulkEntries {H : Type} : List (Lit × DataW H) → Nat
  | [] => 0
  | x :: r => uptoBulkEntry x + uptoBulkEntries r
def uptoBulkEntry {H : Type} : Lit × DataW H → Nat
  | (.string bytes, d) => bytes.length + uptoBulk d + 1
  | (_, d) => uptoBulk d + 1
 end
def uptoSmall : (H : Type) → List (DataW H) → Bool := fun _ ds => decide (uptoBulkAll ds ≤ 1048576)
def OpenSpec.upto (s : _root_.Go.ChangeSpec) : _root_.Go.OpenSpec := { _root_.Go.OpenSpec.ofChange s with cond := some uptoSmall }

/-- 'laws.FnActTimer', WHERE WHAT IT READS IS OF BULK AT MOST 1048576: true; the input reads as it did. -/
def fnActTimerUptoRow : OpenClaim := { program := "ytlpoplnghfohmaa", sum := "d15ce2129a0c643910a3c3ca13e1499e9daff2ea95af27f83aac72134c477a9b", func := "loop.example/stile/laws.FnActTimer", spec := "fnActTimer", unfollowed := true, recurses := true, apart := false, narrowed := true }
def FnActTimerUptoSaid : Prop := fnActTimerUptoRow.holds Try.pinned (OpenSpec.upto fnActTimerSpec)

/-- 'laws.FnActCount', WHERE WHAT IT READS IS OF BULK AT MOST 1048576: true; the input reads as it did. -/
def fnActCountUptoRow : OpenClaim := { program := "ytlpoplnghfohmaa", sum := "d15ce2129a0c643910a3c3ca13e1499e9daff2ea95af27f83aac72134c477a9b", func := "loop.example/stile/laws.FnActCount", spec := "fnActCount", unfollowed := true, recurses := true, apart := false, narrowed := true }
def FnActCountUptoSaid : Prop := fnActCountUptoRow.holds Try.pinned (OpenSpec.upto fnActCountSpec)

/-- 'laws.FnExactActStart', WHERE WHAT IT READS IS OF BULK AT MOST 1048576: true; the input reads as it did. -/
def fnExactActStartUptoRow : OpenClaim := { program := "ytlpoplnghfohmaa", sum := "d15ce2129a0c643910a3c3ca13e1499e9daff2ea95af27f83aac72134c477a9b", func := "loop.example/stile/laws.FnExactActStart", spec := "fnExactActStart", apart := false, narrowed := true }
def FnExactActStartUptoSaid : Prop := fnExactActStartUptoRow.holds Try.pinned (OpenSpec.upto fnExactActStartSpec)

/-- 'laws.FnExactActEnd', WHERE WHAT IT READS IS OF BULK AT MOST 1048576: true; the input reads as it did. -/
def fnExactActEndUptoRow : OpenClaim := { program := "ytlpoplnghfohmaa", sum := "d15ce2129a0c643910a3c3ca13e1499e9daff2ea95af27f83aac72134c477a9b", func := "loop.example/stile/laws.FnExactActEnd", spec := "fnExactActEnd", apart := false, narrowed := true }
def FnExactActEndUptoSaid : Prop := fnExactActEndUptoRow.holds Try.pinned (OpenSpec.upto fnExactActEndSpec)

end Rows
end Go.Proofs.Ytlpoplnghfohmaa
