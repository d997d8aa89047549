/-
  NARROWER THAN 'FOR EVERY INPUT', by the rows' own cells (each row's printed sentence says how): FnDevBack: laid · FnDevKinds: laid · FnExactDevSize: laid · FnExactDevLetter: laid · FnExactDevOk: laid · FnExactDevIsBit: laid · FnExactDevIsWhole: laid · FnExactDevIsReal: laid · FnExactDevText: laid · FnExactDevRead: laid.
  DERIVED. THE GIVEN ROWS OF THIS SEAT. 10 by the template 'for every input the law returns true; each argument reads behind the call as it read before'; 0 by the template 'total and deterministic' (their statements: YtkaoajihpclpiaaDoorTotals.lean).
  GIVEN WITH THE SEED: the statements are not yours to turn. If you find one false, say at which input.
  Laid BY PROGRAM, IN A SANDBOX (cutbox-rows.mjs): the forced cells as the released guide's own fill.sh prints them over the translation 4281ac35dd4a93c6… (all of the seat's roots in one cut). By AI agents, Wed Nov 11 2026. No macro, syntax, notation, axiom, sorry.
-/
import Derived.Test.YtkaoajihpclpiaaDoorChecked
import GoSem.Claim
import GoSem.ClaimJoined
import GoSem.ClaimMapViews
import Derived.JoinedTies
import Derived.KernelRfl
namespace Go.Proofs.YtkaoajihpclpiaaDoor
/- THE CELL 'sum', in the pinned program and in every row, IS THE sha256 OF THE DUMP (.gsa) THAT YtkaoajihpclpiaaDoorProg.lean LOADS. Nothing in Lean hashes anything: it is a label: what it is worth is what the hold of that sum in a sandbox is worth. -/
noncomputable def Tryd.pinned : Pinned := { name := "ytkaoajihpclpiaadoor", sum := "4281ac35dd4a93c646cdf3eb08b52fa895aa144e95e5ea88aad42c7107b5ec3b", checked := Tryd.checked }
namespace Rows
def none {H : Type} : Left H := { results := [], args := [] }

/- WHAT THE LISTED PACKAGE-LEVEL VARIABLES READ AS WHEN THE CALL BEGINS. Each datum BY PROGRAM (the guide's laid-datum.mjs) off the statement by which the dump's own 'gosem.cut.vars' lays the variable. In a bare row this is a premise. The card (YtkaoajihpclpiaaDoorCards.lean) ties it to the program's text. -/
def laid_math_bits_deBruijn32tab {H : Type} : DataW H := .agg [.lit (.int .u8 0), .lit (.int .u8 1), .lit (.int .u8 28), .lit (.int .u8 2), .lit (.int .u8 29), .lit (.int .u8 14), .lit (.int .u8 24), .lit (.int .u8 3), .lit (.int .u8 30), .lit (.int .u8 22), .lit (.int .u8 20), .lit (.int .u8 15), .lit (.int .u8 25), .lit (.int .u8 17), .lit (.int .u8 4), .lit (.int .u8 8), .lit (.int .u8 31), .lit (.int .u8 27), .lit (.int .u8 13), .lit (.int .u8 23), .lit (.int .u8 21), .lit (.int .u8 19), .lit (.int .u8 16), .lit (.int .u8 7), .lit (.int .u8 26), .lit (.int .u8 12), .lit (.int .u8 18), .lit (.int .u8 6), .lit (.int .u8 11), .lit (.int .u8 5), .lit (.int .u8 10), .lit (.int .u8 9)]
def laid_math_bits_deBruijn64tab {H : Type} : DataW H := .agg [.lit (.int .u8 0), .lit (.int .u8 1), .lit (.int .u8 56), .lit (.int .u8 2), .lit (.int .u8 57), .lit (.int .u8 49), .lit (.int .u8 28), .lit (.int .u8 3), .lit (.int .u8 61), .lit (.int .u8 58), .lit (.int .u8 42), .lit (.int .u8 50), .lit (.int .u8 38), .lit (.int .u8 29), .lit (.int .u8 17), .lit (.int .u8 4), .lit (.int .u8 62), .lit (.int .u8 47), .lit (.int .u8 59), .lit (.int .u8 36), .lit (.int .u8 45), .lit (.int .u8 43), .lit (.int .u8 51), .lit (.int .u8 22), .lit (.int .u8 53), .lit (.int .u8 39), .lit (.int .u8 33), .lit (.int .u8 30), .lit (.int .u8 24), .lit (.int .u8 18), .lit (.int .u8 12), .lit (.int .u8 5), .lit (.int .u8 63), .lit (.int .u8 55), .lit (.int .u8 48), .lit (.int .u8 27), .lit (.int .u8 60), .lit (.int .u8 41), .lit (.int .u8 37), .lit (.int .u8 16), .lit (.int .u8 46), .lit (.int .u8 35), .lit (.int .u8 44), .lit (.int .u8 21), .lit (.int .u8 52), .lit (.int .u8 32), .lit (.int .u8 23), .lit (.int .u8 11), .lit (.int .u8 54), .lit (.int .u8 26), .lit (.int .u8 40), .lit (.int .u8 15), .lit (.int .u8 34), .lit (.int .u8 20), .lit (.int .u8 31), .lit (.int .u8 10), .lit (.int .u8 25), .lit (.int .u8 14), .lit (.int .u8 19), .lit (.int .u8 9), .lit (.int .u8 13), .lit (.int .u8 8), .lit (.int .u8 7), .lit (.int .u8 6)]
def laid_internal_strconv_uint64pow10 {H : Type} : DataW H := .agg [.lit (.int .u64 1), .lit (.int .u64 10), .lit (.int .u64 100), .lit (.int .u64 1000), .lit (.int .u64 10000), .lit (.int .u64 100000), .lit (.int .u64 1000000), .lit (.int .u64 10000000), .lit (.int .u64 100000000), .lit (.int .u64 1000000000), .lit (.int .u64 10000000000), .lit (.int .u64 100000000000), .lit (.int .u64 1000000000000), .lit (.int .u64 10000000000000), .lit (.int .u64 100000000000000), .lit (.int .u64 1000000000000000), .lit (.int .u64 10000000000000000), .lit (.int .u64 100000000000000000), .lit (.int .u64 1000000000000000000), .lit (.int .u64 10000000000000000000)]
def laid_loop_example_stile_impl_devKinds {H : Type} : DataW H := .agg [.agg [.lit (.string []), .lit (.int .i64 0), .lit (.bool false), .lit (.bool false), .lit (.bool false)], .agg [.lit (.string [88]), .lit (.int .i64 32), .lit (.bool true), .lit (.bool false), .lit (.bool false)], .agg [.lit (.string [89]), .lit (.int .i64 32), .lit (.bool true), .lit (.bool false), .lit (.bool false)], .agg [.lit (.string [77]), .lit (.int .i64 64), .lit (.bool true), .lit (.bool false), .lit (.bool false)], .agg [.lit (.string [83]), .lit (.int .i64 16), .lit (.bool true), .lit (.bool false), .lit (.bool false)], .agg [.lit (.string [69]), .lit (.int .i64 32), .lit (.bool false), .lit (.bool false), .lit (.bool false)], .agg [.lit (.string [71]), .lit (.int .i64 5), .lit (.bool true), .lit (.bool false), .lit (.bool false)], .agg [.lit (.string [84]), .lit (.int .i64 16), .lit (.bool true), .lit (.bool true), .lit (.bool false)], .agg [.lit (.string [67]), .lit (.int .i64 16), .lit (.bool true), .lit (.bool true), .lit (.bool false)], .agg [.lit (.string [68]), .lit (.int .i64 32), .lit (.bool false), .lit (.bool true), .lit (.bool false)], .agg [.lit (.string [82]), .lit (.int .i64 16), .lit (.bool false), .lit (.bool false), .lit (.bool true)], .agg [.lit (.string []), .lit (.int .i64 0), .lit (.bool false), .lit (.bool true), .lit (.bool false)], .agg [.lit (.string []), .lit (.int .i64 0), .lit (.bool false), .lit (.bool false), .lit (.bool true)], .agg [.lit (.string []), .lit (.int .i64 0), .lit (.bool false), .lit (.bool false), .lit (.bool true)]]
def laid_loop_example_stile_impl_devWords {H : Type} : DataW H := .agg [.lit (.string [110, 97, 110]), .lit (.string [105, 110, 102]), .lit (.string [45, 105, 110, 102]), .lit (.string [45, 48, 46, 48])]

/-- 'laws.FnDevBack': WHATEVER THE INPUT: true; the input reads as it did. -/
def fnDevBackSpec : ChangeSpec := { name := "fnDevBack", vars := ["loop.example/stile/impl.devWords", "loop.example/stile/impl.devKinds"], fn := fun _ => fun
  | [d1, d2, g1, g2] => { results := [.lit (.bool true)], args := [d1, d2], vars := [g1, g2] }
  | _ => none }
def fnDevBackRow : OpenClaim := { program := "ytkaoajihpclpiaadoor", sum := "4281ac35dd4a93c646cdf3eb08b52fa895aa144e95e5ea88aad42c7107b5ec3b", func := "loop.example/stile/laws.FnDevBack", spec := "fnDevBack", inPlace := ["internal/abi.NoEscape", "internal/bytealg.MakeNoZero"], recurses := true, named := ["loop.example/stile/impl.devWords", "loop.example/stile/impl.devKinds", "internal/strconv.uint64pow10", "math/bits.deBruijn32tab", "math/bits.deBruijn64tab"], apart := false, laid := [("math/bits.deBruijn32tab", laid_math_bits_deBruijn32tab), ("math/bits.deBruijn64tab", laid_math_bits_deBruijn64tab), ("internal/strconv.uint64pow10", laid_internal_strconv_uint64pow10), ("loop.example/stile/impl.devKinds", laid_loop_example_stile_impl_devKinds), ("loop.example/stile/impl.devWords", laid_loop_example_stile_impl_devWords)] }
def FnDevBackSaid : Prop := fnDevBackRow.holds Tryd.pinned (OpenSpec.ofChange fnDevBackSpec)

/-- ITS FALSE NEIGHBOUR: 'it returns false'. Refute it at one input. -/
def fnDevBackWrong : ChangeSpec := { name := "fnDevBack", vars := ["loop.example/stile/impl.devWords", "loop.example/stile/impl.devKinds"], fn := fun _ => fun
  | [d1, d2, g1, g2] => { results := [.lit (.bool false)], args := [d1, d2], vars := [g1, g2] }
  | _ => none }
def FnDevBackWrongFalsely : Prop := fnDevBackRow.holds Tryd.pinned (OpenSpec.ofChange fnDevBackWrong)

/-- 'laws.FnDevKinds': WHATEVER THE INPUT: true; the input reads as it did. -/
def fnDevKindsSpec : ChangeSpec := { name := "fnDevKinds", vars := ["loop.example/stile/impl.devKinds"], fn := fun _ => fun
  | [d, g1] => { results := [.lit (.bool true)], args := [d], vars := [g1] }
  | _ => none }
def fnDevKindsRow : OpenClaim := { program := "ytkaoajihpclpiaadoor", sum := "4281ac35dd4a93c646cdf3eb08b52fa895aa144e95e5ea88aad42c7107b5ec3b", func := "loop.example/stile/laws.FnDevKinds", spec := "fnDevKinds", named := ["loop.example/stile/impl.devKinds"], apart := false, laid := [("loop.example/stile/impl.devKinds", laid_loop_example_stile_impl_devKinds)] }
def FnDevKindsSaid : Prop := fnDevKindsRow.holds Tryd.pinned (OpenSpec.ofChange fnDevKindsSpec)

/-- ITS FALSE NEIGHBOUR: 'it returns false'. Refute it at one input. -/
def fnDevKindsWrong : ChangeSpec := { name := "fnDevKinds", vars := ["loop.example/stile/impl.devKinds"], fn := fun _ => fun
  | [d, g1] => { results := [.lit (.bool false)], args := [d], vars := [g1] }
  | _ => none }
def FnDevKindsWrongFalsely : Prop := fnDevKindsRow.holds Tryd.pinned (OpenSpec.ofChange fnDevKindsWrong)

/-- 'laws.FnExactDevSize': WHATEVER THE INPUT: true; the input reads as it did. -/
def fnExactDevSizeSpec : ChangeSpec := { name := "fnExactDevSize", vars := ["loop.example/stile/impl.devKinds"], fn := fun _ => fun
  | [d, g1] => { results := [.lit (.bool true)], args := [d], vars := [g1] }
  | _ => none }
def fnExactDevSizeRow : OpenClaim := { program := "ytkaoajihpclpiaadoor", sum := "4281ac35dd4a93c646cdf3eb08b52fa895aa144e95e5ea88aad42c7107b5ec3b", func := "loop.example/stile/laws.FnExactDevSize", spec := "fnExactDevSize", named := ["loop.example/stile/impl.devKinds"], apart := false, laid := [("loop.example/stile/impl.devKinds", laid_loop_example_stile_impl_devKinds)] }
def FnExactDevSizeSaid : Prop := fnExactDevSizeRow.holds Tryd.pinned (OpenSpec.ofChange fnExactDevSizeSpec)

/-- ITS FALSE NEIGHBOUR: 'it returns false'. Refute it at one input. -/
def fnExactDevSizeWrong : ChangeSpec := { name := "fnExactDevSize", vars := ["loop.example/stile/impl.devKinds"], fn := fun _ => fun
  | [d, g1] => { results := [.lit (.bool false)], args := [d], vars := [g1] }
  | _ => none }
def FnExactDevSizeWrongFalsely : Prop := fnExactDevSizeRow.holds Tryd.pinned (OpenSpec.ofChange fnExactDevSizeWrong)

/-- 'laws.FnExactDevLetter': WHATEVER THE INPUT: true; the input reads as it did. -/
def fnExactDevLetterSpec : ChangeSpec := { name := "fnExactDevLetter", vars := ["loop.example/stile/impl.devKinds"], fn := fun _ => fun
  | [d, g1] => { results := [.lit (.bool true)], args := [d], vars := [g1] }
  | _ => none }
def fnExactDevLetterRow : OpenClaim := { program := "ytkaoajihpclpiaadoor", sum := "4281ac35dd4a93c646cdf3eb08b52fa895aa144e95e5ea88aad42c7107b5ec3b", func := "loop.example/stile/laws.FnExactDevLetter", spec := "fnExactDevLetter", named := ["loop.example/stile/impl.devKinds"], apart := false, laid := [("loop.example/stile/impl.devKinds", laid_loop_example_stile_impl_devKinds)] }
def FnExactDevLetterSaid : Prop := fnExactDevLetterRow.holds Tryd.pinned (OpenSpec.ofChange fnExactDevLetterSpec)

/-- ITS FALSE NEIGHBOUR: 'it returns false'. Refute it at one input. -/
def fnExactDevLetterWrong : ChangeSpec := { name := "fnExactDevLetter", vars := ["loop.example/stile/impl.devKinds"], fn := fun _ => fun
  | [d, g1] => { results := [.lit (.bool false)], args := [d], vars := [g1] }
  | _ => none }
def FnExactDevLetterWrongFalsely : Prop := fnExactDevLetterRow.holds Tryd.pinned (OpenSpec.ofChange fnExactDevLetterWrong)

/-- 'laws.FnExactDevOk': WHATEVER THE INPUT: true; the input reads as it did. -/
def fnExactDevOkSpec : ChangeSpec := { name := "fnExactDevOk", vars := ["loop.example/stile/impl.devKinds"], fn := fun _ => fun
  | [d, g1] => { results := [.lit (.bool true)], args := [d], vars := [g1] }
  | _ => none }
def fnExactDevOkRow : OpenClaim := { program := "ytkaoajihpclpiaadoor", sum := "4281ac35dd4a93c646cdf3eb08b52fa895aa144e95e5ea88aad42c7107b5ec3b", func := "loop.example/stile/laws.FnExactDevOk", spec := "fnExactDevOk", named := ["loop.example/stile/impl.devKinds"], apart := false, laid := [("loop.example/stile/impl.devKinds", laid_loop_example_stile_impl_devKinds)] }
def FnExactDevOkSaid : Prop := fnExactDevOkRow.holds Tryd.pinned (OpenSpec.ofChange fnExactDevOkSpec)

/-- ITS FALSE NEIGHBOUR: 'it returns false'. Refute it at one input. -/
def fnExactDevOkWrong : ChangeSpec := { name := "fnExactDevOk", vars := ["loop.example/stile/impl.devKinds"], fn := fun _ => fun
  | [d, g1] => { results := [.lit (.bool false)], args := [d], vars := [g1] }
  | _ => none }
def FnExactDevOkWrongFalsely : Prop := fnExactDevOkRow.holds Tryd.pinned (OpenSpec.ofChange fnExactDevOkWrong)

/-- 'laws.FnExactDevIsBit': WHATEVER THE INPUT: true; the input reads as it did. -/
def fnExactDevIsBitSpec : ChangeSpec := { name := "fnExactDevIsBit", vars := ["loop.example/stile/impl.devKinds"], fn := fun _ => fun
  | [d, g1] => { results := [.lit (.bool true)], args := [d], vars := [g1] }
  | _ => none }
def fnExactDevIsBitRow : OpenClaim := { program := "ytkaoajihpclpiaadoor", sum := "4281ac35dd4a93c646cdf3eb08b52fa895aa144e95e5ea88aad42c7107b5ec3b", func := "loop.example/stile/laws.FnExactDevIsBit", spec := "fnExactDevIsBit", named := ["loop.example/stile/impl.devKinds"], apart := false, laid := [("loop.example/stile/impl.devKinds", laid_loop_example_stile_impl_devKinds)] }
def FnExactDevIsBitSaid : Prop := fnExactDevIsBitRow.holds Tryd.pinned (OpenSpec.ofChange fnExactDevIsBitSpec)

/-- ITS FALSE NEIGHBOUR: 'it returns false'. Refute it at one input. -/
def fnExactDevIsBitWrong : ChangeSpec := { name := "fnExactDevIsBit", vars := ["loop.example/stile/impl.devKinds"], fn := fun _ => fun
  | [d, g1] => { results := [.lit (.bool false)], args := [d], vars := [g1] }
  | _ => none }
def FnExactDevIsBitWrongFalsely : Prop := fnExactDevIsBitRow.holds Tryd.pinned (OpenSpec.ofChange fnExactDevIsBitWrong)

/-- 'laws.FnExactDevIsWhole': WHATEVER THE INPUT: true; the input reads as it did. -/
def fnExactDevIsWholeSpec : ChangeSpec := { name := "fnExactDevIsWhole", vars := ["loop.example/stile/impl.devKinds"], fn := fun _ => fun
  | [d, g1] => { results := [.lit (.bool true)], args := [d], vars := [g1] }
  | _ => none }
def fnExactDevIsWholeRow : OpenClaim := { program := "ytkaoajihpclpiaadoor", sum := "4281ac35dd4a93c646cdf3eb08b52fa895aa144e95e5ea88aad42c7107b5ec3b", func := "loop.example/stile/laws.FnExactDevIsWhole", spec := "fnExactDevIsWhole", named := ["loop.example/stile/impl.devKinds"], apart := false, laid := [("loop.example/stile/impl.devKinds", laid_loop_example_stile_impl_devKinds)] }
def FnExactDevIsWholeSaid : Prop := fnExactDevIsWholeRow.holds Tryd.pinned (OpenSpec.ofChange fnExactDevIsWholeSpec)

/-- ITS FALSE NEIGHBOUR: 'it returns false'. Refute it at one input. -/
def fnExactDevIsWholeWrong : ChangeSpec := { name := "fnExactDevIsWhole", vars := ["loop.example/stile/impl.devKinds"], fn := fun _ => fun
  | [d, g1] => { results := [.lit (.bool false)], args := [d], vars := [g1] }
  | _ => none }
def FnExactDevIsWholeWrongFalsely : Prop := fnExactDevIsWholeRow.holds Tryd.pinned (OpenSpec.ofChange fnExactDevIsWholeWrong)

/-- 'laws.FnExactDevIsReal': WHATEVER THE INPUT: true; the input reads as it did. -/
def fnExactDevIsRealSpec : ChangeSpec := { name := "fnExactDevIsReal", vars := ["loop.example/stile/impl.devKinds"], fn := fun _ => fun
  | [d, g1] => { results := [.lit (.bool true)], args := [d], vars := [g1] }
  | _ => none }
def fnExactDevIsRealRow : OpenClaim := { program := "ytkaoajihpclpiaadoor", sum := "4281ac35dd4a93c646cdf3eb08b52fa895aa144e95e5ea88aad42c7107b5ec3b", func := "loop.example/stile/laws.FnExactDevIsReal", spec := "fnExactDevIsReal", named := ["loop.example/stile/impl.devKinds"], apart := false, laid := [("loop.example/stile/impl.devKinds", laid_loop_example_stile_impl_devKinds)] }
def FnExactDevIsRealSaid : Prop := fnExactDevIsRealRow.holds Tryd.pinned (OpenSpec.ofChange fnExactDevIsRealSpec)

/-- ITS FALSE NEIGHBOUR: 'it returns false'. Refute it at one input. -/
def fnExactDevIsRealWrong : ChangeSpec := { name := "fnExactDevIsReal", vars := ["loop.example/stile/impl.devKinds"], fn := fun _ => fun
  | [d, g1] => { results := [.lit (.bool false)], args := [d], vars := [g1] }
  | _ => none }
def FnExactDevIsRealWrongFalsely : Prop := fnExactDevIsRealRow.holds Tryd.pinned (OpenSpec.ofChange fnExactDevIsRealWrong)

/-- 'laws.FnExactDevText': WHATEVER THE INPUT: true; the input reads as it did. -/
def fnExactDevTextSpec : ChangeSpec := { name := "fnExactDevText", vars := ["loop.example/stile/impl.devWords", "loop.example/stile/impl.devKinds"], fn := fun _ => fun
  | [d, g1, g2] => { results := [.lit (.bool true)], args := [d], vars := [g1, g2] }
  | _ => none }
def fnExactDevTextRow : OpenClaim := { program := "ytkaoajihpclpiaadoor", sum := "4281ac35dd4a93c646cdf3eb08b52fa895aa144e95e5ea88aad42c7107b5ec3b", func := "loop.example/stile/laws.FnExactDevText", spec := "fnExactDevText", inPlace := ["internal/abi.NoEscape", "internal/bytealg.MakeNoZero"], recurses := true, named := ["loop.example/stile/impl.devWords", "loop.example/stile/impl.devKinds", "internal/strconv.uint64pow10", "math/bits.deBruijn32tab", "math/bits.deBruijn64tab"], apart := false, laid := [("math/bits.deBruijn32tab", laid_math_bits_deBruijn32tab), ("math/bits.deBruijn64tab", laid_math_bits_deBruijn64tab), ("internal/strconv.uint64pow10", laid_internal_strconv_uint64pow10), ("loop.example/stile/impl.devKinds", laid_loop_example_stile_impl_devKinds), ("loop.example/stile/impl.devWords", laid_loop_example_stile_impl_devWords)] }
def FnExactDevTextSaid : Prop := fnExactDevTextRow.holds Tryd.pinned (OpenSpec.ofChange fnExactDevTextSpec)

/-- ITS FALSE NEIGHBOUR: 'it returns false'. Refute it at one input. -/
def fnExactDevTextWrong : ChangeSpec := { name := "fnExactDevText", vars := ["loop.example/stile/impl.devWords", "loop.example/stile/impl.devKinds"], fn := fun _ => fun
  | [d, g1, g2] => { results := [.lit (.bool false)], args := [d], vars := [g1, g2] }
  | _ => none }
def FnExactDevTextWrongFalsely : Prop := fnExactDevTextRow.holds Tryd.pinned (OpenSpec.ofChange fnExactDevTextWrong)

/-- 'laws.FnExactDevRead': WHATEVER THE INPUT: true; the input reads as it did. -/
def fnExactDevReadSpec : ChangeSpec := { name := "fnExactDevRead", vars := ["loop.example/stile/impl.devWords", "loop.example/stile/impl.devKinds"], fn := fun _ => fun
  | [d, g1, g2] => { results := [.lit (.bool true)], args := [d], vars := [g1, g2] }
  | _ => none }
def fnExactDevReadRow : OpenClaim := { program := "ytkaoajihpclpiaadoor", sum := "4281ac35dd4a93c646cdf3eb08b52fa895aa144e95e5ea88aad42c7107b5ec3b", func := "loop.example/stile/laws.FnExactDevRead", spec := "fnExactDevRead", inPlace := ["internal/abi.NoEscape", "internal/bytealg.MakeNoZero"], recurses := true, named := ["loop.example/stile/impl.devWords", "loop.example/stile/impl.devKinds", "internal/strconv.uint64pow10", "math/bits.deBruijn32tab", "math/bits.deBruijn64tab"], apart := false, laid := [("math/bits.deBruijn32tab", laid_math_bits_deBruijn32tab), ("math/bits.deBruijn64tab", laid_math_bits_deBruijn64tab), ("internal/strconv.uint64pow10", laid_internal_strconv_uint64pow10), ("loop.example/stile/impl.devKinds", laid_loop_example_stile_impl_devKinds), ("loop.example/stile/impl.devWords", laid_loop_example_stile_impl_devWords)] }
def FnExactDevReadSaid : Prop := fnExactDevReadRow.holds Tryd.pinned (OpenSpec.ofChange fnExactDevReadSpec)

/-- ITS FALSE NEIGHBOUR: 'it returns false'. Refute it at one input. -/
def fnExactDevReadWrong : ChangeSpec := { name := "fnExactDevRead", vars := ["loop.example/stile/impl.devWords", "loop.example/stile/impl.devKinds"], fn := fun _ => fun
  | [d, g1, g2] => { results := [.lit (.bool false)], args := [d], vars := [g1, g2] }
  | _ => none }
def FnExactDevReadWrongFalsely : Prop := fnExactDevReadRow.holds Tryd.pinned (OpenSpec.ofChange fnExactDevReadWrong)

/- THE SECOND FORM. 'bulk': how many values and letters a reading holds, each counted each time it is reached (what is shared counts as often as it is met; a slice's spare places count too). A statement '..UptoSaid' is the law's where the arguments, and the package variables that the reading takes, are together of bulk at most 1048576: NARROWER than '..Said'. Prove '..Said' where nothing that the law and all that it calls make is longer than what came in: it says more and counts as full. Else prove '..UptoSaid'. A law counts once. -/
mutual
def uptoBulk {H : Type} : DataW H → Nat
  | .lit (.string bytes) => bytes.length + 1
  | .lit _ => 1
  | .nil => 1
  | .ptr d => uptoBulk d + 1
  | .slice elems spare => uptoBulkAll elems + uptoBulkAll spare + 1
  | .agg parts => uptoBulkAll parts + 1
  | .iface _ d => uptoBulk d + 1
  | .map entries => uptoBulkEntries entries + 1
  | .held _ => 1
def uptoBulkAll {H : Type} : List (DataW H) → Nat
  | [] => 0
  | d :: r => uptoBulk d + uptoBulkAll r
def uptoBulkEntries {H : Type} : List (Lit × DataW H) → Nat
  | [] => 0
  | x :: r => uptoBulkEntry x + uptoBulkEntries r
def uptoBulkEntry {H : Type} : Lit × DataW H → Nat
  | (.string bytes, d) => bytes.length + uptoBulk d + 1
  | (_, d) => uptoBulk d + 1
 end
def uptoSmall : (H : Type) → List (DataW H) → Bool := fun _ ds => decide (uptoBulkAll ds ≤ 1048576)
def OpenSpec.upto (s : _root_.Go.ChangeSpec) : _root_.Go.OpenSpec := { _root_.Go.OpenSpec.ofChange s with cond := some uptoSmall }

/-- 'laws.FnDevBack', WHERE WHAT IT READS IS OF BULK AT MOST 1048576: true; the input reads as it did. -/
def fnDevBackUptoRow : OpenClaim := { program := "ytkaoajihpclpiaadoor", sum := "4281ac35dd4a93c646cdf3eb08b52fa895aa144e95e5ea88aad42c7107b5ec3b", func := "loop.example/stile/laws.FnDevBack", spec := "fnDevBack", inPlace := ["internal/abi.NoEscape", "internal/bytealg.MakeNoZero"], recurses := true, named := ["loop.example/stile/impl.devWords", "loop.example/stile/impl.devKinds", "internal/strconv.uint64pow10", "math/bits.deBruijn32tab", "math/bits.deBruijn64tab"], apart := false, laid := [("math/bits.deBruijn32tab", laid_math_bits_deBruijn32tab), ("math/bits.deBruijn64tab", laid_math_bits_deBruijn64tab), ("internal/strconv.uint64pow10", laid_internal_strconv_uint64pow10), ("loop.example/stile/impl.devKinds", laid_loop_example_stile_impl_devKinds), ("loop.example/stile/impl.devWords", laid_loop_example_stile_impl_devWords)], narrowed := true }
def FnDevBackUptoSaid : Prop := fnDevBackUptoRow.holds Tryd.pinned (OpenSpec.upto fnDevBackSpec)

/-- 'laws.FnDevKinds', WHERE WHAT IT READS IS OF BULK AT MOST 1048576: true; the input reads as it did. -/
def fnDevKindsUptoRow : OpenClaim := { program := "ytkaoajihpclpiaadoor", sum := "4281ac35dd4a93c646cdf3eb08b52fa895aa144e95e5ea88aad42c7107b5ec3b", func := "loop.example/stile/laws.FnDevKinds", spec := "fnDevKinds", named := ["loop.example/stile/impl.devKinds"], apart := false, laid := [("loop.example/stile/impl.devKinds", laid_loop_example_stile_impl_devKinds)], narrowed := true }
def FnDevKindsUptoSaid : Prop := fnDevKindsUptoRow.holds Tryd.pinned (OpenSpec.upto fnDevKindsSpec)

/-- 'laws.FnExactDevSize', WHERE WHAT IT READS IS OF BULK AT MOST 1048576: true; the input reads as it did. -/
def fnExactDevSizeUptoRow : OpenClaim := { program := "ytkaoajihpclpiaadoor", sum := "4281ac35dd4a93c646cdf3eb08b52fa895aa144e95e5ea88aad42c7107b5ec3b", func := "loop.example/stile/laws.FnExactDevSize", spec := "fnExactDevSize", named := ["loop.example/stile/impl.devKinds"], apart := false, laid := [("loop.example/stile/impl.devKinds", laid_loop_example_stile_impl_devKinds)], narrowed := true }
def FnExactDevSizeUptoSaid : Prop := fnExactDevSizeUptoRow.holds Tryd.pinned (OpenSpec.upto fnExactDevSizeSpec)

/-- 'laws.FnExactDevLetter', WHERE WHAT IT READS IS OF BULK AT MOST 1048576: true; the input reads as it did. -/
def fnExactDevLetterUptoRow : OpenClaim := { program := "ytkaoajihpclpiaadoor", sum := "4281ac35dd4a93c646cdf3eb08b52fa895aa144e95e5ea88aad42c7107b5ec3b", func := "loop.example/stile/laws.FnExactDevLetter", spec := "fnExactDevLetter", named := ["loop.example/stile/impl.devKinds"], apart := false, laid := [("loop.example/stile/impl.devKinds", laid_loop_example_stile_impl_devKinds)], narrowed := true }
def FnExactDevLetterUptoSaid : Prop := fnExactDevLetterUptoRow.holds Tryd.pinned (OpenSpec.upto fnExactDevLetterSpec)

/-- 'laws.FnExactDevOk', WHERE WHAT IT READS IS OF BULK AT MOST 1048576: true; the input reads as it did. -/
def fnExactDevOkUptoRow : OpenClaim := { program := "ytkaoajihpclpiaadoor", sum := "4281ac35dd4a93c646cdf3eb08b52fa895aa144e95e5ea88aad42c7107b5ec3b", func := "loop.example/stile/laws.FnExactDevOk", spec := "fnExactDevOk", named := ["loop.example/stile/impl.devKinds"], apart := false, laid := [("loop.example/stile/impl.devKinds", laid_loop_example_stile_impl_devKinds)], narrowed := true }
def FnExactDevOkUptoSaid : Prop := fnExactDevOkUptoRow.holds Tryd.pinned (OpenSpec.upto fnExactDevOkSpec)

/-- 'laws.FnExactDevIsBit', WHERE WHAT IT READS IS OF BULK AT MOST 1048576: true; the input reads as it did. -/
def fnExactDevIsBitUptoRow : OpenClaim := { program := "ytkaoajihpclpiaadoor", sum := "4281ac35dd4a93c646cdf3eb08b52fa895aa144e95e5ea88aad42c7107b5ec3b", func := "loop.example/stile/laws.FnExactDevIsBit", spec := "fnExactDevIsBit", named := ["loop.example/stile/impl.devKinds"], apart := false, laid := [("loop.example/stile/impl.devKinds", laid_loop_example_stile_impl_devKinds)], narrowed := true }
def FnExactDevIsBitUptoSaid : Prop := fnExactDevIsBitUptoRow.holds Tryd.pinned (OpenSpec.upto fnExactDevIsBitSpec)

/-- 'laws.FnExactDevIsWhole', WHERE WHAT IT READS IS OF BULK AT MOST 1048576: true; the input reads as it did. -/
def fnExactDevIsWholeUptoRow : OpenClaim := { program := "ytkaoajihpclpiaadoor", sum := "4281ac35dd4a93c646cdf3eb08b52fa895aa144e95e5ea88aad42c7107b5ec3b", func := "loop.example/stile/laws.FnExactDevIsWhole", spec := "fnExactDevIsWhole", named := ["loop.example/stile/impl.devKinds"], apart := false, laid := [("loop.example/stile/impl.devKinds", laid_loop_example_stile_impl_devKinds)], narrowed := true }
def FnExactDevIsWholeUptoSaid : Prop := fnExactDevIsWholeUptoRow.holds Tryd.pinned (OpenSpec.upto fnExactDevIsWholeSpec)

/-- 'laws.FnExactDevIsReal', WHERE WHAT IT READS IS OF BULK AT MOST 1048576: true; the input reads as it did. -/
def fnExactDevIsRealUptoRow : OpenClaim := { program := "ytkaoajihpclpiaadoor", sum := "4281ac35dd4a93c646cdf3eb08b52fa895aa144e95e5ea88aad42c7107b5ec3b", func := "loop.example/stile/laws.FnExactDevIsReal", spec := "fnExactDevIsReal", named := ["loop.example/stile/impl.devKinds"], apart := false, laid := [("loop.example/stile/impl.devKinds", laid_loop_example_stile_impl_devKinds)], narrowed := true }
def FnExactDevIsRealUptoSaid : Prop := fnExactDevIsRealUptoRow.holds Tryd.pinned (OpenSpec.upto fnExactDevIsRealSpec)

/-- 'laws.FnExactDevText', WHERE WHAT IT READS IS OF BULK AT MOST 1048576: true; the input reads as it did. -/
def fnExactDevTextUptoRow : OpenClaim := { program := "ytkaoajihpclpiaadoor", sum := "4281ac35dd4a93c646cdf3eb08b52fa895aa144e95e5ea88aad42c7107b5ec3b", func := "loop.example/stile/laws.FnExactDevText", spec := "fnExactDevText", inPlace := ["internal/abi.NoEscape", "internal/bytealg.MakeNoZero"], recurses := true, named := ["loop.example/stile/impl.devWords", "loop.example/stile/impl.devKinds", "internal/strconv.uint64pow10", "math/bits.deBruijn32tab", "math/bits.deBruijn64tab"], apart := false, laid := [("math/bits.deBruijn32tab", laid_math_bits_deBruijn32tab), ("math/bits.deBruijn64tab", laid_math_bits_deBruijn64tab), ("internal/strconv.uint64pow10", laid_internal_strconv_uint64pow10), ("loop.example/stile/impl.devKinds", laid_loop_example_stile_impl_devKinds), ("loop.example/stile/impl.devWords", laid_loop_example_stile_impl_devWords)], narrowed := true }
def FnExactDevTextUptoSaid : Prop := fnExactDevTextUptoRow.holds Tryd.pinned (OpenSpec.upto fnExactDevTextSpec)

/-- 'laws.FnExactDevRead', WHERE WHAT IT READS IS OF BULK AT MOST 1048576: true; the input reads as it did. -/
def fnExactDevReadUptoRow : OpenClaim := { program := "ytkaoajihpclpiaadoor", sum := "4281ac35dd4a93c646cdf3eb08b52fa895aa144e95e5ea88aad42c7107b5ec3b", func := "loop.example/stile/laws.FnExactDevRead", spec := "fnExactDevRead", inPlace := ["internal/abi.NoEscape", "internal/bytealg.MakeNoZero"], recurses := true, named := ["loop.example/stile/impl.devWords", "loop.example/stile/impl.devKinds", "internal/strconv.uint64pow10", "math/bits.deBruijn32tab", "math/bits.deBruijn64tab"], apart := false, laid := [("math/bits.deBruijn32tab", laid_math_bits_deBruijn32tab), ("math/bits.deBruijn64tab", laid_math_bits_deBruijn64tab), ("internal/strconv.uint64pow10", laid_internal_strconv_uint64pow10), ("loop.example/stile/impl.devKinds", laid_loop_example_stile_impl_devKinds), ("loop.example/stile/impl.devWords", laid_loop_example_stile_impl_devWords)], narrowed := true }
def FnExactDevReadUptoSaid : Prop := fnExactDevReadUptoRow.holds Tryd.pinned (OpenSpec.upto fnExactDevReadSpec)

end Rows
end Go.Proofs.YtkaoajihpclpiaaDoor
