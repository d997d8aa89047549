/- A memory and an operand that are drawn (DrawMemBit); a memory that is drawn (DrawActEnd). -/
import Derived.Test.YtjnddfpieogpiaaDoorOb
namespace Go.Proofs.YtjnddfpieogpiaaDoor
open Go.RowKit
set_option linter.unusedVariables false

theorem arg_size : (Tryd.prog.info? 39).map (·.size) = some 3 := by kernel_rfl
theorem int3_one (k n m : Int) : (#[.int .i64 k, .int .i64 n, .int .i64 m] : Array Value).all (·.oneCell') = true := by simp [Value.oneCell']

/-- Two rows handed back through cells. -/
theorem ret_row2 {P : Program} {fn : Func} {Q : Ending → World → Prop} {a : Act} {w : World} {p p2 : Tmp} {ty ty2 : TypeId} (hf : fn.results = #[.cell p ty, .cell p2 ty2]) {g g2 : Nat} (hp : a.tmps.getD p undef = .pointer (some ⟨g, 0, none⟩)) (hp2 : a.tmps.getD p2 undef = .pointer (some ⟨g2, 0, none⟩))
    {v v2 : Value} (h1 : (loadVar ty ⟨g, 0, none⟩).run P w = .ok v w) (h2 : (loadVar ty2 ⟨g2, 0, none⟩).run P w = .ok v2 w) (hdf : a.defers = []) (hR : Q (.returned (.tuple #[v, v2])) w) : bodyPost P fn Q .ret a w := by
  refine bodyPost_ret (v := .tuple #[v, v2]) ?_ hdf hR
  have hp' : a.tmps[p]?.getD undef = .pointer (some ⟨g, 0, none⟩) := by simpa using hp
  have hp2' : a.tmps[p2]?.getD undef = .pointer (some ⟨g2, 0, none⟩) := by simpa using hp2
  simp [results, hf, hp', hp2', asAddr, h1, h2]

/-- A drawn memory and operand. -/
def IsMemArg (e : Ending) : Prop := ∃ c, ∃ k n m : Int, MemOk c ∧ -3000000000 ≤ n ∧ n ≤ 3000000000 ∧ e = .returned (.tuple #[.agg c, .agg #[.int .i64 k, .int .i64 n, .int .i64 m]])

end Go.Proofs.YtjnddfpieogpiaaDoor
