/- The law FnExactHoldDo, at what comes in. -/
import Derived.Test.YtfhdpafaamkipaaHrb
import Derived.Test.YtfhdpafaamkipaaHpp
namespace Go.Proofs.Ytfhdpafaamkipaa
open Go.RowKit
set_option linter.unusedVariables false

/-- A write that came in. -/
def WrIn (v : Value) : Prop := ∃ y : WrT, v = .agg #[.int .i64 y.kind, .int .i64 y.slot, .int .u8 (y.byte : Nat)]
theorem wr_open {H : Type} {enc : TypeId × Value → H} {w : World} {base : Nat} {sp : Nat → Bool} {held : Bool} {fuel : Nat} {cs : Array Value} {x : DataW H × List MemPlace} (h : DataW.trod enc Try.prog w base sp held fuel 46 cs.toList = some x) : WrIn (.agg cs) := by
  obtain ⟨cs⟩ := cs
  obtain ⟨y, _, e⟩ := row3w h
  have e' : cs = [.int .i64 y.kind, .int .i64 y.slot, .int .u8 (y.byte : Nat)] := e
  subst e'
  exact ⟨y, rfl⟩
theorem walk_hdo (cs cs1 : Array Value) (w : World) (h : RomIn w (.agg cs)) (h' : WrIn (.agg cs1)) :
    Calls Try.prog 7 #[.agg cs, .agg cs1] w fun e w' => e = .returned (.bool true) ∧ Below w.heap.size w w' := by
  obtain ⟨r, xa, xb, na, ca, nb, cb, e, h1, h2, h3, h4, h5, h6, h7⟩ := h
  obtain ⟨y, e'⟩ := h'
  rw [e, e']
  exact law_hdo r xa xb na ca nb cb y.kind y.slot y.byte w h1 h2 h3 h6 h7
end Go.Proofs.Ytfhdpafaamkipaa
