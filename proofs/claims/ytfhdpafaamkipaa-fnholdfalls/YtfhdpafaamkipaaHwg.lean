/- The law FnExactHoldPlan, at what comes in. -/
import Derived.Test.YtfhdpafaamkipaaHwf
import Derived.Test.YtfhdpafaamkipaaHfr
namespace Go.Proofs.Ytfhdpafaamkipaa
open Go.RowKit
set_option linter.unusedVariables false

/-- Bytes that came in. -/
def BtsIn (w : World) (v : Value) : Prop := ∃ (a : Option Addr) (n c : Nat) (l : List Nat), v = .slice a n c ∧ l.length = n ∧ n ≤ 9223372036854775807 ∧ (∀ x ∈ l, x < 256) ∧ Bt w a n (fL l)
theorem bts_open {H : Type} {enc : TypeId × Value → H} {w : World} {base : Nat} {sp : Nat → Bool} {held : Bool} {fuel : Nat} {a : Option Addr} {n c : Nat} {x : DataW H × List MemPlace} (h : DataW.trod enc Try.prog w base sp held fuel 22 (Value.slice a n c).cells.toList = some x) : BtsIn w (.slice a n c) := bs_open h
theorem walk_hplan (cs : Array Value) (v : Value) (w : World) (h : RomIn w (.agg cs)) (h' : BtsIn w v) :
    Calls Try.prog 11 #[.agg cs, v] w fun e w' => e = .returned (.bool true) ∧ Below w.heap.size w w' := by
  obtain ⟨r, xa, xb, na, ca, nb, cb, e, h1, h2, h3, h4, h5, h6, h7⟩ := h
  obtain ⟨da, nd, cd, d, rfl, d1, d2, d3, d4⟩ := h'
  rw [e]
  by_cases hl : nd ≤ 1048576
  · exact law_hplan r xa xb na ca nb cb da nd cd d w h1 h2 h3 h6 h7 d1 hl d4
  · have i1 : (1048576 : Int) < (nd : Int) := by omega
    clear h1 h4 h5 h6 h7 d1 d3 d4 e
    have b0 : Below w.heap.size w (w.alloc (.cells #[.int .u8 r.a.mark, .int .u8 r.a.turn, .slice xa na ca, .int .u8 r.b.mark, .int .u8 r.b.turn, .slice xb nb cb] 45)) := (Below.refl _ _).alloc (Nat.le_refl _) _
    unfold romV
    go_enter Try.func11, Try.ntmps11
    go_wp2
    go_ret
    exact ⟨rfl, b0⟩
end Go.Proofs.Ytfhdpafaamkipaa
