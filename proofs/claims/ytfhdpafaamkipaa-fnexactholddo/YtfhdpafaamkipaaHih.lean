/- What stands in the boxes of a law over stores. -/
import Derived.Test.YtfhdpafaamkipaaHig
namespace Go.Proofs.Ytfhdpafaamkipaa
open Go.RowKit
set_option linter.unusedVariables false
set_option linter.unusedSimpArgs false

/-- The law's own store stands in its box. -/
def AR (w : World) (r : RomT) (xa xb : Option Addr) (na ca nb cb : Nat) (W : World) : Prop := W.heap[w.heap.size]? = some (.cells #[.int .u8 r.a.mark, .int .u8 r.a.turn, .slice xa na ca, .int .u8 r.b.mark, .int .u8 r.b.turn, .slice xb nb cb] 45 (0, 0)) ∧ Below w.heap.size w W
/-- A copy in its box, and its bytes. -/
def XR (B ga gb : Nat) (r : RomT) (na nb : Nat) (f g : Nat → Nat) (W : World) : Prop := W.heap[B]? = some (.cells #[.int .u8 r.a.mark, .int .u8 r.a.turn, .slice (some ⟨ga, 0, none⟩) na na, .int .u8 r.b.mark, .int .u8 r.b.turn, .slice (some ⟨gb, 0, none⟩) nb nb] 26 (0, 0)) ∧ By W ga na f ∧ By W gb nb g
theorem row_later19 {W W' : World} {n : Nat} {o : Obj} (h : W.heap[n]? = some o) (g : Below W.heap.size W W') : W'.heap[n]? = some o := (g.block _ (Array.getElem?_eq_some_iff.1 h).1).trans h
theorem AR.later {w W W' : World} {r : RomT} {xa xb : Option Addr} {na ca nb cb : Nat} (h : AR w r xa xb na ca nb cb W) (g : Below W.heap.size W W') : AR w r xa xb na ca nb cb W' := ⟨row_later19 h.1 g, h.2.trans (g.mono h.2.size)⟩
theorem AR.outs {w W W' : World} {S : Nat → Prop} {r : RomT} {xa xb : Option Addr} {na ca nb cb : Nat} (h : AR w r xa xb na ca nb cb W) (g : Outs S W W') (hs : ∀ k, S k → w.heap.size < k) : AR w r xa xb na ca nb cb W' :=
  ⟨g.row h.1 fun e => by have := hs _ e; omega, g.below h.2 h.2.size fun k e => Nat.le_of_lt (hs k e)⟩
theorem AR.lt {w W : World} {r : RomT} {xa xb : Option Addr} {na ca nb cb : Nat} (h : AR w r xa xb na ca nb cb W) : w.heap.size < W.heap.size := (Array.getElem?_eq_some_iff.1 h.1).1
theorem XR.later {B ga gb : Nat} {r : RomT} {na nb : Nat} {f g : Nat → Nat} {W W' : World} (h : XR B ga gb r na nb f g W) (b : Below W.heap.size W W') : XR B ga gb r na nb f g W' := ⟨row_later19 h.1 b, h.2.1.later b h.2.1.lt, h.2.2.later b h.2.2.lt⟩
theorem ob_of_by {W : World} {g n : Nat} {f : Nat → Nat} (h : By W g n f) : Ob W 0 (some ⟨g, 0, none⟩) n f := .inr ⟨g, rfl, Nat.zero_le _, h⟩
theorem Ob.lt {W : World} {base n : Nat} {a : Option Addr} {f : Nat → Nat} (h : Ob W base a n f) (k : Nat) (e : atB a k) : base ≤ k ∧ k < W.heap.size := by
  rcases h with ⟨h, _⟩ | ⟨g, h, h1, h2⟩
  · unfold atB at e; rw [h] at e; cases e
  · unfold atB at e; rw [h] at e; cases e; exact ⟨h1, h2.lt⟩
end Go.Proofs.Ytfhdpafaamkipaa
