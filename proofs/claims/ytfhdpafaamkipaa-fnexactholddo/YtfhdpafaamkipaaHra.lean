/- What stands in the boxes of the law FnExactHoldDo. Made by tools/gen19_hra.py. -/
import Derived.Test.YtfhdpafaamkipaaHpo
import Derived.Test.YtfhdpafaamkipaaHpi
import Derived.Test.YtfhdpafaamkipaaHpr
namespace Go.Proofs.Ytfhdpafaamkipaa
open Go.RowKit
set_option linter.unusedVariables false
set_option linter.unusedSimpArgs false

theorem bel_chain {n : Nat} {w V v : World} (gT : Below V.heap.size V v) (hn : n ≤ V.heap.size) (h : Below n w V) : Below n w v := h.trans (gT.mono hn)
theorem bel_chain0 {w V v : World} (gT : Below V.heap.size V v) (h : Below w.heap.size w V) : Below w.heap.size w v := h.trans (gT.mono h.size)
/-- Draws and new blocks are stripped, and what is known of the world before is taken. -/
macro "bw19" : tactic => `(tactic| repeat (first | assumption | exact Below.refl _ _ | refine Below.drew ?_ | refine (fun h => Below.alloc h (Below.size h) _) ?_))
theorem row_chain {V v : World} {b : Nat} {o : Obj} (gT : Below V.heap.size V v) (h : V.heap[b]? = some o) : v.heap[b]? = some o := row_later19 h gT
theorem row_at {V v : World} {b : Nat} {o : Obj} (gT : Below V.heap.size V v) (h : V.heap[b]? = some o) : V.heap[b]? = some o := h
theorem row_last (w : World) (o : Obj) : (w.alloc o).heap[w.heap.size]? = some o := heap_alloc_last w o
theorem row_last2 (w : World) (o : Obj) : (w.alloc o).drew.heap[w.heap.size]? = some o := heap_alloc_last w o
theorem row_last3 (w : World) (o : Obj) : (w.drew.alloc o).heap[w.heap.size]? = some o := heap_alloc_last w.drew o
theorem cells6a {w : World} {B : Nat} {T : TypeId} {v0 v1 v2 v3 v4 v5 : Value} (k : w.heap[B]? = some (.cells #[v0, v1, v2, v3, v4, v5] T (0, 0))) :
    (∀ o, (w.alloc o).cell? ⟨B, 0, none⟩ = some v0) ∧ (∀ o, (w.alloc o).cell? ⟨B, 1, none⟩ = some v1) ∧ (∀ o, (w.alloc o).cell? ⟨B, 2, none⟩ = some v2) ∧ (∀ o, (w.alloc o).cell? ⟨B, 3, none⟩ = some v3) ∧ (∀ o, (w.alloc o).cell? ⟨B, 4, none⟩ = some v4) ∧ (∀ o, (w.alloc o).cell? ⟨B, 5, none⟩ = some v5) := by
  have hl := (Array.getElem?_eq_some_iff.1 k).1
  obtain ⟨h0, h1, h2, h3, h4, h5, _⟩ := row_cells6 k
  exact ⟨fun o => (World.cell?_alloc_past _ _ _ hl).trans h0, fun o => (World.cell?_alloc_past _ _ _ hl).trans h1, fun o => (World.cell?_alloc_past _ _ _ hl).trans h2, fun o => (World.cell?_alloc_past _ _ _ hl).trans h3, fun o => (World.cell?_alloc_past _ _ _ hl).trans h4, fun o => (World.cell?_alloc_past _ _ _ hl).trans h5⟩
theorem cells3a {w : World} {B : Nat} {T : TypeId} {v0 v1 v2 : Value} (k : w.heap[B]? = some (.cells #[v0, v1, v2] T (0, 0))) :
    (∀ o, (w.alloc o).cell? ⟨B, 0, none⟩ = some v0) ∧ (∀ o, (w.alloc o).cell? ⟨B, 1, none⟩ = some v1) ∧ (∀ o, (w.alloc o).cell? ⟨B, 2, none⟩ = some v2) := by
  have hl := (Array.getElem?_eq_some_iff.1 k).1
  obtain ⟨h0, h1, h2, _⟩ := row_cells3 k
  exact ⟨fun o => (World.cell?_alloc_past _ _ _ hl).trans h0, fun o => (World.cell?_alloc_past _ _ _ hl).trans h1, fun o => (World.cell?_alloc_past _ _ _ hl).trans h2⟩
/-- What came in, in its two boxes. -/
def PR (w : World) (r : RomT) (xa xb : Option Addr) (na ca nb cb : Nat) (k s : Int) (y : Nat) (W : World) : Prop :=
  AR w r xa xb na ca nb cb W ∧ W.heap[w.heap.size + 1]? = some (.cells #[.int .i64 k, .int .i64 s, .int .u8 y] 46 (0, 0))
theorem PR.later {w W W' : World} {r : RomT} {xa xb : Option Addr} {na ca nb cb : Nat} {k s : Int} {y : Nat} (h : PR w r xa xb na ca nb cb k s y W) (g : Below W.heap.size W W') : PR w r xa xb na ca nb cb k s y W' := ⟨h.1.later g, row_later19 h.2 g⟩
theorem PR.outs {w W W' : World} {S : Nat → Prop} {r : RomT} {xa xb : Option Addr} {na ca nb cb : Nat} {k s : Int} {y : Nat} (h : PR w r xa xb na ca nb cb k s y W) (g : Outs S W W') (hs : ∀ k, S k → w.heap.size + 1 < k) : PR w r xa xb na ca nb cb k s y W' := ⟨h.1.outs g (fun k e => by have := hs k e; omega), g.row h.2 (fun e => by have := hs _ e; omega)⟩
/-- An answer in its box: all of it lies from lo on and below hi. -/
def An (lo hi B : Nat) (R : RomT) (xa : Option Addr) (na ca : Nat) (xb : Option Addr) (nb cb : Nat) (f g : Nat → Nat) (W : World) : Prop :=
  GR B lo R xa na ca xb nb cb f g W ∧ lo ≤ B ∧ B < hi ∧ (∀ k, atB xa k ∨ atB xb k → lo ≤ k ∧ k < hi ∧ k ≠ B) ∧ (∀ k, atB xa k → ¬ atB xb k) ∧ hi ≤ W.heap.size
theorem An.later {lo hi B : Nat} {R : RomT} {xa xb : Option Addr} {na ca nb cb : Nat} {f g : Nat → Nat} {W W' : World} (h : An lo hi B R xa na ca xb nb cb f g W) (b : Below W.heap.size W W') : An lo hi B R xa na ca xb nb cb f g W' := ⟨h.1.later b, h.2.1, h.2.2.1, h.2.2.2.1, h.2.2.2.2.1, Nat.le_trans h.2.2.2.2.2 b.size⟩
theorem An.outs {S : Nat → Prop} {lo hi B : Nat} {R : RomT} {xa xb : Option Addr} {na ca nb cb : Nat} {f g : Nat → Nat} {W W' : World} (h : An lo hi B R xa na ca xb nb cb f g W) (b : Outs S W W') (hs : ∀ k, S k → k < lo ∨ hi ≤ k) : An lo hi B R xa na ca xb nb cb f g W' :=
  ⟨h.1.outs b (fun k e e' => by
    have h1 := hs k e'
    have h2 := h.2.1
    have h3 := h.2.2.1
    rcases e with e | e
    · omega
    · have := h.2.2.2.1 k e; omega), h.2.1, h.2.2.1, h.2.2.2.1, h.2.2.2.2.1, Nat.le_trans h.2.2.2.2.2 b.size⟩
theorem an_new {w0 V v : World} {R : RomT} {xa xb : Option Addr} {na ca nb cb : Nat} {f g : Nat → Nat} (h : Below w0.heap.size w0 V) (o1 : Ob v V.heap.size xa na f) (o2 : Ob v V.heap.size xb nb g) (dj : ∀ k, atB xa k → ¬ atB xb k) (gT : Below V.heap.size V v) :
    An w0.heap.size (v.heap.size + 1) v.heap.size R xa na ca xb nb cb f g (v.alloc (.cells #[.int .u8 R.a.mark, .int .u8 R.a.turn, .slice xa na ca, .int .u8 R.b.mark, .int .u8 R.b.turn, .slice xb nb cb] 26 (0, 0))) := by
  have gA : Below v.heap.size v (v.alloc (.cells #[.int .u8 R.a.mark, .int .u8 R.a.turn, .slice xa na ca, .int .u8 R.b.mark, .int .u8 R.b.turn, .slice xb nb cb] 26 (0, 0))) := (Below.refl _ _).alloc (Nat.le_refl _) _
  refine ⟨⟨heap_alloc_last _ _, (o1.later gA).base h.size, (o2.later gA).base h.size⟩, Nat.le_trans h.size gT.size, by omega, fun k e => ?_, dj, by simp⟩
  have h1 := h.size
  rcases e with e | e
  · have := o1.lt k e; omega
  · have := o2.lt k e; omega
theorem an_old {w0 V v : World} {b : Nat} {R : RomT} {xa xb : Option Addr} {na ca nb cb : Nat} {f g : Nat → Nat} (h : Below w0.heap.size w0 V) (hb : w0.heap.size ≤ b) (kV : V.heap[b]? = some (.cells #[.int .u8 0, .int .u8 0, .slice none 0 0, .int .u8 0, .int .u8 0, .slice none 0 0] 26 (0, 0))) (o1 : Ob v V.heap.size xa na f) (o2 : Ob v V.heap.size xb nb g) (dj : ∀ k, atB xa k → ¬ atB xb k) (gT : Below V.heap.size V v) :
    An w0.heap.size v.heap.size b R xa na ca xb nb cb f g ((((((v.setCell ⟨b, 0, none⟩ (.int .u8 R.a.mark)).setCell ⟨b, 1, none⟩ (.int .u8 R.a.turn)).setCell ⟨b, 2, none⟩ (.slice xa na ca)).setCell ⟨b, 3, none⟩ (.int .u8 R.b.mark)).setCell ⟨b, 4, none⟩ (.int .u8 R.b.turn)).setCell ⟨b, 5, none⟩ (.slice xb nb cb)) ∧ Below w0.heap.size w0 ((((((v.setCell ⟨b, 0, none⟩ (.int .u8 R.a.mark)).setCell ⟨b, 1, none⟩ (.int .u8 R.a.turn)).setCell ⟨b, 2, none⟩ (.slice xa na ca)).setCell ⟨b, 3, none⟩ (.int .u8 R.b.mark)).setCell ⟨b, 4, none⟩ (.int .u8 R.b.turn)).setCell ⟨b, 5, none⟩ (.slice xb nb cb)) := by
  have kz := row_chain gT kV
  have hb2 := (Array.getElem?_eq_some_iff.1 kV).1
  have hO : ∀ {W : World} {a : Option Addr} {n : Nat} {f : Nat → Nat} (o : Nat) (x : Value), Ob W V.heap.size a n f → Ob (W.setCell ⟨b, o, none⟩ x) V.heap.size a n f := fun o x q => q.outs (outs_set (S := fun k => k = b) _ b o x rfl) (fun g e e' => by
    subst e
    have h1 : V.heap.size ≤ g := by
      rcases q with ⟨h, _⟩ | ⟨g', h, h', _⟩
      · cases h
      · cases h; exact h'
    omega)
  refine ⟨⟨⟨row_put19 (row_put19 (row_put19 (row_put19 (row_put19 (row_put19 kz 0 (.int .u8 R.a.mark)) 1 (.int .u8 R.a.turn)) 2 (.slice xa na ca)) 3 (.int .u8 R.b.mark)) 4 (.int .u8 R.b.turn)) 5 (.slice xb nb cb), (hO _ _ (hO _ _ (hO _ _ (hO _ _ (hO _ _ (hO _ _ o1)))))).base h.size, (hO _ _ (hO _ _ (hO _ _ (hO _ _ (hO _ _ (hO _ _ o2)))))).base h.size⟩, hb, Nat.lt_of_lt_of_le hb2 gT.size, fun k e => ?_, dj, by simp⟩, ?_⟩
  · have h1 := h.size
    rcases e with e | e
    · have := o1.lt k e; omega
    · have := o2.lt k e; omega
  · iterate 6 refine bel_set ?_ hb _ _
    exact bel_chain0 gT h
end Go.Proofs.Ytfhdpafaamkipaa
