/- Lists that are drawn: a row of one's own whose elements' operands lie elsewhere and may be shared; a play. -/
import Derived.Test.YtcihplachlokiaaGreatDoorCfM
import Derived.Test.YtcihplachlokiaaGreatDoorEkM
namespace Go.Proofs.YtcihplachlokiaaGreatDoor.Rr
open Go.RowKit
set_option linter.unusedVariables false
variable {LB : Nat}

/-- What the numbers of a drawn instruction keep to. -/
def Fin1 (LB : Nat) (x : InstT) : Prop := (-100 ≤ x.code ∧ x.code ≤ 100) ∧ (-100 ≤ x.one.op ∧ x.one.op ≤ 100) ∧ x.one.args.length ≤ LB + 9 ∧ Bd x.one.args
/-- A drawn instruction: its operands lie in a block from H on of which `ok` speaks. -/
def EF (LB : Nat) (W : World) (H : Nat) (ok : Nat → Prop) (x : InstT) (c : List Value) : Prop := ∃ (a : Option Addr) (cap : Nat), c = [.int .i64 x.code, .int .i64 x.one.op, .slice a x.one.args.length cap] ∧ x.one.args.length ≤ cap ∧ Fin1 LB x ∧
  (x.one.args = [] ∨ ∃ b o, a = some ⟨b, o, none⟩ ∧ (H ≤ b ∧ b < W.heap.size ∧ ok b) ∧ Ops W b o x.one.args)
theorem EF.move {W W' : World} {H : Nat} {ok ok' : Nat → Prop} {x : InstT} {c : List Value} {row : Option Nat} (h : EF LB W H ok x c) (g : W.grownBy W' row) (hr : ∀ b, H ≤ b → b < W.heap.size → ok b → some b ≠ row) (ho : ∀ b, H ≤ b → b < W.heap.size → ok b → ok' b) : EF LB W' H ok' x c := by
  obtain ⟨a, cap, h1, h2, h3, h4⟩ := h
  refine ⟨a, cap, h1, h2, h3, ?_⟩
  rcases h4 with h4 | ⟨b, o, e, ⟨b1, b2, b3⟩, h5⟩
  · exact .inl h4
  · exact .inr ⟨b, o, e, ⟨b1, by have := g.size; omega, ho b b1 b2 b3⟩, h5.grown g (hr b b1 b2 b3)⟩
theorem ops_lt {W : World} {b o : Nat} {xs : List Arg} (h : Ops W b o xs) (hx : xs ≠ []) : b < W.heap.size := by
  cases xs with
  | nil => exact absurd rfl hx
  | cons x xs => exact World.block_lt_of_cell? _ _ (h 0 x rfl).1
/-- An element that was drawn. -/
theorem EF.of {W : World} {H H' : Nat} {ok : Nat → Prop} {x : InstT} {a : Option Addr} {cap : Nat} (hcap : x.one.args.length ≤ cap) (hf : Fin1 LB x) (ho : Own W H' a x.one.args) (hH : H ≤ H') (hok : ∀ b, H' ≤ b → ok b) : EF LB W H ok x [.int .i64 x.code, .int .i64 x.one.op, .slice a x.one.args.length cap] := by
  refine ⟨a, cap, rfl, hcap, hf, ?_⟩
  by_cases hx : x.one.args = []
  · exact .inl hx
  rcases ho with h | ⟨b, o, e, hb, h⟩
  · exact .inl h
  · exact .inr ⟨b, o, e, ⟨by omega, ops_lt h hx, hok b hb⟩, h⟩
/-- A list that was drawn; it keeps off the block pb. -/
def RD (LB : Nat) (W : World) (H pb : Nat) (v : Value) (xs : List InstT) : Prop := v.ownBlock ≠ some pb ∧ ∃ cs, Each (fun f x c => f = [] ∧ EF LB W H (fun b => b ≠ pb ∧ some b ≠ v.ownBlock) x c) 3 [] xs cs ∧ W.ownsRow H 44 3 v xs.length cs
theorem RD.nil (W : World) (H pb : Nat) : RD LB W H pb (.slice none 0 0) [] := ⟨by simp [Value.ownBlock], [], .nil, ⟨by simp, .inl ⟨rfl, rfl⟩⟩⟩
theorem RD.lt {W : World} {H pb : Nat} {v : Value} {xs : List InstT} (h : RD LB W H pb v xs) : ∀ b, v.ownBlock = some b → H ≤ b ∧ b < W.heap.size := by
  obtain ⟨_, cs, _, h2⟩ := h
  exact fun b hb => h2.lt b hb
theorem RD.move {W W' : World} {H pb : Nat} {v : Value} {xs : List InstT} {row : Option Nat} (h : RD LB W H pb v xs) (g : W.grownBy W' row) (hr : ∀ j, row = some j → j < H ∨ j = pb ∨ W.heap.size ≤ j) : RD LB W' H pb v xs := by
  have hl := h.lt
  obtain ⟨h1, cs, h2, h3⟩ := h
  refine ⟨h1, cs, h2.move fun f x c _ hh => ⟨hh.1, hh.2.move g (fun b b1 b2 b3 e => ?_) (fun b _ _ b3 => b3)⟩, h3.kept g ?_⟩
  · rcases hr b e.symm with h | h | h
    · omega
    · exact b3.1 h
    · omega
  · cases hv : v.ownBlock with
    | none => exact .inl rfl
    | some b =>
      refine .inr fun e => ?_
      have := hl b hv
      rcases hr b e.symm with h | h | h
      · omega
      · exact h1 (by rw [hv, h])
      · omega
/-- One more instruction. -/
theorem RD.push {w4 w5 : World} {H pb : Nat} {v : Value} {xs : List InstT} {cs : List Value} {x : InstT} {c : List Value} {g1 cap1 : Nat} (h1 : v.ownBlock ≠ some pb) (h2 : Each (fun f x c => f = [] ∧ EF LB w4 H (fun b => b ≠ pb ∧ some b ≠ v.ownBlock) x c) 3 [] xs cs)
    (hN : EF LB w4 H (fun b => b ≠ pb ∧ some b ≠ v.ownBlock) x c) (hpb : pb < w4.heap.size)
    (own5 : w5.ownsRow H 44 3 (.slice (some ⟨g1, 0, none⟩) (xs.length + 1) cap1) (xs.length + 1) (cs ++ c)) (g5 : w4.grownBy w5 v.ownBlock) (hat : v.ownBlock = some g1 ∨ g1 = w4.heap.size) :
    RD LB w5 H pb (.slice (some ⟨g1, 0, none⟩) (xs.length + 1) cap1) (xs ++ [x]) := by
  have hc : c.length = 3 := by obtain ⟨a, cap, e, _⟩ := hN; rw [e]; rfl
  have key : ∀ x c, EF LB w4 H (fun b => b ≠ pb ∧ some b ≠ v.ownBlock) x c → EF LB w5 H (fun b => b ≠ pb ∧ some b ≠ some g1) x c := fun x c h => h.move g5 (fun b _ _ b3 => b3.2) (fun b b1 b2 b3 => ⟨b3.1, fun e => by
    rcases hat with h | h
    · exact b3.2 (by rw [h, ← e])
    · simp at e; omega⟩)
  refine ⟨?_, cs ++ c, ?_, ?_⟩
  · show some g1 ≠ some pb
    rcases hat with h | h
    · rw [← h]; exact h1
    · simp; omega
  · exact Each.add (h2.move fun f x c _ hh => ⟨hh.1, key x c hh.2⟩) hc ⟨rfl, key x c hN⟩
  · simpa using own5

/-- A play: the reader, the list so far, the heights and the two marks, in the block pb. -/
structure Play (LB : Nat) (w0 : World) (B R pb : Nat) (w : World) (p : Nat) (oa : Option Addr) (on oc : Nat) (bits forks : Int) (base fresh : Bool) : Prop where
  rd : Reader B w R p
  gr : w0.grownBy w (some R)
  hB : B ≤ w0.heap.size
  hp : w0.heap.size ≤ pb
  c0 : w.cell? ⟨pb, 0, none⟩ = some (.pointer (some ⟨R, 0, none⟩))
  c1 : w.cell? ⟨pb, 1, none⟩ = some (.slice oa on oc)
  c2 : w.cell? ⟨pb, 2, none⟩ = some (.int .i64 bits)
  c3 : w.cell? ⟨pb, 3, none⟩ = some (.int .i64 forks)
  c4 : w.cell? ⟨pb, 4, none⟩ = some (.bool base)
  c5 : w.cell? ⟨pb, 5, none⟩ = some (.bool fresh)
  fz : ∀ o, w.frozen? ⟨pb, o, none⟩ = false
  row : ∃ xs : List InstT, on = xs.length ∧ RD LB w w0.heap.size pb (.slice oa on oc) xs ∧ ∀ x ∈ xs, x.one.args.length ≤ 8
variable {w0 w w' : World} {B R pb p on oc : Nat} {oa : Option Addr} {bits forks : Int} {base fresh : Bool}
theorem Play.lt (h : Play LB w0 B R pb w p oa on oc bits forks base fresh) : pb < w.heap.size := World.block_lt_of_cell? _ _ h.c0
theorem Play.RB (h : Play LB w0 B R pb w p oa on oc bits forks base fresh) : R < w0.heap.size ∧ R ≠ pb := ⟨by have := h.rd.1; have := h.hB; omega, by have := h.rd.1; have := h.hB; have := h.hp; omega⟩
theorem Play.move (h : Play LB w0 B R pb w p oa on oc bits forks base fresh) {q : Nat} (g : w.grownBy w' (some R)) (hr : Reader B w' R q) : Play LB w0 B R pb w' q oa on oc bits forks base fresh := by
  have hn : some pb ≠ some R := by have := h.RB.2; simp; omega
  have hl := h.lt
  exact ⟨hr, gb_pick h.gr g, h.hB, h.hp, (g.cell_far _ hl hn).trans h.c0, (g.cell_far _ hl hn).trans h.c1, (g.cell_far _ hl hn).trans h.c2, (g.cell_far _ hl hn).trans h.c3, (g.cell_far _ hl hn).trans h.c4, (g.cell_far _ hl hn).trans h.c5,
    fun o => (g.frozen_far _ hl hn).trans (h.fz o), by
      obtain ⟨xs, e, hx, h8⟩ := h.row
      exact ⟨xs, e, hx.move g (fun j hj => .inl (by cases hj; exact h.RB.1)), h8⟩⟩
theorem Play.alloc (h : Play LB w0 B R pb w p oa on oc bits forks base fresh) (o : Obj) : Play LB w0 B R pb (w.alloc o) p oa on oc bits forks base fresh := h.move (gb_alloc (gb_refl _ _) o) (h.rd.alloc o)
theorem Play.setP (h : Play LB w0 B R pb w p oa on oc bits forks base fresh) (k : Nat) (v : Value) : Reader B (w.setCell ⟨pb, k, none⟩ v) R p ∧ w0.grownBy (w.setCell ⟨pb, k, none⟩ v) (some R) ∧ (∀ o, (w.setCell ⟨pb, k, none⟩ v).frozen? ⟨pb, o, none⟩ = false) ∧ ∃ xs : List InstT, on = xs.length ∧ RD LB (w.setCell ⟨pb, k, none⟩ v) w0.heap.size pb (.slice oa on oc) xs ∧ ∀ x ∈ xs, x.one.args.length ≤ 8 :=
  ⟨h.rd.set _ _ _ (by have := h.hB; have := h.hp; omega), gb_put h.gr h.hp, fun o => by simpa using h.fz o, by
    obtain ⟨xs, e, hx, h8⟩ := h.row
    exact ⟨xs, e, hx.move (gb_set (gb_refl w (some pb)) k v) (fun j hj => by cases hj; exact .inr (.inl rfl)), h8⟩⟩
theorem Play.setB (h : Play LB w0 B R pb w p oa on oc bits forks base fresh) (x : Int) : Play LB w0 B R pb (w.setCell ⟨pb, 2, none⟩ (.int .i64 x)) p oa on oc x forks base fresh := by
  obtain ⟨h1, h2, h3, h4⟩ := h.setP 2 (.int .i64 x)
  exact ⟨h1, h2, h.hB, h.hp, (World.cell?_setCell_other _ _ _ _ (by simp)).trans h.c0, (World.cell?_setCell_other _ _ _ _ (by simp)).trans h.c1, World.cell?_setCell_same _ _ _ h.c2, (World.cell?_setCell_other _ _ _ _ (by simp)).trans h.c3, (World.cell?_setCell_other _ _ _ _ (by simp)).trans h.c4, (World.cell?_setCell_other _ _ _ _ (by simp)).trans h.c5, h3, h4⟩
theorem Play.setF (h : Play LB w0 B R pb w p oa on oc bits forks base fresh) (x : Int) : Play LB w0 B R pb (w.setCell ⟨pb, 3, none⟩ (.int .i64 x)) p oa on oc bits x base fresh := by
  obtain ⟨h1, h2, h3, h4⟩ := h.setP 3 (.int .i64 x)
  exact ⟨h1, h2, h.hB, h.hp, (World.cell?_setCell_other _ _ _ _ (by simp)).trans h.c0, (World.cell?_setCell_other _ _ _ _ (by simp)).trans h.c1, (World.cell?_setCell_other _ _ _ _ (by simp)).trans h.c2, World.cell?_setCell_same _ _ _ h.c3, (World.cell?_setCell_other _ _ _ _ (by simp)).trans h.c4, (World.cell?_setCell_other _ _ _ _ (by simp)).trans h.c5, h3, h4⟩
theorem Play.setM (h : Play LB w0 B R pb w p oa on oc bits forks base fresh) (x : Bool) : Play LB w0 B R pb (w.setCell ⟨pb, 4, none⟩ (.bool x)) p oa on oc bits forks x fresh := by
  obtain ⟨h1, h2, h3, h4⟩ := h.setP 4 (.bool x)
  exact ⟨h1, h2, h.hB, h.hp, (World.cell?_setCell_other _ _ _ _ (by simp)).trans h.c0, (World.cell?_setCell_other _ _ _ _ (by simp)).trans h.c1, (World.cell?_setCell_other _ _ _ _ (by simp)).trans h.c2, (World.cell?_setCell_other _ _ _ _ (by simp)).trans h.c3, World.cell?_setCell_same _ _ _ h.c4, (World.cell?_setCell_other _ _ _ _ (by simp)).trans h.c5, h3, h4⟩
theorem Play.setN (h : Play LB w0 B R pb w p oa on oc bits forks base fresh) (x : Bool) : Play LB w0 B R pb (w.setCell ⟨pb, 5, none⟩ (.bool x)) p oa on oc bits forks base x := by
  obtain ⟨h1, h2, h3, h4⟩ := h.setP 5 (.bool x)
  exact ⟨h1, h2, h.hB, h.hp, (World.cell?_setCell_other _ _ _ _ (by simp)).trans h.c0, (World.cell?_setCell_other _ _ _ _ (by simp)).trans h.c1, (World.cell?_setCell_other _ _ _ _ (by simp)).trans h.c2, (World.cell?_setCell_other _ _ _ _ (by simp)).trans h.c3, (World.cell?_setCell_other _ _ _ _ (by simp)).trans h.c4, World.cell?_setCell_same _ _ _ h.c5, h3, h4⟩
theorem Play.far (h : Play LB w0 B R pb w p oa on oc bits forks base fresh) : ∀ b, w.heap.size ≤ b → b ≠ pb ∧ some b ≠ (Value.slice oa on oc).ownBlock := fun b hb => ⟨by have := h.lt; omega, fun e => by
  obtain ⟨xs, _, hx, _⟩ := h.row
  have := (hx.lt b e.symm).2
  omega⟩
theorem own_set2 {w : World} {b H : Nat} {a : Option Addr} {xs : List Arg} (u v : Value) (h : Own w H a xs) (hb : b < H) : Own ((w.setCell ⟨b, 1, none⟩ u).setCell ⟨b, 2, none⟩ v) H a xs := by
  rcases h with h | ⟨c, o, h1, h2, h3⟩
  · exact .inl h
  · exact .inr ⟨c, o, h1, by omega, (h3.other b 1 (by omega) u).other b 2 (by omega) v⟩
theorem three_at {X W : World} {b : Nat} {T : TypeId} {x y z : Value} {row : Option Nat} (k : X.heap[b]? = some (.cells #[x, y, z] T (0, 0))) (g : X.grownBy W row) (hn : some b ≠ row) :
    (W.cell? ⟨b, 0, none⟩ = some x ∧ W.cell? ⟨b, 1, none⟩ = some y ∧ W.cell? ⟨b, 2, none⟩ = some z) ∧ W.frozen? ⟨b, 0, none⟩ = false ∧ W.frozen? ⟨b, 1, none⟩ = false ∧ W.frozen? ⟨b, 2, none⟩ = false := by
  have k3 : W.heap[b]? = some (.cells #[x, y, z] T (0, 0)) := (g.block _ (Array.getElem?_eq_some_iff.1 k).1 hn).trans k
  exact ⟨⟨(cell_of_row _ _ _ _ _ _ k3).trans rfl, (cell_of_row _ _ _ _ _ _ k3).trans rfl, (cell_of_row _ _ _ _ _ _ k3).trans rfl⟩, by simp [World.frozen?, k3], by simp [World.frozen?, k3], by simp [World.frozen?, k3]⟩
/-- One more instruction in a play: ready for an append. -/
theorem Play.ready (h : Play LB w0 B R pb w p oa on oc bits forks base fresh) : ∃ cs, w.ownsRow w0.heap.size 44 3 (.slice oa on oc) on cs ∧
    ∀ (w5 : World) (x : InstT) (c : List Value) (g1 cap1 : Nat), x.one.args.length ≤ 8 → EF LB w w0.heap.size (fun b => b ≠ pb ∧ some b ≠ (Value.slice oa on oc).ownBlock) x c → w5.ownsRow w0.heap.size 44 3 (.slice (some ⟨g1, 0, none⟩) (on + 1) cap1) (on + 1) (cs ++ c) → w.grownBy w5 (Value.slice oa on oc).ownBlock → ((Value.slice oa on oc).ownBlock = some g1 ∨ g1 = w.heap.size) →
      ((∀ q : Nat, w5.cell? ⟨pb, q, none⟩ = w.cell? ⟨pb, q, none⟩) ∧ ∀ q : Nat, w5.frozen? ⟨pb, q, none⟩ = false) ∧ Play LB w0 B R pb (w5.setCell ⟨pb, 1, none⟩ (.slice (some ⟨g1, 0, none⟩) (on + 1) cap1)) p (some ⟨g1, 0, none⟩) (on + 1) cap1 bits forks base fresh := by
  obtain ⟨xs, e, hx, h8⟩ := h.row
  have hxl := hx.lt
  obtain ⟨h1, cs, h2, h3⟩ := hx
  refine ⟨cs, by rw [e]; rw [e] at h3; exact h3, ?_⟩
  intro w5 x c g1 cap1 hx8 hN own5 g5 hat
  have hl := h.lt
  have hn : some pb ≠ (Value.slice oa on oc).ownBlock := fun q => h1 q.symm
  have hR : ∀ j, (Value.slice oa on oc).ownBlock = some j → B ≤ j := fun j hj => by have := hxl j hj; have := h.hB; omega
  have k : ∀ q : Nat, w5.cell? ⟨pb, q, none⟩ = w.cell? ⟨pb, q, none⟩ := fun q => g5.cell_far _ hl hn
  have kf : ∀ q : Nat, w5.frozen? ⟨pb, q, none⟩ = w.frozen? ⟨pb, q, none⟩ := fun q => g5.frozen_far _ hl hn
  have own6 := own5
  rw [e] at own6
  have hP : RD LB w5 w0.heap.size pb (.slice (some ⟨g1, 0, none⟩) (on + 1) cap1) (xs ++ [x]) := by rw [e]; exact RD.push h1 h2 hN hl own6 g5 hat
  have G5 : w0.grownBy w5 (some R) := gb_then h.gr g5 (fun j hj => .inl (hxl j hj).1)
  refine ⟨⟨k, fun q => (kf q).trans (h.fz q)⟩, (h.rd.kept g5 hR).set _ _ _ (by have := h.hB; have := h.hp; omega), gb_put G5 h.hp, h.hB, h.hp, ?_, ?_, ?_, ?_, ?_, ?_, ?_, ?_⟩
  · exact (World.cell?_setCell_other _ _ _ _ (by simp)).trans ((k 0).trans h.c0)
  · exact World.cell?_setCell_same _ _ _ ((k 1).trans h.c1)
  · exact (World.cell?_setCell_other _ _ _ _ (by simp)).trans ((k 2).trans h.c2)
  · exact (World.cell?_setCell_other _ _ _ _ (by simp)).trans ((k 3).trans h.c3)
  · exact (World.cell?_setCell_other _ _ _ _ (by simp)).trans ((k 4).trans h.c4)
  · exact (World.cell?_setCell_other _ _ _ _ (by simp)).trans ((k 5).trans h.c5)
  · intro o; simpa using (kf o).trans (h.fz o)
  · exact ⟨xs ++ [x], by rw [e]; simp, hP.move (gb_set (gb_refl w5 (some pb)) 1 _) (fun j hj => by cases hj; exact .inr (.inl rfl)), fun z hz => by
      rcases List.mem_append.1 hz with hz | hz
      · exact h8 z hz
      · simp at hz; rw [hz]; exact hx8⟩
/-- The same behind the slice of the one new instruction. -/
theorem Play.more (h : Play LB w0 B R pb w p oa on oc bits forks base fresh) (x : InstT) (hx8 : x.one.args.length ≤ 8) (a : Option Addr) (cap : Nat) (hE : EF LB w w0.heap.size (fun b => b ≠ pb ∧ some b ≠ (Value.slice oa on oc).ownBlock) x [.int .i64 x.code, .int .i64 x.one.op, .slice a x.one.args.length cap]) (t : TypeId) :
    ∃ cs, (w.alloc (.cells #[.int .i64 x.code, .int .i64 x.one.op, .slice a x.one.args.length cap] t)).ownsRow w0.heap.size 44 3 (.slice oa on oc) on cs ∧
      (∀ (q : Nat) (v : Value), ([.int .i64 x.code, .int .i64 x.one.op, .slice a x.one.args.length cap] : List Value)[q]? = some v → (w.alloc (.cells #[.int .i64 x.code, .int .i64 x.one.op, .slice a x.one.args.length cap] t)).cell? ((⟨w.heap.size, 0, none⟩ : Addr).add q) = some v) ∧ w0.heap.size ≤ w.heap.size ∧
      ∀ (w5 : World) (g1 cap1 : Nat), w5.ownsRow w0.heap.size 44 3 (.slice (some ⟨g1, 0, none⟩) (on + 1) cap1) (on + 1) (cs ++ [.int .i64 x.code, .int .i64 x.one.op, .slice a x.one.args.length cap]) → (w.alloc (.cells #[.int .i64 x.code, .int .i64 x.one.op, .slice a x.one.args.length cap] t)).grownBy w5 (Value.slice oa on oc).ownBlock → ((Value.slice oa on oc).ownBlock = some g1 ∨ g1 = w.heap.size + 1) →
        (w5.cell? ⟨pb, 1, none⟩ = some (.slice oa on oc) ∧ w5.cell? ⟨pb, 4, none⟩ = some (.bool base) ∧ w5.cell? ⟨pb, 5, none⟩ = some (.bool fresh) ∧ w5.frozen? ⟨pb, 1, none⟩ = false ∧ w5.frozen? ⟨pb, 4, none⟩ = false ∧ w5.frozen? ⟨pb, 5, none⟩ = false) ∧ Play LB w0 B R pb (w5.setCell ⟨pb, 1, none⟩ (.slice (some ⟨g1, 0, none⟩) (on + 1) cap1)) p (some ⟨g1, 0, none⟩) (on + 1) cap1 bits forks base fresh := by
  obtain ⟨cs, h1, h2⟩ := (h.alloc (.cells #[.int .i64 x.code, .int .i64 x.one.op, .slice a x.one.args.length cap] t)).ready
  have hA := h.alloc (.cells #[.int .i64 x.code, .int .i64 x.one.op, .slice a x.one.args.length cap] t)
  refine ⟨cs, h1, ?_, h.gr.size, ?_⟩
  · intro q v hq
    match q with
    | 0 => simp at hq; subst hq; simp [Addr.add]
    | 1 => simp at hq; subst hq; simp [Addr.add]
    | 2 => simp at hq; subst hq; simp [Addr.add]
    | (j + 3) => simp at hq
  · intro w5 g1 cap1 o5 gg5 hat
    obtain ⟨⟨k, kf⟩, hP⟩ := h2 w5 x _ g1 cap1 hx8 (hE.move (World.grownBy_alloc w _ none) (fun b _ _ _ => by simp) (fun b _ _ b3 => b3)) o5 gg5 (by simpa using hat)
    exact ⟨⟨(k 1).trans hA.c1, (k 4).trans hA.c4, (k 5).trans hA.c5, kf 1, kf 4, kf 5⟩, hP⟩
end Go.Proofs.YtcihplachlokiaaGreatDoor.Rr
