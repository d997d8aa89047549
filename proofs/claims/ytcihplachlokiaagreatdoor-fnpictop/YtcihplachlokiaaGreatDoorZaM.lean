/- Instructions in the memory: sizes, copies, comparison. -/
import Derived.Test.YtcihplachlokiaaGreatDoorGeM
namespace Go.Proofs.YtcihplachlokiaaGreatDoor
open Go.RowKit
set_option linter.unusedVariables false

structure InstT where
  code : Int
  one : ElemT
def InstIs (W : World) (lo : Nat) (i : InstT) (cs : List Value) : Prop := ∃ v, cs = [.int .i64 i.code, .int .i64 i.one.op, v] ∧ RowIs W lo 3 ArgIs v i.one.args
theorem InstIs.move {W W' : World} {lo lo' : Nat} (k : Keeps lo W W') (hl : lo' ≤ lo) {e : InstT} {cs : List Value} (h : InstIs W lo e cs) : InstIs W' lo' e cs := by
  obtain ⟨v, hc, hr⟩ := h
  exact ⟨v, hc, hr.move k hl fun _ _ _ h => h⟩
abbrev InstsIs (W : World) (lo : Nat) (v : Value) (xs : List InstT) : Prop := RowIs W lo 3 (InstIs W lo) v xs
theorem instsIs_move {W W' : World} {lo lo' : Nat} (k : Keeps lo W W') (hl : lo' ≤ lo) {v : Value} {xs : List InstT} (h : InstsIs W lo v xs) : InstsIs W' lo' v xs := h.move k hl fun _ _ _ h => h.move k hl
def wI (i : InstT) : Nat := wE i.one
theorem instT_eq (i j : InstT) : (decide (i.code = j.code) && eqB i.one j.one) = true ↔ i = j := by
  rw [Bool.and_eq_true, decide_eq_true_iff, eqB_true]
  cases i; cases j; simp

theorem make_Inst (n : Nat) (hn : n ≤ 1048576) (w : World) :
    (Instr.makeSlice 23 (.int .i64 (n : Int)) (.int .i64 (n : Int))).run Tryz.prog w = .ok (.slice (some ⟨w.heap.size, 0, none⟩) n n) (w.alloc (.cells (madeCells #[.int .i64 0, .int .i64 0, .slice none 0 0] (n * 3)) 44)) := by
  have hinfo : (Tryz.prog.info? 44).map (fun i => (i.zero, i.size, i.bytes)) = some (some (.agg #[.int .i64 0, .int .i64 0, .slice none 0 0]), 3, 40) := by kernel_rfl
  obtain ⟨i, hi, hzz⟩ := Option.map_eq_some_iff.1 hinfo
  simp only [Prod.mk.injEq] at hzz
  obtain ⟨hz, hs, hb⟩ := hzz
  have hr := run_make (P := Tryz.prog) w 23 44 i _ Tryz.underlying23 hi hz .i64 .i64 n n (by omega) (Int.le_refl _) (by rw [hb]; omega) (by omega)
  simp only [Int.toNat_natCast, hs] at hr
  exact hr

end Go.Proofs.YtcihplachlokiaaGreatDoor/- Instructions copied: all that is made is plain cells. -/
namespace Go.Proofs.YtcihplachlokiaaGreatDoor
open Go.RowKit
set_option linter.unusedVariables false

/-- From 'lo' on there are plain cells alone. -/
def Plain (lo : Nat) (W : World) : Prop := ∀ j, lo ≤ j → j < W.heap.size → ∃ C t, W.heap[j]? = some (.cells C t (0, 0))
structure BP (B : Nat) (w w' : World) : Prop where
  bel : Below B w w'
  pl : ∀ lo, Plain lo w → Plain lo w'
theorem BP.refl (B : Nat) (w : World) : BP B w w := ⟨Below.refl _ _, fun _ h => h⟩
theorem BP.size {B : Nat} {w w' : World} (h : BP B w w') : w.heap.size ≤ w'.heap.size := h.bel.size
theorem BP.block {B : Nat} {w w' : World} (h : BP B w w') : ∀ k, k < B → w'.heap[k]? = w.heap[k]? := h.bel.block
theorem BP.mono {B B' : Nat} {w w' : World} (h : BP B w w') (hb : B' ≤ B) : BP B' w w' := ⟨h.bel.mono hb, h.pl⟩
theorem BP.trans {B : Nat} {w w' w'' : World} (h : BP B w w') (h' : BP B w' w'') : BP B w w'' := ⟨h.bel.trans h'.bel, fun lo p => h'.pl lo (h.pl lo p)⟩
theorem BP.alloc {B : Nat} {a w : World} (h : BP B a w) (hb : B ≤ w.heap.size) {C : Array Value} (t : TypeId) : BP B a (w.alloc (.cells C t)) := ⟨h.bel.alloc hb _, fun lo p j h1 h2 => by
  by_cases e : j < w.heap.size
  · obtain ⟨C', t', k⟩ := h.pl lo p j h1 e
    exact ⟨C', t', (heap_alloc_old _ _ (h := e)).trans k⟩
  · simp at h2
    obtain rfl : j = w.heap.size := by omega
    exact ⟨C, t, heap_alloc_last w _⟩⟩
theorem bp_setRow {B : Nat} {a w : World} (h : BP B a w) {g : Nat} (hg : B ≤ g) (D : Array Value) : BP B a (w.setRow g D) := ⟨below_setRow h.bel hg D, fun lo p j h1 h2 => by
  have hs : (w.setRow g D).heap.size = w.heap.size := by unfold World.setRow; simp
  obtain ⟨C', t', k⟩ := h.pl lo p j h1 (by omega)
  by_cases e : j = g
  · subst e
    exact ⟨D, t', row_set k D⟩
  · exact ⟨C', t', row_beside k _ (fun q => e q.symm) D⟩⟩
theorem bp_row {w W : World} (b : BP w.heap.size w W) {g : Nat} (hg : w.heap.size ≤ g) {C : Array Value} {t : TypeId} (h : W.heap[g]? = some (.cells C t (0, 0))) (D : Array Value) : BP w.heap.size w (W.setRow g D) := bp_setRow b hg D
theorem Keeps.of_bp {B : Nat} {w w' : World} (g : BP w.heap.size w w') (lo : Nat) : Keeps lo w w' := Keeps.of_below g.bel lo
theorem BP.plain {w w' : World} (h : BP w.heap.size w w') : Plain w.heap.size w' := h.pl _ (fun j h1 h2 => by omega)

end Go.Proofs.YtcihplachlokiaaGreatDoor
/- A list's copy marked: what it touches. -/
namespace Go.Proofs.YtcihplachlokiaaGreatDoor
open Go.RowKit
set_option linter.unusedVariables false

/-- Whole numbers have been written over whole numbers, in blocks from 'lo' on and ahead of 'hi'. -/
structure WMk (lo hi : Nat) (w w' : World) : Prop where
  os : w'.os = w.os
  tape : w'.tape = w.tape
  output : w'.output = w.output
  size : w.heap.size ≤ w'.heap.size
  out : ∀ j, j < w.heap.size → (j < lo ∨ hi ≤ j) → w'.heap[j]? = w.heap[j]?
  cell : ∀ (b o : Nat) (v : Value), w.cell? ⟨b, o, none⟩ = some v → (∀ k u, v ≠ .int k u) → w'.cell? ⟨b, o, none⟩ = some v
  num : ∀ (b o : Nat) (u : Int), w.cell? ⟨b, o, none⟩ = some (.int .i64 u) → ∃ u', w'.cell? ⟨b, o, none⟩ = some (.int .i64 u')
  soft : ∀ (b : Nat), (∃ C t, w.heap[b]? = some (.cells C t (0, 0))) → ∃ C t, w'.heap[b]? = some (.cells C t (0, 0))
theorem WMk.refl (lo hi : Nat) (w : World) : WMk lo hi w w := ⟨rfl, rfl, rfl, Nat.le_refl _, fun _ _ _ => rfl, fun _ _ _ h _ => h, fun _ _ u h => ⟨u, h⟩, fun _ h => h⟩
theorem WMk.trans {lo hi : Nat} {w w' w'' : World} (h : WMk lo hi w w') (h' : WMk lo hi w' w'') : WMk lo hi w w'' :=
  ⟨h'.os.trans h.os, h'.tape.trans h.tape, h'.output.trans h.output, Nat.le_trans h.size h'.size, fun j h1 hj => (h'.out j (Nat.lt_of_lt_of_le h1 h.size) hj).trans (h.out j h1 hj), fun b o v h1 h2 => h'.cell b o v (h.cell b o v h1 h2) h2, fun b o u h1 => by
    obtain ⟨u', h2⟩ := h.num b o u h1
    exact h'.num b o u' h2, fun b h1 => h'.soft b (h.soft b h1)⟩
theorem WMk.of_below (lo hi : Nat) {w w' : World} (g : Below w.heap.size w w') : WMk lo hi w w' :=
  ⟨g.os, g.tape, g.output, g.size, fun j h1 _ => g.block j h1, fun b o v h _ => (Keeps.of_below g 0) b o v (Nat.zero_le _) h, fun b o u h => ⟨u, (Keeps.of_below g 0) b o _ (Nat.zero_le _) h⟩, fun b h => by
    obtain ⟨C, t, k⟩ := h
    exact ⟨C, t, (g.block _ (Array.getElem?_eq_some_iff.1 k).1).trans k⟩⟩
theorem WMk.below {lo hi B : Nat} {a w w' : World} (h : Below B a w) (g : WMk lo hi w w') (hb : B ≤ lo) (hs : B ≤ w.heap.size) : Below B a w' :=
  ⟨g.os.trans h.os, g.tape.trans h.tape, g.output.trans h.output, Nat.le_trans h.size g.size, fun j hj => (g.out j (by omega) (.inl (by omega))).trans (h.block j hj)⟩
theorem cells_of_cell {w : World} {b o : Nat} {C : Array Value} {t : TypeId} {v : Value} (h : w.heap[b]? = some (.cells C t (0, 0))) (hc : w.cell? ⟨b, o, none⟩ = some v) : o < C.size := by
  rw [cell_of_row _ _ _ _ _ _ h] at hc
  exact (Array.getElem?_eq_some_iff.1 hc).1
/-- A number over a number. -/
theorem WMk.put {lo hi : Nat} {w : World} {b o : Nat} {u : Int} (hc : w.cell? ⟨b, o, none⟩ = some (.int .i64 u)) (hs : ∃ C t, w.heap[b]? = some (.cells C t (0, 0))) (hl : lo ≤ b) (hh : b < hi) (x : Int) : WMk lo hi w (w.setCell ⟨b, o, none⟩ (.int .i64 x)) := by
  obtain ⟨C, t, h⟩ := hs
  have h2 := row_put h o (.int .i64 x)
  have ho := cells_of_cell h hc
  have hcell : ∀ (b' o' : Nat), (w.setCell ⟨b, o, none⟩ (.int .i64 x)).cell? ⟨b', o', none⟩ = if b' = b ∧ o' = o then some (.int .i64 x) else w.cell? ⟨b', o', none⟩ := fun b' o' => by
    by_cases e : b' = b
    · subst e
      rw [cell_of_row _ _ _ _ _ _ h2, cell_of_row _ _ _ _ _ _ h]
      by_cases e2 : o' = o
      · subst e2
        rw [if_pos ⟨rfl, rfl⟩]
        simp [ho]
      · rw [if_neg (fun q => e2 q.2)]
        rw [Array.getElem?_setIfInBounds_ne (fun q => e2 q.symm)]
    · rw [if_neg (fun q => e q.1)]
      exact World.cell?_setCell_other _ _ _ _ (by simp)
  refine ⟨rfl, rfl, rfl, ?_, ?_, ?_, ?_, ?_⟩
  · simp [World.setCell]
  · intro j _ hj
    by_cases e : j = b
    · subst e; omega
    · simp only [World.setCell]
      simp only [Array.getElem?_modify]
      rw [if_neg (fun q : b = j => e q.symm)]
  · intro b' o' v hv hn
    rw [hcell]
    split
    · next e =>
      obtain ⟨rfl, rfl⟩ := e
      rw [hc] at hv
      exact absurd (Option.some.inj hv).symm (hn _ _)
    · exact hv
  · intro b' o' u' hu
    rw [hcell]
    split
    · exact ⟨x, rfl⟩
    · exact ⟨u', hu⟩
  · intro b' hb'
    by_cases e : b = b'
    · subst e; exact ⟨_, t, h2⟩
    · obtain ⟨C', t', k⟩ := hb'
      exact ⟨C', t', row_other k b o e _⟩
end Go.Proofs.YtcihplachlokiaaGreatDoor
/- A list's copy marked: the walks. -/
namespace Go.Proofs.YtcihplachlokiaaGreatDoor
open Go.RowKit
set_option linter.unusedVariables false

theorem soft_free {w : World} {b : Nat} (h : ∃ C t, w.heap[b]? = some (.cells C t (0, 0))) (o : Nat) : w.frozen? ⟨b, o, none⟩ = false := by
  obtain ⟨C, t, k⟩ := h
  simp [World.frozen?, k]

/-- The operands of an instruction: numbers, in plain cells. -/
theorem args_nums {w : World} {lo : Nat} {u : Value} {xs : List ArgT} (h : RowIs w lo 3 ArgIs u xs) (hp : Plain lo w) : ∃ (a : Option Addr) (cp : Nat), u = .slice a xs.length cp ∧ (xs.length = 0 ∨ ∃ b o, a = some ⟨b, o, none⟩ ∧ lo ≤ b ∧ b < w.heap.size ∧ (∃ C t, w.heap[b]? = some (.cells C t (0, 0))) ∧ ∀ i, i < xs.length * 3 → ∃ v, w.cell? ⟨b, o + i, none⟩ = some (.int .i64 v)) := by
  obtain ⟨a, cp, rfl, _, hx⟩ := h
  refine ⟨a, cp, rfl, ?_⟩
  by_cases h0 : xs.length = 0
  · exact .inl h0
  · right
    obtain ⟨b, o, cs, rfl, hlo, _, hr, hR⟩ := hx 0 _ (List.getElem?_eq_getElem (by omega))
    have hR : cs = _ := hR
    have hc0 := hr 0 _ (by rw [hR]; rfl)
    have hbl := World.block_lt_of_cell? _ _ hc0
    refine ⟨b, o, rfl, hlo, hbl, hp b hlo hbl, fun i hi => ?_⟩
    obtain ⟨b', o', cs', e, _, _, hr', hR'⟩ := hx (i / 3) _ (List.getElem?_eq_getElem (by omega))
    simp only [Option.some.injEq, Addr.mk.injEq] at e
    obtain ⟨rfl, rfl, _⟩ := e
    have hR' : cs' = _ := hR'
    have hi3 : i % 3 = 0 ∨ i % 3 = 1 ∨ i % 3 = 2 := by omega
    have hdm : i / 3 * 3 + i % 3 = i := by omega
    rcases hi3 with h | h | h
    · have k := hr' 0 _ (by rw [hR']; rfl)
      rw [show o + i / 3 * 3 + 0 = o + i by omega] at k
      exact ⟨_, k⟩
    · have k := hr' 1 _ (by rw [hR']; rfl)
      rw [show o + i / 3 * 3 + 1 = o + i by omega] at k
      exact ⟨_, k⟩
    · have k := hr' 2 _ (by rw [hR']; rfl)
      rw [show o + i / 3 * 3 + 2 = o + i by omega] at k
      exact ⟨_, k⟩

end Go.Proofs.YtcihplachlokiaaGreatDoor
