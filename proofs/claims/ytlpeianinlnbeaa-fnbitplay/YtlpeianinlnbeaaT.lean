/- Walks of the specification's push, pop, top, turn, and of its small stacks. -/
import Derived.Test.YtlpeianinlnbeaaS
namespace Go.Proofs.Ytlpeianinlnbeaa
open Go.RowKit
set_option linter.unusedVariables false

/-- Two cells of a struct (Bits, N) that may be written. -/
structure Sk (k : IntKind) (w : World) (bl : Nat) (b n : Int) : Prop where
  c0 : w.cell? ⟨bl, 0, none⟩ = some (.int k b)
  c1 : w.cell? ⟨bl, 1, none⟩ = some (.int .i64 n)
  f0 : w.frozen? ⟨bl, 0, none⟩ = false
  f1 : w.frozen? ⟨bl, 1, none⟩ = false
theorem Sk.set {k : IntKind} {w : World} {bl : Nat} {b n : Int} (h : Sk k w bl b n) (b' n' : Int) : Sk k ((w.setCell ⟨bl, 0, none⟩ (.int k b')).setCell ⟨bl, 1, none⟩ (.int .i64 n')) bl b' n' :=
  ⟨(World.cell?_setCell_other _ _ _ _ (by simp)).trans (World.cell?_setCell_same _ _ _ h.c0), World.cell?_setCell_same _ _ _ ((World.cell?_setCell_other _ _ _ _ (by simp)).trans h.c1), by simpa using h.f0, by simpa using h.f1⟩
theorem Sk.later {k : IntKind} {w w' : World} {bl : Nat} {b n : Int} (h : Sk k w bl b n) {B : Nat} (g : Below B w w') (hb : bl < B) : Sk k w' bl b n :=
  ⟨(g.cell hb).trans h.c0, (g.cell hb).trans h.c1, (g.frozen hb).trans h.f0, (g.frozen hb).trans h.f1⟩

theorem Sk.grown {k : IntKind} {w w' : World} {bl : Nat} {b n : Int} {row : Option Nat} (h : Sk k w bl b n) (g : w.grownBy w' row) (hb : bl < w.heap.size) (hne : some bl ≠ row) : Sk k w' bl b n :=
  ⟨(g.cell_far _ hb hne).trans h.c0, (g.cell_far _ hb hne).trans h.c1, (g.frozen_far _ hb hne).trans h.f0, (g.frozen_far _ hb hne).trans h.f1⟩
theorem Sk.alloc {k : IntKind} {w : World} {bl : Nat} {b n : Int} (h : Sk k w bl b n) (o : Obj) : Sk k (w.alloc o) bl b n :=
  h.later ((Below.refl w.heap.size w).alloc (Nat.le_refl _) o) (World.block_lt_of_cell? _ _ h.c0)
theorem Sk.lt {k : IntKind} {w : World} {bl : Nat} {b n : Int} (h : Sk k w bl b n) : bl < w.heap.size := World.block_lt_of_cell? _ _ h.c0
theorem Sk.fresh (k : IntKind) (w : World) (b n : Int) (t : TypeId) : Sk k (w.alloc (.cells #[.int k b, .int .i64 n] t)) w.heap.size b n := by
  refine ⟨?_, ?_, ?_, ?_⟩ <;> simp

set_option maxHeartbeats 400000 in
theorem stack_nil (w : World) :
    Calls Try.prog 79 #[.slice none 0 0] w fun e w' => e = .returned (.agg #[.int .u16 0, .int .i64 0]) ∧ Below w.heap.size w w' := by
  go_enter Try.func79, Try.ntmps79
  go_wp2
  go_rounds 1
  go_returns
  exact ⟨rfl, by go_grown⟩

theorem row_form {w : World} {base : Nat} {v : Value} {l : List Bool} (h : w.ownsRow base 4 1 v l.length (Bs l)) :
    (v = .slice none 0 0 ∧ l = []) ∨ ∃ g cap, v = .slice (some ⟨g, 0, none⟩) l.length cap ∧ base ≤ g ∧ g < w.heap.size ∧ (∀ j x, l[j]? = some x → w.cell? ⟨g, j, none⟩ = some (.bool x)) ∧ l.length ≤ cap ∧ (∀ o, w.frozen? ⟨g, o, none⟩ = false) := by
  rcases h.2 with ⟨hv, h0⟩ | ⟨g, cap, cur, hv, hb, hg, hcap, hm, hsz, hx⟩
  · exact .inl ⟨hv, List.eq_nil_of_length_eq_zero h0⟩
  · have hob : v.ownBlock = some g := by rw [hv]; rfl
    refine .inr ⟨g, cap, hv, hb, (h.lt g hob).2, ?_, hcap, ?_⟩
    · intro j x hj
      have := h.cells hob j (.bool x) (by simp [Bs, hj])
      by_cases h0 : j = 0
      · subst h0; simpa [Addr.add] using this
      · simpa [Addr.add, h0] using this
    · intro o
      simp [World.frozen?, hg]

theorem stack_any (l : List Bool) (v : Value) (base : Nat) (w : World) (hl : l.length ≤ 1000) (h : w.ownsRow base 4 1 v l.length (Bs l)) :
    Calls Try.prog 79 #[v] w fun e w' => e = .returned (.agg #[.int .u16 (val (l.reverse.take 16)), .int .i64 (min l.length 16 : Nat)]) ∧ Below w.heap.size w w' := by
  rcases row_form h with ⟨rfl, rfl⟩ | ⟨g, cap, rfl, _, hg, hc, _⟩
  · exact stack_nil w
  · exact stack_of l g cap w hl hc hg

set_option maxHeartbeats 1000000 in
theorem spec_push (b n : Int) (x : Bool) (w : World) (hb0 : 0 ≤ b) (hb1 : b ≤ 65535) :
    Calls Try.prog 45 #[.agg #[.int .u16 b, .int .i64 n], .bool x] w fun e w' => e = .returned (.agg #[.int .u16 (val ((x :: (Ls b n).reverse).take 16)), .int .i64 (min ((Ls b n).length + 1) 16 : Nat)]) ∧ Below w.heap.size w w' := by
  obtain ⟨i0, hi, hz0, hz1, hz2⟩ := info_parts Try.info4
  have hlen := Ls_len b n
  go_enter Try.func45, Try.ntmps45
  go_wp2_with fail
  refine (list_any b n _ hb0 hb1).mono ?_
  rintro e w1 ⟨v, rfl, hown, g1⟩
  have b1 : Below w.heap.size w w1 := (((Below.refl _ _).alloc (Nat.le_refl _) _).alloc (by simp) _).trans (g1.mono (by simp; omega))
  have s1 : Sk .u16 w1 (w.heap.size + 1) 0 0 := by
    have h := (Sk.fresh .u16 (w.alloc (.cells #[.int .u16 b, .int .i64 n] 25)) 0 0 25).later g1 (by simp)
    simpa using h
  have z1 : w.heap.size + 2 ≤ w1.heap.size := by have := g1.size; simp at this; omega
  simp at hown
  clear g1
  go_wp2_with (at_builtin; refine wpList_append_lies _ rfl _ _ 28 rfl (w.heap.size + 1 + 1 + 1) 4 i0 (.bool false) 1 1 Try.underlying28 hi hz0 hz1 hz2 rfl (by decide) _ _ _ rfl (hown.alloc _) ⟨w1.heap.size, 0, none⟩ 1 1 [.bool x] rfl rfl (cell_one_new _ _ _) ?c2 (by decide) ?c3 ?c4 ?c5 _ rfl ?_)
  case c2 => intro u hu; simp at hu; subst hu; rfl
  case c3 => unfold maxLen; omega
  case c4 => omega
  case c5 => simp; omega
  intro g cap w2 hown2 hgrow _ _
  have hown3 : w2.ownsRow (w.heap.size + 1 + 1 + 1) 4 1 (.slice (some ⟨g, 0, none⟩) ((Ls b n).length + 1) cap) (Ls b n ++ [x]).length (Bs (Ls b n ++ [x])) := by simpa [Bs] using hown2
  have hrow : ∀ j, v.ownBlock = some j → w.heap.size + 1 + 1 + 1 ≤ j := fun j hj => (hown.lt j hj).1
  have s2 : Sk .u16 w2 (w.heap.size + 1) 0 0 := (s1.alloc _).grown hgrow (by simp; omega) (fun e => by have := hrow _ e.symm; omega)
  have b2 : Below w.heap.size w w2 := (b1.alloc (by omega) _).grown hgrow (by simp; omega) (fun j hj => by have := hrow j hj; omega)
  clear hown2 hgrow hown hrow s1 b1
  go_wp2_with fail
  refine (stack_any (Ls b n ++ [x]) _ _ _ (by simp; omega) hown3).mono ?_
  rintro e w3 ⟨rfl, g3⟩
  have s3 : Sk .u16 w3 (w.heap.size + 1) 0 0 := s2.later g3 s2.lt
  have b3 : Below w.heap.size w w3 := b2.trans (g3.mono (b2.size))
  clear g3 hown3 b2 s2
  have e1 : (Ls b n ++ [x]).reverse = x :: (Ls b n).reverse := by simp
  have e2 : (Ls b n ++ [x]).length = (Ls b n).length + 1 := by simp
  rw [e1, e2]
  clear e1 e2
  obtain ⟨V, HV⟩ : ∃ V, Hid (V = val ((x :: (Ls b n).reverse).take 16)) := ⟨_, rfl⟩
  obtain ⟨M, HM⟩ : ∃ M, Hid (M = min ((Ls b n).length + 1) 16) := ⟨_, rfl⟩
  rw [← HV.out, ← HM.out]
  obtain ⟨q0, q1, _, _⟩ := s3.set V M
  obtain ⟨c0, c1, f0, f1⟩ := s3
  go_wp2
  exact bodyPost_ret (v := .agg #[.int .u16 V, .int .i64 M]) (by simp [results, Try.results45, go_sem, q0, q1]) rfl ⟨by rw [HV.out, HM.out], by go_grown⟩
end Go.Proofs.Ytlpeianinlnbeaa
