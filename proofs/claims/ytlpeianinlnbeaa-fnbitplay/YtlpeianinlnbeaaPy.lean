/- The law FnBitPlay. -/
import Derived.Test.YtlpeianinlnbeaaLa
namespace Go.Proofs.Ytlpeianinlnbeaa
open Go.RowKit
set_option linter.unusedVariables false

/-- The law's own memory: the stack at its first block, the fork at its second, the list from its third on. -/
structure Pl (w wr : World) (v : Value) (l : List Bool) (sb sn fb fn : Int) : Prop where
  own : wr.ownsRow (w.heap.size + 2) 4 1 v l.length (Bs l)
  s : Sk .u16 wr w.heap.size sb sn
  f : Sk .u8 wr (w.heap.size + 1) fb fn
  b : Below w.heap.size w wr
  z : w.heap.size + 2 ≤ wr.heap.size
theorem Pl.later {w wr wr' : World} {v : Value} {l : List Bool} {sb sn fb fn : Int} (h : Pl w wr v l sb sn fb fn) (g : Below wr.heap.size wr wr') : Pl w wr' v l sb sn fb fn :=
  ⟨h.own.kept (gb_below g) (by cases hv : v.ownBlock <;> simp), h.s.later g h.s.lt, h.f.later g h.f.lt, h.b.trans (g.mono h.b.size), Nat.le_trans h.z g.size⟩
theorem Pl.alloc {w wr : World} {v : Value} {l : List Bool} {sb sn fb fn : Int} (h : Pl w wr v l sb sn fb fn) (o : Obj) : Pl w (wr.alloc o) v l sb sn fb fn :=
  h.later ((Below.refl wr.heap.size wr).alloc (Nat.le_refl _) o)
theorem Pl.setS {w wr : World} {v : Value} {l : List Bool} {sb sn fb fn : Int} (h : Pl w wr v l sb sn fb fn) (b n : Int) : Pl w ((wr.setCell ⟨w.heap.size, 0, none⟩ (.int .u16 b)).setCell ⟨w.heap.size, 1, none⟩ (.int .i64 n)) v l b n fb fn :=
  ⟨ownsRow_setCell_below (ownsRow_setCell_below h.own (by simp) _) (by simp) _, h.s.set b n, (h.f.other _ _ (by omega) _).other _ _ (by omega) _, (h.b.setCell (Nat.le_refl _) _).setCell (Nat.le_refl _) _, by simpa using h.z⟩
theorem Pl.setF {w wr : World} {v : Value} {l : List Bool} {sb sn fb fn : Int} (h : Pl w wr v l sb sn fb fn) (b n : Int) : Pl w ((wr.setCell ⟨w.heap.size + 1, 0, none⟩ (.int .u8 b)).setCell ⟨w.heap.size + 1, 1, none⟩ (.int .i64 n)) v l sb sn b n :=
  ⟨ownsRow_setCell_below (ownsRow_setCell_below h.own (by simp) _) (by simp) _, (h.s.other _ _ (by omega) _).other _ _ (by omega) _, h.f.set b n, (h.b.setCell (by show w.heap.size ≤ w.heap.size + 1; omega) _).setCell (by show w.heap.size ≤ w.heap.size + 1; omega) _, by simpa using h.z⟩
theorem Pl.app {w wr w5 : World} {v v' : Value} {l : List Bool} {y : Bool} {o : Obj} {sb sn fb fn : Int} (h : Pl w wr v l sb sn fb fn) (own5 : w5.ownsRow (w.heap.size + 2) 4 1 v' (l.length + 1) (Bs l ++ [.bool y])) (g5 : (wr.alloc o).grownBy w5 v.ownBlock) :
    Pl w w5 v' (l ++ [y]) sb sn fb fn := by
  have hrow : ∀ j, v.ownBlock = some j → w.heap.size + 2 ≤ j := fun j hj => (h.own.lt j hj).1
  have z := h.z
  refine ⟨by simpa [Bs] using own5, ?_, ?_, ?_, ?_⟩
  · exact (h.s.alloc o).grown g5 (by simp; omega) (fun e => by have := hrow _ e.symm; omega)
  · exact (h.f.alloc o).grown g5 (by simp; omega) (fun e => by have := hrow _ e.symm; omega)
  · exact (h.b.alloc h.b.size o).grown g5 (by have := h.b.size; simp; omega) (fun j hj => by have := hrow j hj; omega)
  · have := g5.size; simp at this; omega

theorem rb_val' : ∀ l : List Bool, rb l.length (val l) = l
  | [] => rfl
  | x :: xs => by
    have ih := rb_val' xs
    have hx := bit01_bd x
    have h1 : (bit01 x + 2 * val xs) % 2 = bit01 x := by omega
    have h2 : (bit01 x + 2 * val xs) / 2 = val xs := by omega
    simp only [List.length_cons, rb, val, h1, h2, ih]
    cases x <;> simp [bit01]
def V (l : List Bool) : Int := val l.reverse
theorem V_bd (l : List Bool) (h : l.length ≤ 8) : 0 ≤ V l ∧ V l ≤ 255 ∧ V l < 2 ^ l.length := by
  have h1 := val_bd l.reverse
  rw [List.length_reverse] at h1
  have h2 := pow_cap l.length 8 h
  have e : (2 : Int) ^ 8 = 256 := by decide
  exact ⟨h1.1, by unfold V; omega, h1.2⟩
theorem V_ok16 (l : List Bool) (h : l.length ≤ 8) : okS 16 (V l) l.length = true ∧ nb 16 (V l) l.length = V l ∧ nn 16 (V l) l.length = l.length := by
  have hb := V_bd l h
  exact nn_norm (V l) l.length hb.1 (by omega) hb.2.2
theorem V_ok8 (l : List Bool) (h : l.length ≤ 8) : okS 8 (V l) l.length = true ∧ nb 8 (V l) l.length = V l ∧ nn 8 (V l) l.length = l.length := by
  have hb := V_bd l h
  have hok : okS 8 (V l) l.length = true := by
    unfold okS
    rw [decide_eq_true_iff]
    exact ⟨by omega, by omega, by simpa using hb.2.2⟩
  exact ⟨hok, by rw [nb, if_pos hok], by rw [nn, if_pos hok]; simp⟩
theorem V_snoc (l : List Bool) (x : Bool) : V (l ++ [x]) = 2 * V l + bit01 x := by
  simp [V, val]; omega

theorem play_push16 (l : List Bool) (x : Bool) (h : l.length ≤ 7) (W : World) :
    Calls Try.prog 24 #[.agg #[.int .u16 (V l), .int .i64 l.length], .bool x] W fun e w' => e = .returned (.agg #[.int .u16 (V (l ++ [x])), .int .i64 (l ++ [x]).length]) ∧ Below W.heap.size W w' := by
  have hb := V_bd l (by omega)
  have ho := V_ok16 l (by omega)
  have hc := impl_push16 (V l) l.length x W hb.1 (by omega)
  have em : min (l.length + 1) 16 = (l ++ [x]).length := by simp; omega
  have e : 2 * V l % 65536 + bit01 x = V (l ++ [x]) := by rw [V_snoc]; omega
  rw [ho.2.1, ho.2.2, em, e] at hc
  exact hc
theorem play_push8 (l : List Bool) (x : Bool) (h : l.length ≤ 7) (W : World) :
    Calls Try.prog 28 #[.agg #[.int .u8 (V l), .int .i64 l.length], .bool x] W fun e w' => e = .returned (.agg #[.int .u8 (V (l ++ [x])), .int .i64 (l ++ [x]).length]) ∧ Below W.heap.size W w' := by
  have hb := V_bd l (by omega)
  have ho := V_ok8 l (by omega)
  have hc := impl_push8 (V l) l.length x W hb.1 (by omega)
  have em : min (l.length + 1) 8 = (l ++ [x]).length := by simp; omega
  have h7 := pow_cap l.length 7 h
  have e7 : (2 : Int) ^ 7 = 128 := by decide
  have e : 2 * V l % 256 + bit01 x = V (l ++ [x]) := by rw [V_snoc]; omega
  rw [ho.2.1, ho.2.2, em, e] at hc
  exact hc
theorem play_top16 (l : List Bool) (x : Bool) (h : l.length ≤ 7) (W : World) :
    Calls Try.prog 29 #[.agg #[.int .u16 (V (l ++ [x])), .int .i64 (l ++ [x]).length]] W fun e w' => e = .returned (.bool x) ∧ Below W.heap.size W w' := by
  have hb := V_bd (l ++ [x]) (by simp; omega)
  have ho := V_ok16 (l ++ [x]) (by simp; omega)
  have hc := impl_top16 (V (l ++ [x])) (l ++ [x]).length W hb.1 (by omega)
  have hx := bit01_bd x
  have e : (V (l ++ [x]) % 2 == 1) = x := by
    rw [V_snoc, show (2 * V l + bit01 x) % 2 = bit01 x by omega]
    cases x <;> simp [bit01]
  rw [ho.2.1, e] at hc
  exact hc
theorem play_top8 (l : List Bool) (x : Bool) (h : l.length ≤ 7) (W : World) :
    Calls Try.prog 30 #[.agg #[.int .u8 (V (l ++ [x])), .int .i64 (l ++ [x]).length]] W fun e w' => e = .returned (.bool x) ∧ Below W.heap.size W w' := by
  have hb := V_bd (l ++ [x]) (by simp; omega)
  have ho := V_ok8 (l ++ [x]) (by simp; omega)
  have hc := impl_top8 (V (l ++ [x])) (l ++ [x]).length W hb.1 (by omega)
  have hx := bit01_bd x
  have e : (V (l ++ [x]) % 2 == 1) = x := by
    rw [V_snoc, show (2 * V l + bit01 x) % 2 = bit01 x by omega]
    cases x <;> simp [bit01]
  rw [ho.2.1, e] at hc
  exact hc
theorem play_pop16 (l : List Bool) (x : Bool) (h : l.length ≤ 7) (W : World) :
    Calls Try.prog 25 #[.agg #[.int .u16 (V (l ++ [x])), .int .i64 (l ++ [x]).length]] W fun e w' => e = .returned (.tuple #[.agg #[.int .u16 (V l), .int .i64 l.length], .bool x]) ∧ Below W.heap.size W w' := by
  have hb := V_bd (l ++ [x]) (by simp; omega)
  have ho := V_ok16 (l ++ [x]) (by simp; omega)
  have hc := impl_pop16 (V (l ++ [x])) (l ++ [x]).length W hb.1 (by omega)
  have hx := bit01_bd x
  have e : (V (l ++ [x]) % 2 == 1) = x := by
    rw [V_snoc, show (2 * V l + bit01 x) % 2 = bit01 x by omega]
    cases x <;> simp [bit01]
  have e2 : V (l ++ [x]) / 2 = V l := by rw [V_snoc]; omega
  have e3 : (l ++ [x]).length - 1 = l.length := by simp
  rw [ho.2.1, ho.2.2, e, e2, e3] at hc
  exact hc
theorem play_pop8 (l : List Bool) (x : Bool) (h : l.length ≤ 7) (W : World) :
    Calls Try.prog 31 #[.agg #[.int .u8 (V (l ++ [x])), .int .i64 (l ++ [x]).length]] W fun e w' => e = .returned (.tuple #[.agg #[.int .u8 (V l), .int .i64 l.length], .bool x]) ∧ Below W.heap.size W w' := by
  have hb := V_bd (l ++ [x]) (by simp; omega)
  have ho := V_ok8 (l ++ [x]) (by simp; omega)
  have hc := impl_pop8 (V (l ++ [x])) (l ++ [x]).length W hb.1 (by omega)
  have hx := bit01_bd x
  have e : (V (l ++ [x]) % 2 == 1) = x := by
    rw [V_snoc, show (2 * V l + bit01 x) % 2 = bit01 x by omega]
    cases x <;> simp [bit01]
  have e2 : V (l ++ [x]) / 2 = V l := by rw [V_snoc]; omega
  have e3 : (l ++ [x]).length - 1 = l.length := by simp
  rw [ho.2.1, ho.2.2, e, e2, e3] at hc
  exact hc
theorem play_none16 (W : World) : Calls Try.prog 25 #[.agg #[.int .u16 0, .int .i64 0]] W fun e w' => e = .returned (.tuple #[.agg #[.int .u16 0, .int .i64 0], .bool false]) ∧ Below W.heap.size W w' :=
  impl_pop16 0 0 W (by omega) (by omega)
theorem play_none8 (W : World) : Calls Try.prog 31 #[.agg #[.int .u8 0, .int .i64 0]] W fun e w' => e = .returned (.tuple #[.agg #[.int .u8 0, .int .i64 0], .bool false]) ∧ Below W.heap.size W w' :=
  impl_pop8 0 0 W (by omega) (by omega)
theorem play_ok16 (l : List Bool) (h : l.length ≤ 8) (W : World) : Calls Try.prog 26 #[.agg #[.int .u16 (V l), .int .i64 l.length]] W fun e w' => e = .returned (.bool true) ∧ Below W.heap.size W w' := by
  have hb := V_bd l h
  have hc := impl_ok (V l) l.length W hb.1 (by omega)
  rw [(V_ok16 l h).1] at hc
  exact hc
theorem play_ok8 (l : List Bool) (h : l.length ≤ 8) (W : World) : Calls Try.prog 32 #[.agg #[.int .u8 (V l), .int .i64 l.length]] W fun e w' => e = .returned (.bool true) ∧ Below W.heap.size W w' := by
  have hb := V_bd l h
  have hc := impl_fork_ok (V l) l.length W hb.1 (by omega)
  rw [(V_ok8 l h).1] at hc
  exact hc
theorem play_list (l : List Bool) (h : l.length ≤ 8) (W : World) :
    Calls Try.prog 21 #[.agg #[.int .u16 (V l), .int .i64 l.length]] W fun e w' => ∃ g, e = .returned (.slice (some ⟨g, 0, none⟩) l.length l.length) ∧ W.heap.size ≤ g ∧ Rw w' g l.length (fun j => l.getD j false) ∧ Below W.heap.size W w' := by
  have hb := V_bd l h
  have ho := V_ok16 l h
  refine (impl_list (V l) l.length W hb.1 (by omega)).mono ?_
  rintro e w' ⟨g, rfl, hg, hR, hB⟩
  rw [ho.2.1, ho.2.2] at hR
  rw [ho.2.2]
  refine ⟨g, rfl, hg, hR.congr (fun j hj => ?_), hB⟩
  have hr : rb l.length (V l) = l.reverse := by
    have := rb_val' l.reverse
    rw [List.length_reverse] at this
    exact this
  have h2 := rev_get (V l) l.length j hj
  rw [hr, List.reverse_reverse] at h2
  rw [List.getD_eq_getElem?_getD, h2]
  rfl
end Go.Proofs.Ytlpeianinlnbeaa
