/- The specification's l1Draw: some stack, whatever the code. -/
import Derived.Test.YtlpeianinlnbeaaD
import Derived.Deep.Light
namespace Go.Proofs.Ytlpeianinlnbeaa
open Go.RowKit
set_option linter.unusedVariables false

theorem gb_then {a b c : World} {R : Nat} {row : Option Nat} (h : a.grownBy b (some R)) (k : b.grownBy c row) (hr : ∀ j, row = some j → a.heap.size ≤ j ∨ j = R) : a.grownBy c (some R) :=
  h.andThen k (fun j hj => (hr j hj).imp_right (fun e => by rw [e]))
theorem gb_below' {a b c : World} {R : Nat} (h : a.grownBy b (some R)) (k : Below b.heap.size b c) : a.grownBy c (some R) := gb_then h (gb_below k) (fun j hj => by cases hj)
theorem gb_alloc {a b : World} {R : Nat} (h : a.grownBy b (some R)) (o : Obj) : a.grownBy (b.alloc o) (some R) := gb_then h (World.grownBy_alloc b o none) (fun j hj => by cases hj)
theorem gb_pick {a b c : World} {R : Nat} (h : a.grownBy b (some R)) (k : b.grownBy c (some R)) : a.grownBy c (some R) := gb_then h k (fun j hj => .inr (by cases hj; rfl))
theorem gb_put {a b : World} {R bl o : Nat} {u : Value} (h : a.grownBy b (some R)) (hb : a.heap.size ≤ bl) : a.grownBy (b.setCell ⟨bl, o, none⟩ u) (some R) := gb_then h (gb_set (gb_refl b (some bl)) o u) (fun j hj => .inl (by cases hj; exact hb))

theorem val16 (l : List Bool) : 0 ≤ val (l.take 16) ∧ val (l.take 16) ≤ 65535 := by
  have h := val_bd (l.take 16)
  have h2 := pow_bd (l.take 16).length (by simp; omega)
  omega

def IsStack (e : Ending) : Prop := ∃ b n : Int, 0 ≤ b ∧ b ≤ 65535 ∧ e = .returned (.agg #[.int .u16 b, .int .i64 n])

theorem cells_row (w : World) (xs : List Int) (t : TypeId) : ∀ j x, xs[j]? = some x → (w.alloc (.cells (xs.map (Value.int .i64)).toArray t)).cell? ⟨w.heap.size, j, none⟩ = some (.int .i64 x) := by
  intro j x hj
  rw [World.cell?_alloc_at _ _ _ _ rfl]
  simp [hj]
theorem row_ne {w : World} {base R : Nat} {v : Value} {k : Nat} {xs : List Value} (h : w.ownsRow base 4 1 v k xs) (hb : R < base) : v.ownBlock ≠ some R := fun e => by have := (h.lt R e).1; omega
theorem draw_step {B R q k : Nat} {w w4 w5 : World} {v v' : Value} {l : List Bool} {y : Bool} {o : Obj} (HL : l.length = k) (own4 : w4.ownsRow (w.heap.size + 1) 4 1 v k (Bs l)) (own5 : w5.ownsRow (w.heap.size + 1) 4 1 v' (k + 1) (Bs l ++ [.bool y]))
    (hR : Reader B w4 R (q + k + 1)) (hS : Sk .u16 w4 w.heap.size 0 0) (hz : w.heap.size + 2 ≤ w4.heap.size) (hG : w.grownBy w4 (some R)) (hRB : R < B) (hBw : B ≤ w.heap.size) (g5 : (w4.alloc o).grownBy w5 v.ownBlock) :
    w5.ownsRow (w.heap.size + 1) 4 1 v' (k + 1) (Bs (l ++ [y])) ∧ Reader B w5 R (q + (k + 1)) ∧ Sk .u16 w5 w.heap.size 0 0 ∧ w.heap.size + 2 ≤ w5.heap.size ∧ w.grownBy w5 (some R) := by
  have hrow : ∀ j, v.ownBlock = some j → w.heap.size + 1 ≤ j := fun j hj => (own4.lt j hj).1
  refine ⟨by simpa [Bs] using own5, ?_, ?_, ?_, ?_⟩
  · exact (hR.alloc o).kept g5 (fun j hj => by have := hrow j hj; omega)
  · exact (hS.alloc o).grown g5 (by simp; omega) (fun e => by have := hrow _ e.symm; omega)
  · have := g5.size; simp at this; omega
  · exact gb_then (gb_alloc hG o) g5 (fun j hj => .inl (by have := hrow j hj; omega))

theorem Sk.put1 {k : IntKind} {w : World} {bl : Nat} {b n : Int} (h : Sk k w bl b n) (n' : Int) : Sk k (w.setCell ⟨bl, 1, none⟩ (.int .i64 n')) bl b n' :=
  ⟨(World.cell?_setCell_other _ _ _ _ (by simp)).trans h.c0, World.cell?_setCell_same _ _ _ h.c1, by simpa using h.f0, by simpa using h.f1⟩
theorem Sk.put0 {k : IntKind} {w : World} {bl : Nat} {b n : Int} (h : Sk k w bl b n) (b' : Int) : Sk k (w.setCell ⟨bl, 0, none⟩ (.int k b')) bl b' n :=
  ⟨World.cell?_setCell_same _ _ _ h.c0, (World.cell?_setCell_other _ _ _ _ (by simp)).trans h.c1, by simpa using h.f0, by simpa using h.f1⟩
theorem Sk.other {k : IntKind} {w : World} {bl : Nat} {b n : Int} (h : Sk k w bl b n) (bl' o : Nat) (hne : bl' ≠ bl) (u : Value) : Sk k (w.setCell ⟨bl', o, none⟩ u) bl b n :=
  ⟨(World.cell?_setCell_other _ _ _ _ (by simp)).trans h.c0, (World.cell?_setCell_other _ _ _ _ (by simp)).trans h.c1, by simpa using h.f0, by simpa using h.f1⟩
theorem draw_end {B R q s : Nat} {w W : World} (V n : Int) (hT : Sk .u16 W s V n) (hS : Sk .u16 W w.heap.size 0 0) (hR : Reader B W R q) (hG : w.grownBy W (some R)) (hBw : B ≤ w.heap.size) :
    ((W.setCell ⟨w.heap.size, 0, none⟩ (.int .u16 V)).setCell ⟨w.heap.size, 1, none⟩ (.int .i64 n)).cell? ⟨w.heap.size, 0, none⟩ = some (.int .u16 V) ∧
    ((W.setCell ⟨w.heap.size, 0, none⟩ (.int .u16 V)).setCell ⟨w.heap.size, 1, none⟩ (.int .i64 n)).cell? ⟨w.heap.size, 1, none⟩ = some (.int .i64 n) ∧
    Reader B ((W.setCell ⟨w.heap.size, 0, none⟩ (.int .u16 V)).setCell ⟨w.heap.size, 1, none⟩ (.int .i64 n)) R q ∧ w.grownBy ((W.setCell ⟨w.heap.size, 0, none⟩ (.int .u16 V)).setCell ⟨w.heap.size, 1, none⟩ (.int .i64 n)) (some R) := by
  have h := hS.set V n
  exact ⟨h.c0, h.c1, (hR.set _ _ _ hBw).set _ _ _ hBw, gb_put (gb_put hG (Nat.le_refl _)) (Nat.le_refl _)⟩

set_option maxHeartbeats 2000000 in
theorem draw_r (B R p : Nat) (w : World) (h : Reader B w R p) (hp : p < 900000) :
    Calls Try.prog 59 #[.pointer (some ⟨R, 0, none⟩)] w fun e w' => IsStack e ∧ (∃ q, q ≤ p + 30 ∧ Reader B w' R q) ∧ w.grownBy w' (some R) := by
  obtain ⟨i0, hi, hz0, hz1, hz2⟩ := info_parts Try.info4
  have hRB := h.1
  have hBw := h.2.1
  go_enter Try.func59, Try.ntmps59
  go_wp2_with fail
  refine (pick_r B R p 17 _ ((h.alloc _).alloc _) (by omega) (by omega) (by omega)).mono ?_
  rintro e w1 ⟨r, r1, rfl, h1, g1⟩
  have G1 : w.grownBy w1 (some R) := gb_pick (gb_alloc (gb_alloc (gb_refl _ _) _) _) g1
  have s1 : Sk .u16 w1 w.heap.size 0 0 := ((Sk.fresh .u16 w 0 0 25).alloc _).grown g1 (by simp; omega) (by simp; omega)
  have o1 : w1.ownsRow (w.heap.size + 1) 4 1 (.slice (some ⟨w.heap.size + 1, 0, none⟩) 0 0) 0 (Bs []) := by
    have h := (World.ownsRow_made (base := w.heap.size + 1) (e := 4) (size := 1) (w.alloc (.cells #[.int .u16 0, .int .i64 0] 25)) #[] 0 (by simp) (by unfold maxLen; omega) (by simp)).kept g1 (.inr (by simp [Value.ownBlock]; omega))
    simpa [Bs] using h
  have z1 : w.heap.size + 2 ≤ w1.heap.size := by have := g1.size; simp at this; omega
  clear g1
  go_wp2_with fail
  refine (pick_r B R (p + 1) 4 _ h1 (by omega) (by omega) (by omega)).mono ?_
  rintro e w2 ⟨r4, r41, rfl, h2, g2⟩
  have G2 : w.grownBy w2 (some R) := gb_pick G1 g2
  have s2 : Sk .u16 w2 w.heap.size 0 0 := s1.grown g2 (by omega) (by simp; omega)
  have o2 := o1.kept g2 (.inr (by simp [Value.ownBlock]; omega))
  have z2 : w.heap.size + 2 ≤ w2.heap.size := by have := g2.size; omega
  clear g2 G1 s1 o1 z1 h1
  by_cases h4 : r4 = 0
  · subst h4
    go_wp2_with fail
    refine (num_r B R (p + 1 + 1) w2.heap.size [0, 1, 15, 16] 4 _ (h2.alloc _) (by decide) (by decide) (by omega) (by omega) (by exact cells_row w2 [0, 1, 15, 16] 3)).mono ?_
    rintro e w3 ⟨v, hv, rfl, h3', g3⟩
    obtain ⟨N, rfl, hN⟩ : ∃ N : Nat, v = N ∧ N ≤ 16 := by
      simp at hv
      rcases hv with rfl | rfl | rfl | rfl
      · exact ⟨0, rfl, by omega⟩
      · exact ⟨1, rfl, by omega⟩
      · exact ⟨15, rfl, by omega⟩
      · exact ⟨16, rfl, by omega⟩
    have G3 : w.grownBy w3 (some R) := gb_pick (gb_alloc G2 _) g3
    have s3 : Sk .u16 w3 w.heap.size 0 0 := (s2.alloc _).grown g3 (by simp; omega) (by simp; omega)
    have o3 := (o2.alloc (.cells #[.int .i64 0, .int .i64 1, .int .i64 15, .int .i64 16] 3)).kept g3 (.inr (by simp [Value.ownBlock]; omega))
    have z3 : w.heap.size + 2 ≤ w3.heap.size := by have := g3.size; simp at this; omega
    obtain ⟨q, hq, h3⟩ : ∃ q, q ≤ p + 3 ∧ Reader B w3 R q := ⟨_, by omega, h3'⟩
    clear g3 G2 s2 o2 z2 h2 hv h3'
    go_wp2
    go_loopw [3, 5] (fun v i wr => ∃ (k : Nat) (l : List Bool), k ≤ N ∧ i = .int .i64 k ∧ l.length = k ∧ wr.ownsRow (w.heap.size + 1) 4 1 v k (Bs l) ∧ Reader B wr R (q + k) ∧ Sk .u16 wr w.heap.size 0 0 ∧ w.heap.size + 2 ≤ wr.heap.size ∧ w.grownBy wr (some R))
      (fun _ i _ => N - (intOf i).toNat)
    case atStart => exact ⟨0, [], Nat.zero_le _, rfl, rfl, o3, h3, s3, z3, G3⟩
    case round =>
      clear o3 h3 s3 z3 G3
      obtain ⟨k, l, hk, rfl, HL, hown, hR, hS, hz, hG⟩ := hrel
      by_cases hlt : k < N
      · go_wp2_with fail
        refine (pick_r B R (q + k) 2 _ hR (by omega) (by omega) (by omega)).mono ?_
        rintro e w4 ⟨x, x1, rfl, hR4, g4⟩
        have own4 := hown.kept g4 (.inr (row_ne hown (by omega)))
        have S4 : Sk .u16 w4 w.heap.size 0 0 := hS.grown g4 (by omega) (by simp; omega)
        have G4 := gb_pick hG g4
        have z4 : w.heap.size + 2 ≤ w4.heap.size := by have := g4.size; omega
        clear g4 hown hR hS hz hG
        go_wp2_with (at_builtin; refine wpList_append_lies _ rfl _ _ 28 rfl (w.heap.size + 1) 4 i0 (.bool false) 1 1 Try.underlying28 hi hz0 hz1 hz2 rfl (by decide) _ _ _ rfl (own4.alloc _) ⟨w4.heap.size, 0, none⟩ 1 1 [.bool ((x : Int) == 1)] rfl rfl (cell_one_new _ _ _) ?c2 (by decide) ?c3 ?c4 ?c5 _ rfl ?_)
        case c2 => intro u hu; simp at hu; subst hu; rfl
        case c3 => unfold maxLen; omega
        case c4 => omega
        case c5 => simp; omega
        intro g cap w5 own5 g5 _ _
        have R5 := draw_step HL own4 own5 hR4 S4 z4 G4 hRB hBw g5
        clear own5 g5 own4 hR4 S4 z4 G4
        go_wp2
        go_roundw
        case rel => exact ⟨k + 1, l ++ [(x : Int) == 1], by omega, by go_num, by simp [HL], R5.1, R5.2.1, R5.2.2.1, R5.2.2.2.1, R5.2.2.2.2⟩
        case measure => simp [intOf]; omega
      · go_wp2_with fail
        refine (stack_any l _ _ _ (by omega) (by rw [HL]; exact hown)).mono ?_
        rintro e w6 ⟨rfl, g6⟩
        have S6 : Sk .u16 w6 w.heap.size 0 0 := hS.later g6 hS.lt
        have R6 := hR.later g6
        have G6 := gb_below' hG g6
        have z6 : w.heap.size + 2 ≤ w6.heap.size := by have := g6.size; omega
        have hV := val16 l.reverse
        obtain ⟨V, HV⟩ : ∃ V, Hid (V = val (l.reverse.take 16)) := ⟨_, rfl⟩
        obtain ⟨M, HM⟩ : ∃ M : Int, Hid (M = (min l.length 16 : Nat)) := ⟨_, rfl⟩
        rw [← HV.out] at hV
        rw [← HV.out, ← HM.out]
        clear g6 hown hR hS hz hG HV HM
        go_wp2_with fail
        refine (pick_r B R (q + k) 20 _ (R6.alloc _) (by omega) (by omega) (by omega)).mono ?_
        rintro e w7 ⟨t, t1, rfl, R7, g7⟩
        have T7 : Sk .u16 w7 w6.heap.size V M := (Sk.fresh .u16 w6 V M 25).grown g7 (by simp) (by simp; omega)
        have S7 : Sk .u16 w7 w.heap.size 0 0 := (S6.alloc _).grown g7 (by simp; omega) (by simp; omega)
        have G7 := gb_pick (gb_alloc G6 _) g7
        have n7 : w6.heap.size < w7.heap.size := T7.lt
        clear g7 S6 R6 G6
        by_cases t0 : t = 0
        · subst t0
          go_wp2_with fail
          refine (num_r B R (q + k + 1) w7.heap.size [-1, 0, 17, 16, 1, -9223372036854775807, 9223372036854775807] 7 _ (R7.alloc _) (by decide) (by decide) (by omega) (by omega) (by exact cells_row w7 [-1, 0, 17, 16, 1, -9223372036854775807, 9223372036854775807] 3)).mono ?_
          rintro e w8 ⟨n, hn, rfl, R8, g8⟩
          have T8 : Sk .u16 w8 w6.heap.size V M := (T7.alloc _).grown g8 (by simp; omega) (by simp; omega)
          have S8 : Sk .u16 w8 w.heap.size 0 0 := (S7.alloc _).grown g8 (by simp; omega) (by simp; omega)
          have G8 := gb_pick (gb_alloc G7 _) g8
          clear g8 T7 S7 G7 R7 hn
          have F := draw_end V n (T8.put1 n) (S8.other w6.heap.size 1 (by omega) (.int .i64 n)) (R8.set w6.heap.size 1 (.int .i64 n) (by omega)) (gb_put G8 (by omega)) hBw
          obtain ⟨q0, q1, RF, GF⟩ := F
          obtain ⟨c0, c1, f0, f1⟩ := T8
          obtain ⟨d0, d1, e0, e1⟩ := S8
          obtain ⟨x0, x1, y0, y1⟩ := (⟨c0, c1, f0, f1⟩ : Sk .u16 w8 w6.heap.size V M).put1 n
          go_wp2
          exact bodyPost_ret (v := .agg #[.int .u16 V, .int .i64 n]) (by simp [results, Try.results59, go_sem, q0, q1]) rfl ⟨⟨V, n, hV.1, hV.2, rfl⟩, ⟨_, by omega, RF⟩, GF⟩
        · by_cases t2 : t = 1
          · subst t2
            go_wp2_with fail
            refine (pick_r B R (q + k + 1) 256 _ R7 (by omega) (by omega) (by omega)).mono ?_
            rintro e w8 ⟨x, x1, rfl, R8, g8⟩
            have T8 : Sk .u16 w8 w6.heap.size V M := T7.grown g8 (by omega) (by simp; omega)
            have S8 : Sk .u16 w8 w.heap.size 0 0 := S7.grown g8 (by omega) (by simp; omega)
            have G8 := gb_pick G7 g8
            have n8 : w6.heap.size < w8.heap.size := T8.lt
            clear g8 T7 S7 G7 R7
            go_wp2_with fail
            refine (pick_r B R (q + k + 1 + 1) 256 _ R8 (by omega) (by omega) (by omega)).mono ?_
            rintro e w9 ⟨y, y1, rfl, R9, g9⟩
            have T9 : Sk .u16 w9 w6.heap.size V M := T8.grown g9 (by omega) (by simp; omega)
            have S9 : Sk .u16 w9 w.heap.size 0 0 := S8.grown g9 (by omega) (by simp; omega)
            have G9 := gb_pick G8 g9
            clear g9 T8 S8 G8 R8
            have F := draw_end ((x : Int) * 256 + y) M (T9.put0 ((x : Int) * 256 + y)) (S9.other w6.heap.size 0 (by omega) (.int .u16 ((x : Int) * 256 + y))) (R9.set w6.heap.size 0 (.int .u16 ((x : Int) * 256 + y)) (by omega)) (gb_put G9 (by omega)) hBw
            obtain ⟨q0, q1, RF, GF⟩ := F
            have T9' := T9.put0 ((x : Int) * 256 + y)
            obtain ⟨c0, c1, f0, f1⟩ := T9
            obtain ⟨d0, d1, e0, e1⟩ := S9
            obtain ⟨x0, x2, y0, y2⟩ := T9'
            go_wp2
            exact bodyPost_ret (v := .agg #[.int .u16 ((x : Int) * 256 + y), .int .i64 M]) (by simp [results, Try.results59, go_sem, q0, q1]) rfl ⟨⟨(x : Int) * 256 + y, M, by omega, by omega, rfl⟩, ⟨_, by omega, RF⟩, GF⟩
          · have u0 : ((t : Int) == 0) = false := by simp; omega
            have u1 : ((t : Int) == 1) = false := by simp; omega
            have F := draw_end V M T7 S7 R7 G7 hBw
            obtain ⟨q0, q1, RF, GF⟩ := F
            obtain ⟨c0, c1, f0, f1⟩ := T7
            obtain ⟨d0, d1, e0, e1⟩ := S7
            go_wp2
            exact bodyPost_ret (v := .agg #[.int .u16 V, .int .i64 M]) (by simp [results, Try.results59, go_sem, q0, q1]) rfl ⟨⟨V, M, hV.1, hV.2, rfl⟩, ⟨_, by omega, RF⟩, GF⟩
  · have h4' : ((r4 : Int) == 0) = false := by simp; omega
    obtain ⟨N, rfl, hN⟩ : ∃ N : Nat, N = r ∧ N ≤ 16 := ⟨r, rfl, by omega⟩
    obtain ⟨w3, rfl⟩ : ∃ w3, w3 = w2 := ⟨_, rfl⟩
    obtain ⟨q, hq, h3⟩ : ∃ q, q ≤ p + 3 ∧ Reader B w3 R q := ⟨_, by omega, h2⟩
    have G3 := G2
    have s3 := s2
    have o3 := o2
    have z3 := z2
    clear G2 s2 o2 z2 h2
    go_wp2
    go_loopw [3, 5] (fun v i wr => ∃ (k : Nat) (l : List Bool), k ≤ N ∧ i = .int .i64 k ∧ l.length = k ∧ wr.ownsRow (w.heap.size + 1) 4 1 v k (Bs l) ∧ Reader B wr R (q + k) ∧ Sk .u16 wr w.heap.size 0 0 ∧ w.heap.size + 2 ≤ wr.heap.size ∧ w.grownBy wr (some R))
      (fun _ i _ => N - (intOf i).toNat)
    case atStart => exact ⟨0, [], Nat.zero_le _, rfl, rfl, o3, h3, s3, z3, G3⟩
    case round =>
      clear o3 h3 s3 z3 G3
      obtain ⟨k, l, hk, rfl, HL, hown, hR, hS, hz, hG⟩ := hrel
      by_cases hlt : k < N
      · go_wp2_with fail
        refine (pick_r B R (q + k) 2 _ hR (by omega) (by omega) (by omega)).mono ?_
        rintro e w4 ⟨x, x1, rfl, hR4, g4⟩
        have own4 := hown.kept g4 (.inr (row_ne hown (by omega)))
        have S4 : Sk .u16 w4 w.heap.size 0 0 := hS.grown g4 (by omega) (by simp; omega)
        have G4 := gb_pick hG g4
        have z4 : w.heap.size + 2 ≤ w4.heap.size := by have := g4.size; omega
        clear g4 hown hR hS hz hG
        go_wp2_with (at_builtin; refine wpList_append_lies _ rfl _ _ 28 rfl (w.heap.size + 1) 4 i0 (.bool false) 1 1 Try.underlying28 hi hz0 hz1 hz2 rfl (by decide) _ _ _ rfl (own4.alloc _) ⟨w4.heap.size, 0, none⟩ 1 1 [.bool ((x : Int) == 1)] rfl rfl (cell_one_new _ _ _) ?c2 (by decide) ?c3 ?c4 ?c5 _ rfl ?_)
        case c2 => intro u hu; simp at hu; subst hu; rfl
        case c3 => unfold maxLen; omega
        case c4 => omega
        case c5 => simp; omega
        intro g cap w5 own5 g5 _ _
        have R5 := draw_step HL own4 own5 hR4 S4 z4 G4 hRB hBw g5
        clear own5 g5 own4 hR4 S4 z4 G4
        go_wp2
        go_roundw
        case rel => exact ⟨k + 1, l ++ [(x : Int) == 1], by omega, by go_num, by simp [HL], R5.1, R5.2.1, R5.2.2.1, R5.2.2.2.1, R5.2.2.2.2⟩
        case measure => simp [intOf]; omega
      · go_wp2_with fail
        refine (stack_any l _ _ _ (by omega) (by rw [HL]; exact hown)).mono ?_
        rintro e w6 ⟨rfl, g6⟩
        have S6 : Sk .u16 w6 w.heap.size 0 0 := hS.later g6 hS.lt
        have R6 := hR.later g6
        have G6 := gb_below' hG g6
        have z6 : w.heap.size + 2 ≤ w6.heap.size := by have := g6.size; omega
        have hV := val16 l.reverse
        obtain ⟨V, HV⟩ : ∃ V, Hid (V = val (l.reverse.take 16)) := ⟨_, rfl⟩
        obtain ⟨M, HM⟩ : ∃ M : Int, Hid (M = (min l.length 16 : Nat)) := ⟨_, rfl⟩
        rw [← HV.out] at hV
        rw [← HV.out, ← HM.out]
        clear g6 hown hR hS hz hG HV HM
        go_wp2_with fail
        refine (pick_r B R (q + k) 20 _ (R6.alloc _) (by omega) (by omega) (by omega)).mono ?_
        rintro e w7 ⟨t, t1, rfl, R7, g7⟩
        have T7 : Sk .u16 w7 w6.heap.size V M := (Sk.fresh .u16 w6 V M 25).grown g7 (by simp) (by simp; omega)
        have S7 : Sk .u16 w7 w.heap.size 0 0 := (S6.alloc _).grown g7 (by simp; omega) (by simp; omega)
        have G7 := gb_pick (gb_alloc G6 _) g7
        have n7 : w6.heap.size < w7.heap.size := T7.lt
        clear g7 S6 R6 G6
        by_cases t0 : t = 0
        · subst t0
          go_wp2_with fail
          refine (num_r B R (q + k + 1) w7.heap.size [-1, 0, 17, 16, 1, -9223372036854775807, 9223372036854775807] 7 _ (R7.alloc _) (by decide) (by decide) (by omega) (by omega) (by exact cells_row w7 [-1, 0, 17, 16, 1, -9223372036854775807, 9223372036854775807] 3)).mono ?_
          rintro e w8 ⟨n, hn, rfl, R8, g8⟩
          have T8 : Sk .u16 w8 w6.heap.size V M := (T7.alloc _).grown g8 (by simp; omega) (by simp; omega)
          have S8 : Sk .u16 w8 w.heap.size 0 0 := (S7.alloc _).grown g8 (by simp; omega) (by simp; omega)
          have G8 := gb_pick (gb_alloc G7 _) g8
          clear g8 T7 S7 G7 R7 hn
          have F := draw_end V n (T8.put1 n) (S8.other w6.heap.size 1 (by omega) (.int .i64 n)) (R8.set w6.heap.size 1 (.int .i64 n) (by omega)) (gb_put G8 (by omega)) hBw
          obtain ⟨q0, q1, RF, GF⟩ := F
          obtain ⟨c0, c1, f0, f1⟩ := T8
          obtain ⟨d0, d1, e0, e1⟩ := S8
          obtain ⟨x0, x1, y0, y1⟩ := (⟨c0, c1, f0, f1⟩ : Sk .u16 w8 w6.heap.size V M).put1 n
          go_wp2
          exact bodyPost_ret (v := .agg #[.int .u16 V, .int .i64 n]) (by simp [results, Try.results59, go_sem, q0, q1]) rfl ⟨⟨V, n, hV.1, hV.2, rfl⟩, ⟨_, by omega, RF⟩, GF⟩
        · by_cases t2 : t = 1
          · subst t2
            go_wp2_with fail
            refine (pick_r B R (q + k + 1) 256 _ R7 (by omega) (by omega) (by omega)).mono ?_
            rintro e w8 ⟨x, x1, rfl, R8, g8⟩
            have T8 : Sk .u16 w8 w6.heap.size V M := T7.grown g8 (by omega) (by simp; omega)
            have S8 : Sk .u16 w8 w.heap.size 0 0 := S7.grown g8 (by omega) (by simp; omega)
            have G8 := gb_pick G7 g8
            have n8 : w6.heap.size < w8.heap.size := T8.lt
            clear g8 T7 S7 G7 R7
            go_wp2_with fail
            refine (pick_r B R (q + k + 1 + 1) 256 _ R8 (by omega) (by omega) (by omega)).mono ?_
            rintro e w9 ⟨y, y1, rfl, R9, g9⟩
            have T9 : Sk .u16 w9 w6.heap.size V M := T8.grown g9 (by omega) (by simp; omega)
            have S9 : Sk .u16 w9 w.heap.size 0 0 := S8.grown g9 (by omega) (by simp; omega)
            have G9 := gb_pick G8 g9
            clear g9 T8 S8 G8 R8
            have F := draw_end ((x : Int) * 256 + y) M (T9.put0 ((x : Int) * 256 + y)) (S9.other w6.heap.size 0 (by omega) (.int .u16 ((x : Int) * 256 + y))) (R9.set w6.heap.size 0 (.int .u16 ((x : Int) * 256 + y)) (by omega)) (gb_put G9 (by omega)) hBw
            obtain ⟨q0, q1, RF, GF⟩ := F
            have T9' := T9.put0 ((x : Int) * 256 + y)
            obtain ⟨c0, c1, f0, f1⟩ := T9
            obtain ⟨d0, d1, e0, e1⟩ := S9
            obtain ⟨x0, x2, y0, y2⟩ := T9'
            go_wp2
            exact bodyPost_ret (v := .agg #[.int .u16 ((x : Int) * 256 + y), .int .i64 M]) (by simp [results, Try.results59, go_sem, q0, q1]) rfl ⟨⟨(x : Int) * 256 + y, M, by omega, by omega, rfl⟩, ⟨_, by omega, RF⟩, GF⟩
          · have u0 : ((t : Int) == 0) = false := by simp; omega
            have u1 : ((t : Int) == 1) = false := by simp; omega
            have F := draw_end V M T7 S7 R7 G7 hBw
            obtain ⟨q0, q1, RF, GF⟩ := F
            obtain ⟨c0, c1, f0, f1⟩ := T7
            obtain ⟨d0, d1, e0, e1⟩ := S7
            go_wp2
            exact bodyPost_ret (v := .agg #[.int .u16 V, .int .i64 M]) (by simp [results, Try.results59, go_sem, q0, q1]) rfl ⟨⟨V, M, hV.1, hV.2, rfl⟩, ⟨_, by omega, RF⟩, GF⟩
end Go.Proofs.Ytlpeianinlnbeaa
