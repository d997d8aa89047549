/- The draw that spoils, at no operand. -/
import Derived.Test.YtcihplachlokiaaGreatDoorEx
import Derived.Deep.Upon
namespace Go.Proofs.YtcihplachlokiaaGreatDoor.Rr
open Go.RowKit
set_option linter.unusedVariables false

theorem stc0 (P : Program) (a : Addr) (w : World) : Sem.run P (storeCells a []) w = .ok () w := by simp [storeCells]
theorem ldc0 (P : Program) (a : Addr) (w : World) : Sem.run P (loadCells a 0) w = .ok #[] w := by rfl
theorem pur0 (P : Program) (a : Array Value) (w : World) : Sem.run P (pure a) w = .ok a w := rfl
attribute [local go_sem] stc0 ldc0 pur0

set_option maxRecDepth 10000 in
set_option maxHeartbeats 4000000 in
theorem spoil_r0 (B R p : Nat) (op : Int) (a0 : Option Addr) (cap L : Nat) (w : World) (h : Reader B w R p) (hp : p < 9700000) (ho1 : -100 ≤ op) (ho2 : op ≤ 100) :
    Calls Tryz.prog 37 #[.pointer (some ⟨R, 0, none⟩), .agg #[.int .i64 op, .slice a0 0 cap]] w fun e w' => ElemL w.heap.size (L + 1) e w' ∧ (∃ q, q ≤ p + 30 ∧ Reader B w' R q) ∧ w.grownBy w' (some R) := by
  have hRB := h.1
  have hBw := h.2.1
  have hinfo : (Tryz.prog.info? 72).map (fun i => (i.zero, i.size, i.bytes)) = some (some (.agg #[.int .i64 0, .int .i64 0, .int .i64 0]), 3, 24) := by kernel_rfl
  obtain ⟨i0, hi, hzz⟩ := Option.map_eq_some_iff.1 hinfo
  simp only [Prod.mk.injEq] at hzz
  obtain ⟨hz0, hz1, hz2⟩ := hzz
  have S0 : E2 ((w.alloc (.cells #[.int .i64 op, .slice a0 0 cap] 42)).alloc (.cells #[.int .i64 0, .slice none 0 0] 42)) (w.heap.size + 1) (.int .i64 0) (.slice none 0 0) := by
    have := E2.fresh (w.alloc (.cells #[.int .i64 op, .slice a0 0 cap] 42)) (.int .i64 0) (.slice none 0 0) 42
    simpa using this
  have T0 : E2 ((w.alloc (.cells #[.int .i64 op, .slice a0 0 cap] 42)).alloc (.cells #[.int .i64 0, .slice none 0 0] 42)) w.heap.size (.int .i64 op) (.slice a0 0 cap) := (E2.fresh w _ _ 42).alloc _
  have hW : ((w.alloc (.cells #[.int .i64 op, .slice a0 0 cap] 42)).alloc (.cells #[.int .i64 0, .slice none 0 0] 42)).heap.size = w.heap.size + 1 + 1 := by simp
  have own0 : (((w.alloc (.cells #[.int .i64 op, .slice a0 0 cap] 42)).alloc (.cells #[.int .i64 0, .slice none 0 0] 42)).alloc (.cells #[] 72)).ownsRow (w.heap.size + 2) 72 3 (.slice (some ⟨w.heap.size + 1 + 1, 0, none⟩) 0 0) 0 [] := by
    have := World.ownsRow_made (base := w.heap.size + 2) (e := 72) (size := 3) ((w.alloc (.cells #[.int .i64 op, .slice a0 0 cap] 42)).alloc (.cells #[.int .i64 0, .slice none 0 0] 42)) #[] 0 (by rw [hW]; omega) (by unfold maxLen; omega) rfl
    rwa [hW] at this
  have h1 : Reader B (((w.alloc (.cells #[.int .i64 op, .slice a0 0 cap] 42)).alloc (.cells #[.int .i64 0, .slice none 0 0] 42)).alloc (.cells #[] 72)) R p := ((h.alloc _).alloc _).alloc _
  have G1 : w.grownBy (((w.alloc (.cells #[.int .i64 op, .slice a0 0 cap] 42)).alloc (.cells #[.int .i64 0, .slice none 0 0] 42)).alloc (.cells #[] 72)) (some R) := gb_alloc (gb_alloc (gb_alloc (gb_refl w (some R)) _) _) _
  have S1 : E2 (((w.alloc (.cells #[.int .i64 op, .slice a0 0 cap] 42)).alloc (.cells #[.int .i64 0, .slice none 0 0] 42)).alloc (.cells #[] 72)) (w.heap.size + 1) (.int .i64 0) (.slice none 0 0) := S0.alloc _
  have T1 : E2 (((w.alloc (.cells #[.int .i64 op, .slice a0 0 cap] 42)).alloc (.cells #[.int .i64 0, .slice none 0 0] 42)).alloc (.cells #[] 72)) w.heap.size (.int .i64 op) (.slice a0 0 cap) := T0.alloc _
  clear h S0 T0
  go_enter Tryz.func37, Tryz.ntmps37
  rcases a0 with _ | a0
  · go_wp2_with fail
    refine (pick_r B R p 6 _ h1 (by omega) (by omega) (by omega)).mono ?_
    rintro e w2 ⟨r, r1, rfl, h2, g2⟩
    have G2 : w.grownBy w2 (some R) := gb_pick G1 g2
    have S2 := S1.grown g2 (by simp; omega)
    have T2 := T1.grown g2 (by simp; omega)
    have own2 := own0.kept g2 (.inr (by simp [Value.ownBlock] <;> omega))
    clear g2 G1 S1 T1 own0 h1 hW
    have hlt2 : w.heap.size + 1 + 1 < w2.heap.size := (own2.lt _ rfl).2
    have hr : r = 0 ∨ r = 1 ∨ r = 2 ∨ r = 3 ∨ r = 4 ∨ r = 5 := by omega
    rcases hr with rfl | rfl | rfl | rfl | rfl | rfl
    · have hN := fun W (hW : Reader B W R (p + 1)) hx => num_r B R (p + 1) w2.heap.size [-1, 0, 1, 5, 11, 20, 21, 26, 37, 38] 10 W hW (by simp) (by simp) (by omega) (by omega) hx
      go_wp2_with fail
      refine (hN _ (h2.alloc _) (cells_row w2 [-1, 0, 1, 5, 11, 20, 21, 26, 37, 38] 3)).mono ?_
      rintro e w3 ⟨v, hv, rfl, h3, g3⟩
      have hv' : -100 ≤ v ∧ v ≤ 100 := by simp at hv; omega
      have G3 : w.grownBy w3 (some R) := gb_pick (gb_alloc G2 _) g3
      have S3 := (S2.alloc (.cells ([-1, 0, 1, 5, 11, 20, 21, 26, 37, 38].map (Value.int .i64)).toArray 3)).grown g3 (by simp; omega)
      clear g3 G2 S2 T2 own2 h2 hN hv
      obtain ⟨u1, u2, u3⟩ := elem_put (.int .i64 v) (.slice (some ⟨w.heap.size + 1 + 1, 0, none⟩) 0 0) S3 h3 G3 (by omega) (by omega)
      obtain ⟨c0, c1, f0, f1⟩ := S3
      obtain ⟨q0, q1, _, _⟩ := u1
      go_wp2
      exact bodyPost_ret (v := .agg #[.int .i64 v, .slice (some ⟨w.heap.size + 1 + 1, 0, none⟩) 0 0]) (by simp [results, Tryz.results37, go_sem, q0, q1]) rfl ⟨⟨v, _, 0, 0, [], rfl, by omega, by omega, rfl, by omega, by omega, (by intro x hx; cases hx), .inl rfl⟩, ⟨_, by omega, u2⟩, u3⟩
    · obtain ⟨d0, d1, _, _⟩ := id T2
      obtain ⟨s0, s1, s2, s3⟩ := id S2
      go_upto_region 6 with fail
      go_region_held3 (fun w' => w'.cell? ⟨w.heap.size, 0, none⟩ = some (.int .i64 op))
        (first | go_keep | exact d3 | (simpa using d3) | exact d4 | (simpa using d4))
        (first
          | (go_at_call 58; refine (any_r B R (p + 1) _ (by first | exact h2 | exact h2.drew) (by omega)).mono ?_; rintro e w3 ⟨⟨k2, n2, m2, bn2, bn3, rfl⟩, ⟨q3, hq3, h3⟩, g3⟩; have S3 : E2 w3 (w.heap.size + 1) _ _ := (by first | exact S2.grown g3 (by simp; omega) | exact (S2.grown (gb_drew (gb_refl _ none)) (by simp)).grown g3 (by simp; omega)); have T3 : E2 w3 w.heap.size _ _ := (by first | exact T2.grown g3 (by simp; omega) | exact (T2.grown (gb_drew (gb_refl _ none)) (by simp)).grown g3 (by simp; omega)); have own3 := (by first | exact own2.kept g3 (.inr (by simp [Value.ownBlock] <;> omega)) | exact own2.drew.kept g3 (.inr (by simp [Value.ownBlock] <;> omega)) : w3.ownsRow (w.heap.size + 2) 72 3 (.slice (some ⟨w.heap.size + 1 + 1, 0, none⟩) 0 0) 0 []); have G3 : w.grownBy w3 (some R) := (by first | exact gb_pick G2 g3 | exact gb_pick (gb_drew G2) g3); have d3 := T3.c0; have hlt3 : w.heap.size + 1 + 1 < w3.heap.size := (own3.lt _ rfl).2)
          | (refine step_append_lies _ (by rfl) (.tmp 24) (.tmp 27) 40 (by rfl) (w.heap.size + 2) 72 i0 (.agg #[.int .i64 0, .int .i64 0, .int .i64 0]) 3 24 Tryz.underlying40 hi hz0 hz1 hz2 (by rfl) (by decide) (.slice (some ⟨w.heap.size + 1 + 1, 0, none⟩) 0 0) 0 [] (by rfl) (own3.alloc _) ⟨w3.heap.size, 0, none⟩ 1 1 (vals [(k2, n2, m2)]) (by rfl) (by rfl) (vals_ops (ops1 w3 k2 n2 m2 72)) (vals_one _) (by omega) (by unfold maxLen; omega) (by omega) (by simp; omega) _ rfl ?_; intro g4 cap4 w4 own4 gg4 hat4 hlt4; have d4 : w4.cell? ⟨w.heap.size, 0, none⟩ = some (.int .i64 op) := ((T3.alloc _).grown gg4 (by simp [Value.ownBlock] <;> omega)).c0; have S4 : E2 w4 (w.heap.size + 1) _ _ := (S3.alloc _).grown gg4 (by simp [Value.ownBlock] <;> omega); have h4 := (h3.alloc _).kept gg4 (fun j hj => by simp [Value.ownBlock] at hj; omega); have G4 : w.grownBy w4 (some R) := gb_then (gb_alloc G3 _) gg4 (fun j hj => .inl (by simp [Value.ownBlock] at hj; omega)); obtain ⟨v0, v1, v2, v3⟩ := id S4)
          | fail)
      have hg4 : w.heap.size + 2 ≤ g4 := (own4.lt g4 rfl).1
      have hc4 := own_cap own4
      have P4 : Ops w4 g4 0 [(k2, n2, m2)] := ops_vals (own4.cells rfl)
      have bd4 : Bd [(k2, n2, m2)] := (by intro x hx; simp at hx; subst hx; exact ⟨bn2, bn3⟩)
      obtain ⟨u1, u2, u3⟩ := elem_put (.int .i64 op) (.slice (some ⟨g4, 0, none⟩) 1 cap4) S4 h4 G4 (by omega) (by omega)
      have PE := (P4.other (w.heap.size + 1) 0 (by omega) (.int .i64 op)).other (w.heap.size + 1) 1 (by omega) (.slice (some ⟨g4, 0, none⟩) 1 cap4)
      obtain ⟨q0, q1, _, _⟩ := u1
      clear own4 own3 gg4 hat4 P4
      go_wp2
      exact bodyPost_ret (v := .agg #[.int .i64 op, .slice (some ⟨g4, 0, none⟩) 1 cap4]) (by simp [results, Tryz.results37, go_sem, q0, q1]) rfl ⟨⟨op, _, 1, cap4, [(k2, n2, m2)], rfl, by omega, by omega, rfl, hc4, by omega, bd4, .inr ⟨_, _, rfl, by omega, PE⟩⟩, ⟨_, by omega, u2⟩, u3⟩
    · obtain ⟨u1, u2, u3⟩ := elem_put (.int .i64 op) (.slice none 0 0) S2 h2 G2 (by omega) (by omega)
      obtain ⟨c0, c1, f0, f1⟩ := S2
      obtain ⟨d0, d1, _, _⟩ := T2
      obtain ⟨q0, q1, _, _⟩ := u1
      go_wp2
      exact bodyPost_ret (v := .agg #[.int .i64 op, .slice none 0 0]) (by simp [results, Tryz.results37, go_sem, q0, q1]) rfl ⟨⟨op, _, 0, 0, [], rfl, by omega, by omega, rfl, by omega, by omega, (by intro x hx; cases hx), .inl rfl⟩, ⟨_, by omega, u2⟩, u3⟩
    · obtain ⟨u1, u2, u3⟩ := elem_put (.int .i64 op) (.slice (some ⟨w.heap.size + 1 + 1, 0, none⟩) 0 0) S2 h2 G2 (by omega) (by omega)
      obtain ⟨c0, c1, f0, f1⟩ := S2
      obtain ⟨d0, d1, _, _⟩ := T2
      obtain ⟨q0, q1, _, _⟩ := u1
      go_wp2
      exact bodyPost_ret (v := .agg #[.int .i64 op, .slice (some ⟨w.heap.size + 1 + 1, 0, none⟩) 0 0]) (by simp [results, Tryz.results37, go_sem, q0, q1]) rfl ⟨⟨op, _, 0, 0, [], rfl, by omega, by omega, rfl, by omega, by omega, (by intro x hx; cases hx), .inl rfl⟩, ⟨_, by omega, u2⟩, u3⟩
    · obtain ⟨u1, u2, u3⟩ := elem_put (.int .i64 op) (.slice (some ⟨w.heap.size + 1 + 1, 0, none⟩) 0 0) S2 h2 G2 (by omega) (by omega)
      obtain ⟨c0, c1, f0, f1⟩ := S2
      obtain ⟨d0, d1, _, _⟩ := T2
      obtain ⟨q0, q1, _, _⟩ := u1
      go_wp2
      exact bodyPost_ret (v := .agg #[.int .i64 op, .slice (some ⟨w.heap.size + 1 + 1, 0, none⟩) 0 0]) (by simp [results, Tryz.results37, go_sem, q0, q1]) rfl ⟨⟨op, _, 0, 0, [], rfl, by omega, by omega, rfl, by omega, by omega, (by intro x hx; cases hx), .inl rfl⟩, ⟨_, by omega, u2⟩, u3⟩
    · obtain ⟨u1, u2, u3⟩ := elem_put (.int .i64 op) (.slice (some ⟨w.heap.size + 1 + 1, 0, none⟩) 0 0) S2 h2 G2 (by omega) (by omega)
      obtain ⟨c0, c1, f0, f1⟩ := S2
      obtain ⟨d0, d1, _, _⟩ := T2
      obtain ⟨q0, q1, _, _⟩ := u1
      go_wp2
      exact bodyPost_ret (v := .agg #[.int .i64 op, .slice (some ⟨w.heap.size + 1 + 1, 0, none⟩) 0 0]) (by simp [results, Tryz.results37, go_sem, q0, q1]) rfl ⟨⟨op, _, 0, 0, [], rfl, by omega, by omega, rfl, by omega, by omega, (by intro x hx; cases hx), .inl rfl⟩, ⟨_, by omega, u2⟩, u3⟩
  · go_wp2_with fail
    refine (pick_r B R p 6 _ h1 (by omega) (by omega) (by omega)).mono ?_
    rintro e w2 ⟨r, r1, rfl, h2, g2⟩
    have G2 : w.grownBy w2 (some R) := gb_pick G1 g2
    have S2 := S1.grown g2 (by simp; omega)
    have T2 := T1.grown g2 (by simp; omega)
    have own2 := own0.kept g2 (.inr (by simp [Value.ownBlock] <;> omega))
    clear g2 G1 S1 T1 own0 h1 hW
    have hlt2 : w.heap.size + 1 + 1 < w2.heap.size := (own2.lt _ rfl).2
    have hr : r = 0 ∨ r = 1 ∨ r = 2 ∨ r = 3 ∨ r = 4 ∨ r = 5 := by omega
    rcases hr with rfl | rfl | rfl | rfl | rfl | rfl
    · have hN := fun W (hW : Reader B W R (p + 1)) hx => num_r B R (p + 1) w2.heap.size [-1, 0, 1, 5, 11, 20, 21, 26, 37, 38] 10 W hW (by simp) (by simp) (by omega) (by omega) hx
      go_wp2_with fail
      refine (hN _ (h2.alloc _) (cells_row w2 [-1, 0, 1, 5, 11, 20, 21, 26, 37, 38] 3)).mono ?_
      rintro e w3 ⟨v, hv, rfl, h3, g3⟩
      have hv' : -100 ≤ v ∧ v ≤ 100 := by simp at hv; omega
      have G3 : w.grownBy w3 (some R) := gb_pick (gb_alloc G2 _) g3
      have S3 := (S2.alloc (.cells ([-1, 0, 1, 5, 11, 20, 21, 26, 37, 38].map (Value.int .i64)).toArray 3)).grown g3 (by simp; omega)
      clear g3 G2 S2 T2 own2 h2 hN hv
      obtain ⟨u1, u2, u3⟩ := elem_put (.int .i64 v) (.slice (some ⟨w.heap.size + 1 + 1, 0, none⟩) 0 0) S3 h3 G3 (by omega) (by omega)
      obtain ⟨c0, c1, f0, f1⟩ := S3
      obtain ⟨q0, q1, _, _⟩ := u1
      go_wp2
      exact bodyPost_ret (v := .agg #[.int .i64 v, .slice (some ⟨w.heap.size + 1 + 1, 0, none⟩) 0 0]) (by simp [results, Tryz.results37, go_sem, q0, q1]) rfl ⟨⟨v, _, 0, 0, [], rfl, by omega, by omega, rfl, by omega, by omega, (by intro x hx; cases hx), .inl rfl⟩, ⟨_, by omega, u2⟩, u3⟩
    · obtain ⟨d0, d1, _, _⟩ := id T2
      obtain ⟨s0, s1, s2, s3⟩ := id S2
      go_upto_region 6 with fail
      go_region_held3 (fun w' => w'.cell? ⟨w.heap.size, 0, none⟩ = some (.int .i64 op))
        (first | go_keep | exact d3 | (simpa using d3) | exact d4 | (simpa using d4))
        (first
          | (go_at_call 58; refine (any_r B R (p + 1) _ (by first | exact h2 | exact h2.drew) (by omega)).mono ?_; rintro e w3 ⟨⟨k2, n2, m2, bn2, bn3, rfl⟩, ⟨q3, hq3, h3⟩, g3⟩; have S3 : E2 w3 (w.heap.size + 1) _ _ := (by first | exact S2.grown g3 (by simp; omega) | exact (S2.grown (gb_drew (gb_refl _ none)) (by simp)).grown g3 (by simp; omega)); have T3 : E2 w3 w.heap.size _ _ := (by first | exact T2.grown g3 (by simp; omega) | exact (T2.grown (gb_drew (gb_refl _ none)) (by simp)).grown g3 (by simp; omega)); have own3 := (by first | exact own2.kept g3 (.inr (by simp [Value.ownBlock] <;> omega)) | exact own2.drew.kept g3 (.inr (by simp [Value.ownBlock] <;> omega)) : w3.ownsRow (w.heap.size + 2) 72 3 (.slice (some ⟨w.heap.size + 1 + 1, 0, none⟩) 0 0) 0 []); have G3 : w.grownBy w3 (some R) := (by first | exact gb_pick G2 g3 | exact gb_pick (gb_drew G2) g3); have d3 := T3.c0; have hlt3 : w.heap.size + 1 + 1 < w3.heap.size := (own3.lt _ rfl).2)
          | (refine step_append_lies _ (by rfl) (.tmp 24) (.tmp 27) 40 (by rfl) (w.heap.size + 2) 72 i0 (.agg #[.int .i64 0, .int .i64 0, .int .i64 0]) 3 24 Tryz.underlying40 hi hz0 hz1 hz2 (by rfl) (by decide) (.slice (some ⟨w.heap.size + 1 + 1, 0, none⟩) 0 0) 0 [] (by rfl) (own3.alloc _) ⟨w3.heap.size, 0, none⟩ 1 1 (vals [(k2, n2, m2)]) (by rfl) (by rfl) (vals_ops (ops1 w3 k2 n2 m2 72)) (vals_one _) (by omega) (by unfold maxLen; omega) (by omega) (by simp; omega) _ rfl ?_; intro g4 cap4 w4 own4 gg4 hat4 hlt4; have d4 : w4.cell? ⟨w.heap.size, 0, none⟩ = some (.int .i64 op) := ((T3.alloc _).grown gg4 (by simp [Value.ownBlock] <;> omega)).c0; have S4 : E2 w4 (w.heap.size + 1) _ _ := (S3.alloc _).grown gg4 (by simp [Value.ownBlock] <;> omega); have h4 := (h3.alloc _).kept gg4 (fun j hj => by simp [Value.ownBlock] at hj; omega); have G4 : w.grownBy w4 (some R) := gb_then (gb_alloc G3 _) gg4 (fun j hj => .inl (by simp [Value.ownBlock] at hj; omega)); obtain ⟨v0, v1, v2, v3⟩ := id S4)
          | fail)
      have hg4 : w.heap.size + 2 ≤ g4 := (own4.lt g4 rfl).1
      have hc4 := own_cap own4
      have P4 : Ops w4 g4 0 [(k2, n2, m2)] := ops_vals (own4.cells rfl)
      have bd4 : Bd [(k2, n2, m2)] := (by intro x hx; simp at hx; subst hx; exact ⟨bn2, bn3⟩)
      obtain ⟨u1, u2, u3⟩ := elem_put (.int .i64 op) (.slice (some ⟨g4, 0, none⟩) 1 cap4) S4 h4 G4 (by omega) (by omega)
      have PE := (P4.other (w.heap.size + 1) 0 (by omega) (.int .i64 op)).other (w.heap.size + 1) 1 (by omega) (.slice (some ⟨g4, 0, none⟩) 1 cap4)
      obtain ⟨q0, q1, _, _⟩ := u1
      clear own4 own3 gg4 hat4 P4
      go_wp2
      exact bodyPost_ret (v := .agg #[.int .i64 op, .slice (some ⟨g4, 0, none⟩) 1 cap4]) (by simp [results, Tryz.results37, go_sem, q0, q1]) rfl ⟨⟨op, _, 1, cap4, [(k2, n2, m2)], rfl, by omega, by omega, rfl, hc4, by omega, bd4, .inr ⟨_, _, rfl, by omega, PE⟩⟩, ⟨_, by omega, u2⟩, u3⟩
    · obtain ⟨u1, u2, u3⟩ := elem_put (.int .i64 op) (.slice none 0 0) S2 h2 G2 (by omega) (by omega)
      obtain ⟨c0, c1, f0, f1⟩ := S2
      obtain ⟨d0, d1, _, _⟩ := T2
      obtain ⟨q0, q1, _, _⟩ := u1
      go_wp2
      exact bodyPost_ret (v := .agg #[.int .i64 op, .slice none 0 0]) (by simp [results, Tryz.results37, go_sem, q0, q1]) rfl ⟨⟨op, _, 0, 0, [], rfl, by omega, by omega, rfl, by omega, by omega, (by intro x hx; cases hx), .inl rfl⟩, ⟨_, by omega, u2⟩, u3⟩
    · obtain ⟨u1, u2, u3⟩ := elem_put (.int .i64 op) (.slice (some ⟨w.heap.size + 1 + 1, 0, none⟩) 0 0) S2 h2 G2 (by omega) (by omega)
      obtain ⟨c0, c1, f0, f1⟩ := S2
      obtain ⟨d0, d1, _, _⟩ := T2
      obtain ⟨q0, q1, _, _⟩ := u1
      go_wp2
      exact bodyPost_ret (v := .agg #[.int .i64 op, .slice (some ⟨w.heap.size + 1 + 1, 0, none⟩) 0 0]) (by simp [results, Tryz.results37, go_sem, q0, q1]) rfl ⟨⟨op, _, 0, 0, [], rfl, by omega, by omega, rfl, by omega, by omega, (by intro x hx; cases hx), .inl rfl⟩, ⟨_, by omega, u2⟩, u3⟩
    · obtain ⟨u1, u2, u3⟩ := elem_put (.int .i64 op) (.slice (some ⟨w.heap.size + 1 + 1, 0, none⟩) 0 0) S2 h2 G2 (by omega) (by omega)
      obtain ⟨c0, c1, f0, f1⟩ := S2
      obtain ⟨d0, d1, _, _⟩ := T2
      obtain ⟨q0, q1, _, _⟩ := u1
      go_wp2
      exact bodyPost_ret (v := .agg #[.int .i64 op, .slice (some ⟨w.heap.size + 1 + 1, 0, none⟩) 0 0]) (by simp [results, Tryz.results37, go_sem, q0, q1]) rfl ⟨⟨op, _, 0, 0, [], rfl, by omega, by omega, rfl, by omega, by omega, (by intro x hx; cases hx), .inl rfl⟩, ⟨_, by omega, u2⟩, u3⟩
    · obtain ⟨u1, u2, u3⟩ := elem_put (.int .i64 op) (.slice (some ⟨w.heap.size + 1 + 1, 0, none⟩) 0 0) S2 h2 G2 (by omega) (by omega)
      obtain ⟨c0, c1, f0, f1⟩ := S2
      obtain ⟨d0, d1, _, _⟩ := T2
      obtain ⟨q0, q1, _, _⟩ := u1
      go_wp2
      exact bodyPost_ret (v := .agg #[.int .i64 op, .slice (some ⟨w.heap.size + 1 + 1, 0, none⟩) 0 0]) (by simp [results, Tryz.results37, go_sem, q0, q1]) rfl ⟨⟨op, _, 0, 0, [], rfl, by omega, by omega, rfl, by omega, by omega, (by intro x hx; cases hx), .inl rfl⟩, ⟨_, by omega, u2⟩, u3⟩
end Go.Proofs.YtcihplachlokiaaGreatDoor.Rr

