/- A byte put into a slot, of the specification: copied, then appended. Made by tools/gen19_hpq.py. -/
import Derived.Test.YtfhdpafaamkipaaHpl
import Derived.Deep.RegionLaw
import Derived.Deep.RegionHeld3
namespace Go.Proofs.Ytfhdpafaamkipaa
open Go.RowKit
set_option linter.unusedVariables false
set_option linter.unusedSimpArgs false

theorem cell_one (w : World) (x : Nat) (T : TypeId) : (w.alloc (.cells #[.int .u8 x] T)).cell? ⟨w.heap.size, 0, none⟩ = some (.int .u8 x) := (cell_of_row _ _ _ _ _ _ (heap_alloc_last w _)).trans rfl
theorem one_news {w : World} {B x : Nat} (h : w.cell? ⟨B, 0, none⟩ = some (.int .u8 x)) : ∀ j u, [Value.int .u8 (x : Nat)][j]? = some u → w.cell? ((⟨B, 0, none⟩ : Addr).add j) = some u := by
  intro j u hu
  match j with
  | 0 =>
    simp at hu
    subst hu
    simpa [Addr.add] using h
  | j + 1 => simp at hu
set_option maxRecDepth 10000 in
set_option maxHeartbeats 8000000 in
theorem ins_4 (base m t : Nat) (a : Option Addr) (n c : Nat) (d : List Nat) (s : Int) (y : Nat) (w : World) (own : OwB w base (.slice a n c) d) (hB : base ≤ w.heap.size) (hn : n < 20100) :
    Calls Try.prog 57 #[.agg #[.int .u8 m, .int .u8 t, .slice a n c], .agg #[.int .i64 4, .int .i64 s, .int .u8 y]] w fun e w' => SlR base ⟨m, t, d ++ [y]⟩ a w e w' := by
  have hl := owb_len own
  subst hl
  have i1 : (d.length : Int) < 20100 := by omega
  have hlen : d.length ≤ 20100 := by omega
  obtain ⟨k0, k1, k2, hz, b0⟩ := three_alloc w (.cells #[.int .u8 m, .int .u8 t, .slice a d.length c] 24) (.cells #[.int .i64 4, .int .i64 s, .int .u8 y] 42) (.cells #[.int .u8 0, .int .u8 0, .slice none 0 0] 24)
  have HC : Hid (∀ W, Below w.heap.size w W → Calls Try.prog 43 #[.slice a d.length c] W fun e w' => ∃ g c', e = .returned (.slice (some ⟨g, 0, none⟩) d.length c') ∧ OwB w' W.heap.size (.slice (some ⟨g, 0, none⟩) d.length c') d ∧ Below W.heap.size W w') := fun W b => copy_s a d.length c d W rfl (by omega) ((owb_ob own).bt.later b (Nat.le_refl _))
  obtain ⟨ti, hi, hz0, hz1, hz2⟩ := info_parts infoU8
  have HI : Hid (Try.prog.info? 5 = some ti ∧ ti.zero = some (.int .u8 0) ∧ ti.size = 1 ∧ ti.bytes = 1) := ⟨hi, hz0, hz1, hz2⟩
  have HBs : Hid (base ≤ w.heap.size) := hB
  clear own hn hi hz0 hz1 hz2 hB
  go_enter Try.func57, Try.ntmps57
  go_upto_region 1 with fail
  generalize (((w.alloc (.cells #[.int .u8 m, .int .u8 t, .slice a d.length c] 24)).alloc (.cells #[.int .i64 4, .int .i64 s, .int .u8 y] 42)).alloc (.cells #[.int .u8 0, .int .u8 0, .slice none 0 0] 24)) = W0 at k0 k1 k2 hz b0 ⊢
  obtain ⟨p0, p1, p2, pf⟩ := row_cells3 k0
  obtain ⟨q0, q1, q2, qf⟩ := row_cells3 k1
  have K0 : Hid (W0.heap[w.heap.size]? = _) := k0
  have K1 : Hid (W0.heap[w.heap.size + 1]? = _) := k1
  have K2 : Hid (W0.heap[w.heap.size + 1 + 1]? = _) := k2
  have B0 : Hid (Below w.heap.size w W0) := b0
  have HZ : Hid (W0.heap.size = w.heap.size + 3) := hz
  have p2a : ∀ o, (W0.alloc o).cell? ⟨w.heap.size, 2, none⟩ = some (.slice a d.length c) := fun o => (World.cell?_alloc_past _ _ _ (by show w.heap.size < W0.heap.size; omega)).trans p2
  have q2a : ∀ o, (W0.alloc o).cell? ⟨w.heap.size + 1, 2, none⟩ = some (.int .u8 y) := fun o => (World.cell?_alloc_past _ _ _ (by show w.heap.size + 1 < W0.heap.size; omega)).trans q2
  clear k0 k1 k2 b0 hz
  go_upto_region 10 with fail
  go_region_law
    (first
      | (go_simp; go_at_call 43; refine (HC.out _ (by first | exact B0.out | exact B0.out.drew | exact B0.out.alloc B0.out.size _ | exact B0.out.drew.alloc B0.out.size _ | exact (B0.out.alloc B0.out.size _).drew)).mono ?_; rintro e w5 ⟨g5, c5, rfl, own5, gg5⟩; have gX : Below W0.heap.size W0 w5 := (by first | exact gg5 | exact (Below.refl _ _).drew.trans (gg5.mono (Nat.le_refl _)) | exact ((Below.refl W0.heap.size W0).alloc (Nat.le_refl _) _).trans (gg5.mono (by simp)) | exact ((Below.refl W0.heap.size W0).drew.alloc (Nat.le_refl _) _).trans (gg5.mono (by simp))); have own5' : OwB w5 W0.heap.size (.slice (some ⟨g5, 0, none⟩) d.length c5) d := owb_base own5 (by first | exact Nat.le_refl _ | simp); obtain ⟨t0, t1, t2, tf⟩ := row_cells3 (row_later19 K1.out gX); dsimp only)
      | (refine step_append_lies _ (by rfl) (.tmp 28) (.tmp 31) 22 (by rfl) W0.heap.size 5 ti (.int .u8 0) 1 1 Try.underlying22 HI.out.1 HI.out.2.1 HI.out.2.2.1 HI.out.2.2.2 (by rfl) (by decide) (.slice (some ⟨g5, 0, none⟩) d.length c5) d.length (clB d) (by rfl) (by first | exact own5' | exact owb_later own5' ((Below.refl _ _).alloc (Nat.le_refl _) _)) _ 1 1 [.int .u8 (y : Nat)] (by rfl) (by rfl) (by first | exact one_news (cell_one _ _ _) | exact one_news ((gg5.cell (p := ⟨W0.heap.size, 0, none⟩) (by simp)).trans (cell_one _ _ _))) (by intro v hu; simp at hu; subst hu; rfl) (by omega) (by unfold maxLen; omega) (by omega) (by have := gX.size; first | exact this | (simp; omega)) _ rfl ?_; intro g6 c6 w6 own6 gg6 hat6 hlt6; have hf6 : ∀ k, (Value.slice (some ⟨g5, 0, none⟩) d.length c5).ownBlock = some k → atB (some ⟨g5, 0, none⟩) k := (fun k e => by simp [Value.ownBlock] at e; unfold atB; rw [e]); have gZ : Outs (atB (some ⟨g5, 0, none⟩)) W0 w6 := (by first | exact (Outs.of_below gX).trans (.of_grown gg6 hf6) | exact ((Outs.of_below gX).trans (.of_below ((Below.refl _ _).alloc (Nat.le_refl _) _))).trans (.of_grown gg6 hf6)); have hg5 : W0.heap.size ≤ g5 := (owb_lt own5' g5 rfl).1; have kz0 := gZ.row K0.out (fun e => by unfold atB at e; cases e; have := HZ.out; omega); obtain ⟨v0, v1, v2, vf⟩ := row_cells3 kz0)
      | fail)
  all_goals
    have hO : OwB w6 W0.heap.size (.slice (some ⟨g6, 0, none⟩) (d.length + 1) c6) (d ++ [y]) := by
      unfold OwB
      rw [clB_app, List.length_append]
      exact own6
    have hz := HZ.out
    have hb5 : ∀ k, atB (some ⟨g5, 0, none⟩) k → W0.heap.size ≤ k := fun k e => by unfold atB at e; cases e; exact hg5
    have kz2 := gZ.row K2.out (fun e => by have := hb5 _ e; omega)
    obtain ⟨u0, u1, u2, uf⟩ := row_cells3 kz2
    have b6 : Below w.heap.size w w6 := gZ.below B0.out (by omega) (fun k e => by have := hb5 k e; omega)
    have HF : Hid (SlR base ⟨m, t, d ++ [y]⟩ a w (.returned (.agg #[.int .u8 m, .int .u8 t, .slice (some ⟨g6, 0, none⟩) (d.length + 1) c6])) ((((w6.setCell ⟨w.heap.size, 2, none⟩ (.slice (some ⟨g6, 0, none⟩) (d.length + 1) c6)).setCell ⟨w.heap.size + 1 + 1, 0, none⟩ (.int .u8 m)).setCell ⟨w.heap.size + 1 + 1, 1, none⟩ (.int .u8 t)).setCell ⟨w.heap.size + 1 + 1, 2, none⟩ (.slice (some ⟨g6, 0, none⟩) (d.length + 1) c6))) := by
      refine ⟨_, d.length + 1, c6, rfl, owb_base (owb_keep hO fun j e => ?_) (by have := HBs.out; omega), fun j e => .inr (by have := (owb_lt hO j e).1; omega), .of_below (bel_set (bel_set (bel_set (bel_set b6 (Nat.le_refl _) _ _) (by omega) _ _) (by omega) _ _) (by omega) _ _)⟩
      have h := (owb_lt hO j e).1
      have h1 : w.heap.size ≠ j := by omega
      have h2 : w.heap.size + 1 + 1 ≠ j := by omega
      exact (heap_set19 _ _ _ _ _ h2).trans ((heap_set19 _ _ _ _ _ h2).trans ((heap_set19 _ _ _ _ _ h2).trans (heap_set19 _ _ _ _ _ h1)))
    clear hO own6 gg6 hat6 hlt6 hf6 gZ hg5 kz0 kz2 hz hb5 b6 own5 own5' gg5 gX
    go_wp2
    exact bodyPost_ret (v := .agg #[.int .u8 m, .int .u8 t, .slice (some ⟨g6, 0, none⟩) (d.length + 1) c6]) (by simp [results, Try.results57, go_sem, v0, v1, v2, u0, u1, u2]) rfl HF.out
/-- A write into a slot, whatever it is. -/
theorem into_s (base m t : Nat) (a : Option Addr) (n c : Nat) (d : List Nat) (x : WrT) (w : World) (own : OwB w base (.slice a n c) d) (hB : base ≤ w.heap.size) :
    Calls Try.prog 57 #[.agg #[.int .u8 m, .int .u8 t, .slice a n c], .agg #[.int .i64 x.kind, .int .i64 x.slot, .int .u8 x.byte]] w fun e w' => SlR base (intoT ⟨m, t, d⟩ x) a w e w' := by
  by_cases h4 : x.kind = 4
  · have hn := owb_len own
    obtain ⟨k, s, y⟩ := x
    simp only at h4
    subst h4
    by_cases hd : d.length < 20100
    · rw [into_4 _ _ _ _ rfl hd]
      exact ins_4 base m t a n c d s y w own hB (by omega)
    · rw [into_5 _ _ _ _ rfl hd]
      exact ins_5 base m t a n c d s y w own (by omega)
  · exact ins_s base m t a n c d x w own h4
end Go.Proofs.Ytfhdpafaamkipaa
