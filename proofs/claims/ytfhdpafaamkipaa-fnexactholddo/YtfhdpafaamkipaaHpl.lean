/- A write into a slot of one's own, of the specification. Made by tools/gen19_hpl.py. -/
import Derived.Test.YtfhdpafaamkipaaHpk
namespace Go.Proofs.Ytfhdpafaamkipaa
open Go.RowKit
set_option linter.unusedVariables false
set_option linter.unusedSimpArgs false

theorem outs_new {S : Nat → Prop} {w V : World} (h : Outs S w V) (b f : Nat) (v : Value) (hb : w.heap.size ≤ b) : Outs S w (V.setCell ⟨b, f, none⟩ v) :=
  ⟨h.os, h.tape, h.output, by simpa using h.size, fun k hk hs => (heap_set19 V b f k v (by omega)).trans (h.block k hk hs)⟩
set_option maxRecDepth 10000 in
set_option maxHeartbeats 4000000 in
theorem add_4 (base m t : Nat) (a : Option Addr) (n c : Nat) (d : List Nat) (s : Int) (y : Nat) (w : World) (own : OwB w base (.slice a n c) d) (hB : base ≤ w.heap.size) (hn : n < 20100) :
    Calls Try.prog 53 #[.agg #[.int .u8 m, .int .u8 t, .slice a n c], .agg #[.int .i64 4, .int .i64 s, .int .u8 y]] w fun e w' => SlR base ⟨m, t, d ++ [y]⟩ a w e w' := by
  obtain ⟨k0, k1, k2, hz, b0⟩ := three_alloc w (.cells #[.int .u8 m, .int .u8 t, .slice a n c] 24) (.cells #[.int .i64 4, .int .i64 s, .int .u8 y] 42) (.cells #[.int .u8 0, .int .u8 0, .slice none 0 0] 24)
  have i1 : (n : Int) < 20100 := by omega
  have hlt : ∀ j, atB a j → j < w.heap.size := fun j e => (owb_lt own j e).2
  go_enter Try.func53, Try.ntmps53
  go_upto_region 1 with fail
  generalize (((w.alloc (.cells #[.int .u8 m, .int .u8 t, .slice a n c] 24)).alloc (.cells #[.int .i64 4, .int .i64 s, .int .u8 y] 42)).alloc (.cells #[.int .u8 0, .int .u8 0, .slice none 0 0] 24)) = W0 at k0 k1 k2 hz b0 ⊢
  obtain ⟨g1, c1, W1, hr, hO, hU, hat⟩ := appB1 W0 base a n c y d (owb_later own b0) (by omega) (Nat.le_trans hB b0.size)
  have HR : Hid (∀ ty, (Builtin.append_ #[22, 22] ty #[.slice a n c, .slice (some ⟨W0.heap.size, 0, none⟩) 1 1]).run Try.prog (W0.alloc (.cells #[.int .u8 (y : Nat)] 5)) = .ok (.slice (some ⟨g1, 0, none⟩) (n + 1) c1) W1) := hr
  have j0 := hU.row k0 (fun e => by have := hlt _ e; omega)
  have j1 := hU.row k1 (fun e => by have := hlt _ e; omega)
  have j2 := hU.row k2 (fun e => by have := hlt _ e; omega)
  have HF : Hid (SlR base ⟨m, t, d ++ [y]⟩ a w (.returned (.agg #[.int .u8 m, .int .u8 t, .slice (some ⟨g1, 0, none⟩) (n + 1) c1])) ((((W1.setCell ⟨w.heap.size, 2, none⟩ (.slice (some ⟨g1, 0, none⟩) (n + 1) c1)).setCell ⟨w.heap.size + 1 + 1, 0, none⟩ (.int .u8 m)).setCell ⟨w.heap.size + 1 + 1, 1, none⟩ (.int .u8 t)).setCell ⟨w.heap.size + 1 + 1, 2, none⟩ (.slice (some ⟨g1, 0, none⟩) (n + 1) c1))) := by
    have hg : ∀ j, atB (some ⟨g1, 0, none⟩) j → atB a j ∨ w.heap.size + 3 ≤ j := fun j e => by
      unfold atB at e
      cases e
      rcases hat with h | h
      · exact .inl h
      · exact .inr (by rw [← hz]; exact h)
    have hne : ∀ j, atB (some ⟨g1, 0, none⟩) j → j < w.heap.size ∨ w.heap.size + 3 ≤ j := fun j e => by
      rcases hg j e with h | h
      · exact .inl (hlt j h)
      · exact .inr h
    refine ⟨_, n + 1, c1, rfl, owb_keep hO fun j e => ?_, fun j e => ?_, ?_⟩
    · have h := hne j e
      have h1 : w.heap.size ≠ j := by omega
      have h2 : w.heap.size + 1 + 1 ≠ j := by omega
      exact (heap_set19 _ _ _ _ _ h2).trans ((heap_set19 _ _ _ _ _ h2).trans ((heap_set19 _ _ _ _ _ h2).trans (heap_set19 _ _ _ _ _ h1)))
    · rcases hg j e with h | h
      · exact .inl h
      · exact .inr (by omega)
    · refine outs_new (outs_new (outs_new (outs_new ((Outs.of_below b0).trans hU) _ _ _ (Nat.le_refl _)) _ _ _ (by omega)) _ _ _ (by omega)) _ _ _ (by omega)
  obtain ⟨s0, s1, s2, sf⟩ := row_cells3 j0
  obtain ⟨t0, t1, t2, tf⟩ := row_cells3 j1
  obtain ⟨u0, u1, u2, uf⟩ := row_cells3 j2
  clear hr hO hU hat j0 j1 j2 hlt hn hB hz own b0
  obtain ⟨p0, p1, p2, pf⟩ := row_cells3 k0
  obtain ⟨q0, q1, q2, qf⟩ := row_cells3 k1
  clear k0 k1 k2
  go_wp2_with (at_builtin; refine wpList_appB rfl _ _ 22 rfl _ _ rfl rfl _ _ HR.out ?_)
  exact bodyPost_ret (v := .agg #[.int .u8 m, .int .u8 t, .slice (some ⟨g1, 0, none⟩) (n + 1) c1]) (by simp [results, Try.results53, go_sem, s0, s1, s2, u0, u1, u2]) rfl HF.out
set_option maxRecDepth 10000 in
set_option maxHeartbeats 4000000 in
theorem add_5 (base m t : Nat) (a : Option Addr) (n c : Nat) (d : List Nat) (s : Int) (y : Nat) (w : World) (own : OwB w base (.slice a n c) d) (hn : ¬ n < 20100) :
    Calls Try.prog 53 #[.agg #[.int .u8 m, .int .u8 t, .slice a n c], .agg #[.int .i64 4, .int .i64 s, .int .u8 y]] w fun e w' => SlR base ⟨m, t, d⟩ a w e w' := by
  obtain ⟨k0, k1, k2, hz, b0⟩ := three_alloc w (.cells #[.int .u8 m, .int .u8 t, .slice a n c] 24) (.cells #[.int .i64 4, .int .i64 s, .int .u8 y] 42) (.cells #[.int .u8 0, .int .u8 0, .slice none 0 0] 24)
  have i1 : ¬ (n : Int) < 20100 := by omega
  have HO : Hid (OwB w base (.slice a n c) d) := own
  clear own hn
  go_enter Try.func53, Try.ntmps53
  go_upto_region 1 with fail
  generalize (((w.alloc (.cells #[.int .u8 m, .int .u8 t, .slice a n c] 24)).alloc (.cells #[.int .i64 4, .int .i64 s, .int .u8 y] 42)).alloc (.cells #[.int .u8 0, .int .u8 0, .slice none 0 0] 24)) = W0 at k0 k1 k2 hz b0 ⊢
  obtain ⟨p0, p1, p2, pf⟩ := row_cells3 k0
  obtain ⟨q0, q1, q2, qf⟩ := row_cells3 k1
  obtain ⟨r0, r1, r2, rf⟩ := row_cells3 k2
  have HF : Hid (Below w.heap.size w (((W0.setCell ⟨w.heap.size + 1 + 1, 0, none⟩ (.int .u8 m)).setCell ⟨w.heap.size + 1 + 1, 1, none⟩ (.int .u8 t)).setCell ⟨w.heap.size + 1 + 1, 2, none⟩ (.slice a n c))) := by
    show Below _ _ _
    iterate 3 refine bel_set ?_ (by omega) _ _
    exact b0
  clear k0 k1 k2 hz b0
  go_wp2
  refine bodyPost_ret (v := .agg #[.int .u8 m, .int .u8 t, .slice a n c]) (by simp [results, Try.results53, go_sem, p0, p1, p2, r0, r1, r2]) rfl ?_
  exact slR_below (q := ⟨m, t, d⟩) HO.out HF.out
set_option maxRecDepth 10000 in
set_option maxHeartbeats 4000000 in
theorem add_6 (base m t : Nat) (a : Option Addr) (n c : Nat) (d : List Nat) (x : WrT) (w : World) (own : OwB w base (.slice a n c) d) (h4 : x.kind ≠ 4) :
    Calls Try.prog 53 #[.agg #[.int .u8 m, .int .u8 t, .slice a n c], .agg #[.int .i64 x.kind, .int .i64 x.slot, .int .u8 x.byte]] w fun e w' => SlR base (intoT ⟨m, t, d⟩ x) a w e w' := by
  obtain ⟨k0, k1, k2, hz, b0⟩ := three_alloc w (.cells #[.int .u8 m, .int .u8 t, .slice a n c] 24) (.cells #[.int .i64 x.kind, .int .i64 x.slot, .int .u8 x.byte] 42) (.cells #[.int .u8 0, .int .u8 0, .slice none 0 0] 24)
  have HI : Hid (∀ W, Below w.heap.size w W → Calls Try.prog 57 #[.agg #[.int .u8 m, .int .u8 t, .slice a n c], .agg #[.int .i64 x.kind, .int .i64 x.slot, .int .u8 x.byte]] W fun e w' => SlR base (intoT ⟨m, t, d⟩ x) a W e w') := fun W b => ins_s base m t a n c d x W (owb_later own b) h4
  have hlt : Hid (∀ j, atB a j → j < w.heap.size) := (fun j e => (owb_lt own j e).2 : ∀ j, atB a j → j < w.heap.size)
  have e4 : (x.kind == 4) = false := by simp [h4]
  obtain ⟨q, hq⟩ : ∃ q, intoT ⟨m, t, d⟩ x = q := ⟨_, rfl⟩
  rw [hq] at HI ⊢
  clear own h4 hq
  go_enter Try.func53, Try.ntmps53
  go_upto_region 1 with fail
  generalize (((w.alloc (.cells #[.int .u8 m, .int .u8 t, .slice a n c] 24)).alloc (.cells #[.int .i64 x.kind, .int .i64 x.slot, .int .u8 x.byte] 42)).alloc (.cells #[.int .u8 0, .int .u8 0, .slice none 0 0] 24)) = W0 at k0 k1 k2 hz b0 ⊢
  obtain ⟨p0, p1, p2, pf⟩ := row_cells3 k0
  obtain ⟨q0, q1, q2, qf⟩ := row_cells3 k1
  go_wp2_with fail
  refine (HI.out W0 b0).mono ?_
  rintro e w1 ⟨a', n', c', rfl, hO, hat, hU⟩
  have j2 := hU.row k2 (fun e => by have := hlt.out _ e; omega)
  obtain ⟨u0, u1, u2, uf⟩ := row_cells3 j2
  have HF : Hid (SlR base q a w (.returned (.agg #[.int .u8 q.mark, .int .u8 q.turn, .slice a' n' c'])) (((w1.setCell ⟨w.heap.size + 1 + 1, 0, none⟩ (.int .u8 q.mark)).setCell ⟨w.heap.size + 1 + 1, 1, none⟩ (.int .u8 q.turn)).setCell ⟨w.heap.size + 1 + 1, 2, none⟩ (.slice a' n' c'))) := by
    have hne : ∀ j, atB a' j → w.heap.size + 1 + 1 ≠ j := fun j e => by
      rcases hat j e with h | h
      · have := hlt.out j h; omega
      · omega
    refine ⟨a', n', c', rfl, owb_keep hO fun j e => ?_, fun j e => ?_, ?_⟩
    · have h2 := hne j e
      exact (heap_set19 _ _ _ _ _ h2).trans ((heap_set19 _ _ _ _ _ h2).trans (heap_set19 _ _ _ _ _ h2))
    · rcases hat j e with h | h
      · exact .inl h
      · exact .inr (by omega)
    · refine outs_new (outs_new (outs_new ((Outs.of_below b0).trans hU) _ _ _ (by omega)) _ _ _ (by omega)) _ _ _ (by omega)
  clear p0 p1 p2 pf q0 q1 q2 qf hO hat hU j2 k0 k1 k2 b0 hz HI
  go_wp2
  exact bodyPost_ret (v := .agg #[.int .u8 q.mark, .int .u8 q.turn, .slice a' n' c']) (by simp [results, Try.results53, go_sem, u0, u1, u2]) rfl HF.out
/-- A write into a slot of one's own. -/
theorem add_s (base : Nat) (q : SlotT) (a : Option Addr) (n c : Nat) (x : WrT) (w : World) (own : OwB w base (.slice a n c) q.data) (hB : base ≤ w.heap.size) :
    Calls Try.prog 53 #[.agg #[.int .u8 q.mark, .int .u8 q.turn, .slice a n c], .agg #[.int .i64 x.kind, .int .i64 x.slot, .int .u8 x.byte]] w fun e w' => SlR base (intoT q x) a w e w' := by
  obtain ⟨m, t, d⟩ := q
  by_cases h4 : x.kind = 4
  · have hn := owb_len own
    obtain ⟨k, s, y⟩ := x
    simp only at h4
    subst h4
    by_cases hd : d.length < 20100
    · rw [into_4 _ _ _ _ rfl hd]
      exact add_4 base m t a n c d s y w own hB (by simp only at hn; omega)
    · rw [into_5 _ _ _ _ rfl hd]
      exact add_5 base m t a n c d s y w own (by simp only at hn; omega)
  · exact add_6 base m t a n c d x w own h4
end Go.Proofs.Ytfhdpafaamkipaa
