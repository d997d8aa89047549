/- A write into a slot, of the specification. Made by tools/gen19_hpk.py. -/
import Derived.Test.YtfhdpafaamkipaaHpj
namespace Go.Proofs.Ytfhdpafaamkipaa
open Go.RowKit
set_option linter.unusedVariables false
set_option linter.unusedSimpArgs false

theorem row_cells3 {w : World} {B : Nat} {T : TypeId} {v0 v1 v2 : Value} (k : w.heap[B]? = some (.cells #[v0, v1, v2] T (0, 0))) :
    w.cell? ⟨B, 0, none⟩ = some v0 ∧ w.cell? ⟨B, 1, none⟩ = some v1 ∧ w.cell? ⟨B, 2, none⟩ = some v2 ∧ ∀ o, w.frozen? ⟨B, o, none⟩ = false :=
  ⟨(cell_of_row _ _ _ _ _ _ k).trans rfl, (cell_of_row _ _ _ _ _ _ k).trans rfl, (cell_of_row _ _ _ _ _ _ k).trans rfl, fun o => by simp [World.frozen?, k]⟩
/-- What a write into a slot gives back. -/
def SlR (base : Nat) (q : SlotT) (a : Option Addr) (w : World) (e : Ending) (w' : World) : Prop :=
  ∃ (a' : Option Addr) (n' c' : Nat), e = .returned (.agg #[.int .u8 q.mark, .int .u8 q.turn, .slice a' n' c']) ∧ OwB w' base (.slice a' n' c') q.data ∧ (∀ j, atB a' j → atB a j ∨ w.heap.size ≤ j) ∧ Outs (atB a) w w'
theorem slR_below {base : Nat} {q : SlotT} {a : Option Addr} {n c : Nat} {w w' : World} (own : OwB w base (.slice a n c) q.data) (b : Below w.heap.size w w') : SlR base q a w (.returned (.agg #[.int .u8 q.mark, .int .u8 q.turn, .slice a n c])) w' :=
  ⟨a, n, c, rfl, owb_later own b, fun j e => .inl e, .of_below b⟩
theorem into_1 (m t : Nat) (d : List Nat) (x : WrT) (h : x.kind = 1) : intoT ⟨m, t, d⟩ x = ⟨x.byte, t, d⟩ := by unfold intoT; rw [if_pos h]
theorem into_2 (m t : Nat) (d : List Nat) (x : WrT) (h : x.kind = 2) : intoT ⟨m, t, d⟩ x = ⟨m, x.byte, d⟩ := by unfold intoT; rw [if_neg (by omega), if_pos h]
theorem into_3 (m t : Nat) (d : List Nat) (x : WrT) (h : x.kind = 3) : intoT ⟨m, t, d⟩ x = ⟨m, t, []⟩ := by unfold intoT; rw [if_neg (by omega), if_neg (by omega), if_pos h]
theorem into_4 (m t : Nat) (d : List Nat) (x : WrT) (h : x.kind = 4) (hd : d.length < 20100) : intoT ⟨m, t, d⟩ x = ⟨m, t, d ++ [x.byte]⟩ := by unfold intoT; rw [if_neg (by omega), if_neg (by omega), if_neg (by omega), if_pos ⟨h, hd⟩]
theorem into_5 (m t : Nat) (d : List Nat) (x : WrT) (h : x.kind = 4) (hd : ¬ d.length < 20100) : intoT ⟨m, t, d⟩ x = ⟨m, t, d⟩ := by unfold intoT; rw [if_neg (by omega), if_neg (by omega), if_neg (by omega), if_neg (fun e => hd e.2)]
theorem into_6 (m t : Nat) (d : List Nat) (x : WrT) (h : x.kind ≠ 1 ∧ x.kind ≠ 2 ∧ x.kind ≠ 3 ∧ x.kind ≠ 4) : intoT ⟨m, t, d⟩ x = ⟨m, t, d⟩ := by unfold intoT; rw [if_neg h.1, if_neg h.2.1, if_neg h.2.2.1, if_neg (fun e => h.2.2.2 e.1)]
set_option maxRecDepth 10000 in
set_option maxHeartbeats 4000000 in
theorem ins_1 (base m t : Nat) (a : Option Addr) (n c : Nat) (d : List Nat) (s : Int) (y : Nat) (w : World) (own : OwB w base (.slice a n c) d) :
    Calls Try.prog 57 #[.agg #[.int .u8 m, .int .u8 t, .slice a n c], .agg #[.int .i64 1, .int .i64 s, .int .u8 y]] w fun e w' => SlR base ⟨y, t, d⟩ a w e w' := by
  obtain ⟨k0, k1, k2, hz, b0⟩ := three_alloc w (.cells #[.int .u8 m, .int .u8 t, .slice a n c] 24) (.cells #[.int .i64 1, .int .i64 s, .int .u8 y] 42) (.cells #[.int .u8 0, .int .u8 0, .slice none 0 0] 24)
  have HO : Hid (OwB w base (.slice a n c) d) := own
  clear own
  go_enter Try.func57, Try.ntmps57
  go_upto_region 1 with fail
  generalize (((w.alloc (.cells #[.int .u8 m, .int .u8 t, .slice a n c] 24)).alloc (.cells #[.int .i64 1, .int .i64 s, .int .u8 y] 42)).alloc (.cells #[.int .u8 0, .int .u8 0, .slice none 0 0] 24)) = W0 at k0 k1 k2 hz b0 ⊢
  obtain ⟨p0, p1, p2, pf⟩ := row_cells3 k0
  obtain ⟨q0, q1, q2, qf⟩ := row_cells3 k1
  obtain ⟨r0, r1, r2, rf⟩ := row_cells3 k2
  have HF : Hid (Below w.heap.size w ((((W0.setCell ⟨w.heap.size, 0, none⟩ (.int .u8 y)).setCell ⟨w.heap.size + 1 + 1, 0, none⟩ (.int .u8 y)).setCell ⟨w.heap.size + 1 + 1, 1, none⟩ (.int .u8 t)).setCell ⟨w.heap.size + 1 + 1, 2, none⟩ (.slice a n c))) := by
    show Below _ _ _
    iterate 4 refine bel_set ?_ (by omega) _ _
    exact b0
  clear k0 k1 k2 hz b0
  go_wp2
  refine bodyPost_ret (v := .agg #[.int .u8 y, .int .u8 t, .slice a n c]) (by simp [results, Try.results57, go_sem, p0, p1, p2, r0, r1, r2]) rfl ?_
  exact slR_below (q := ⟨y, t, d⟩) HO.out HF.out
set_option maxRecDepth 10000 in
set_option maxHeartbeats 4000000 in
theorem ins_2 (base m t : Nat) (a : Option Addr) (n c : Nat) (d : List Nat) (s : Int) (y : Nat) (w : World) (own : OwB w base (.slice a n c) d) :
    Calls Try.prog 57 #[.agg #[.int .u8 m, .int .u8 t, .slice a n c], .agg #[.int .i64 2, .int .i64 s, .int .u8 y]] w fun e w' => SlR base ⟨m, y, d⟩ a w e w' := by
  obtain ⟨k0, k1, k2, hz, b0⟩ := three_alloc w (.cells #[.int .u8 m, .int .u8 t, .slice a n c] 24) (.cells #[.int .i64 2, .int .i64 s, .int .u8 y] 42) (.cells #[.int .u8 0, .int .u8 0, .slice none 0 0] 24)
  have HO : Hid (OwB w base (.slice a n c) d) := own
  clear own
  go_enter Try.func57, Try.ntmps57
  go_upto_region 1 with fail
  generalize (((w.alloc (.cells #[.int .u8 m, .int .u8 t, .slice a n c] 24)).alloc (.cells #[.int .i64 2, .int .i64 s, .int .u8 y] 42)).alloc (.cells #[.int .u8 0, .int .u8 0, .slice none 0 0] 24)) = W0 at k0 k1 k2 hz b0 ⊢
  obtain ⟨p0, p1, p2, pf⟩ := row_cells3 k0
  obtain ⟨q0, q1, q2, qf⟩ := row_cells3 k1
  obtain ⟨r0, r1, r2, rf⟩ := row_cells3 k2
  have HF : Hid (Below w.heap.size w ((((W0.setCell ⟨w.heap.size, 1, none⟩ (.int .u8 y)).setCell ⟨w.heap.size + 1 + 1, 0, none⟩ (.int .u8 m)).setCell ⟨w.heap.size + 1 + 1, 1, none⟩ (.int .u8 y)).setCell ⟨w.heap.size + 1 + 1, 2, none⟩ (.slice a n c))) := by
    show Below _ _ _
    iterate 4 refine bel_set ?_ (by omega) _ _
    exact b0
  clear k0 k1 k2 hz b0
  go_wp2
  refine bodyPost_ret (v := .agg #[.int .u8 m, .int .u8 y, .slice a n c]) (by simp [results, Try.results57, go_sem, p0, p1, p2, r0, r1, r2]) rfl ?_
  exact slR_below (q := ⟨m, y, d⟩) HO.out HF.out
set_option maxRecDepth 10000 in
set_option maxHeartbeats 4000000 in
theorem ins_3 (base m t : Nat) (a : Option Addr) (n c : Nat) (d : List Nat) (s : Int) (y : Nat) (w : World) (own : OwB w base (.slice a n c) d) :
    Calls Try.prog 57 #[.agg #[.int .u8 m, .int .u8 t, .slice a n c], .agg #[.int .i64 3, .int .i64 s, .int .u8 y]] w fun e w' => SlR base ⟨m, t, []⟩ a w e w' := by
  obtain ⟨k0, k1, k2, hz, b0⟩ := three_alloc w (.cells #[.int .u8 m, .int .u8 t, .slice a n c] 24) (.cells #[.int .i64 3, .int .i64 s, .int .u8 y] 42) (.cells #[.int .u8 0, .int .u8 0, .slice none 0 0] 24)
  have HO : Hid (OwB w base (.slice a n c) d) := own
  clear own
  go_enter Try.func57, Try.ntmps57
  go_upto_region 1 with fail
  generalize (((w.alloc (.cells #[.int .u8 m, .int .u8 t, .slice a n c] 24)).alloc (.cells #[.int .i64 3, .int .i64 s, .int .u8 y] 42)).alloc (.cells #[.int .u8 0, .int .u8 0, .slice none 0 0] 24)) = W0 at k0 k1 k2 hz b0 ⊢
  obtain ⟨p0, p1, p2, pf⟩ := row_cells3 k0
  obtain ⟨q0, q1, q2, qf⟩ := row_cells3 k1
  obtain ⟨r0, r1, r2, rf⟩ := row_cells3 k2
  have HF : Hid (Below w.heap.size w ((((W0.setCell ⟨w.heap.size, 2, none⟩ (.slice none 0 0)).setCell ⟨w.heap.size + 1 + 1, 0, none⟩ (.int .u8 m)).setCell ⟨w.heap.size + 1 + 1, 1, none⟩ (.int .u8 t)).setCell ⟨w.heap.size + 1 + 1, 2, none⟩ (.slice none 0 0))) := by
    show Below _ _ _
    iterate 4 refine bel_set ?_ (by omega) _ _
    exact b0
  clear k0 k1 k2 hz b0
  go_wp2
  refine bodyPost_ret (v := .agg #[.int .u8 m, .int .u8 t, .slice none 0 0]) (by simp [results, Try.results57, go_sem, p0, p1, p2, r0, r1, r2]) rfl ?_
  exact ⟨none, 0, 0, rfl, World.ownsRow_nil _ _ _ _, (fun j e => by cases e), .of_below HF.out⟩
set_option maxRecDepth 10000 in
set_option maxHeartbeats 4000000 in
theorem ins_5 (base m t : Nat) (a : Option Addr) (n c : Nat) (d : List Nat) (s : Int) (y : Nat) (w : World) (own : OwB w base (.slice a n c) d) (hn : ¬ n < 20100) :
    Calls Try.prog 57 #[.agg #[.int .u8 m, .int .u8 t, .slice a n c], .agg #[.int .i64 4, .int .i64 s, .int .u8 y]] w fun e w' => SlR base ⟨m, t, d⟩ a w e w' := by
  obtain ⟨k0, k1, k2, hz, b0⟩ := three_alloc w (.cells #[.int .u8 m, .int .u8 t, .slice a n c] 24) (.cells #[.int .i64 4, .int .i64 s, .int .u8 y] 42) (.cells #[.int .u8 0, .int .u8 0, .slice none 0 0] 24)
  have i1 : ¬ (n : Int) < 20100 := by omega
  clear hn
  have HO : Hid (OwB w base (.slice a n c) d) := own
  clear own
  go_enter Try.func57, Try.ntmps57
  go_upto_region 1 with fail
  generalize (((w.alloc (.cells #[.int .u8 m, .int .u8 t, .slice a n c] 24)).alloc (.cells #[.int .i64 4, .int .i64 s, .int .u8 y] 42)).alloc (.cells #[.int .u8 0, .int .u8 0, .slice none 0 0] 24)) = W0 at k0 k1 k2 hz b0 ⊢
  obtain ⟨p0, p1, p2, pf⟩ := row_cells3 k0
  obtain ⟨q0, q1, q2, qf⟩ := row_cells3 k1
  obtain ⟨r0, r1, r2, rf⟩ := row_cells3 k2
  have HF : Hid (Below w.heap.size w (((W0.setCell ⟨w.heap.size + 1 + 1, 0, none⟩ (.int .u8 m)).setCell ⟨w.heap.size + 1 + 1, 1, none⟩ (.int .u8 t)).setCell ⟨w.heap.size + 1 + 1, 2, none⟩ (.slice a n c))) := by
    show Below _ _ _
    iterate 3 refine bel_set ?_ (by omega) _ _
    exact b0
  clear k0 k1 k2 hz b0
  go_wp2
  refine bodyPost_ret (v := .agg #[.int .u8 m, .int .u8 t, .slice a n c]) (by simp [results, Try.results57, go_sem, p0, p1, p2, r0, r1, r2]) rfl ?_
  exact slR_below (q := ⟨m, t, d⟩) HO.out HF.out
set_option maxRecDepth 10000 in
set_option maxHeartbeats 4000000 in
theorem ins_6 (base m t : Nat) (a : Option Addr) (n c : Nat) (d : List Nat) (k s : Int) (y : Nat) (w : World) (own : OwB w base (.slice a n c) d) (h : k ≠ 1 ∧ k ≠ 2 ∧ k ≠ 3 ∧ k ≠ 4) :
    Calls Try.prog 57 #[.agg #[.int .u8 m, .int .u8 t, .slice a n c], .agg #[.int .i64 k, .int .i64 s, .int .u8 y]] w fun e w' => SlR base ⟨m, t, d⟩ a w e w' := by
  obtain ⟨k0, k1, k2, hz, b0⟩ := three_alloc w (.cells #[.int .u8 m, .int .u8 t, .slice a n c] 24) (.cells #[.int .i64 k, .int .i64 s, .int .u8 y] 42) (.cells #[.int .u8 0, .int .u8 0, .slice none 0 0] 24)
  have e1 : (k == 1) = false := by simp [h.1]
  have e2 : (k == 2) = false := by simp [h.2.1]
  have e3 : (k == 3) = false := by simp [h.2.2.1]
  have e4 : (k == 4) = false := by simp [h.2.2.2]
  clear h
  have HO : Hid (OwB w base (.slice a n c) d) := own
  clear own
  go_enter Try.func57, Try.ntmps57
  go_upto_region 1 with fail
  generalize (((w.alloc (.cells #[.int .u8 m, .int .u8 t, .slice a n c] 24)).alloc (.cells #[.int .i64 k, .int .i64 s, .int .u8 y] 42)).alloc (.cells #[.int .u8 0, .int .u8 0, .slice none 0 0] 24)) = W0 at k0 k1 k2 hz b0 ⊢
  obtain ⟨p0, p1, p2, pf⟩ := row_cells3 k0
  obtain ⟨q0, q1, q2, qf⟩ := row_cells3 k1
  obtain ⟨r0, r1, r2, rf⟩ := row_cells3 k2
  have HF : Hid (Below w.heap.size w (((W0.setCell ⟨w.heap.size + 1 + 1, 0, none⟩ (.int .u8 m)).setCell ⟨w.heap.size + 1 + 1, 1, none⟩ (.int .u8 t)).setCell ⟨w.heap.size + 1 + 1, 2, none⟩ (.slice a n c))) := by
    show Below _ _ _
    iterate 3 refine bel_set ?_ (by omega) _ _
    exact b0
  clear k0 k1 k2 hz b0
  go_wp2
  refine bodyPost_ret (v := .agg #[.int .u8 m, .int .u8 t, .slice a n c]) (by simp [results, Try.results57, go_sem, p0, p1, p2, r0, r1, r2]) rfl ?_
  exact slR_below (q := ⟨m, t, d⟩) HO.out HF.out
/-- A write into a slot that puts nothing. -/
theorem ins_s (base m t : Nat) (a : Option Addr) (n c : Nat) (d : List Nat) (x : WrT) (w : World) (own : OwB w base (.slice a n c) d) (h4 : x.kind ≠ 4) :
    Calls Try.prog 57 #[.agg #[.int .u8 m, .int .u8 t, .slice a n c], .agg #[.int .i64 x.kind, .int .i64 x.slot, .int .u8 x.byte]] w fun e w' => SlR base (intoT ⟨m, t, d⟩ x) a w e w' := by
  obtain ⟨k, s, y⟩ := x
  simp only at h4 ⊢
  by_cases h1 : k = 1
  · subst h1; rw [into_1 _ _ _ _ rfl]; exact ins_1 base m t a n c d s y w own
  by_cases h2 : k = 2
  · subst h2; rw [into_2 _ _ _ _ rfl]; exact ins_2 base m t a n c d s y w own
  by_cases h3 : k = 3
  · subst h3; rw [into_3 _ _ _ _ rfl]; exact ins_3 base m t a n c d s y w own
  rw [into_6 _ _ _ _ ⟨h1, h2, h3, h4⟩]
  exact ins_6 base m t a n c d k s y w own ⟨h1, h2, h3, h4⟩
end Go.Proofs.Ytfhdpafaamkipaa
