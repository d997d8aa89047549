/- The program's store: opened; which slot is good; the turn behind; a half. -/
import Derived.Test.YtfhdpafaamkipaaHkd
import Derived.Test.YtfhdpafaamkipaaHsb
namespace Go.Proofs.Ytfhdpafaamkipaa
open Go.RowKit
set_option linter.unusedVariables false
set_option linter.unusedSimpArgs false

/-- A store in memory: its guard, its halves side by side. -/
structure StA (w : World) (g : Nat) (gd : Int) (r : RomT) (va vb : Value) : Prop where
  c0 : w.cell? ⟨g, 0, none⟩ = some (.int .i32 gd)
  c1 : w.cell? ⟨g, 1, none⟩ = some (.int .u32 0)
  c2 : w.cell? ⟨g, 2, none⟩ = some (.int .u8 r.a.mark)
  c3 : w.cell? ⟨g, 3, none⟩ = some (.int .u8 r.a.turn)
  c4 : w.cell? ⟨g, 4, none⟩ = some va
  c5 : w.cell? ⟨g, 5, none⟩ = some (.int .u8 r.b.mark)
  c6 : w.cell? ⟨g, 6, none⟩ = some (.int .u8 r.b.turn)
  c7 : w.cell? ⟨g, 7, none⟩ = some vb
  frz : ∀ o, w.frozen? ⟨g, o, none⟩ = false
  lt : g < w.heap.size
theorem StA.later {w w' : World} {g B : Nat} {gd : Int} {r : RomT} {va vb : Value} (h : StA w g gd r va vb) (b : Below B w w') (hg : g < B) : StA w' g gd r va vb :=
  ⟨(b.cell hg).trans h.c0, (b.cell hg).trans h.c1, (b.cell hg).trans h.c2, (b.cell hg).trans h.c3, (b.cell hg).trans h.c4, (b.cell hg).trans h.c5, (b.cell hg).trans h.c6, (b.cell hg).trans h.c7, fun o => (b.frozen hg).trans (h.frz o), Nat.lt_of_lt_of_le h.lt b.size⟩
theorem sta_of_row {w : World} {g : Nat} {T : TypeId} {gd : Int} {r : RomT} {va vb : Value} (k : w.heap[g]? = some (.cells #[.int .i32 gd, .int .u32 0, .int .u8 r.a.mark, .int .u8 r.a.turn, va, .int .u8 r.b.mark, .int .u8 r.b.turn, vb] T (0, 0))) : StA w g gd r va vb :=
  ⟨(cell_of_row _ _ _ _ _ _ k).trans rfl, (cell_of_row _ _ _ _ _ _ k).trans rfl, (cell_of_row _ _ _ _ _ _ k).trans rfl, (cell_of_row _ _ _ _ _ _ k).trans rfl, (cell_of_row _ _ _ _ _ _ k).trans rfl, (cell_of_row _ _ _ _ _ _ k).trans rfl, (cell_of_row _ _ _ _ _ _ k).trans rfl, (cell_of_row _ _ _ _ _ _ k).trans rfl, fun o => by simp [World.frozen?, k], (Array.getElem?_eq_some_iff.1 k).1⟩
set_option maxRecDepth 10000 in
set_option maxHeartbeats 2000000 in
theorem open_i (r : RomT) (xa xb : Option Addr) (na ca nb cb : Nat) (w : World) :
    Calls Try.prog 44 #[romV r xa xb na ca nb cb] w fun e w' => e = .returned (.pointer (some ⟨w.heap.size + 1, 0, none⟩)) ∧ StA w' (w.heap.size + 1) 0 r (.slice xa na ca) (.slice xb nb cb) ∧ Below w.heap.size w w' ∧ w'.heap.size = w.heap.size + 2 := by
  obtain ⟨⟨am, at', ad⟩, ⟨bm, bt, bd⟩⟩ := r
  unfold romV
  have k0 := heap_alloc_last (w.alloc (.cells #[.int .u8 am, .int .u8 at', .slice xa na ca, .int .u8 bm, .int .u8 bt, .slice xb nb cb] 26)) (.cells #[.int .i32 0, .int .u32 0, .int .u8 am, .int .u8 at', .slice xa na ca, .int .u8 bm, .int .u8 bt, .slice xb nb cb] 84)
  have b0 : Below w.heap.size w ((w.alloc (.cells #[.int .u8 am, .int .u8 at', .slice xa na ca, .int .u8 bm, .int .u8 bt, .slice xb nb cb] 26)).alloc (.cells #[.int .i32 0, .int .u32 0, .int .u8 am, .int .u8 at', .slice xa na ca, .int .u8 bm, .int .u8 bt, .slice xb nb cb] 84)) := ((Below.refl _ _).alloc (Nat.le_refl _) _).alloc (by simp) _
  rw [World.size_alloc] at k0
  have hz : ((w.alloc (.cells #[.int .u8 am, .int .u8 at', .slice xa na ca, .int .u8 bm, .int .u8 bt, .slice xb nb cb] 26)).alloc (.cells #[.int .i32 0, .int .u32 0, .int .u8 am, .int .u8 at', .slice xa na ca, .int .u8 bm, .int .u8 bt, .slice xb nb cb] 84)).heap.size = w.heap.size + 2 := by simp
  go_enter Try.func44, Try.ntmps44
  go_wp2
  go_ret
  exact ⟨rfl, sta_of_row k0, b0, hz⟩
set_option maxRecDepth 10000 in
set_option maxHeartbeats 2000000 in
theorem good_i (g o m t : Nat) (a : Option Addr) (n c : Nat) (w : World) (d : List Nat) (c0 : w.cell? ⟨g, o, none⟩ = some (.int .u8 m)) (c1 : w.cell? ⟨g, o + 1, none⟩ = some (.int .u8 t)) (c2 : w.cell? ⟨g, o + 2, none⟩ = some (.slice a n c)) (hd : d.length = n) :
    Calls Try.prog 65 #[.pointer (some ⟨g, o, none⟩)] w fun e w' => e = .returned (.bool (goodT ⟨m, t, d⟩)) ∧ w' = w := by
  by_cases h1 : m = 165
  · by_cases h2 : t ≤ 2
    · by_cases h3 : n ≤ 20100
      · have e : goodT ⟨m, t, d⟩ = true := good_of h1 h2 (by show d.length ≤ 20100; omega)
        rw [e]
        subst h1
        have i2 : (t : Int) < 3 := by omega
        have i3 : (n : Int) ≤ 20100 := by omega
        clear e hd
        go_enter Try.func65, Try.ntmps65
        go_wp2
        go_ret
        exact ⟨rfl, rfl⟩
      · have e : goodT ⟨m, t, d⟩ = false := decide_eq_false (fun x => by have : d.length ≤ 20100 := x.2.2; omega)
        rw [e]
        subst h1
        have i2 : (t : Int) < 3 := by omega
        have i3 : ¬ (n : Int) ≤ 20100 := by omega
        clear e hd
        go_enter Try.func65, Try.ntmps65
        go_wp2
        go_ret
        exact ⟨rfl, rfl⟩
    · have e : goodT ⟨m, t, d⟩ = false := decide_eq_false (fun x => h2 x.2.1)
      rw [e]
      subst h1
      have i2 : ¬ (t : Int) < 3 := by omega
      clear e hd
      go_enter Try.func65, Try.ntmps65
      go_wp2
      go_ret
      exact ⟨rfl, rfl⟩
  · have e : goodT ⟨m, t, d⟩ = false := decide_eq_false (fun x => h1 x.1)
    rw [e]
    have i1 : ((m : Int) == 165) = false := by rw [beq_eq_false_iff_ne]; omega
    clear e hd
    go_enter Try.func65, Try.ntmps65
    go_wp2
    go_ret
    exact ⟨rfl, rfl⟩
set_option maxHeartbeats 2000000 in
theorem next_i (g o t : Nat) (w : World) (c1 : w.cell? ⟨g, o + 1, none⟩ = some (.int .u8 t)) (ht : t ≤ 2) :
    Calls Try.prog 47 #[.pointer (some ⟨g, o, none⟩)] w fun e w' => e = .returned (.int .u8 ((t + 1) % 3 : Nat)) ∧ w' = w := by
  rcases (by omega : t = 0 ∨ t = 1 ∨ t = 2) with rfl | rfl | rfl
  all_goals
    go_enter Try.func47, Try.ntmps47
    go_wp2
    go_ret
    exact ⟨rfl, rfl⟩
/-- Where a half lies. -/
def hfP (g : Nat) (k : Int) : Option Addr := if k = 0 then some ⟨g, 2, none⟩ else if k = 1 then some ⟨g, 5, none⟩ else none
set_option maxHeartbeats 2000000 in
theorem half_i (g : Nat) (k : Int) (w : World) (hg : g < w.heap.size) :
    Calls Try.prog 46 #[.pointer (some ⟨g, 0, none⟩), .int .i64 k] w fun e w' => e = .returned (.pointer (hfP g k)) ∧ w' = w := by
  by_cases h0 : k = 0
  · subst h0
    go_enter Try.func46, Try.ntmps46
    go_wp2
    go_ret
    exact ⟨rfl, rfl⟩
  · by_cases h1 : k = 1
    · subst h1
      go_enter Try.func46, Try.ntmps46
      go_wp2
      go_ret
      exact ⟨rfl, rfl⟩
    · have e : hfP g k = none := by unfold hfP; rw [if_neg h0, if_neg h1]
      rw [e]
      clear e
      by_cases h2 : k < 0
      · clear h0 h1
        go_enter Try.func46, Try.ntmps46
        go_wp2
        go_ret
        exact ⟨rfl, rfl⟩
      · have h3 : (2 : Int) ≤ k := by omega
        clear h0 h1
        go_enter Try.func46, Try.ntmps46
        go_wp2
        go_ret
        exact ⟨rfl, rfl⟩
end Go.Proofs.Ytfhdpafaamkipaa
