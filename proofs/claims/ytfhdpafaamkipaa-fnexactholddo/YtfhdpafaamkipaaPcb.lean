/- Rows of bytes: the laws' toByteS, eqByteS. -/
import Derived.Test.YtfhdpafaamkipaaRows
import Derived.WalkKit
import Derived.ProofKit
import Derived.Handy
import Derived.WalkLawsBesides
import Derived.Deep.QuietTactic
import Derived.BigQuiet
import Derived.WalkSpells
import Derived.Deep.AppendLies
import Derived.Deep.RegionLaw
import Derived.Deep.OwnRows
import Derived.Deep.WholeRow
namespace Go.Proofs.Ytfhdpafaamkipaa
open Go.RowKit
set_option linter.unusedVariables false

/-- A row of n bytes at block g, one's own. -/
structure By (w : World) (g n : Nat) (f : Nat → Nat) : Prop where
  cell : ∀ j, j < n → w.cell? ⟨g, j, none⟩ = some (.int .u8 (f j))
  frz : ∀ o, w.frozen? ⟨g, o, none⟩ = false
  lt : g < w.heap.size
theorem By.later {w w' : World} {g n B : Nat} {f : Nat → Nat} (h : By w g n f) (b : Below B w w') (hg : g < B) : By w' g n f :=
  ⟨fun j hj => (b.cell hg).trans (h.cell j hj), fun o => (b.frozen hg).trans (h.frz o), Nat.lt_of_lt_of_le h.lt b.size⟩
theorem By.kept {w w' : World} {g n : Nat} {f : Nat → Nat} {row : Option Nat} (h : By w g n f) (b : w.grownBy w' row) (hne : some g ≠ row) : By w' g n f :=
  ⟨fun j hj => (b.cell_far _ h.lt hne).trans (h.cell j hj), fun o => (b.frozen_far _ h.lt hne).trans (h.frz o), Nat.lt_of_lt_of_le h.lt b.size⟩
theorem By.set {w : World} {g n : Nat} {f : Nat → Nat} (h : By w g n f) (i : Nat) (hi : i < n) (y : Nat) : By (w.setCell ⟨g, i, none⟩ (.int .u8 y)) g n (fun j => if j = i then y else f j) := by
  refine ⟨fun j hj => ?_, fun o => by simpa using h.frz o, by simpa using h.lt⟩
  by_cases e : j = i
  · subst e
    simp only [if_true]
    exact World.cell?_setCell_same _ _ _ (h.cell j hj)
  · simp only [e, if_false]
    exact (World.cell?_setCell_other _ _ _ _ (by simp)).trans (h.cell j hj)
theorem By.congr {w : World} {g n : Nat} {f f' : Nat → Nat} (h : By w g n f) (e : ∀ j, j < n → f j = f' j) : By w g n f' :=
  ⟨fun j hj => by rw [← e j hj]; exact h.cell j hj, h.frz, h.lt⟩
theorem By.made (w : World) (n : Nat) : By (w.alloc (.cells (madeCells #[.int .u8 0] n) 5)) w.heap.size n (fun _ => 0) := by
  refine ⟨fun j hj => ?_, fun o => ?_, by simp⟩
  · rw [cell_of_row _ _ _ _ _ _ (heap_alloc_last _ _)]
    simp [madeCells, hj, Nat.mod_one]
  · rw [World.frozen?, heap_alloc_last]; simp

/-- Bytes at a slice. -/
def Bt (w : World) (a : Option Addr) (n : Nat) (f : Nat → Nat) : Prop :=
  n = 0 ∨ ∃ g o, a = some ⟨g, o, none⟩ ∧ g < w.heap.size ∧ ∀ j, j < n → w.cell? ⟨g, o + j, none⟩ = some (.int .u8 (f j))
theorem Bt.later {w w' : World} {a : Option Addr} {n B : Nat} {f : Nat → Nat} (h : Bt w a n f) (b : Below B w w') (hB : w.heap.size ≤ B) : Bt w' a n f := by
  rcases h with h | ⟨g, o, h1, h2, h3⟩
  · exact .inl h
  · exact .inr ⟨g, o, h1, Nat.lt_of_lt_of_le h2 b.size, fun j hj => (b.cell (by show g < B; omega)).trans (h3 j hj)⟩
theorem By.bt {w : World} {g n : Nat} {f : Nat → Nat} (h : By w g n f) : Bt w (some ⟨g, 0, none⟩) n f :=
  .inr ⟨g, 0, rfl, h.lt, fun j hj => by rw [Nat.zero_add]; exact h.cell j hj⟩
theorem Bt.take {w : World} {a : Option Addr} {n m : Nat} {f : Nat → Nat} (h : Bt w a n f) (hm : m ≤ n) : Bt w a m f := by
  rcases h with h | ⟨g, o, h1, h2, h3⟩
  · exact .inl (by omega)
  · exact .inr ⟨g, o, h1, h2, fun j hj => h3 j (by omega)⟩
theorem Bt.congr {w : World} {a : Option Addr} {n : Nat} {f f' : Nat → Nat} (h : Bt w a n f) (e : ∀ j, j < n → f j = f' j) : Bt w a n f' := by
  rcases h with h | ⟨g, o, h1, h2, h3⟩
  · exact .inl h
  · exact .inr ⟨g, o, h1, h2, fun j hj => by rw [← e j hj]; exact h3 j hj⟩

theorem infoU8 : (Try.prog.info? 5).map (fun i => (i.zero, i.size, i.bytes)) = some (some (.int .u8 0), 1, 1) := by kernel_rfl
theorem bel_set {w w' : World} {B : Nat} (h : Below B w w') {g : Nat} (hg : B ≤ g) (o : Nat) (v : Value) : Below B w (w'.setCell ⟨g, o, none⟩ v) := h.setCell (p := ⟨g, o, none⟩) hg _

set_option maxHeartbeats 1000000 in
theorem to_bytes (a : Option Addr) (n c : Nat) (f : Nat → Nat) (w : World) (hn : n ≤ 1048576) (h : Bt w a n f) :
    Calls Try.prog 38 #[.slice a n c] w fun e w' => e = .returned (.slice (some ⟨w.heap.size, 0, none⟩) n n) ∧ By w' w.heap.size n f ∧ Below w.heap.size w w' := by
  have hmk := run_make_row' (P := Try.prog) 22 5 (.int .u8 0) 1 Try.underlying22 infoU8 rfl .i64 .i64 n (by omega) (by omega)
  have r1 := By.made w n
  have b1 : Below w.heap.size w (w.alloc (.cells (madeCells #[.int .u8 0] n) 5)) := (Below.refl _ _).alloc (Nat.le_refl _) _
  have H1 : Hid (Bt (w.alloc (.cells (madeCells #[.int .u8 0] n) 5)) a n f) := h.later b1 (Nat.le_refl _)
  have H0 : Hid (Bt w a n f) := h
  clear h H1
  go_enter Try.func38, Try.ntmps38
  go_wp2
  generalize (w.alloc (.cells (madeCells #[.int .u8 0] n) 5)) = W1 at r1 b1 ⊢
  go_loopw [4] (fun i wr => ∃ k : Nat, k ≤ n ∧ i = .int .i64 k ∧ By wr w.heap.size n (fun j => if j < k then f j else 0) ∧ Below w.heap.size w wr)
    (fun i _ => n - (intOf i).toNat)
  case atStart => exact ⟨0, Nat.zero_le _, rfl, r1.congr (fun j hj => by simp), b1⟩
  case round =>
    clear r1 b1
    obtain ⟨k, hk, rfl, hR, hb⟩ := hrel
    by_cases hlt : k < n
    · obtain ⟨g, o, rfl, hg, hcs⟩ : ∃ g o, a = some ⟨g, o, none⟩ ∧ g < w.heap.size ∧ ∀ j, j < n → w.cell? ⟨g, o + j, none⟩ = some (.int .u8 (f j)) := by
        rcases H0.out with h | h
        · omega
        · exact h
      have cS : wr.cell? ⟨g, o + k, none⟩ = some (.int .u8 (f k)) := (hb.cell (p := ⟨g, o + k, none⟩) hg).trans (hcs k hlt)
      have hf := hR.frz k
      have hc := hR.cell k hlt
      simp at hc
      clear hcs
      go_wp2
      go_roundw
      case rel =>
        refine ⟨k + 1, by omega, by go_num, (hR.set k hlt _).congr (fun j hj => ?_), bel_set hb (Nat.le_refl _) _ _⟩
        by_cases h1 : j = k
        · subst h1; simp
        · by_cases h2 : j < k
          · simp [h1, h2, show j < k + 1 by omega]
          · simp [h1, h2, show ¬ j < k + 1 by omega]
      case measure => simp [intOf]; omega
    · have hkN : k = n := by omega
      have HR : Hid (By wr w.heap.size n f) := hR.congr (fun j hj => by simp [hkN, hj])
      clear hkN hR
      go_wp2
      go_ret
      exact ⟨rfl, HR.out, hb⟩

set_option maxHeartbeats 1000000 in
theorem eq_bytes (a1 a2 : Option Addr) (n c1 c2 : Nat) (f : Nat → Nat) (w : World) (h1 : Bt w a1 n f) (h2 : Bt w a2 n f) (hn : n ≤ 1048576) :
    Calls Try.prog 35 #[.slice a1 n c1, .slice a2 n c2] w fun e w' => e = .returned (.bool true) ∧ Below w.heap.size w w' := by
  have H1 : Hid (Bt w a1 n f) := h1
  have H2 : Hid (Bt w a2 n f) := h2
  clear h1 h2
  go_enter Try.func35, Try.ntmps35
  go_wp2
  go_loopw [5] (fun i wr => ∃ k m : Nat, k ≤ n ∧ i = .int .i64 k ∧ wr = w.drewN m) (fun i _ => n - (intOf i).toNat)
  case atStart => exact ⟨0, 0, Nat.zero_le _, rfl, rfl⟩
  case round =>
    obtain ⟨k, m, hk, rfl, rfl⟩ := hrel
    by_cases hlt : k < n
    · obtain ⟨g1, o1, rfl, _, d1⟩ : ∃ g o, a1 = some ⟨g, o, none⟩ ∧ g < w.heap.size ∧ ∀ j, j < n → w.cell? ⟨g, o + j, none⟩ = some (.int .u8 (f j)) := by
        rcases H1.out with h | h
        · omega
        · exact h
      obtain ⟨g2, o2, rfl, _, d2⟩ : ∃ g o, a2 = some ⟨g, o, none⟩ ∧ g < w.heap.size ∧ ∀ j, j < n → w.cell? ⟨g, o + j, none⟩ = some (.int .u8 (f j)) := by
        rcases H2.out with h | h
        · omega
        · exact h
      have e1 := d1 k hlt
      have e2 := d2 k hlt
      have i1 : (k : Int) < (n : Int) := by omega
      clear d1 d2
      go_wp2
      go_quiet (fail)
      go_wp2
      go_roundw
      case rel => exact ⟨k + 1, _, by omega, by go_num, rfl⟩
      case measure => simp [intOf]; omega
    · go_wp2
      go_ret
      exact ⟨rfl, below_drewN (Below.refl _ _) _⟩
end Go.Proofs.Ytfhdpafaamkipaa
