/- The specification's draws: whatever the code, a stack or a fork comes out, and nothing old is touched. -/
import Derived.Test.YtlpeianinlnbeaaP
import Derived.Maps.Range
import Derived.Maps.AppendAt
namespace Go.Proofs.Ytlpeianinlnbeaa
open Go.RowKit
set_option linter.unusedVariables false

/-- A reader at R of a code, all of it below block B, p numbers read. -/
def Reader (B : Nat) (w : World) (R p : Nat) : Prop :=
  R < B ∧ B ≤ w.heap.size ∧ ∃ a len cap blk off z, Rd w R a len cap p ∧ Src w a len blk off z ∧ (0 < len → blk ≠ R ∧ blk < B)

theorem Reader.kept {B : Nat} {w w' : World} {R p : Nat} {row : Option Nat} (h : Reader B w R p) (g : w.grownBy w' row) (hr : ∀ j, row = some j → B ≤ j) : Reader B w' R p := by
  obtain ⟨h1, h2, a, len, cap, blk, off, z, hd, hs, hb⟩ := h
  have nR : some R ≠ row := fun e => by have := hr R e.symm; omega
  refine ⟨h1, Nat.le_trans h2 g.size, a, len, cap, blk, off, z, ⟨?_, ?_, ?_⟩, ⟨hs.at_, ?_, hs.fits, hs.short⟩, hb⟩
  · exact (g.cell_far _ (by show R < _; omega) nR).trans hd.c0
  · exact (g.cell_far _ (by show R < _; omega) nR).trans hd.c1
  · exact (g.frozen_far _ (by show R < _; omega) nR).trans hd.f1
  · intro j hj
    have hb' := hb (by omega)
    have nb : some blk ≠ row := fun e => by have := hr blk e.symm; omega
    exact (g.cell_far _ (by show blk < _; omega) nb).trans (hs.byte j hj)

theorem Reader.later {B : Nat} {w w' : World} {R p : Nat} (h : Reader B w R p) (g : Below w.heap.size w w') : Reader B w' R p :=
  h.kept (gb_below g) (fun j hj => by cases hj)
theorem Reader.alloc {B : Nat} {w : World} {R p : Nat} (h : Reader B w R p) (o : Obj) : Reader B (w.alloc o) R p :=
  h.kept (World.grownBy_alloc w o none) (fun j hj => by cases hj)
theorem Reader.set {B : Nat} {w : World} {R p : Nat} (h : Reader B w R p) (bl o : Nat) (u : Value) (hb : B ≤ bl) : Reader B (w.setCell ⟨bl, o, none⟩ u) R p :=
  h.kept (gb_set (gb_refl w (some bl)) o u) (fun j hj => by simp at hj; omega)
theorem Reader.drew {B : Nat} {w : World} {R p : Nat} (h : Reader B w R p) : Reader B w.drew R p := h.kept (gb_drew (gb_refl w none)) (fun j hj => by cases hj)

theorem pick_r (B R p : Nat) (n : Int) (w : World) (h : Reader B w R p) (hn : 1 ≤ n) (hn2 : n ≤ 1000000) (hp : p < 1000000) :
    Calls Try.prog 58 #[.pointer (some ⟨R, 0, none⟩), .int .i64 n] w fun e w' => ∃ r : Nat, (r : Int) < n ∧ e = .returned (.int .i64 r) ∧ Reader B w' R (p + 1) ∧ w.grownBy w' (some R) := by
  obtain ⟨h1, h2, a, len, cap, blk, off, z, hd, hs, hb⟩ := h
  by_cases h0 : len = 0
  · subst h0
    refine (pick_none R a cap p n w hd hn hp).mono ?_
    rintro e w' ⟨rfl, hd', g⟩
    exact ⟨0, by omega, rfl, ⟨h1, Nat.le_trans h2 g.size, a, 0, cap, blk, off, z, hd', ⟨hs.at_, fun j hj => by omega, hs.fits, hs.short⟩, hb⟩, g⟩
  · have hne := hb (by omega)
    refine (pick_any R a len cap p blk off z n w hd hs hne.1 hn hn2 hp).mono ?_
    rintro e w' ⟨r, r0, r1, rfl, hd', g⟩
    obtain ⟨k, rfl⟩ := Int.eq_ofNat_of_zero_le r0
    have nb : some blk ≠ some R := by simp [hne.1]
    refine ⟨k, r1, rfl, ⟨h1, Nat.le_trans h2 g.size, a, len, cap, blk, off, z, hd', ⟨hs.at_, ?_, hs.fits, hs.short⟩, hb⟩, g⟩
    intro j hj
    exact (g.cell_far _ (by show blk < _; omega) nb).trans (hs.byte j hj)

set_option maxHeartbeats 400000 in
theorem num_r (B R p g : Nat) (xs : List Int) (cap : Nat) (w : World) (h : Reader B w R p) (hL : 0 < xs.length) (hL2 : xs.length ≤ 1000) (hp : p < 1000000) (hg : B ≤ g)
    (hx : ∀ j x, xs[j]? = some x → w.cell? ⟨g, j, none⟩ = some (.int .i64 x)) :
    Calls Try.prog 83 #[.pointer (some ⟨R, 0, none⟩), .slice (some ⟨g, 0, none⟩) xs.length cap] w fun e w' => ∃ v, v ∈ xs ∧ e = .returned (.int .i64 v) ∧ Reader B w' R (p + 1) ∧ w.grownBy w' (some R) := by
  obtain ⟨L, HL⟩ : ∃ L, Hid (L = xs.length) := ⟨_, rfl⟩
  rw [← HL.out] at hL hL2 ⊢
  have hRB := h.1
  go_enter Try.func83, Try.ntmps83
  go_wp2_with fail
  refine (pick_r B R p L _ h (by omega) (by omega) hp).mono ?_
  rintro e w1 ⟨r, r1, rfl, h1, g1⟩
  have hrl : r < xs.length := by rw [← HL.out]; omega
  have hc : w1.cell? ⟨g, r, none⟩ = some (.int .i64 xs[r]) := g1.cell (hx r _ (List.getElem?_eq_getElem hrl)) (by simp; omega)
  obtain ⟨v, HV⟩ : ∃ v : Int, Hid (v = xs[r]) := ⟨xs[r], rfl⟩
  rw [← HV.out] at hc
  have HM : Hid (v ∈ xs) := by rw [HV.out]; exact List.getElem_mem hrl
  clear HV
  go_wp2
  go_ret
  exact ⟨v, HM.out, rfl, h1, g1⟩

set_option maxHeartbeats 400000 in
theorem open_r (a : Option Addr) (len cap blk off : Nat) (z : Nat → Int) (w : World) (hlen : len ≤ 1048576) (hcap : len ≤ cap) (ha : 0 < len → a = some ⟨blk, off, none⟩ ∧ blk < w.heap.size) (hb : ∀ j, j < len → w.cell? ⟨blk, off + j, none⟩ = some (.int .u8 (z j))) (hz : ∀ j, 0 ≤ z j ∧ z j ≤ 255) :
    Calls Try.prog 57 #[.slice a len cap] w fun e w' => e = .returned (.pointer (some ⟨w.heap.size, 0, none⟩)) ∧ Reader (w.heap.size + 1) w' w.heap.size 0 ∧ Below w.heap.size w w' := by
  by_cases h : len ≤ 2000
  · go_enter Try.func57, Try.ntmps57
    go_wp2
    go_ret
    refine ⟨rfl, ⟨by omega, by simp, a, len, cap, blk, off, z, ⟨by simp, by simp, by simp⟩, ⟨fun h0 => (ha h0).1, fun j hj => ?_, hz, h⟩, fun h0 => by have := (ha h0).2; omega⟩, by go_grown⟩
    rw [World.cell?_alloc_past _ _ _ (by have := (ha (by omega)).2; exact this)]
    exact hb j hj
  · obtain ⟨rfl, hblk⟩ := ha (by omega)
    have i1 : (2000 : Int) < (len : Int) := by omega
    have i2 : (2000 : Int) ≤ (cap : Int) := by omega
    go_enter Try.func57, Try.ntmps57
    go_wp2
    go_ret
    refine ⟨rfl, ⟨by omega, by simp, some ⟨blk, off, none⟩, 2000, cap, blk, off, z, ⟨by simp, by simp, by simp⟩, ⟨fun _ => rfl, fun j hj => ?_, hz, by omega⟩, fun _ => by omega⟩, by go_grown⟩
    rw [World.cell?_alloc_past _ _ _ hblk]
    exact hb j (by omega)
end Go.Proofs.Ytlpeianinlnbeaa
