/- Rows of bits: the program's BitList; the laws' eqBoolS, markBoolS, heldBoolS. -/
import Derived.Test.YtlpeianinlnbeaaW
namespace Go.Proofs.Ytlpeianinlnbeaa
open Go.RowKit
set_option linter.unusedVariables false

/-- A row of n bits at block g. -/
structure Rw (w : World) (g n : Nat) (f : Nat → Bool) : Prop where
  cell : ∀ j, j < n → w.cell? ⟨g, j, none⟩ = some (.bool (f j))
  frz : ∀ o, w.frozen? ⟨g, o, none⟩ = false
  lt : g < w.heap.size
theorem Rw.later {w w' : World} {g n B : Nat} {f : Nat → Bool} (h : Rw w g n f) (b : Below B w w') (hg : g < B) : Rw w' g n f :=
  ⟨fun j hj => (b.cell hg).trans (h.cell j hj), fun o => (b.frozen hg).trans (h.frz o), Nat.lt_of_lt_of_le h.lt b.size⟩
theorem Rw.kept {w w' : World} {g n : Nat} {f : Nat → Bool} {row : Option Nat} (h : Rw w g n f) (b : w.grownBy w' row) (hne : some g ≠ row) : Rw w' g n f :=
  ⟨fun j hj => (b.cell_far _ h.lt hne).trans (h.cell j hj), fun o => (b.frozen_far _ h.lt hne).trans (h.frz o), Nat.lt_of_lt_of_le h.lt b.size⟩
theorem Rw.set {w : World} {g n : Nat} {f : Nat → Bool} (h : Rw w g n f) (i : Nat) (hi : i < n) (y : Bool) : Rw (w.setCell ⟨g, i, none⟩ (.bool y)) g n (fun j => if j = i then y else f j) := by
  refine ⟨fun j hj => ?_, fun o => by simpa using h.frz o, by simpa using h.lt⟩
  by_cases e : j = i
  · subst e
    simp only [if_true]
    exact World.cell?_setCell_same _ _ _ (h.cell j hj)
  · simp only [e, if_false]
    exact (World.cell?_setCell_other _ _ _ _ (by simp)).trans (h.cell j hj)
theorem Rw.congr {w : World} {g n : Nat} {f f' : Nat → Bool} (h : Rw w g n f) (e : ∀ j, j < n → f j = f' j) : Rw w g n f' :=
  ⟨fun j hj => by rw [← e j hj]; exact h.cell j hj, h.frz, h.lt⟩

def bitAt (B : Int) (N j : Nat) : Bool := B / 2 ^ (N - 1 - j) % 2 == 1

theorem rev_get (B : Int) (N j : Nat) (h : j < N) : (rb N B).reverse[j]? = some (bitAt B N j) := by
  rw [List.getElem?_reverse (by rw [rb_length]; exact h), rb_length]
  exact rb_get N B (N - 1 - j) (by omega)

theorem ret_slice {a : Option Addr} {n m : Nat} (h : n = m) : Ending.returned (.slice a n n) = .returned (.slice a m m) := by rw [h]
theorem below_of_gb {w w' : World} (h : w.grownBy w' none) : Below w.heap.size w w' := ⟨h.os, h.tape, h.output, h.size, fun k hk => h.block k hk (by simp)⟩
theorem Pk.other {k : IntKind} {w : World} {bl o : Nat} {b n m : Int} (h : Pk k w bl o b n m) (bl' o' : Nat) (hne : bl' ≠ bl) (u : Value) : Pk k (w.setCell ⟨bl', o', none⟩ u) bl o b n m :=
  ⟨(World.cell?_setCell_other _ _ _ _ (by simp)).trans h.c0, (World.cell?_setCell_other _ _ _ _ (by simp)).trans h.c1, (World.cell?_setCell_other _ _ _ _ (by simp)).trans h.c2, by simpa using h.f0, by simpa using h.f1⟩
theorem rw_of {w : World} {base g N cap : Nat} {xs : List Value} {f : Nat → Bool} (h : w.ownsRow base 4 1 (.slice (some ⟨g, 0, none⟩) N cap) N xs) (hx : ∀ j, j < N → xs[j]? = some (.bool (f j))) : Rw w g N f := by
  have hob : (Value.slice (some ⟨g, 0, none⟩) N cap).ownBlock = some g := rfl
  refine ⟨fun j hj => ?_, fun o => ?_, (h.lt g hob).2⟩
  · have := h.cells hob j _ (hx j hj)
    by_cases h0 : j = 0
    · subst h0; simpa [Addr.add] using this
    · simpa [Addr.add, h0] using this
  · rcases h.2 with ⟨hv, _⟩ | ⟨g', cap', cur, hv, _, hg, _⟩
    · cases hv
    · cases hv
      simp [World.frozen?, hg]
theorem list_round {B : Int} {N k D : Nat} (hD : D + k + 1 = N) : ∀ j, j < N → (if j = k then (B / 2 ^ D % 2 == 1) else if j < k then bitAt B N j else false) = if j < k + 1 then bitAt B N j else false := by
  intro j hj
  by_cases h1 : j = k
  · subst h1
    have e : N - 1 - j = D := by omega
    simp [bitAt, e]
  · by_cases h2 : j < k
    · have h3 : j < k + 1 := by omega
      simp [h1, h2, h3]
    · have h3 : ¬ j < k + 1 := by omega
      simp [h1, h2, h3]

set_option maxHeartbeats 1000000 in
theorem impl_list (b n : Int) (w : World) (hb0 : 0 ≤ b) (hb1 : b < 65536) :
    Calls Try.prog 21 #[.agg #[.int .u16 b, .int .i64 n]] w fun e w' => ∃ g, e = .returned (.slice (some ⟨g, 0, none⟩) (nn 16 b n) (nn 16 b n)) ∧ w.heap.size ≤ g ∧ Rw w' g (nn 16 b n) (bitAt (nb 16 b n) (nn 16 b n)) ∧ Below w.heap.size w w' := by
  obtain ⟨i0, hi, hz0, hz1, hz2⟩ := info_parts Try.info4
  have hB := (nb_bd 16 b n hb0).1
  have hB1 := nb_le 16 b n hb0
  have hN : nn 16 b n ≤ 16 := nn_le 16 b n
  go_enter Try.func21, Try.ntmps21
  go_wp2_with fail
  refine (of16_any b n _ hb0 hb1).mono ?_
  rintro e w1 ⟨rfl, g1⟩
  have b1 : Below w.heap.size w w1 := ((Below.refl _ _).alloc (Nat.le_refl _) _).trans (g1.mono (by simp))
  clear g1
  obtain ⟨B, HB⟩ : ∃ B, Hid (B = nb 16 b n) := ⟨_, rfl⟩
  obtain ⟨N, HN⟩ : ∃ N, Hid (N = nn 16 b n) := ⟨_, rfl⟩
  rw [← HB.out, ← HN.out]
  rw [← HB.out] at hB hB1
  rw [← HN.out] at hN
  go_wp2_with (at_make; refine wpList_make_full _ rfl _ _ 28 rfl (w1.heap.size + 1) 4 i0 (.bool false) 1 Try.underlying28 hi hz0 hz1 .i64 .i64 (N : Int) (N : Int) N rfl rfl rfl rfl ?m1 ?m2 ?m3 ?_)
  case m1 => rw [hz2]; omega
  case m2 => unfold maxLen; omega
  case m3 => simp
  intro w2 own2 g2
  have r2 : Rw w2 (w1.heap.size + 1) N (fun _ => false) := by
    have h := rw_of (f := fun _ => false) own2 (fun j hj => by simp [madeCells, hj, Nat.mod_one])
    simpa using h
  have g2' := below_of_gb g2
  have t2 : Pk .u16 w2 w1.heap.size 0 B N 16 := (Pk.fresh .u16 w1 B N 16 66).later g2' (by simp)
  have b2 : Below w.heap.size w w2 := (b1.alloc b1.size _).trans (g2'.mono (by have := b1.size; simp; omega))
  have z1 := b1.size
  clear own2 g2 g2' b1
  go_wp2
  go_loopw [14] (fun i wr => ∃ k : Nat, k ≤ N ∧ i = .int .i64 k ∧ Rw wr (w1.heap.size + 1) N (fun j => if j < k then bitAt B N j else false) ∧ Pk .u16 wr w1.heap.size 0 B N 16 ∧ Below w.heap.size w wr)
    (fun i _ => N - (intOf i).toNat)
  case atStart => exact ⟨0, Nat.zero_le _, rfl, r2.congr (fun j hj => by simp), t2, b2⟩
  case round =>
    clear r2 t2 b2
    obtain ⟨k, hk, rfl, hR, hT, hb⟩ := hrel
    by_cases hlt : k < N
    · have hT' := hT
      obtain ⟨c0, c1, c2, f0, f1⟩ := hT
      have hf := hR.frz k
      have hc := hR.cell k hlt
      simp at hc
      obtain ⟨D, hD⟩ : ∃ D : Nat, D + k + 1 = N := ⟨N - 1 - k, by omega⟩
      have eD : (N : Int) - 1 - k = (D : Int) := by omega
      go_wp2_with fail
      refine (at16 w1.heap.size 0 B D _ hB (by omega) (by omega) c0).mono ?_
      rintro e w' ⟨rfl, rfl⟩
      go_wp2
      go_roundw
      case rel => exact ⟨k + 1, by omega, by go_num, (hR.set k hlt _).congr (list_round hD), hT'.other _ _ (by omega) _, hb.setCell (by simp; omega) _⟩
      case measure => simp [intOf]; omega
    · have hkN : k = N := by omega
      have HR : Hid (Rw wr (w1.heap.size + 1) N (bitAt B N)) := hR.congr (fun j hj => by simp [hkN, hj])
      clear hkN hR
      go_wp2
      go_ret
      exact ⟨w1.heap.size + 1, ret_slice HN.out, by omega, by rw [← HN.out, ← HB.out]; exact HR.out, hb⟩

set_option maxHeartbeats 1000000 in
theorem eq_rows (g1 g2 n c1 c2 : Nat) (f : Nat → Bool) (w : World) (h1 : Rw w g1 n f) (h2 : Rw w g2 n f) (hn : n ≤ 1000) :
    Calls Try.prog 50 #[.slice (some ⟨g1, 0, none⟩) n c1, .slice (some ⟨g2, 0, none⟩) n c2] w fun e w' => e = .returned (.bool true) ∧ Below w.heap.size w w' := by
  go_enter Try.func50, Try.ntmps50
  go_wp2
  go_loopw [5] (fun i wr => ∃ k m : Nat, k ≤ n ∧ i = .int .i64 k ∧ wr = w.drewN m) (fun i _ => n - (intOf i).toNat)
  case atStart => exact ⟨0, 0, Nat.zero_le _, rfl, rfl⟩
  case round =>
    obtain ⟨k, m, hk, rfl, rfl⟩ := hrel
    by_cases hlt : k < n
    · have d1 := h1.cell k hlt
      have d2 := h2.cell k hlt
      have i1 : (k : Int) < (n : Int) := by omega
      go_wp2
      go_quiet (fail)
      go_wp2
      go_roundw
      case rel => exact ⟨k + 1, _, by omega, by go_num, rfl⟩
      case measure => simp [intOf]; omega
    · go_wp2
      go_ret
      exact ⟨rfl, below_drewN (Below.refl _ _) _⟩

theorem ret_int {k : IntKind} {a b : Int} (h : a = b) : Ending.returned (.int k a) = .returned (.int k b) := by rw [h]
theorem mark_round {f : Nat → Bool} (k : Nat) : ∀ j : Nat, (if j = k then ((1 + (k : Int)) % 3 == 0) else if j < k then ((1 + (j : Int)) % 3 == 0) else f j) = if j < k + 1 then ((1 + (j : Int)) % 3 == 0) else f j := by
  intro j
  by_cases h1 : j = k
  · subst h1; simp
  · by_cases h2 : j < k
    · have h3 : j < k + 1 := by omega
      simp [h1, h2, h3]
    · have h3 : ¬ j < k + 1 := by omega
      simp [h1, h2, h3]

set_option maxHeartbeats 1000000 in
theorem mark_row (g n cap : Nat) (f : Nat → Bool) (w : World) (h : Rw w g n f) (hn : n ≤ 1000) :
    Calls Try.prog 51 #[.slice (some ⟨g, 0, none⟩) n cap, .int .i64 1] w fun e w' => e = .returned (.int .i64 ((n : Int) + 1)) ∧ Rw w' g n (fun j => ((1 + (j : Int)) % 3 == 0)) ∧ w.grownBy w' (some g) := by
  go_enter Try.func51, Try.ntmps51
  go_wp2
  go_loopw [1, 5] (fun kk i wr => ∃ k : Nat, k ≤ n ∧ i = .int .i64 k ∧ kk = .int .i64 (1 + (k : Int)) ∧ Rw wr g n (fun j => if j < k then ((1 + (j : Int)) % 3 == 0) else f j) ∧ w.grownBy wr (some g)) (fun _ i _ => n - (intOf i).toNat)
  case atStart => exact ⟨0, Nat.zero_le _, rfl, by simp, h.congr (fun j hj => by simp), gb_refl _ _⟩
  case round =>
    obtain ⟨k, hk, rfl, rfl, hR, hG⟩ := hrel
    by_cases hlt : k < n
    · have hf := hR.frz k
      have hc := hR.cell k hlt
      simp at hc
      go_wp2
      go_roundw
      case rel => exact ⟨k + 1, by omega, by go_num, by go_num, (hR.set k hlt _).congr (fun j hj => mark_round k j), gb_set hG _ _⟩
      case measure => simp [intOf]; omega
    · have hkn : k = n := by omega
      have HR : Hid (Rw wr g n (fun j => ((1 + (j : Int)) % 3 == 0))) := hR.congr (fun j hj => by simp [hkn, hj])
      have HK : Hid (k = n) := hkn
      clear hkn hR
      go_wp2
      go_ret
      exact ⟨ret_int (by have := HK.out; omega), HR.out, hG⟩

set_option maxHeartbeats 1000000 in
theorem held_row (g n cap : Nat) (w : World) (h : Rw w g n (fun j => ((1 + (j : Int)) % 3 == 0))) (hn : n ≤ 1000) :
    Calls Try.prog 52 #[.slice (some ⟨g, 0, none⟩) n cap, .int .i64 1] w fun e w' => e = .returned (.int .i64 ((n : Int) + 1)) ∧ w = w' := by
  go_enter Try.func52, Try.ntmps52
  go_wp2
  go_loop [1, 5] (fun kk i => ∃ k : Nat, k ≤ n ∧ i = .int .i64 k ∧ kk = .int .i64 (1 + (k : Int))) (fun _ i => n - (intOf i).toNat)
  case atStart => exact ⟨0, Nat.zero_le _, rfl, by simp⟩
  case round =>
    obtain ⟨k, hk, rfl, rfl⟩ := hrel
    by_cases hlt : k < n
    · have hc := h.cell k hlt
      go_wp2
      go_round
      case rel => exact ⟨k + 1, by omega, by go_num, by go_num⟩
      case measure => simp [intOf]; omega
    · have HK : Hid (k = n) := by show k = n; omega
      go_wp2
      go_ret
      exact ⟨ret_int (by have := HK.out; omega), rfl⟩
end Go.Proofs.Ytlpeianinlnbeaa
