/- The program's BitList as a row that the caller owns; the mathematics of pushing onto a list. -/
import Derived.Test.YtlpeianinlnbeaaTn
namespace Go.Proofs.Ytlpeianinlnbeaa
open Go.RowKit
set_option linter.unusedVariables false

/-- Block g is a row of cap bits, whatever they are. -/
def Shp (w : World) (g cap : Nat) : Prop := ∃ cur, w.heap[g]? = some (.cells cur 4 (0, 0)) ∧ cur.size = cap
theorem Shp.set {w : World} {g cap : Nat} (h : Shp w g cap) (b o : Nat) (u : Value) : Shp (w.setCell ⟨b, o, none⟩ u) g cap := by
  obtain ⟨cur, h1, h2⟩ := h
  by_cases e : b = g
  · subst e
    refine ⟨cur.setIfInBounds o u, ?_, by simpa using h2⟩
    simp [World.setCell, Array.getElem?_modify, h1]
  · exact ⟨cur, by rw [Below.heap_setCell w ⟨b, o, none⟩ u g (fun h => e h.symm)]; exact h1, h2⟩
theorem Shp.later {w w' : World} {g cap : Nat} (h : Shp w g cap) (hb : Below w.heap.size w w') (hg : g < w.heap.size) : Shp w' g cap := by
  obtain ⟨cur, h1, h2⟩ := h
  exact ⟨cur, by rw [hb.block g hg]; exact h1, h2⟩
def fl (f : Nat → Bool) (n : Nat) : List Value := (List.range n).map (fun j => Value.bool (f j))
theorem own_of {w : World} {g n cap base : Nat} {f : Nat → Bool} (h : Rw w g n f) (hs : Shp w g cap) (hn : n ≤ cap) (hm : cap ≤ maxLen) (hb : base ≤ g) : w.ownsRow base 4 1 (.slice (some ⟨g, 0, none⟩) n cap) n (fl f n) := by
  obtain ⟨cur, h1, h2⟩ := hs
  refine ⟨by simp [fl], .inr ⟨g, cap, cur, rfl, hb, h1, hn, hm, by simpa using h2, ?_⟩⟩
  apply List.ext_getElem?
  intro j
  rw [Nat.mul_one]
  by_cases hj : j < n
  · have hc := h.cell j hj
    simp [World.cell?, h1] at hc
    simp [fl, hj]
    simpa using hc
  · rw [List.getElem?_eq_none (by simp; omega), List.getElem?_eq_none (by simp [fl]; omega)]

set_option maxHeartbeats 1000000 in
theorem impl_list_own (b n : Int) (w : World) (hb0 : 0 ≤ b) (hb1 : b < 65536) :
    Calls Try.prog 21 #[.agg #[.int .u16 b, .int .i64 n]] w fun e w' => ∃ g, e = .returned (.slice (some ⟨g, 0, none⟩) (nn 16 b n) (nn 16 b n)) ∧ w.heap.size ≤ g ∧ Rw w' g (nn 16 b n) (bitAt (nb 16 b n) (nn 16 b n)) ∧ Shp w' g (nn 16 b n) ∧ Below w.heap.size w w' := by
  obtain ⟨i0, hi, hz0, hz1, hz2⟩ := info_parts Try.info4
  have hB := (nb_bd 16 b n hb0).1
  have hB1 := nb_le 16 b n hb0
  have hN : nn 16 b n ≤ 16 := nn_le 16 b n
  go_enter Try.func21, Try.ntmps21
  go_wp2_with fail
  refine (of16_any b n _ hb0 hb1).mono ?_
  rintro e w1 ⟨rfl, g1⟩
  have b1 : Below w.heap.size w w1 := ((Below.refl _ _).alloc (Nat.le_refl _) _).trans (g1.mono (by simp))
  clear g1
  obtain ⟨B, HB⟩ : ∃ B, Hid (B = nb 16 b n) := ⟨_, rfl⟩
  obtain ⟨N, HN⟩ : ∃ N, Hid (N = nn 16 b n) := ⟨_, rfl⟩
  rw [← HB.out, ← HN.out]
  rw [← HB.out] at hB hB1
  rw [← HN.out] at hN
  go_wp2_with (at_make; refine wpList_make_full _ rfl _ _ 28 rfl (w1.heap.size + 1) 4 i0 (.bool false) 1 Try.underlying28 hi hz0 hz1 .i64 .i64 (N : Int) (N : Int) N rfl rfl rfl rfl ?m1 ?m2 ?m3 ?_)
  case m1 => rw [hz2]; omega
  case m2 => unfold maxLen; omega
  case m3 => simp
  intro w2 own2 g2
  have r2 : Rw w2 (w1.heap.size + 1) N (fun _ => false) := by
    have h := rw_of (f := fun _ => false) own2 (fun j hj => by simp [madeCells, hj, Nat.mod_one])
    simpa using h
  have p2 : Shp w2 (w1.heap.size + 1) N := by
    rcases own2.2 with ⟨hv, _⟩ | ⟨g', cap', cur, hv, _, hg, _, _, hsz, _⟩
    · cases hv
    · cases hv
      exact ⟨cur, by simpa using hg, by simpa using hsz⟩
  have g2' := below_of_gb g2
  have t2 : Pk .u16 w2 w1.heap.size 0 B N 16 := (Pk.fresh .u16 w1 B N 16 66).later g2' (by simp)
  have b2 : Below w.heap.size w w2 := (b1.alloc b1.size _).trans (g2'.mono (by have := b1.size; simp; omega))
  have z1 := b1.size
  clear own2 g2 g2' b1
  go_wp2
  go_loopw [14] (fun i wr => ∃ k : Nat, k ≤ N ∧ i = .int .i64 k ∧ Rw wr (w1.heap.size + 1) N (fun j => if j < k then bitAt B N j else false) ∧ Shp wr (w1.heap.size + 1) N ∧ Pk .u16 wr w1.heap.size 0 B N 16 ∧ Below w.heap.size w wr)
    (fun i _ => N - (intOf i).toNat)
  case atStart => exact ⟨0, Nat.zero_le _, rfl, r2.congr (fun j hj => by simp), p2, t2, b2⟩
  case round =>
    clear r2 t2 b2 p2
    obtain ⟨k, hk, rfl, hR, hp, hT, hb⟩ := hrel
    by_cases hlt : k < N
    · have hT' := hT
      obtain ⟨c0, c1, c2, f0, f1⟩ := hT
      have hf := hR.frz k
      have hc := hR.cell k hlt
      simp at hc
      obtain ⟨D, hD⟩ : ∃ D : Nat, D + k + 1 = N := ⟨N - 1 - k, by omega⟩
      have eD : (N : Int) - 1 - k = (D : Int) := by omega
      go_wp2_with fail
      refine (at16 w1.heap.size 0 B D _ hB (by omega) (by omega) c0).mono ?_
      rintro e w' ⟨rfl, rfl⟩
      go_wp2
      go_roundw
      case rel => exact ⟨k + 1, by omega, by go_num, (hR.set k hlt _).congr (list_round hD), hp.set _ _ _, hT'.other _ _ (by omega) _, hb.setCell (by simp; omega) _⟩
      case measure => simp [intOf]; omega
    · have hkN : k = N := by omega
      have HR : Hid (Rw wr (w1.heap.size + 1) N (bitAt B N)) := hR.congr (fun j hj => by simp [hkN, hj])
      have HP : Hid (Shp wr (w1.heap.size + 1) N) := hp
      clear hkN hR hp
      go_wp2
      go_ret
      exact ⟨w1.heap.size + 1, ret_slice HN.out, by omega, by rw [← HN.out, ← HB.out]; exact HR.out, by rw [← HN.out]; exact HP.out, hb⟩

theorem half_bits (B : Int) (d : Nat) (h : d < 15) : B % 32768 / 2 ^ d % 2 = B / 2 ^ d % 2 := by
  have hd : d = 0 ∨ d = 1 ∨ d = 2 ∨ d = 3 ∨ d = 4 ∨ d = 5 ∨ d = 6 ∨ d = 7 ∨ d = 8 ∨ d = 9 ∨ d = 10 ∨ d = 11 ∨ d = 12 ∨ d = 13 ∨ d = 14 := by omega
  rcases hd with rfl | rfl | rfl | rfl | rfl | rfl | rfl | rfl | rfl | rfl | rfl | rfl | rfl | rfl | rfl <;> simp only [Int.reducePow] <;> omega

/-- A bit pushed onto a list that is not full. -/
theorem push_more (B : Int) (N : Nat) (y : Bool) (h0 : 0 ≤ B) (hB : B < 2 ^ N) (hN : N ≤ 15) :
    0 ≤ 2 * B % 65536 + bit01 y ∧ 2 * B % 65536 + bit01 y < 2 ^ (N + 1) ∧ (2 * B % 65536 + bit01 y) / 2 = B ∧ ((2 * B % 65536 + bit01 y) % 2 == 1) = y ∧
      ∀ j, j < N + 1 → bitAt (2 * B % 65536 + bit01 y) (N + 1) j = if j = N then y else bitAt B N j := by
  have hy := bit01_bd y
  have hK := pow_cap N 15 hN
  have e15 : (2 : Int) ^ 15 = 32768 := by decide
  have e : 2 * B % 65536 = 2 * B := by omega
  rw [e]
  have e1 : (2 * B + bit01 y) % 2 = bit01 y := by omega
  have e2 : (2 * B + bit01 y) / 2 = B := by omega
  refine ⟨by omega, by rw [Int.pow_succ]; omega, e2, by rw [e1]; cases y <;> simp [bit01], ?_⟩
  intro j hj
  by_cases hjN : j = N
  · rw [if_pos hjN]
    have e3 : N + 1 - 1 - j = 0 := by omega
    simp only [bitAt, e3, Int.pow_zero, Int.ediv_one, e1]
    cases y <;> simp [bit01]
  · rw [if_neg hjN]
    obtain ⟨d, hd⟩ : ∃ d, N - 1 - j = d := ⟨_, rfl⟩
    have hd2 : N + 1 - 1 - j = d + 1 := by omega
    simp only [bitAt, hd, hd2]
    rw [Int.pow_succ, Int.mul_comm ((2 : Int) ^ d) 2, ← Int.ediv_ediv_of_nonneg (by decide), e2]

/-- A bit pushed onto a full list: the first is lost. -/
theorem push_full (B : Int) (y : Bool) (h0 : 0 ≤ B) (hB : B < 2 ^ 16) :
    0 ≤ 2 * B % 65536 + bit01 y ∧ 2 * B % 65536 + bit01 y < 2 ^ 16 ∧ ((2 * B % 65536 + bit01 y) % 2 == 1) = y ∧
      ∀ j, j < 16 → bitAt (2 * B % 65536 + bit01 y) 16 j = if j + 1 = 16 then y else bitAt B 16 (j + 1) := by
  have hy := bit01_bd y
  have e16 : (2 : Int) ^ 16 = 65536 := by decide
  have e1 : (2 * B % 65536 + bit01 y) % 2 = bit01 y := by omega
  have e2 : (2 * B % 65536 + bit01 y) / 2 = B % 32768 := by omega
  refine ⟨by omega, by omega, by rw [e1]; cases y <;> simp [bit01], ?_⟩
  intro j hj
  by_cases hjN : j + 1 = 16
  · rw [if_pos hjN]
    have e3 : 16 - 1 - j = 0 := by omega
    simp only [bitAt, e3, Int.pow_zero, Int.ediv_one, e1]
    cases y <;> simp [bit01]
  · rw [if_neg hjN]
    obtain ⟨d, hd⟩ : ∃ d, 16 - 1 - (j + 1) = d := ⟨_, rfl⟩
    have hd2 : 16 - 1 - j = d + 1 := by omega
    simp only [bitAt, hd, hd2]
    rw [Int.pow_succ, Int.mul_comm ((2 : Int) ^ d) 2, ← Int.ediv_ediv_of_nonneg (by decide), e2, half_bits B d (by omega)]
end Go.Proofs.Ytlpeianinlnbeaa
