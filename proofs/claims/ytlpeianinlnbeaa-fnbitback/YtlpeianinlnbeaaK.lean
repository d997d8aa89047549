/- Writing a stack: the program's BitText and the specification's. -/
import Derived.Test.YtlpeianinlnbeaaZ
import Derived.Test.YtlpeianinlnbeaaC
namespace Go.Proofs.Ytlpeianinlnbeaa
open Go.RowKit
set_option linter.unusedVariables false

def tb (f : Nat → Bool) : Nat → List UInt8
  | 0 => [124]
  | k + 1 => tb f k ++ [if f k then 49 else 48]
theorem tb_head (f : Nat → Bool) : ∀ k, ∃ r, tb f k = 124 :: r
  | 0 => ⟨[], rfl⟩
  | k + 1 => by obtain ⟨r, hr⟩ := tb_head f k; exact ⟨r ++ [if f k then 49 else 48], by simp [tb, hr]⟩
theorem tb_length (f : Nat → Bool) : ∀ k, (tb f k).length = k + 1
  | 0 => rfl
  | k + 1 => by simp [tb, tb_length f k]
theorem cells_len (f : Nat → Bool) (k : Nat) : (Lib.byteCells (tb f k)).length = k + 1 := by simp [Lib.byteCells, tb_length]
theorem cells_head (f : Nat → Bool) (k : Nat) : ∃ c0 r, Lib.byteCells (tb f k) = .int .u8 c0 :: r := by
  obtain ⟨r, hr⟩ := tb_head f k
  rw [hr]
  exact ⟨_, _, rfl⟩

theorem builder_later {T e : TypeId} {B b : Nat} {p : Value} {bs : List Value} {w w' : World} (h : Lib.BuilderAt T e B b p bs w) (g : Below w.heap.size w w') : Lib.BuilderAt T e B b p bs w' := by
  have hlt := h.lt
  obtain ⟨hB, v, hb, hown, hne⟩ := h
  exact ⟨hB, v, by rw [g.block b hlt]; exact hb, hown.kept (gb_below g) (by cases hv : v.ownBlock <;> simp), hne⟩

set_option maxHeartbeats 2000000 in
theorem impl_text_ok (b n : Int) (w : World) (hb0 : 0 ≤ b) (hb1 : b ≤ 65535) (hok : okS 16 b n = true) :
    Calls Try.prog 34 #[.agg #[.int .u16 b, .int .i64 n]] w fun e w' => e = .returned (.string ⟨(tb (bitAt (nb 16 b n) (nn 16 b n)) (nn 16 b n)).toArray⟩) ∧ Below w.heap.size w w' := by
  have hN : nn 16 b n ≤ 16 := nn_le 16 b n
  have HI : Hid (∀ W : World, Calls Try.prog 21 #[.agg #[.int .u16 b, .int .i64 n]] W fun e w' => ∃ g, e = .returned (.slice (some ⟨g, 0, none⟩) (nn 16 b n) (nn 16 b n)) ∧ W.heap.size ≤ g ∧ Rw w' g (nn 16 b n) (bitAt (nb 16 b n) (nn 16 b n)) ∧ Below W.heap.size W w') := fun W => impl_list b n W hb0 (by omega)
  obtain ⟨N, HN⟩ : ∃ N, Hid (N = nn 16 b n) := ⟨_, rfl⟩
  obtain ⟨f, HF⟩ : ∃ f, Hid (f = bitAt (nb 16 b n) (nn 16 b n)) := ⟨_, rfl⟩
  rw [← HF.out, ← HN.out] at HI
  rw [← HF.out, ← HN.out]
  rw [← HN.out] at hN
  clear HF HN
  go_enter Try.func34, Try.ntmps34
  go_wp2_with fail
  refine (impl_ok b n _ hb0 hb1).mono ?_
  rintro e w1 ⟨rfl, g1⟩
  have a0 : w1.cell? ⟨w.heap.size, 0, none⟩ = some (.int .u16 b) := cell_later g1 (by simp)
  have a1 : w1.cell? ⟨w.heap.size, 1, none⟩ = some (.int .i64 n) := cell_later g1 (by simp)
  have z1 : w.heap.size + 1 ≤ w1.heap.size := by have := g1.size; simpa using this
  have b1 : Below w.heap.size w w1 := ((Below.refl _ _).alloc (Nat.le_refl _) _).trans (g1.mono (by simp))
  clear g1
  have i1 : Lib.IsBuilder 81 5 w1.heap.size w1.heap.size [] (w1.alloc (.cells #[.pointer none, .slice none 0 0] 81)) :=
    .inl ⟨Nat.le_refl _, .slice none 0 0, heap_alloc_new w1 _, World.ownsRow_nil _ _ _ _, by simp [Value.ownBlock]⟩
  go_wp2_with fail
  refine (write_byte w1.heap.size w1.heap.size [] 124 _ i1 (by simp) (by simp)).mono ?_
  rintro e w2 ⟨rfl, h2, g2, _⟩
  have q2 : Below w1.heap.size w1 w2 := ((Below.refl _ _).alloc (Nat.le_refl _) _).trans g2
  have c0 := cell_later q2 a0
  have c1 := cell_later q2 a1
  have b2 : Below w.heap.size w w2 := b1.trans (q2.mono (by omega))
  have z2 := q2.size
  have h2' : Lib.BuilderAt 81 5 w1.heap.size w1.heap.size (.pointer (some ⟨w1.heap.size, 0, none⟩)) (Lib.byteCells (tb f 0)) w2 := h2
  clear g2 q2 a0 a1 b1 i1 h2
  go_wp2_with fail
  refine (HI.out _).mono ?_
  rintro e w3 ⟨g, rfl, hg, r3, g3⟩
  have h3 := builder_later h2' g3
  have b3 : Below w.heap.size w w3 := b2.trans (g3.mono (by omega))
  have z3 : w1.heap.size < w3.heap.size := h3.lt
  have hgb : g ≠ w1.heap.size := by have := h2'.lt; omega
  clear g3 b2 h2' c0 c1
  go_wp2
  go_loopw [13] (fun i wr => ∃ k : Nat, k ≤ N ∧ i = .int .i64 k ∧ Lib.BuilderAt 81 5 w1.heap.size w1.heap.size (.pointer (some ⟨w1.heap.size, 0, none⟩)) (Lib.byteCells (tb f k)) wr ∧ (0 < N → Rw wr g N f) ∧ Below w.heap.size w wr ∧ w1.heap.size ≤ wr.heap.size)
    (fun i _ => N - (intOf i).toNat)
  case atStart => exact ⟨0, Nat.zero_le _, rfl, h3, fun _ => r3, b3, by omega⟩
  case round =>
    clear h3 r3 b3 z3
    obtain ⟨k, hk, rfl, hB, hR, hb, hz⟩ := hrel
    by_cases hlt : k < N
    · have hR' := hR (by omega)
      have hc := hR'.cell k hlt
      have i1 : (k : Int) < (N : Int) := by omega
      have HFR : Hid (∀ (W : World) (c : Int), ((∃ c0 r, Lib.byteCells (tb f k) = .int .u8 c0 :: r) → ∀ g n f, Rw wr g n f → 0 < n → g ≠ w1.heap.size → Rw W g n f) → Rw W g N f) := fun W c h => h (cells_head f k) g N f hR' (by omega) hgb
      clear hR hR'
      cases hfk : f k with
      | true =>
        rw [hfk] at hc
        go_wp2_with fail
        refine (write_byte w1.heap.size w1.heap.size (Lib.byteCells (tb f k)) 49 _ (.inr hB) (by rw [cells_len]; omega) hz).mono ?_
        rintro e w4 ⟨rfl, h4, g4, fr4⟩
        have r4 := HFR.out w4 0 fr4
        have b4 : Below w.heap.size w w4 := hb.trans (g4.mono (by omega))
        have z4 : w1.heap.size ≤ w4.heap.size := by have := g4.size; omega
        have h4' : Lib.BuilderAt 81 5 w1.heap.size w1.heap.size (.pointer (some ⟨w1.heap.size, 0, none⟩)) (Lib.byteCells (tb f (k + 1))) w4 := by simpa [tb, hfk, Lib.byteCells] using h4
        clear g4 fr4 h4 hB hb hz HFR
        go_wp2
        go_roundw
        case rel => exact ⟨k + 1, by omega, by go_num, h4', fun _ => r4, b4, z4⟩
        case measure => simp [intOf]; omega
      | false =>
        rw [hfk] at hc
        go_wp2_with fail
        refine (write_byte w1.heap.size w1.heap.size (Lib.byteCells (tb f k)) 48 _ (.inr hB) (by rw [cells_len]; omega) hz).mono ?_
        rintro e w4 ⟨rfl, h4, g4, fr4⟩
        have r4 := HFR.out w4 0 fr4
        have b4 : Below w.heap.size w w4 := hb.trans (g4.mono (by omega))
        have z4 : w1.heap.size ≤ w4.heap.size := by have := g4.size; omega
        have h4' : Lib.BuilderAt 81 5 w1.heap.size w1.heap.size (.pointer (some ⟨w1.heap.size, 0, none⟩)) (Lib.byteCells (tb f (k + 1))) w4 := by simpa [tb, hfk, Lib.byteCells] using h4
        clear g4 fr4 h4 hB hb hz HFR
        go_wp2
        go_roundw
        case rel => exact ⟨k + 1, by omega, by go_num, h4', fun _ => r4, b4, z4⟩
        case measure => simp [intOf]; omega
    · have hkN : k = N := by omega
      subst hkN
      clear hR
      go_wp2_with fail
      refine (Any.Builder_String_any Go.Proofs.Try.lay169 Go.Proofs.Try.extra169 w1.heap.size w1.heap.size (tb f k) _ (.inr hB) hz).mono ?_
      rintro e w5 ⟨rfl, g5⟩
      have b5 : Below w.heap.size w w5 := hb.trans (g5.mono (by omega))
      clear g5 hb hB
      go_wp2
      go_ret
      exact ⟨rfl, b5⟩

set_option maxHeartbeats 400000 in
theorem impl_text_no (b n : Int) (w : World) (hb0 : 0 ≤ b) (hb1 : b ≤ 65535) (hok : okS 16 b n = false) :
    Calls Try.prog 34 #[.agg #[.int .u16 b, .int .i64 n]] w fun e w' => e = .returned (.string ⟨#[]⟩) ∧ Below w.heap.size w w' := by
  go_enter Try.func34, Try.ntmps34
  go_wp2_with fail
  refine (impl_ok b n _ hb0 hb1).mono ?_
  rintro e w1 ⟨rfl, g1⟩
  have b1 : Below w.heap.size w w1 := ((Below.refl _ _).alloc (Nat.le_refl _) _).trans (g1.mono (by simp))
  clear g1
  go_wp2
  go_ret
  exact ⟨rfl, b1⟩
end Go.Proofs.Ytlpeianinlnbeaa
