/- An owned answer of bytes: marks. -/
import Derived.Test.YtfhdpafaamkipaaPcb
import Derived.Laws.BitsAllLaws
namespace Go.Proofs.Ytfhdpafaamkipaa
open Go.RowKit
set_option linter.unusedVariables false

/-- Bytes at a slice of one's own: nil, or a row in memory made from `base` on. -/
def Ob (w : World) (base : Nat) (a : Option Addr) (n : Nat) (f : Nat → Nat) : Prop := (a = none ∧ n = 0) ∨ ∃ g, a = some ⟨g, 0, none⟩ ∧ base ≤ g ∧ By w g n f
theorem Ob.bt {w : World} {base : Nat} {a : Option Addr} {n : Nat} {f : Nat → Nat} (h : Ob w base a n f) : Bt w a n f := by
  rcases h with ⟨_, h⟩ | ⟨g, rfl, _, h⟩
  · exact .inl h
  · exact h.bt
theorem Ob.later {w w' : World} {base : Nat} {a : Option Addr} {n : Nat} {f : Nat → Nat} (h : Ob w base a n f) (b : Below w.heap.size w w') : Ob w' base a n f := by
  rcases h with h | ⟨g, h1, h2, h3⟩
  · exact .inl h
  · exact .inr ⟨g, h1, h2, h3.later b h3.lt⟩
theorem Ob.base {w : World} {base b' : Nat} {a : Option Addr} {n : Nat} {f : Nat → Nat} (h : Ob w base a n f) (hb : b' ≤ base) : Ob w b' a n f := by
  rcases h with h | ⟨g, h1, h2, h3⟩
  · exact .inl h
  · exact .inr ⟨g, h1, by omega, h3⟩
theorem gb_refl18 (w : World) (g : Option Nat) : w.grownBy w g := ⟨rfl, rfl, rfl, Nat.le_refl _, fun _ _ _ => rfl⟩
theorem gb_set18 {w w' : World} {g : Nat} (h : w.grownBy w' (some g)) (o : Nat) (v : Value) : w.grownBy (w'.setCell ⟨g, o, none⟩ v) (some g) :=
  ⟨h.os, h.tape, h.output, by simpa using h.size, fun k hk hne => (Below.heap_setCell _ _ _ k (fun e => hne (by rw [e]))).trans (h.block k hk hne)⟩
/-- What was marked is one row; all else stands. -/
theorem Ob.grown {w w' : World} {base lo : Nat} {a a' : Option Addr} {n m c : Nat} {f : Nat → Nat} (h : Ob w base a n f) (hlt : ∀ g, a = some ⟨g, 0, none⟩ → g < lo) (b : w.grownBy w' (Value.slice a' m c).ownBlock) (hg : ∀ g, (Value.slice a' m c).ownBlock = some g → lo ≤ g) : Ob w' base a n f := by
  rcases h with h | ⟨g, h1, h2, h3⟩
  · exact .inl h
  · refine .inr ⟨g, h1, h2, h3.kept b fun e => ?_⟩
    have := hg g e.symm
    have := hlt g h1
    omega

def mk8 (j : Nat) : Nat := (1 + j) % 256
theorem mk8_wrap (k : Nat) : IntKind.u8.wrap (1 + (k : Int)) = (mk8 k : Nat) := by rw [IntKind.wrap_u8']; unfold mk8; omega

set_option maxHeartbeats 1000000 in
theorem mark_by (g n c : Nat) (f : Nat → Nat) (w : World) (h : By w g n f) (hn : n ≤ 1048576) :
    Calls Try.prog 36 #[.slice (some ⟨g, 0, none⟩) n c, .int .i64 1] w fun e w' => e = .returned (.int .i64 (1 + (n : Int))) ∧ By w' g n mk8 ∧ w.grownBy w' (some g) := by
  go_enter Try.func36, Try.ntmps36
  go_wp2
  go_loopw [1, 5] (fun kk i wr => ∃ k : Nat, k ≤ n ∧ i = .int .i64 k ∧ kk = .int .i64 (1 + (k : Int)) ∧ By wr g n (fun j => if j < k then mk8 j else f j) ∧ w.grownBy wr (some g)) (fun _ i _ => n - (intOf i).toNat)
  case atStart => exact ⟨0, Nat.zero_le _, rfl, by simp, h.congr (fun j hj => by simp), gb_refl18 _ _⟩
  case round =>
    obtain ⟨k, hk, rfl, rfl, hR, hG⟩ := hrel
    by_cases hlt : k < n
    · have hf := hR.frz k
      have hc := hR.cell k hlt
      simp at hc
      have hm := mk8_wrap k
      have ik : (k : Int) < (n : Int) := by omega
      obtain ⟨M, HM⟩ : ∃ M, Hid (M = mk8 k) := ⟨_, rfl⟩
      rw [← HM.out] at hm
      go_wp2
      go_roundw
      case rel =>
        refine ⟨k + 1, by omega, by go_num, by go_num, (hR.set k hlt M).congr (fun j hj => ?_), gb_set18 hG _ _⟩
        by_cases h1 : j = k
        · subst h1; simp [HM.out]
        · by_cases h2 : j < k
          · simp [h1, h2, show j < k + 1 by omega]
          · simp [h1, h2, show ¬ j < k + 1 by omega]
      case measure => simp [intOf]; omega
    · have hkn : k = n := by omega
      have HR : Hid (By wr g n mk8) := hR.congr (fun j hj => by simp [hkn, hj])
      subst hkn
      clear hR
      go_wp2
      go_ret
      exact ⟨rfl, HR.out, hG⟩

set_option maxHeartbeats 1000000 in
theorem held_by (g n c : Nat) (w : World) (h : By w g n mk8) (hn : n ≤ 1048576) :
    Calls Try.prog 37 #[.slice (some ⟨g, 0, none⟩) n c, .int .i64 1] w fun e w' => e = .returned (.int .i64 (1 + (n : Int))) ∧ Below w.heap.size w w' := by
  go_enter Try.func37, Try.ntmps37
  go_wp2
  go_loop [1, 5] (fun kk i => ∃ k : Nat, k ≤ n ∧ i = .int .i64 k ∧ kk = .int .i64 (1 + (k : Int))) (fun _ i => n - (intOf i).toNat)
  case atStart => exact ⟨0, Nat.zero_le _, rfl, by simp⟩
  case round =>
    obtain ⟨k, hk, rfl, rfl⟩ := hrel
    by_cases hlt : k < n
    · have hc := h.cell k hlt
      have hm := mk8_wrap k
      have ik : (k : Int) < (n : Int) := by omega
      have ib : (((mk8 k : Nat) : Int) != (mk8 k : Nat)) = false := by simp
      generalize ((mk8 k : Nat) : Int) = M at hc hm ib
      go_wp2
      go_round
      case rel => exact ⟨k + 1, by omega, by go_num, by go_num⟩
      case measure => simp [intOf]; omega
    · have hkn : k = n := by omega
      subst hkn
      go_wp2
      go_ret
      exact ⟨rfl, Below.refl _ _⟩

set_option maxHeartbeats 400000 in
theorem mark_nil18 (c : Nat) (w : World) : Calls Try.prog 36 #[.slice none 0 c, .int .i64 1] w fun e w' => e = .returned (.int .i64 1) ∧ w = w' := by
  go_enter Try.func36, Try.ntmps36
  go_wp2
  go_rounds 1
  go_ret
  exact ⟨rfl, rfl⟩
set_option maxHeartbeats 400000 in
theorem held_nil18 (c : Nat) (w : World) : Calls Try.prog 37 #[.slice none 0 c, .int .i64 1] w fun e w' => e = .returned (.int .i64 1) ∧ w = w' := by
  go_enter Try.func37, Try.ntmps37
  go_wp2
  go_rounds 1
  go_ret
  exact ⟨rfl, rfl⟩

theorem mark_ob (base : Nat) (a : Option Addr) (n c : Nat) (f : Nat → Nat) (w : World) (h : Ob w base a n f) (hn : n ≤ 1048576) :
    Calls Try.prog 36 #[.slice a n c, .int .i64 1] w fun e w' => e = .returned (.int .i64 (1 + (n : Int))) ∧ Ob w' base a n mk8 ∧ w.grownBy w' (Value.slice a n c).ownBlock := by
  rcases h with ⟨rfl, rfl⟩ | ⟨g, rfl, hb, h⟩
  · refine (mark_nil18 c w).mono ?_
    rintro e w' ⟨rfl, rfl⟩
    exact ⟨rfl, .inl ⟨rfl, rfl⟩, gb_refl18 _ _⟩
  · refine (mark_by g n c f w h hn).mono ?_
    rintro e w' ⟨rfl, h1, h2⟩
    exact ⟨rfl, .inr ⟨g, rfl, hb, h1⟩, h2⟩
theorem held_ob (base : Nat) (a : Option Addr) (n c : Nat) (w : World) (h : Ob w base a n mk8) (hn : n ≤ 1048576) :
    Calls Try.prog 37 #[.slice a n c, .int .i64 1] w fun e w' => e = .returned (.int .i64 (1 + (n : Int))) ∧ Below w.heap.size w w' := by
  rcases h with ⟨rfl, rfl⟩ | ⟨g, rfl, hb, h⟩
  · refine (held_nil18 c w).mono ?_
    rintro e w' ⟨rfl, rfl⟩
    exact ⟨rfl, Below.refl _ _⟩
  · exact held_by g n c w h hn
end Go.Proofs.Ytfhdpafaamkipaa
