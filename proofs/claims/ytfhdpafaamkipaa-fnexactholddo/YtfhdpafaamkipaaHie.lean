/- Stores as answers: marked, and held. -/
import Derived.Test.YtfhdpafaamkipaaHkd
import Derived.Test.YtfhdpafaamkipaaHsb
namespace Go.Proofs.Ytfhdpafaamkipaa
open Go.RowKit
set_option linter.unusedVariables false
set_option linter.unusedSimpArgs false

/-- All stands as it stood, but the blocks of S. -/
structure Outs (S : Nat → Prop) (w w' : World) : Prop where
  os : w'.os = w.os
  tape : w'.tape = w.tape
  output : w'.output = w.output
  size : w.heap.size ≤ w'.heap.size
  block : ∀ k, k < w.heap.size → ¬ S k → w'.heap[k]? = w.heap[k]?
theorem Outs.trans {S : Nat → Prop} {w w' w'' : World} (h : Outs S w w') (h' : Outs S w' w'') : Outs S w w'' :=
  ⟨h'.os.trans h.os, h'.tape.trans h.tape, h'.output.trans h.output, Nat.le_trans h.size h'.size, fun k hk hs => (h'.block k (Nat.lt_of_lt_of_le hk h.size) hs).trans (h.block k hk hs)⟩
theorem Outs.of_below {S : Nat → Prop} {w w' : World} (h : Below w.heap.size w w') : Outs S w w' := ⟨h.os, h.tape, h.output, h.size, fun k hk _ => h.block k hk⟩
theorem Outs.of_grown {S : Nat → Prop} {w w' : World} {row : Option Nat} (h : w.grownBy w' row) (hs : ∀ k, row = some k → S k) : Outs S w w' :=
  ⟨h.os, h.tape, h.output, h.size, fun k hk hn => h.block k hk fun e => hn (hs k e.symm)⟩
theorem Outs.wide {S S' : Nat → Prop} {w w' : World} (h : Outs S w w') (hs : ∀ k, S k → S' k) : Outs S' w w' := ⟨h.os, h.tape, h.output, h.size, fun k hk hn => h.block k hk fun e => hn (hs k e)⟩
theorem Outs.below {S : Nat → Prop} {w0 w w' : World} {B : Nat} (b : Below B w0 w) (h : Outs S w w') (hB : B ≤ w.heap.size) (hs : ∀ k, S k → B ≤ k) : Below B w0 w' :=
  ⟨h.os.trans b.os, h.tape.trans b.tape, h.output.trans b.output, Nat.le_trans b.size h.size, fun k hk => (h.block k (Nat.lt_of_lt_of_le hk hB) fun e => by have := hs k e; omega).trans (b.block k hk)⟩
theorem Outs.row {S : Nat → Prop} {w w' : World} {k : Nat} {o : Obj} (h : Outs S w w') (e : w.heap[k]? = some o) (hs : ¬ S k) : w'.heap[k]? = some o := (h.block k (Array.getElem?_eq_some_iff.1 e).1 hs).trans e
theorem By.outs {S : Nat → Prop} {w w' : World} {g n : Nat} {f : Nat → Nat} (h : By w g n f) (b : Outs S w w') (hs : ¬ S g) : By w' g n f := by
  have e := b.block g h.lt hs
  have c : ∀ o, w'.cell? ⟨g, o, none⟩ = w.cell? ⟨g, o, none⟩ := fun o => by simp only [World.cell?, e]
  exact ⟨fun j hj => (c j).trans (h.cell j hj), fun o => by have := h.frz o; simp only [World.frozen?, e] at this ⊢; exact this, Nat.lt_of_lt_of_le h.lt b.size⟩
theorem Ob.outs {S : Nat → Prop} {w w' : World} {base n : Nat} {a : Option Addr} {f : Nat → Nat} (h : Ob w base a n f) (b : Outs S w w') (hs : ∀ g, a = some ⟨g, 0, none⟩ → ¬ S g) : Ob w' base a n f := by
  rcases h with h | ⟨g, h1, h2, h3⟩
  · exact .inl h
  · exact .inr ⟨g, h1, h2, h3.outs b (hs g h1)⟩
theorem owb_ob {w : World} {base : Nat} {a : Option Addr} {n c : Nat} {l : List Nat} (h : OwB w base (.slice a n c) l) : Ob w base a n (fL l) := by
  have hn := owb_len h
  rcases h.2 with ⟨hv, h0⟩ | ⟨g, cp, cur, hv, hb, hg, _⟩
  · simp only [Value.slice.injEq] at hv
    exact .inl ⟨hv.1, hv.2.1⟩
  · simp only [Value.slice.injEq] at hv
    obtain ⟨rfl, _, rfl⟩ := hv
    refine .inr ⟨g, rfl, hb, fun j hj => ?_, fun o => by simp [World.frozen?, hg], (Array.getElem?_eq_some_iff.1 hg).1⟩
    have hj' : j < l.length := by omega
    have := owb_at h j l[j] (List.getElem?_eq_getElem hj')
    rw [this]
    congr 2
    unfold fL
    rw [List.getD_eq_getElem?_getD, List.getElem?_eq_getElem hj']
    rfl

/-- The marks from a number on. -/
def mkN (k j : Nat) : Nat := (k + j) % 256
theorem mkN_wrap (k j : Nat) : IntKind.u8.wrap ((k : Int) + (j : Int)) = (mkN k j : Nat) := by rw [IntKind.wrap_u8']; unfold mkN; omega
set_option maxHeartbeats 1000000 in
theorem mark_byk (g n c q : Nat) (f : Nat → Nat) (w : World) (h : By w g n f) (hn : n ≤ 1048576) (hq : q ≤ 4194304) :
    Calls Try.prog 36 #[.slice (some ⟨g, 0, none⟩) n c, .int .i64 (q : Int)] w fun e w' => e = .returned (.int .i64 ((q : Int) + (n : Int))) ∧ By w' g n (mkN q) ∧ w.grownBy w' (some g) := by
  go_enter Try.func36, Try.ntmps36
  go_wp2
  go_loopw [1, 5] (fun kk i wr => ∃ k : Nat, k ≤ n ∧ i = .int .i64 k ∧ kk = .int .i64 ((q : Int) + (k : Int)) ∧ By wr g n (fun j => if j < k then mkN q j else f j) ∧ w.grownBy wr (some g)) (fun _ i _ => n - (intOf i).toNat)
  case atStart => exact ⟨0, Nat.zero_le _, rfl, by simp, h.congr (fun j hj => by simp), gb_refl18 _ _⟩
  case round =>
    obtain ⟨k, hk, rfl, rfl, hR, hG⟩ := hrel
    by_cases hlt : k < n
    · have hf := hR.frz k
      have hc := hR.cell k hlt
      simp at hc
      have hm := mkN_wrap q k
      have ik : (k : Int) < (n : Int) := by omega
      obtain ⟨M, HM⟩ : ∃ M, Hid (M = mkN q k) := ⟨_, rfl⟩
      rw [← HM.out] at hm
      go_wp2
      go_roundw
      case rel =>
        refine ⟨k + 1, by omega, by go_num, by go_num, (hR.set k hlt M).congr (fun j hj => ?_), gb_set18 hG _ _⟩
        by_cases h1 : j = k
        · subst h1; simp [HM.out]
        · by_cases h2 : j < k
          · simp [h1, h2, show j < k + 1 by omega]
          · simp [h1, h2, show ¬ j < k + 1 by omega]
      case measure => simp [intOf]; omega
    · have hkn : k = n := by omega
      have HR : Hid (By wr g n (mkN q)) := hR.congr (fun j hj => by simp [hkn, hj])
      subst hkn
      clear hR
      go_wp2
      go_ret
      exact ⟨rfl, HR.out, hG⟩
set_option maxHeartbeats 1000000 in
theorem held_byk (g n c q : Nat) (w : World) (h : By w g n (mkN q)) (hn : n ≤ 1048576) (hq : q ≤ 4194304) :
    Calls Try.prog 37 #[.slice (some ⟨g, 0, none⟩) n c, .int .i64 (q : Int)] w fun e w' => e = .returned (.int .i64 ((q : Int) + (n : Int))) ∧ Below w.heap.size w w' := by
  go_enter Try.func37, Try.ntmps37
  go_wp2
  go_loop [1, 5] (fun kk i => ∃ k : Nat, k ≤ n ∧ i = .int .i64 k ∧ kk = .int .i64 ((q : Int) + (k : Int))) (fun _ i => n - (intOf i).toNat)
  case atStart => exact ⟨0, Nat.zero_le _, rfl, by simp⟩
  case round =>
    obtain ⟨k, hk, rfl, rfl⟩ := hrel
    by_cases hlt : k < n
    · have hc := h.cell k hlt
      have hm := mkN_wrap q k
      have ik : (k : Int) < (n : Int) := by omega
      have ib : (((mkN q k : Nat) : Int) != (mkN q k : Nat)) = false := by simp
      generalize ((mkN q k : Nat) : Int) = M at hc hm ib
      go_wp2
      go_round
      case rel => exact ⟨k + 1, by omega, by go_num, by go_num⟩
      case measure => simp [intOf]; omega
    · have hkn : k = n := by omega
      subst hkn
      go_wp2
      go_ret
      exact ⟨rfl, Below.refl _ _⟩
set_option maxHeartbeats 400000 in
theorem mark_nilk (c q : Nat) (w : World) : Calls Try.prog 36 #[.slice none 0 c, .int .i64 (q : Int)] w fun e w' => e = .returned (.int .i64 (q : Int)) ∧ w = w' := by
  go_enter Try.func36, Try.ntmps36
  go_wp2
  go_rounds 1
  go_ret
  exact ⟨rfl, rfl⟩
set_option maxHeartbeats 400000 in
theorem held_nilk (c q : Nat) (w : World) : Calls Try.prog 37 #[.slice none 0 c, .int .i64 (q : Int)] w fun e w' => e = .returned (.int .i64 (q : Int)) ∧ w = w' := by
  go_enter Try.func37, Try.ntmps37
  go_wp2
  go_rounds 1
  go_ret
  exact ⟨rfl, rfl⟩
/-- The block of a slice of one's own. -/
def atB (a : Option Addr) (k : Nat) : Prop := a = some ⟨k, 0, none⟩
theorem mark_obk (base : Nat) (a : Option Addr) (n c q : Nat) (f : Nat → Nat) (w : World) (h : Ob w base a n f) (hn : n ≤ 1048576) (hq : q ≤ 4194304) :
    Calls Try.prog 36 #[.slice a n c, .int .i64 (q : Int)] w fun e w' => e = .returned (.int .i64 ((q + n : Nat) : Int)) ∧ Ob w' base a n (mkN q) ∧ Outs (atB a) w w' := by
  rcases h with ⟨rfl, rfl⟩ | ⟨g, rfl, hb, h⟩
  · refine (mark_nilk c q w).mono ?_
    rintro e w' ⟨rfl, rfl⟩
    exact ⟨rfl, .inl ⟨rfl, rfl⟩, .of_below (Below.refl _ _)⟩
  · refine (mark_byk g n c q f w h hn hq).mono ?_
    rintro e w' ⟨rfl, h1, h2⟩
    exact ⟨by rw [Int.natCast_add], .inr ⟨g, rfl, hb, h1⟩, .of_grown h2 fun k e => by unfold atB; cases e; rfl⟩
theorem held_obk (base : Nat) (a : Option Addr) (n c q : Nat) (w : World) (h : Ob w base a n (mkN q)) (hn : n ≤ 1048576) (hq : q ≤ 4194304) :
    Calls Try.prog 37 #[.slice a n c, .int .i64 (q : Int)] w fun e w' => e = .returned (.int .i64 ((q + n : Nat) : Int)) ∧ Below w.heap.size w w' := by
  rcases h with ⟨rfl, rfl⟩ | ⟨g, rfl, hb, h⟩
  · refine (held_nilk c q w).mono ?_
    rintro e w' ⟨rfl, rfl⟩
    exact ⟨rfl, Below.refl _ _⟩
  · refine (held_byk g n c q w h hn hq).mono ?_
    rintro e w' ⟨rfl, h1⟩
    exact ⟨by rw [Int.natCast_add], h1⟩
end Go.Proofs.Ytfhdpafaamkipaa
