/- Rows of writes: compared, marked, held. -/
import Derived.Test.YtfhdpafaamkipaaHwa
import Derived.Lib.QuietBelow
import Derived.BigQuiet
import Derived.Deep.MidRow
namespace Go.Proofs.Ytfhdpafaamkipaa
open Go.RowKit
set_option linter.unusedVariables false
set_option linter.unusedSimpArgs false

section
variable {P : Program}
theorem wpQ_load19 {ops : Array Oper} {rest : List Oper} {o : Oper} {a : Act} {C : World → Prop} {Q : Act → Prop} (hw : Region.wanted o (yielded ops a.tmps) = true) (ty : TypeId) (x : Operand) (ho : o.op = .load ty x)
    (g f : Nat) (hx : a.eval x = .pointer (some ⟨g, f, none⟩)) (v : Value) (hrun : ∀ w, C w → (loadVar ty ⟨g, f, none⟩).run P w = .ok v w)
    (h : wpQuiet P ops C Q rest (a.put o.dst v)) : wpQuiet P ops C Q (o :: rest) a :=
  BigFrame.wpQuiet_want hw fun K hK => ⟨v, fun w hC => by
    unfold Oper.quietAt execOp
    simp only [ho, hx, Instr.loadAt, Instr.sureAddr, Sem.run_bind, Sem.run_pure, Result.andThen_ok, hrun w hC]
    exact ⟨rfl, rfl⟩, hK _ h⟩
end
theorem range_regrown19 {w : World} {b o : Nat} {cs : List Value} (hb : b < w.heap.size) (h : w.rangeAt b o cs) {W : World} (hp : ∃ p : Regrown, W = Sort.grow (redrawn w p.d) p.os) : W.rangeAt b o cs := by
  obtain ⟨p, rfl⟩ := hp
  exact fun i c hi => ((below_regrown w p.d p.os).cell (p := ⟨b, o + i, none⟩) hb).trans (h i c hi)
theorem Ws.range {w : World} {b o n : Nat} {f : Nat → WrT} (h : Ws w b o n f) (j : Nat) (hj : j < n) : w.rangeAt b (o + j * 3) [.int .i64 (f j).kind, .int .i64 (f j).slot, .int .u8 ((f j).byte : Nat)] := by
  obtain ⟨h1, h2, h3⟩ := h j hj
  intro i c hi
  match i with
  | 0 => simp at hi; subst hi; exact h1
  | 1 => simp at hi; subst hi; exact h2
  | 2 => simp at hi; subst hi; exact h3
  | i + 3 => simp at hi
set_option maxHeartbeats 1000000 in
theorem eq_write (k s : Int) (x : Nat) (w : World) :
    Calls Try.prog 62 #[.agg #[.int .i64 k, .int .i64 s, .int .u8 (x : Nat)], .agg #[.int .i64 k, .int .i64 s, .int .u8 (x : Nat)]] w fun e w' => e = .returned (.bool true) ∧ Below w.heap.size w w' := by
  have b2 : ∀ A B, Below w.heap.size w ((w.alloc A).alloc B) := fun A B => ((Below.refl _ _).alloc (Nat.le_refl _) _).alloc (by simp) _
  go_enter Try.func62, Try.ntmps62
  go_wp2
  go_ret
  exact ⟨rfl, b2 _ _⟩
set_option maxRecDepth 10000 in
set_option maxHeartbeats 4000000 in
theorem eq_writes (a1 a2 : Option Addr) (n c1 c2 : Nat) (f : Nat → WrT) (w : World) (h1 : WsA w a1 n f) (h2 : WsA w a2 n f) (hn : n ≤ 2000000) :
    Calls Try.prog 33 #[.slice a1 n c1, .slice a2 n c2] w fun e w' => e = .returned (.bool true) ∧ Below w.heap.size w w' := by
  have H1 : Hid (WsA w a1 n f) := h1
  have H2 : Hid (WsA w a2 n f) := h2
  have HC : Hid (∀ k s x W, Calls Try.prog 62 #[.agg #[.int .i64 k, .int .i64 s, .int .u8 (x : Nat)], .agg #[.int .i64 k, .int .i64 s, .int .u8 (x : Nat)]] W fun e w' => e = .returned (.bool true) ∧ Below W.heap.size W w') := fun k s x W => eq_write k s x W
  clear h1 h2
  go_enter Try.func33, Try.ntmps33
  go_wp2
  go_loopg [5] n (fun g i wr => ∃ k : Nat, k + g = n ∧ i = .int .i64 k ∧ Hid (Below w.heap.size w wr))
  case atStart => exact ⟨0, by omega, rfl, Below.refl _ _⟩
  case round =>
    obtain ⟨k, hk, rfl, HB⟩ := hrel
    by_cases hlt : k < n
    · have i1 : (k : Int) < (n : Int) := by omega
      have i3 : (0 : Int) ≤ (k : Int) := by omega
      obtain ⟨g1, o1, rfl, l1, d1⟩ : ∃ g o, a1 = some ⟨g, o, none⟩ ∧ g < w.heap.size ∧ Ws w g o n f := by
        rcases H1.out with h | h
        · omega
        · exact h
      obtain ⟨g2, o2, rfl, l2, d2⟩ : ∃ g o, a2 = some ⟨g, o, none⟩ ∧ g < w.heap.size ∧ Ws w g o n f := by
        rcases H2.out with h | h
        · omega
        · exact h
      have R1 : Hid (wr.rangeAt g1 (o1 + k * 3) [.int .i64 (f k).kind, .int .i64 (f k).slot, .int .u8 ((f k).byte : Nat)] ∧ g1 < wr.heap.size) := ⟨fun i c hi => (HB.out.cell (p := ⟨g1, o1 + k * 3 + i, none⟩) l1).trans (d1.range k hlt i c hi), Nat.lt_of_lt_of_le l1 HB.out.size⟩
      have R2 : Hid (wr.rangeAt g2 (o2 + k * 3) [.int .i64 (f k).kind, .int .i64 (f k).slot, .int .u8 ((f k).byte : Nat)] ∧ g2 < wr.heap.size) := ⟨fun i c hi => (HB.out.cell (p := ⟨g2, o2 + k * 3 + i, none⟩) l2).trans (d2.range k hlt i c hi), Nat.lt_of_lt_of_le l2 HB.out.size⟩
      obtain ⟨K, hK⟩ : ∃ K, (f k).kind = K := ⟨_, rfl⟩
      obtain ⟨S, hS⟩ : ∃ S, (f k).slot = S := ⟨_, rfl⟩
      obtain ⟨X, hX⟩ : ∃ X, (f k).byte = X := ⟨_, rfl⟩
      rw [hK, hS, hX] at R1 R2
      have cE : ∀ d os, Calls Try.prog 62 #[.agg #[.int .i64 K, .int .i64 S, .int .u8 (X : Nat)], .agg #[.int .i64 K, .int .i64 S, .int .u8 (X : Nat)]] (Sort.grow (redrawn wr d) os) fun e w'' => e = .returned (.bool true) ∧ ∃ p : Regrown, w'' = Sort.grow (redrawn wr p.d) p.os :=
        fun d os => Calls.regrown_of (HC.out K S X _)
      clear hK hS hX d1 d2
      go_upto_region 6 with fail
      refine wp_region_quiet_below (by kernel_rfl) (by kernel_rfl) ?_
      go_big_quiet_step (first | with_reducible exact cE _ _)
      go_big_quiet_step (first | with_reducible exact cE _ _)
      go_big_quiet_step (first | with_reducible exact cE _ _)
      refine wpQ_load19 rfl 42 _ rfl _ _ rfl (.agg #[.int .i64 K, .int .i64 S, .int .u8 (X : Nat)]) (fun W hW => run_loadVar_mid W g1 (o1 + k * 3) 42 _ _ (range_regrown19 R1.out.2 R1.out.1 hW) Try.underlying42 rfl (by kernel_rfl)) ?_
      simp only [Act.put, List.setIfInBounds_toArray, List.set_cons_succ, List.set_cons_zero]
      go_big_quiet_step (first | with_reducible exact cE _ _)
      go_big_quiet_step (first | with_reducible exact cE _ _)
      go_big_quiet_step (first | with_reducible exact cE _ _)
      refine wpQ_load19 rfl 42 _ rfl _ _ rfl (.agg #[.int .i64 K, .int .i64 S, .int .u8 (X : Nat)]) (fun W hW => run_loadVar_mid W g2 (o2 + k * 3) 42 _ _ (range_regrown19 R2.out.2 R2.out.1 hW) Try.underlying42 rfl (by kernel_rfl)) ?_
      simp only [Act.put, List.setIfInBounds_toArray, List.set_cons_succ, List.set_cons_zero]
      go_big_quiet_step (first | with_reducible exact cE _ _)
      go_big_quiet_step (first | with_reducible exact cE _ _)
      refine wpQuiet_nil ?_
      intro w7 hw'
      have b7 : Hid (Below w.heap.size w w7) := by
        obtain ⟨⟨dq, osq⟩, rfl⟩ := hw'
        exact HB.out.trans ((below_regrown wr dq osq).mono HB.out.size)
      clear hw' cE R1 R2 HB
      go_wp2
      go_roundg (gk - 1)
      case measure => omega
      case rel => exact ⟨k + 1, by omega, by go_num, b7⟩
    · have i1 : ¬ (k : Int) < (n : Int) := by omega
      go_wp2
      go_ret
      exact ⟨rfl, HB.out⟩
end Go.Proofs.Ytfhdpafaamkipaa
