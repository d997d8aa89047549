/- Rows of heights compared, marked, and the marks looked for. -/
import Derived.Test.YtcmmiamnbefefaaCc
import Derived.Test.YtcmmiamnbefefaaAf
import Derived.Laws.OwnMore
namespace Go.Proofs.Ytcmmiamnbefefaa
open Go.RowKit
set_option linter.unusedVariables false

theorem TrIs.range {W : World} {base g cp : Nat} {xs : List InstT} {n j : Nat} (h : TrIs W base (.slice (some ⟨g, 0, none⟩) n cp) xs n) (hj : j < n) : W.rangeAt g (j * 2) [.int .i64 (htB xs (j + 1)), .int .i64 (htF xs (j + 1))] := fun i c hi => by
  have h1 := h.cell hj
  match i with
  | 0 => simp at hi; subst hi; exact h1.1
  | 1 => simp at hi; subst hi; exact h1.2
  | i + 2 => simp at hi

set_option maxRecDepth 10000 in
set_option maxHeartbeats 4000000 in
theorem eq_states (v v' : Value) (xs : List InstT) (n base base' : Nat) (hn : n ≤ 1000) (w : World) (hv : TrIs w base v xs n) (hv' : TrIs w base' v' xs n) :
    Calls Try.prog 13 #[v, v'] w fun r w' => r = .returned (.bool true) ∧ Below w.heap.size w w' := by
  obtain ⟨a, cp, rfl, ha⟩ := hv.form
  obtain ⟨a', cp', rfl, ha'⟩ := hv'.form
  have HA : Hid (∀ j, j < n → ∃ g, a = some ⟨g, 0, none⟩ ∧ base ≤ g) := ha
  have HA' : Hid (∀ j, j < n → ∃ g, a' = some ⟨g, 0, none⟩ ∧ base' ≤ g) := ha'
  have HV : Hid (TrIs w base (.slice a n cp) xs n) := hv
  have HV' : Hid (TrIs w base' (.slice a' n cp') xs n) := hv'
  clear hv hv' ha ha'
  go_enter Try.func13, Try.ntmps13
  go_wp2
  go_loopg [5] n (fun g i wr => ∃ m : Nat, m + g = n ∧ i = .int .i64 m ∧ Hid (Below w.heap.size w wr))
  case atStart => exact ⟨0, by omega, rfl, Below.refl _ _⟩
  case round =>
    obtain ⟨m, hm, rfl, HB⟩ := hrel
    by_cases hlt : m < n
    · have i1 : (m : Int) < (n : Int) := by omega
      have i3 : (0 : Int) ≤ (m : Int) := by omega
      obtain ⟨g, rfl, _⟩ := HA.out m hlt
      obtain ⟨g', rfl, _⟩ := HA'.out m hlt
      have H1 : Hid (wr.rangeAt g (m * 2) [.int .i64 (htB xs (m + 1)), .int .i64 (htF xs (m + 1))]) := (HV.out.later HB.out).range hlt
      have H2 : Hid (wr.rangeAt g' (m * 2) [.int .i64 (htB xs (m + 1)), .int .i64 (htF xs (m + 1))]) := (HV'.out.later HB.out).range hlt
      obtain ⟨b, Hb⟩ : ∃ q, Hid (q = htB xs (m + 1)) := ⟨_, rfl⟩
      obtain ⟨f, Hf⟩ : ∃ q, Hid (q = htF xs (m + 1)) := ⟨_, rfl⟩
      rw [← Hb.out, ← Hf.out] at H1 H2
      have cE : ∀ d os, Calls Try.prog 19 #[.agg #[.int .i64 b, .int .i64 f], .agg #[.int .i64 b, .int .i64 f]] (Sort.grow (redrawn wr d) os) fun e w'' => e = .returned (.bool true) ∧ ∃ p : Regrown, w'' = Sort.grow (redrawn wr p.d) p.os :=
        fun d os => Calls.regrown_of (by have := eq_state b f b f (Sort.grow (redrawn wr d) os); simpa using this)
      go_upto_region 6 with fail
      refine wp_region_quiet_below (by kernel_rfl) (by kernel_rfl) ?_
      go_big_quiet_step (first | with_reducible exact cE _ _)
      go_big_quiet_step (first | with_reducible exact cE _ _)
      go_big_quiet_step (first | with_reducible exact cE _ _)
      refine wpQ_load rfl 26 _ rfl _ _ rfl (.agg #[.int .i64 b, .int .i64 f]) (fun W hW => run_loadVar_mid W g (m * 2) 26 [.int .i64 b, .int .i64 f] _ (range_regrown H1.out hW) Try.underlying26 rfl (by kernel_rfl)) ?_
      simp only [Act.put, List.setIfInBounds_toArray, List.set_cons_succ, List.set_cons_zero]
      go_big_quiet_step (first | with_reducible exact cE _ _)
      go_big_quiet_step (first | with_reducible exact cE _ _)
      go_big_quiet_step (first | with_reducible exact cE _ _)
      refine wpQ_load rfl 26 _ rfl _ _ rfl (.agg #[.int .i64 b, .int .i64 f]) (fun W hW => run_loadVar_mid W g' (m * 2) 26 [.int .i64 b, .int .i64 f] _ (range_regrown H2.out hW) Try.underlying26 rfl (by kernel_rfl)) ?_
      simp only [Act.put, List.setIfInBounds_toArray, List.set_cons_succ, List.set_cons_zero]
      go_big_quiet_step (first | with_reducible exact cE _ _)
      go_big_quiet_step (first | with_reducible exact cE _ _)
      refine wpQuiet_nil ?_
      intro w7 hw'
      have HB7 : Hid (Below w.heap.size w w7) := by
        obtain ⟨⟨dq, osq⟩, rfl⟩ := hw'
        exact HB.out.trans ((below_regrown wr dq osq).mono HB.out.size)
      clear hw' cE H1 H2
      go_wp2
      go_roundg (gk - 1)
      case measure => omega
      case rel => exact ⟨m + 1, by omega, by simp, HB7⟩
    · have i1 : ¬ ((m : Int) < (n : Int)) := by omega
      go_wp2
      go_ret
      exact ⟨rfl, HB.out⟩

/-- The first so many heights are marked. -/
def MkS (n : Nat) (vs : List Value) : Prop := ∀ j, j < n → vs[j * 2]? = some (.int .i64 (1 + 2 * (j : Int))) ∧ vs[j * 2 + 1]? = some (.int .i64 (1 + 2 * (j : Int) + 1))
abbrev StOwn (W : World) (base g cp n : Nat) (vs : List Value) : Prop := W.ownsRow base 26 2 (.slice (some ⟨g, 0, none⟩) n cp) n vs

set_option maxRecDepth 10000 in
set_option maxHeartbeats 4000000 in
theorem mark_st (base g cp n : Nat) (vs0 : List Value) (w : World) (hn : n ≤ 1000) (h : StOwn w base g cp n vs0) :
    Calls Try.prog 16 #[.slice (some ⟨g, 0, none⟩) n cp, .int .i64 1] w fun e w' => e = .returned (.int .i64 (1 + 2 * (n : Int))) ∧ (∃ vs, StOwn w' base g cp n vs ∧ MkS n vs) ∧ w.grownBy w' (some g) := by
  have HS0 : Hid (StOwn w base g cp n vs0) := h
  clear h
  go_enter Try.func16, Try.ntmps16
  go_wp2
  go_loopg [1, 5] n (fun gg k i wr => ∃ (m : Nat) (K : Int), m + gg = n ∧ i = .int .i64 m ∧ k = .int .i64 K ∧ Hid (K = 1 + 2 * (m : Int)) ∧ 0 ≤ K ∧ K ≤ 3000 ∧ Hid ((∃ vs, StOwn wr base g cp n vs ∧ MkS m vs) ∧ w.grownBy wr (some g)))
  case atStart => exact ⟨0, 1, by omega, rfl, rfl, by simp [Hid], by omega, by omega, ⟨vs0, HS0.out, fun j hj => by omega⟩, ⟨rfl, rfl, rfl, Nat.le_refl _, fun _ _ _ => rfl⟩⟩
  case round =>
    clear HS0
    obtain ⟨m, K, hm, rfl, rfl, HK, hK0, hK1, HR⟩ := hrel
    by_cases hlt : m < n
    · have i1 : (m : Int) < (n : Int) := by omega
      have i2 : (0 : Int) ≤ (m : Int) := by omega
      obtain ⟨vs, r1, r2⟩ := HR.out.1
      have hvl : vs.length = n * 2 := r1.1
      have s1 := r1.stored (m * 2) (.int .i64 K)
      have s2 := s1.1.stored (m * 2 + 1) (.int .i64 (K + 1))
      obtain ⟨x0, c0⟩ : ∃ x, wr.cell? ⟨g, m * 2, none⟩ = some x := ⟨_, (r1.cellAt _ (by omega)).trans (List.getElem?_eq_getElem (by omega))⟩
      obtain ⟨x1, c1⟩ : ∃ x, (wr.setCell ⟨g, m * 2, none⟩ (.int .i64 K)).cell? ⟨g, m * 2 + 1, none⟩ = some x := ⟨_, (s1.1.cellAt _ (by omega)).trans (List.getElem?_eq_getElem (by simp; omega))⟩
      have f0 := r1.frozenAt (m * 2)
      have f1 := s1.1.frozenAt (m * 2 + 1)
      have G2 : w.grownBy ((wr.setCell ⟨g, m * 2, none⟩ (.int .i64 K)).setCell ⟨g, m * 2 + 1, none⟩ (.int .i64 (K + 1))) (some g) := (HR.out.2.trans s1.2).trans s2.2
      have HN : Hid (K + 1 + 1 = 1 + 2 * ((m + 1 : Nat) : Int)) := by show K + 1 + 1 = 1 + 2 * ((m + 1 : Nat) : Int); rw [HK.out]; omega
      have HRR : Hid ((∃ vs, StOwn ((wr.setCell ⟨g, m * 2, none⟩ (.int .i64 K)).setCell ⟨g, m * 2 + 1, none⟩ (.int .i64 (K + 1))) base g cp n vs ∧ MkS (m + 1) vs) ∧ w.grownBy ((wr.setCell ⟨g, m * 2, none⟩ (.int .i64 K)).setCell ⟨g, m * 2 + 1, none⟩ (.int .i64 (K + 1))) (some g)) := by
        refine ⟨⟨_, s2.1, fun j hj => ?_⟩, G2⟩
        by_cases e : j = m
        · subst e
          rw [← HK.out]
          refine ⟨?_, ?_⟩
          · rw [List.getElem?_set_ne (by omega), List.getElem?_set_self (by omega)]
          · rw [List.getElem?_set_self (by simp; omega)]
        · rw [List.getElem?_set_ne (by omega), List.getElem?_set_ne (by omega), List.getElem?_set_ne (by omega), List.getElem?_set_ne (by omega)]
          exact r2 j (by omega)
      clear r1 r2 s1 s2 hvl G2 HR
      go_wp2
      go_roundg (gk - 1)
      case measure => omega
      case rel => exact ⟨m + 1, K + 1 + 1, by omega, by go_num, rfl, HN, by omega, by have := HN.out; omega, HRR⟩
    · have i1 : ¬ ((m : Int) < (n : Int)) := by omega
      have hqn : m = n := by omega
      have HKn : Hid (K = 1 + 2 * (n : Int)) := (by rw [← hqn]; exact HK.out : K = 1 + 2 * (n : Int))
      have HRn : Hid ((∃ vs, StOwn wr base g cp n vs ∧ MkS n vs) ∧ w.grownBy wr (some g)) := (by have := HR.out; rwa [hqn] at this : (∃ vs, StOwn wr base g cp n vs ∧ MkS n vs) ∧ w.grownBy wr (some g))
      clear hqn HK HR
      go_wp2
      go_ret
      exact ⟨(by show Ending.returned (.int .i64 K) = _; rw [HKn.out]), HRn.out.1, HRn.out.2⟩

set_option maxRecDepth 10000 in
set_option maxHeartbeats 4000000 in
theorem held_st (base g cp n : Nat) (vs : List Value) (w : World) (hn : n ≤ 1000) (h : StOwn w base g cp n vs) (hk : MkS n vs) :
    Calls Try.prog 17 #[.slice (some ⟨g, 0, none⟩) n cp, .int .i64 1] w fun e w' => e = .returned (.int .i64 (1 + 2 * (n : Int))) ∧ w' = w := by
  have HS0 : Hid (StOwn w base g cp n vs ∧ MkS n vs) := ⟨h, hk⟩
  clear h hk
  go_enter Try.func17, Try.ntmps17
  go_wp2
  go_loopg [1, 5] n (fun gg k i wr => ∃ (m : Nat) (K : Int), m + gg = n ∧ i = .int .i64 m ∧ k = .int .i64 K ∧ Hid (K = 1 + 2 * (m : Int)) ∧ 0 ≤ K ∧ K ≤ 3000 ∧ wr = w)
  case atStart => exact ⟨0, 1, by omega, rfl, rfl, by simp [Hid], by omega, by omega, rfl⟩
  case round =>
    obtain ⟨m, K, hm, rfl, rfl, HK, hK0, hK1, rfl⟩ := hrel
    by_cases hlt : m < n
    · have i1 : (m : Int) < (n : Int) := by omega
      have i2 : (0 : Int) ≤ (m : Int) := by omega
      have r3 := HS0.out.2 m hlt
      have c0 : wr.cell? ⟨g, m * 2, none⟩ = some (.int .i64 K) := by rw [HS0.out.1.cellAt _ (by omega), r3.1, HK.out]
      have c1 : wr.cell? ⟨g, m * 2 + 1, none⟩ = some (.int .i64 (K + 1)) := by rw [HS0.out.1.cellAt _ (by omega), r3.2, HK.out]
      have HN : Hid (K + 1 + 1 = 1 + 2 * ((m + 1 : Nat) : Int)) := by show K + 1 + 1 = 1 + 2 * ((m + 1 : Nat) : Int); rw [HK.out]; omega
      clear r3
      go_wp2
      go_roundg (gk - 1)
      case measure => omega
      case rel => exact ⟨m + 1, K + 1 + 1, by omega, by go_num, rfl, HN, by omega, by have := HN.out; omega, rfl⟩
    · have i1 : ¬ ((m : Int) < (n : Int)) := by omega
      have hqn : m = n := by omega
      have HKn : Hid (K = 1 + 2 * (n : Int)) := (by rw [← hqn]; exact HK.out : K = 1 + 2 * (n : Int))
      clear hqn HK
      go_wp2
      go_ret
      exact ⟨(by show Ending.returned (.int .i64 K) = _; rw [HKn.out]), rfl⟩
theorem mark_st0 (w : World) : Calls Try.prog 16 #[.slice none 0 0, .int .i64 1] w fun e w' => e = .returned (.int .i64 1) ∧ w' = w := by
  go_enter Try.func16, Try.ntmps16
  go_wp2
  go_loopg [1, 5] 0 (fun gg k i wr => i = .int .i64 0 ∧ k = .int .i64 1 ∧ wr = w)
  case atStart => exact ⟨rfl, rfl, rfl⟩
  case round =>
    obtain ⟨rfl, rfl, rfl⟩ := hrel
    go_wp2
    go_ret
    exact ⟨rfl, rfl⟩
theorem held_st0 (w : World) : Calls Try.prog 17 #[.slice none 0 0, .int .i64 1] w fun e w' => e = .returned (.int .i64 1) ∧ w' = w := by
  go_enter Try.func17, Try.ntmps17
  go_wp2
  go_loopg [1, 5] 0 (fun gg k i wr => i = .int .i64 0 ∧ k = .int .i64 1 ∧ wr = w)
  case atStart => exact ⟨rfl, rfl, rfl⟩
  case round =>
    obtain ⟨rfl, rfl, rfl⟩ := hrel
    go_wp2
    go_ret
    exact ⟨rfl, rfl⟩
/-- A marked row of heights, wherever it lies. -/
def Marks (W : World) (base : Nat) (v : Value) (n : Nat) : Prop := (v = .slice none 0 0 ∧ n = 0) ∨ ∃ g cp vs, v = .slice (some ⟨g, 0, none⟩) n cp ∧ StOwn W base g cp n vs ∧ MkS n vs
theorem Marks.later {W W' : World} {base : Nat} {v : Value} {n : Nat} (h : Marks W base v n) (g : Below W.heap.size W W') : Marks W' base v n := by
  rcases h with h | ⟨b, cp, vs, h1, h2, h3⟩
  · exact .inl h
  · refine .inr ⟨b, cp, vs, h1, ⟨h2.1, ?_⟩, h3⟩
    rcases h2.2 with ⟨h, _⟩ | ⟨g1, cap, cur, e1, e2, e3, e4⟩
    · cases h
    · exact .inr ⟨g1, cap, cur, e1, e2, (g.block _ (Array.getElem?_eq_some_iff.1 e3).1).trans e3, e4⟩
theorem mark_any {w : World} {base n : Nat} {v : Value} {xs : List InstT} (h : TrIs w base v xs n) (hn : n ≤ 1000) : Calls Try.prog 16 #[v, .int .i64 1] w fun e w' => e = .returned (.int .i64 (1 + 2 * (n : Int))) ∧ Marks w' base v n ∧ w.grownBy w' v.ownBlock := by
  rcases id h.2 with ⟨rfl, rfl⟩ | ⟨g, cp, cur, rfl, _⟩
  · exact (mark_st0 w).mono fun e w' ⟨h1, h2⟩ => ⟨h1, .inl ⟨rfl, rfl⟩, by rw [h2]; exact ⟨rfl, rfl, rfl, Nat.le_refl _, fun _ _ _ => rfl⟩⟩
  · exact (mark_st base g cp n _ w hn h).mono fun e w' ⟨h1, ⟨vs, h2, h3⟩, h4⟩ => ⟨h1, .inr ⟨g, cp, vs, rfl, h2, h3⟩, h4⟩
theorem held_any {w : World} {base n : Nat} {v : Value} (h : Marks w base v n) (hn : n ≤ 1000) : Calls Try.prog 17 #[v, .int .i64 1] w fun e w' => e = .returned (.int .i64 (1 + 2 * (n : Int))) ∧ w' = w := by
  rcases h with ⟨rfl, rfl⟩ | ⟨g, cp, vs, rfl, h2, h3⟩
  · exact held_st0 w
  · exact held_st base g cp n vs w hn h2 h3
end Go.Proofs.Ytcmmiamnbefefaa
