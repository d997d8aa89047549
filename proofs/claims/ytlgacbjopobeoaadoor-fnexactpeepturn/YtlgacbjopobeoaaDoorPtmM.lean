/- Marks of a contact's operands: of an argument's copy, and of an answer. -/
import Derived.Test.YtlgacbjopobeoaaDoorPtaM
import Derived.Test.YtlgacbjopobeoaaDoorElM
import Derived.Test.YtlgacbjopobeoaaDoorCaM
import Derived.Laws.OwnMore
namespace Go.Proofs.YtlgacbjopobeoaaDoor
open Go.RowKit Go.Shelf
set_option linter.unusedVariables false

theorem gb_refl (w : World) (row : Option Nat) : w.grownBy w row := ⟨rfl, rfl, rfl, Nat.le_refl _, fun _ _ _ => rfl⟩
theorem gb_step {w a b : World} {g : Nat} (h : w.grownBy a (some g)) (k : a.grownBy b (some g)) : w.grownBy b (some g) :=
  ⟨k.os.trans h.os, k.tape.trans h.tape, k.output.trans h.output, Nat.le_trans h.size k.size, fun i hi hne => (k.block i (Nat.lt_of_lt_of_le hi h.size) hne).trans (h.block i hi hne)⟩
/-- A row of operands of one's own, cell by cell. -/
abbrev Row3 (w : World) (base g cap n : Nat) (vs : List Value) : Prop := w.ownsRow base 39 3 (.slice (some ⟨g, 0, none⟩) n cap) n vs
/-- The first cells are marks. -/
def Marked (m : Int) (n : Nat) (vs : List Value) : Prop := ∀ j, j < n → vs[j]? = some (.int .i64 (m + (j : Int)))
theorem marked_next {m K : Int} {n : Nat} {vs : List Value} (h : Marked m (n * 3) vs) (hK : K = m + 3 * (n : Int)) (hl : n * 3 + 2 < vs.length) :
    Marked m ((n + 1) * 3) (((vs.set (n * 3) (.int .i64 K)).set (n * 3 + 1) (.int .i64 (K + 1))).set (n * 3 + 2) (.int .i64 (K + 1 + 1))) := by
  intro j hj
  rcases (by omega : j < n * 3 ∨ j = n * 3 ∨ j = n * 3 + 1 ∨ j = n * 3 + 2) with h1 | h1 | h1 | h1
  · rw [List.getElem?_set_ne (by omega), List.getElem?_set_ne (by omega), List.getElem?_set_ne (by omega)]
    exact h j h1
  · subst h1
    rw [List.getElem?_set_ne (by omega), List.getElem?_set_ne (by omega), List.getElem?_set_self (by omega)]
    congr 2; omega
  · subst h1
    rw [List.getElem?_set_ne (by omega), List.getElem?_set_self (by simp; omega)]
    congr 2; omega
  · subst h1
    rw [List.getElem?_set_self (by simp; omega)]
    congr 2; omega

set_option maxRecDepth 10000 in
set_option maxHeartbeats 2000000 in
theorem mark_r (base g cap n : Nat) (m : Int) (vs : List Value) (w : World) (hn : n ≤ 1000) (hm0 : 0 ≤ m) (hm1 : m ≤ 1000000) (h : Row3 w base g cap n vs) :
    Calls Tryd.prog 19 #[.slice (some ⟨g, 0, none⟩) n cap, .int .i64 m] w fun e w' => ∃ vs', e = .returned (.int .i64 (m + 3 * (n : Int))) ∧ Row3 w' base g cap n vs' ∧ Marked m (n * 3) vs' ∧ w.grownBy w' (some g) := by
  go_enter Tryd.func19, Tryd.ntmps19
  go_wp2
  go_loopg [1, 5] n (fun gg k i wr => ∃ (q : Nat) (K : Int) (us : List Value), q + gg = n ∧ i = .int .i64 q ∧ k = .int .i64 K ∧ Hid (K = m + 3 * (q : Int)) ∧ 0 ≤ K ∧ K ≤ 2000000 ∧ Hid (Row3 wr base g cap n us) ∧ Hid (Marked m (q * 3) us) ∧ Hid (w.grownBy wr (some g)))
  case atStart => exact ⟨0, m, vs, by omega, rfl, rfl, (by simp : m = m + 3 * ((0 : Nat) : Int)), hm0, by omega, h, fun j hj => by omega, gb_refl _ _⟩
  case round =>
    obtain ⟨q, K, us, hq, rfl, rfl, HK, hK0, hK1, HR, HM, HG⟩ := hrel
    by_cases hlt : q < n
    · have i1 : (q : Int) < (n : Int) := by omega
      have i2 : (0 : Int) ≤ (q : Int) := by omega
      have hlen : us.length = n * 3 := HR.out.1
      have s1 := HR.out.stored (q * 3) (.int .i64 K)
      have s2 := s1.1.stored (q * 3 + 1) (.int .i64 (K + 1))
      have s3 := s2.1.stored (q * 3 + 2) (.int .i64 (K + 1 + 1))
      obtain ⟨x0, c0⟩ : ∃ x, wr.cell? ⟨g, q * 3, none⟩ = some x := ⟨_, (HR.out.cellAt _ (by omega)).trans (List.getElem?_eq_getElem (by omega))⟩
      obtain ⟨x1, c1⟩ : ∃ x, (wr.setCell ⟨g, q * 3, none⟩ (.int .i64 K)).cell? ⟨g, q * 3 + 1, none⟩ = some x := ⟨_, (s1.1.cellAt _ (by omega)).trans (List.getElem?_eq_getElem (by simp; omega))⟩
      obtain ⟨x2, c2⟩ : ∃ x, ((wr.setCell ⟨g, q * 3, none⟩ (.int .i64 K)).setCell ⟨g, q * 3 + 1, none⟩ (.int .i64 (K + 1))).cell? ⟨g, q * 3 + 2, none⟩ = some x := ⟨_, (s2.1.cellAt _ (by omega)).trans (List.getElem?_eq_getElem (by simp; omega))⟩
      have f0 := HR.out.frozenAt (q * 3)
      have f1 := s1.1.frozenAt (q * 3 + 1)
      have f2 := s2.1.frozenAt (q * 3 + 2)
      have HR3 : Hid (Row3 (((wr.setCell ⟨g, q * 3, none⟩ (.int .i64 K)).setCell ⟨g, q * 3 + 1, none⟩ (.int .i64 (K + 1))).setCell ⟨g, q * 3 + 2, none⟩ (.int .i64 (K + 1 + 1))) base g cap n (((us.set (q * 3) (.int .i64 K)).set (q * 3 + 1) (.int .i64 (K + 1))).set (q * 3 + 2) (.int .i64 (K + 1 + 1)))) := s3.1
      have HM3 : Hid (Marked m ((q + 1) * 3) (((us.set (q * 3) (.int .i64 K)).set (q * 3 + 1) (.int .i64 (K + 1))).set (q * 3 + 2) (.int .i64 (K + 1 + 1)))) := marked_next HM.out HK.out (by omega)
      have HG3 : Hid (w.grownBy (((wr.setCell ⟨g, q * 3, none⟩ (.int .i64 K)).setCell ⟨g, q * 3 + 1, none⟩ (.int .i64 (K + 1))).setCell ⟨g, q * 3 + 2, none⟩ (.int .i64 (K + 1 + 1))) (some g)) := gb_step (gb_step (gb_step HG.out s1.2) s2.2) s3.2
      clear s1 s2 s3 HR HM HG hlen
      go_wp2
      go_roundg (gk - 1)
      case measure => omega
      case rel => exact ⟨q + 1, K + 1 + 1 + 1, _, by omega, by go_num, by go_num, (by have := HK.out; omega : K + 1 + 1 + 1 = m + 3 * ((q + 1 : Nat) : Int)), by omega, by have := HK.out; omega, HR3, HM3, HG3⟩
    · have i1 : ¬ ((q : Int) < (n : Int)) := by omega
      have hqn : q = n := by omega
      have HKn : Hid (K = m + 3 * (n : Int)) := (by rw [← hqn]; exact HK.out : K = m + 3 * (n : Int))
      have HMn : Hid (Marked m (n * 3) us) := (by rw [← hqn]; exact HM.out : Marked m (n * 3) us)
      clear hqn HK HM
      go_wp2
      go_ret
      exact ⟨(by show Ending.returned (.int .i64 K) = _; rw [HKn.out]), us, HR.out, HMn.out, HG.out⟩

set_option maxRecDepth 10000 in
set_option maxHeartbeats 2000000 in
theorem held_r (base g cap n : Nat) (m : Int) (vs : List Value) (w : World) (hn : n ≤ 1000) (hm0 : 0 ≤ m) (hm1 : m ≤ 1000000) (h : Row3 w base g cap n vs) (hv : Marked m (n * 3) vs) :
    Calls Tryd.prog 20 #[.slice (some ⟨g, 0, none⟩) n cap, .int .i64 m] w fun e w' => e = .returned (.int .i64 (m + 3 * (n : Int))) ∧ w' = w := by
  have HR : Hid (Row3 w base g cap n vs) := h
  have HM : Hid (Marked m (n * 3) vs) := hv
  clear h hv
  go_enter Tryd.func20, Tryd.ntmps20
  go_wp2
  go_loopg [1, 5] n (fun gg k i wr => ∃ (q : Nat) (K : Int), q + gg = n ∧ i = .int .i64 q ∧ k = .int .i64 K ∧ Hid (K = m + 3 * (q : Int)) ∧ 0 ≤ K ∧ K ≤ 2000000 ∧ wr = w)
  case atStart => exact ⟨0, m, by omega, rfl, rfl, (by simp : m = m + 3 * ((0 : Nat) : Int)), hm0, by omega, rfl⟩
  case round =>
    obtain ⟨q, K, hq, rfl, rfl, HK, hK0, hK1, rfl⟩ := hrel
    by_cases hlt : q < n
    · have i1 : (q : Int) < (n : Int) := by omega
      have i2 : (0 : Int) ≤ (q : Int) := by omega
      have c0 : wr.cell? ⟨g, q * 3, none⟩ = some (.int .i64 K) := by
        rw [HR.out.cellAt _ (by omega), HM.out _ (by omega), HK.out]
        congr 2; omega
      have c1 : wr.cell? ⟨g, q * 3 + 1, none⟩ = some (.int .i64 (K + 1)) := by
        rw [HR.out.cellAt _ (by omega), HM.out _ (by omega), HK.out]
        congr 2; omega
      have c2 : wr.cell? ⟨g, q * 3 + 2, none⟩ = some (.int .i64 (K + 1 + 1)) := by
        rw [HR.out.cellAt _ (by omega), HM.out _ (by omega), HK.out]
        congr 2; omega
      go_wp2
      go_roundg (gk - 1)
      case measure => omega
      case rel => exact ⟨q + 1, K + 1 + 1 + 1, by omega, by go_num, by go_num, (by have := HK.out; omega : K + 1 + 1 + 1 = m + 3 * ((q + 1 : Nat) : Int)), by omega, by have := HK.out; omega, rfl⟩
    · have i1 : ¬ ((q : Int) < (n : Int)) := by omega
      have hqn : q = n := by omega
      have HKn : Hid (K = m + 3 * (n : Int)) := (by rw [← hqn]; exact HK.out : K = m + 3 * (n : Int))
      clear hqn HK
      go_wp2
      go_ret
      exact ⟨(by show Ending.returned (.int .i64 K) = _; rw [HKn.out]), rfl⟩

theorem mark_none (w : World) (m : Int) :
    Calls Tryd.prog 19 #[.slice none 0 0, .int .i64 m] w fun e w' => e = .returned (.int .i64 m) ∧ w' = w := by
  go_enter Tryd.func19, Tryd.ntmps19
  go_wp2
  go_loopg [1, 5] 0 (fun gg k i wr => i = .int .i64 0 ∧ k = .int .i64 m ∧ wr = w)
  case atStart => exact ⟨rfl, rfl, rfl⟩
  case round =>
    obtain ⟨rfl, rfl, rfl⟩ := hrel
    go_wp2
    go_ret
    exact ⟨rfl, rfl⟩
theorem held_none (w : World) (m : Int) :
    Calls Tryd.prog 20 #[.slice none 0 0, .int .i64 m] w fun e w' => e = .returned (.int .i64 m) ∧ w' = w := by
  go_enter Tryd.func20, Tryd.ntmps20
  go_wp2
  go_loopg [1, 5] 0 (fun gg k i wr => i = .int .i64 0 ∧ k = .int .i64 m ∧ wr = w)
  case atStart => exact ⟨rfl, rfl, rfl⟩
  case round =>
    obtain ⟨rfl, rfl, rfl⟩ := hrel
    go_wp2
    go_ret
    exact ⟨rfl, rfl⟩
set_option maxHeartbeats 1000000 in
theorem markE_r (op : Int) (base g cap n : Nat) (m : Int) (vs : List Value) (w : World) (hn : n ≤ 1000) (hm0 : 0 ≤ m) (hm1 : m ≤ 1000000) (h : Row3 w base g cap n vs) (hb : base ≤ w.heap.size) :
    Calls Tryd.prog 9 #[.agg #[.int .i64 op, .slice (some ⟨g, 0, none⟩) n cap], .int .i64 m] w fun e w' => e = .returned (.int .i64 (m + 3 * (n : Int))) ∧ ∃ vs', Row3 w' base g cap n vs' ∧ Marked m (n * 3) vs' ∧ w.grownBy w' (some g) := by
  have h1 : Row3 (w.alloc (.cells #[.int .i64 op, .slice (some ⟨g, 0, none⟩) n cap] 28)) base g cap n vs := World.ownsRow.alloc h _
  have HM : Hid (Calls Tryd.prog 19 #[.slice (some ⟨g, 0, none⟩) n cap, .int .i64 m] (w.alloc (.cells #[.int .i64 op, .slice (some ⟨g, 0, none⟩) n cap] 28)) fun e w' => ∃ vs', e = .returned (.int .i64 (m + 3 * (n : Int))) ∧ Row3 w' base g cap n vs' ∧ Marked m (n * 3) vs' ∧ (w.alloc (.cells #[.int .i64 op, .slice (some ⟨g, 0, none⟩) n cap] 28)).grownBy w' (some g)) := mark_r base g cap n m vs _ hn hm0 hm1 h1
  obtain ⟨K, hK⟩ : ∃ K, m + 3 * (n : Int) = K := ⟨_, rfl⟩
  rw [hK] at HM ⊢
  clear hK h1
  go_enter Tryd.func9, Tryd.ntmps9
  go_wp2_with fail
  refine HM.out.mono ?_
  rintro e w1 ⟨vs', rfl, h2, h3, h4⟩
  have h5 : w.grownBy w1 (some g) := gb_step (World.grownBy_alloc w _ (some g)) h4
  clear h4
  go_wp2
  go_ret
  exact ⟨rfl, vs', h2, h3, h5⟩
set_option maxHeartbeats 1000000 in
theorem heldE_r (op : Int) (base g cap n : Nat) (m : Int) (vs : List Value) (w : World) (hn : n ≤ 1000) (hm0 : 0 ≤ m) (hm1 : m ≤ 1000000) (h : Row3 w base g cap n vs) (hv : Marked m (n * 3) vs) :
    Calls Tryd.prog 10 #[.agg #[.int .i64 op, .slice (some ⟨g, 0, none⟩) n cap], .int .i64 m] w fun e w' => e = .returned (.int .i64 (m + 3 * (n : Int))) ∧ Below w.heap.size w w' := by
  have HM : Hid (Calls Tryd.prog 20 #[.slice (some ⟨g, 0, none⟩) n cap, .int .i64 m] (w.alloc (.cells #[.int .i64 op, .slice (some ⟨g, 0, none⟩) n cap] 28)) fun e w' => e = .returned (.int .i64 (m + 3 * (n : Int))) ∧ w' = w.alloc (.cells #[.int .i64 op, .slice (some ⟨g, 0, none⟩) n cap] 28)) := held_r base g cap n m vs _ hn hm0 hm1 (World.ownsRow.alloc h _) hv
  obtain ⟨K, hK⟩ : ∃ K, m + 3 * (n : Int) = K := ⟨_, rfl⟩
  have hK0 : ¬ (K < 0) := by omega
  rw [hK] at HM ⊢
  clear hK
  go_enter Tryd.func10, Tryd.ntmps10
  go_wp2_with fail
  refine HM.out.mono ?_
  rintro e w1 ⟨rfl, rfl⟩
  go_wp2
  go_ret
  exact ⟨rfl, by go_grown⟩
set_option maxHeartbeats 1000000 in
theorem markE_none (op : Int) (w : World) :
    Calls Tryd.prog 9 #[.agg #[.int .i64 op, .slice none 0 0], .int .i64 1] w fun e w' => e = .returned (.int .i64 1) ∧ Below w.heap.size w w' := by
  go_enter Tryd.func9, Tryd.ntmps9
  go_wp2_with fail
  refine (mark_none _ 1).mono ?_
  rintro e w1 ⟨rfl, rfl⟩
  go_wp2
  go_ret
  exact ⟨rfl, by go_grown⟩
set_option maxHeartbeats 1000000 in
theorem heldE_none (op : Int) (w : World) :
    Calls Tryd.prog 10 #[.agg #[.int .i64 op, .slice none 0 0], .int .i64 1] w fun e w' => e = .returned (.int .i64 1) ∧ Below w.heap.size w w' := by
  go_enter Tryd.func10, Tryd.ntmps10
  go_wp2_with fail
  refine (held_none _ 1).mono ?_
  rintro e w1 ⟨rfl, rfl⟩
  go_wp2
  go_ret
  exact ⟨rfl, by go_grown⟩

theorem args_row {W : World} {base : Nat} {f : List Nat} {v : Value} {xs : List ArgT} (h : ArgsOwn W base f v xs) : (v = .slice none 0 0 ∧ xs = [] ∧ f = []) ∨ ∃ b c us, v = .slice (some ⟨b, 0, none⟩) xs.length c ∧ f = [b] ∧ Row3 W base b c xs.length us := by
  obtain ⟨cs, F', h1, h2, rfl⟩ := h
  have hF : F' = [] := by
    clear h2
    induction h1 with
    | nil => rfl
    | add h hc hr ih => rw [ih, hr.1]; rfl
  subst hF
  rcases id h2.2 with ⟨rfl, hn⟩ | ⟨b, cap, cur, rfl, _⟩
  · exact .inl ⟨rfl, List.length_eq_zero_iff.1 hn, rfl⟩
  · exact .inr ⟨b, cap, cs, rfl, rfl, h2⟩

/-- The operands bear the marks from 1 on. -/
def MarkedT (W : World) (base : Nat) (v : Value) (n : Nat) : Prop := (v = .slice none 0 0 ∧ n = 0) ∨ ∃ g cap vs, v = .slice (some ⟨g, 0, none⟩) n cap ∧ Row3 W base g cap n vs ∧ Marked 1 (n * 3) vs
theorem MarkedT.later {W W' : World} {base : Nat} {v : Value} {n : Nat} (h : MarkedT W base v n) (g : Below W.heap.size W W') : MarkedT W' base v n := by
  rcases h with h | ⟨b, cap, vs, h1, h2, h3⟩
  · exact .inl h
  · exact .inr ⟨b, cap, vs, h1, World.ownsRow.kept h2 (gbb (row := none) g) (.inr (by simp [Value.ownBlock])), h3⟩
theorem markT (op : Int) (base : Nat) (a : Option Addr) (l c : Nat) (f : List Nat) (Y : List Arg) (w : World) (hY : Y.length ≤ 1000) (hb : base ≤ w.heap.size) (h : ArgsOwn w base f (.slice a l c) Y) :
    Calls Tryd.prog 9 #[.agg #[.int .i64 op, .slice a l c], .int .i64 1] w fun e w' => e = .returned (.int .i64 (1 + 3 * (Y.length : Int))) ∧ MarkedT w' base (.slice a l c) Y.length ∧ w.grownBy w' (Value.slice a l c).ownBlock := by
  rcases args_row h with ⟨hv, hn, _⟩ | ⟨b, cap, us, hv, _, hr⟩
  · subst hn
    rw [hv]
    exact (markE_none op w).mono fun e w' ⟨h1, h2⟩ => ⟨h1, .inl ⟨rfl, rfl⟩, gbb h2⟩
  · rw [hv]
    exact (markE_r op base b cap Y.length 1 us w hY (by omega) (by omega) hr hb).mono fun e w' ⟨h1, vs', h2, h3, h4⟩ => ⟨h1, .inr ⟨b, cap, vs', rfl, h2, h3⟩, h4⟩
theorem heldT (op : Int) (base : Nat) (a : Option Addr) (l c n : Nat) (w : World) (hn : n ≤ 1000) (h : MarkedT w base (.slice a l c) n) :
    Calls Tryd.prog 10 #[.agg #[.int .i64 op, .slice a l c], .int .i64 1] w fun e w' => e = .returned (.int .i64 (1 + 3 * (n : Int))) ∧ Below w.heap.size w w' := by
  rcases h with ⟨hv, rfl⟩ | ⟨b, cap, vs, hv, h2, h3⟩
  · rw [hv]; exact heldE_none op w
  · rw [hv]; exact heldE_r op base b cap n 1 vs w hn (by omega) (by omega) h2 h3

set_option maxHeartbeats 1000000 in
/-- An argument's copy marked: numbers over numbers. -/
theorem markE_w (op : Int) (a : Option Addr) (l c lo : Nat) (xs : List Arg) (w : World) (hl : l = xs.length) (hm : l ≤ 1048576) (hv : ArgsIs w lo (.slice a l c) xs) (hp : Plain lo w) :
    Calls Tryd.prog 9 #[.agg #[.int .i64 op, .slice a l c], .int .i64 1] w fun e w' => e = .returned (.int .i64 (1 + 3 * (l : Int))) ∧ WMk lo w.heap.size w w' := by
  have gA : Below w.heap.size w (w.alloc (.cells #[.int .i64 op, .slice a l c] 28)) := (Below.refl _ _).alloc (Nat.le_refl _) _
  have HM : Hid (Calls Tryd.prog 19 #[.slice a l c, .int .i64 1] (w.alloc (.cells #[.int .i64 op, .slice a l c] 28)) fun e w' => e = .returned (.int .i64 (1 + 3 * (l : Int))) ∧ WMk lo w.heap.size w w') := by
    have w0 := WMk.of_below lo w.heap.size gA
    obtain ⟨a', cp, e1, hh⟩ := args_nums hv hp
    simp only [Value.slice.injEq] at e1
    obtain ⟨rfl, _, rfl⟩ := e1
    rcases hh with h0 | ⟨b, o, rfl, h1, h2, h3, h4⟩
    · have h0' : l = 0 := by omega
      subst h0'
      exact (mark_args_w0 a c 1 _ (by omega) (by omega)).mono fun e w' ⟨q1, q2⟩ => ⟨by rw [q1]; rfl, by rw [q2]; exact w0⟩
    · subst hl
      refine (mark_args_w lo w.heap.size b o xs.length c 1 _ (by omega) (by omega) hm ?_ h1 h2 fun i hi => ?_).mono fun e w' ⟨q1, q2⟩ => ⟨q1, w0.trans q2⟩
      · obtain ⟨C, t, q⟩ := h3
        exact ⟨C, t, (gA.block _ h2).trans q⟩
      · obtain ⟨v, q⟩ := h4 i hi
        exact ⟨v, (Keeps.of_below gA 0) _ _ _ (Nat.zero_le _) q⟩
  obtain ⟨K, hK⟩ : ∃ K, 1 + 3 * (l : Int) = K := ⟨_, rfl⟩
  rw [hK] at HM ⊢
  clear hv hp gA hm hl
  go_enter Tryd.func9, Tryd.ntmps9
  go_wp2_with fail
  refine HM.out.mono ?_
  rintro e w1 ⟨rfl, g1⟩
  go_wp2
  go_ret
  exact ⟨rfl, g1⟩
end Go.Proofs.YtlgacbjopobeoaaDoor
/- The law FnExactPeepTurn. -/
namespace Go.Proofs.YtlgacbjopobeoaaDoor
open Go.RowKit Go.Shelf
set_option linter.unusedVariables false
set_option linter.unusedSimpArgs false

/-- The law's own argument stands in its box. -/
def LA (w : World) (op : Int) (a : Option Addr) (len cap : Nat) (W : World) : Prop := W.heap[w.heap.size]? = some (.cells #[.int .i64 op, .slice a len cap] 24 (0, 0)) ∧ Below w.heap.size w W
/-- An answer in its box, its operands owned. -/
def LB (n base : Nat) (f : List Nat) (T : Int) (a : Option Addr) (l c : Nat) (Y : List Arg) (W : World) : Prop := W.heap[n]? = some (.cells #[.int .i64 T, .slice a l c] 28 (0, 0)) ∧ ArgsOwn W base f (.slice a l c) Y
def LX (n : Nat) (op : Int) (a : Option Addr) (l c : Nat) (xs : List Arg) (W : World) : Prop := W.heap[n]? = some (.cells #[.int .i64 op, .slice a l c] 28 (0, 0)) ∧ ArgsIs W 0 (.slice a l c) xs
def LM (n base : Nat) (T : Int) (a : Option Addr) (l c k : Nat) (W : World) : Prop := W.heap[n]? = some (.cells #[.int .i64 T, .slice a l c] 28 (0, 0)) ∧ MarkedT W base (.slice a l c) k
theorem row_later {W W' : World} {n : Nat} {o : Obj} (h : W.heap[n]? = some o) (g : Below W.heap.size W W') : W'.heap[n]? = some o := (g.block _ (Array.getElem?_eq_some_iff.1 h).1).trans h
theorem LA.later {w W W' : World} {op : Int} {a : Option Addr} {len cap : Nat} (h : LA w op a len cap W) (g : Below W.heap.size W W') : LA w op a len cap W' := ⟨row_later h.1 g, h.2.trans (g.mono h.2.size)⟩
theorem LB.later {W W' : World} {n base : Nat} {f : List Nat} {T : Int} {a : Option Addr} {l c : Nat} {Y : List Arg} (h : LB n base f T a l c Y W) (g : Below W.heap.size W W') : LB n base f T a l c Y W' := ⟨row_later h.1 g, ArgsOwn.move (row := none) h.2 (gbb g) (fun b _ => by simp)⟩
theorem LX.later {W W' : World} {n : Nat} {T : Int} {a : Option Addr} {l c : Nat} {Y : List Arg} (h : LX n T a l c Y W) (g : Below W.heap.size W W') : LX n T a l c Y W' := ⟨row_later h.1 g, argsIs_move (Keeps.of_below g 0) (Nat.le_refl _) h.2⟩
theorem LM.later {W W' : World} {n base : Nat} {T : Int} {a : Option Addr} {l c k : Nat} (h : LM n base T a l c k W) (g : Below W.heap.size W W') : LM n base T a l c k W' := ⟨row_later h.1 g, h.2.later g⟩
theorem row_cells {W : World} {n : Nat} {x y : Value} {t : TypeId} (h : W.heap[n]? = some (.cells #[x, y] t (0, 0))) : W.cell? ⟨n, 0, none⟩ = some x ∧ W.cell? ⟨n, 1, none⟩ = some y ∧ n < W.heap.size :=
  ⟨(cell_of_row _ _ _ _ _ _ h).trans rfl, (cell_of_row _ _ _ _ _ _ h).trans rfl, (Array.getElem?_eq_some_iff.1 h).1⟩
theorem own_is {W : World} {base : Nat} {f : List Nat} {v : Value} {Y : List Arg} (h : ArgsOwn W base f v Y) : ArgsIs W 0 v Y := ArgsOwn.is h (Nat.zero_le _)
/-- Blocks that are as they were keep an owned row. -/
theorem own_same {W W' : World} {base : Nat} {f : List Nat} {v : Value} {Y : List Arg} (h : ArgsOwn W base f v Y) (hb : ∀ x ∈ f, W'.heap[x]? = W.heap[x]?) : ArgsOwn W' base f v Y := by
  obtain ⟨cs, F', h1, ⟨h2, h3⟩, h4⟩ := h
  refine ⟨cs, F', h1, ⟨h2, ?_⟩, h4⟩
  rcases h3 with h3 | ⟨g, cap, cur, e1, e2, e3⟩
  · exact .inl h3
  · refine .inr ⟨g, cap, cur, e1, e2, ?_⟩
    have hg : g ∈ f := by rw [h4, e1]; simp [Value.ownBlock]
    first
      | (rw [hb g hg]; exact e3)
      | (obtain ⟨q1, q2⟩ := e3; exact ⟨(hb g hg).trans q1, q2⟩)

/-- An argument's copy marked, a while behind its making. -/
theorem markE_l (op : Int) (a : Option Addr) (l c lo : Nat) (xs : List Arg) (w4 w : World) (hl : l = xs.length) (hm : l ≤ 1048576) (hv : ArgsIs w4 lo (.slice a l c) xs) (hp : Plain lo w4) (gB : Below w4.heap.size w4 w) :
    Calls Tryd.prog 9 #[.agg #[.int .i64 op, .slice a l c], .int .i64 1] w fun e w' => e = .returned (.int .i64 (1 + 3 * (l : Int))) ∧ WMk lo w4.heap.size w w' := by
  have gA : Below w.heap.size w (w.alloc (.cells #[.int .i64 op, .slice a l c] 28)) := (Below.refl _ _).alloc (Nat.le_refl _) _
  have gC : Below w4.heap.size w4 (w.alloc (.cells #[.int .i64 op, .slice a l c] 28)) := gB.trans (gA.mono gB.size)
  have HM : Hid (Calls Tryd.prog 19 #[.slice a l c, .int .i64 1] (w.alloc (.cells #[.int .i64 op, .slice a l c] 28)) fun e w' => e = .returned (.int .i64 (1 + 3 * (l : Int))) ∧ WMk lo w4.heap.size w w') := by
    have w0 := WMk.of_below lo w4.heap.size gA
    obtain ⟨a', cp, e1, hh⟩ := args_nums hv hp
    simp only [Value.slice.injEq] at e1
    obtain ⟨rfl, _, rfl⟩ := e1
    rcases hh with h0 | ⟨b, o, rfl, h1, h2, h3, h4⟩
    · have h0' : l = 0 := by omega
      subst h0'
      exact (mark_args_w0 a c 1 _ (by omega) (by omega)).mono fun e w' ⟨q1, q2⟩ => ⟨by rw [q1]; rfl, by rw [q2]; exact w0⟩
    · subst hl
      refine (mark_args_w lo w4.heap.size b o xs.length c 1 _ (by omega) (by omega) hm ?_ h1 h2 fun i hi => ?_).mono fun e w' ⟨q1, q2⟩ => ⟨q1, w0.trans q2⟩
      · obtain ⟨C, t, q⟩ := h3
        exact ⟨C, t, (gC.block _ h2).trans q⟩
      · obtain ⟨v, q⟩ := h4 i hi
        exact ⟨v, (Keeps.of_below gC 0) _ _ _ (Nat.zero_le _) q⟩
  obtain ⟨K, hK⟩ : ∃ K, 1 + 3 * (l : Int) = K := ⟨_, rfl⟩
  rw [hK] at HM ⊢
  clear hv hp gA gC gB hm hl
  go_enter Tryd.func9, Tryd.ntmps9
  go_wp2_with fail
  refine HM.out.mono ?_
  rintro e w1 ⟨rfl, g1⟩
  go_wp2
  go_ret
  exact ⟨rfl, g1⟩
end Go.Proofs.YtlgacbjopobeoaaDoor
/- The law FnExactPeepTurn: its walk. -/
namespace Go.Proofs.YtlgacbjopobeoaaDoor
open Go.RowKit Go.Shelf
set_option linter.unusedVariables false
set_option linter.unusedSimpArgs false

theorem turnR_u {op : Int} {xs : List Arg} {w : World} {e : Ending} {w' : World} {m : Nat} {T : Int} {bb : Bool} {Y : List Arg} (hm : m = Y.length) (hY : Y = turnXs op xs) (hT : T = turnOp op xs) (hb : bb = decide (turnOp op xs ≠ 0)) (h : TurnR op xs w e w') :
    ∃ (ta : Option Addr) (tc : Nat), e = .returned (.tuple #[.agg #[.int .i64 T, .slice ta m tc], .bool bb]) ∧ ArgsOwn w' w.heap.size (Value.slice ta m tc).ownBlock.toList (.slice ta m tc) Y ∧ Below w.heap.size w w' := by
  obtain ⟨a, l, cp, rfl, rfl, h2, h3⟩ := h
  subst hm hY hT hb
  exact ⟨a, cp, rfl, h2, h3⟩
theorem turnXs_len (op : Int) (xs : List Arg) : (turnXs op xs).length ≤ 2 := by
  unfold turnXs
  split
  · simp
  · next h =>
    cases hc : isC op xs with
    | false => exact absurd (turnOp_no hc) h
    | true => exact (isC_len hc).2.1
theorem to_elemX (op : Int) (a : Option Addr) (len cap : Nat) (xs : List Arg) (W : World) (hl : len = xs.length) (hm : len ≤ 1048576) (h : ArgsIs W 0 (.slice a len cap) xs) :
    Calls Tryd.prog 6 #[.agg #[.int .i64 op, .slice a len cap]] W fun e w' => ∃ (xa : Option Addr) (xc : Nat), e = .returned (.agg #[.int .i64 op, .slice xa len xc]) ∧ ArgsIs w' W.heap.size (.slice xa len xc) xs ∧ BP W.heap.size W w' :=
  (to_elemP ⟨op, xs⟩ [.int .i64 op, .slice a len cap] W 0 ⟨_, rfl, h⟩ (by show _ ≤ _; simp only [wE]; omega)).mono fun e w' ⟨ds, h1, _, _, ⟨v, h2, h3⟩, h4⟩ => by
    obtain ⟨xa, xc, rfl, _⟩ := id h3
    subst h2
    refine ⟨xa, xc, ?_, ?_, h4⟩
    · rw [h1, hl]
    · rw [hl]; exact h3

set_option maxRecDepth 10000 in
set_option maxHeartbeats 8000000 in
theorem turn_law (op : Int) (a : Option Addr) (len cap : Nat) (xs : List Arg) (w : World) (hl : len = xs.length) (hm : len ≤ 1048576) (hx : ArgsIs w 0 (.slice a len cap) xs) (hT : KT w) (hC : CT w)
    (HZ : Hid (∀ W, Calls Tryd.prog 4 #[.agg #[.int .i64 op, .slice a len cap], .int .i64 1048576] W fun e w' => e = .returned (.int .i64 (1048576 - (len : Int))) ∧ Below W.heap.size W w')) :
    Calls Tryd.prog 3 #[.agg #[.int .i64 op, .slice a len cap]] w fun e w' => e = .returned (.bool true) ∧ Below w.heap.size w w' := by
  obtain ⟨Y, HY⟩ : ∃ Y, Hid (Y = turnXs op xs) := ⟨_, rfl⟩
  obtain ⟨m, Hm⟩ : ∃ m, Hid (m = Y.length) := ⟨_, rfl⟩
  obtain ⟨T, HT⟩ : ∃ T, Hid (T = turnOp op xs) := ⟨_, rfl⟩
  obtain ⟨bb, Hbb⟩ : ∃ b, Hid (b = decide (turnOp op xs ≠ 0)) := ⟨_, rfl⟩
  have HY2 : Hid (m ≤ 2) := (by rw [Hm.out, HY.out]; exact turnXs_len op xs : m ≤ 2)
  have HTX : Hid (∀ W, Below w.heap.size w W → Calls Tryd.prog 6 #[.agg #[.int .i64 op, .slice a len cap]] W fun e w' => ∃ (xa : Option Addr) (xc : Nat), e = .returned (.agg #[.int .i64 op, .slice xa len xc]) ∧ ArgsIs w' W.heap.size (.slice xa len xc) xs ∧ BP W.heap.size W w') := fun W g => to_elemX op a len cap xs W hl hm (argsIs_move (Keeps.of_below g 0) (Nat.le_refl _) hx)
  have HPS : Hid (∀ W xa xc, ArgsIs W 0 (.slice xa len xc) xs → Calls Tryd.prog 5 #[.agg #[.int .i64 op, .slice xa len xc]] W fun e w' => ∃ (ta : Option Addr) (tc : Nat), e = .returned (.tuple #[.agg #[.int .i64 T, .slice ta m tc], .bool bb]) ∧ ArgsOwn w' W.heap.size (Value.slice ta m tc).ownBlock.toList (.slice ta m tc) Y ∧ Below W.heap.size W w') := fun W xa xc h => (turn_s op xa len xc xs W hl (by omega) (sl_of h).2).mono fun e w' h => turnR_u Hm.out HY.out HT.out Hbb.out h
  have HPI : Hid (∀ W xa xc, Below w.heap.size w W → ArgsIs W 0 (.slice xa len xc) xs → Calls Tryd.prog 7 #[.agg #[.int .i64 op, .slice xa len xc]] W fun e w' => ∃ (ta : Option Addr) (tc : Nat), e = .returned (.tuple #[.agg #[.int .i64 T, .slice ta m tc], .bool bb]) ∧ ArgsOwn w' W.heap.size (Value.slice ta m tc).ownBlock.toList (.slice ta m tc) Y ∧ Below W.heap.size W w') := fun W xa xc g h => (turn_i op xa len xc xs W (hT.later g) (hC.later g) hl (by omega) (sl_of h).2).mono fun e w' h => turnR_u Hm.out HY.out HT.out Hbb.out h
  have HEq : Hid (∀ W a1 c1 a2 c2, ArgsIs W 0 (.slice a1 m c1) Y → ArgsIs W 0 (.slice a2 m c2) Y → Calls Tryd.prog 8 #[.agg #[.int .i64 T, .slice a1 m c1], .agg #[.int .i64 T, .slice a2 m c2]] W fun e w' => e = .returned (.bool true) ∧ Below W.heap.size W w') := fun W a1 c1 a2 c2 h1 h2 => eq_r T a1 a2 Y m c1 c2 Hm.out (by have := HY2.out; omega) W (sl_of h1).2 (sl_of h2).2
  have HEx : Hid (∀ W a1 c1 a2 c2, ArgsIs W 0 (.slice a1 len c1) xs → ArgsIs W 0 (.slice a2 len c2) xs → Calls Tryd.prog 8 #[.agg #[.int .i64 op, .slice a1 len c1], .agg #[.int .i64 op, .slice a2 len c2]] W fun e w' => e = .returned (.bool true) ∧ Below W.heap.size W w') := fun W a1 c1 a2 c2 h1 h2 => eq_r op a1 a2 xs len c1 c2 hl (by omega) W (sl_of h1).2 (sl_of h2).2
  have Hl : Hid (len = xs.length ∧ len ≤ 1048576) := ⟨hl, hm⟩
  have ib : (bb != bb) = false := by cases bb <;> rfl
  have h1 : ¬ (1048576 - (len : Int) < 0) := by omega
  generalize 1048576 - (len : Int) = L at HZ h1
  have bA : Below w.heap.size w (w.alloc (.cells #[.int .i64 op, .slice a len cap] 24)) := (Below.refl _ _).alloc (Nat.le_refl _) _
  have A0 : LA w op a len cap (w.alloc (.cells #[.int .i64 op, .slice a len cap] 24)) := ⟨heap_alloc_last _ _, bA⟩
  clear hx hT hC hl hm HT Hbb HY bA
  go_enter Tryd.func3, Tryd.ntmps3
  go_wp2_with fail
  refine (HZ.out _).mono ?_
  rintro e w1 ⟨rfl, g1⟩
  have A1 : Hid (LA w op a len cap w1) := A0.later g1
  obtain ⟨q0, q1, q2⟩ := row_cells A1.out.1
  clear g1 A0
  go_wp2_with fail
  refine (HTX.out _ A1.out.2).mono ?_
  rintro e w2 ⟨t0, c0, rfl, k2, g2⟩
  have A2 : Hid (LA w op a len cap w2) := A1.out.later g2.bel
  have K2 : Hid (ArgsIs w2 0 (.slice t0 len c0) xs) := argsIs_move (Keeps.refl _ _) (Nat.zero_le _) k2
  clear g2 k2 q0 q1 q2 A1
  go_wp2_with fail
  refine (HPS.out _ _ _ K2.out).mono ?_
  rintro e w3 ⟨ta, tc, rfl, o3, g3⟩
  have A3 : Hid (LA w op a len cap w3) := A2.out.later g3
  have l23 : w2.heap.size ≤ w3.heap.size := g3.size
  have HW3 : Hid (w.heap.size < w3.heap.size) := (Array.getElem?_eq_some_iff.1 A3.out.1).1
  have gA3 : Below w3.heap.size w3 (w3.alloc (.cells #[.int .i64 T, .slice ta m tc] 28)) := (Below.refl _ _).alloc (Nat.le_refl _) _
  have A3a : Hid (LA w op a len cap (w3.alloc (.cells #[.int .i64 T, .slice ta m tc] 28))) := A3.out.later gA3
  have B3a : Hid (LB w3.heap.size w2.heap.size (Value.slice ta m tc).ownBlock.toList T ta m tc Y (w3.alloc (.cells #[.int .i64 T, .slice ta m tc] 28))) := ⟨heap_alloc_last _ _, ArgsOwn.move (row := none) o3 (gbb gA3) (fun b _ => by simp)⟩
  obtain ⟨q0, q1, q2⟩ := row_cells A3.out.1
  have HL1' : Hid (∀ x ∈ (Value.slice ta m tc).ownBlock.toList, x < w3.heap.size) := fun x hx => (ArgsOwn.lt o3 x hx).2
  clear g3 o3 K2 A2 gA3
  go_wp2_with fail
  refine (HTX.out _ A3a.out.2).mono ?_
  rintro e w4 ⟨xa, xc, rfl, k4, g4⟩
  have A4 : Hid (LA w op a len cap w4) := A3a.out.later g4.bel
  have B4 : Hid (LB w3.heap.size w2.heap.size (Value.slice ta m tc).ownBlock.toList T ta m tc Y w4) := B3a.out.later g4.bel
  have hs4 : (w3.alloc (.cells #[.int .i64 T, .slice ta m tc] 28)).heap.size = w3.heap.size + 1 := by simp
  have l34 : w3.heap.size + 1 ≤ w4.heap.size := by rw [← hs4]; exact g4.size
  have P4 : Hid (ArgsIs w4 (w3.alloc (.cells #[.int .i64 T, .slice ta m tc] 28)).heap.size (.slice xa len xc) xs ∧ Plain (w3.alloc (.cells #[.int .i64 T, .slice ta m tc] 28)).heap.size w4) := ⟨k4, g4.plain⟩
  have gA4 : Below w4.heap.size w4 (w4.alloc (.cells #[.int .i64 op, .slice xa len xc] 28)) := (Below.refl _ _).alloc (Nat.le_refl _) _
  have A4a : Hid (LA w op a len cap (w4.alloc (.cells #[.int .i64 op, .slice xa len xc] 28))) := A4.out.later gA4
  have B4a : Hid (LB w3.heap.size w2.heap.size (Value.slice ta m tc).ownBlock.toList T ta m tc Y (w4.alloc (.cells #[.int .i64 op, .slice xa len xc] 28))) := B4.out.later gA4
  have X4a : Hid (LX w4.heap.size op xa len xc xs (w4.alloc (.cells #[.int .i64 op, .slice xa len xc] 28))) := ⟨heap_alloc_last _ _, argsIs_move (Keeps.of_below gA4 0) (Nat.le_refl _) (argsIs_move (Keeps.refl _ _) (Nat.zero_le _) k4)⟩
  clear g4 k4 q0 q1 q2 A3 A3a B3a
  go_wp2_with fail
  refine (HPI.out _ _ _ A4a.out.2 X4a.out.2).mono ?_
  rintro e w5 ⟨ga, gc, rfl, o5, g5⟩
  have hs5 : (w4.alloc (.cells #[.int .i64 op, .slice xa len xc] 28)).heap.size = w4.heap.size + 1 := by simp
  have l45 : w4.heap.size + 1 ≤ w5.heap.size := by rw [← hs5]; exact g5.size
  have A5 : Hid (LA w op a len cap w5) := A4a.out.later g5
  have B5 : Hid (LB w3.heap.size w2.heap.size (Value.slice ta m tc).ownBlock.toList T ta m tc Y w5) := B4a.out.later g5
  have X5 : Hid (LX w4.heap.size op xa len xc xs w5) := X4a.out.later g5
  have gA5 : Below w5.heap.size w5 (w5.alloc (.cells #[.int .i64 T, .slice ga m gc] 28)) := (Below.refl _ _).alloc (Nat.le_refl _) _
  have A5a : Hid (LA w op a len cap (w5.alloc (.cells #[.int .i64 T, .slice ga m gc] 28))) := A5.out.later gA5
  have B5a : Hid (LB w3.heap.size w2.heap.size (Value.slice ta m tc).ownBlock.toList T ta m tc Y (w5.alloc (.cells #[.int .i64 T, .slice ga m gc] 28))) := B5.out.later gA5
  have X5a : Hid (LX w4.heap.size op xa len xc xs (w5.alloc (.cells #[.int .i64 T, .slice ga m gc] 28))) := X5.out.later gA5
  have G5a : Hid (LB w5.heap.size (w4.alloc (.cells #[.int .i64 op, .slice xa len xc] 28)).heap.size (Value.slice ga m gc).ownBlock.toList T ga m gc Y (w5.alloc (.cells #[.int .i64 T, .slice ga m gc] 28))) := ⟨heap_alloc_last _ _, ArgsOwn.move (row := none) o5 (gbb gA5) (fun b _ => by simp)⟩
  have HN5 : Hid (∀ k, k < (w4.alloc (.cells #[.int .i64 op, .slice xa len xc] 28)).heap.size ∨ k = w5.heap.size → some k ≠ (Value.slice ga m gc).ownBlock) := (fun k hk hc => by
    have := ArgsOwn.lt o5 k (by rw [← hc]; simp)
    omega : ∀ k, k < (w4.alloc (.cells #[.int .i64 op, .slice xa len xc] 28)).heap.size ∨ k = w5.heap.size → some k ≠ (Value.slice ga m gc).ownBlock)
  have HL1 : Hid (∀ x ∈ (Value.slice ta m tc).ownBlock.toList, x < w3.heap.size) := HL1'
  have HL3 : Hid (∀ x ∈ (Value.slice ga m gc).ownBlock.toList, w4.heap.size < x) := (fun x hx => by have := (ArgsOwn.lt o5 x hx).1; omega : ∀ x ∈ (Value.slice ga m gc).ownBlock.toList, w4.heap.size < x)
  have HS : Hid (w.heap.size < w3.heap.size ∧ w3.heap.size < w4.heap.size ∧ w4.heap.size < w5.heap.size ∧ (w3.alloc (.cells #[.int .i64 T, .slice ta m tc] 28)).heap.size = w3.heap.size + 1 ∧ (w4.alloc (.cells #[.int .i64 op, .slice xa len xc] 28)).heap.size = w4.heap.size + 1) := ⟨HW3.out, by omega, by omega, hs4, hs5⟩
  have E5 : Hid (Below w4.heap.size w4 (w5.alloc (.cells #[.int .i64 T, .slice ga m gc] 28))) := (gA4.trans (g5.mono (by rw [hs5]; omega))).alloc (by omega) _
  obtain ⟨q0, q1, q2⟩ := row_cells B5.out.1
  clear g5 o5 gA4 gA5 A4 B4 A4a B4a X4a A5 X5
  go_wp2_with fail
  refine (HEq.out _ _ _ _ _ (own_is G5a.out.2) (own_is B5a.out.2)).mono ?_
  rintro e w6 ⟨rfl, g6⟩
  have A6 : Hid (LA w op a len cap w6) := A5a.out.later g6
  have B6 : Hid (LB w3.heap.size w2.heap.size (Value.slice ta m tc).ownBlock.toList T ta m tc Y w6) := B5a.out.later g6
  have X6 : Hid (LX w4.heap.size op xa len xc xs w6) := X5a.out.later g6
  have G6 : Hid (LB w5.heap.size (w4.alloc (.cells #[.int .i64 op, .slice xa len xc] 28)).heap.size (Value.slice ga m gc).ownBlock.toList T ga m gc Y w6) := G5a.out.later g6
  have E6 : Hid (Below w4.heap.size w4 w6) := E5.out.trans (g6.mono E5.out.size)
  obtain ⟨x0, x1, x2⟩ := row_cells X6.out.1
  obtain ⟨p0, p1, p2⟩ := row_cells A6.out.1
  clear g6 q0 q1 q2 A5a B5a X5a G5a E5 B5
  go_upto_region 10 with fail
  go_region_with (first
    | (go_at_call 6; refine (HTX.out _ (by first | exact A6.out.2 | exact A6.out.2.drew)).mono ?_; rintro e w7 ⟨ya, yc, rfl, k7, g7⟩; have gX : Below w6.heap.size w6 w7 := (by first | exact g7.bel | exact (Below.refl _ _).drew.trans (g7.bel.mono (Nat.le_refl _))); have X7 := X6.out.later gX; have y0 : w7.cell? ⟨w4.heap.size, 0, none⟩ = some (.int .i64 op) := (row_cells X7.1).1; have y1 : w7.cell? ⟨w4.heap.size, 1, none⟩ = some (.slice xa len xc) := (row_cells X7.1).2.1; have k7' : ArgsIs w7 0 (.slice ya len yc) xs := argsIs_move (Keeps.refl _ _) (Nat.zero_le _) k7)
    | (go_at_call 8; refine (HEx.out _ _ _ _ _ X7.2 k7').mono ?_; rintro e w8 ⟨rfl, g8⟩; have gY : Below w6.heap.size w6 w8 := gX.trans (g8.mono gX.size)))
  all_goals
    have A8 : Hid (LA w op a len cap w8) := A6.out.later gY
    have B8 : Hid (LB w3.heap.size w2.heap.size (Value.slice ta m tc).ownBlock.toList T ta m tc Y w8) := B6.out.later gY
    have G8 : Hid (LB w5.heap.size (w4.alloc (.cells #[.int .i64 op, .slice xa len xc] 28)).heap.size (Value.slice ga m gc).ownBlock.toList T ga m gc Y w8) := G6.out.later gY
    have E8 : Hid (Below w4.heap.size w4 w8) := E6.out.trans (gY.mono E6.out.size)
    have R8 : Hid (LX w4.heap.size op xa len xc xs w8) := X6.out.later gY
    obtain ⟨u0, u1, u2⟩ := row_cells R8.out.1
    clear gY gX g8 k7 k7' X7 y0 y1 g7 x0 x1 x2 p0 p1 p2 A6 B6 G6 E6 X6
    go_wp2_with fail
    refine (markE_l op xa len xc (w3.alloc (.cells #[.int .i64 T, .slice ta m tc] 28)).heap.size xs w4 w8 Hl.out.1 (by have := Hl.out.2; omega) P4.out.1 P4.out.2 E8.out).mono ?_
    rintro e w9 ⟨rfl, g9⟩
    have A9 : Hid (LA w op a len cap w9) := ⟨(g9.out _ (Array.getElem?_eq_some_iff.1 A8.out.1).1 (.inl (by have := HS.out; omega))).trans A8.out.1, WMk.below A8.out.2 g9 (by have := HS.out; omega) A8.out.2.size⟩
    have B9 : Hid (LB w3.heap.size w2.heap.size (Value.slice ta m tc).ownBlock.toList T ta m tc Y w9) := ⟨(g9.out _ (Array.getElem?_eq_some_iff.1 B8.out.1).1 (.inl (by have := HS.out; omega))).trans B8.out.1, own_same B8.out.2 fun x hx => g9.out x (ArgsOwn.lt B8.out.2 x hx).2 (.inl (by have := HS.out; have := HL1.out x hx; omega))⟩
    have G9 : Hid (LB w5.heap.size (w4.alloc (.cells #[.int .i64 op, .slice xa len xc] 28)).heap.size (Value.slice ga m gc).ownBlock.toList T ga m gc Y w9) := ⟨(g9.out _ (Array.getElem?_eq_some_iff.1 G8.out.1).1 (.inr (by have := HS.out; omega))).trans G8.out.1, own_same G8.out.2 fun x hx => g9.out x (ArgsOwn.lt G8.out.2 x hx).2 (.inr (by have := HL3.out x hx; omega))⟩
    have i2 : ¬ (1 + 3 * (len : Int) < 0) := by omega
    obtain ⟨p0, p1, p2⟩ := row_cells G9.out.1
    obtain ⟨q0, q1, q2⟩ := row_cells B9.out.1
    clear g9 u0 u1 u2 A8 B8 G8 E8 R8
    go_wp2_with fail
    refine (HEq.out _ _ _ _ _ (own_is G9.out.2) (own_is B9.out.2)).mono ?_
    rintro e wa ⟨rfl, g10⟩
    have Aa : Hid (LA w op a len cap wa) := A9.out.later g10
    have Ba : Hid (LB w3.heap.size w2.heap.size (Value.slice ta m tc).ownBlock.toList T ta m tc Y wa) := B9.out.later g10
    have Ga : Hid (LB w5.heap.size (w4.alloc (.cells #[.int .i64 op, .slice xa len xc] 28)).heap.size (Value.slice ga m gc).ownBlock.toList T ga m gc Y wa) := G9.out.later g10
    have HMa : Hid (Calls Tryd.prog 9 #[.agg #[.int .i64 T, .slice ga m gc], .int .i64 1] wa fun e w' => e = .returned (.int .i64 (1 + 3 * (m : Int))) ∧ MarkedT w' (w4.alloc (.cells #[.int .i64 op, .slice xa len xc] 28)).heap.size (.slice ga m gc) m ∧ wa.grownBy w' (Value.slice ga m gc).ownBlock) := by
      have := markT T (w4.alloc (.cells #[.int .i64 op, .slice xa len xc] 28)).heap.size ga m gc _ Y wa (by rw [← Hm.out]; have := HY2.out; omega) (by have := HS.out; have := (Array.getElem?_eq_some_iff.1 Ga.out.1).1; omega) Ga.out.2
      rw [← Hm.out] at this
      exact this
    obtain ⟨x0, x1, x2⟩ := row_cells Ga.out.1
    clear g10 p0 p1 p2 q0 q1 q2 A9 B9 G9
    go_wp2_with fail
    refine HMa.out.mono ?_
    rintro e wb ⟨rfl, hMk, hgb⟩
    have Ab : Hid (LA w op a len cap wb) := by
      refine ⟨(hgb.block _ (Array.getElem?_eq_some_iff.1 Aa.out.1).1 (HN5.out _ (.inl (by have := HS.out; omega)))).trans Aa.out.1, ?_⟩
      exact ⟨hgb.os.trans Aa.out.2.os, hgb.tape.trans Aa.out.2.tape, hgb.output.trans Aa.out.2.output, Nat.le_trans Aa.out.2.size hgb.size, fun k hk => (hgb.block k (Nat.lt_of_lt_of_le hk Aa.out.2.size) (HN5.out _ (.inl (by have := HS.out; omega)))).trans (Aa.out.2.block k hk)⟩
    have Bb : Hid (LB w3.heap.size w2.heap.size (Value.slice ta m tc).ownBlock.toList T ta m tc Y wb) := ⟨(hgb.block _ (Array.getElem?_eq_some_iff.1 Ba.out.1).1 (HN5.out _ (.inl (by have := HS.out; omega)))).trans Ba.out.1, own_same Ba.out.2 fun x hx => hgb.block x (ArgsOwn.lt Ba.out.2 x hx).2 (HN5.out _ (.inl (by have := HS.out; have := HL1.out x hx; omega)))⟩
    have Mb : Hid (LM w5.heap.size (w4.alloc (.cells #[.int .i64 op, .slice xa len xc] 28)).heap.size T ga m gc m wb) := ⟨(hgb.block _ (Array.getElem?_eq_some_iff.1 Ga.out.1).1 (HN5.out _ (.inr rfl))).trans Ga.out.1, hMk⟩
    have i3 : ¬ (1 + 3 * (m : Int) < 0) := by omega
    have i4 : ((1 + 3 * (m : Int)) != (1 + 3 * (m : Int))) = false := by simp
    obtain ⟨y0, y1, y2⟩ := row_cells Mb.out.1
    clear hgb hMk x0 x1 x2 Aa Ba Ga HMa
    go_wp2_with fail
    refine (heldT T _ ga m gc m wb (by have := HY2.out; omega) Mb.out.2).mono ?_
    rintro e wc ⟨rfl, g11⟩
    have Ac : Hid (LA w op a len cap wc) := Ab.out.later g11
    have Bc : Hid (LB w3.heap.size w2.heap.size (Value.slice ta m tc).ownBlock.toList T ta m tc Y wc) := Bb.out.later g11
    have Mc : Hid (LM w5.heap.size (w4.alloc (.cells #[.int .i64 op, .slice xa len xc] 28)).heap.size T ga m gc m wc) := Mb.out.later g11
    obtain ⟨x0, x1, x2⟩ := row_cells Ac.out.1
    clear g11 y0 y1 y2 Ab Bb Mb
    go_wp2_with fail
    refine (HTX.out _ Ac.out.2).mono ?_
    rintro e wd ⟨da, dc, rfl, kd, g12⟩
    have Ad : Hid (LA w op a len cap wd) := Ac.out.later g12.bel
    have Bd : Hid (LB w3.heap.size w2.heap.size (Value.slice ta m tc).ownBlock.toList T ta m tc Y wd) := Bc.out.later g12.bel
    have Md : Hid (LM w5.heap.size (w4.alloc (.cells #[.int .i64 op, .slice xa len xc] 28)).heap.size T ga m gc m wd) := Mc.out.later g12.bel
    have Kd : Hid (ArgsIs wd 0 (.slice da len dc) xs) := argsIs_move (Keeps.refl _ _) (Nat.zero_le _) kd
    clear g12 kd x0 x1 x2 Ac Bc Mc
    go_wp2_with fail
    refine (HPI.out _ _ _ Ad.out.2 Kd.out).mono ?_
    rintro e wf ⟨ha, hc, rfl, of, g13⟩
    have gF : Below wf.heap.size wf (wf.alloc (.cells #[.int .i64 T, .slice ha m hc] 28)) := (Below.refl _ _).alloc (Nat.le_refl _) _
    have gD : Below wd.heap.size wd (wf.alloc (.cells #[.int .i64 T, .slice ha m hc] 28)) := g13.alloc g13.size _
    have Bf : Hid (LB w3.heap.size w2.heap.size (Value.slice ta m tc).ownBlock.toList T ta m tc Y wf) := Bd.out.later g13
    have Af : Hid (LA w op a len cap (wf.alloc (.cells #[.int .i64 T, .slice ha m hc] 28))) := Ad.out.later gD
    have Bf2 : Hid (LB w3.heap.size w2.heap.size (Value.slice ta m tc).ownBlock.toList T ta m tc Y (wf.alloc (.cells #[.int .i64 T, .slice ha m hc] 28))) := Bd.out.later gD
    have Mf : Hid (LM w5.heap.size (w4.alloc (.cells #[.int .i64 op, .slice xa len xc] 28)).heap.size T ga m gc m (wf.alloc (.cells #[.int .i64 T, .slice ha m hc] 28))) := Md.out.later gD
    have Hf : Hid (ArgsIs (wf.alloc (.cells #[.int .i64 T, .slice ha m hc] 28)) 0 (.slice ha m hc) Y) := own_is (ArgsOwn.move (row := none) of (gbb gF) (fun b _ => by simp))
    obtain ⟨x0, x1, x2⟩ := row_cells Bf.out.1
    clear g13 of gF gD Ad Bd Md Kd Bf
    go_wp2_with fail
    refine (HEq.out _ _ _ _ _ Hf.out (own_is Bf2.out.2)).mono ?_
    rintro e wg ⟨rfl, g14⟩
    have Ag : Hid (LA w op a len cap wg) := Af.out.later g14
    have Mg : Hid (LM w5.heap.size (w4.alloc (.cells #[.int .i64 op, .slice xa len xc] 28)).heap.size T ga m gc m wg) := Mf.out.later g14
    obtain ⟨y0, y1, y2⟩ := row_cells Mg.out.1
    clear g14 x0 x1 x2 Af Bf2 Mf Hf
    go_wp2_with fail
    refine (heldT T _ ga m gc m wg (by have := HY2.out; omega) Mg.out.2).mono ?_
    rintro e wh ⟨rfl, g15⟩
    have bh : Below w.heap.size w wh := Ag.out.2.trans (g15.mono Ag.out.2.size)
    clear g15 y0 y1 y2 Ag Mg
    go_wp2
    go_ret
    exact ⟨rfl, bh⟩

set_option maxHeartbeats 1000000 in
theorem turn_far (op : Int) (a : Option Addr) (len cap : Nat) (w : World)
    (HZ : Hid (∀ W, Calls Tryd.prog 4 #[.agg #[.int .i64 op, .slice a len cap], .int .i64 1048576] W fun e w' => e = .returned (.int .i64 (-1)) ∧ Below W.heap.size W w')) :
    Calls Tryd.prog 3 #[.agg #[.int .i64 op, .slice a len cap]] w fun e w' => e = .returned (.bool true) ∧ Below w.heap.size w w' := by
  have bA : Below w.heap.size w (w.alloc (.cells #[.int .i64 op, .slice a len cap] 24)) := (Below.refl _ _).alloc (Nat.le_refl _) _
  go_enter Tryd.func3, Tryd.ntmps3
  go_wp2_with fail
  refine (HZ.out _).mono ?_
  rintro e w1 ⟨rfl, g1⟩
  have b1 := bA.trans (g1.mono bA.size)
  clear g1
  go_wp2
  go_ret
  exact ⟨rfl, b1⟩

theorem walk_turn (op : Int) (a : Option Addr) (len cap : Nat) (xs : List Arg) (w : World) (hw : (Lit.int .i64 op).wf = true) (hin : len = xs.length ∧ len ≤ 9223372036854775807 ∧ Sl w a xs) (hT : KT w) (hC : CT w) :
    Calls Tryd.prog 3 #[.agg #[.int .i64 op, .slice a len cap]] w fun e w' => e = .returned (.bool true) ∧ Below w.heap.size w w' := by
  obtain ⟨hlen, hmax, hx⟩ := hin
  by_cases hb : len ≤ 1048576
  · exact turn_law op a len cap xs w hlen hb (args_is_sl hlen hmax hx) hT hC (fun W => by have := sz_r op a len cap W hmax; rwa [if_pos hb] at this)
  · exact turn_far op a len cap w (fun W => by have := sz_r op a len cap W hmax; rwa [if_neg hb] at this)
end Go.Proofs.YtlgacbjopobeoaaDoor
