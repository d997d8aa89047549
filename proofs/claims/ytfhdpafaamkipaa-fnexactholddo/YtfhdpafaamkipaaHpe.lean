/- Writes, deferred one by one, and done. -/
import Derived.Test.YtfhdpafaamkipaaHpd
namespace Go.Proofs.Ytfhdpafaamkipaa
open Go.RowKit
set_option linter.unusedVariables false
set_option linter.unusedSimpArgs false

/-- A write, as it is deferred. -/
def Clos (W : World) (g Hs He : Nat) (x : WrT) (d : Deferred) : Prop :=
  ∃ (t : Bool) (ch cb : Nat), x.slot = sl t ∧ ClosC W g Hs He x.byte t ch cb ∧
    ((x.kind = 1 ∧ d = ⟨.fn (.func 72) #[.pointer (some ⟨cb, 0, none⟩), .pointer (some ⟨ch, 0, none⟩)], #[]⟩) ∨
     (x.kind = 2 ∧ d = ⟨.fn (.func 73) #[.pointer (some ⟨cb, 0, none⟩), .pointer (some ⟨ch, 0, none⟩)], #[]⟩) ∨
     (x.kind = 3 ∧ d = ⟨.fn (.func 74) #[.pointer (some ⟨ch, 0, none⟩)], #[]⟩) ∨
     (x.kind = 4 ∧ d = ⟨.fn (.func 75) #[.pointer (some ⟨ch, 0, none⟩), .pointer (some ⟨cb, 0, none⟩)], #[]⟩))
/-- A write that writes nothing. -/
def Nop (x : WrT) : Prop := x.slot ≠ 0 ∧ x.slot ≠ 1 ∨ x.kind ≠ 1 ∧ x.kind ≠ 2 ∧ x.kind ≠ 3 ∧ x.kind ≠ 4
theorem ClosC.wide {V : World} {g lo lo' He He' x : Nat} {t : Bool} {ch cb : Nat} (h : ClosC V g lo He x t ch cb) (hl : lo' ≤ lo) (hh : He ≤ He') : ClosC V g lo' He' x t ch cb := by
  obtain ⟨h1, h2, h3, h4, h5, h6⟩ := h
  exact ⟨by omega, by omega, by omega, by omega, h5, h6⟩
theorem ClosC.later {V V' : World} {g lo He x : Nat} {t : Bool} {ch cb : Nat} (h : ClosC V g lo He x t ch cb) (e : ∀ k, lo ≤ k → k < He → V'.heap[k]? = V.heap[k]?) : ClosC V' g lo He x t ch cb := by
  obtain ⟨h1, h2, h3, h4, h5, h6⟩ := h
  have c : ∀ k, lo ≤ k → k < He → V'.cell? ⟨k, 0, none⟩ = V.cell? ⟨k, 0, none⟩ := fun k q1 q2 => by simp only [World.cell?, e k q1 q2]
  exact ⟨h1, h2, h3, h4, (c _ h1 h2).trans h5, (c _ h3 h4).trans h6⟩
theorem Clos.later {V V' : World} {g lo He : Nat} {x : WrT} {d : Deferred} (h : Clos V g lo He x d) (e : ∀ k, lo ≤ k → k < He → V'.heap[k]? = V.heap[k]?) : Clos V' g lo He x d := by
  obtain ⟨t, ch, cb, h1, h2, h3⟩ := h
  exact ⟨t, ch, cb, h1, h2.later e, h3⟩
theorem Clos.wide {V : World} {g lo lo' He He' : Nat} {x : WrT} {d : Deferred} (h : Clos V g lo He x d) (hl : lo' ≤ lo) (hh : He ≤ He') : Clos V g lo' He' x d := by
  obtain ⟨t, ch, cb, h1, h2, h3⟩ := h
  exact ⟨t, ch, cb, h1, h2.wide hl hh, h3⟩
theorem act_i (g : Nat) (x : WrT) (W : World) (hg : g < W.heap.size) :
    Calls Try.prog 68 #[.pointer (some ⟨g, 0, none⟩), .agg #[.int .i64 x.kind, .int .i64 x.slot, .int .u8 x.byte]] W fun e w' => ((Nop x ∧ e = .returned .nilFunc) ∨ ∃ fv cap, e = .returned (.func fv #[] cap) ∧ Clos w' g W.heap.size w'.heap.size x ⟨.fn fv cap, #[]⟩) ∧ Below W.heap.size W w' := by
  obtain ⟨k, s, y⟩ := x
  by_cases hs : s ≠ 0 ∧ s ≠ 1
  · exact (act_s g s k y W hg hs).mono fun e w' h => ⟨.inl ⟨.inl hs, h.1⟩, h.2⟩
  obtain ⟨t, rfl⟩ : ∃ t, s = sl t := by
    by_cases h0 : s = 0
    · exact ⟨false, h0⟩
    · exact ⟨true, by show s = 1; omega⟩
  by_cases h1 : k = 1
  · subst h1
    exact (act_1 g t y W hg).mono fun e w' ⟨ch, cb, q1, q2, q3⟩ => ⟨.inr ⟨_, _, q1, t, ch, cb, rfl, q2, .inl ⟨rfl, rfl⟩⟩, q3⟩
  by_cases h2 : k = 2
  · subst h2
    exact (act_2 g t y W hg).mono fun e w' ⟨ch, cb, q1, q2, q3⟩ => ⟨.inr ⟨_, _, q1, t, ch, cb, rfl, q2, .inr (.inl ⟨rfl, rfl⟩)⟩, q3⟩
  by_cases h3 : k = 3
  · subst h3
    exact (act_3 g t y W hg).mono fun e w' ⟨ch, cb, q1, q2, q3⟩ => ⟨.inr ⟨_, _, q1, t, ch, cb, rfl, q2, .inr (.inr (.inl ⟨rfl, rfl⟩))⟩, q3⟩
  by_cases h4 : k = 4
  · subst h4
    exact (act_4 g t y W hg).mono fun e w' ⟨ch, cb, q1, q2, q3⟩ => ⟨.inr ⟨_, _, q1, t, ch, cb, rfl, q2, .inr (.inr (.inr ⟨rfl, rfl⟩))⟩, q3⟩
  exact (act_k g t k y W hg ⟨h1, h2, h3, h4⟩).mono fun e w' h => ⟨.inl ⟨.inr ⟨h1, h2, h3, h4⟩, h.1⟩, h.2⟩
/-- Writes from one on, as they are deferred: the last laid first; the guard's at the bottom. -/
def Dw (V : World) (g Hs He : Nat) : List WrT → List Deferred → Prop
  | [], D => D = [⟨.fn (.func 67) #[], #[.pointer (some ⟨g, 0, none⟩)]⟩]
  | x :: xs, D => (Nop x ∧ Dw V g Hs He xs D) ∨ ∃ d D', D = d :: D' ∧ Clos V g Hs He x d ∧ Dw V g Hs He xs D'
theorem Dw.later {V V' : World} {g Hs He He' : Nat} (e : ∀ k, Hs ≤ k → k < He → V'.heap[k]? = V.heap[k]?) (hh : He ≤ He') : ∀ {xs : List WrT} {D : List Deferred}, Dw V g Hs He xs D → Dw V' g Hs He' xs D
  | [], D, h => h
  | x :: xs, D, h => by
    rcases h with ⟨h1, h2⟩ | ⟨d, D', h1, h2, h3⟩
    · exact .inl ⟨h1, Dw.later e hh h2⟩
    · exact .inr ⟨d, D', h1, (h2.later e).wide (Nat.le_refl _) hh, Dw.later e hh h3⟩
open Go.MuLone in
/-- The writes are done, in their order; then the guard is given back. -/
theorem run_all (tmps : Array Value) (R : Ending → World → Prop) (Vd : World) (g base Hs He : Nat) (hg : base ≤ g) (hgH : g < Hs) (hHe : Hs ≤ He) : ∀ (xs : List WrT) (D : List Deferred) (r : RomT) (W : World),
    Dw Vd g Hs He xs D → (∀ k, Hs ≤ k → k < He → W.heap[k]? = Vd.heap[k]?) → StW W g base Hs He 1 r → He ≤ W.heap.size →
    (∀ W', StW W' g base Hs He 0 (playT r xs) → Outs (chS base Hs He) W W' → R (.returned (.tuple #[])) W') →
    Leaves Try.prog Try.f50 tmps R D .returning W
  | [], D, r, W, hD, hM, hS, hW, hR => by
    have hD : D = _ := hD
    subst hD
    obtain ⟨xa, na, ca, xb, nb, cb, hA, hO, hK⟩ := hS
    refine leaves_cons (f := 67) (args := #[.pointer (some ⟨g, 0, none⟩)]) (by simp) (by simp [go_sem]) ?_
    refine (unlock_deferred muLib ⟨g, 0, none⟩ .returning W hA.c0 (hA.frz 0)).mono ?_
    rintro e u' w'' ⟨rfl, rfl, rfl⟩
    refine ⟨_, results_none rfl _ _ _, hR _ ⟨xa, na, ca, xb, nb, cb, ?_, hO.set (fun k e => (hK k e).1) rfl rfl, hK⟩ (outs_set _ _ _ _ ⟨hg, by omega⟩)⟩
    exact ⟨(cs_eq hA.c0).trans rfl, (cs_eq hA.c1).trans rfl, (cs_eq hA.c2).trans rfl, (cs_eq hA.c3).trans rfl, (cs_eq hA.c4).trans rfl, (cs_eq hA.c5).trans rfl, (cs_eq hA.c6).trans rfl, (cs_eq hA.c7).trans rfl, fun o => by simpa using hA.frz o, by simpa using hA.lt⟩
  | x :: xs, D, r, W, hD, hM, hS, hW, hR => by
    rcases hD with ⟨h1, h2⟩ | ⟨d, D', rfl, h2, h3⟩
    · refine run_all tmps R Vd g base Hs He hg hgH hHe xs D r W h2 hM hS hW fun W' q => hR W' ?_
      rw [play_cons, do_none h1]
      exact q
    · have step : ∀ w', StW w' g base Hs He 1 (doT r x) ∧ Outs (chS base Hs He) W w' → Leaves Try.prog Try.f50 tmps R D' .returning w' := fun w' q =>
        run_all tmps R Vd g base Hs He hg hgH hHe xs D' (doT r x) w' h3 (fun k k1 k2 => (q.2.block k (by omega) (fun e => e.2 ⟨k1, k2⟩)).trans (hM k k1 k2)) q.1 (Nat.le_trans hW q.2.size) fun W' q1 q2 => hR W' (by rw [play_cons]; exact q1) (q.2.trans q2)
      obtain ⟨t, ch, cb, hx, hC, hd⟩ := h2.later hM
      obtain ⟨_, _, _, _, q1, q2⟩ := hC
      rcases hd with ⟨hk, rfl⟩ | ⟨hk, rfl⟩ | ⟨hk, rfl⟩ | ⟨hk, rfl⟩
      · refine leaves_cons (f := 72) (args := #[.pointer (some ⟨cb, 0, none⟩), .pointer (some ⟨ch, 0, none⟩)]) (by simp) (by simp [go_sem]) ?_
        refine (run_1 W g base Hs He r t x hk hx ch cb hg hgH q1 q2 hS .returning).mono ?_
        rintro e u' w'' ⟨rfl, rfl, h5⟩
        exact step _ h5
      · refine leaves_cons (f := 73) (args := #[.pointer (some ⟨cb, 0, none⟩), .pointer (some ⟨ch, 0, none⟩)]) (by simp) (by simp [go_sem]) ?_
        refine (run_2 W g base Hs He r t x hk hx ch cb hg hgH q1 q2 hS .returning).mono ?_
        rintro e u' w'' ⟨rfl, rfl, h5⟩
        exact step _ h5
      · refine leaves_cons (f := 74) (args := #[.pointer (some ⟨ch, 0, none⟩)]) (by simp) (by simp [go_sem]) ?_
        refine (run_3 W g base Hs He r t x hk hx ch hg hgH q1 hS .returning).mono ?_
        rintro e u' w'' ⟨rfl, rfl, h5⟩
        exact step _ h5
      · refine leaves_cons (f := 75) (args := #[.pointer (some ⟨ch, 0, none⟩), .pointer (some ⟨cb, 0, none⟩)]) (by simp) (by simp [go_sem]) ?_
        refine (run_4 W g base Hs He r t x hk hx ch cb hg hgH hHe hW q1 q2 hS .returning).mono ?_
        rintro e u' w'' ⟨rfl, rfl, h5⟩
        exact step _ h5
end Go.Proofs.Ytfhdpafaamkipaa
