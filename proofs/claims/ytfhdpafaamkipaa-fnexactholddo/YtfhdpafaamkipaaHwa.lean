/- Rows of writes: by themselves, owned, appended to. -/
import Derived.Test.YtfhdpafaamkipaaHih
namespace Go.Proofs.Ytfhdpafaamkipaa
open Go.RowKit
set_option linter.unusedVariables false
set_option linter.unusedSimpArgs false

/-- Writes at a place in memory. -/
def Ws (w : World) (b o n : Nat) (f : Nat → WrT) : Prop := ∀ j, j < n → w.cell? ⟨b, o + j * 3, none⟩ = some (.int .i64 (f j).kind) ∧ w.cell? ⟨b, o + j * 3 + 1, none⟩ = some (.int .i64 (f j).slot) ∧ w.cell? ⟨b, o + j * 3 + 1 + 1, none⟩ = some (.int .u8 ((f j).byte : Nat))
/-- Writes at a slice. -/
def WsA (w : World) (a : Option Addr) (n : Nat) (f : Nat → WrT) : Prop := n = 0 ∨ ∃ b o, a = some ⟨b, o, none⟩ ∧ b < w.heap.size ∧ Ws w b o n f
theorem WsA.later {w w' : World} {a : Option Addr} {n B : Nat} {f : Nat → WrT} (h : WsA w a n f) (b : Below B w w') (hB : w.heap.size ≤ B) : WsA w' a n f := by
  rcases h with h | ⟨g, o, h1, h2, h3⟩
  · exact .inl h
  · have hg : g < B := by omega
    exact .inr ⟨g, o, h1, Nat.lt_of_lt_of_le h2 b.size, fun j hj => ⟨(b.cell (p := ⟨g, o + j * 3, none⟩) hg).trans (h3 j hj).1, (b.cell (p := ⟨g, o + j * 3 + 1, none⟩) hg).trans (h3 j hj).2.1, (b.cell (p := ⟨g, o + j * 3 + 1 + 1, none⟩) hg).trans (h3 j hj).2.2⟩⟩
theorem WsA.take {w : World} {a : Option Addr} {n m : Nat} {f : Nat → WrT} (h : WsA w a n f) (hm : m ≤ n) : WsA w a m f := by
  rcases h with h | ⟨g, o, h1, h2, h3⟩
  · exact .inl (by omega)
  · exact .inr ⟨g, o, h1, h2, fun j hj => h3 j (by omega)⟩
theorem WsA.congr {w : World} {a : Option Addr} {n : Nat} {f f' : Nat → WrT} (h : WsA w a n f) (e : ∀ j, j < n → f j = f' j) : WsA w a n f' := by
  rcases h with h | ⟨g, o, h1, h2, h3⟩
  · exact .inl h
  · exact .inr ⟨g, o, h1, h2, fun j hj => by rw [← e j hj]; exact h3 j hj⟩
/-- A row of writes of one's own. -/
structure Wy (w : World) (g n : Nat) (f : Nat → WrT) : Prop where
  ws : Ws w g 0 n f
  frz : ∀ o, w.frozen? ⟨g, o, none⟩ = false
  lt : g < w.heap.size
theorem Wy.later {w w' : World} {g n B : Nat} {f : Nat → WrT} (h : Wy w g n f) (b : Below B w w') (hg : g < B) : Wy w' g n f :=
  ⟨fun j hj => ⟨(b.cell (p := ⟨g, 0 + j * 3, none⟩) hg).trans (h.ws j hj).1, (b.cell (p := ⟨g, 0 + j * 3 + 1, none⟩) hg).trans (h.ws j hj).2.1, (b.cell (p := ⟨g, 0 + j * 3 + 1 + 1, none⟩) hg).trans (h.ws j hj).2.2⟩, fun o => (b.frozen hg).trans (h.frz o), Nat.lt_of_lt_of_le h.lt b.size⟩
theorem Wy.outs {S : Nat → Prop} {w w' : World} {g n : Nat} {f : Nat → WrT} (h : Wy w g n f) (b : Outs S w w') (hs : ¬ S g) : Wy w' g n f := by
  have e := b.block g h.lt hs
  have c : ∀ o, w'.cell? ⟨g, o, none⟩ = w.cell? ⟨g, o, none⟩ := fun o => by simp only [World.cell?, e]
  exact ⟨fun j hj => ⟨(c _).trans (h.ws j hj).1, (c _).trans (h.ws j hj).2.1, (c _).trans (h.ws j hj).2.2⟩, fun o => by have := h.frz o; simp only [World.frozen?, e] at this ⊢; exact this, Nat.lt_of_lt_of_le h.lt b.size⟩
theorem Wy.congr {w : World} {g n : Nat} {f f' : Nat → WrT} (h : Wy w g n f) (e : ∀ j, j < n → f j = f' j) : Wy w g n f' :=
  ⟨fun j hj => by rw [← e j hj]; exact h.ws j hj, h.frz, h.lt⟩
theorem Wy.wsa {w : World} {g n : Nat} {f : Nat → WrT} (h : Wy w g n f) : WsA w (some ⟨g, 0, none⟩) n f := .inr ⟨g, 0, rfl, h.lt, h.ws⟩
theorem Wy.other {w : World} {g n b : Nat} {f : Nat → WrT} (h : Wy w g n f) (hb : b ≠ g) (o : Nat) (v : Value) : Wy (w.setCell ⟨b, o, none⟩ v) g n f := by
  have c : ∀ o', (w.setCell ⟨b, o, none⟩ v).cell? ⟨g, o', none⟩ = w.cell? ⟨g, o', none⟩ := fun o' => World.cell?_setCell_other _ _ _ _ (by simp [hb])
  exact ⟨fun j hj => ⟨(c _).trans (h.ws j hj).1, (c _).trans (h.ws j hj).2.1, (c _).trans (h.ws j hj).2.2⟩, fun o' => by simpa using h.frz o', by simpa using h.lt⟩
/-- Three numbers written at a place of the row. -/
theorem Wy.set {w : World} {g n : Nat} {f : Nat → WrT} (h : Wy w g n f) (i : Nat) (hi : i < n) (x : WrT) :
    Wy (((w.setCell ⟨g, i * 3, none⟩ (.int .i64 x.kind)).setCell ⟨g, i * 3 + 1, none⟩ (.int .i64 x.slot)).setCell ⟨g, i * 3 + 1 + 1, none⟩ (.int .u8 (x.byte : Nat))) g n (fun j => if j = i then x else f j) := by
  refine ⟨fun j hj => ?_, fun o => by simpa using h.frz o, by simpa using h.lt⟩
  have o1 : ∀ (W : World) (p q : Nat) (v : Value), p ≠ q → (W.setCell ⟨g, p, none⟩ v).cell? ⟨g, q, none⟩ = W.cell? ⟨g, q, none⟩ := fun W p q v hp => World.cell?_setCell_other _ _ _ _ (by simp [hp])
  have hw := h.ws j hj
  simp only [Nat.zero_add] at hw ⊢
  by_cases e : j = i
  · subst e
    simp only [if_true]
    refine ⟨?_, ?_, ?_⟩
    · rw [o1 _ _ _ _ (by omega), o1 _ _ _ _ (by omega)]
      exact World.cell?_setCell_same _ _ _ hw.1
    · rw [o1 _ _ _ _ (by omega)]
      exact World.cell?_setCell_same _ _ _ ((o1 _ _ _ _ (by omega)).trans hw.2.1)
    · exact World.cell?_setCell_same _ _ _ ((o1 _ _ _ _ (by omega)).trans ((o1 _ _ _ _ (by omega)).trans hw.2.2))
  · simp only [e, if_false]
    refine ⟨?_, ?_, ?_⟩
    · rw [o1 _ _ _ _ (by omega), o1 _ _ _ _ (by omega), o1 _ _ _ _ (by omega)]; exact hw.1
    · rw [o1 _ _ _ _ (by omega), o1 _ _ _ _ (by omega), o1 _ _ _ _ (by omega)]; exact hw.2.1
    · rw [o1 _ _ _ _ (by omega), o1 _ _ _ _ (by omega), o1 _ _ _ _ (by omega)]; exact hw.2.2
/-- Writes at a slice of one's own: nil, or a row made from `base` on. -/
def Ow (w : World) (base : Nat) (a : Option Addr) (n : Nat) (f : Nat → WrT) : Prop := (a = none ∧ n = 0) ∨ ∃ g, a = some ⟨g, 0, none⟩ ∧ base ≤ g ∧ Wy w g n f
theorem Ow.wsa {w : World} {base : Nat} {a : Option Addr} {n : Nat} {f : Nat → WrT} (h : Ow w base a n f) : WsA w a n f := by
  rcases h with ⟨_, h⟩ | ⟨g, rfl, _, h⟩
  · exact .inl h
  · exact h.wsa
theorem Ow.later {w w' : World} {base : Nat} {a : Option Addr} {n : Nat} {f : Nat → WrT} (h : Ow w base a n f) (b : Below w.heap.size w w') : Ow w' base a n f := by
  rcases h with h | ⟨g, h1, h2, h3⟩
  · exact .inl h
  · exact .inr ⟨g, h1, h2, h3.later b h3.lt⟩
theorem Ow.outs {S : Nat → Prop} {w w' : World} {base n : Nat} {a : Option Addr} {f : Nat → WrT} (h : Ow w base a n f) (b : Outs S w w') (hs : ∀ g, a = some ⟨g, 0, none⟩ → ¬ S g) : Ow w' base a n f := by
  rcases h with h | ⟨g, h1, h2, h3⟩
  · exact .inl h
  · exact .inr ⟨g, h1, h2, h3.outs b (hs g h1)⟩
theorem Ow.lt {W : World} {base n : Nat} {a : Option Addr} {f : Nat → WrT} (h : Ow W base a n f) (k : Nat) (e : atB a k) : base ≤ k ∧ k < W.heap.size := by
  rcases h with ⟨h, _⟩ | ⟨g, h, h1, h2⟩
  · unfold atB at e; rw [h] at e; cases e
  · unfold atB at e; rw [h] at e; cases e; exact ⟨h1, h2.lt⟩

theorem infoWr : (Try.prog.info? 42).map (fun i => (i.zero, i.size, i.bytes)) = some (some (.agg #[.int .i64 0, .int .i64 0, .int .u8 0]), 3, 24) := by kernel_rfl
/-- The cells of writes. -/
def clW (l : List WrT) : List Value := l.flatMap fun x => [.int .i64 x.kind, .int .i64 x.slot, .int .u8 (x.byte : Nat)]
theorem clW_app (l m : List WrT) : clW (l ++ m) = clW l ++ clW m := by simp [clW]
theorem clW_len (l : List WrT) : (clW l).length = l.length * 3 := by
  induction l with
  | nil => rfl
  | cons x l ih => rw [show clW (x :: l) = [.int .i64 x.kind, .int .i64 x.slot, .int .u8 (x.byte : Nat)] ++ clW l from rfl, List.length_append, ih, List.length_cons]; simp; omega
theorem clW_one (l : List WrT) : ∀ u ∈ clW l, u.oneCell' = true := by
  intro u hu
  simp [clW] at hu
  obtain ⟨x, _, rfl | rfl | rfl⟩ := hu <;> rfl
theorem clW_get : ∀ (l : List WrT) (j : Nat) (x : WrT), l[j]? = some x → (clW l)[j * 3]? = some (.int .i64 x.kind) ∧ (clW l)[j * 3 + 1]? = some (.int .i64 x.slot) ∧ (clW l)[j * 3 + 1 + 1]? = some (.int .u8 (x.byte : Nat))
  | [], j, x, h => by simp at h
  | y :: l, 0, x, h => by
    simp at h
    subst h
    exact ⟨rfl, rfl, rfl⟩
  | y :: l, j + 1, x, h => by
    simp only [List.getElem?_cons_succ] at h
    obtain ⟨h1, h2, h3⟩ := clW_get l j x h
    have e : clW (y :: l) = [.int .i64 y.kind, .int .i64 y.slot, .int .u8 (y.byte : Nat)] ++ clW l := rfl
    have g : ∀ k, ([Value.int .i64 y.kind, .int .i64 y.slot, .int .u8 (y.byte : Nat)] ++ clW l)[k + 3]? = (clW l)[k]? := fun k => by
      rw [List.getElem?_append_right (by simp)]
      simp
    rw [e, show (j + 1) * 3 = j * 3 + 3 by omega, show j * 3 + 3 + 1 = j * 3 + 1 + 3 by omega, show j * 3 + 1 + 3 + 1 = j * 3 + 1 + 1 + 3 by omega, g, g, g]
    exact ⟨h1, h2, h3⟩
/-- A list's writes by their places. -/
def fW (l : List WrT) (j : Nat) : WrT := l.getD j ⟨0, 0, 0⟩
theorem fW_get {l : List WrT} {j : Nat} (hj : j < l.length) : l[j]? = some (fW l j) := by
  unfold fW
  rw [List.getD_eq_getElem?_getD, List.getElem?_eq_getElem hj]
  rfl
def OwW (w : World) (base : Nat) (v : Value) (l : List WrT) : Prop := w.ownsRow base 42 3 v l.length (clW l)
theorem oww_len {W : World} {H n cap : Nat} {a : Option Addr} {l : List WrT} (h : OwW W H (.slice a n cap) l) : n = l.length := by
  rcases h.2 with ⟨hv, h0⟩ | ⟨g, cp, cur, hv, _⟩
  · simp only [Value.slice.injEq] at hv; omega
  · simp only [Value.slice.injEq] at hv; exact hv.2.1
theorem oww_base {W : World} {H H' : Nat} {v : Value} {l : List WrT} (h : OwW W H v l) (hH : H' ≤ H) : OwW W H' v l := World.ownsRow.mono h hH
theorem oww_ow {w : World} {base : Nat} {a : Option Addr} {n c : Nat} {l : List WrT} (h : OwW w base (.slice a n c) l) : Ow w base a n (fW l) := by
  have hn := oww_len h
  rcases id h.2 with ⟨hv, h0⟩ | ⟨g, cp, cur, hv, hb, hg, _⟩
  · simp only [Value.slice.injEq] at hv
    exact .inl ⟨hv.1, hv.2.1⟩
  · simp only [Value.slice.injEq] at hv
    obtain ⟨rfl, _, rfl⟩ := hv
    refine .inr ⟨g, rfl, hb, fun j hj => ?_, fun o => by simp [World.frozen?, hg], (Array.getElem?_eq_some_iff.1 hg).1⟩
    obtain ⟨e1, e2, e3⟩ := clW_get l j _ (fW_get (by omega))
    have q : ∀ k u, (clW l)[k]? = some u → w.cell? ⟨g, 0 + k, none⟩ = some u := fun k u hu => by
      have := World.ownsRow.cells h (g := g) rfl k _ hu
      rwa [show (⟨g, 0, none⟩ : Addr).add k = ⟨g, 0 + k, none⟩ from Addr.add_mid g 0 k] at this
    exact ⟨q _ _ e1, q _ _ e2, q _ _ e3⟩
theorem own_madeW (w : World) (base : Nat) (hb : base ≤ w.heap.size) (l : List WrT) (hl : l.length ≤ 1000000) : OwW (w.alloc (.cells (clW l).toArray 42)) base (.slice (some ⟨w.heap.size, 0, none⟩) l.length l.length) l := by
  refine ⟨by rw [clW_len], .inr ⟨w.heap.size, l.length, (clW l).toArray, rfl, hb, heap_alloc_last _ _, Nat.le_refl _, by unfold maxLen; omega, by simp [clW_len], ?_⟩⟩
  rw [List.take_of_length_le (by simp [clW_len])]
/-- Writes, one or more, behind a row of one's own. -/
theorem appW (W : World) (H g0 n cap b c : Nat) (l k : List WrT) (own0 : OwW W H (.slice (some ⟨g0, 0, none⟩) n cap) l) (hk : 0 < k.length) (hbig : n + k.length ≤ 2000000) (hH : H ≤ W.heap.size)
    (hsrc : ∀ j u, (clW k)[j]? = some u → W.cell? ⟨b, 0 + j, none⟩ = some u) :
    ∃ (g cap' : Nat) (w' : World), (∀ ty, (Builtin.append_ #[31, 31] ty #[.slice (some ⟨g0, 0, none⟩) n cap, .slice (some ⟨b, 0, none⟩) k.length c]).run Try.prog W = .ok (.slice (some ⟨g, 0, none⟩) (n + k.length) cap') w') ∧ OwW w' H (.slice (some ⟨g, 0, none⟩) (n + k.length) cap') (l ++ k) ∧ W.grownBy w' (some g0) ∧ (g = g0 ∨ g = W.heap.size) := by
  obtain ⟨ti, hi, hz0, hz1, hz2⟩ := info_parts infoWr
  have hn := oww_len own0
  have hrun := fun ty => run_append_lies (P := Try.prog) W 31 ty H 42 ti (.agg #[.int .i64 0, .int .i64 0, .int .u8 0]) 3 24 Try.underlying31 hi hz0 hz1 hz2 rfl (by decide) (.slice (some ⟨g0, 0, none⟩) n cap) n (clW l) (by unfold OwW at own0; rw [← hn] at own0; exact own0) ⟨b, 0, none⟩ k.length c (clW k) (by rw [clW_len]) (fun j u hu => by
    rw [show (⟨b, 0, none⟩ : Addr).add j = ⟨b, 0 + j, none⟩ from Addr.add_mid b 0 j]
    exact hsrc j u hu) (clW_one k) hk (by unfold maxLen; omega) (by omega) hH _ rfl
  obtain ⟨g, cap', w', hr, own, gg, hat, hlt⟩ := hrun 31
  refine ⟨g, cap', w', fun ty => ?_, ?_, gg, ?_⟩
  · have : (Builtin.append_ #[31, 31] ty #[.slice (some ⟨g0, 0, none⟩) n cap, .slice (some ⟨b, 0, none⟩) k.length c]).run Try.prog W = (Builtin.append_ #[31, 31] 31 #[.slice (some ⟨g0, 0, none⟩) n cap, .slice (some ⟨b, 0, none⟩) k.length c]).run Try.prog W := by simp only [Builtin.append_]
    rw [this, hr]
  · unfold OwW
    rw [clW_app, List.length_append, ← hn]
    exact own
  · rcases hat with h | h
    · exact .inl (by simpa [Value.ownBlock] using h.symm)
    · exact .inr h
/-- What was just built, appended. -/
theorem appWm (W : World) (H g0 n cap : Nat) (l k : List WrT) (own0 : OwW W H (.slice (some ⟨g0, 0, none⟩) n cap) l) (hk : 0 < k.length) (hbig : n + k.length ≤ 2000000) (hH : H ≤ W.heap.size) :
    ∃ (g cap' : Nat) (w' : World), (∀ ty, (Builtin.append_ #[31, 31] ty #[.slice (some ⟨g0, 0, none⟩) n cap, .slice (some ⟨W.heap.size, 0, none⟩) k.length k.length]).run Try.prog (W.alloc (.cells (clW k).toArray 42)) = .ok (.slice (some ⟨g, 0, none⟩) (n + k.length) cap') w') ∧ OwW w' H (.slice (some ⟨g, 0, none⟩) (n + k.length) cap') (l ++ k) ∧ Outs (fun x => H ≤ x) W w' := by
  have gA : Below W.heap.size W (W.alloc (.cells (clW k).toArray 42)) := (Below.refl _ _).alloc (Nat.le_refl _) _
  have hg0 : H ≤ g0 := by
    rcases own0.2 with ⟨hv, _⟩ | ⟨g, cp, cur, hv, hb, _⟩
    · simp at hv
    · simp only [Value.slice.injEq, Option.some.injEq, Addr.mk.injEq, and_true] at hv; omega
  have own1 : OwW (W.alloc (.cells (clW k).toArray 42)) H (.slice (some ⟨g0, 0, none⟩) n cap) l := by
    obtain ⟨q1, q2⟩ := own0
    refine ⟨q1, ?_⟩
    rcases q2 with h | ⟨g, cp, cur, hv, hb, hg, hrest⟩
    · exact .inl h
    · exact .inr ⟨g, cp, cur, hv, hb, (gA.block _ (Array.getElem?_eq_some_iff.1 hg).1).trans hg, hrest⟩
  obtain ⟨g, cap', w', hr, ho, hg, hat⟩ := appW _ H g0 n cap W.heap.size k.length l k own1 hk hbig (by simp; omega) (fun j u hu => by
    rw [Nat.zero_add, cell_of_row _ _ _ _ _ _ (heap_alloc_last W _)]
    simpa using hu)
  refine ⟨g, cap', w', hr, ho, (Outs.of_below gA).trans (.of_grown hg fun x e => by cases e; exact hg0)⟩
end Go.Proofs.Ytfhdpafaamkipaa
