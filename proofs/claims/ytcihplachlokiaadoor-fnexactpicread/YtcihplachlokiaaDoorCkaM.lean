/- The addresses of the numbers of lists of lists, in the order in which they are marked. -/
import Derived.Test.YtcihplachlokiaaDoorCfa
import Derived.Test.YtcihplachlokiaaDoorCaM
namespace Go.Proofs.YtcihplachlokiaaDoor
open Go.RowKit
set_option linter.unusedVariables false

def tI (x : InstT) : Nat := 2 + 3 * x.one.args.length
def ps (xs : List InstT) (j : Nat) : Nat := ((xs.take j).map tI).sum
def tR (r : List InstT) : Nat := (r.map tI).sum
def ArgsL (w0 : World) (L : List (Nat × Nat)) (p : Nat) (s : Value) (n : Nat) : Prop := ∃ a cp, s = .slice a n cp ∧ ∀ i, i < n * 3 → ∃ b o u, a = some ⟨b, o, none⟩ ∧ L[p + i]? = some (b, o + i) ∧ w0.cell? ⟨b, o + i, none⟩ = some (.int .i64 u)
def InstsL (w0 : World) (L : List (Nat × Nat)) (p : Nat) (v : Value) (xs : List InstT) : Prop := ∃ a cp, v = .slice a xs.length cp ∧ ∀ j x, xs[j]? = some x → ∃ b o u1 u2 s, a = some ⟨b, o, none⟩ ∧ L[p + ps xs j]? = some (b, o + j * 3) ∧ L[p + ps xs j + 1]? = some (b, o + j * 3 + 1) ∧ w0.cell? ⟨b, o + j * 3, none⟩ = some (.int .i64 u1) ∧ w0.cell? ⟨b, o + j * 3 + 1, none⟩ = some (.int .i64 u2) ∧ w0.cell? ⟨b, o + j * 3 + 1 + 1, none⟩ = some s ∧ ArgsL w0 L (p + ps xs j + 2) s x.one.args.length
def LSoft (w0 : World) (L : List (Nat × Nat)) : Prop := ∀ q ∈ L, ∃ C t, w0.heap[q.1]? = some (.cells C t (0, 0))
theorem ArgsL.shift {w0 : World} {L L' : List (Nat × Nat)} {p p' : Nat} {s : Value} {n : Nat} (h : ArgsL w0 L p s n) (hs : ∀ i q, L[p + i]? = some q → L'[p' + i]? = some q) : ArgsL w0 L' p' s n := by
  obtain ⟨a, cp, e, hx⟩ := h
  refine ⟨a, cp, e, fun i hi => ?_⟩
  obtain ⟨b, o, u, h1, h2, h3⟩ := hx i hi
  exact ⟨b, o, u, h1, hs _ _ h2, h3⟩
theorem InstsL.shift {w0 : World} {L L' : List (Nat × Nat)} {p p' : Nat} {v : Value} {xs : List InstT} (h : InstsL w0 L p v xs) (hs : ∀ i q, L[p + i]? = some q → L'[p' + i]? = some q) : InstsL w0 L' p' v xs := by
  obtain ⟨a, cp, e, hx⟩ := h
  refine ⟨a, cp, e, fun j x hj => ?_⟩
  obtain ⟨b, o, u1, u2, s, h1, h2, h3, h4, h5, h6, h7⟩ := hx j x hj
  refine ⟨b, o, u1, u2, s, h1, hs _ _ h2, ?_, h4, h5, h6, h7.shift fun i q hq => ?_⟩
  · have := hs (ps xs j + 1) _ (by rw [← Nat.add_assoc]; exact h3)
    rwa [← Nat.add_assoc] at this
  · have := hs (ps xs j + 2 + i) q (by rw [← Nat.add_assoc, ← Nat.add_assoc]; exact hq)
    rwa [← Nat.add_assoc, ← Nat.add_assoc] at this
theorem ps_snoc (xs : List InstT) (y : InstT) (j : Nat) (hj : j ≤ xs.length) : ps (xs ++ [y]) j = ps xs j := by
  unfold ps
  rw [List.take_append_of_le_length hj]
theorem ps_all (xs : List InstT) : ps xs xs.length = tR xs := by
  unfold ps tR
  rw [List.take_length]
theorem ps_next {xs : List InstT} {j : Nat} {x : InstT} (h : xs[j]? = some x) : ps xs (j + 1) = ps xs j + 2 + x.one.args.length * 3 := by
  unfold ps
  rw [sum_take _ _ _ _ h]
  unfold tI
  omega
theorem own_soft {w : World} {base : Nat} {e : TypeId} {size : Nat} {v : Value} {n : Nat} {xs : List Value} (h : w.ownsRow base e size v n xs) {g : Nat} (hg : v.ownBlock = some g) : ∃ C t, w.heap[g]? = some (.cells C t (0, 0)) := by
  rcases h.2 with ⟨rfl, _⟩ | ⟨g1, cap, cur, rfl, _, e3, _⟩
  · simp [Value.ownBlock] at hg
  · simp [Value.ownBlock] at hg
    subst hg
    exact ⟨cur, e, e3⟩
/-- The operands of one's own. -/
theorem args_addr {w0 : World} {base : Nat} {f : List Nat} {v : Value} {xs : List ArgT} (h : ArgsOwn w0 base f v xs) : ∃ La : List (Nat × Nat), La.length = xs.length * 3 ∧ ArgsL w0 La 0 v xs.length ∧ La.Nodup ∧ (∀ q ∈ La, q.1 ∈ f) ∧ LSoft w0 La := by
  obtain ⟨cs, F', h1, h2, rfl⟩ := h
  have hcs : cs = avs xs := by
    clear h2
    induction h1 with
    | nil => rfl
    | add h hc hr ih => rw [avs_snoc, ← ih, hr.2]
  subst hcs
  rcases id h2.2 with ⟨rfl, hn⟩ | ⟨g, cap, cur, rfl, _⟩
  · refine ⟨[], by simp [hn], ⟨none, 0, by rw [hn], fun i hi => by omega⟩, List.nodup_nil, fun q hq => by simp at hq, fun q hq => by simp at hq⟩
  · refine ⟨(List.range (xs.length * 3)).map fun i => (g, i), by simp, ⟨some ⟨g, 0, none⟩, cap, rfl, fun i hi => ?_⟩, ?_, fun q hq => ?_, fun q hq => ?_⟩
    · have hc := h2.cellAt i hi
      have hal := avs_len xs
      obtain ⟨x, hx⟩ : ∃ x, (avs xs)[i]? = some x := ⟨_, List.getElem?_eq_getElem (by omega)⟩
      have hint : ∃ u, x = .int .i64 u := by
        have := List.mem_of_getElem? hx
        unfold avs at this
        simp only [List.mem_flatMap] at this
        obtain ⟨y, _, hy⟩ := this
        simp at hy
        rcases hy with rfl | rfl | rfl <;> exact ⟨_, rfl⟩
      obtain ⟨u, rfl⟩ := hint
      refine ⟨g, 0, u, rfl, ?_, ?_⟩
      · simp [hi]
      · rw [Nat.zero_add, hc, hx]
    · exact List.Pairwise.map _ (fun a b hab e => hab (by simpa using e)) List.nodup_range
    · simp at hq
      obtain ⟨i, _, rfl⟩ := hq
      simp [Value.ownBlock]
    · simp at hq
      obtain ⟨i, _, rfl⟩ := hq
      exact own_soft h2 rfl
/-- The instructions of a list of one's own: those of a beginning of it. -/
theorem insts_addr_aux {w0 : World} {base g : Nat} {F : List Nat} {xs : List InstT} {cs : List Value} (h : Each (InstOwn w0 base) 3 F xs cs) (hg : ∃ C t, w0.heap[g]? = some (.cells C t (0, 0))) (hgF : g ∉ F) (hnd : F.Nodup) :
    ∃ L : List (Nat × Nat), L.length = tR xs ∧ L.Nodup ∧ (∀ q ∈ L, (q.1 = g ∧ q.2 < xs.length * 3) ∨ q.1 ∈ F) ∧ LSoft w0 L ∧ ∀ j x, xs[j]? = some x → ∃ u1 u2 s, cs[j * 3]? = some (.int .i64 u1) ∧ cs[j * 3 + 1]? = some (.int .i64 u2) ∧ cs[j * 3 + 2]? = some s ∧ L[ps xs j]? = some (g, j * 3) ∧ L[ps xs j + 1]? = some (g, j * 3 + 1) ∧ ArgsL w0 L (ps xs j + 2) s x.one.args.length := by
  induction h with
  | nil => exact ⟨[], rfl, List.nodup_nil, fun q hq => by simp at hq, fun q hq => by simp at hq, fun j x hx => by simp at hx⟩
  | @add F xs cs f y c h hc hr ih =>
    have hn := List.nodup_append.1 hnd
    obtain ⟨L, e1, e2, e3, e4, e5⟩ := ih (fun hm => hgF (List.mem_append_left _ hm)) hn.1
    obtain ⟨v, rfl, hv⟩ := hr
    obtain ⟨La, a1, a2, a3, a4, a5⟩ := args_addr hv
    have hgf : g ∉ f := fun hm => hgF (List.mem_append_right _ hm)
    have hlen := h.len
    refine ⟨L ++ ((g, xs.length * 3) :: (g, xs.length * 3 + 1) :: La), ?_, ?_, ?_, ?_, ?_⟩
    · simp [tR, tI, a1]
      unfold tR at e1
      omega
    · refine List.nodup_append.2 ⟨e2, ?_, ?_⟩
      · rw [List.nodup_cons, List.nodup_cons]
        refine ⟨?_, ?_, a3⟩
        · intro hm
          rcases List.mem_cons.1 hm with h0 | h0
          · simp at h0
          · exact hgf (a4 _ h0)
        · exact fun h0 => hgf (a4 _ h0)
      · intro a ha b hb e
        subst e
        rcases List.mem_cons.1 hb with rfl | hb
        · rcases e3 _ ha with ⟨_, h2⟩ | h2
          · simp at h2
          · exact hgF (List.mem_append_left _ h2)
        · rcases List.mem_cons.1 hb with rfl | hb
          · rcases e3 _ ha with ⟨_, h2⟩ | h2
            · simp only at h2; omega
            · exact hgF (List.mem_append_left _ h2)
          · have h1 := a4 _ hb
            rcases e3 _ ha with ⟨h2, _⟩ | h2
            · rw [h2] at h1; exact hgf h1
            · exact hn.2.2 _ h2 _ h1 rfl
    · intro q hq
      rcases List.mem_append.1 hq with hq | hq
      · rcases e3 q hq with ⟨h1, h2⟩ | h1
        · exact .inl ⟨h1, by simp; omega⟩
        · exact .inr (List.mem_append_left _ h1)
      · rcases List.mem_cons.1 hq with rfl | hq
        · exact .inl ⟨rfl, by simp⟩
        · rcases List.mem_cons.1 hq with rfl | hq
          · exact .inl ⟨rfl, by simp; omega⟩
          · exact .inr (List.mem_append_right _ (a4 q hq))
    · intro q hq
      rcases List.mem_append.1 hq with hq | hq
      · exact e4 q hq
      · rcases List.mem_cons.1 hq with rfl | hq
        · exact hg
        · rcases List.mem_cons.1 hq with rfl | hq
          · exact hg
          · exact a5 q hq
    · intro j x hx
      rcases Nat.lt_or_ge j xs.length with hj | hj
      · rw [List.getElem?_append_left hj] at hx
        obtain ⟨u1, u2, s, h1, h2, h3, h4, h5, h6⟩ := e5 j x hx
        have hps := ps_snoc xs y j (by omega)
        have hL4 := (List.getElem?_eq_some_iff.1 h4).1
        have hL5 := (List.getElem?_eq_some_iff.1 h5).1
        refine ⟨u1, u2, s, ?_, ?_, ?_, ?_, ?_, ?_⟩
        · rw [List.getElem?_append_left (by omega)]; exact h1
        · rw [List.getElem?_append_left (by omega)]; exact h2
        · rw [List.getElem?_append_left (by omega)]; exact h3
        · rw [hps, List.getElem?_append_left hL4]; exact h4
        · rw [hps, List.getElem?_append_left hL5]; exact h5
        · rw [hps]
          exact h6.shift fun i q hq => by rw [List.getElem?_append_left (List.getElem?_eq_some_iff.1 hq).1]; exact hq
      · rw [List.getElem?_append_right hj] at hx
        have hj0 : j = xs.length := by
          have := (List.getElem?_eq_some_iff.1 hx).1
          simp at this
          omega
        subst hj0
        simp at hx
        subst hx
        have hps : ps (xs ++ [y]) xs.length = L.length := by rw [ps_snoc xs y _ (Nat.le_refl _), ps_all, e1]
        have k0 : xs.length * 3 - cs.length = 0 := by omega
        have k1 : xs.length * 3 + 1 - cs.length = 1 := by omega
        have k2 : xs.length * 3 + 2 - cs.length = 2 := by omega
        refine ⟨y.code, y.one.op, v, ?_, ?_, ?_, ?_, ?_, ?_⟩
        · rw [List.getElem?_append_right (by omega), k0]; rfl
        · rw [List.getElem?_append_right (by omega), k1]; rfl
        · rw [List.getElem?_append_right (by omega), k2]; rfl
        · rw [hps, List.getElem?_append_right (Nat.le_refl _), Nat.sub_self]; rfl
        · rw [hps, List.getElem?_append_right (by omega), show L.length + 1 - L.length = 1 by omega]; rfl
        · rw [hps]
          exact a2.shift fun i q hq => by
            rw [List.getElem?_append_right (by omega), show L.length + 2 + i - L.length = i + 2 by omega]
            simpa using hq
theorem insts_addr {w0 : World} {base : Nat} {F : List Nat} {v : Value} {xs : List InstT} (h : InstsOwn w0 base F v xs) (hnd : F.Nodup) : ∃ L : List (Nat × Nat), L.length = tR xs ∧ L.Nodup ∧ (∀ q ∈ L, q.1 ∈ F) ∧ LSoft w0 L ∧ InstsL w0 L 0 v xs := by
  obtain ⟨cs, F', h1, h2, rfl⟩ := h
  have hn := List.nodup_append.1 hnd
  rcases id h2.2 with ⟨rfl, hl⟩ | ⟨g, cap, cur, rfl, _⟩
  · have hx : xs = [] := List.length_eq_zero_iff.1 hl
    subst hx
    exact ⟨[], rfl, List.nodup_nil, fun q hq => by simp at hq, fun q hq => by simp at hq, none, 0, rfl, fun j x hx => by simp at hx⟩
  · have hgF : g ∉ F' := fun hm => hn.2.2 g (by simp [Value.ownBlock]) g hm rfl
    obtain ⟨L, e1, e2, e3, e4, e5⟩ := insts_addr_aux h1 (own_soft h2 rfl) hgF hn.2.1
    refine ⟨L, e1, e2, fun q hq => ?_, e4, some ⟨g, 0, none⟩, cap, rfl, fun j x hx => ?_⟩
    · rcases e3 q hq with ⟨h0, _⟩ | h0
      · rw [h0]; simp [Value.ownBlock]
      · exact List.mem_append_right _ h0
    · obtain ⟨u1, u2, s, k1, k2, k3, k4, k5, k6⟩ := e5 j x hx
      have hj := (List.getElem?_eq_some_iff.1 hx).1
      refine ⟨g, 0, u1, u2, s, rfl, ?_, ?_, ?_, ?_, ?_, ?_⟩
      · simpa using k4
      · simpa using k5
      · rw [Nat.zero_add, h2.cellAt _ (by omega)]; exact k1
      · rw [Nat.zero_add, h2.cellAt _ (by omega)]; exact k2
      · rw [Nat.zero_add, h2.cellAt _ (by omega)]; exact k3
      · rw [Nat.zero_add]; exact k6
end Go.Proofs.YtcihplachlokiaaDoor
/- Lists of lists marked, and the marks looked for. -/
namespace Go.Proofs.YtcihplachlokiaaDoor
open Go.RowKit
set_option linter.unusedVariables false

/-- The first so many numbers are marked. -/
structure MkL (L : List (Nat × Nat)) (p lo hi : Nat) (w0 w : World) : Prop where
  wm : WMk lo hi w0 w
  at' : ∀ i q, i < p → L[i]? = some q → w.cell? ⟨q.1, q.2, none⟩ = some (.int .i64 (1 + (i : Int)))
/-- What all of it stands on. -/
structure LOk (L : List (Nat × Nat)) (lo hi : Nat) (w0 : World) : Prop where
  nd : L.Nodup
  rng : ∀ q ∈ L, lo ≤ q.1 ∧ q.1 < hi
  soft : LSoft w0 L
  len : L.length ≤ 4000000
theorem cell_put {w : World} {b o : Nat} {C : Array Value} {t : TypeId} (h : w.heap[b]? = some (.cells C t (0, 0))) (ho : o < C.size) (x : Value) (b' o' : Nat) : (w.setCell ⟨b, o, none⟩ x).cell? ⟨b', o', none⟩ = if b' = b ∧ o' = o then some x else w.cell? ⟨b', o', none⟩ := by
  have h2 := row_put h o x
  by_cases e : b' = b
  · subst e
    rw [cell_of_row _ _ _ _ _ _ h2, cell_of_row _ _ _ _ _ _ h]
    by_cases e2 : o' = o
    · subst e2
      rw [if_pos ⟨rfl, rfl⟩]
      simp [ho]
    · rw [if_neg (fun q => e2 q.2)]
      rw [Array.getElem?_setIfInBounds_ne (fun q => e2 q.symm)]
  · rw [if_neg (fun q => e q.1)]
    exact World.cell?_setCell_other _ _ _ _ (by simp)
theorem nodup_inj {α : Type} : ∀ {L : List α} (h : L.Nodup) {i j : Nat} {q : α}, L[i]? = some q → L[j]? = some q → i = j
  | [], _, i, j, q, hi, _ => by simp at hi
  | a :: L, h, i, j, q, hi, hj => by
    rw [List.nodup_cons] at h
    match i, j with
    | 0, 0 => rfl
    | 0, j + 1 => simp at hi hj; subst hi; exact absurd (List.mem_of_getElem? hj) h.1
    | i + 1, 0 => simp at hi hj; subst hj; exact absurd (List.mem_of_getElem? hi) h.1
    | i + 1, j + 1 => simp at hi hj; rw [nodup_inj h.2 hi hj]
/-- One number more: the cell is there, it is free, and the mark stands. -/
theorem MkL.put {L : List (Nat × Nat)} {p lo hi : Nat} {w0 w : World} (h : MkL L p lo hi w0 w) (ok : LOk L lo hi w0) {b o : Nat} {u : Int} (hL : L[p]? = some (b, o)) (hc : w0.cell? ⟨b, o, none⟩ = some (.int .i64 u)) (K : Int) (hK : K = 1 + (p : Int)) :
    (∃ x, w.cell? ⟨b, o, none⟩ = some x) ∧ w.frozen? ⟨b, o, none⟩ = false ∧ MkL L (p + 1) lo hi w0 (w.setCell ⟨b, o, none⟩ (.int .i64 K)) := by
  have hm := List.mem_of_getElem? hL
  have hs := ok.soft _ hm
  obtain ⟨u', hu⟩ := h.wm.num b o u hc
  have hsw := h.wm.soft b hs
  have hr := ok.rng _ hm
  obtain ⟨C, t, k⟩ := hsw
  refine ⟨⟨_, hu⟩, soft_free ⟨C, t, k⟩ o, h.wm.trans (WMk.put hu ⟨C, t, k⟩ hr.1 hr.2 K), fun i q hi hq => ?_⟩
  rw [cell_put k (cells_of_cell k hu)]
  split
  · next e =>
    have : i = p := nodup_inj ok.nd hq (by rw [hL]; exact congrArg some (by cases q; simp at e; rw [e.1, e.2]))
    rw [this, hK]
  · next e =>
    by_cases hip : i = p
    · subst hip
      rw [hL] at hq
      cases hq
      exact absurd ⟨rfl, rfl⟩ e
    · exact h.at' i q (by omega) hq
theorem MkL.later {L : List (Nat × Nat)} {p lo hi : Nat} {w0 w w' : World} (h : MkL L p lo hi w0 w) (g : Below w.heap.size w w') : MkL L p lo hi w0 w' := ⟨h.wm.trans (WMk.of_below lo hi g), fun i q hi hq => (Keeps.of_below g 0) _ _ _ (Nat.zero_le _) (h.at' i q hi hq)⟩
theorem MkL.none {L : List (Nat × Nat)} {lo hi : Nat} {w0 w : World} (h : WMk lo hi w0 w) : MkL L 0 lo hi w0 w := ⟨h, fun i q hi => by omega⟩

theorem mark_a0 (a : Option Addr) (uc : Nat) (m : Int) (w : World) (hm0 : 0 ≤ m) (hm1 : m ≤ 8388608) : Calls Tryd.prog 42 #[.slice a 0 uc, .int .i64 m] w fun e w' => e = .returned (.int .i64 m) ∧ w' = w := mark_args_w0 a uc m w hm0 hm1
set_option maxRecDepth 10000 in
set_option maxHeartbeats 4000000 in
theorem mark_a (L : List (Nat × Nat)) (p lo hi n : Nat) (v : Value) (w0 w : World) (ok : LOk L lo hi w0) (hv : ArgsL w0 L p v n) (hp : p + n * 3 ≤ L.length) (hM : MkL L p lo hi w0 w) (K : Int) (hK : K = 1 + (p : Int)) :
    Calls Tryd.prog 42 #[v, .int .i64 K] w fun e w' => e = .returned (.int .i64 (1 + ((p + n * 3 : Nat) : Int))) ∧ MkL L (p + n * 3) lo hi w0 w' := by
  have hpl := ok.len
  have HOk : Hid (LOk L lo hi w0) := ok
  have HM0 : Hid (MkL L p lo hi w0 w) := hM
  obtain ⟨a, cp, rfl, hx⟩ := hv
  have HX : Hid (∀ i, i < n * 3 → ∃ b o u, a = some ⟨b, o, none⟩ ∧ L[p + i]? = some (b, o + i) ∧ w0.cell? ⟨b, o + i, none⟩ = some (.int .i64 u)) := hx
  obtain ⟨lL, HLL⟩ : ∃ l, Hid (l = L.length) := ⟨_, rfl⟩
  rw [← HLL.out] at hp hpl
  have hK0 : 0 ≤ K := by omega
  have hK1 : K ≤ 5000000 := by omega
  have HK0 : Hid (K = 1 + (p : Int)) := hK
  clear ok hM hx hK
  go_enter Tryd.func42, Tryd.ntmps42
  go_wp2
  go_loopg [1, 5] n (fun gg k i wr => ∃ (m : Nat) (K : Int), m + gg = n ∧ i = .int .i64 m ∧ k = .int .i64 K ∧ Hid (K = 1 + ((p + m * 3 : Nat) : Int)) ∧ 0 ≤ K ∧ K ≤ 5000000 ∧ Hid (MkL L (p + m * 3) lo hi w0 wr))
  case atStart => exact ⟨0, K, by omega, rfl, rfl, (by rw [HK0.out]; simp : K = 1 + ((p + 0 * 3 : Nat) : Int)), hK0, hK1, (by simpa using HM0.out : MkL L (p + 0 * 3) lo hi w0 w)⟩
  case round =>
    clear HM0 HK0 hK0 hK1
    obtain ⟨m, K, hm, rfl, rfl, HK, hK0, hK1, HM⟩ := hrel
    by_cases hlt : m < n
    · have i1 : (m : Int) < (n : Int) := by omega
      have i2 : (0 : Int) ≤ (m : Int) := by omega
      obtain ⟨b, o, u0, rfl, l0, q0⟩ := HX.out (m * 3) (by omega)
      obtain ⟨b', o', u1, e1, l1, q1⟩ := HX.out (m * 3 + 1) (by omega)
      cases e1
      obtain ⟨b', o', u2, e2, l2, q2⟩ := HX.out (m * 3 + 2) (by omega)
      cases e2
      obtain ⟨⟨x0, c0⟩, f0, P1⟩ := HM.out.put HOk.out l0 q0 K HK.out
      obtain ⟨⟨x1, c1⟩, f1, P2⟩ := P1.put HOk.out (by rw [Nat.add_assoc]; exact l1) q1 (K + 1) (by rw [HK.out]; omega)
      obtain ⟨⟨x2, c2⟩, f2, P3⟩ := P2.put HOk.out (by rw [Nat.add_assoc, Nat.add_assoc]; exact l2) q2 (K + 1 + 1) (by rw [HK.out]; omega)
      have s1 : o + (m * 3 + 1) = o + m * 3 + 1 := by omega
      have s2 : o + (m * 3 + 2) = o + m * 3 + 1 + 1 := by omega
      rw [s1] at c1 f1
      rw [s2, s1] at c2 f2
      have HP3 : Hid (MkL L (p + (m + 1) * 3) lo hi w0 (((wr.setCell ⟨b, o + m * 3, none⟩ (.int .i64 K)).setCell ⟨b, o + m * 3 + 1, none⟩ (.int .i64 (K + 1))).setCell ⟨b, o + m * 3 + 1 + 1, none⟩ (.int .i64 (K + 1 + 1)))) := by
        have h := P3
        rw [s2, s1] at h
        rwa [show p + m * 3 + 1 + 1 + 1 = p + (m + 1) * 3 by omega] at h
      have HK2 : Hid (K + 1 + 1 + 1 = 1 + ((p + (m + 1) * 3 : Nat) : Int)) := by show K + 1 + 1 + 1 = 1 + ((p + (m + 1) * 3 : Nat) : Int); rw [HK.out]; omega
      have hK3 : K + 1 + 1 + 1 ≤ 5000000 := by have := HK2.out; omega
      clear l0 l1 l2 q0 q1 q2 P1 P2 P3 HM s1 s2
      go_wp2
      go_roundg (gk - 1)
      case measure => omega
      case rel => exact ⟨m + 1, K + 1 + 1 + 1, by omega, by go_num, rfl, HK2, by omega, hK3, HP3⟩
    · have i1 : ¬ ((m : Int) < (n : Int)) := by omega
      have hqn : m = n := by omega
      have HKn : Hid (K = 1 + ((p + n * 3 : Nat) : Int)) := (by rw [← hqn]; exact HK.out : K = 1 + ((p + n * 3 : Nat) : Int))
      have HMn : Hid (MkL L (p + n * 3) lo hi w0 wr) := (by rw [← hqn]; exact HM.out : MkL L (p + n * 3) lo hi w0 wr)
      clear hqn HK HM
      go_wp2
      go_ret
      exact ⟨(by show Ending.returned (.int .i64 K) = _; rw [HKn.out]; simp), HMn.out⟩

set_option maxRecDepth 10000 in
set_option maxHeartbeats 4000000 in
theorem mark_i (L : List (Nat × Nat)) (p lo hi : Nat) (v : Value) (xs : List InstT) (w0 w : World) (ok : LOk L lo hi w0) (hv : InstsL w0 L p v xs) (hp : p + tR xs ≤ L.length) (hlen : xs.length ≤ 1000) (hM : MkL L p lo hi w0 w) (K : Int) (hK : K = 1 + (p : Int)) :
    Calls Tryd.prog 16 #[v, .int .i64 K] w fun e w' => e = .returned (.int .i64 (1 + ((p + tR xs : Nat) : Int))) ∧ MkL L (p + tR xs) lo hi w0 w' := by
  have hpl := ok.len
  have HOk : Hid (LOk L lo hi w0) := ok
  have HM0 : Hid (MkL L p lo hi w0 w) := hM
  obtain ⟨a, cp, rfl, hx⟩ := hv
  have HX : Hid (∀ j x, xs[j]? = some x → ∃ b o u1 u2 s, a = some ⟨b, o, none⟩ ∧ L[p + ps xs j]? = some (b, o + j * 3) ∧ L[p + ps xs j + 1]? = some (b, o + j * 3 + 1) ∧ w0.cell? ⟨b, o + j * 3, none⟩ = some (.int .i64 u1) ∧ w0.cell? ⟨b, o + j * 3 + 1, none⟩ = some (.int .i64 u2) ∧ w0.cell? ⟨b, o + j * 3 + 1 + 1, none⟩ = some s ∧ ArgsL w0 L (p + ps xs j + 2) s x.one.args.length) := hx
  have HLe : Hid (∀ j, ps xs j ≤ tR xs) := fun j => sum_take_le tI xs j
  have HAll : Hid (ps xs xs.length = tR xs ∧ p + tR xs ≤ L.length ∧ L.length ≤ 4000000) := ⟨ps_all xs, hp, hpl⟩
  obtain ⟨len, HL⟩ : ∃ len, Hid (len = xs.length) := ⟨_, rfl⟩
  rw [← HL.out] at hlen ⊢
  have hK0 : 0 ≤ K := by omega
  have hK1 : K ≤ 5000000 := by omega
  have HK0 : Hid (K = 1 + (p : Int)) := hK
  clear ok hM hx hK hp hpl
  go_enter Tryd.func16, Tryd.ntmps16
  go_wp2
  go_loopg [1, 5] len (fun gg k i wr => ∃ (m : Nat) (K : Int), m + gg = len ∧ i = .int .i64 m ∧ k = .int .i64 K ∧ Hid (K = 1 + ((p + ps xs m : Nat) : Int)) ∧ 0 ≤ K ∧ K ≤ 5000000 ∧ Hid (MkL L (p + ps xs m) lo hi w0 wr))
  case atStart => exact ⟨0, K, by omega, rfl, rfl, (by rw [HK0.out]; simp [ps] : K = 1 + ((p + ps xs 0 : Nat) : Int)), hK0, hK1, (by simpa [ps] using HM0.out : MkL L (p + ps xs 0) lo hi w0 w)⟩
  case round =>
    clear HM0 HK0 hK0 hK1
    obtain ⟨m, K, hm, rfl, rfl, HK, hK0, hK1, HM⟩ := hrel
    by_cases hlt : m < len
    · have i1 : (m : Int) < (len : Int) := by omega
      have i2 : (0 : Int) ≤ (m : Int) := by omega
      obtain ⟨x, hxn⟩ : ∃ x, xs[m]? = some x := ⟨_, List.getElem?_eq_getElem (by have := HL.out; omega)⟩
      obtain ⟨b, o, u0, u1, s, rfl, l0, l1, q0, q1, q2, hA⟩ := HX.out m x hxn
      obtain ⟨⟨x0, c0⟩, f0, P1⟩ := HM.out.put HOk.out l0 q0 K HK.out
      obtain ⟨⟨x1, c1⟩, f1, P2⟩ := P1.put HOk.out l1 q1 (K + 1) (by rw [HK.out]; omega)
      obtain ⟨ua, uc, e, _⟩ := id hA
      have c2 := P2.wm.cell b (o + m * 3 + 1 + 1) _ q2 (by rw [e]; simp)
      have hnx := ps_next hxn
      have hle := HLe.out (m + 1)
      have hal := HAll.out
      have HCl : Hid (Calls Tryd.prog 42 #[s, .int .i64 (K + 1 + 1)] ((wr.setCell ⟨b, o + m * 3, none⟩ (.int .i64 K)).setCell ⟨b, o + m * 3 + 1, none⟩ (.int .i64 (K + 1))) fun e w' => e = .returned (.int .i64 (1 + ((p + ps xs m + 2 + x.one.args.length * 3 : Nat) : Int))) ∧ MkL L (p + ps xs m + 2 + x.one.args.length * 3) lo hi w0 w') := mark_a L (p + ps xs m + 2) lo hi x.one.args.length s w0 _ HOk.out hA (by omega) P2 (K + 1 + 1) (by rw [HK.out]; omega)
      subst e
      obtain ⟨ul, Hul⟩ : ∃ l, Hid (l = x.one.args.length) := ⟨_, rfl⟩
      rw [← Hul.out] at HCl c2 hnx
      obtain ⟨K2, HK2⟩ : ∃ q, Hid (q = 1 + ((p + ps xs (m + 1) : Nat) : Int)) := ⟨_, rfl⟩
      have heq : p + ps xs m + 2 + ul * 3 = p + ps xs (m + 1) := by omega
      rw [heq, ← HK2.out] at HCl
      have hK20 : 0 ≤ K2 := by rw [HK2.out]; omega
      have hK21 : K2 ≤ 5000000 := by rw [HK2.out]; omega
      clear l0 l1 q0 q1 q2 hA P1 P2 HM hnx hle hal heq HX
      go_wp2_with fail
      refine HCl.out.mono ?_
      rintro e w5 ⟨rfl, g5⟩
      have HP5 : Hid (MkL L (p + ps xs (m + 1)) lo hi w0 w5) := g5
      clear g5 HCl c0 c1 c2 f0 f1
      go_wp2
      go_roundg (gk - 1)
      case measure => omega
      case rel => exact ⟨m + 1, K2, by omega, by go_num, rfl, HK2, hK20, hK21, HP5⟩
    · have i1 : ¬ ((m : Int) < (len : Int)) := by omega
      have hqn : m = xs.length := by have := HL.out; omega
      have HKn : Hid (K = 1 + ((p + tR xs : Nat) : Int)) := (by rw [← HAll.out.1, ← hqn]; exact HK.out : K = 1 + ((p + tR xs : Nat) : Int))
      have HMn : Hid (MkL L (p + tR xs) lo hi w0 wr) := (by rw [← HAll.out.1, ← hqn]; exact HM.out : MkL L (p + tR xs) lo hi w0 wr)
      clear hqn HK HM
      go_wp2
      go_ret
      exact ⟨(by show Ending.returned (.int .i64 K) = _; rw [HKn.out]; simp), HMn.out⟩

set_option maxRecDepth 10000 in
set_option maxHeartbeats 4000000 in
theorem held_a (L : List (Nat × Nat)) (p lo hi n : Nat) (v : Value) (w0 w : World) (hll : L.length ≤ 4000000) (hv : ArgsL w0 L p v n) (hp : p + n * 3 ≤ L.length) (hM : MkL L L.length lo hi w0 w) (K : Int) (hK : K = 1 + (p : Int)) :
    Calls Tryd.prog 43 #[v, .int .i64 K] w fun e w' => e = .returned (.int .i64 (1 + ((p + n * 3 : Nat) : Int))) ∧ w' = w := by
  have HM : Hid (MkL L L.length lo hi w0 w) := hM
  obtain ⟨a, cp, rfl, hx⟩ := hv
  have HX : Hid (∀ i, i < n * 3 → ∃ b o u, a = some ⟨b, o, none⟩ ∧ L[p + i]? = some (b, o + i) ∧ w0.cell? ⟨b, o + i, none⟩ = some (.int .i64 u)) := hx
  obtain ⟨lL, HLL⟩ : ∃ l, Hid (l = L.length) := ⟨_, rfl⟩
  rw [← HLL.out] at hp hll
  have hK0 : 0 ≤ K := by omega
  have hK1 : K ≤ 5000000 := by omega
  have HK0 : Hid (K = 1 + (p : Int)) := hK
  clear hM hx hK
  go_enter Tryd.func43, Tryd.ntmps43
  go_wp2
  go_loopg [1, 5] n (fun gg k i wr => ∃ (m : Nat) (K : Int), m + gg = n ∧ i = .int .i64 m ∧ k = .int .i64 K ∧ Hid (K = 1 + ((p + m * 3 : Nat) : Int)) ∧ 0 ≤ K ∧ K ≤ 5000000 ∧ wr = w)
  case atStart => exact ⟨0, K, by omega, rfl, rfl, (by rw [HK0.out]; simp : K = 1 + ((p + 0 * 3 : Nat) : Int)), hK0, hK1, rfl⟩
  case round =>
    clear HK0 hK0 hK1
    obtain ⟨m, K, hm, rfl, rfl, HK, hK0, hK1, rfl⟩ := hrel
    by_cases hlt : m < n
    · have i1 : (m : Int) < (n : Int) := by omega
      have i2 : (0 : Int) ≤ (m : Int) := by omega
      obtain ⟨b, o, u0, rfl, l0, q0⟩ := HX.out (m * 3) (by omega)
      obtain ⟨b', o', u1, e1, l1, q1⟩ := HX.out (m * 3 + 1) (by omega)
      cases e1
      obtain ⟨b', o', u2, e2, l2, q2⟩ := HX.out (m * 3 + 2) (by omega)
      cases e2
      have hll2 := HLL.out
      have c0 : wr.cell? ⟨b, o + m * 3, none⟩ = some (.int .i64 K) := by have := HM.out.at' _ _ (by omega) l0; rw [HK.out]; exact this
      have c1 : wr.cell? ⟨b, o + m * 3 + 1, none⟩ = some (.int .i64 (K + 1)) := by
        have h := HM.out.at' _ _ (by omega) l1
        rw [show K + 1 = 1 + ((p + (m * 3 + 1) : Nat) : Int) by rw [HK.out]; omega]
        exact h
      have c2 : wr.cell? ⟨b, o + m * 3 + 1 + 1, none⟩ = some (.int .i64 (K + 1 + 1)) := by
        have h := HM.out.at' _ _ (by omega) l2
        rw [show K + 1 + 1 = 1 + ((p + (m * 3 + 2) : Nat) : Int) by rw [HK.out]; omega]
        exact h
      have HK2 : Hid (K + 1 + 1 + 1 = 1 + ((p + (m + 1) * 3 : Nat) : Int)) := by show K + 1 + 1 + 1 = 1 + ((p + (m + 1) * 3 : Nat) : Int); rw [HK.out]; omega
      have hK3 : K + 1 + 1 + 1 ≤ 5000000 := by have := HK2.out; omega
      clear l0 l1 l2 q0 q1 q2 hll2
      go_wp2
      go_roundg (gk - 1)
      case measure => omega
      case rel => exact ⟨m + 1, K + 1 + 1 + 1, by omega, by go_num, rfl, HK2, by omega, hK3, rfl⟩
    · have i1 : ¬ ((m : Int) < (n : Int)) := by omega
      have hqn : m = n := by omega
      have HKn : Hid (K = 1 + ((p + n * 3 : Nat) : Int)) := (by rw [← hqn]; exact HK.out : K = 1 + ((p + n * 3 : Nat) : Int))
      clear hqn HK
      go_wp2
      go_ret
      exact ⟨(by show Ending.returned (.int .i64 K) = _; rw [HKn.out]; simp), rfl⟩

set_option maxRecDepth 10000 in
set_option maxHeartbeats 4000000 in
theorem held_i (L : List (Nat × Nat)) (p lo hi : Nat) (v : Value) (xs : List InstT) (w0 w : World) (hll : L.length ≤ 4000000) (hv : InstsL w0 L p v xs) (hp : p + tR xs ≤ L.length) (hlen : xs.length ≤ 1000) (hM : MkL L L.length lo hi w0 w) (K : Int) (hK : K = 1 + (p : Int)) :
    Calls Tryd.prog 20 #[v, .int .i64 K] w fun e w' => e = .returned (.int .i64 (1 + ((p + tR xs : Nat) : Int))) ∧ w' = w := by
  have HM : Hid (MkL L L.length lo hi w0 w) := hM
  obtain ⟨a, cp, rfl, hx⟩ := hv
  have HX : Hid (∀ j x, xs[j]? = some x → ∃ b o u1 u2 s, a = some ⟨b, o, none⟩ ∧ L[p + ps xs j]? = some (b, o + j * 3) ∧ L[p + ps xs j + 1]? = some (b, o + j * 3 + 1) ∧ w0.cell? ⟨b, o + j * 3, none⟩ = some (.int .i64 u1) ∧ w0.cell? ⟨b, o + j * 3 + 1, none⟩ = some (.int .i64 u2) ∧ w0.cell? ⟨b, o + j * 3 + 1 + 1, none⟩ = some s ∧ ArgsL w0 L (p + ps xs j + 2) s x.one.args.length) := hx
  have HLe : Hid (∀ j, ps xs j ≤ tR xs) := fun j => sum_take_le tI xs j
  have HAll : Hid (ps xs xs.length = tR xs ∧ p + tR xs ≤ L.length ∧ L.length ≤ 4000000) := ⟨ps_all xs, hp, hll⟩
  obtain ⟨len, HL⟩ : ∃ len, Hid (len = xs.length) := ⟨_, rfl⟩
  rw [← HL.out] at hlen ⊢
  have hK0 : 0 ≤ K := by omega
  have hK1 : K ≤ 5000000 := by omega
  have HK0 : Hid (K = 1 + (p : Int)) := hK
  clear hM hx hK hp hll
  go_enter Tryd.func20, Tryd.ntmps20
  go_wp2
  go_loopg [1, 5] len (fun gg k i wr => ∃ (m : Nat) (K : Int), m + gg = len ∧ i = .int .i64 m ∧ k = .int .i64 K ∧ Hid (K = 1 + ((p + ps xs m : Nat) : Int)) ∧ 0 ≤ K ∧ K ≤ 5000000 ∧ wr = w)
  case atStart => exact ⟨0, K, by omega, rfl, rfl, (by rw [HK0.out]; simp [ps] : K = 1 + ((p + ps xs 0 : Nat) : Int)), hK0, hK1, rfl⟩
  case round =>
    clear HK0 hK0 hK1
    obtain ⟨m, K, hm, rfl, rfl, HK, hK0, hK1, rfl⟩ := hrel
    by_cases hlt : m < len
    · have i1 : (m : Int) < (len : Int) := by omega
      have i2 : (0 : Int) ≤ (m : Int) := by omega
      obtain ⟨x, hxn⟩ : ∃ x, xs[m]? = some x := ⟨_, List.getElem?_eq_getElem (by have := HL.out; omega)⟩
      obtain ⟨b, o, u0, u1, s, rfl, l0, l1, q0, q1, q2, hA⟩ := HX.out m x hxn
      have hnx := ps_next hxn
      have hle := HLe.out (m + 1)
      have hal := HAll.out
      have c0 : wr.cell? ⟨b, o + m * 3, none⟩ = some (.int .i64 K) := by have := HM.out.at' _ _ (by omega) l0; rw [HK.out]; exact this
      have c1 : wr.cell? ⟨b, o + m * 3 + 1, none⟩ = some (.int .i64 (K + 1)) := by
        have h := HM.out.at' _ _ (by omega) l1
        rw [show K + 1 = 1 + ((p + ps xs m + 1 : Nat) : Int) by rw [HK.out]; omega]
        exact h
      obtain ⟨ua, uc, e, _⟩ := id hA
      have c2 := HM.out.wm.cell b (o + m * 3 + 1 + 1) _ q2 (by rw [e]; simp)
      have HCl : Hid (Calls Tryd.prog 43 #[s, .int .i64 (K + 1 + 1)] wr fun e w' => e = .returned (.int .i64 (1 + ((p + ps xs m + 2 + x.one.args.length * 3 : Nat) : Int))) ∧ w' = wr) := held_a L (p + ps xs m + 2) lo hi x.one.args.length s w0 _ (by omega) hA (by omega) HM.out (K + 1 + 1) (by rw [HK.out]; omega)
      subst e
      obtain ⟨ul, Hul⟩ : ∃ l, Hid (l = x.one.args.length) := ⟨_, rfl⟩
      rw [← Hul.out] at HCl c2 hnx
      obtain ⟨K2, HK2⟩ : ∃ q, Hid (q = 1 + ((p + ps xs (m + 1) : Nat) : Int)) := ⟨_, rfl⟩
      have heq : p + ps xs m + 2 + ul * 3 = p + ps xs (m + 1) := by omega
      rw [heq, ← HK2.out] at HCl
      have hK20 : 0 ≤ K2 := by rw [HK2.out]; omega
      have hK21 : K2 ≤ 5000000 := by rw [HK2.out]; omega
      have j1 : ¬ (K2 < 0) := by omega
      clear l0 l1 q0 q1 q2 hA hnx hle hal heq HX
      go_wp2_with fail
      refine HCl.out.mono ?_
      rintro e w5 ⟨rfl, rfl⟩
      clear HCl c0 c1 c2
      go_wp2
      go_roundg (gk - 1)
      case measure => omega
      case rel => exact ⟨m + 1, K2, by omega, by go_num, rfl, HK2, hK20, hK21, rfl⟩
    · have i1 : ¬ ((m : Int) < (len : Int)) := by omega
      have hqn : m = xs.length := by have := HL.out; omega
      have HKn : Hid (K = 1 + ((p + tR xs : Nat) : Int)) := (by rw [← HAll.out.1, ← hqn]; exact HK.out : K = 1 + ((p + tR xs : Nat) : Int))
      clear hqn HK
      go_wp2
      go_ret
      exact ⟨(by show Ending.returned (.int .i64 K) = _; rw [HKn.out]; simp), rfl⟩
end Go.Proofs.YtcihplachlokiaaDoor
