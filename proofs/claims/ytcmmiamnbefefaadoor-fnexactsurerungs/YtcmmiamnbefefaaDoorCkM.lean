/- The addresses of the numbers of lists of lists, in the order in which they are marked. -/
import Derived.Test.YtcmmiamnbefefaaDoorCj
import Derived.Test.YtcmmiamnbefefaaDoorCbM
namespace Go.Proofs.YtcmmiamnbefefaaDoor
open Go.RowKit
set_option linter.unusedVariables false

def tI (x : InstT) : Nat := 2 + 3 * x.one.args.length
def ps (xs : List InstT) (j : Nat) : Nat := ((xs.take j).map tI).sum
def tR (r : List InstT) : Nat := (r.map tI).sum
def ArgsL (w0 : World) (L : List (Nat × Nat)) (p : Nat) (s : Value) (n : Nat) : Prop := ∃ a cp, s = .slice a n cp ∧ ∀ i, i < n * 3 → ∃ b o u, a = some ⟨b, o, none⟩ ∧ L[p + i]? = some (b, o + i) ∧ w0.cell? ⟨b, o + i, none⟩ = some (.int .i64 u)
def InstsL (w0 : World) (L : List (Nat × Nat)) (p : Nat) (v : Value) (xs : List InstT) : Prop := ∃ a cp, v = .slice a xs.length cp ∧ ∀ j x, xs[j]? = some x → ∃ b o u1 u2 s, a = some ⟨b, o, none⟩ ∧ L[p + ps xs j]? = some (b, o + j * 3) ∧ L[p + ps xs j + 1]? = some (b, o + j * 3 + 1) ∧ w0.cell? ⟨b, o + j * 3, none⟩ = some (.int .i64 u1) ∧ w0.cell? ⟨b, o + j * 3 + 1, none⟩ = some (.int .i64 u2) ∧ w0.cell? ⟨b, o + j * 3 + 1 + 1, none⟩ = some s ∧ ArgsL w0 L (p + ps xs j + 2) s x.one.args.length
def SSL (w0 : World) (L : List (Nat × Nat)) (v : Value) (rs : List (List InstT)) : Prop := ∃ a cp, v = .slice a rs.length cp ∧ ∀ i r, rs[i]? = some r → ∃ b o s, a = some ⟨b, o, none⟩ ∧ w0.cell? ⟨b, o + i, none⟩ = some s ∧ InstsL w0 L (((rs.take i).map tR).sum) s r
def LSoft (w0 : World) (L : List (Nat × Nat)) : Prop := ∀ q ∈ L, ∃ C t, w0.heap[q.1]? = some (.cells C t (0, 0))
theorem ArgsL.shift {w0 : World} {L L' : List (Nat × Nat)} {p p' : Nat} {s : Value} {n : Nat} (h : ArgsL w0 L p s n) (hs : ∀ i q, L[p + i]? = some q → L'[p' + i]? = some q) : ArgsL w0 L' p' s n := by
  obtain ⟨a, cp, e, hx⟩ := h
  refine ⟨a, cp, e, fun i hi => ?_⟩
  obtain ⟨b, o, u, h1, h2, h3⟩ := hx i hi
  exact ⟨b, o, u, h1, hs _ _ h2, h3⟩
theorem InstsL.shift {w0 : World} {L L' : List (Nat × Nat)} {p p' : Nat} {v : Value} {xs : List InstT} (h : InstsL w0 L p v xs) (hs : ∀ i q, L[p + i]? = some q → L'[p' + i]? = some q) : InstsL w0 L' p' v xs := by
  obtain ⟨a, cp, e, hx⟩ := h
  refine ⟨a, cp, e, fun j x hj => ?_⟩
  obtain ⟨b, o, u1, u2, s, h1, h2, h3, h4, h5, h6, h7⟩ := hx j x hj
  refine ⟨b, o, u1, u2, s, h1, hs _ _ h2, ?_, h4, h5, h6, h7.shift fun i q hq => ?_⟩
  · have := hs (ps xs j + 1) _ (by rw [← Nat.add_assoc]; exact h3)
    rwa [← Nat.add_assoc] at this
  · have := hs (ps xs j + 2 + i) q (by rw [← Nat.add_assoc, ← Nat.add_assoc]; exact hq)
    rwa [← Nat.add_assoc, ← Nat.add_assoc] at this
theorem ps_snoc (xs : List InstT) (y : InstT) (j : Nat) (hj : j ≤ xs.length) : ps (xs ++ [y]) j = ps xs j := by
  unfold ps
  rw [List.take_append_of_le_length hj]
theorem ps_all (xs : List InstT) : ps xs xs.length = tR xs := by
  unfold ps tR
  rw [List.take_length]
theorem ps_next {xs : List InstT} {j : Nat} {x : InstT} (h : xs[j]? = some x) : ps xs (j + 1) = ps xs j + 2 + x.one.args.length * 3 := by
  unfold ps
  rw [sum_take _ _ _ _ h]
  unfold tI
  omega
theorem own_soft {w : World} {base : Nat} {e : TypeId} {size : Nat} {v : Value} {n : Nat} {xs : List Value} (h : w.ownsRow base e size v n xs) {g : Nat} (hg : v.ownBlock = some g) : ∃ C t, w.heap[g]? = some (.cells C t (0, 0)) := by
  rcases h.2 with ⟨rfl, _⟩ | ⟨g1, cap, cur, rfl, _, e3, _⟩
  · simp [Value.ownBlock] at hg
  · simp [Value.ownBlock] at hg
    subst hg
    exact ⟨cur, e, e3⟩
/-- The operands of one's own. -/
theorem args_addr {w0 : World} {base : Nat} {f : List Nat} {v : Value} {xs : List ArgT} (h : ArgsOwn w0 base f v xs) : ∃ La : List (Nat × Nat), La.length = xs.length * 3 ∧ ArgsL w0 La 0 v xs.length ∧ La.Nodup ∧ (∀ q ∈ La, q.1 ∈ f) ∧ LSoft w0 La := by
  obtain ⟨cs, F', h1, h2, rfl⟩ := h
  have hcs : cs = avs xs := by
    clear h2
    induction h1 with
    | nil => rfl
    | add h hc hr ih => rw [avs_snoc, ← ih, hr.2]
  subst hcs
  rcases id h2.2 with ⟨rfl, hn⟩ | ⟨g, cap, cur, rfl, _⟩
  · refine ⟨[], by simp [hn], ⟨none, 0, by rw [hn], fun i hi => by omega⟩, List.nodup_nil, fun q hq => by simp at hq, fun q hq => by simp at hq⟩
  · refine ⟨(List.range (xs.length * 3)).map fun i => (g, i), by simp, ⟨some ⟨g, 0, none⟩, cap, rfl, fun i hi => ?_⟩, ?_, fun q hq => ?_, fun q hq => ?_⟩
    · have hc := h2.cellAt i hi
      have hal := avs_len xs
      obtain ⟨x, hx⟩ : ∃ x, (avs xs)[i]? = some x := ⟨_, List.getElem?_eq_getElem (by omega)⟩
      have hint : ∃ u, x = .int .i64 u := by
        have := List.mem_of_getElem? hx
        unfold avs at this
        simp only [List.mem_flatMap] at this
        obtain ⟨y, _, hy⟩ := this
        simp at hy
        rcases hy with rfl | rfl | rfl <;> exact ⟨_, rfl⟩
      obtain ⟨u, rfl⟩ := hint
      refine ⟨g, 0, u, rfl, ?_, ?_⟩
      · simp [hi]
      · rw [Nat.zero_add, hc, hx]
    · exact List.Pairwise.map _ (fun a b hab e => hab (by simpa using e)) List.nodup_range
    · simp at hq
      obtain ⟨i, _, rfl⟩ := hq
      simp [Value.ownBlock]
    · simp at hq
      obtain ⟨i, _, rfl⟩ := hq
      exact own_soft h2 rfl
/-- The instructions of a list of one's own: those of a beginning of it. -/
theorem insts_addr_aux {w0 : World} {base g : Nat} {F : List Nat} {xs : List InstT} {cs : List Value} (h : Each (InstOwn w0 base) 3 F xs cs) (hg : ∃ C t, w0.heap[g]? = some (.cells C t (0, 0))) (hgF : g ∉ F) (hnd : F.Nodup) :
    ∃ L : List (Nat × Nat), L.length = tR xs ∧ L.Nodup ∧ (∀ q ∈ L, (q.1 = g ∧ q.2 < xs.length * 3) ∨ q.1 ∈ F) ∧ LSoft w0 L ∧ ∀ j x, xs[j]? = some x → ∃ u1 u2 s, cs[j * 3]? = some (.int .i64 u1) ∧ cs[j * 3 + 1]? = some (.int .i64 u2) ∧ cs[j * 3 + 2]? = some s ∧ L[ps xs j]? = some (g, j * 3) ∧ L[ps xs j + 1]? = some (g, j * 3 + 1) ∧ ArgsL w0 L (ps xs j + 2) s x.one.args.length := by
  induction h with
  | nil => exact ⟨[], rfl, List.nodup_nil, fun q hq => by simp at hq, fun q hq => by simp at hq, fun j x hx => by simp at hx⟩
  | @add F xs cs f y c h hc hr ih =>
    have hn := List.nodup_append.1 hnd
    obtain ⟨L, e1, e2, e3, e4, e5⟩ := ih (fun hm => hgF (List.mem_append_left _ hm)) hn.1
    obtain ⟨v, rfl, hv⟩ := hr
    obtain ⟨La, a1, a2, a3, a4, a5⟩ := args_addr hv
    have hgf : g ∉ f := fun hm => hgF (List.mem_append_right _ hm)
    have hlen := h.len
    refine ⟨L ++ ((g, xs.length * 3) :: (g, xs.length * 3 + 1) :: La), ?_, ?_, ?_, ?_, ?_⟩
    · simp [tR, tI, a1]
      unfold tR at e1
      omega
    · refine List.nodup_append.2 ⟨e2, ?_, ?_⟩
      · rw [List.nodup_cons, List.nodup_cons]
        refine ⟨?_, ?_, a3⟩
        · intro hm
          rcases List.mem_cons.1 hm with h0 | h0
          · simp at h0
          · exact hgf (a4 _ h0)
        · exact fun h0 => hgf (a4 _ h0)
      · intro a ha b hb e
        subst e
        rcases List.mem_cons.1 hb with rfl | hb
        · rcases e3 _ ha with ⟨_, h2⟩ | h2
          · simp at h2
          · exact hgF (List.mem_append_left _ h2)
        · rcases List.mem_cons.1 hb with rfl | hb
          · rcases e3 _ ha with ⟨_, h2⟩ | h2
            · simp only at h2; omega
            · exact hgF (List.mem_append_left _ h2)
          · have h1 := a4 _ hb
            rcases e3 _ ha with ⟨h2, _⟩ | h2
            · rw [h2] at h1; exact hgf h1
            · exact hn.2.2 _ h2 _ h1 rfl
    · intro q hq
      rcases List.mem_append.1 hq with hq | hq
      · rcases e3 q hq with ⟨h1, h2⟩ | h1
        · exact .inl ⟨h1, by simp; omega⟩
        · exact .inr (List.mem_append_left _ h1)
      · rcases List.mem_cons.1 hq with rfl | hq
        · exact .inl ⟨rfl, by simp⟩
        · rcases List.mem_cons.1 hq with rfl | hq
          · exact .inl ⟨rfl, by simp; omega⟩
          · exact .inr (List.mem_append_right _ (a4 q hq))
    · intro q hq
      rcases List.mem_append.1 hq with hq | hq
      · exact e4 q hq
      · rcases List.mem_cons.1 hq with rfl | hq
        · exact hg
        · rcases List.mem_cons.1 hq with rfl | hq
          · exact hg
          · exact a5 q hq
    · intro j x hx
      rcases Nat.lt_or_ge j xs.length with hj | hj
      · rw [List.getElem?_append_left hj] at hx
        obtain ⟨u1, u2, s, h1, h2, h3, h4, h5, h6⟩ := e5 j x hx
        have hps := ps_snoc xs y j (by omega)
        have hL4 := (List.getElem?_eq_some_iff.1 h4).1
        have hL5 := (List.getElem?_eq_some_iff.1 h5).1
        refine ⟨u1, u2, s, ?_, ?_, ?_, ?_, ?_, ?_⟩
        · rw [List.getElem?_append_left (by omega)]; exact h1
        · rw [List.getElem?_append_left (by omega)]; exact h2
        · rw [List.getElem?_append_left (by omega)]; exact h3
        · rw [hps, List.getElem?_append_left hL4]; exact h4
        · rw [hps, List.getElem?_append_left hL5]; exact h5
        · rw [hps]
          exact h6.shift fun i q hq => by rw [List.getElem?_append_left (List.getElem?_eq_some_iff.1 hq).1]; exact hq
      · rw [List.getElem?_append_right hj] at hx
        have hj0 : j = xs.length := by
          have := (List.getElem?_eq_some_iff.1 hx).1
          simp at this
          omega
        subst hj0
        simp at hx
        subst hx
        have hps : ps (xs ++ [y]) xs.length = L.length := by rw [ps_snoc xs y _ (Nat.le_refl _), ps_all, e1]
        have k0 : xs.length * 3 - cs.length = 0 := by omega
        have k1 : xs.length * 3 + 1 - cs.length = 1 := by omega
        have k2 : xs.length * 3 + 2 - cs.length = 2 := by omega
        refine ⟨y.code, y.one.op, v, ?_, ?_, ?_, ?_, ?_, ?_⟩
        · rw [List.getElem?_append_right (by omega), k0]; rfl
        · rw [List.getElem?_append_right (by omega), k1]; rfl
        · rw [List.getElem?_append_right (by omega), k2]; rfl
        · rw [hps, List.getElem?_append_right (Nat.le_refl _), Nat.sub_self]; rfl
        · rw [hps, List.getElem?_append_right (by omega), show L.length + 1 - L.length = 1 by omega]; rfl
        · rw [hps]
          exact a2.shift fun i q hq => by
            rw [List.getElem?_append_right (by omega), show L.length + 2 + i - L.length = i + 2 by omega]
            simpa using hq
theorem insts_addr {w0 : World} {base : Nat} {F : List Nat} {v : Value} {xs : List InstT} (h : InstsOwn w0 base F v xs) (hnd : F.Nodup) : ∃ L : List (Nat × Nat), L.length = tR xs ∧ L.Nodup ∧ (∀ q ∈ L, q.1 ∈ F) ∧ LSoft w0 L ∧ InstsL w0 L 0 v xs := by
  obtain ⟨cs, F', h1, h2, rfl⟩ := h
  have hn := List.nodup_append.1 hnd
  rcases id h2.2 with ⟨rfl, hl⟩ | ⟨g, cap, cur, rfl, _⟩
  · have hx : xs = [] := List.length_eq_zero_iff.1 hl
    subst hx
    exact ⟨[], rfl, List.nodup_nil, fun q hq => by simp at hq, fun q hq => by simp at hq, none, 0, rfl, fun j x hx => by simp at hx⟩
  · have hgF : g ∉ F' := fun hm => hn.2.2 g (by simp [Value.ownBlock]) g hm rfl
    obtain ⟨L, e1, e2, e3, e4, e5⟩ := insts_addr_aux h1 (own_soft h2 rfl) hgF hn.2.1
    refine ⟨L, e1, e2, fun q hq => ?_, e4, some ⟨g, 0, none⟩, cap, rfl, fun j x hx => ?_⟩
    · rcases e3 q hq with ⟨h0, _⟩ | h0
      · rw [h0]; simp [Value.ownBlock]
      · exact List.mem_append_right _ h0
    · obtain ⟨u1, u2, s, k1, k2, k3, k4, k5, k6⟩ := e5 j x hx
      have hj := (List.getElem?_eq_some_iff.1 hx).1
      refine ⟨g, 0, u1, u2, s, rfl, ?_, ?_, ?_, ?_, ?_, ?_⟩
      · simpa using k4
      · simpa using k5
      · rw [Nat.zero_add, h2.cellAt _ (by omega)]; exact k1
      · rw [Nat.zero_add, h2.cellAt _ (by omega)]; exact k2
      · rw [Nat.zero_add, h2.cellAt _ (by omega)]; exact k3
      · rw [Nat.zero_add]; exact k6
theorem ss_addr_aux {w0 : World} {base : Nat} {F : List Nat} {rs : List (List InstT)} {cs : List Value} (h : Each (RungOwn w0 base) 1 F rs cs) (hnd : F.Nodup) :
    ∃ L : List (Nat × Nat), L.length = (rs.map tR).sum ∧ L.Nodup ∧ (∀ q ∈ L, q.1 ∈ F) ∧ LSoft w0 L ∧ ∀ i r, rs[i]? = some r → ∃ s, cs[i]? = some s ∧ InstsL w0 L (((rs.take i).map tR).sum) s r := by
  induction h with
  | nil => exact ⟨[], rfl, List.nodup_nil, fun q hq => by simp at hq, fun q hq => by simp at hq, fun j x hx => by simp at hx⟩
  | @add F rs cs f y c h hc hr ih =>
    have hn := List.nodup_append.1 hnd
    obtain ⟨L, e1, e2, e3, e4, e5⟩ := ih hn.1
    obtain ⟨v, rfl, hv⟩ := hr
    obtain ⟨La, a1, a2, a3, a4, a5⟩ := insts_addr hv hn.2.1
    have hlen := h.len
    refine ⟨L ++ La, ?_, ?_, ?_, ?_, ?_⟩
    · simp [e1, a1]
    · exact List.nodup_append.2 ⟨e2, a2, fun a ha b hb e => by subst e; exact hn.2.2 _ (e3 _ ha) _ (a3 _ hb) rfl⟩
    · intro q hq
      rcases List.mem_append.1 hq with hq | hq
      · exact List.mem_append_left _ (e3 q hq)
      · exact List.mem_append_right _ (a3 q hq)
    · intro q hq
      rcases List.mem_append.1 hq with hq | hq
      · exact e4 q hq
      · exact a4 q hq
    · intro i r hi
      rcases Nat.lt_or_ge i rs.length with hj | hj
      · rw [List.getElem?_append_left hj] at hi
        obtain ⟨s, k1, k2⟩ := e5 i r hi
        refine ⟨s, by rw [List.getElem?_append_left (by omega)]; exact k1, ?_⟩
        rw [List.take_append_of_le_length (by omega)]
        exact k2.shift fun i q hq => by rw [List.getElem?_append_left (List.getElem?_eq_some_iff.1 hq).1]; exact hq
      · rw [List.getElem?_append_right hj] at hi
        have hj0 : i = rs.length := by
          have := (List.getElem?_eq_some_iff.1 hi).1
          simp at this
          omega
        subst hj0
        simp at hi
        subst hi
        refine ⟨v, by rw [List.getElem?_append_right (by omega), show rs.length - cs.length = 0 by omega]; rfl, ?_⟩
        rw [List.take_append_of_le_length (Nat.le_refl _), List.take_length, ← e1]
        exact a5.shift fun i q hq => by
          rw [List.getElem?_append_right (by omega), show L.length + i - L.length = i by omega]
          simpa using hq
theorem ss_addr {w0 : World} {base : Nat} {F : List Nat} {v : Value} {rs : List (List InstT)} (h : SSOwn w0 base F v rs) (hnd : F.Nodup) : ∃ L : List (Nat × Nat), L.length = (rs.map tR).sum ∧ L.Nodup ∧ (∀ q ∈ L, base ≤ q.1 ∧ q.1 < w0.heap.size) ∧ LSoft w0 L ∧ SSL w0 L v rs := by
  have hlt := SSOwn.lt h
  obtain ⟨cs, F', h1, h2, rfl⟩ := h
  have hn := List.nodup_append.1 hnd
  obtain ⟨L, e1, e2, e3, e4, e5⟩ := ss_addr_aux h1 hn.2.1
  refine ⟨L, e1, e2, fun q hq => hlt _ (List.mem_append_right _ (e3 q hq)), e4, ?_⟩
  rcases id h2.2 with ⟨rfl, hl⟩ | ⟨g, cap, cur, rfl, _⟩
  · have hx : rs = [] := List.length_eq_zero_iff.1 hl
    subst hx
    exact ⟨none, 0, rfl, fun i r hi => by simp at hi⟩
  · refine ⟨some ⟨g, 0, none⟩, cap, rfl, fun i r hi => ?_⟩
    obtain ⟨s, k1, k2⟩ := e5 i r hi
    have hj := (List.getElem?_eq_some_iff.1 hi).1
    exact ⟨g, 0, s, rfl, by rw [Nat.zero_add, h2.cellAt _ (by omega)]; exact k1, k2⟩
end Go.Proofs.YtcmmiamnbefefaaDoor
/- Lists of lists marked, and the marks looked for. -/
namespace Go.Proofs.YtcmmiamnbefefaaDoor
open Go.RowKit
set_option linter.unusedVariables false

/-- The first so many numbers are marked. -/
structure MkL (L : List (Nat × Nat)) (p lo hi : Nat) (w0 w : World) : Prop where
  wm : WMk lo hi w0 w
  at' : ∀ i q, i < p → L[i]? = some q → w.cell? ⟨q.1, q.2, none⟩ = some (.int .i64 (1 + (i : Int)))
/-- What all of it stands on. -/
structure LOk (L : List (Nat × Nat)) (lo hi : Nat) (w0 : World) : Prop where
  nd : L.Nodup
  rng : ∀ q ∈ L, lo ≤ q.1 ∧ q.1 < hi
  soft : LSoft w0 L
  len : L.length ≤ 4000000
theorem cell_put {w : World} {b o : Nat} {C : Array Value} {t : TypeId} (h : w.heap[b]? = some (.cells C t (0, 0))) (ho : o < C.size) (x : Value) (b' o' : Nat) : (w.setCell ⟨b, o, none⟩ x).cell? ⟨b', o', none⟩ = if b' = b ∧ o' = o then some x else w.cell? ⟨b', o', none⟩ := by
  have h2 := row_put h o x
  by_cases e : b' = b
  · subst e
    rw [cell_of_row _ _ _ _ _ _ h2, cell_of_row _ _ _ _ _ _ h]
    by_cases e2 : o' = o
    · subst e2
      rw [if_pos ⟨rfl, rfl⟩]
      simp [ho]
    · rw [if_neg (fun q => e2 q.2)]
      rw [Array.getElem?_setIfInBounds_ne (fun q => e2 q.symm)]
  · rw [if_neg (fun q => e q.1)]
    exact World.cell?_setCell_other _ _ _ _ (by simp)
theorem nodup_inj {α : Type} : ∀ {L : List α} (h : L.Nodup) {i j : Nat} {q : α}, L[i]? = some q → L[j]? = some q → i = j
  | [], _, i, j, q, hi, _ => by simp at hi
  | a :: L, h, i, j, q, hi, hj => by
    rw [List.nodup_cons] at h
    match i, j with
    | 0, 0 => rfl
    | 0, j + 1 => simp at hi hj; subst hi; exact absurd (List.mem_of_getElem? hj) h.1
    | i + 1, 0 => simp at hi hj; subst hj; exact absurd (List.mem_of_getElem? hi) h.1
    | i + 1, j + 1 => simp at hi hj; rw [nodup_inj h.2 hi hj]
/-- One number more: the cell is there, it is free, and the mark stands. -/
theorem MkL.put {L : List (Nat × Nat)} {p lo hi : Nat} {w0 w : World} (h : MkL L p lo hi w0 w) (ok : LOk L lo hi w0) {b o : Nat} {u : Int} (hL : L[p]? = some (b, o)) (hc : w0.cell? ⟨b, o, none⟩ = some (.int .i64 u)) (K : Int) (hK : K = 1 + (p : Int)) :
    (∃ x, w.cell? ⟨b, o, none⟩ = some x) ∧ w.frozen? ⟨b, o, none⟩ = false ∧ MkL L (p + 1) lo hi w0 (w.setCell ⟨b, o, none⟩ (.int .i64 K)) := by
  have hm := List.mem_of_getElem? hL
  have hs := ok.soft _ hm
  obtain ⟨u', hu⟩ := h.wm.num b o u hc
  have hsw := h.wm.soft b hs
  have hr := ok.rng _ hm
  obtain ⟨C, t, k⟩ := hsw
  refine ⟨⟨_, hu⟩, soft_free ⟨C, t, k⟩ o, h.wm.trans (WMk.put hu ⟨C, t, k⟩ hr.1 hr.2 K), fun i q hi hq => ?_⟩
  rw [cell_put k (cells_of_cell k hu)]
  split
  · next e =>
    have : i = p := nodup_inj ok.nd hq (by rw [hL]; exact congrArg some (by cases q; simp at e; rw [e.1, e.2]))
    rw [this, hK]
  · next e =>
    by_cases hip : i = p
    · subst hip
      rw [hL] at hq
      cases hq
      exact absurd ⟨rfl, rfl⟩ e
    · exact h.at' i q (by omega) hq
theorem MkL.later {L : List (Nat × Nat)} {p lo hi : Nat} {w0 w w' : World} (h : MkL L p lo hi w0 w) (g : Below w.heap.size w w') : MkL L p lo hi w0 w' := ⟨h.wm.trans (WMk.of_below lo hi g), fun i q hi hq => (Keeps.of_below g 0) _ _ _ (Nat.zero_le _) (h.at' i q hi hq)⟩
theorem MkL.none {L : List (Nat × Nat)} {lo hi : Nat} {w0 w : World} (h : WMk lo hi w0 w) : MkL L 0 lo hi w0 w := ⟨h, fun i q hi => by omega⟩

theorem mark_a0 (a : Option Addr) (uc : Nat) (m : Int) (w : World) (hm0 : 0 ≤ m) (hm1 : m ≤ 8388608) : Calls Tryd.prog 33 #[.slice a 0 uc, .int .i64 m] w fun e w' => e = .returned (.int .i64 m) ∧ w' = w := mark_args_w0 a uc m w hm0 hm1
set_option maxRecDepth 10000 in
set_option maxHeartbeats 4000000 in
theorem mark_a (L : List (Nat × Nat)) (p lo hi n : Nat) (v : Value) (w0 w : World) (ok : LOk L lo hi w0) (hv : ArgsL w0 L p v n) (hp : p + n * 3 ≤ L.length) (hM : MkL L p lo hi w0 w) (K : Int) (hK : K = 1 + (p : Int)) :
    Calls Tryd.prog 33 #[v, .int .i64 K] w fun e w' => e = .returned (.int .i64 (1 + ((p + n * 3 : Nat) : Int))) ∧ MkL L (p + n * 3) lo hi w0 w' := by
  have hpl := ok.len
  have HOk : Hid (LOk L lo hi w0) := ok
  have HM0 : Hid (MkL L p lo hi w0 w) := hM
  obtain ⟨a, cp, rfl, hx⟩ := hv
  have HX : Hid (∀ i, i < n * 3 → ∃ b o u, a = some ⟨b, o, none⟩ ∧ L[p + i]? = some (b, o + i) ∧ w0.cell? ⟨b, o + i, none⟩ = some (.int .i64 u)) := hx
  obtain ⟨lL, HLL⟩ : ∃ l, Hid (l = L.length) := ⟨_, rfl⟩
  rw [← HLL.out] at hp hpl
  have hK0 : 0 ≤ K := by omega
  have hK1 : K ≤ 5000000 := by omega
  have HK0 : Hid (K = 1 + (p : Int)) := hK
  clear ok hM hx hK
  go_enter Tryd.func33, Tryd.ntmps33
  go_wp2
  go_loopg [1, 5] n (fun gg k i wr => ∃ (m : Nat) (K : Int), m + gg = n ∧ i = .int .i64 m ∧ k = .int .i64 K ∧ Hid (K = 1 + ((p + m * 3 : Nat) : Int)) ∧ 0 ≤ K ∧ K ≤ 5000000 ∧ Hid (MkL L (p + m * 3) lo hi w0 wr))
  case atStart => exact ⟨0, K, by omega, rfl, rfl, (by rw [HK0.out]; simp : K = 1 + ((p + 0 * 3 : Nat) : Int)), hK0, hK1, (by simpa using HM0.out : MkL L (p + 0 * 3) lo hi w0 w)⟩
  case round =>
    clear HM0 HK0 hK0 hK1
    obtain ⟨m, K, hm, rfl, rfl, HK, hK0, hK1, HM⟩ := hrel
    by_cases hlt : m < n
    · have i1 : (m : Int) < (n : Int) := by omega
      have i2 : (0 : Int) ≤ (m : Int) := by omega
      obtain ⟨b, o, u0, rfl, l0, q0⟩ := HX.out (m * 3) (by omega)
      obtain ⟨b', o', u1, e1, l1, q1⟩ := HX.out (m * 3 + 1) (by omega)
      cases e1
      obtain ⟨b', o', u2, e2, l2, q2⟩ := HX.out (m * 3 + 2) (by omega)
      cases e2
      obtain ⟨⟨x0, c0⟩, f0, P1⟩ := HM.out.put HOk.out l0 q0 K HK.out
      obtain ⟨⟨x1, c1⟩, f1, P2⟩ := P1.put HOk.out (by rw [Nat.add_assoc]; exact l1) q1 (K + 1) (by rw [HK.out]; omega)
      obtain ⟨⟨x2, c2⟩, f2, P3⟩ := P2.put HOk.out (by rw [Nat.add_assoc, Nat.add_assoc]; exact l2) q2 (K + 1 + 1) (by rw [HK.out]; omega)
      have s1 : o + (m * 3 + 1) = o + m * 3 + 1 := by omega
      have s2 : o + (m * 3 + 2) = o + m * 3 + 1 + 1 := by omega
      rw [s1] at c1 f1
      rw [s2, s1] at c2 f2
      have HP3 : Hid (MkL L (p + (m + 1) * 3) lo hi w0 (((wr.setCell ⟨b, o + m * 3, none⟩ (.int .i64 K)).setCell ⟨b, o + m * 3 + 1, none⟩ (.int .i64 (K + 1))).setCell ⟨b, o + m * 3 + 1 + 1, none⟩ (.int .i64 (K + 1 + 1)))) := by
        have h := P3
        rw [s2, s1] at h
        rwa [show p + m * 3 + 1 + 1 + 1 = p + (m + 1) * 3 by omega] at h
      have HK2 : Hid (K + 1 + 1 + 1 = 1 + ((p + (m + 1) * 3 : Nat) : Int)) := by show K + 1 + 1 + 1 = 1 + ((p + (m + 1) * 3 : Nat) : Int); rw [HK.out]; omega
      have hK3 : K + 1 + 1 + 1 ≤ 5000000 := by have := HK2.out; omega
      clear l0 l1 l2 q0 q1 q2 P1 P2 P3 HM s1 s2
      go_wp2
      go_roundg (gk - 1)
      case measure => omega
      case rel => exact ⟨m + 1, K + 1 + 1 + 1, by omega, by go_num, rfl, HK2, by omega, hK3, HP3⟩
    · have i1 : ¬ ((m : Int) < (n : Int)) := by omega
      have hqn : m = n := by omega
      have HKn : Hid (K = 1 + ((p + n * 3 : Nat) : Int)) := (by rw [← hqn]; exact HK.out : K = 1 + ((p + n * 3 : Nat) : Int))
      have HMn : Hid (MkL L (p + n * 3) lo hi w0 wr) := (by rw [← hqn]; exact HM.out : MkL L (p + n * 3) lo hi w0 wr)
      clear hqn HK HM
      go_wp2
      go_ret
      exact ⟨(by show Ending.returned (.int .i64 K) = _; rw [HKn.out]; simp), HMn.out⟩

set_option maxRecDepth 10000 in
set_option maxHeartbeats 4000000 in
theorem mark_i (L : List (Nat × Nat)) (p lo hi : Nat) (v : Value) (xs : List InstT) (w0 w : World) (ok : LOk L lo hi w0) (hv : InstsL w0 L p v xs) (hp : p + tR xs ≤ L.length) (hlen : xs.length ≤ 1000) (hM : MkL L p lo hi w0 w) (K : Int) (hK : K = 1 + (p : Int)) :
    Calls Tryd.prog 18 #[v, .int .i64 K] w fun e w' => e = .returned (.int .i64 (1 + ((p + tR xs : Nat) : Int))) ∧ MkL L (p + tR xs) lo hi w0 w' := by
  have hpl := ok.len
  have HOk : Hid (LOk L lo hi w0) := ok
  have HM0 : Hid (MkL L p lo hi w0 w) := hM
  obtain ⟨a, cp, rfl, hx⟩ := hv
  have HX : Hid (∀ j x, xs[j]? = some x → ∃ b o u1 u2 s, a = some ⟨b, o, none⟩ ∧ L[p + ps xs j]? = some (b, o + j * 3) ∧ L[p + ps xs j + 1]? = some (b, o + j * 3 + 1) ∧ w0.cell? ⟨b, o + j * 3, none⟩ = some (.int .i64 u1) ∧ w0.cell? ⟨b, o + j * 3 + 1, none⟩ = some (.int .i64 u2) ∧ w0.cell? ⟨b, o + j * 3 + 1 + 1, none⟩ = some s ∧ ArgsL w0 L (p + ps xs j + 2) s x.one.args.length) := hx
  have HLe : Hid (∀ j, ps xs j ≤ tR xs) := fun j => sum_take_le tI xs j
  have HAll : Hid (ps xs xs.length = tR xs ∧ p + tR xs ≤ L.length ∧ L.length ≤ 4000000) := ⟨ps_all xs, hp, hpl⟩
  obtain ⟨len, HL⟩ : ∃ len, Hid (len = xs.length) := ⟨_, rfl⟩
  rw [← HL.out] at hlen ⊢
  have hK0 : 0 ≤ K := by omega
  have hK1 : K ≤ 5000000 := by omega
  have HK0 : Hid (K = 1 + (p : Int)) := hK
  clear ok hM hx hK hp hpl
  go_enter Tryd.func18, Tryd.ntmps18
  go_wp2
  go_loopg [1, 5] len (fun gg k i wr => ∃ (m : Nat) (K : Int), m + gg = len ∧ i = .int .i64 m ∧ k = .int .i64 K ∧ Hid (K = 1 + ((p + ps xs m : Nat) : Int)) ∧ 0 ≤ K ∧ K ≤ 5000000 ∧ Hid (MkL L (p + ps xs m) lo hi w0 wr))
  case atStart => exact ⟨0, K, by omega, rfl, rfl, (by rw [HK0.out]; simp [ps] : K = 1 + ((p + ps xs 0 : Nat) : Int)), hK0, hK1, (by simpa [ps] using HM0.out : MkL L (p + ps xs 0) lo hi w0 w)⟩
  case round =>
    clear HM0 HK0 hK0 hK1
    obtain ⟨m, K, hm, rfl, rfl, HK, hK0, hK1, HM⟩ := hrel
    by_cases hlt : m < len
    · have i1 : (m : Int) < (len : Int) := by omega
      have i2 : (0 : Int) ≤ (m : Int) := by omega
      obtain ⟨x, hxn⟩ : ∃ x, xs[m]? = some x := ⟨_, List.getElem?_eq_getElem (by have := HL.out; omega)⟩
      obtain ⟨b, o, u0, u1, s, rfl, l0, l1, q0, q1, q2, hA⟩ := HX.out m x hxn
      obtain ⟨⟨x0, c0⟩, f0, P1⟩ := HM.out.put HOk.out l0 q0 K HK.out
      obtain ⟨⟨x1, c1⟩, f1, P2⟩ := P1.put HOk.out l1 q1 (K + 1) (by rw [HK.out]; omega)
      obtain ⟨ua, uc, e, _⟩ := id hA
      have c2 := P2.wm.cell b (o + m * 3 + 1 + 1) _ q2 (by rw [e]; simp)
      have hnx := ps_next hxn
      have hle := HLe.out (m + 1)
      have hal := HAll.out
      have HCl : Hid (Calls Tryd.prog 33 #[s, .int .i64 (K + 1 + 1)] ((wr.setCell ⟨b, o + m * 3, none⟩ (.int .i64 K)).setCell ⟨b, o + m * 3 + 1, none⟩ (.int .i64 (K + 1))) fun e w' => e = .returned (.int .i64 (1 + ((p + ps xs m + 2 + x.one.args.length * 3 : Nat) : Int))) ∧ MkL L (p + ps xs m + 2 + x.one.args.length * 3) lo hi w0 w') := mark_a L (p + ps xs m + 2) lo hi x.one.args.length s w0 _ HOk.out hA (by omega) P2 (K + 1 + 1) (by rw [HK.out]; omega)
      subst e
      obtain ⟨ul, Hul⟩ : ∃ l, Hid (l = x.one.args.length) := ⟨_, rfl⟩
      rw [← Hul.out] at HCl c2 hnx
      obtain ⟨K2, HK2⟩ : ∃ q, Hid (q = 1 + ((p + ps xs (m + 1) : Nat) : Int)) := ⟨_, rfl⟩
      have heq : p + ps xs m + 2 + ul * 3 = p + ps xs (m + 1) := by omega
      rw [heq, ← HK2.out] at HCl
      have hK20 : 0 ≤ K2 := by rw [HK2.out]; omega
      have hK21 : K2 ≤ 5000000 := by rw [HK2.out]; omega
      clear l0 l1 q0 q1 q2 hA P1 P2 HM hnx hle hal heq HX
      go_wp2_with fail
      refine HCl.out.mono ?_
      rintro e w5 ⟨rfl, g5⟩
      have HP5 : Hid (MkL L (p + ps xs (m + 1)) lo hi w0 w5) := g5
      clear g5 HCl c0 c1 c2 f0 f1
      go_wp2
      go_roundg (gk - 1)
      case measure => omega
      case rel => exact ⟨m + 1, K2, by omega, by go_num, rfl, HK2, hK20, hK21, HP5⟩
    · have i1 : ¬ ((m : Int) < (len : Int)) := by omega
      have hqn : m = xs.length := by have := HL.out; omega
      have HKn : Hid (K = 1 + ((p + tR xs : Nat) : Int)) := (by rw [← HAll.out.1, ← hqn]; exact HK.out : K = 1 + ((p + tR xs : Nat) : Int))
      have HMn : Hid (MkL L (p + tR xs) lo hi w0 wr) := (by rw [← HAll.out.1, ← hqn]; exact HM.out : MkL L (p + tR xs) lo hi w0 wr)
      clear hqn HK HM
      go_wp2
      go_ret
      exact ⟨(by show Ending.returned (.int .i64 K) = _; rw [HKn.out]; simp), HMn.out⟩

set_option maxRecDepth 10000 in
set_option maxHeartbeats 4000000 in
theorem held_a (L : List (Nat × Nat)) (p lo hi n : Nat) (v : Value) (w0 w : World) (hll : L.length ≤ 4000000) (hv : ArgsL w0 L p v n) (hp : p + n * 3 ≤ L.length) (hM : MkL L L.length lo hi w0 w) (K : Int) (hK : K = 1 + (p : Int)) :
    Calls Tryd.prog 52 #[v, .int .i64 K] w fun e w' => e = .returned (.int .i64 (1 + ((p + n * 3 : Nat) : Int))) ∧ w' = w := by
  have HM : Hid (MkL L L.length lo hi w0 w) := hM
  obtain ⟨a, cp, rfl, hx⟩ := hv
  have HX : Hid (∀ i, i < n * 3 → ∃ b o u, a = some ⟨b, o, none⟩ ∧ L[p + i]? = some (b, o + i) ∧ w0.cell? ⟨b, o + i, none⟩ = some (.int .i64 u)) := hx
  obtain ⟨lL, HLL⟩ : ∃ l, Hid (l = L.length) := ⟨_, rfl⟩
  rw [← HLL.out] at hp hll
  have hK0 : 0 ≤ K := by omega
  have hK1 : K ≤ 5000000 := by omega
  have HK0 : Hid (K = 1 + (p : Int)) := hK
  clear hM hx hK
  go_enter Tryd.func52, Tryd.ntmps52
  go_wp2
  go_loopg [1, 5] n (fun gg k i wr => ∃ (m : Nat) (K : Int), m + gg = n ∧ i = .int .i64 m ∧ k = .int .i64 K ∧ Hid (K = 1 + ((p + m * 3 : Nat) : Int)) ∧ 0 ≤ K ∧ K ≤ 5000000 ∧ wr = w)
  case atStart => exact ⟨0, K, by omega, rfl, rfl, (by rw [HK0.out]; simp : K = 1 + ((p + 0 * 3 : Nat) : Int)), hK0, hK1, rfl⟩
  case round =>
    clear HK0 hK0 hK1
    obtain ⟨m, K, hm, rfl, rfl, HK, hK0, hK1, rfl⟩ := hrel
    by_cases hlt : m < n
    · have i1 : (m : Int) < (n : Int) := by omega
      have i2 : (0 : Int) ≤ (m : Int) := by omega
      obtain ⟨b, o, u0, rfl, l0, q0⟩ := HX.out (m * 3) (by omega)
      obtain ⟨b', o', u1, e1, l1, q1⟩ := HX.out (m * 3 + 1) (by omega)
      cases e1
      obtain ⟨b', o', u2, e2, l2, q2⟩ := HX.out (m * 3 + 2) (by omega)
      cases e2
      have hll2 := HLL.out
      have c0 : wr.cell? ⟨b, o + m * 3, none⟩ = some (.int .i64 K) := by have := HM.out.at' _ _ (by omega) l0; rw [HK.out]; exact this
      have c1 : wr.cell? ⟨b, o + m * 3 + 1, none⟩ = some (.int .i64 (K + 1)) := by
        have h := HM.out.at' _ _ (by omega) l1
        rw [show K + 1 = 1 + ((p + (m * 3 + 1) : Nat) : Int) by rw [HK.out]; omega]
        exact h
      have c2 : wr.cell? ⟨b, o + m * 3 + 1 + 1, none⟩ = some (.int .i64 (K + 1 + 1)) := by
        have h := HM.out.at' _ _ (by omega) l2
        rw [show K + 1 + 1 = 1 + ((p + (m * 3 + 2) : Nat) : Int) by rw [HK.out]; omega]
        exact h
      have HK2 : Hid (K + 1 + 1 + 1 = 1 + ((p + (m + 1) * 3 : Nat) : Int)) := by show K + 1 + 1 + 1 = 1 + ((p + (m + 1) * 3 : Nat) : Int); rw [HK.out]; omega
      have hK3 : K + 1 + 1 + 1 ≤ 5000000 := by have := HK2.out; omega
      clear l0 l1 l2 q0 q1 q2 hll2
      go_wp2
      go_roundg (gk - 1)
      case measure => omega
      case rel => exact ⟨m + 1, K + 1 + 1 + 1, by omega, by go_num, rfl, HK2, by omega, hK3, rfl⟩
    · have i1 : ¬ ((m : Int) < (n : Int)) := by omega
      have hqn : m = n := by omega
      have HKn : Hid (K = 1 + ((p + n * 3 : Nat) : Int)) := (by rw [← hqn]; exact HK.out : K = 1 + ((p + n * 3 : Nat) : Int))
      clear hqn HK
      go_wp2
      go_ret
      exact ⟨(by show Ending.returned (.int .i64 K) = _; rw [HKn.out]; simp), rfl⟩

set_option maxRecDepth 10000 in
set_option maxHeartbeats 4000000 in
theorem held_i (L : List (Nat × Nat)) (p lo hi : Nat) (v : Value) (xs : List InstT) (w0 w : World) (hll : L.length ≤ 4000000) (hv : InstsL w0 L p v xs) (hp : p + tR xs ≤ L.length) (hlen : xs.length ≤ 1000) (hM : MkL L L.length lo hi w0 w) (K : Int) (hK : K = 1 + (p : Int)) :
    Calls Tryd.prog 34 #[v, .int .i64 K] w fun e w' => e = .returned (.int .i64 (1 + ((p + tR xs : Nat) : Int))) ∧ w' = w := by
  have HM : Hid (MkL L L.length lo hi w0 w) := hM
  obtain ⟨a, cp, rfl, hx⟩ := hv
  have HX : Hid (∀ j x, xs[j]? = some x → ∃ b o u1 u2 s, a = some ⟨b, o, none⟩ ∧ L[p + ps xs j]? = some (b, o + j * 3) ∧ L[p + ps xs j + 1]? = some (b, o + j * 3 + 1) ∧ w0.cell? ⟨b, o + j * 3, none⟩ = some (.int .i64 u1) ∧ w0.cell? ⟨b, o + j * 3 + 1, none⟩ = some (.int .i64 u2) ∧ w0.cell? ⟨b, o + j * 3 + 1 + 1, none⟩ = some s ∧ ArgsL w0 L (p + ps xs j + 2) s x.one.args.length) := hx
  have HLe : Hid (∀ j, ps xs j ≤ tR xs) := fun j => sum_take_le tI xs j
  have HAll : Hid (ps xs xs.length = tR xs ∧ p + tR xs ≤ L.length ∧ L.length ≤ 4000000) := ⟨ps_all xs, hp, hll⟩
  obtain ⟨len, HL⟩ : ∃ len, Hid (len = xs.length) := ⟨_, rfl⟩
  rw [← HL.out] at hlen ⊢
  have hK0 : 0 ≤ K := by omega
  have hK1 : K ≤ 5000000 := by omega
  have HK0 : Hid (K = 1 + (p : Int)) := hK
  clear hM hx hK hp hll
  go_enter Tryd.func34, Tryd.ntmps34
  go_wp2
  go_loopg [1, 5] len (fun gg k i wr => ∃ (m : Nat) (K : Int), m + gg = len ∧ i = .int .i64 m ∧ k = .int .i64 K ∧ Hid (K = 1 + ((p + ps xs m : Nat) : Int)) ∧ 0 ≤ K ∧ K ≤ 5000000 ∧ wr = w)
  case atStart => exact ⟨0, K, by omega, rfl, rfl, (by rw [HK0.out]; simp [ps] : K = 1 + ((p + ps xs 0 : Nat) : Int)), hK0, hK1, rfl⟩
  case round =>
    clear HK0 hK0 hK1
    obtain ⟨m, K, hm, rfl, rfl, HK, hK0, hK1, rfl⟩ := hrel
    by_cases hlt : m < len
    · have i1 : (m : Int) < (len : Int) := by omega
      have i2 : (0 : Int) ≤ (m : Int) := by omega
      obtain ⟨x, hxn⟩ : ∃ x, xs[m]? = some x := ⟨_, List.getElem?_eq_getElem (by have := HL.out; omega)⟩
      obtain ⟨b, o, u0, u1, s, rfl, l0, l1, q0, q1, q2, hA⟩ := HX.out m x hxn
      have hnx := ps_next hxn
      have hle := HLe.out (m + 1)
      have hal := HAll.out
      have c0 : wr.cell? ⟨b, o + m * 3, none⟩ = some (.int .i64 K) := by have := HM.out.at' _ _ (by omega) l0; rw [HK.out]; exact this
      have c1 : wr.cell? ⟨b, o + m * 3 + 1, none⟩ = some (.int .i64 (K + 1)) := by
        have h := HM.out.at' _ _ (by omega) l1
        rw [show K + 1 = 1 + ((p + ps xs m + 1 : Nat) : Int) by rw [HK.out]; omega]
        exact h
      obtain ⟨ua, uc, e, _⟩ := id hA
      have c2 := HM.out.wm.cell b (o + m * 3 + 1 + 1) _ q2 (by rw [e]; simp)
      have HCl : Hid (Calls Tryd.prog 52 #[s, .int .i64 (K + 1 + 1)] wr fun e w' => e = .returned (.int .i64 (1 + ((p + ps xs m + 2 + x.one.args.length * 3 : Nat) : Int))) ∧ w' = wr) := held_a L (p + ps xs m + 2) lo hi x.one.args.length s w0 _ (by omega) hA (by omega) HM.out (K + 1 + 1) (by rw [HK.out]; omega)
      subst e
      obtain ⟨ul, Hul⟩ : ∃ l, Hid (l = x.one.args.length) := ⟨_, rfl⟩
      rw [← Hul.out] at HCl c2 hnx
      obtain ⟨K2, HK2⟩ : ∃ q, Hid (q = 1 + ((p + ps xs (m + 1) : Nat) : Int)) := ⟨_, rfl⟩
      have heq : p + ps xs m + 2 + ul * 3 = p + ps xs (m + 1) := by omega
      rw [heq, ← HK2.out] at HCl
      have hK20 : 0 ≤ K2 := by rw [HK2.out]; omega
      have hK21 : K2 ≤ 5000000 := by rw [HK2.out]; omega
      have j1 : ¬ (K2 < 0) := by omega
      clear l0 l1 q0 q1 q2 hA hnx hle hal heq HX
      go_wp2_with fail
      refine HCl.out.mono ?_
      rintro e w5 ⟨rfl, rfl⟩
      clear HCl c0 c1 c2
      go_wp2
      go_roundg (gk - 1)
      case measure => omega
      case rel => exact ⟨m + 1, K2, by omega, by go_num, rfl, HK2, hK20, hK21, rfl⟩
    · have i1 : ¬ ((m : Int) < (len : Int)) := by omega
      have hqn : m = xs.length := by have := HL.out; omega
      have HKn : Hid (K = 1 + ((p + tR xs : Nat) : Int)) := (by rw [← HAll.out.1, ← hqn]; exact HK.out : K = 1 + ((p + tR xs : Nat) : Int))
      clear hqn HK
      go_wp2
      go_ret
      exact ⟨(by show Ending.returned (.int .i64 K) = _; rw [HKn.out]; simp), rfl⟩

def pr (rs : List (List InstT)) (i : Nat) : Nat := ((rs.take i).map tR).sum
theorem pr_next {rs : List (List InstT)} {i : Nat} {r : List InstT} (h : rs[i]? = some r) : pr rs (i + 1) = pr rs i + tR r := sum_take tR rs i r h
theorem pr_all (rs : List (List InstT)) : pr rs rs.length = (rs.map tR).sum := by unfold pr; rw [List.take_length]

set_option maxRecDepth 10000 in
set_option maxHeartbeats 4000000 in
theorem mark_ss (L : List (Nat × Nat)) (lo hi : Nat) (v : Value) (rs : List (List InstT)) (w0 w : World) (ok : LOk L lo hi w0) (hv : SSL w0 L v rs) (hT : L.length = (rs.map tR).sum) (hlen : rs.length ≤ 1000) (hrl : ∀ r ∈ rs, r.length ≤ 1000) (hM : MkL L 0 lo hi w0 w) :
    Calls Tryd.prog 19 #[v, .int .i64 1] w fun e w' => e = .returned (.int .i64 (1 + (L.length : Int))) ∧ MkL L L.length lo hi w0 w' := by
  have hpl := ok.len
  have HOk : Hid (LOk L lo hi w0) := ok
  have HM0 : Hid (MkL L 0 lo hi w0 w) := hM
  obtain ⟨a, cp, rfl, hx⟩ := hv
  have HX : Hid (∀ i r, rs[i]? = some r → ∃ b o s, a = some ⟨b, o, none⟩ ∧ w0.cell? ⟨b, o + i, none⟩ = some s ∧ InstsL w0 L (pr rs i) s r) := hx
  have HAll : Hid ((∀ i, pr rs i ≤ L.length) ∧ pr rs rs.length = L.length ∧ L.length ≤ 4000000 ∧ ∀ r ∈ rs, r.length ≤ 1000) := ⟨fun i => by rw [hT]; exact sum_take_le tR rs i, by rw [pr_all, hT], hpl, hrl⟩
  obtain ⟨len, HL⟩ : ∃ len, Hid (len = rs.length) := ⟨_, rfl⟩
  rw [← HL.out] at hlen ⊢
  obtain ⟨KT', HKT⟩ : ∃ q, Hid (q = 1 + (L.length : Int)) := ⟨_, rfl⟩
  rw [← HKT.out]
  clear ok hM hx hpl hT hrl
  go_enter Tryd.func19, Tryd.ntmps19
  go_wp2
  go_loopg [1, 5] len (fun gg k i wr => ∃ (m : Nat) (K : Int), m + gg = len ∧ i = .int .i64 m ∧ k = .int .i64 K ∧ Hid (K = 1 + (pr rs m : Int)) ∧ 0 ≤ K ∧ K ≤ 5000000 ∧ Hid (MkL L (pr rs m) lo hi w0 wr))
  case atStart => exact ⟨0, 1, by omega, rfl, rfl, (by simp [pr] : (1 : Int) = 1 + (pr rs 0 : Int)), by omega, by omega, HM0⟩
  case round =>
    clear HM0
    obtain ⟨m, K, hm, rfl, rfl, HK, hK0, hK1, HM⟩ := hrel
    by_cases hlt : m < len
    · have i1 : (m : Int) < (len : Int) := by omega
      have i2 : (0 : Int) ≤ (m : Int) := by omega
      obtain ⟨r, hrn⟩ : ∃ r, rs[m]? = some r := ⟨_, List.getElem?_eq_getElem (by have := HL.out; omega)⟩
      obtain ⟨b, o, s, rfl, q0, hI⟩ := HX.out m r hrn
      obtain ⟨sa, sc, e, _⟩ := id hI
      have cs := HM.out.wm.cell b (o + m) _ q0 (by rw [e]; simp)
      have hnx := pr_next hrn
      have hle := HAll.out.1 (m + 1)
      have hal := HAll.out.2.2.1
      have HCl : Hid (Calls Tryd.prog 18 #[s, .int .i64 K] wr fun e w' => e = .returned (.int .i64 (1 + ((pr rs m + tR r : Nat) : Int))) ∧ MkL L (pr rs m + tR r) lo hi w0 w') := mark_i L (pr rs m) lo hi s r w0 _ HOk.out hI (by omega) (HAll.out.2.2.2 r (List.mem_of_getElem? hrn)) HM.out K HK.out
      subst e
      obtain ⟨ul, Hul⟩ : ∃ l, Hid (l = r.length) := ⟨_, rfl⟩
      rw [← Hul.out] at HCl cs
      obtain ⟨K2, HK2⟩ : ∃ q, Hid (q = 1 + (pr rs (m + 1) : Int)) := ⟨_, rfl⟩
      rw [← hnx, ← HK2.out] at HCl
      have hK20 : 0 ≤ K2 := by rw [HK2.out]; omega
      have hK21 : K2 ≤ 5000000 := by rw [HK2.out]; omega
      have j1 : ¬ (K2 < 0) := by omega
      clear q0 hI hnx hle hal HX HM
      go_wp2_with fail
      refine HCl.out.mono ?_
      rintro e w5 ⟨rfl, g5⟩
      have HP5 : Hid (MkL L (pr rs (m + 1)) lo hi w0 w5) := g5
      clear g5 HCl cs
      go_wp2
      go_roundg (gk - 1)
      case measure => omega
      case rel => exact ⟨m + 1, K2, by omega, by go_num, rfl, HK2, hK20, hK21, HP5⟩
    · have i1 : ¬ ((m : Int) < (len : Int)) := by omega
      have hqn : m = rs.length := by have := HL.out; omega
      have HKn : Hid (K = KT') := (by rw [HKT.out, ← HAll.out.2.1, ← hqn]; exact HK.out : K = KT')
      have HMn : Hid (MkL L L.length lo hi w0 wr) := (by have h := HM.out; rwa [hqn, HAll.out.2.1] at h : MkL L L.length lo hi w0 wr)
      clear HM
      clear hqn HK
      go_wp2
      go_ret
      exact ⟨(by show Ending.returned (.int .i64 K) = _; rw [HKn.out]), HMn.out⟩

set_option maxRecDepth 10000 in
set_option maxHeartbeats 4000000 in
theorem held_ss (L : List (Nat × Nat)) (lo hi : Nat) (v : Value) (rs : List (List InstT)) (w0 w : World) (ok : LOk L lo hi w0) (hv : SSL w0 L v rs) (hT : L.length = (rs.map tR).sum) (hlen : rs.length ≤ 1000) (hrl : ∀ r ∈ rs, r.length ≤ 1000) (hM : MkL L L.length lo hi w0 w) :
    Calls Tryd.prog 20 #[v, .int .i64 1] w fun e w' => e = .returned (.int .i64 (1 + (L.length : Int))) ∧ w' = w := by
  have hpl := ok.len
  have HOk : Hid (LOk L lo hi w0) := ok
  have HM0 : Hid (MkL L L.length lo hi w0 w) := hM
  obtain ⟨a, cp, rfl, hx⟩ := hv
  have HX : Hid (∀ i r, rs[i]? = some r → ∃ b o s, a = some ⟨b, o, none⟩ ∧ w0.cell? ⟨b, o + i, none⟩ = some s ∧ InstsL w0 L (pr rs i) s r) := hx
  have HAll : Hid ((∀ i, pr rs i ≤ L.length) ∧ pr rs rs.length = L.length ∧ L.length ≤ 4000000 ∧ ∀ r ∈ rs, r.length ≤ 1000) := ⟨fun i => by rw [hT]; exact sum_take_le tR rs i, by rw [pr_all, hT], hpl, hrl⟩
  obtain ⟨len, HL⟩ : ∃ len, Hid (len = rs.length) := ⟨_, rfl⟩
  rw [← HL.out] at hlen ⊢
  obtain ⟨KT', HKT⟩ : ∃ q, Hid (q = 1 + (L.length : Int)) := ⟨_, rfl⟩
  rw [← HKT.out]
  clear ok hM hx hpl hT hrl
  go_enter Tryd.func20, Tryd.ntmps20
  go_wp2
  go_loopg [1, 5] len (fun gg k i wr => ∃ (m : Nat) (K : Int), m + gg = len ∧ i = .int .i64 m ∧ k = .int .i64 K ∧ Hid (K = 1 + (pr rs m : Int)) ∧ 0 ≤ K ∧ K ≤ 5000000 ∧ wr = w)
  case atStart => exact ⟨0, 1, by omega, rfl, rfl, (by simp [pr] : (1 : Int) = 1 + (pr rs 0 : Int)), by omega, by omega, rfl⟩
  case round =>
    skip
    obtain ⟨m, K, hm, rfl, rfl, HK, hK0, hK1, rfl⟩ := hrel
    by_cases hlt : m < len
    · have i1 : (m : Int) < (len : Int) := by omega
      have i2 : (0 : Int) ≤ (m : Int) := by omega
      obtain ⟨r, hrn⟩ : ∃ r, rs[m]? = some r := ⟨_, List.getElem?_eq_getElem (by have := HL.out; omega)⟩
      obtain ⟨b, o, s, rfl, q0, hI⟩ := HX.out m r hrn
      obtain ⟨sa, sc, e, _⟩ := id hI
      have cs := HM0.out.wm.cell b (o + m) _ q0 (by rw [e]; simp)
      have hnx := pr_next hrn
      have hle := HAll.out.1 (m + 1)
      have hal := HAll.out.2.2.1
      have HCl : Hid (Calls Tryd.prog 34 #[s, .int .i64 K] wr fun e w' => e = .returned (.int .i64 (1 + ((pr rs m + tR r : Nat) : Int))) ∧ w' = wr) := held_i L (pr rs m) lo hi s r w0 _ hal hI (by omega) (HAll.out.2.2.2 r (List.mem_of_getElem? hrn)) HM0.out K HK.out
      subst e
      obtain ⟨ul, Hul⟩ : ∃ l, Hid (l = r.length) := ⟨_, rfl⟩
      rw [← Hul.out] at HCl cs
      obtain ⟨K2, HK2⟩ : ∃ q, Hid (q = 1 + (pr rs (m + 1) : Int)) := ⟨_, rfl⟩
      rw [← hnx, ← HK2.out] at HCl
      have hK20 : 0 ≤ K2 := by rw [HK2.out]; omega
      have hK21 : K2 ≤ 5000000 := by rw [HK2.out]; omega
      have j1 : ¬ (K2 < 0) := by omega
      clear q0 hI hnx hle hal HX
      go_wp2_with fail
      refine HCl.out.mono ?_
      rintro e w5 ⟨rfl, rfl⟩
      clear HCl cs
      go_wp2
      go_roundg (gk - 1)
      case measure => omega
      case rel => exact ⟨m + 1, K2, by omega, by go_num, rfl, HK2, hK20, hK21, rfl⟩
    · have i1 : ¬ ((m : Int) < (len : Int)) := by omega
      have hqn : m = rs.length := by have := HL.out; omega
      have HKn : Hid (K = KT') := (by rw [HKT.out, ← HAll.out.2.1, ← hqn]; exact HK.out : K = KT')
      clear hqn HK
      go_wp2
      go_ret
      exact ⟨(by show Ending.returned (.int .i64 K) = _; rw [HKn.out]), rfl⟩
end Go.Proofs.YtcmmiamnbefefaaDoor
/- Lists of lists compared, and the law FnExactSureRungs. -/
namespace Go.Proofs.YtcmmiamnbefefaaDoor
open Go.RowKit
set_option linter.unusedVariables false

set_option maxRecDepth 10000 in
set_option maxHeartbeats 2000000 in
theorem to_insts_rowQ (v : Value) (xs : List InstT) (w : World) (lo : Nat) (hv : RowIs w lo 3 (InstIs w lo) v xs) (hbig : xs.length ≤ 1048576)
    (HC : Hid (∀ x cs, x ∈ xs → ∀ (W : World), (InstIs W lo) x cs → Calls Tryd.prog 29 #[.agg cs.toArray] W fun r w' => ∃ ds : List Value, r = .returned (.agg ds.toArray) ∧ ds.length = 3 ∧ (∀ d ∈ ds, d.oneCell' = true) ∧ (InstIs w' W.heap.size) x ds ∧ BP W.heap.size W w'))
    (HM : Hid (∀ x cs (l l' : Nat) (W W' : World), Keeps l W W' → l' ≤ l → (InstIs W l) x cs → (InstIs W' l') x cs)) :
    Calls Tryd.prog 12 #[v] w fun r w' => ∃ v', r = .returned v' ∧ RowIs w' w.heap.size 3 (InstIs w' w.heap.size) v' xs ∧ BP w.heap.size w w' ∧ ∃ a, v' = .slice a xs.length xs.length := by
  obtain ⟨a, cap, rfl, hl, hx⟩ := hv
  have HX : Hid (∀ j x, xs[j]? = some x → ∃ b o cs, a = some ⟨b, o, none⟩ ∧ lo ≤ b ∧ cs.length = 3 ∧ w.rangeAt b (o + j * 3) cs ∧ (InstIs w lo) x cs) := hx
  have hmk := make_Inst xs.length hbig
  obtain ⟨len, HL⟩ : ∃ len, Hid (len = xs.length) := ⟨_, rfl⟩
  rw [← HL.out] at hl hmk hbig ⊢
  clear hx
  go_enter Tryd.func12, Tryd.ntmps12
  go_wp2
  go_loopg [4] len (fun g i wr => ∃ n : Nat, n + g = len ∧ i = .int .i64 n ∧ BP w.heap.size w wr ∧ ∃ C : Array Value, wr.heap[w.heap.size]? = some (.cells C 50 (0, 0)) ∧ C.size = len * 3 ∧ Hid (∀ j x, j < n → xs[j]? = some x → ∃ ds : List Value, ds.length = 3 ∧ (∀ i d, ds[i]? = some d → C[j * 3 + i]? = some d) ∧ (InstIs wr (w.heap.size + 1)) x ds))
  case atStart => exact ⟨0, by omega, rfl, (BP.refl _ _).alloc (Nat.le_refl _) _, _, heap_alloc_last w _, size_madeCells _ _, fun j x hj => by omega⟩
  case round =>
    obtain ⟨n, hn, rfl, hb, C, hC, hs, HS⟩ := hrel
    by_cases hlt : n < len
    · have i1 : (n : Int) < (len : Int) := by omega
      have i3 : (0 : Int) ≤ (n : Int) := by omega
      obtain ⟨x, hxn⟩ : ∃ x, xs[n]? = some x := ⟨_, List.getElem?_eq_getElem (by have := HL.out; omega)⟩
      obtain ⟨b, o, cs, rfl, hlo, hcs, hrg, hR⟩ := HX.out n x hxn
      have HB : Hid (BP w.heap.size w wr) := hb
      have HCr : Hid (wr.heap[w.heap.size]? = some (.cells C 50 (0, 0))) := hC
      have HLd : Hid ((loadVar 62 ⟨b, o + n * 3, none⟩).run Tryd.prog wr = .ok (.agg cs.toArray) wr) := run_loadVar_mid wr b (o + n * 3) 62 cs _ (fun i c hi => (Keeps.of_bp (B := 0) hb 0) _ _ _ (Nat.zero_le _) (hrg i c hi)) Tryd.underlying62 rfl (by rw [hcs]; kernel_rfl)
      have HCx : Hid (Calls Tryd.prog 29 #[.agg cs.toArray] wr fun r w' => ∃ ds : List Value, r = .returned (.agg ds.toArray) ∧ ds.length = 3 ∧ (∀ d ∈ ds, d.oneCell' = true) ∧ (InstIs w' wr.heap.size) x ds ∧ BP wr.heap.size wr w') := HC.out x cs (List.mem_of_getElem? hxn) wr (HM.out x cs lo lo w wr (Keeps.of_bp (B := 0) hb lo) (Nat.le_refl _) hR)
      have Bl : w.heap.size < wr.heap.size := (Array.getElem?_eq_some_iff.1 hC).1
      clear hb hrg hcs hR hlo hC
      go_wp2_with (first | (refine wpL_load rfl 62 _ rfl _ _ rfl _ HLd.out ?_) | fail)
      refine HCx.out.mono ?_
      rintro r w1 ⟨ds, rfl, hds, hone, hRd, g1⟩
      have hC1 : w1.heap[w.heap.size]? = some (.cells C 50 (0, 0)) := (g1.block _ Bl).trans HCr.out
      have b1 : BP w.heap.size w w1 := HB.out.trans (g1.mono HB.out.size)
      have HST : Hid ((storeVar 50 ⟨w.heap.size, n * 3, none⟩ (.agg ds.toArray)).run Tryd.prog w1 = .ok () (w1.setRow w.heap.size (putAt C (n * 3) ds))) := by
        have h1 : n * 3 + 3 ≤ len * 3 := by omega
        have := store_sub (P := Tryd.prog) hC1 50 (n * 3) ds.toArray (by simp [hds]; omega) (by rw [List.size_toArray, hds]; kernel_rfl) (by simp; exact hone)
        show _ = _
        simpa using this
      clear HCx HLd
      go_wp2_with (first | (refine wpL_store rfl 50 _ _ rfl _ _ rfl _ rfl _ HST.out ?_) | fail)
      go_roundg (gk - 1)
      case measure => omega
      case rel =>
        refine ⟨n + 1, by omega, by simp, bp_row b1 (Nat.le_refl _) hC1 _, _, row_set hC1 _, by rw [putAt_size]; exact hs, ?_⟩
        intro j x' hj hx'
        by_cases hjn : j = n
        · subst hjn
          obtain rfl := Option.some.inj (hxn.symm.trans hx')
          refine ⟨ds, hds, fun i d hd => ?_, HM.out _ _ wr.heap.size (w.heap.size + 1) w1 (w1.setRow w.heap.size (putAt C (j * 3) ds)) (keeps_row (by omega)) (by omega) hRd⟩
          have hi : i < 3 := by have := (List.getElem?_eq_some_iff.1 hd).1; omega
          rw [putAt_get _ _ _ (by omega), if_pos (by omega), Nat.add_sub_cancel_left]; exact hd
        · obtain ⟨es, he, hce, hRe⟩ := HS.out j x' (by omega) hx'
          refine ⟨es, he, fun i d hd => ?_, HM.out _ _ (w.heap.size + 1) (w.heap.size + 1) wr (w1.setRow w.heap.size (putAt C (n * 3) ds)) ((Keeps.of_bp (B := 0) g1 _).trans (keeps_row (by omega))) (Nat.le_refl _) hRe⟩
          have hi : i < 3 := by have := (List.getElem?_eq_some_iff.1 hd).1; omega
          rw [putAt_get _ _ _ (by omega), if_neg (by omega)]; exact hce i d hd
    · have i1 : ¬ ((n : Int) < (len : Int)) := by omega
      go_wp2
      go_ret
      refine ⟨_, rfl, ⟨some ⟨w.heap.size, 0, none⟩, len, by rw [← HL.out]; rfl, by rw [← HL.out]; omega, fun j x hj => ?_⟩, hb, some ⟨w.heap.size, 0, none⟩, rfl⟩
      have hjl : j < n := by have := (List.getElem?_eq_some_iff.1 hj).1; have := HL.out; omega
      obtain ⟨ds, hds, hcd, hRd⟩ := HS.out j x hjl hj
      refine ⟨w.heap.size, 0, ds, rfl, Nat.le_refl _, hds, fun i d hd => ?_, HM.out _ _ (w.heap.size + 1) w.heap.size wr wr (Keeps.refl _ _) (by omega) hRd⟩
      rw [Nat.zero_add, cell_of_row _ _ _ _ _ _ hC]; exact hcd i d hd

theorem to_instsQ (v : Value) (xs : List InstT) (w : World) (lo : Nat) (hv : InstsIs w lo v xs) (hbig : xs.length + (xs.map wI).sum ≤ 1048576) :
    Calls Tryd.prog 12 #[v] w fun r w' => ∃ v', r = .returned v' ∧ InstsIs w' w.heap.size v' xs ∧ BP w.heap.size w w' ∧ ∃ a, v' = .slice a xs.length xs.length :=
  to_insts_rowQ v xs w lo hv (by omega) (fun x cs hx W h => to_instP x cs W lo h (by have := sum_mem wI xs x hx; omega)) (fun x cs l l' W W' k hl h => h.move k hl)

theorem own_same {W W' : World} {base : Nat} {e : TypeId} {size : Nat} {v : Value} {n : Nat} {xs : List Value} (h : W.ownsRow base e size v n xs) (hb : ∀ g, v.ownBlock = some g → W'.heap[g]? = W.heap[g]?) : W'.ownsRow base e size v n xs := by
  refine ⟨h.1, ?_⟩
  rcases h.2 with h | ⟨g1, cap, cur, rfl, e2, e3, e4⟩
  · exact .inl h
  · exact .inr ⟨g1, cap, cur, rfl, e2, (hb g1 rfl).trans e3, e4⟩
theorem row_same {α : Type} {W W' : World} {base e z : Nat} {R R' : List Nat → α → List Value → Prop} {F : List Nat} {v : Value} {xs : List α} (h : RowOwn W base e z R F v xs) (hb : ∀ b ∈ F, W'.heap[b]? = W.heap[b]?) (hR : ∀ f x c, (∀ b ∈ f, W'.heap[b]? = W.heap[b]?) → R f x c → R' f x c) : RowOwn W' base e z R' F v xs := by
  obtain ⟨cs, F', h1, h2, rfl⟩ := h
  exact ⟨cs, F', h1.move fun f x c hf => hR f x c fun b hm => hb b (List.mem_append_right _ (hf hm)), own_same h2 (fun g hg => hb g (by rw [hg]; simp)), rfl⟩
theorem ss_same {W W' : World} {base : Nat} {F : List Nat} {v : Value} {rs : List (List InstT)} (h : SSOwn W base F v rs) (hb : ∀ b ∈ F, W'.heap[b]? = W.heap[b]?) : SSOwn W' base F v rs :=
  row_same h hb fun f x c hf ⟨u, e, k⟩ => ⟨u, e, row_same k hf fun f2 x2 c2 hf2 ⟨u2, e2, k2⟩ => ⟨u2, e2, row_same k2 hf2 fun f3 x3 c3 _ h3 => h3⟩⟩
theorem rg_len : ∀ (xs cur : List InstT) (out : List (List InstT)), (rg xs cur out).length ≤ out.length + xs.length
  | [], cur, out => by simp [rg]
  | x :: xs, cur, out => by
    rw [rg]
    split
    · have := rg_len xs [] (out ++ [cur ++ [x]]); simp at this ⊢; omega
    · have := rg_len xs (cur ++ [x]) out; simp at this ⊢; omega
theorem rg_each : ∀ (xs cur : List InstT) (out : List (List InstT)), ∀ r ∈ rg xs cur out, r ∈ out ∨ r.length ≤ cur.length + xs.length
  | [], cur, out, r, h => by rw [rg] at h; exact .inl h
  | x :: xs, cur, out, r, h => by
    rw [rg] at h
    split at h
    · rcases rg_each xs [] _ r h with h1 | h1
      · rcases List.mem_append.1 h1 with h1 | h1
        · exact .inl h1
        · simp at h1; right; rw [h1]; simp <;> omega
      · right; simp at h1 ⊢; omega
    · rcases rg_each xs _ out r h with h1 | h1
      · exact .inl h1
      · right; simp at h1 ⊢; omega
theorem rg_sum : ∀ (xs cur : List InstT) (out : List (List InstT)), ((rg xs cur out).map tR).sum ≤ (out.map tR).sum + tR cur + tR xs
  | [], cur, out => by simp [rg]; omega
  | x :: xs, cur, out => by
    rw [rg]
    split
    · have := rg_sum xs [] (out ++ [cur ++ [x]]); simp [tR] at this ⊢; omega
    · have := rg_sum xs (cur ++ [x]) out; simp [tR] at this ⊢; omega
theorem tR_le : ∀ (xs : List InstT), tR xs ≤ 3 * (xs.length + (xs.map wI).sum)
  | [] => by simp [tR]
  | x :: xs => by
    have := tR_le xs
    have hw : wI x = x.one.args.length := rfl
    simp [tR, tI] at this ⊢
    omega
theorem rungs_bounds {xs : List InstT} (h : xs.length + (xs.map wI).sum ≤ 1048576) : (rungsT xs).length ≤ 1000 ∧ (∀ r ∈ rungsT xs, r.length ≤ 1000) ∧ ((rungsT xs).map tR).sum ≤ 4000000 := by
  unfold rungsT
  split
  · next hc =>
    have h1 := check_len hc
    have h2 := rg_len xs [] []
    have h3 := rg_sum xs [] []
    have h4 := tR_le xs
    refine ⟨by simp at h2; omega, fun r hr => ?_, by simp [tR] at h3 h4; unfold tR at *; omega⟩
    rcases rg_each xs [] [] r hr with h5 | h5
    · simp at h5
    · simp at h5; omega
  · simp

set_option maxRecDepth 10000 in
set_option maxHeartbeats 4000000 in
theorem eq_ss (v v' : Value) (rs : List (List InstT)) (lo lo' : Nat) (hn : rs.length ≤ 1000) (w : World) (hv : SSIs w lo v rs) (hv' : SSIs w lo' v' rs) :
    Calls Tryd.prog 17 #[v, v'] w fun r w' => r = .returned (.bool true) ∧ Below w.heap.size w w' := by
  obtain ⟨a, cp, rfl, hl, hx⟩ := hv
  obtain ⟨a', cp', rfl, hl', hx'⟩ := hv'
  have HX : Hid (∀ j x, rs[j]? = some x → ∃ b o cs, a = some ⟨b, o, none⟩ ∧ lo ≤ b ∧ cs.length = 1 ∧ w.rangeAt b (o + j * 1) cs ∧ RungIs w lo x cs) := hx
  have HX' : Hid (∀ j x, rs[j]? = some x → ∃ b o cs, a' = some ⟨b, o, none⟩ ∧ lo' ≤ b ∧ cs.length = 1 ∧ w.rangeAt b (o + j * 1) cs ∧ RungIs w lo' x cs) := hx'
  obtain ⟨n, HN⟩ : ∃ n, Hid (n = rs.length) := ⟨_, rfl⟩
  rw [← HN.out] at hn ⊢
  clear hl hl' hx hx'
  go_enter Tryd.func17, Tryd.ntmps17
  go_wp2
  go_loopg [5] n (fun g i wr => ∃ m : Nat, m + g = n ∧ i = .int .i64 m ∧ Hid (Below w.heap.size w wr))
  case atStart => exact ⟨0, by omega, rfl, Below.refl _ _⟩
  case round =>
    obtain ⟨m, hm, rfl, HB⟩ := hrel
    by_cases hlt : m < n
    · have i1 : (m : Int) < (n : Int) := by omega
      have i3 : (0 : Int) ≤ (m : Int) := by omega
      obtain ⟨r, hrn⟩ : ∃ r, rs[m]? = some r := ⟨_, List.getElem?_eq_getElem (by have := HN.out; omega)⟩
      obtain ⟨b, o, cs, rfl, _, hcs, hrg, s, rfl, hI⟩ := HX.out m r hrn
      obtain ⟨b', o', cs', rfl, _, hcs', hrg', s', rfl, hI'⟩ := HX'.out m r hrn
      obtain ⟨sa, sc, rfl, _, _⟩ := id hI
      obtain ⟨sa', sc', rfl, _, _⟩ := id hI'
      have c0 : wr.cell? ⟨b, o + m, none⟩ = some (.slice sa r.length sc) := (Keeps.of_below HB.out 0) _ _ _ (Nat.zero_le _) (by have := hrg 0 _ rfl; simpa using this)
      have c1 : wr.cell? ⟨b', o' + m, none⟩ = some (.slice sa' r.length sc') := (Keeps.of_below HB.out 0) _ _ _ (Nat.zero_le _) (by have := hrg' 0 _ rfl; simpa using this)
      obtain ⟨rl, Hrl⟩ : ∃ l, Hid (l = r.length) := ⟨_, rfl⟩
      have HEq : Hid (∀ W, Below w.heap.size w W → Calls Tryd.prog 14 #[.slice sa rl sc, .slice sa' rl sc'] W fun e w' => e = .returned (.bool true) ∧ Below W.heap.size W w') := fun W g => by
        rw [Hrl.out]
        have := eq_insts (.slice sa r.length sc) (.slice sa' r.length sc') r r W lo lo' (instsIs_move (Keeps.of_below g lo) (Nat.le_refl _) hI) (instsIs_move (Keeps.of_below g lo') (Nat.le_refl _) hI')
        rwa [eqB_refl] at this
      rw [← Hrl.out] at c0 c1
      have cE : ∀ d os, Calls Tryd.prog 14 #[.slice sa rl sc, .slice sa' rl sc'] (Sort.grow (redrawn wr d) os) fun e w'' => e = .returned (.bool true) ∧ ∃ p : Regrown, w'' = Sort.grow (redrawn wr p.d) p.os :=
        fun d os => Calls.regrown_of (HEq.out _ (HB.out.trans ((below_regrown wr d os).mono HB.out.size)))
      have c0r : ∀ d os, (Sort.grow (redrawn wr d) os).cell? ⟨b, o + m, none⟩ = some (.slice sa rl sc) := fun d os => (Keeps.of_below (below_regrown wr d os) 0) _ _ _ (Nat.zero_le _) c0
      have c1r : ∀ d os, (Sort.grow (redrawn wr d) os).cell? ⟨b', o' + m, none⟩ = some (.slice sa' rl sc') := fun d os => (Keeps.of_below (below_regrown wr d os) 0) _ _ _ (Nat.zero_le _) c1
      clear hcs hcs' hrg hrg' hI hI' c0 c1
      go_upto_region 6 with fail
      refine wp_region_quiet_below (by kernel_rfl) (by kernel_rfl) ?_
      repeat (go_big_quiet_step (first | with_reducible exact cE _ _))
      refine wpQuiet_nil ?_
      intro w7 hw'
      have HB7 : Hid (Below w.heap.size w w7) := by
        obtain ⟨⟨dq, osq⟩, rfl⟩ := hw'
        exact HB.out.trans ((below_regrown wr dq osq).mono HB.out.size)
      clear hw' cE c0r c1r
      go_wp2
      go_roundg (gk - 1)
      case measure => omega
      case rel => exact ⟨m + 1, by omega, by simp, HB7⟩
    · have i1 : ¬ ((m : Int) < (n : Int)) := by omega
      go_wp2
      go_ret
      exact ⟨rfl, HB.out⟩
end Go.Proofs.YtcmmiamnbefefaaDoor
/- The law FnExactSureRungs. -/
namespace Go.Proofs.YtcmmiamnbefefaaDoor
open Go.RowKit
set_option linter.unusedVariables false


set_option maxRecDepth 10000 in
set_option maxHeartbeats 4000000 in
theorem law_rungs (v : Value) (w : World) (ha : ∃ xs, InstsIs w 0 v xs) (hT : KT w) (hL : LT w) :
    Calls Tryd.prog 6 #[v] w fun e w' => e = .returned (.bool true) ∧ Below w.heap.size w w' := by
  obtain ⟨xs, hx⟩ := ha
  have HX : Hid (InstsIs w 0 v xs) := hx
  clear hx
  have LX : Hid (∀ W, Below w.heap.size w W → InstsIs W 0 v xs) := fun W g => instsIs_move (Keeps.of_below g 0) (Nat.le_refl _) HX.out
  obtain ⟨p, Hp⟩ : ∃ p, Hid (p = xs.length + (xs.map wI).sum) := ⟨_, rfl⟩
  go_enter Tryd.func6, Tryd.ntmps6
  go_wp2_with fail
  refine (sz_insts 1048576 (by omega) (by omega) v xs w 0 HX.out).mono ?_
  rintro e w1 ⟨rfl, g1⟩
  rw [← Hp.out]
  have b1 : Below w.heap.size w w1 := g1
  clear g1
  by_cases hp : (p : Int) ≤ 1048576
  case neg =>
    rw [szR_no hp]
    go_wp2
    go_ret
    exact ⟨rfl, b1⟩
  rw [szR_yes hp]
  have i1 : ¬ ((1048576 : Int) - p < 0) := by omega
  have HBg : Hid (xs.length + (xs.map wI).sum ≤ 1048576) := (by have := Hp.out; omega : xs.length + (xs.map wI).sum ≤ 1048576)
  have HBd : Hid ((rungsT xs).length ≤ 1000 ∧ (∀ r ∈ rungsT xs, r.length ≤ 1000) ∧ ((rungsT xs).map tR).sum ≤ 4000000) := rungs_bounds HBg.out
  have HTX : Hid (∀ W, Below w.heap.size w W → Calls Tryd.prog 12 #[v] W fun r w' => ∃ v', r = .returned v' ∧ InstsIs w' W.heap.size v' xs ∧ BP W.heap.size W w' ∧ ∃ a, v' = .slice a xs.length xs.length) := fun W g => to_instsQ v xs W 0 (LX.out W g) HBg.out
  have HPS : Hid (∀ W a, InstsIs W 0 (.slice a xs.length xs.length) xs → Calls Tryd.prog 15 #[.slice a xs.length xs.length] W fun e w' => RungsR xs W e w') := fun W a h => rungs_s a xs.length xs W 0 (Nat.le_refl _) h HBg.out
  have HPI : Hid (∀ W v lo, Below w.heap.size w W → InstsIs W lo v xs → Calls Tryd.prog 16 #[v] W fun e w' => RungsR xs W e w') := fun W v lo g h => rungs_i v xs W lo h HBg.out (hT.later g) (hL.later g)
  obtain ⟨rs, HRs⟩ : ∃ r, Hid (r = rungsT xs) := ⟨_, rfl⟩
  rw [← HRs.out] at HBd
  have hnr : rs.length ≤ 1000 := HBd.out.1
  clear LX HX Hp hT hL
  go_wp2_with fail
  refine (HTX.out _ b1).mono ?_
  rintro e w2 ⟨t1, rfl, k1, g2, a2, rfl⟩
  have b2 := b1.trans (g2.bel.mono b1.size)
  have K1 : Hid (InstsIs w2 0 (.slice a2 xs.length xs.length) xs) := instsIs_move (Keeps.refl _ _) (Nat.zero_le _) k1
  have HPS1 : Hid (Calls Tryd.prog 15 #[.slice a2 xs.length xs.length] w2 fun e w' => RungsR xs w2 e w') := HPS.out w2 a2 K1.out
  obtain ⟨xl, Hxl⟩ : ∃ l, Hid (l = xs.length) := ⟨_, rfl⟩
  rw [← Hxl.out] at HPS1 ⊢
  clear g2 k1 b1 K1
  go_wp2_with fail
  refine HPS1.out.mono ?_
  rintro e w3 ⟨Fw, aw, mw, cw, rfl, hw3, hFw, g3⟩
  have b3 := b2.trans (g3.mono b2.size)
  rw [← HRs.out] at hw3
  have TW3 : Hid (SSOwn w3 w2.heap.size Fw (.slice aw mw cw) rs) := hw3
  have HVl : Hid (∀ k ∈ Fw, k < w3.heap.size) := fun k hk => (SSOwn.lt hw3 k hk).2
  clear g3 b2 hw3 HPS1
  go_wp2_with fail
  refine (HTX.out _ b3).mono ?_
  rintro e w4 ⟨x0, rfl, k4, g4, -⟩
  have b4 := b3.trans (g4.bel.mono b3.size)
  have TW4 : Hid (SSOwn w4 w2.heap.size Fw (.slice aw mw cw) rs) := TW3.out.later g4.bel
  have X4 : Hid (InstsIs w4 w3.heap.size x0 xs ∧ Plain w3.heap.size w4) := ⟨k4, g4.plain⟩
  have hs34 : w3.heap.size ≤ w4.heap.size := g4.size
  have hb3 : w.heap.size ≤ w3.heap.size := b3.size
  clear g4 k4 b3 TW3
  go_wp2_with fail
  refine (HPI.out _ _ _ b4 X4.out.1).mono ?_
  rintro e w5 ⟨Fg, ag, mg, cg, rfl, hg5, hFg, g5⟩
  have b5 := b4.trans (g5.mono b4.size)
  rw [← HRs.out] at hg5
  have TW5 : Hid (SSOwn w5 w2.heap.size Fw (.slice aw mw cw) rs) := TW4.out.later g5
  have TG5 : Hid (SSOwn w5 w4.heap.size Fg (.slice ag mg cg) rs) := hg5
  have HG4 : Hid (Below w4.heap.size w4 w5) := g5
  have HFg : Hid (Fg.Nodup) := hFg
  clear g5 b4 TW4 hg5 hFg hFw
  go_wp2_with fail
  refine (eq_ss _ _ rs 0 0 hnr w5 (TG5.out.is (Nat.zero_le _)) (TW5.out.is (Nat.zero_le _))).mono ?_
  rintro e w6 ⟨rfl, g6⟩
  have b6 := b5.trans (g6.mono b5.size)
  have TW6 : Hid (SSOwn w6 w2.heap.size Fw (.slice aw mw cw) rs) := TW5.out.later g6
  have TG6 : Hid (SSOwn w6 w4.heap.size Fg (.slice ag mg cg) rs) := TG5.out.later g6
  have HG6 : Hid (Below w4.heap.size w4 w6) := HG4.out.trans (g6.mono HG4.out.size)
  clear g6 b5 TW5 TG5 HG4
  go_wp2_with fail
  refine (HTX.out _ b6).mono ?_
  rintro e w7 ⟨x2, rfl, k7, g7, -⟩
  have b7 := b6.trans (g7.bel.mono b6.size)
  have TW7 : Hid (SSOwn w7 w2.heap.size Fw (.slice aw mw cw) rs) := TW6.out.later g7.bel
  have TG7 : Hid (SSOwn w7 w4.heap.size Fg (.slice ag mg cg) rs) := TG6.out.later g7.bel
  have HG7 : Hid (Below w4.heap.size w4 w7) := HG6.out.trans (g7.bel.mono HG6.out.size)
  have X7 : Hid (InstsIs w7 0 x0 xs) := instsIs_move (Keeps.of_below HG7.out 0) (Nat.zero_le _) (instsIs_move (Keeps.refl _ _) (Nat.zero_le _) X4.out.1)
  have Z7 : Hid (InstsIs w7 0 x2 xs) := instsIs_move (Keeps.refl _ _) (Nat.zero_le _) k7
  clear g7 k7 b6 TW6 TG6 HG6
  go_wp2_with fail
  refine (eq_insts x0 x2 xs xs w7 0 0 X7.out Z7.out).mono ?_
  rintro e w8 ⟨rfl, g8⟩
  rw [eqB_refl]
  have b8 := b7.trans (g8.mono b7.size)
  have TW8 : Hid (SSOwn w8 w2.heap.size Fw (.slice aw mw cw) rs) := TW7.out.later g8
  have TG8 : Hid (SSOwn w8 w4.heap.size Fg (.slice ag mg cg) rs) := TG7.out.later g8
  have HG8 : Hid (Below w4.heap.size w4 w8) := HG7.out.trans (g8.mono HG7.out.size)
  clear g8 b7 TW7 TG7 HG7 X7 Z7
  go_wp2_with fail
  refine (mark_insts_w w3.heap.size w4.heap.size x0 xs w4 w8 X4.out.1 X4.out.2 (Nat.le_refl _) (WMk.of_below _ _ HG8.out) HBg.out).mono ?_
  rintro e w9 ⟨K, rfl, hK0, g9⟩
  have i2 : ¬ (K < 0) := by omega
  have i2d : decide (K < 0) = false := by simp; omega
  have b9 : Below w.heap.size w w9 := WMk.below b8 g9 hb3 b8.size
  have TW9 : Hid (SSOwn w9 w2.heap.size Fw (.slice aw mw cw) rs) := ss_same TW8.out (fun k hk => g9.out k (SSOwn.lt TW8.out k hk).2 (.inl (HVl.out k hk)))
  have TG9 : Hid (SSOwn w9 w4.heap.size Fg (.slice ag mg cg) rs) := ss_same TG8.out (fun k hk => g9.out k (SSOwn.lt TG8.out k hk).2 (.inr (SSOwn.lt TG8.out k hk).1))
  clear g9 b8 TW8 TG8 HG8 X4
  go_wp2_with fail
  refine (eq_ss _ _ rs 0 0 hnr w9 (TG9.out.is (Nat.zero_le _)) (TW9.out.is (Nat.zero_le _))).mono ?_
  rintro e wa ⟨rfl, ga⟩
  have ba := b9.trans (ga.mono b9.size)
  have TWa : Hid (SSOwn wa w2.heap.size Fw (.slice aw mw cw) rs) := TW9.out.later ga
  have TGa : Hid (SSOwn wa w4.heap.size Fg (.slice ag mg cg) rs) := TG9.out.later ga
  clear ga b9 TW9 TG9
  obtain ⟨L, hL1, hL2, hL3, hL4, hL5⟩ := ss_addr TGa.out HFg.out
  have HOk : Hid (LOk L w4.heap.size wa.heap.size wa) := ⟨hL2, hL3, hL4, by rw [hL1]; exact HBd.out.2.2⟩
  have HSL : Hid (SSL wa L (.slice ag mg cg) rs ∧ L.length = (rs.map tR).sum) := ⟨hL5, hL1⟩
  clear hL1 hL2 hL3 hL4 hL5
  go_wp2_with fail
  refine (mark_ss L w4.heap.size wa.heap.size _ rs wa wa HOk.out HSL.out.1 HSL.out.2 hnr HBd.out.2.1 (MkL.none (WMk.refl _ _ _))).mono ?_
  rintro e wb ⟨rfl, hMb⟩
  have bb : Below w.heap.size w wb := WMk.below ba hMb.wm (by omega) ba.size
  have TWb : Hid (SSOwn wb w2.heap.size Fw (.slice aw mw cw) rs) := ss_same TWa.out (fun k hk => hMb.wm.out k (SSOwn.lt TWa.out k hk).2 (.inl (by have := HVl.out k hk; omega)))
  have Mb : Hid (MkL L L.length w4.heap.size wa.heap.size wa wb) := hMb
  clear hMb ba TWa TGa
  obtain ⟨M, HM⟩ : ∃ M, Hid (M = 1 + (L.length : Int)) := ⟨_, rfl⟩
  have hM0 : 0 ≤ M := by rw [HM.out]; omega
  rw [← HM.out]
  go_wp2_with fail
  refine (held_ss L w4.heap.size wa.heap.size _ rs wa wb HOk.out HSL.out.1 HSL.out.2 hnr HBd.out.2.1 Mb.out).mono ?_
  rintro e wc ⟨rfl, rfl⟩
  rw [← HM.out]
  have i3 : ¬ (M < 0) := by omega
  go_wp2_with fail
  refine (HTX.out _ bb).mono ?_
  rintro e wd ⟨t2, rfl, kd, gd, -⟩
  have bd := bb.trans (gd.bel.mono bb.size)
  have TWd : Hid (SSOwn wd w2.heap.size Fw (.slice aw mw cw) rs) := TWb.out.later gd.bel
  have Md : Hid (MkL L L.length w4.heap.size wa.heap.size wa wd) := Mb.out.later gd.bel
  have Kd : Hid (InstsIs wd 0 t2 xs) := instsIs_move (Keeps.refl _ _) (Nat.zero_le _) kd
  clear gd kd bb TWb Mb
  go_wp2_with fail
  refine (HPI.out _ _ _ bd Kd.out).mono ?_
  rintro e wf ⟨Fh, ah, mh, ch, rfl, hhf, _, gf⟩
  rw [← HRs.out] at hhf
  have bf := bd.trans (gf.mono bd.size)
  have TWf : Hid (SSOwn wf w2.heap.size Fw (.slice aw mw cw) rs) := TWd.out.later gf
  have Mf : Hid (MkL L L.length w4.heap.size wa.heap.size wa wf) := Md.out.later gf
  have THf : Hid (SSIs wf 0 (.slice ah mh ch) rs) := SSOwn.is hhf (Nat.zero_le _)
  clear gf bd TWd Md Kd hhf
  go_wp2_with fail
  refine (eq_ss _ _ rs 0 0 hnr wf THf.out (TWf.out.is (Nat.zero_le _))).mono ?_
  rintro e wg ⟨rfl, gg⟩
  have bg := bf.trans (gg.mono bf.size)
  have Mg : Hid (MkL L L.length w4.heap.size wa.heap.size wa wg) := Mf.out.later gg
  clear gg bf TWf Mf THf
  go_wp2_with fail
  refine (held_ss L w4.heap.size wa.heap.size _ rs wa wg HOk.out HSL.out.1 HSL.out.2 hnr HBd.out.2.1 Mg.out).mono ?_
  rintro e wh ⟨rfl, rfl⟩
  rw [← HM.out]
  go_wp2
  go_ret
  exact ⟨rfl, bg⟩
theorem walk_rungs (v : Value) (w : World) (ha : ∃ xs, InstsIs w 0 v xs) (hL : LT w) (hT : KT w) :
    Calls Tryd.prog 6 #[v] w fun e w' => e = .returned (.bool true) ∧ Below w.heap.size w w' := law_rungs v w ha hT hL
end Go.Proofs.YtcmmiamnbefefaaDoor
