/- The addresses of the numbers of lists of lists, in the order in which they are marked. -/
import Derived.Test.YtcmmiamnbefefaaDoorCj
import Derived.Test.YtcmmiamnbefefaaDoorCc
namespace Go.Proofs.YtcmmiamnbefefaaDoor
open Go.RowKit
set_option linter.unusedVariables false

def tI (x : InstT) : Nat := 2 + 3 * x.one.args.length
def ps (xs : List InstT) (j : Nat) : Nat := ((xs.take j).map tI).sum
def tR (r : List InstT) : Nat := (r.map tI).sum
def ArgsL (w0 : World) (L : List (Nat × Nat)) (p : Nat) (s : Value) (n : Nat) : Prop := ∃ a cp, s = .slice a n cp ∧ ∀ i, i < n * 3 → ∃ b o u, a = some ⟨b, o, none⟩ ∧ L[p + i]? = some (b, o + i) ∧ w0.cell? ⟨b, o + i, none⟩ = some (.int .i64 u)
def InstsL (w0 : World) (L : List (Nat × Nat)) (p : Nat) (v : Value) (xs : List InstT) : Prop := ∃ a cp, v = .slice a xs.length cp ∧ ∀ j x, xs[j]? = some x → ∃ b o u1 u2 s, a = some ⟨b, o, none⟩ ∧ L[p + ps xs j]? = some (b, o + j * 3) ∧ L[p + ps xs j + 1]? = some (b, o + j * 3 + 1) ∧ w0.cell? ⟨b, o + j * 3, none⟩ = some (.int .i64 u1) ∧ w0.cell? ⟨b, o + j * 3 + 1, none⟩ = some (.int .i64 u2) ∧ w0.cell? ⟨b, o + j * 3 + 1 + 1, none⟩ = some s ∧ ArgsL w0 L (p + ps xs j + 2) s x.one.args.length
def SSL (w0 : World) (L : List (Nat × Nat)) (v : Value) (rs : List (List InstT)) : Prop := ∃ a cp, v = .slice a rs.length cp ∧ ∀ i r, rs[i]? = some r → ∃ b o s, a = some ⟨b, o, none⟩ ∧ w0.cell? ⟨b, o + i, none⟩ = some s ∧ InstsL w0 L (((rs.take i).map tR).sum) s r
def LSoft (w0 : World) (L : List (Nat × Nat)) : Prop := ∀ q ∈ L, ∃ C t, w0.heap[q.1]? = some (.cells C t (0, 0))
theorem ArgsL.shift {w0 : World} {L L' : List (Nat × Nat)} {p p' : Nat} {s : Value} {n : Nat} (h : ArgsL w0 L p s n) (hs : ∀ i q, L[p + i]? = some q → L'[p' + i]? = some q) : ArgsL w0 L' p' s n := by
  obtain ⟨a, cp, e, hx⟩ := h
  refine ⟨a, cp, e, fun i hi => ?_⟩
  obtain ⟨b, o, u, h1, h2, h3⟩ := hx i hi
  exact ⟨b, o, u, h1, hs _ _ h2, h3⟩
theorem InstsL.shift {w0 : World} {L L' : List (Nat × Nat)} {p p' : Nat} {v : Value} {xs : List InstT} (h : InstsL w0 L p v xs) (hs : ∀ i q, L[p + i]? = some q → L'[p' + i]? = some q) : InstsL w0 L' p' v xs := by
  obtain ⟨a, cp, e, hx⟩ := h
  refine ⟨a, cp, e, fun j x hj => ?_⟩
  obtain ⟨b, o, u1, u2, s, h1, h2, h3, h4, h5, h6, h7⟩ := hx j x hj
  refine ⟨b, o, u1, u2, s, h1, hs _ _ h2, ?_, h4, h5, h6, h7.shift fun i q hq => ?_⟩
  · have := hs (ps xs j + 1) _ (by rw [← Nat.add_assoc]; exact h3)
    rwa [← Nat.add_assoc] at this
  · have := hs (ps xs j + 2 + i) q (by rw [← Nat.add_assoc, ← Nat.add_assoc]; exact hq)
    rwa [← Nat.add_assoc, ← Nat.add_assoc] at this
theorem ps_snoc (xs : List InstT) (y : InstT) (j : Nat) (hj : j ≤ xs.length) : ps (xs ++ [y]) j = ps xs j := by
  unfold ps
  rw [List.take_append_of_le_length hj]
theorem ps_all (xs : List InstT) : ps xs xs.length = tR xs := by
  unfold ps tR
  rw [List.take_length]
theorem ps_next {xs : List InstT} {j : Nat} {x : InstT} (h : xs[j]? = some x) : ps xs (j + 1) = ps xs j + 2 + x.one.args.length * 3 := by
  unfold ps
  rw [sum_take _ _ _ _ h]
  unfold tI
  omega
theorem own_soft {w : World} {base : Nat} {e : TypeId} {size : Nat} {v : Value} {n : Nat} {xs : List Value} (h : w.ownsRow base e size v n xs) {g : Nat} (hg : v.ownBlock = some g) : ∃ C t, w.heap[g]? = some (.cells C t (0, 0)) := by
  rcases h.2 with ⟨rfl, _⟩ | ⟨g1, cap, cur, rfl, _, e3, _⟩
  · simp [Value.ownBlock] at hg
  · simp [Value.ownBlock] at hg
    subst hg
    exact ⟨cur, e, e3⟩
/-- The operands of one's own. -/
theorem args_addr {w0 : World} {base : Nat} {f : List Nat} {v : Value} {xs : List ArgT} (h : ArgsOwn w0 base f v xs) : ∃ La : List (Nat × Nat), La.length = xs.length * 3 ∧ ArgsL w0 La 0 v xs.length ∧ La.Nodup ∧ (∀ q ∈ La, q.1 ∈ f) ∧ LSoft w0 La := by
  obtain ⟨cs, F', h1, h2, rfl⟩ := h
  have hcs : cs = avs xs := by
    clear h2
    induction h1 with
    | nil => rfl
    | add h hc hr ih => rw [avs_snoc, ← ih, hr.2]
  subst hcs
  rcases id h2.2 with ⟨rfl, hn⟩ | ⟨g, cap, cur, rfl, _⟩
  · refine ⟨[], by simp [hn], ⟨none, 0, by rw [hn], fun i hi => by omega⟩, List.nodup_nil, fun q hq => by simp at hq, fun q hq => by simp at hq⟩
  · refine ⟨(List.range (xs.length * 3)).map fun i => (g, i), by simp, ⟨some ⟨g, 0, none⟩, cap, rfl, fun i hi => ?_⟩, ?_, fun q hq => ?_, fun q hq => ?_⟩
    · have hc := h2.cellAt i hi
      have hal := avs_len xs
      obtain ⟨x, hx⟩ : ∃ x, (avs xs)[i]? = some x := ⟨_, List.getElem?_eq_getElem (by omega)⟩
      have hint : ∃ u, x = .int .i64 u := by
        have := List.mem_of_getElem? hx
        unfold avs at this
        simp only [List.mem_flatMap] at this
        obtain ⟨y, _, hy⟩ := this
        simp at hy
        rcases hy with rfl | rfl | rfl <;> exact ⟨_, rfl⟩
      obtain ⟨u, rfl⟩ := hint
      refine ⟨g, 0, u, rfl, ?_, ?_⟩
      · simp [hi]
      · rw [Nat.zero_add, hc, hx]
    · exact List.Pairwise.map _ (fun a b hab e => hab (by simpa using e)) List.nodup_range
    · simp at hq
      obtain ⟨i, _, rfl⟩ := hq
      simp [Value.ownBlock]
    · simp at hq
      obtain ⟨i, _, rfl⟩ := hq
      exact own_soft h2 rfl
/-- The instructions of a list of one's own: those of a beginning of it. -/
theorem insts_addr_aux {w0 : World} {base g : Nat} {F : List Nat} {xs : List InstT} {cs : List Value} (h : Each (InstOwn w0 base) 3 F xs cs) (hg : ∃ C t, w0.heap[g]? = some (.cells C t (0, 0))) (hgF : g ∉ F) (hnd : F.Nodup) :
    ∃ L : List (Nat × Nat), L.length = tR xs ∧ L.Nodup ∧ (∀ q ∈ L, (q.1 = g ∧ q.2 < xs.length * 3) ∨ q.1 ∈ F) ∧ LSoft w0 L ∧ ∀ j x, xs[j]? = some x → ∃ u1 u2 s, cs[j * 3]? = some (.int .i64 u1) ∧ cs[j * 3 + 1]? = some (.int .i64 u2) ∧ cs[j * 3 + 2]? = some s ∧ L[ps xs j]? = some (g, j * 3) ∧ L[ps xs j + 1]? = some (g, j * 3 + 1) ∧ ArgsL w0 L (ps xs j + 2) s x.one.args.length := by
  induction h with
  | nil => exact ⟨[], rfl, List.nodup_nil, fun q hq => by simp at hq, fun q hq => by simp at hq, fun j x hx => by simp at hx⟩
  | @add F xs cs f y c h hc hr ih =>
    have hn := List.nodup_append.1 hnd
    obtain ⟨L, e1, e2, e3, e4, e5⟩ := ih (fun hm => hgF (List.mem_append_left _ hm)) hn.1
    obtain ⟨v, rfl, hv⟩ := hr
    obtain ⟨La, a1, a2, a3, a4, a5⟩ := args_addr hv
    have hgf : g ∉ f := fun hm => hgF (List.mem_append_right _ hm)
    have hlen := h.len
    refine ⟨L ++ ((g, xs.length * 3) :: (g, xs.length * 3 + 1) :: La), ?_, ?_, ?_, ?_, ?_⟩
    · simp [tR, tI, a1]
      unfold tR at e1
      omega
    · refine List.nodup_append.2 ⟨e2, ?_, ?_⟩
      · rw [List.nodup_cons, List.nodup_cons]
        refine ⟨?_, ?_, a3⟩
        · intro hm
          rcases List.mem_cons.1 hm with h0 | h0
          · simp at h0
          · exact hgf (a4 _ h0)
        · exact fun h0 => hgf (a4 _ h0)
      · intro a ha b hb e
        subst e
        rcases List.mem_cons.1 hb with rfl | hb
        · rcases e3 _ ha with ⟨_, h2⟩ | h2
          · simp at h2
          · exact hgF (List.mem_append_left _ h2)
        · rcases List.mem_cons.1 hb with rfl | hb
          · rcases e3 _ ha with ⟨_, h2⟩ | h2
            · simp only at h2; omega
            · exact hgF (List.mem_append_left _ h2)
          · have h1 := a4 _ hb
            rcases e3 _ ha with ⟨h2, _⟩ | h2
            · rw [h2] at h1; exact hgf h1
            · exact hn.2.2 _ h2 _ h1 rfl
    · intro q hq
      rcases List.mem_append.1 hq with hq | hq
      · rcases e3 q hq with ⟨h1, h2⟩ | h1
        · exact .inl ⟨h1, by simp; omega⟩
        · exact .inr (List.mem_append_left _ h1)
      · rcases List.mem_cons.1 hq with rfl | hq
        · exact .inl ⟨rfl, by simp⟩
        · rcases List.mem_cons.1 hq with rfl | hq
          · exact .inl ⟨rfl, by simp; omega⟩
          · exact .inr (List.mem_append_right _ (a4 q hq))
    · intro q hq
      rcases List.mem_append.1 hq with hq | hq
      · exact e4 q hq
      · rcases List.mem_cons.1 hq with rfl | hq
        · exact hg
        · rcases List.mem_cons.1 hq with rfl | hq
          · exact hg
          · exact a5 q hq
    · intro j x hx
      rcases Nat.lt_or_ge j xs.length with hj | hj
      · rw [List.getElem?_append_left hj] at hx
        obtain ⟨u1, u2, s, h1, h2, h3, h4, h5, h6⟩ := e5 j x hx
        have hps := ps_snoc xs y j (by omega)
        have hL4 := (List.getElem?_eq_some_iff.1 h4).1
        have hL5 := (List.getElem?_eq_some_iff.1 h5).1
        refine ⟨u1, u2, s, ?_, ?_, ?_, ?_, ?_, ?_⟩
        · rw [List.getElem?_append_left (by omega)]; exact h1
        · rw [List.getElem?_append_left (by omega)]; exact h2
        · rw [List.getElem?_append_left (by omega)]; exact h3
        · rw [hps, List.getElem?_append_left hL4]; exact h4
        · rw [hps, List.getElem?_append_left hL5]; exact h5
        · rw [hps]
          exact h6.shift fun i q hq => by rw [List.getElem?_append_left (List.getElem?_eq_some_iff.1 hq).1]; exact hq
      · rw [List.getElem?_append_right hj] at hx
        have hj0 : j = xs.length := by
          have := (List.getElem?_eq_some_iff.1 hx).1
          simp at this
          omega
        subst hj0
        simp at hx
        subst hx
        have hps : ps (xs ++ [y]) xs.length = L.length := by rw [ps_snoc xs y _ (Nat.le_refl _), ps_all, e1]
        have k0 : xs.length * 3 - cs.length = 0 := by omega
        have k1 : xs.length * 3 + 1 - cs.length = 1 := by omega
        have k2 : xs.length * 3 + 2 - cs.length = 2 := by omega
        refine ⟨y.code, y.one.op, v, ?_, ?_, ?_, ?_, ?_, ?_⟩
        · rw [List.getElem?_append_right (by omega), k0]; rfl
        · rw [List.getElem?_append_right (by omega), k1]; rfl
        · rw [List.getElem?_append_right (by omega), k2]; rfl
        · rw [hps, List.getElem?_append_right (Nat.le_refl _), Nat.sub_self]; rfl
        · rw [hps, List.getElem?_append_right (by omega), show L.length + 1 - L.length = 1 by omega]; rfl
        · rw [hps]
          exact a2.shift fun i q hq => by
            rw [List.getElem?_append_right (by omega), show L.length + 2 + i - L.length = i + 2 by omega]
            simpa using hq
theorem insts_addr {w0 : World} {base : Nat} {F : List Nat} {v : Value} {xs : List InstT} (h : InstsOwn w0 base F v xs) (hnd : F.Nodup) : ∃ L : List (Nat × Nat), L.length = tR xs ∧ L.Nodup ∧ (∀ q ∈ L, q.1 ∈ F) ∧ LSoft w0 L ∧ InstsL w0 L 0 v xs := by
  obtain ⟨cs, F', h1, h2, rfl⟩ := h
  have hn := List.nodup_append.1 hnd
  rcases id h2.2 with ⟨rfl, hl⟩ | ⟨g, cap, cur, rfl, _⟩
  · have hx : xs = [] := List.length_eq_zero_iff.1 hl
    subst hx
    exact ⟨[], rfl, List.nodup_nil, fun q hq => by simp at hq, fun q hq => by simp at hq, none, 0, rfl, fun j x hx => by simp at hx⟩
  · have hgF : g ∉ F' := fun hm => hn.2.2 g (by simp [Value.ownBlock]) g hm rfl
    obtain ⟨L, e1, e2, e3, e4, e5⟩ := insts_addr_aux h1 (own_soft h2 rfl) hgF hn.2.1
    refine ⟨L, e1, e2, fun q hq => ?_, e4, some ⟨g, 0, none⟩, cap, rfl, fun j x hx => ?_⟩
    · rcases e3 q hq with ⟨h0, _⟩ | h0
      · rw [h0]; simp [Value.ownBlock]
      · exact List.mem_append_right _ h0
    · obtain ⟨u1, u2, s, k1, k2, k3, k4, k5, k6⟩ := e5 j x hx
      have hj := (List.getElem?_eq_some_iff.1 hx).1
      refine ⟨g, 0, u1, u2, s, rfl, ?_, ?_, ?_, ?_, ?_, ?_⟩
      · simpa using k4
      · simpa using k5
      · rw [Nat.zero_add, h2.cellAt _ (by omega)]; exact k1
      · rw [Nat.zero_add, h2.cellAt _ (by omega)]; exact k2
      · rw [Nat.zero_add, h2.cellAt _ (by omega)]; exact k3
      · rw [Nat.zero_add]; exact k6
theorem ss_addr_aux {w0 : World} {base : Nat} {F : List Nat} {rs : List (List InstT)} {cs : List Value} (h : Each (RungOwn w0 base) 1 F rs cs) (hnd : F.Nodup) :
    ∃ L : List (Nat × Nat), L.length = (rs.map tR).sum ∧ L.Nodup ∧ (∀ q ∈ L, q.1 ∈ F) ∧ LSoft w0 L ∧ ∀ i r, rs[i]? = some r → ∃ s, cs[i]? = some s ∧ InstsL w0 L (((rs.take i).map tR).sum) s r := by
  induction h with
  | nil => exact ⟨[], rfl, List.nodup_nil, fun q hq => by simp at hq, fun q hq => by simp at hq, fun j x hx => by simp at hx⟩
  | @add F rs cs f y c h hc hr ih =>
    have hn := List.nodup_append.1 hnd
    obtain ⟨L, e1, e2, e3, e4, e5⟩ := ih hn.1
    obtain ⟨v, rfl, hv⟩ := hr
    obtain ⟨La, a1, a2, a3, a4, a5⟩ := insts_addr hv hn.2.1
    have hlen := h.len
    refine ⟨L ++ La, ?_, ?_, ?_, ?_, ?_⟩
    · simp [e1, a1]
    · exact List.nodup_append.2 ⟨e2, a2, fun a ha b hb e => by subst e; exact hn.2.2 _ (e3 _ ha) _ (a3 _ hb) rfl⟩
    · intro q hq
      rcases List.mem_append.1 hq with hq | hq
      · exact List.mem_append_left _ (e3 q hq)
      · exact List.mem_append_right _ (a3 q hq)
    · intro q hq
      rcases List.mem_append.1 hq with hq | hq
      · exact e4 q hq
      · exact a4 q hq
    · intro i r hi
      rcases Nat.lt_or_ge i rs.length with hj | hj
      · rw [List.getElem?_append_left hj] at hi
        obtain ⟨s, k1, k2⟩ := e5 i r hi
        refine ⟨s, by rw [List.getElem?_append_left (by omega)]; exact k1, ?_⟩
        rw [List.take_append_of_le_length (by omega)]
        exact k2.shift fun i q hq => by rw [List.getElem?_append_left (List.getElem?_eq_some_iff.1 hq).1]; exact hq
      · rw [List.getElem?_append_right hj] at hi
        have hj0 : i = rs.length := by
          have := (List.getElem?_eq_some_iff.1 hi).1
          simp at this
          omega
        subst hj0
        simp at hi
        subst hi
        refine ⟨v, by rw [List.getElem?_append_right (by omega), show rs.length - cs.length = 0 by omega]; rfl, ?_⟩
        rw [List.take_append_of_le_length (Nat.le_refl _), List.take_length, ← e1]
        exact a5.shift fun i q hq => by
          rw [List.getElem?_append_right (by omega), show L.length + i - L.length = i by omega]
          simpa using hq
theorem ss_addr {w0 : World} {base : Nat} {F : List Nat} {v : Value} {rs : List (List InstT)} (h : SSOwn w0 base F v rs) (hnd : F.Nodup) : ∃ L : List (Nat × Nat), L.length = (rs.map tR).sum ∧ L.Nodup ∧ (∀ q ∈ L, base ≤ q.1 ∧ q.1 < w0.heap.size) ∧ LSoft w0 L ∧ SSL w0 L v rs := by
  have hlt := SSOwn.lt h
  obtain ⟨cs, F', h1, h2, rfl⟩ := h
  have hn := List.nodup_append.1 hnd
  obtain ⟨L, e1, e2, e3, e4, e5⟩ := ss_addr_aux h1 hn.2.1
  refine ⟨L, e1, e2, fun q hq => hlt _ (List.mem_append_right _ (e3 q hq)), e4, ?_⟩
  rcases id h2.2 with ⟨rfl, hl⟩ | ⟨g, cap, cur, rfl, _⟩
  · have hx : rs = [] := List.length_eq_zero_iff.1 hl
    subst hx
    exact ⟨none, 0, rfl, fun i r hi => by simp at hi⟩
  · refine ⟨some ⟨g, 0, none⟩, cap, rfl, fun i r hi => ?_⟩
    obtain ⟨s, k1, k2⟩ := e5 i r hi
    have hj := (List.getElem?_eq_some_iff.1 hi).1
    exact ⟨g, 0, s, rfl, by rw [Nat.zero_add, h2.cellAt _ (by omega)]; exact k1, k2⟩
end Go.Proofs.YtcmmiamnbefefaaDoor
