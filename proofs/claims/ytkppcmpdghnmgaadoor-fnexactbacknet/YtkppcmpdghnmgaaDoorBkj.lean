/- A stack of nets that is a row: its last places read and put. -/
import Derived.Test.YtkppcmpdghnmgaaDoorBkgM
namespace Go.Proofs.YtkppcmpdghnmgaaDoor
open Go.RowKit
set_option linter.unusedVariables false

/-- A stack as a row, the one on top last. -/
def SdR (w : World) (base n : Nat) (xs : List NetT) (e : Ending) (w' : World) : Prop :=
  ∃ (a : Option Addr) (m cp : Nat) (F' : List Nat), e = .returned (.slice a m cp) ∧ m = xs.length ∧ RowOwn w' base 29 4 (NetOwn w' base n) F' (.slice a m cp) xs ∧ F'.Nodup ∧ Below base w w'
/-- Four cells in a row. -/
def P4 (W : World) (g o : Nat) (x0 x1 x2 x3 : Value) : World := (((W.setCell ⟨g, o, none⟩ x0).setCell ⟨g, o + 1, none⟩ x1).setCell ⟨g, o + 1 + 1, none⟩ x2).setCell ⟨g, o + 1 + 1 + 1, none⟩ x3
theorem p4_row {W : World} {g : Nat} {C : Array Value} {t : TypeId} (h : W.heap[g]? = some (.cells C t (0, 0))) (o : Nat) (x0 x1 x2 x3 : Value) : (P4 W g o x0 x1 x2 x3).heap[g]? = some (.cells ((((C.setIfInBounds o x0).setIfInBounds (o + 1) x1).setIfInBounds (o + 1 + 1) x2).setIfInBounds (o + 1 + 1 + 1) x3) t (0, 0)) := row_put (row_put (row_put (row_put h o x0) (o + 1) x1) (o + 1 + 1) x2) (o + 1 + 1 + 1) x3
theorem p4_gb (W : World) (g o : Nat) (x0 x1 x2 x3 : Value) : W.grownBy (P4 W g o x0 x1 x2 x3) (some g) := (((gb_cel W g o x0).trans (gb_cel _ g _ x1)).trans (gb_cel _ g _ x2)).trans (gb_cel _ g _ x3)
theorem p4_list (C : Array Value) (o : Nat) (x0 x1 x2 x3 : Value) (h : o + 4 ≤ C.size) : ((((C.setIfInBounds o x0).setIfInBounds (o + 1) x1).setIfInBounds (o + 1 + 1) x2).setIfInBounds (o + 1 + 1 + 1) x3).toList.take (o + 4) = C.toList.take o ++ [x0, x1, x2, x3] := by
  apply List.ext_getElem?
  intro i
  simp only [Array.toList_setIfInBounds, List.getElem?_take, List.getElem?_set, List.length_set, Array.length_toList, List.getElem?_append, List.length_take]
  rcases (by omega : i < o ∨ i = o ∨ i = o + 1 ∨ i = o + 2 ∨ i = o + 3 ∨ o + 4 ≤ i) with h1 | rfl | rfl | rfl | rfl | h1
  · rw [if_pos (by omega), if_neg (by omega), if_neg (by omega), if_neg (by omega), if_neg (by omega), if_pos (by omega), if_pos h1]
  · rw [if_pos (by omega), if_neg (by omega), if_neg (by omega), if_neg (by omega), if_pos rfl, if_pos (by omega), if_neg (by omega), show i - min i C.size = 0 by omega]; rfl
  · rw [if_pos (by omega), if_neg (by omega), if_neg (by omega), if_pos rfl, if_pos (by omega), if_neg (by omega), show o + 1 - min o C.size = 1 by omega]; rfl
  · rw [if_pos (by omega), if_neg (by omega), if_pos (by omega), if_pos (by omega), if_neg (by omega), show o + 2 - min o C.size = 2 by omega]; rfl
  · rw [if_pos (by omega), if_pos (by omega), if_pos (by omega), if_neg (by omega), show o + 3 - min o C.size = 3 by omega]; rfl
  · rw [if_neg (by omega), if_neg (by omega), List.getElem?_eq_none (by simp; omega)]

/-- What is known of a row of nets whose first so many stay. -/
structure Row4 (W : World) (base n : Nat) (g N cap : Nat) (xs : List NetT) (F1 : List Nat) (c1 : List Value) : Prop where
  each : Each (NetOwn W base n) 4 F1 xs c1
  nd : (g :: F1).Nodup
  lt : ∀ x ∈ g :: F1, x < W.heap.size
  bs : base ≤ g
  row : ∃ cur, W.heap[g]? = some (.cells cur 29 (0, 0)) ∧ cur.size = cap * 4 ∧ cur.toList.take (xs.length * 4) = c1
  cp : xs.length < N ∧ N ≤ cap ∧ cap ≤ maxLen
theorem Row4.later {W W' : World} {base n g N cap : Nat} {xs : List NetT} {F1 : List Nat} {c1 : List Value} (h : Row4 W base n g N cap xs F1 c1) (gg : Below W.heap.size W W') : Row4 W' base n g N cap xs F1 c1 := by
  obtain ⟨h1, h2, h3, h4, ⟨cur, k1, k2, k3⟩, h6⟩ := h
  exact ⟨h1.move fun f x c _ hh => hh.later (Nat.le_refl _) gg, h2, fun x hx => by have := h3 x hx; have := gg.size; omega, h4, ⟨cur, (gg.block _ (h3 g (List.mem_cons_self ..))).trans k1, k2, k3⟩, h6⟩
/-- The cells that are put are there. -/
theorem Row4.free {W : World} {base n g N cap : Nat} {xs : List NetT} {F1 : List Nat} {c1 : List Value} (h : Row4 W base n g N cap xs F1 c1) : (∃ y0 y1 y2 y3, W.cell? ⟨g, xs.length * 4, none⟩ = some y0 ∧ W.cell? ⟨g, xs.length * 4 + 1, none⟩ = some y1 ∧ W.cell? ⟨g, xs.length * 4 + 1 + 1, none⟩ = some y2 ∧ W.cell? ⟨g, xs.length * 4 + 1 + 1 + 1, none⟩ = some y3) ∧ ∀ o, W.frozen? ⟨g, o, none⟩ = false := by
  obtain ⟨cur, k1, k2, k3⟩ := h.row
  have hc := h.cp
  have hb : ∀ i, i < 4 → ∃ y, W.cell? ⟨g, xs.length * 4 + i, none⟩ = some y := fun i hi => ⟨_, (cell_of_row _ _ _ _ _ _ k1).trans (Array.getElem?_eq_getElem (by omega))⟩
  obtain ⟨y0, q0⟩ := hb 0 (by omega)
  obtain ⟨y1, q1⟩ := hb 1 (by omega)
  obtain ⟨y2, q2⟩ := hb 2 (by omega)
  obtain ⟨y3, q3⟩ := hb 3 (by omega)
  exact ⟨⟨y0, y1, y2, y3, q0, q1, q2, q3⟩, fun o => by simp [World.frozen?, k1]⟩
/-- A net put behind the first so many; what stood behind is gone. -/
theorem Row4.put {W : World} {base n g N cap : Nat} {xs : List NetT} {F1 : List Nat} {c1 : List Value} (h : Row4 W base n g N cap xs F1 c1) {n' : Nat} (hn : n ≤ n') {f : List Nat} {t : NetT} {x0 x1 x2 x3 : Value} (hN : NetOwn W base n' f t [x0, x1, x2, x3]) (hfn : f.Nodup) (hd : ∀ x ∈ f, x ∉ g :: F1) :
    RowOwn (P4 W g (xs.length * 4) x0 x1 x2 x3) base 29 4 (NetOwn (P4 W g (xs.length * 4) x0 x1 x2 x3) base n') (g :: (F1 ++ f)) (.slice (some ⟨g, 0, none⟩) (xs.length + 1) cap) (xs ++ [t]) ∧ (g :: (F1 ++ f)).Nodup ∧ ∀ b, b ≤ g → Below b W (P4 W g (xs.length * 4) x0 x1 x2 x3) := by
  obtain ⟨cur, k1, k2, k3⟩ := h.row
  have hc := h.cp
  have gg := p4_gb W g (xs.length * 4) x0 x1 x2 x3
  have hnd := List.nodup_cons.1 h.nd
  have hne : ∀ x ∈ F1, some x ≠ some g := fun x hx e => by simp at e; subst e; exact hnd.1 hx
  refine ⟨⟨c1 ++ [x0, x1, x2, x3], F1 ++ f, ?_, ⟨?_, .inr ⟨g, cap, _, by simp, h.bs, p4_row k1 _ _ _ _ _, by simp; omega, hc.2.2, by simpa using k2, ?_⟩⟩, rfl⟩, ?_, fun b hb => ?_⟩
  · exact (h.each.move fun f1 y c h1 hh => NetOwn.move gg n n' hn f1 y c (fun x hx => hne x (h1 hx)) hh).app (Each.one rfl (NetOwn.move gg n' n' (Nat.le_refl _) f t _ (fun x hx e => by simp at e; subst e; exact hd x hx (List.mem_cons_self ..)) hN))
  · have := h.each.len
    simp; omega
  · rw [List.length_append, show (xs.length + [t].length) * 4 = xs.length * 4 + 4 by simp; omega, p4_list _ _ _ _ _ _ (by omega), k3]
  · exact List.nodup_cons.2 ⟨fun hm => by
      rcases List.mem_append.1 hm with hm | hm
      · exact hnd.1 hm
      · exact hd g hm (List.mem_cons_self ..), List.nodup_append.2 ⟨hnd.2, hfn, fun x hx y hy e => hd y hy (e ▸ List.mem_cons_of_mem _ hx)⟩⟩
  · exact (Below.refl b W).grown gg (Nat.le_trans hb (Nat.le_of_lt (h.lt g (List.mem_cons_self ..)))) (fun j hj => by simp at hj; omega)
/-- A stack of one net and more. -/
theorem row4_of {W : World} {base n : Nat} {F : List Nat} {a : Option Addr} {N cap : Nat} {xs : List NetT} {y : NetT} (hR : RowOwn W base 29 4 (NetOwn W base n) F (.slice a N cap) (xs ++ [y])) (hnd : F.Nodup) (hN : N = (xs ++ [y]).length) :
    ∃ g F1 f c1 c, a = some ⟨g, 0, none⟩ ∧ Row4 W base n g N cap xs F1 c1 ∧ F = g :: (F1 ++ f) ∧ NetOwn W base n f y c ∧ c.length = 4 ∧ ∀ i u, c[i]? = some u → W.cell? ⟨g, xs.length * 4 + i, none⟩ = some u := by
  have hl := hR.ltN
  obtain ⟨cs, F', hE, hO, hF⟩ := hR
  rcases id hO.2 with ⟨_, h0⟩ | ⟨g, cap', cur, ev, hbg, hgg, hnc, hcm, hsz, hcur⟩
  · simp at h0
  simp only [Value.slice.injEq] at ev
  obtain ⟨rfl, e2, rfl⟩ := ev
  obtain ⟨F1, f, c1, c, rfl, rfl, hE1, hc, hN1⟩ := hE.last rfl
  have hl1 := hE1.len
  have hF2 : F = g :: (F1 ++ f) := hF
  rw [hF2] at hnd hl
  have hn2 := List.nodup_cons.1 hnd
  have hn3 := List.nodup_append.1 hn2.2
  refine ⟨g, F1, f, c1, c, rfl, ⟨hE1, List.nodup_cons.2 ⟨fun h => hn2.1 (List.mem_append_left _ h), hn3.1⟩, fun x hx => ?_, hbg, ⟨cur, hgg, hsz, ?_⟩, ⟨by rw [hN]; simp, by rw [hN]; exact hnc, hcm⟩⟩, hF2, hN1, hc, fun i u hi => ?_⟩
  · rcases List.mem_cons.1 hx with rfl | hx
    · exact (hl _ (List.mem_cons_self ..)).2
    · exact (hl x (List.mem_cons_of_mem _ (List.mem_append_left _ hx))).2
  · have := congrArg (List.take (xs.length * 4)) hcur
    rw [List.take_take, Nat.min_eq_left (by simp; omega), ← hl1, List.take_left'  rfl] at this
    rw [← hl1]; exact this
  · have := hO.cells (g := g) rfl (xs.length * 4 + i) u (by rw [List.getElem?_append_right (by omega), hl1, show xs.length * 4 + i - xs.length * 4 = i by omega]; exact hi)
    rwa [show (⟨g, 0, none⟩ : Addr).add (xs.length * 4 + i) = ⟨g, 0 + (xs.length * 4 + i), none⟩ from Addr.add_mid g 0 _, Nat.zero_add] at this
/-- One net more behind it is left out of sight. -/
theorem Row4.less {W : World} {base n g N cap : Nat} {xs : List NetT} {y : NetT} {F : List Nat} {c : List Value} (h : Row4 W base n g N cap (xs ++ [y]) F c) : ∃ F1 f c1 c2, F = F1 ++ f ∧ Row4 W base n g N cap xs F1 c1 ∧ NetOwn W base n f y c2 ∧ c2.length = 4 ∧ ∀ i u, c2[i]? = some u → W.cell? ⟨g, xs.length * 4 + i, none⟩ = some u := by
  obtain ⟨hE, hnd, hlt, hbs, ⟨cur, k1, k2, k3⟩, hcp⟩ := h
  obtain ⟨F1, f, c1, c2, rfl, rfl, hE1, hc, hN1⟩ := hE.last rfl
  have hl1 := hE1.len
  have hn2 := List.nodup_cons.1 hnd
  have hn3 := List.nodup_append.1 hn2.2
  have k4 : cur.toList.take (xs.length * 4) = c1 := by
    have := congrArg (List.take (xs.length * 4)) k3
    rw [List.take_take, Nat.min_eq_left (by simp; omega), ← hl1, List.take_left' rfl] at this
    rw [← hl1]; exact this
  refine ⟨F1, f, c1, c2, rfl, ⟨hE1, List.nodup_cons.2 ⟨fun h => hn2.1 (List.mem_append_left _ h), hn3.1⟩, fun x hx => ?_, hbs, ⟨cur, k1, k2, k4⟩, ⟨by have := hcp.1; simp at this; omega, hcp.2⟩⟩, hN1, hc, fun i u hi => ?_⟩
  · rcases List.mem_cons.1 hx with rfl | hx
    · exact hlt _ (List.mem_cons_self ..)
    · exact hlt x (List.mem_cons_of_mem _ (List.mem_append_left _ hx))
  · have hi4 : i < 4 := by have := (List.getElem?_eq_some_iff.1 hi).1; omega
    rw [cell_of_row _ _ _ _ _ _ k1, ← Array.getElem?_toList]
    have h1 : (cur.toList.take ((xs ++ [y]).length * 4))[xs.length * 4 + i]? = (c1 ++ c2)[xs.length * 4 + i]? := by rw [k3]
    rw [List.getElem?_take, if_pos (by simp; omega), List.getElem?_append_right (by omega), hl1, show xs.length * 4 + i - xs.length * 4 = i by omega] at h1
    rw [h1]; exact hi
end Go.Proofs.YtkppcmpdghnmgaaDoor
