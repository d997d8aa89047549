/- Rungs that are owned, put one behind the other; lists that were drawn before, likewise. -/
import Derived.Test.YthjbgjfihfkpcaaDoorYnM
import Derived.Test.YthjbgjfihfkpcaaDoorYw
namespace Go.Proofs.YthjbgjfihfkpcaaDoor
open Go.RowKit
set_option linter.unusedVariables false

theorem own_base_at {W : World} {H n m cap g : Nat} {e z : Nat} {cs : List Value} (h : W.ownsRow H e z (.slice (some ⟨g, 0, none⟩) m cap) n cs) : ∀ j u, cs[j]? = some u → W.cell? ⟨g, j, none⟩ = some u := fun j u hu => by
  have := h.cells (g := g) rfl j u hu
  rwa [show (⟨g, 0, none⟩ : Addr).add j = ⟨g, 0 + j, none⟩ from Addr.add_mid g 0 j, Nat.zero_add] at this
/-- The operands of an owned instruction. -/
theorem args_ops {W : World} {base : Nat} {F : List Nat} {v : Value} {xs : List ArgT} (h : ArgsOwn W base F v xs) : ∃ (a : Option Addr) (cap : Nat), v = .slice a xs.length cap ∧ xs.length ≤ cap ∧ (xs = [] ∨ ∃ b o, a = some ⟨b, o, none⟩ ∧ b ∈ F ∧ (base ≤ b ∧ b < W.heap.size) ∧ Ops W b o xs) := by
  have hlt := ArgsOwn.lt h
  obtain ⟨cs, F', h1, h2, h3⟩ := h
  rcases h2.2 with ⟨e, e0⟩ | ⟨g, cap, cur, e, hb, hg, hnc, _⟩
  · have hx : xs = [] := List.length_eq_zero_iff.1 e0
    subst hx
    exact ⟨none, 0, e, by simp, .inl rfl⟩
  · subst e
    refine ⟨_, cap, rfl, hnc, .inr ⟨g, 0, rfl, by rw [h3]; simp [Value.ownBlock], hlt g (by rw [h3]; simp [Value.ownBlock]), fun j x hx => ?_⟩⟩
    obtain ⟨f, c, F1, F2, cs1, cs2, _, e2, e3, e4, hr⟩ := h1.at j x hx
    have hc : c = [.int .i64 x.1, .int .i64 x.2.1, .int .i64 x.2.2] := hr.2
    have hat : ∀ i u, c[i]? = some u → cs[j * 3 + i]? = some u := fun i u hu => by
      have hi : i < c.length := (List.getElem?_eq_some_iff.1 hu).1
      rw [e2, List.append_assoc, List.getElem?_append_right (by omega), List.getElem?_append_left (by omega), ← hu]
      congr 1
      omega
    rw [hc] at hat
    refine ⟨?_, ?_, ?_⟩
    · have := own_base_at h2 _ _ (hat 0 _ rfl); rw [Nat.zero_add]; exact this
    · have := own_base_at h2 _ _ (hat 1 _ rfl); rw [Nat.zero_add]; exact this
    · have := own_base_at h2 _ _ (hat 2 _ rfl); rw [Nat.zero_add]; exact this
/-- An owned list, as a source of an append. -/
theorem insts_efi {W : World} {base H R g : Nat} {F : List Nat} {v : Value} {xs : List InstT} (h : InstsOwn W base F v xs) (hf : ∀ x ∈ xs, Fin1 x) (hH : H ≤ base) (hR : R < base) (hg : ∀ b ∈ F, b ≠ g) :
    ∃ (a : Option Addr) (cap : Nat) (cs : List Value), v = .slice a xs.length cap ∧ (0 < xs.length → ∃ b o, a = some ⟨b, o, none⟩ ∧ ∀ j u, cs[j]? = some u → W.cell? ⟨b, o + j, none⟩ = some u) ∧ EFi W H (fun b => b ≠ R ∧ some b ≠ some g) xs cs := by
  obtain ⟨cs, F', h1, h2, h3⟩ := h
  have hE : EFi W H (fun b => b ≠ R ∧ some b ≠ some g) xs cs := by
    refine ⟨h1.len, fun j x hx => ?_⟩
    obtain ⟨f, c, F1, F2, cs1, cs2, e1, e2, e3, e4, v', hc, hA⟩ := h1.at j x hx
    refine ⟨c, ?_, fun i hi => ?_⟩
    · obtain ⟨a, cap, e5, e6, e7⟩ := args_ops hA
      refine ⟨a, cap, by rw [hc, e5], e6, hf x (List.mem_of_getElem? hx), ?_⟩
      rcases e7 with e7 | ⟨b, o, e8, e9, e10, e11⟩
      · exact .inl e7
      · refine .inr ⟨b, o, e8, ⟨by omega, e10.2, by omega, ?_⟩, e11⟩
        have := hg b (by rw [h3, e1]; simp [e9])
        simpa using this
    · rw [e2, List.append_assoc, List.getElem?_append_right (by omega), List.getElem?_append_left (by omega)]
      congr 1
      omega
  rcases h2.2 with ⟨e, e0⟩ | ⟨g', cap, cur, e, _⟩
  · exact ⟨none, 0, cs, by rw [e, e0], fun h0 => by omega, hE⟩
  · subst e
    exact ⟨_, cap, cs, rfl, fun _ => ⟨g', 0, rfl, fun j u hu => by rw [Nat.zero_add]; exact own_base_at h2 _ _ hu⟩, hE⟩
/-- A rung of an owned list of rungs. -/
theorem ss_at {W : World} {base : Nat} {F : List Nat} {a : Option Addr} {m cap : Nat} {rs : List (List InstT)} (h : SSOwn W base F (.slice a m cap) rs) : m = rs.length ∧ ∀ j ρ, rs[j]? = some ρ → ∃ (g : Nat) (v : Value) (f : List Nat), a = some ⟨g, 0, none⟩ ∧ g < W.heap.size ∧ W.cell? ⟨g, j, none⟩ = some v ∧ InstsOwn W base f v ρ ∧ f ⊆ F := by
  have hlt := SSOwn.lt h
  obtain ⟨cs, F', h1, h2, h3⟩ := h
  refine ⟨?_, fun j ρ hj => ?_⟩
  · rcases h2.2 with ⟨e, e0⟩ | ⟨g, cap', cur, e, _⟩
    · simp only [Value.slice.injEq] at e; omega
    · simp only [Value.slice.injEq] at e; exact e.2.1
  · have hjl : j < rs.length := (List.getElem?_eq_some_iff.1 hj).1
    rcases h2.2 with ⟨e, e0⟩ | ⟨g, cap', cur, e, _⟩
    · omega
    · simp only [Value.slice.injEq] at e
      obtain ⟨rfl, rfl, rfl⟩ := e
      obtain ⟨f, c, F1, F2, cs1, cs2, e1, e2, e3, e4, v, hc, hI⟩ := h1.at j ρ hj
      refine ⟨g, v, f, rfl, (hlt g (by rw [h3]; simp [Value.ownBlock])).2, own_base_at h2 _ _ ?_, hI, fun b hb => by rw [h3, e1]; simp [hb]⟩
      rw [e2, List.append_assoc, List.getElem?_append_right (by omega), List.getElem?_append_left (by omega), hc]
      rw [show j - cs1.length = 0 by omega]
      rfl
/-- A list that was drawn before, or its beginning, behind another one. -/
theorem cat_old {w2 W : World} {H R H2 R2 g k cap n2 cp2 m : Nat} {b2 : Option Addr} {xs ys : List InstT} (hd : RD W H R (.slice (some ⟨g, 0, none⟩) k cap) xs) (hk : k = xs.length) (h2 : RD w2 H2 R2 (.slice b2 n2 cp2) ys) (hm : m ≤ ys.length) (hB : Below w2.heap.size w2 W) (hg : w2.heap.size ≤ g) (hH : H ≤ H2) (hHW : H ≤ W.heap.size) (hR : R < W.heap.size) (hRb : ∀ b, H2 ≤ b → b ≠ R2 → b ≠ R) (hbig : k + m ≤ 100000) :
    ∃ (g5 cap5 : Nat) (W5 : World), (∀ ty, (Builtin.append_ #[23, 23] ty #[.slice (some ⟨g, 0, none⟩) k cap, .slice b2 m cp2]).run Tryd.prog W = .ok (.slice (some ⟨g5, 0, none⟩) (k + m) cap5) W5) ∧ RD W5 H R (.slice (some ⟨g5, 0, none⟩) (k + m) cap5) (xs ++ ys.take m) ∧ W.grownBy W5 (some g) ∧ (g5 = g ∨ g5 = W.heap.size) := by
  obtain ⟨cs, hcl, hone, hown, hefi⟩ := h2.cells
  have hE : EFi W H (fun b => b ≠ R ∧ some b ≠ some g) (ys.take m) (cs.take (m * 3)) :=
    ((hefi.base hH).move (ok' := fun b => b ≠ R ∧ some b ≠ some g) (gb_below hB) (fun _ _ _ _ => by simp) (fun b _ b2 b3 => ⟨hRb b b3.1 b3.2.1, by simp; omega⟩)).take m
  refine RD.cat (m := m) cp2 b2 hd hk (by rw [List.length_take]; omega) _ hE (by omega) hHW hR (fun h0 => ?_)
  rcases hown.2 with ⟨_, e0⟩ | ⟨g', cap', cur, e, _⟩
  · omega
  · simp only [Value.slice.injEq] at e
    obtain ⟨rfl, _, rfl⟩ := e
    refine ⟨g', 0, rfl, fun j u hu => ?_⟩
    have hj : j < m * 3 := by have := (List.getElem?_eq_some_iff.1 hu).1; rw [List.length_take] at this; omega
    rw [List.getElem?_take_of_lt hj] at hu
    rw [Nat.zero_add]
    exact (Keeps.of_below hB 0) _ _ _ (Nat.zero_le _) (own_at hown _ _ hu)
theorem sum_wI (xs : List InstT) (h : ∀ x ∈ xs, Fin1 x) : (xs.map wI).sum ≤ 9 * xs.length := by
  induction xs with
  | nil => simp
  | cons x xs ih =>
    have h1 := ih (fun y hy => h y (by simp [hy]))
    have h2 : wI x ≤ 9 := (h x (by simp)).2.2.1
    simp
    omega
theorem eqB_self (xs : List InstT) : eqB xs xs = true := eqB_true.2 rfl
end Go.Proofs.YthjbgjfihfkpcaaDoor
