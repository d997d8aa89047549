/- The draw that spoils a contact or coil. -/
import Derived.Test.YtcihplachlokiaaGreatDoorEkM
import Derived.Deep.RegionHeld3
import Derived.Deep.RegionLaw
namespace Go.Proofs.YtcihplachlokiaaGreatDoor.Rr
open Go.RowKit
set_option linter.unusedVariables false

def ElemL (H L : Nat) (e : Ending) (w : World) : Prop := ∃ (op : Int) (a : Option Addr) (len cap : Nat) (xs : List Arg), e = .returned (.agg #[.int .i64 op, .slice a len cap]) ∧ -100 ≤ op ∧ op ≤ 100 ∧ len = xs.length ∧ len ≤ cap ∧ len ≤ L ∧ Bd xs ∧ Own w H a xs
theorem ElemR.l {H : Nat} {e : Ending} {w : World} (h : ElemR H e w) : ElemL H 4 e w := by
  obtain ⟨op, a, len, cap, xs, h1, h2, h3, h4, h5, h6, h7⟩ := h
  exact ⟨op, a, len, cap, xs, h1, h2, h3, h4, h5, h6.1, h7⟩

/-- The cells of operands. -/
def vals (xs : List Arg) : List Value := xs.flatMap fun x => [.int .i64 x.1, .int .i64 x.2.1, .int .i64 x.2.2]
theorem vals_len (xs : List Arg) : (vals xs).length = xs.length * 3 := by
  induction xs with
  | nil => rfl
  | cons x r ih => simp only [vals, List.flatMap_cons, List.length_append] at ih ⊢; rw [ih]; simp; omega
theorem vals_one (xs : List Arg) : ∀ u ∈ vals xs, u.oneCell' = true := by
  intro u hu
  obtain ⟨x, _, hx⟩ := List.mem_flatMap.1 hu
  simp at hx
  rcases hx with rfl | rfl | rfl <;> rfl
theorem vals_get (xs : List Arg) (j : Nat) (x : Arg) (h : xs[j]? = some x) : (vals xs)[j * 3]? = some (.int .i64 x.1) ∧ (vals xs)[j * 3 + 1]? = some (.int .i64 x.2.1) ∧ (vals xs)[j * 3 + 2]? = some (.int .i64 x.2.2) := by
  induction xs generalizing j with
  | nil => simp at h
  | cons y r ih =>
    cases j with
    | zero => simp at h; subst h; simp [vals]
    | succ j =>
      simp at h
      obtain ⟨h1, h2, h3⟩ := ih j h
      have e : vals (y :: r) = [.int .i64 y.1, .int .i64 y.2.1, .int .i64 y.2.2] ++ vals r := rfl
      rw [e]
      refine ⟨?_, ?_, ?_⟩
      · rw [List.getElem?_append_right (by simp; omega)]; rw [show (j + 1) * 3 - [Value.int .i64 y.1, .int .i64 y.2.1, .int .i64 y.2.2].length = j * 3 by simp; omega]; exact h1
      · rw [List.getElem?_append_right (by simp; omega)]; rw [show (j + 1) * 3 + 1 - [Value.int .i64 y.1, .int .i64 y.2.1, .int .i64 y.2.2].length = j * 3 + 1 by simp; omega]; exact h2
      · rw [List.getElem?_append_right (by simp; omega)]; rw [show (j + 1) * 3 + 2 - [Value.int .i64 y.1, .int .i64 y.2.1, .int .i64 y.2.2].length = j * 3 + 2 by simp; omega]; exact h3
theorem vals_app (xs ys : List Arg) : vals (xs ++ ys) = vals xs ++ vals ys := List.flatMap_append
theorem ops_vals {w : World} {b : Nat} {xs : List Arg} (h : ∀ j u, (vals xs)[j]? = some u → w.cell? ((⟨b, 0, none⟩ : Addr).add j) = some u) : Ops w b 0 xs := by
  intro j x hx
  have ad : ∀ k, (⟨b, 0, none⟩ : Addr).add k = ⟨b, 0 + k, none⟩ := fun k => by unfold Addr.add; split <;> simp_all
  obtain ⟨h1, h2, h3⟩ := vals_get xs j x hx
  have g1 := h _ _ h1; have g2 := h _ _ h2; have g3 := h _ _ h3
  rw [ad] at g1 g2 g3
  exact ⟨g1, by rw [Nat.add_assoc]; exact g2, by rw [Nat.add_assoc]; exact g3⟩
theorem vals_ops {w : World} {b o : Nat} {xs : List Arg} (h : Ops w b o xs) : ∀ j u, (vals xs)[j]? = some u → w.cell? ((⟨b, o, none⟩ : Addr).add j) = some u := by
  intro j u hu
  have ad : ∀ k, (⟨b, o, none⟩ : Addr).add k = ⟨b, o + k, none⟩ := fun k => by unfold Addr.add; split <;> simp_all
  have hj : j < xs.length * 3 := by have := (List.getElem?_eq_some_iff.1 hu).1; rwa [vals_len] at this
  obtain ⟨i, r, hr, rfl⟩ : ∃ i r, r < 3 ∧ j = i * 3 + r := ⟨j / 3, j % 3, by omega, by omega⟩
  obtain ⟨x, hx⟩ : ∃ x, xs[i]? = some x := ⟨_, List.getElem?_eq_getElem (by omega)⟩
  obtain ⟨h1, h2, h3⟩ := vals_get xs i x hx
  obtain ⟨g1, g2, g3⟩ := h i x hx
  rw [ad]
  match r, hr with
  | 0, _ => rw [Nat.add_zero] at hu ⊢; obtain rfl := Option.some.inj (h1.symm.trans hu); exact g1
  | 1, _ => obtain rfl := Option.some.inj (h2.symm.trans hu); rw [← Nat.add_assoc]; exact g2
  | 2, _ => obtain rfl := Option.some.inj (h3.symm.trans hu); rw [← Nat.add_assoc]; exact g3

theorem own_cap {w : World} {base size g n cap : Nat} {e : TypeId} {xs : List Value} (h : w.ownsRow base e size (.slice (some ⟨g, 0, none⟩) n cap) n xs) : n ≤ cap := by
  rcases h.2 with ⟨h, _⟩ | ⟨g', cap', cur, hv, _, _, h1, _, _, _⟩
  · cases h
  · cases hv; exact h1
theorem Ops.put3 {w : World} {b o k : Nat} {xs : List Arg} (h : Ops w b o xs) (hk : k < xs.length) (a n p : Int) :
    Ops (((w.setCell ⟨b, o + k * 3, none⟩ (.int .i64 a)).setCell ⟨b, o + k * 3 + 1, none⟩ (.int .i64 n)).setCell ⟨b, o + k * 3 + 2, none⟩ (.int .i64 p)) b o (xs.set k (a, n, p)) := by
  intro j x hx
  rw [List.getElem?_set] at hx
  by_cases e : k = j
  · subst e
    simp [hk] at hx
    subst hx
    obtain ⟨x0, hx0⟩ : ∃ x, xs[k]? = some x := ⟨_, List.getElem?_eq_getElem hk⟩
    obtain ⟨h1, h2, h3⟩ := h k x0 hx0
    refine ⟨?_, ?_, ?_⟩
    · rw [World.cell?_setCell_other _ _ _ _ (by simp), World.cell?_setCell_other _ _ _ _ (by simp)]; exact World.cell?_setCell_same _ _ _ h1
    · rw [World.cell?_setCell_other _ _ _ _ (by simp)]; exact World.cell?_setCell_same _ _ _ ((World.cell?_setCell_other _ _ _ _ (by simp)).trans h2)
    · exact World.cell?_setCell_same _ _ _ ((World.cell?_setCell_other _ _ _ _ (by simp)).trans ((World.cell?_setCell_other _ _ _ _ (by simp)).trans h3))
  · rw [if_neg e] at hx
    obtain ⟨h1, h2, h3⟩ := h j x hx
    refine ⟨?_, ?_, ?_⟩
    · rw [World.cell?_setCell_other _ _ _ _ (by simp), World.cell?_setCell_other _ _ _ _ (by simp), World.cell?_setCell_other _ _ _ _ (by simp)]; exact h1
    · rw [World.cell?_setCell_other _ _ _ _ (by simp), World.cell?_setCell_other _ _ _ _ (by simp), World.cell?_setCell_other _ _ _ _ (by simp)]; exact h2
    · rw [World.cell?_setCell_other _ _ _ _ (by simp), World.cell?_setCell_other _ _ _ _ (by simp), World.cell?_setCell_other _ _ _ _ (by simp)]; exact h3
theorem Bd.set {xs : List Arg} (h : Bd xs) (k : Nat) (a n p : Int) (h1 : -3000000000 ≤ n) (h2 : n ≤ 3000000000) : Bd (xs.set k (a, n, p)) := by
  intro x hx
  rcases List.mem_or_eq_of_mem_set hx with hx | rfl
  · exact h x hx
  · exact ⟨h1, h2⟩
theorem Ops.alloc {w : World} {b o : Nat} {xs : List Arg} (h : Ops w b o xs) (ob : Obj) : Ops (w.alloc ob) b o xs := h.grown (World.grownBy_alloc w ob none) (by simp)

set_option maxRecDepth 10000 in
set_option maxHeartbeats 4000000 in
theorem spoil_r (B R p : Nat) (op : Int) (b o len cap L : Nat) (xs : List Arg) (w : World) (h : Reader B w R p) (hp : p < 9700000) (hlen : len = xs.length) (hl1 : 1 ≤ len) (hL : len ≤ L) (hL9 : L ≤ 9) (hcap : len ≤ cap) (ho1 : -100 ≤ op) (ho2 : op ≤ 100) (hbd : Bd xs) (hx : Ops w b o xs) :
    Calls Tryz.prog 37 #[.pointer (some ⟨R, 0, none⟩), .agg #[.int .i64 op, .slice (some ⟨b, o, none⟩) len cap]] w fun e w' => ElemL w.heap.size (L + 1) e w' ∧ (∃ q, q ≤ p + 30 ∧ Reader B w' R q) ∧ w.grownBy w' (some R) := by
  have hRB := h.1
  have hBw := h.2.1
  have bl : b < w.heap.size := hx.lt (fun e => by subst e; simp at hlen; omega)
  have hinfo : (Tryz.prog.info? 72).map (fun i => (i.zero, i.size, i.bytes)) = some (some (.agg #[.int .i64 0, .int .i64 0, .int .i64 0]), 3, 24) := by kernel_rfl
  obtain ⟨i0, hi, hzz⟩ := Option.map_eq_some_iff.1 hinfo
  simp only [Prod.mk.injEq] at hzz
  obtain ⟨hz0, hz1, hz2⟩ := hzz
  have S0 : E2 ((w.alloc (.cells #[.int .i64 op, .slice (some ⟨b, o, none⟩) len cap] 42)).alloc (.cells #[.int .i64 0, .slice none 0 0] 42)) (w.heap.size + 1) (.int .i64 0) (.slice none 0 0) := by
    have := E2.fresh (w.alloc (.cells #[.int .i64 op, .slice (some ⟨b, o, none⟩) len cap] 42)) (.int .i64 0) (.slice none 0 0) 42
    simpa using this
  have T0 : E2 ((w.alloc (.cells #[.int .i64 op, .slice (some ⟨b, o, none⟩) len cap] 42)).alloc (.cells #[.int .i64 0, .slice none 0 0] 42)) w.heap.size (.int .i64 op) (.slice (some ⟨b, o, none⟩) len cap) := (E2.fresh w _ _ 42).alloc _
  have hW : ((w.alloc (.cells #[.int .i64 op, .slice (some ⟨b, o, none⟩) len cap] 42)).alloc (.cells #[.int .i64 0, .slice none 0 0] 42)).heap.size = w.heap.size + 1 + 1 := by simp
  have own0 : (((w.alloc (.cells #[.int .i64 op, .slice (some ⟨b, o, none⟩) len cap] 42)).alloc (.cells #[.int .i64 0, .slice none 0 0] 42)).alloc (.cells #[] 72)).ownsRow (w.heap.size + 2) 72 3 (.slice (some ⟨w.heap.size + 1 + 1, 0, none⟩) 0 0) 0 [] := by
    have := World.ownsRow_made (base := w.heap.size + 2) (e := 72) (size := 3) ((w.alloc (.cells #[.int .i64 op, .slice (some ⟨b, o, none⟩) len cap] 42)).alloc (.cells #[.int .i64 0, .slice none 0 0] 42)) #[] 0 (by rw [hW]; omega) (by unfold maxLen; omega) rfl
    rwa [hW] at this
  have news0 : ∀ j u, (vals xs)[j]? = some u → (((w.alloc (.cells #[.int .i64 op, .slice (some ⟨b, o, none⟩) len cap] 42)).alloc (.cells #[.int .i64 0, .slice none 0 0] 42)).alloc (.cells #[] 72)).cell? ((⟨b, o, none⟩ : Addr).add j) = some u :=
    vals_ops (((hx.below bl ((Below.refl _ _).alloc (Nat.le_refl _) _)).below bl ((Below.refl _ _).alloc (by simp) _)).below bl ((Below.refl _ _).alloc (by simp; omega) _))
  have hvl : (vals xs).length = len * 3 := by rw [vals_len, hlen]
  have HLn : Hid (len = xs.length) := hlen
  clear hlen
  go_enter Tryz.func37, Tryz.ntmps37
  go_wp2_with (at_builtin; refine wpList_append_lies _ rfl _ _ 40 rfl (w.heap.size + 2) 72 i0 (.agg #[.int .i64 0, .int .i64 0, .int .i64 0]) 3 24 Tryz.underlying40 hi hz0 hz1 hz2 rfl (by decide) _ 0 [] rfl own0 ⟨b, o, none⟩ len cap (vals xs) rfl hvl news0 (vals_one xs) (by omega) ?c3 ?c4 ?c5 _ rfl ?_)
  case c3 => unfold maxLen; omega
  case c4 => omega
  case c5 => simp
  intro g cap1 w1 own1 g1 hat1 hlt1
  have hg2 : w.heap.size + 2 ≤ g := (own1.lt g rfl).1
  have hc1 := own_cap own1
  have G1 : w.grownBy w1 (some R) := gb_then (gb_alloc (gb_alloc (gb_alloc (gb_refl w (some R)) _) _) _) g1 (fun j hj => .inl (by simp [Value.ownBlock] at hj; omega))
  have h1 : Reader B w1 R p := (((h.alloc _).alloc _).alloc _).kept g1 (fun j hj => by simp [Value.ownBlock] at hj; omega)
  have S1 : E2 w1 (w.heap.size + 1) (.int .i64 0) (.slice none 0 0) := (S0.alloc _).grown g1 (by simp [Value.ownBlock])
  have T1 : E2 w1 w.heap.size (.int .i64 op) (.slice (some ⟨b, o, none⟩) len cap) := (T0.alloc _).grown g1 (by simp [Value.ownBlock]; omega)
  clear g1 hat1 news0 own0 S0 T0 h hx
  go_wp2_with fail
  refine (pick_r B R p 6 _ h1 (by omega) (by omega) (by omega)).mono ?_
  rintro e w2 ⟨r, r1, rfl, h2, g2⟩
  have G2 : w.grownBy w2 (some R) := gb_pick G1 g2
  have S2 := S1.grown g2 (by simp; omega)
  have T2 := T1.grown g2 (by simp; omega)
  have own2 := own1.kept g2 (.inr (by simp [Value.ownBlock]; omega))
  have P2 : Ops w2 g 0 xs := ops_vals (own2.cells rfl)
  clear g2 G1 S1 T1 own1 h1 hlt1
  have hlt2 : g < w2.heap.size := (own2.lt g rfl).2
  have hr : r = 0 ∨ r = 1 ∨ r = 2 ∨ r = 3 ∨ r = 4 ∨ r = 5 := by omega
  rcases hr with rfl | rfl | rfl | rfl | rfl | rfl
  · have hN := fun W (hW : Reader B W R (p + 1)) hx => num_r B R (p + 1) w2.heap.size [-1, 0, 1, 5, 11, 20, 21, 26, 37, 38] 10 W hW (by simp) (by simp) (by omega) (by omega) hx
    go_wp2_with fail
    refine (hN _ (h2.alloc _) (cells_row w2 [-1, 0, 1, 5, 11, 20, 21, 26, 37, 38] 3)).mono ?_
    rintro e w3 ⟨v, hv, rfl, h3, g3⟩
    have hv' : -100 ≤ v ∧ v ≤ 100 := by simp at hv; omega
    have G3 : w.grownBy w3 (some R) := gb_pick (gb_alloc G2 _) g3
    have S3 := (S2.alloc (.cells ([-1, 0, 1, 5, 11, 20, 21, 26, 37, 38].map (Value.int .i64)).toArray 3)).grown g3 (by simp; omega)
    have P3 := (P2.alloc (.cells ([-1, 0, 1, 5, 11, 20, 21, 26, 37, 38].map (Value.int .i64)).toArray 3)).grown g3 (by simp; omega)
    clear g3 G2 S2 T2 own2 P2 h2 hN hv
    obtain ⟨u1, u2, u3⟩ := elem_put (.int .i64 v) (.slice (some ⟨g, 0, none⟩) len cap1) S3 h3 G3 (by omega) (by omega)
    obtain ⟨c0, c1, f0, f1⟩ := S3
    obtain ⟨q0, q1, _, _⟩ := u1
    have P4 := (P3.other (w.heap.size + 1) 0 (by omega) (.int .i64 v)).other (w.heap.size + 1) 1 (by omega) (.slice (some ⟨g, 0, none⟩) len cap1)
    go_wp2
    exact bodyPost_ret (v := .agg #[.int .i64 v, .slice (some ⟨g, 0, none⟩) len cap1]) (by simp [results, Tryz.results37, go_sem, q0, q1]) rfl ⟨⟨v, _, len, cap1, xs, rfl, by omega, by omega, HLn, hc1, by omega, hbd, .inr ⟨_, _, rfl, by omega, P4⟩⟩, ⟨_, by omega, u2⟩, u3⟩
  · obtain ⟨d0, d1, _, _⟩ := id T2
    obtain ⟨s0, s1, s2, s3⟩ := id S2
    go_upto_region 6 with fail
    go_region_held3 (fun w' => w'.cell? ⟨w.heap.size, 0, none⟩ = some (.int .i64 op))
      (first | go_keep | exact d3 | (simpa using d3) | exact d4 | (simpa using d4))
      (first
        | (go_at_call 58; refine (any_r B R (p + 1) _ (by first | exact h2 | exact h2.drew) (by omega)).mono ?_; rintro e w3 ⟨⟨k2, n2, m2, bn2, bn3, rfl⟩, ⟨q3, hq3, h3⟩, g3⟩; have S3 : E2 w3 (w.heap.size + 1) _ _ := (by first | exact S2.grown g3 (by simp; omega) | exact (S2.grown (gb_drew (gb_refl _ none)) (by simp)).grown g3 (by simp; omega)); have T3 : E2 w3 w.heap.size _ _ := (by first | exact T2.grown g3 (by simp; omega) | exact (T2.grown (gb_drew (gb_refl _ none)) (by simp)).grown g3 (by simp; omega)); have own3 := (by first | exact own2.kept g3 (.inr (by simp [Value.ownBlock]; omega)) | exact own2.drew.kept g3 (.inr (by simp [Value.ownBlock]; omega)) : w3.ownsRow (w.heap.size + 2) 72 3 (.slice (some ⟨g, 0, none⟩) len cap1) len (vals xs)); have G3 : w.grownBy w3 (some R) := (by first | exact gb_pick G2 g3 | exact gb_pick (gb_drew G2) g3); have d3 := T3.c0; have hlt3 : g < w3.heap.size := (own3.lt g rfl).2)
        | (refine step_append_lies _ (by rfl) (.tmp 24) (.tmp 27) 40 (by rfl) (w.heap.size + 2) 72 i0 (.agg #[.int .i64 0, .int .i64 0, .int .i64 0]) 3 24 Tryz.underlying40 hi hz0 hz1 hz2 (by rfl) (by decide) (.slice (some ⟨g, 0, none⟩) len cap1) len (vals xs) (by rfl) (own3.alloc _) ⟨w3.heap.size, 0, none⟩ 1 1 (vals [(k2, n2, m2)]) (by rfl) (by rfl) (vals_ops (ops1 w3 k2 n2 m2 72)) (vals_one _) (by omega) (by unfold maxLen; omega) (by omega) (by simp; omega) _ rfl ?_; intro g4 cap4 w4 own4 gg4 hat4 hlt4; have d4 : w4.cell? ⟨w.heap.size, 0, none⟩ = some (.int .i64 op) := ((T3.alloc _).grown gg4 (by simp [Value.ownBlock]; omega)).c0; have S4 : E2 w4 (w.heap.size + 1) _ _ := (S3.alloc _).grown gg4 (by simp [Value.ownBlock]; omega); have h4 := (h3.alloc _).kept gg4 (fun j hj => by simp [Value.ownBlock] at hj; omega); have G4 : w.grownBy w4 (some R) := gb_then (gb_alloc G3 _) gg4 (fun j hj => .inl (by simp [Value.ownBlock] at hj; omega)); obtain ⟨v0, v1, v2, v3⟩ := id S4)
        | fail)
    have hg4 : w.heap.size + 2 ≤ g4 := (own4.lt g4 rfl).1
    have hc4 := own_cap own4
    have P4 : Ops w4 g4 0 (xs ++ [(k2, n2, m2)]) := ops_vals (by rw [vals_app]; exact own4.cells rfl)
    have bd4 : Bd (xs ++ [(k2, n2, m2)]) := (by
      intro x hx
      rcases List.mem_append.1 hx with hx | hx
      · exact hbd x hx
      · simp at hx; subst hx; exact ⟨bn2, bn3⟩)
    have l4 : Hid (len + 1 = (xs ++ [(k2, n2, m2)]).length) := (by have hl : len = xs.length := HLn; show len + 1 = _; rw [List.length_append, ← hl]; rfl)
    obtain ⟨ys, hys⟩ : ∃ ys, xs ++ [(k2, n2, m2)] = ys := ⟨_, rfl⟩
    rw [hys] at P4 bd4 l4
    obtain ⟨u1, u2, u3⟩ := elem_put (.int .i64 op) (.slice (some ⟨g4, 0, none⟩) (len + 1) cap4) S4 h4 G4 (by omega) (by omega)
    have PE := (P4.other (w.heap.size + 1) 0 (by omega) (.int .i64 op)).other (w.heap.size + 1) 1 (by omega) (.slice (some ⟨g4, 0, none⟩) (len + 1) cap4)
    obtain ⟨q0, q1, _, _⟩ := u1
    clear own4 own3 gg4 hat4 hys P4
    go_wp2
    exact bodyPost_ret (v := .agg #[.int .i64 op, .slice (some ⟨g4, 0, none⟩) (len + 1) cap4]) (by simp [results, Tryz.results37, go_sem, q0, q1]) rfl ⟨⟨op, _, len + 1, cap4, ys, rfl, by omega, by omega, l4, hc4, by omega, bd4, .inr ⟨_, _, rfl, by omega, PE⟩⟩, ⟨_, by omega, u2⟩, u3⟩
  · obtain ⟨u1, u2, u3⟩ := elem_put (.int .i64 op) (.slice none 0 0) S2 h2 G2 (by omega) (by omega)
    obtain ⟨c0, c1, f0, f1⟩ := S2
    obtain ⟨d0, d1, _, _⟩ := T2
    obtain ⟨q0, q1, _, _⟩ := u1
    go_wp2
    exact bodyPost_ret (v := .agg #[.int .i64 op, .slice none 0 0]) (by simp [results, Tryz.results37, go_sem, q0, q1]) rfl ⟨⟨op, _, 0, 0, [], rfl, by omega, by omega, rfl, by omega, by omega, (by intro x hx; cases hx), .inl rfl⟩, ⟨_, by omega, u2⟩, u3⟩
  · have dl : decide ((0 : Int) < (len : Int)) = true := by simp; omega
    go_wp2_with fail
    refine (pick_r B R (p + 1) len _ h2 (by omega) (by omega) (by omega)).mono ?_
    rintro e w3 ⟨t, t1, rfl, h3, g3⟩
    have G3 : w.grownBy w3 (some R) := gb_pick G2 g3
    have S3 := S2.grown g3 (by simp; omega)
    have T3 := T2.grown g3 (by simp; omega)
    have own3 := own2.kept g3 (.inr (by simp [Value.ownBlock]; omega))
    have P3 : Ops w3 g 0 xs := P2.grown g3 (by simp; omega)
    clear g3 G2 S2 T2 own2 P2 h2
    have t2 : t < len := by omega
    obtain ⟨⟨ka, na, ma⟩, hxt⟩ : ∃ x, xs[t]? = some x := ⟨_, List.getElem?_eq_getElem (by have hl : len = xs.length := HLn; omega)⟩
    have bx : -3000000000 ≤ na ∧ na ≤ 3000000000 := hbd _ (List.mem_of_getElem? hxt)
    obtain ⟨c0, c1, c2⟩ := P3 t _ hxt
    simp only [Nat.zero_add] at c0 c1 c2
    go_wp2_with fail
    refine (spoilt_r B R (p + 1 + 1) ka na ma _ h3 (by omega) bx.1 bx.2).mono ?_
    rintro e w4 ⟨⟨k', n', m', bn0', bn1', rfl⟩, ⟨q', hq', h4⟩, g4⟩
    have G4 : w.grownBy w4 (some R) := gb_pick G3 g4
    have S4 := S3.grown g4 (by simp; omega)
    have T4 := T3.grown g4 (by simp; omega)
    have own4 := own3.kept g4 (.inr (by simp [Value.ownBlock]; omega))
    have P4 : Ops w4 g 0 xs := P3.grown g4 (by simp; omega)
    clear g4 G3 S3 T3 own3 P3 h3 c0 c1 c2
    obtain ⟨c0, c1, c2⟩ := P4 t _ hxt
    simp only [Nat.zero_add] at c0 c1 c2
    have hlt4 : g < w4.heap.size := (own4.lt g rfl).2
    have F4 : ∀ j, w4.frozen? ⟨g, j, none⟩ = false := fun j => own4.frozenAt j
    have f0 : w4.frozen? ⟨g, t * 3, none⟩ = false := own4.frozenAt _
    have f1 : w4.frozen? ⟨g, t * 3 + 1, none⟩ = false := own4.frozenAt _
    have f2 : w4.frozen? ⟨g, t * 3 + 2, none⟩ = false := own4.frozenAt _
    go_wp2_with fail
    have h4' : Reader B (((w4.setCell ⟨g, t * 3, none⟩ (.int .i64 k')).setCell ⟨g, t * 3 + 1, none⟩ (.int .i64 n')).setCell ⟨g, t * 3 + 2, none⟩ (.int .i64 m')) R _ := ((h4.set g (t * 3) (.int .i64 k') (by omega)).set g (t * 3 + 1) (.int .i64 n') (by omega)).set g (t * 3 + 2) (.int .i64 m') (by omega)
    have G4' : w.grownBy (((w4.setCell ⟨g, t * 3, none⟩ (.int .i64 k')).setCell ⟨g, t * 3 + 1, none⟩ (.int .i64 n')).setCell ⟨g, t * 3 + 2, none⟩ (.int .i64 m')) (some R) := gb_put (gb_put (gb_put G4 (by omega)) (by omega)) (by omega)
    have S4' : E2 (((w4.setCell ⟨g, t * 3, none⟩ (.int .i64 k')).setCell ⟨g, t * 3 + 1, none⟩ (.int .i64 n')).setCell ⟨g, t * 3 + 2, none⟩ (.int .i64 m')) (w.heap.size + 1) (.int .i64 0) (.slice none 0 0) := ((S4.other g (t * 3) (by omega) _).other g (t * 3 + 1) (by omega) _).other g (t * 3 + 2) (by omega) _
    have T4' : E2 (((w4.setCell ⟨g, t * 3, none⟩ (.int .i64 k')).setCell ⟨g, t * 3 + 1, none⟩ (.int .i64 n')).setCell ⟨g, t * 3 + 2, none⟩ (.int .i64 m')) w.heap.size (.int .i64 op) (.slice (some ⟨b, o, none⟩) len cap) := ((T4.other g (t * 3) (by omega) _).other g (t * 3 + 1) (by omega) _).other g (t * 3 + 2) (by omega) _
    have F4' : ∀ j, (((w4.setCell ⟨g, t * 3, none⟩ (.int .i64 k')).setCell ⟨g, t * 3 + 1, none⟩ (.int .i64 n')).setCell ⟨g, t * 3 + 2, none⟩ (.int .i64 m')).frozen? ⟨g, j, none⟩ = false := fun j => by simpa using F4 j
    obtain ⟨ys, lys, bdys, P4'⟩ : ∃ zs : List Arg, Hid (len = zs.length) ∧ Bd zs ∧ Ops (((w4.setCell ⟨g, t * 3, none⟩ (.int .i64 k')).setCell ⟨g, t * 3 + 1, none⟩ (.int .i64 n')).setCell ⟨g, t * 3 + 2, none⟩ (.int .i64 m')) g 0 zs := ⟨xs.set t (k', n', m'), (by have hl : len = xs.length := HLn; show len = _; rw [List.length_set]; exact hl), hbd.set t _ _ _ (by omega) (by omega), (by have := P4.put3 (k := t) (by have hl : len = xs.length := HLn; omega) k' n' m'; simpa only [Nat.zero_add] using this)⟩
    refine (pick_r B R q' 2 _ h4' (by omega) (by omega) (by omega)).mono ?_
    rintro e w5 ⟨s, s1, rfl, h5, g5⟩
    have G5 : w.grownBy w5 (some R) := gb_pick G4' g5
    have S5 := S4'.grown g5 (by simp; omega)
    have T5 := T4'.grown g5 (by simp; omega)
    have P5 : Ops w5 g 0 ys := P4'.grown g5 (by simp; omega)
    have hlt5 : g < w5.heap.size := P5.lt (fun e => by have hl : len = ys.length := lys; rw [e] at hl; simp at hl; omega)
    have F5 : ∀ j, w5.frozen? ⟨g, j, none⟩ = false := fun j => (g5.frozen_far _ (by simp; omega) (by simp; omega)).trans (F4' j)
    clear g5 G4 S4 T4 own4 P4 h4 c0 c1 c2 f0 f1 f2 F4 h4' G4' S4' T4' P4' F4'
    by_cases hs : s = 0
    · subst hs
      go_wp2_with fail
      refine (any_r B R (q' + 1) _ h5 (by omega)).mono ?_
      rintro e w6 ⟨⟨k2, n2, m2, bn2, bn3, rfl⟩, ⟨q6, hq6, h6⟩, g6⟩
      have G6 : w.grownBy w6 (some R) := gb_pick G5 g6
      have S6 := S5.grown g6 (by simp; omega)
      have T6 := T5.grown g6 (by simp; omega)
      have P6 : Ops w6 g 0 ys := P5.grown g6 (by simp; omega)
      have F6 : ∀ j, w6.frozen? ⟨g, j, none⟩ = false := fun j => (g6.frozen_far _ (by simp; omega) (by simp; omega)).trans (F5 j)
      clear g6 G5 S5 T5 P5 F5 h5
      obtain ⟨⟨kb, nb, mb⟩, hyt⟩ : ∃ x, ys[t]? = some x := ⟨_, List.getElem?_eq_getElem (by have hl : len = ys.length := lys; omega)⟩
      obtain ⟨c0, c1, c2⟩ := P6 t _ hyt
      simp only [Nat.zero_add] at c0 c1 c2
      have f0 : w6.frozen? ⟨g, t * 3, none⟩ = false := F6 _
      have f1 : w6.frozen? ⟨g, t * 3 + 1, none⟩ = false := F6 _
      have f2 : w6.frozen? ⟨g, t * 3 + 2, none⟩ = false := F6 _
      have h6' : Reader B (((w6.setCell ⟨g, t * 3, none⟩ (.int .i64 k2)).setCell ⟨g, t * 3 + 1, none⟩ (.int .i64 n2)).setCell ⟨g, t * 3 + 2, none⟩ (.int .i64 m2)) R _ := ((h6.set g (t * 3) (.int .i64 k2) (by omega)).set g (t * 3 + 1) (.int .i64 n2) (by omega)).set g (t * 3 + 2) (.int .i64 m2) (by omega)
      have G6' : w.grownBy (((w6.setCell ⟨g, t * 3, none⟩ (.int .i64 k2)).setCell ⟨g, t * 3 + 1, none⟩ (.int .i64 n2)).setCell ⟨g, t * 3 + 2, none⟩ (.int .i64 m2)) (some R) := gb_put (gb_put (gb_put G6 (by omega)) (by omega)) (by omega)
      have S6' : E2 (((w6.setCell ⟨g, t * 3, none⟩ (.int .i64 k2)).setCell ⟨g, t * 3 + 1, none⟩ (.int .i64 n2)).setCell ⟨g, t * 3 + 2, none⟩ (.int .i64 m2)) (w.heap.size + 1) (.int .i64 0) (.slice none 0 0) := ((S6.other g (t * 3) (by omega) _).other g (t * 3 + 1) (by omega) _).other g (t * 3 + 2) (by omega) _
      have T6' : E2 (((w6.setCell ⟨g, t * 3, none⟩ (.int .i64 k2)).setCell ⟨g, t * 3 + 1, none⟩ (.int .i64 n2)).setCell ⟨g, t * 3 + 2, none⟩ (.int .i64 m2)) w.heap.size (.int .i64 op) (.slice (some ⟨b, o, none⟩) len cap) := ((T6.other g (t * 3) (by omega) _).other g (t * 3 + 1) (by omega) _).other g (t * 3 + 2) (by omega) _
      have F6' : ∀ j, (((w6.setCell ⟨g, t * 3, none⟩ (.int .i64 k2)).setCell ⟨g, t * 3 + 1, none⟩ (.int .i64 n2)).setCell ⟨g, t * 3 + 2, none⟩ (.int .i64 m2)).frozen? ⟨g, j, none⟩ = false := fun j => by simpa using F6 j
      obtain ⟨zs, lzs, bdzs, P6'⟩ : ∃ zs : List Arg, Hid (len = zs.length) ∧ Bd zs ∧ Ops (((w6.setCell ⟨g, t * 3, none⟩ (.int .i64 k2)).setCell ⟨g, t * 3 + 1, none⟩ (.int .i64 n2)).setCell ⟨g, t * 3 + 2, none⟩ (.int .i64 m2)) g 0 zs := ⟨ys.set t (k2, n2, m2), (by have hl : len = ys.length := lys; show len = _; rw [List.length_set]; exact hl), bdys.set t _ _ _ (by omega) (by omega), (by have := P6.put3 (k := t) (by have hl : len = ys.length := lys; omega) k2 n2 m2; simpa only [Nat.zero_add] using this)⟩
      clear F6 F6' P6 S6 T6 h6 G6
      obtain ⟨u1, u2, u3⟩ := elem_put (.int .i64 op) (.slice (some ⟨g, 0, none⟩) len cap1) S6' h6' G6' (by omega) (by omega)
      have PE := (P6'.other (w.heap.size + 1) 0 (by omega) (.int .i64 op)).other (w.heap.size + 1) 1 (by omega) (.slice (some ⟨g, 0, none⟩) len cap1)
      obtain ⟨s0, s1, s2, s3⟩ := S6'
      obtain ⟨d0, d1, _, _⟩ := T6'
      obtain ⟨q0, q1, _, _⟩ := u1
      go_wp2
      exact bodyPost_ret (v := .agg #[.int .i64 op, .slice (some ⟨g, 0, none⟩) len cap1]) (by simp [results, Tryz.results37, go_sem, q0, q1]) rfl ⟨⟨op, _, len, cap1, zs, rfl, by omega, by omega, lzs, hc1, by omega, bdzs, .inr ⟨_, _, rfl, by omega, PE⟩⟩, ⟨_, by omega, u2⟩, u3⟩
    · have hs' : ((s : Int) == 0) = false := by simp; omega
      obtain ⟨u1, u2, u3⟩ := elem_put (.int .i64 op) (.slice (some ⟨g, 0, none⟩) len cap1) S5 h5 G5 (by omega) (by omega)
      have PE := (P5.other (w.heap.size + 1) 0 (by omega) (.int .i64 op)).other (w.heap.size + 1) 1 (by omega) (.slice (some ⟨g, 0, none⟩) len cap1)
      obtain ⟨s0, s1, s2, s3⟩ := S5
      obtain ⟨d0, d1, _, _⟩ := T5
      obtain ⟨q0, q1, _, _⟩ := u1
      go_wp2
      exact bodyPost_ret (v := .agg #[.int .i64 op, .slice (some ⟨g, 0, none⟩) len cap1]) (by simp [results, Tryz.results37, go_sem, q0, q1]) rfl ⟨⟨op, _, len, cap1, ys, rfl, by omega, by omega, lys, hc1, by omega, bdys, .inr ⟨_, _, rfl, by omega, PE⟩⟩, ⟨_, by omega, u2⟩, u3⟩
  · have dl : decide ((0 : Int) < (len : Int)) = true := by simp; omega
    go_wp2_with fail
    refine (pick_r B R (p + 1) len _ h2 (by omega) (by omega) (by omega)).mono ?_
    rintro e w3 ⟨t, t1, rfl, h3, g3⟩
    have G3 : w.grownBy w3 (some R) := gb_pick G2 g3
    have S3 := S2.grown g3 (by simp; omega)
    have T3 := T2.grown g3 (by simp; omega)
    have own3 := own2.kept g3 (.inr (by simp [Value.ownBlock]; omega))
    have P3 : Ops w3 g 0 xs := P2.grown g3 (by simp; omega)
    clear g3 G2 S2 T2 own2 P2 h2
    have t2 : t < len := by omega
    obtain ⟨⟨ka, na, ma⟩, hxt⟩ : ∃ x, xs[t]? = some x := ⟨_, List.getElem?_eq_getElem (by have hl : len = xs.length := HLn; omega)⟩
    have bx : -3000000000 ≤ na ∧ na ≤ 3000000000 := hbd _ (List.mem_of_getElem? hxt)
    obtain ⟨c0, c1, c2⟩ := P3 t _ hxt
    simp only [Nat.zero_add] at c0 c1 c2
    go_wp2_with fail
    refine (spoilt_r B R (p + 1 + 1) ka na ma _ h3 (by omega) bx.1 bx.2).mono ?_
    rintro e w4 ⟨⟨k', n', m', bn0', bn1', rfl⟩, ⟨q', hq', h4⟩, g4⟩
    have G4 : w.grownBy w4 (some R) := gb_pick G3 g4
    have S4 := S3.grown g4 (by simp; omega)
    have T4 := T3.grown g4 (by simp; omega)
    have own4 := own3.kept g4 (.inr (by simp [Value.ownBlock]; omega))
    have P4 : Ops w4 g 0 xs := P3.grown g4 (by simp; omega)
    clear g4 G3 S3 T3 own3 P3 h3 c0 c1 c2
    obtain ⟨c0, c1, c2⟩ := P4 t _ hxt
    simp only [Nat.zero_add] at c0 c1 c2
    have hlt4 : g < w4.heap.size := (own4.lt g rfl).2
    have F4 : ∀ j, w4.frozen? ⟨g, j, none⟩ = false := fun j => own4.frozenAt j
    have f0 : w4.frozen? ⟨g, t * 3, none⟩ = false := own4.frozenAt _
    have f1 : w4.frozen? ⟨g, t * 3 + 1, none⟩ = false := own4.frozenAt _
    have f2 : w4.frozen? ⟨g, t * 3 + 2, none⟩ = false := own4.frozenAt _
    go_wp2_with fail
    have h4' : Reader B (((w4.setCell ⟨g, t * 3, none⟩ (.int .i64 k')).setCell ⟨g, t * 3 + 1, none⟩ (.int .i64 n')).setCell ⟨g, t * 3 + 2, none⟩ (.int .i64 m')) R _ := ((h4.set g (t * 3) (.int .i64 k') (by omega)).set g (t * 3 + 1) (.int .i64 n') (by omega)).set g (t * 3 + 2) (.int .i64 m') (by omega)
    have G4' : w.grownBy (((w4.setCell ⟨g, t * 3, none⟩ (.int .i64 k')).setCell ⟨g, t * 3 + 1, none⟩ (.int .i64 n')).setCell ⟨g, t * 3 + 2, none⟩ (.int .i64 m')) (some R) := gb_put (gb_put (gb_put G4 (by omega)) (by omega)) (by omega)
    have S4' : E2 (((w4.setCell ⟨g, t * 3, none⟩ (.int .i64 k')).setCell ⟨g, t * 3 + 1, none⟩ (.int .i64 n')).setCell ⟨g, t * 3 + 2, none⟩ (.int .i64 m')) (w.heap.size + 1) (.int .i64 0) (.slice none 0 0) := ((S4.other g (t * 3) (by omega) _).other g (t * 3 + 1) (by omega) _).other g (t * 3 + 2) (by omega) _
    have T4' : E2 (((w4.setCell ⟨g, t * 3, none⟩ (.int .i64 k')).setCell ⟨g, t * 3 + 1, none⟩ (.int .i64 n')).setCell ⟨g, t * 3 + 2, none⟩ (.int .i64 m')) w.heap.size (.int .i64 op) (.slice (some ⟨b, o, none⟩) len cap) := ((T4.other g (t * 3) (by omega) _).other g (t * 3 + 1) (by omega) _).other g (t * 3 + 2) (by omega) _
    have F4' : ∀ j, (((w4.setCell ⟨g, t * 3, none⟩ (.int .i64 k')).setCell ⟨g, t * 3 + 1, none⟩ (.int .i64 n')).setCell ⟨g, t * 3 + 2, none⟩ (.int .i64 m')).frozen? ⟨g, j, none⟩ = false := fun j => by simpa using F4 j
    obtain ⟨ys, lys, bdys, P4'⟩ : ∃ zs : List Arg, Hid (len = zs.length) ∧ Bd zs ∧ Ops (((w4.setCell ⟨g, t * 3, none⟩ (.int .i64 k')).setCell ⟨g, t * 3 + 1, none⟩ (.int .i64 n')).setCell ⟨g, t * 3 + 2, none⟩ (.int .i64 m')) g 0 zs := ⟨xs.set t (k', n', m'), (by have hl : len = xs.length := HLn; show len = _; rw [List.length_set]; exact hl), hbd.set t _ _ _ (by omega) (by omega), (by have := P4.put3 (k := t) (by have hl : len = xs.length := HLn; omega) k' n' m'; simpa only [Nat.zero_add] using this)⟩
    refine (pick_r B R q' 2 _ h4' (by omega) (by omega) (by omega)).mono ?_
    rintro e w5 ⟨s, s1, rfl, h5, g5⟩
    have G5 : w.grownBy w5 (some R) := gb_pick G4' g5
    have S5 := S4'.grown g5 (by simp; omega)
    have T5 := T4'.grown g5 (by simp; omega)
    have P5 : Ops w5 g 0 ys := P4'.grown g5 (by simp; omega)
    have hlt5 : g < w5.heap.size := P5.lt (fun e => by have hl : len = ys.length := lys; rw [e] at hl; simp at hl; omega)
    have F5 : ∀ j, w5.frozen? ⟨g, j, none⟩ = false := fun j => (g5.frozen_far _ (by simp; omega) (by simp; omega)).trans (F4' j)
    clear g5 G4 S4 T4 own4 P4 h4 c0 c1 c2 f0 f1 f2 F4 h4' G4' S4' T4' P4' F4'
    by_cases hs : s = 0
    · subst hs
      go_wp2_with fail
      refine (any_r B R (q' + 1) _ h5 (by omega)).mono ?_
      rintro e w6 ⟨⟨k2, n2, m2, bn2, bn3, rfl⟩, ⟨q6, hq6, h6⟩, g6⟩
      have G6 : w.grownBy w6 (some R) := gb_pick G5 g6
      have S6 := S5.grown g6 (by simp; omega)
      have T6 := T5.grown g6 (by simp; omega)
      have P6 : Ops w6 g 0 ys := P5.grown g6 (by simp; omega)
      have F6 : ∀ j, w6.frozen? ⟨g, j, none⟩ = false := fun j => (g6.frozen_far _ (by simp; omega) (by simp; omega)).trans (F5 j)
      clear g6 G5 S5 T5 P5 F5 h5
      obtain ⟨⟨kb, nb, mb⟩, hyt⟩ : ∃ x, ys[t]? = some x := ⟨_, List.getElem?_eq_getElem (by have hl : len = ys.length := lys; omega)⟩
      obtain ⟨c0, c1, c2⟩ := P6 t _ hyt
      simp only [Nat.zero_add] at c0 c1 c2
      have f0 : w6.frozen? ⟨g, t * 3, none⟩ = false := F6 _
      have f1 : w6.frozen? ⟨g, t * 3 + 1, none⟩ = false := F6 _
      have f2 : w6.frozen? ⟨g, t * 3 + 2, none⟩ = false := F6 _
      have h6' : Reader B (((w6.setCell ⟨g, t * 3, none⟩ (.int .i64 k2)).setCell ⟨g, t * 3 + 1, none⟩ (.int .i64 n2)).setCell ⟨g, t * 3 + 2, none⟩ (.int .i64 m2)) R _ := ((h6.set g (t * 3) (.int .i64 k2) (by omega)).set g (t * 3 + 1) (.int .i64 n2) (by omega)).set g (t * 3 + 2) (.int .i64 m2) (by omega)
      have G6' : w.grownBy (((w6.setCell ⟨g, t * 3, none⟩ (.int .i64 k2)).setCell ⟨g, t * 3 + 1, none⟩ (.int .i64 n2)).setCell ⟨g, t * 3 + 2, none⟩ (.int .i64 m2)) (some R) := gb_put (gb_put (gb_put G6 (by omega)) (by omega)) (by omega)
      have S6' : E2 (((w6.setCell ⟨g, t * 3, none⟩ (.int .i64 k2)).setCell ⟨g, t * 3 + 1, none⟩ (.int .i64 n2)).setCell ⟨g, t * 3 + 2, none⟩ (.int .i64 m2)) (w.heap.size + 1) (.int .i64 0) (.slice none 0 0) := ((S6.other g (t * 3) (by omega) _).other g (t * 3 + 1) (by omega) _).other g (t * 3 + 2) (by omega) _
      have T6' : E2 (((w6.setCell ⟨g, t * 3, none⟩ (.int .i64 k2)).setCell ⟨g, t * 3 + 1, none⟩ (.int .i64 n2)).setCell ⟨g, t * 3 + 2, none⟩ (.int .i64 m2)) w.heap.size (.int .i64 op) (.slice (some ⟨b, o, none⟩) len cap) := ((T6.other g (t * 3) (by omega) _).other g (t * 3 + 1) (by omega) _).other g (t * 3 + 2) (by omega) _
      have F6' : ∀ j, (((w6.setCell ⟨g, t * 3, none⟩ (.int .i64 k2)).setCell ⟨g, t * 3 + 1, none⟩ (.int .i64 n2)).setCell ⟨g, t * 3 + 2, none⟩ (.int .i64 m2)).frozen? ⟨g, j, none⟩ = false := fun j => by simpa using F6 j
      obtain ⟨zs, lzs, bdzs, P6'⟩ : ∃ zs : List Arg, Hid (len = zs.length) ∧ Bd zs ∧ Ops (((w6.setCell ⟨g, t * 3, none⟩ (.int .i64 k2)).setCell ⟨g, t * 3 + 1, none⟩ (.int .i64 n2)).setCell ⟨g, t * 3 + 2, none⟩ (.int .i64 m2)) g 0 zs := ⟨ys.set t (k2, n2, m2), (by have hl : len = ys.length := lys; show len = _; rw [List.length_set]; exact hl), bdys.set t _ _ _ (by omega) (by omega), (by have := P6.put3 (k := t) (by have hl : len = ys.length := lys; omega) k2 n2 m2; simpa only [Nat.zero_add] using this)⟩
      clear F6 F6' P6 S6 T6 h6 G6
      obtain ⟨u1, u2, u3⟩ := elem_put (.int .i64 op) (.slice (some ⟨g, 0, none⟩) len cap1) S6' h6' G6' (by omega) (by omega)
      have PE := (P6'.other (w.heap.size + 1) 0 (by omega) (.int .i64 op)).other (w.heap.size + 1) 1 (by omega) (.slice (some ⟨g, 0, none⟩) len cap1)
      obtain ⟨s0, s1, s2, s3⟩ := S6'
      obtain ⟨d0, d1, _, _⟩ := T6'
      obtain ⟨q0, q1, _, _⟩ := u1
      go_wp2
      exact bodyPost_ret (v := .agg #[.int .i64 op, .slice (some ⟨g, 0, none⟩) len cap1]) (by simp [results, Tryz.results37, go_sem, q0, q1]) rfl ⟨⟨op, _, len, cap1, zs, rfl, by omega, by omega, lzs, hc1, by omega, bdzs, .inr ⟨_, _, rfl, by omega, PE⟩⟩, ⟨_, by omega, u2⟩, u3⟩
    · have hs' : ((s : Int) == 0) = false := by simp; omega
      obtain ⟨u1, u2, u3⟩ := elem_put (.int .i64 op) (.slice (some ⟨g, 0, none⟩) len cap1) S5 h5 G5 (by omega) (by omega)
      have PE := (P5.other (w.heap.size + 1) 0 (by omega) (.int .i64 op)).other (w.heap.size + 1) 1 (by omega) (.slice (some ⟨g, 0, none⟩) len cap1)
      obtain ⟨s0, s1, s2, s3⟩ := S5
      obtain ⟨d0, d1, _, _⟩ := T5
      obtain ⟨q0, q1, _, _⟩ := u1
      go_wp2
      exact bodyPost_ret (v := .agg #[.int .i64 op, .slice (some ⟨g, 0, none⟩) len cap1]) (by simp [results, Tryz.results37, go_sem, q0, q1]) rfl ⟨⟨op, _, len, cap1, ys, rfl, by omega, by omega, lys, hc1, by omega, bdys, .inr ⟨_, _, rfl, by omega, PE⟩⟩, ⟨_, by omega, u2⟩, u3⟩
  · have dl : decide ((0 : Int) < (len : Int)) = true := by simp; omega
    go_wp2_with fail
    refine (pick_r B R (p + 1) len _ h2 (by omega) (by omega) (by omega)).mono ?_
    rintro e w3 ⟨t, t1, rfl, h3, g3⟩
    have G3 : w.grownBy w3 (some R) := gb_pick G2 g3
    have S3 := S2.grown g3 (by simp; omega)
    have T3 := T2.grown g3 (by simp; omega)
    have own3 := own2.kept g3 (.inr (by simp [Value.ownBlock]; omega))
    have P3 : Ops w3 g 0 xs := P2.grown g3 (by simp; omega)
    clear g3 G2 S2 T2 own2 P2 h2
    have t2 : t < len := by omega
    obtain ⟨⟨ka, na, ma⟩, hxt⟩ : ∃ x, xs[t]? = some x := ⟨_, List.getElem?_eq_getElem (by have hl : len = xs.length := HLn; omega)⟩
    have bx : -3000000000 ≤ na ∧ na ≤ 3000000000 := hbd _ (List.mem_of_getElem? hxt)
    obtain ⟨c0, c1, c2⟩ := P3 t _ hxt
    simp only [Nat.zero_add] at c0 c1 c2
    go_wp2_with fail
    refine (spoilt_r B R (p + 1 + 1) ka na ma _ h3 (by omega) bx.1 bx.2).mono ?_
    rintro e w4 ⟨⟨k', n', m', bn0', bn1', rfl⟩, ⟨q', hq', h4⟩, g4⟩
    have G4 : w.grownBy w4 (some R) := gb_pick G3 g4
    have S4 := S3.grown g4 (by simp; omega)
    have T4 := T3.grown g4 (by simp; omega)
    have own4 := own3.kept g4 (.inr (by simp [Value.ownBlock]; omega))
    have P4 : Ops w4 g 0 xs := P3.grown g4 (by simp; omega)
    clear g4 G3 S3 T3 own3 P3 h3 c0 c1 c2
    obtain ⟨c0, c1, c2⟩ := P4 t _ hxt
    simp only [Nat.zero_add] at c0 c1 c2
    have hlt4 : g < w4.heap.size := (own4.lt g rfl).2
    have F4 : ∀ j, w4.frozen? ⟨g, j, none⟩ = false := fun j => own4.frozenAt j
    have f0 : w4.frozen? ⟨g, t * 3, none⟩ = false := own4.frozenAt _
    have f1 : w4.frozen? ⟨g, t * 3 + 1, none⟩ = false := own4.frozenAt _
    have f2 : w4.frozen? ⟨g, t * 3 + 2, none⟩ = false := own4.frozenAt _
    go_wp2_with fail
    have h4' : Reader B (((w4.setCell ⟨g, t * 3, none⟩ (.int .i64 k')).setCell ⟨g, t * 3 + 1, none⟩ (.int .i64 n')).setCell ⟨g, t * 3 + 2, none⟩ (.int .i64 m')) R _ := ((h4.set g (t * 3) (.int .i64 k') (by omega)).set g (t * 3 + 1) (.int .i64 n') (by omega)).set g (t * 3 + 2) (.int .i64 m') (by omega)
    have G4' : w.grownBy (((w4.setCell ⟨g, t * 3, none⟩ (.int .i64 k')).setCell ⟨g, t * 3 + 1, none⟩ (.int .i64 n')).setCell ⟨g, t * 3 + 2, none⟩ (.int .i64 m')) (some R) := gb_put (gb_put (gb_put G4 (by omega)) (by omega)) (by omega)
    have S4' : E2 (((w4.setCell ⟨g, t * 3, none⟩ (.int .i64 k')).setCell ⟨g, t * 3 + 1, none⟩ (.int .i64 n')).setCell ⟨g, t * 3 + 2, none⟩ (.int .i64 m')) (w.heap.size + 1) (.int .i64 0) (.slice none 0 0) := ((S4.other g (t * 3) (by omega) _).other g (t * 3 + 1) (by omega) _).other g (t * 3 + 2) (by omega) _
    have T4' : E2 (((w4.setCell ⟨g, t * 3, none⟩ (.int .i64 k')).setCell ⟨g, t * 3 + 1, none⟩ (.int .i64 n')).setCell ⟨g, t * 3 + 2, none⟩ (.int .i64 m')) w.heap.size (.int .i64 op) (.slice (some ⟨b, o, none⟩) len cap) := ((T4.other g (t * 3) (by omega) _).other g (t * 3 + 1) (by omega) _).other g (t * 3 + 2) (by omega) _
    have F4' : ∀ j, (((w4.setCell ⟨g, t * 3, none⟩ (.int .i64 k')).setCell ⟨g, t * 3 + 1, none⟩ (.int .i64 n')).setCell ⟨g, t * 3 + 2, none⟩ (.int .i64 m')).frozen? ⟨g, j, none⟩ = false := fun j => by simpa using F4 j
    obtain ⟨ys, lys, bdys, P4'⟩ : ∃ zs : List Arg, Hid (len = zs.length) ∧ Bd zs ∧ Ops (((w4.setCell ⟨g, t * 3, none⟩ (.int .i64 k')).setCell ⟨g, t * 3 + 1, none⟩ (.int .i64 n')).setCell ⟨g, t * 3 + 2, none⟩ (.int .i64 m')) g 0 zs := ⟨xs.set t (k', n', m'), (by have hl : len = xs.length := HLn; show len = _; rw [List.length_set]; exact hl), hbd.set t _ _ _ (by omega) (by omega), (by have := P4.put3 (k := t) (by have hl : len = xs.length := HLn; omega) k' n' m'; simpa only [Nat.zero_add] using this)⟩
    refine (pick_r B R q' 2 _ h4' (by omega) (by omega) (by omega)).mono ?_
    rintro e w5 ⟨s, s1, rfl, h5, g5⟩
    have G5 : w.grownBy w5 (some R) := gb_pick G4' g5
    have S5 := S4'.grown g5 (by simp; omega)
    have T5 := T4'.grown g5 (by simp; omega)
    have P5 : Ops w5 g 0 ys := P4'.grown g5 (by simp; omega)
    have hlt5 : g < w5.heap.size := P5.lt (fun e => by have hl : len = ys.length := lys; rw [e] at hl; simp at hl; omega)
    have F5 : ∀ j, w5.frozen? ⟨g, j, none⟩ = false := fun j => (g5.frozen_far _ (by simp; omega) (by simp; omega)).trans (F4' j)
    clear g5 G4 S4 T4 own4 P4 h4 c0 c1 c2 f0 f1 f2 F4 h4' G4' S4' T4' P4' F4'
    by_cases hs : s = 0
    · subst hs
      go_wp2_with fail
      refine (any_r B R (q' + 1) _ h5 (by omega)).mono ?_
      rintro e w6 ⟨⟨k2, n2, m2, bn2, bn3, rfl⟩, ⟨q6, hq6, h6⟩, g6⟩
      have G6 : w.grownBy w6 (some R) := gb_pick G5 g6
      have S6 := S5.grown g6 (by simp; omega)
      have T6 := T5.grown g6 (by simp; omega)
      have P6 : Ops w6 g 0 ys := P5.grown g6 (by simp; omega)
      have F6 : ∀ j, w6.frozen? ⟨g, j, none⟩ = false := fun j => (g6.frozen_far _ (by simp; omega) (by simp; omega)).trans (F5 j)
      clear g6 G5 S5 T5 P5 F5 h5
      obtain ⟨⟨kb, nb, mb⟩, hyt⟩ : ∃ x, ys[t]? = some x := ⟨_, List.getElem?_eq_getElem (by have hl : len = ys.length := lys; omega)⟩
      obtain ⟨c0, c1, c2⟩ := P6 t _ hyt
      simp only [Nat.zero_add] at c0 c1 c2
      have f0 : w6.frozen? ⟨g, t * 3, none⟩ = false := F6 _
      have f1 : w6.frozen? ⟨g, t * 3 + 1, none⟩ = false := F6 _
      have f2 : w6.frozen? ⟨g, t * 3 + 2, none⟩ = false := F6 _
      have h6' : Reader B (((w6.setCell ⟨g, t * 3, none⟩ (.int .i64 k2)).setCell ⟨g, t * 3 + 1, none⟩ (.int .i64 n2)).setCell ⟨g, t * 3 + 2, none⟩ (.int .i64 m2)) R _ := ((h6.set g (t * 3) (.int .i64 k2) (by omega)).set g (t * 3 + 1) (.int .i64 n2) (by omega)).set g (t * 3 + 2) (.int .i64 m2) (by omega)
      have G6' : w.grownBy (((w6.setCell ⟨g, t * 3, none⟩ (.int .i64 k2)).setCell ⟨g, t * 3 + 1, none⟩ (.int .i64 n2)).setCell ⟨g, t * 3 + 2, none⟩ (.int .i64 m2)) (some R) := gb_put (gb_put (gb_put G6 (by omega)) (by omega)) (by omega)
      have S6' : E2 (((w6.setCell ⟨g, t * 3, none⟩ (.int .i64 k2)).setCell ⟨g, t * 3 + 1, none⟩ (.int .i64 n2)).setCell ⟨g, t * 3 + 2, none⟩ (.int .i64 m2)) (w.heap.size + 1) (.int .i64 0) (.slice none 0 0) := ((S6.other g (t * 3) (by omega) _).other g (t * 3 + 1) (by omega) _).other g (t * 3 + 2) (by omega) _
      have T6' : E2 (((w6.setCell ⟨g, t * 3, none⟩ (.int .i64 k2)).setCell ⟨g, t * 3 + 1, none⟩ (.int .i64 n2)).setCell ⟨g, t * 3 + 2, none⟩ (.int .i64 m2)) w.heap.size (.int .i64 op) (.slice (some ⟨b, o, none⟩) len cap) := ((T6.other g (t * 3) (by omega) _).other g (t * 3 + 1) (by omega) _).other g (t * 3 + 2) (by omega) _
      have F6' : ∀ j, (((w6.setCell ⟨g, t * 3, none⟩ (.int .i64 k2)).setCell ⟨g, t * 3 + 1, none⟩ (.int .i64 n2)).setCell ⟨g, t * 3 + 2, none⟩ (.int .i64 m2)).frozen? ⟨g, j, none⟩ = false := fun j => by simpa using F6 j
      obtain ⟨zs, lzs, bdzs, P6'⟩ : ∃ zs : List Arg, Hid (len = zs.length) ∧ Bd zs ∧ Ops (((w6.setCell ⟨g, t * 3, none⟩ (.int .i64 k2)).setCell ⟨g, t * 3 + 1, none⟩ (.int .i64 n2)).setCell ⟨g, t * 3 + 2, none⟩ (.int .i64 m2)) g 0 zs := ⟨ys.set t (k2, n2, m2), (by have hl : len = ys.length := lys; show len = _; rw [List.length_set]; exact hl), bdys.set t _ _ _ (by omega) (by omega), (by have := P6.put3 (k := t) (by have hl : len = ys.length := lys; omega) k2 n2 m2; simpa only [Nat.zero_add] using this)⟩
      clear F6 F6' P6 S6 T6 h6 G6
      obtain ⟨u1, u2, u3⟩ := elem_put (.int .i64 op) (.slice (some ⟨g, 0, none⟩) len cap1) S6' h6' G6' (by omega) (by omega)
      have PE := (P6'.other (w.heap.size + 1) 0 (by omega) (.int .i64 op)).other (w.heap.size + 1) 1 (by omega) (.slice (some ⟨g, 0, none⟩) len cap1)
      obtain ⟨s0, s1, s2, s3⟩ := S6'
      obtain ⟨d0, d1, _, _⟩ := T6'
      obtain ⟨q0, q1, _, _⟩ := u1
      go_wp2
      exact bodyPost_ret (v := .agg #[.int .i64 op, .slice (some ⟨g, 0, none⟩) len cap1]) (by simp [results, Tryz.results37, go_sem, q0, q1]) rfl ⟨⟨op, _, len, cap1, zs, rfl, by omega, by omega, lzs, hc1, by omega, bdzs, .inr ⟨_, _, rfl, by omega, PE⟩⟩, ⟨_, by omega, u2⟩, u3⟩
    · have hs' : ((s : Int) == 0) = false := by simp; omega
      obtain ⟨u1, u2, u3⟩ := elem_put (.int .i64 op) (.slice (some ⟨g, 0, none⟩) len cap1) S5 h5 G5 (by omega) (by omega)
      have PE := (P5.other (w.heap.size + 1) 0 (by omega) (.int .i64 op)).other (w.heap.size + 1) 1 (by omega) (.slice (some ⟨g, 0, none⟩) len cap1)
      obtain ⟨s0, s1, s2, s3⟩ := S5
      obtain ⟨d0, d1, _, _⟩ := T5
      obtain ⟨q0, q1, _, _⟩ := u1
      go_wp2
      exact bodyPost_ret (v := .agg #[.int .i64 op, .slice (some ⟨g, 0, none⟩) len cap1]) (by simp [results, Tryz.results37, go_sem, q0, q1]) rfl ⟨⟨op, _, len, cap1, ys, rfl, by omega, by omega, lys, hc1, by omega, bdys, .inr ⟨_, _, rfl, by omega, PE⟩⟩, ⟨_, by omega, u2⟩, u3⟩
end Go.Proofs.YtcihplachlokiaaGreatDoor.Rr

