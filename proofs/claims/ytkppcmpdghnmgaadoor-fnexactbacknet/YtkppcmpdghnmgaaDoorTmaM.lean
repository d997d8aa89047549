/- Numbers of one owned thing marked, and the marks looked for: operands. -/
import Derived.Test.YtkppcmpdghnmgaaDoorCaM
import Derived.Test.YtkppcmpdghnmgaaDoorCfM
namespace Go.Proofs.YtkppcmpdghnmgaaDoor
open Go.RowKit
set_option linter.unusedVariables false

def ArgsL (w0 : World) (L : List (Nat × Nat)) (p : Nat) (s : Value) (n : Nat) : Prop := ∃ a cp, s = .slice a n cp ∧ ∀ i, i < n * 3 → ∃ b o u, a = some ⟨b, o, none⟩ ∧ L[p + i]? = some (b, o + i) ∧ w0.cell? ⟨b, o + i, none⟩ = some (.int .i64 u)
def LSoft (w0 : World) (L : List (Nat × Nat)) : Prop := ∀ q ∈ L, ∃ C t, w0.heap[q.1]? = some (.cells C t (0, 0))
theorem ArgsL.shift {w0 : World} {L L' : List (Nat × Nat)} {p p' : Nat} {s : Value} {n : Nat} (h : ArgsL w0 L p s n) (hs : ∀ i q, L[p + i]? = some q → L'[p' + i]? = some q) : ArgsL w0 L' p' s n := by
  obtain ⟨a, cp, e, hx⟩ := h
  refine ⟨a, cp, e, fun i hi => ?_⟩
  obtain ⟨b, o, u, h1, h2, h3⟩ := hx i hi
  exact ⟨b, o, u, h1, hs _ _ h2, h3⟩
theorem own_soft {w : World} {base : Nat} {e : TypeId} {size : Nat} {v : Value} {n : Nat} {xs : List Value} (h : w.ownsRow base e size v n xs) {g : Nat} (hg : v.ownBlock = some g) : ∃ C t, w.heap[g]? = some (.cells C t (0, 0)) := by
  rcases h.2 with ⟨rfl, _⟩ | ⟨g1, cap, cur, rfl, _, e3, _⟩
  · simp [Value.ownBlock] at hg
  · simp [Value.ownBlock] at hg
    subst hg
    exact ⟨cur, e, e3⟩
/-- The operands of one's own. -/
theorem args_addr {w0 : World} {base : Nat} {f : List Nat} {v : Value} {xs : List ArgT} (h : ArgsOwn w0 base f v xs) : ∃ La : List (Nat × Nat), La.length = xs.length * 3 ∧ ArgsL w0 La 0 v xs.length ∧ La.Nodup ∧ (∀ q ∈ La, q.1 ∈ f) ∧ LSoft w0 La := by
  obtain ⟨cs, F', h1, h2, rfl⟩ := h
  have hcs : cs = avs xs := by
    clear h2
    induction h1 with
    | nil => rfl
    | add h hc hr ih => rw [avs_snoc, ← ih, hr.2]
  subst hcs
  rcases id h2.2 with ⟨rfl, hn⟩ | ⟨g, cap, cur, rfl, _⟩
  · refine ⟨[], by simp [hn], ⟨none, 0, by rw [hn], fun i hi => by omega⟩, List.nodup_nil, fun q hq => by simp at hq, fun q hq => by simp at hq⟩
  · refine ⟨(List.range (xs.length * 3)).map fun i => (g, i), by simp, ⟨some ⟨g, 0, none⟩, cap, rfl, fun i hi => ?_⟩, ?_, fun q hq => ?_, fun q hq => ?_⟩
    · have hc := h2.cellAt i hi
      have hal := avs_len xs
      obtain ⟨x, hx⟩ : ∃ x, (avs xs)[i]? = some x := ⟨_, List.getElem?_eq_getElem (by omega)⟩
      have hint : ∃ u, x = .int .i64 u := by
        have := List.mem_of_getElem? hx
        unfold avs at this
        simp only [List.mem_flatMap] at this
        obtain ⟨y, _, hy⟩ := this
        simp at hy
        rcases hy with rfl | rfl | rfl <;> exact ⟨_, rfl⟩
      obtain ⟨u, rfl⟩ := hint
      refine ⟨g, 0, u, rfl, ?_, ?_⟩
      · simp [hi]
      · rw [Nat.zero_add, hc, hx]
    · exact List.Pairwise.map _ (fun a b hab e => hab (by simpa using e)) List.nodup_range
    · simp at hq
      obtain ⟨i, _, rfl⟩ := hq
      simp [Value.ownBlock]
    · simp at hq
      obtain ⟨i, _, rfl⟩ := hq
      exact own_soft h2 rfl
/-- The first so many numbers are marked. -/
structure MkL (L : List (Nat × Nat)) (p lo hi : Nat) (w0 w : World) : Prop where
  wm : WMk lo hi w0 w
  at' : ∀ i q, i < p → L[i]? = some q → w.cell? ⟨q.1, q.2, none⟩ = some (.int .i64 (1 + (i : Int)))
/-- What all of it stands on. -/
structure LOk (L : List (Nat × Nat)) (lo hi : Nat) (w0 : World) : Prop where
  nd : L.Nodup
  rng : ∀ q ∈ L, lo ≤ q.1 ∧ q.1 < hi
  soft : LSoft w0 L
  len : L.length ≤ 4000000
theorem cell_put {w : World} {b o : Nat} {C : Array Value} {t : TypeId} (h : w.heap[b]? = some (.cells C t (0, 0))) (ho : o < C.size) (x : Value) (b' o' : Nat) : (w.setCell ⟨b, o, none⟩ x).cell? ⟨b', o', none⟩ = if b' = b ∧ o' = o then some x else w.cell? ⟨b', o', none⟩ := by
  have h2 := row_put h o x
  by_cases e : b' = b
  · subst e
    rw [cell_of_row _ _ _ _ _ _ h2, cell_of_row _ _ _ _ _ _ h]
    by_cases e2 : o' = o
    · subst e2
      rw [if_pos ⟨rfl, rfl⟩]
      simp [ho]
    · rw [if_neg (fun q => e2 q.2)]
      rw [Array.getElem?_setIfInBounds_ne (fun q => e2 q.symm)]
  · rw [if_neg (fun q => e q.1)]
    exact World.cell?_setCell_other _ _ _ _ (by simp)
theorem nodup_inj {α : Type} : ∀ {L : List α} (h : L.Nodup) {i j : Nat} {q : α}, L[i]? = some q → L[j]? = some q → i = j
  | [], _, i, j, q, hi, _ => by simp at hi
  | a :: L, h, i, j, q, hi, hj => by
    rw [List.nodup_cons] at h
    match i, j with
    | 0, 0 => rfl
    | 0, j + 1 => simp at hi hj; subst hi; exact absurd (List.mem_of_getElem? hj) h.1
    | i + 1, 0 => simp at hi hj; subst hj; exact absurd (List.mem_of_getElem? hi) h.1
    | i + 1, j + 1 => simp at hi hj; rw [nodup_inj h.2 hi hj]
/-- One number more: the cell is there, it is free, and the mark stands. -/
theorem MkL.put {L : List (Nat × Nat)} {p lo hi : Nat} {w0 w : World} (h : MkL L p lo hi w0 w) (ok : LOk L lo hi w0) {b o : Nat} {u : Int} (hL : L[p]? = some (b, o)) (hc : w0.cell? ⟨b, o, none⟩ = some (.int .i64 u)) (K : Int) (hK : K = 1 + (p : Int)) :
    (∃ x, w.cell? ⟨b, o, none⟩ = some x) ∧ w.frozen? ⟨b, o, none⟩ = false ∧ MkL L (p + 1) lo hi w0 (w.setCell ⟨b, o, none⟩ (.int .i64 K)) := by
  have hm := List.mem_of_getElem? hL
  have hs := ok.soft _ hm
  obtain ⟨u', hu⟩ := h.wm.num b o u hc
  have hsw := h.wm.soft b hs
  have hr := ok.rng _ hm
  obtain ⟨C, t, k⟩ := hsw
  refine ⟨⟨_, hu⟩, soft_free ⟨C, t, k⟩ o, h.wm.trans (WMk.put hu ⟨C, t, k⟩ hr.1 hr.2 K), fun i q hi hq => ?_⟩
  rw [cell_put k (cells_of_cell k hu)]
  split
  · next e =>
    have : i = p := nodup_inj ok.nd hq (by rw [hL]; exact congrArg some (by cases q; simp at e; rw [e.1, e.2]))
    rw [this, hK]
  · next e =>
    by_cases hip : i = p
    · subst hip
      rw [hL] at hq
      cases hq
      exact absurd ⟨rfl, rfl⟩ e
    · exact h.at' i q (by omega) hq
theorem MkL.later {L : List (Nat × Nat)} {p lo hi : Nat} {w0 w w' : World} (h : MkL L p lo hi w0 w) (g : Below w.heap.size w w') : MkL L p lo hi w0 w' := ⟨h.wm.trans (WMk.of_below lo hi g), fun i q hi hq => (Keeps.of_below g 0) _ _ _ (Nat.zero_le _) (h.at' i q hi hq)⟩
theorem MkL.none {L : List (Nat × Nat)} {lo hi : Nat} {w0 w : World} (h : WMk lo hi w0 w) : MkL L 0 lo hi w0 w := ⟨h, fun i q hi => by omega⟩
theorem mark_a0 (a : Option Addr) (uc : Nat) (m : Int) (w : World) (hm0 : 0 ≤ m) (hm1 : m ≤ 8388608) : Calls Tryd.prog 26 #[.slice a 0 uc, .int .i64 m] w fun e w' => e = .returned (.int .i64 m) ∧ w' = w := mark_args_w0 a uc m w hm0 hm1
set_option maxRecDepth 10000 in
set_option maxHeartbeats 4000000 in
theorem mark_a (L : List (Nat × Nat)) (p lo hi n : Nat) (v : Value) (w0 w : World) (ok : LOk L lo hi w0) (hv : ArgsL w0 L p v n) (hp : p + n * 3 ≤ L.length) (hM : MkL L p lo hi w0 w) (K : Int) (hK : K = 1 + (p : Int)) :
    Calls Tryd.prog 26 #[v, .int .i64 K] w fun e w' => e = .returned (.int .i64 (1 + ((p + n * 3 : Nat) : Int))) ∧ MkL L (p + n * 3) lo hi w0 w' := by
  have hpl := ok.len
  have HOk : Hid (LOk L lo hi w0) := ok
  have HM0 : Hid (MkL L p lo hi w0 w) := hM
  obtain ⟨a, cp, rfl, hx⟩ := hv
  have HX : Hid (∀ i, i < n * 3 → ∃ b o u, a = some ⟨b, o, none⟩ ∧ L[p + i]? = some (b, o + i) ∧ w0.cell? ⟨b, o + i, none⟩ = some (.int .i64 u)) := hx
  obtain ⟨lL, HLL⟩ : ∃ l, Hid (l = L.length) := ⟨_, rfl⟩
  rw [← HLL.out] at hp hpl
  have hK0 : 0 ≤ K := by omega
  have hK1 : K ≤ 5000000 := by omega
  have HK0 : Hid (K = 1 + (p : Int)) := hK
  clear ok hM hx hK
  go_enter Tryd.func26, Tryd.ntmps26
  go_wp2
  go_loopg [1, 5] n (fun gg k i wr => ∃ (m : Nat) (K : Int), m + gg = n ∧ i = .int .i64 m ∧ k = .int .i64 K ∧ Hid (K = 1 + ((p + m * 3 : Nat) : Int)) ∧ 0 ≤ K ∧ K ≤ 5000000 ∧ Hid (MkL L (p + m * 3) lo hi w0 wr))
  case atStart => exact ⟨0, K, by omega, rfl, rfl, (by rw [HK0.out]; simp : K = 1 + ((p + 0 * 3 : Nat) : Int)), hK0, hK1, (by simpa using HM0.out : MkL L (p + 0 * 3) lo hi w0 w)⟩
  case round =>
    clear HM0 HK0 hK0 hK1
    obtain ⟨m, K, hm, rfl, rfl, HK, hK0, hK1, HM⟩ := hrel
    by_cases hlt : m < n
    · have i1 : (m : Int) < (n : Int) := by omega
      have i2 : (0 : Int) ≤ (m : Int) := by omega
      obtain ⟨b, o, u0, rfl, l0, q0⟩ := HX.out (m * 3) (by omega)
      obtain ⟨b', o', u1, e1, l1, q1⟩ := HX.out (m * 3 + 1) (by omega)
      cases e1
      obtain ⟨b', o', u2, e2, l2, q2⟩ := HX.out (m * 3 + 2) (by omega)
      cases e2
      obtain ⟨⟨x0, c0⟩, f0, P1⟩ := HM.out.put HOk.out l0 q0 K HK.out
      obtain ⟨⟨x1, c1⟩, f1, P2⟩ := P1.put HOk.out (by rw [Nat.add_assoc]; exact l1) q1 (K + 1) (by rw [HK.out]; omega)
      obtain ⟨⟨x2, c2⟩, f2, P3⟩ := P2.put HOk.out (by rw [Nat.add_assoc, Nat.add_assoc]; exact l2) q2 (K + 1 + 1) (by rw [HK.out]; omega)
      have s1 : o + (m * 3 + 1) = o + m * 3 + 1 := by omega
      have s2 : o + (m * 3 + 2) = o + m * 3 + 1 + 1 := by omega
      rw [s1] at c1 f1
      rw [s2, s1] at c2 f2
      have HP3 : Hid (MkL L (p + (m + 1) * 3) lo hi w0 (((wr.setCell ⟨b, o + m * 3, none⟩ (.int .i64 K)).setCell ⟨b, o + m * 3 + 1, none⟩ (.int .i64 (K + 1))).setCell ⟨b, o + m * 3 + 1 + 1, none⟩ (.int .i64 (K + 1 + 1)))) := by
        have h := P3
        rw [s2, s1] at h
        rwa [show p + m * 3 + 1 + 1 + 1 = p + (m + 1) * 3 by omega] at h
      have HK2 : Hid (K + 1 + 1 + 1 = 1 + ((p + (m + 1) * 3 : Nat) : Int)) := by show K + 1 + 1 + 1 = 1 + ((p + (m + 1) * 3 : Nat) : Int); rw [HK.out]; omega
      have hK3 : K + 1 + 1 + 1 ≤ 5000000 := by have := HK2.out; omega
      clear l0 l1 l2 q0 q1 q2 P1 P2 P3 HM s1 s2
      go_wp2
      go_roundg (gk - 1)
      case measure => omega
      case rel => exact ⟨m + 1, K + 1 + 1 + 1, by omega, by go_num, rfl, HK2, by omega, hK3, HP3⟩
    · have i1 : ¬ ((m : Int) < (n : Int)) := by omega
      have hqn : m = n := by omega
      have HKn : Hid (K = 1 + ((p + n * 3 : Nat) : Int)) := (by rw [← hqn]; exact HK.out : K = 1 + ((p + n * 3 : Nat) : Int))
      have HMn : Hid (MkL L (p + n * 3) lo hi w0 wr) := (by rw [← hqn]; exact HM.out : MkL L (p + n * 3) lo hi w0 wr)
      clear hqn HK HM
      go_wp2
      go_ret
      exact ⟨(by show Ending.returned (.int .i64 K) = _; rw [HKn.out]; simp), HMn.out⟩
set_option maxRecDepth 10000 in
set_option maxHeartbeats 4000000 in
theorem held_a (L : List (Nat × Nat)) (p lo hi n : Nat) (v : Value) (w0 w : World) (hll : L.length ≤ 4000000) (hv : ArgsL w0 L p v n) (hp : p + n * 3 ≤ L.length) (hM : MkL L L.length lo hi w0 w) (K : Int) (hK : K = 1 + (p : Int)) :
    Calls Tryd.prog 47 #[v, .int .i64 K] w fun e w' => e = .returned (.int .i64 (1 + ((p + n * 3 : Nat) : Int))) ∧ w' = w := by
  have HM : Hid (MkL L L.length lo hi w0 w) := hM
  obtain ⟨a, cp, rfl, hx⟩ := hv
  have HX : Hid (∀ i, i < n * 3 → ∃ b o u, a = some ⟨b, o, none⟩ ∧ L[p + i]? = some (b, o + i) ∧ w0.cell? ⟨b, o + i, none⟩ = some (.int .i64 u)) := hx
  obtain ⟨lL, HLL⟩ : ∃ l, Hid (l = L.length) := ⟨_, rfl⟩
  rw [← HLL.out] at hp hll
  have hK0 : 0 ≤ K := by omega
  have hK1 : K ≤ 5000000 := by omega
  have HK0 : Hid (K = 1 + (p : Int)) := hK
  clear hM hx hK
  go_enter Tryd.func47, Tryd.ntmps47
  go_wp2
  go_loopg [1, 5] n (fun gg k i wr => ∃ (m : Nat) (K : Int), m + gg = n ∧ i = .int .i64 m ∧ k = .int .i64 K ∧ Hid (K = 1 + ((p + m * 3 : Nat) : Int)) ∧ 0 ≤ K ∧ K ≤ 5000000 ∧ wr = w)
  case atStart => exact ⟨0, K, by omega, rfl, rfl, (by rw [HK0.out]; simp : K = 1 + ((p + 0 * 3 : Nat) : Int)), hK0, hK1, rfl⟩
  case round =>
    clear HK0 hK0 hK1
    obtain ⟨m, K, hm, rfl, rfl, HK, hK0, hK1, rfl⟩ := hrel
    by_cases hlt : m < n
    · have i1 : (m : Int) < (n : Int) := by omega
      have i2 : (0 : Int) ≤ (m : Int) := by omega
      obtain ⟨b, o, u0, rfl, l0, q0⟩ := HX.out (m * 3) (by omega)
      obtain ⟨b', o', u1, e1, l1, q1⟩ := HX.out (m * 3 + 1) (by omega)
      cases e1
      obtain ⟨b', o', u2, e2, l2, q2⟩ := HX.out (m * 3 + 2) (by omega)
      cases e2
      have hll2 := HLL.out
      have c0 : wr.cell? ⟨b, o + m * 3, none⟩ = some (.int .i64 K) := by have := HM.out.at' _ _ (by omega) l0; rw [HK.out]; exact this
      have c1 : wr.cell? ⟨b, o + m * 3 + 1, none⟩ = some (.int .i64 (K + 1)) := by
        have h := HM.out.at' _ _ (by omega) l1
        rw [show K + 1 = 1 + ((p + (m * 3 + 1) : Nat) : Int) by rw [HK.out]; omega]
        exact h
      have c2 : wr.cell? ⟨b, o + m * 3 + 1 + 1, none⟩ = some (.int .i64 (K + 1 + 1)) := by
        have h := HM.out.at' _ _ (by omega) l2
        rw [show K + 1 + 1 = 1 + ((p + (m * 3 + 2) : Nat) : Int) by rw [HK.out]; omega]
        exact h
      have HK2 : Hid (K + 1 + 1 + 1 = 1 + ((p + (m + 1) * 3 : Nat) : Int)) := by show K + 1 + 1 + 1 = 1 + ((p + (m + 1) * 3 : Nat) : Int); rw [HK.out]; omega
      have hK3 : K + 1 + 1 + 1 ≤ 5000000 := by have := HK2.out; omega
      clear l0 l1 l2 q0 q1 q2 hll2
      go_wp2
      go_roundg (gk - 1)
      case measure => omega
      case rel => exact ⟨m + 1, K + 1 + 1 + 1, by omega, by go_num, rfl, HK2, by omega, hK3, rfl⟩
    · have i1 : ¬ ((m : Int) < (n : Int)) := by omega
      have hqn : m = n := by omega
      have HKn : Hid (K = 1 + ((p + n * 3 : Nat) : Int)) := (by rw [← hqn]; exact HK.out : K = 1 + ((p + n * 3 : Nat) : Int))
      clear hqn HK
      go_wp2
      go_ret
      exact ⟨(by show Ending.returned (.int .i64 K) = _; rw [HKn.out]; simp), rfl⟩
end Go.Proofs.YtkppcmpdghnmgaaDoor
/- The addresses of the numbers of a ladder of one's own, in the order in which they are marked. -/
namespace Go.Proofs.YtkppcmpdghnmgaaDoor
open Go.RowKit
set_option linter.unusedVariables false

def Mov (Q : List (Nat × Nat) → Nat → Prop) : Prop := ∀ L L' p p', Q L p → (∀ i q, L[p + i]? = some q → L'[p' + i]? = some q) → Q L' p'
/-- A list of addresses with no doubles, of which Q speaks. -/
def Lst (w0 : World) (P : Nat × Nat → Prop) (n : Nat) (Q : List (Nat × Nat) → Nat → Prop) : Prop := ∃ L : List (Nat × Nat), L.length = n ∧ L.Nodup ∧ (∀ q ∈ L, P q) ∧ LSoft w0 L ∧ Q L 0
theorem Lst.mono {w0 : World} {P P' : Nat × Nat → Prop} {n n' : Nat} {Q Q' : List (Nat × Nat) → Nat → Prop} (h : Lst w0 P n Q) (hP : ∀ q, P q → P' q) (hn : n = n') (hQ : ∀ L p, Q L p → Q' L p) : Lst w0 P' n' Q' := by
  obtain ⟨L, a, b, c, d, e⟩ := h
  exact ⟨L, a.trans hn, b, fun q hq => hP q (c q hq), d, hQ _ _ e⟩
theorem Lst.app {w0 : World} {P1 P2 : Nat × Nat → Prop} {n1 n2 : Nat} {Q1 Q2 : List (Nat × Nat) → Nat → Prop} (h1 : Lst w0 P1 n1 Q1) (h2 : Lst w0 P2 n2 Q2) (m1 : Mov Q1) (m2 : Mov Q2) (hd : ∀ q, P1 q → P2 q → False) : Lst w0 (fun q => P1 q ∨ P2 q) (n1 + n2) (fun L p => Q1 L p ∧ Q2 L (p + n1)) := by
  obtain ⟨L1, a1, b1, c1, d1, e1⟩ := h1
  obtain ⟨L2, a2, b2, c2, d2, e2⟩ := h2
  refine ⟨L1 ++ L2, by simp [a1, a2], List.nodup_append.2 ⟨b1, b2, fun a ha b hb e => by subst e; exact hd a (c1 _ ha) (c2 _ hb)⟩, fun q hq => ?_, fun q hq => ?_, ?_, ?_⟩
  · rcases List.mem_append.1 hq with hq | hq
    · exact .inl (c1 q hq)
    · exact .inr (c2 q hq)
  · rcases List.mem_append.1 hq with hq | hq
    · exact d1 q hq
    · exact d2 q hq
  · exact m1 _ _ _ _ e1 fun i q hq => by rw [List.getElem?_append_left (List.getElem?_eq_some_iff.1 hq).1]; exact hq
  · exact m2 _ _ _ _ e2 fun i q hq => by
      rw [List.getElem?_append_right (by omega), show 0 + n1 + i - L1.length = 0 + i by omega]
      exact hq
theorem Lst.one {w0 : World} {g o : Nat} (hg : ∃ C t, w0.heap[g]? = some (.cells C t (0, 0))) : Lst w0 (fun q => q = (g, o)) 1 (fun L p => L[p]? = some (g, o)) := ⟨[(g, o)], rfl, by simp, fun q hq => by simpa using hq, fun q hq => by simp at hq; subst hq; exact hg, rfl⟩
theorem mov_one (g o : Nat) : Mov (fun L p => L[p]? = some (g, o)) := fun L L' p p' h hs => by
  have := hs 0 _ (by simpa using h)
  simpa using this
theorem mov_args (w0 : World) (s : Value) (n : Nat) : Mov (fun L p => ArgsL w0 L p s n) := fun L L' p p' h hs => h.shift hs
theorem Mov.and {Q1 Q2 : List (Nat × Nat) → Nat → Prop} (m1 : Mov Q1) (m2 : Mov Q2) (n : Nat) : Mov (fun L p => Q1 L p ∧ Q2 L (p + n)) := fun L L' p p' h hs => ⟨m1 _ _ _ _ h.1 hs, m2 _ _ _ _ h.2 fun i q hq => by
  have := hs (n + i) q (by rw [← Nat.add_assoc]; exact hq)
  rwa [← Nat.add_assoc] at this⟩
theorem Mov.with {Q : List (Nat × Nat) → Nat → Prop} (m : Mov Q) (A : Prop) : Mov (fun L p => A ∧ Q L p) := fun L L' p p' h hs => ⟨h.1, m _ _ _ _ h.2 hs⟩
def pt {α : Type} (t : α → Nat) (xs : List α) (j : Nat) : Nat := ((xs.take j).map t).sum
theorem pt_next {α : Type} {t : α → Nat} {xs : List α} {j : Nat} {x : α} (h : xs[j]? = some x) : pt t xs (j + 1) = pt t xs j + t x := sum_take t xs j x h
theorem pt_all {α : Type} (t : α → Nat) (xs : List α) : pt t xs xs.length = (xs.map t).sum := by unfold pt; rw [List.take_length]
theorem pt_le {α : Type} (t : α → Nat) (xs : List α) (j : Nat) : pt t xs j ≤ (xs.map t).sum := sum_take_le t xs j
/-- A row whose elements' numbers lie one behind the other. -/
def RowL {α : Type} (z : Nat) (t : α → Nat) (Q : Nat → Nat → α → List (Nat × Nat) → Nat → Prop) (v : Value) (xs : List α) (L : List (Nat × Nat)) (p : Nat) : Prop := ∃ a cp, v = .slice a xs.length cp ∧ ∀ j x, xs[j]? = some x → ∃ b o, a = some ⟨b, o, none⟩ ∧ Q b (o + j * z) x L (p + pt t xs j)
theorem mov_row {α : Type} (z : Nat) (t : α → Nat) (Q : Nat → Nat → α → List (Nat × Nat) → Nat → Prop) (hQ : ∀ b o x, Mov (Q b o x)) (v : Value) (xs : List α) : Mov (RowL z t Q v xs) := fun L L' p p' h hs => by
  obtain ⟨a, cp, e, hx⟩ := h
  refine ⟨a, cp, e, fun j x hj => ?_⟩
  obtain ⟨b, o, e1, e2⟩ := hx j x hj
  exact ⟨b, o, e1, hQ _ _ _ _ _ _ _ e2 fun i q hq => by
    have := hs (pt t xs j + i) q (by rw [← Nat.add_assoc]; exact hq)
    rwa [← Nat.add_assoc] at this⟩
def InB (g o z : Nat) (f : List Nat) (q : Nat × Nat) : Prop := (q.1 = g ∧ o ≤ q.2 ∧ q.2 < o + z) ∨ q.1 ∈ f
/-- What a row asks of its elements. -/
def Each1 {α : Type} (w0 : World) (R : List Nat → α → List Value → Prop) (z : Nat) (t : α → Nat) (Q : Nat → Nat → α → List (Nat × Nat) → Nat → Prop) : Prop :=
  ∀ (g o : Nat) f x c, (∃ C t, w0.heap[g]? = some (.cells C t (0, 0))) → R f x c → f.Nodup → g ∉ f → (∀ i, i < z → w0.cell? ⟨g, o + i, none⟩ = c[i]?) → Lst w0 (InB g o z f) (t x) (Q g o x)
theorem row_aux {α : Type} {w0 : World} {R : List Nat → α → List Value → Prop} {z : Nat} {t : α → Nat} {Q : Nat → Nat → α → List (Nat × Nat) → Nat → Prop} (hQ : ∀ b o x, Mov (Q b o x)) (hR : Each1 w0 R z t Q) {g : Nat} (hg : ∃ C t, w0.heap[g]? = some (.cells C t (0, 0))) {F : List Nat} {xs : List α} {cs : List Value} (h : Each R z F xs cs) :
    g ∉ F → F.Nodup → (∀ i, i < xs.length * z → w0.cell? ⟨g, i, none⟩ = cs[i]?) → Lst w0 (InB g 0 (xs.length * z) F) (xs.map t).sum (fun L p => ∀ j x, xs[j]? = some x → Q g (j * z) x L (p + pt t xs j)) := by
  induction h with
  | nil => intro _ _ _; exact ⟨[], rfl, List.nodup_nil, fun q hq => by simp at hq, fun q hq => by simp at hq, fun j x hx => by simp at hx⟩
  | @add F xs cs f y c h hc hr ih =>
    intro hgF hnd hcell
    have hn := List.nodup_append.1 hnd
    have hlen := h.len
    have hml : (xs ++ [y]).length * z = xs.length * z + z := by simp [Nat.add_mul]
    have i1 := ih (fun hm => hgF (List.mem_append_left _ hm)) hn.1 (fun i hi => by rw [hcell i (by omega), List.getElem?_append_left (by omega)])
    have i2 := hR g (xs.length * z) f y c hg hr hn.2.1 (fun hm => hgF (List.mem_append_right _ hm)) (fun i hi => by rw [hcell _ (by omega), List.getElem?_append_right (by omega), show xs.length * z + i - cs.length = i by omega])
    refine (Lst.app i1 i2 ?_ (hQ _ _ _) ?_).mono ?_ ?_ ?_
    · intro L L' p p' h1 hs j x hj
      exact hQ _ _ _ _ _ _ _ (h1 j x hj) fun i q hq => by
        have := hs (pt t xs j + i) q (by rw [← Nat.add_assoc]; exact hq)
        rwa [← Nat.add_assoc] at this
    · rintro q (⟨a1, a2, a3⟩ | a1) (⟨b1, b2, b3⟩ | b1)
      · omega
      · rw [a1] at b1; exact hgF (List.mem_append_right _ b1)
      · rw [b1] at a1; exact hgF (List.mem_append_left _ a1)
      · exact hn.2.2 _ a1 _ b1 rfl
    · rintro q ((⟨a1, a2, a3⟩ | a1) | (⟨b1, b2, b3⟩ | b1))
      · exact .inl ⟨a1, a2, by omega⟩
      · exact .inr (List.mem_append_left _ a1)
      · exact .inl ⟨b1, by omega, by omega⟩
      · exact .inr (List.mem_append_right _ b1)
    · simp
    · rintro L p ⟨q1, q2⟩ j x hj
      rcases Nat.lt_or_ge j xs.length with hlt | hge
      · rw [List.getElem?_append_left hlt] at hj
        have := q1 j x hj
        unfold pt at this ⊢
        rw [List.take_append_of_le_length (by omega)]
        exact this
      · rw [List.getElem?_append_right hge] at hj
        have hj0 : j = xs.length := by
          have := (List.getElem?_eq_some_iff.1 hj).1
          simp at this
          omega
        subst hj0
        simp at hj
        subst hj
        unfold pt
        rw [List.take_append_of_le_length (Nat.le_refl _), List.take_length]
        exact q2
theorem row_addr {α : Type} {w0 : World} {R : List Nat → α → List Value → Prop} {base e z : Nat} {t : α → Nat} {Q : Nat → Nat → α → List (Nat × Nat) → Nat → Prop} (hQ : ∀ b o x, Mov (Q b o x)) (hR : Each1 w0 R z t Q) {F : List Nat} {v : Value} {xs : List α} (h : RowOwn w0 base e z R F v xs) (hnd : F.Nodup) : Lst w0 (fun q => q.1 ∈ F) (xs.map t).sum (RowL z t Q v xs) := by
  obtain ⟨cs, F', h1, h2, rfl⟩ := h
  have hn := List.nodup_append.1 hnd
  rcases id h2.2 with ⟨rfl, hl⟩ | ⟨g, cap, cur, rfl, _⟩
  · have hx : xs = [] := List.length_eq_zero_iff.1 hl
    subst hx
    exact ⟨[], rfl, List.nodup_nil, fun q hq => by simp at hq, fun q hq => by simp at hq, none, 0, rfl, fun j x hx => by simp at hx⟩
  · have hgF : g ∉ F' := fun hm => hn.2.2 g (by simp [Value.ownBlock]) g hm rfl
    refine (row_aux hQ hR (own_soft h2 rfl) h1 hgF hn.2.1 (fun i hi => h2.cellAt i hi)).mono ?_ rfl ?_
    · rintro q (⟨a1, _⟩ | a1)
      · rw [a1]; simp [Value.ownBlock]
      · exact List.mem_append_right _ a1
    · intro L p hq
      exact ⟨some ⟨g, 0, none⟩, cap, rfl, fun j x hj => ⟨g, 0, rfl, by rw [Nat.zero_add]; exact hq j x hj⟩⟩
/-- An element's numbers. -/
def tE (e : ElemT) : Nat := 1 + e.args.length * 3
def ElemQ (w0 : World) (b o : Nat) (e : ElemT) (L : List (Nat × Nat)) (p : Nat) : Prop := ∃ s, (w0.cell? ⟨b, o, none⟩ = some (.int .i64 e.op) ∧ w0.cell? ⟨b, o + 1, none⟩ = some s) ∧ (L[p]? = some (b, o) ∧ ArgsL w0 L (p + 1) s e.args.length)
theorem mov_ex {β : Type} {Q : β → List (Nat × Nat) → Nat → Prop} (h : ∀ s, Mov (Q s)) : Mov (fun L p => ∃ s, Q s L p) := fun L L' p p' ⟨s, hq⟩ hs => ⟨s, h s _ _ _ _ hq hs⟩
theorem mov_elem (w0 : World) (b o : Nat) (e : ElemT) : Mov (ElemQ w0 b o e) := mov_ex fun s => ((mov_one b o).and (mov_args w0 s e.args.length) 1).with _
theorem args_lst {w0 : World} {base : Nat} {f : List Nat} {v : Value} {xs : List ArgT} (h : ArgsOwn w0 base f v xs) : Lst w0 (fun q => q.1 ∈ f) (xs.length * 3) (fun L p => ArgsL w0 L p v xs.length) := by
  obtain ⟨La, a1, a2, a3, a4, a5⟩ := args_addr h
  exact ⟨La, a1, a3, a4, a5, a2⟩
theorem elem_each (w0 : World) (base : Nat) : Each1 w0 (ElemOwn w0 base) 2 tE (ElemQ w0) := by
  intro g o f x c hg hr hnd hgf hcell
  obtain ⟨v, rfl, hv⟩ := hr
  have c0 := hcell 0 (by omega)
  have c1 := hcell 1 (by omega)
  refine (Lst.app (Lst.one (o := o) hg) (args_lst hv) (mov_one g o) (mov_args w0 v _) ?_).mono ?_ rfl ?_
  · rintro q rfl h2; exact hgf h2
  · rintro q (rfl | h2)
    · exact .inl ⟨rfl, by simp, by simp⟩
    · exact .inr h2
  · intro L p hq
    exact ⟨v, ⟨c0, c1⟩, hq⟩
/-- A net's numbers. -/
def tN : Nat → NetT → Nat
  | 0, _ => 0
  | n + 1, .mk _ e kids => 1 + (1 + (e.args.length * 3 + (kids.map (tN n)).sum))
def NetQ (w0 : World) : Nat → Nat → Nat → NetT → List (Nat × Nat) → Nat → Prop
  | 0, _, _, _, _, _ => False
  | n + 1, b, o, .mk k e kids, L, p => ∃ s s', (w0.cell? ⟨b, o, none⟩ = some (.int .i64 k) ∧ w0.cell? ⟨b, o + 1, none⟩ = some (.int .i64 e.op) ∧ w0.cell? ⟨b, o + 2, none⟩ = some s ∧ w0.cell? ⟨b, o + 3, none⟩ = some s') ∧ (L[p]? = some (b, o) ∧ (L[p + 1]? = some (b, o + 1) ∧ (ArgsL w0 L (p + 1 + 1) s e.args.length ∧ RowL 4 (tN n) (NetQ w0 n) s' kids L (p + 1 + 1 + e.args.length * 3))))
theorem mov_net (w0 : World) : ∀ n b o t, Mov (NetQ w0 n b o t)
  | 0, _, _, _ => fun _ _ _ _ h _ => h.elim
  | n + 1, b, o, .mk k e kids => by
    have m := mov_row 4 (tN n) (NetQ w0 n) (fun b o x => mov_net w0 n b o x)
    intro L L' p p' h hs
    obtain ⟨s, s', hc, hq⟩ := h
    exact ⟨s, s', hc, (mov_one b o).and ((mov_one b (o + 1)).and ((mov_args w0 s e.args.length).and (m s' kids) _) 1) 1 L L' p p' hq hs⟩
theorem net_each (w0 : World) (base : Nat) : ∀ n, Each1 w0 (NetOwn w0 base n) 4 (tN n) (NetQ w0 n)
  | 0 => fun _ _ _ _ _ _ h => h.elim
  | n + 1 => by
    intro g o f x c hg hr hnd hgf hcell
    obtain ⟨k, e, kids⟩ := x
    obtain ⟨v, v', F1, F2, rfl, rfl, ha, hk⟩ := hr
    have hn := List.nodup_append.1 hnd
    have c0 := hcell 0 (by omega)
    have c1 := hcell 1 (by omega)
    have c2 := hcell 2 (by omega)
    have c3 := hcell 3 (by omega)
    have ik := row_addr (fun b o x => mov_net w0 n b o x) (net_each w0 base n) hk hn.2.1
    have m := mov_row 4 (tN n) (NetQ w0 n) (fun b o x => mov_net w0 n b o x) v' kids
    have q1 := Lst.app (args_lst ha) ik (mov_args w0 v _) m (fun q h1 h2 => hn.2.2 _ h1 _ h2 rfl)
    have q2 := Lst.app (Lst.one (o := o + 1) hg) q1 (mov_one g (o + 1)) ((mov_args w0 v _).and m _) (by
      rintro q rfl (h2 | h2)
      · exact hgf (List.mem_append_left _ h2)
      · exact hgf (List.mem_append_right _ h2))
    refine (Lst.app (Lst.one (o := o) hg) q2 (mov_one g o) ((mov_one g (o + 1)).and ((mov_args w0 v _).and m _) 1) ?_).mono ?_ rfl ?_
    · rintro q rfl (h2 | h2 | h2)
      · simp at h2
      · exact hgf (List.mem_append_left _ h2)
      · exact hgf (List.mem_append_right _ h2)
    · rintro q (rfl | rfl | h2 | h2)
      · exact .inl ⟨rfl, by simp, by simp⟩
      · exact .inl ⟨rfl, by simp, by simp⟩
      · exact .inr (List.mem_append_left _ h2)
      · exact .inr (List.mem_append_right _ h2)
    · intro L p hq
      exact ⟨v, v', ⟨c0, c1, c2, c3⟩, hq⟩
/-- An arm's numbers. -/
def tA : Nat → ArmT → Nat
  | 0, _ => 0
  | n + 1, .mk net coils kids => tN n net + ((coils.map tE).sum + (kids.map (tA n)).sum)
def ArmQ (w0 : World) : Nat → Nat → Nat → ArmT → List (Nat × Nat) → Nat → Prop
  | 0, _, _, _, _, _ => False
  | n + 1, b, o, .mk net coils kids, L, p => ∃ s s', (w0.cell? ⟨b, o + 4, none⟩ = some s ∧ w0.cell? ⟨b, o + 5, none⟩ = some s') ∧ (NetQ w0 n b o net L p ∧ (RowL 2 tE (ElemQ w0) s coils L (p + tN n net) ∧ RowL 6 (tA n) (ArmQ w0 n) s' kids L (p + tN n net + (coils.map tE).sum)))
theorem mov_arm (w0 : World) : ∀ n b o t, Mov (ArmQ w0 n b o t)
  | 0, _, _, _ => fun _ _ _ _ h _ => h.elim
  | n + 1, b, o, .mk net coils kids => by
    have m := mov_row 6 (tA n) (ArmQ w0 n) (fun b o x => mov_arm w0 n b o x)
    intro L L' p p' h hs
    obtain ⟨s, s', hc, hq⟩ := h
    exact ⟨s, s', hc, (mov_net w0 n b o net).and ((mov_row 2 tE (ElemQ w0) (mov_elem w0) s coils).and (m s' kids) _) _ L L' p p' hq hs⟩
theorem net_len {w0 : World} {base : Nat} : ∀ {n : Nat} {F : List Nat} {t : NetT} {c : List Value}, NetOwn w0 base n F t c → c.length = 4
  | 0, _, _, _, h => h.elim
  | n + 1, F, .mk k e kids, c, h => by
    obtain ⟨v, v', F1, F2, rfl, _⟩ := h
    rfl
theorem tE_w (e : ElemT) : tE e ≤ 1 + 3 * wE e := by unfold tE wE; omega
theorem tN_w : ∀ n t, tN n t ≤ 2 + 3 * wN n t
  | 0, t => by show 0 ≤ _; omega
  | n + 1, .mk k e kids => by
    have : (kids.map (tN n)).sum ≤ 3 * (kids.length + (kids.map (wN n)).sum) := by
      induction kids with
      | nil => simp
      | cons y ys ih =>
        have := tN_w n y
        simp only [List.map_cons, List.sum_cons, List.length_cons]
        omega
    show 1 + (1 + (e.args.length * 3 + (kids.map (tN n)).sum)) ≤ 2 + 3 * (e.args.length + (kids.length + (kids.map (wN n)).sum))
    omega
theorem tA_w : ∀ n t, tA n t ≤ 2 + 3 * wA n t
  | 0, t => by show 0 ≤ _; omega
  | n + 1, .mk net coils kids => by
    have h1 : (kids.map (tA n)).sum ≤ 3 * (kids.length + (kids.map (wA n)).sum) := by
      induction kids with
      | nil => simp
      | cons y ys ih =>
        have := tA_w n y
        simp only [List.map_cons, List.sum_cons, List.length_cons]
        omega
    have h2 : (coils.map tE).sum ≤ 3 * (coils.length + (coils.map wE).sum) := by
      induction coils with
      | nil => simp
      | cons y ys ih =>
        have := tE_w y
        simp only [List.map_cons, List.sum_cons, List.length_cons]
        omega
    have h3 := tN_w n net
    show tN n net + ((coils.map tE).sum + (kids.map (tA n)).sum) ≤ 2 + 3 * (wN n net + (coils.length + (coils.map wE).sum) + (kids.length + (kids.map (wA n)).sum))
    omega
end Go.Proofs.YtkppcmpdghnmgaaDoor
/- Elements marked, and the marks looked for. -/
namespace Go.Proofs.YtkppcmpdghnmgaaDoor
open Go.RowKit
set_option linter.unusedVariables false

theorem sum_ge {α : Type} {t : α → Nat} : ∀ {xs : List α}, (∀ x ∈ xs, 1 ≤ t x) → xs.length ≤ (xs.map t).sum
  | [], _ => Nat.le_refl _
  | x :: xs, h => by
    have h1 := h x (by simp)
    have h2 := sum_ge (xs := xs) fun y hy => h y (by simp [hy])
    simp only [List.length_cons, List.map_cons, List.sum_cons]
    omega
theorem row_ge {α : Type} {z : Nat} {t : α → Nat} {Q : Nat → Nat → α → List (Nat × Nat) → Nat → Prop} {v : Value} {xs : List α} {L : List (Nat × Nat)} {p : Nat} (h : RowL z t Q v xs L p) (hQ : ∀ b o x L p, Q b o x L p → 1 ≤ t x) : xs.length ≤ (xs.map t).sum := by
  obtain ⟨a, cp, _, hx⟩ := h
  refine sum_ge fun x hm => ?_
  obtain ⟨j, hj⟩ := List.mem_iff_getElem?.1 hm
  obtain ⟨b, o, _, hq⟩ := hx j x hj
  exact hQ _ _ _ _ _ hq
theorem elem_1 (w0 : World) : ∀ b o x L p, ElemQ w0 b o x L p → 1 ≤ tE x := fun b o x L p _ => by unfold tE; omega
theorem net_1 (w0 : World) : ∀ n b o x L p, NetQ w0 n b o x L p → 1 ≤ tN n x
  | 0, _, _, _, _, _, h => h.elim
  | n + 1, b, o, .mk k e kids, L, p, _ => by show 1 ≤ 1 + _; omega
theorem arm_1 (w0 : World) : ∀ n b o x L p, ArmQ w0 n b o x L p → 1 ≤ tA n x
  | 0, _, _, _, _, _, h => h.elim
  | n + 1, b, o, .mk net coils kids, L, p, h => by
    obtain ⟨s, s', _, h1, _⟩ := h
    have := net_1 w0 n _ _ _ _ _ h1
    show 1 ≤ tN n net + _
    omega
end Go.Proofs.YtkppcmpdghnmgaaDoor
/- Nets marked, and the marks looked for. -/
namespace Go.Proofs.YtkppcmpdghnmgaaDoor
open Go.RowKit
set_option linter.unusedVariables false

set_option maxRecDepth 10000 in
set_option maxHeartbeats 4000000 in
theorem mark_n1 (L : List (Nat × Nat)) (lo hi : Nat) (w0 : World) (ok : LOk L lo hi w0) (n : Nat) (ih : ∀ r, n = r + 1 → ∀ (p : Nat) (v : Value) (xs : List NetT) (w : World) (K : Int), RowL 4 (tN r) (NetQ w0 r) v xs L p → p + (xs.map (tN r)).sum ≤ L.length → MkL L p lo hi w0 w → K = 1 + (p : Int) → Calls Tryd.prog 28 #[v, .int .i64 K] w fun e w' => e = .returned (.int .i64 (1 + ((p + (xs.map (tN r)).sum : Nat) : Int))) ∧ MkL L (p + (xs.map (tN r)).sum) lo hi w0 w') : ∀ (p : Nat) (v : Value) (xs : List NetT) (w : World) (K : Int), RowL 4 (tN n) (NetQ w0 n) v xs L p → p + (xs.map (tN n)).sum ≤ L.length → MkL L p lo hi w0 w → K = 1 + (p : Int) → Calls Tryd.prog 28 #[v, .int .i64 K] w fun e w' => e = .returned (.int .i64 (1 + ((p + (xs.map (tN n)).sum : Nat) : Int))) ∧ MkL L (p + (xs.map (tN n)).sum) lo hi w0 w' := by
  intro p v xs w K hv hp hM hK
  have hpl := ok.len
  have HOk : Hid (LOk L lo hi w0) := ok
  have HIH0 : Hid (∀ r, n = r + 1 → ∀ (p : Nat) (v : Value) (xs : List NetT) (w : World) (K : Int), RowL 4 (tN r) (NetQ w0 r) v xs L p → p + (xs.map (tN r)).sum ≤ L.length → MkL L p lo hi w0 w → K = 1 + (p : Int) → Calls Tryd.prog 28 #[v, .int .i64 K] w fun e w' => e = .returned (.int .i64 (1 + ((p + (xs.map (tN r)).sum : Nat) : Int))) ∧ MkL L (p + (xs.map (tN r)).sum) lo hi w0 w') := ih
  clear ih
  have HM0 : Hid (MkL L p lo hi w0 w) := hM
  have hlen := row_ge hv (net_1 w0 n)
  obtain ⟨a, cp, rfl, hx⟩ := hv
  have HX : Hid (∀ j x, xs[j]? = some x → ∃ b o, a = some ⟨b, o, none⟩ ∧ (NetQ w0 n) b (o + j * 4) x L (p + pt (tN n) xs j)) := hx
  have HLe : Hid (∀ j, pt (tN n) xs j ≤ (xs.map (tN n)).sum) := fun j => pt_le _ xs j
  have HAll : Hid (pt (tN n) xs xs.length = (xs.map (tN n)).sum ∧ p + (xs.map (tN n)).sum ≤ L.length ∧ L.length ≤ 4000000) := ⟨pt_all _ xs, hp, hpl⟩
  obtain ⟨len, HL⟩ : ∃ len, Hid (len = xs.length) := ⟨_, rfl⟩
  rw [← HL.out] at hlen ⊢
  have hlen4 : len ≤ 4000000 := by omega
  have hK0 : 0 ≤ K := by omega
  have hK1 : K ≤ 5000000 := by omega
  have HK0 : Hid (K = 1 + (p : Int)) := hK
  clear ok hM hx hK hp hpl hlen
  go_enter Tryd.func28, Tryd.ntmps28
  go_wp2
  go_loopg [1, 5] len (fun gg k i wr => ∃ (m : Nat) (K : Int), m + gg = len ∧ i = .int .i64 m ∧ k = .int .i64 K ∧ Hid (K = 1 + ((p + pt (tN n) xs m : Nat) : Int)) ∧ 0 ≤ K ∧ K ≤ 5000000 ∧ Hid (MkL L (p + pt (tN n) xs m) lo hi w0 wr))
  case atStart => exact ⟨0, K, by omega, rfl, rfl, (by rw [HK0.out]; simp [pt] : K = 1 + ((p + pt (tN n) xs 0 : Nat) : Int)), hK0, hK1, (by simpa [pt] using HM0.out : MkL L (p + pt (tN n) xs 0) lo hi w0 w)⟩
  case round =>
    clear HM0 HK0 hK0 hK1
    obtain ⟨m, K, hm, rfl, rfl, HK, hK0, hK1, HM⟩ := hrel
    by_cases hlt : m < len
    · have i1 : (m : Int) < (len : Int) := by omega
      have i2 : (0 : Int) ≤ (m : Int) := by omega
      obtain ⟨x, hxn⟩ : ∃ x, xs[m]? = some x := ⟨_, List.getElem?_eq_getElem (by have := HL.out; omega)⟩
      obtain ⟨b, o, rfl, hq⟩ := HX.out m x hxn
      have hnx := pt_next (t := tN n) hxn
      have hle := HLe.out (m + 1)
      have hal := HAll.out
      obtain ⟨pp, HPP⟩ : ∃ q, Hid (q = p + pt (tN n) xs m) := ⟨_, rfl⟩
      have hpp := HPP.out
      rw [← hpp] at hq HK HM
      clear HX
      obtain ⟨n', hn⟩ : ∃ n', n = n' + 1 := by cases n with | zero => exact hq.elim | succ n' => exact ⟨n', rfl⟩
      have HIH : Hid (∀ (p : Nat) (v : Value) (xs : List NetT) (w : World) (K : Int), RowL 4 (tN n') (NetQ w0 n') v xs L p → p + (xs.map (tN n')).sum ≤ L.length → MkL L p lo hi w0 w → K = 1 + (p : Int) → Calls Tryd.prog 28 #[v, .int .i64 K] w fun e w' => e = .returned (.int .i64 (1 + ((p + (xs.map (tN n')).sum : Nat) : Int))) ∧ MkL L (p + (xs.map (tN n')).sum) lo hi w0 w') := HIH0.out n' hn
      obtain ⟨k0, e0, kids⟩ := x
      have ht : tN n (.mk k0 e0 kids) = 1 + (1 + (e0.args.length * 3 + (kids.map (tN n')).sum)) := by rw [hn]; rfl
      rw [ht] at hnx
      have hq2 : NetQ w0 (n' + 1) b (o + m * 4) (.mk k0 e0 kids) L pp := by rw [← hn]; exact hq
      clear hq ht hn HIH0
      obtain ⟨s, s', ⟨q0, q1, q2, q3⟩, l0, l1, hA, hR⟩ := hq2
      obtain ⟨ua, uc, e, _⟩ := id hA
      obtain ⟨va, vc, e', _⟩ := id hR
      subst e
      subst e'
      obtain ⟨n1, Hn1⟩ : ∃ l, Hid (l = e0.args.length) := ⟨_, rfl⟩
      obtain ⟨n2, Hn2⟩ : ∃ l, Hid (l = kids.length) := ⟨_, rfl⟩
      obtain ⟨s2, Hs2⟩ : ∃ l, Hid (l = (kids.map (tN n')).sum) := ⟨_, rfl⟩
      rw [← Hn1.out] at hnx q2 hA hR
      rw [← Hn2.out] at q3 hR
      rw [← Hs2.out] at hnx
      have HR : Hid (RowL 4 (tN n') (NetQ w0 n') (.slice va n2 vc) kids L (pp + 1 + 1 + n1 * 3)) := hR
      have HQ3 : Hid (w0.cell? ⟨b, o + m * 4 + 3, none⟩ = some (.slice va n2 vc)) := q3
      clear hR q3
      have HB : Hid (pp + 1 + 1 + n1 * 3 + s2 = p + pt (tN n) xs (m + 1) ∧ pp + 1 + 1 + n1 * 3 + s2 ≤ L.length ∧ L.length ≤ 4000000) := ⟨by omega, by omega, hal.2.2⟩
      clear hnx hle hal hpp HPP
      have hB := HB.out
      obtain ⟨⟨x0, c0⟩, f0, P0⟩ := HM.out.put HOk.out l0 q0 (K) (by have := HK.out; omega)
      obtain ⟨⟨x1, c1⟩, f1, P1⟩ := P0.put HOk.out l1 q1 (K + 1) (by have := HK.out; omega)
      have d0 := P1.wm.cell b (o + m * 4 + 1 + 1) _ q2 (by simp)
      have HCl0 : Hid (Calls Tryd.prog 26 #[.slice ua n1 uc, .int .i64 (K + 1 + 1)] ((wr.setCell ⟨b, o + m * 4, none⟩ (.int .i64 (K))).setCell ⟨b, o + m * 4 + 1, none⟩ (.int .i64 (K + 1))) fun e w' => e = .returned (.int .i64 (1 + ((pp + 1 + 1 + n1 * 3 : Nat) : Int))) ∧ MkL L (pp + 1 + 1 + n1 * 3) lo hi w0 w') := mark_a L (pp + 1 + 1) lo hi n1 _ w0 _ HOk.out hA (by omega) P1 (K + 1 + 1) (by have := HK.out; omega)
      obtain ⟨K2, HK2⟩ : ∃ q, Hid (q = 1 + ((pp + 1 + 1 + n1 * 3 : Nat) : Int)) := ⟨_, rfl⟩
      rw [← HK2.out] at HCl0
      have hK20 : 0 ≤ K2 := by have := HK2.out; omega
      have hK21 : K2 ≤ 5000000 := by have := HK2.out; omega
      have nn0 : ¬ (K2 < 0) := by omega
      clear hB l0 l1 q0 q1 q2 hA P0 P1 HM
      go_wp2_with fail
      refine HCl0.out.mono ?_
      rintro e w5 ⟨rfl, g5⟩
      have HG0 : Hid (MkL L (pp + 1 + 1 + n1 * 3) lo hi w0 w5) := g5
      clear g5 HCl0 d0 c0 c1 f0 f1
      have hB := HB.out
      have d1 := HG0.out.wm.cell b (o + m * 4 + 3) _ HQ3.out (by simp)
      have HCl1 : Hid (Calls Tryd.prog 28 #[.slice va n2 vc, .int .i64 (K2)] w5 fun e w' => e = .returned (.int .i64 (1 + ((pp + 1 + 1 + n1 * 3 + s2 : Nat) : Int))) ∧ MkL L (pp + 1 + 1 + n1 * 3 + s2) lo hi w0 w') := (by have h := HIH.out (pp + 1 + 1 + n1 * 3) _ kids w5 (K2) HR.out (by rw [← Hs2.out]; omega) HG0.out (by have := HK2.out; omega); rw [← Hs2.out] at h; exact h)
      obtain ⟨K3, HK3⟩ : ∃ q, Hid (q = 1 + ((pp + 1 + 1 + n1 * 3 + s2 : Nat) : Int)) := ⟨_, rfl⟩
      rw [← HK3.out] at HCl1
      have hK30 : 0 ≤ K3 := by have := HK3.out; omega
      have hK31 : K3 ≤ 5000000 := by have := HK3.out; omega
      have nn1 : ¬ (K3 < 0) := by omega
      have HKE : Hid (K3 = 1 + ((p + pt (tN n) xs (m + 1) : Nat) : Int)) := (by have := HK3.out; omega : K3 = 1 + ((p + pt (tN n) xs (m + 1) : Nat) : Int))
      rw [hB.1] at HCl1
      clear hB
      go_wp2_with fail
      refine HCl1.out.mono ?_
      rintro e w6 ⟨rfl, g6⟩
      have HP5 : Hid (MkL L (p + pt (tN n) xs (m + 1)) lo hi w0 w6) := g6
      clear g6 HCl1 d1 
      go_wp2
      go_roundg (gk - 1)
      case measure => omega
      case rel => exact ⟨m + 1, K3, by omega, by go_num, rfl, HKE, hK30, hK31, HP5⟩
    · have i1 : ¬ ((m : Int) < (len : Int)) := by omega
      have hqn : m = xs.length := by have := HL.out; omega
      have HKn : Hid (K = 1 + ((p + (xs.map (tN n)).sum : Nat) : Int)) := (by rw [← HAll.out.1, ← hqn]; exact HK.out : K = 1 + ((p + (xs.map (tN n)).sum : Nat) : Int))
      have HMn : Hid (MkL L (p + (xs.map (tN n)).sum) lo hi w0 wr) := (by rw [← HAll.out.1, ← hqn]; exact HM.out : MkL L (p + (xs.map (tN n)).sum) lo hi w0 wr)
      clear hqn HK HM
      go_wp2
      go_ret
      exact ⟨(by show Ending.returned (.int .i64 K) = _; rw [HKn.out]; simp), HMn.out⟩
theorem mark_n (L : List (Nat × Nat)) (lo hi : Nat) (w0 : World) (ok : LOk L lo hi w0) : ∀ n, ∀ (p : Nat) (v : Value) (xs : List NetT) (w : World) (K : Int), RowL 4 (tN n) (NetQ w0 n) v xs L p → p + (xs.map (tN n)).sum ≤ L.length → MkL L p lo hi w0 w → K = 1 + (p : Int) → Calls Tryd.prog 28 #[v, .int .i64 K] w fun e w' => e = .returned (.int .i64 (1 + ((p + (xs.map (tN n)).sum : Nat) : Int))) ∧ MkL L (p + (xs.map (tN n)).sum) lo hi w0 w'
  | 0 => mark_n1 L lo hi w0 ok 0 fun r h => by omega
  | n + 1 => mark_n1 L lo hi w0 ok (n + 1) fun r h => by cases h; exact mark_n L lo hi w0 ok n
set_option maxRecDepth 10000 in
set_option maxHeartbeats 4000000 in
theorem held_n1 (L : List (Nat × Nat)) (lo hi : Nat) (w0 : World) (ok : LOk L lo hi w0) (n : Nat) (ih : ∀ r, n = r + 1 → ∀ (p : Nat) (v : Value) (xs : List NetT) (w : World) (K : Int), RowL 4 (tN r) (NetQ w0 r) v xs L p → p + (xs.map (tN r)).sum ≤ L.length → MkL L L.length lo hi w0 w → K = 1 + (p : Int) → Calls Tryd.prog 30 #[v, .int .i64 K] w fun e w' => e = .returned (.int .i64 (1 + ((p + (xs.map (tN r)).sum : Nat) : Int))) ∧ w' = w) : ∀ (p : Nat) (v : Value) (xs : List NetT) (w : World) (K : Int), RowL 4 (tN n) (NetQ w0 n) v xs L p → p + (xs.map (tN n)).sum ≤ L.length → MkL L L.length lo hi w0 w → K = 1 + (p : Int) → Calls Tryd.prog 30 #[v, .int .i64 K] w fun e w' => e = .returned (.int .i64 (1 + ((p + (xs.map (tN n)).sum : Nat) : Int))) ∧ w' = w := by
  intro p v xs w K hv hp hM hK
  have hpl := ok.len
  have HOk : Hid (LOk L lo hi w0) := ok
  have HIH0 : Hid (∀ r, n = r + 1 → ∀ (p : Nat) (v : Value) (xs : List NetT) (w : World) (K : Int), RowL 4 (tN r) (NetQ w0 r) v xs L p → p + (xs.map (tN r)).sum ≤ L.length → MkL L L.length lo hi w0 w → K = 1 + (p : Int) → Calls Tryd.prog 30 #[v, .int .i64 K] w fun e w' => e = .returned (.int .i64 (1 + ((p + (xs.map (tN r)).sum : Nat) : Int))) ∧ w' = w) := ih
  clear ih
  have HM0 : Hid (MkL L L.length lo hi w0 w) := hM
  have hlen := row_ge hv (net_1 w0 n)
  obtain ⟨a, cp, rfl, hx⟩ := hv
  have HX : Hid (∀ j x, xs[j]? = some x → ∃ b o, a = some ⟨b, o, none⟩ ∧ (NetQ w0 n) b (o + j * 4) x L (p + pt (tN n) xs j)) := hx
  have HLe : Hid (∀ j, pt (tN n) xs j ≤ (xs.map (tN n)).sum) := fun j => pt_le _ xs j
  have HAll : Hid (pt (tN n) xs xs.length = (xs.map (tN n)).sum ∧ p + (xs.map (tN n)).sum ≤ L.length ∧ L.length ≤ 4000000) := ⟨pt_all _ xs, hp, hpl⟩
  obtain ⟨len, HL⟩ : ∃ len, Hid (len = xs.length) := ⟨_, rfl⟩
  rw [← HL.out] at hlen ⊢
  have hlen4 : len ≤ 4000000 := by omega
  have hK0 : 0 ≤ K := by omega
  have hK1 : K ≤ 5000000 := by omega
  have HK0 : Hid (K = 1 + (p : Int)) := hK
  clear ok hM hx hK hp hpl hlen
  go_enter Tryd.func30, Tryd.ntmps30
  go_wp2
  go_loopg [1, 5] len (fun gg k i wr => ∃ (m : Nat) (K : Int), m + gg = len ∧ i = .int .i64 m ∧ k = .int .i64 K ∧ Hid (K = 1 + ((p + pt (tN n) xs m : Nat) : Int)) ∧ 0 ≤ K ∧ K ≤ 5000000 ∧ wr = w)
  case atStart => exact ⟨0, K, by omega, rfl, rfl, (by rw [HK0.out]; simp [pt] : K = 1 + ((p + pt (tN n) xs 0 : Nat) : Int)), hK0, hK1, rfl⟩
  case round =>
    clear HK0 hK0 hK1
    obtain ⟨m, K, hm, rfl, rfl, HK, hK0, hK1, rfl⟩ := hrel
    by_cases hlt : m < len
    · have i1 : (m : Int) < (len : Int) := by omega
      have i2 : (0 : Int) ≤ (m : Int) := by omega
      obtain ⟨x, hxn⟩ : ∃ x, xs[m]? = some x := ⟨_, List.getElem?_eq_getElem (by have := HL.out; omega)⟩
      obtain ⟨b, o, rfl, hq⟩ := HX.out m x hxn
      have hnx := pt_next (t := tN n) hxn
      have hle := HLe.out (m + 1)
      have hal := HAll.out
      obtain ⟨pp, HPP⟩ : ∃ q, Hid (q = p + pt (tN n) xs m) := ⟨_, rfl⟩
      have hpp := HPP.out
      rw [← hpp] at hq HK
      clear HX
      obtain ⟨n', hn⟩ : ∃ n', n = n' + 1 := by cases n with | zero => exact hq.elim | succ n' => exact ⟨n', rfl⟩
      have HIH : Hid (∀ (p : Nat) (v : Value) (xs : List NetT) (w : World) (K : Int), RowL 4 (tN n') (NetQ w0 n') v xs L p → p + (xs.map (tN n')).sum ≤ L.length → MkL L L.length lo hi w0 w → K = 1 + (p : Int) → Calls Tryd.prog 30 #[v, .int .i64 K] w fun e w' => e = .returned (.int .i64 (1 + ((p + (xs.map (tN n')).sum : Nat) : Int))) ∧ w' = w) := HIH0.out n' hn
      obtain ⟨k0, e0, kids⟩ := x
      have ht : tN n (.mk k0 e0 kids) = 1 + (1 + (e0.args.length * 3 + (kids.map (tN n')).sum)) := by rw [hn]; rfl
      rw [ht] at hnx
      have hq2 : NetQ w0 (n' + 1) b (o + m * 4) (.mk k0 e0 kids) L pp := by rw [← hn]; exact hq
      clear hq ht hn HIH0
      obtain ⟨s, s', ⟨q0, q1, q2, q3⟩, l0, l1, hA, hR⟩ := hq2
      obtain ⟨ua, uc, e, _⟩ := id hA
      obtain ⟨va, vc, e', _⟩ := id hR
      subst e
      subst e'
      obtain ⟨n1, Hn1⟩ : ∃ l, Hid (l = e0.args.length) := ⟨_, rfl⟩
      obtain ⟨n2, Hn2⟩ : ∃ l, Hid (l = kids.length) := ⟨_, rfl⟩
      obtain ⟨s2, Hs2⟩ : ∃ l, Hid (l = (kids.map (tN n')).sum) := ⟨_, rfl⟩
      rw [← Hn1.out] at hnx q2 hA hR
      rw [← Hn2.out] at q3 hR
      rw [← Hs2.out] at hnx
      have HR : Hid (RowL 4 (tN n') (NetQ w0 n') (.slice va n2 vc) kids L (pp + 1 + 1 + n1 * 3)) := hR
      have HQ3 : Hid (w0.cell? ⟨b, o + m * 4 + 3, none⟩ = some (.slice va n2 vc)) := q3
      clear hR q3
      have HB : Hid (pp + 1 + 1 + n1 * 3 + s2 = p + pt (tN n) xs (m + 1) ∧ pp + 1 + 1 + n1 * 3 + s2 ≤ L.length ∧ L.length ≤ 4000000) := ⟨by omega, by omega, hal.2.2⟩
      clear hnx hle hal hpp HPP
      have hB := HB.out
      have c0 : wr.cell? ⟨b, o + m * 4, none⟩ = some (.int .i64 (K)) := by
        have h := HM0.out.at' _ _ (by omega) l0
        rw [show K = 1 + ((pp : Nat) : Int) by have := HK.out; omega]
        exact h
      have c1 : wr.cell? ⟨b, o + m * 4 + 1, none⟩ = some (.int .i64 (K + 1)) := by
        have h := HM0.out.at' _ _ (by omega) l1
        rw [show K + 1 = 1 + ((pp + 1 : Nat) : Int) by have := HK.out; omega]
        exact h
      have d0 := HM0.out.wm.cell b (o + m * 4 + 1 + 1) _ q2 (by simp)
      have HCl0 : Hid (Calls Tryd.prog 47 #[.slice ua n1 uc, .int .i64 (K + 1 + 1)] wr fun e w' => e = .returned (.int .i64 (1 + ((pp + 1 + 1 + n1 * 3 : Nat) : Int))) ∧ w' = wr) := held_a L (pp + 1 + 1) lo hi n1 _ w0 _ (by omega) hA (by omega) HM0.out (K + 1 + 1) (by have := HK.out; omega)
      obtain ⟨K2, HK2⟩ : ∃ q, Hid (q = 1 + ((pp + 1 + 1 + n1 * 3 : Nat) : Int)) := ⟨_, rfl⟩
      rw [← HK2.out] at HCl0
      have hK20 : 0 ≤ K2 := by have := HK2.out; omega
      have hK21 : K2 ≤ 5000000 := by have := HK2.out; omega
      have nn0 : ¬ (K2 < 0) := by omega
      clear hB l0 l1 q0 q1 q2 hA
      go_wp2_with fail
      refine HCl0.out.mono ?_
      rintro e w5 ⟨rfl, rfl⟩
      clear HCl0 d0 c0 c1
      have hB := HB.out
      have d1 := HM0.out.wm.cell b (o + m * 4 + 3) _ HQ3.out (by simp)
      have HCl1 : Hid (Calls Tryd.prog 30 #[.slice va n2 vc, .int .i64 (K2)] w5 fun e w' => e = .returned (.int .i64 (1 + ((pp + 1 + 1 + n1 * 3 + s2 : Nat) : Int))) ∧ w' = w5) := (by have h := HIH.out (pp + 1 + 1 + n1 * 3) _ kids w5 (K2) HR.out (by rw [← Hs2.out]; omega) HM0.out (by have := HK2.out; omega); rw [← Hs2.out] at h; exact h)
      obtain ⟨K3, HK3⟩ : ∃ q, Hid (q = 1 + ((pp + 1 + 1 + n1 * 3 + s2 : Nat) : Int)) := ⟨_, rfl⟩
      rw [← HK3.out] at HCl1
      have hK30 : 0 ≤ K3 := by have := HK3.out; omega
      have hK31 : K3 ≤ 5000000 := by have := HK3.out; omega
      have nn1 : ¬ (K3 < 0) := by omega
      have HKE : Hid (K3 = 1 + ((p + pt (tN n) xs (m + 1) : Nat) : Int)) := (by have := HK3.out; omega : K3 = 1 + ((p + pt (tN n) xs (m + 1) : Nat) : Int))
      clear hB
      go_wp2_with fail
      refine HCl1.out.mono ?_
      rintro e w6 ⟨rfl, rfl⟩
      clear HCl1 d1 
      go_wp2
      go_roundg (gk - 1)
      case measure => omega
      case rel => exact ⟨m + 1, K3, by omega, by go_num, rfl, HKE, hK30, hK31, rfl⟩
    · have i1 : ¬ ((m : Int) < (len : Int)) := by omega
      have hqn : m = xs.length := by have := HL.out; omega
      have HKn : Hid (K = 1 + ((p + (xs.map (tN n)).sum : Nat) : Int)) := (by rw [← HAll.out.1, ← hqn]; exact HK.out : K = 1 + ((p + (xs.map (tN n)).sum : Nat) : Int))
      clear hqn HK
      go_wp2
      go_ret
      exact ⟨(by show Ending.returned (.int .i64 K) = _; rw [HKn.out]; simp), rfl⟩
theorem held_n (L : List (Nat × Nat)) (lo hi : Nat) (w0 : World) (ok : LOk L lo hi w0) : ∀ n, ∀ (p : Nat) (v : Value) (xs : List NetT) (w : World) (K : Int), RowL 4 (tN n) (NetQ w0 n) v xs L p → p + (xs.map (tN n)).sum ≤ L.length → MkL L L.length lo hi w0 w → K = 1 + (p : Int) → Calls Tryd.prog 30 #[v, .int .i64 K] w fun e w' => e = .returned (.int .i64 (1 + ((p + (xs.map (tN n)).sum : Nat) : Int))) ∧ w' = w
  | 0 => held_n1 L lo hi w0 ok 0 fun r h => by omega
  | n + 1 => held_n1 L lo hi w0 ok (n + 1) fun r h => by cases h; exact held_n L lo hi w0 ok n
end Go.Proofs.YtkppcmpdghnmgaaDoor
