/- Lists of lists marked, and the marks looked for. -/
import Derived.Test.YtcmmiamnbefefaaDoorCk
namespace Go.Proofs.YtcmmiamnbefefaaDoor
open Go.RowKit
set_option linter.unusedVariables false

/-- The first so many numbers are marked. -/
structure MkL (L : List (Nat × Nat)) (p lo hi : Nat) (w0 w : World) : Prop where
  wm : WMk lo hi w0 w
  at' : ∀ i q, i < p → L[i]? = some q → w.cell? ⟨q.1, q.2, none⟩ = some (.int .i64 (1 + (i : Int)))
/-- What all of it stands on. -/
structure LOk (L : List (Nat × Nat)) (lo hi : Nat) (w0 : World) : Prop where
  nd : L.Nodup
  rng : ∀ q ∈ L, lo ≤ q.1 ∧ q.1 < hi
  soft : LSoft w0 L
  len : L.length ≤ 4000000
theorem cell_put {w : World} {b o : Nat} {C : Array Value} {t : TypeId} (h : w.heap[b]? = some (.cells C t (0, 0))) (ho : o < C.size) (x : Value) (b' o' : Nat) : (w.setCell ⟨b, o, none⟩ x).cell? ⟨b', o', none⟩ = if b' = b ∧ o' = o then some x else w.cell? ⟨b', o', none⟩ := by
  have h2 := row_put h o x
  by_cases e : b' = b
  · subst e
    rw [cell_of_row _ _ _ _ _ _ h2, cell_of_row _ _ _ _ _ _ h]
    by_cases e2 : o' = o
    · subst e2
      rw [if_pos ⟨rfl, rfl⟩]
      simp [ho]
    · rw [if_neg (fun q => e2 q.2)]
      rw [Array.getElem?_setIfInBounds_ne (fun q => e2 q.symm)]
  · rw [if_neg (fun q => e q.1)]
    exact World.cell?_setCell_other _ _ _ _ (by simp)
theorem nodup_inj {α : Type} : ∀ {L : List α} (h : L.Nodup) {i j : Nat} {q : α}, L[i]? = some q → L[j]? = some q → i = j
  | [], _, i, j, q, hi, _ => by simp at hi
  | a :: L, h, i, j, q, hi, hj => by
    rw [List.nodup_cons] at h
    match i, j with
    | 0, 0 => rfl
    | 0, j + 1 => simp at hi hj; subst hi; exact absurd (List.mem_of_getElem? hj) h.1
    | i + 1, 0 => simp at hi hj; subst hj; exact absurd (List.mem_of_getElem? hi) h.1
    | i + 1, j + 1 => simp at hi hj; rw [nodup_inj h.2 hi hj]
/-- One number more: the cell is there, it is free, and the mark stands. -/
theorem MkL.put {L : List (Nat × Nat)} {p lo hi : Nat} {w0 w : World} (h : MkL L p lo hi w0 w) (ok : LOk L lo hi w0) {b o : Nat} {u : Int} (hL : L[p]? = some (b, o)) (hc : w0.cell? ⟨b, o, none⟩ = some (.int .i64 u)) (K : Int) (hK : K = 1 + (p : Int)) :
    (∃ x, w.cell? ⟨b, o, none⟩ = some x) ∧ w.frozen? ⟨b, o, none⟩ = false ∧ MkL L (p + 1) lo hi w0 (w.setCell ⟨b, o, none⟩ (.int .i64 K)) := by
  have hm := List.mem_of_getElem? hL
  have hs := ok.soft _ hm
  obtain ⟨u', hu⟩ := h.wm.num b o u hc
  have hsw := h.wm.soft b hs
  have hr := ok.rng _ hm
  obtain ⟨C, t, k⟩ := hsw
  refine ⟨⟨_, hu⟩, soft_free ⟨C, t, k⟩ o, h.wm.trans (WMk.put hu ⟨C, t, k⟩ hr.1 hr.2 K), fun i q hi hq => ?_⟩
  rw [cell_put k (cells_of_cell k hu)]
  split
  · next e =>
    have : i = p := nodup_inj ok.nd hq (by rw [hL]; exact congrArg some (by cases q; simp at e; rw [e.1, e.2]))
    rw [this, hK]
  · next e =>
    by_cases hip : i = p
    · subst hip
      rw [hL] at hq
      cases hq
      exact absurd ⟨rfl, rfl⟩ e
    · exact h.at' i q (by omega) hq
theorem MkL.later {L : List (Nat × Nat)} {p lo hi : Nat} {w0 w w' : World} (h : MkL L p lo hi w0 w) (g : Below w.heap.size w w') : MkL L p lo hi w0 w' := ⟨h.wm.trans (WMk.of_below lo hi g), fun i q hi hq => (Keeps.of_below g 0) _ _ _ (Nat.zero_le _) (h.at' i q hi hq)⟩
theorem MkL.none {L : List (Nat × Nat)} {lo hi : Nat} {w0 w : World} (h : WMk lo hi w0 w) : MkL L 0 lo hi w0 w := ⟨h, fun i q hi => by omega⟩

theorem mark_a0 (a : Option Addr) (uc : Nat) (m : Int) (w : World) (hm0 : 0 ≤ m) (hm1 : m ≤ 8388608) : Calls Tryd.prog 33 #[.slice a 0 uc, .int .i64 m] w fun e w' => e = .returned (.int .i64 m) ∧ w' = w := mark_args_w0 a uc m w hm0 hm1
set_option maxRecDepth 10000 in
set_option maxHeartbeats 4000000 in
theorem mark_a (L : List (Nat × Nat)) (p lo hi n : Nat) (v : Value) (w0 w : World) (ok : LOk L lo hi w0) (hv : ArgsL w0 L p v n) (hp : p + n * 3 ≤ L.length) (hM : MkL L p lo hi w0 w) (K : Int) (hK : K = 1 + (p : Int)) :
    Calls Tryd.prog 33 #[v, .int .i64 K] w fun e w' => e = .returned (.int .i64 (1 + ((p + n * 3 : Nat) : Int))) ∧ MkL L (p + n * 3) lo hi w0 w' := by
  have hpl := ok.len
  have HOk : Hid (LOk L lo hi w0) := ok
  have HM0 : Hid (MkL L p lo hi w0 w) := hM
  obtain ⟨a, cp, rfl, hx⟩ := hv
  have HX : Hid (∀ i, i < n * 3 → ∃ b o u, a = some ⟨b, o, none⟩ ∧ L[p + i]? = some (b, o + i) ∧ w0.cell? ⟨b, o + i, none⟩ = some (.int .i64 u)) := hx
  obtain ⟨lL, HLL⟩ : ∃ l, Hid (l = L.length) := ⟨_, rfl⟩
  rw [← HLL.out] at hp hpl
  have hK0 : 0 ≤ K := by omega
  have hK1 : K ≤ 5000000 := by omega
  have HK0 : Hid (K = 1 + (p : Int)) := hK
  clear ok hM hx hK
  go_enter Tryd.func33, Tryd.ntmps33
  go_wp2
  go_loopg [1, 5] n (fun gg k i wr => ∃ (m : Nat) (K : Int), m + gg = n ∧ i = .int .i64 m ∧ k = .int .i64 K ∧ Hid (K = 1 + ((p + m * 3 : Nat) : Int)) ∧ 0 ≤ K ∧ K ≤ 5000000 ∧ Hid (MkL L (p + m * 3) lo hi w0 wr))
  case atStart => exact ⟨0, K, by omega, rfl, rfl, (by rw [HK0.out]; simp : K = 1 + ((p + 0 * 3 : Nat) : Int)), hK0, hK1, (by simpa using HM0.out : MkL L (p + 0 * 3) lo hi w0 w)⟩
  case round =>
    clear HM0 HK0 hK0 hK1
    obtain ⟨m, K, hm, rfl, rfl, HK, hK0, hK1, HM⟩ := hrel
    by_cases hlt : m < n
    · have i1 : (m : Int) < (n : Int) := by omega
      have i2 : (0 : Int) ≤ (m : Int) := by omega
      obtain ⟨b, o, u0, rfl, l0, q0⟩ := HX.out (m * 3) (by omega)
      obtain ⟨b', o', u1, e1, l1, q1⟩ := HX.out (m * 3 + 1) (by omega)
      cases e1
      obtain ⟨b', o', u2, e2, l2, q2⟩ := HX.out (m * 3 + 2) (by omega)
      cases e2
      obtain ⟨⟨x0, c0⟩, f0, P1⟩ := HM.out.put HOk.out l0 q0 K HK.out
      obtain ⟨⟨x1, c1⟩, f1, P2⟩ := P1.put HOk.out (by rw [Nat.add_assoc]; exact l1) q1 (K + 1) (by rw [HK.out]; omega)
      obtain ⟨⟨x2, c2⟩, f2, P3⟩ := P2.put HOk.out (by rw [Nat.add_assoc, Nat.add_assoc]; exact l2) q2 (K + 1 + 1) (by rw [HK.out]; omega)
      have s1 : o + (m * 3 + 1) = o + m * 3 + 1 := by omega
      have s2 : o + (m * 3 + 2) = o + m * 3 + 1 + 1 := by omega
      rw [s1] at c1 f1
      rw [s2, s1] at c2 f2
      have HP3 : Hid (MkL L (p + (m + 1) * 3) lo hi w0 (((wr.setCell ⟨b, o + m * 3, none⟩ (.int .i64 K)).setCell ⟨b, o + m * 3 + 1, none⟩ (.int .i64 (K + 1))).setCell ⟨b, o + m * 3 + 1 + 1, none⟩ (.int .i64 (K + 1 + 1)))) := by
        have h := P3
        rw [s2, s1] at h
        rwa [show p + m * 3 + 1 + 1 + 1 = p + (m + 1) * 3 by omega] at h
      have HK2 : Hid (K + 1 + 1 + 1 = 1 + ((p + (m + 1) * 3 : Nat) : Int)) := by show K + 1 + 1 + 1 = 1 + ((p + (m + 1) * 3 : Nat) : Int); rw [HK.out]; omega
      have hK3 : K + 1 + 1 + 1 ≤ 5000000 := by have := HK2.out; omega
      clear l0 l1 l2 q0 q1 q2 P1 P2 P3 HM s1 s2
      go_wp2
      go_roundg (gk - 1)
      case measure => omega
      case rel => exact ⟨m + 1, K + 1 + 1 + 1, by omega, by go_num, rfl, HK2, by omega, hK3, HP3⟩
    · have i1 : ¬ ((m : Int) < (n : Int)) := by omega
      have hqn : m = n := by omega
      have HKn : Hid (K = 1 + ((p + n * 3 : Nat) : Int)) := (by rw [← hqn]; exact HK.out : K = 1 + ((p + n * 3 : Nat) : Int))
      have HMn : Hid (MkL L (p + n * 3) lo hi w0 wr) := (by rw [← hqn]; exact HM.out : MkL L (p + n * 3) lo hi w0 wr)
      clear hqn HK HM
      go_wp2
      go_ret
      exact ⟨(by show Ending.returned (.int .i64 K) = _; rw [HKn.out]; simp), HMn.out⟩

set_option maxRecDepth 10000 in
set_option maxHeartbeats 4000000 in
theorem mark_i (L : List (Nat × Nat)) (p lo hi : Nat) (v : Value) (xs : List InstT) (w0 w : World) (ok : LOk L lo hi w0) (hv : InstsL w0 L p v xs) (hp : p + tR xs ≤ L.length) (hlen : xs.length ≤ 1000) (hM : MkL L p lo hi w0 w) (K : Int) (hK : K = 1 + (p : Int)) :
    Calls Tryd.prog 18 #[v, .int .i64 K] w fun e w' => e = .returned (.int .i64 (1 + ((p + tR xs : Nat) : Int))) ∧ MkL L (p + tR xs) lo hi w0 w' := by
  have hpl := ok.len
  have HOk : Hid (LOk L lo hi w0) := ok
  have HM0 : Hid (MkL L p lo hi w0 w) := hM
  obtain ⟨a, cp, rfl, hx⟩ := hv
  have HX : Hid (∀ j x, xs[j]? = some x → ∃ b o u1 u2 s, a = some ⟨b, o, none⟩ ∧ L[p + ps xs j]? = some (b, o + j * 3) ∧ L[p + ps xs j + 1]? = some (b, o + j * 3 + 1) ∧ w0.cell? ⟨b, o + j * 3, none⟩ = some (.int .i64 u1) ∧ w0.cell? ⟨b, o + j * 3 + 1, none⟩ = some (.int .i64 u2) ∧ w0.cell? ⟨b, o + j * 3 + 1 + 1, none⟩ = some s ∧ ArgsL w0 L (p + ps xs j + 2) s x.one.args.length) := hx
  have HLe : Hid (∀ j, ps xs j ≤ tR xs) := fun j => sum_take_le tI xs j
  have HAll : Hid (ps xs xs.length = tR xs ∧ p + tR xs ≤ L.length ∧ L.length ≤ 4000000) := ⟨ps_all xs, hp, hpl⟩
  obtain ⟨len, HL⟩ : ∃ len, Hid (len = xs.length) := ⟨_, rfl⟩
  rw [← HL.out] at hlen ⊢
  have hK0 : 0 ≤ K := by omega
  have hK1 : K ≤ 5000000 := by omega
  have HK0 : Hid (K = 1 + (p : Int)) := hK
  clear ok hM hx hK hp hpl
  go_enter Tryd.func18, Tryd.ntmps18
  go_wp2
  go_loopg [1, 5] len (fun gg k i wr => ∃ (m : Nat) (K : Int), m + gg = len ∧ i = .int .i64 m ∧ k = .int .i64 K ∧ Hid (K = 1 + ((p + ps xs m : Nat) : Int)) ∧ 0 ≤ K ∧ K ≤ 5000000 ∧ Hid (MkL L (p + ps xs m) lo hi w0 wr))
  case atStart => exact ⟨0, K, by omega, rfl, rfl, (by rw [HK0.out]; simp [ps] : K = 1 + ((p + ps xs 0 : Nat) : Int)), hK0, hK1, (by simpa [ps] using HM0.out : MkL L (p + ps xs 0) lo hi w0 w)⟩
  case round =>
    clear HM0 HK0 hK0 hK1
    obtain ⟨m, K, hm, rfl, rfl, HK, hK0, hK1, HM⟩ := hrel
    by_cases hlt : m < len
    · have i1 : (m : Int) < (len : Int) := by omega
      have i2 : (0 : Int) ≤ (m : Int) := by omega
      obtain ⟨x, hxn⟩ : ∃ x, xs[m]? = some x := ⟨_, List.getElem?_eq_getElem (by have := HL.out; omega)⟩
      obtain ⟨b, o, u0, u1, s, rfl, l0, l1, q0, q1, q2, hA⟩ := HX.out m x hxn
      obtain ⟨⟨x0, c0⟩, f0, P1⟩ := HM.out.put HOk.out l0 q0 K HK.out
      obtain ⟨⟨x1, c1⟩, f1, P2⟩ := P1.put HOk.out l1 q1 (K + 1) (by rw [HK.out]; omega)
      obtain ⟨ua, uc, e, _⟩ := id hA
      have c2 := P2.wm.cell b (o + m * 3 + 1 + 1) _ q2 (by rw [e]; simp)
      have hnx := ps_next hxn
      have hle := HLe.out (m + 1)
      have hal := HAll.out
      have HCl : Hid (Calls Tryd.prog 33 #[s, .int .i64 (K + 1 + 1)] ((wr.setCell ⟨b, o + m * 3, none⟩ (.int .i64 K)).setCell ⟨b, o + m * 3 + 1, none⟩ (.int .i64 (K + 1))) fun e w' => e = .returned (.int .i64 (1 + ((p + ps xs m + 2 + x.one.args.length * 3 : Nat) : Int))) ∧ MkL L (p + ps xs m + 2 + x.one.args.length * 3) lo hi w0 w') := mark_a L (p + ps xs m + 2) lo hi x.one.args.length s w0 _ HOk.out hA (by omega) P2 (K + 1 + 1) (by rw [HK.out]; omega)
      subst e
      obtain ⟨ul, Hul⟩ : ∃ l, Hid (l = x.one.args.length) := ⟨_, rfl⟩
      rw [← Hul.out] at HCl c2 hnx
      obtain ⟨K2, HK2⟩ : ∃ q, Hid (q = 1 + ((p + ps xs (m + 1) : Nat) : Int)) := ⟨_, rfl⟩
      have heq : p + ps xs m + 2 + ul * 3 = p + ps xs (m + 1) := by omega
      rw [heq, ← HK2.out] at HCl
      have hK20 : 0 ≤ K2 := by rw [HK2.out]; omega
      have hK21 : K2 ≤ 5000000 := by rw [HK2.out]; omega
      clear l0 l1 q0 q1 q2 hA P1 P2 HM hnx hle hal heq HX
      go_wp2_with fail
      refine HCl.out.mono ?_
      rintro e w5 ⟨rfl, g5⟩
      have HP5 : Hid (MkL L (p + ps xs (m + 1)) lo hi w0 w5) := g5
      clear g5 HCl c0 c1 c2 f0 f1
      go_wp2
      go_roundg (gk - 1)
      case measure => omega
      case rel => exact ⟨m + 1, K2, by omega, by go_num, rfl, HK2, hK20, hK21, HP5⟩
    · have i1 : ¬ ((m : Int) < (len : Int)) := by omega
      have hqn : m = xs.length := by have := HL.out; omega
      have HKn : Hid (K = 1 + ((p + tR xs : Nat) : Int)) := (by rw [← HAll.out.1, ← hqn]; exact HK.out : K = 1 + ((p + tR xs : Nat) : Int))
      have HMn : Hid (MkL L (p + tR xs) lo hi w0 wr) := (by rw [← HAll.out.1, ← hqn]; exact HM.out : MkL L (p + tR xs) lo hi w0 wr)
      clear hqn HK HM
      go_wp2
      go_ret
      exact ⟨(by show Ending.returned (.int .i64 K) = _; rw [HKn.out]; simp), HMn.out⟩

set_option maxRecDepth 10000 in
set_option maxHeartbeats 4000000 in
theorem held_a (L : List (Nat × Nat)) (p lo hi n : Nat) (v : Value) (w0 w : World) (hll : L.length ≤ 4000000) (hv : ArgsL w0 L p v n) (hp : p + n * 3 ≤ L.length) (hM : MkL L L.length lo hi w0 w) (K : Int) (hK : K = 1 + (p : Int)) :
    Calls Tryd.prog 52 #[v, .int .i64 K] w fun e w' => e = .returned (.int .i64 (1 + ((p + n * 3 : Nat) : Int))) ∧ w' = w := by
  have HM : Hid (MkL L L.length lo hi w0 w) := hM
  obtain ⟨a, cp, rfl, hx⟩ := hv
  have HX : Hid (∀ i, i < n * 3 → ∃ b o u, a = some ⟨b, o, none⟩ ∧ L[p + i]? = some (b, o + i) ∧ w0.cell? ⟨b, o + i, none⟩ = some (.int .i64 u)) := hx
  obtain ⟨lL, HLL⟩ : ∃ l, Hid (l = L.length) := ⟨_, rfl⟩
  rw [← HLL.out] at hp hll
  have hK0 : 0 ≤ K := by omega
  have hK1 : K ≤ 5000000 := by omega
  have HK0 : Hid (K = 1 + (p : Int)) := hK
  clear hM hx hK
  go_enter Tryd.func52, Tryd.ntmps52
  go_wp2
  go_loopg [1, 5] n (fun gg k i wr => ∃ (m : Nat) (K : Int), m + gg = n ∧ i = .int .i64 m ∧ k = .int .i64 K ∧ Hid (K = 1 + ((p + m * 3 : Nat) : Int)) ∧ 0 ≤ K ∧ K ≤ 5000000 ∧ wr = w)
  case atStart => exact ⟨0, K, by omega, rfl, rfl, (by rw [HK0.out]; simp : K = 1 + ((p + 0 * 3 : Nat) : Int)), hK0, hK1, rfl⟩
  case round =>
    clear HK0 hK0 hK1
    obtain ⟨m, K, hm, rfl, rfl, HK, hK0, hK1, rfl⟩ := hrel
    by_cases hlt : m < n
    · have i1 : (m : Int) < (n : Int) := by omega
      have i2 : (0 : Int) ≤ (m : Int) := by omega
      obtain ⟨b, o, u0, rfl, l0, q0⟩ := HX.out (m * 3) (by omega)
      obtain ⟨b', o', u1, e1, l1, q1⟩ := HX.out (m * 3 + 1) (by omega)
      cases e1
      obtain ⟨b', o', u2, e2, l2, q2⟩ := HX.out (m * 3 + 2) (by omega)
      cases e2
      have hll2 := HLL.out
      have c0 : wr.cell? ⟨b, o + m * 3, none⟩ = some (.int .i64 K) := by have := HM.out.at' _ _ (by omega) l0; rw [HK.out]; exact this
      have c1 : wr.cell? ⟨b, o + m * 3 + 1, none⟩ = some (.int .i64 (K + 1)) := by
        have h := HM.out.at' _ _ (by omega) l1
        rw [show K + 1 = 1 + ((p + (m * 3 + 1) : Nat) : Int) by rw [HK.out]; omega]
        exact h
      have c2 : wr.cell? ⟨b, o + m * 3 + 1 + 1, none⟩ = some (.int .i64 (K + 1 + 1)) := by
        have h := HM.out.at' _ _ (by omega) l2
        rw [show K + 1 + 1 = 1 + ((p + (m * 3 + 2) : Nat) : Int) by rw [HK.out]; omega]
        exact h
      have HK2 : Hid (K + 1 + 1 + 1 = 1 + ((p + (m + 1) * 3 : Nat) : Int)) := by show K + 1 + 1 + 1 = 1 + ((p + (m + 1) * 3 : Nat) : Int); rw [HK.out]; omega
      have hK3 : K + 1 + 1 + 1 ≤ 5000000 := by have := HK2.out; omega
      clear l0 l1 l2 q0 q1 q2 hll2
      go_wp2
      go_roundg (gk - 1)
      case measure => omega
      case rel => exact ⟨m + 1, K + 1 + 1 + 1, by omega, by go_num, rfl, HK2, by omega, hK3, rfl⟩
    · have i1 : ¬ ((m : Int) < (n : Int)) := by omega
      have hqn : m = n := by omega
      have HKn : Hid (K = 1 + ((p + n * 3 : Nat) : Int)) := (by rw [← hqn]; exact HK.out : K = 1 + ((p + n * 3 : Nat) : Int))
      clear hqn HK
      go_wp2
      go_ret
      exact ⟨(by show Ending.returned (.int .i64 K) = _; rw [HKn.out]; simp), rfl⟩

set_option maxRecDepth 10000 in
set_option maxHeartbeats 4000000 in
theorem held_i (L : List (Nat × Nat)) (p lo hi : Nat) (v : Value) (xs : List InstT) (w0 w : World) (hll : L.length ≤ 4000000) (hv : InstsL w0 L p v xs) (hp : p + tR xs ≤ L.length) (hlen : xs.length ≤ 1000) (hM : MkL L L.length lo hi w0 w) (K : Int) (hK : K = 1 + (p : Int)) :
    Calls Tryd.prog 34 #[v, .int .i64 K] w fun e w' => e = .returned (.int .i64 (1 + ((p + tR xs : Nat) : Int))) ∧ w' = w := by
  have HM : Hid (MkL L L.length lo hi w0 w) := hM
  obtain ⟨a, cp, rfl, hx⟩ := hv
  have HX : Hid (∀ j x, xs[j]? = some x → ∃ b o u1 u2 s, a = some ⟨b, o, none⟩ ∧ L[p + ps xs j]? = some (b, o + j * 3) ∧ L[p + ps xs j + 1]? = some (b, o + j * 3 + 1) ∧ w0.cell? ⟨b, o + j * 3, none⟩ = some (.int .i64 u1) ∧ w0.cell? ⟨b, o + j * 3 + 1, none⟩ = some (.int .i64 u2) ∧ w0.cell? ⟨b, o + j * 3 + 1 + 1, none⟩ = some s ∧ ArgsL w0 L (p + ps xs j + 2) s x.one.args.length) := hx
  have HLe : Hid (∀ j, ps xs j ≤ tR xs) := fun j => sum_take_le tI xs j
  have HAll : Hid (ps xs xs.length = tR xs ∧ p + tR xs ≤ L.length ∧ L.length ≤ 4000000) := ⟨ps_all xs, hp, hll⟩
  obtain ⟨len, HL⟩ : ∃ len, Hid (len = xs.length) := ⟨_, rfl⟩
  rw [← HL.out] at hlen ⊢
  have hK0 : 0 ≤ K := by omega
  have hK1 : K ≤ 5000000 := by omega
  have HK0 : Hid (K = 1 + (p : Int)) := hK
  clear hM hx hK hp hll
  go_enter Tryd.func34, Tryd.ntmps34
  go_wp2
  go_loopg [1, 5] len (fun gg k i wr => ∃ (m : Nat) (K : Int), m + gg = len ∧ i = .int .i64 m ∧ k = .int .i64 K ∧ Hid (K = 1 + ((p + ps xs m : Nat) : Int)) ∧ 0 ≤ K ∧ K ≤ 5000000 ∧ wr = w)
  case atStart => exact ⟨0, K, by omega, rfl, rfl, (by rw [HK0.out]; simp [ps] : K = 1 + ((p + ps xs 0 : Nat) : Int)), hK0, hK1, rfl⟩
  case round =>
    clear HK0 hK0 hK1
    obtain ⟨m, K, hm, rfl, rfl, HK, hK0, hK1, rfl⟩ := hrel
    by_cases hlt : m < len
    · have i1 : (m : Int) < (len : Int) := by omega
      have i2 : (0 : Int) ≤ (m : Int) := by omega
      obtain ⟨x, hxn⟩ : ∃ x, xs[m]? = some x := ⟨_, List.getElem?_eq_getElem (by have := HL.out; omega)⟩
      obtain ⟨b, o, u0, u1, s, rfl, l0, l1, q0, q1, q2, hA⟩ := HX.out m x hxn
      have hnx := ps_next hxn
      have hle := HLe.out (m + 1)
      have hal := HAll.out
      have c0 : wr.cell? ⟨b, o + m * 3, none⟩ = some (.int .i64 K) := by have := HM.out.at' _ _ (by omega) l0; rw [HK.out]; exact this
      have c1 : wr.cell? ⟨b, o + m * 3 + 1, none⟩ = some (.int .i64 (K + 1)) := by
        have h := HM.out.at' _ _ (by omega) l1
        rw [show K + 1 = 1 + ((p + ps xs m + 1 : Nat) : Int) by rw [HK.out]; omega]
        exact h
      obtain ⟨ua, uc, e, _⟩ := id hA
      have c2 := HM.out.wm.cell b (o + m * 3 + 1 + 1) _ q2 (by rw [e]; simp)
      have HCl : Hid (Calls Tryd.prog 52 #[s, .int .i64 (K + 1 + 1)] wr fun e w' => e = .returned (.int .i64 (1 + ((p + ps xs m + 2 + x.one.args.length * 3 : Nat) : Int))) ∧ w' = wr) := held_a L (p + ps xs m + 2) lo hi x.one.args.length s w0 _ (by omega) hA (by omega) HM.out (K + 1 + 1) (by rw [HK.out]; omega)
      subst e
      obtain ⟨ul, Hul⟩ : ∃ l, Hid (l = x.one.args.length) := ⟨_, rfl⟩
      rw [← Hul.out] at HCl c2 hnx
      obtain ⟨K2, HK2⟩ : ∃ q, Hid (q = 1 + ((p + ps xs (m + 1) : Nat) : Int)) := ⟨_, rfl⟩
      have heq : p + ps xs m + 2 + ul * 3 = p + ps xs (m + 1) := by omega
      rw [heq, ← HK2.out] at HCl
      have hK20 : 0 ≤ K2 := by rw [HK2.out]; omega
      have hK21 : K2 ≤ 5000000 := by rw [HK2.out]; omega
      have j1 : ¬ (K2 < 0) := by omega
      clear l0 l1 q0 q1 q2 hA hnx hle hal heq HX
      go_wp2_with fail
      refine HCl.out.mono ?_
      rintro e w5 ⟨rfl, rfl⟩
      clear HCl c0 c1 c2
      go_wp2
      go_roundg (gk - 1)
      case measure => omega
      case rel => exact ⟨m + 1, K2, by omega, by go_num, rfl, HK2, hK20, hK21, rfl⟩
    · have i1 : ¬ ((m : Int) < (len : Int)) := by omega
      have hqn : m = xs.length := by have := HL.out; omega
      have HKn : Hid (K = 1 + ((p + tR xs : Nat) : Int)) := (by rw [← HAll.out.1, ← hqn]; exact HK.out : K = 1 + ((p + tR xs : Nat) : Int))
      clear hqn HK
      go_wp2
      go_ret
      exact ⟨(by show Ending.returned (.int .i64 K) = _; rw [HKn.out]; simp), rfl⟩

def pr (rs : List (List InstT)) (i : Nat) : Nat := ((rs.take i).map tR).sum
theorem pr_next {rs : List (List InstT)} {i : Nat} {r : List InstT} (h : rs[i]? = some r) : pr rs (i + 1) = pr rs i + tR r := sum_take tR rs i r h
theorem pr_all (rs : List (List InstT)) : pr rs rs.length = (rs.map tR).sum := by unfold pr; rw [List.take_length]

set_option maxRecDepth 10000 in
set_option maxHeartbeats 4000000 in
theorem mark_ss (L : List (Nat × Nat)) (lo hi : Nat) (v : Value) (rs : List (List InstT)) (w0 w : World) (ok : LOk L lo hi w0) (hv : SSL w0 L v rs) (hT : L.length = (rs.map tR).sum) (hlen : rs.length ≤ 1000) (hrl : ∀ r ∈ rs, r.length ≤ 1000) (hM : MkL L 0 lo hi w0 w) :
    Calls Tryd.prog 19 #[v, .int .i64 1] w fun e w' => e = .returned (.int .i64 (1 + (L.length : Int))) ∧ MkL L L.length lo hi w0 w' := by
  have hpl := ok.len
  have HOk : Hid (LOk L lo hi w0) := ok
  have HM0 : Hid (MkL L 0 lo hi w0 w) := hM
  obtain ⟨a, cp, rfl, hx⟩ := hv
  have HX : Hid (∀ i r, rs[i]? = some r → ∃ b o s, a = some ⟨b, o, none⟩ ∧ w0.cell? ⟨b, o + i, none⟩ = some s ∧ InstsL w0 L (pr rs i) s r) := hx
  have HAll : Hid ((∀ i, pr rs i ≤ L.length) ∧ pr rs rs.length = L.length ∧ L.length ≤ 4000000 ∧ ∀ r ∈ rs, r.length ≤ 1000) := ⟨fun i => by rw [hT]; exact sum_take_le tR rs i, by rw [pr_all, hT], hpl, hrl⟩
  obtain ⟨len, HL⟩ : ∃ len, Hid (len = rs.length) := ⟨_, rfl⟩
  rw [← HL.out] at hlen ⊢
  obtain ⟨KT', HKT⟩ : ∃ q, Hid (q = 1 + (L.length : Int)) := ⟨_, rfl⟩
  rw [← HKT.out]
  clear ok hM hx hpl hT hrl
  go_enter Tryd.func19, Tryd.ntmps19
  go_wp2
  go_loopg [1, 5] len (fun gg k i wr => ∃ (m : Nat) (K : Int), m + gg = len ∧ i = .int .i64 m ∧ k = .int .i64 K ∧ Hid (K = 1 + (pr rs m : Int)) ∧ 0 ≤ K ∧ K ≤ 5000000 ∧ Hid (MkL L (pr rs m) lo hi w0 wr))
  case atStart => exact ⟨0, 1, by omega, rfl, rfl, (by simp [pr] : (1 : Int) = 1 + (pr rs 0 : Int)), by omega, by omega, HM0⟩
  case round =>
    clear HM0
    obtain ⟨m, K, hm, rfl, rfl, HK, hK0, hK1, HM⟩ := hrel
    by_cases hlt : m < len
    · have i1 : (m : Int) < (len : Int) := by omega
      have i2 : (0 : Int) ≤ (m : Int) := by omega
      obtain ⟨r, hrn⟩ : ∃ r, rs[m]? = some r := ⟨_, List.getElem?_eq_getElem (by have := HL.out; omega)⟩
      obtain ⟨b, o, s, rfl, q0, hI⟩ := HX.out m r hrn
      obtain ⟨sa, sc, e, _⟩ := id hI
      have cs := HM.out.wm.cell b (o + m) _ q0 (by rw [e]; simp)
      have hnx := pr_next hrn
      have hle := HAll.out.1 (m + 1)
      have hal := HAll.out.2.2.1
      have HCl : Hid (Calls Tryd.prog 18 #[s, .int .i64 K] wr fun e w' => e = .returned (.int .i64 (1 + ((pr rs m + tR r : Nat) : Int))) ∧ MkL L (pr rs m + tR r) lo hi w0 w') := mark_i L (pr rs m) lo hi s r w0 _ HOk.out hI (by omega) (HAll.out.2.2.2 r (List.mem_of_getElem? hrn)) HM.out K HK.out
      subst e
      obtain ⟨ul, Hul⟩ : ∃ l, Hid (l = r.length) := ⟨_, rfl⟩
      rw [← Hul.out] at HCl cs
      obtain ⟨K2, HK2⟩ : ∃ q, Hid (q = 1 + (pr rs (m + 1) : Int)) := ⟨_, rfl⟩
      rw [← hnx, ← HK2.out] at HCl
      have hK20 : 0 ≤ K2 := by rw [HK2.out]; omega
      have hK21 : K2 ≤ 5000000 := by rw [HK2.out]; omega
      have j1 : ¬ (K2 < 0) := by omega
      clear q0 hI hnx hle hal HX HM
      go_wp2_with fail
      refine HCl.out.mono ?_
      rintro e w5 ⟨rfl, g5⟩
      have HP5 : Hid (MkL L (pr rs (m + 1)) lo hi w0 w5) := g5
      clear g5 HCl cs
      go_wp2
      go_roundg (gk - 1)
      case measure => omega
      case rel => exact ⟨m + 1, K2, by omega, by go_num, rfl, HK2, hK20, hK21, HP5⟩
    · have i1 : ¬ ((m : Int) < (len : Int)) := by omega
      have hqn : m = rs.length := by have := HL.out; omega
      have HKn : Hid (K = KT') := (by rw [HKT.out, ← HAll.out.2.1, ← hqn]; exact HK.out : K = KT')
      have HMn : Hid (MkL L L.length lo hi w0 wr) := (by have h := HM.out; rwa [hqn, HAll.out.2.1] at h : MkL L L.length lo hi w0 wr)
      clear HM
      clear hqn HK
      go_wp2
      go_ret
      exact ⟨(by show Ending.returned (.int .i64 K) = _; rw [HKn.out]), HMn.out⟩

set_option maxRecDepth 10000 in
set_option maxHeartbeats 4000000 in
theorem held_ss (L : List (Nat × Nat)) (lo hi : Nat) (v : Value) (rs : List (List InstT)) (w0 w : World) (ok : LOk L lo hi w0) (hv : SSL w0 L v rs) (hT : L.length = (rs.map tR).sum) (hlen : rs.length ≤ 1000) (hrl : ∀ r ∈ rs, r.length ≤ 1000) (hM : MkL L L.length lo hi w0 w) :
    Calls Tryd.prog 20 #[v, .int .i64 1] w fun e w' => e = .returned (.int .i64 (1 + (L.length : Int))) ∧ w' = w := by
  have hpl := ok.len
  have HOk : Hid (LOk L lo hi w0) := ok
  have HM0 : Hid (MkL L L.length lo hi w0 w) := hM
  obtain ⟨a, cp, rfl, hx⟩ := hv
  have HX : Hid (∀ i r, rs[i]? = some r → ∃ b o s, a = some ⟨b, o, none⟩ ∧ w0.cell? ⟨b, o + i, none⟩ = some s ∧ InstsL w0 L (pr rs i) s r) := hx
  have HAll : Hid ((∀ i, pr rs i ≤ L.length) ∧ pr rs rs.length = L.length ∧ L.length ≤ 4000000 ∧ ∀ r ∈ rs, r.length ≤ 1000) := ⟨fun i => by rw [hT]; exact sum_take_le tR rs i, by rw [pr_all, hT], hpl, hrl⟩
  obtain ⟨len, HL⟩ : ∃ len, Hid (len = rs.length) := ⟨_, rfl⟩
  rw [← HL.out] at hlen ⊢
  obtain ⟨KT', HKT⟩ : ∃ q, Hid (q = 1 + (L.length : Int)) := ⟨_, rfl⟩
  rw [← HKT.out]
  clear ok hM hx hpl hT hrl
  go_enter Tryd.func20, Tryd.ntmps20
  go_wp2
  go_loopg [1, 5] len (fun gg k i wr => ∃ (m : Nat) (K : Int), m + gg = len ∧ i = .int .i64 m ∧ k = .int .i64 K ∧ Hid (K = 1 + (pr rs m : Int)) ∧ 0 ≤ K ∧ K ≤ 5000000 ∧ wr = w)
  case atStart => exact ⟨0, 1, by omega, rfl, rfl, (by simp [pr] : (1 : Int) = 1 + (pr rs 0 : Int)), by omega, by omega, rfl⟩
  case round =>
    skip
    obtain ⟨m, K, hm, rfl, rfl, HK, hK0, hK1, rfl⟩ := hrel
    by_cases hlt : m < len
    · have i1 : (m : Int) < (len : Int) := by omega
      have i2 : (0 : Int) ≤ (m : Int) := by omega
      obtain ⟨r, hrn⟩ : ∃ r, rs[m]? = some r := ⟨_, List.getElem?_eq_getElem (by have := HL.out; omega)⟩
      obtain ⟨b, o, s, rfl, q0, hI⟩ := HX.out m r hrn
      obtain ⟨sa, sc, e, _⟩ := id hI
      have cs := HM0.out.wm.cell b (o + m) _ q0 (by rw [e]; simp)
      have hnx := pr_next hrn
      have hle := HAll.out.1 (m + 1)
      have hal := HAll.out.2.2.1
      have HCl : Hid (Calls Tryd.prog 34 #[s, .int .i64 K] wr fun e w' => e = .returned (.int .i64 (1 + ((pr rs m + tR r : Nat) : Int))) ∧ w' = wr) := held_i L (pr rs m) lo hi s r w0 _ hal hI (by omega) (HAll.out.2.2.2 r (List.mem_of_getElem? hrn)) HM0.out K HK.out
      subst e
      obtain ⟨ul, Hul⟩ : ∃ l, Hid (l = r.length) := ⟨_, rfl⟩
      rw [← Hul.out] at HCl cs
      obtain ⟨K2, HK2⟩ : ∃ q, Hid (q = 1 + (pr rs (m + 1) : Int)) := ⟨_, rfl⟩
      rw [← hnx, ← HK2.out] at HCl
      have hK20 : 0 ≤ K2 := by rw [HK2.out]; omega
      have hK21 : K2 ≤ 5000000 := by rw [HK2.out]; omega
      have j1 : ¬ (K2 < 0) := by omega
      clear q0 hI hnx hle hal HX
      go_wp2_with fail
      refine HCl.out.mono ?_
      rintro e w5 ⟨rfl, rfl⟩
      clear HCl cs
      go_wp2
      go_roundg (gk - 1)
      case measure => omega
      case rel => exact ⟨m + 1, K2, by omega, by go_num, rfl, HK2, hK20, hK21, rfl⟩
    · have i1 : ¬ ((m : Int) < (len : Int)) := by omega
      have hqn : m = rs.length := by have := HL.out; omega
      have HKn : Hid (K = KT') := (by rw [HKT.out, ← HAll.out.2.1, ← hqn]; exact HK.out : K = KT')
      clear hqn HK
      go_wp2
      go_ret
      exact ⟨(by show Ending.returned (.int .i64 K) = _; rw [HKn.out]), rfl⟩
end Go.Proofs.YtcmmiamnbefefaaDoor
