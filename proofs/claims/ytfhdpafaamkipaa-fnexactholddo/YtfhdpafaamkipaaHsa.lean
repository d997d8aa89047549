/- Which slot counts, of the specification. -/
import Derived.Test.YtfhdpafaamkipaaPcj
import Derived.Test.YtfhdpafaamkipaaHma
namespace Go.Proofs.Ytfhdpafaamkipaa
open Go.RowKit
set_option linter.unusedVariables false
set_option linter.unusedSimpArgs false

set_option maxRecDepth 10000 in
set_option maxHeartbeats 2000000 in
theorem good_s (m t : Nat) (a : Option Addr) (n c : Nat) (w : World) (d : List Nat) (hm : m < 256) (ht : t < 256) (hd : d.length = n) :
    Calls Try.prog 51 #[.agg #[.int .u8 m, .int .u8 t, .slice a n c]] w fun e w' => e = .returned (.bool (goodT ⟨m, t, d⟩)) ∧ Below w.heap.size w w' := by
  by_cases h1 : m = 165
  · by_cases h2 : t ≤ 2
    · by_cases h3 : n ≤ 20100
      · have e : goodT ⟨m, t, d⟩ = true := good_of h1 h2 (by show d.length ≤ 20100; omega)
        rw [e]
        subst h1
        have i2 : (t : Int) ≤ 2 := by omega
        have i3 : (n : Int) ≤ 20100 := by omega
        clear e hd
        go_enter Try.func51, Try.ntmps51
        go_wp2
        go_ret
        exact ⟨rfl, (Below.refl _ _).alloc (Nat.le_refl _) _⟩
      · have e : goodT ⟨m, t, d⟩ = false := decide_eq_false (fun x => by have : d.length ≤ 20100 := x.2.2; omega)
        rw [e]
        subst h1
        have i2 : (t : Int) ≤ 2 := by omega
        have i3 : ¬ (n : Int) ≤ 20100 := by omega
        clear e hd
        go_enter Try.func51, Try.ntmps51
        go_wp2
        go_ret
        exact ⟨rfl, (Below.refl _ _).alloc (Nat.le_refl _) _⟩
    · have e : goodT ⟨m, t, d⟩ = false := decide_eq_false (fun x => h2 x.2.1)
      rw [e]
      subst h1
      have i2 : ¬ (t : Int) ≤ 2 := by omega
      clear e hd
      go_enter Try.func51, Try.ntmps51
      go_wp2
      go_ret
      exact ⟨rfl, (Below.refl _ _).alloc (Nat.le_refl _) _⟩
  · have e : goodT ⟨m, t, d⟩ = false := decide_eq_false (fun x => h1 x.1)
    rw [e]
    have i1 : ((m : Int) == 165) = false := by rw [beq_eq_false_iff_ne]; omega
    clear e hd
    go_enter Try.func51, Try.ntmps51
    go_wp2
    go_ret
    exact ⟨rfl, (Below.refl _ _).alloc (Nat.le_refl _) _⟩
/-- A store, as the program holds it. -/
def romV (r : RomT) (xa xb : Option Addr) (na ca nb cb : Nat) : Value := .agg #[.int .u8 r.a.mark, .int .u8 r.a.turn, .slice xa na ca, .int .u8 r.b.mark, .int .u8 r.b.turn, .slice xb nb cb]
/-- Its bytes are bytes; its slices as long as its data. -/
def RomOk (r : RomT) (na nb : Nat) : Prop := (r.a.mark < 256 ∧ r.a.turn < 256 ∧ r.a.data.length = na) ∧ (r.b.mark < 256 ∧ r.b.turn < 256 ∧ r.b.data.length = nb)
set_option maxRecDepth 10000 in
set_option maxHeartbeats 2000000 in
theorem snow_s (r : RomT) (xa xb : Option Addr) (na ca nb cb : Nat) (w : World) (h : RomOk r na nb) :
    Calls Try.prog 19 #[romV r xa xb na ca nb cb] w fun e w' => e = .returned (.int .i64 (snowT r)) ∧ Below w.heap.size w w' := by
  obtain ⟨⟨am, at', ad⟩, ⟨bm, bt, bd⟩⟩ := r
  obtain ⟨⟨h1, h2, h3⟩, h4, h5, h6⟩ := h
  simp only at h1 h2 h3 h4 h5 h6
  have HA : Hid (∀ W, Calls Try.prog 51 #[.agg #[.int .u8 am, .int .u8 at', .slice xa na ca]] W fun e w' => e = .returned (.bool (goodT ⟨am, at', ad⟩)) ∧ Below W.heap.size W w') := fun W => good_s am at' xa na ca W ad h1 h2 h3
  have HB : Hid (∀ W, Calls Try.prog 51 #[.agg #[.int .u8 bm, .int .u8 bt, .slice xb nb cb]] W fun e w' => e = .returned (.bool (goodT ⟨bm, bt, bd⟩)) ∧ Below W.heap.size W w') := fun W => good_s bm bt xb nb cb W bd h4 h5 h6
  obtain ⟨A, hA⟩ : ∃ A, goodT ⟨am, at', ad⟩ = A := ⟨_, rfl⟩
  obtain ⟨C, hC⟩ : ∃ C, goodT ⟨bm, bt, bd⟩ = C := ⟨_, rfl⟩
  obtain ⟨S, HS⟩ : ∃ S, Hid (S = snowT ⟨⟨am, at', ad⟩, ⟨bm, bt, bd⟩⟩) := ⟨_, rfl⟩
  have hS : S = if A = true ∧ C = true ∧ bt = (at' + 1) % 3 then 1 else if A = true then 0 else if C = true then 1 else -1 := by rw [HS.out, ← hA, ← hC]; rfl
  have hT : A = true → at' ≤ 2 := fun e => good_turn (hA.trans e)
  rw [hA] at HA
  rw [hC] at HB
  rw [← HS.out]
  unfold romV
  have k0 := heap_alloc_last w (.cells #[.int .u8 am, .int .u8 at', .slice xa na ca, .int .u8 bm, .int .u8 bt, .slice xb nb cb] 26)
  have b0 : Below w.heap.size w (w.alloc (.cells #[.int .u8 am, .int .u8 at', .slice xa na ca, .int .u8 bm, .int .u8 bt, .slice xb nb cb] 26)) := (Below.refl _ _).alloc (Nat.le_refl _) _
  clear hA hC HS h3 h6
  go_enter Try.func19, Try.ntmps19
  go_wp2_with fail
  refine (HA.out _).mono ?_
  rintro e w1 ⟨rfl, g1⟩
  have k1 : w1.heap[w.heap.size]? = some (.cells #[.int .u8 am, .int .u8 at', .slice xa na ca, .int .u8 bm, .int .u8 bt, .slice xb nb cb] 26 (0, 0)) := (g1.block _ (by simp)).trans k0
  have b1 : Hid (Below w.heap.size w w1) := b0.trans (g1.mono b0.size)
  have c0 : w1.cell? ⟨w.heap.size, 3, none⟩ = some (.int .u8 bm) := (cell_of_row _ _ _ _ _ _ k1).trans rfl
  have c1 : w1.cell? ⟨w.heap.size, 4, none⟩ = some (.int .u8 bt) := (cell_of_row _ _ _ _ _ _ k1).trans rfl
  have c2 : w1.cell? ⟨w.heap.size, 5, none⟩ = some (.slice xb nb cb) := (cell_of_row _ _ _ _ _ _ k1).trans rfl
  clear g1 k0 b0 HA
  go_wp2_with fail
  refine (HB.out w1).mono ?_
  rintro e w2 ⟨rfl, g2⟩
  have k2 : w2.heap[w.heap.size]? = some (.cells #[.int .u8 am, .int .u8 at', .slice xa na ca, .int .u8 bm, .int .u8 bt, .slice xb nb cb] 26 (0, 0)) := (g2.block _ (Array.getElem?_eq_some_iff.1 k1).1).trans k1
  have b2 : Hid (Below w.heap.size w w2) := b1.out.trans (g2.mono b1.out.size)
  have d0 : w2.cell? ⟨w.heap.size, 1, none⟩ = some (.int .u8 at') := (cell_of_row _ _ _ _ _ _ k2).trans rfl
  have d1 : w2.cell? ⟨w.heap.size, 4, none⟩ = some (.int .u8 bt) := (cell_of_row _ _ _ _ _ _ k2).trans rfl
  clear g2 k1 k2 HB c0 c1 c2 b1
  cases A with
  | true =>
    cases C with
    | true =>
      have ht := hT rfl
      obtain ⟨q, hq, hq2⟩ : ∃ q : Nat, ((at' : Int) + 1).tmod 3 = (q : Int) ∧ q = (at' + 1) % 3 := ⟨(at' + 1) % 3, by rw [Int.tmod_eq_emod_of_nonneg (by omega)]; omega, rfl⟩
      by_cases e : bt = (at' + 1) % 3
      · have hS1 : S = 1 := by rw [hS, if_pos ⟨rfl, rfl, e⟩]
        have j : ((bt : Int) == (q : Int)) = true := by rw [beq_iff_eq]; omega
        subst hS1
        clear hS hT e hq2
        go_wp2
        go_ret
        exact ⟨rfl, b2.out⟩
      · have hS1 : S = 0 := by rw [hS, if_neg (fun x => e x.2.2), if_pos rfl]
        have j : ((bt : Int) == (q : Int)) = false := by rw [beq_eq_false_iff_ne]; omega
        subst hS1
        clear hS hT e hq2
        go_wp2
        go_ret
        exact ⟨rfl, b2.out⟩
    | false =>
      have hS1 : S = 0 := by rw [hS, if_neg (fun x => by cases x.2.1), if_pos rfl]
      subst hS1
      clear hS hT
      go_wp2
      go_ret
      exact ⟨rfl, b2.out⟩
  | false =>
    cases C with
    | true =>
      have hS1 : S = 1 := by rw [hS, if_neg (fun x => by cases x.1), if_neg (by simp), if_pos rfl]
      subst hS1
      clear hS hT
      go_wp2
      go_ret
      exact ⟨rfl, b2.out⟩
    | false =>
      have hS1 : S = -1 := by rw [hS, if_neg (fun x => by cases x.1), if_neg (by simp), if_neg (by simp)]
      subst hS1
      clear hS hT
      go_wp2
      go_ret
      exact ⟨rfl, b2.out⟩
end Go.Proofs.Ytfhdpafaamkipaa
