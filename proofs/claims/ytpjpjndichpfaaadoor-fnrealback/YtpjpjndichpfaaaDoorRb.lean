/- The specification's draws of a real number and of a text. -/
import Derived.Test.YtpjpjndichpfaaaDoorRl
import Derived.Test.YtpjpjndichpfaaaDoorTu
namespace Go.Proofs.YtpjpjndichpfaaaDoor
open Go.RowKit
open Go.Lib (decDigits itoa)
set_option linter.unusedVariables false

theorem gb_open' {w w1 w2 : World} (g1 : Below w.heap.size w w1) (g2 : w1.grownBy w2 (some w.heap.size)) (h : w.heap.size < w1.heap.size) : Below w.heap.size w w2 :=
  g1.grown g2 (by omega) (fun j hj => by cases hj; omega)

set_option maxHeartbeats 1000000 in
theorem draw_rtext {w : World} {a : Option Addr} {len cap blk off : Nat} {z : Nat → Int} (h : Code0 w a len cap blk off z) :
    Calls Tryd.prog 21 #[.slice a len cap] w fun e w' => ∃ v : Nat, e = .returned (.float .f64 v) ∧ v < 18446744073709551616 ∧ Below w.heap.size w w' := by
  go_enter Tryd.func21, Tryd.ntmps21
  go_wp2_with fail
  refine (h.open).mono ?_
  rintro e w1 ⟨rfl, h1, g1⟩
  have hB1 := h1.2.1
  clear h
  go_wp2_with fail
  refine (real_r _ _ _ _ h1 (by omega)).mono ?_
  rintro e w2 ⟨v, rfl, hv, ⟨q2, hq2, h2⟩, g2⟩
  have HV : Hid (v < 18446744073709551616) := hv
  clear hv
  go_wp2
  go_ret
  exact ⟨v, rfl, HV.out, gb_open' g1 g2 (by omega)⟩

def texts28 : List ByteArray := [⟨#[]⟩, ⟨#[45]⟩, ⟨#[49]⟩, ⟨#[49, 42, 50, 94, 48]⟩, ⟨#[50, 42, 50, 94, 48]⟩, ⟨#[48, 42, 50, 94, 48]⟩, ⟨#[45, 48, 42, 50, 94, 48]⟩, ⟨#[49, 42, 50, 94, 49, 48, 50, 51]⟩, ⟨#[49, 42, 50, 94, 49, 48, 50, 52]⟩, ⟨#[51, 42, 50, 94, 49, 48, 50, 50]⟩, ⟨#[51, 42, 50, 94, 49, 48, 50, 51]⟩, ⟨#[49, 42, 50, 94, 45, 49, 48, 55, 52]⟩, ⟨#[49, 42, 50, 94, 45, 49, 48, 55, 53]⟩, ⟨#[57, 48, 48, 55, 49, 57, 57, 50, 53, 52, 55, 52, 48, 57, 57, 49, 42, 50, 94, 57, 55, 49]⟩, ⟨#[57, 48, 48, 55, 49, 57, 57, 50, 53, 52, 55, 52, 48, 57, 57, 49, 42, 50, 94, 57, 55, 50]⟩, ⟨#[57, 48, 48, 55, 49, 57, 57, 50, 53, 52, 55, 52, 48, 57, 57, 51, 42, 50, 94, 48]⟩, ⟨#[49, 42, 50, 94, 43, 51]⟩, ⟨#[49, 42, 50, 94]⟩, ⟨#[49, 42, 50]⟩, ⟨#[42, 50, 94, 51]⟩, ⟨#[48, 49, 42, 50, 94, 51]⟩, ⟨#[49, 42, 50, 94, 48, 51]⟩, ⟨#[45, 45, 49, 42, 50, 94, 51]⟩, ⟨#[45, 110, 97, 110]⟩, ⟨#[45, 105, 110, 102]⟩, ⟨#[57, 48, 48, 55, 49, 57, 57, 50, 53, 52, 55, 52, 48, 57, 57, 49, 42, 50, 94, 45, 49, 48, 55, 52]⟩, ⟨#[49, 42, 50, 94, 45, 48]⟩, ⟨#[51, 42, 50, 94, 45, 49, 48, 55, 52, 32]⟩]
def textsA : List ByteArray := [⟨#[48]⟩, ⟨#[32]⟩, ⟨#[42]⟩, ⟨#[49]⟩]
def textsB : List ByteArray := [⟨#[45]⟩, ⟨#[48]⟩, ⟨#[32]⟩, ⟨#[49]⟩]
theorem texts_small : (∀ v ∈ texts28, v.size ≤ 30) ∧ (∀ v ∈ textsA, v.size ≤ 30) ∧ (∀ v ∈ textsB, v.size ≤ 30) := by
  refine ⟨?_, ?_, ?_⟩ <;> decide +kernel
theorem rowS (w : World) (xs : List ByteArray) (t : TypeId) : ∀ j x, xs[j]? = some x → (w.alloc (.cells (xs.map Value.string).toArray t)).cell? ⟨w.heap.size, j, none⟩ = some (.string x) := by
  intro j x hj
  rw [World.cell?_alloc_at _ _ _ _ rfl]
  simp [hj]

def IsTxt (e : Ending) : Prop := ∃ s : ByteArray, s.size ≤ 200 ∧ e = .returned (.string s)

set_option maxRecDepth 100000 in
set_option maxHeartbeats 4000000 in
theorem draw_rread {a : Option Addr} {len cap blk off : Nat} {z : Nat → Int} (w : World) (h : Code0 w a len cap blk off z) :
    Calls Tryd.prog 25 #[.slice a len cap] w fun e w' => IsTxt e ∧ Below w.heap.size w w' := by
  go_enter Tryd.func25, Tryd.ntmps25
  go_wp2_with fail
  refine h.open.mono ?_
  rintro e w1 ⟨rfl, h1, b1⟩
  have hB1 := h1.2.1
  go_wp2_with fail
  refine (real_r _ _ 0 _ h1 (by omega)).mono ?_
  rintro e w2 ⟨v, rfl, hv, ⟨q, hq, h2⟩, g2⟩
  have b2 : Below w.heap.size w w2 := b1.grown g2 (by omega) (fun j hj => by cases hj; omega)
  clear g2 h1 b1
  have HX : Hid (∀ W, Calls Tryd.prog 36 #[.float .f64 v] W fun e w' => ∃ t, e = .returned (.string (tx t)) ∧ Txt v t ∧ Below W.heap.size W w') := fun W => spec_rtext v W hv
  clear hv
  go_wp2_with fail
  refine (HX.out _).mono ?_
  rintro e w3 ⟨t0, rfl, ht, g3⟩
  have hsm : (tx t0).size ≤ 51 := by rw [tx_size]; exact ht.len
  clear ht
  obtain ⟨X, HXX⟩ : ∃ X, Hid (X = tx t0) := ⟨_, Eq.refl (tx t0)⟩
  rw [← HXX.out] at hsm ⊢
  clear HXX
  have h3 := h2.later g3
  have b3 := b2.trans (g3.mono b2.size)
  clear g3 h2 b2 HX
  go_wp2_with fail
  refine (pick_r _ _ q 9 _ h3 (by omega) (by omega) (by omega)).mono ?_
  rintro e w4 ⟨t, t1, rfl, h4, g4⟩
  have hB3 := h3.2.1
  have b4 : Below w.heap.size w w4 := b3.grown g4 (by omega) (fun j hj => by cases hj; omega)
  have hB4 := h4.2.1
  clear g4 h3 b3
  by_cases t0 : t = 0
  · subst t0
    go_wp2_with fail
    refine (of_r _ _ (q + 1) w4.heap.size texts28 28 _ (h4.alloc _) (by decide) (by decide) (by omega) (by omega) (by exact rowS w4 texts28 9)).mono ?_
    rintro e w5 ⟨v, hv, rfl, h5, g5⟩
    have hv' := texts_small.1 v hv
    have b5 : Below w.heap.size w w5 := (b4.alloc (by omega) _).grown g5 (by simp; omega) (fun j hj => by cases hj; omega)
    clear g5 b4 hv
    go_wp2
    go_ret
    exact ⟨⟨v, by omega, rfl⟩, b5⟩
  · have t0' : ((t : Int) == 0) = false := by rw [beq_eq_false_iff_ne]; omega
    by_cases t2 : t = 1
    · subst t2
      go_wp2_with fail
      refine (of_r _ _ (q + 1) w4.heap.size textsA 4 _ (h4.alloc _) (by decide) (by decide) (by omega) (by omega) (by exact rowS w4 textsA 9)).mono ?_
      rintro e w5 ⟨v, hv, rfl, h5, g5⟩
      have hv' := texts_small.2.1 v hv
      have b5 : Below w.heap.size w w5 := (b4.alloc (by omega) _).grown g5 (by simp; omega) (fun j hj => by cases hj; omega)
      clear g5 b4 hv
      go_wp2
      go_ret
      exact ⟨⟨X ++ v, by rw [ByteArray.size_append]; omega, rfl⟩, b5⟩
    · have t2' : ((t : Int) == 1) = false := by rw [beq_eq_false_iff_ne]; omega
      by_cases t3 : t = 2
      · subst t3
        go_wp2_with fail
        refine (of_r _ _ (q + 1) w4.heap.size textsB 4 _ (h4.alloc _) (by decide) (by decide) (by omega) (by omega) (by exact rowS w4 textsB 9)).mono ?_
        rintro e w5 ⟨v, hv, rfl, h5, g5⟩
        have hv' := texts_small.2.2 v hv
        have b5 : Below w.heap.size w w5 := (b4.alloc (by omega) _).grown g5 (by simp; omega) (fun j hj => by cases hj; omega)
        clear g5 b4 hv
        go_wp2
        go_ret
        exact ⟨⟨v ++ X, by rw [ByteArray.size_append]; omega, rfl⟩, b5⟩
      · have t3' : ((t : Int) == 2) = false := by rw [beq_eq_false_iff_ne]; omega
        go_wp2
        go_ret
        exact ⟨⟨X, by omega, rfl⟩, b4⟩
end Go.Proofs.YtpjpjndichpfaaaDoor
