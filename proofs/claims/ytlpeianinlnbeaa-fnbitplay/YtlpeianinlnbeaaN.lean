/- The exact laws of stacks: BitPush, BitPop, BitTop, BitTurn: both contracts come to one value. -/
import Derived.Test.YtlpeianinlnbeaaL
namespace Go.Proofs.Ytlpeianinlnbeaa
open Go.RowKit
set_option linter.unusedVariables false

theorem nn16 (b n : Int) : nn 16 b n ≤ 16 := nn_le 16 b n

theorem walk9 (b n : Int) (x : Bool) (w : World) (hb : (Lit.int .u16 b).wf = true) (hn : (Lit.int .i64 n).wf = true) :
    Calls Try.prog 9 #[.agg #[.int .u16 b, .int .i64 n], .bool x] w fun e w' => e = .returned (.bool true) ∧ Below w.heap.size w w' := by
  have h := bounds_u16 hb
  have hB := nb_bd 16 b n h.1
  refine law9 b n x _ _ w (fun W => ?_) (fun W => impl_push16 b n x W h.1 (by omega))
  have hs := spec_push b n x W h.1 (by omega)
  rw [Ls_rev, Ls_length, val_push x _ _ (nn16 b n) hB.1 hB.2] at hs
  exact hs

theorem walk10 (b n : Int) (w : World) (hb : (Lit.int .u16 b).wf = true) (hn : (Lit.int .i64 n).wf = true) :
    Calls Try.prog 10 #[.agg #[.int .u16 b, .int .i64 n]] w fun e w' => e = .returned (.bool true) ∧ Below w.heap.size w w' := by
  have h := bounds_u16 hb
  have hB := nb_bd 16 b n h.1
  refine law10 b n _ _ _ w (fun W => ?_) (fun W => impl_pop16 b n W h.1 (by omega))
  rcases list_split (Ls b n) with hl | ⟨l', x, hl⟩
  · have hN : nn 16 b n = 0 := by rw [← Ls_length, hl]; rfl
    have hB0 : nb 16 b n = 0 := by have := hB.2; rw [hN] at this; have := hB.1; omega
    have hs := spec_pop_empty b n W h.1 (by omega) hl
    rw [hN, hB0]
    exact hs
  · have hr := Ls_rev b n
    rw [hl] at hr
    obtain ⟨m1, m2, m3, _⟩ := pop_math hr (nn16 b n) hB.1 hB.2
    have hs := spec_pop_some b n l' x W h.1 (by omega) hl
    rw [m2, m3, m1] at hs
    exact hs

theorem walk11 (b n : Int) (w : World) (hb : (Lit.int .u16 b).wf = true) (hn : (Lit.int .i64 n).wf = true) :
    Calls Try.prog 11 #[.agg #[.int .u16 b, .int .i64 n]] w fun e w' => e = .returned (.bool true) ∧ Below w.heap.size w w' := by
  have h := bounds_u16 hb
  have hB := nb_bd 16 b n h.1
  refine law11 b n _ w (fun W => ?_) (fun W => impl_top16 b n W h.1 (by omega))
  rcases list_split (Ls b n) with hl | ⟨l', x, hl⟩
  · have hN : nn 16 b n = 0 := by rw [← Ls_length, hl]; rfl
    have hB0 : nb 16 b n = 0 := by have := hB.2; rw [hN] at this; have := hB.1; omega
    rw [hB0]
    exact spec_top_empty b n W h.1 (by omega) hl
  · have hr := Ls_rev b n
    rw [hl] at hr
    obtain ⟨m1, _⟩ := pop_math hr (nn16 b n) hB.1 hB.2
    rw [← m1]
    exact spec_top_some b n l' x W h.1 (by omega) hl

theorem walk12 (b n : Int) (x : Bool) (w : World) (hb : (Lit.int .u16 b).wf = true) (hn : (Lit.int .i64 n).wf = true) :
    Calls Try.prog 12 #[.agg #[.int .u16 b, .int .i64 n], .bool x] w fun e w' => e = .returned (.bool true) ∧ Below w.heap.size w w' := by
  have h := bounds_u16 hb
  have hB := nb_bd 16 b n h.1
  rcases list_split (Ls b n) with hl | ⟨l', y, hl⟩
  · have hN : nn 16 b n = 0 := by rw [← Ls_length, hl]; rfl
    exact law12 b n x 0 0 w (fun W => spec_turn_empty b n x W h.1 (by omega) hl) (fun W => impl_turn_empty b n x W h.1 (by omega) hN)
  · have hr := Ls_rev b n
    rw [hl] at hr
    obtain ⟨_, _, _, m4, m5, m6⟩ := pop_math hr (nn16 b n) hB.1 hB.2
    refine law12 b n x _ _ w (fun W => ?_) (fun W => impl_turn_some b n x W h.1 (by omega) m4)
    have hs := spec_turn_some b n l' y x W h.1 (by omega) hl
    have e16 : min (l'.length + 1) 16 = nn 16 b n := by have := nn16 b n; rw [m5]; omega
    rw [m6, e16] at hs
    exact hs
end Go.Proofs.Ytlpeianinlnbeaa
