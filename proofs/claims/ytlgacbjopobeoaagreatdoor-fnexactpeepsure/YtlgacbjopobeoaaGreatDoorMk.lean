/- MemReal, the program's and the specification's; the law FnExactMemReal. -/
import Derived.Test.YtlgacbjopobeoaaGreatDoorMbM
import Derived.Test.YtlgacbjopobeoaaGreatDoorMfM
import Derived.Test.YtlgacbjopobeoaaGreatDoorMmM
import Derived.Test.YtlgacbjopobeoaaGreatDoorAr
import Derived.Deep.Cut
namespace Go.Proofs.YtlgacbjopobeoaaGreatDoor
open Go.RowKit Go.Shelf
set_option linter.unusedVariables false

/-- What real number an operand asks for. -/
def MRv (c : Array Value) (k n p : Int) (v : Nat) : Prop := (k = 10 ∧ c[117 + (pl k n).toNat]? = some (.float .f64 v)) ∨ (k ≠ 10 ∧ ArgV k n p v)
theorem mrv_same {c : Array Value} {k n p : Int} {x y : Nat} (hx : MRv c k n p x) (hy : MRv c k n p y) : Same x y := by
  rcases hx with ⟨h, hx⟩ | ⟨h, hx⟩
  · rcases hy with ⟨_, hy⟩ | ⟨h', _⟩
    · rw [hx] at hy
      injection hy with hy
      injection hy with _ hy
      exact Or.inl hy
    · exact absurd h h'
  · rcases hy with ⟨h', _⟩ | ⟨_, hy⟩
    · exact absurd h' h
    · exact arg_same hx hy
theorem mk_wf {x : Nat} (h : FloatKind.has .f64 x) : (Lit.float .f64 x).wf = true := by
  simpa [Lit.wf, FloatKind.has] using h
theorem mk_arg_info : (Tryz.prog.info? 211).map (·.size) = some 3 := by kernel_rfl

section
variable {P : Program} {ops : Array Oper} {Q : Exit → Act → World → Prop} {S : World → Prop} {md : Region.Mode}
theorem tk_assign' {i : Nat} {oi : Oper} {fuel : Nat} {listed : Array Bool} {a : Act} {w : World} (hi : ops[i]? = some oi)
    (hs : Region.noSelect ops = true) (hf : Region.free md ops listed i = true) (hr : (Region.ready md ops listed).contains i = true)
    (hQ : ∀ (v : Value) c a w, Q (.panic c) (a.put oi.dst v) w → Q (.panic c) a w) (hw : Region.wanted oi (yielded ops a.tmps) = true) (x : Operand) (ho : oi.op = .assign x) (v : Value) (hx : a.eval x = v) (hS : S w)
    (l' : Array Bool) (hl : listed.setIfInBounds i true = l') (a' : Act) (ha : a.put oi.dst v = a')
    (h : wpAnyH P md ops Q S fuel l' a' w) : wpAnyH P md ops Q S (fuel + 1) listed a w := by
  subst hl ha
  exact wpAnyH_take hi hs hf hr (hQ v) (.inl ⟨hw, fun w hw' => by
    unfold execOp
    simp [ho, hx]⟩) hS h
end


set_option maxHeartbeats 1000000 in
theorem real_i (c : Array Value) (hc : MemOk c) (k n p : Int) (w : World) (hT : KT w) : Calls Tryz.prog 335 #[.agg c, .agg #[.int .i64 k, .int .i64 n, .int .i64 p]] w fun e w' => ∃ v, e = .returned (.float .f64 v) ∧ MRv c k n p v ∧ (Lit.float .f64 v).wf = true ∧ Below w.heap.size w w' := by
  have HT : Hid (KT w) := hT
  clear hT
  by_cases hk : k = 10
  · subst hk
    obtain ⟨q0, q1⟩ := pl_lt 10 n (by decide)
    rw [show kZ 10 = 16 from rfl] at q1
    obtain ⟨q, hq⟩ : ∃ q : Nat, pl 10 n = q := ⟨(pl 10 n).toNat, by omega⟩
    rw [hq] at q0 q1
    have hq16 : q < 16 := by omega
    obtain ⟨x, hx, hh⟩ := hc.f64 (i := 117 + q) (by omega) (kd_r hq16)
    have HV : Hid (MRv c 10 n p x) := Or.inl ⟨rfl, by rw [hq, Int.toNat_natCast]; exact hx⟩
    have HW : Hid ((Lit.float .f64 x).wf = true) := mk_wf hh
    clear hc hh
    go_enter Tryz.func335, Tryz.ntmps335
    go_wp2_with fail
    refine (place_r _ _ _ _ ((HT.out.alloc _).alloc _)).mono ?_
    rintro e w1 ⟨rfl, g1⟩
    have b1 : Below w.heap.size w w1 := (((Below.refl _ _).alloc (Nat.le_refl _) _).alloc (by simp) _).trans (g1.mono (by simp <;> omega))
    have h1 : w1.heap[w.heap.size]? = some (.cells c 39 (0, 0)) := (g1.block _ (by simp <;> omega)).trans (rows2 w _ _).1
    clear g1
    have r1 : w1.cell? ⟨w.heap.size, 117 + q, none⟩ = some (.float .f64 x) := by rw [cell_of_row _ _ _ _ _ _ h1]; exact hx
    rw [hq]
    clear hq
    go_wp2
    go_ret
    exact ⟨x, rfl, HV.out, HW.out, b1⟩
  · have e10 : (k == 10) = false := by simp [hk]
    have HK : Hid (k ≠ 10) := hk
    clear hk hc
    go_enter Tryz.func335, Tryz.ntmps335
    go_wp2_with fail
    refine (impl_arg k n p _ ((HT.out.alloc _).alloc _)).mono ?_
    rintro e w1 ⟨v, rfl, hv, hf, g1⟩
    have HV : Hid (MRv c k n p v) := Or.inr ⟨HK.out, hv⟩
    have HW : Hid ((Lit.float .f64 v).wf = true) := hf
    have b1 : Below w.heap.size w w1 := (((Below.refl _ _).alloc (Nat.le_refl _) _).alloc (by simp) _).trans (g1.mono (by simp <;> omega))
    clear g1 hv hf
    go_wp2
    go_ret
    exact ⟨v, rfl, HV.out, HW.out, b1⟩

set_option maxHeartbeats 1000000 in
theorem real_s (c : Array Value) (hc : MemOk c) (k n p : Int) (w : World) : Calls Tryz.prog 228 #[.agg c, .agg #[.int .i64 k, .int .i64 n, .int .i64 p]] w fun e w' => ∃ v, e = .returned (.float .f64 v) ∧ MRv c k n p v ∧ (Lit.float .f64 v).wf = true ∧ Below w.heap.size w w' := by
  by_cases hk : k = 10
  · subst hk
    obtain ⟨q0, q1⟩ := pl_lt 10 n (by decide)
    rw [show kZ 10 = 16 from rfl] at q1
    obtain ⟨q, hq⟩ : ∃ q : Nat, pl 10 n = q := ⟨(pl 10 n).toNat, by omega⟩
    rw [hq] at q0 q1
    have hq16 : q < 16 := by omega
    obtain ⟨x, hx, hh⟩ := hc.f64 (i := 117 + q) (by omega) (kd_r hq16)
    have HV : Hid (MRv c 10 n p x) := Or.inl ⟨rfl, by rw [hq, Int.toNat_natCast]; exact hx⟩
    have HW : Hid ((Lit.float .f64 x).wf = true) := mk_wf hh
    clear hc hh
    go_enter Tryz.func228, Tryz.ntmps228
    go_wp2_with fail
    refine (at_r _ _ _ _).mono ?_
    rintro e w1 ⟨rfl, g1⟩
    have b1 : Below w.heap.size w w1 := (((Below.refl _ _).alloc (Nat.le_refl _) _).alloc (by simp) _).trans (g1.mono (by simp <;> omega))
    have h1 : w1.heap[w.heap.size]? = some (.cells c 39 (0, 0)) := (g1.block _ (by simp <;> omega)).trans (rows2 w _ _).1
    clear g1
    have r1 : w1.cell? ⟨w.heap.size, 117 + q, none⟩ = some (.float .f64 x) := by rw [cell_of_row _ _ _ _ _ _ h1]; exact hx
    rw [hq]
    clear hq
    go_wp2
    go_ret
    exact ⟨x, rfl, HV.out, HW.out, b1⟩
  · have e10 : (k == 10) = false := by simp [hk]
    have HK : Hid (k ≠ 10) := hk
    clear hk hc
    go_enter Tryz.func228, Tryz.ntmps228
    go_wp2_with fail
    refine (spec_arg k n p _).mono ?_
    rintro e w1 ⟨v, rfl, hv, hf, g1⟩
    have HV : Hid (MRv c k n p v) := Or.inr ⟨HK.out, hv⟩
    have HW : Hid ((Lit.float .f64 v).wf = true) := hf
    have b1 : Below w.heap.size w w1 := (((Below.refl _ _).alloc (Nat.le_refl _) _).alloc (by simp) _).trans (g1.mono (by simp <;> omega))
    clear g1 hv hf
    go_wp2
    go_ret
    exact ⟨v, rfl, HV.out, HW.out, b1⟩

end Go.Proofs.YtlgacbjopobeoaaGreatDoor
