/- Bytes of one's own, appended to, copied; the specification's l18Copy. Made by tools/gen19_hby.py. -/
import Derived.Test.YtfhdpafaamkipaaHsa
import Derived.Deep.AppendLies
import Derived.Deep.Light
import Derived.Deep.MidRow
import Derived.Deep.Onto
namespace Go.Proofs.Ytfhdpafaamkipaa
open Go.RowKit
set_option linter.unusedVariables false
set_option linter.unusedSimpArgs false

section
variable {P : Program} {w : World}
theorem wpList_appB {ops : Array Oper} {rest : List Oper} {o : Oper} {a : Act} {Q : Exit → Act → World → Prop} (hgd : o.guard = none) (s x : Operand) (t : TypeId)
    (ho : o.op = .call { callee := .builtin .append, args := #[s, x], argTypes := #[t, t] }) (v y : Value) (hs : a.eval s = v) (hx : a.eval x = y) (v' : Value) (w' : World)
    (hr : ∀ ty, (Builtin.append_ #[t, t] ty #[v, y]).run P w = .ok v' w') (h : wpList P ops Q rest (a.put o.dst v') w') : wpList P ops Q (o :: rest) a w :=
  wpList_plain hgd fun K hK => by
    unfold Oper.wp execOp
    simp only [ho, resolve, invoke, builtin, Sem.run_bind, Sem.run_pure, Result.andThen_ok, List.map_toArray, List.map_cons, List.map_nil, hs, hx, hr]
    exact hK _ _ h
end
/-- The cells of bytes. -/
def clB (l : List Nat) : List Value := l.map fun b => .int .u8 (b : Nat)
theorem clB_app (l m : List Nat) : clB (l ++ m) = clB l ++ clB m := by simp [clB]
theorem clB_len (l : List Nat) : (clB l).length = l.length := by simp [clB]
/-- Bytes at a slice of one's own. -/
def OwB (w : World) (base : Nat) (v : Value) (l : List Nat) : Prop := w.ownsRow base 5 1 v l.length (clB l)
theorem clB_get {l : List Nat} {j : Nat} {u : Value} (h : (clB l)[j]? = some u) : ∃ b, l[j]? = some b ∧ u = .int .u8 (b : Nat) := by
  unfold clB at h
  rw [List.getElem?_map] at h
  cases hb : l[j]? with
  | none => rw [hb] at h; cases h
  | some b => rw [hb] at h; exact ⟨b, rfl, (Option.some.inj h).symm⟩
theorem clB_one (l : List Nat) : ∀ u ∈ clB l, u.oneCell' = true := by
  intro u hu
  simp [clB] at hu
  obtain ⟨b, _, rfl⟩ := hu
  rfl
theorem own_madeB (w : World) (base : Nat) (hb : base ≤ w.heap.size) (l : List Nat) (hl : l.length ≤ 1000000) : OwB (w.alloc (.cells (clB l).toArray 5)) base (.slice (some ⟨w.heap.size, 0, none⟩) l.length l.length) l := by
  refine ⟨by rw [clB_len]; omega, .inr ⟨w.heap.size, l.length, (clB l).toArray, rfl, hb, heap_alloc_last _ _, Nat.le_refl _, by unfold maxLen; omega, by simp [clB_len], ?_⟩⟩
  rw [List.take_of_length_le (by simp [clB_len])]
theorem owb_at {W : World} {H g n cap : Nat} {l : List Nat} (h : OwB W H (.slice (some ⟨g, 0, none⟩) n cap) l) : ∀ j x, l[j]? = some x → W.cell? ⟨g, j, none⟩ = some (.int .u8 (x : Nat)) := fun j x hx => by
  have hc : (clB l)[j]? = some (.int .u8 (x : Nat)) := by unfold clB; rw [List.getElem?_map, hx]; rfl
  have := World.ownsRow.cells h (g := g) rfl j _ hc
  rwa [show (⟨g, 0, none⟩ : Addr).add j = ⟨g, 0 + j, none⟩ from Addr.add_mid g 0 j, Nat.zero_add] at this
theorem owb_len {W : World} {H n cap : Nat} {a : Option Addr} {l : List Nat} (h : OwB W H (.slice a n cap) l) : n = l.length := by
  rcases h.2 with ⟨hv, h0⟩ | ⟨g, cp, cur, hv, _⟩
  · simp only [Value.slice.injEq] at hv; omega
  · simp only [Value.slice.injEq] at hv; exact hv.2.1
theorem owb_base {W : World} {H H' : Nat} {v : Value} {l : List Nat} (h : OwB W H v l) (hH : H' ≤ H) : OwB W H' v l := World.ownsRow.mono h hH
theorem owb_made (W : World) (H : Nat) (hH : H ≤ W.heap.size) : OwB (W.alloc (.cells #[] 5)) H (.slice (some ⟨W.heap.size, 0, none⟩) 0 0) [] := own_madeB W H hH [] (by simp)
/-- Bytes, none or some, behind a row of one's own. -/
theorem appB (W : World) (H g0 n cap m c : Nat) (l k : List Nat) (sa : Option Addr) (own0 : OwB W H (.slice (some ⟨g0, 0, none⟩) n cap) l) (hm : m = k.length) (hbig : n + m ≤ 1048576) (hH : H ≤ W.heap.size)
    (hsrc : 0 < m → ∃ b o, sa = some ⟨b, o, none⟩ ∧ ∀ j x, k[j]? = some x → W.cell? ⟨b, o + j, none⟩ = some (.int .u8 (x : Nat))) :
    ∃ (g cap' : Nat) (w' : World), (∀ ty, (Builtin.append_ #[22, 22] ty #[.slice (some ⟨g0, 0, none⟩) n cap, .slice sa m c]).run Try.prog W = .ok (.slice (some ⟨g, 0, none⟩) (n + m) cap') w') ∧ OwB w' H (.slice (some ⟨g, 0, none⟩) (n + m) cap') (l ++ k) ∧ W.grownBy w' (some g0) ∧ (g = g0 ∨ g = W.heap.size) := by
  obtain ⟨ti, hi, hz0, hz1, hz2⟩ := info_parts infoU8
  have hn := owb_len own0
  by_cases h0 : 0 < m
  · obtain ⟨b, o, rfl, hc⟩ := hsrc h0
    have hrun := fun ty => run_append_lies (P := Try.prog) W 22 ty H 5 ti (.int .u8 0) 1 1 Try.underlying22 hi hz0 hz1 hz2 rfl (by decide) (.slice (some ⟨g0, 0, none⟩) n cap) n (clB l) (by unfold OwB at own0; rw [← hn] at own0; exact own0) ⟨b, o, none⟩ m c (clB k) (by rw [clB_len, hm]; omega) (fun j u hu => by
      rw [show (⟨b, o, none⟩ : Addr).add j = ⟨b, o + j, none⟩ from Addr.add_mid b o j]
      obtain ⟨x, hx, rfl⟩ := clB_get hu
      exact hc j x hx) (clB_one k) h0 (by unfold maxLen; omega) (by omega) hH _ rfl
    obtain ⟨g, cap', w', hr, own, gg, hat, hlt⟩ := hrun 22
    refine ⟨g, cap', w', fun ty => ?_, ?_, gg, ?_⟩
    · have : (Builtin.append_ #[22, 22] ty #[.slice (some ⟨g0, 0, none⟩) n cap, .slice (some ⟨b, o, none⟩) m c]).run Try.prog W = (Builtin.append_ #[22, 22] 22 #[.slice (some ⟨g0, 0, none⟩) n cap, .slice (some ⟨b, o, none⟩) m c]).run Try.prog W := by simp only [Builtin.append_]
      rw [this, hr]
    · unfold OwB
      rw [clB_app, List.length_append, ← hn, ← hm]
      exact own
    · rcases hat with h | h
      · exact .inl (by simpa [Value.ownBlock] using h.symm)
      · exact .inr h
  · have hm0 : m = 0 := by omega
    subst hm0
    have hx : k = [] := List.length_eq_zero_iff.1 hm.symm
    subst hx
    have hcap : n ≤ cap := by
      rcases own0.2 with ⟨h', _⟩ | ⟨g', cap', cur, h', hb, hg, hnc, _⟩
      · simp at h'
      · simp only [Value.slice.injEq, Option.some.injEq, Addr.mk.injEq, and_true] at h'
        omega
    refine ⟨g0, cap, W, fun ty => ?_, by simpa using own0, gb_refl18 _ _, .inl rfl⟩
    cases sa with
    | none => simp [Builtin.append_, run_underlying Try.underlying22, sizeOf, typeInfo, hi, Builtin.lenOf, Builtin.firstCells, storeCells, hcap]
    | some ad => simp [Builtin.append_, run_underlying Try.underlying22, sizeOf, typeInfo, hi, Builtin.lenOf, Builtin.firstCells, loadCells, loadCellsFrom, storeCells, hcap]
/-- A list's bytes by their places. -/
def fL (l : List Nat) (j : Nat) : Nat := l.getD j 0
set_option maxRecDepth 10000 in
set_option maxHeartbeats 2000000 in
theorem copy_s (a : Option Addr) (n c : Nat) (l : List Nat) (w : World) (hl : n = l.length) (hn : n ≤ 1048576) (h : Bt w a n (fL l)) :
    Calls Try.prog 43 #[.slice a n c] w fun e w' => ∃ g c', e = .returned (.slice (some ⟨g, 0, none⟩) n c') ∧ OwB w' w.heap.size (.slice (some ⟨g, 0, none⟩) n c') l ∧ Below w.heap.size w w' := by
  obtain ⟨g1, cap1, W1, hr, ho, hg, hat⟩ := appB (w.alloc (.cells #[] 5)) w.heap.size w.heap.size 0 0 n c [] l a (owb_made w w.heap.size (Nat.le_refl _)) hl (by omega) (by simp) (fun h0 => by
    rcases h with h | ⟨b, o, e, hb, hc⟩
    · omega
    · refine ⟨b, o, e, fun j x hx => ?_⟩
      have hj : j < n := by rw [hl]; exact (List.getElem?_eq_some_iff.1 hx).1
      have := hc j hj
      unfold fL at this
      rw [List.getD_eq_getElem?_getD, hx] at this
      exact (((Below.refl _ _).alloc (Nat.le_refl _) _).cell (p := ⟨b, o + j, none⟩) hb).trans this)
  simp only [Nat.zero_add, List.nil_append] at hr ho
  have HR : Hid (∀ ty, (Builtin.append_ #[22, 22] ty #[.slice (some ⟨w.heap.size, 0, none⟩) 0 0, .slice a n c]).run Try.prog (w.alloc (.cells #[] 5)) = .ok (.slice (some ⟨g1, 0, none⟩) n cap1) W1) := hr
  have HF : Hid (OwB W1 w.heap.size (.slice (some ⟨g1, 0, none⟩) n cap1) l ∧ Below w.heap.size w W1) := ⟨ho, ((Below.refl _ _).alloc (Nat.le_refl _) _).grown hg (by simp) (fun j hj => by cases hj; omega)⟩
  clear hr ho hg hat h hl
  go_enter Try.func43, Try.ntmps43
  go_wp2_with (at_builtin; refine wpList_appB rfl _ _ 22 rfl _ _ rfl rfl _ _ HR.out ?_)
  go_ret
  exact ⟨g1, cap1, rfl, HF.out.1, HF.out.2⟩
end Go.Proofs.Ytfhdpafaamkipaa
