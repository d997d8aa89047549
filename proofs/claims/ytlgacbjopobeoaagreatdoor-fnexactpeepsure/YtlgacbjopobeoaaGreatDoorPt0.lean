/- Contacts that are ok, and tests of wholes. -/
import Derived.Test.YtlgacbjopobeoaaGreatDoorEcM
import Derived.Test.YtlgacbjopobeoaaGreatDoorDaM
namespace Go.Proofs.YtlgacbjopobeoaaGreatDoor
open Go.RowKit Go.Shelf
set_option linter.unusedVariables false

/-- A contact that is ok. -/
def isC (op : Int) (xs : List Arg) : Bool := decide (op ≤ 10) && rtk op xs
/-- A test of wholes, of a contact that is ok. -/
def twB (op : Int) (xs : List Arg) : Bool := decide (5 ≤ op) && (okA (xs.getD 0 (0, 0, 0)).1 (xs.getD 0 (0, 0, 0)).2.1 (xs.getD 0 (0, 0, 0)).2.2 && kW (xs.getD 0 (0, 0, 0)).1)
theorem isC_cases {op : Int} {xs : List Arg} (h : isC op xs = true) :
    ((op = 1 ∨ op = 2) ∧ ∃ k n p, xs = [(k, n, p)] ∧ okA k n p = true ∧ kB k = true) ∨ (3 ≤ op ∧ op ≤ 10 ∧ ∃ k n p k1 n1 p1, xs = [(k, n, p), (k1, n1, p1)]) := by
  unfold isC at h
  rw [Bool.and_eq_true, decide_eq_true_eq] at h
  obtain ⟨h1, h2⟩ := h
  obtain ⟨hl, hne⟩ := rtk_len h2
  have h3 : 1 ≤ op := by
    by_cases hc : op < 1
    · have e : ndP op = [] := by unfold ndP; repeat rw [if_neg (by omega)]
      rw [nd_none op e] at h2; cases h2
    · omega
  obtain rfl | rfl | rfl | rfl | rfl | rfl | rfl | rfl | rfl | rfl : op = 1 ∨ op = 2 ∨ op = 3 ∨ op = 4 ∨ op = 5 ∨ op = 6 ∨ op = 7 ∨ op = 8 ∨ op = 9 ∨ op = 10 := by omega
  · obtain ⟨k, n, p, rfl⟩ := len1 (hl.trans rfl)
    rw [show rtk 1 [(k, n, p)] = (okA k n p && kB k) by rw [rtk, show ndP 1 = [1] from rfl, show orP 1 = [] from rfl, tk1, tk0, Bool.or_false, pp1], Bool.and_eq_true] at h2
    exact .inl ⟨.inl rfl, k, n, p, rfl, h2.1, h2.2⟩
  · obtain ⟨k, n, p, rfl⟩ := len1 (hl.trans rfl)
    rw [show rtk 2 [(k, n, p)] = (okA k n p && kB k) by rw [rtk, show ndP 2 = [1] from rfl, show orP 2 = [] from rfl, tk1, tk0, Bool.or_false, pp1], Bool.and_eq_true] at h2
    exact .inl ⟨.inr rfl, k, n, p, rfl, h2.1, h2.2⟩
  all_goals
    obtain ⟨k, n, p, k1, n1, p1, rfl⟩ := len2 (hl.trans rfl)
    exact .inr ⟨by decide, by decide, k, n, p, k1, n1, p1, rfl⟩

theorem Ops.c3 {w : World} {b o : Nat} {xs : List Arg} (h : Ops w b o xs) {j : Nat} {k n p : Int} (hj : xs[j]? = some (k, n, p)) {o' : Nat} (ho : o' = o + j * 3) :
    w.cell? ⟨b, o', none⟩ = some (.int .i64 k) ∧ w.cell? ⟨b, o' + 1, none⟩ = some (.int .i64 n) ∧ w.cell? ⟨b, o' + 1 + 1, none⟩ = some (.int .i64 p) := by
  subst ho; exact h j _ hj

set_option maxRecDepth 10000 in
set_option maxHeartbeats 1000000 in
theorem tests_i (op : Int) (a : Option Addr) (len cap : Nat) (xs : List Arg) (w : World) (hT : KT w) (hl : len = xs.length) (hx : Sl w a xs) (h5 : 5 ≤ op → xs ≠ []) :
    Calls Tryz.prog 133 #[.agg #[.int .i64 op, .slice a len cap]] w fun e w' => e = .returned (.bool (twB op xs)) ∧ Below w.heap.size w w' := by
  have b0 : Below w.heap.size w (w.alloc (.cells #[.int .i64 op, .slice a len cap] 64)) := (Below.refl _ _).alloc (Nat.le_refl _) _
  by_cases h : 5 ≤ op
  · have hne := h5 h
    match xs, hne with
    | (k, n, p) :: r, _ =>
      obtain ⟨b, o, rfl, ho⟩ : ∃ b o, a = some ⟨b, o, none⟩ ∧ Ops w b o ((k, n, p) :: r) := by
        rcases hx with h | h
        · cases h
        · exact h
      have hO : Ops (w.alloc (.cells #[.int .i64 op, .slice (some ⟨b, o, none⟩) len cap] 64)) b o ((k, n, p) :: r) := ho.later b0
      obtain ⟨x0, x1, x2⟩ := hO.c3 (j := 0) rfl (o' := o) (by omega)
      have i1 : (0 : Int) < (len : Int) := by rw [hl]; simp <;> omega
      have HW : Hid (∀ W, KT W → Calls Tryz.prog 198 #[.agg #[.int .i64 k, .int .i64 n, .int .i64 p]] W fun e w' => e = .returned (.bool (okA k n p && kW k)) ∧ Below W.heap.size W w') := fun W h => impl_iswhole k n p W h
      rw [show twB op ((k, n, p) :: r) = (okA k n p && kW k) by unfold twB; rw [decide_eq_true h]; rfl]
      generalize (okA k n p && kW k) = R at HW ⊢
      clear hl hx h5 hne ho hO
      go_enter Tryz.func133, Tryz.ntmps133
      go_wp2_with fail
      refine (HW.out _ (hT.alloc _)).mono ?_
      rintro e w1 ⟨rfl, g1⟩
      have b1 := b0.trans (g1.mono b0.size)
      clear g1 b0
      go_wp2
      go_ret
      exact ⟨rfl, b1⟩
  · rw [show twB op xs = false by unfold twB; rw [decide_eq_false h]; rfl]
    have h' : op < 5 := by omega
    clear hl hx h5
    go_enter Tryz.func133, Tryz.ntmps133
    go_wp2
    go_ret
    exact ⟨rfl, b0⟩

end Go.Proofs.YtlgacbjopobeoaaGreatDoor
