/- ElemArity and ElemName, the program's and the specification's. -/
import Derived.Test.YtbncgacnikmomaaDaM
import Derived.Test.YtbncgacnikmomaaLy
import Derived.Lib.QuietBelow
import Derived.Deep.Cut
namespace Go.Proofs.Ytbncgacnikmomaa
open Go.RowKit Go.Shelf
set_option linter.unusedVariables false

theorem op_cases (op : Int) : (op < 0 ∨ 38 ≤ op) ∨ ∃ n : Nat, n < 38 ∧ op = n := by
  by_cases h : op < 0 ∨ 38 ≤ op
  · exact .inl h
  · exact .inr ⟨op.toNat, by omega, by omega⟩

def okPl (l : List Nat) : Bool := decide (l.length ≤ 3) && l.all fun c => decide (1 ≤ c) && decide (c ≤ 13)
theorem nd_ok (op : Int) : okPl (ndP op) = true := by
  rcases op_cases op with h | ⟨n, hn, rfl⟩
  · rw [(out_all op h).2.2.1]; rfl
  · rcases c38 n hn with rfl | rfl | rfl | rfl | rfl | rfl | rfl | rfl | rfl | rfl | rfl | rfl | rfl | rfl | rfl | rfl | rfl | rfl | rfl | rfl | rfl | rfl | rfl | rfl | rfl | rfl | rfl | rfl | rfl | rfl | rfl | rfl | rfl | rfl | rfl | rfl | rfl | rfl
    all_goals rfl
theorem or_ok (op : Int) : okPl (orP op) = true := by
  rcases op_cases op with h | ⟨n, hn, rfl⟩
  · rw [(out_all op h).2.2.2]; rfl
  · rcases c38 n hn with rfl | rfl | rfl | rfl | rfl | rfl | rfl | rfl | rfl | rfl | rfl | rfl | rfl | rfl | rfl | rfl | rfl | rfl | rfl | rfl | rfl | rfl | rfl | rfl | rfl | rfl | rfl | rfl | rfl | rfl | rfl | rfl | rfl | rfl | rfl | rfl | rfl | rfl
    all_goals rfl

/-- How many operands. -/
def arN (op : Int) : Int := ((ndP op).length : Int)

set_option maxHeartbeats 4000000 in
theorem spec_arity (op : Int) (w : World) :
    Calls Try.prog 33 #[.int .i64 op] w fun e w' => e = .returned (.int .i64 (arN op)) ∧ w' = w := by
  rcases op_cases op with h | ⟨n, hn, rfl⟩
  · have e0 : arN op = 0 := by unfold arN; rw [(out_all op h).2.2.1]; rfl
    rw [e0]
    have n1 : (op == 1) = false := by simp; omega
    have n2 : (op == 2) = false := by simp; omega
    have n21 : (op == 21) = false := by simp; omega
    have n22 : (op == 22) = false := by simp; omega
    have n23 : (op == 23) = false := by simp; omega
    have n25 : (op == 25) = false := by simp; omega
    have n31 : (op == 31) = false := by simp; omega
    have n32 : (op == 32) = false := by simp; omega
    have n33 : (op == 33) = false := by simp; omega
    have n34 : (op == 34) = false := by simp; omega
    have n35 : (op == 35) = false := by simp; omega
    rcases h with h | h
    · have h1 : ¬ (1 ≤ op) := by omega
      have h2 : ¬ (21 ≤ op) := by omega
      go_enter Try.func33, Try.ntmps33
      go_wp2
      go_ret
      exact ⟨rfl, rfl⟩
    · have h1 : 1 ≤ op := by omega
      have h2 : 21 ≤ op := by omega
      have h3 : ¬ (op ≤ 10) := by omega
      have h4 : ¬ (op ≤ 37) := by omega
      go_enter Try.func33, Try.ntmps33
      go_wp2
      go_ret
      exact ⟨rfl, rfl⟩
  · rcases c38 n hn with rfl | rfl | rfl | rfl | rfl | rfl | rfl | rfl | rfl | rfl | rfl | rfl | rfl | rfl | rfl | rfl | rfl | rfl | rfl | rfl | rfl | rfl | rfl | rfl | rfl | rfl | rfl | rfl | rfl | rfl | rfl | rfl | rfl | rfl | rfl | rfl | rfl | rfl
    all_goals
      go_enter Try.func33, Try.ntmps33
      go_wp2
      go_ret
      exact ⟨rfl, rfl⟩

/-- The name of a coil. -/
def nmE (op : Int) : ByteArray := if op = 21 then ⟨#[111, 117, 116]⟩ else if op = 22 then ⟨#[115, 101, 116]⟩ else if op = 23 then ⟨#[114, 101, 115, 101, 116]⟩ else if op = 24 then ⟨#[112, 117, 108, 115, 101]⟩ else if op = 25 then ⟨#[115, 116, 101, 112]⟩ else if op = 26 then ⟨#[116, 105, 109, 101, 114]⟩ else if op = 27 then ⟨#[104, 111, 108, 100]⟩ else if op = 28 then ⟨#[108, 97, 116, 101]⟩ else if op = 29 then ⟨#[99, 111, 117, 110, 116]⟩ else if op = 30 then ⟨#[109, 111, 118, 101]⟩ else if op = 31 then ⟨#[97, 100, 100]⟩ else if op = 32 then ⟨#[115, 117, 98]⟩ else if op = 33 then ⟨#[109, 117, 108]⟩ else if op = 34 then ⟨#[100, 105, 118]⟩ else if op = 35 then ⟨#[114, 101, 109]⟩ else if op = 36 then ⟨#[114, 101, 97, 108]⟩ else if op = 37 then ⟨#[119, 104, 111, 108, 101]⟩ else ⟨#[]⟩
theorem nm_out (op : Int) (h : op < 21 ∨ 38 ≤ op) : nmE op = ⟨#[]⟩ := by unfold nmE; repeat rw [if_neg (by omega)]
theorem c17 (op : Int) (h1 : 21 ≤ op) (h2 : op < 38) : op = 21 ∨ op = 22 ∨ op = 23 ∨ op = 24 ∨ op = 25 ∨ op = 26 ∨ op = 27 ∨ op = 28 ∨ op = 29 ∨ op = 30 ∨ op = 31 ∨ op = 32 ∨ op = 33 ∨ op = 34 ∨ op = 35 ∨ op = 36 ∨ op = 37 := by omega
theorem nm_trim (op : Int) (h1 : 21 ≤ op) : Lib.trimSuffix (ahd op).data.toList [58] = (nmE op).data.toList := by
  by_cases h2 : op < 38
  · rcases c17 op h1 h2 with rfl | rfl | rfl | rfl | rfl | rfl | rfl | rfl | rfl | rfl | rfl | rfl | rfl | rfl | rfl | rfl | rfl
    all_goals rfl
  · rw [nm_out op (by omega), (out_all op (by omega)).1]; rfl
theorem ahd_size (op : Int) : (ahd op).size ≤ 6 := by
  rcases op_cases op with h | ⟨n, hn, rfl⟩
  · rw [(out_all op h).1]; decide
  · rcases c38 n hn with rfl | rfl | rfl | rfl | rfl | rfl | rfl | rfl | rfl | rfl | rfl | rfl | rfl | rfl | rfl | rfl | rfl | rfl | rfl | rfl | rfl | rfl | rfl | rfl | rfl | rfl | rfl | rfl | rfl | rfl | rfl | rfl | rfl | rfl | rfl | rfl | rfl | rfl
    all_goals decide

end Go.Proofs.Ytbncgacnikmomaa
/- What may stand in a place: elemIsOf and its kin. -/
namespace Go.Proofs.Ytbncgacnikmomaa
open Go.RowKit Go.Shelf
set_option linter.unusedVariables false

/-- What a place asks for. -/
def pp (c : Nat) (x : Int × Int × Int) : Bool :=
  if c = 1 then okA x.1 x.2.1 x.2.2 && kB x.1 else if c = 3 then okA x.1 x.2.1 x.2.2 && kW x.1 else if c = 4 then okA x.1 x.2.1 x.2.2 && kR x.1
  else if c = 10 then okA x.1 x.2.1 x.2.2 && [(11 : Int)].contains x.1 && decide (0 ≤ x.2.1) else if c = 2 then okA x.1 x.2.1 x.2.2 && ([5] : List Int).contains x.1 else if c = 5 then okA x.1 x.2.1 x.2.2 && ([2, 3] : List Int).contains x.1 else if c = 6 then okA x.1 x.2.1 x.2.2 && ([2, 3, 4] : List Int).contains x.1 else if c = 7 then okA x.1 x.2.1 x.2.2 && ([2, 3, 4, 7, 8] : List Int).contains x.1 else if c = 8 then okA x.1 x.2.1 x.2.2 && ([4] : List Int).contains x.1 else if c = 9 then okA x.1 x.2.1 x.2.2 && ([7] : List Int).contains x.1 else if c = 11 then okA x.1 x.2.1 x.2.2 && ([8] : List Int).contains x.1 else if c = 12 then okA x.1 x.2.1 x.2.2 && ([9] : List Int).contains x.1 else if c = 13 then okA x.1 x.2.1 x.2.2 && ([10] : List Int).contains x.1 else false

theorem cells_k (w : World) (o : Obj) (xs : List Int) (t : TypeId) : ∀ j x, xs[j]? = some x → ((w.alloc o).alloc (.cells (xs.map (Value.int .i64)).toArray t)).cell? ⟨w.heap.size + 1, j, none⟩ = some (.int .i64 x) := by
  intro j x hx
  have h1 : (w.alloc o).heap.size = w.heap.size + 1 := by simp
  rw [← h1, cell_of_row _ _ j _ t (0, 0) (heap_alloc_last (w.alloc o) _)]
  simp [hx]

end Go.Proofs.Ytbncgacnikmomaa

/- The operands of a contact or coil, taken by places: elemPlaces.take, elemRule.take. -/
namespace Go.Proofs.Ytbncgacnikmomaa
open Go.RowKit Go.Shelf
set_option linter.unusedVariables false

abbrev Arg := Int × Int × Int
/-- The operands of a list lie in the memory, one behind the other. -/
def Ops (w : World) (b o : Nat) (xs : List Arg) : Prop :=
  ∀ j x, xs[j]? = some x → w.cell? ⟨b, o + j * 3, none⟩ = some (.int .i64 x.1) ∧ w.cell? ⟨b, o + j * 3 + 1, none⟩ = some (.int .i64 x.2.1) ∧ w.cell? ⟨b, o + j * 3 + 2, none⟩ = some (.int .i64 x.2.2)
theorem Ops.below {w w' : World} {b o : Nat} {xs : List Arg} (h : Ops w b o xs) {B : Nat} (hB : b < B) (g : Below B w w') : Ops w' b o xs := fun j x hx => by
  have := h j x hx
  refine ⟨?_, ?_, ?_⟩
  · exact (g.cell (p := ⟨b, o + j * 3, none⟩) hB).trans this.1
  · exact (g.cell (p := ⟨b, o + j * 3 + 1, none⟩) hB).trans this.2.1
  · exact (g.cell (p := ⟨b, o + j * 3 + 2, none⟩) hB).trans this.2.2
theorem Ops.lt {w : World} {b o : Nat} {xs : List Arg} (h : Ops w b o xs) (hne : xs ≠ []) : b < w.heap.size := by
  match xs, hne with
  | x :: _, _ => exact World.block_lt_of_cell? _ _ (h 0 x rfl).1
theorem Ops.later {w w' : World} {b o : Nat} {xs : List Arg} (h : Ops w b o xs) (g : Below w.heap.size w w') : Ops w' b o xs := by
  match xs, h with
  | [], _ => intro j x hx; simp at hx
  | x :: r, h => exact h.below (h.lt (by simp)) g

/-- Operands taken by a list of places. -/
def tk (l : List Nat) (xs : List Arg) : Bool := !xs.isEmpty && decide (xs.length = l.length) && (List.range xs.length).all fun n => pp (l.getD n 0) (xs.getD n (0, 0, 0))

/-- A slice of operands: an empty one, or one that lies in the memory. -/
def Sl (w : World) (a : Option Addr) (xs : List Arg) : Prop := xs = [] ∨ ∃ b o, a = some ⟨b, o, none⟩ ∧ Ops w b o xs
theorem Sl.later {w w' : World} {a : Option Addr} {xs : List Arg} (h : Sl w a xs) (g : Below w.heap.size w w') : Sl w' a xs := by
  rcases h with h | ⟨b, o, h1, h2⟩
  · exact .inl h
  · exact .inr ⟨b, o, h1, h2.later g⟩
theorem Sl.alloc {w : World} {a : Option Addr} {xs : List Arg} (h : Sl w a xs) (o : Obj) : Sl (w.alloc o) a xs := h.later ((Below.refl _ _).alloc (Nat.le_refl _) _)

/-- Operands taken by a rule. -/
def rtk (op : Int) (xs : List Arg) : Bool := tk (ndP op) xs || tk (orP op) xs

end Go.Proofs.Ytbncgacnikmomaa
/- ElemIsContact and ElemIsCoil, the program's. -/
namespace Go.Proofs.Ytbncgacnikmomaa
open Go.RowKit Go.Shelf
set_option linter.unusedVariables false

end Go.Proofs.Ytbncgacnikmomaa

/- ElemIsContact of the specification. -/
namespace Go.Proofs.Ytbncgacnikmomaa
open Go.RowKit Go.Shelf
set_option linter.unusedVariables false

theorem ar_or (op : Int) : orP op = [] ∨ (orP op).length = (ndP op).length := by
  rcases op_cases op with h | ⟨n, hn, rfl⟩
  · exact .inl (out_all op h).2.2.2
  · rcases c38 n hn with rfl | rfl | rfl | rfl | rfl | rfl | rfl | rfl | rfl | rfl | rfl | rfl | rfl | rfl | rfl | rfl | rfl | rfl | rfl | rfl | rfl | rfl | rfl | rfl | rfl | rfl | rfl | rfl | rfl | rfl | rfl | rfl | rfl | rfl | rfl | rfl | rfl | rfl
    all_goals first | exact .inl rfl | exact .inr rfl
theorem rtk_len {op : Int} {xs : List Arg} (h : rtk op xs = true) : (xs.length : Int) = arN op ∧ xs ≠ [] := by
  unfold rtk tk at h
  simp only [Bool.or_eq_true, Bool.and_eq_true, decide_eq_true_eq] at h
  unfold arN
  rcases h with ⟨⟨h1, h2⟩, _⟩ | ⟨⟨h1, h2⟩, _⟩
  · exact ⟨by omega, fun e => by subst e; simp at h1⟩
  · refine ⟨?_, fun e => by subst e; simp at h1⟩
    rcases ar_or op with e | e
    · rw [e] at h2
      have := List.length_eq_zero_iff.1 h2
      subst this; simp at h1
    · omega
theorem rtk_no {op : Int} {xs : List Arg} (h : (xs.length : Int) ≠ arN op) : rtk op xs = false := by
  cases hr : rtk op xs with
  | false => rfl
  | true => exact absurd (rtk_len hr).1 h
theorem nd_none (op : Int) (h : ndP op = []) (xs : List Arg) : rtk op xs = false := by
  cases hr : rtk op xs with
  | false => rfl
  | true =>
    obtain ⟨h1, h2⟩ := rtk_len hr
    unfold arN at h1
    rw [h] at h1
    exact absurd (List.length_eq_zero_iff.1 (by simpa using h1)) h2

theorem spec_arity' (op : Int) (W : World) : Calls Try.prog 33 #[.int .i64 op] W fun e w' => e = .returned (.int .i64 (arN op)) ∧ Below W.heap.size W w' :=
  (spec_arity op W).mono fun e w' ⟨h1, h2⟩ => ⟨h1, by rw [h2]; exact Below.refl _ _⟩

set_option maxRecDepth 10000 in
set_option maxHeartbeats 1000000 in
theorem scontact_no (op N : Int) (a : Option Addr) (len cap : Nat) (w : World) (h : op < 1 ∨ 10 < op ∨ (len : Int) ≠ N)
    (hA : Hid (∀ W, Calls Try.prog 33 #[.int .i64 op] W fun e w' => e = .returned (.int .i64 N) ∧ Below W.heap.size W w')) :
    Calls Try.prog 27 #[.agg #[.int .i64 op, .slice a len cap]] w fun e w' => e = .returned (.bool false) ∧ Below w.heap.size w w' := by
  have hb0 : Below w.heap.size w (w.alloc (.cells #[.int .i64 op, .slice a len cap] 36)) := (Below.refl _ _).alloc (Nat.le_refl _) _
  have k0 := cell_regrown (w := w.alloc (.cells #[.int .i64 op, .slice a len cap] 36)) (a := ⟨w.heap.size, 0, none⟩) (v := .int .i64 op) (by simp)
  have k1 := cell_regrown (w := w.alloc (.cells #[.int .i64 op, .slice a len cap] 36)) (a := ⟨w.heap.size, 1, none⟩) (v := .slice a len cap) (by simp)
  have cA : ∀ d os, Calls Try.prog 33 #[.int .i64 op] (Sort.grow (redrawn (w.alloc (.cells #[.int .i64 op, .slice a len cap] 36)) d) os) fun e w'' => e = .returned (.int .i64 N) ∧ ∃ p : Regrown, w'' = Sort.grow (redrawn (w.alloc (.cells #[.int .i64 op, .slice a len cap] 36)) p.d) p.os :=
    fun d os => Calls.regrown_of (hA.out _)
  clear hA
  by_cases h1 : op < 1
  · clear h
    go_enter Try.func27, Try.ntmps27
    go_upto_region 1 with fail
    refine wp_region_quiet_below (by kernel_rfl) (by kernel_rfl) ?_
    repeat (go_big_quiet_step (first | exact cA _ _))
    refine wpQuiet_nil ?_
    intro _ hw'
    obtain ⟨⟨dq, osq⟩, hw''⟩ := hw'
    subst hw''
    go_wp2
    go_ret
    exact ⟨rfl, hb0.trans ((below_regrown _ dq osq).mono hb0.size)⟩
  · by_cases h2 : 10 < op
    · clear h
      go_enter Try.func27, Try.ntmps27
      go_upto_region 1 with fail
      refine wp_region_quiet_below (by kernel_rfl) (by kernel_rfl) ?_
      repeat (go_big_quiet_step (first | exact cA _ _))
      refine wpQuiet_nil ?_
      intro _ hw'
      obtain ⟨⟨dq, osq⟩, hw''⟩ := hw'
      subst hw''
      go_wp2
      go_ret
      exact ⟨rfl, hb0.trans ((below_regrown _ dq osq).mono hb0.size)⟩
    · have h3 : ((len : Int) == N) = false := by rw [beq_eq_false_iff_ne]; omega
      clear h
      go_enter Try.func27, Try.ntmps27
      go_upto_region 1 with fail
      refine wp_region_quiet_below (by kernel_rfl) (by kernel_rfl) ?_
      repeat (go_big_quiet_step (first | exact cA _ _))
      refine wpQuiet_nil ?_
      intro _ hw'
      obtain ⟨⟨dq, osq⟩, hw''⟩ := hw'
      subst hw''
      go_wp2
      go_ret
      exact ⟨rfl, hb0.trans ((below_regrown _ dq osq).mono hb0.size)⟩

set_option maxRecDepth 10000 in
set_option maxHeartbeats 1000000 in
theorem scontact1 (op k n p : Int) (r : Bool) (b o cap : Nat) (w : World) (ho1 : 1 ≤ op) (ho2 : op ≤ 2) (hx : Ops w b o [(k, n, p)])
    (hA : Hid (∀ W, Calls Try.prog 33 #[.int .i64 op] W fun e w' => e = .returned (.int .i64 1) ∧ Below W.heap.size W w'))
    (hB : Hid (∀ W, Calls Try.prog 39 #[.agg #[.int .i64 k, .int .i64 n, .int .i64 p]] W fun e w' => e = .returned (.bool r) ∧ Below W.heap.size W w')) :
    Calls Try.prog 27 #[.agg #[.int .i64 op, .slice (some ⟨b, o, none⟩) 1 cap]] w fun e w' => e = .returned (.bool r) ∧ Below w.heap.size w w' := by
  have hb0 : Below w.heap.size w (w.alloc (.cells #[.int .i64 op, .slice (some ⟨b, o, none⟩) 1 cap] 36)) := (Below.refl _ _).alloc (Nat.le_refl _) _
  have k0 := cell_regrown (w := w.alloc (.cells #[.int .i64 op, .slice (some ⟨b, o, none⟩) 1 cap] 36)) (a := ⟨w.heap.size, 0, none⟩) (v := .int .i64 op) (by simp)
  have k1 := cell_regrown (w := w.alloc (.cells #[.int .i64 op, .slice (some ⟨b, o, none⟩) 1 cap] 36)) (a := ⟨w.heap.size, 1, none⟩) (v := .slice (some ⟨b, o, none⟩) 1 cap) (by simp)
  have cA : ∀ d os, Calls Try.prog 33 #[.int .i64 op] (Sort.grow (redrawn (w.alloc (.cells #[.int .i64 op, .slice (some ⟨b, o, none⟩) 1 cap] 36)) d) os) fun e w'' => e = .returned (.int .i64 1) ∧ ∃ p : Regrown, w'' = Sort.grow (redrawn (w.alloc (.cells #[.int .i64 op, .slice (some ⟨b, o, none⟩) 1 cap] 36)) p.d) p.os :=
    fun d os => Calls.regrown_of (hA.out _)
  clear hA
  have h1 : ¬ (op < 1) := by omega
  have h2 : ¬ (10 < op) := by omega
  go_enter Try.func27, Try.ntmps27
  go_upto_region 1 with fail
  refine wp_region_quiet_below (by kernel_rfl) (by kernel_rfl) ?_
  repeat (go_big_quiet_step (first | exact cA _ _))
  refine wpQuiet_nil ?_
  intro _ hw'
  obtain ⟨⟨dq, osq⟩, hw''⟩ := hw'
  subst hw''
  have e0 := k0 dq osq
  have e1 := k1 dq osq
  have hb1 := hb0.trans ((below_regrown (w.alloc (.cells #[.int .i64 op, .slice (some ⟨b, o, none⟩) 1 cap] 36)) dq osq).mono hb0.size)
  have hx1 := hx.later hb1
  dsimp only at e0 e1 hb1 hx1 ⊢
  generalize Sort.grow (redrawn (w.alloc (.cells #[.int .i64 op, .slice (some ⟨b, o, none⟩) 1 cap] 36)) dq) osq = w2 at e0 e1 hb1 hx1 ⊢
  clear cA k0 k1 hb0 hx
  have x0 := (hx1 0 _ rfl).1
  have x1 := (hx1 0 _ rfl).2.1
  have x2 := (hx1 0 _ rfl).2.2
  simp only [Nat.zero_mul, Nat.add_zero] at x0 x1 x2
  go_wp2_with fail
  refine (hB.out _).mono ?_
  rintro e w3 ⟨rfl, g3⟩
  have b3 := hb1.trans (g3.mono hb1.size)
  clear g3
  go_wp2
  go_ret
  exact ⟨rfl, b3⟩
end Go.Proofs.Ytbncgacnikmomaa
