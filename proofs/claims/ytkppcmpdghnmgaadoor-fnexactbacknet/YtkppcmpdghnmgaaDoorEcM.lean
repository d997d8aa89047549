/- ElemArity and ElemName, the program's and the specification's. -/
import Derived.Test.YtkppcmpdghnmgaaDoorEb
import Derived.Test.YtkppcmpdghnmgaaDoorLy
import Derived.Lib.QuietBelow
import Derived.Deep.Cut
namespace Go.Proofs.YtkppcmpdghnmgaaDoor
open Go.RowKit Go.Shelf
set_option linter.unusedVariables false

theorem op_cases (op : Int) : (op < 0 ∨ 38 ≤ op) ∨ ∃ n : Nat, n < 38 ∧ op = n := by
  by_cases h : op < 0 ∨ 38 ≤ op
  · exact .inl h
  · exact .inr ⟨op.toNat, by omega, by omega⟩

def okPl (l : List Nat) : Bool := decide (l.length ≤ 3) && l.all fun c => decide (1 ≤ c) && decide (c ≤ 13)
theorem nd_ok (op : Int) : okPl (ndP op) = true := by
  rcases op_cases op with h | ⟨n, hn, rfl⟩
  · rw [(out_all op h).2.2.1]; rfl
  · rcases c38 n hn with rfl | rfl | rfl | rfl | rfl | rfl | rfl | rfl | rfl | rfl | rfl | rfl | rfl | rfl | rfl | rfl | rfl | rfl | rfl | rfl | rfl | rfl | rfl | rfl | rfl | rfl | rfl | rfl | rfl | rfl | rfl | rfl | rfl | rfl | rfl | rfl | rfl | rfl
    all_goals rfl
theorem or_ok (op : Int) : okPl (orP op) = true := by
  rcases op_cases op with h | ⟨n, hn, rfl⟩
  · rw [(out_all op h).2.2.2]; rfl
  · rcases c38 n hn with rfl | rfl | rfl | rfl | rfl | rfl | rfl | rfl | rfl | rfl | rfl | rfl | rfl | rfl | rfl | rfl | rfl | rfl | rfl | rfl | rfl | rfl | rfl | rfl | rfl | rfl | rfl | rfl | rfl | rfl | rfl | rfl | rfl | rfl | rfl | rfl | rfl | rfl
    all_goals rfl

theorem pv_fn (c : Nat) (h1 : 1 ≤ c) (h2 : c ≤ 13) : ∃ f, pv c = .func (.func f) #[] #[] := by
  rcases pc c with h | rfl | rfl | rfl | rfl | rfl | rfl | rfl | rfl | rfl | rfl | rfl | rfl | rfl
  · omega
  all_goals exact ⟨_, rfl⟩

/-- The places of a list, as a value. -/
def plV (l : List Nat) : Value := .agg #[pv (l.getD 0 0), pv (l.getD 1 0), pv (l.getD 2 0)]

theorem count_of (l : List Nat) (h : okPl l = true) (w : World) :
    Calls Tryd.prog 87 #[plV l] w fun e w' => e = .returned (.int .i64 (l.length : Int)) ∧ Below w.heap.size w w' := by
  simp only [okPl, Bool.and_eq_true, decide_eq_true_eq, List.all_eq_true] at h
  obtain ⟨h3, ha⟩ := h
  match l, h3, ha with
  | [], _, _ => exact count0 w
  | [a], _, ha =>
    obtain ⟨f, hf⟩ := pv_fn a (ha a (by simp)).1 (ha a (by simp)).2
    have := count1 f w
    rw [← hf] at this
    exact this
  | [a, b], _, ha =>
    obtain ⟨f, hf⟩ := pv_fn a (ha a (by simp)).1 (ha a (by simp)).2
    obtain ⟨g, hg⟩ := pv_fn b (ha b (by simp)).1 (ha b (by simp)).2
    have := count2 f g w
    rw [← hf, ← hg] at this
    exact this
  | [a, b, c], _, ha =>
    obtain ⟨f, hf⟩ := pv_fn a (ha a (by simp)).1 (ha a (by simp)).2
    obtain ⟨g, hg⟩ := pv_fn b (ha b (by simp)).1 (ha b (by simp)).2
    obtain ⟨k, hk⟩ := pv_fn c (ha c (by simp)).1 (ha c (by simp)).2
    have := count3 f g k w
    rw [← hf, ← hg, ← hk] at this
    exact this
  | _ :: _ :: _ :: _ :: _, h3, _ => simp at h3

theorem fieldR0 (a b c d e f g h : Value) (w : World) : (Instr.field 92 (.agg #[a, b, c, d, e, f, g, h]) 0).run Tryd.prog w = .ok a w := by kernel_rfl
theorem fieldR1 (a b c d e f g h : Value) (w : World) : (Instr.field 92 (.agg #[a, b, c, d, e, f, g, h]) 1).run Tryd.prog w = .ok b w := by kernel_rfl
theorem fieldR2 (a b c d e f g h : Value) (w : World) : (Instr.field 92 (.agg #[a, b, c, d, e, f, g, h]) 2).run Tryd.prog w = .ok (.agg #[c, d, e]) w := by kernel_rfl
theorem fieldR3 (a b c d e f g h : Value) (w : World) : (Instr.field 92 (.agg #[a, b, c, d, e, f, g, h]) 3).run Tryd.prog w = .ok (.agg #[f, g, h]) w := by kernel_rfl
attribute [go_sem] fieldR0 fieldR1 fieldR2 fieldR3

/-- How many operands. -/
def arN (op : Int) : Int := ((ndP op).length : Int)

set_option maxHeartbeats 4000000 in
theorem spec_arity (op : Int) (w : World) :
    Calls Tryd.prog 49 #[.int .i64 op] w fun e w' => e = .returned (.int .i64 (arN op)) ∧ w' = w := by
  rcases op_cases op with h | ⟨n, hn, rfl⟩
  · have e0 : arN op = 0 := by unfold arN; rw [(out_all op h).2.2.1]; rfl
    rw [e0]
    have n1 : (op == 1) = false := by simp; omega
    have n2 : (op == 2) = false := by simp; omega
    have n21 : (op == 21) = false := by simp; omega
    have n22 : (op == 22) = false := by simp; omega
    have n23 : (op == 23) = false := by simp; omega
    have n25 : (op == 25) = false := by simp; omega
    have n31 : (op == 31) = false := by simp; omega
    have n32 : (op == 32) = false := by simp; omega
    have n33 : (op == 33) = false := by simp; omega
    have n34 : (op == 34) = false := by simp; omega
    have n35 : (op == 35) = false := by simp; omega
    rcases h with h | h
    · have h1 : ¬ (1 ≤ op) := by omega
      have h2 : ¬ (21 ≤ op) := by omega
      go_enter Tryd.func49, Tryd.ntmps49
      go_wp2
      go_ret
      exact ⟨rfl, rfl⟩
    · have h1 : 1 ≤ op := by omega
      have h2 : 21 ≤ op := by omega
      have h3 : ¬ (op ≤ 10) := by omega
      have h4 : ¬ (op ≤ 37) := by omega
      go_enter Tryd.func49, Tryd.ntmps49
      go_wp2
      go_ret
      exact ⟨rfl, rfl⟩
  · rcases c38 n hn with rfl | rfl | rfl | rfl | rfl | rfl | rfl | rfl | rfl | rfl | rfl | rfl | rfl | rfl | rfl | rfl | rfl | rfl | rfl | rfl | rfl | rfl | rfl | rfl | rfl | rfl | rfl | rfl | rfl | rfl | rfl | rfl | rfl | rfl | rfl | rfl | rfl | rfl
    all_goals
      go_enter Tryd.func49, Tryd.ntmps49
      go_wp2
      go_ret
      exact ⟨rfl, rfl⟩

/-- The name of a coil. -/
def nmE (op : Int) : ByteArray := if op = 21 then ⟨#[111, 117, 116]⟩ else if op = 22 then ⟨#[115, 101, 116]⟩ else if op = 23 then ⟨#[114, 101, 115, 101, 116]⟩ else if op = 24 then ⟨#[112, 117, 108, 115, 101]⟩ else if op = 25 then ⟨#[115, 116, 101, 112]⟩ else if op = 26 then ⟨#[116, 105, 109, 101, 114]⟩ else if op = 27 then ⟨#[104, 111, 108, 100]⟩ else if op = 28 then ⟨#[108, 97, 116, 101]⟩ else if op = 29 then ⟨#[99, 111, 117, 110, 116]⟩ else if op = 30 then ⟨#[109, 111, 118, 101]⟩ else if op = 31 then ⟨#[97, 100, 100]⟩ else if op = 32 then ⟨#[115, 117, 98]⟩ else if op = 33 then ⟨#[109, 117, 108]⟩ else if op = 34 then ⟨#[100, 105, 118]⟩ else if op = 35 then ⟨#[114, 101, 109]⟩ else if op = 36 then ⟨#[114, 101, 97, 108]⟩ else if op = 37 then ⟨#[119, 104, 111, 108, 101]⟩ else ⟨#[]⟩
theorem nm_out (op : Int) (h : op < 21 ∨ 38 ≤ op) : nmE op = ⟨#[]⟩ := by unfold nmE; repeat rw [if_neg (by omega)]
theorem c17 (op : Int) (h1 : 21 ≤ op) (h2 : op < 38) : op = 21 ∨ op = 22 ∨ op = 23 ∨ op = 24 ∨ op = 25 ∨ op = 26 ∨ op = 27 ∨ op = 28 ∨ op = 29 ∨ op = 30 ∨ op = 31 ∨ op = 32 ∨ op = 33 ∨ op = 34 ∨ op = 35 ∨ op = 36 ∨ op = 37 := by omega
theorem nm_trim (op : Int) (h1 : 21 ≤ op) : Lib.trimSuffix (ahd op).data.toList [58] = (nmE op).data.toList := by
  by_cases h2 : op < 38
  · rcases c17 op h1 h2 with rfl | rfl | rfl | rfl | rfl | rfl | rfl | rfl | rfl | rfl | rfl | rfl | rfl | rfl | rfl | rfl | rfl
    all_goals rfl
  · rw [nm_out op (by omega), (out_all op (by omega)).1]; rfl
theorem ahd_size (op : Int) : (ahd op).size ≤ 6 := by
  rcases op_cases op with h | ⟨n, hn, rfl⟩
  · rw [(out_all op h).1]; decide
  · rcases c38 n hn with rfl | rfl | rfl | rfl | rfl | rfl | rfl | rfl | rfl | rfl | rfl | rfl | rfl | rfl | rfl | rfl | rfl | rfl | rfl | rfl | rfl | rfl | rfl | rfl | rfl | rfl | rfl | rfl | rfl | rfl | rfl | rfl | rfl | rfl | rfl | rfl | rfl | rfl
    all_goals decide

end Go.Proofs.YtkppcmpdghnmgaaDoor
/- What may stand in a place: elemIsOf and its kin. -/
namespace Go.Proofs.YtkppcmpdghnmgaaDoor
open Go.RowKit Go.Shelf
set_option linter.unusedVariables false

/-- What a place asks for. -/
def pp (c : Nat) (x : Int × Int × Int) : Bool :=
  if c = 1 then okA x.1 x.2.1 x.2.2 && kB x.1 else if c = 3 then okA x.1 x.2.1 x.2.2 && kW x.1 else if c = 4 then okA x.1 x.2.1 x.2.2 && kR x.1
  else if c = 10 then okA x.1 x.2.1 x.2.2 && [(11 : Int)].contains x.1 && decide (0 ≤ x.2.1) else if c = 2 then okA x.1 x.2.1 x.2.2 && ([5] : List Int).contains x.1 else if c = 5 then okA x.1 x.2.1 x.2.2 && ([2, 3] : List Int).contains x.1 else if c = 6 then okA x.1 x.2.1 x.2.2 && ([2, 3, 4] : List Int).contains x.1 else if c = 7 then okA x.1 x.2.1 x.2.2 && ([2, 3, 4, 7, 8] : List Int).contains x.1 else if c = 8 then okA x.1 x.2.1 x.2.2 && ([4] : List Int).contains x.1 else if c = 9 then okA x.1 x.2.1 x.2.2 && ([7] : List Int).contains x.1 else if c = 11 then okA x.1 x.2.1 x.2.2 && ([8] : List Int).contains x.1 else if c = 12 then okA x.1 x.2.1 x.2.2 && ([9] : List Int).contains x.1 else if c = 13 then okA x.1 x.2.1 x.2.2 && ([10] : List Int).contains x.1 else false

set_option maxHeartbeats 1000000 in
theorem isOf_r (k n p : Int) (b : Nat) (zs : List Int) (w : World) (hT : KT w) (hl : zs.length ≤ 10) (hz : ∀ j z, zs[j]? = some z → w.cell? ⟨b, j, none⟩ = some (.int .i64 z)) :
    Calls Tryd.prog 92 #[.agg #[.int .i64 k, .int .i64 n, .int .i64 p], .slice (some ⟨b, 0, none⟩) zs.length zs.length] w fun e w' => e = .returned (.bool (okA k n p && zs.contains k)) ∧ Below w.heap.size w w' := by
  have HK : Hid (∀ W, KT W → Calls Tryd.prog 90 #[.agg #[.int .i64 k, .int .i64 n, .int .i64 p]] W fun e w' => e = .returned (.bool (okA k n p)) ∧ Below W.heap.size W w') := fun W h => impl_ok k n p W h
  have HC : Hid (∀ W : World, Below w.heap.size w W → Calls Tryd.prog 95 #[.slice (some ⟨b, 0, none⟩) zs.length zs.length, .int .i64 k] W fun e w' => e = .returned (.bool (zs.contains k)) ∧ w' = W) := by
    intro W hW
    have := Any.slices_Contains_int Tryd.layC b 0 zs.length zs.length zs k W (Nat.le_refl _) (by omega) (fun j hj => by
      have hh := hz j zs[j] (List.getElem?_eq_getElem hj)
      rw [Nat.zero_add, hW.cell (p := ⟨b, j, none⟩) (World.block_lt_of_cell? _ _ hh), hh]
      simp [List.getD, List.getElem?_eq_getElem hj])
    rw [List.take_length] at this
    exact this
  generalize zs.contains k = C at HC ⊢
  generalize zs.length = m at HC ⊢ hl
  cases ho : okA k n p with
  | false =>
    rw [ho] at HK
    go_enter Tryd.func92, Tryd.ntmps92
    go_wp2_with fail
    refine (HK.out _ (hT.alloc _)).mono ?_
    rintro e w1 ⟨rfl, g1⟩
    have b1 : Below w.heap.size w w1 := ((Below.refl _ _).alloc (Nat.le_refl _) _).trans (g1.mono (by simp))
    clear g1
    go_wp2
    go_ret
    exact ⟨rfl, b1⟩
  | true =>
    rw [ho] at HK
    go_enter Tryd.func92, Tryd.ntmps92
    go_wp2_with fail
    refine (HK.out _ (hT.alloc _)).mono ?_
    rintro e w1 ⟨rfl, g1⟩
    have c0 : w1.cell? ⟨w.heap.size, 0, none⟩ = some (.int .i64 k) := cell_later g1 (by simp)
    have b1 : Below w.heap.size w w1 := ((Below.refl _ _).alloc (Nat.le_refl _) _).trans (g1.mono (by simp))
    clear g1
    go_wp2_with fail
    refine (HC.out _ b1).mono ?_
    rintro e w2 ⟨rfl, rfl⟩
    go_wp2
    go_ret
    exact ⟨by simp, b1⟩

theorem cells_k (w : World) (o : Obj) (xs : List Int) (t : TypeId) : ∀ j x, xs[j]? = some x → ((w.alloc o).alloc (.cells (xs.map (Value.int .i64)).toArray t)).cell? ⟨w.heap.size + 1, j, none⟩ = some (.int .i64 x) := by
  intro j x hx
  have h1 : (w.alloc o).heap.size = w.heap.size + 1 := by simp
  rw [← h1, cell_of_row _ _ j _ t (0, 0) (heap_alloc_last (w.alloc o) _)]
  simp [hx]

set_option maxHeartbeats 1000000 in
theorem isOut_r (k n p : Int) (w : World) (hT : KT w) :
    Calls Tryd.prog 78 #[.agg #[.int .i64 k, .int .i64 n, .int .i64 p]] w fun e w' => e = .returned (.bool (okA k n p && ([2, 3] : List Int).contains k)) ∧ Below w.heap.size w w' := by
  have HI : Hid (∀ W, KT W → (∀ j z, ([2, 3] : List Int)[j]? = some z → W.cell? ⟨w.heap.size + 1, j, none⟩ = some (.int .i64 z)) → Calls Tryd.prog 92 #[.agg #[.int .i64 k, .int .i64 n, .int .i64 p], .slice (some ⟨w.heap.size + 1, 0, none⟩) 2 2] W fun e w' => e = .returned (.bool (okA k n p && ([2, 3] : List Int).contains k)) ∧ Below W.heap.size W w') :=
    fun W h hz => isOf_r k n p (w.heap.size + 1) [2, 3] W h (by simp) hz
  generalize (okA k n p && ([2, 3] : List Int).contains k) = C at HI ⊢
  go_enter Tryd.func78, Tryd.ntmps78
  go_wp2_with fail
  refine (HI.out _ ((hT.alloc _).alloc _) (cells_k w _ [2, 3] _)).mono ?_
  rintro e w1 ⟨rfl, g1⟩
  have b1 : Below w.heap.size w w1 := (((Below.refl _ _).alloc (Nat.le_refl _) _).alloc (by simp) _).trans (g1.mono (by simp; omega))
  clear g1
  go_wp2
  go_ret
  exact ⟨rfl, b1⟩

set_option maxHeartbeats 1000000 in
theorem isSet_r (k n p : Int) (w : World) (hT : KT w) :
    Calls Tryd.prog 79 #[.agg #[.int .i64 k, .int .i64 n, .int .i64 p]] w fun e w' => e = .returned (.bool (okA k n p && ([2, 3, 4] : List Int).contains k)) ∧ Below w.heap.size w w' := by
  have HI : Hid (∀ W, KT W → (∀ j z, ([2, 3, 4] : List Int)[j]? = some z → W.cell? ⟨w.heap.size + 1, j, none⟩ = some (.int .i64 z)) → Calls Tryd.prog 92 #[.agg #[.int .i64 k, .int .i64 n, .int .i64 p], .slice (some ⟨w.heap.size + 1, 0, none⟩) 3 3] W fun e w' => e = .returned (.bool (okA k n p && ([2, 3, 4] : List Int).contains k)) ∧ Below W.heap.size W w') :=
    fun W h hz => isOf_r k n p (w.heap.size + 1) [2, 3, 4] W h (by simp) hz
  generalize (okA k n p && ([2, 3, 4] : List Int).contains k) = C at HI ⊢
  go_enter Tryd.func79, Tryd.ntmps79
  go_wp2_with fail
  refine (HI.out _ ((hT.alloc _).alloc _) (cells_k w _ [2, 3, 4] _)).mono ?_
  rintro e w1 ⟨rfl, g1⟩
  have b1 : Below w.heap.size w w1 := (((Below.refl _ _).alloc (Nat.le_refl _) _).alloc (by simp) _).trans (g1.mono (by simp; omega))
  clear g1
  go_wp2
  go_ret
  exact ⟨rfl, b1⟩

set_option maxHeartbeats 1000000 in
theorem isReset_r (k n p : Int) (w : World) (hT : KT w) :
    Calls Tryd.prog 80 #[.agg #[.int .i64 k, .int .i64 n, .int .i64 p]] w fun e w' => e = .returned (.bool (okA k n p && ([2, 3, 4, 7, 8] : List Int).contains k)) ∧ Below w.heap.size w w' := by
  have HI : Hid (∀ W, KT W → (∀ j z, ([2, 3, 4, 7, 8] : List Int)[j]? = some z → W.cell? ⟨w.heap.size + 1, j, none⟩ = some (.int .i64 z)) → Calls Tryd.prog 92 #[.agg #[.int .i64 k, .int .i64 n, .int .i64 p], .slice (some ⟨w.heap.size + 1, 0, none⟩) 5 5] W fun e w' => e = .returned (.bool (okA k n p && ([2, 3, 4, 7, 8] : List Int).contains k)) ∧ Below W.heap.size W w') :=
    fun W h hz => isOf_r k n p (w.heap.size + 1) [2, 3, 4, 7, 8] W h (by simp) hz
  generalize (okA k n p && ([2, 3, 4, 7, 8] : List Int).contains k) = C at HI ⊢
  go_enter Tryd.func80, Tryd.ntmps80
  go_wp2_with fail
  refine (HI.out _ ((hT.alloc _).alloc _) (cells_k w _ [2, 3, 4, 7, 8] _)).mono ?_
  rintro e w1 ⟨rfl, g1⟩
  have b1 : Below w.heap.size w w1 := (((Below.refl _ _).alloc (Nat.le_refl _) _).alloc (by simp) _).trans (g1.mono (by simp; omega))
  clear g1
  go_wp2
  go_ret
  exact ⟨rfl, b1⟩

set_option maxHeartbeats 1000000 in
theorem isStep_r (k n p : Int) (w : World) (hT : KT w) :
    Calls Tryd.prog 81 #[.agg #[.int .i64 k, .int .i64 n, .int .i64 p]] w fun e w' => e = .returned (.bool (okA k n p && ([4] : List Int).contains k)) ∧ Below w.heap.size w w' := by
  have HI : Hid (∀ W, KT W → (∀ j z, ([4] : List Int)[j]? = some z → W.cell? ⟨w.heap.size + 1, j, none⟩ = some (.int .i64 z)) → Calls Tryd.prog 92 #[.agg #[.int .i64 k, .int .i64 n, .int .i64 p], .slice (some ⟨w.heap.size + 1, 0, none⟩) 1 1] W fun e w' => e = .returned (.bool (okA k n p && ([4] : List Int).contains k)) ∧ Below W.heap.size W w') :=
    fun W h hz => isOf_r k n p (w.heap.size + 1) [4] W h (by simp) hz
  generalize (okA k n p && ([4] : List Int).contains k) = C at HI ⊢
  go_enter Tryd.func81, Tryd.ntmps81
  go_wp2_with fail
  refine (HI.out _ ((hT.alloc _).alloc _) (cells_k w _ [4] _)).mono ?_
  rintro e w1 ⟨rfl, g1⟩
  have b1 : Below w.heap.size w w1 := (((Below.refl _ _).alloc (Nat.le_refl _) _).alloc (by simp) _).trans (g1.mono (by simp; omega))
  clear g1
  go_wp2
  go_ret
  exact ⟨rfl, b1⟩

set_option maxHeartbeats 1000000 in
theorem isTimer_r (k n p : Int) (w : World) (hT : KT w) :
    Calls Tryd.prog 82 #[.agg #[.int .i64 k, .int .i64 n, .int .i64 p]] w fun e w' => e = .returned (.bool (okA k n p && ([7] : List Int).contains k)) ∧ Below w.heap.size w w' := by
  have HI : Hid (∀ W, KT W → (∀ j z, ([7] : List Int)[j]? = some z → W.cell? ⟨w.heap.size + 1, j, none⟩ = some (.int .i64 z)) → Calls Tryd.prog 92 #[.agg #[.int .i64 k, .int .i64 n, .int .i64 p], .slice (some ⟨w.heap.size + 1, 0, none⟩) 1 1] W fun e w' => e = .returned (.bool (okA k n p && ([7] : List Int).contains k)) ∧ Below W.heap.size W w') :=
    fun W h hz => isOf_r k n p (w.heap.size + 1) [7] W h (by simp) hz
  generalize (okA k n p && ([7] : List Int).contains k) = C at HI ⊢
  go_enter Tryd.func82, Tryd.ntmps82
  go_wp2_with fail
  refine (HI.out _ ((hT.alloc _).alloc _) (cells_k w _ [7] _)).mono ?_
  rintro e w1 ⟨rfl, g1⟩
  have b1 : Below w.heap.size w w1 := (((Below.refl _ _).alloc (Nat.le_refl _) _).alloc (by simp) _).trans (g1.mono (by simp; omega))
  clear g1
  go_wp2
  go_ret
  exact ⟨rfl, b1⟩

set_option maxHeartbeats 1000000 in
theorem isCounter_r (k n p : Int) (w : World) (hT : KT w) :
    Calls Tryd.prog 84 #[.agg #[.int .i64 k, .int .i64 n, .int .i64 p]] w fun e w' => e = .returned (.bool (okA k n p && ([8] : List Int).contains k)) ∧ Below w.heap.size w w' := by
  have HI : Hid (∀ W, KT W → (∀ j z, ([8] : List Int)[j]? = some z → W.cell? ⟨w.heap.size + 1, j, none⟩ = some (.int .i64 z)) → Calls Tryd.prog 92 #[.agg #[.int .i64 k, .int .i64 n, .int .i64 p], .slice (some ⟨w.heap.size + 1, 0, none⟩) 1 1] W fun e w' => e = .returned (.bool (okA k n p && ([8] : List Int).contains k)) ∧ Below W.heap.size W w') :=
    fun W h hz => isOf_r k n p (w.heap.size + 1) [8] W h (by simp) hz
  generalize (okA k n p && ([8] : List Int).contains k) = C at HI ⊢
  go_enter Tryd.func84, Tryd.ntmps84
  go_wp2_with fail
  refine (HI.out _ ((hT.alloc _).alloc _) (cells_k w _ [8] _)).mono ?_
  rintro e w1 ⟨rfl, g1⟩
  have b1 : Below w.heap.size w w1 := (((Below.refl _ _).alloc (Nat.le_refl _) _).alloc (by simp) _).trans (g1.mono (by simp; omega))
  clear g1
  go_wp2
  go_ret
  exact ⟨rfl, b1⟩

set_option maxHeartbeats 1000000 in
theorem isWholeReg_r (k n p : Int) (w : World) (hT : KT w) :
    Calls Tryd.prog 85 #[.agg #[.int .i64 k, .int .i64 n, .int .i64 p]] w fun e w' => e = .returned (.bool (okA k n p && ([9] : List Int).contains k)) ∧ Below w.heap.size w w' := by
  have HI : Hid (∀ W, KT W → (∀ j z, ([9] : List Int)[j]? = some z → W.cell? ⟨w.heap.size + 1, j, none⟩ = some (.int .i64 z)) → Calls Tryd.prog 92 #[.agg #[.int .i64 k, .int .i64 n, .int .i64 p], .slice (some ⟨w.heap.size + 1, 0, none⟩) 1 1] W fun e w' => e = .returned (.bool (okA k n p && ([9] : List Int).contains k)) ∧ Below W.heap.size W w') :=
    fun W h hz => isOf_r k n p (w.heap.size + 1) [9] W h (by simp) hz
  generalize (okA k n p && ([9] : List Int).contains k) = C at HI ⊢
  go_enter Tryd.func85, Tryd.ntmps85
  go_wp2_with fail
  refine (HI.out _ ((hT.alloc _).alloc _) (cells_k w _ [9] _)).mono ?_
  rintro e w1 ⟨rfl, g1⟩
  have b1 : Below w.heap.size w w1 := (((Below.refl _ _).alloc (Nat.le_refl _) _).alloc (by simp) _).trans (g1.mono (by simp; omega))
  clear g1
  go_wp2
  go_ret
  exact ⟨rfl, b1⟩

set_option maxHeartbeats 1000000 in
theorem isRealReg_r (k n p : Int) (w : World) (hT : KT w) :
    Calls Tryd.prog 86 #[.agg #[.int .i64 k, .int .i64 n, .int .i64 p]] w fun e w' => e = .returned (.bool (okA k n p && ([10] : List Int).contains k)) ∧ Below w.heap.size w w' := by
  have HI : Hid (∀ W, KT W → (∀ j z, ([10] : List Int)[j]? = some z → W.cell? ⟨w.heap.size + 1, j, none⟩ = some (.int .i64 z)) → Calls Tryd.prog 92 #[.agg #[.int .i64 k, .int .i64 n, .int .i64 p], .slice (some ⟨w.heap.size + 1, 0, none⟩) 1 1] W fun e w' => e = .returned (.bool (okA k n p && ([10] : List Int).contains k)) ∧ Below W.heap.size W w') :=
    fun W h hz => isOf_r k n p (w.heap.size + 1) [10] W h (by simp) hz
  generalize (okA k n p && ([10] : List Int).contains k) = C at HI ⊢
  go_enter Tryd.func86, Tryd.ntmps86
  go_wp2_with fail
  refine (HI.out _ ((hT.alloc _).alloc _) (cells_k w _ [10] _)).mono ?_
  rintro e w1 ⟨rfl, g1⟩
  have b1 : Below w.heap.size w w1 := (((Below.refl _ _).alloc (Nat.le_refl _) _).alloc (by simp) _).trans (g1.mono (by simp; omega))
  clear g1
  go_wp2
  go_ret
  exact ⟨rfl, b1⟩

set_option maxHeartbeats 1000000 in
theorem isPast_r (k n p : Int) (w : World) (hT : KT w) :
    Calls Tryd.prog 75 #[.agg #[.int .i64 k, .int .i64 n, .int .i64 p]] w fun e w' => e = .returned (.bool (okA k n p && ([5] : List Int).contains k)) ∧ Below w.heap.size w w' := by
  have HI : Hid (∀ W, KT W → (∀ j z, ([5] : List Int)[j]? = some z → W.cell? ⟨w.heap.size + 1, j, none⟩ = some (.int .i64 z)) → Calls Tryd.prog 92 #[.agg #[.int .i64 k, .int .i64 n, .int .i64 p], .slice (some ⟨w.heap.size + 1, 0, none⟩) 1 1] W fun e w' => e = .returned (.bool (okA k n p && ([5] : List Int).contains k)) ∧ Below W.heap.size W w') :=
    fun W h hz => isOf_r k n p (w.heap.size + 1) [5] W h (by simp) hz
  generalize (okA k n p && ([5] : List Int).contains k) = C at HI ⊢
  go_enter Tryd.func75, Tryd.ntmps75
  go_wp2_with fail
  refine (HI.out _ ((hT.alloc _).alloc _) (cells_k w _ [5] _)).mono ?_
  rintro e w1 ⟨rfl, g1⟩
  have b1 : Below w.heap.size w w1 := (((Below.refl _ _).alloc (Nat.le_refl _) _).alloc (by simp) _).trans (g1.mono (by simp; omega))
  clear g1
  go_wp2
  go_ret
  exact ⟨rfl, b1⟩

set_option maxHeartbeats 1000000 in
theorem isPreset_r (k n p : Int) (w : World) (hT : KT w) :
    Calls Tryd.prog 83 #[.agg #[.int .i64 k, .int .i64 n, .int .i64 p]] w fun e w' => e = .returned (.bool (okA k n p && ([11] : List Int).contains k && decide (0 ≤ n))) ∧ Below w.heap.size w w' := by
  have HI : Hid (∀ W, KT W → (∀ j z, ([11] : List Int)[j]? = some z → W.cell? ⟨w.heap.size + 1, j, none⟩ = some (.int .i64 z)) → Calls Tryd.prog 92 #[.agg #[.int .i64 k, .int .i64 n, .int .i64 p], .slice (some ⟨w.heap.size + 1, 0, none⟩) 1 1] W fun e w' => e = .returned (.bool (okA k n p && ([11] : List Int).contains k)) ∧ Below W.heap.size W w') :=
    fun W h hz => isOf_r k n p (w.heap.size + 1) [11] W h (by simp) hz
  generalize (okA k n p && ([11] : List Int).contains k) = C at HI ⊢
  cases C with
  | false =>
    go_enter Tryd.func83, Tryd.ntmps83
    go_wp2_with fail
    refine (HI.out _ ((hT.alloc _).alloc _) (cells_k w _ [11] _)).mono ?_
    rintro e w1 ⟨rfl, g1⟩
    have b1 : Below w.heap.size w w1 := (((Below.refl _ _).alloc (Nat.le_refl _) _).alloc (by simp) _).trans (g1.mono (by simp; omega))
    clear g1
    go_wp2
    go_ret
    exact ⟨by simp, b1⟩
  | true =>
    go_enter Tryd.func83, Tryd.ntmps83
    go_wp2_with fail
    refine (HI.out _ ((hT.alloc _).alloc _) (cells_k w _ [11] _)).mono ?_
    rintro e w1 ⟨rfl, g1⟩
    have c1 : w1.cell? ⟨w.heap.size, 1, none⟩ = some (.int .i64 n) := cell_later g1 (by simp)
    have b1 : Below w.heap.size w w1 := (((Below.refl _ _).alloc (Nat.le_refl _) _).alloc (by simp) _).trans (g1.mono (by simp; omega))
    clear g1
    go_wp2
    go_ret
    exact ⟨by simp, b1⟩

/-- A place's function, called. -/
theorem place_r (c : Nat) (h1 : 1 ≤ c) (h2 : c ≤ 13) : ∃ f, pv c = .func (.func f) #[] #[] ∧ (∀ args W, (callFunc f args).run Tryd.prog W = .ok (.enter f args) W) ∧ ∀ (k n p : Int) (w : World), KT w → Calls Tryd.prog f #[.agg #[.int .i64 k, .int .i64 n, .int .i64 p]] w fun e w' => e = .returned (.bool (pp c (k, n, p))) ∧ Below w.heap.size w w' := by
  rcases pc c with h | rfl | rfl | rfl | rfl | rfl | rfl | rfl | rfl | rfl | rfl | rfl | rfl | rfl
  · omega
  · exact ⟨_, rfl, enters_of Tryd.func74 (by kernel_rfl) rfl, fun k n p w hT => impl_isbit k n p w hT⟩
  · exact ⟨_, rfl, enters_of Tryd.func75 (by kernel_rfl) rfl, fun k n p w hT => isPast_r k n p w hT⟩
  · exact ⟨_, rfl, enters_of Tryd.func76 (by kernel_rfl) rfl, fun k n p w hT => impl_iswhole k n p w hT⟩
  · exact ⟨_, rfl, enters_of Tryd.func77 (by kernel_rfl) rfl, fun k n p w hT => impl_isreal k n p w hT⟩
  · exact ⟨_, rfl, enters_of Tryd.func78 (by kernel_rfl) rfl, fun k n p w hT => isOut_r k n p w hT⟩
  · exact ⟨_, rfl, enters_of Tryd.func79 (by kernel_rfl) rfl, fun k n p w hT => isSet_r k n p w hT⟩
  · exact ⟨_, rfl, enters_of Tryd.func80 (by kernel_rfl) rfl, fun k n p w hT => isReset_r k n p w hT⟩
  · exact ⟨_, rfl, enters_of Tryd.func81 (by kernel_rfl) rfl, fun k n p w hT => isStep_r k n p w hT⟩
  · exact ⟨_, rfl, enters_of Tryd.func82 (by kernel_rfl) rfl, fun k n p w hT => isTimer_r k n p w hT⟩
  · exact ⟨_, rfl, enters_of Tryd.func83 (by kernel_rfl) rfl, fun k n p w hT => isPreset_r k n p w hT⟩
  · exact ⟨_, rfl, enters_of Tryd.func84 (by kernel_rfl) rfl, fun k n p w hT => isCounter_r k n p w hT⟩
  · exact ⟨_, rfl, enters_of Tryd.func85 (by kernel_rfl) rfl, fun k n p w hT => isWholeReg_r k n p w hT⟩
  · exact ⟨_, rfl, enters_of Tryd.func86 (by kernel_rfl) rfl, fun k n p w hT => isRealReg_r k n p w hT⟩
end Go.Proofs.YtkppcmpdghnmgaaDoor

/- The operands of a contact or coil, taken by places: elemPlaces.take, elemRule.take. -/
namespace Go.Proofs.YtkppcmpdghnmgaaDoor
open Go.RowKit Go.Shelf
set_option linter.unusedVariables false

abbrev Arg := Int × Int × Int
/-- The operands of a list lie in the memory, one behind the other. -/
def Ops (w : World) (b o : Nat) (xs : List Arg) : Prop :=
  ∀ j x, xs[j]? = some x → w.cell? ⟨b, o + j * 3, none⟩ = some (.int .i64 x.1) ∧ w.cell? ⟨b, o + j * 3 + 1, none⟩ = some (.int .i64 x.2.1) ∧ w.cell? ⟨b, o + j * 3 + 2, none⟩ = some (.int .i64 x.2.2)
theorem Ops.below {w w' : World} {b o : Nat} {xs : List Arg} (h : Ops w b o xs) {B : Nat} (hB : b < B) (g : Below B w w') : Ops w' b o xs := fun j x hx => by
  have := h j x hx
  refine ⟨?_, ?_, ?_⟩
  · exact (g.cell (p := ⟨b, o + j * 3, none⟩) hB).trans this.1
  · exact (g.cell (p := ⟨b, o + j * 3 + 1, none⟩) hB).trans this.2.1
  · exact (g.cell (p := ⟨b, o + j * 3 + 2, none⟩) hB).trans this.2.2
theorem Ops.lt {w : World} {b o : Nat} {xs : List Arg} (h : Ops w b o xs) (hne : xs ≠ []) : b < w.heap.size := by
  match xs, hne with
  | x :: _, _ => exact World.block_lt_of_cell? _ _ (h 0 x rfl).1
theorem Ops.later {w w' : World} {b o : Nat} {xs : List Arg} (h : Ops w b o xs) (g : Below w.heap.size w w') : Ops w' b o xs := by
  match xs, h with
  | [], _ => intro j x hx; simp at hx
  | x :: r, h => exact h.below (h.lt (by simp)) g

set_option maxRecDepth 10000 in
set_option maxHeartbeats 1000000 in
theorem take_run (V0 V1 V2 : Value) (m : Nat) (hm1 : 1 ≤ m) (hm3 : m ≤ 3) (F : Nat → Nat) (X : Nat → Arg) (Pr : Nat → Bool) (b o cap : Nat) (w : World) (hT : KT w)
    (hV : ∀ n, n < m → #[V0, V1, V2][n]? = some (.func (.func (F n)) #[] #[]))
    (hX : ∀ n, n < m → w.cell? ⟨b, o + n * 3, none⟩ = some (.int .i64 (X n).1) ∧ w.cell? ⟨b, o + n * 3 + 1, none⟩ = some (.int .i64 (X n).2.1) ∧ w.cell? ⟨b, o + n * 3 + 2, none⟩ = some (.int .i64 (X n).2.2))
    (hE : ∀ n, n < m → ∀ args W, (callFunc (F n) args).run Tryd.prog W = .ok (.enter (F n) args) W)
    (hF : Hid (∀ n, n < m → ∀ W, KT W → Calls Tryd.prog (F n) #[.agg #[.int .i64 (X n).1, .int .i64 (X n).2.1, .int .i64 (X n).2.2]] W fun e w' => e = .returned (.bool (Pr n)) ∧ Below W.heap.size W w'))
    (hcnt : Hid (∀ W, Calls Tryd.prog 87 #[.agg #[V0, V1, V2]] W fun e w' => e = .returned (.int .i64 m) ∧ Below W.heap.size W w')) :
    Calls Tryd.prog 69 #[.agg #[V0, V1, V2], .slice (some ⟨b, o, none⟩) m cap] w fun e w' => e = .returned (.bool ((List.range m).all Pr)) ∧ Below w.heap.size w w' := by
  have m0 : ((m : Int) == 0) = false := by simp; omega
  obtain ⟨R, HR⟩ : ∃ R, Hid (R = (List.range m).all Pr) := ⟨_, Eq.refl ((List.range m).all Pr)⟩
  rw [← HR.out]
  go_enter Tryd.func69, Tryd.ntmps69
  go_wp2_with fail
  refine (hcnt.out _).mono ?_
  rintro e w1 ⟨rfl, g1⟩
  go_wp2
  go_loopg [19] m (fun g i wr => ∃ n : Nat, n + g = m ∧ i = .int .i64 n ∧ Below (w.heap.size + 1) (w.alloc (.cells #[V0, V1, V2] 90)) wr ∧ ∀ j, j < n → Pr j = true)
  case atStart => exact ⟨0, by omega, rfl, by simpa using g1, fun j hj => by omega⟩
  case round =>
    obtain ⟨n, hn, rfl, hb, hp⟩ := hrel
    have hbw : Below w.heap.size w wr := ((Below.refl _ _).alloc (Nat.le_refl _) _).trans (hb.mono (by simp))
    by_cases hlt : n < m
    · have bl : b < w.heap.size := World.block_lt_of_cell? _ _ (hX 0 (by omega)).1
      have x0 : wr.cell? ⟨b, o + n * 3, none⟩ = some (.int .i64 (X n).1) := (hbw.cell (p := ⟨b, o + n * 3, none⟩) bl).trans (hX n hlt).1
      have x1 : wr.cell? ⟨b, o + n * 3 + 1, none⟩ = some (.int .i64 (X n).2.1) := (hbw.cell (p := ⟨b, o + n * 3 + 1, none⟩) bl).trans (hX n hlt).2.1
      have x2 : wr.cell? ⟨b, o + n * 3 + 2, none⟩ = some (.int .i64 (X n).2.2) := (hbw.cell (p := ⟨b, o + n * 3 + 2, none⟩) bl).trans (hX n hlt).2.2
      have fc : wr.cell? ⟨w.heap.size, n, none⟩ = some (.func (.func (F n)) #[] #[]) := by
        rw [hb.cell (p := ⟨w.heap.size, n, none⟩) (by show w.heap.size < w.heap.size + 1; omega), cell_of_row _ _ n _ 90 (0, 0) (heap_alloc_last w _)]
        exact hV n hlt
      have HFn : Hid (∀ W, KT W → Calls Tryd.prog (F n) #[.agg #[.int .i64 (X n).1, .int .i64 (X n).2.1, .int .i64 (X n).2.2]] W fun e w' => e = .returned (.bool (Pr n)) ∧ Below W.heap.size W w') := fun W h => hF.out n hlt W h
      have kt := hT.later hbw
      have sz := hbw.size
      have i1 : (n : Int) < (m : Int) := by omega
      have i2 : (n : Int) < 3 := by omega
      have i3 : (0 : Int) ≤ (n : Int) := by omega
      generalize hA : (X n).1 = A1 at x0 HFn
      generalize hB : (X n).2.1 = A2 at x1 HFn
      generalize hC : (X n).2.2 = A3 at x2 HFn
      have en := hE n hlt
      generalize hFF : F n = f at fc HFn en
      clear hX hV hF hE hcnt g1 hA hB hC hFF
      go_upto_region 6 with fail
      have sz2 : w.heap.size < wr.heap.size := by have := hb.size; simp at this; omega
      have kf := cell_regrown (w := wr.alloc (.cells #[.int .i64 A1, .int .i64 A2, .int .i64 A3] 83)) (a := ⟨w.heap.size, n, none⟩) ((World.cell?_alloc_past _ _ _ sz2).trans fc)
      have ka0 := cell_regrown (w := wr.alloc (.cells #[.int .i64 A1, .int .i64 A2, .int .i64 A3] 83)) (a := ⟨wr.heap.size, 0, none⟩) (v := .int .i64 A1) (by simp)
      have ka1 := cell_regrown (w := wr.alloc (.cells #[.int .i64 A1, .int .i64 A2, .int .i64 A3] 83)) (a := ⟨wr.heap.size, 1, none⟩) (v := .int .i64 A2) (by simp)
      have ka2 := cell_regrown (w := wr.alloc (.cells #[.int .i64 A1, .int .i64 A2, .int .i64 A3] 83)) (a := ⟨wr.heap.size, 2, none⟩) (v := .int .i64 A3) (by simp)
      have cF : ∀ d os, Calls Tryd.prog f #[.agg #[.int .i64 A1, .int .i64 A2, .int .i64 A3]] (Sort.grow (redrawn (wr.alloc (.cells #[.int .i64 A1, .int .i64 A2, .int .i64 A3] 83)) d) os) fun e w'' => e = .returned (.bool (Pr n)) ∧ ∃ p : Regrown, w'' = Sort.grow (redrawn (wr.alloc (.cells #[.int .i64 A1, .int .i64 A2, .int .i64 A3] 83)) p.d) p.os :=
        fun d os => Calls.regrown_of (HFn.out _ ((kt.alloc _).later (below_regrown _ d os)))
      have hb2 : Below (w.heap.size + 1) (w.alloc (.cells #[V0, V1, V2] 90)) (wr.alloc (.cells #[.int .i64 A1, .int .i64 A2, .int .i64 A3] 83)) := hb.alloc (by simpa using hb.size) _
      clear HFn kt x0 x1 x2 fc
      refine wp_region_quiet_below (by kernel_rfl) (by kernel_rfl) ?_
      cases hq : Pr n with
      | true =>
        rw [hq] at cF
        repeat (go_big_quiet_step (first | exact cF _ _))
        refine wpQuiet_nil ?_
        intro _ hw'
        obtain ⟨⟨dq, osq⟩, hw''⟩ := hw'
        subst hw''
        go_wp2
        go_roundg (gk - 1)
        case measure => omega
        case rel =>
          refine ⟨n + 1, by omega, by simp, hb2.trans ((below_regrown _ dq osq).mono (by simp; omega)), ?_⟩
          intro j hj
          by_cases hjn : j = n
          · rw [hjn]; exact hq
          · exact hp j (by omega)
      | false =>
        rw [hq] at cF
        repeat (go_big_quiet_step (first | exact cF _ _))
        refine wpQuiet_nil ?_
        intro _ hw'
        obtain ⟨⟨dq, osq⟩, hw''⟩ := hw'
        subst hw''
        go_wp2
        go_ret
        refine ⟨?_, (hbw.alloc hbw.size _).trans ((below_regrown _ dq osq).mono (by simp; omega))⟩
        rw [HR.out, show (List.range m).all Pr = false from by
          rw [List.all_eq_false]
          exact ⟨n, List.mem_range.2 hlt, by rw [hq]; simp⟩]
        rfl
    · have i1 : ¬ ((n : Int) < (m : Int)) := by omega
      have ea : (List.range m).all Pr = true := by
        rw [List.all_eq_true]
        intro j hj
        exact hp j (by have := List.mem_range.1 hj; omega)
      go_wp2
      go_ret
      exact ⟨by rw [HR.out, ea]; rfl, hbw⟩

/-- Operands taken by a list of places. -/
def tk (l : List Nat) (xs : List Arg) : Bool := !xs.isEmpty && decide (xs.length = l.length) && (List.range xs.length).all fun n => pp (l.getD n 0) (xs.getD n (0, 0, 0))

/-- A slice of operands: an empty one, or one that lies in the memory. -/
def Sl (w : World) (a : Option Addr) (xs : List Arg) : Prop := xs = [] ∨ ∃ b o, a = some ⟨b, o, none⟩ ∧ Ops w b o xs
theorem Sl.later {w w' : World} {a : Option Addr} {xs : List Arg} (h : Sl w a xs) (g : Below w.heap.size w w') : Sl w' a xs := by
  rcases h with h | ⟨b, o, h1, h2⟩
  · exact .inl h
  · exact .inr ⟨b, o, h1, h2.later g⟩
theorem Sl.alloc {w : World} {a : Option Addr} {xs : List Arg} (h : Sl w a xs) (o : Obj) : Sl (w.alloc o) a xs := h.later ((Below.refl _ _).alloc (Nat.le_refl _) _)

set_option maxRecDepth 10000 in
set_option maxHeartbeats 1000000 in
theorem take_no (V0 V1 V2 : Value) (m len cap : Nat) (a : Option Addr) (w : World) (hne : len = 0 ∨ len ≠ m)
    (hcnt : Hid (∀ W, Calls Tryd.prog 87 #[.agg #[V0, V1, V2]] W fun e w' => e = .returned (.int .i64 m) ∧ Below W.heap.size W w')) :
    Calls Tryd.prog 69 #[.agg #[V0, V1, V2], .slice a len cap] w fun e w' => e = .returned (.bool false) ∧ Below w.heap.size w w' := by
  by_cases h0 : len = 0
  · subst h0
    go_enter Tryd.func69, Tryd.ntmps69
    go_wp2
    go_ret
    exact ⟨rfl, by go_grown⟩
  · have m0 : ((len : Int) == 0) = false := by simp; omega
    have m1 : ((len : Int) == (m : Int)) = false := by simp; omega
    go_enter Tryd.func69, Tryd.ntmps69
    go_wp2_with fail
    refine (hcnt.out _).mono ?_
    rintro e w1 ⟨rfl, g1⟩
    have b1 : Below w.heap.size w w1 := ((Below.refl _ _).alloc (Nat.le_refl _) _).trans (g1.mono (by simp))
    clear g1
    go_wp2
    go_ret
    exact ⟨rfl, b1⟩

theorem take_of (l : List Nat) (h : okPl l = true) (a : Option Addr) (xs : List Arg) (len cap : Nat) (hlen : len = xs.length) (w : World) (hT : KT w) (hx : Sl w a xs) :
    Calls Tryd.prog 69 #[plV l, .slice a len cap] w fun e w' => e = .returned (.bool (tk l xs)) ∧ Below w.heap.size w w' := by
  subst hlen
  by_cases hne : xs.length = 0 ∨ xs.length ≠ l.length
  · have e0 : tk l xs = false := by
      unfold tk
      rcases hne with h0 | h0
      · have : xs = [] := List.length_eq_zero_iff.1 h0
        subst this; rfl
      · simp [h0]
    rw [e0]
    exact take_no _ _ _ l.length xs.length cap a w hne (fun W => count_of l h W)
  · have h1 : 1 ≤ xs.length := by omega
    have h2 : xs.length = l.length := by omega
    have h' := h
    simp only [okPl, Bool.and_eq_true, decide_eq_true_eq, List.all_eq_true] at h'
    obtain ⟨h3, ha⟩ := h'
    rcases hx with rfl | ⟨b, o, rfl, hx⟩
    · simp at h1
    have e0 : tk l xs = (List.range xs.length).all fun n => pp (l.getD n 0) (xs.getD n (0, 0, 0)) := by
      have : xs.isEmpty = false := by cases xs with | nil => simp at h1 | cons => rfl
      simp [tk, h2, this]
    rw [e0]
    have key : ∀ n, ∃ f, n < xs.length → (pv (l.getD n 0) = .func (.func f) #[] #[] ∧ (∀ args W, (callFunc f args).run Tryd.prog W = .ok (.enter f args) W) ∧ ∀ (k n' p : Int) (w : World), KT w → Calls Tryd.prog f #[.agg #[.int .i64 k, .int .i64 n', .int .i64 p]] w fun e w' => e = .returned (.bool (pp (l.getD n 0) (k, n', p))) ∧ Below w.heap.size w w') := by
      intro n
      by_cases hn : n < xs.length
      · have hm : l.getD n 0 ∈ l := by
          rw [List.getD_eq_getElem?_getD, List.getElem?_eq_getElem (by omega)]
          exact List.getElem_mem _
        obtain ⟨f, q⟩ := place_r (l.getD n 0) (ha _ hm).1 (ha _ hm).2
        exact ⟨f, fun _ => q⟩
      · exact ⟨0, fun h => absurd h hn⟩
    obtain ⟨F, hF⟩ := Classical.axiomOfChoice key
    have hl3 : xs.length ≤ 3 := by omega
    refine take_run (pv (l.getD 0 0)) (pv (l.getD 1 0)) (pv (l.getD 2 0)) xs.length h1 hl3 F (fun n => xs.getD n (0, 0, 0)) _ b o cap w hT ?_ ?_ (fun n hn => (hF n hn).2.1) ?_ ?_
    · intro n hn
      rw [← (hF n hn).1]
      have : n = 0 ∨ n = 1 ∨ n = 2 := by omega
      rcases this with rfl | rfl | rfl <;> rfl
    · intro n hn
      refine hx n _ ?_
      rw [List.getD_eq_getElem?_getD, List.getElem?_eq_getElem hn]; rfl
    · intro n hn W hW
      exact (hF n hn).2.2 _ _ _ W hW
    · intro W
      rw [h2]
      exact count_of l h W

/-- Operands taken by a rule. -/
def rtk (op : Int) (xs : List Arg) : Bool := tk (ndP op) xs || tk (orP op) xs

set_option maxRecDepth 10000 in
set_option maxHeartbeats 1000000 in
theorem rule_take_run (A B V0 V1 V2 U0 U1 U2 : Value) (r1 r2 : Bool) (a : Option Addr) (len cap : Nat) (w : World)
    (h1 : Hid (∀ W, Below w.heap.size w W → Calls Tryd.prog 69 #[.agg #[V0, V1, V2], .slice a len cap] W fun e w' => e = .returned (.bool r1) ∧ Below W.heap.size W w'))
    (h2 : Hid (∀ W, Below w.heap.size w W → Calls Tryd.prog 69 #[.agg #[U0, U1, U2], .slice a len cap] W fun e w' => e = .returned (.bool r2) ∧ Below W.heap.size W w')) :
    Calls Tryd.prog 59 #[.agg #[A, B, V0, V1, V2, U0, U1, U2], .slice a len cap] w fun e w' => e = .returned (.bool (r1 || r2)) ∧ Below w.heap.size w w' := by
  cases r1 with
  | true =>
    go_enter Tryd.func59, Tryd.ntmps59
    go_wp2_with fail
    refine (h1.out _ ((Below.refl _ _).alloc (Nat.le_refl _) _)).mono ?_
    rintro e w1 ⟨rfl, g1⟩
    have b1 : Below w.heap.size w w1 := ((Below.refl _ _).alloc (Nat.le_refl _) _).trans (g1.mono (by simp))
    clear g1
    go_wp2
    go_ret
    exact ⟨by simp, b1⟩
  | false =>
    go_enter Tryd.func59, Tryd.ntmps59
    go_wp2_with fail
    refine (h1.out _ ((Below.refl _ _).alloc (Nat.le_refl _) _)).mono ?_
    rintro e w1 ⟨rfl, g1⟩
    have c5 : w1.cell? ⟨w.heap.size, 5, none⟩ = some U0 := cell_later g1 (by simp)
    have c6 : w1.cell? ⟨w.heap.size, 6, none⟩ = some U1 := cell_later g1 (by simp)
    have c7 : w1.cell? ⟨w.heap.size, 7, none⟩ = some U2 := cell_later g1 (by simp)
    have b1 : Below w.heap.size w w1 := ((Below.refl _ _).alloc (Nat.le_refl _) _).trans (g1.mono (by simp))
    clear g1
    go_wp2_with fail
    refine (h2.out _ b1).mono ?_
    rintro e w2 ⟨rfl, g2⟩
    have b2 := b1.trans (g2.mono b1.size)
    clear g2
    go_wp2
    go_ret
    exact ⟨by simp, b2⟩

theorem rule_take (op : Int) (a : Option Addr) (xs : List Arg) (len cap : Nat) (hlen : len = xs.length) (w : World) (hT : KT w) (hx : Sl w a xs) :
    Calls Tryd.prog 59 #[.agg (rulV op), .slice a len cap] w fun e w' => e = .returned (.bool (rtk op xs)) ∧ Below w.heap.size w w' :=
  rule_take_run _ _ _ _ _ _ _ _ _ _ a len cap w (fun W h => take_of (ndP op) (nd_ok op) a xs len cap hlen W (hT.later h) (hx.later h)) (fun W h => take_of (orP op) (or_ok op) a xs len cap hlen W (hT.later h) (hx.later h))
end Go.Proofs.YtkppcmpdghnmgaaDoor
/- ElemIsContact and ElemIsCoil, the program's. -/
namespace Go.Proofs.YtkppcmpdghnmgaaDoor
open Go.RowKit Go.Shelf
set_option linter.unusedVariables false

set_option maxRecDepth 10000 in
set_option maxHeartbeats 1000000 in
theorem impl_iscontact_run (op : Int) (RV0 : Array Value) (r : Bool) (a : Option Addr) (len cap : Nat) (w : World)
    (hR : Hid (∀ W, Below w.heap.size w W → Calls Tryd.prog 58 #[.int .i64 op] W fun e w' => e = .returned (.agg RV0) ∧ Below W.heap.size W w'))
    (hX : Hid (∀ W, Below w.heap.size w W → Calls Tryd.prog 59 #[.agg RV0, .slice a len cap] W fun e w' => e = .returned (.bool r) ∧ Below W.heap.size W w')) :
    Calls Tryd.prog 37 #[.agg #[.int .i64 op, .slice a len cap]] w fun e w' => e = .returned (.bool (decide (op ≤ 10) && r)) ∧ Below w.heap.size w w' := by
  have hb0 : Below w.heap.size w (w.alloc (.cells #[.int .i64 op, .slice a len cap] 26)) := (Below.refl _ _).alloc (Nat.le_refl _) _
  have k0 := cell_regrown (w := (w.alloc (.cells #[.int .i64 op, .slice a len cap] 26))) (a := ⟨w.heap.size, 0, none⟩) (v := .int .i64 op) (by simp)
  have k1 := cell_regrown (w := (w.alloc (.cells #[.int .i64 op, .slice a len cap] 26))) (a := ⟨w.heap.size, 1, none⟩) (v := .slice a len cap) (by simp)
  have cR : ∀ d os, Calls Tryd.prog 58 #[.int .i64 op] (Sort.grow (redrawn (w.alloc (.cells #[.int .i64 op, .slice a len cap] 26)) d) os) fun e w'' => e = .returned (.agg RV0) ∧ ∃ p : Regrown, w'' = Sort.grow (redrawn (w.alloc (.cells #[.int .i64 op, .slice a len cap] 26)) p.d) p.os :=
    fun d os => Calls.regrown_of (hR.out _ (hb0.trans ((below_regrown _ d os).mono hb0.size)))
  have cX : ∀ d os, Calls Tryd.prog 59 #[.agg RV0, .slice a len cap] (Sort.grow (redrawn (w.alloc (.cells #[.int .i64 op, .slice a len cap] 26)) d) os) fun e w'' => e = .returned (.bool r) ∧ ∃ p : Regrown, w'' = Sort.grow (redrawn (w.alloc (.cells #[.int .i64 op, .slice a len cap] 26)) p.d) p.os :=
    fun d os => Calls.regrown_of (hX.out _ (hb0.trans ((below_regrown _ d os).mono hb0.size)))
  clear hR hX
  by_cases hg : op ≤ 10
  · have ed : decide (op ≤ 10) = true := by simpa using hg
    rw [ed, Bool.true_and]
    go_enter Tryd.func37, Tryd.ntmps37
    go_upto_region 1 with fail
    refine wp_region_quiet_below (by kernel_rfl) (by kernel_rfl) ?_
    repeat (go_big_quiet_step (first | exact cR _ _ | exact cX _ _))
    refine wpQuiet_nil ?_
    intro _ hw'
    obtain ⟨⟨dq, osq⟩, hw''⟩ := hw'
    subst hw''
    go_wp2
    go_ret
    exact ⟨rfl, hb0.trans ((below_regrown _ dq osq).mono hb0.size)⟩
  · have ed : decide (op ≤ 10) = false := by simpa using hg
    rw [ed, Bool.false_and]
    go_enter Tryd.func37, Tryd.ntmps37
    go_upto_region 1 with fail
    refine wp_region_quiet_below (by kernel_rfl) (by kernel_rfl) ?_
    repeat (go_big_quiet_step (first | exact cR _ _ | exact cX _ _))
    refine wpQuiet_nil ?_
    intro _ hw'
    obtain ⟨⟨dq, osq⟩, hw''⟩ := hw'
    subst hw''
    go_wp2
    go_ret
    exact ⟨rfl, hb0.trans ((below_regrown _ dq osq).mono hb0.size)⟩

theorem impl_iscontact (op : Int) (a : Option Addr) (xs : List Arg) (len cap : Nat) (hlen : len = xs.length) (w : World) (hT : KT w) (hx : Sl w a xs) :
    Calls Tryd.prog 37 #[.agg #[.int .i64 op, .slice a len cap]] w fun e w' => e = .returned (.bool (decide (op ≤ 10) && rtk op xs)) ∧ Below w.heap.size w w' :=
  impl_iscontact_run op (rulV op) _ a len cap w (fun W _ => rule_of op W) (fun W h => rule_take op a xs len cap hlen W (hT.later h) (hx.later h))

set_option maxRecDepth 10000 in
set_option maxHeartbeats 1000000 in
theorem impl_iscoil_run (op : Int) (RV0 : Array Value) (r : Bool) (a : Option Addr) (len cap : Nat) (w : World)
    (hR : Hid (∀ W, Below w.heap.size w W → Calls Tryd.prog 58 #[.int .i64 op] W fun e w' => e = .returned (.agg RV0) ∧ Below W.heap.size W w'))
    (hX : Hid (∀ W, Below w.heap.size w W → Calls Tryd.prog 59 #[.agg RV0, .slice a len cap] W fun e w' => e = .returned (.bool r) ∧ Below W.heap.size W w')) :
    Calls Tryd.prog 38 #[.agg #[.int .i64 op, .slice a len cap]] w fun e w' => e = .returned (.bool (decide (21 ≤ op) && r)) ∧ Below w.heap.size w w' := by
  have hb0 : Below w.heap.size w (w.alloc (.cells #[.int .i64 op, .slice a len cap] 26)) := (Below.refl _ _).alloc (Nat.le_refl _) _
  have k0 := cell_regrown (w := (w.alloc (.cells #[.int .i64 op, .slice a len cap] 26))) (a := ⟨w.heap.size, 0, none⟩) (v := .int .i64 op) (by simp)
  have k1 := cell_regrown (w := (w.alloc (.cells #[.int .i64 op, .slice a len cap] 26))) (a := ⟨w.heap.size, 1, none⟩) (v := .slice a len cap) (by simp)
  have cR : ∀ d os, Calls Tryd.prog 58 #[.int .i64 op] (Sort.grow (redrawn (w.alloc (.cells #[.int .i64 op, .slice a len cap] 26)) d) os) fun e w'' => e = .returned (.agg RV0) ∧ ∃ p : Regrown, w'' = Sort.grow (redrawn (w.alloc (.cells #[.int .i64 op, .slice a len cap] 26)) p.d) p.os :=
    fun d os => Calls.regrown_of (hR.out _ (hb0.trans ((below_regrown _ d os).mono hb0.size)))
  have cX : ∀ d os, Calls Tryd.prog 59 #[.agg RV0, .slice a len cap] (Sort.grow (redrawn (w.alloc (.cells #[.int .i64 op, .slice a len cap] 26)) d) os) fun e w'' => e = .returned (.bool r) ∧ ∃ p : Regrown, w'' = Sort.grow (redrawn (w.alloc (.cells #[.int .i64 op, .slice a len cap] 26)) p.d) p.os :=
    fun d os => Calls.regrown_of (hX.out _ (hb0.trans ((below_regrown _ d os).mono hb0.size)))
  clear hR hX
  by_cases hg : 21 ≤ op
  · have ed : decide (21 ≤ op) = true := by simpa using hg
    rw [ed, Bool.true_and]
    go_enter Tryd.func38, Tryd.ntmps38
    go_upto_region 1 with fail
    refine wp_region_quiet_below (by kernel_rfl) (by kernel_rfl) ?_
    repeat (go_big_quiet_step (first | exact cR _ _ | exact cX _ _))
    refine wpQuiet_nil ?_
    intro _ hw'
    obtain ⟨⟨dq, osq⟩, hw''⟩ := hw'
    subst hw''
    go_wp2
    go_ret
    exact ⟨rfl, hb0.trans ((below_regrown _ dq osq).mono hb0.size)⟩
  · have ed : decide (21 ≤ op) = false := by simpa using hg
    rw [ed, Bool.false_and]
    go_enter Tryd.func38, Tryd.ntmps38
    go_upto_region 1 with fail
    refine wp_region_quiet_below (by kernel_rfl) (by kernel_rfl) ?_
    repeat (go_big_quiet_step (first | exact cR _ _ | exact cX _ _))
    refine wpQuiet_nil ?_
    intro _ hw'
    obtain ⟨⟨dq, osq⟩, hw''⟩ := hw'
    subst hw''
    go_wp2
    go_ret
    exact ⟨rfl, hb0.trans ((below_regrown _ dq osq).mono hb0.size)⟩

theorem impl_iscoil (op : Int) (a : Option Addr) (xs : List Arg) (len cap : Nat) (hlen : len = xs.length) (w : World) (hT : KT w) (hx : Sl w a xs) :
    Calls Tryd.prog 38 #[.agg #[.int .i64 op, .slice a len cap]] w fun e w' => e = .returned (.bool (decide (21 ≤ op) && rtk op xs)) ∧ Below w.heap.size w w' :=
  impl_iscoil_run op (rulV op) _ a len cap w (fun W _ => rule_of op W) (fun W h => rule_take op a xs len cap hlen W (hT.later h) (hx.later h))
end Go.Proofs.YtkppcmpdghnmgaaDoor

/- ElemIsContact of the specification. -/
namespace Go.Proofs.YtkppcmpdghnmgaaDoor
open Go.RowKit Go.Shelf
set_option linter.unusedVariables false

theorem ar_or (op : Int) : orP op = [] ∨ (orP op).length = (ndP op).length := by
  rcases op_cases op with h | ⟨n, hn, rfl⟩
  · exact .inl (out_all op h).2.2.2
  · rcases c38 n hn with rfl | rfl | rfl | rfl | rfl | rfl | rfl | rfl | rfl | rfl | rfl | rfl | rfl | rfl | rfl | rfl | rfl | rfl | rfl | rfl | rfl | rfl | rfl | rfl | rfl | rfl | rfl | rfl | rfl | rfl | rfl | rfl | rfl | rfl | rfl | rfl | rfl | rfl
    all_goals first | exact .inl rfl | exact .inr rfl
theorem rtk_len {op : Int} {xs : List Arg} (h : rtk op xs = true) : (xs.length : Int) = arN op ∧ xs ≠ [] := by
  unfold rtk tk at h
  simp only [Bool.or_eq_true, Bool.and_eq_true, decide_eq_true_eq] at h
  unfold arN
  rcases h with ⟨⟨h1, h2⟩, _⟩ | ⟨⟨h1, h2⟩, _⟩
  · exact ⟨by omega, fun e => by subst e; simp at h1⟩
  · refine ⟨?_, fun e => by subst e; simp at h1⟩
    rcases ar_or op with e | e
    · rw [e] at h2
      have := List.length_eq_zero_iff.1 h2
      subst this; simp at h1
    · omega
theorem rtk_no {op : Int} {xs : List Arg} (h : (xs.length : Int) ≠ arN op) : rtk op xs = false := by
  cases hr : rtk op xs with
  | false => rfl
  | true => exact absurd (rtk_len hr).1 h
theorem nd_none (op : Int) (h : ndP op = []) (xs : List Arg) : rtk op xs = false := by
  cases hr : rtk op xs with
  | false => rfl
  | true =>
    obtain ⟨h1, h2⟩ := rtk_len hr
    unfold arN at h1
    rw [h] at h1
    exact absurd (List.length_eq_zero_iff.1 (by simpa using h1)) h2

theorem spec_arity' (op : Int) (W : World) : Calls Tryd.prog 49 #[.int .i64 op] W fun e w' => e = .returned (.int .i64 (arN op)) ∧ Below W.heap.size W w' :=
  (spec_arity op W).mono fun e w' ⟨h1, h2⟩ => ⟨h1, by rw [h2]; exact Below.refl _ _⟩

set_option maxRecDepth 10000 in
set_option maxHeartbeats 1000000 in
theorem scontact_no (op N : Int) (a : Option Addr) (len cap : Nat) (w : World) (h : op < 1 ∨ 10 < op ∨ (len : Int) ≠ N)
    (hA : Hid (∀ W, Calls Tryd.prog 49 #[.int .i64 op] W fun e w' => e = .returned (.int .i64 N) ∧ Below W.heap.size W w')) :
    Calls Tryd.prog 32 #[.agg #[.int .i64 op, .slice a len cap]] w fun e w' => e = .returned (.bool false) ∧ Below w.heap.size w w' := by
  have hb0 : Below w.heap.size w (w.alloc (.cells #[.int .i64 op, .slice a len cap] 26)) := (Below.refl _ _).alloc (Nat.le_refl _) _
  have k0 := cell_regrown (w := w.alloc (.cells #[.int .i64 op, .slice a len cap] 26)) (a := ⟨w.heap.size, 0, none⟩) (v := .int .i64 op) (by simp)
  have k1 := cell_regrown (w := w.alloc (.cells #[.int .i64 op, .slice a len cap] 26)) (a := ⟨w.heap.size, 1, none⟩) (v := .slice a len cap) (by simp)
  have cA : ∀ d os, Calls Tryd.prog 49 #[.int .i64 op] (Sort.grow (redrawn (w.alloc (.cells #[.int .i64 op, .slice a len cap] 26)) d) os) fun e w'' => e = .returned (.int .i64 N) ∧ ∃ p : Regrown, w'' = Sort.grow (redrawn (w.alloc (.cells #[.int .i64 op, .slice a len cap] 26)) p.d) p.os :=
    fun d os => Calls.regrown_of (hA.out _)
  clear hA
  by_cases h1 : op < 1
  · clear h
    go_enter Tryd.func32, Tryd.ntmps32
    go_upto_region 1 with fail
    refine wp_region_quiet_below (by kernel_rfl) (by kernel_rfl) ?_
    repeat (go_big_quiet_step (first | exact cA _ _))
    refine wpQuiet_nil ?_
    intro _ hw'
    obtain ⟨⟨dq, osq⟩, hw''⟩ := hw'
    subst hw''
    go_wp2
    go_ret
    exact ⟨rfl, hb0.trans ((below_regrown _ dq osq).mono hb0.size)⟩
  · by_cases h2 : 10 < op
    · clear h
      go_enter Tryd.func32, Tryd.ntmps32
      go_upto_region 1 with fail
      refine wp_region_quiet_below (by kernel_rfl) (by kernel_rfl) ?_
      repeat (go_big_quiet_step (first | exact cA _ _))
      refine wpQuiet_nil ?_
      intro _ hw'
      obtain ⟨⟨dq, osq⟩, hw''⟩ := hw'
      subst hw''
      go_wp2
      go_ret
      exact ⟨rfl, hb0.trans ((below_regrown _ dq osq).mono hb0.size)⟩
    · have h3 : ((len : Int) == N) = false := by rw [beq_eq_false_iff_ne]; omega
      clear h
      go_enter Tryd.func32, Tryd.ntmps32
      go_upto_region 1 with fail
      refine wp_region_quiet_below (by kernel_rfl) (by kernel_rfl) ?_
      repeat (go_big_quiet_step (first | exact cA _ _))
      refine wpQuiet_nil ?_
      intro _ hw'
      obtain ⟨⟨dq, osq⟩, hw''⟩ := hw'
      subst hw''
      go_wp2
      go_ret
      exact ⟨rfl, hb0.trans ((below_regrown _ dq osq).mono hb0.size)⟩

set_option maxRecDepth 10000 in
set_option maxHeartbeats 1000000 in
theorem scontact1 (op k n p : Int) (r : Bool) (b o cap : Nat) (w : World) (ho1 : 1 ≤ op) (ho2 : op ≤ 2) (hx : Ops w b o [(k, n, p)])
    (hA : Hid (∀ W, Calls Tryd.prog 49 #[.int .i64 op] W fun e w' => e = .returned (.int .i64 1) ∧ Below W.heap.size W w'))
    (hB : Hid (∀ W, Calls Tryd.prog 50 #[.agg #[.int .i64 k, .int .i64 n, .int .i64 p]] W fun e w' => e = .returned (.bool r) ∧ Below W.heap.size W w')) :
    Calls Tryd.prog 32 #[.agg #[.int .i64 op, .slice (some ⟨b, o, none⟩) 1 cap]] w fun e w' => e = .returned (.bool r) ∧ Below w.heap.size w w' := by
  have hb0 : Below w.heap.size w (w.alloc (.cells #[.int .i64 op, .slice (some ⟨b, o, none⟩) 1 cap] 26)) := (Below.refl _ _).alloc (Nat.le_refl _) _
  have k0 := cell_regrown (w := w.alloc (.cells #[.int .i64 op, .slice (some ⟨b, o, none⟩) 1 cap] 26)) (a := ⟨w.heap.size, 0, none⟩) (v := .int .i64 op) (by simp)
  have k1 := cell_regrown (w := w.alloc (.cells #[.int .i64 op, .slice (some ⟨b, o, none⟩) 1 cap] 26)) (a := ⟨w.heap.size, 1, none⟩) (v := .slice (some ⟨b, o, none⟩) 1 cap) (by simp)
  have cA : ∀ d os, Calls Tryd.prog 49 #[.int .i64 op] (Sort.grow (redrawn (w.alloc (.cells #[.int .i64 op, .slice (some ⟨b, o, none⟩) 1 cap] 26)) d) os) fun e w'' => e = .returned (.int .i64 1) ∧ ∃ p : Regrown, w'' = Sort.grow (redrawn (w.alloc (.cells #[.int .i64 op, .slice (some ⟨b, o, none⟩) 1 cap] 26)) p.d) p.os :=
    fun d os => Calls.regrown_of (hA.out _)
  clear hA
  have h1 : ¬ (op < 1) := by omega
  have h2 : ¬ (10 < op) := by omega
  go_enter Tryd.func32, Tryd.ntmps32
  go_upto_region 1 with fail
  refine wp_region_quiet_below (by kernel_rfl) (by kernel_rfl) ?_
  repeat (go_big_quiet_step (first | exact cA _ _))
  refine wpQuiet_nil ?_
  intro _ hw'
  obtain ⟨⟨dq, osq⟩, hw''⟩ := hw'
  subst hw''
  have e0 := k0 dq osq
  have e1 := k1 dq osq
  have hb1 := hb0.trans ((below_regrown (w.alloc (.cells #[.int .i64 op, .slice (some ⟨b, o, none⟩) 1 cap] 26)) dq osq).mono hb0.size)
  have hx1 := hx.later hb1
  dsimp only at e0 e1 hb1 hx1 ⊢
  generalize Sort.grow (redrawn (w.alloc (.cells #[.int .i64 op, .slice (some ⟨b, o, none⟩) 1 cap] 26)) dq) osq = w2 at e0 e1 hb1 hx1 ⊢
  clear cA k0 k1 hb0 hx
  have x0 := (hx1 0 _ rfl).1
  have x1 := (hx1 0 _ rfl).2.1
  have x2 := (hx1 0 _ rfl).2.2
  simp only [Nat.zero_mul, Nat.add_zero] at x0 x1 x2
  go_wp2_with fail
  refine (hB.out _).mono ?_
  rintro e w3 ⟨rfl, g3⟩
  have b3 := hb1.trans (g3.mono hb1.size)
  clear g3
  go_wp2
  go_ret
  exact ⟨rfl, b3⟩
end Go.Proofs.YtkppcmpdghnmgaaDoor
