/- ElemArity and ElemName, the program's and the specification's. -/
import Derived.Test.YtlgacbjopobeoaaDoorDaM
import Derived.Test.YtlgacbjopobeoaaDoorLy
import Derived.Lib.QuietBelow
import Derived.Deep.Cut
namespace Go.Proofs.YtlgacbjopobeoaaDoor
open Go.RowKit Go.Shelf
set_option linter.unusedVariables false

theorem eop_cases (op : Int) : (op < 0 ∨ 38 ≤ op) ∨ ∃ n : Nat, n < 38 ∧ op = n := by
  by_cases h : op < 0 ∨ 38 ≤ op
  · exact .inl h
  · exact .inr ⟨op.toNat, by omega, by omega⟩

def okPl (l : List Nat) : Bool := decide (l.length ≤ 3) && l.all fun c => decide (1 ≤ c) && decide (c ≤ 13)
theorem nd_ok (op : Int) : okPl (ndP op) = true := by
  rcases eop_cases op with h | ⟨n, hn, rfl⟩
  · rw [(out_all op h).2.2.1]; rfl
  · rcases c38 n hn with rfl | rfl | rfl | rfl | rfl | rfl | rfl | rfl | rfl | rfl | rfl | rfl | rfl | rfl | rfl | rfl | rfl | rfl | rfl | rfl | rfl | rfl | rfl | rfl | rfl | rfl | rfl | rfl | rfl | rfl | rfl | rfl | rfl | rfl | rfl | rfl | rfl | rfl
    all_goals rfl
theorem or_ok (op : Int) : okPl (orP op) = true := by
  rcases eop_cases op with h | ⟨n, hn, rfl⟩
  · rw [(out_all op h).2.2.2]; rfl
  · rcases c38 n hn with rfl | rfl | rfl | rfl | rfl | rfl | rfl | rfl | rfl | rfl | rfl | rfl | rfl | rfl | rfl | rfl | rfl | rfl | rfl | rfl | rfl | rfl | rfl | rfl | rfl | rfl | rfl | rfl | rfl | rfl | rfl | rfl | rfl | rfl | rfl | rfl | rfl | rfl
    all_goals rfl

theorem pv_fn (c : Nat) (h1 : 1 ≤ c) (h2 : c ≤ 13) : ∃ f, pv c = .func (.func f) #[] #[] := by
  rcases pc c with h | rfl | rfl | rfl | rfl | rfl | rfl | rfl | rfl | rfl | rfl | rfl | rfl | rfl
  · omega
  all_goals exact ⟨_, rfl⟩

/-- The places of a list, as a value. -/
def plV (l : List Nat) : Value := .agg #[pv (l.getD 0 0), pv (l.getD 1 0), pv (l.getD 2 0)]

theorem count_of (l : List Nat) (h : okPl l = true) (w : World) :
    Calls Tryd.prog 55 #[plV l] w fun e w' => e = .returned (.int .i64 (l.length : Int)) ∧ Below w.heap.size w w' := by
  simp only [okPl, Bool.and_eq_true, decide_eq_true_eq, List.all_eq_true] at h
  obtain ⟨h3, ha⟩ := h
  match l, h3, ha with
  | [], _, _ => exact count0 w
  | [a], _, ha =>
    obtain ⟨f, hf⟩ := pv_fn a (ha a (by simp)).1 (ha a (by simp)).2
    have := count1 f w
    rw [← hf] at this
    exact this
  | [a, b], _, ha =>
    obtain ⟨f, hf⟩ := pv_fn a (ha a (by simp)).1 (ha a (by simp)).2
    obtain ⟨g, hg⟩ := pv_fn b (ha b (by simp)).1 (ha b (by simp)).2
    have := count2 f g w
    rw [← hf, ← hg] at this
    exact this
  | [a, b, c], _, ha =>
    obtain ⟨f, hf⟩ := pv_fn a (ha a (by simp)).1 (ha a (by simp)).2
    obtain ⟨g, hg⟩ := pv_fn b (ha b (by simp)).1 (ha b (by simp)).2
    obtain ⟨k, hk⟩ := pv_fn c (ha c (by simp)).1 (ha c (by simp)).2
    have := count3 f g k w
    rw [← hf, ← hg, ← hk] at this
    exact this
  | _ :: _ :: _ :: _ :: _, h3, _ => simp at h3

theorem fieldR0 (a b c d e f g h : Value) (w : World) : (Instr.field 56 (.agg #[a, b, c, d, e, f, g, h]) 0).run Tryd.prog w = .ok a w := by kernel_rfl
theorem fieldR1 (a b c d e f g h : Value) (w : World) : (Instr.field 56 (.agg #[a, b, c, d, e, f, g, h]) 1).run Tryd.prog w = .ok b w := by kernel_rfl
theorem fieldR2 (a b c d e f g h : Value) (w : World) : (Instr.field 56 (.agg #[a, b, c, d, e, f, g, h]) 2).run Tryd.prog w = .ok (.agg #[c, d, e]) w := by kernel_rfl
theorem fieldR3 (a b c d e f g h : Value) (w : World) : (Instr.field 56 (.agg #[a, b, c, d, e, f, g, h]) 3).run Tryd.prog w = .ok (.agg #[f, g, h]) w := by kernel_rfl
attribute [go_sem] fieldR0 fieldR1 fieldR2 fieldR3

/-- How many operands. -/
def arN (op : Int) : Int := ((ndP op).length : Int)

set_option maxHeartbeats 4000000 in
theorem spec_arity (op : Int) (w : World) :
    Calls Tryd.prog 21 #[.int .i64 op] w fun e w' => e = .returned (.int .i64 (arN op)) ∧ w' = w := by
  rcases eop_cases op with h | ⟨n, hn, rfl⟩
  · have e0 : arN op = 0 := by unfold arN; rw [(out_all op h).2.2.1]; rfl
    rw [e0]
    have n1 : (op == 1) = false := by simp; omega
    have n2 : (op == 2) = false := by simp; omega
    have n21 : (op == 21) = false := by simp; omega
    have n22 : (op == 22) = false := by simp; omega
    have n23 : (op == 23) = false := by simp; omega
    have n25 : (op == 25) = false := by simp; omega
    have n31 : (op == 31) = false := by simp; omega
    have n32 : (op == 32) = false := by simp; omega
    have n33 : (op == 33) = false := by simp; omega
    have n34 : (op == 34) = false := by simp; omega
    have n35 : (op == 35) = false := by simp; omega
    rcases h with h | h
    · have h1 : ¬ (1 ≤ op) := by omega
      have h2 : ¬ (21 ≤ op) := by omega
      go_enter Tryd.func21, Tryd.ntmps21
      go_wp2
      go_ret
      exact ⟨rfl, rfl⟩
    · have h1 : 1 ≤ op := by omega
      have h2 : 21 ≤ op := by omega
      have h3 : ¬ (op ≤ 10) := by omega
      have h4 : ¬ (op ≤ 37) := by omega
      go_enter Tryd.func21, Tryd.ntmps21
      go_wp2
      go_ret
      exact ⟨rfl, rfl⟩
  · rcases c38 n hn with rfl | rfl | rfl | rfl | rfl | rfl | rfl | rfl | rfl | rfl | rfl | rfl | rfl | rfl | rfl | rfl | rfl | rfl | rfl | rfl | rfl | rfl | rfl | rfl | rfl | rfl | rfl | rfl | rfl | rfl | rfl | rfl | rfl | rfl | rfl | rfl | rfl | rfl
    all_goals
      go_enter Tryd.func21, Tryd.ntmps21
      go_wp2
      go_ret
      exact ⟨rfl, rfl⟩

/-- The name of a coil. -/
def nmE (op : Int) : ByteArray := if op = 21 then ⟨#[111, 117, 116]⟩ else if op = 22 then ⟨#[115, 101, 116]⟩ else if op = 23 then ⟨#[114, 101, 115, 101, 116]⟩ else if op = 24 then ⟨#[112, 117, 108, 115, 101]⟩ else if op = 25 then ⟨#[115, 116, 101, 112]⟩ else if op = 26 then ⟨#[116, 105, 109, 101, 114]⟩ else if op = 27 then ⟨#[104, 111, 108, 100]⟩ else if op = 28 then ⟨#[108, 97, 116, 101]⟩ else if op = 29 then ⟨#[99, 111, 117, 110, 116]⟩ else if op = 30 then ⟨#[109, 111, 118, 101]⟩ else if op = 31 then ⟨#[97, 100, 100]⟩ else if op = 32 then ⟨#[115, 117, 98]⟩ else if op = 33 then ⟨#[109, 117, 108]⟩ else if op = 34 then ⟨#[100, 105, 118]⟩ else if op = 35 then ⟨#[114, 101, 109]⟩ else if op = 36 then ⟨#[114, 101, 97, 108]⟩ else if op = 37 then ⟨#[119, 104, 111, 108, 101]⟩ else ⟨#[]⟩
theorem nm_out (op : Int) (h : op < 21 ∨ 38 ≤ op) : nmE op = ⟨#[]⟩ := by unfold nmE; repeat rw [if_neg (by omega)]
theorem c17 (op : Int) (h1 : 21 ≤ op) (h2 : op < 38) : op = 21 ∨ op = 22 ∨ op = 23 ∨ op = 24 ∨ op = 25 ∨ op = 26 ∨ op = 27 ∨ op = 28 ∨ op = 29 ∨ op = 30 ∨ op = 31 ∨ op = 32 ∨ op = 33 ∨ op = 34 ∨ op = 35 ∨ op = 36 ∨ op = 37 := by omega
theorem nm_trim (op : Int) (h1 : 21 ≤ op) : Lib.trimSuffix (ahd op).data.toList [58] = (nmE op).data.toList := by
  by_cases h2 : op < 38
  · rcases c17 op h1 h2 with rfl | rfl | rfl | rfl | rfl | rfl | rfl | rfl | rfl | rfl | rfl | rfl | rfl | rfl | rfl | rfl | rfl
    all_goals rfl
  · rw [nm_out op (by omega), (out_all op (by omega)).1]; rfl
theorem ahd_size (op : Int) : (ahd op).size ≤ 6 := by
  rcases eop_cases op with h | ⟨n, hn, rfl⟩
  · rw [(out_all op h).1]; decide
  · rcases c38 n hn with rfl | rfl | rfl | rfl | rfl | rfl | rfl | rfl | rfl | rfl | rfl | rfl | rfl | rfl | rfl | rfl | rfl | rfl | rfl | rfl | rfl | rfl | rfl | rfl | rfl | rfl | rfl | rfl | rfl | rfl | rfl | rfl | rfl | rfl | rfl | rfl | rfl | rfl
    all_goals decide

end Go.Proofs.YtlgacbjopobeoaaDoor
/- What may stand in a place: elemIsOf and its kin. -/
namespace Go.Proofs.YtlgacbjopobeoaaDoor
open Go.RowKit Go.Shelf
set_option linter.unusedVariables false

/-- What a place asks for. -/
def pp (c : Nat) (x : Int × Int × Int) : Bool :=
  if c = 1 then okA x.1 x.2.1 x.2.2 && kB x.1 else if c = 3 then okA x.1 x.2.1 x.2.2 && kW x.1 else if c = 4 then okA x.1 x.2.1 x.2.2 && kR x.1
  else if c = 10 then okA x.1 x.2.1 x.2.2 && [(11 : Int)].contains x.1 && decide (0 ≤ x.2.1) else if c = 2 then okA x.1 x.2.1 x.2.2 && ([5] : List Int).contains x.1 else if c = 5 then okA x.1 x.2.1 x.2.2 && ([2, 3] : List Int).contains x.1 else if c = 6 then okA x.1 x.2.1 x.2.2 && ([2, 3, 4] : List Int).contains x.1 else if c = 7 then okA x.1 x.2.1 x.2.2 && ([2, 3, 4, 7, 8] : List Int).contains x.1 else if c = 8 then okA x.1 x.2.1 x.2.2 && ([4] : List Int).contains x.1 else if c = 9 then okA x.1 x.2.1 x.2.2 && ([7] : List Int).contains x.1 else if c = 11 then okA x.1 x.2.1 x.2.2 && ([8] : List Int).contains x.1 else if c = 12 then okA x.1 x.2.1 x.2.2 && ([9] : List Int).contains x.1 else if c = 13 then okA x.1 x.2.1 x.2.2 && ([10] : List Int).contains x.1 else false

set_option maxHeartbeats 1000000 in
theorem isOf_r (k n p : Int) (b : Nat) (zs : List Int) (w : World) (hT : KT w) (hl : zs.length ≤ 10) (hz : ∀ j z, zs[j]? = some z → w.cell? ⟨b, j, none⟩ = some (.int .i64 z)) :
    Calls Tryd.prog 58 #[.agg #[.int .i64 k, .int .i64 n, .int .i64 p], .slice (some ⟨b, 0, none⟩) zs.length zs.length] w fun e w' => e = .returned (.bool (okA k n p && zs.contains k)) ∧ Below w.heap.size w w' := by
  have HK : Hid (∀ W, KT W → Calls Tryd.prog 41 #[.agg #[.int .i64 k, .int .i64 n, .int .i64 p]] W fun e w' => e = .returned (.bool (okA k n p)) ∧ Below W.heap.size W w') := fun W h => impl_ok k n p W h
  have HC : Hid (∀ W : World, Below w.heap.size w W → Calls Tryd.prog 59 #[.slice (some ⟨b, 0, none⟩) zs.length zs.length, .int .i64 k] W fun e w' => e = .returned (.bool (zs.contains k)) ∧ w' = W) := by
    intro W hW
    have := Any.slices_Contains_int Tryd.layC b 0 zs.length zs.length zs k W (Nat.le_refl _) (by omega) (fun j hj => by
      have hh := hz j zs[j] (List.getElem?_eq_getElem hj)
      rw [Nat.zero_add, hW.cell (p := ⟨b, j, none⟩) (World.block_lt_of_cell? _ _ hh), hh]
      simp [List.getD, List.getElem?_eq_getElem hj])
    rw [List.take_length] at this
    exact this
  generalize zs.contains k = C at HC ⊢
  generalize zs.length = m at HC ⊢ hl
  cases ho : okA k n p with
  | false =>
    rw [ho] at HK
    go_enter Tryd.func58, Tryd.ntmps58
    go_wp2_with fail
    refine (HK.out _ (hT.alloc _)).mono ?_
    rintro e w1 ⟨rfl, g1⟩
    have b1 : Below w.heap.size w w1 := ((Below.refl _ _).alloc (Nat.le_refl _) _).trans (g1.mono (by simp))
    clear g1
    go_wp2
    go_ret
    exact ⟨rfl, b1⟩
  | true =>
    rw [ho] at HK
    go_enter Tryd.func58, Tryd.ntmps58
    go_wp2_with fail
    refine (HK.out _ (hT.alloc _)).mono ?_
    rintro e w1 ⟨rfl, g1⟩
    have c0 : w1.cell? ⟨w.heap.size, 0, none⟩ = some (.int .i64 k) := cell_later g1 (by simp)
    have b1 : Below w.heap.size w w1 := ((Below.refl _ _).alloc (Nat.le_refl _) _).trans (g1.mono (by simp))
    clear g1
    go_wp2_with fail
    refine (HC.out _ b1).mono ?_
    rintro e w2 ⟨rfl, rfl⟩
    go_wp2
    go_ret
    exact ⟨by simp, b1⟩

theorem cells_k (w : World) (o : Obj) (xs : List Int) (t : TypeId) : ∀ j x, xs[j]? = some x → ((w.alloc o).alloc (.cells (xs.map (Value.int .i64)).toArray t)).cell? ⟨w.heap.size + 1, j, none⟩ = some (.int .i64 x) := by
  intro j x hx
  have h1 : (w.alloc o).heap.size = w.heap.size + 1 := by simp
  rw [← h1, cell_of_row _ _ j _ t (0, 0) (heap_alloc_last (w.alloc o) _)]
  simp [hx]

set_option maxHeartbeats 1000000 in
theorem isOut_r (k n p : Int) (w : World) (hT : KT w) :
    Calls Tryd.prog 46 #[.agg #[.int .i64 k, .int .i64 n, .int .i64 p]] w fun e w' => e = .returned (.bool (okA k n p && ([2, 3] : List Int).contains k)) ∧ Below w.heap.size w w' := by
  have HI : Hid (∀ W, KT W → (∀ j z, ([2, 3] : List Int)[j]? = some z → W.cell? ⟨w.heap.size + 1, j, none⟩ = some (.int .i64 z)) → Calls Tryd.prog 58 #[.agg #[.int .i64 k, .int .i64 n, .int .i64 p], .slice (some ⟨w.heap.size + 1, 0, none⟩) 2 2] W fun e w' => e = .returned (.bool (okA k n p && ([2, 3] : List Int).contains k)) ∧ Below W.heap.size W w') :=
    fun W h hz => isOf_r k n p (w.heap.size + 1) [2, 3] W h (by simp) hz
  generalize (okA k n p && ([2, 3] : List Int).contains k) = C at HI ⊢
  go_enter Tryd.func46, Tryd.ntmps46
  go_wp2_with fail
  refine (HI.out _ ((hT.alloc _).alloc _) (cells_k w _ [2, 3] _)).mono ?_
  rintro e w1 ⟨rfl, g1⟩
  have b1 : Below w.heap.size w w1 := (((Below.refl _ _).alloc (Nat.le_refl _) _).alloc (by simp) _).trans (g1.mono (by simp; omega))
  clear g1
  go_wp2
  go_ret
  exact ⟨rfl, b1⟩

set_option maxHeartbeats 1000000 in
theorem isSet_r (k n p : Int) (w : World) (hT : KT w) :
    Calls Tryd.prog 47 #[.agg #[.int .i64 k, .int .i64 n, .int .i64 p]] w fun e w' => e = .returned (.bool (okA k n p && ([2, 3, 4] : List Int).contains k)) ∧ Below w.heap.size w w' := by
  have HI : Hid (∀ W, KT W → (∀ j z, ([2, 3, 4] : List Int)[j]? = some z → W.cell? ⟨w.heap.size + 1, j, none⟩ = some (.int .i64 z)) → Calls Tryd.prog 58 #[.agg #[.int .i64 k, .int .i64 n, .int .i64 p], .slice (some ⟨w.heap.size + 1, 0, none⟩) 3 3] W fun e w' => e = .returned (.bool (okA k n p && ([2, 3, 4] : List Int).contains k)) ∧ Below W.heap.size W w') :=
    fun W h hz => isOf_r k n p (w.heap.size + 1) [2, 3, 4] W h (by simp) hz
  generalize (okA k n p && ([2, 3, 4] : List Int).contains k) = C at HI ⊢
  go_enter Tryd.func47, Tryd.ntmps47
  go_wp2_with fail
  refine (HI.out _ ((hT.alloc _).alloc _) (cells_k w _ [2, 3, 4] _)).mono ?_
  rintro e w1 ⟨rfl, g1⟩
  have b1 : Below w.heap.size w w1 := (((Below.refl _ _).alloc (Nat.le_refl _) _).alloc (by simp) _).trans (g1.mono (by simp; omega))
  clear g1
  go_wp2
  go_ret
  exact ⟨rfl, b1⟩

set_option maxHeartbeats 1000000 in
theorem isReset_r (k n p : Int) (w : World) (hT : KT w) :
    Calls Tryd.prog 48 #[.agg #[.int .i64 k, .int .i64 n, .int .i64 p]] w fun e w' => e = .returned (.bool (okA k n p && ([2, 3, 4, 7, 8] : List Int).contains k)) ∧ Below w.heap.size w w' := by
  have HI : Hid (∀ W, KT W → (∀ j z, ([2, 3, 4, 7, 8] : List Int)[j]? = some z → W.cell? ⟨w.heap.size + 1, j, none⟩ = some (.int .i64 z)) → Calls Tryd.prog 58 #[.agg #[.int .i64 k, .int .i64 n, .int .i64 p], .slice (some ⟨w.heap.size + 1, 0, none⟩) 5 5] W fun e w' => e = .returned (.bool (okA k n p && ([2, 3, 4, 7, 8] : List Int).contains k)) ∧ Below W.heap.size W w') :=
    fun W h hz => isOf_r k n p (w.heap.size + 1) [2, 3, 4, 7, 8] W h (by simp) hz
  generalize (okA k n p && ([2, 3, 4, 7, 8] : List Int).contains k) = C at HI ⊢
  go_enter Tryd.func48, Tryd.ntmps48
  go_wp2_with fail
  refine (HI.out _ ((hT.alloc _).alloc _) (cells_k w _ [2, 3, 4, 7, 8] _)).mono ?_
  rintro e w1 ⟨rfl, g1⟩
  have b1 : Below w.heap.size w w1 := (((Below.refl _ _).alloc (Nat.le_refl _) _).alloc (by simp) _).trans (g1.mono (by simp; omega))
  clear g1
  go_wp2
  go_ret
  exact ⟨rfl, b1⟩

set_option maxHeartbeats 1000000 in
theorem isStep_r (k n p : Int) (w : World) (hT : KT w) :
    Calls Tryd.prog 49 #[.agg #[.int .i64 k, .int .i64 n, .int .i64 p]] w fun e w' => e = .returned (.bool (okA k n p && ([4] : List Int).contains k)) ∧ Below w.heap.size w w' := by
  have HI : Hid (∀ W, KT W → (∀ j z, ([4] : List Int)[j]? = some z → W.cell? ⟨w.heap.size + 1, j, none⟩ = some (.int .i64 z)) → Calls Tryd.prog 58 #[.agg #[.int .i64 k, .int .i64 n, .int .i64 p], .slice (some ⟨w.heap.size + 1, 0, none⟩) 1 1] W fun e w' => e = .returned (.bool (okA k n p && ([4] : List Int).contains k)) ∧ Below W.heap.size W w') :=
    fun W h hz => isOf_r k n p (w.heap.size + 1) [4] W h (by simp) hz
  generalize (okA k n p && ([4] : List Int).contains k) = C at HI ⊢
  go_enter Tryd.func49, Tryd.ntmps49
  go_wp2_with fail
  refine (HI.out _ ((hT.alloc _).alloc _) (cells_k w _ [4] _)).mono ?_
  rintro e w1 ⟨rfl, g1⟩
  have b1 : Below w.heap.size w w1 := (((Below.refl _ _).alloc (Nat.le_refl _) _).alloc (by simp) _).trans (g1.mono (by simp; omega))
  clear g1
  go_wp2
  go_ret
  exact ⟨rfl, b1⟩

set_option maxHeartbeats 1000000 in
theorem isTimer_r (k n p : Int) (w : World) (hT : KT w) :
    Calls Tryd.prog 50 #[.agg #[.int .i64 k, .int .i64 n, .int .i64 p]] w fun e w' => e = .returned (.bool (okA k n p && ([7] : List Int).contains k)) ∧ Below w.heap.size w w' := by
  have HI : Hid (∀ W, KT W → (∀ j z, ([7] : List Int)[j]? = some z → W.cell? ⟨w.heap.size + 1, j, none⟩ = some (.int .i64 z)) → Calls Tryd.prog 58 #[.agg #[.int .i64 k, .int .i64 n, .int .i64 p], .slice (some ⟨w.heap.size + 1, 0, none⟩) 1 1] W fun e w' => e = .returned (.bool (okA k n p && ([7] : List Int).contains k)) ∧ Below W.heap.size W w') :=
    fun W h hz => isOf_r k n p (w.heap.size + 1) [7] W h (by simp) hz
  generalize (okA k n p && ([7] : List Int).contains k) = C at HI ⊢
  go_enter Tryd.func50, Tryd.ntmps50
  go_wp2_with fail
  refine (HI.out _ ((hT.alloc _).alloc _) (cells_k w _ [7] _)).mono ?_
  rintro e w1 ⟨rfl, g1⟩
  have b1 : Below w.heap.size w w1 := (((Below.refl _ _).alloc (Nat.le_refl _) _).alloc (by simp) _).trans (g1.mono (by simp; omega))
  clear g1
  go_wp2
  go_ret
  exact ⟨rfl, b1⟩

set_option maxHeartbeats 1000000 in
theorem isCounter_r (k n p : Int) (w : World) (hT : KT w) :
    Calls Tryd.prog 52 #[.agg #[.int .i64 k, .int .i64 n, .int .i64 p]] w fun e w' => e = .returned (.bool (okA k n p && ([8] : List Int).contains k)) ∧ Below w.heap.size w w' := by
  have HI : Hid (∀ W, KT W → (∀ j z, ([8] : List Int)[j]? = some z → W.cell? ⟨w.heap.size + 1, j, none⟩ = some (.int .i64 z)) → Calls Tryd.prog 58 #[.agg #[.int .i64 k, .int .i64 n, .int .i64 p], .slice (some ⟨w.heap.size + 1, 0, none⟩) 1 1] W fun e w' => e = .returned (.bool (okA k n p && ([8] : List Int).contains k)) ∧ Below W.heap.size W w') :=
    fun W h hz => isOf_r k n p (w.heap.size + 1) [8] W h (by simp) hz
  generalize (okA k n p && ([8] : List Int).contains k) = C at HI ⊢
  go_enter Tryd.func52, Tryd.ntmps52
  go_wp2_with fail
  refine (HI.out _ ((hT.alloc _).alloc _) (cells_k w _ [8] _)).mono ?_
  rintro e w1 ⟨rfl, g1⟩
  have b1 : Below w.heap.size w w1 := (((Below.refl _ _).alloc (Nat.le_refl _) _).alloc (by simp) _).trans (g1.mono (by simp; omega))
  clear g1
  go_wp2
  go_ret
  exact ⟨rfl, b1⟩

set_option maxHeartbeats 1000000 in
theorem isWholeReg_r (k n p : Int) (w : World) (hT : KT w) :
    Calls Tryd.prog 53 #[.agg #[.int .i64 k, .int .i64 n, .int .i64 p]] w fun e w' => e = .returned (.bool (okA k n p && ([9] : List Int).contains k)) ∧ Below w.heap.size w w' := by
  have HI : Hid (∀ W, KT W → (∀ j z, ([9] : List Int)[j]? = some z → W.cell? ⟨w.heap.size + 1, j, none⟩ = some (.int .i64 z)) → Calls Tryd.prog 58 #[.agg #[.int .i64 k, .int .i64 n, .int .i64 p], .slice (some ⟨w.heap.size + 1, 0, none⟩) 1 1] W fun e w' => e = .returned (.bool (okA k n p && ([9] : List Int).contains k)) ∧ Below W.heap.size W w') :=
    fun W h hz => isOf_r k n p (w.heap.size + 1) [9] W h (by simp) hz
  generalize (okA k n p && ([9] : List Int).contains k) = C at HI ⊢
  go_enter Tryd.func53, Tryd.ntmps53
  go_wp2_with fail
  refine (HI.out _ ((hT.alloc _).alloc _) (cells_k w _ [9] _)).mono ?_
  rintro e w1 ⟨rfl, g1⟩
  have b1 : Below w.heap.size w w1 := (((Below.refl _ _).alloc (Nat.le_refl _) _).alloc (by simp) _).trans (g1.mono (by simp; omega))
  clear g1
  go_wp2
  go_ret
  exact ⟨rfl, b1⟩

set_option maxHeartbeats 1000000 in
theorem isRealReg_r (k n p : Int) (w : World) (hT : KT w) :
    Calls Tryd.prog 54 #[.agg #[.int .i64 k, .int .i64 n, .int .i64 p]] w fun e w' => e = .returned (.bool (okA k n p && ([10] : List Int).contains k)) ∧ Below w.heap.size w w' := by
  have HI : Hid (∀ W, KT W → (∀ j z, ([10] : List Int)[j]? = some z → W.cell? ⟨w.heap.size + 1, j, none⟩ = some (.int .i64 z)) → Calls Tryd.prog 58 #[.agg #[.int .i64 k, .int .i64 n, .int .i64 p], .slice (some ⟨w.heap.size + 1, 0, none⟩) 1 1] W fun e w' => e = .returned (.bool (okA k n p && ([10] : List Int).contains k)) ∧ Below W.heap.size W w') :=
    fun W h hz => isOf_r k n p (w.heap.size + 1) [10] W h (by simp) hz
  generalize (okA k n p && ([10] : List Int).contains k) = C at HI ⊢
  go_enter Tryd.func54, Tryd.ntmps54
  go_wp2_with fail
  refine (HI.out _ ((hT.alloc _).alloc _) (cells_k w _ [10] _)).mono ?_
  rintro e w1 ⟨rfl, g1⟩
  have b1 : Below w.heap.size w w1 := (((Below.refl _ _).alloc (Nat.le_refl _) _).alloc (by simp) _).trans (g1.mono (by simp; omega))
  clear g1
  go_wp2
  go_ret
  exact ⟨rfl, b1⟩

set_option maxHeartbeats 1000000 in
theorem isPast_r (k n p : Int) (w : World) (hT : KT w) :
    Calls Tryd.prog 44 #[.agg #[.int .i64 k, .int .i64 n, .int .i64 p]] w fun e w' => e = .returned (.bool (okA k n p && ([5] : List Int).contains k)) ∧ Below w.heap.size w w' := by
  have HI : Hid (∀ W, KT W → (∀ j z, ([5] : List Int)[j]? = some z → W.cell? ⟨w.heap.size + 1, j, none⟩ = some (.int .i64 z)) → Calls Tryd.prog 58 #[.agg #[.int .i64 k, .int .i64 n, .int .i64 p], .slice (some ⟨w.heap.size + 1, 0, none⟩) 1 1] W fun e w' => e = .returned (.bool (okA k n p && ([5] : List Int).contains k)) ∧ Below W.heap.size W w') :=
    fun W h hz => isOf_r k n p (w.heap.size + 1) [5] W h (by simp) hz
  generalize (okA k n p && ([5] : List Int).contains k) = C at HI ⊢
  go_enter Tryd.func44, Tryd.ntmps44
  go_wp2_with fail
  refine (HI.out _ ((hT.alloc _).alloc _) (cells_k w _ [5] _)).mono ?_
  rintro e w1 ⟨rfl, g1⟩
  have b1 : Below w.heap.size w w1 := (((Below.refl _ _).alloc (Nat.le_refl _) _).alloc (by simp) _).trans (g1.mono (by simp; omega))
  clear g1
  go_wp2
  go_ret
  exact ⟨rfl, b1⟩

set_option maxHeartbeats 1000000 in
theorem isPreset_r (k n p : Int) (w : World) (hT : KT w) :
    Calls Tryd.prog 51 #[.agg #[.int .i64 k, .int .i64 n, .int .i64 p]] w fun e w' => e = .returned (.bool (okA k n p && ([11] : List Int).contains k && decide (0 ≤ n))) ∧ Below w.heap.size w w' := by
  have HI : Hid (∀ W, KT W → (∀ j z, ([11] : List Int)[j]? = some z → W.cell? ⟨w.heap.size + 1, j, none⟩ = some (.int .i64 z)) → Calls Tryd.prog 58 #[.agg #[.int .i64 k, .int .i64 n, .int .i64 p], .slice (some ⟨w.heap.size + 1, 0, none⟩) 1 1] W fun e w' => e = .returned (.bool (okA k n p && ([11] : List Int).contains k)) ∧ Below W.heap.size W w') :=
    fun W h hz => isOf_r k n p (w.heap.size + 1) [11] W h (by simp) hz
  generalize (okA k n p && ([11] : List Int).contains k) = C at HI ⊢
  cases C with
  | false =>
    go_enter Tryd.func51, Tryd.ntmps51
    go_wp2_with fail
    refine (HI.out _ ((hT.alloc _).alloc _) (cells_k w _ [11] _)).mono ?_
    rintro e w1 ⟨rfl, g1⟩
    have b1 : Below w.heap.size w w1 := (((Below.refl _ _).alloc (Nat.le_refl _) _).alloc (by simp) _).trans (g1.mono (by simp; omega))
    clear g1
    go_wp2
    go_ret
    exact ⟨by simp, b1⟩
  | true =>
    go_enter Tryd.func51, Tryd.ntmps51
    go_wp2_with fail
    refine (HI.out _ ((hT.alloc _).alloc _) (cells_k w _ [11] _)).mono ?_
    rintro e w1 ⟨rfl, g1⟩
    have c1 : w1.cell? ⟨w.heap.size, 1, none⟩ = some (.int .i64 n) := cell_later g1 (by simp)
    have b1 : Below w.heap.size w w1 := (((Below.refl _ _).alloc (Nat.le_refl _) _).alloc (by simp) _).trans (g1.mono (by simp; omega))
    clear g1
    go_wp2
    go_ret
    exact ⟨by simp, b1⟩

/-- A place's function, called. -/
theorem eplace_r (c : Nat) (h1 : 1 ≤ c) (h2 : c ≤ 13) : ∃ f, pv c = .func (.func f) #[] #[] ∧ (∀ args W, (callFunc f args).run Tryd.prog W = .ok (.enter f args) W) ∧ ∀ (k n p : Int) (w : World), KT w → Calls Tryd.prog f #[.agg #[.int .i64 k, .int .i64 n, .int .i64 p]] w fun e w' => e = .returned (.bool (pp c (k, n, p))) ∧ Below w.heap.size w w' := by
  rcases pc c with h | rfl | rfl | rfl | rfl | rfl | rfl | rfl | rfl | rfl | rfl | rfl | rfl | rfl
  · omega
  · exact ⟨_, rfl, enters_of Tryd.func43 (by kernel_rfl) rfl, fun k n p w hT => impl_isbit k n p w hT⟩
  · exact ⟨_, rfl, enters_of Tryd.func44 (by kernel_rfl) rfl, fun k n p w hT => isPast_r k n p w hT⟩
  · exact ⟨_, rfl, enters_of Tryd.func35 (by kernel_rfl) rfl, fun k n p w hT => impl_iswhole k n p w hT⟩
  · exact ⟨_, rfl, enters_of Tryd.func45 (by kernel_rfl) rfl, fun k n p w hT => impl_isreal k n p w hT⟩
  · exact ⟨_, rfl, enters_of Tryd.func46 (by kernel_rfl) rfl, fun k n p w hT => isOut_r k n p w hT⟩
  · exact ⟨_, rfl, enters_of Tryd.func47 (by kernel_rfl) rfl, fun k n p w hT => isSet_r k n p w hT⟩
  · exact ⟨_, rfl, enters_of Tryd.func48 (by kernel_rfl) rfl, fun k n p w hT => isReset_r k n p w hT⟩
  · exact ⟨_, rfl, enters_of Tryd.func49 (by kernel_rfl) rfl, fun k n p w hT => isStep_r k n p w hT⟩
  · exact ⟨_, rfl, enters_of Tryd.func50 (by kernel_rfl) rfl, fun k n p w hT => isTimer_r k n p w hT⟩
  · exact ⟨_, rfl, enters_of Tryd.func51 (by kernel_rfl) rfl, fun k n p w hT => isPreset_r k n p w hT⟩
  · exact ⟨_, rfl, enters_of Tryd.func52 (by kernel_rfl) rfl, fun k n p w hT => isCounter_r k n p w hT⟩
  · exact ⟨_, rfl, enters_of Tryd.func53 (by kernel_rfl) rfl, fun k n p w hT => isWholeReg_r k n p w hT⟩
  · exact ⟨_, rfl, enters_of Tryd.func54 (by kernel_rfl) rfl, fun k n p w hT => isRealReg_r k n p w hT⟩
end Go.Proofs.YtlgacbjopobeoaaDoor

/- The operands of a contact or coil, taken by places: elemPlaces.take, elemRule.take. -/
namespace Go.Proofs.YtlgacbjopobeoaaDoor
open Go.RowKit Go.Shelf
set_option linter.unusedVariables false

abbrev Arg := Int × Int × Int
/-- The operands of a list lie in the memory, one behind the other. -/
def Ops (w : World) (b o : Nat) (xs : List Arg) : Prop :=
  ∀ j x, xs[j]? = some x → w.cell? ⟨b, o + j * 3, none⟩ = some (.int .i64 x.1) ∧ w.cell? ⟨b, o + j * 3 + 1, none⟩ = some (.int .i64 x.2.1) ∧ w.cell? ⟨b, o + j * 3 + 2, none⟩ = some (.int .i64 x.2.2)
theorem Ops.below {w w' : World} {b o : Nat} {xs : List Arg} (h : Ops w b o xs) {B : Nat} (hB : b < B) (g : Below B w w') : Ops w' b o xs := fun j x hx => by
  have := h j x hx
  refine ⟨?_, ?_, ?_⟩
  · exact (g.cell (p := ⟨b, o + j * 3, none⟩) hB).trans this.1
  · exact (g.cell (p := ⟨b, o + j * 3 + 1, none⟩) hB).trans this.2.1
  · exact (g.cell (p := ⟨b, o + j * 3 + 2, none⟩) hB).trans this.2.2
theorem Ops.lt {w : World} {b o : Nat} {xs : List Arg} (h : Ops w b o xs) (hne : xs ≠ []) : b < w.heap.size := by
  match xs, hne with
  | x :: _, _ => exact World.block_lt_of_cell? _ _ (h 0 x rfl).1
theorem Ops.later {w w' : World} {b o : Nat} {xs : List Arg} (h : Ops w b o xs) (g : Below w.heap.size w w') : Ops w' b o xs := by
  match xs, h with
  | [], _ => intro j x hx; simp at hx
  | x :: r, h => exact h.below (h.lt (by simp)) g

set_option maxRecDepth 10000 in
set_option maxHeartbeats 1000000 in
theorem take_run (V0 V1 V2 : Value) (m : Nat) (hm1 : 1 ≤ m) (hm3 : m ≤ 3) (F : Nat → Nat) (X : Nat → Arg) (Pr : Nat → Bool) (b o cap : Nat) (w : World) (hT : KT w)
    (hV : ∀ n, n < m → #[V0, V1, V2][n]? = some (.func (.func (F n)) #[] #[]))
    (hX : ∀ n, n < m → w.cell? ⟨b, o + n * 3, none⟩ = some (.int .i64 (X n).1) ∧ w.cell? ⟨b, o + n * 3 + 1, none⟩ = some (.int .i64 (X n).2.1) ∧ w.cell? ⟨b, o + n * 3 + 2, none⟩ = some (.int .i64 (X n).2.2))
    (hE : ∀ n, n < m → ∀ args W, (callFunc (F n) args).run Tryd.prog W = .ok (.enter (F n) args) W)
    (hF : Hid (∀ n, n < m → ∀ W, KT W → Calls Tryd.prog (F n) #[.agg #[.int .i64 (X n).1, .int .i64 (X n).2.1, .int .i64 (X n).2.2]] W fun e w' => e = .returned (.bool (Pr n)) ∧ Below W.heap.size W w'))
    (hcnt : Hid (∀ W, Calls Tryd.prog 55 #[.agg #[V0, V1, V2]] W fun e w' => e = .returned (.int .i64 m) ∧ Below W.heap.size W w')) :
    Calls Tryd.prog 40 #[.agg #[V0, V1, V2], .slice (some ⟨b, o, none⟩) m cap] w fun e w' => e = .returned (.bool ((List.range m).all Pr)) ∧ Below w.heap.size w w' := by
  have m0 : ((m : Int) == 0) = false := by simp; omega
  obtain ⟨R, HR⟩ : ∃ R, Hid (R = (List.range m).all Pr) := ⟨_, Eq.refl ((List.range m).all Pr)⟩
  rw [← HR.out]
  go_enter Tryd.func40, Tryd.ntmps40
  go_wp2_with fail
  refine (hcnt.out _).mono ?_
  rintro e w1 ⟨rfl, g1⟩
  go_wp2
  go_loopg [19] m (fun g i wr => ∃ n : Nat, n + g = m ∧ i = .int .i64 n ∧ Below (w.heap.size + 1) (w.alloc (.cells #[V0, V1, V2] 54)) wr ∧ ∀ j, j < n → Pr j = true)
  case atStart => exact ⟨0, by omega, rfl, by simpa using g1, fun j hj => by omega⟩
  case round =>
    obtain ⟨n, hn, rfl, hb, hp⟩ := hrel
    have hbw : Below w.heap.size w wr := ((Below.refl _ _).alloc (Nat.le_refl _) _).trans (hb.mono (by simp))
    by_cases hlt : n < m
    · have bl : b < w.heap.size := World.block_lt_of_cell? _ _ (hX 0 (by omega)).1
      have x0 : wr.cell? ⟨b, o + n * 3, none⟩ = some (.int .i64 (X n).1) := (hbw.cell (p := ⟨b, o + n * 3, none⟩) bl).trans (hX n hlt).1
      have x1 : wr.cell? ⟨b, o + n * 3 + 1, none⟩ = some (.int .i64 (X n).2.1) := (hbw.cell (p := ⟨b, o + n * 3 + 1, none⟩) bl).trans (hX n hlt).2.1
      have x2 : wr.cell? ⟨b, o + n * 3 + 2, none⟩ = some (.int .i64 (X n).2.2) := (hbw.cell (p := ⟨b, o + n * 3 + 2, none⟩) bl).trans (hX n hlt).2.2
      have fc : wr.cell? ⟨w.heap.size, n, none⟩ = some (.func (.func (F n)) #[] #[]) := by
        rw [hb.cell (p := ⟨w.heap.size, n, none⟩) (by show w.heap.size < w.heap.size + 1; omega), cell_of_row _ _ n _ 54 (0, 0) (heap_alloc_last w _)]
        exact hV n hlt
      have HFn : Hid (∀ W, KT W → Calls Tryd.prog (F n) #[.agg #[.int .i64 (X n).1, .int .i64 (X n).2.1, .int .i64 (X n).2.2]] W fun e w' => e = .returned (.bool (Pr n)) ∧ Below W.heap.size W w') := fun W h => hF.out n hlt W h
      have kt := hT.later hbw
      have sz := hbw.size
      have i1 : (n : Int) < (m : Int) := by omega
      have i2 : (n : Int) < 3 := by omega
      have i3 : (0 : Int) ≤ (n : Int) := by omega
      generalize hA : (X n).1 = A1 at x0 HFn
      generalize hB : (X n).2.1 = A2 at x1 HFn
      generalize hC : (X n).2.2 = A3 at x2 HFn
      have en := hE n hlt
      generalize hFF : F n = f at fc HFn en
      clear hX hV hF hE hcnt g1 hA hB hC hFF
      go_upto_region 6 with fail
      have sz2 : w.heap.size < wr.heap.size := by have := hb.size; simp at this; omega
      have kf := cell_regrown (w := wr.alloc (.cells #[.int .i64 A1, .int .i64 A2, .int .i64 A3] 39)) (a := ⟨w.heap.size, n, none⟩) ((World.cell?_alloc_past _ _ _ sz2).trans fc)
      have ka0 := cell_regrown (w := wr.alloc (.cells #[.int .i64 A1, .int .i64 A2, .int .i64 A3] 39)) (a := ⟨wr.heap.size, 0, none⟩) (v := .int .i64 A1) (by simp)
      have ka1 := cell_regrown (w := wr.alloc (.cells #[.int .i64 A1, .int .i64 A2, .int .i64 A3] 39)) (a := ⟨wr.heap.size, 1, none⟩) (v := .int .i64 A2) (by simp)
      have ka2 := cell_regrown (w := wr.alloc (.cells #[.int .i64 A1, .int .i64 A2, .int .i64 A3] 39)) (a := ⟨wr.heap.size, 2, none⟩) (v := .int .i64 A3) (by simp)
      have cF : ∀ d os, Calls Tryd.prog f #[.agg #[.int .i64 A1, .int .i64 A2, .int .i64 A3]] (Sort.grow (redrawn (wr.alloc (.cells #[.int .i64 A1, .int .i64 A2, .int .i64 A3] 39)) d) os) fun e w'' => e = .returned (.bool (Pr n)) ∧ ∃ p : Regrown, w'' = Sort.grow (redrawn (wr.alloc (.cells #[.int .i64 A1, .int .i64 A2, .int .i64 A3] 39)) p.d) p.os :=
        fun d os => Calls.regrown_of (HFn.out _ ((kt.alloc _).later (below_regrown _ d os)))
      have hb2 : Below (w.heap.size + 1) (w.alloc (.cells #[V0, V1, V2] 54)) (wr.alloc (.cells #[.int .i64 A1, .int .i64 A2, .int .i64 A3] 39)) := hb.alloc (by simpa using hb.size) _
      clear HFn kt x0 x1 x2 fc
      refine wp_region_quiet_below (by kernel_rfl) (by kernel_rfl) ?_
      cases hq : Pr n with
      | true =>
        rw [hq] at cF
        repeat (go_big_quiet_step (first | exact cF _ _))
        refine wpQuiet_nil ?_
        intro _ hw'
        obtain ⟨⟨dq, osq⟩, hw''⟩ := hw'
        subst hw''
        go_wp2
        go_roundg (gk - 1)
        case measure => omega
        case rel =>
          refine ⟨n + 1, by omega, by simp, hb2.trans ((below_regrown _ dq osq).mono (by simp; omega)), ?_⟩
          intro j hj
          by_cases hjn : j = n
          · rw [hjn]; exact hq
          · exact hp j (by omega)
      | false =>
        rw [hq] at cF
        repeat (go_big_quiet_step (first | exact cF _ _))
        refine wpQuiet_nil ?_
        intro _ hw'
        obtain ⟨⟨dq, osq⟩, hw''⟩ := hw'
        subst hw''
        go_wp2
        go_ret
        refine ⟨?_, (hbw.alloc hbw.size _).trans ((below_regrown _ dq osq).mono (by simp; omega))⟩
        rw [HR.out, show (List.range m).all Pr = false from by
          rw [List.all_eq_false]
          exact ⟨n, List.mem_range.2 hlt, by rw [hq]; simp⟩]
        rfl
    · have i1 : ¬ ((n : Int) < (m : Int)) := by omega
      have ea : (List.range m).all Pr = true := by
        rw [List.all_eq_true]
        intro j hj
        exact hp j (by have := List.mem_range.1 hj; omega)
      go_wp2
      go_ret
      exact ⟨by rw [HR.out, ea]; rfl, hbw⟩

/-- Operands taken by a list of places. -/
def tk (l : List Nat) (xs : List Arg) : Bool := !xs.isEmpty && decide (xs.length = l.length) && (List.range xs.length).all fun n => pp (l.getD n 0) (xs.getD n (0, 0, 0))

/-- A slice of operands: an empty one, or one that lies in the memory. -/
def Sl (w : World) (a : Option Addr) (xs : List Arg) : Prop := xs = [] ∨ ∃ b o, a = some ⟨b, o, none⟩ ∧ Ops w b o xs
theorem Sl.later {w w' : World} {a : Option Addr} {xs : List Arg} (h : Sl w a xs) (g : Below w.heap.size w w') : Sl w' a xs := by
  rcases h with h | ⟨b, o, h1, h2⟩
  · exact .inl h
  · exact .inr ⟨b, o, h1, h2.later g⟩
theorem Sl.alloc {w : World} {a : Option Addr} {xs : List Arg} (h : Sl w a xs) (o : Obj) : Sl (w.alloc o) a xs := h.later ((Below.refl _ _).alloc (Nat.le_refl _) _)

set_option maxRecDepth 10000 in
set_option maxHeartbeats 1000000 in
theorem take_no (V0 V1 V2 : Value) (m len cap : Nat) (a : Option Addr) (w : World) (hne : len = 0 ∨ len ≠ m)
    (hcnt : Hid (∀ W, Calls Tryd.prog 55 #[.agg #[V0, V1, V2]] W fun e w' => e = .returned (.int .i64 m) ∧ Below W.heap.size W w')) :
    Calls Tryd.prog 40 #[.agg #[V0, V1, V2], .slice a len cap] w fun e w' => e = .returned (.bool false) ∧ Below w.heap.size w w' := by
  by_cases h0 : len = 0
  · subst h0
    go_enter Tryd.func40, Tryd.ntmps40
    go_wp2
    go_ret
    exact ⟨rfl, by go_grown⟩
  · have m0 : ((len : Int) == 0) = false := by simp; omega
    have m1 : ((len : Int) == (m : Int)) = false := by simp; omega
    go_enter Tryd.func40, Tryd.ntmps40
    go_wp2_with fail
    refine (hcnt.out _).mono ?_
    rintro e w1 ⟨rfl, g1⟩
    have b1 : Below w.heap.size w w1 := ((Below.refl _ _).alloc (Nat.le_refl _) _).trans (g1.mono (by simp))
    clear g1
    go_wp2
    go_ret
    exact ⟨rfl, b1⟩

theorem take_of (l : List Nat) (h : okPl l = true) (a : Option Addr) (xs : List Arg) (len cap : Nat) (hlen : len = xs.length) (w : World) (hT : KT w) (hx : Sl w a xs) :
    Calls Tryd.prog 40 #[plV l, .slice a len cap] w fun e w' => e = .returned (.bool (tk l xs)) ∧ Below w.heap.size w w' := by
  subst hlen
  by_cases hne : xs.length = 0 ∨ xs.length ≠ l.length
  · have e0 : tk l xs = false := by
      unfold tk
      rcases hne with h0 | h0
      · have : xs = [] := List.length_eq_zero_iff.1 h0
        subst this; rfl
      · simp [h0]
    rw [e0]
    exact take_no _ _ _ l.length xs.length cap a w hne (fun W => count_of l h W)
  · have h1 : 1 ≤ xs.length := by omega
    have h2 : xs.length = l.length := by omega
    have h' := h
    simp only [okPl, Bool.and_eq_true, decide_eq_true_eq, List.all_eq_true] at h'
    obtain ⟨h3, ha⟩ := h'
    rcases hx with rfl | ⟨b, o, rfl, hx⟩
    · simp at h1
    have e0 : tk l xs = (List.range xs.length).all fun n => pp (l.getD n 0) (xs.getD n (0, 0, 0)) := by
      have : xs.isEmpty = false := by cases xs with | nil => simp at h1 | cons => rfl
      simp [tk, h2, this]
    rw [e0]
    have key : ∀ n, ∃ f, n < xs.length → (pv (l.getD n 0) = .func (.func f) #[] #[] ∧ (∀ args W, (callFunc f args).run Tryd.prog W = .ok (.enter f args) W) ∧ ∀ (k n' p : Int) (w : World), KT w → Calls Tryd.prog f #[.agg #[.int .i64 k, .int .i64 n', .int .i64 p]] w fun e w' => e = .returned (.bool (pp (l.getD n 0) (k, n', p))) ∧ Below w.heap.size w w') := by
      intro n
      by_cases hn : n < xs.length
      · have hm : l.getD n 0 ∈ l := by
          rw [List.getD_eq_getElem?_getD, List.getElem?_eq_getElem (by omega)]
          exact List.getElem_mem _
        obtain ⟨f, q⟩ := eplace_r (l.getD n 0) (ha _ hm).1 (ha _ hm).2
        exact ⟨f, fun _ => q⟩
      · exact ⟨0, fun h => absurd h hn⟩
    obtain ⟨F, hF⟩ := Classical.axiomOfChoice key
    have hl3 : xs.length ≤ 3 := by omega
    refine take_run (pv (l.getD 0 0)) (pv (l.getD 1 0)) (pv (l.getD 2 0)) xs.length h1 hl3 F (fun n => xs.getD n (0, 0, 0)) _ b o cap w hT ?_ ?_ (fun n hn => (hF n hn).2.1) ?_ ?_
    · intro n hn
      rw [← (hF n hn).1]
      have : n = 0 ∨ n = 1 ∨ n = 2 := by omega
      rcases this with rfl | rfl | rfl <;> rfl
    · intro n hn
      refine hx n _ ?_
      rw [List.getD_eq_getElem?_getD, List.getElem?_eq_getElem hn]; rfl
    · intro n hn W hW
      exact (hF n hn).2.2 _ _ _ W hW
    · intro W
      rw [h2]
      exact count_of l h W

/-- Operands taken by a rule. -/
def rtk (op : Int) (xs : List Arg) : Bool := tk (ndP op) xs || tk (orP op) xs

set_option maxRecDepth 10000 in
set_option maxHeartbeats 1000000 in
theorem rule_take_run (A B V0 V1 V2 U0 U1 U2 : Value) (r1 r2 : Bool) (a : Option Addr) (len cap : Nat) (w : World)
    (h1 : Hid (∀ W, Below w.heap.size w W → Calls Tryd.prog 40 #[.agg #[V0, V1, V2], .slice a len cap] W fun e w' => e = .returned (.bool r1) ∧ Below W.heap.size W w'))
    (h2 : Hid (∀ W, Below w.heap.size w W → Calls Tryd.prog 40 #[.agg #[U0, U1, U2], .slice a len cap] W fun e w' => e = .returned (.bool r2) ∧ Below W.heap.size W w')) :
    Calls Tryd.prog 34 #[.agg #[A, B, V0, V1, V2, U0, U1, U2], .slice a len cap] w fun e w' => e = .returned (.bool (r1 || r2)) ∧ Below w.heap.size w w' := by
  cases r1 with
  | true =>
    go_enter Tryd.func34, Tryd.ntmps34
    go_wp2_with fail
    refine (h1.out _ ((Below.refl _ _).alloc (Nat.le_refl _) _)).mono ?_
    rintro e w1 ⟨rfl, g1⟩
    have b1 : Below w.heap.size w w1 := ((Below.refl _ _).alloc (Nat.le_refl _) _).trans (g1.mono (by simp))
    clear g1
    go_wp2
    go_ret
    exact ⟨by simp, b1⟩
  | false =>
    go_enter Tryd.func34, Tryd.ntmps34
    go_wp2_with fail
    refine (h1.out _ ((Below.refl _ _).alloc (Nat.le_refl _) _)).mono ?_
    rintro e w1 ⟨rfl, g1⟩
    have c5 : w1.cell? ⟨w.heap.size, 5, none⟩ = some U0 := cell_later g1 (by simp)
    have c6 : w1.cell? ⟨w.heap.size, 6, none⟩ = some U1 := cell_later g1 (by simp)
    have c7 : w1.cell? ⟨w.heap.size, 7, none⟩ = some U2 := cell_later g1 (by simp)
    have b1 : Below w.heap.size w w1 := ((Below.refl _ _).alloc (Nat.le_refl _) _).trans (g1.mono (by simp))
    clear g1
    go_wp2_with fail
    refine (h2.out _ b1).mono ?_
    rintro e w2 ⟨rfl, g2⟩
    have b2 := b1.trans (g2.mono b1.size)
    clear g2
    go_wp2
    go_ret
    exact ⟨by simp, b2⟩

theorem rule_take (op : Int) (a : Option Addr) (xs : List Arg) (len cap : Nat) (hlen : len = xs.length) (w : World) (hT : KT w) (hx : Sl w a xs) :
    Calls Tryd.prog 34 #[.agg (rulV op), .slice a len cap] w fun e w' => e = .returned (.bool (rtk op xs)) ∧ Below w.heap.size w w' :=
  rule_take_run _ _ _ _ _ _ _ _ _ _ a len cap w (fun W h => take_of (ndP op) (nd_ok op) a xs len cap hlen W (hT.later h) (hx.later h)) (fun W h => take_of (orP op) (or_ok op) a xs len cap hlen W (hT.later h) (hx.later h))
end Go.Proofs.YtlgacbjopobeoaaDoor
/- ElemIsContact and ElemIsCoil, the program's. -/
namespace Go.Proofs.YtlgacbjopobeoaaDoor
open Go.RowKit Go.Shelf
set_option linter.unusedVariables false

set_option maxRecDepth 10000 in
set_option maxHeartbeats 1000000 in
theorem impl_iscontact_run (op : Int) (RV0 : Array Value) (r : Bool) (a : Option Addr) (len cap : Nat) (w : World)
    (hR : Hid (∀ W, Below w.heap.size w W → Calls Tryd.prog 33 #[.int .i64 op] W fun e w' => e = .returned (.agg RV0) ∧ Below W.heap.size W w'))
    (hX : Hid (∀ W, Below w.heap.size w W → Calls Tryd.prog 34 #[.agg RV0, .slice a len cap] W fun e w' => e = .returned (.bool r) ∧ Below W.heap.size W w')) :
    Calls Tryd.prog 26 #[.agg #[.int .i64 op, .slice a len cap]] w fun e w' => e = .returned (.bool (decide (op ≤ 10) && r)) ∧ Below w.heap.size w w' := by
  have hb0 : Below w.heap.size w (w.alloc (.cells #[.int .i64 op, .slice a len cap] 28)) := (Below.refl _ _).alloc (Nat.le_refl _) _
  have k0 := cell_regrown (w := (w.alloc (.cells #[.int .i64 op, .slice a len cap] 28))) (a := ⟨w.heap.size, 0, none⟩) (v := .int .i64 op) (by simp)
  have k1 := cell_regrown (w := (w.alloc (.cells #[.int .i64 op, .slice a len cap] 28))) (a := ⟨w.heap.size, 1, none⟩) (v := .slice a len cap) (by simp)
  have cR : ∀ d os, Calls Tryd.prog 33 #[.int .i64 op] (Sort.grow (redrawn (w.alloc (.cells #[.int .i64 op, .slice a len cap] 28)) d) os) fun e w'' => e = .returned (.agg RV0) ∧ ∃ p : Regrown, w'' = Sort.grow (redrawn (w.alloc (.cells #[.int .i64 op, .slice a len cap] 28)) p.d) p.os :=
    fun d os => Calls.regrown_of (hR.out _ (hb0.trans ((below_regrown _ d os).mono hb0.size)))
  have cX : ∀ d os, Calls Tryd.prog 34 #[.agg RV0, .slice a len cap] (Sort.grow (redrawn (w.alloc (.cells #[.int .i64 op, .slice a len cap] 28)) d) os) fun e w'' => e = .returned (.bool r) ∧ ∃ p : Regrown, w'' = Sort.grow (redrawn (w.alloc (.cells #[.int .i64 op, .slice a len cap] 28)) p.d) p.os :=
    fun d os => Calls.regrown_of (hX.out _ (hb0.trans ((below_regrown _ d os).mono hb0.size)))
  clear hR hX
  by_cases hg : op ≤ 10
  · have ed : decide (op ≤ 10) = true := by simpa using hg
    rw [ed, Bool.true_and]
    go_enter Tryd.func26, Tryd.ntmps26
    go_upto_region 1 with fail
    refine wp_region_quiet_below (by kernel_rfl) (by kernel_rfl) ?_
    repeat (go_big_quiet_step (first | exact cR _ _ | exact cX _ _))
    refine wpQuiet_nil ?_
    intro _ hw'
    obtain ⟨⟨dq, osq⟩, hw''⟩ := hw'
    subst hw''
    go_wp2
    go_ret
    exact ⟨rfl, hb0.trans ((below_regrown _ dq osq).mono hb0.size)⟩
  · have ed : decide (op ≤ 10) = false := by simpa using hg
    rw [ed, Bool.false_and]
    go_enter Tryd.func26, Tryd.ntmps26
    go_upto_region 1 with fail
    refine wp_region_quiet_below (by kernel_rfl) (by kernel_rfl) ?_
    repeat (go_big_quiet_step (first | exact cR _ _ | exact cX _ _))
    refine wpQuiet_nil ?_
    intro _ hw'
    obtain ⟨⟨dq, osq⟩, hw''⟩ := hw'
    subst hw''
    go_wp2
    go_ret
    exact ⟨rfl, hb0.trans ((below_regrown _ dq osq).mono hb0.size)⟩

theorem impl_iscontact (op : Int) (a : Option Addr) (xs : List Arg) (len cap : Nat) (hlen : len = xs.length) (w : World) (hT : KT w) (hx : Sl w a xs) :
    Calls Tryd.prog 26 #[.agg #[.int .i64 op, .slice a len cap]] w fun e w' => e = .returned (.bool (decide (op ≤ 10) && rtk op xs)) ∧ Below w.heap.size w w' :=
  impl_iscontact_run op (rulV op) _ a len cap w (fun W _ => rule_of op W) (fun W h => rule_take op a xs len cap hlen W (hT.later h) (hx.later h))

end Go.Proofs.YtlgacbjopobeoaaDoor

/- ElemIsContact of the specification. -/
namespace Go.Proofs.YtlgacbjopobeoaaDoor
open Go.RowKit Go.Shelf
set_option linter.unusedVariables false

theorem ar_or (op : Int) : orP op = [] ∨ (orP op).length = (ndP op).length := by
  rcases eop_cases op with h | ⟨n, hn, rfl⟩
  · exact .inl (out_all op h).2.2.2
  · rcases c38 n hn with rfl | rfl | rfl | rfl | rfl | rfl | rfl | rfl | rfl | rfl | rfl | rfl | rfl | rfl | rfl | rfl | rfl | rfl | rfl | rfl | rfl | rfl | rfl | rfl | rfl | rfl | rfl | rfl | rfl | rfl | rfl | rfl | rfl | rfl | rfl | rfl | rfl | rfl
    all_goals first | exact .inl rfl | exact .inr rfl
theorem rtk_len {op : Int} {xs : List Arg} (h : rtk op xs = true) : (xs.length : Int) = arN op ∧ xs ≠ [] := by
  unfold rtk tk at h
  simp only [Bool.or_eq_true, Bool.and_eq_true, decide_eq_true_eq] at h
  unfold arN
  rcases h with ⟨⟨h1, h2⟩, _⟩ | ⟨⟨h1, h2⟩, _⟩
  · exact ⟨by omega, fun e => by subst e; simp at h1⟩
  · refine ⟨?_, fun e => by subst e; simp at h1⟩
    rcases ar_or op with e | e
    · rw [e] at h2
      have := List.length_eq_zero_iff.1 h2
      subst this; simp at h1
    · omega
theorem rtk_no {op : Int} {xs : List Arg} (h : (xs.length : Int) ≠ arN op) : rtk op xs = false := by
  cases hr : rtk op xs with
  | false => rfl
  | true => exact absurd (rtk_len hr).1 h
theorem nd_none (op : Int) (h : ndP op = []) (xs : List Arg) : rtk op xs = false := by
  cases hr : rtk op xs with
  | false => rfl
  | true =>
    obtain ⟨h1, h2⟩ := rtk_len hr
    unfold arN at h1
    rw [h] at h1
    exact absurd (List.length_eq_zero_iff.1 (by simpa using h1)) h2

theorem spec_arity' (op : Int) (W : World) : Calls Tryd.prog 21 #[.int .i64 op] W fun e w' => e = .returned (.int .i64 (arN op)) ∧ Below W.heap.size W w' :=
  (spec_arity op W).mono fun e w' ⟨h1, h2⟩ => ⟨h1, by rw [h2]; exact Below.refl _ _⟩

set_option maxRecDepth 10000 in
set_option maxHeartbeats 1000000 in
theorem scontact_no (op N : Int) (a : Option Addr) (len cap : Nat) (w : World) (h : op < 1 ∨ 10 < op ∨ (len : Int) ≠ N)
    (hA : Hid (∀ W, Calls Tryd.prog 21 #[.int .i64 op] W fun e w' => e = .returned (.int .i64 N) ∧ Below W.heap.size W w')) :
    Calls Tryd.prog 12 #[.agg #[.int .i64 op, .slice a len cap]] w fun e w' => e = .returned (.bool false) ∧ Below w.heap.size w w' := by
  have hb0 : Below w.heap.size w (w.alloc (.cells #[.int .i64 op, .slice a len cap] 28)) := (Below.refl _ _).alloc (Nat.le_refl _) _
  have k0 := cell_regrown (w := w.alloc (.cells #[.int .i64 op, .slice a len cap] 28)) (a := ⟨w.heap.size, 0, none⟩) (v := .int .i64 op) (by simp)
  have k1 := cell_regrown (w := w.alloc (.cells #[.int .i64 op, .slice a len cap] 28)) (a := ⟨w.heap.size, 1, none⟩) (v := .slice a len cap) (by simp)
  have cA : ∀ d os, Calls Tryd.prog 21 #[.int .i64 op] (Sort.grow (redrawn (w.alloc (.cells #[.int .i64 op, .slice a len cap] 28)) d) os) fun e w'' => e = .returned (.int .i64 N) ∧ ∃ p : Regrown, w'' = Sort.grow (redrawn (w.alloc (.cells #[.int .i64 op, .slice a len cap] 28)) p.d) p.os :=
    fun d os => Calls.regrown_of (hA.out _)
  clear hA
  by_cases h1 : op < 1
  · clear h
    go_enter Tryd.func12, Tryd.ntmps12
    go_upto_region 1 with fail
    refine wp_region_quiet_below (by kernel_rfl) (by kernel_rfl) ?_
    repeat (go_big_quiet_step (first | exact cA _ _))
    refine wpQuiet_nil ?_
    intro _ hw'
    obtain ⟨⟨dq, osq⟩, hw''⟩ := hw'
    subst hw''
    go_wp2
    go_ret
    exact ⟨rfl, hb0.trans ((below_regrown _ dq osq).mono hb0.size)⟩
  · by_cases h2 : 10 < op
    · clear h
      go_enter Tryd.func12, Tryd.ntmps12
      go_upto_region 1 with fail
      refine wp_region_quiet_below (by kernel_rfl) (by kernel_rfl) ?_
      repeat (go_big_quiet_step (first | exact cA _ _))
      refine wpQuiet_nil ?_
      intro _ hw'
      obtain ⟨⟨dq, osq⟩, hw''⟩ := hw'
      subst hw''
      go_wp2
      go_ret
      exact ⟨rfl, hb0.trans ((below_regrown _ dq osq).mono hb0.size)⟩
    · have h3 : ((len : Int) == N) = false := by rw [beq_eq_false_iff_ne]; omega
      clear h
      go_enter Tryd.func12, Tryd.ntmps12
      go_upto_region 1 with fail
      refine wp_region_quiet_below (by kernel_rfl) (by kernel_rfl) ?_
      repeat (go_big_quiet_step (first | exact cA _ _))
      refine wpQuiet_nil ?_
      intro _ hw'
      obtain ⟨⟨dq, osq⟩, hw''⟩ := hw'
      subst hw''
      go_wp2
      go_ret
      exact ⟨rfl, hb0.trans ((below_regrown _ dq osq).mono hb0.size)⟩

set_option maxRecDepth 10000 in
set_option maxHeartbeats 1000000 in
theorem scontact1 (op k n p : Int) (r : Bool) (b o cap : Nat) (w : World) (ho1 : 1 ≤ op) (ho2 : op ≤ 2) (hx : Ops w b o [(k, n, p)])
    (hA : Hid (∀ W, Calls Tryd.prog 21 #[.int .i64 op] W fun e w' => e = .returned (.int .i64 1) ∧ Below W.heap.size W w'))
    (hB : Hid (∀ W, Calls Tryd.prog 22 #[.agg #[.int .i64 k, .int .i64 n, .int .i64 p]] W fun e w' => e = .returned (.bool r) ∧ Below W.heap.size W w')) :
    Calls Tryd.prog 12 #[.agg #[.int .i64 op, .slice (some ⟨b, o, none⟩) 1 cap]] w fun e w' => e = .returned (.bool r) ∧ Below w.heap.size w w' := by
  have hb0 : Below w.heap.size w (w.alloc (.cells #[.int .i64 op, .slice (some ⟨b, o, none⟩) 1 cap] 28)) := (Below.refl _ _).alloc (Nat.le_refl _) _
  have k0 := cell_regrown (w := w.alloc (.cells #[.int .i64 op, .slice (some ⟨b, o, none⟩) 1 cap] 28)) (a := ⟨w.heap.size, 0, none⟩) (v := .int .i64 op) (by simp)
  have k1 := cell_regrown (w := w.alloc (.cells #[.int .i64 op, .slice (some ⟨b, o, none⟩) 1 cap] 28)) (a := ⟨w.heap.size, 1, none⟩) (v := .slice (some ⟨b, o, none⟩) 1 cap) (by simp)
  have cA : ∀ d os, Calls Tryd.prog 21 #[.int .i64 op] (Sort.grow (redrawn (w.alloc (.cells #[.int .i64 op, .slice (some ⟨b, o, none⟩) 1 cap] 28)) d) os) fun e w'' => e = .returned (.int .i64 1) ∧ ∃ p : Regrown, w'' = Sort.grow (redrawn (w.alloc (.cells #[.int .i64 op, .slice (some ⟨b, o, none⟩) 1 cap] 28)) p.d) p.os :=
    fun d os => Calls.regrown_of (hA.out _)
  clear hA
  have h1 : ¬ (op < 1) := by omega
  have h2 : ¬ (10 < op) := by omega
  go_enter Tryd.func12, Tryd.ntmps12
  go_upto_region 1 with fail
  refine wp_region_quiet_below (by kernel_rfl) (by kernel_rfl) ?_
  repeat (go_big_quiet_step (first | exact cA _ _))
  refine wpQuiet_nil ?_
  intro _ hw'
  obtain ⟨⟨dq, osq⟩, hw''⟩ := hw'
  subst hw''
  have e0 := k0 dq osq
  have e1 := k1 dq osq
  have hb1 := hb0.trans ((below_regrown (w.alloc (.cells #[.int .i64 op, .slice (some ⟨b, o, none⟩) 1 cap] 28)) dq osq).mono hb0.size)
  have hx1 := hx.later hb1
  dsimp only at e0 e1 hb1 hx1 ⊢
  generalize Sort.grow (redrawn (w.alloc (.cells #[.int .i64 op, .slice (some ⟨b, o, none⟩) 1 cap] 28)) dq) osq = w2 at e0 e1 hb1 hx1 ⊢
  clear cA k0 k1 hb0 hx
  have x0 := (hx1 0 _ rfl).1
  have x1 := (hx1 0 _ rfl).2.1
  have x2 := (hx1 0 _ rfl).2.2
  simp only [Nat.zero_mul, Nat.add_zero] at x0 x1 x2
  go_wp2_with fail
  refine (hB.out _).mono ?_
  rintro e w3 ⟨rfl, g3⟩
  have b3 := hb1.trans (g3.mono hb1.size)
  clear g3
  go_wp2
  go_ret
  exact ⟨rfl, b3⟩
end Go.Proofs.YtlgacbjopobeoaaDoor
/- ElemIsContact and ElemIsCoil of the specification. -/
namespace Go.Proofs.YtlgacbjopobeoaaDoor
open Go.RowKit Go.Shelf
set_option linter.unusedVariables false

set_option maxRecDepth 10000 in
set_option maxHeartbeats 2000000 in
theorem scontact2 (op k n p k1 n1 p1 : Int) (r0 r1 : Bool) (b o cap : Nat) (w : World) (ho1 : 3 ≤ op) (ho2 : op ≤ 4) (ho3 : ¬ op ≤ 2) (hx : Ops w b o [(k, n, p), (k1, n1, p1)])
    (hA : Hid (∀ W, Calls Tryd.prog 21 #[.int .i64 op] W fun e w' => e = .returned (.int .i64 2) ∧ Below W.heap.size W w'))
    (h0 : Hid (∀ W, Calls Tryd.prog 22 #[.agg #[.int .i64 k, .int .i64 n, .int .i64 p]] W fun e w' => e = .returned (.bool r0) ∧ Below W.heap.size W w'))
    (h1 : Hid (∀ W, Calls Tryd.prog 23 #[.agg #[.int .i64 k1, .int .i64 n1, .int .i64 p1]] W fun e w' => e = .returned (.bool r1) ∧ Below W.heap.size W w')) :
    Calls Tryd.prog 12 #[.agg #[.int .i64 op, .slice (some ⟨b, o, none⟩) 2 cap]] w fun e w' => e = .returned (.bool (r0 && (r1 && (k1 == 5)))) ∧ Below w.heap.size w w' := by
  have hb0 : Below w.heap.size w (w.alloc (.cells #[.int .i64 op, .slice (some ⟨b, o, none⟩) 2 cap] 28)) := (Below.refl _ _).alloc (Nat.le_refl _) _
  have k0 := cell_regrown (w := (w.alloc (.cells #[.int .i64 op, .slice (some ⟨b, o, none⟩) 2 cap] 28))) (a := ⟨w.heap.size, 0, none⟩) (v := .int .i64 op) (by simp)
  have k1 := cell_regrown (w := (w.alloc (.cells #[.int .i64 op, .slice (some ⟨b, o, none⟩) 2 cap] 28))) (a := ⟨w.heap.size, 1, none⟩) (v := .slice (some ⟨b, o, none⟩) 2 cap) (by simp)
  have cA : ∀ d os, Calls Tryd.prog 21 #[.int .i64 op] (Sort.grow (redrawn (w.alloc (.cells #[.int .i64 op, .slice (some ⟨b, o, none⟩) 2 cap] 28)) d) os) fun e w'' => e = .returned (.int .i64 2) ∧ ∃ p : Regrown, w'' = Sort.grow (redrawn (w.alloc (.cells #[.int .i64 op, .slice (some ⟨b, o, none⟩) 2 cap] 28)) p.d) p.os :=
    fun d os => Calls.regrown_of (hA.out _)
  clear hA
  have h_1 : ¬ (op < 1) := by omega
  have h_2 : ¬ (10 < op) := by omega
  go_enter Tryd.func12, Tryd.ntmps12
  go_upto_region 1 with fail
  refine wp_region_quiet_below (by kernel_rfl) (by kernel_rfl) ?_
  repeat (go_big_quiet_step (first | exact cA _ _))
  refine wpQuiet_nil ?_
  intro _ hw'
  obtain ⟨⟨dq, osq⟩, hw''⟩ := hw'
  subst hw''
  have e0 := k0 dq osq
  have e1 := k1 dq osq
  have hb1 := hb0.trans ((below_regrown (w.alloc (.cells #[.int .i64 op, .slice (some ⟨b, o, none⟩) 2 cap] 28)) dq osq).mono hb0.size)
  have hx1 := hx.later hb1
  have lt1 : w.heap.size < (Sort.grow (redrawn (w.alloc (.cells #[.int .i64 op, .slice (some ⟨b, o, none⟩) 2 cap] 28)) dq) osq).heap.size := World.block_lt_of_cell? _ _ e0
  dsimp only at e0 e1 hb1 hx1 lt1 ⊢
  generalize Sort.grow (redrawn (w.alloc (.cells #[.int .i64 op, .slice (some ⟨b, o, none⟩) 2 cap] 28)) dq) osq = w2 at e0 e1 hb1 hx1 lt1 ⊢
  clear cA k0 k1 hb0 hx
  have lt2 : b < w2.heap.size := hx1.lt (by simp)
  have x00 := (hx1 0 _ rfl).1
  have x01 := (hx1 0 _ rfl).2.1
  have x02 := (hx1 0 _ rfl).2.2
  have x10 := (hx1 1 _ rfl).1
  have x11 := (hx1 1 _ rfl).2.1
  have x12 := (hx1 1 _ rfl).2.2
  simp only [Nat.zero_mul, Nat.add_zero, Nat.one_mul, Nat.add_assoc, Nat.reduceAdd] at x00 x01 x02 x10 x11 x12
  go_wp2_with fail
  refine (h0.out _).mono ?_
  rintro e w3 ⟨rfl, g3⟩
  have D3 : Below w2.heap.size w2 w3 := g3
  have z3e0 := cell_later D3 e0
  have z3e1 := cell_later D3 e1
  have z3x00 := cell_later D3 x00
  have z3x01 := cell_later D3 x01
  have z3x02 := cell_later D3 x02
  have z3x10 := cell_later D3 x10
  have z3x11 := cell_later D3 x11
  have z3x12 := cell_later D3 x12
  clear g3
  cases r0 with
  | true =>
    go_wp2_with fail
    refine (h1.out _).mono ?_
    rintro e w4 ⟨rfl, g4⟩
    have D4 : Below w2.heap.size w2 w4 := D3.trans (g4.mono D3.size)
    have z4e0 := cell_later D4 e0
    have z4e1 := cell_later D4 e1
    have z4x00 := cell_later D4 x00
    have z4x01 := cell_later D4 x01
    have z4x02 := cell_later D4 x02
    have z4x10 := cell_later D4 x10
    have z4x11 := cell_later D4 x11
    have z4x12 := cell_later D4 x12
    clear g4
    cases r1 with
    | true =>
      go_wp2
      go_ret
      exact ⟨by simp, hb1.trans (D4.mono hb1.size)⟩
    | false =>
      go_wp2
      go_ret
      exact ⟨by simp, hb1.trans (D4.mono hb1.size)⟩
  | false =>
    go_wp2
    go_ret
    exact ⟨by simp, hb1.trans (D3.mono hb1.size)⟩

set_option maxRecDepth 10000 in
set_option maxHeartbeats 2000000 in
theorem scontact3 (op k n p k1 n1 p1 : Int) (r0 r1 r2 r3 : Bool) (b o cap : Nat) (w : World) (ho1 : 5 ≤ op) (ho2 : op ≤ 10) (ho3 : ¬ op ≤ 2) (ho4 : ¬ op ≤ 4) (hx : Ops w b o [(k, n, p), (k1, n1, p1)])
    (hA : Hid (∀ W, Calls Tryd.prog 21 #[.int .i64 op] W fun e w' => e = .returned (.int .i64 2) ∧ Below W.heap.size W w'))
    (h0 : Hid (∀ W, Calls Tryd.prog 13 #[.agg #[.int .i64 k, .int .i64 n, .int .i64 p]] W fun e w' => e = .returned (.bool r0) ∧ Below W.heap.size W w'))
    (h1 : Hid (∀ W, Calls Tryd.prog 13 #[.agg #[.int .i64 k1, .int .i64 n1, .int .i64 p1]] W fun e w' => e = .returned (.bool r1) ∧ Below W.heap.size W w'))
    (h2 : Hid (∀ W, Calls Tryd.prog 24 #[.agg #[.int .i64 k, .int .i64 n, .int .i64 p]] W fun e w' => e = .returned (.bool r2) ∧ Below W.heap.size W w'))
    (h3 : Hid (∀ W, Calls Tryd.prog 24 #[.agg #[.int .i64 k1, .int .i64 n1, .int .i64 p1]] W fun e w' => e = .returned (.bool r3) ∧ Below W.heap.size W w')) :
    Calls Tryd.prog 12 #[.agg #[.int .i64 op, .slice (some ⟨b, o, none⟩) 2 cap]] w fun e w' => e = .returned (.bool (r0 && r1 || r2 && r3)) ∧ Below w.heap.size w w' := by
  have hb0 : Below w.heap.size w (w.alloc (.cells #[.int .i64 op, .slice (some ⟨b, o, none⟩) 2 cap] 28)) := (Below.refl _ _).alloc (Nat.le_refl _) _
  have k0 := cell_regrown (w := (w.alloc (.cells #[.int .i64 op, .slice (some ⟨b, o, none⟩) 2 cap] 28))) (a := ⟨w.heap.size, 0, none⟩) (v := .int .i64 op) (by simp)
  have k1 := cell_regrown (w := (w.alloc (.cells #[.int .i64 op, .slice (some ⟨b, o, none⟩) 2 cap] 28))) (a := ⟨w.heap.size, 1, none⟩) (v := .slice (some ⟨b, o, none⟩) 2 cap) (by simp)
  have cA : ∀ d os, Calls Tryd.prog 21 #[.int .i64 op] (Sort.grow (redrawn (w.alloc (.cells #[.int .i64 op, .slice (some ⟨b, o, none⟩) 2 cap] 28)) d) os) fun e w'' => e = .returned (.int .i64 2) ∧ ∃ p : Regrown, w'' = Sort.grow (redrawn (w.alloc (.cells #[.int .i64 op, .slice (some ⟨b, o, none⟩) 2 cap] 28)) p.d) p.os :=
    fun d os => Calls.regrown_of (hA.out _)
  clear hA
  have h_1 : ¬ (op < 1) := by omega
  have h_2 : ¬ (10 < op) := by omega
  go_enter Tryd.func12, Tryd.ntmps12
  go_upto_region 1 with fail
  refine wp_region_quiet_below (by kernel_rfl) (by kernel_rfl) ?_
  repeat (go_big_quiet_step (first | exact cA _ _))
  refine wpQuiet_nil ?_
  intro _ hw'
  obtain ⟨⟨dq, osq⟩, hw''⟩ := hw'
  subst hw''
  have e0 := k0 dq osq
  have e1 := k1 dq osq
  have hb1 := hb0.trans ((below_regrown (w.alloc (.cells #[.int .i64 op, .slice (some ⟨b, o, none⟩) 2 cap] 28)) dq osq).mono hb0.size)
  have hx1 := hx.later hb1
  have lt1 : w.heap.size < (Sort.grow (redrawn (w.alloc (.cells #[.int .i64 op, .slice (some ⟨b, o, none⟩) 2 cap] 28)) dq) osq).heap.size := World.block_lt_of_cell? _ _ e0
  dsimp only at e0 e1 hb1 hx1 lt1 ⊢
  generalize Sort.grow (redrawn (w.alloc (.cells #[.int .i64 op, .slice (some ⟨b, o, none⟩) 2 cap] 28)) dq) osq = w2 at e0 e1 hb1 hx1 lt1 ⊢
  clear cA k0 k1 hb0 hx
  have lt2 : b < w2.heap.size := hx1.lt (by simp)
  have x00 := (hx1 0 _ rfl).1
  have x01 := (hx1 0 _ rfl).2.1
  have x02 := (hx1 0 _ rfl).2.2
  have x10 := (hx1 1 _ rfl).1
  have x11 := (hx1 1 _ rfl).2.1
  have x12 := (hx1 1 _ rfl).2.2
  simp only [Nat.zero_mul, Nat.add_zero, Nat.one_mul, Nat.add_assoc, Nat.reduceAdd] at x00 x01 x02 x10 x11 x12
  go_wp2_with fail
  refine (h0.out _).mono ?_
  rintro e w3 ⟨rfl, g3⟩
  have D3 : Below w2.heap.size w2 w3 := g3
  have z3e0 := cell_later D3 e0
  have z3e1 := cell_later D3 e1
  have z3x00 := cell_later D3 x00
  have z3x01 := cell_later D3 x01
  have z3x02 := cell_later D3 x02
  have z3x10 := cell_later D3 x10
  have z3x11 := cell_later D3 x11
  have z3x12 := cell_later D3 x12
  clear g3
  cases r0 with
  | true =>
    go_wp2_with fail
    refine (h1.out _).mono ?_
    rintro e w4 ⟨rfl, g4⟩
    have D4 : Below w2.heap.size w2 w4 := D3.trans (g4.mono D3.size)
    have z4e0 := cell_later D4 e0
    have z4e1 := cell_later D4 e1
    have z4x00 := cell_later D4 x00
    have z4x01 := cell_later D4 x01
    have z4x02 := cell_later D4 x02
    have z4x10 := cell_later D4 x10
    have z4x11 := cell_later D4 x11
    have z4x12 := cell_later D4 x12
    clear g4
    cases r1 with
    | true =>
      go_wp2
      go_ret
      exact ⟨by simp, hb1.trans (D4.mono hb1.size)⟩
    | false =>
      go_wp2_with fail
      refine (h2.out _).mono ?_
      rintro e w5 ⟨rfl, g5⟩
      have D5 : Below w2.heap.size w2 w5 := D4.trans (g5.mono D4.size)
      have z5e0 := cell_later D5 e0
      have z5e1 := cell_later D5 e1
      have z5x00 := cell_later D5 x00
      have z5x01 := cell_later D5 x01
      have z5x02 := cell_later D5 x02
      have z5x10 := cell_later D5 x10
      have z5x11 := cell_later D5 x11
      have z5x12 := cell_later D5 x12
      clear g5
      cases r2 with
      | true =>
        go_wp2_with fail
        refine (h3.out _).mono ?_
        rintro e w6 ⟨rfl, g6⟩
        have D6 : Below w2.heap.size w2 w6 := D5.trans (g6.mono D5.size)
        have z6e0 := cell_later D6 e0
        have z6e1 := cell_later D6 e1
        have z6x00 := cell_later D6 x00
        have z6x01 := cell_later D6 x01
        have z6x02 := cell_later D6 x02
        have z6x10 := cell_later D6 x10
        have z6x11 := cell_later D6 x11
        have z6x12 := cell_later D6 x12
        clear g6
        cases r3 with
        | true =>
          go_wp2
          go_ret
          exact ⟨by simp, hb1.trans (D6.mono hb1.size)⟩
        | false =>
          go_wp2
          go_ret
          exact ⟨by simp, hb1.trans (D6.mono hb1.size)⟩
      | false =>
        go_wp2
        go_ret
        exact ⟨by simp, hb1.trans (D5.mono hb1.size)⟩
  | false =>
    go_wp2_with fail
    refine (h2.out _).mono ?_
    rintro e w4 ⟨rfl, g4⟩
    have D4 : Below w2.heap.size w2 w4 := D3.trans (g4.mono D3.size)
    have z4e0 := cell_later D4 e0
    have z4e1 := cell_later D4 e1
    have z4x00 := cell_later D4 x00
    have z4x01 := cell_later D4 x01
    have z4x02 := cell_later D4 x02
    have z4x10 := cell_later D4 x10
    have z4x11 := cell_later D4 x11
    have z4x12 := cell_later D4 x12
    clear g4
    cases r2 with
    | true =>
      go_wp2_with fail
      refine (h3.out _).mono ?_
      rintro e w5 ⟨rfl, g5⟩
      have D5 : Below w2.heap.size w2 w5 := D4.trans (g5.mono D4.size)
      have z5e0 := cell_later D5 e0
      have z5e1 := cell_later D5 e1
      have z5x00 := cell_later D5 x00
      have z5x01 := cell_later D5 x01
      have z5x02 := cell_later D5 x02
      have z5x10 := cell_later D5 x10
      have z5x11 := cell_later D5 x11
      have z5x12 := cell_later D5 x12
      clear g5
      cases r3 with
      | true =>
        go_wp2
        go_ret
        exact ⟨by simp, hb1.trans (D5.mono hb1.size)⟩
      | false =>
        go_wp2
        go_ret
        exact ⟨by simp, hb1.trans (D5.mono hb1.size)⟩
    | false =>
      go_wp2
      go_ret
      exact ⟨by simp, hb1.trans (D4.mono hb1.size)⟩

end Go.Proofs.YtlgacbjopobeoaaDoor

/- l4Kind and l4Calc of the specification; the coils that reckon. -/
namespace Go.Proofs.YtlgacbjopobeoaaDoor
open Go.RowKit Go.Shelf
set_option linter.unusedVariables false

/-- The operands behind the first are numbers of one sort. -/
def calcR (op : Int) (m : Nat) (X : Nat → Arg) : Bool :=
  (okA (X 0).1 (X 0).2.1 (X 0).2.2 && ((X 0).1 == 9 || (X 0).1 == 10)) && ((List.range (m - 1)).all fun j => if (X 0).1 == 9 then okA (X (j + 1)).1 (X (j + 1)).2.1 (X (j + 1)).2.2 && kW (X (j + 1)).1 else okA (X (j + 1)).1 (X (j + 1)).2.1 (X (j + 1)).2.2 && kR (X (j + 1)).1) && ((X 0).1 == 9 || !(op == 35))

end Go.Proofs.YtlgacbjopobeoaaDoor

/- ElemIsContact and ElemIsCoil of the specification. -/
namespace Go.Proofs.YtlgacbjopobeoaaDoor
open Go.RowKit Go.Shelf
set_option linter.unusedVariables false

end Go.Proofs.YtlgacbjopobeoaaDoor

/- ElemIsContact and ElemIsCoil of the specification, at every Op and every operands. -/
namespace Go.Proofs.YtlgacbjopobeoaaDoor
open Go.RowKit Go.Shelf
set_option linter.unusedVariables false

theorem tk1 (c : Nat) (x : Arg) : tk [c] [x] = pp c x := by simp [tk, List.range_succ]
theorem tk2 (c d : Nat) (x y : Arg) : tk [c, d] [x, y] = (pp c x && pp d y) := by simp [tk, List.range_succ]
theorem tk3 (c d f : Nat) (x y z : Arg) : tk [c, d, f] [x, y, z] = (pp c x && (pp d y && pp f z)) := by simp [tk, List.range_succ]
theorem tk0 (x : Arg) (xs : List Arg) : tk [] (x :: xs) = false := by simp [tk]

theorem pp1 (k n p : Int) : pp 1 (k, n, p) = (okA k n p && kB k) := rfl
theorem pp3 (k n p : Int) : pp 3 (k, n, p) = (okA k n p && kW k) := rfl
theorem pp4 (k n p : Int) : pp 4 (k, n, p) = (okA k n p && kR k) := rfl
theorem c_one (k a : Int) : ([a] : List Int).contains k = (k == a) := by
  rw [Bool.eq_iff_iff]; simp
theorem c_cons (k a : Int) (l : List Int) : (a :: l).contains k = (k == a || l.contains k) := by
  rw [Bool.eq_iff_iff]; simp
theorem pp2 (k n p : Int) : pp 2 (k, n, p) = (okA k n p && (k == 5)) := by rw [show pp 2 (k, n, p) = (okA k n p && ([5] : List Int).contains k) from rfl, c_one]
theorem pp5 (k n p : Int) : pp 5 (k, n, p) = (okA k n p && (k == 2 || k == 3)) := by rw [show pp 5 (k, n, p) = (okA k n p && ([2, 3] : List Int).contains k) from rfl, c_cons, c_one]
theorem pp6 (k n p : Int) : pp 6 (k, n, p) = (okA k n p && (k == 2 || (k == 3 || k == 4))) := by rw [show pp 6 (k, n, p) = (okA k n p && ([2, 3, 4] : List Int).contains k) from rfl, c_cons, c_cons, c_one]
theorem pp7 (k n p : Int) : pp 7 (k, n, p) = (okA k n p && (k == 2 || (k == 3 || (k == 4 || (k == 7 || k == 8))))) := by rw [show pp 7 (k, n, p) = (okA k n p && ([2, 3, 4, 7, 8] : List Int).contains k) from rfl, c_cons, c_cons, c_cons, c_cons, c_one]
theorem pp8 (k n p : Int) : pp 8 (k, n, p) = (okA k n p && (k == 4)) := by rw [show pp 8 (k, n, p) = (okA k n p && ([4] : List Int).contains k) from rfl, c_one]
theorem pp9 (k n p : Int) : pp 9 (k, n, p) = (okA k n p && (k == 7)) := by rw [show pp 9 (k, n, p) = (okA k n p && ([7] : List Int).contains k) from rfl, c_one]
theorem pp11 (k n p : Int) : pp 11 (k, n, p) = (okA k n p && (k == 8)) := by rw [show pp 11 (k, n, p) = (okA k n p && ([8] : List Int).contains k) from rfl, c_one]
theorem pp12 (k n p : Int) : pp 12 (k, n, p) = (okA k n p && (k == 9)) := by rw [show pp 12 (k, n, p) = (okA k n p && ([9] : List Int).contains k) from rfl, c_one]
theorem pp13 (k n p : Int) : pp 13 (k, n, p) = (okA k n p && (k == 10)) := by rw [show pp 13 (k, n, p) = (okA k n p && ([10] : List Int).contains k) from rfl, c_one]
theorem pp10 (k n p : Int) : pp 10 (k, n, p) = (okA k n p && (k == 11) && decide (0 ≤ n)) := by rw [show pp 10 (k, n, p) = (okA k n p && ([11] : List Int).contains k && decide (0 ≤ n)) from rfl, c_one]

theorem len1 {xs : List Arg} (h : (xs.length : Int) = 1) : ∃ k n p, xs = [(k, n, p)] := by
  match xs, h with
  | [(k, n, p)], _ => exact ⟨k, n, p, rfl⟩
  | [], h => simp at h
  | _ :: _ :: _, h => simp at h; omega
theorem len2 {xs : List Arg} (h : (xs.length : Int) = 2) : ∃ k n p k1 n1 p1, xs = [(k, n, p), (k1, n1, p1)] := by
  match xs, h with
  | [(k, n, p), (k1, n1, p1)], _ => exact ⟨k, n, p, k1, n1, p1, rfl⟩
  | [], h => simp at h
  | [_], h => simp at h
  | _ :: _ :: _ :: _, h => simp at h; omega
theorem len3 {xs : List Arg} (h : (xs.length : Int) = 3) : ∃ k n p k1 n1 p1 k2 n2 p2, xs = [(k, n, p), (k1, n1, p1), (k2, n2, p2)] := by
  match xs, h with
  | [(k, n, p), (k1, n1, p1), (k2, n2, p2)], _ => exact ⟨k, n, p, k1, n1, p1, k2, n2, p2, rfl⟩
  | [], h => simp at h
  | [_], h => simp at h
  | [_, _], h => simp at h
  | _ :: _ :: _ :: _ :: _, h => simp at h; omega

theorem Sl.at {w : World} {a : Option Addr} {x : Arg} {xs : List Arg} (h : Sl w a (x :: xs)) : ∃ b o, a = some ⟨b, o, none⟩ ∧ Ops w b o (x :: xs) := by
  rcases h with h | h
  · cases h
  · exact h

theorem spec_iscontact (op : Int) (a : Option Addr) (xs : List Arg) (len cap : Nat) (hlen : len = xs.length) (w : World) (hx : Sl w a xs) :
    Calls Tryd.prog 12 #[.agg #[.int .i64 op, .slice a len cap]] w fun e w' => e = .returned (.bool (decide (op ≤ 10) && rtk op xs)) ∧ Below w.heap.size w w' := by
  subst hlen
  by_cases hbad : op < 1 ∨ 10 < op ∨ (xs.length : Int) ≠ arN op
  · have e0 : (decide (op ≤ 10) && rtk op xs) = false := by
      rcases hbad with h | h | h
      · have : ndP op = [] := by unfold ndP; repeat rw [if_neg (by omega)]
        rw [nd_none op this]; simp
      · have : decide (op ≤ 10) = false := by simp; omega
        rw [this]; rfl
      · rw [rtk_no h]; simp
    rw [e0]
    exact scontact_no op (arN op) a xs.length cap w hbad (fun W => spec_arity' op W)
  · have hl : (xs.length : Int) = arN op := by omega
    have ed : decide (op ≤ 10) = true := by simp; omega
    rw [ed, Bool.true_and]
    have hA := fun W => spec_arity' op W
    rw [← hl] at hA
    have : op = 1 ∨ op = 2 ∨ op = 3 ∨ op = 4 ∨ op = 5 ∨ op = 6 ∨ op = 7 ∨ op = 8 ∨ op = 9 ∨ op = 10 := by omega
    rcases this with h | h | h | h | h | h | h | h | h | h
    · subst h
      obtain ⟨k, n, p, rfl⟩ := len1 (hl.trans rfl)
      obtain ⟨b, o, rfl, ho⟩ := hx.at
      rw [show rtk 1 [(k, n, p)] = (okA k n p && kB k) by rw [rtk, show ndP 1 = [1] from rfl, show orP 1 = [] from rfl, tk1, tk0, Bool.or_false, pp1]]
      exact scontact1 1 k n p _ b o cap w (by decide) (by decide) ho hA (fun W => spec_isbit k n p W)
    · subst h
      obtain ⟨k, n, p, rfl⟩ := len1 (hl.trans rfl)
      obtain ⟨b, o, rfl, ho⟩ := hx.at
      rw [show rtk 2 [(k, n, p)] = (okA k n p && kB k) by rw [rtk, show ndP 2 = [1] from rfl, show orP 2 = [] from rfl, tk1, tk0, Bool.or_false, pp1]]
      exact scontact1 2 k n p _ b o cap w (by decide) (by decide) ho hA (fun W => spec_isbit k n p W)
    · subst h
      obtain ⟨k, n, p, k1, n1, p1, rfl⟩ := len2 (hl.trans rfl)
      obtain ⟨b, o, rfl, ho⟩ := hx.at
      rw [show rtk 3 [(k, n, p), (k1, n1, p1)] = ((okA k n p && kB k) && (okA k1 n1 p1 && (k1 == 5))) by rw [rtk, show ndP 3 = [1, 2] from rfl, show orP 3 = [] from rfl, tk2, tk0, Bool.or_false, pp1, pp2]]
      exact scontact2 3 k n p k1 n1 p1 _ _ b o cap w (by decide) (by decide) (by decide) ho hA (fun W => spec_isbit k n p W) (fun W => spec_ok k1 n1 p1 W)
    · subst h
      obtain ⟨k, n, p, k1, n1, p1, rfl⟩ := len2 (hl.trans rfl)
      obtain ⟨b, o, rfl, ho⟩ := hx.at
      rw [show rtk 4 [(k, n, p), (k1, n1, p1)] = ((okA k n p && kB k) && (okA k1 n1 p1 && (k1 == 5))) by rw [rtk, show ndP 4 = [1, 2] from rfl, show orP 4 = [] from rfl, tk2, tk0, Bool.or_false, pp1, pp2]]
      exact scontact2 4 k n p k1 n1 p1 _ _ b o cap w (by decide) (by decide) (by decide) ho hA (fun W => spec_isbit k n p W) (fun W => spec_ok k1 n1 p1 W)
    · subst h
      obtain ⟨k, n, p, k1, n1, p1, rfl⟩ := len2 (hl.trans rfl)
      obtain ⟨b, o, rfl, ho⟩ := hx.at
      rw [show rtk 5 [(k, n, p), (k1, n1, p1)] = ((okA k n p && kW k) && (okA k1 n1 p1 && kW k1) || (okA k n p && kR k) && (okA k1 n1 p1 && kR k1)) by rw [rtk, show ndP 5 = [3, 3] from rfl, show orP 5 = [4, 4] from rfl, tk2, tk2, pp3, pp3, pp4, pp4]]
      exact scontact3 5 k n p k1 n1 p1 _ _ _ _ b o cap w (by decide) (by decide) (by decide) (by decide) ho hA (fun W => spec_iswhole k n p W) (fun W => spec_iswhole k1 n1 p1 W) (fun W => spec_isreal k n p W) (fun W => spec_isreal k1 n1 p1 W)
    · subst h
      obtain ⟨k, n, p, k1, n1, p1, rfl⟩ := len2 (hl.trans rfl)
      obtain ⟨b, o, rfl, ho⟩ := hx.at
      rw [show rtk 6 [(k, n, p), (k1, n1, p1)] = ((okA k n p && kW k) && (okA k1 n1 p1 && kW k1) || (okA k n p && kR k) && (okA k1 n1 p1 && kR k1)) by rw [rtk, show ndP 6 = [3, 3] from rfl, show orP 6 = [4, 4] from rfl, tk2, tk2, pp3, pp3, pp4, pp4]]
      exact scontact3 6 k n p k1 n1 p1 _ _ _ _ b o cap w (by decide) (by decide) (by decide) (by decide) ho hA (fun W => spec_iswhole k n p W) (fun W => spec_iswhole k1 n1 p1 W) (fun W => spec_isreal k n p W) (fun W => spec_isreal k1 n1 p1 W)
    · subst h
      obtain ⟨k, n, p, k1, n1, p1, rfl⟩ := len2 (hl.trans rfl)
      obtain ⟨b, o, rfl, ho⟩ := hx.at
      rw [show rtk 7 [(k, n, p), (k1, n1, p1)] = ((okA k n p && kW k) && (okA k1 n1 p1 && kW k1) || (okA k n p && kR k) && (okA k1 n1 p1 && kR k1)) by rw [rtk, show ndP 7 = [3, 3] from rfl, show orP 7 = [4, 4] from rfl, tk2, tk2, pp3, pp3, pp4, pp4]]
      exact scontact3 7 k n p k1 n1 p1 _ _ _ _ b o cap w (by decide) (by decide) (by decide) (by decide) ho hA (fun W => spec_iswhole k n p W) (fun W => spec_iswhole k1 n1 p1 W) (fun W => spec_isreal k n p W) (fun W => spec_isreal k1 n1 p1 W)
    · subst h
      obtain ⟨k, n, p, k1, n1, p1, rfl⟩ := len2 (hl.trans rfl)
      obtain ⟨b, o, rfl, ho⟩ := hx.at
      rw [show rtk 8 [(k, n, p), (k1, n1, p1)] = ((okA k n p && kW k) && (okA k1 n1 p1 && kW k1) || (okA k n p && kR k) && (okA k1 n1 p1 && kR k1)) by rw [rtk, show ndP 8 = [3, 3] from rfl, show orP 8 = [4, 4] from rfl, tk2, tk2, pp3, pp3, pp4, pp4]]
      exact scontact3 8 k n p k1 n1 p1 _ _ _ _ b o cap w (by decide) (by decide) (by decide) (by decide) ho hA (fun W => spec_iswhole k n p W) (fun W => spec_iswhole k1 n1 p1 W) (fun W => spec_isreal k n p W) (fun W => spec_isreal k1 n1 p1 W)
    · subst h
      obtain ⟨k, n, p, k1, n1, p1, rfl⟩ := len2 (hl.trans rfl)
      obtain ⟨b, o, rfl, ho⟩ := hx.at
      rw [show rtk 9 [(k, n, p), (k1, n1, p1)] = ((okA k n p && kW k) && (okA k1 n1 p1 && kW k1) || (okA k n p && kR k) && (okA k1 n1 p1 && kR k1)) by rw [rtk, show ndP 9 = [3, 3] from rfl, show orP 9 = [4, 4] from rfl, tk2, tk2, pp3, pp3, pp4, pp4]]
      exact scontact3 9 k n p k1 n1 p1 _ _ _ _ b o cap w (by decide) (by decide) (by decide) (by decide) ho hA (fun W => spec_iswhole k n p W) (fun W => spec_iswhole k1 n1 p1 W) (fun W => spec_isreal k n p W) (fun W => spec_isreal k1 n1 p1 W)
    · subst h
      obtain ⟨k, n, p, k1, n1, p1, rfl⟩ := len2 (hl.trans rfl)
      obtain ⟨b, o, rfl, ho⟩ := hx.at
      rw [show rtk 10 [(k, n, p), (k1, n1, p1)] = ((okA k n p && kW k) && (okA k1 n1 p1 && kW k1) || (okA k n p && kR k) && (okA k1 n1 p1 && kR k1)) by rw [rtk, show ndP 10 = [3, 3] from rfl, show orP 10 = [4, 4] from rfl, tk2, tk2, pp3, pp3, pp4, pp4]]
      exact scontact3 10 k n p k1 n1 p1 _ _ _ _ b o cap w (by decide) (by decide) (by decide) (by decide) ho hA (fun W => spec_iswhole k n p W) (fun W => spec_iswhole k1 n1 p1 W) (fun W => spec_isreal k n p W) (fun W => spec_isreal k1 n1 p1 W)

/-- The operands as a function of their place. -/
def xf (xs : List Arg) (n : Nat) : Arg := xs.getD n (0, 0, 0)
theorem Ops.fn {w : World} {b o : Nat} {xs : List Arg} (h : Ops w b o xs) (n : Nat) (hn : n < xs.length) :
    w.cell? ⟨b, o + n * 3, none⟩ = some (.int .i64 (xf xs n).1) ∧ w.cell? ⟨b, o + n * 3 + 1, none⟩ = some (.int .i64 (xf xs n).2.1) ∧ w.cell? ⟨b, o + n * 3 + 2, none⟩ = some (.int .i64 (xf xs n).2.2) :=
  h n _ (by unfold xf; rw [List.getD_eq_getElem?_getD, List.getElem?_eq_getElem hn]; rfl)

theorem calc2 (op k n p k1 n1 p1 : Int) (h35 : op ≠ 35) : calcR op 2 (xf [(k, n, p), (k1, n1, p1)]) = (tk [12, 3] [(k, n, p), (k1, n1, p1)] || tk [13, 4] [(k, n, p), (k1, n1, p1)]) := by
  rw [tk2, tk2, pp12, pp13, pp3, pp4]
  have h0 : xf [(k, n, p), (k1, n1, p1)] 0 = (k, n, p) := rfl
  have h1 : xf [(k, n, p), (k1, n1, p1)] 1 = (k1, n1, p1) := rfl
  by_cases h9 : k = 9
  · subst h9; simp [calcR, h0, h1, List.range_succ]
  · by_cases h10 : k = 10
    · subst h10; simp [calcR, h0, h1, List.range_succ, h35]
    · have b9 : (k == 9) = false := by simp [h9]
      have b10 : (k == 10) = false := by simp [h10]
      simp [calcR, h0, h1, List.range_succ, b9, b10]
theorem calc3 (op k n p k1 n1 p1 k2 n2 p2 : Int) (h35 : op ≠ 35) : calcR op 3 (xf [(k, n, p), (k1, n1, p1), (k2, n2, p2)]) = (tk [12, 3, 3] [(k, n, p), (k1, n1, p1), (k2, n2, p2)] || tk [13, 4, 4] [(k, n, p), (k1, n1, p1), (k2, n2, p2)]) := by
  rw [tk3, tk3, pp12, pp13, pp3, pp4, pp3, pp4]
  have h0 : xf [(k, n, p), (k1, n1, p1), (k2, n2, p2)] 0 = (k, n, p) := rfl
  have h1 : xf [(k, n, p), (k1, n1, p1), (k2, n2, p2)] 1 = (k1, n1, p1) := rfl
  have h2 : xf [(k, n, p), (k1, n1, p1), (k2, n2, p2)] 2 = (k2, n2, p2) := rfl
  by_cases h9 : k = 9
  · subst h9; simp [calcR, h0, h1, h2, List.range_succ]
  · by_cases h10 : k = 10
    · subst h10; simp [calcR, h0, h1, h2, List.range_succ, h35]
    · have b9 : (k == 9) = false := by simp [h9]
      have b10 : (k == 10) = false := by simp [h10]
      simp [calcR, h0, h1, h2, List.range_succ, b9, b10]
theorem calc35 (k n p k1 n1 p1 k2 n2 p2 : Int) : calcR 35 3 (xf [(k, n, p), (k1, n1, p1), (k2, n2, p2)]) = tk [12, 3, 3] [(k, n, p), (k1, n1, p1), (k2, n2, p2)] := by
  rw [tk3, pp12, pp3, pp3]
  have h0 : xf [(k, n, p), (k1, n1, p1), (k2, n2, p2)] 0 = (k, n, p) := rfl
  have h1 : xf [(k, n, p), (k1, n1, p1), (k2, n2, p2)] 1 = (k1, n1, p1) := rfl
  have h2 : xf [(k, n, p), (k1, n1, p1), (k2, n2, p2)] 2 = (k2, n2, p2) := rfl
  by_cases h9 : k = 9
  · subst h9; simp [calcR, h0, h1, h2, List.range_succ]
  · have b9 : (k == 9) = false := by simp [h9]
    simp [calcR, h0, h1, h2, List.range_succ, b9]

end Go.Proofs.YtlgacbjopobeoaaDoor

/- Contacts that are ok, and tests of wholes. -/
namespace Go.Proofs.YtlgacbjopobeoaaDoor
open Go.RowKit Go.Shelf
set_option linter.unusedVariables false

/-- A contact that is ok. -/
def isC (op : Int) (xs : List Arg) : Bool := decide (op ≤ 10) && rtk op xs
/-- A test of wholes, of a contact that is ok. -/
def twB (op : Int) (xs : List Arg) : Bool := decide (5 ≤ op) && (okA (xs.getD 0 (0, 0, 0)).1 (xs.getD 0 (0, 0, 0)).2.1 (xs.getD 0 (0, 0, 0)).2.2 && kW (xs.getD 0 (0, 0, 0)).1)
theorem isC_cases {op : Int} {xs : List Arg} (h : isC op xs = true) :
    ((op = 1 ∨ op = 2) ∧ ∃ k n p, xs = [(k, n, p)] ∧ okA k n p = true ∧ kB k = true) ∨ (3 ≤ op ∧ op ≤ 10 ∧ ∃ k n p k1 n1 p1, xs = [(k, n, p), (k1, n1, p1)]) := by
  unfold isC at h
  rw [Bool.and_eq_true, decide_eq_true_eq] at h
  obtain ⟨h1, h2⟩ := h
  obtain ⟨hl, hne⟩ := rtk_len h2
  have h3 : 1 ≤ op := by
    by_cases hc : op < 1
    · have e : ndP op = [] := by unfold ndP; repeat rw [if_neg (by omega)]
      rw [nd_none op e] at h2; cases h2
    · omega
  obtain rfl | rfl | rfl | rfl | rfl | rfl | rfl | rfl | rfl | rfl : op = 1 ∨ op = 2 ∨ op = 3 ∨ op = 4 ∨ op = 5 ∨ op = 6 ∨ op = 7 ∨ op = 8 ∨ op = 9 ∨ op = 10 := by omega
  · obtain ⟨k, n, p, rfl⟩ := len1 (hl.trans rfl)
    rw [show rtk 1 [(k, n, p)] = (okA k n p && kB k) by rw [rtk, show ndP 1 = [1] from rfl, show orP 1 = [] from rfl, tk1, tk0, Bool.or_false, pp1], Bool.and_eq_true] at h2
    exact .inl ⟨.inl rfl, k, n, p, rfl, h2.1, h2.2⟩
  · obtain ⟨k, n, p, rfl⟩ := len1 (hl.trans rfl)
    rw [show rtk 2 [(k, n, p)] = (okA k n p && kB k) by rw [rtk, show ndP 2 = [1] from rfl, show orP 2 = [] from rfl, tk1, tk0, Bool.or_false, pp1], Bool.and_eq_true] at h2
    exact .inl ⟨.inr rfl, k, n, p, rfl, h2.1, h2.2⟩
  all_goals
    obtain ⟨k, n, p, k1, n1, p1, rfl⟩ := len2 (hl.trans rfl)
    exact .inr ⟨by decide, by decide, k, n, p, k1, n1, p1, rfl⟩

theorem Ops.c3 {w : World} {b o : Nat} {xs : List Arg} (h : Ops w b o xs) {j : Nat} {k n p : Int} (hj : xs[j]? = some (k, n, p)) {o' : Nat} (ho : o' = o + j * 3) :
    w.cell? ⟨b, o', none⟩ = some (.int .i64 k) ∧ w.cell? ⟨b, o' + 1, none⟩ = some (.int .i64 n) ∧ w.cell? ⟨b, o' + 1 + 1, none⟩ = some (.int .i64 p) := by
  subst ho; exact h j _ hj

set_option maxRecDepth 10000 in
set_option maxHeartbeats 1000000 in
theorem tests_i (op : Int) (a : Option Addr) (len cap : Nat) (xs : List Arg) (w : World) (hT : KT w) (hl : len = xs.length) (hx : Sl w a xs) (h5 : 5 ≤ op → xs ≠ []) :
    Calls Tryd.prog 27 #[.agg #[.int .i64 op, .slice a len cap]] w fun e w' => e = .returned (.bool (twB op xs)) ∧ Below w.heap.size w w' := by
  have b0 : Below w.heap.size w (w.alloc (.cells #[.int .i64 op, .slice a len cap] 28)) := (Below.refl _ _).alloc (Nat.le_refl _) _
  by_cases h : 5 ≤ op
  · have hne := h5 h
    match xs, hne with
    | (k, n, p) :: r, _ =>
      obtain ⟨b, o, rfl, ho⟩ : ∃ b o, a = some ⟨b, o, none⟩ ∧ Ops w b o ((k, n, p) :: r) := by
        rcases hx with h | h
        · cases h
        · exact h
      have hO : Ops (w.alloc (.cells #[.int .i64 op, .slice (some ⟨b, o, none⟩) len cap] 28)) b o ((k, n, p) :: r) := ho.later b0
      obtain ⟨x0, x1, x2⟩ := hO.c3 (j := 0) rfl (o' := o) (by omega)
      have i1 : (0 : Int) < (len : Int) := by rw [hl]; simp <;> omega
      have HW : Hid (∀ W, KT W → Calls Tryd.prog 35 #[.agg #[.int .i64 k, .int .i64 n, .int .i64 p]] W fun e w' => e = .returned (.bool (okA k n p && kW k)) ∧ Below W.heap.size W w') := fun W h => impl_iswhole k n p W h
      rw [show twB op ((k, n, p) :: r) = (okA k n p && kW k) by unfold twB; rw [decide_eq_true h]; rfl]
      generalize (okA k n p && kW k) = R at HW ⊢
      clear hl hx h5 hne ho hO
      go_enter Tryd.func27, Tryd.ntmps27
      go_wp2_with fail
      refine (HW.out _ (hT.alloc _)).mono ?_
      rintro e w1 ⟨rfl, g1⟩
      have b1 := b0.trans (g1.mono b0.size)
      clear g1 b0
      go_wp2
      go_ret
      exact ⟨rfl, b1⟩
  · rw [show twB op xs = false by unfold twB; rw [decide_eq_false h]; rfl]
    have h' : op < 5 := by omega
    clear hl hx h5
    go_enter Tryd.func27, Tryd.ntmps27
    go_wp2
    go_ret
    exact ⟨rfl, b0⟩

end Go.Proofs.YtlgacbjopobeoaaDoor
