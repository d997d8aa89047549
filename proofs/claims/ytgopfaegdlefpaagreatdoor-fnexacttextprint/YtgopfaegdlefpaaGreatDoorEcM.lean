/- ElemArity and ElemName, the program's and the specification's. -/
import Derived.Test.YtgopfaegdlefpaaGreatDoorEaM
import Derived.Test.YtgopfaegdlefpaaGreatDoorLy
import Derived.Lib.QuietBelow
namespace Go.Proofs.YtgopfaegdlefpaaGreatDoor
open Go.RowKit Go.Shelf
set_option linter.unusedVariables false

theorem op_cases (op : Int) : (op < 0 ∨ 38 ≤ op) ∨ ∃ n : Nat, n < 38 ∧ op = n := by
  by_cases h : op < 0 ∨ 38 ≤ op
  · exact .inl h
  · exact .inr ⟨op.toNat, by omega, by omega⟩

def okPl (l : List Nat) : Bool := decide (l.length ≤ 3) && l.all fun c => decide (1 ≤ c) && decide (c ≤ 13)
theorem nd_ok (op : Int) : okPl (ndP op) = true := by
  rcases op_cases op with h | ⟨n, hn, rfl⟩
  · rw [(out_all op h).2.2.1]; rfl
  · rcases c38 n hn with rfl | rfl | rfl | rfl | rfl | rfl | rfl | rfl | rfl | rfl | rfl | rfl | rfl | rfl | rfl | rfl | rfl | rfl | rfl | rfl | rfl | rfl | rfl | rfl | rfl | rfl | rfl | rfl | rfl | rfl | rfl | rfl | rfl | rfl | rfl | rfl | rfl | rfl
    all_goals rfl
theorem or_ok (op : Int) : okPl (orP op) = true := by
  rcases op_cases op with h | ⟨n, hn, rfl⟩
  · rw [(out_all op h).2.2.2]; rfl
  · rcases c38 n hn with rfl | rfl | rfl | rfl | rfl | rfl | rfl | rfl | rfl | rfl | rfl | rfl | rfl | rfl | rfl | rfl | rfl | rfl | rfl | rfl | rfl | rfl | rfl | rfl | rfl | rfl | rfl | rfl | rfl | rfl | rfl | rfl | rfl | rfl | rfl | rfl | rfl | rfl
    all_goals rfl

theorem pv_fn (c : Nat) (h1 : 1 ≤ c) (h2 : c ≤ 13) : ∃ f, pv c = .func (.func f) #[] #[] := by
  rcases pc c with h | rfl | rfl | rfl | rfl | rfl | rfl | rfl | rfl | rfl | rfl | rfl | rfl | rfl
  · omega
  all_goals exact ⟨_, rfl⟩

/-- The places of a list, as a value. -/
def plV (l : List Nat) : Value := .agg #[pv (l.getD 0 0), pv (l.getD 1 0), pv (l.getD 2 0)]

theorem count_of (l : List Nat) (h : okPl l = true) (w : World) :
    Calls Tryz.prog 224 #[plV l] w fun e w' => e = .returned (.int .i64 (l.length : Int)) ∧ Below w.heap.size w w' := by
  simp only [okPl, Bool.and_eq_true, decide_eq_true_eq, List.all_eq_true] at h
  obtain ⟨h3, ha⟩ := h
  match l, h3, ha with
  | [], _, _ => exact count0 w
  | [a], _, ha =>
    obtain ⟨f, hf⟩ := pv_fn a (ha a (by simp)).1 (ha a (by simp)).2
    have := count1 f w
    rw [← hf] at this
    exact this
  | [a, b], _, ha =>
    obtain ⟨f, hf⟩ := pv_fn a (ha a (by simp)).1 (ha a (by simp)).2
    obtain ⟨g, hg⟩ := pv_fn b (ha b (by simp)).1 (ha b (by simp)).2
    have := count2 f g w
    rw [← hf, ← hg] at this
    exact this
  | [a, b, c], _, ha =>
    obtain ⟨f, hf⟩ := pv_fn a (ha a (by simp)).1 (ha a (by simp)).2
    obtain ⟨g, hg⟩ := pv_fn b (ha b (by simp)).1 (ha b (by simp)).2
    obtain ⟨k, hk⟩ := pv_fn c (ha c (by simp)).1 (ha c (by simp)).2
    have := count3 f g k w
    rw [← hf, ← hg, ← hk] at this
    exact this
  | _ :: _ :: _ :: _ :: _, h3, _ => simp at h3

theorem fieldR0 (a b c d e f g h : Value) (w : World) : (Instr.field 223 (.agg #[a, b, c, d, e, f, g, h]) 0).run Tryz.prog w = .ok a w := by kernel_rfl
theorem fieldR1 (a b c d e f g h : Value) (w : World) : (Instr.field 223 (.agg #[a, b, c, d, e, f, g, h]) 1).run Tryz.prog w = .ok b w := by kernel_rfl
theorem fieldR2 (a b c d e f g h : Value) (w : World) : (Instr.field 223 (.agg #[a, b, c, d, e, f, g, h]) 2).run Tryz.prog w = .ok (.agg #[c, d, e]) w := by kernel_rfl
theorem fieldR3 (a b c d e f g h : Value) (w : World) : (Instr.field 223 (.agg #[a, b, c, d, e, f, g, h]) 3).run Tryz.prog w = .ok (.agg #[f, g, h]) w := by kernel_rfl
attribute [go_sem] fieldR0 fieldR1 fieldR2 fieldR3

set_option maxHeartbeats 1000000 in
theorem impl_arity (op : Int) (w : World) :
    Calls Tryz.prog 246 #[.int .i64 op] w fun e w' => e = .returned (.int .i64 ((ndP op).length : Int)) ∧ Below w.heap.size w w' := by
  have HR : Hid (∀ W, Calls Tryz.prog 152 #[.int .i64 op] W fun e w' => e = .returned (.agg (rulV op)) ∧ Below W.heap.size W w') := fun W => rule_of op W
  have HC : Hid (∀ W, Calls Tryz.prog 224 #[plV (ndP op)] W fun e w' => e = .returned (.int .i64 ((ndP op).length : Int)) ∧ Below W.heap.size W w') := fun W => count_of _ (nd_ok op) W
  unfold plV at HC
  unfold rulV at HR
  generalize (ndP op).length = N at HC ⊢
  generalize pv ((ndP op).getD 0 0) = f0 at HC HR
  generalize pv ((ndP op).getD 1 0) = f1 at HC HR
  generalize pv ((ndP op).getD 2 0) = f2 at HC HR
  generalize pv ((orP op).getD 0 0) = k0 at HR
  generalize pv ((orP op).getD 1 0) = k1 at HR
  generalize pv ((orP op).getD 2 0) = k2 at HR
  generalize ahd op = A at HR
  generalize btw op = B at HR
  go_enter Tryz.func246, Tryz.ntmps246
  go_wp2_with fail
  refine (HR.out _).mono ?_
  rintro e w1 ⟨rfl, g1⟩
  go_wp2_with fail
  refine (HC.out _).mono ?_
  rintro e w2 ⟨rfl, g2⟩
  have b2 := g1.trans (g2.mono g1.size)
  clear g1 g2
  go_wp2
  go_ret
  exact ⟨rfl, b2⟩

/-- How many operands. -/
def arN (op : Int) : Int := ((ndP op).length : Int)

set_option maxHeartbeats 4000000 in
theorem spec_arity (op : Int) (w : World) :
    Calls Tryz.prog 122 #[.int .i64 op] w fun e w' => e = .returned (.int .i64 (arN op)) ∧ w' = w := by
  rcases op_cases op with h | ⟨n, hn, rfl⟩
  · have e0 : arN op = 0 := by unfold arN; rw [(out_all op h).2.2.1]; rfl
    rw [e0]
    have n1 : (op == 1) = false := by simp; omega
    have n2 : (op == 2) = false := by simp; omega
    have n21 : (op == 21) = false := by simp; omega
    have n22 : (op == 22) = false := by simp; omega
    have n23 : (op == 23) = false := by simp; omega
    have n25 : (op == 25) = false := by simp; omega
    have n31 : (op == 31) = false := by simp; omega
    have n32 : (op == 32) = false := by simp; omega
    have n33 : (op == 33) = false := by simp; omega
    have n34 : (op == 34) = false := by simp; omega
    have n35 : (op == 35) = false := by simp; omega
    rcases h with h | h
    · have h1 : ¬ (1 ≤ op) := by omega
      have h2 : ¬ (21 ≤ op) := by omega
      go_enter Tryz.func122, Tryz.ntmps122
      go_wp2
      go_ret
      exact ⟨rfl, rfl⟩
    · have h1 : 1 ≤ op := by omega
      have h2 : 21 ≤ op := by omega
      have h3 : ¬ (op ≤ 10) := by omega
      have h4 : ¬ (op ≤ 37) := by omega
      go_enter Tryz.func122, Tryz.ntmps122
      go_wp2
      go_ret
      exact ⟨rfl, rfl⟩
  · rcases c38 n hn with rfl | rfl | rfl | rfl | rfl | rfl | rfl | rfl | rfl | rfl | rfl | rfl | rfl | rfl | rfl | rfl | rfl | rfl | rfl | rfl | rfl | rfl | rfl | rfl | rfl | rfl | rfl | rfl | rfl | rfl | rfl | rfl | rfl | rfl | rfl | rfl | rfl | rfl
    all_goals
      go_enter Tryz.func122, Tryz.ntmps122
      go_wp2
      go_ret
      exact ⟨rfl, rfl⟩

/-- The name of a coil. -/
def nmE (op : Int) : ByteArray := if op = 21 then ⟨#[111, 117, 116]⟩ else if op = 22 then ⟨#[115, 101, 116]⟩ else if op = 23 then ⟨#[114, 101, 115, 101, 116]⟩ else if op = 24 then ⟨#[112, 117, 108, 115, 101]⟩ else if op = 25 then ⟨#[115, 116, 101, 112]⟩ else if op = 26 then ⟨#[116, 105, 109, 101, 114]⟩ else if op = 27 then ⟨#[104, 111, 108, 100]⟩ else if op = 28 then ⟨#[108, 97, 116, 101]⟩ else if op = 29 then ⟨#[99, 111, 117, 110, 116]⟩ else if op = 30 then ⟨#[109, 111, 118, 101]⟩ else if op = 31 then ⟨#[97, 100, 100]⟩ else if op = 32 then ⟨#[115, 117, 98]⟩ else if op = 33 then ⟨#[109, 117, 108]⟩ else if op = 34 then ⟨#[100, 105, 118]⟩ else if op = 35 then ⟨#[114, 101, 109]⟩ else if op = 36 then ⟨#[114, 101, 97, 108]⟩ else if op = 37 then ⟨#[119, 104, 111, 108, 101]⟩ else ⟨#[]⟩
theorem nm_out (op : Int) (h : op < 21 ∨ 38 ≤ op) : nmE op = ⟨#[]⟩ := by unfold nmE; repeat rw [if_neg (by omega)]
theorem c17 (op : Int) (h1 : 21 ≤ op) (h2 : op < 38) : op = 21 ∨ op = 22 ∨ op = 23 ∨ op = 24 ∨ op = 25 ∨ op = 26 ∨ op = 27 ∨ op = 28 ∨ op = 29 ∨ op = 30 ∨ op = 31 ∨ op = 32 ∨ op = 33 ∨ op = 34 ∨ op = 35 ∨ op = 36 ∨ op = 37 := by omega
theorem nm_trim (op : Int) (h1 : 21 ≤ op) : Lib.trimSuffix (ahd op).data.toList [58] = (nmE op).data.toList := by
  by_cases h2 : op < 38
  · rcases c17 op h1 h2 with rfl | rfl | rfl | rfl | rfl | rfl | rfl | rfl | rfl | rfl | rfl | rfl | rfl | rfl | rfl | rfl | rfl
    all_goals rfl
  · rw [nm_out op (by omega), (out_all op (by omega)).1]; rfl
theorem ahd_size (op : Int) : (ahd op).size ≤ 6 := by
  rcases op_cases op with h | ⟨n, hn, rfl⟩
  · rw [(out_all op h).1]; decide
  · rcases c38 n hn with rfl | rfl | rfl | rfl | rfl | rfl | rfl | rfl | rfl | rfl | rfl | rfl | rfl | rfl | rfl | rfl | rfl | rfl | rfl | rfl | rfl | rfl | rfl | rfl | rfl | rfl | rfl | rfl | rfl | rfl | rfl | rfl | rfl | rfl | rfl | rfl | rfl | rfl
    all_goals decide

set_option maxHeartbeats 4000000 in
theorem spec_name (op : Int) (w : World) :
    Calls Tryz.prog 117 #[.int .i64 op] w fun e w' => e = .returned (.string (nmE op)) ∧ Below w.heap.size w w' := by
  by_cases h : op < 21 ∨ 38 ≤ op
  · rw [nm_out op h]
    rcases h with h | h
    · go_enter Tryz.func117, Tryz.ntmps117
      go_wp2
      go_ret
      exact ⟨rfl, by go_grown⟩
    · have h1 : ¬ (op < 21) := by omega
      have h2 : 37 < op := by omega
      go_enter Tryz.func117, Tryz.ntmps117
      go_wp2
      go_ret
      exact ⟨rfl, by go_grown⟩
  · rcases c17 op (by omega) (by omega) with rfl | rfl | rfl | rfl | rfl | rfl | rfl | rfl | rfl | rfl | rfl | rfl | rfl | rfl | rfl | rfl | rfl
    all_goals
      go_enter Tryz.func117, Tryz.ntmps117
      go_wp2
      go_ret
      exact ⟨rfl, by go_grown⟩

end Go.Proofs.YtgopfaegdlefpaaGreatDoor
/- What may stand in a place: elemIsOf and its kin. -/
namespace Go.Proofs.YtgopfaegdlefpaaGreatDoor
open Go.RowKit Go.Shelf
set_option linter.unusedVariables false

/-- What a place asks for. -/
def pp (c : Nat) (x : Int × Int × Int) : Bool :=
  if c = 1 then okA x.1 x.2.1 x.2.2 && kB x.1 else if c = 3 then okA x.1 x.2.1 x.2.2 && kW x.1 else if c = 4 then okA x.1 x.2.1 x.2.2 && kR x.1
  else if c = 10 then okA x.1 x.2.1 x.2.2 && [(11 : Int)].contains x.1 && decide (0 ≤ x.2.1) else if c = 2 then okA x.1 x.2.1 x.2.2 && ([5] : List Int).contains x.1 else if c = 5 then okA x.1 x.2.1 x.2.2 && ([2, 3] : List Int).contains x.1 else if c = 6 then okA x.1 x.2.1 x.2.2 && ([2, 3, 4] : List Int).contains x.1 else if c = 7 then okA x.1 x.2.1 x.2.2 && ([2, 3, 4, 7, 8] : List Int).contains x.1 else if c = 8 then okA x.1 x.2.1 x.2.2 && ([4] : List Int).contains x.1 else if c = 9 then okA x.1 x.2.1 x.2.2 && ([7] : List Int).contains x.1 else if c = 11 then okA x.1 x.2.1 x.2.2 && ([8] : List Int).contains x.1 else if c = 12 then okA x.1 x.2.1 x.2.2 && ([9] : List Int).contains x.1 else if c = 13 then okA x.1 x.2.1 x.2.2 && ([10] : List Int).contains x.1 else false

set_option maxHeartbeats 1000000 in
theorem isOf_r (k n p : Int) (b : Nat) (zs : List Int) (w : World) (hT : KT w) (hl : zs.length ≤ 10) (hz : ∀ j z, zs[j]? = some z → w.cell? ⟨b, j, none⟩ = some (.int .i64 z)) :
    Calls Tryz.prog 238 #[.agg #[.int .i64 k, .int .i64 n, .int .i64 p], .slice (some ⟨b, 0, none⟩) zs.length zs.length] w fun e w' => e = .returned (.bool (okA k n p && zs.contains k)) ∧ Below w.heap.size w w' := by
  have HK : Hid (∀ W, KT W → Calls Tryz.prog 191 #[.agg #[.int .i64 k, .int .i64 n, .int .i64 p]] W fun e w' => e = .returned (.bool (okA k n p)) ∧ Below W.heap.size W w') := fun W h => impl_ok k n p W h
  have HC : Hid (∀ W : World, Below w.heap.size w W → Calls Tryz.prog 251 #[.slice (some ⟨b, 0, none⟩) zs.length zs.length, .int .i64 k] W fun e w' => e = .returned (.bool (zs.contains k)) ∧ w' = W) := by
    intro W hW
    have := Any.slices_Contains_int Tryz.layC b 0 zs.length zs.length zs k W (Nat.le_refl _) (by omega) (fun j hj => by
      have hh := hz j zs[j] (List.getElem?_eq_getElem hj)
      rw [Nat.zero_add, hW.cell (p := ⟨b, j, none⟩) (World.block_lt_of_cell? _ _ hh), hh]
      simp [List.getD, List.getElem?_eq_getElem hj])
    rw [List.take_length] at this
    exact this
  generalize zs.contains k = C at HC ⊢
  generalize zs.length = m at HC ⊢ hl
  cases ho : okA k n p with
  | false =>
    rw [ho] at HK
    go_enter Tryz.func238, Tryz.ntmps238
    go_wp2_with fail
    refine (HK.out _ (hT.alloc _)).mono ?_
    rintro e w1 ⟨rfl, g1⟩
    have b1 : Below w.heap.size w w1 := ((Below.refl _ _).alloc (Nat.le_refl _) _).trans (g1.mono (by simp))
    clear g1
    go_wp2
    go_ret
    exact ⟨rfl, b1⟩
  | true =>
    rw [ho] at HK
    go_enter Tryz.func238, Tryz.ntmps238
    go_wp2_with fail
    refine (HK.out _ (hT.alloc _)).mono ?_
    rintro e w1 ⟨rfl, g1⟩
    have c0 : w1.cell? ⟨w.heap.size, 0, none⟩ = some (.int .i64 k) := cell_later g1 (by simp)
    have b1 : Below w.heap.size w w1 := ((Below.refl _ _).alloc (Nat.le_refl _) _).trans (g1.mono (by simp))
    clear g1
    go_wp2_with fail
    refine (HC.out _ b1).mono ?_
    rintro e w2 ⟨rfl, rfl⟩
    go_wp2
    go_ret
    exact ⟨by simp, b1⟩

theorem cells_k (w : World) (o : Obj) (xs : List Int) (t : TypeId) : ∀ j x, xs[j]? = some x → ((w.alloc o).alloc (.cells (xs.map (Value.int .i64)).toArray t)).cell? ⟨w.heap.size + 1, j, none⟩ = some (.int .i64 x) := by
  intro j x hx
  have h1 : (w.alloc o).heap.size = w.heap.size + 1 := by simp
  rw [← h1, cell_of_row _ _ j _ t (0, 0) (heap_alloc_last (w.alloc o) _)]
  simp [hx]

set_option maxHeartbeats 1000000 in
theorem isOut_r (k n p : Int) (w : World) (hT : KT w) :
    Calls Tryz.prog 215 #[.agg #[.int .i64 k, .int .i64 n, .int .i64 p]] w fun e w' => e = .returned (.bool (okA k n p && ([2, 3] : List Int).contains k)) ∧ Below w.heap.size w w' := by
  have HI : Hid (∀ W, KT W → (∀ j z, ([2, 3] : List Int)[j]? = some z → W.cell? ⟨w.heap.size + 1, j, none⟩ = some (.int .i64 z)) → Calls Tryz.prog 238 #[.agg #[.int .i64 k, .int .i64 n, .int .i64 p], .slice (some ⟨w.heap.size + 1, 0, none⟩) 2 2] W fun e w' => e = .returned (.bool (okA k n p && ([2, 3] : List Int).contains k)) ∧ Below W.heap.size W w') :=
    fun W h hz => isOf_r k n p (w.heap.size + 1) [2, 3] W h (by simp) hz
  generalize (okA k n p && ([2, 3] : List Int).contains k) = C at HI ⊢
  go_enter Tryz.func215, Tryz.ntmps215
  go_wp2_with fail
  refine (HI.out _ ((hT.alloc _).alloc _) (cells_k w _ [2, 3] _)).mono ?_
  rintro e w1 ⟨rfl, g1⟩
  have b1 : Below w.heap.size w w1 := (((Below.refl _ _).alloc (Nat.le_refl _) _).alloc (by simp) _).trans (g1.mono (by simp; omega))
  clear g1
  go_wp2
  go_ret
  exact ⟨rfl, b1⟩

set_option maxHeartbeats 1000000 in
theorem isSet_r (k n p : Int) (w : World) (hT : KT w) :
    Calls Tryz.prog 216 #[.agg #[.int .i64 k, .int .i64 n, .int .i64 p]] w fun e w' => e = .returned (.bool (okA k n p && ([2, 3, 4] : List Int).contains k)) ∧ Below w.heap.size w w' := by
  have HI : Hid (∀ W, KT W → (∀ j z, ([2, 3, 4] : List Int)[j]? = some z → W.cell? ⟨w.heap.size + 1, j, none⟩ = some (.int .i64 z)) → Calls Tryz.prog 238 #[.agg #[.int .i64 k, .int .i64 n, .int .i64 p], .slice (some ⟨w.heap.size + 1, 0, none⟩) 3 3] W fun e w' => e = .returned (.bool (okA k n p && ([2, 3, 4] : List Int).contains k)) ∧ Below W.heap.size W w') :=
    fun W h hz => isOf_r k n p (w.heap.size + 1) [2, 3, 4] W h (by simp) hz
  generalize (okA k n p && ([2, 3, 4] : List Int).contains k) = C at HI ⊢
  go_enter Tryz.func216, Tryz.ntmps216
  go_wp2_with fail
  refine (HI.out _ ((hT.alloc _).alloc _) (cells_k w _ [2, 3, 4] _)).mono ?_
  rintro e w1 ⟨rfl, g1⟩
  have b1 : Below w.heap.size w w1 := (((Below.refl _ _).alloc (Nat.le_refl _) _).alloc (by simp) _).trans (g1.mono (by simp; omega))
  clear g1
  go_wp2
  go_ret
  exact ⟨rfl, b1⟩

set_option maxHeartbeats 1000000 in
theorem isReset_r (k n p : Int) (w : World) (hT : KT w) :
    Calls Tryz.prog 217 #[.agg #[.int .i64 k, .int .i64 n, .int .i64 p]] w fun e w' => e = .returned (.bool (okA k n p && ([2, 3, 4, 7, 8] : List Int).contains k)) ∧ Below w.heap.size w w' := by
  have HI : Hid (∀ W, KT W → (∀ j z, ([2, 3, 4, 7, 8] : List Int)[j]? = some z → W.cell? ⟨w.heap.size + 1, j, none⟩ = some (.int .i64 z)) → Calls Tryz.prog 238 #[.agg #[.int .i64 k, .int .i64 n, .int .i64 p], .slice (some ⟨w.heap.size + 1, 0, none⟩) 5 5] W fun e w' => e = .returned (.bool (okA k n p && ([2, 3, 4, 7, 8] : List Int).contains k)) ∧ Below W.heap.size W w') :=
    fun W h hz => isOf_r k n p (w.heap.size + 1) [2, 3, 4, 7, 8] W h (by simp) hz
  generalize (okA k n p && ([2, 3, 4, 7, 8] : List Int).contains k) = C at HI ⊢
  go_enter Tryz.func217, Tryz.ntmps217
  go_wp2_with fail
  refine (HI.out _ ((hT.alloc _).alloc _) (cells_k w _ [2, 3, 4, 7, 8] _)).mono ?_
  rintro e w1 ⟨rfl, g1⟩
  have b1 : Below w.heap.size w w1 := (((Below.refl _ _).alloc (Nat.le_refl _) _).alloc (by simp) _).trans (g1.mono (by simp; omega))
  clear g1
  go_wp2
  go_ret
  exact ⟨rfl, b1⟩

set_option maxHeartbeats 1000000 in
theorem isStep_r (k n p : Int) (w : World) (hT : KT w) :
    Calls Tryz.prog 218 #[.agg #[.int .i64 k, .int .i64 n, .int .i64 p]] w fun e w' => e = .returned (.bool (okA k n p && ([4] : List Int).contains k)) ∧ Below w.heap.size w w' := by
  have HI : Hid (∀ W, KT W → (∀ j z, ([4] : List Int)[j]? = some z → W.cell? ⟨w.heap.size + 1, j, none⟩ = some (.int .i64 z)) → Calls Tryz.prog 238 #[.agg #[.int .i64 k, .int .i64 n, .int .i64 p], .slice (some ⟨w.heap.size + 1, 0, none⟩) 1 1] W fun e w' => e = .returned (.bool (okA k n p && ([4] : List Int).contains k)) ∧ Below W.heap.size W w') :=
    fun W h hz => isOf_r k n p (w.heap.size + 1) [4] W h (by simp) hz
  generalize (okA k n p && ([4] : List Int).contains k) = C at HI ⊢
  go_enter Tryz.func218, Tryz.ntmps218
  go_wp2_with fail
  refine (HI.out _ ((hT.alloc _).alloc _) (cells_k w _ [4] _)).mono ?_
  rintro e w1 ⟨rfl, g1⟩
  have b1 : Below w.heap.size w w1 := (((Below.refl _ _).alloc (Nat.le_refl _) _).alloc (by simp) _).trans (g1.mono (by simp; omega))
  clear g1
  go_wp2
  go_ret
  exact ⟨rfl, b1⟩

set_option maxHeartbeats 1000000 in
theorem isTimer_r (k n p : Int) (w : World) (hT : KT w) :
    Calls Tryz.prog 219 #[.agg #[.int .i64 k, .int .i64 n, .int .i64 p]] w fun e w' => e = .returned (.bool (okA k n p && ([7] : List Int).contains k)) ∧ Below w.heap.size w w' := by
  have HI : Hid (∀ W, KT W → (∀ j z, ([7] : List Int)[j]? = some z → W.cell? ⟨w.heap.size + 1, j, none⟩ = some (.int .i64 z)) → Calls Tryz.prog 238 #[.agg #[.int .i64 k, .int .i64 n, .int .i64 p], .slice (some ⟨w.heap.size + 1, 0, none⟩) 1 1] W fun e w' => e = .returned (.bool (okA k n p && ([7] : List Int).contains k)) ∧ Below W.heap.size W w') :=
    fun W h hz => isOf_r k n p (w.heap.size + 1) [7] W h (by simp) hz
  generalize (okA k n p && ([7] : List Int).contains k) = C at HI ⊢
  go_enter Tryz.func219, Tryz.ntmps219
  go_wp2_with fail
  refine (HI.out _ ((hT.alloc _).alloc _) (cells_k w _ [7] _)).mono ?_
  rintro e w1 ⟨rfl, g1⟩
  have b1 : Below w.heap.size w w1 := (((Below.refl _ _).alloc (Nat.le_refl _) _).alloc (by simp) _).trans (g1.mono (by simp; omega))
  clear g1
  go_wp2
  go_ret
  exact ⟨rfl, b1⟩

set_option maxHeartbeats 1000000 in
theorem isCounter_r (k n p : Int) (w : World) (hT : KT w) :
    Calls Tryz.prog 221 #[.agg #[.int .i64 k, .int .i64 n, .int .i64 p]] w fun e w' => e = .returned (.bool (okA k n p && ([8] : List Int).contains k)) ∧ Below w.heap.size w w' := by
  have HI : Hid (∀ W, KT W → (∀ j z, ([8] : List Int)[j]? = some z → W.cell? ⟨w.heap.size + 1, j, none⟩ = some (.int .i64 z)) → Calls Tryz.prog 238 #[.agg #[.int .i64 k, .int .i64 n, .int .i64 p], .slice (some ⟨w.heap.size + 1, 0, none⟩) 1 1] W fun e w' => e = .returned (.bool (okA k n p && ([8] : List Int).contains k)) ∧ Below W.heap.size W w') :=
    fun W h hz => isOf_r k n p (w.heap.size + 1) [8] W h (by simp) hz
  generalize (okA k n p && ([8] : List Int).contains k) = C at HI ⊢
  go_enter Tryz.func221, Tryz.ntmps221
  go_wp2_with fail
  refine (HI.out _ ((hT.alloc _).alloc _) (cells_k w _ [8] _)).mono ?_
  rintro e w1 ⟨rfl, g1⟩
  have b1 : Below w.heap.size w w1 := (((Below.refl _ _).alloc (Nat.le_refl _) _).alloc (by simp) _).trans (g1.mono (by simp; omega))
  clear g1
  go_wp2
  go_ret
  exact ⟨rfl, b1⟩

set_option maxHeartbeats 1000000 in
theorem isWholeReg_r (k n p : Int) (w : World) (hT : KT w) :
    Calls Tryz.prog 222 #[.agg #[.int .i64 k, .int .i64 n, .int .i64 p]] w fun e w' => e = .returned (.bool (okA k n p && ([9] : List Int).contains k)) ∧ Below w.heap.size w w' := by
  have HI : Hid (∀ W, KT W → (∀ j z, ([9] : List Int)[j]? = some z → W.cell? ⟨w.heap.size + 1, j, none⟩ = some (.int .i64 z)) → Calls Tryz.prog 238 #[.agg #[.int .i64 k, .int .i64 n, .int .i64 p], .slice (some ⟨w.heap.size + 1, 0, none⟩) 1 1] W fun e w' => e = .returned (.bool (okA k n p && ([9] : List Int).contains k)) ∧ Below W.heap.size W w') :=
    fun W h hz => isOf_r k n p (w.heap.size + 1) [9] W h (by simp) hz
  generalize (okA k n p && ([9] : List Int).contains k) = C at HI ⊢
  go_enter Tryz.func222, Tryz.ntmps222
  go_wp2_with fail
  refine (HI.out _ ((hT.alloc _).alloc _) (cells_k w _ [9] _)).mono ?_
  rintro e w1 ⟨rfl, g1⟩
  have b1 : Below w.heap.size w w1 := (((Below.refl _ _).alloc (Nat.le_refl _) _).alloc (by simp) _).trans (g1.mono (by simp; omega))
  clear g1
  go_wp2
  go_ret
  exact ⟨rfl, b1⟩

set_option maxHeartbeats 1000000 in
theorem isRealReg_r (k n p : Int) (w : World) (hT : KT w) :
    Calls Tryz.prog 223 #[.agg #[.int .i64 k, .int .i64 n, .int .i64 p]] w fun e w' => e = .returned (.bool (okA k n p && ([10] : List Int).contains k)) ∧ Below w.heap.size w w' := by
  have HI : Hid (∀ W, KT W → (∀ j z, ([10] : List Int)[j]? = some z → W.cell? ⟨w.heap.size + 1, j, none⟩ = some (.int .i64 z)) → Calls Tryz.prog 238 #[.agg #[.int .i64 k, .int .i64 n, .int .i64 p], .slice (some ⟨w.heap.size + 1, 0, none⟩) 1 1] W fun e w' => e = .returned (.bool (okA k n p && ([10] : List Int).contains k)) ∧ Below W.heap.size W w') :=
    fun W h hz => isOf_r k n p (w.heap.size + 1) [10] W h (by simp) hz
  generalize (okA k n p && ([10] : List Int).contains k) = C at HI ⊢
  go_enter Tryz.func223, Tryz.ntmps223
  go_wp2_with fail
  refine (HI.out _ ((hT.alloc _).alloc _) (cells_k w _ [10] _)).mono ?_
  rintro e w1 ⟨rfl, g1⟩
  have b1 : Below w.heap.size w w1 := (((Below.refl _ _).alloc (Nat.le_refl _) _).alloc (by simp) _).trans (g1.mono (by simp; omega))
  clear g1
  go_wp2
  go_ret
  exact ⟨rfl, b1⟩

set_option maxHeartbeats 1000000 in
theorem isPast_r (k n p : Int) (w : World) (hT : KT w) :
    Calls Tryz.prog 212 #[.agg #[.int .i64 k, .int .i64 n, .int .i64 p]] w fun e w' => e = .returned (.bool (okA k n p && ([5] : List Int).contains k)) ∧ Below w.heap.size w w' := by
  have HI : Hid (∀ W, KT W → (∀ j z, ([5] : List Int)[j]? = some z → W.cell? ⟨w.heap.size + 1, j, none⟩ = some (.int .i64 z)) → Calls Tryz.prog 238 #[.agg #[.int .i64 k, .int .i64 n, .int .i64 p], .slice (some ⟨w.heap.size + 1, 0, none⟩) 1 1] W fun e w' => e = .returned (.bool (okA k n p && ([5] : List Int).contains k)) ∧ Below W.heap.size W w') :=
    fun W h hz => isOf_r k n p (w.heap.size + 1) [5] W h (by simp) hz
  generalize (okA k n p && ([5] : List Int).contains k) = C at HI ⊢
  go_enter Tryz.func212, Tryz.ntmps212
  go_wp2_with fail
  refine (HI.out _ ((hT.alloc _).alloc _) (cells_k w _ [5] _)).mono ?_
  rintro e w1 ⟨rfl, g1⟩
  have b1 : Below w.heap.size w w1 := (((Below.refl _ _).alloc (Nat.le_refl _) _).alloc (by simp) _).trans (g1.mono (by simp; omega))
  clear g1
  go_wp2
  go_ret
  exact ⟨rfl, b1⟩

set_option maxHeartbeats 1000000 in
theorem isPreset_r (k n p : Int) (w : World) (hT : KT w) :
    Calls Tryz.prog 220 #[.agg #[.int .i64 k, .int .i64 n, .int .i64 p]] w fun e w' => e = .returned (.bool (okA k n p && ([11] : List Int).contains k && decide (0 ≤ n))) ∧ Below w.heap.size w w' := by
  have HI : Hid (∀ W, KT W → (∀ j z, ([11] : List Int)[j]? = some z → W.cell? ⟨w.heap.size + 1, j, none⟩ = some (.int .i64 z)) → Calls Tryz.prog 238 #[.agg #[.int .i64 k, .int .i64 n, .int .i64 p], .slice (some ⟨w.heap.size + 1, 0, none⟩) 1 1] W fun e w' => e = .returned (.bool (okA k n p && ([11] : List Int).contains k)) ∧ Below W.heap.size W w') :=
    fun W h hz => isOf_r k n p (w.heap.size + 1) [11] W h (by simp) hz
  generalize (okA k n p && ([11] : List Int).contains k) = C at HI ⊢
  cases C with
  | false =>
    go_enter Tryz.func220, Tryz.ntmps220
    go_wp2_with fail
    refine (HI.out _ ((hT.alloc _).alloc _) (cells_k w _ [11] _)).mono ?_
    rintro e w1 ⟨rfl, g1⟩
    have b1 : Below w.heap.size w w1 := (((Below.refl _ _).alloc (Nat.le_refl _) _).alloc (by simp) _).trans (g1.mono (by simp; omega))
    clear g1
    go_wp2
    go_ret
    exact ⟨by simp, b1⟩
  | true =>
    go_enter Tryz.func220, Tryz.ntmps220
    go_wp2_with fail
    refine (HI.out _ ((hT.alloc _).alloc _) (cells_k w _ [11] _)).mono ?_
    rintro e w1 ⟨rfl, g1⟩
    have c1 : w1.cell? ⟨w.heap.size, 1, none⟩ = some (.int .i64 n) := cell_later g1 (by simp)
    have b1 : Below w.heap.size w w1 := (((Below.refl _ _).alloc (Nat.le_refl _) _).alloc (by simp) _).trans (g1.mono (by simp; omega))
    clear g1
    go_wp2
    go_ret
    exact ⟨by simp, b1⟩

/-- A place's function, called. -/
theorem place_r (c : Nat) (h1 : 1 ≤ c) (h2 : c ≤ 13) : ∃ f, pv c = .func (.func f) #[] #[] ∧ (∀ args W, (callFunc f args).run Tryz.prog W = .ok (.enter f args) W) ∧ ∀ (k n p : Int) (w : World), KT w → Calls Tryz.prog f #[.agg #[.int .i64 k, .int .i64 n, .int .i64 p]] w fun e w' => e = .returned (.bool (pp c (k, n, p))) ∧ Below w.heap.size w w' := by
  rcases pc c with h | rfl | rfl | rfl | rfl | rfl | rfl | rfl | rfl | rfl | rfl | rfl | rfl | rfl
  · omega
  · exact ⟨_, rfl, enters_of Tryz.func211 (by kernel_rfl) rfl, fun k n p w hT => impl_isbit k n p w hT⟩
  · exact ⟨_, rfl, enters_of Tryz.func212 (by kernel_rfl) rfl, fun k n p w hT => isPast_r k n p w hT⟩
  · exact ⟨_, rfl, enters_of Tryz.func213 (by kernel_rfl) rfl, fun k n p w hT => impl_iswhole k n p w hT⟩
  · exact ⟨_, rfl, enters_of Tryz.func214 (by kernel_rfl) rfl, fun k n p w hT => impl_isreal k n p w hT⟩
  · exact ⟨_, rfl, enters_of Tryz.func215 (by kernel_rfl) rfl, fun k n p w hT => isOut_r k n p w hT⟩
  · exact ⟨_, rfl, enters_of Tryz.func216 (by kernel_rfl) rfl, fun k n p w hT => isSet_r k n p w hT⟩
  · exact ⟨_, rfl, enters_of Tryz.func217 (by kernel_rfl) rfl, fun k n p w hT => isReset_r k n p w hT⟩
  · exact ⟨_, rfl, enters_of Tryz.func218 (by kernel_rfl) rfl, fun k n p w hT => isStep_r k n p w hT⟩
  · exact ⟨_, rfl, enters_of Tryz.func219 (by kernel_rfl) rfl, fun k n p w hT => isTimer_r k n p w hT⟩
  · exact ⟨_, rfl, enters_of Tryz.func220 (by kernel_rfl) rfl, fun k n p w hT => isPreset_r k n p w hT⟩
  · exact ⟨_, rfl, enters_of Tryz.func221 (by kernel_rfl) rfl, fun k n p w hT => isCounter_r k n p w hT⟩
  · exact ⟨_, rfl, enters_of Tryz.func222 (by kernel_rfl) rfl, fun k n p w hT => isWholeReg_r k n p w hT⟩
  · exact ⟨_, rfl, enters_of Tryz.func223 (by kernel_rfl) rfl, fun k n p w hT => isRealReg_r k n p w hT⟩
end Go.Proofs.YtgopfaegdlefpaaGreatDoor

