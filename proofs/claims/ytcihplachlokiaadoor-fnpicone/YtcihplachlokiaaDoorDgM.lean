/- Walks of DevIsBit, DevIsWhole and DevIsReal, and the laws FnExactDevOk, FnExactDevIsBit, FnExactDevIsWhole, FnExactDevIsReal. -/
import Derived.Test.YtcihplachlokiaaDoorDaM
import Derived.Deep.WholeRow
import Derived.Great.Walk
import Derived.Laws.CopyOwn
import Derived.Laws.EntriesVeiled
namespace Go.Proofs.YtcihplachlokiaaDoor
open Go.RowKit
set_option linter.unusedVariables false

theorem ok_cases {k n p : Int} (h : okA k n p = true) : k = 1 ∨ k = 2 ∨ k = 3 ∨ k = 4 ∨ k = 5 ∨ k = 6 ∨ k = 7 ∨ k = 8 ∨ k = 9 ∨ k = 10 ∨ k = 11 ∨ k = 12 ∨ k = 13 := by
  by_cases h0 : k ≤ 0 ∨ 14 ≤ k
  · have e : okA k n p = decide (0 ≤ n ∧ n < kS k ∧ p = 0) := by
      unfold okA
      rw [if_neg (by omega), if_neg (by omega), if_neg (by omega)]
    rw [e, kS_out k (by omega)] at h
    simp at h
    omega
  · omega

set_option maxHeartbeats 1000000 in
theorem impl_isbit (k n p : Int) (w : World) (hT : KT w) :
    Calls Tryd.prog 102 #[.agg #[.int .i64 k, .int .i64 n, .int .i64 p]] w fun e w' => e = .returned (.bool (okA k n p && kB k)) ∧ Below w.heap.size w w' := by
  have hk := fun W (h : KT W) => impl_ok k n p W h
  have hd := fun W (h : KT W) => kind_of k W h
  have HK : Hid (∀ W, KT W → Calls Tryd.prog 115 #[.agg #[.int .i64 k, .int .i64 n, .int .i64 p]] W fun e w' => e = .returned (.bool (okA k n p)) ∧ Below W.heap.size W w') := hk
  have HD : Hid (∀ W, KT W → Calls Tryd.prog 116 #[.int .i64 k] W fun e w' => e = .returned (.agg #[.string (kL k), .int .i64 (kS k), .bool (kB k), .bool (kW k), .bool (kR k)]) ∧ Below W.heap.size W w') := hd
  clear hk hd
  cases ho : okA k n p with
  | false =>
    rw [ho] at HK
    go_enter Tryd.func102, Tryd.ntmps102
    go_wp2_with fail
    refine (HK.out _ (hT.alloc _)).mono ?_
    rintro e w1 ⟨rfl, g1⟩
    have b1 : Below w.heap.size w w1 := ((Below.refl _ _).alloc (Nat.le_refl _) _).trans (g1.mono (by simp))
    clear g1
    go_wp2
    go_ret
    exact ⟨rfl, b1⟩
  | true =>
    rw [ho] at HK
    go_enter Tryd.func102, Tryd.ntmps102
    go_wp2_with fail
    refine (HK.out _ (hT.alloc _)).mono ?_
    rintro e w1 ⟨rfl, g1⟩
    have hT1 : KT w1 := (hT.alloc _).later g1
    have c0 : w1.cell? ⟨w.heap.size, 0, none⟩ = some (.int .i64 k) := cell_later g1 (by simp)
    have b1 : Below w.heap.size w w1 := ((Below.refl _ _).alloc (Nat.le_refl _) _).trans (g1.mono (by simp))
    clear g1
    go_wp2_with fail
    refine (HD.out _ hT1).mono ?_
    rintro e w2 ⟨rfl, g2⟩
    have b2 : Below w.heap.size w w2 := b1.trans (g2.mono b1.size)
    clear g2 b1
    go_wp2
    go_ret
    exact ⟨by simp, b2⟩

set_option maxHeartbeats 1000000 in
theorem impl_iswhole (k n p : Int) (w : World) (hT : KT w) :
    Calls Tryd.prog 104 #[.agg #[.int .i64 k, .int .i64 n, .int .i64 p]] w fun e w' => e = .returned (.bool (okA k n p && kW k)) ∧ Below w.heap.size w w' := by
  have hk := fun W (h : KT W) => impl_ok k n p W h
  have hd := fun W (h : KT W) => kind_of k W h
  have HK : Hid (∀ W, KT W → Calls Tryd.prog 115 #[.agg #[.int .i64 k, .int .i64 n, .int .i64 p]] W fun e w' => e = .returned (.bool (okA k n p)) ∧ Below W.heap.size W w') := hk
  have HD : Hid (∀ W, KT W → Calls Tryd.prog 116 #[.int .i64 k] W fun e w' => e = .returned (.agg #[.string (kL k), .int .i64 (kS k), .bool (kB k), .bool (kW k), .bool (kR k)]) ∧ Below W.heap.size W w') := hd
  clear hk hd
  cases ho : okA k n p with
  | false =>
    rw [ho] at HK
    go_enter Tryd.func104, Tryd.ntmps104
    go_wp2_with fail
    refine (HK.out _ (hT.alloc _)).mono ?_
    rintro e w1 ⟨rfl, g1⟩
    have b1 : Below w.heap.size w w1 := ((Below.refl _ _).alloc (Nat.le_refl _) _).trans (g1.mono (by simp))
    clear g1
    go_wp2
    go_ret
    exact ⟨rfl, b1⟩
  | true =>
    rw [ho] at HK
    go_enter Tryd.func104, Tryd.ntmps104
    go_wp2_with fail
    refine (HK.out _ (hT.alloc _)).mono ?_
    rintro e w1 ⟨rfl, g1⟩
    have hT1 : KT w1 := (hT.alloc _).later g1
    have c0 : w1.cell? ⟨w.heap.size, 0, none⟩ = some (.int .i64 k) := cell_later g1 (by simp)
    have b1 : Below w.heap.size w w1 := ((Below.refl _ _).alloc (Nat.le_refl _) _).trans (g1.mono (by simp))
    clear g1
    go_wp2_with fail
    refine (HD.out _ hT1).mono ?_
    rintro e w2 ⟨rfl, g2⟩
    have b2 : Below w.heap.size w w2 := b1.trans (g2.mono b1.size)
    clear g2 b1
    go_wp2
    go_ret
    exact ⟨by simp, b2⟩

set_option maxHeartbeats 1000000 in
theorem impl_isreal (k n p : Int) (w : World) (hT : KT w) :
    Calls Tryd.prog 105 #[.agg #[.int .i64 k, .int .i64 n, .int .i64 p]] w fun e w' => e = .returned (.bool (okA k n p && kR k)) ∧ Below w.heap.size w w' := by
  have hk := fun W (h : KT W) => impl_ok k n p W h
  have hd := fun W (h : KT W) => kind_of k W h
  have HK : Hid (∀ W, KT W → Calls Tryd.prog 115 #[.agg #[.int .i64 k, .int .i64 n, .int .i64 p]] W fun e w' => e = .returned (.bool (okA k n p)) ∧ Below W.heap.size W w') := hk
  have HD : Hid (∀ W, KT W → Calls Tryd.prog 116 #[.int .i64 k] W fun e w' => e = .returned (.agg #[.string (kL k), .int .i64 (kS k), .bool (kB k), .bool (kW k), .bool (kR k)]) ∧ Below W.heap.size W w') := hd
  clear hk hd
  cases ho : okA k n p with
  | false =>
    rw [ho] at HK
    go_enter Tryd.func105, Tryd.ntmps105
    go_wp2_with fail
    refine (HK.out _ (hT.alloc _)).mono ?_
    rintro e w1 ⟨rfl, g1⟩
    have b1 : Below w.heap.size w w1 := ((Below.refl _ _).alloc (Nat.le_refl _) _).trans (g1.mono (by simp))
    clear g1
    go_wp2
    go_ret
    exact ⟨rfl, b1⟩
  | true =>
    rw [ho] at HK
    go_enter Tryd.func105, Tryd.ntmps105
    go_wp2_with fail
    refine (HK.out _ (hT.alloc _)).mono ?_
    rintro e w1 ⟨rfl, g1⟩
    have hT1 : KT w1 := (hT.alloc _).later g1
    have c0 : w1.cell? ⟨w.heap.size, 0, none⟩ = some (.int .i64 k) := cell_later g1 (by simp)
    have b1 : Below w.heap.size w w1 := ((Below.refl _ _).alloc (Nat.le_refl _) _).trans (g1.mono (by simp))
    clear g1
    go_wp2_with fail
    refine (HD.out _ hT1).mono ?_
    rintro e w2 ⟨rfl, g2⟩
    have b2 : Below w.heap.size w w2 := b1.trans (g2.mono b1.size)
    clear g2 b1
    go_wp2
    go_ret
    exact ⟨by simp, b2⟩

end Go.Proofs.YtcihplachlokiaaDoor
/- Contacts and coils: the table of rules. -/
namespace Go.Proofs.YtcihplachlokiaaDoor
open Go.RowKit
set_option linter.unusedVariables false

/-- What stands ahead of the operands. -/
def ahd (op : Int) : ByteArray := if op = 1 then ⟨#[]⟩ else if op = 2 then ⟨#[47]⟩ else if op = 3 then ⟨#[43]⟩ else if op = 4 then ⟨#[45]⟩ else if op = 5 then ⟨#[]⟩ else if op = 6 then ⟨#[]⟩ else if op = 7 then ⟨#[]⟩ else if op = 8 then ⟨#[]⟩ else if op = 9 then ⟨#[]⟩ else if op = 10 then ⟨#[]⟩ else if op = 21 then ⟨#[111, 117, 116, 58]⟩ else if op = 22 then ⟨#[115, 101, 116, 58]⟩ else if op = 23 then ⟨#[114, 101, 115, 101, 116, 58]⟩ else if op = 24 then ⟨#[112, 117, 108, 115, 101, 58]⟩ else if op = 25 then ⟨#[115, 116, 101, 112, 58]⟩ else if op = 26 then ⟨#[116, 105, 109, 101, 114, 58]⟩ else if op = 27 then ⟨#[104, 111, 108, 100, 58]⟩ else if op = 28 then ⟨#[108, 97, 116, 101, 58]⟩ else if op = 29 then ⟨#[99, 111, 117, 110, 116, 58]⟩ else if op = 30 then ⟨#[109, 111, 118, 101, 58]⟩ else if op = 31 then ⟨#[97, 100, 100, 58]⟩ else if op = 32 then ⟨#[115, 117, 98, 58]⟩ else if op = 33 then ⟨#[109, 117, 108, 58]⟩ else if op = 34 then ⟨#[100, 105, 118, 58]⟩ else if op = 35 then ⟨#[114, 101, 109, 58]⟩ else if op = 36 then ⟨#[114, 101, 97, 108, 58]⟩ else if op = 37 then ⟨#[119, 104, 111, 108, 101, 58]⟩ else ⟨#[]⟩
/-- What stands between them. -/
def btw (op : Int) : ByteArray := if op = 1 then ⟨#[]⟩ else if op = 2 then ⟨#[]⟩ else if op = 3 then ⟨#[58]⟩ else if op = 4 then ⟨#[58]⟩ else if op = 5 then ⟨#[60]⟩ else if op = 6 then ⟨#[60, 61]⟩ else if op = 7 then ⟨#[61]⟩ else if op = 8 then ⟨#[60, 62]⟩ else if op = 9 then ⟨#[62, 61]⟩ else if op = 10 then ⟨#[62]⟩ else if op = 21 then ⟨#[]⟩ else if op = 22 then ⟨#[]⟩ else if op = 23 then ⟨#[]⟩ else if op = 24 then ⟨#[44]⟩ else if op = 25 then ⟨#[]⟩ else if op = 26 then ⟨#[44]⟩ else if op = 27 then ⟨#[44]⟩ else if op = 28 then ⟨#[44]⟩ else if op = 29 then ⟨#[44]⟩ else if op = 30 then ⟨#[44]⟩ else if op = 31 then ⟨#[44]⟩ else if op = 32 then ⟨#[44]⟩ else if op = 33 then ⟨#[44]⟩ else if op = 34 then ⟨#[44]⟩ else if op = 35 then ⟨#[44]⟩ else if op = 36 then ⟨#[44]⟩ else if op = 37 then ⟨#[44]⟩ else ⟨#[]⟩
/-- The places that are asked for. -/
def ndP (op : Int) : List Nat := if op = 1 then [1] else if op = 2 then [1] else if op = 3 then [1, 2] else if op = 4 then [1, 2] else if op = 5 then [3, 3] else if op = 6 then [3, 3] else if op = 7 then [3, 3] else if op = 8 then [3, 3] else if op = 9 then [3, 3] else if op = 10 then [3, 3] else if op = 21 then [5] else if op = 22 then [6] else if op = 23 then [7] else if op = 24 then [5, 2] else if op = 25 then [8] else if op = 26 then [9, 10] else if op = 27 then [9, 10] else if op = 28 then [9, 10] else if op = 29 then [11, 10] else if op = 30 then [12, 3] else if op = 31 then [12, 3, 3] else if op = 32 then [12, 3, 3] else if op = 33 then [12, 3, 3] else if op = 34 then [12, 3, 3] else if op = 35 then [12, 3, 3] else if op = 36 then [13, 3] else if op = 37 then [12, 4] else []
def orP (op : Int) : List Nat := if op = 1 then [] else if op = 2 then [] else if op = 3 then [] else if op = 4 then [] else if op = 5 then [4, 4] else if op = 6 then [4, 4] else if op = 7 then [4, 4] else if op = 8 then [4, 4] else if op = 9 then [4, 4] else if op = 10 then [4, 4] else if op = 21 then [] else if op = 22 then [] else if op = 23 then [] else if op = 24 then [] else if op = 25 then [] else if op = 26 then [] else if op = 27 then [] else if op = 28 then [] else if op = 29 then [] else if op = 30 then [13, 4] else if op = 31 then [13, 4, 4] else if op = 32 then [13, 4, 4] else if op = 33 then [13, 4, 4] else if op = 34 then [13, 4, 4] else if op = 35 then [] else if op = 36 then [] else if op = 37 then [] else []
def pv (c : Nat) : Value := if c = 1 then Value.func (Fn.func 102) #[] #[] else if c = 2 then Value.func (Fn.func 103) #[] #[] else if c = 3 then Value.func (Fn.func 104) #[] #[] else if c = 4 then Value.func (Fn.func 105) #[] #[] else if c = 5 then Value.func (Fn.func 106) #[] #[] else if c = 6 then Value.func (Fn.func 107) #[] #[] else if c = 7 then Value.func (Fn.func 108) #[] #[] else if c = 8 then Value.func (Fn.func 109) #[] #[] else if c = 9 then Value.func (Fn.func 110) #[] #[] else if c = 10 then Value.func (Fn.func 111) #[] #[] else if c = 11 then Value.func (Fn.func 112) #[] #[] else if c = 12 then Value.func (Fn.func 113) #[] #[] else if c = 13 then Value.func (Fn.func 114) #[] #[] else Value.nilFunc
def p3 (l : List Nat) : List Value := [pv (l.getD 0 0), pv (l.getD 1 0), pv (l.getD 2 0)]
def rowV (op : Int) : List Value := [.string (ahd op), .string (btw op)] ++ p3 (ndP op) ++ p3 (orP op)
def RV : Array Value := ((List.range 38).flatMap fun n : Nat => rowV (n : Int)).toArray
theorem RV_size : RV.size = 304 := by kernel_rfl
theorem RV_one : RV.all (·.oneCell') = true := by kernel_rfl
theorem RV_info : (Tryd.prog.info? 126).map (·.size) = some RV.size := by kernel_rfl
theorem zero_size : Tryd.zeroCells126.size = RV.size := by kernel_rfl
theorem build_rules (w : World) : (Instr.build 126 #[(1, Value.agg #[Value.string ⟨#[]⟩, Value.string ⟨#[]⟩, Value.func (Fn.func 102) #[] #[], Value.nilFunc, Value.nilFunc, Value.nilFunc, Value.nilFunc, Value.nilFunc]), (2, Value.agg #[Value.string ⟨#[47]⟩, Value.string ⟨#[]⟩, Value.func (Fn.func 102) #[] #[], Value.nilFunc, Value.nilFunc, Value.nilFunc, Value.nilFunc, Value.nilFunc]), (3, Value.agg #[Value.string ⟨#[43]⟩, Value.string ⟨#[58]⟩, Value.func (Fn.func 102) #[] #[], Value.func (Fn.func 103) #[] #[], Value.nilFunc, Value.nilFunc, Value.nilFunc, Value.nilFunc]), (4, Value.agg #[Value.string ⟨#[45]⟩, Value.string ⟨#[58]⟩, Value.func (Fn.func 102) #[] #[], Value.func (Fn.func 103) #[] #[], Value.nilFunc, Value.nilFunc, Value.nilFunc, Value.nilFunc]), (5, Value.agg #[Value.string ⟨#[]⟩, Value.string ⟨#[60]⟩, Value.func (Fn.func 104) #[] #[], Value.func (Fn.func 104) #[] #[], Value.nilFunc, Value.func (Fn.func 105) #[] #[], Value.func (Fn.func 105) #[] #[], Value.nilFunc]), (6, Value.agg #[Value.string ⟨#[]⟩, Value.string ⟨#[60, 61]⟩, Value.func (Fn.func 104) #[] #[], Value.func (Fn.func 104) #[] #[], Value.nilFunc, Value.func (Fn.func 105) #[] #[], Value.func (Fn.func 105) #[] #[], Value.nilFunc]), (7, Value.agg #[Value.string ⟨#[]⟩, Value.string ⟨#[61]⟩, Value.func (Fn.func 104) #[] #[], Value.func (Fn.func 104) #[] #[], Value.nilFunc, Value.func (Fn.func 105) #[] #[], Value.func (Fn.func 105) #[] #[], Value.nilFunc]), (8, Value.agg #[Value.string ⟨#[]⟩, Value.string ⟨#[60, 62]⟩, Value.func (Fn.func 104) #[] #[], Value.func (Fn.func 104) #[] #[], Value.nilFunc, Value.func (Fn.func 105) #[] #[], Value.func (Fn.func 105) #[] #[], Value.nilFunc]), (9, Value.agg #[Value.string ⟨#[]⟩, Value.string ⟨#[62, 61]⟩, Value.func (Fn.func 104) #[] #[], Value.func (Fn.func 104) #[] #[], Value.nilFunc, Value.func (Fn.func 105) #[] #[], Value.func (Fn.func 105) #[] #[], Value.nilFunc]), (10, Value.agg #[Value.string ⟨#[]⟩, Value.string ⟨#[62]⟩, Value.func (Fn.func 104) #[] #[], Value.func (Fn.func 104) #[] #[], Value.nilFunc, Value.func (Fn.func 105) #[] #[], Value.func (Fn.func 105) #[] #[], Value.nilFunc]), (21, Value.agg #[Value.string ⟨#[111, 117, 116, 58]⟩, Value.string ⟨#[]⟩, Value.func (Fn.func 106) #[] #[], Value.nilFunc, Value.nilFunc, Value.nilFunc, Value.nilFunc, Value.nilFunc]), (22, Value.agg #[Value.string ⟨#[115, 101, 116, 58]⟩, Value.string ⟨#[]⟩, Value.func (Fn.func 107) #[] #[], Value.nilFunc, Value.nilFunc, Value.nilFunc, Value.nilFunc, Value.nilFunc]), (23, Value.agg #[Value.string ⟨#[114, 101, 115, 101, 116, 58]⟩, Value.string ⟨#[]⟩, Value.func (Fn.func 108) #[] #[], Value.nilFunc, Value.nilFunc, Value.nilFunc, Value.nilFunc, Value.nilFunc]), (24, Value.agg #[Value.string ⟨#[112, 117, 108, 115, 101, 58]⟩, Value.string ⟨#[44]⟩, Value.func (Fn.func 106) #[] #[], Value.func (Fn.func 103) #[] #[], Value.nilFunc, Value.nilFunc, Value.nilFunc, Value.nilFunc]), (25, Value.agg #[Value.string ⟨#[115, 116, 101, 112, 58]⟩, Value.string ⟨#[]⟩, Value.func (Fn.func 109) #[] #[], Value.nilFunc, Value.nilFunc, Value.nilFunc, Value.nilFunc, Value.nilFunc]), (26, Value.agg #[Value.string ⟨#[116, 105, 109, 101, 114, 58]⟩, Value.string ⟨#[44]⟩, Value.func (Fn.func 110) #[] #[], Value.func (Fn.func 111) #[] #[], Value.nilFunc, Value.nilFunc, Value.nilFunc, Value.nilFunc]), (27, Value.agg #[Value.string ⟨#[104, 111, 108, 100, 58]⟩, Value.string ⟨#[44]⟩, Value.func (Fn.func 110) #[] #[], Value.func (Fn.func 111) #[] #[], Value.nilFunc, Value.nilFunc, Value.nilFunc, Value.nilFunc]), (28, Value.agg #[Value.string ⟨#[108, 97, 116, 101, 58]⟩, Value.string ⟨#[44]⟩, Value.func (Fn.func 110) #[] #[], Value.func (Fn.func 111) #[] #[], Value.nilFunc, Value.nilFunc, Value.nilFunc, Value.nilFunc]), (29, Value.agg #[Value.string ⟨#[99, 111, 117, 110, 116, 58]⟩, Value.string ⟨#[44]⟩, Value.func (Fn.func 112) #[] #[], Value.func (Fn.func 111) #[] #[], Value.nilFunc, Value.nilFunc, Value.nilFunc, Value.nilFunc]), (30, Value.agg #[Value.string ⟨#[109, 111, 118, 101, 58]⟩, Value.string ⟨#[44]⟩, Value.func (Fn.func 113) #[] #[], Value.func (Fn.func 104) #[] #[], Value.nilFunc, Value.func (Fn.func 114) #[] #[], Value.func (Fn.func 105) #[] #[], Value.nilFunc]), (31, Value.agg #[Value.string ⟨#[97, 100, 100, 58]⟩, Value.string ⟨#[44]⟩, Value.func (Fn.func 113) #[] #[], Value.func (Fn.func 104) #[] #[], Value.func (Fn.func 104) #[] #[], Value.func (Fn.func 114) #[] #[], Value.func (Fn.func 105) #[] #[], Value.func (Fn.func 105) #[] #[]]), (32, Value.agg #[Value.string ⟨#[115, 117, 98, 58]⟩, Value.string ⟨#[44]⟩, Value.func (Fn.func 113) #[] #[], Value.func (Fn.func 104) #[] #[], Value.func (Fn.func 104) #[] #[], Value.func (Fn.func 114) #[] #[], Value.func (Fn.func 105) #[] #[], Value.func (Fn.func 105) #[] #[]]), (33, Value.agg #[Value.string ⟨#[109, 117, 108, 58]⟩, Value.string ⟨#[44]⟩, Value.func (Fn.func 113) #[] #[], Value.func (Fn.func 104) #[] #[], Value.func (Fn.func 104) #[] #[], Value.func (Fn.func 114) #[] #[], Value.func (Fn.func 105) #[] #[], Value.func (Fn.func 105) #[] #[]]), (34, Value.agg #[Value.string ⟨#[100, 105, 118, 58]⟩, Value.string ⟨#[44]⟩, Value.func (Fn.func 113) #[] #[], Value.func (Fn.func 104) #[] #[], Value.func (Fn.func 104) #[] #[], Value.func (Fn.func 114) #[] #[], Value.func (Fn.func 105) #[] #[], Value.func (Fn.func 105) #[] #[]]), (35, Value.agg #[Value.string ⟨#[114, 101, 109, 58]⟩, Value.string ⟨#[44]⟩, Value.func (Fn.func 113) #[] #[], Value.func (Fn.func 104) #[] #[], Value.func (Fn.func 104) #[] #[], Value.nilFunc, Value.nilFunc, Value.nilFunc]), (36, Value.agg #[Value.string ⟨#[114, 101, 97, 108, 58]⟩, Value.string ⟨#[44]⟩, Value.func (Fn.func 114) #[] #[], Value.func (Fn.func 104) #[] #[], Value.nilFunc, Value.nilFunc, Value.nilFunc, Value.nilFunc]), (37, Value.agg #[Value.string ⟨#[119, 104, 111, 108, 101, 58]⟩, Value.string ⟨#[44]⟩, Value.func (Fn.func 113) #[] #[], Value.func (Fn.func 105) #[] #[], Value.nilFunc, Value.nilFunc, Value.nilFunc, Value.nilFunc])]).run Tryd.prog w = .ok (.agg RV) w := by kernel_rfl

/-- Operations that only build values, run one behind the other. -/
def runB (P : Program) : List Oper → Act → Option Act
  | [], a => some a
  | o :: r, a =>
    match o.op with
    | .build t parts =>
      match o.guard with
      | none => (P.built t (parts.map fun (i, x) => (i, a.eval x)).toList).bind fun c => runB P r (a.put o.dst (.agg c))
      | some _ => none
    | _ => none

theorem wpList_runB {P : Program} {ops : Array Oper} {Q : Exit → Act → World → Prop} (rest : List Oper) (w : World) : ∀ (l : List Oper) (a a' : Act), runB P l a = some a' → wpList P ops Q rest a' w → wpList P ops Q (l ++ rest) a w
  | [], a, a', h, hw => by
    obtain rfl := Option.some.inj h
    exact hw
  | o :: r, a, a', h, hw => by
    unfold runB at h
    split at h
    · rename_i t parts ho
      split at h
      · rename_i hg
        obtain ⟨c, hc, hr⟩ := Option.bind_eq_some_iff.1 h
        exact wpList_buildTo hg t parts ho o.dst rfl c hc (wpList_runB rest w r _ a' hr hw)
      · cases h
    · cases h

theorem wpList_takeB {P : Program} {ops : Array Oper} {Q : Exit → Act → World → Prop} (n : Nat) (L : List Oper) (w : World) (a a' : Act) (h : runB P (L.take n) a = some a') (hw : wpList P ops Q (L.drop n) a' w) : wpList P ops Q L a w := by
  have := wpList_runB (L.drop n) w (L.take n) a a' h hw
  rwa [List.take_append_drop] at this

theorem wpList_takeK {P : Program} {ops : Array Oper} {Q : Exit → Act → World → Prop} (n : Nat) (L : List Oper) (w : World) (a : Act) (p v : Value) (x y : Operand)
    (h : ((runB P (L.take n) a).map fun a' => (a'.eval x, a'.eval y, a'.defers)) = some (p, v, []))
    (hw : ∀ a' : Act, a'.eval x = p → a'.eval y = v → a'.defers = [] → wpList P ops Q (L.drop n) a' w) : wpList P ops Q L a w := by
  obtain ⟨a', ha, he⟩ := Option.map_eq_some_iff.1 h
  simp only [Prod.mk.injEq] at he
  exact wpList_takeB n L w a a' ha (hw a' he.1 he.2.1 he.2.2)

set_option maxHeartbeats 4000000 in
set_option maxRecDepth 100000 in
theorem rules_r (w : World) :
    Calls Tryd.prog 95 #[] w fun e w' => e = .returned (.agg RV) ∧ Below w.heap.size w w' := by
  refine calls_of_wp Tryd.func95 rfl ?_
  apply wp_seq_k; intro K0 hK0
  apply wp_region_lit
  refine Go.Great.wpList_allocTo rfl (some 0) rfl (.pointer (some ⟨w.heap.size, 0, none⟩)) (.cells Tryd.zeroCells126 126) (by kernel_rfl) ?_
  apply wpList_nil
  refine hK0 _ _ ?_
  clear hK0 K0
  apply wp_seq_k; intro K1 hK1
  apply wp_region_lit
  refine wpList_takeK 66 _ _ _ (.pointer (some ⟨w.heap.size, 0, none⟩)) (.agg RV) (.tmp 0) (.tmp 66) (by kernel_rfl) ?_
  intro a' h0 h66 hd
  refine wpList_store_row (rest := []) rfl _ _ _ rfl w.heap.size RV h0 h66 126 Tryd.zeroCells126 (heap_alloc_last w _) RV_info zero_size RV_one ?_
  rw [World.setRow_alloc_new]
  apply wpList_nil
  refine hK1 _ _ ?_
  have h0' : a'.tmps[0]?.getD undef = .pointer (some ⟨w.heap.size, 0, none⟩) := by simpa [Act.eval] using h0
  refine wp_ret ⟨hd, .agg RV, ?_, rfl, ?_⟩
  · have hl := run_loadVar_new (P := Tryd.prog) w 126 RV _ _ Tryd.underlying126 RV_info
    show (results Tryd.f95 a'.tmps).run Tryd.prog _ = _
    simp [results, Tryd.results95, h0', asAddr, hl]
  · exact (Below.refl _ _).alloc (Nat.le_refl _) _
end Go.Proofs.YtcihplachlokiaaDoor

/- The rule of an Op; how many places it has. -/
namespace Go.Proofs.YtcihplachlokiaaDoor
open Go.RowKit
set_option linter.unusedVariables false

theorem idxR (cs : Array Value) (n : Nat) (hn : n < 38) (w : World) : (Instr.index 126 (.agg cs) (.int .i64 n)).run Tryd.prog w = .ok (.agg (cs.extract (n * 8) (n * 8 + 8))) w := by
  have h1 : (0 : Int) ≤ (n : Int) ∧ (n : Int) < ((38 : Nat) : Int) := by omega
  simp only [Instr.index, asIntOf, run_underlying Tryd.underlying126, Sem.run_bind, Result.andThen, Sem.run_pure, h1, part, Tryd.isAgg115, Tryd.sizeOf115, and_self, if_true]
  simp

theorem c38 (i : Nat) (h : i < 38) : i = 0 ∨ i = 1 ∨ i = 2 ∨ i = 3 ∨ i = 4 ∨ i = 5 ∨ i = 6 ∨ i = 7 ∨ i = 8 ∨ i = 9 ∨ i = 10 ∨ i = 11 ∨ i = 12 ∨ i = 13 ∨ i = 14 ∨ i = 15 ∨ i = 16 ∨ i = 17 ∨ i = 18 ∨ i = 19 ∨ i = 20 ∨ i = 21 ∨ i = 22 ∨ i = 23 ∨ i = 24 ∨ i = 25 ∨ i = 26 ∨ i = 27 ∨ i = 28 ∨ i = 29 ∨ i = 30 ∨ i = 31 ∨ i = 32 ∨ i = 33 ∨ i = 34 ∨ i = 35 ∨ i = 36 ∨ i = 37 := by omega
theorem RV_row (n : Nat) (hn : n < 38) : RV.extract (n * 8) (n * 8 + 8) = (rowV n).toArray := by
  rcases c38 n hn with rfl | rfl | rfl | rfl | rfl | rfl | rfl | rfl | rfl | rfl | rfl | rfl | rfl | rfl | rfl | rfl | rfl | rfl | rfl | rfl | rfl | rfl | rfl | rfl | rfl | rfl | rfl | rfl | rfl | rfl | rfl | rfl | rfl | rfl | rfl | rfl | rfl | rfl
  all_goals kernel_rfl

set_option maxHeartbeats 1000000 in
theorem ruleOf_in (n : Nat) (hn : n < 38) (A B f0 f1 f2 g0 g1 g2 : Value) (w : World) (h : RV.extract (n * 8) (n * 8 + 8) = #[A, B, f0, f1, f2, g0, g1, g2])
    (o0 : A.oneCell' = true) (o1 : B.oneCell' = true) (o2 : f0.oneCell' = true) (o3 : f1.oneCell' = true) (o4 : f2.oneCell' = true) (o5 : g0.oneCell' = true) (o6 : g1.oneCell' = true) (o7 : g2.oneCell' = true) :
    Calls Tryd.prog 84 #[.int .i64 n] w fun e w' => e = .returned (.agg #[A, B, f0, f1, f2, g0, g1, g2]) ∧ Below w.heap.size w w' := by
  have i0 : ¬ ((n : Int) < 0) := by omega
  have i1 : ¬ (37 < (n : Int)) := by omega
  have hi := fun W => idxR RV n hn W
  rw [h] at hi
  go_enter Tryd.func84, Tryd.ntmps84
  go_wp2_with fail
  refine (rules_r _).mono ?_
  rintro e w1 ⟨rfl, g1⟩
  have hh : w1.heap[w.heap.size]? = some (.cells #[.string ⟨#[]⟩, .string ⟨#[]⟩, .nilFunc, .nilFunc, .nilFunc, .nilFunc, .nilFunc, .nilFunc] 115 (0, 0)) :=
    (g1.block _ (by simp)).trans (heap_alloc_last w _)
  have hb : Below w.heap.size w w1 := ((Below.refl _ _).alloc (Nat.le_refl _) _).trans (g1.mono (by simp))
  clear g1
  rename_i K1 hK1 K2 hK2
  refine hK2 _ _ ?_
  refine Go.Great.wpList_readTo rfl (some 11) rfl (.int .i64 n) (by kernel_rfl) ?_
  refine Go.Great.wpList_readTo rfl (some 12) rfl (.agg #[A, B, f0, f1, f2, g0, g1, g2]) (by unfold execOp; simp [hi, Act.eval, Act.put]) ?_
  refine wpList_store_row rfl _ _ _ rfl w.heap.size #[A, B, f0, f1, f2, g0, g1, g2] (by kernel_rfl) (by kernel_rfl) 115 _ hh (by kernel_rfl) rfl (by simp [o0, o1, o2, o3, o4, o5, o6, o7]) ?_
  apply wpList_nil
  refine hK1 _ _ ?_
  refine wp_ret ⟨rfl, .agg #[A, B, f0, f1, f2, g0, g1, g2], ?_, rfl, below_setRow hb (Nat.le_refl _) _⟩
  refine Eq.trans ?_ (run_loadVar_row (P := Tryd.prog) (w1.setRow w.heap.size #[A, B, f0, f1, f2, g0, g1, g2]) w.heap.size 115 115 _ (0, 0) _ (setRow_heap w1 _ _ _ _ _ hh) Tryd.underlying115 rfl (by kernel_rfl))
  simp [results, Tryd.results84, Act.put, asAddr]

set_option maxHeartbeats 1000000 in
theorem ruleOf_out (k : Int) (w : World) (h : k < 0 ∨ 38 ≤ k) :
    Calls Tryd.prog 84 #[.int .i64 k] w fun e w' => e = .returned (.agg #[.string ⟨#[]⟩, .string ⟨#[]⟩, .nilFunc, .nilFunc, .nilFunc, .nilFunc, .nilFunc, .nilFunc]) ∧ Below w.heap.size w w' := by
  by_cases h0 : k < 0
  · go_enter Tryd.func84, Tryd.ntmps84
    go_wp2
    go_returns
    exact ⟨rfl, by go_grown⟩
  · have h1 : 37 < k := by omega
    go_enter Tryd.func84, Tryd.ntmps84
    go_wp2
    go_returns
    exact ⟨rfl, by go_grown⟩

theorem pc (c : Nat) : (c = 0 ∨ 14 ≤ c) ∨ c = 1 ∨ c = 2 ∨ c = 3 ∨ c = 4 ∨ c = 5 ∨ c = 6 ∨ c = 7 ∨ c = 8 ∨ c = 9 ∨ c = 10 ∨ c = 11 ∨ c = 12 ∨ c = 13 := by omega
theorem pv_out (c : Nat) (h : c = 0 ∨ 14 ≤ c) : pv c = .nilFunc := by
  unfold pv
  repeat rw [if_neg (by omega)]
theorem pv_one (c : Nat) : (pv c).oneCell' = true := by
  rcases pc c with h | rfl | rfl | rfl | rfl | rfl | rfl | rfl | rfl | rfl | rfl | rfl | rfl | rfl
  · rw [pv_out c h]; rfl
  all_goals rfl

/-- The rule of an Op, as a value. -/
def rulV (op : Int) : Array Value := #[.string (ahd op), .string (btw op), pv ((ndP op).getD 0 0), pv ((ndP op).getD 1 0), pv ((ndP op).getD 2 0), pv ((orP op).getD 0 0), pv ((orP op).getD 1 0), pv ((orP op).getD 2 0)]

theorem out_all (op : Int) (h : op < 0 ∨ 38 ≤ op) : ahd op = ⟨#[]⟩ ∧ btw op = ⟨#[]⟩ ∧ ndP op = [] ∧ orP op = [] := by
  refine ⟨?_, ?_, ?_, ?_⟩
  · unfold ahd; repeat rw [if_neg (by omega)]
  · unfold btw; repeat rw [if_neg (by omega)]
  · unfold ndP; repeat rw [if_neg (by omega)]
  · unfold orP; repeat rw [if_neg (by omega)]

theorem rule_of (op : Int) (w : World) :
    Calls Tryd.prog 84 #[.int .i64 op] w fun e w' => e = .returned (.agg (rulV op)) ∧ Below w.heap.size w w' := by
  by_cases h : op < 0 ∨ 38 ≤ op
  · obtain ⟨h1, h2, h3, h4⟩ := out_all op h
    unfold rulV
    rw [h1, h2, h3, h4]
    exact ruleOf_out op w h
  · obtain ⟨n, rfl⟩ := Int.eq_ofNat_of_zero_le (by omega : 0 ≤ op)
    exact ruleOf_in n (by omega) _ _ _ _ _ _ _ _ w (RV_row n (by omega)) rfl rfl (pv_one _) (pv_one _) (pv_one _) (pv_one _) (pv_one _) (pv_one _)


theorem neq_fn (f : Nat) (w : World) : (binOp .neq 111 (.func (.func f) #[] #[]) .nilFunc).run Tryd.prog w = .ok (.bool true) w := by kernel_rfl
theorem neq_nil (w : World) : (binOp .neq 111 .nilFunc .nilFunc).run Tryd.prog w = .ok (.bool false) w := by kernel_rfl
attribute [go_sem] neq_fn neq_nil

set_option maxRecDepth 10000 in
set_option maxHeartbeats 1000000 in
theorem count0 (w : World) :
    Calls Tryd.prog 85 #[.agg #[.nilFunc, .nilFunc, .nilFunc]] w fun e w' => e = .returned (.int .i64 0) ∧ Below w.heap.size w w' := by
  go_enter Tryd.func85, Tryd.ntmps85
  go_wp2
  go_loopg [3] 0 (fun g i wr => ∃ n : Nat, n + g = 0 ∧ i = .int .i64 n ∧ wr = w.alloc (.cells #[.nilFunc, .nilFunc, .nilFunc] 113))
  case atStart => exact ⟨0, rfl, rfl, rfl⟩
  case round =>
    obtain ⟨n, hn, rfl, rfl⟩ := hrel
    obtain rfl : n = 0 := by omega
    · go_wp2
      go_ret
      exact ⟨rfl, by go_grown⟩

set_option maxRecDepth 10000 in
set_option maxHeartbeats 1000000 in
theorem count1 (fa : Nat) (w : World) :
    Calls Tryd.prog 85 #[.agg #[.func (.func fa) #[] #[], .nilFunc, .nilFunc]] w fun e w' => e = .returned (.int .i64 1) ∧ Below w.heap.size w w' := by
  go_enter Tryd.func85, Tryd.ntmps85
  go_wp2
  go_loopg [3] 1 (fun g i wr => ∃ n : Nat, n + g = 1 ∧ i = .int .i64 n ∧ wr = w.alloc (.cells #[.func (.func fa) #[] #[], .nilFunc, .nilFunc] 113))
  case atStart => exact ⟨0, rfl, rfl, rfl⟩
  case round =>
    obtain ⟨n, hn, rfl, rfl⟩ := hrel
    obtain rfl | rfl : n = 0 ∨ n = 1 := by omega
    · go_wp2
      go_roundg 0
      case measure => omega
      case rel => exact ⟨1, rfl, rfl, rfl⟩
    · go_wp2
      go_ret
      exact ⟨rfl, by go_grown⟩

set_option maxRecDepth 10000 in
set_option maxHeartbeats 1000000 in
theorem count2 (fa fb : Nat) (w : World) :
    Calls Tryd.prog 85 #[.agg #[.func (.func fa) #[] #[], .func (.func fb) #[] #[], .nilFunc]] w fun e w' => e = .returned (.int .i64 2) ∧ Below w.heap.size w w' := by
  go_enter Tryd.func85, Tryd.ntmps85
  go_wp2
  go_loopg [3] 2 (fun g i wr => ∃ n : Nat, n + g = 2 ∧ i = .int .i64 n ∧ wr = w.alloc (.cells #[.func (.func fa) #[] #[], .func (.func fb) #[] #[], .nilFunc] 113))
  case atStart => exact ⟨0, rfl, rfl, rfl⟩
  case round =>
    obtain ⟨n, hn, rfl, rfl⟩ := hrel
    obtain rfl | rfl | rfl : n = 0 ∨ n = 1 ∨ n = 2 := by omega
    · go_wp2
      go_roundg 1
      case measure => omega
      case rel => exact ⟨1, rfl, rfl, rfl⟩
    · go_wp2
      go_roundg 0
      case measure => omega
      case rel => exact ⟨2, rfl, rfl, rfl⟩
    · go_wp2
      go_ret
      exact ⟨rfl, by go_grown⟩

set_option maxRecDepth 10000 in
set_option maxHeartbeats 1000000 in
theorem count3 (fa fb fc : Nat) (w : World) :
    Calls Tryd.prog 85 #[.agg #[.func (.func fa) #[] #[], .func (.func fb) #[] #[], .func (.func fc) #[] #[]]] w fun e w' => e = .returned (.int .i64 3) ∧ Below w.heap.size w w' := by
  go_enter Tryd.func85, Tryd.ntmps85
  go_wp2
  go_loopg [3] 3 (fun g i wr => ∃ n : Nat, n + g = 3 ∧ i = .int .i64 n ∧ wr = w.alloc (.cells #[.func (.func fa) #[] #[], .func (.func fb) #[] #[], .func (.func fc) #[] #[]] 113))
  case atStart => exact ⟨0, rfl, rfl, rfl⟩
  case round =>
    obtain ⟨n, hn, rfl, rfl⟩ := hrel
    obtain rfl | rfl | rfl | rfl : n = 0 ∨ n = 1 ∨ n = 2 ∨ n = 3 := by omega
    · go_wp2
      go_roundg 2
      case measure => omega
      case rel => exact ⟨1, rfl, rfl, rfl⟩
    · go_wp2
      go_roundg 1
      case measure => omega
      case rel => exact ⟨2, rfl, rfl, rfl⟩
    · go_wp2
      go_roundg 0
      case measure => omega
      case rel => exact ⟨3, rfl, rfl, rfl⟩
    · go_wp2
      go_ret
      exact ⟨rfl, by go_grown⟩

end Go.Proofs.YtcihplachlokiaaDoor
