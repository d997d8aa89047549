/- Texts of memories, the program's parts: memMark, memValue. -/
import Derived.Test.YteekbhhlgicpeaaDoorUb6
namespace Go.Proofs.YteekbhhlgicpeaaDoor
open Go.RowKit
open Go.Lib (decDigits itoa)
set_option linter.unusedVariables false

theorem mark_i (b : Bool) (s : ByteArray) (w : World) :
    Calls Tryd.prog 45 #[.bool b, .string s] w fun e w' => e = .returned (.string (markT b s)) ∧ Below w.heap.size w w' := by
  cases b with
  | true =>
    go_enter Tryd.func45, Tryd.ntmps45
    go_wp2
    go_ret
    exact ⟨rfl, Below.refl _ _⟩
  | false =>
    go_enter Tryd.func45, Tryd.ntmps45
    go_wp2
    go_ret
    exact ⟨rfl, Below.refl _ _⟩

set_option maxRecDepth 10000 in
set_option maxHeartbeats 1000000 in
theorem mval_1 (c : Array Value) (hc : MemOk c) (n : Int) (w : World) (hT : KT w) :
    Calls Tryd.prog 19 #[.agg c, .agg #[.int .i64 1, .int .i64 n, .int .i64 0]] w fun e w' => e = .returned (.tuple #[.string ⟨#[]⟩, .bool (mbit c 1 n)]) ∧ Below w.heap.size w w' := by
  have HC : Hid (MemOk c) := hc
  have HT : Hid (KT w) := hT
  have HI : Hid ((Tryd.prog.info? 37).map (·.size) = some c.size) := by rw [HC.out.size]; exact zero_mem.2
  have HM : Hid (∀ W, KT W → Calls Tryd.prog 44 #[.agg c, .agg #[.int .i64 1, .int .i64 n, .int .i64 0]] W fun e w' => e = .returned (.bool (mbit c 1 n)) ∧ Below W.heap.size W w') := fun W h => mbit_i c HC.out 1 n 0 W h
  obtain ⟨b, Hb⟩ : ∃ b, Hid (b = mbit c 1 n) := ⟨_, rfl⟩
  rw [← Hb.out] at HM ⊢
  clear hc hT Hb
  go_enter Tryd.func19, Tryd.ntmps19
  go_wp2_with (first | (refine wpL_load rfl 37 _ rfl _ _ rfl _ (load_all (rows2 w _ _).1 _ _ Tryd.underlying37 rfl HI.out) ?_) | fail)
  refine (HM.out _ ((HT.out.alloc _).alloc _)).mono ?_
  rintro e w1 ⟨rfl, g1⟩
  have b1 : Below w.heap.size w w1 := (((Below.refl _ _).alloc (Nat.le_refl _) _).alloc (by simp) _).trans (g1.mono (by simp <;> omega))
  clear g1
  go_wp2
  refine bodyPost_ret (v := .tuple #[.string ⟨#[]⟩, .bool b]) (by simp [results, Tryd.results19, go_sem]) rfl ⟨rfl, b1⟩

set_option maxRecDepth 10000 in
set_option maxHeartbeats 1000000 in
theorem mval_2 (c : Array Value) (hc : MemOk c) (n : Int) (w : World) (hT : KT w) :
    Calls Tryd.prog 19 #[.agg c, .agg #[.int .i64 2, .int .i64 n, .int .i64 0]] w fun e w' => e = .returned (.tuple #[.string ⟨#[]⟩, .bool (mbit c 2 n)]) ∧ Below w.heap.size w w' := by
  have HC : Hid (MemOk c) := hc
  have HT : Hid (KT w) := hT
  have HI : Hid ((Tryd.prog.info? 37).map (·.size) = some c.size) := by rw [HC.out.size]; exact zero_mem.2
  have HM : Hid (∀ W, KT W → Calls Tryd.prog 44 #[.agg c, .agg #[.int .i64 2, .int .i64 n, .int .i64 0]] W fun e w' => e = .returned (.bool (mbit c 2 n)) ∧ Below W.heap.size W w') := fun W h => mbit_i c HC.out 2 n 0 W h
  obtain ⟨b, Hb⟩ : ∃ b, Hid (b = mbit c 2 n) := ⟨_, rfl⟩
  rw [← Hb.out] at HM ⊢
  clear hc hT Hb
  go_enter Tryd.func19, Tryd.ntmps19
  go_wp2_with (first | (refine wpL_load rfl 37 _ rfl _ _ rfl _ (load_all (rows2 w _ _).1 _ _ Tryd.underlying37 rfl HI.out) ?_) | fail)
  refine (HM.out _ ((HT.out.alloc _).alloc _)).mono ?_
  rintro e w1 ⟨rfl, g1⟩
  have b1 : Below w.heap.size w w1 := (((Below.refl _ _).alloc (Nat.le_refl _) _).alloc (by simp) _).trans (g1.mono (by simp <;> omega))
  clear g1
  go_wp2
  refine bodyPost_ret (v := .tuple #[.string ⟨#[]⟩, .bool b]) (by simp [results, Tryd.results19, go_sem]) rfl ⟨rfl, b1⟩

set_option maxRecDepth 10000 in
set_option maxHeartbeats 1000000 in
theorem mval_3 (c : Array Value) (hc : MemOk c) (n : Int) (w : World) (hT : KT w) :
    Calls Tryd.prog 19 #[.agg c, .agg #[.int .i64 3, .int .i64 n, .int .i64 0]] w fun e w' => e = .returned (.tuple #[.string ⟨#[]⟩, .bool (mbit c 3 n)]) ∧ Below w.heap.size w w' := by
  have HC : Hid (MemOk c) := hc
  have HT : Hid (KT w) := hT
  have HI : Hid ((Tryd.prog.info? 37).map (·.size) = some c.size) := by rw [HC.out.size]; exact zero_mem.2
  have HM : Hid (∀ W, KT W → Calls Tryd.prog 44 #[.agg c, .agg #[.int .i64 3, .int .i64 n, .int .i64 0]] W fun e w' => e = .returned (.bool (mbit c 3 n)) ∧ Below W.heap.size W w') := fun W h => mbit_i c HC.out 3 n 0 W h
  obtain ⟨b, Hb⟩ : ∃ b, Hid (b = mbit c 3 n) := ⟨_, rfl⟩
  rw [← Hb.out] at HM ⊢
  clear hc hT Hb
  go_enter Tryd.func19, Tryd.ntmps19
  go_wp2_with (first | (refine wpL_load rfl 37 _ rfl _ _ rfl _ (load_all (rows2 w _ _).1 _ _ Tryd.underlying37 rfl HI.out) ?_) | fail)
  refine (HM.out _ ((HT.out.alloc _).alloc _)).mono ?_
  rintro e w1 ⟨rfl, g1⟩
  have b1 : Below w.heap.size w w1 := (((Below.refl _ _).alloc (Nat.le_refl _) _).alloc (by simp) _).trans (g1.mono (by simp <;> omega))
  clear g1
  go_wp2
  refine bodyPost_ret (v := .tuple #[.string ⟨#[]⟩, .bool b]) (by simp [results, Tryd.results19, go_sem]) rfl ⟨rfl, b1⟩

set_option maxRecDepth 10000 in
set_option maxHeartbeats 1000000 in
theorem mval_4 (c : Array Value) (hc : MemOk c) (n : Int) (w : World) (hT : KT w) :
    Calls Tryd.prog 19 #[.agg c, .agg #[.int .i64 4, .int .i64 n, .int .i64 0]] w fun e w' => e = .returned (.tuple #[.string ⟨#[]⟩, .bool (mbit c 4 n)]) ∧ Below w.heap.size w w' := by
  have HC : Hid (MemOk c) := hc
  have HT : Hid (KT w) := hT
  have HI : Hid ((Tryd.prog.info? 37).map (·.size) = some c.size) := by rw [HC.out.size]; exact zero_mem.2
  have HM : Hid (∀ W, KT W → Calls Tryd.prog 44 #[.agg c, .agg #[.int .i64 4, .int .i64 n, .int .i64 0]] W fun e w' => e = .returned (.bool (mbit c 4 n)) ∧ Below W.heap.size W w') := fun W h => mbit_i c HC.out 4 n 0 W h
  obtain ⟨b, Hb⟩ : ∃ b, Hid (b = mbit c 4 n) := ⟨_, rfl⟩
  rw [← Hb.out] at HM ⊢
  clear hc hT Hb
  go_enter Tryd.func19, Tryd.ntmps19
  go_wp2_with (first | (refine wpL_load rfl 37 _ rfl _ _ rfl _ (load_all (rows2 w _ _).1 _ _ Tryd.underlying37 rfl HI.out) ?_) | fail)
  refine (HM.out _ ((HT.out.alloc _).alloc _)).mono ?_
  rintro e w1 ⟨rfl, g1⟩
  have b1 : Below w.heap.size w w1 := (((Below.refl _ _).alloc (Nat.le_refl _) _).alloc (by simp) _).trans (g1.mono (by simp <;> omega))
  clear g1
  go_wp2
  refine bodyPost_ret (v := .tuple #[.string ⟨#[]⟩, .bool b]) (by simp [results, Tryd.results19, go_sem]) rfl ⟨rfl, b1⟩

set_option maxRecDepth 10000 in
set_option maxHeartbeats 1000000 in
theorem mval_5 (c : Array Value) (hc : MemOk c) (n : Int) (w : World) (hT : KT w) :
    Calls Tryd.prog 19 #[.agg c, .agg #[.int .i64 5, .int .i64 n, .int .i64 0]] w fun e w' => e = .returned (.tuple #[.string ⟨#[]⟩, .bool (mbit c 5 n)]) ∧ Below w.heap.size w w' := by
  have HC : Hid (MemOk c) := hc
  have HT : Hid (KT w) := hT
  have HI : Hid ((Tryd.prog.info? 37).map (·.size) = some c.size) := by rw [HC.out.size]; exact zero_mem.2
  have HM : Hid (∀ W, KT W → Calls Tryd.prog 44 #[.agg c, .agg #[.int .i64 5, .int .i64 n, .int .i64 0]] W fun e w' => e = .returned (.bool (mbit c 5 n)) ∧ Below W.heap.size W w') := fun W h => mbit_i c HC.out 5 n 0 W h
  obtain ⟨b, Hb⟩ : ∃ b, Hid (b = mbit c 5 n) := ⟨_, rfl⟩
  rw [← Hb.out] at HM ⊢
  clear hc hT Hb
  go_enter Tryd.func19, Tryd.ntmps19
  go_wp2_with (first | (refine wpL_load rfl 37 _ rfl _ _ rfl _ (load_all (rows2 w _ _).1 _ _ Tryd.underlying37 rfl HI.out) ?_) | fail)
  refine (HM.out _ ((HT.out.alloc _).alloc _)).mono ?_
  rintro e w1 ⟨rfl, g1⟩
  have b1 : Below w.heap.size w w1 := (((Below.refl _ _).alloc (Nat.le_refl _) _).alloc (by simp) _).trans (g1.mono (by simp <;> omega))
  clear g1
  go_wp2
  refine bodyPost_ret (v := .tuple #[.string ⟨#[]⟩, .bool b]) (by simp [results, Tryd.results19, go_sem]) rfl ⟨rfl, b1⟩

set_option maxRecDepth 10000 in
set_option maxHeartbeats 1000000 in
theorem mval_6 (c : Array Value) (n : Int) (w : World) :
    Calls Tryd.prog 19 #[.agg c, .agg #[.int .i64 6, .int .i64 n, .int .i64 0]] w fun e w' => e = .returned (.tuple #[.string ⟨#[]⟩, .bool false]) ∧ Below w.heap.size w w' := by
  go_enter Tryd.func19, Tryd.ntmps19
  go_wp2
  refine bodyPost_ret (v := .tuple #[.string ⟨#[]⟩, .bool false]) (by simp [results, Tryd.results19, go_sem]) rfl ⟨rfl, ((Below.refl _ _).alloc (Nat.le_refl _) _).alloc (by simp) _⟩

set_option maxRecDepth 10000 in
set_option maxHeartbeats 1000000 in
theorem mval_10 {G : World → Prop} (hG : ∀ W W' : World, G W → Below W.heap.size W W' → G W') (c : Array Value) (hc : MemOk c) (n x : Nat) (hn : n < 16) (hx : c[117 + n]? = some (.float .f64 x)) (S : ByteArray) (hS : S.size ≤ 60)
    (HR : Hid (∀ W, G W → Calls Tryd.prog 47 #[.float .f64 x] W fun e w' => e = .returned (.string S) ∧ Below W.heap.size W w')) (w : World) (hw : G w) :
    Calls Tryd.prog 19 #[.agg c, .agg #[.int .i64 10, .int .i64 n, .int .i64 0]] w fun e w' => e = .returned (.tuple #[.string (⟨#[61]⟩ ++ S), .bool (!(S.toList == [48]))]) ∧ Below w.heap.size w w' := by
  have HG : Hid (∀ W W' : World, G W → Below W.heap.size W W' → G W') := hG
  have HW : Hid (G w) := hw
  have HX : Hid (c[117 + n]? = some (.float .f64 x)) := hx
  have i1 : (n : Int) < 16 := by omega
  have i3 : (0 : Int) ≤ (n : Int) := by omega
  have z1 : ¬ 9223372036854775807 < 1 + S.size := by omega
  have c0 : ((w.alloc (.cells c 37)).alloc (.cells #[.int .i64 10, .int .i64 (n : Int), .int .i64 0] 58)).cell? ⟨w.heap.size, 117 + n, none⟩ = some (.float .f64 x) := (cell_of_row _ _ _ _ _ _ (rows2 w _ _).1).trans hx
  clear hG hw hx hc hS hn
  go_enter Tryd.func19, Tryd.ntmps19
  go_wp2_with fail
  refine (HR.out _ (HG.out _ _ HW.out (((Below.refl _ _).alloc (Nat.le_refl _) _).alloc (by simp) _))).mono ?_
  rintro e w1 ⟨rfl, g1⟩
  have b1 : Below w.heap.size w w1 := (((Below.refl _ _).alloc (Nat.le_refl _) _).alloc (by simp) _).trans (g1.mono (by simp <;> omega))
  clear g1
  go_wp2
  refine bodyPost_ret (v := .tuple #[.string (⟨#[61]⟩ ++ S), .bool (!(S.toList == [48]))]) (by simp [results, Tryd.results19, go_sem]) rfl ⟨rfl, b1⟩
end Go.Proofs.YteekbhhlgicpeaaDoor
