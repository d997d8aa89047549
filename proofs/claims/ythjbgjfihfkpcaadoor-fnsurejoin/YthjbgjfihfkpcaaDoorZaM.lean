/- Instructions in the memory: sizes, copies, comparison. -/
import Derived.Test.YthjbgjfihfkpcaaDoorGeM
import Derived.Deep.AppendLies
namespace Go.Proofs.YthjbgjfihfkpcaaDoor
open Go.RowKit
set_option linter.unusedVariables false

structure InstT where
  code : Int
  one : ElemT
def InstIs (W : World) (lo : Nat) (i : InstT) (cs : List Value) : Prop := ∃ v, cs = [.int .i64 i.code, .int .i64 i.one.op, v] ∧ RowIs W lo 3 ArgIs v i.one.args
theorem InstIs.move {W W' : World} {lo lo' : Nat} (k : Keeps lo W W') (hl : lo' ≤ lo) {e : InstT} {cs : List Value} (h : InstIs W lo e cs) : InstIs W' lo' e cs := by
  obtain ⟨v, hc, hr⟩ := h
  exact ⟨v, hc, hr.move k hl fun _ _ _ h => h⟩
abbrev InstsIs (W : World) (lo : Nat) (v : Value) (xs : List InstT) : Prop := RowIs W lo 3 (InstIs W lo) v xs
theorem instsIs_move {W W' : World} {lo lo' : Nat} (k : Keeps lo W W') (hl : lo' ≤ lo) {v : Value} {xs : List InstT} (h : InstsIs W lo v xs) : InstsIs W' lo' v xs := h.move k hl fun _ _ _ h => h.move k hl
def wI (i : InstT) : Nat := wE i.one
theorem instT_eq (i j : InstT) : (decide (i.code = j.code) && eqB i.one j.one) = true ↔ i = j := by
  rw [Bool.and_eq_true, decide_eq_true_iff, eqB_true]
  cases i; cases j; simp

theorem make_Inst (n : Nat) (hn : n ≤ 1048576) (w : World) :
    (Instr.makeSlice 23 (.int .i64 (n : Int)) (.int .i64 (n : Int))).run Tryd.prog w = .ok (.slice (some ⟨w.heap.size, 0, none⟩) n n) (w.alloc (.cells (madeCells #[.int .i64 0, .int .i64 0, .slice none 0 0] (n * 3)) 36)) := by
  have hinfo : (Tryd.prog.info? 36).map (fun i => (i.zero, i.size, i.bytes)) = some (some (.agg #[.int .i64 0, .int .i64 0, .slice none 0 0]), 3, 40) := by kernel_rfl
  obtain ⟨i, hi, hzz⟩ := Option.map_eq_some_iff.1 hinfo
  simp only [Prod.mk.injEq] at hzz
  obtain ⟨hz, hs, hb⟩ := hzz
  have hr := run_make (P := Tryd.prog) w 23 36 i _ Tryd.underlying23 hi hz .i64 .i64 n n (by omega) (Int.le_refl _) (by rw [hb]; omega) (by omega)
  simp only [Int.toNat_natCast, hs] at hr
  exact hr

end Go.Proofs.YthjbgjfihfkpcaaDoor/- The heights of the two stacks behind an instruction: the program's behind. -/
namespace Go.Proofs.YthjbgjfihfkpcaaDoor
open Go.RowKit
set_option linter.unusedVariables false

/-- The heights behind an instruction of a Code. -/
def bhB (b c : Int) : Int := if c = 1 then b + 1 else if c = 4 ∨ c = 5 ∨ c = 11 then b - 1 else b
def bhF (f c : Int) : Int := if c = 7 then f + 1 else if c = 9 then f - 1 else f
theorem bhB_in (b c : Int) : b - 1 ≤ bhB b c ∧ bhB b c ≤ b + 1 := by
  unfold bhB
  split
  · omega
  · split <;> omega
theorem bhF_in (f c : Int) : f - 1 ≤ bhF f c ∧ bhF f c ≤ f + 1 := by
  unfold bhF
  split
  · omega
  · split <;> omega

set_option maxRecDepth 10000 in
set_option maxHeartbeats 2000000 in
theorem behind_i (b f c : Int) (w : World) (hb0 : -2000 ≤ b) (hb1 : b ≤ 2000) (hf0 : -2000 ≤ f) (hf1 : f ≤ 2000) :
    Calls Tryd.prog 47 #[.agg #[.int .i64 b, .int .i64 f], .int .i64 c] w fun e w' => e = .returned (.agg #[.int .i64 (bhB b c), .int .i64 (bhF f c)]) ∧ Below w.heap.size w w' := by
  by_cases h1 : c = 1
  · subst h1
    rw [show bhB b 1 = b + 1 from rfl, show bhF f 1 = f from rfl]
    go_enter Tryd.func47, Tryd.ntmps47
    go_wp2
    exact bodyPost_ret (v := .agg #[.int .i64 (b + 1), .int .i64 f]) (by simp [results, Tryd.results47, go_sem]) rfl ⟨rfl, ((Below.refl _ _).alloc (Nat.le_refl _) _).alloc (by simp) _⟩
  by_cases h4 : c = 4
  · subst h4
    rw [show bhB b 4 = b - 1 from rfl, show bhF f 4 = f from rfl]
    go_enter Tryd.func47, Tryd.ntmps47
    go_wp2
    exact bodyPost_ret (v := .agg #[.int .i64 (b - 1), .int .i64 f]) (by simp [results, Tryd.results47, go_sem]) rfl ⟨rfl, ((Below.refl _ _).alloc (Nat.le_refl _) _).alloc (by simp) _⟩
  by_cases h5 : c = 5
  · subst h5
    rw [show bhB b 5 = b - 1 from rfl, show bhF f 5 = f from rfl]
    go_enter Tryd.func47, Tryd.ntmps47
    go_wp2
    exact bodyPost_ret (v := .agg #[.int .i64 (b - 1), .int .i64 f]) (by simp [results, Tryd.results47, go_sem]) rfl ⟨rfl, ((Below.refl _ _).alloc (Nat.le_refl _) _).alloc (by simp) _⟩
  by_cases h11 : c = 11
  · subst h11
    rw [show bhB b 11 = b - 1 from rfl, show bhF f 11 = f from rfl]
    go_enter Tryd.func47, Tryd.ntmps47
    go_wp2
    exact bodyPost_ret (v := .agg #[.int .i64 (b - 1), .int .i64 f]) (by simp [results, Tryd.results47, go_sem]) rfl ⟨rfl, ((Below.refl _ _).alloc (Nat.le_refl _) _).alloc (by simp) _⟩
  by_cases h7 : c = 7
  · subst h7
    rw [show bhB b 7 = b from rfl, show bhF f 7 = f + 1 from rfl]
    go_enter Tryd.func47, Tryd.ntmps47
    go_wp2
    exact bodyPost_ret (v := .agg #[.int .i64 b, .int .i64 (f + 1)]) (by simp [results, Tryd.results47, go_sem]) rfl ⟨rfl, ((Below.refl _ _).alloc (Nat.le_refl _) _).alloc (by simp) _⟩
  by_cases h9 : c = 9
  · subst h9
    rw [show bhB b 9 = b from rfl, show bhF f 9 = f - 1 from rfl]
    go_enter Tryd.func47, Tryd.ntmps47
    go_wp2
    exact bodyPost_ret (v := .agg #[.int .i64 b, .int .i64 (f - 1)]) (by simp [results, Tryd.results47, go_sem]) rfl ⟨rfl, ((Below.refl _ _).alloc (Nat.le_refl _) _).alloc (by simp) _⟩
  rw [show bhB b c = b by unfold bhB; rw [if_neg h1, if_neg (by omega)], show bhF f c = f by unfold bhF; rw [if_neg h7, if_neg h9]]
  go_enter Tryd.func47, Tryd.ntmps47
  go_wp2
  exact bodyPost_ret (v := .agg #[.int .i64 b, .int .i64 f]) (by simp [results, Tryd.results47, go_sem]) rfl ⟨rfl, ((Below.refl _ _).alloc (Nat.le_refl _) _).alloc (by simp) _⟩
end Go.Proofs.YthjbgjfihfkpcaaDoor
/- SureTrace: the heights behind each instruction, as mathematics, and the program's way. -/
namespace Go.Proofs.YthjbgjfihfkpcaaDoor
open Go.RowKit
set_option linter.unusedVariables false

/-- The heights ahead of the n-th instruction. -/
def htB (xs : List InstT) : Nat → Int
  | 0 => 0
  | n + 1 => match xs[n]? with | some x => bhB (htB xs n) x.code | none => htB xs n
def htF (xs : List InstT) : Nat → Int
  | 0 => 0
  | n + 1 => match xs[n]? with | some x => bhF (htF xs n) x.code | none => htF xs n
theorem htB_in (xs : List InstT) : ∀ n : Nat, -(n : Int) ≤ htB xs n ∧ htB xs n ≤ n
  | 0 => by simp [htB]
  | n + 1 => by
    have h := htB_in xs n
    simp only [htB]
    split
    · next x _ => have := bhB_in (htB xs n) x.code; omega
    · omega
theorem htF_in (xs : List InstT) : ∀ n : Nat, -(n : Int) ≤ htF xs n ∧ htF xs n ≤ n
  | 0 => by simp [htF]
  | n + 1 => by
    have h := htF_in xs n
    simp only [htF]
    split
    · next x _ => have := bhF_in (htF xs n) x.code; omega
    · omega
theorem htB_succ {xs : List InstT} {n : Nat} {x : InstT} (h : xs[n]? = some x) : htB xs (n + 1) = bhB (htB xs n) x.code := by simp [htB, h]
theorem htF_succ {xs : List InstT} {n : Nat} {x : InstT} (h : xs[n]? = some x) : htF xs (n + 1) = bhF (htF xs n) x.code := by simp [htF, h]
/-- The cells of the first heights. -/
def trV (xs : List InstT) : Nat → List Value
  | 0 => []
  | n + 1 => trV xs n ++ [.int .i64 (htB xs (n + 1)), .int .i64 (htF xs (n + 1))]
theorem trV_len (xs : List InstT) : ∀ n, (trV xs n).length = n * 2
  | 0 => rfl
  | n + 1 => by simp [trV, trV_len xs n]; omega
theorem trV_at (xs : List InstT) : ∀ n j, j < n → (trV xs n)[j * 2]? = some (.int .i64 (htB xs (j + 1))) ∧ (trV xs n)[j * 2 + 1]? = some (.int .i64 (htF xs (j + 1)))
  | 0, j, h => by omega
  | n + 1, j, h => by
    simp only [trV]
    by_cases e : j = n
    · subst e
      rw [List.getElem?_append_right (by rw [trV_len]; omega), List.getElem?_append_right (by rw [trV_len]; omega), trV_len]
      have h1 : j * 2 - j * 2 = 0 := by omega
      have h2 : j * 2 + 1 - j * 2 = 1 := by omega
      rw [h1, h2]
      exact ⟨rfl, rfl⟩
    · rw [List.getElem?_append_left (by rw [trV_len]; omega), List.getElem?_append_left (by rw [trV_len]; omega)]
      exact trV_at xs n j (by omega)
theorem trV_one (xs : List InstT) : ∀ n, ∀ v ∈ trV xs n, v.oneCell' = true
  | 0, v, h => by simp [trV] at h
  | n + 1, v, h => by
    simp only [trV, List.mem_append] at h
    rcases h with h | h
    · exact trV_one xs n v h
    · simp at h; rcases h with rfl | rfl <;> rfl
def TrIs (W : World) (base : Nat) (v : Value) (xs : List InstT) (n : Nat) : Prop := W.ownsRow base 57 2 v n (trV xs n)
/-- How many heights are told. -/
def trN (xs : List InstT) : Nat := if xs.length ≤ 1000 then xs.length else 0
theorem trN_le (xs : List InstT) : trN xs ≤ 1000 := by unfold trN; split <;> omega
def TrR (xs : List InstT) (w : World) (e : Ending) (w' : World) : Prop := ∃ v', e = .returned v' ∧ TrIs w' w.heap.size v' xs (trN xs) ∧ Below w.heap.size w w'

theorem one2 (b f : Int) : ∀ d ∈ ([.int .i64 b, .int .i64 f] : List Value), d.oneCell' = true := by
  intro d hd
  simp at hd
  rcases hd with rfl | rfl <;> rfl
/-- The first heights in a row of cells. -/
def TrC (xs : List InstT) (n : Nat) (C : Array Value) : Prop := ∀ j, j < n * 2 → C[j]? = (trV xs n)[j]?
theorem TrC.step {xs : List InstT} {n : Nat} {C : Array Value} (h : TrC xs n C) (hs : n * 2 + 2 ≤ C.size) : TrC xs (n + 1) (putAt C (n * 2) [.int .i64 (htB xs (n + 1)), .int .i64 (htF xs (n + 1))]) := by
  intro j hj
  simp only [trV]
  by_cases e : j < n * 2
  · rw [putAt_get _ _ _ (by omega), if_neg (by omega), List.getElem?_append_left (by rw [trV_len]; exact e)]
    exact h j e
  · rw [putAt_get _ _ _ (by omega), if_pos (by simp; omega), List.getElem?_append_right (by rw [trV_len]; omega), trV_len]
theorem TrC.own {xs : List InstT} {n base g : Nat} {C : Array Value} {W : World} (h : TrC xs n C) (hs : C.size = n * 2) (hb : base ≤ g) (hg : W.heap[g]? = some (.cells C 57 (0, 0))) (hn : n ≤ 1000) : TrIs W base (.slice (some ⟨g, 0, none⟩) n n) xs n := by
  refine ⟨trV_len xs n, .inr ⟨g, n, C, rfl, hb, hg, Nat.le_refl _, by unfold maxLen; omega, hs, ?_⟩⟩
  apply List.ext_getElem?
  intro j
  by_cases e : j < n * 2
  · rw [List.getElem?_take_of_lt e, Array.getElem?_toList]
    exact h j e
  · rw [List.getElem?_eq_none (by simp; omega), List.getElem?_eq_none (by rw [trV_len]; omega)]

end Go.Proofs.YthjbgjfihfkpcaaDoor
