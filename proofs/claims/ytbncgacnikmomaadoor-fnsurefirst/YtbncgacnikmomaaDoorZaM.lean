/- Instructions in the memory: sizes, copies, comparison. -/
import Derived.Test.YtbncgacnikmomaaDoorGeM
import Derived.Deep.AppendLies
namespace Go.Proofs.YtbncgacnikmomaaDoor
open Go.RowKit
set_option linter.unusedVariables false

structure InstT where
  code : Int
  one : ElemT
def InstIs (W : World) (lo : Nat) (i : InstT) (cs : List Value) : Prop := ∃ v, cs = [.int .i64 i.code, .int .i64 i.one.op, v] ∧ RowIs W lo 3 ArgIs v i.one.args
theorem InstIs.move {W W' : World} {lo lo' : Nat} (k : Keeps lo W W') (hl : lo' ≤ lo) {e : InstT} {cs : List Value} (h : InstIs W lo e cs) : InstIs W' lo' e cs := by
  obtain ⟨v, hc, hr⟩ := h
  exact ⟨v, hc, hr.move k hl fun _ _ _ h => h⟩
abbrev InstsIs (W : World) (lo : Nat) (v : Value) (xs : List InstT) : Prop := RowIs W lo 3 (InstIs W lo) v xs
theorem instsIs_move {W W' : World} {lo lo' : Nat} (k : Keeps lo W W') (hl : lo' ≤ lo) {v : Value} {xs : List InstT} (h : InstsIs W lo v xs) : InstsIs W' lo' v xs := h.move k hl fun _ _ _ h => h.move k hl
def wI (i : InstT) : Nat := wE i.one
theorem instT_eq (i j : InstT) : (decide (i.code = j.code) && eqB i.one j.one) = true ↔ i = j := by
  rw [Bool.and_eq_true, decide_eq_true_iff, eqB_true]
  cases i; cases j; simp

theorem make_Inst (n : Nat) (hn : n ≤ 1048576) (w : World) :
    (Instr.makeSlice 23 (.int .i64 (n : Int)) (.int .i64 (n : Int))).run Tryd.prog w = .ok (.slice (some ⟨w.heap.size, 0, none⟩) n n) (w.alloc (.cells (madeCells #[.int .i64 0, .int .i64 0, .slice none 0 0] (n * 3)) 39)) := by
  have hinfo : (Tryd.prog.info? 39).map (fun i => (i.zero, i.size, i.bytes)) = some (some (.agg #[.int .i64 0, .int .i64 0, .slice none 0 0]), 3, 40) := by kernel_rfl
  obtain ⟨i, hi, hzz⟩ := Option.map_eq_some_iff.1 hinfo
  simp only [Prod.mk.injEq] at hzz
  obtain ⟨hz, hs, hb⟩ := hzz
  have hr := run_make (P := Tryd.prog) w 23 39 i _ Tryd.underlying23 hi hz .i64 .i64 n n (by omega) (Int.le_refl _) (by rw [hb]; omega) (by omega)
  simp only [Int.toNat_natCast, hs] at hr
  exact hr

end Go.Proofs.YtbncgacnikmomaaDoor/- The heights of the two stacks behind an instruction: the program's behind. -/
namespace Go.Proofs.YtbncgacnikmomaaDoor
open Go.RowKit
set_option linter.unusedVariables false

/-- The heights behind an instruction of a Code. -/
def bhB (b c : Int) : Int := if c = 1 then b + 1 else if c = 4 ∨ c = 5 ∨ c = 11 then b - 1 else b
def bhF (f c : Int) : Int := if c = 7 then f + 1 else if c = 9 then f - 1 else f
theorem bhB_in (b c : Int) : b - 1 ≤ bhB b c ∧ bhB b c ≤ b + 1 := by
  unfold bhB
  split
  · omega
  · split <;> omega
theorem bhF_in (f c : Int) : f - 1 ≤ bhF f c ∧ bhF f c ≤ f + 1 := by
  unfold bhF
  split
  · omega
  · split <;> omega

set_option maxRecDepth 10000 in
set_option maxHeartbeats 2000000 in
theorem behind_i (b f c : Int) (w : World) (hb0 : -2000 ≤ b) (hb1 : b ≤ 2000) (hf0 : -2000 ≤ f) (hf1 : f ≤ 2000) :
    Calls Tryd.prog 25 #[.agg #[.int .i64 b, .int .i64 f], .int .i64 c] w fun e w' => e = .returned (.agg #[.int .i64 (bhB b c), .int .i64 (bhF f c)]) ∧ Below w.heap.size w w' := by
  by_cases h1 : c = 1
  · subst h1
    rw [show bhB b 1 = b + 1 from rfl, show bhF f 1 = f from rfl]
    go_enter Tryd.func25, Tryd.ntmps25
    go_wp2
    exact bodyPost_ret (v := .agg #[.int .i64 (b + 1), .int .i64 f]) (by simp [results, Tryd.results25, go_sem]) rfl ⟨rfl, ((Below.refl _ _).alloc (Nat.le_refl _) _).alloc (by simp) _⟩
  by_cases h4 : c = 4
  · subst h4
    rw [show bhB b 4 = b - 1 from rfl, show bhF f 4 = f from rfl]
    go_enter Tryd.func25, Tryd.ntmps25
    go_wp2
    exact bodyPost_ret (v := .agg #[.int .i64 (b - 1), .int .i64 f]) (by simp [results, Tryd.results25, go_sem]) rfl ⟨rfl, ((Below.refl _ _).alloc (Nat.le_refl _) _).alloc (by simp) _⟩
  by_cases h5 : c = 5
  · subst h5
    rw [show bhB b 5 = b - 1 from rfl, show bhF f 5 = f from rfl]
    go_enter Tryd.func25, Tryd.ntmps25
    go_wp2
    exact bodyPost_ret (v := .agg #[.int .i64 (b - 1), .int .i64 f]) (by simp [results, Tryd.results25, go_sem]) rfl ⟨rfl, ((Below.refl _ _).alloc (Nat.le_refl _) _).alloc (by simp) _⟩
  by_cases h11 : c = 11
  · subst h11
    rw [show bhB b 11 = b - 1 from rfl, show bhF f 11 = f from rfl]
    go_enter Tryd.func25, Tryd.ntmps25
    go_wp2
    exact bodyPost_ret (v := .agg #[.int .i64 (b - 1), .int .i64 f]) (by simp [results, Tryd.results25, go_sem]) rfl ⟨rfl, ((Below.refl _ _).alloc (Nat.le_refl _) _).alloc (by simp) _⟩
  by_cases h7 : c = 7
  · subst h7
    rw [show bhB b 7 = b from rfl, show bhF f 7 = f + 1 from rfl]
    go_enter Tryd.func25, Tryd.ntmps25
    go_wp2
    exact bodyPost_ret (v := .agg #[.int .i64 b, .int .i64 (f + 1)]) (by simp [results, Tryd.results25, go_sem]) rfl ⟨rfl, ((Below.refl _ _).alloc (Nat.le_refl _) _).alloc (by simp) _⟩
  by_cases h9 : c = 9
  · subst h9
    rw [show bhB b 9 = b from rfl, show bhF f 9 = f - 1 from rfl]
    go_enter Tryd.func25, Tryd.ntmps25
    go_wp2
    exact bodyPost_ret (v := .agg #[.int .i64 b, .int .i64 (f - 1)]) (by simp [results, Tryd.results25, go_sem]) rfl ⟨rfl, ((Below.refl _ _).alloc (Nat.le_refl _) _).alloc (by simp) _⟩
  rw [show bhB b c = b by unfold bhB; rw [if_neg h1, if_neg (by omega)], show bhF f c = f by unfold bhF; rw [if_neg h7, if_neg h9]]
  go_enter Tryd.func25, Tryd.ntmps25
  go_wp2
  exact bodyPost_ret (v := .agg #[.int .i64 b, .int .i64 f]) (by simp [results, Tryd.results25, go_sem]) rfl ⟨rfl, ((Below.refl _ _).alloc (Nat.le_refl _) _).alloc (by simp) _⟩
end Go.Proofs.YtbncgacnikmomaaDoor
/- SureTrace: the heights behind each instruction, as mathematics, and the program's way. -/
namespace Go.Proofs.YtbncgacnikmomaaDoor
open Go.RowKit
set_option linter.unusedVariables false

/-- The heights ahead of the n-th instruction. -/
def htB (xs : List InstT) : Nat → Int
  | 0 => 0
  | n + 1 => match xs[n]? with | some x => bhB (htB xs n) x.code | none => htB xs n
def htF (xs : List InstT) : Nat → Int
  | 0 => 0
  | n + 1 => match xs[n]? with | some x => bhF (htF xs n) x.code | none => htF xs n
theorem htB_in (xs : List InstT) : ∀ n : Nat, -(n : Int) ≤ htB xs n ∧ htB xs n ≤ n
  | 0 => by simp [htB]
  | n + 1 => by
    have h := htB_in xs n
    simp only [htB]
    split
    · next x _ => have := bhB_in (htB xs n) x.code; omega
    · omega
theorem htF_in (xs : List InstT) : ∀ n : Nat, -(n : Int) ≤ htF xs n ∧ htF xs n ≤ n
  | 0 => by simp [htF]
  | n + 1 => by
    have h := htF_in xs n
    simp only [htF]
    split
    · next x _ => have := bhF_in (htF xs n) x.code; omega
    · omega
theorem htB_succ {xs : List InstT} {n : Nat} {x : InstT} (h : xs[n]? = some x) : htB xs (n + 1) = bhB (htB xs n) x.code := by simp [htB, h]
theorem htF_succ {xs : List InstT} {n : Nat} {x : InstT} (h : xs[n]? = some x) : htF xs (n + 1) = bhF (htF xs n) x.code := by simp [htF, h]
/-- The cells of the first heights. -/
def trV (xs : List InstT) : Nat → List Value
  | 0 => []
  | n + 1 => trV xs n ++ [.int .i64 (htB xs (n + 1)), .int .i64 (htF xs (n + 1))]
theorem trV_len (xs : List InstT) : ∀ n, (trV xs n).length = n * 2
  | 0 => rfl
  | n + 1 => by simp [trV, trV_len xs n]; omega
theorem trV_at (xs : List InstT) : ∀ n j, j < n → (trV xs n)[j * 2]? = some (.int .i64 (htB xs (j + 1))) ∧ (trV xs n)[j * 2 + 1]? = some (.int .i64 (htF xs (j + 1)))
  | 0, j, h => by omega
  | n + 1, j, h => by
    simp only [trV]
    by_cases e : j = n
    · subst e
      rw [List.getElem?_append_right (by rw [trV_len]; omega), List.getElem?_append_right (by rw [trV_len]; omega), trV_len]
      have h1 : j * 2 - j * 2 = 0 := by omega
      have h2 : j * 2 + 1 - j * 2 = 1 := by omega
      rw [h1, h2]
      exact ⟨rfl, rfl⟩
    · rw [List.getElem?_append_left (by rw [trV_len]; omega), List.getElem?_append_left (by rw [trV_len]; omega)]
      exact trV_at xs n j (by omega)
theorem trV_one (xs : List InstT) : ∀ n, ∀ v ∈ trV xs n, v.oneCell' = true
  | 0, v, h => by simp [trV] at h
  | n + 1, v, h => by
    simp only [trV, List.mem_append] at h
    rcases h with h | h
    · exact trV_one xs n v h
    · simp at h; rcases h with rfl | rfl <;> rfl
def TrIs (W : World) (base : Nat) (v : Value) (xs : List InstT) (n : Nat) : Prop := W.ownsRow base 44 2 v n (trV xs n)
/-- How many heights are told. -/
def trN (xs : List InstT) : Nat := if xs.length ≤ 1000 then xs.length else 0
theorem trN_le (xs : List InstT) : trN xs ≤ 1000 := by unfold trN; split <;> omega
def TrR (xs : List InstT) (w : World) (e : Ending) (w' : World) : Prop := ∃ v', e = .returned v' ∧ TrIs w' w.heap.size v' xs (trN xs) ∧ Below w.heap.size w w'

theorem make_State (n : Nat) (hn : n ≤ 1048576) (w : World) :
    (Instr.makeSlice 41 (.int .i64 (n : Int)) (.int .i64 (n : Int))).run Tryd.prog w = .ok (.slice (some ⟨w.heap.size, 0, none⟩) n n) (w.alloc (.cells (madeCells #[.int .i64 0, .int .i64 0] (n * 2)) 44)) := by
  have hinfo : (Tryd.prog.info? 44).map (fun i => (i.zero, i.size, i.bytes)) = some (some (.agg #[.int .i64 0, .int .i64 0]), 2, 16) := by kernel_rfl
  obtain ⟨i, hi, hzz⟩ := Option.map_eq_some_iff.1 hinfo
  simp only [Prod.mk.injEq] at hzz
  obtain ⟨hz, hs, hb⟩ := hzz
  have hr := run_make (P := Tryd.prog) w 41 44 i _ Tryd.underlying41 hi hz .i64 .i64 n n (by omega) (Int.le_refl _) (by rw [hb]; omega) (by omega)
  simp only [Int.toNat_natCast, hs] at hr
  exact hr
theorem one2 (b f : Int) : ∀ d ∈ ([.int .i64 b, .int .i64 f] : List Value), d.oneCell' = true := by
  intro d hd
  simp at hd
  rcases hd with rfl | rfl <;> rfl
/-- The first heights in a row of cells. -/
def TrC (xs : List InstT) (n : Nat) (C : Array Value) : Prop := ∀ j, j < n * 2 → C[j]? = (trV xs n)[j]?
theorem TrC.step {xs : List InstT} {n : Nat} {C : Array Value} (h : TrC xs n C) (hs : n * 2 + 2 ≤ C.size) : TrC xs (n + 1) (putAt C (n * 2) [.int .i64 (htB xs (n + 1)), .int .i64 (htF xs (n + 1))]) := by
  intro j hj
  simp only [trV]
  by_cases e : j < n * 2
  · rw [putAt_get _ _ _ (by omega), if_neg (by omega), List.getElem?_append_left (by rw [trV_len]; exact e)]
    exact h j e
  · rw [putAt_get _ _ _ (by omega), if_pos (by simp; omega), List.getElem?_append_right (by rw [trV_len]; omega), trV_len]
theorem TrC.own {xs : List InstT} {n base g : Nat} {C : Array Value} {W : World} (h : TrC xs n C) (hs : C.size = n * 2) (hb : base ≤ g) (hg : W.heap[g]? = some (.cells C 44 (0, 0))) (hn : n ≤ 1000) : TrIs W base (.slice (some ⟨g, 0, none⟩) n n) xs n := by
  refine ⟨trV_len xs n, .inr ⟨g, n, C, rfl, hb, hg, Nat.le_refl _, by unfold maxLen; omega, hs, ?_⟩⟩
  apply List.ext_getElem?
  intro j
  by_cases e : j < n * 2
  · rw [List.getElem?_take_of_lt e, Array.getElem?_toList]
    exact h j e
  · rw [List.getElem?_eq_none (by simp; omega), List.getElem?_eq_none (by rw [trV_len]; omega)]

set_option maxRecDepth 10000 in
set_option maxHeartbeats 2000000 in
theorem trace_i (v : Value) (xs : List InstT) (w : World) (lo : Nat) (hv : InstsIs w lo v xs) (hbig : xs.length ≤ 1048576) :
    Calls Tryd.prog 14 #[v] w fun e w' => TrR xs w e w' := by
  obtain ⟨a, cap, rfl, hl, hx⟩ := hv
  have HX : Hid (∀ j x, xs[j]? = some x → ∃ b o cs, a = some ⟨b, o, none⟩ ∧ lo ≤ b ∧ cs.length = 3 ∧ w.rangeAt b (o + j * 3) cs ∧ InstIs w lo x cs) := hx
  by_cases hk : xs.length ≤ 1000
  · have HN : Hid (trN xs = xs.length) := if_pos hk
    have hmk := make_State xs.length hbig
    obtain ⟨len, HL⟩ : ∃ len, Hid (len = xs.length) := ⟨_, rfl⟩
    rw [← HL.out] at hl hmk hk HN ⊢
    clear hx hbig
    have i0 : ¬ ((1000 : Int) < (len : Int)) := by omega
    go_enter Tryd.func14, Tryd.ntmps14
    go_wp2
    go_loopg [16] len (fun g i wr => ∃ n : Nat, n + g = len ∧ i = .int .i64 n ∧ ∃ (C : Array Value) (b f : Int), wr.heap[w.heap.size]? = some (.cells C 44 (0, 0)) ∧ wr.heap[w.heap.size + 1]? = some (.cells #[.int .i64 b, .int .i64 f] 44 (0, 0)) ∧ Hid (b = htB xs n ∧ f = htF xs n ∧ C.size = len * 2 ∧ TrC xs n C ∧ Below w.heap.size w wr) ∧ -2000 ≤ b ∧ b ≤ 2000 ∧ -2000 ≤ f ∧ f ≤ 2000)
    case atStart =>
      refine ⟨0, by omega, rfl, _, 0, 0, (heap_alloc_old _ _ (h := by simp)).trans (heap_alloc_last w _), (by have := heap_alloc_last (w.alloc (.cells (madeCells #[.int .i64 0, .int .i64 0] (len * 2)) 44)) (.cells #[.int .i64 0, .int .i64 0] 44); simpa using this), ⟨rfl, rfl, size_madeCells _ _, fun j hj => by omega, ((Below.refl _ _).alloc (Nat.le_refl _) _).alloc (by simp) _⟩, by omega, by omega, by omega, by omega⟩
    case round =>
      obtain ⟨n, hn, rfl, C, b, f, hC, hS, HS, hb0, hb1, hf0, hf1⟩ := hrel
      by_cases hlt : n < len
      · have i1 : (n : Int) < (len : Int) := by omega
        have i3 : (0 : Int) ≤ (n : Int) := by omega
        obtain ⟨x, hxn⟩ : ∃ x, xs[n]? = some x := ⟨_, List.getElem?_eq_getElem (by have := HL.out; omega)⟩
        obtain ⟨bk, o, cs, rfl, hlo, hcs, hrg, u, rfl, hR⟩ := HX.out n x hxn
        have hb := HS.out.2.2.2.2
        have HLd : Hid ((loadVar 39 ⟨bk, o + n * 3, none⟩).run Tryd.prog wr = .ok (.agg #[.int .i64 x.code, .int .i64 x.one.op, u]) wr) := run_loadVar_mid wr bk (o + n * 3) 39 [.int .i64 x.code, .int .i64 x.one.op, u] _ (fun i c hi => (Keeps.of_below hb 0) _ _ _ (Nat.zero_le _) (hrg i c hi)) Tryd.underlying39 rfl (by rw [hcs]; kernel_rfl)
        obtain ⟨ua, uc, rfl, _, _⟩ := hR
        obtain ⟨ul, Hul⟩ : ∃ l, Hid (l = x.one.args.length) := ⟨_, rfl⟩
        rw [← Hul.out] at HLd
        obtain ⟨c, Hc⟩ : ∃ c, Hid (c = x.code) := ⟨_, rfl⟩
        obtain ⟨op, Hop⟩ : ∃ c, Hid (c = x.one.op) := ⟨_, rfl⟩
        rw [← Hc.out, ← Hop.out] at HLd
        have hC1 : (wr.alloc (.cells #[.int .i64 c, .int .i64 op, .slice ua ul uc] 39)).heap[w.heap.size]? = some (.cells C 44 (0, 0)) := (heap_alloc_old _ _ (h := (Array.getElem?_eq_some_iff.1 hC).1)).trans hC
        have hS1 : (wr.alloc (.cells #[.int .i64 c, .int .i64 op, .slice ua ul uc] 39)).heap[w.heap.size + 1]? = some (.cells #[.int .i64 b, .int .i64 f] 44 (0, 0)) := (heap_alloc_old _ _ (h := (Array.getElem?_eq_some_iff.1 hS).1)).trans hS
        have hN1 : (wr.alloc (.cells #[.int .i64 c, .int .i64 op, .slice ua ul uc] 39)).heap[wr.heap.size]? = some (.cells #[.int .i64 c, .int .i64 op, .slice ua ul uc] 39 (0, 0)) := heap_alloc_last wr _
        have hsz : (wr.alloc (.cells #[.int .i64 c, .int .i64 op, .slice ua ul uc] 39)).heap.size = wr.heap.size + 1 := by simp
        have hB1 : Below w.heap.size w (wr.alloc (.cells #[.int .i64 c, .int .i64 op, .slice ua ul uc] 39)) := hb.alloc hb.size _
        have HLS : Hid ((loadVar 44 ⟨w.heap.size + 1, 0, none⟩).run Tryd.prog (wr.alloc (.cells #[.int .i64 c, .int .i64 op, .slice ua ul uc] 39)) = .ok (.agg #[.int .i64 b, .int .i64 f]) (wr.alloc (.cells #[.int .i64 c, .int .i64 op, .slice ua ul uc] 39))) := load_all hS1 _ _ Tryd.underlying44 rfl (by kernel_rfl)
        have HK : Hid (wr.heap.size > w.heap.size + 1 ∧ (wr.alloc (.cells #[.int .i64 c, .int .i64 op, .slice ua ul uc] 39)).heap[w.heap.size]? = some (.cells C 44 (0, 0)) ∧ (wr.alloc (.cells #[.int .i64 c, .int .i64 op, .slice ua ul uc] 39)).heap[w.heap.size + 1]? = some (.cells #[.int .i64 b, .int .i64 f] 44 (0, 0)) ∧ Below w.heap.size w (wr.alloc (.cells #[.int .i64 c, .int .i64 op, .slice ua ul uc] 39))) := ⟨by have := (Array.getElem?_eq_some_iff.1 hS).1; omega, hC1, hS1, hB1⟩
        clear hb hrg hcs hlo hC hS hC1 hS1 hB1 hN1 hsz
        have HBh : Hid (∀ W, Calls Tryd.prog 25 #[.agg #[.int .i64 b, .int .i64 f], .int .i64 c] W fun e w' => e = .returned (.agg #[.int .i64 (htB xs (n + 1)), .int .i64 (htF xs (n + 1))]) ∧ Below W.heap.size W w') := by
          intro W
          rw [htB_succ hxn, htF_succ hxn, ← HS.out.1, ← HS.out.2.1, ← Hc.out]
          exact behind_i b f c W hb0 hb1 hf0 hf1
        have h1 := htB_in xs (n + 1)
        have h2 := htF_in xs (n + 1)
        have HTr : Hid (C.size = len * 2 ∧ TrC xs n C) := ⟨HS.out.2.2.1, HS.out.2.2.2.1⟩
        obtain ⟨nb, Hnb⟩ : ∃ q, Hid (q = htB xs (n + 1)) := ⟨_, rfl⟩
        obtain ⟨nf, Hnf⟩ : ∃ q, Hid (q = htF xs (n + 1)) := ⟨_, rfl⟩
        rw [← Hnb.out, ← Hnf.out] at HBh
        rw [← Hnb.out] at h1
        rw [← Hnf.out] at h2
        clear HS
        go_wp2_with (first | (refine wpL_load rfl 39 _ rfl _ _ rfl _ HLd.out ?_) | (refine wpL_load rfl 44 _ rfl _ _ rfl _ HLS.out ?_) | fail)
        refine (HBh.out _).mono ?_
        rintro e w2 ⟨rfl, g2⟩
        have k0 := HK.out.1
        have hz : (wr.alloc (.cells #[.int .i64 c, .int .i64 op, .slice ua ul uc] 39)).heap.size = wr.heap.size + 1 := by simp
        have hC2 : w2.heap[w.heap.size]? = some (.cells C 44 (0, 0)) := (g2.block _ (by omega)).trans HK.out.2.1
        have hS2 : w2.heap[w.heap.size + 1]? = some (.cells #[.int .i64 b, .int .i64 f] 44 (0, 0)) := (g2.block _ (by omega)).trans HK.out.2.2.1
        have hB2 : Below w.heap.size w w2 := HK.out.2.2.2.trans (g2.mono HK.out.2.2.2.size)
        have HST : Hid ((storeVar 44 ⟨w.heap.size + 1, 0, none⟩ (.agg #[.int .i64 nb, .int .i64 nf])).run Tryd.prog w2 = .ok () (w2.setRow (w.heap.size + 1) #[.int .i64 nb, .int .i64 nf])) := store_all hS2 44 _ rfl (by kernel_rfl) (all_one [.int .i64 nb, .int .i64 nf] (one2 nb nf))
        obtain ⟨w3, Hw3⟩ : ∃ W, Hid (W = w2.setRow (w.heap.size + 1) #[.int .i64 nb, .int .i64 nf]) := ⟨_, rfl⟩
        have hC3 : w3.heap[w.heap.size]? = some (.cells C 44 (0, 0)) := by rw [Hw3.out]; exact row_beside hC2 _ (by omega) _
        have hS3 : w3.heap[w.heap.size + 1]? = some (.cells #[.int .i64 nb, .int .i64 nf] 44 (0, 0)) := by rw [Hw3.out]; exact row_set hS2 _
        have hB3 : Below w.heap.size w w3 := by rw [Hw3.out]; exact below_setRow hB2 (by omega) _
        have HL3 : Hid ((loadVar 44 ⟨w.heap.size + 1, 0, none⟩).run Tryd.prog w3 = .ok (.agg #[.int .i64 nb, .int .i64 nf]) w3) := load_all hS3 _ _ Tryd.underlying44 rfl (by kernel_rfl)
        have HS4 : Hid ((storeVar 44 ⟨w.heap.size, n * 2, none⟩ (.agg #[.int .i64 nb, .int .i64 nf])).run Tryd.prog w3 = .ok () (w3.setRow w.heap.size (putAt C (n * 2) [.int .i64 nb, .int .i64 nf]))) := by
          have h1 : n * 2 + 2 ≤ len * 2 := by omega
          have h3 := HTr.out.1
          have := store_sub (P := Tryd.prog) hC3 44 (n * 2) #[.int .i64 nb, .int .i64 nf] (by simp; omega) (by kernel_rfl) (all_one [.int .i64 nb, .int .i64 nf] (one2 nb nf))
          show _ = _
          simpa using this
        rw [← Hw3.out] at HST
        have HF : Hid ((w3.setRow w.heap.size (putAt C (n * 2) [.int .i64 nb, .int .i64 nf])).heap[w.heap.size]? = some (.cells (putAt C (n * 2) [.int .i64 nb, .int .i64 nf]) 44 (0, 0)) ∧ (w3.setRow w.heap.size (putAt C (n * 2) [.int .i64 nb, .int .i64 nf])).heap[w.heap.size + 1]? = some (.cells #[.int .i64 nb, .int .i64 nf] 44 (0, 0)) ∧ Below w.heap.size w (w3.setRow w.heap.size (putAt C (n * 2) [.int .i64 nb, .int .i64 nf])) ∧ (putAt C (n * 2) [.int .i64 nb, .int .i64 nf]).size = len * 2 ∧ TrC xs (n + 1) (putAt C (n * 2) [.int .i64 nb, .int .i64 nf])) := by
          refine ⟨row_set hC3 _, row_beside hS3 _ (by omega) _, below_setRow hB3 (Nat.le_refl _) _, by rw [putAt_size]; exact HTr.out.1, ?_⟩
          have h1 : n * 2 + 2 ≤ len * 2 := by omega
          rw [Hnb.out, Hnf.out]
          exact HTr.out.2.step (by rw [HTr.out.1]; exact h1)
        obtain ⟨w4, Hw4⟩ : ∃ W, Hid (W = w3.setRow w.heap.size (putAt C (n * 2) [.int .i64 nb, .int .i64 nf])) := ⟨_, rfl⟩
        rw [← Hw4.out] at HS4 HF
        clear Hw3 Hw4 hC2 hS2 hC3 hS3 hB2 hB3 g2 hz HK HBh HLd HLS
        go_wp2_with (first | (refine wpL_store rfl 44 _ _ rfl _ _ rfl _ rfl _ HST.out ?_) | (refine wpL_load rfl 44 _ rfl _ _ rfl _ HL3.out ?_) | (refine wpL_store rfl 44 _ _ rfl _ _ rfl _ rfl _ HS4.out ?_) | fail)
        go_roundg (gk - 1)
        case measure => omega
        case rel => exact ⟨n + 1, by omega, by simp, _, nb, nf, HF.out.1, HF.out.2.1, ⟨Hnb.out, Hnf.out, HF.out.2.2.2.1, HF.out.2.2.2.2, HF.out.2.2.1⟩, by omega, by omega, by omega, by omega⟩
      · have i1 : ¬ ((n : Int) < (len : Int)) := by omega
        have HF : Hid (TrR xs w (.returned (.slice (some ⟨w.heap.size, 0, none⟩) len len)) wr) := by
          have hne : n = len := by omega
          obtain ⟨_, _, h3, h4, h5⟩ := HS.out
          refine ⟨_, rfl, ?_, h5⟩
          rw [HN.out]
          exact TrC.own (hne ▸ h4) h3 (Nat.le_refl _) hC (by omega)
        clear HS hC hS
        go_wp2
        go_ret
        exact HF.out
  · have i0 : (1000 : Int) < (xs.length : Int) := by omega
    have HF : Hid (TrR xs w (.returned (.slice none 0 0)) w) := ⟨_, rfl, by rw [show trN xs = 0 from if_neg hk]; exact World.ownsRow_nil _ _ _ _, Below.refl _ _⟩
    clear hx HX
    generalize xs.length = len at i0 hl hbig
    go_enter Tryd.func14, Tryd.ntmps14
    go_wp2
    go_ret
    exact HF.out
end Go.Proofs.YtbncgacnikmomaaDoor
