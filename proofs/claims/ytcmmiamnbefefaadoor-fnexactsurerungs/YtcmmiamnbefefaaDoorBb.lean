/- The rules of the program's SureCheck: what each says of an instruction. -/
import Derived.Test.YtcmmiamnbefefaaDoorBa
import Derived.Deep.QuietTactic
import Derived.BigQuiet
namespace Go.Proofs.YtcmmiamnbefefaaDoor
open Go.RowKit
set_option linter.unusedVariables false

theorem needs_i (c : Int) (w : World) : Calls Tryd.prog 88 #[.int .i64 c] w fun e w' => e = .returned (.int .i64 (needs c)) ∧ w' = w := by
  by_cases h1 : c = 1
  · subst h1
    rw [show needs 1 = 0 from rfl]
    go_enter Tryd.func88, Tryd.ntmps88
    go_wp2
    go_ret
    exact ⟨rfl, rfl⟩
  by_cases h4 : c = 4
  · subst h4
    rw [show needs 4 = 2 from rfl]
    go_enter Tryd.func88, Tryd.ntmps88
    go_wp2
    go_ret
    exact ⟨rfl, rfl⟩
  by_cases h5 : c = 5
  · subst h5
    rw [show needs 5 = 2 from rfl]
    go_enter Tryd.func88, Tryd.ntmps88
    go_wp2
    go_ret
    exact ⟨rfl, rfl⟩
  rw [show needs c = 1 by unfold needs; rw [if_neg h1, if_neg (by omega)]]
  go_enter Tryd.func88, Tryd.ntmps88
  go_wp2
  go_ret
  exact ⟨rfl, rfl⟩

theorem two_below {w : World} (o1 o2 : Obj) : Below w.heap.size w ((w.alloc o1).alloc o2) := ((Below.refl _ _).alloc (Nat.le_refl _) _).alloc (by simp) _

set_option maxRecDepth 10000 in
set_option maxHeartbeats 4000000 in
theorem rule0 (r : Rn) (c op : Int) (a : Option Addr) (xs : List Arg) (len cap : Nat) (hlen : len = xs.length) (w : World) (hT : KT w) (hL : LT w) (hx : Sl w a xs) :
    Calls Tryd.prog 59 #[.agg #[.int .i64 r.b, .int .i64 r.f, .bool r.s, .bool r.k], .agg #[.int .i64 c, .int .i64 op, .slice a len cap]] w fun e w' => e = .returned (.bool (brk r (okI c op xs) c 0)) ∧ Below w.heap.size w w' := by
  obtain ⟨b, f, s, k⟩ := r
  have HO : Hid (Calls Tryd.prog 87 #[.agg #[.int .i64 c, .int .i64 op, .slice a len cap]] ((w.alloc (.cells #[.int .i64 b, .int .i64 f, .bool s, .bool k] 75)).alloc (.cells #[.int .i64 c, .int .i64 op, .slice a len cap] 50)) fun e w' => e = .returned (.bool (okI c op xs)) ∧ Below ((w.alloc (.cells #[.int .i64 b, .int .i64 f, .bool s, .bool k] 75)).alloc (.cells #[.int .i64 c, .int .i64 op, .slice a len cap] 50)).heap.size ((w.alloc (.cells #[.int .i64 b, .int .i64 f, .bool s, .bool k] 75)).alloc (.cells #[.int .i64 c, .int .i64 op, .slice a len cap] 50)) w') := ok_i c op a xs len cap hlen _ (hT.later (two_below _ _)) (hL.later (two_below _ _)) (hx.later (two_below _ _))
  have hs : ((w.alloc (.cells #[.int .i64 b, .int .i64 f, .bool s, .bool k] 75)).alloc (.cells #[.int .i64 c, .int .i64 op, .slice a len cap] 50)).heap.size = w.heap.size + 1 + 1 := by simp
  have HB : Hid (Below w.heap.size w ((w.alloc (.cells #[.int .i64 b, .int .i64 f, .bool s, .bool k] 75)).alloc (.cells #[.int .i64 c, .int .i64 op, .slice a len cap] 50))) := two_below _ _
  simp only [brk]
  cases hb : okI c op xs with
  | true =>
    rw [hb] at HO
    clear hb hlen hT hL hx
    go_enter Tryd.func59, Tryd.ntmps59
    go_wp2_with fail
    refine HO.out.mono ?_
    rintro e w1 ⟨rfl, g1⟩
    have b1 : Below w.heap.size w w1 := HB.out.trans (g1.mono (by omega))
    go_wp2
    go_ret
    exact ⟨rfl, b1⟩
  | false =>
    rw [hb] at HO
    clear hb hlen hT hL hx
    go_enter Tryd.func59, Tryd.ntmps59
    go_wp2_with fail
    refine HO.out.mono ?_
    rintro e w1 ⟨rfl, g1⟩
    have b1 : Below w.heap.size w w1 := HB.out.trans (g1.mono (by omega))
    go_wp2
    go_ret
    exact ⟨rfl, b1⟩

set_option maxRecDepth 10000 in
set_option maxHeartbeats 4000000 in
theorem rule1 (r : Rn) (c op : Int) (a : Option Addr) (xs : List Arg) (len cap : Nat) (hlen : len = xs.length) (w : World) (hT : KT w) (hL : LT w) (hx : Sl w a xs) :
    Calls Tryd.prog 60 #[.agg #[.int .i64 r.b, .int .i64 r.f, .bool r.s, .bool r.k], .agg #[.int .i64 c, .int .i64 op, .slice a len cap]] w fun e w' => e = .returned (.bool (brk r (okI c op xs) c 1)) ∧ Below w.heap.size w w' := by
  obtain ⟨b, f, s, k⟩ := r
  have HN : Hid (∀ W, Calls Tryd.prog 88 #[.int .i64 c] W fun e w' => e = .returned (.int .i64 (needs c)) ∧ w' = W) := fun W => needs_i c W
  simp only [brk]
  clear hlen hT hL hx
  obtain ⟨q, Hq⟩ : ∃ q, Hid (q = needs c) := ⟨_, rfl⟩
  rw [← Hq.out] at HN ⊢
  go_enter Tryd.func60, Tryd.ntmps60
  go_wp2
  go_quiet (first | (go_at_call 88; refine Calls.quiet_of_same (HN.out _)))
  go_wp2
  go_ret
  exact ⟨rfl, (two_below _ _).trans ⟨rfl, rfl, rfl, Nat.le_refl _, fun _ _ => rfl⟩⟩

set_option maxRecDepth 10000 in
set_option maxHeartbeats 4000000 in
theorem rule2 (r : Rn) (c op : Int) (a : Option Addr) (xs : List Arg) (len cap : Nat) (hlen : len = xs.length) (w : World) (hT : KT w) (hL : LT w) (hx : Sl w a xs) :
    Calls Tryd.prog 61 #[.agg #[.int .i64 r.b, .int .i64 r.f, .bool r.s, .bool r.k], .agg #[.int .i64 c, .int .i64 op, .slice a len cap]] w fun e w' => e = .returned (.bool (brk r (okI c op xs) c 2)) ∧ Below w.heap.size w w' := by
  obtain ⟨b, f, s, k⟩ := r
  clear hlen hT hL hx
  generalize okI c op xs = ok
  by_cases h1 : c = 1
  · subst h1
    by_cases hb : 16 ≤ b
    · rw [show brk ⟨b, f, s, k⟩ ok 1 2 = true by simp [brk, hb]]
      go_enter Tryd.func61, Tryd.ntmps61
      go_wp2
      go_ret
      exact ⟨rfl, two_below _ _⟩
    · rw [show brk ⟨b, f, s, k⟩ ok 1 2 = false by simp [brk]; omega]
      have hd : decide (16 ≤ b) = false := by simp; omega
      go_enter Tryd.func61, Tryd.ntmps61
      go_wp2
      go_ret
      exact ⟨rfl, two_below _ _⟩
  · rw [show brk ⟨b, f, s, k⟩ ok c 2 = false by simp [brk, h1]]
    have hd : (c == 1) = false := by simp [h1]
    go_enter Tryd.func61, Tryd.ntmps61
    go_wp2
    go_ret
    exact ⟨rfl, two_below _ _⟩

set_option maxRecDepth 10000 in
set_option maxHeartbeats 4000000 in
theorem rule3 (r : Rn) (c op : Int) (a : Option Addr) (xs : List Arg) (len cap : Nat) (hlen : len = xs.length) (w : World) (hT : KT w) (hL : LT w) (hx : Sl w a xs) :
    Calls Tryd.prog 62 #[.agg #[.int .i64 r.b, .int .i64 r.f, .bool r.s, .bool r.k], .agg #[.int .i64 c, .int .i64 op, .slice a len cap]] w fun e w' => e = .returned (.bool (brk r (okI c op xs) c 3)) ∧ Below w.heap.size w w' := by
  obtain ⟨b, f, s, k⟩ := r
  clear hlen hT hL hx
  generalize okI c op xs = ok
  by_cases h7 : c = 7
  · subst h7
    by_cases hb : 1 < b
    · rw [show brk ⟨b, f, s, k⟩ ok 7 3 = true by simp [brk, hb]]
      go_enter Tryd.func62, Tryd.ntmps62
      go_wp2
      go_ret
      exact ⟨rfl, two_below _ _⟩
    · rw [show brk ⟨b, f, s, k⟩ ok 7 3 = false by simp [brk]; omega]
      have hd : decide (1 < b) = false := by simp; omega
      go_enter Tryd.func62, Tryd.ntmps62
      go_wp2
      go_ret
      exact ⟨rfl, two_below _ _⟩
  by_cases h8 : c = 8
  · subst h8
    by_cases hb : 1 < b
    · rw [show brk ⟨b, f, s, k⟩ ok 8 3 = true by simp [brk, hb]]
      go_enter Tryd.func62, Tryd.ntmps62
      go_wp2
      go_ret
      exact ⟨rfl, two_below _ _⟩
    · rw [show brk ⟨b, f, s, k⟩ ok 8 3 = false by simp [brk]; omega]
      have hd : decide (1 < b) = false := by simp; omega
      go_enter Tryd.func62, Tryd.ntmps62
      go_wp2
      go_ret
      exact ⟨rfl, two_below _ _⟩
  by_cases h9 : c = 9
  · subst h9
    by_cases hb : 1 < b
    · rw [show brk ⟨b, f, s, k⟩ ok 9 3 = true by simp [brk, hb]]
      go_enter Tryd.func62, Tryd.ntmps62
      go_wp2
      go_ret
      exact ⟨rfl, two_below _ _⟩
    · rw [show brk ⟨b, f, s, k⟩ ok 9 3 = false by simp [brk]; omega]
      have hd : decide (1 < b) = false := by simp; omega
      go_enter Tryd.func62, Tryd.ntmps62
      go_wp2
      go_ret
      exact ⟨rfl, two_below _ _⟩
  by_cases h10 : c = 10
  · subst h10
    by_cases hb : 1 < b
    · rw [show brk ⟨b, f, s, k⟩ ok 10 3 = true by simp [brk, hb]]
      go_enter Tryd.func62, Tryd.ntmps62
      go_wp2
      go_ret
      exact ⟨rfl, two_below _ _⟩
    · rw [show brk ⟨b, f, s, k⟩ ok 10 3 = false by simp [brk]; omega]
      have hd : decide (1 < b) = false := by simp; omega
      go_enter Tryd.func62, Tryd.ntmps62
      go_wp2
      go_ret
      exact ⟨rfl, two_below _ _⟩
  by_cases h11 : c = 11
  · subst h11
    by_cases hb : 1 < b
    · rw [show brk ⟨b, f, s, k⟩ ok 11 3 = true by simp [brk, hb]]
      go_enter Tryd.func62, Tryd.ntmps62
      go_wp2
      go_ret
      exact ⟨rfl, two_below _ _⟩
    · rw [show brk ⟨b, f, s, k⟩ ok 11 3 = false by simp [brk]; omega]
      have hd : decide (1 < b) = false := by simp; omega
      go_enter Tryd.func62, Tryd.ntmps62
      go_wp2
      go_ret
      exact ⟨rfl, two_below _ _⟩
  rw [show brk ⟨b, f, s, k⟩ ok c 3 = false by simp [brk, h7, h8, h9, h10, h11]]
  go_enter Tryd.func62, Tryd.ntmps62
  go_wp2
  go_ret
  exact ⟨rfl, two_below _ _⟩

set_option maxRecDepth 10000 in
set_option maxHeartbeats 4000000 in
theorem rule4 (r : Rn) (c op : Int) (a : Option Addr) (xs : List Arg) (len cap : Nat) (hlen : len = xs.length) (w : World) (hT : KT w) (hL : LT w) (hx : Sl w a xs) :
    Calls Tryd.prog 63 #[.agg #[.int .i64 r.b, .int .i64 r.f, .bool r.s, .bool r.k], .agg #[.int .i64 c, .int .i64 op, .slice a len cap]] w fun e w' => e = .returned (.bool (brk r (okI c op xs) c 4)) ∧ Below w.heap.size w w' := by
  obtain ⟨b, f, s, k⟩ := r
  clear hlen hT hL hx
  generalize okI c op xs = ok
  by_cases h3 : c = 3
  · subst h3
    cases s with
    | false =>
      rw [show brk ⟨b, f, false, k⟩ ok 3 4 = false by simp [brk]]
      go_enter Tryd.func63, Tryd.ntmps63
      go_wp2
      go_ret
      exact ⟨rfl, two_below _ _⟩
    | true =>
      by_cases hb : b = 1
      · rw [show brk ⟨b, f, true, k⟩ ok 3 4 = true by simp [brk, hb]]
        have hd : (b == 1) = true := by simp [hb]
        clear hb
        go_enter Tryd.func63, Tryd.ntmps63
        go_wp2
        go_ret
        exact ⟨rfl, two_below _ _⟩
      · rw [show brk ⟨b, f, true, k⟩ ok 3 4 = false by simp [brk, hb]]
        have hd : (b == 1) = false := by simp [hb]
        go_enter Tryd.func63, Tryd.ntmps63
        go_wp2
        go_ret
        exact ⟨rfl, two_below _ _⟩
  by_cases h6 : c = 6
  · subst h6
    cases s with
    | false =>
      rw [show brk ⟨b, f, false, k⟩ ok 6 4 = false by simp [brk]]
      go_enter Tryd.func63, Tryd.ntmps63
      go_wp2
      go_ret
      exact ⟨rfl, two_below _ _⟩
    | true =>
      by_cases hb : b = 1
      · rw [show brk ⟨b, f, true, k⟩ ok 6 4 = true by simp [brk, hb]]
        have hd : (b == 1) = true := by simp [hb]
        clear hb
        go_enter Tryd.func63, Tryd.ntmps63
        go_wp2
        go_ret
        exact ⟨rfl, two_below _ _⟩
      · rw [show brk ⟨b, f, true, k⟩ ok 6 4 = false by simp [brk, hb]]
        have hd : (b == 1) = false := by simp [hb]
        go_enter Tryd.func63, Tryd.ntmps63
        go_wp2
        go_ret
        exact ⟨rfl, two_below _ _⟩

  by_cases h5 : c = 5
  · subst h5
    cases s with
    | false =>
      rw [show brk ⟨b, f, false, k⟩ ok 5 4 = false by simp [brk]]
      go_enter Tryd.func63, Tryd.ntmps63
      go_wp2
      go_ret
      exact ⟨rfl, two_below _ _⟩
    | true =>
      by_cases hb : b = 2
      · rw [show brk ⟨b, f, true, k⟩ ok 5 4 = true by simp [brk, hb]]
        have hd : (b == 2) = true := by simp [hb]
        clear hb
        go_enter Tryd.func63, Tryd.ntmps63
        go_wp2
        go_ret
        exact ⟨rfl, two_below _ _⟩
      · rw [show brk ⟨b, f, true, k⟩ ok 5 4 = false by simp [brk, hb]]
        have hd : (b == 2) = false := by simp [hb]
        go_enter Tryd.func63, Tryd.ntmps63
        go_wp2
        go_ret
        exact ⟨rfl, two_below _ _⟩
  rw [show brk ⟨b, f, s, k⟩ ok c 4 = false by simp [brk, h3, h5, h6]]
  go_enter Tryd.func63, Tryd.ntmps63
  go_wp2
  go_ret
  exact ⟨rfl, two_below _ _⟩

set_option maxRecDepth 10000 in
set_option maxHeartbeats 4000000 in
theorem rule5 (r : Rn) (c op : Int) (a : Option Addr) (xs : List Arg) (len cap : Nat) (hlen : len = xs.length) (w : World) (hT : KT w) (hL : LT w) (hx : Sl w a xs) :
    Calls Tryd.prog 64 #[.agg #[.int .i64 r.b, .int .i64 r.f, .bool r.s, .bool r.k], .agg #[.int .i64 c, .int .i64 op, .slice a len cap]] w fun e w' => e = .returned (.bool (brk r (okI c op xs) c 5)) ∧ Below w.heap.size w w' := by
  obtain ⟨b, f, s, k⟩ := r
  clear hlen hT hL hx
  generalize okI c op xs = ok
  by_cases h7 : c = 7
  · subst h7
    by_cases hf : 8 ≤ f
    · rw [show brk ⟨b, f, s, k⟩ ok 7 5 = true by simp [brk, hf]]
      have hd : decide (8 ≤ f) = true := by simp [hf]
      go_enter Tryd.func64, Tryd.ntmps64
      go_wp2
      go_ret
      exact ⟨rfl, two_below _ _⟩
    · rw [show brk ⟨b, f, s, k⟩ ok 7 5 = false by simp [brk, hf] <;> omega]
      have hd : decide (8 ≤ f) = false := by simp [hf] <;> omega
      go_enter Tryd.func64, Tryd.ntmps64
      go_wp2
      go_ret
      exact ⟨rfl, two_below _ _⟩
  by_cases h8 : c = 8
  · subst h8
    by_cases hf : f = 0
    · rw [show brk ⟨b, f, s, k⟩ ok 8 5 = true by simp [brk, hf]]
      have hd : (f == 0) = true := by simp [hf]
      clear hf
      go_enter Tryd.func64, Tryd.ntmps64
      go_wp2
      go_ret
      exact ⟨rfl, two_below _ _⟩
    · rw [show brk ⟨b, f, s, k⟩ ok 8 5 = false by simp [brk, hf]]
      have hd : (f == 0) = false := by simp [hf]
      go_enter Tryd.func64, Tryd.ntmps64
      go_wp2
      go_ret
      exact ⟨rfl, two_below _ _⟩
  by_cases h9 : c = 9
  · subst h9
    by_cases hf : f = 0
    · rw [show brk ⟨b, f, s, k⟩ ok 9 5 = true by simp [brk, hf]]
      have hd : (f == 0) = true := by simp [hf]
      clear hf
      go_enter Tryd.func64, Tryd.ntmps64
      go_wp2
      go_ret
      exact ⟨rfl, two_below _ _⟩
    · rw [show brk ⟨b, f, s, k⟩ ok 9 5 = false by simp [brk, hf]]
      have hd : (f == 0) = false := by simp [hf]
      go_enter Tryd.func64, Tryd.ntmps64
      go_wp2
      go_ret
      exact ⟨rfl, two_below _ _⟩
  by_cases h11 : c = 11
  · subst h11
    by_cases hf : f = 0
    · rw [show brk ⟨b, f, s, k⟩ ok 11 5 = false by simp [brk, hf]]
      have hd : (f == 0) = true := by simp [hf]
      have hd2 : (f != 0) = false := by simp [hf]
      clear hf
      go_enter Tryd.func64, Tryd.ntmps64
      go_wp2
      go_ret
      exact ⟨rfl, two_below _ _⟩
    · rw [show brk ⟨b, f, s, k⟩ ok 11 5 = true by simp [brk, hf]]
      have hd : (f == 0) = false := by simp [hf]
      have hd2 : (f != 0) = true := by simp [hf]
      go_enter Tryd.func64, Tryd.ntmps64
      go_wp2
      go_ret
      exact ⟨rfl, two_below _ _⟩
  rw [show brk ⟨b, f, s, k⟩ ok c 5 = false by simp [brk, h7, h8, h9, h11]]
  go_enter Tryd.func64, Tryd.ntmps64
  go_wp2
  go_ret
  exact ⟨rfl, two_below _ _⟩

set_option maxRecDepth 10000 in
set_option maxHeartbeats 4000000 in
theorem rule6 (r : Rn) (c op : Int) (a : Option Addr) (xs : List Arg) (len cap : Nat) (hlen : len = xs.length) (w : World) (hT : KT w) (hL : LT w) (hx : Sl w a xs) :
    Calls Tryd.prog 65 #[.agg #[.int .i64 r.b, .int .i64 r.f, .bool r.s, .bool r.k], .agg #[.int .i64 c, .int .i64 op, .slice a len cap]] w fun e w' => e = .returned (.bool (brk r (okI c op xs) c 6)) ∧ Below w.heap.size w w' := by
  obtain ⟨b, f, s, k⟩ := r
  clear hlen hT hL hx
  generalize okI c op xs = ok
  by_cases h8 : c = 8
  · subst h8
    cases k with
    | false =>
      rw [show brk ⟨b, f, s, false⟩ ok 8 6 = true by simp [brk]]
      go_enter Tryd.func65, Tryd.ntmps65
      go_wp2
      go_ret
      exact ⟨rfl, two_below _ _⟩
    | true =>
      rw [show brk ⟨b, f, s, true⟩ ok 8 6 = false by simp [brk]]
      go_enter Tryd.func65, Tryd.ntmps65
      go_wp2
      go_ret
      exact ⟨rfl, two_below _ _⟩
  by_cases h9 : c = 9
  · subst h9
    cases k with
    | false =>
      rw [show brk ⟨b, f, s, false⟩ ok 9 6 = true by simp [brk]]
      go_enter Tryd.func65, Tryd.ntmps65
      go_wp2
      go_ret
      exact ⟨rfl, two_below _ _⟩
    | true =>
      rw [show brk ⟨b, f, s, true⟩ ok 9 6 = false by simp [brk]]
      go_enter Tryd.func65, Tryd.ntmps65
      go_wp2
      go_ret
      exact ⟨rfl, two_below _ _⟩
  by_cases h11 : c = 11
  · subst h11
    cases k with
    | false =>
      rw [show brk ⟨b, f, s, false⟩ ok 11 6 = true by simp [brk]]
      go_enter Tryd.func65, Tryd.ntmps65
      go_wp2
      go_ret
      exact ⟨rfl, two_below _ _⟩
    | true =>
      rw [show brk ⟨b, f, s, true⟩ ok 11 6 = false by simp [brk]]
      go_enter Tryd.func65, Tryd.ntmps65
      go_wp2
      go_ret
      exact ⟨rfl, two_below _ _⟩
  rw [show brk ⟨b, f, s, k⟩ ok c 6 = false by simp [brk, h8, h9, h11]]
  go_enter Tryd.func65, Tryd.ntmps65
  go_wp2
  go_ret
  exact ⟨rfl, two_below _ _⟩
end Go.Proofs.YtcmmiamnbefefaaDoor
