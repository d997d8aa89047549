/- ElemIsContact and ElemIsCoil of the specification, at every Op and every operands. -/
import Derived.Test.YtkppcmpdghnmgaaDoorEiM
namespace Go.Proofs.YtkppcmpdghnmgaaDoor
open Go.RowKit Go.Shelf
set_option linter.unusedVariables false

theorem tk1 (c : Nat) (x : Arg) : tk [c] [x] = pp c x := by simp [tk, List.range_succ]
theorem tk2 (c d : Nat) (x y : Arg) : tk [c, d] [x, y] = (pp c x && pp d y) := by simp [tk, List.range_succ]
theorem tk3 (c d f : Nat) (x y z : Arg) : tk [c, d, f] [x, y, z] = (pp c x && (pp d y && pp f z)) := by simp [tk, List.range_succ]
theorem tk0 (x : Arg) (xs : List Arg) : tk [] (x :: xs) = false := by simp [tk]

theorem pp1 (k n p : Int) : pp 1 (k, n, p) = (okA k n p && kB k) := rfl
theorem pp3 (k n p : Int) : pp 3 (k, n, p) = (okA k n p && kW k) := rfl
theorem pp4 (k n p : Int) : pp 4 (k, n, p) = (okA k n p && kR k) := rfl
theorem c_one (k a : Int) : ([a] : List Int).contains k = (k == a) := by
  rw [Bool.eq_iff_iff]; simp
theorem c_cons (k a : Int) (l : List Int) : (a :: l).contains k = (k == a || l.contains k) := by
  rw [Bool.eq_iff_iff]; simp
theorem pp2 (k n p : Int) : pp 2 (k, n, p) = (okA k n p && (k == 5)) := by rw [show pp 2 (k, n, p) = (okA k n p && ([5] : List Int).contains k) from rfl, c_one]
theorem pp5 (k n p : Int) : pp 5 (k, n, p) = (okA k n p && (k == 2 || k == 3)) := by rw [show pp 5 (k, n, p) = (okA k n p && ([2, 3] : List Int).contains k) from rfl, c_cons, c_one]
theorem pp6 (k n p : Int) : pp 6 (k, n, p) = (okA k n p && (k == 2 || (k == 3 || k == 4))) := by rw [show pp 6 (k, n, p) = (okA k n p && ([2, 3, 4] : List Int).contains k) from rfl, c_cons, c_cons, c_one]
theorem pp7 (k n p : Int) : pp 7 (k, n, p) = (okA k n p && (k == 2 || (k == 3 || (k == 4 || (k == 7 || k == 8))))) := by rw [show pp 7 (k, n, p) = (okA k n p && ([2, 3, 4, 7, 8] : List Int).contains k) from rfl, c_cons, c_cons, c_cons, c_cons, c_one]
theorem pp8 (k n p : Int) : pp 8 (k, n, p) = (okA k n p && (k == 4)) := by rw [show pp 8 (k, n, p) = (okA k n p && ([4] : List Int).contains k) from rfl, c_one]
theorem pp9 (k n p : Int) : pp 9 (k, n, p) = (okA k n p && (k == 7)) := by rw [show pp 9 (k, n, p) = (okA k n p && ([7] : List Int).contains k) from rfl, c_one]
theorem pp11 (k n p : Int) : pp 11 (k, n, p) = (okA k n p && (k == 8)) := by rw [show pp 11 (k, n, p) = (okA k n p && ([8] : List Int).contains k) from rfl, c_one]
theorem pp12 (k n p : Int) : pp 12 (k, n, p) = (okA k n p && (k == 9)) := by rw [show pp 12 (k, n, p) = (okA k n p && ([9] : List Int).contains k) from rfl, c_one]
theorem pp13 (k n p : Int) : pp 13 (k, n, p) = (okA k n p && (k == 10)) := by rw [show pp 13 (k, n, p) = (okA k n p && ([10] : List Int).contains k) from rfl, c_one]
theorem pp10 (k n p : Int) : pp 10 (k, n, p) = (okA k n p && (k == 11) && decide (0 ≤ n)) := by rw [show pp 10 (k, n, p) = (okA k n p && ([11] : List Int).contains k && decide (0 ≤ n)) from rfl, c_one]

theorem len1 {xs : List Arg} (h : (xs.length : Int) = 1) : ∃ k n p, xs = [(k, n, p)] := by
  match xs, h with
  | [(k, n, p)], _ => exact ⟨k, n, p, rfl⟩
  | [], h => simp at h
  | _ :: _ :: _, h => simp at h; omega
theorem len2 {xs : List Arg} (h : (xs.length : Int) = 2) : ∃ k n p k1 n1 p1, xs = [(k, n, p), (k1, n1, p1)] := by
  match xs, h with
  | [(k, n, p), (k1, n1, p1)], _ => exact ⟨k, n, p, k1, n1, p1, rfl⟩
  | [], h => simp at h
  | [_], h => simp at h
  | _ :: _ :: _ :: _, h => simp at h; omega
theorem len3 {xs : List Arg} (h : (xs.length : Int) = 3) : ∃ k n p k1 n1 p1 k2 n2 p2, xs = [(k, n, p), (k1, n1, p1), (k2, n2, p2)] := by
  match xs, h with
  | [(k, n, p), (k1, n1, p1), (k2, n2, p2)], _ => exact ⟨k, n, p, k1, n1, p1, k2, n2, p2, rfl⟩
  | [], h => simp at h
  | [_], h => simp at h
  | [_, _], h => simp at h
  | _ :: _ :: _ :: _ :: _, h => simp at h; omega

theorem Sl.at {w : World} {a : Option Addr} {x : Arg} {xs : List Arg} (h : Sl w a (x :: xs)) : ∃ b o, a = some ⟨b, o, none⟩ ∧ Ops w b o (x :: xs) := by
  rcases h with h | h
  · cases h
  · exact h

theorem spec_iscontact (op : Int) (a : Option Addr) (xs : List Arg) (len cap : Nat) (hlen : len = xs.length) (w : World) (hx : Sl w a xs) :
    Calls Tryd.prog 32 #[.agg #[.int .i64 op, .slice a len cap]] w fun e w' => e = .returned (.bool (decide (op ≤ 10) && rtk op xs)) ∧ Below w.heap.size w w' := by
  subst hlen
  by_cases hbad : op < 1 ∨ 10 < op ∨ (xs.length : Int) ≠ arN op
  · have e0 : (decide (op ≤ 10) && rtk op xs) = false := by
      rcases hbad with h | h | h
      · have : ndP op = [] := by unfold ndP; repeat rw [if_neg (by omega)]
        rw [nd_none op this]; simp
      · have : decide (op ≤ 10) = false := by simp; omega
        rw [this]; rfl
      · rw [rtk_no h]; simp
    rw [e0]
    exact scontact_no op (arN op) a xs.length cap w hbad (fun W => spec_arity' op W)
  · have hl : (xs.length : Int) = arN op := by omega
    have ed : decide (op ≤ 10) = true := by simp; omega
    rw [ed, Bool.true_and]
    have hA := fun W => spec_arity' op W
    rw [← hl] at hA
    have : op = 1 ∨ op = 2 ∨ op = 3 ∨ op = 4 ∨ op = 5 ∨ op = 6 ∨ op = 7 ∨ op = 8 ∨ op = 9 ∨ op = 10 := by omega
    rcases this with h | h | h | h | h | h | h | h | h | h
    · subst h
      obtain ⟨k, n, p, rfl⟩ := len1 (hl.trans rfl)
      obtain ⟨b, o, rfl, ho⟩ := hx.at
      rw [show rtk 1 [(k, n, p)] = (okA k n p && kB k) by rw [rtk, show ndP 1 = [1] from rfl, show orP 1 = [] from rfl, tk1, tk0, Bool.or_false, pp1]]
      exact scontact1 1 k n p _ b o cap w (by decide) (by decide) ho hA (fun W => spec_isbit k n p W)
    · subst h
      obtain ⟨k, n, p, rfl⟩ := len1 (hl.trans rfl)
      obtain ⟨b, o, rfl, ho⟩ := hx.at
      rw [show rtk 2 [(k, n, p)] = (okA k n p && kB k) by rw [rtk, show ndP 2 = [1] from rfl, show orP 2 = [] from rfl, tk1, tk0, Bool.or_false, pp1]]
      exact scontact1 2 k n p _ b o cap w (by decide) (by decide) ho hA (fun W => spec_isbit k n p W)
    · subst h
      obtain ⟨k, n, p, k1, n1, p1, rfl⟩ := len2 (hl.trans rfl)
      obtain ⟨b, o, rfl, ho⟩ := hx.at
      rw [show rtk 3 [(k, n, p), (k1, n1, p1)] = ((okA k n p && kB k) && (okA k1 n1 p1 && (k1 == 5))) by rw [rtk, show ndP 3 = [1, 2] from rfl, show orP 3 = [] from rfl, tk2, tk0, Bool.or_false, pp1, pp2]]
      exact scontact2 3 k n p k1 n1 p1 _ _ b o cap w (by decide) (by decide) (by decide) ho hA (fun W => spec_isbit k n p W) (fun W => spec_ok k1 n1 p1 W)
    · subst h
      obtain ⟨k, n, p, k1, n1, p1, rfl⟩ := len2 (hl.trans rfl)
      obtain ⟨b, o, rfl, ho⟩ := hx.at
      rw [show rtk 4 [(k, n, p), (k1, n1, p1)] = ((okA k n p && kB k) && (okA k1 n1 p1 && (k1 == 5))) by rw [rtk, show ndP 4 = [1, 2] from rfl, show orP 4 = [] from rfl, tk2, tk0, Bool.or_false, pp1, pp2]]
      exact scontact2 4 k n p k1 n1 p1 _ _ b o cap w (by decide) (by decide) (by decide) ho hA (fun W => spec_isbit k n p W) (fun W => spec_ok k1 n1 p1 W)
    · subst h
      obtain ⟨k, n, p, k1, n1, p1, rfl⟩ := len2 (hl.trans rfl)
      obtain ⟨b, o, rfl, ho⟩ := hx.at
      rw [show rtk 5 [(k, n, p), (k1, n1, p1)] = ((okA k n p && kW k) && (okA k1 n1 p1 && kW k1) || (okA k n p && kR k) && (okA k1 n1 p1 && kR k1)) by rw [rtk, show ndP 5 = [3, 3] from rfl, show orP 5 = [4, 4] from rfl, tk2, tk2, pp3, pp3, pp4, pp4]]
      exact scontact3 5 k n p k1 n1 p1 _ _ _ _ b o cap w (by decide) (by decide) (by decide) (by decide) ho hA (fun W => spec_iswhole k n p W) (fun W => spec_iswhole k1 n1 p1 W) (fun W => spec_isreal k n p W) (fun W => spec_isreal k1 n1 p1 W)
    · subst h
      obtain ⟨k, n, p, k1, n1, p1, rfl⟩ := len2 (hl.trans rfl)
      obtain ⟨b, o, rfl, ho⟩ := hx.at
      rw [show rtk 6 [(k, n, p), (k1, n1, p1)] = ((okA k n p && kW k) && (okA k1 n1 p1 && kW k1) || (okA k n p && kR k) && (okA k1 n1 p1 && kR k1)) by rw [rtk, show ndP 6 = [3, 3] from rfl, show orP 6 = [4, 4] from rfl, tk2, tk2, pp3, pp3, pp4, pp4]]
      exact scontact3 6 k n p k1 n1 p1 _ _ _ _ b o cap w (by decide) (by decide) (by decide) (by decide) ho hA (fun W => spec_iswhole k n p W) (fun W => spec_iswhole k1 n1 p1 W) (fun W => spec_isreal k n p W) (fun W => spec_isreal k1 n1 p1 W)
    · subst h
      obtain ⟨k, n, p, k1, n1, p1, rfl⟩ := len2 (hl.trans rfl)
      obtain ⟨b, o, rfl, ho⟩ := hx.at
      rw [show rtk 7 [(k, n, p), (k1, n1, p1)] = ((okA k n p && kW k) && (okA k1 n1 p1 && kW k1) || (okA k n p && kR k) && (okA k1 n1 p1 && kR k1)) by rw [rtk, show ndP 7 = [3, 3] from rfl, show orP 7 = [4, 4] from rfl, tk2, tk2, pp3, pp3, pp4, pp4]]
      exact scontact3 7 k n p k1 n1 p1 _ _ _ _ b o cap w (by decide) (by decide) (by decide) (by decide) ho hA (fun W => spec_iswhole k n p W) (fun W => spec_iswhole k1 n1 p1 W) (fun W => spec_isreal k n p W) (fun W => spec_isreal k1 n1 p1 W)
    · subst h
      obtain ⟨k, n, p, k1, n1, p1, rfl⟩ := len2 (hl.trans rfl)
      obtain ⟨b, o, rfl, ho⟩ := hx.at
      rw [show rtk 8 [(k, n, p), (k1, n1, p1)] = ((okA k n p && kW k) && (okA k1 n1 p1 && kW k1) || (okA k n p && kR k) && (okA k1 n1 p1 && kR k1)) by rw [rtk, show ndP 8 = [3, 3] from rfl, show orP 8 = [4, 4] from rfl, tk2, tk2, pp3, pp3, pp4, pp4]]
      exact scontact3 8 k n p k1 n1 p1 _ _ _ _ b o cap w (by decide) (by decide) (by decide) (by decide) ho hA (fun W => spec_iswhole k n p W) (fun W => spec_iswhole k1 n1 p1 W) (fun W => spec_isreal k n p W) (fun W => spec_isreal k1 n1 p1 W)
    · subst h
      obtain ⟨k, n, p, k1, n1, p1, rfl⟩ := len2 (hl.trans rfl)
      obtain ⟨b, o, rfl, ho⟩ := hx.at
      rw [show rtk 9 [(k, n, p), (k1, n1, p1)] = ((okA k n p && kW k) && (okA k1 n1 p1 && kW k1) || (okA k n p && kR k) && (okA k1 n1 p1 && kR k1)) by rw [rtk, show ndP 9 = [3, 3] from rfl, show orP 9 = [4, 4] from rfl, tk2, tk2, pp3, pp3, pp4, pp4]]
      exact scontact3 9 k n p k1 n1 p1 _ _ _ _ b o cap w (by decide) (by decide) (by decide) (by decide) ho hA (fun W => spec_iswhole k n p W) (fun W => spec_iswhole k1 n1 p1 W) (fun W => spec_isreal k n p W) (fun W => spec_isreal k1 n1 p1 W)
    · subst h
      obtain ⟨k, n, p, k1, n1, p1, rfl⟩ := len2 (hl.trans rfl)
      obtain ⟨b, o, rfl, ho⟩ := hx.at
      rw [show rtk 10 [(k, n, p), (k1, n1, p1)] = ((okA k n p && kW k) && (okA k1 n1 p1 && kW k1) || (okA k n p && kR k) && (okA k1 n1 p1 && kR k1)) by rw [rtk, show ndP 10 = [3, 3] from rfl, show orP 10 = [4, 4] from rfl, tk2, tk2, pp3, pp3, pp4, pp4]]
      exact scontact3 10 k n p k1 n1 p1 _ _ _ _ b o cap w (by decide) (by decide) (by decide) (by decide) ho hA (fun W => spec_iswhole k n p W) (fun W => spec_iswhole k1 n1 p1 W) (fun W => spec_isreal k n p W) (fun W => spec_isreal k1 n1 p1 W)

set_option maxRecDepth 10000 in
set_option maxHeartbeats 1000000 in
theorem scoil_no (op N : Int) (a : Option Addr) (len cap : Nat) (w : World) (h : op < 21 ∨ 37 < op ∨ (len : Int) ≠ N)
    (hA : Hid (∀ W, Calls Tryd.prog 49 #[.int .i64 op] W fun e w' => e = .returned (.int .i64 N) ∧ Below W.heap.size W w')) :
    Calls Tryd.prog 33 #[.agg #[.int .i64 op, .slice a len cap]] w fun e w' => e = .returned (.bool false) ∧ Below w.heap.size w w' := by
  have hb0 : Below w.heap.size w (w.alloc (.cells #[.int .i64 op, .slice a len cap] 26)) := (Below.refl _ _).alloc (Nat.le_refl _) _
  have k0 := cell_regrown (w := w.alloc (.cells #[.int .i64 op, .slice a len cap] 26)) (a := ⟨w.heap.size, 0, none⟩) (v := .int .i64 op) (by simp)
  have k1 := cell_regrown (w := w.alloc (.cells #[.int .i64 op, .slice a len cap] 26)) (a := ⟨w.heap.size, 1, none⟩) (v := .slice a len cap) (by simp)
  have cA : ∀ d os, Calls Tryd.prog 49 #[.int .i64 op] (Sort.grow (redrawn (w.alloc (.cells #[.int .i64 op, .slice a len cap] 26)) d) os) fun e w'' => e = .returned (.int .i64 N) ∧ ∃ p : Regrown, w'' = Sort.grow (redrawn (w.alloc (.cells #[.int .i64 op, .slice a len cap] 26)) p.d) p.os :=
    fun d os => Calls.regrown_of (hA.out _)
  clear hA
  by_cases h1 : op < 21
  · clear h
    go_enter Tryd.func33, Tryd.ntmps33
    go_upto_region 1 with fail
    refine wp_region_quiet_below (by kernel_rfl) (by kernel_rfl) ?_
    repeat (go_big_quiet_step (first | exact cA _ _))
    refine wpQuiet_nil ?_
    intro _ hw'
    obtain ⟨⟨dq, osq⟩, hw''⟩ := hw'
    subst hw''
    go_wp2
    go_ret
    exact ⟨rfl, hb0.trans ((below_regrown _ dq osq).mono hb0.size)⟩
  · by_cases h2 : 37 < op
    · clear h
      go_enter Tryd.func33, Tryd.ntmps33
      go_upto_region 1 with fail
      refine wp_region_quiet_below (by kernel_rfl) (by kernel_rfl) ?_
      repeat (go_big_quiet_step (first | exact cA _ _))
      refine wpQuiet_nil ?_
      intro _ hw'
      obtain ⟨⟨dq, osq⟩, hw''⟩ := hw'
      subst hw''
      go_wp2
      go_ret
      exact ⟨rfl, hb0.trans ((below_regrown _ dq osq).mono hb0.size)⟩
    · have h3 : ((len : Int) == N) = false := by rw [beq_eq_false_iff_ne]; omega
      clear h
      go_enter Tryd.func33, Tryd.ntmps33
      go_upto_region 1 with fail
      refine wp_region_quiet_below (by kernel_rfl) (by kernel_rfl) ?_
      repeat (go_big_quiet_step (first | exact cA _ _))
      refine wpQuiet_nil ?_
      intro _ hw'
      obtain ⟨⟨dq, osq⟩, hw''⟩ := hw'
      subst hw''
      go_wp2
      go_ret
      exact ⟨rfl, hb0.trans ((below_regrown _ dq osq).mono hb0.size)⟩
/-- The operands as a function of their place. -/
def xf (xs : List Arg) (n : Nat) : Arg := xs.getD n (0, 0, 0)
theorem Ops.fn {w : World} {b o : Nat} {xs : List Arg} (h : Ops w b o xs) (n : Nat) (hn : n < xs.length) :
    w.cell? ⟨b, o + n * 3, none⟩ = some (.int .i64 (xf xs n).1) ∧ w.cell? ⟨b, o + n * 3 + 1, none⟩ = some (.int .i64 (xf xs n).2.1) ∧ w.cell? ⟨b, o + n * 3 + 2, none⟩ = some (.int .i64 (xf xs n).2.2) :=
  h n _ (by unfold xf; rw [List.getD_eq_getElem?_getD, List.getElem?_eq_getElem hn]; rfl)

theorem calc2 (op k n p k1 n1 p1 : Int) (h35 : op ≠ 35) : calcR op 2 (xf [(k, n, p), (k1, n1, p1)]) = (tk [12, 3] [(k, n, p), (k1, n1, p1)] || tk [13, 4] [(k, n, p), (k1, n1, p1)]) := by
  rw [tk2, tk2, pp12, pp13, pp3, pp4]
  have h0 : xf [(k, n, p), (k1, n1, p1)] 0 = (k, n, p) := rfl
  have h1 : xf [(k, n, p), (k1, n1, p1)] 1 = (k1, n1, p1) := rfl
  by_cases h9 : k = 9
  · subst h9; simp [calcR, h0, h1, List.range_succ]
  · by_cases h10 : k = 10
    · subst h10; simp [calcR, h0, h1, List.range_succ, h35]
    · have b9 : (k == 9) = false := by simp [h9]
      have b10 : (k == 10) = false := by simp [h10]
      simp [calcR, h0, h1, List.range_succ, b9, b10]
theorem calc3 (op k n p k1 n1 p1 k2 n2 p2 : Int) (h35 : op ≠ 35) : calcR op 3 (xf [(k, n, p), (k1, n1, p1), (k2, n2, p2)]) = (tk [12, 3, 3] [(k, n, p), (k1, n1, p1), (k2, n2, p2)] || tk [13, 4, 4] [(k, n, p), (k1, n1, p1), (k2, n2, p2)]) := by
  rw [tk3, tk3, pp12, pp13, pp3, pp4, pp3, pp4]
  have h0 : xf [(k, n, p), (k1, n1, p1), (k2, n2, p2)] 0 = (k, n, p) := rfl
  have h1 : xf [(k, n, p), (k1, n1, p1), (k2, n2, p2)] 1 = (k1, n1, p1) := rfl
  have h2 : xf [(k, n, p), (k1, n1, p1), (k2, n2, p2)] 2 = (k2, n2, p2) := rfl
  by_cases h9 : k = 9
  · subst h9; simp [calcR, h0, h1, h2, List.range_succ]
  · by_cases h10 : k = 10
    · subst h10; simp [calcR, h0, h1, h2, List.range_succ, h35]
    · have b9 : (k == 9) = false := by simp [h9]
      have b10 : (k == 10) = false := by simp [h10]
      simp [calcR, h0, h1, h2, List.range_succ, b9, b10]
theorem calc35 (k n p k1 n1 p1 k2 n2 p2 : Int) : calcR 35 3 (xf [(k, n, p), (k1, n1, p1), (k2, n2, p2)]) = tk [12, 3, 3] [(k, n, p), (k1, n1, p1), (k2, n2, p2)] := by
  rw [tk3, pp12, pp3, pp3]
  have h0 : xf [(k, n, p), (k1, n1, p1), (k2, n2, p2)] 0 = (k, n, p) := rfl
  have h1 : xf [(k, n, p), (k1, n1, p1), (k2, n2, p2)] 1 = (k1, n1, p1) := rfl
  have h2 : xf [(k, n, p), (k1, n1, p1), (k2, n2, p2)] 2 = (k2, n2, p2) := rfl
  by_cases h9 : k = 9
  · subst h9; simp [calcR, h0, h1, h2, List.range_succ]
  · have b9 : (k == 9) = false := by simp [h9]
    simp [calcR, h0, h1, h2, List.range_succ, b9]

theorem spec_iscoil (op : Int) (a : Option Addr) (xs : List Arg) (len cap : Nat) (hlen : len = xs.length) (w : World) (hx : Sl w a xs) :
    Calls Tryd.prog 33 #[.agg #[.int .i64 op, .slice a len cap]] w fun e w' => e = .returned (.bool (decide (21 ≤ op) && rtk op xs)) ∧ Below w.heap.size w w' := by
  subst hlen
  by_cases hbad : op < 21 ∨ 37 < op ∨ (xs.length : Int) ≠ arN op
  · have e0 : (decide (21 ≤ op) && rtk op xs) = false := by
      rcases hbad with h | h | h
      · have : decide (21 ≤ op) = false := by simp; omega
        rw [this]; rfl
      · have : ndP op = [] := by unfold ndP; repeat rw [if_neg (by omega)]
        rw [nd_none op this]; simp
      · rw [rtk_no h]; simp
    rw [e0]
    exact scoil_no op (arN op) a xs.length cap w hbad (fun W => spec_arity' op W)
  · have hl : (xs.length : Int) = arN op := by omega
    have ed : decide (21 ≤ op) = true := by simp; omega
    rw [ed, Bool.true_and]
    have hA := fun W => spec_arity' op W
    rw [← hl] at hA
    rcases c17 op (by omega) (by omega) with h | h | h | h | h | h | h | h | h | h | h | h | h | h | h | h | h
    · subst h
      obtain ⟨k, n, p, rfl⟩ := len1 (hl.trans rfl)
      obtain ⟨b, o, rfl, ho⟩ := hx.at
      have e1 : rtk 21 [(k, n, p)] = ((okA k n p && (k == 2 || k == 3))) := by
        rw [rtk, show ndP 21 = [5] from rfl, show orP 21 = [] from rfl, tk1, tk0, Bool.or_false, pp5]
        
      rw [e1]
      exact scoil21 k n p _ b o cap w ho hA (fun W => spec_kind k n p 2 3 W)
    · subst h
      obtain ⟨k, n, p, rfl⟩ := len1 (hl.trans rfl)
      obtain ⟨b, o, rfl, ho⟩ := hx.at
      have e1 : rtk 22 [(k, n, p)] = ((okA k n p && (k == 2 || k == 3)) || (okA k n p && (k == 4 || k == 4))) := by
        rw [rtk, show ndP 22 = [6] from rfl, show orP 22 = [] from rfl, tk1, tk0, Bool.or_false, pp6]
        generalize (okA k n p) = Z0
        generalize (k == 2) = Z1
        generalize (k == 3) = Z2
        generalize (k == 4) = Z3
        revert Z0 Z1 Z2 Z3
        decide
      rw [e1]
      exact scoil22 k n p _ _ b o cap w ho hA (fun W => spec_kind k n p 2 3 W) (fun W => spec_kind k n p 4 4 W)
    · subst h
      obtain ⟨k, n, p, rfl⟩ := len1 (hl.trans rfl)
      obtain ⟨b, o, rfl, ho⟩ := hx.at
      have e1 : rtk 23 [(k, n, p)] = ((okA k n p && (k == 2 || k == 3)) || (okA k n p && (k == 4 || k == 7)) || (okA k n p && (k == 8 || k == 8))) := by
        rw [rtk, show ndP 23 = [7] from rfl, show orP 23 = [] from rfl, tk1, tk0, Bool.or_false, pp7]
        generalize (okA k n p) = Z0
        generalize (k == 2) = Z1
        generalize (k == 3) = Z2
        generalize (k == 4) = Z3
        generalize (k == 7) = Z4
        generalize (k == 8) = Z5
        revert Z0 Z1 Z2 Z3 Z4 Z5
        decide
      rw [e1]
      exact scoil23 k n p _ _ _ b o cap w ho hA (fun W => spec_kind k n p 2 3 W) (fun W => spec_kind k n p 4 7 W) (fun W => spec_kind k n p 8 8 W)
    · subst h
      obtain ⟨k, n, p, k1, n1, p1, rfl⟩ := len2 (hl.trans rfl)
      obtain ⟨b, o, rfl, ho⟩ := hx.at
      have e1 : rtk 24 [(k, n, p), (k1, n1, p1)] = ((okA k n p && (k == 2 || k == 3)) && (okA k1 n1 p1 && (k1 == 5 || k1 == 5))) := by
        rw [rtk, show ndP 24 = [5, 2] from rfl, show orP 24 = [] from rfl, tk2, tk0, Bool.or_false, pp5, pp2]
        generalize (okA k n p) = Z0
        generalize (okA k1 n1 p1) = Z1
        generalize (k == 2) = Z2
        generalize (k == 3) = Z3
        generalize (k1 == 5) = Z4
        revert Z0 Z1 Z2 Z3 Z4
        decide
      rw [e1]
      exact scoil24 k n p k1 n1 p1 _ _ b o cap w ho hA (fun W => spec_kind k n p 2 3 W) (fun W => spec_kind k1 n1 p1 5 5 W)
    · subst h
      obtain ⟨k, n, p, rfl⟩ := len1 (hl.trans rfl)
      obtain ⟨b, o, rfl, ho⟩ := hx.at
      have e1 : rtk 25 [(k, n, p)] = ((okA k n p && (k == 4 || k == 4))) := by
        rw [rtk, show ndP 25 = [8] from rfl, show orP 25 = [] from rfl, tk1, tk0, Bool.or_false, pp8]
        generalize (okA k n p) = Z0
        generalize (k == 4) = Z1
        revert Z0 Z1
        decide
      rw [e1]
      exact scoil25 k n p _ b o cap w ho hA (fun W => spec_kind k n p 4 4 W)
    · subst h
      obtain ⟨k, n, p, k1, n1, p1, rfl⟩ := len2 (hl.trans rfl)
      obtain ⟨b, o, rfl, ho⟩ := hx.at
      have e1 : rtk 26 [(k, n, p), (k1, n1, p1)] = ((okA k n p && (k == 7 || k == 7)) && (okA k1 n1 p1 && (k1 == 11 || k1 == 11)) && decide (0 ≤ n1)) := by
        rw [rtk, show ndP 26 = [9, 10] from rfl, show orP 26 = [] from rfl, tk2, tk0, Bool.or_false, pp9, pp10]
        generalize (okA k n p) = Z0
        generalize (okA k1 n1 p1) = Z1
        generalize (k == 7) = Z2
        generalize (k1 == 11) = Z3
        generalize (decide (0 ≤ n1)) = Z4
        revert Z0 Z1 Z2 Z3 Z4
        decide
      rw [e1]
      exact scoil26 k n p k1 n1 p1 _ _ b o cap w ho hA (fun W => spec_kind k n p 7 7 W) (fun W => spec_kind k1 n1 p1 11 11 W)
    · subst h
      obtain ⟨k, n, p, k1, n1, p1, rfl⟩ := len2 (hl.trans rfl)
      obtain ⟨b, o, rfl, ho⟩ := hx.at
      have e1 : rtk 27 [(k, n, p), (k1, n1, p1)] = ((okA k n p && (k == 7 || k == 7)) && (okA k1 n1 p1 && (k1 == 11 || k1 == 11)) && decide (0 ≤ n1)) := by
        rw [rtk, show ndP 27 = [9, 10] from rfl, show orP 27 = [] from rfl, tk2, tk0, Bool.or_false, pp9, pp10]
        generalize (okA k n p) = Z0
        generalize (okA k1 n1 p1) = Z1
        generalize (k == 7) = Z2
        generalize (k1 == 11) = Z3
        generalize (decide (0 ≤ n1)) = Z4
        revert Z0 Z1 Z2 Z3 Z4
        decide
      rw [e1]
      exact scoil27 k n p k1 n1 p1 _ _ b o cap w ho hA (fun W => spec_kind k n p 7 7 W) (fun W => spec_kind k1 n1 p1 11 11 W)
    · subst h
      obtain ⟨k, n, p, k1, n1, p1, rfl⟩ := len2 (hl.trans rfl)
      obtain ⟨b, o, rfl, ho⟩ := hx.at
      have e1 : rtk 28 [(k, n, p), (k1, n1, p1)] = ((okA k n p && (k == 7 || k == 7)) && (okA k1 n1 p1 && (k1 == 11 || k1 == 11)) && decide (0 ≤ n1)) := by
        rw [rtk, show ndP 28 = [9, 10] from rfl, show orP 28 = [] from rfl, tk2, tk0, Bool.or_false, pp9, pp10]
        generalize (okA k n p) = Z0
        generalize (okA k1 n1 p1) = Z1
        generalize (k == 7) = Z2
        generalize (k1 == 11) = Z3
        generalize (decide (0 ≤ n1)) = Z4
        revert Z0 Z1 Z2 Z3 Z4
        decide
      rw [e1]
      exact scoil28 k n p k1 n1 p1 _ _ b o cap w ho hA (fun W => spec_kind k n p 7 7 W) (fun W => spec_kind k1 n1 p1 11 11 W)
    · subst h
      obtain ⟨k, n, p, k1, n1, p1, rfl⟩ := len2 (hl.trans rfl)
      obtain ⟨b, o, rfl, ho⟩ := hx.at
      have e1 : rtk 29 [(k, n, p), (k1, n1, p1)] = ((okA k n p && (k == 8 || k == 8)) && (okA k1 n1 p1 && (k1 == 11 || k1 == 11)) && decide (0 ≤ n1)) := by
        rw [rtk, show ndP 29 = [11, 10] from rfl, show orP 29 = [] from rfl, tk2, tk0, Bool.or_false, pp11, pp10]
        generalize (okA k n p) = Z0
        generalize (okA k1 n1 p1) = Z1
        generalize (k == 8) = Z2
        generalize (k1 == 11) = Z3
        generalize (decide (0 ≤ n1)) = Z4
        revert Z0 Z1 Z2 Z3 Z4
        decide
      rw [e1]
      exact scoil29 k n p k1 n1 p1 _ _ b o cap w ho hA (fun W => spec_kind k n p 8 8 W) (fun W => spec_kind k1 n1 p1 11 11 W)
    · subst h
      obtain ⟨k, n, p, k1, n1, p1, rfl⟩ := len2 (hl.trans rfl)
      obtain ⟨b, o, rfl, ho⟩ := hx.at
      have e1 : calcR 30 2 (xf [(k, n, p), (k1, n1, p1)]) = rtk 30 [(k, n, p), (k1, n1, p1)] := ((calc2 30 k n p k1 n1 p1 (by decide)) : calcR 30 2 (xf [(k, n, p), (k1, n1, p1)]) = rtk 30 [(k, n, p), (k1, n1, p1)])
      rw [← e1]
      exact scoil30 k n p k1 n1 p1 _ b o cap w ho hA (fun W hW => spec_calc 30 2 (by decide) (by decide) (xf [(k, n, p), (k1, n1, p1)]) b o cap W (fun n hn => (ho.later hW).fn n (by simpa using hn)))
    · subst h
      obtain ⟨k, n, p, k1, n1, p1, k2, n2, p2, rfl⟩ := len3 (hl.trans rfl)
      obtain ⟨b, o, rfl, ho⟩ := hx.at
      have e1 : calcR 31 3 (xf [(k, n, p), (k1, n1, p1), (k2, n2, p2)]) = rtk 31 [(k, n, p), (k1, n1, p1), (k2, n2, p2)] := ((calc3 31 k n p k1 n1 p1 k2 n2 p2 (by decide)) : calcR 31 3 (xf [(k, n, p), (k1, n1, p1), (k2, n2, p2)]) = rtk 31 [(k, n, p), (k1, n1, p1), (k2, n2, p2)])
      rw [← e1]
      exact scoil31 k n p k1 n1 p1 k2 n2 p2 _ b o cap w ho hA (fun W hW => spec_calc 31 3 (by decide) (by decide) (xf [(k, n, p), (k1, n1, p1), (k2, n2, p2)]) b o cap W (fun n hn => (ho.later hW).fn n (by simpa using hn)))
    · subst h
      obtain ⟨k, n, p, k1, n1, p1, k2, n2, p2, rfl⟩ := len3 (hl.trans rfl)
      obtain ⟨b, o, rfl, ho⟩ := hx.at
      have e1 : calcR 32 3 (xf [(k, n, p), (k1, n1, p1), (k2, n2, p2)]) = rtk 32 [(k, n, p), (k1, n1, p1), (k2, n2, p2)] := ((calc3 32 k n p k1 n1 p1 k2 n2 p2 (by decide)) : calcR 32 3 (xf [(k, n, p), (k1, n1, p1), (k2, n2, p2)]) = rtk 32 [(k, n, p), (k1, n1, p1), (k2, n2, p2)])
      rw [← e1]
      exact scoil32 k n p k1 n1 p1 k2 n2 p2 _ b o cap w ho hA (fun W hW => spec_calc 32 3 (by decide) (by decide) (xf [(k, n, p), (k1, n1, p1), (k2, n2, p2)]) b o cap W (fun n hn => (ho.later hW).fn n (by simpa using hn)))
    · subst h
      obtain ⟨k, n, p, k1, n1, p1, k2, n2, p2, rfl⟩ := len3 (hl.trans rfl)
      obtain ⟨b, o, rfl, ho⟩ := hx.at
      have e1 : calcR 33 3 (xf [(k, n, p), (k1, n1, p1), (k2, n2, p2)]) = rtk 33 [(k, n, p), (k1, n1, p1), (k2, n2, p2)] := ((calc3 33 k n p k1 n1 p1 k2 n2 p2 (by decide)) : calcR 33 3 (xf [(k, n, p), (k1, n1, p1), (k2, n2, p2)]) = rtk 33 [(k, n, p), (k1, n1, p1), (k2, n2, p2)])
      rw [← e1]
      exact scoil33 k n p k1 n1 p1 k2 n2 p2 _ b o cap w ho hA (fun W hW => spec_calc 33 3 (by decide) (by decide) (xf [(k, n, p), (k1, n1, p1), (k2, n2, p2)]) b o cap W (fun n hn => (ho.later hW).fn n (by simpa using hn)))
    · subst h
      obtain ⟨k, n, p, k1, n1, p1, k2, n2, p2, rfl⟩ := len3 (hl.trans rfl)
      obtain ⟨b, o, rfl, ho⟩ := hx.at
      have e1 : calcR 34 3 (xf [(k, n, p), (k1, n1, p1), (k2, n2, p2)]) = rtk 34 [(k, n, p), (k1, n1, p1), (k2, n2, p2)] := ((calc3 34 k n p k1 n1 p1 k2 n2 p2 (by decide)) : calcR 34 3 (xf [(k, n, p), (k1, n1, p1), (k2, n2, p2)]) = rtk 34 [(k, n, p), (k1, n1, p1), (k2, n2, p2)])
      rw [← e1]
      exact scoil34 k n p k1 n1 p1 k2 n2 p2 _ b o cap w ho hA (fun W hW => spec_calc 34 3 (by decide) (by decide) (xf [(k, n, p), (k1, n1, p1), (k2, n2, p2)]) b o cap W (fun n hn => (ho.later hW).fn n (by simpa using hn)))
    · subst h
      obtain ⟨k, n, p, k1, n1, p1, k2, n2, p2, rfl⟩ := len3 (hl.trans rfl)
      obtain ⟨b, o, rfl, ho⟩ := hx.at
      have e1 : calcR 35 3 (xf [(k, n, p), (k1, n1, p1), (k2, n2, p2)]) = rtk 35 [(k, n, p), (k1, n1, p1), (k2, n2, p2)] := (by rw [calc35, rtk, show ndP 35 = [12, 3, 3] from rfl, show orP 35 = [] from rfl, tk0, Bool.or_false] : calcR 35 3 (xf [(k, n, p), (k1, n1, p1), (k2, n2, p2)]) = rtk 35 [(k, n, p), (k1, n1, p1), (k2, n2, p2)])
      rw [← e1]
      exact scoil35 k n p k1 n1 p1 k2 n2 p2 _ b o cap w ho hA (fun W hW => spec_calc 35 3 (by decide) (by decide) (xf [(k, n, p), (k1, n1, p1), (k2, n2, p2)]) b o cap W (fun n hn => (ho.later hW).fn n (by simpa using hn)))
    · subst h
      obtain ⟨k, n, p, k1, n1, p1, rfl⟩ := len2 (hl.trans rfl)
      obtain ⟨b, o, rfl, ho⟩ := hx.at
      have e1 : rtk 36 [(k, n, p), (k1, n1, p1)] = ((okA k n p && (k == 10 || k == 10)) && (okA k1 n1 p1 && kW k1)) := by
        rw [rtk, show ndP 36 = [13, 3] from rfl, show orP 36 = [] from rfl, tk2, tk0, Bool.or_false, pp13, pp3]
        generalize (okA k n p) = Z0
        generalize (okA k1 n1 p1) = Z1
        generalize (k == 10) = Z2
        generalize (kW k1) = Z3
        revert Z0 Z1 Z2 Z3
        decide
      rw [e1]
      exact scoil36 k n p k1 n1 p1 _ _ b o cap w ho hA (fun W => spec_kind k n p 10 10 W) (fun W => spec_iswhole k1 n1 p1 W)
    · subst h
      obtain ⟨k, n, p, k1, n1, p1, rfl⟩ := len2 (hl.trans rfl)
      obtain ⟨b, o, rfl, ho⟩ := hx.at
      have e1 : rtk 37 [(k, n, p), (k1, n1, p1)] = ((okA k n p && (k == 9 || k == 9)) && (okA k1 n1 p1 && kR k1)) := by
        rw [rtk, show ndP 37 = [12, 4] from rfl, show orP 37 = [] from rfl, tk2, tk0, Bool.or_false, pp12, pp4]
        generalize (okA k n p) = Z0
        generalize (okA k1 n1 p1) = Z1
        generalize (k == 9) = Z2
        generalize (kR k1) = Z3
        revert Z0 Z1 Z2 Z3
        decide
      rw [e1]
      exact scoil37 k n p k1 n1 p1 _ _ b o cap w ho hA (fun W => spec_kind k n p 9 9 W) (fun W => spec_isreal k1 n1 p1 W)
end Go.Proofs.YtkppcmpdghnmgaaDoor

