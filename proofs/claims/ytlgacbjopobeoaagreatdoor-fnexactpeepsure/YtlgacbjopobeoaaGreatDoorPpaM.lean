/- What is always so of a contact, as mathematics. -/
import Derived.Test.YtlgacbjopobeoaaGreatDoorAte
import Derived.Test.YtlgacbjopobeoaaGreatDoorGg
import Derived.Test.YtlgacbjopobeoaaGreatDoorPt0
import Derived.Deep.RegionHeld3
namespace Go.Proofs.YtlgacbjopobeoaaGreatDoor
open Go.RowKit Go.Shelf
set_option linter.unusedVariables false

/-- The contact says the same on every memory. -/
def knB (op : Int) (xs : List Arg) : Bool :=
  isC op xs && (if op ≤ 2 then decide ((ag xs 0).1 = 6) && decide ((ag xs 0).2.1 ≤ 1) else twB op xs && (decide (ag xs 0 = ag xs 1) || (decide ((ag xs 0).1 = 11) && decide ((ag xs 1).1 = 11))))
/-- What is always so of a contact. -/
noncomputable def sureV (op : Int) (xs : List Arg) : Int := if knB op xs then (if tB memZero op xs then 1 else -1) else 0

theorem given0 : given memZero (pl 6 0) = true := by decide +kernel
theorem given1 : given memZero (pl 6 1) = false := by decide +kernel
theorem okA6 {n p : Int} (h : okA 6 n p = true) : 0 ≤ n := by
  unfold okA at h
  rw [if_neg (by decide), if_neg (by decide), if_neg (by decide)] at h
  exact (of_decide_eq_true h).1
/-- A given bit. -/
theorem sure_bit (op k n p : Int) (ho : op = 1 ∨ op = 2) (hc : isC op [(k, n, p)] = true) :
    sureV op [(k, n, p)] = if k = 6 ∧ n ≤ 1 then (if op = 1 then 1 - 2 * n else 2 * n - 1) else 0 := by
  have hk : knB op [(k, n, p)] = (decide (k = 6) && decide (n ≤ 1)) := by
    unfold knB; rw [hc, if_pos (by omega)]; rfl
  unfold sureV
  rw [hk]
  by_cases h : k = 6 ∧ n ≤ 1
  · obtain ⟨rfl, hn⟩ := h
    have h0 : 0 ≤ n := by
      rcases isC_cases hc with ⟨_, k, n', p', he, hok, _⟩ | ⟨h3, _⟩
      · simp only [List.cons.injEq, Prod.mk.injEq, and_true] at he
        obtain ⟨rfl, rfl, rfl⟩ := he
        exact okA6 hok
      · omega
    rw [if_pos (show (6 : Int) = 6 ∧ n ≤ 1 from ⟨rfl, hn⟩)]
    rw [show (decide ((6 : Int) = 6) && decide (n ≤ 1)) = true by simp [hn], if_pos rfl]
    have hm : ∀ x, mbit memZero 6 x = given memZero (pl 6 x) := fun x => by unfold mbit; rw [if_neg (by decide), if_neg (by decide), if_neg (by decide), if_neg (by decide), if_neg (by decide), if_pos rfl]
    obtain rfl | rfl : n = 0 ∨ n = 1 := by omega
    · rcases ho with rfl | rfl
      · rw [show tB memZero 1 [(6, 0, p)] = mbit memZero 6 0 by unfold tB; rw [if_pos rfl]; rfl, hm, given0]; rfl
      · rw [show tB memZero 2 [(6, 0, p)] = !mbit memZero 6 0 by unfold tB; rw [if_neg (by decide), if_pos rfl]; rfl, hm, given0]; rfl
    · rcases ho with rfl | rfl
      · rw [show tB memZero 1 [(6, 1, p)] = mbit memZero 6 1 by unfold tB; rw [if_pos rfl]; rfl, hm, given1]; rfl
      · rw [show tB memZero 2 [(6, 1, p)] = !mbit memZero 6 1 by unfold tB; rw [if_neg (by decide), if_pos rfl]; rfl, hm, given1]; rfl
  · rw [if_neg h, if_neg]
    simp only [Bool.and_eq_true, decide_eq_true_eq]; exact h

theorem wc_self (j a b : Int) : wc j a a = wc j b b := by
  unfold wc; simp
/-- A test of two. -/
theorem sure_two (op k n p k1 n1 p1 : Int) (h3 : 3 ≤ op) (hc : isC op [(k, n, p), (k1, n1, p1)] = true) :
    sureV op [(k, n, p), (k1, n1, p1)] = if 5 ≤ op ∧ (okA k n p && kW k) = true ∧ ((k, n, p) = (k1, n1, p1) ∨ (k = 11 ∧ k1 = 11)) then (if wc (op - 4) (IntKind.i16.wrap n) (IntKind.i16.wrap n1) then 1 else -1) else 0 := by
  have hk : knB op [(k, n, p), (k1, n1, p1)] = ((decide (5 ≤ op) && (okA k n p && kW k)) && (decide ((k, n, p) = (k1, n1, p1)) || (decide (k = 11) && decide (k1 = 11)))) := by
    unfold knB; rw [hc, if_neg (by omega)]; rfl
  unfold sureV
  rw [hk]
  by_cases h : 5 ≤ op ∧ (okA k n p && kW k) = true ∧ ((k, n, p) = (k1, n1, p1) ∨ (k = 11 ∧ k1 = 11))
  · rw [if_pos h]
    obtain ⟨h5, hw, he⟩ := h
    have h10 : op ≤ 10 := by
      rcases isC_cases hc with ⟨h, _⟩ | ⟨_, h, _⟩
      · omega
      · exact h
    rw [if_pos (by simp only [Bool.and_eq_true, decide_eq_true_eq, Bool.or_eq_true]; rw [Bool.and_eq_true] at hw; exact ⟨⟨h5, hw⟩, he⟩)]
    have hkk : k ≠ 10 ∧ k ≠ 12 ∧ k ≠ 13 := by
      rw [Bool.and_eq_true] at hw
      have := hw.2
      unfold kW at this
      simp at this
      omega
    have ht : tB memZero op [(k, n, p), (k1, n1, p1)] = wc (op - 4) (mwhole memZero k n) (mwhole memZero k1 n1) := by
      unfold tB
      rw [if_neg (by omega), if_neg (by omega), if_neg (by omega), if_neg (by omega), if_pos ⟨h5, h10⟩]
      show cmpB memZero (op - 4) k n p k1 n1 p1 = _
      unfold cmpB
      rw [if_neg (by omega)]
    rw [ht]
    rcases he with he | ⟨rfl, rfl⟩
    · simp only [Prod.mk.injEq] at he
      obtain ⟨rfl, rfl, rfl⟩ := he
      rw [wc_self (op - 4) (mwhole memZero k n) (IntKind.i16.wrap n)]
    · have hm : ∀ x, mwhole memZero 11 x = IntKind.i16.wrap x := fun x => by unfold mwhole; rw [if_neg (by decide), if_neg (by decide), if_neg (by decide), if_pos rfl]
      rw [hm, hm]
  · rw [if_neg h, if_neg]
    simp only [Bool.and_eq_true, decide_eq_true_eq, Bool.or_eq_true]
    rintro ⟨⟨h5, hw⟩, he⟩
    exact h ⟨h5, by rw [Bool.and_eq_true]; exact hw, he⟩
theorem sure_no {op : Int} {xs : List Arg} (h : isC op xs = false) : sureV op xs = 0 := by
  unfold sureV knB; rw [h]; simp
theorem memOk_zeroP : MemOk memZero := ⟨memZero_size, fun i v hv => by
  have hi : i < 136 := by have := (Array.getElem?_eq_some_iff.1 hv).1; rw [memZero_size] at this; exact this
  rw [memZero_get hi] at hv
  obtain rfl := Option.some.inj hv
  have : (List.range 136).all (fun i => kd i == 1 || kd i == 16 || kd i == 32 || kd i == 64 || kd i == 116 || kd i == 99) = true := by decide
  have := List.all_eq_true.1 this i (by simpa using hi)
  simp at this
  rcases this with ((((h | h) | h) | h) | h) | h <;> rw [h] <;> simp [zc, CellIs, Value.oneCell', FloatKind.has]⟩
end Go.Proofs.YtlgacbjopobeoaaGreatDoor
/- PeepSure of the program. -/
namespace Go.Proofs.YtlgacbjopobeoaaGreatDoor
open Go.RowKit Go.Shelf
set_option linter.unusedVariables false
set_option linter.unusedSimpArgs false

theorem below_call {w W W' : World} (g : Below W.heap.size W W') (h : Below w.heap.size w W) : Below w.heap.size w W' := h.trans (g.mono h.size)

set_option maxRecDepth 10000 in
set_option maxHeartbeats 2000000 in
theorem known_one (op k n p : Int) (b o cap : Nat) (w : World) (ho : op = 1 ∨ op = 2) (hx : Ops w b o [(k, n, p)])
    (HC : Hid (∀ W, Below w.heap.size w W → Calls Tryz.prog 35 #[.agg #[.int .i64 op, .slice (some ⟨b, o, none⟩) 1 cap]] W fun e w' => e = .returned (.bool true) ∧ Below W.heap.size W w')) :
    Calls Tryz.prog 79 #[.agg #[.int .i64 op, .slice (some ⟨b, o, none⟩) 1 cap]] w fun e w' => e = .returned (.bool (decide (k = 6) && decide (n ≤ 1))) ∧ Below w.heap.size w w' := by
  have b0 : Below w.heap.size w (w.alloc (.cells #[.int .i64 op, .slice (some ⟨b, o, none⟩) 1 cap] 64)) := (Below.refl _ _).alloc (Nat.le_refl _) _
  have p0 : (w.alloc (.cells #[.int .i64 op, .slice (some ⟨b, o, none⟩) 1 cap] 64)).cell? ⟨w.heap.size, 0, none⟩ = some (.int .i64 op) := by simp
  have p1 : (w.alloc (.cells #[.int .i64 op, .slice (some ⟨b, o, none⟩) 1 cap] 64)).cell? ⟨w.heap.size, 1, none⟩ = some (.slice (some ⟨b, o, none⟩) 1 cap) := by simp
  go_enter Tryz.func79, Tryz.ntmps79
  go_wp2_with fail
  refine (HC.out _ b0).mono ?_
  rintro e w1 ⟨rfl, g1⟩
  have b1 := b0.trans (g1.mono b0.size)
  have c0 := cell_later g1 p0
  have c1 := cell_later g1 p1
  obtain ⟨x0, x1, x2⟩ := (hx.later b1).c3 (j := 0) rfl (o' := o) (by omega)
  have lt1 : b < w1.heap.size := World.block_lt_of_cell? _ _ x0
  have lt2 : w.heap.size < w1.heap.size := World.block_lt_of_cell? _ _ c0
  clear g1 b0 p0 p1 hx HC
  have z1 : IntKind.i64.wrap (((1 : Nat) : Int) - 1) = 0 := rfl
  have z2 : IntKind.i64.wrap ((1 : Int) - 1) = 0 := rfl
  have z3 : IntKind.i64.wrap 0 = 0 := rfl
  go_upto_region 3 with fail
  go_region_held3 (fun w' => w'.cell? ⟨w.heap.size, 0, none⟩ = some (.int .i64 op) ∧ w'.cell? ⟨w.heap.size, 1, none⟩ = some (.slice (some ⟨b, o, none⟩) 1 cap) ∧ w'.cell? ⟨b, o, none⟩ = some (.int .i64 k) ∧ w'.cell? ⟨b, o + 1, none⟩ = some (.int .i64 n) ∧ w'.cell? ⟨b, o + 1 + 1, none⟩ = some (.int .i64 p))
    (first | go_keep | exact ⟨c0, c1, x0, x1, x2⟩)
    (fail)
  all_goals
    have kn : (k = 6 ∧ n ≤ 1) ∨ (k = 6 ∧ ¬ n ≤ 1) ∨ ((k == 6) = false ∧ k ≠ 6) := by simp only [beq_eq_false_iff_ne]; omega
    rcases ho with rfl | rfl
    all_goals
      rcases kn with ⟨rfl, h1⟩ | ⟨rfl, h1⟩ | ⟨h1, h2⟩
      all_goals
        go_wp2
        go_ret
        refine ⟨?_, ?_⟩
        · first | rfl | simp [*]
        · go_grown

set_option maxRecDepth 10000 in
set_option maxHeartbeats 2000000 in
theorem known_two (op k n p k1 n1 p1 : Int) (b o cap : Nat) (w : World) (ho : 3 ≤ op) (hT : KT w) (hx : Ops w b o [(k, n, p), (k1, n1, p1)]) (tw : Bool)
    (HC : Hid (∀ W, Below w.heap.size w W → Calls Tryz.prog 35 #[.agg #[.int .i64 op, .slice (some ⟨b, o, none⟩) 2 cap]] W fun e w' => e = .returned (.bool true) ∧ Below W.heap.size W w'))
    (HW : Hid (∀ W, Below w.heap.size w W → Calls Tryz.prog 133 #[.agg #[.int .i64 op, .slice (some ⟨b, o, none⟩) 2 cap]] W fun e w' => e = .returned (.bool tw) ∧ Below W.heap.size W w')) :
    Calls Tryz.prog 79 #[.agg #[.int .i64 op, .slice (some ⟨b, o, none⟩) 2 cap]] w fun e w' => e = .returned (.bool (tw && (decide ((k, n, p) = (k1, n1, p1)) || (decide (k = 11) && decide (k1 = 11))))) ∧ Below w.heap.size w w' := by
  have b0 : Below w.heap.size w (w.alloc (.cells #[.int .i64 op, .slice (some ⟨b, o, none⟩) 2 cap] 64)) := (Below.refl _ _).alloc (Nat.le_refl _) _
  have p0 : (w.alloc (.cells #[.int .i64 op, .slice (some ⟨b, o, none⟩) 2 cap] 64)).cell? ⟨w.heap.size, 0, none⟩ = some (.int .i64 op) := by simp
  have pp1 : (w.alloc (.cells #[.int .i64 op, .slice (some ⟨b, o, none⟩) 2 cap] 64)).cell? ⟨w.heap.size, 1, none⟩ = some (.slice (some ⟨b, o, none⟩) 2 cap) := by simp
  have e1 : (op == 1) = false := by simp; omega
  have e2 : (op == 2) = false := by simp; omega
  go_enter Tryz.func79, Tryz.ntmps79
  go_wp2_with fail
  refine (HC.out _ b0).mono ?_
  rintro e w1 ⟨rfl, g1⟩
  have b1 := b0.trans (g1.mono b0.size)
  have c0 := cell_later g1 p0
  have c1 := cell_later g1 pp1
  obtain ⟨x0, x1, x2⟩ := (hx.later b1).c3 (j := 0) rfl (o' := o) (by omega)
  obtain ⟨y0, y1, y2⟩ := (hx.later b1).c3 (j := 1) rfl (o' := o + 3) (by omega)
  have lt1 : b < w1.heap.size := World.block_lt_of_cell? _ _ x0
  have lt2 : w.heap.size < w1.heap.size := World.block_lt_of_cell? _ _ c0
  clear g1 b0 p0 pp1 hx HC
  have z1 : IntKind.i64.wrap (((2 : Nat) : Int) - 1) = 1 := rfl
  have z2 : IntKind.i64.wrap ((2 : Int) - 1) = 1 := rfl
  have z3 : IntKind.i64.wrap 1 = 1 := rfl
  go_upto_region 3 with fail
  go_region_held3 (fun w' => w'.cell? ⟨w.heap.size, 0, none⟩ = some (.int .i64 op) ∧ w'.cell? ⟨w.heap.size, 1, none⟩ = some (.slice (some ⟨b, o, none⟩) 2 cap) ∧ w'.cell? ⟨b, o, none⟩ = some (.int .i64 k) ∧ w'.cell? ⟨b, o + 1, none⟩ = some (.int .i64 n) ∧ w'.cell? ⟨b, o + 1 + 1, none⟩ = some (.int .i64 p) ∧ w'.cell? ⟨b, o + 3, none⟩ = some (.int .i64 k1) ∧ w'.cell? ⟨b, o + 3 + 1, none⟩ = some (.int .i64 n1) ∧ w'.cell? ⟨b, o + 3 + 1 + 1, none⟩ = some (.int .i64 p1))
    (first | go_keep | exact ⟨c0, c1, x0, x1, x2, y0, y1, y2⟩)
    (fail)
  all_goals
    go_wp2_with fail
    refine (HW.out _ (by go_grown)).mono ?_
    rintro e w3 ⟨rfl, g3⟩
    have HD : (w3.cell? ⟨w1.heap.size, 0, none⟩ = some (.int .i64 k) ∧ w3.cell? ⟨w1.heap.size, 1, none⟩ = some (.int .i64 n) ∧ w3.cell? ⟨w1.heap.size, 2, none⟩ = some (.int .i64 p) ∧ w3.cell? ⟨w1.heap.size + 1, 0, none⟩ = some (.int .i64 k1) ∧ w3.cell? ⟨w1.heap.size + 1, 1, none⟩ = some (.int .i64 n1) ∧ w3.cell? ⟨w1.heap.size + 1, 2, none⟩ = some (.int .i64 p1)) ∨ (w3.cell? ⟨w1.heap.size + 1, 0, none⟩ = some (.int .i64 k) ∧ w3.cell? ⟨w1.heap.size + 1, 1, none⟩ = some (.int .i64 n) ∧ w3.cell? ⟨w1.heap.size + 1, 2, none⟩ = some (.int .i64 p) ∧ w3.cell? ⟨w1.heap.size, 0, none⟩ = some (.int .i64 k1) ∧ w3.cell? ⟨w1.heap.size, 1, none⟩ = some (.int .i64 n1) ∧ w3.cell? ⟨w1.heap.size, 2, none⟩ = some (.int .i64 p1)) := by
      first
        | (left; refine ⟨cell_later g3 ?_, cell_later g3 ?_, cell_later g3 ?_, cell_later g3 ?_, cell_later g3 ?_, cell_later g3 ?_⟩ <;> (go_simp; done))
        | (right; refine ⟨cell_later g3 ?_, cell_later g3 ?_, cell_later g3 ?_, cell_later g3 ?_, cell_later g3 ?_, cell_later g3 ?_⟩ <;> (go_simp; done))
    have b3 : Below w.heap.size w w3 := below_call g3 (by go_grown)
    clear g3 c0 c1 x0 x1 x2 y0 y1 y2 z1 z2 z3 b1 lt1 lt2 HW
    rcases HD with ⟨d0, d1, d2, f0, f1, f2⟩ | ⟨d0, d1, d2, f0, f1, f2⟩
    all_goals
      cases tw
      · go_wp2
        go_ret
        exact ⟨rfl, b3⟩
      · have key : (k1 = k ∧ n1 = n ∧ p1 = p) ∨ ¬ k = k1 ∨ (k1 = k ∧ ¬ n = n1) ∨ (k1 = k ∧ n1 = n ∧ ¬ p = p1) := by omega
        rcases key with ⟨rfl, rfl, rfl⟩ | g | ⟨rfl, g⟩ | ⟨rfl, rfl, g⟩
        · go_wp2
          go_ret
          exact ⟨by simp, b3⟩
        · have g' : (k == k1) = false := by simp [g]
          by_cases h : k = 11
          · subst h
            have q2 : (k1 == 11) = false := by simp; omega
            have q3 : ¬ k1 = 11 := by omega
            go_wp2
            go_ret
            exact ⟨by simp [g, q3], b3⟩
          · have q1 : (k == 11) = false := by simp [h]
            go_wp2
            all_goals
              go_ret
              exact ⟨by simp [g, h], b3⟩
        all_goals
          have g' := beq_eq_false_iff_ne.2 g
          by_cases h : k1 = 11
          · subst h
            go_wp2
            go_ret
            exact ⟨by simp [g], b3⟩
          · have q1 : (k1 == 11) = false := by simp [h]
            go_wp2
            go_ret
            exact ⟨by simp [g, h], b3⟩

theorem known_i (op : Int) (a : Option Addr) (len cap : Nat) (xs : List Arg) (w : World) (hT : KT w) (hl : len = xs.length) (hx : Sl w a xs) :
    Calls Tryz.prog 79 #[.agg #[.int .i64 op, .slice a len cap]] w fun e w' => e = .returned (.bool (knB op xs)) ∧ Below w.heap.size w w' := by
  have HC : Hid (∀ W, Below w.heap.size w W → Calls Tryz.prog 35 #[.agg #[.int .i64 op, .slice a len cap]] W fun e w' => e = .returned (.bool (isC op xs)) ∧ Below W.heap.size W w') := fun W g => impl_iscontact op a xs len cap hl W (hT.later g) (hx.later g)
  cases hc : isC op xs with
  | false =>
    rw [show knB op xs = false by unfold knB; rw [hc]; rfl]
    rw [hc] at HC
    have b0 : Below w.heap.size w (w.alloc (.cells #[.int .i64 op, .slice a len cap] 64)) := (Below.refl _ _).alloc (Nat.le_refl _) _
    clear hc hx hT hl
    go_enter Tryz.func79, Tryz.ntmps79
    go_wp2_with fail
    refine (HC.out _ b0).mono ?_
    rintro e w1 ⟨rfl, g1⟩
    have b1 := b0.trans (g1.mono b0.size)
    clear g1 b0
    go_wp2
    go_ret
    exact ⟨rfl, b1⟩
  | true =>
    rw [hc] at HC
    rcases isC_cases hc with ⟨ho, k, n, p, rfl, _, _⟩ | ⟨h3, h10, k, n, p, k1, n1, p1, rfl⟩
    · obtain ⟨b, o, rfl, hO⟩ := hx.at
      rw [show knB op [(k, n, p)] = (decide (k = 6) && decide (n ≤ 1)) by unfold knB; rw [hc, if_pos (by omega)]; rfl]
      subst hl
      exact known_one op k n p b o cap w ho hO HC
    · obtain ⟨b, o, rfl, hO⟩ := hx.at
      rw [show knB op [(k, n, p), (k1, n1, p1)] = (twB op [(k, n, p), (k1, n1, p1)] && (decide ((k, n, p) = (k1, n1, p1)) || (decide (k = 11) && decide (k1 = 11)))) by unfold knB; rw [hc, if_neg (by omega)]; rfl]
      subst hl
      exact known_two op k n p k1 n1 p1 b o cap w h3 hT hO _ HC (fun W g => tests_i op _ 2 cap _ W (hT.later g) rfl (.inr ⟨b, o, rfl, hO.later g⟩) (fun _ => by simp))

set_option maxRecDepth 10000 in
set_option maxHeartbeats 2000000 in
theorem psure_i (op : Int) (a : Option Addr) (len cap : Nat) (xs : List Arg) (w : World) (hT : KT w) (hl : len = xs.length) (hx : Sl w a xs) :
    Calls Tryz.prog 32 #[.agg #[.int .i64 op, .slice a len cap]] w fun e w' => e = .returned (.int .i64 (sureV op xs)) ∧ Below w.heap.size w w' := by
  have HK : Hid (∀ W, Below w.heap.size w W → Calls Tryz.prog 79 #[.agg #[.int .i64 op, .slice a len cap]] W fun e w' => e = .returned (.bool (knB op xs)) ∧ Below W.heap.size W w') := fun W g => known_i op a len cap xs W (hT.later g) hl (hx.later g)
  have b0 : Below w.heap.size w (w.alloc (.cells #[.int .i64 op, .slice a len cap] 64)) := (Below.refl _ _).alloc (Nat.le_refl _) _
  have p0 : (w.alloc (.cells #[.int .i64 op, .slice a len cap] 64)).cell? ⟨w.heap.size, 0, none⟩ = some (.int .i64 op) := by simp
  have q0 : (w.alloc (.cells #[.int .i64 op, .slice a len cap] 64)).cell? ⟨w.heap.size, 1, none⟩ = some (.slice a len cap) := by simp
  cases hk : knB op xs with
  | false =>
    rw [show sureV op xs = 0 by unfold sureV; rw [hk]; rfl]
    rw [hk] at HK
    clear hk hx hT hl
    go_enter Tryz.func32, Tryz.ntmps32
    go_wp2_with fail
    refine (HK.out _ b0).mono ?_
    rintro e w1 ⟨rfl, g1⟩
    have b1 := b0.trans (g1.mono b0.size)
    clear g1 b0
    go_wp2
    go_ret
    exact ⟨rfl, b1⟩
  | true =>
    rw [hk] at HK
    have h34 : op ≠ 3 ∧ op ≠ 4 := by
      unfold knB at hk
      constructor
      · rintro rfl
        rw [if_neg (by decide)] at hk
        unfold twB at hk
        simp at hk
      · rintro rfl
        rw [if_neg (by decide)] at hk
        unfold twB at hk
        simp at hk
    have h9 : len ≤ 9 := by
      have hc : isC op xs = true := by
        unfold knB at hk
        rw [Bool.and_eq_true] at hk
        exact hk.1
      rcases isC_cases hc with ⟨_, k, n, p, rfl, _⟩ | ⟨_, _, k, n, p, k1, n1, p1, rfl⟩
      · subst hl; simp
      · subst hl; simp
    have hz := zero_mem.1
    obtain ⟨Z, HZ⟩ : ∃ Z, Hid (Z = memZero) := ⟨_, rfl⟩
    rw [← HZ.out] at hz
    have HZs : Hid (MemOk Z) := (by rw [HZ.out]; exact memOk_zeroP : MemOk Z)
    have Ic : Hid ((Tryz.prog.info? 39).map (·.size) = some Z.size) := (by rw [HZs.out.size]; exact zero_mem.2 : (Tryz.prog.info? 39).map (·.size) = some Z.size)
    obtain ⟨v, Hv⟩ : ∃ v, Hid (v = tB memZero op xs) := ⟨_, rfl⟩
    rw [show sureV op xs = if v then 1 else -1 by unfold sureV; rw [hk, if_pos rfl, Hv.out]]
    have HA : Hid (∀ W, Below w.heap.size w W → Calls Tryz.prog 34 #[.agg Z, .agg #[.int .i64 op, .slice a len cap]] W fun e w' => e = .returned (.tuple #[.agg Z, .bool v]) ∧ Below W.heap.size W w') := fun W g => by
      have h := impl_test op a len cap xs memZero memOk_zeroP W (hT.later g) hl h9 (hx.later g)
      rw [tM_out h34.1 h34.2] at h
      rw [HZ.out, Hv.out]
      exact h
    clear hk hx hT hl Hv HZ h34 h9
    go_enter Tryz.func32, Tryz.ntmps32
    go_wp2_with fail
    refine (HK.out _ b0).mono ?_
    rintro e w1 ⟨rfl, g1⟩
    have b1 := b0.trans (g1.mono b0.size)
    have c0 := cell_later g1 p0
    have c1 := cell_later g1 q0
    clear g1 b0 p0 q0
    go_wp2_with fail
    refine (HA.out _ b1).mono ?_
    rintro e w2 ⟨rfl, g2⟩
    have b2 := b1.trans (g2.mono b1.size)
    obtain ⟨u3, HU3⟩ : ∃ u, Hid (u = (w2.alloc (.cells Z 39)).setRow w2.heap.size Z) := ⟨_, rfl⟩
    have HS3 : Hid ((storeVar 39 ⟨w2.heap.size, 0, none⟩ (.agg Z)).run Tryz.prog (w2.alloc (.cells Z 39)) = .ok () u3) := by
      rw [HU3.out]; exact store_all (heap_alloc_last _ _) _ _ rfl Ic.out HZs.out.one
    have b3 : Hid (Below w.heap.size w u3) := (by rw [HU3.out]; exact below_setRow (b2.alloc b2.size _) b2.size _ : Below w.heap.size w u3)
    clear g2 HU3 HK HA c0 c1 b1 b2
    cases v
    all_goals
      go_wp2_with (first | (refine wpL_store rfl 39 _ _ rfl _ _ rfl _ rfl _ HS3.out ?_) | fail)
      go_ret
      exact ⟨rfl, b3.out⟩
end Go.Proofs.YtlgacbjopobeoaaGreatDoor
/- PeepSure of the specification. -/
namespace Go.Proofs.YtlgacbjopobeoaaGreatDoor
open Go.RowKit Go.Shelf
set_option linter.unusedVariables false
set_option linter.unusedSimpArgs false

set_option maxRecDepth 10000 in
set_option maxHeartbeats 2000000 in
theorem ssure_one (op k n p : Int) (b o cap : Nat) (w : World) (ho : op = 1 ∨ op = 2) (hn : k = 6 → 0 ≤ n) (hx : Ops w b o [(k, n, p)])
    (HC : Hid (∀ W, Below w.heap.size w W → Calls Tryz.prog 37 #[.agg #[.int .i64 op, .slice (some ⟨b, o, none⟩) 1 cap]] W fun e w' => e = .returned (.bool true) ∧ Below W.heap.size W w')) :
    Calls Tryz.prog 33 #[.agg #[.int .i64 op, .slice (some ⟨b, o, none⟩) 1 cap]] w fun e w' => e = .returned (.int .i64 (if k = 6 ∧ n ≤ 1 then (if op = 1 then 1 - 2 * n else 2 * n - 1) else 0)) ∧ Below w.heap.size w w' := by
  have b0 : Below w.heap.size w (w.alloc (.cells #[.int .i64 op, .slice (some ⟨b, o, none⟩) 1 cap] 64)) := (Below.refl _ _).alloc (Nat.le_refl _) _
  have p0 : (w.alloc (.cells #[.int .i64 op, .slice (some ⟨b, o, none⟩) 1 cap] 64)).cell? ⟨w.heap.size, 0, none⟩ = some (.int .i64 op) := by simp
  have p1 : (w.alloc (.cells #[.int .i64 op, .slice (some ⟨b, o, none⟩) 1 cap] 64)).cell? ⟨w.heap.size, 1, none⟩ = some (.slice (some ⟨b, o, none⟩) 1 cap) := by simp
  by_cases hg : k = 6 ∧ n ≤ 1
  · rw [if_pos hg]
    obtain ⟨rfl, h1⟩ := hg
    have h0 := hn rfl
    obtain rfl | rfl : n = 0 ∨ n = 1 := by omega
    all_goals
      rcases ho with rfl | rfl
      all_goals
        clear hn h0 h1
        go_enter Tryz.func33, Tryz.ntmps33
        go_wp2_with fail
        refine (HC.out _ b0).mono ?_
        rintro e w1 ⟨rfl, g1⟩
        have b1 := b0.trans (g1.mono b0.size)
        have c0 := cell_later g1 p0
        have c1 := cell_later g1 p1
        obtain ⟨x0, x1, x2⟩ := (hx.later b1).c3 (j := 0) rfl (o' := o) (by omega)
        have lt1 : b < w1.heap.size := World.block_lt_of_cell? _ _ x0
        have lt2 : w.heap.size < w1.heap.size := World.block_lt_of_cell? _ _ c0
        clear g1 b0 p0 p1 hx HC
        go_wp2
        go_ret
        exact ⟨rfl, by go_grown⟩
  · rw [if_neg hg]
    have hg' : k ≠ 6 ∨ ¬ n ≤ 1 := by omega
    by_cases h6 : k = 6
    · have h1 : ¬ n ≤ 1 := by omega
      subst h6
      rcases ho with rfl | rfl
      all_goals
        clear hn hg hg'
        go_enter Tryz.func33, Tryz.ntmps33
        go_wp2_with fail
        refine (HC.out _ b0).mono ?_
        rintro e w1 ⟨rfl, g1⟩
        have b1 := b0.trans (g1.mono b0.size)
        have c0 := cell_later g1 p0
        have c1 := cell_later g1 p1
        obtain ⟨x0, x1, x2⟩ := (hx.later b1).c3 (j := 0) rfl (o' := o) (by omega)
        have lt1 : b < w1.heap.size := World.block_lt_of_cell? _ _ x0
        have lt2 : w.heap.size < w1.heap.size := World.block_lt_of_cell? _ _ c0
        clear g1 b0 p0 p1 hx HC
        go_wp2
        go_ret
        exact ⟨rfl, by go_grown⟩
    · have h6' : (k == 6) = false := by simp [h6]
      rcases ho with rfl | rfl
      all_goals
        clear hn hg hg'
        go_enter Tryz.func33, Tryz.ntmps33
        go_wp2_with fail
        refine (HC.out _ b0).mono ?_
        rintro e w1 ⟨rfl, g1⟩
        have b1 := b0.trans (g1.mono b0.size)
        have c0 := cell_later g1 p0
        have c1 := cell_later g1 p1
        obtain ⟨x0, x1, x2⟩ := (hx.later b1).c3 (j := 0) rfl (o' := o) (by omega)
        have lt1 : b < w1.heap.size := World.block_lt_of_cell? _ _ x0
        have lt2 : w.heap.size < w1.heap.size := World.block_lt_of_cell? _ _ c0
        clear g1 b0 p0 p1 hx HC
        go_wp2
        go_ret
        exact ⟨rfl, by go_grown⟩

set_option maxRecDepth 10000 in
set_option maxHeartbeats 2000000 in
theorem ssure_low (op k n p k1 n1 p1 : Int) (b o cap : Nat) (w : World) (h3 : 3 ≤ op) (h5 : op < 5) (hx : Ops w b o [(k, n, p), (k1, n1, p1)])
    (HC : Hid (∀ W, Below w.heap.size w W → Calls Tryz.prog 37 #[.agg #[.int .i64 op, .slice (some ⟨b, o, none⟩) 2 cap]] W fun e w' => e = .returned (.bool true) ∧ Below W.heap.size W w')) :
    Calls Tryz.prog 33 #[.agg #[.int .i64 op, .slice (some ⟨b, o, none⟩) 2 cap]] w fun e w' => e = .returned (.int .i64 0) ∧ Below w.heap.size w w' := by
  have b0 : Below w.heap.size w (w.alloc (.cells #[.int .i64 op, .slice (some ⟨b, o, none⟩) 2 cap] 64)) := (Below.refl _ _).alloc (Nat.le_refl _) _
  have p0 : (w.alloc (.cells #[.int .i64 op, .slice (some ⟨b, o, none⟩) 2 cap] 64)).cell? ⟨w.heap.size, 0, none⟩ = some (.int .i64 op) := by simp
  have q0 : (w.alloc (.cells #[.int .i64 op, .slice (some ⟨b, o, none⟩) 2 cap] 64)).cell? ⟨w.heap.size, 1, none⟩ = some (.slice (some ⟨b, o, none⟩) 2 cap) := by simp
  have kn : (k = 6 ∧ n ≤ 1) ∨ (k = 6 ∧ ¬ n ≤ 1) ∨ (k == 6) = false := by simp only [beq_eq_false_iff_ne]; omega
  have e1 : (op == 1) = false := by simp; omega
  have e2 : (op == 2) = false := by simp; omega
  rcases kn with ⟨rfl, h1⟩ | ⟨rfl, h1⟩ | h1
  all_goals
    go_enter Tryz.func33, Tryz.ntmps33
    go_wp2_with fail
    refine (HC.out _ b0).mono ?_
    rintro e w1 ⟨rfl, g1⟩
    have b1 := b0.trans (g1.mono b0.size)
    have c0 := cell_later g1 p0
    have c1 := cell_later g1 q0
    obtain ⟨x0, x1, x2⟩ := (hx.later b1).c3 (j := 0) rfl (o' := o) (by omega)
    obtain ⟨y0, y1, y2⟩ := (hx.later b1).c3 (j := 1) rfl (o' := o + 3) (by omega)
    have lt1 : b < w1.heap.size := World.block_lt_of_cell? _ _ x0
    have lt2 : w.heap.size < w1.heap.size := World.block_lt_of_cell? _ _ c0
    clear g1 b0 p0 q0 hx HC
    go_wp2
    go_ret
    exact ⟨rfl, by go_grown⟩

set_option maxRecDepth 10000 in
set_option maxHeartbeats 2000000 in
theorem ssure_nowh (op k n p k1 n1 p1 : Int) (b o cap : Nat) (w : World) (h5 : 5 ≤ op) (hx : Ops w b o [(k, n, p), (k1, n1, p1)])
    (HC : Hid (∀ W, Below w.heap.size w W → Calls Tryz.prog 37 #[.agg #[.int .i64 op, .slice (some ⟨b, o, none⟩) 2 cap]] W fun e w' => e = .returned (.bool true) ∧ Below W.heap.size W w'))
    (HW : Hid (∀ W, Calls Tryz.prog 77 #[.agg #[.int .i64 k, .int .i64 n, .int .i64 p]] W fun e w' => e = .returned (.bool false) ∧ Below W.heap.size W w')) :
    Calls Tryz.prog 33 #[.agg #[.int .i64 op, .slice (some ⟨b, o, none⟩) 2 cap]] w fun e w' => e = .returned (.int .i64 0) ∧ Below w.heap.size w w' := by
  have b0 : Below w.heap.size w (w.alloc (.cells #[.int .i64 op, .slice (some ⟨b, o, none⟩) 2 cap] 64)) := (Below.refl _ _).alloc (Nat.le_refl _) _
  have p0 : (w.alloc (.cells #[.int .i64 op, .slice (some ⟨b, o, none⟩) 2 cap] 64)).cell? ⟨w.heap.size, 0, none⟩ = some (.int .i64 op) := by simp
  have q0 : (w.alloc (.cells #[.int .i64 op, .slice (some ⟨b, o, none⟩) 2 cap] 64)).cell? ⟨w.heap.size, 1, none⟩ = some (.slice (some ⟨b, o, none⟩) 2 cap) := by simp
  have kn : (k = 6 ∧ n ≤ 1) ∨ (k = 6 ∧ ¬ n ≤ 1) ∨ (k == 6) = false := by simp only [beq_eq_false_iff_ne]; omega
  have e1 : (op == 1) = false := by simp; omega
  have e2 : (op == 2) = false := by simp; omega
  have e5 : ¬ op < 5 := by omega
  rcases kn with ⟨rfl, h1⟩ | ⟨rfl, h1⟩ | h1
  all_goals
    go_enter Tryz.func33, Tryz.ntmps33
    go_wp2_with fail
    refine (HC.out _ b0).mono ?_
    rintro e w1 ⟨rfl, g1⟩
    have b1 := b0.trans (g1.mono b0.size)
    have c0 := cell_later g1 p0
    have c1 := cell_later g1 q0
    obtain ⟨x0, x1, x2⟩ := (hx.later b1).c3 (j := 0) rfl (o' := o) (by omega)
    obtain ⟨y0, y1, y2⟩ := (hx.later b1).c3 (j := 1) rfl (o' := o + 3) (by omega)
    have lt1 : b < w1.heap.size := World.block_lt_of_cell? _ _ x0
    have lt2 : w.heap.size < w1.heap.size := World.block_lt_of_cell? _ _ c0
    clear g1 b0 p0 q0 hx HC
    go_wp2_with fail
    refine (HW.out _).mono ?_
    rintro e w2 ⟨rfl, g2⟩
    have b2 : Below w.heap.size w w2 := below_call g2 (by go_grown)
    go_wp2
    go_ret
    exact ⟨rfl, b2⟩

set_option maxRecDepth 10000 in
set_option maxHeartbeats 4000000 in
theorem ssure_cmp (op k n p k1 n1 p1 : Int) (b o cap : Nat) (w : World) (h5 : 5 ≤ op) (h10 : op ≤ 10) (h6 : (k == 6) = false) (hx : Ops w b o [(k, n, p), (k1, n1, p1)]) (V : Bool) (U U1 : Int) (hU : n = n1 → U = U1)
    (HC : Hid (∀ W, Below w.heap.size w W → Calls Tryz.prog 37 #[.agg #[.int .i64 op, .slice (some ⟨b, o, none⟩) 2 cap]] W fun e w' => e = .returned (.bool true) ∧ Below W.heap.size W w'))
    (HW : Hid (∀ W, Calls Tryz.prog 77 #[.agg #[.int .i64 k, .int .i64 n, .int .i64 p]] W fun e w' => e = .returned (.bool true) ∧ Below W.heap.size W w'))
    (HN : Hid (∀ W, Calls Tryz.prog 81 #[.int .i64 n] W fun e w' => e = .returned (.int .i16 U) ∧ Below W.heap.size W w'))
    (HN1 : Hid (∀ W, Calls Tryz.prog 81 #[.int .i64 n1] W fun e w' => e = .returned (.int .i16 U1) ∧ Below W.heap.size W w'))
    (HV : Hid (∀ W, Calls Tryz.prog 80 #[.int .i64 (op - 5 + 1), .int .i16 U, .int .i16 U1] W fun e w' => e = .returned (.bool V) ∧ Below W.heap.size W w')) :
    Calls Tryz.prog 33 #[.agg #[.int .i64 op, .slice (some ⟨b, o, none⟩) 2 cap]] w fun e w' => e = .returned (.int .i64 (if decide ((k, n, p) = (k1, n1, p1)) || (decide (k = 11) && decide (k1 = 11)) then (if V then 1 else -1) else 0)) ∧ Below w.heap.size w w' := by
  have b0 : Below w.heap.size w (w.alloc (.cells #[.int .i64 op, .slice (some ⟨b, o, none⟩) 2 cap] 64)) := (Below.refl _ _).alloc (Nat.le_refl _) _
  have p0 : (w.alloc (.cells #[.int .i64 op, .slice (some ⟨b, o, none⟩) 2 cap] 64)).cell? ⟨w.heap.size, 0, none⟩ = some (.int .i64 op) := by simp
  have q0 : (w.alloc (.cells #[.int .i64 op, .slice (some ⟨b, o, none⟩) 2 cap] 64)).cell? ⟨w.heap.size, 1, none⟩ = some (.slice (some ⟨b, o, none⟩) 2 cap) := by simp
  have e1 : (op == 1) = false := by simp; omega
  have e2 : (op == 2) = false := by simp; omega
  have e5 : ¬ op < 5 := by omega
  go_enter Tryz.func33, Tryz.ntmps33
  go_wp2_with fail
  refine (HC.out _ b0).mono ?_
  rintro e w1 ⟨rfl, g1⟩
  have b1 := b0.trans (g1.mono b0.size)
  have c0 := cell_later g1 p0
  have c1 := cell_later g1 q0
  obtain ⟨x0, x1, x2⟩ := (hx.later b1).c3 (j := 0) rfl (o' := o) (by omega)
  obtain ⟨y0, y1, y2⟩ := (hx.later b1).c3 (j := 1) rfl (o' := o + 3) (by omega)
  have lt1 : b < w1.heap.size := World.block_lt_of_cell? _ _ x0
  have lt2 : w.heap.size < w1.heap.size := World.block_lt_of_cell? _ _ c0
  clear g1 b0 p0 q0 hx HC
  go_wp2_with fail
  refine (HW.out _).mono ?_
  rintro e w2 ⟨rfl, g2⟩
  have b2 : Below w.heap.size w w2 := below_call g2 (by go_grown)
  obtain ⟨f0, f1, d0, d1, d2, v0, v1, v2⟩ : w2.cell? ⟨w.heap.size, 0, none⟩ = some (.int .i64 op) ∧ w2.cell? ⟨w.heap.size, 1, none⟩ = some (.slice (some ⟨b, o, none⟩) 2 cap) ∧ w2.cell? ⟨w1.heap.size, 0, none⟩ = some (.int .i64 k) ∧ w2.cell? ⟨w1.heap.size, 1, none⟩ = some (.int .i64 n) ∧ w2.cell? ⟨w1.heap.size, 2, none⟩ = some (.int .i64 p) ∧ w2.cell? ⟨b, o + 3, none⟩ = some (.int .i64 k1) ∧ w2.cell? ⟨b, o + 3 + 1, none⟩ = some (.int .i64 n1) ∧ w2.cell? ⟨b, o + 3 + 1 + 1, none⟩ = some (.int .i64 p1) :=
    ⟨cell_later g2 (by go_simp), cell_later g2 (by go_simp), cell_later g2 (by go_simp), cell_later g2 (by go_simp), cell_later g2 (by go_simp), cell_later g2 (by go_simp), cell_later g2 (by go_simp), cell_later g2 (by go_simp)⟩
  have l1 : b < w2.heap.size := World.block_lt_of_cell? _ _ v0
  have l2 : w.heap.size < w2.heap.size := World.block_lt_of_cell? _ _ f0
  have l3 : w1.heap.size < w2.heap.size := World.block_lt_of_cell? _ _ d0
  clear g2 c0 c1 x0 x1 x2 y0 y1 y2 lt1 lt2 b1 HW
  have cN : ∀ d os, Calls Tryz.prog 81 #[.int .i64 n] (Sort.grow (redrawn (w2.alloc (.cells #[.int .i64 k1, .int .i64 n1, .int .i64 p1] 78)) d) os) fun e w'' => e = .returned (.int .i16 U) ∧ ∃ p : Regrown, w'' = Sort.grow (redrawn (w2.alloc (.cells #[.int .i64 k1, .int .i64 n1, .int .i64 p1] 78)) p.d) p.os := fun d os => Calls.regrown_of (HN.out _)
  have cN1 : ∀ d os, Calls Tryz.prog 81 #[.int .i64 n1] (Sort.grow (redrawn (w2.alloc (.cells #[.int .i64 k1, .int .i64 n1, .int .i64 p1] 78)) d) os) fun e w'' => e = .returned (.int .i16 U1) ∧ ∃ p : Regrown, w'' = Sort.grow (redrawn (w2.alloc (.cells #[.int .i64 k1, .int .i64 n1, .int .i64 p1] 78)) p.d) p.os := fun d os => Calls.regrown_of (HN1.out _)
  have cV : ∀ d os, Calls Tryz.prog 80 #[.int .i64 (op - 5 + 1), .int .i16 U, .int .i16 U1] (Sort.grow (redrawn (w2.alloc (.cells #[.int .i64 k1, .int .i64 n1, .int .i64 p1] 78)) d) os) fun e w'' => e = .returned (.bool V) ∧ ∃ p : Regrown, w'' = Sort.grow (redrawn (w2.alloc (.cells #[.int .i64 k1, .int .i64 n1, .int .i64 p1] 78)) p.d) p.os := fun d os => Calls.regrown_of (HV.out _)
  clear HN HN1 HV
  have b3 : Below w.heap.size w (w2.alloc (.cells #[.int .i64 k1, .int .i64 n1, .int .i64 p1] 78)) := b2.alloc b2.size _
  have r0 := cell_regrown (w := w2.alloc (.cells #[.int .i64 k1, .int .i64 n1, .int .i64 p1] 78)) (a := ⟨w.heap.size, 0, none⟩) (v := .int .i64 op) (by go_simp)
  have r1 := cell_regrown (w := w2.alloc (.cells #[.int .i64 k1, .int .i64 n1, .int .i64 p1] 78)) (a := ⟨w1.heap.size, 1, none⟩) (v := .int .i64 n) (by go_simp)
  have r2 := cell_regrown (w := w2.alloc (.cells #[.int .i64 k1, .int .i64 n1, .int .i64 p1] 78)) (a := ⟨w2.heap.size, 1, none⟩) (v := .int .i64 n1) (by go_simp)
  have key : (k1 = k ∧ n1 = n ∧ p1 = p) ∨ ¬ k = k1 ∨ (k1 = k ∧ ¬ n = n1) ∨ (k1 = k ∧ n1 = n ∧ ¬ p = p1) := by omega
  rcases key with ⟨rfl, rfl, rfl⟩ | g | ⟨rfl, g⟩ | ⟨rfl, rfl, g⟩
  · obtain rfl := hU rfl
    clear hU cN1
    go_upto_region 14 with fail
    refine wp_region_quiet_below (by kernel_rfl) (by kernel_rfl) ?_
    repeat (go_big_quiet_step (first | with_reducible exact cN _ _ | with_reducible exact cN1 _ _ | with_reducible exact cV _ _))
    refine wpQuiet_nil ?_
    intro _ hw'
    obtain ⟨⟨dq, osq⟩, hw''⟩ := hw'
    subst hw''
    have hb := b3.trans ((below_regrown (w2.alloc (.cells #[.int .i64 k1, .int .i64 n1, .int .i64 p1] 78)) dq osq).mono b3.size)
    dsimp only at hb ⊢
    generalize Sort.grow (redrawn (w2.alloc (.cells #[.int .i64 k1, .int .i64 n1, .int .i64 p1] 78)) dq) osq = w5 at hb ⊢
    clear r0 r1 r2 f0 f1 d0 d1 d2 v0 v1 v2 cN cV b2 b3
    cases V
    all_goals
      go_wp2
      go_ret
      exact ⟨by simp, hb⟩
  · have g' : (k == k1) = false := by simp [g]
    clear hU
    by_cases h : k = 11
    · subst h
      have q2 : (k1 == 11) = false := by simp; omega
      have q3 : ¬ k1 = 11 := by omega
      go_wp2
      all_goals
        go_ret
        exact ⟨by simp [g, q3], by go_grown⟩
    · have q1 : (k == 11) = false := by simp [h]
      go_wp2
      all_goals
        go_ret
        exact ⟨by simp [g, h], by go_grown⟩
  · have g' := beq_eq_false_iff_ne.2 g
    by_cases h : k1 = 11
    · subst h
      go_upto_region 14 with fail
      refine wp_region_quiet_below (by kernel_rfl) (by kernel_rfl) ?_
      repeat (go_big_quiet_step (first | with_reducible exact cN _ _ | with_reducible exact cN1 _ _ | with_reducible exact cV _ _))
      refine wpQuiet_nil ?_
      intro _ hw'
      obtain ⟨⟨dq, osq⟩, hw''⟩ := hw'
      subst hw''
      have hb := b3.trans ((below_regrown (w2.alloc (.cells #[.int .i64 11, .int .i64 n1, .int .i64 p1] 78)) dq osq).mono b3.size)
      dsimp only at hb ⊢
      generalize Sort.grow (redrawn (w2.alloc (.cells #[.int .i64 11, .int .i64 n1, .int .i64 p1] 78)) dq) osq = w5 at hb ⊢
      clear r0 r1 r2 f0 f1 d0 d1 d2 v0 v1 v2 cN cV b2 b3
      cases V
      all_goals
        go_wp2
        go_ret
        exact ⟨by simp, hb⟩
    · have q1 : (k1 == 11) = false := by simp [h]
      go_wp2
      all_goals
        go_ret
        exact ⟨by simp [g, h], by go_grown⟩
  · obtain rfl := hU rfl
    clear hU cN1
    have g' := beq_eq_false_iff_ne.2 g
    by_cases h : k1 = 11
    · subst h
      go_upto_region 14 with fail
      refine wp_region_quiet_below (by kernel_rfl) (by kernel_rfl) ?_
      repeat (go_big_quiet_step (first | with_reducible exact cN _ _ | with_reducible exact cN1 _ _ | with_reducible exact cV _ _))
      refine wpQuiet_nil ?_
      intro _ hw'
      obtain ⟨⟨dq, osq⟩, hw''⟩ := hw'
      subst hw''
      have hb := b3.trans ((below_regrown (w2.alloc (.cells #[.int .i64 11, .int .i64 n1, .int .i64 p1] 78)) dq osq).mono b3.size)
      dsimp only at hb ⊢
      generalize Sort.grow (redrawn (w2.alloc (.cells #[.int .i64 11, .int .i64 n1, .int .i64 p1] 78)) dq) osq = w5 at hb ⊢
      clear r0 r1 r2 f0 f1 d0 d1 d2 v0 v1 v2 cN cV b2 b3
      cases V
      all_goals
        go_wp2
        go_ret
        exact ⟨by simp, hb⟩
    · have q1 : (k1 == 11) = false := by simp [h]
      go_wp2
      all_goals
        go_ret
        exact ⟨by simp [g, h], by go_grown⟩

theorem psure_s (op : Int) (a : Option Addr) (len cap : Nat) (xs : List Arg) (w : World) (hl : len = xs.length) (hx : Sl w a xs) :
    Calls Tryz.prog 33 #[.agg #[.int .i64 op, .slice a len cap]] w fun e w' => e = .returned (.int .i64 (sureV op xs)) ∧ Below w.heap.size w w' := by
  have HC : Hid (∀ W, Below w.heap.size w W → Calls Tryz.prog 37 #[.agg #[.int .i64 op, .slice a len cap]] W fun e w' => e = .returned (.bool (isC op xs)) ∧ Below W.heap.size W w') := fun W g => spec_iscontact op a xs len cap hl W (hx.later g)
  cases hc : isC op xs with
  | false =>
    rw [sure_no hc]
    rw [hc] at HC
    have b0 : Below w.heap.size w (w.alloc (.cells #[.int .i64 op, .slice a len cap] 64)) := (Below.refl _ _).alloc (Nat.le_refl _) _
    clear hc hx hl
    go_enter Tryz.func33, Tryz.ntmps33
    go_wp2_with fail
    refine (HC.out _ b0).mono ?_
    rintro e w1 ⟨rfl, g1⟩
    have b1 := b0.trans (g1.mono b0.size)
    clear g1 b0
    go_wp2
    go_ret
    exact ⟨rfl, b1⟩
  | true =>
    rw [hc] at HC
    rcases isC_cases hc with ⟨ho, k, n, p, rfl, hok, _⟩ | ⟨h3, h10, k, n, p, k1, n1, p1, rfl⟩
    · obtain ⟨b, o, rfl, hO⟩ := hx.at
      rw [sure_bit op k n p ho hc]
      subst hl
      exact ssure_one op k n p b o cap w ho (fun h => by subst h; exact okA6 hok) hO HC
    · obtain ⟨b, o, rfl, hO⟩ := hx.at
      rw [sure_two op k n p k1 n1 p1 h3 hc]
      subst hl
      by_cases h5 : 5 ≤ op
      · have HWd : Hid (∀ W, Calls Tryz.prog 77 #[.agg #[.int .i64 k, .int .i64 n, .int .i64 p]] W fun e w' => e = .returned (.bool (okA k n p && kW k)) ∧ Below W.heap.size W w') := fun W => spec_iswhole k n p W
        cases hw : (okA k n p && kW k) with
        | false =>
          rw [if_neg (by simp)]
          rw [hw] at HWd
          exact ssure_nowh op k n p k1 n1 p1 b o cap w h5 hO HC HWd
        | true =>
          rw [hw] at HWd
          have h6 : (k == 6) = false := by
            rw [Bool.and_eq_true] at hw
            have := hw.2
            unfold kW at this
            simp at this ⊢
            omega
          have e : (if 5 ≤ op ∧ true = true ∧ ((k, n, p) = (k1, n1, p1) ∨ (k = 11 ∧ k1 = 11)) then (if wc (op - 4) (IntKind.i16.wrap n) (IntKind.i16.wrap n1) then (1 : Int) else -1) else 0) = if decide ((k, n, p) = (k1, n1, p1)) || (decide (k = 11) && decide (k1 = 11)) then (if wc (op - 4) (IntKind.i16.wrap n) (IntKind.i16.wrap n1) then 1 else -1) else 0 := by
            have : (5 ≤ op ∧ true = true ∧ ((k, n, p) = (k1, n1, p1) ∨ (k = 11 ∧ k1 = 11))) ↔ (decide ((k, n, p) = (k1, n1, p1)) || (decide (k = 11) && decide (k1 = 11))) = true := by
              simp [h5]
            by_cases hq : (decide ((k, n, p) = (k1, n1, p1)) || (decide (k = 11) && decide (k1 = 11))) = true
            · rw [if_pos (this.2 hq), if_pos hq]
            · rw [if_neg (fun h => hq (this.1 h)), if_neg hq]
          rw [e]
          refine ssure_cmp op k n p k1 n1 p1 b o cap w h5 h10 h6 hO (wc (op - 4) (IntKind.i16.wrap n) (IntKind.i16.wrap n1)) (IntKind.i16.wrap n) (IntKind.i16.wrap n1) (fun h => by rw [h]) HC HWd (fun W => (wrap_r n W).mono (by rintro e w' ⟨rfl, rfl⟩; exact ⟨rfl, Below.refl _ _⟩)) (fun W => (wrap_r n1 W).mono (by rintro e w' ⟨rfl, rfl⟩; exact ⟨rfl, Below.refl _ _⟩)) (fun W => by rw [show op - 5 + 1 = op - 4 by omega]; exact (spec_wcmp (op - 4) _ _ W).mono (by rintro e w' ⟨rfl, rfl⟩; exact ⟨rfl, Below.refl _ _⟩))
      · rw [if_neg (by omega)]
        exact ssure_low op k n p k1 n1 p1 b o cap w h3 (by omega) hO HC
end Go.Proofs.YtlgacbjopobeoaaGreatDoor
