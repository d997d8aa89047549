/- The operands of a contact or coil, taken by places: elemPlaces.take, elemRule.take. -/
import Derived.Test.YtcmmiamnbefefaaDoorEd
import Derived.Deep.Cut
namespace Go.Proofs.YtcmmiamnbefefaaDoor
open Go.RowKit Go.Shelf
set_option linter.unusedVariables false

abbrev Arg := Int × Int × Int
/-- The operands of a list lie in the memory, one behind the other. -/
def Ops (w : World) (b o : Nat) (xs : List Arg) : Prop :=
  ∀ j x, xs[j]? = some x → w.cell? ⟨b, o + j * 3, none⟩ = some (.int .i64 x.1) ∧ w.cell? ⟨b, o + j * 3 + 1, none⟩ = some (.int .i64 x.2.1) ∧ w.cell? ⟨b, o + j * 3 + 2, none⟩ = some (.int .i64 x.2.2)
theorem Ops.below {w w' : World} {b o : Nat} {xs : List Arg} (h : Ops w b o xs) {B : Nat} (hB : b < B) (g : Below B w w') : Ops w' b o xs := fun j x hx => by
  have := h j x hx
  refine ⟨?_, ?_, ?_⟩
  · exact (g.cell (p := ⟨b, o + j * 3, none⟩) hB).trans this.1
  · exact (g.cell (p := ⟨b, o + j * 3 + 1, none⟩) hB).trans this.2.1
  · exact (g.cell (p := ⟨b, o + j * 3 + 2, none⟩) hB).trans this.2.2
theorem Ops.lt {w : World} {b o : Nat} {xs : List Arg} (h : Ops w b o xs) (hne : xs ≠ []) : b < w.heap.size := by
  match xs, hne with
  | x :: _, _ => exact World.block_lt_of_cell? _ _ (h 0 x rfl).1
theorem Ops.later {w w' : World} {b o : Nat} {xs : List Arg} (h : Ops w b o xs) (g : Below w.heap.size w w') : Ops w' b o xs := by
  match xs, h with
  | [], _ => intro j x hx; simp at hx
  | x :: r, h => exact h.below (h.lt (by simp)) g

set_option maxRecDepth 10000 in
set_option maxHeartbeats 1000000 in
theorem take_run (V0 V1 V2 : Value) (m : Nat) (hm1 : 1 ≤ m) (hm3 : m ≤ 3) (F : Nat → Nat) (X : Nat → Arg) (Pr : Nat → Bool) (b o cap : Nat) (w : World) (hT : KT w)
    (hV : ∀ n, n < m → #[V0, V1, V2][n]? = some (.func (.func (F n)) #[] #[]))
    (hX : ∀ n, n < m → w.cell? ⟨b, o + n * 3, none⟩ = some (.int .i64 (X n).1) ∧ w.cell? ⟨b, o + n * 3 + 1, none⟩ = some (.int .i64 (X n).2.1) ∧ w.cell? ⟨b, o + n * 3 + 2, none⟩ = some (.int .i64 (X n).2.2))
    (hE : ∀ n, n < m → ∀ args W, (callFunc (F n) args).run Tryd.prog W = .ok (.enter (F n) args) W)
    (hF : Hid (∀ n, n < m → ∀ W, KT W → Calls Tryd.prog (F n) #[.agg #[.int .i64 (X n).1, .int .i64 (X n).2.1, .int .i64 (X n).2.2]] W fun e w' => e = .returned (.bool (Pr n)) ∧ Below W.heap.size W w'))
    (hcnt : Hid (∀ W, Calls Tryd.prog 113 #[.agg #[V0, V1, V2]] W fun e w' => e = .returned (.int .i64 m) ∧ Below W.heap.size W w')) :
    Calls Tryd.prog 99 #[.agg #[V0, V1, V2], .slice (some ⟨b, o, none⟩) m cap] w fun e w' => e = .returned (.bool ((List.range m).all Pr)) ∧ Below w.heap.size w w' := by
  have m0 : ((m : Int) == 0) = false := by simp; omega
  obtain ⟨R, HR⟩ : ∃ R, Hid (R = (List.range m).all Pr) := ⟨_, Eq.refl ((List.range m).all Pr)⟩
  rw [← HR.out]
  go_enter Tryd.func99, Tryd.ntmps99
  go_wp2_with fail
  refine (hcnt.out _).mono ?_
  rintro e w1 ⟨rfl, g1⟩
  go_wp2
  go_loopg [19] m (fun g i wr => ∃ n : Nat, n + g = m ∧ i = .int .i64 n ∧ Below (w.heap.size + 1) (w.alloc (.cells #[V0, V1, V2] 117)) wr ∧ ∀ j, j < n → Pr j = true)
  case atStart => exact ⟨0, by omega, rfl, by simpa using g1, fun j hj => by omega⟩
  case round =>
    obtain ⟨n, hn, rfl, hb, hp⟩ := hrel
    have hbw : Below w.heap.size w wr := ((Below.refl _ _).alloc (Nat.le_refl _) _).trans (hb.mono (by simp))
    by_cases hlt : n < m
    · have bl : b < w.heap.size := World.block_lt_of_cell? _ _ (hX 0 (by omega)).1
      have x0 : wr.cell? ⟨b, o + n * 3, none⟩ = some (.int .i64 (X n).1) := (hbw.cell (p := ⟨b, o + n * 3, none⟩) bl).trans (hX n hlt).1
      have x1 : wr.cell? ⟨b, o + n * 3 + 1, none⟩ = some (.int .i64 (X n).2.1) := (hbw.cell (p := ⟨b, o + n * 3 + 1, none⟩) bl).trans (hX n hlt).2.1
      have x2 : wr.cell? ⟨b, o + n * 3 + 2, none⟩ = some (.int .i64 (X n).2.2) := (hbw.cell (p := ⟨b, o + n * 3 + 2, none⟩) bl).trans (hX n hlt).2.2
      have fc : wr.cell? ⟨w.heap.size, n, none⟩ = some (.func (.func (F n)) #[] #[]) := by
        rw [hb.cell (p := ⟨w.heap.size, n, none⟩) (by show w.heap.size < w.heap.size + 1; omega), cell_of_row _ _ n _ 117 (0, 0) (heap_alloc_last w _)]
        exact hV n hlt
      have HFn : Hid (∀ W, KT W → Calls Tryd.prog (F n) #[.agg #[.int .i64 (X n).1, .int .i64 (X n).2.1, .int .i64 (X n).2.2]] W fun e w' => e = .returned (.bool (Pr n)) ∧ Below W.heap.size W w') := fun W h => hF.out n hlt W h
      have kt := hT.later hbw
      have sz := hbw.size
      have i1 : (n : Int) < (m : Int) := by omega
      have i2 : (n : Int) < 3 := by omega
      have i3 : (0 : Int) ≤ (n : Int) := by omega
      generalize hA : (X n).1 = A1 at x0 HFn
      generalize hB : (X n).2.1 = A2 at x1 HFn
      generalize hC : (X n).2.2 = A3 at x2 HFn
      have en := hE n hlt
      generalize hFF : F n = f at fc HFn en
      clear hX hV hF hE hcnt g1 hA hB hC hFF
      go_upto_region 6 with fail
      have sz2 : w.heap.size < wr.heap.size := by have := hb.size; simp at this; omega
      have kf := cell_regrown (w := wr.alloc (.cells #[.int .i64 A1, .int .i64 A2, .int .i64 A3] 88)) (a := ⟨w.heap.size, n, none⟩) ((World.cell?_alloc_past _ _ _ sz2).trans fc)
      have ka0 := cell_regrown (w := wr.alloc (.cells #[.int .i64 A1, .int .i64 A2, .int .i64 A3] 88)) (a := ⟨wr.heap.size, 0, none⟩) (v := .int .i64 A1) (by simp)
      have ka1 := cell_regrown (w := wr.alloc (.cells #[.int .i64 A1, .int .i64 A2, .int .i64 A3] 88)) (a := ⟨wr.heap.size, 1, none⟩) (v := .int .i64 A2) (by simp)
      have ka2 := cell_regrown (w := wr.alloc (.cells #[.int .i64 A1, .int .i64 A2, .int .i64 A3] 88)) (a := ⟨wr.heap.size, 2, none⟩) (v := .int .i64 A3) (by simp)
      have cF : ∀ d os, Calls Tryd.prog f #[.agg #[.int .i64 A1, .int .i64 A2, .int .i64 A3]] (Sort.grow (redrawn (wr.alloc (.cells #[.int .i64 A1, .int .i64 A2, .int .i64 A3] 88)) d) os) fun e w'' => e = .returned (.bool (Pr n)) ∧ ∃ p : Regrown, w'' = Sort.grow (redrawn (wr.alloc (.cells #[.int .i64 A1, .int .i64 A2, .int .i64 A3] 88)) p.d) p.os :=
        fun d os => Calls.regrown_of (HFn.out _ ((kt.alloc _).later (below_regrown _ d os)))
      have hb2 : Below (w.heap.size + 1) (w.alloc (.cells #[V0, V1, V2] 117)) (wr.alloc (.cells #[.int .i64 A1, .int .i64 A2, .int .i64 A3] 88)) := hb.alloc (by simpa using hb.size) _
      clear HFn kt x0 x1 x2 fc
      refine wp_region_quiet_below (by kernel_rfl) (by kernel_rfl) ?_
      cases hq : Pr n with
      | true =>
        rw [hq] at cF
        repeat (go_big_quiet_step (first | exact cF _ _))
        refine wpQuiet_nil ?_
        intro _ hw'
        obtain ⟨⟨dq, osq⟩, hw''⟩ := hw'
        subst hw''
        go_wp2
        go_roundg (gk - 1)
        case measure => omega
        case rel =>
          refine ⟨n + 1, by omega, by simp, hb2.trans ((below_regrown _ dq osq).mono (by simp; omega)), ?_⟩
          intro j hj
          by_cases hjn : j = n
          · rw [hjn]; exact hq
          · exact hp j (by omega)
      | false =>
        rw [hq] at cF
        repeat (go_big_quiet_step (first | exact cF _ _))
        refine wpQuiet_nil ?_
        intro _ hw'
        obtain ⟨⟨dq, osq⟩, hw''⟩ := hw'
        subst hw''
        go_wp2
        go_ret
        refine ⟨?_, (hbw.alloc hbw.size _).trans ((below_regrown _ dq osq).mono (by simp; omega))⟩
        rw [HR.out, show (List.range m).all Pr = false from by
          rw [List.all_eq_false]
          exact ⟨n, List.mem_range.2 hlt, by rw [hq]; simp⟩]
        rfl
    · have i1 : ¬ ((n : Int) < (m : Int)) := by omega
      have ea : (List.range m).all Pr = true := by
        rw [List.all_eq_true]
        intro j hj
        exact hp j (by have := List.mem_range.1 hj; omega)
      go_wp2
      go_ret
      exact ⟨by rw [HR.out, ea]; rfl, hbw⟩

/-- Operands taken by a list of places. -/
def tk (l : List Nat) (xs : List Arg) : Bool := !xs.isEmpty && decide (xs.length = l.length) && (List.range xs.length).all fun n => pp (l.getD n 0) (xs.getD n (0, 0, 0))

/-- A slice of operands: an empty one, or one that lies in the memory. -/
def Sl (w : World) (a : Option Addr) (xs : List Arg) : Prop := xs = [] ∨ ∃ b o, a = some ⟨b, o, none⟩ ∧ Ops w b o xs
theorem Sl.later {w w' : World} {a : Option Addr} {xs : List Arg} (h : Sl w a xs) (g : Below w.heap.size w w') : Sl w' a xs := by
  rcases h with h | ⟨b, o, h1, h2⟩
  · exact .inl h
  · exact .inr ⟨b, o, h1, h2.later g⟩
theorem Sl.alloc {w : World} {a : Option Addr} {xs : List Arg} (h : Sl w a xs) (o : Obj) : Sl (w.alloc o) a xs := h.later ((Below.refl _ _).alloc (Nat.le_refl _) _)

set_option maxRecDepth 10000 in
set_option maxHeartbeats 1000000 in
theorem take_no (V0 V1 V2 : Value) (m len cap : Nat) (a : Option Addr) (w : World) (hne : len = 0 ∨ len ≠ m)
    (hcnt : Hid (∀ W, Calls Tryd.prog 113 #[.agg #[V0, V1, V2]] W fun e w' => e = .returned (.int .i64 m) ∧ Below W.heap.size W w')) :
    Calls Tryd.prog 99 #[.agg #[V0, V1, V2], .slice a len cap] w fun e w' => e = .returned (.bool false) ∧ Below w.heap.size w w' := by
  by_cases h0 : len = 0
  · subst h0
    go_enter Tryd.func99, Tryd.ntmps99
    go_wp2
    go_ret
    exact ⟨rfl, by go_grown⟩
  · have m0 : ((len : Int) == 0) = false := by simp; omega
    have m1 : ((len : Int) == (m : Int)) = false := by simp; omega
    go_enter Tryd.func99, Tryd.ntmps99
    go_wp2_with fail
    refine (hcnt.out _).mono ?_
    rintro e w1 ⟨rfl, g1⟩
    have b1 : Below w.heap.size w w1 := ((Below.refl _ _).alloc (Nat.le_refl _) _).trans (g1.mono (by simp))
    clear g1
    go_wp2
    go_ret
    exact ⟨rfl, b1⟩

theorem take_of (l : List Nat) (h : okPl l = true) (a : Option Addr) (xs : List Arg) (len cap : Nat) (hlen : len = xs.length) (w : World) (hT : KT w) (hx : Sl w a xs) :
    Calls Tryd.prog 99 #[plV l, .slice a len cap] w fun e w' => e = .returned (.bool (tk l xs)) ∧ Below w.heap.size w w' := by
  subst hlen
  by_cases hne : xs.length = 0 ∨ xs.length ≠ l.length
  · have e0 : tk l xs = false := by
      unfold tk
      rcases hne with h0 | h0
      · have : xs = [] := List.length_eq_zero_iff.1 h0
        subst this; rfl
      · simp [h0]
    rw [e0]
    exact take_no _ _ _ l.length xs.length cap a w hne (fun W => count_of l h W)
  · have h1 : 1 ≤ xs.length := by omega
    have h2 : xs.length = l.length := by omega
    have h' := h
    simp only [okPl, Bool.and_eq_true, decide_eq_true_eq, List.all_eq_true] at h'
    obtain ⟨h3, ha⟩ := h'
    rcases hx with rfl | ⟨b, o, rfl, hx⟩
    · simp at h1
    have e0 : tk l xs = (List.range xs.length).all fun n => pp (l.getD n 0) (xs.getD n (0, 0, 0)) := by
      have : xs.isEmpty = false := by cases xs with | nil => simp at h1 | cons => rfl
      simp [tk, h2, this]
    rw [e0]
    have key : ∀ n, ∃ f, n < xs.length → (pv (l.getD n 0) = .func (.func f) #[] #[] ∧ (∀ args W, (callFunc f args).run Tryd.prog W = .ok (.enter f args) W) ∧ ∀ (k n' p : Int) (w : World), KT w → Calls Tryd.prog f #[.agg #[.int .i64 k, .int .i64 n', .int .i64 p]] w fun e w' => e = .returned (.bool (pp (l.getD n 0) (k, n', p))) ∧ Below w.heap.size w w') := by
      intro n
      by_cases hn : n < xs.length
      · have hm : l.getD n 0 ∈ l := by
          rw [List.getD_eq_getElem?_getD, List.getElem?_eq_getElem (by omega)]
          exact List.getElem_mem _
        obtain ⟨f, q⟩ := place_r (l.getD n 0) (ha _ hm).1 (ha _ hm).2
        exact ⟨f, fun _ => q⟩
      · exact ⟨0, fun h => absurd h hn⟩
    obtain ⟨F, hF⟩ := Classical.axiomOfChoice key
    have hl3 : xs.length ≤ 3 := by omega
    refine take_run (pv (l.getD 0 0)) (pv (l.getD 1 0)) (pv (l.getD 2 0)) xs.length h1 hl3 F (fun n => xs.getD n (0, 0, 0)) _ b o cap w hT ?_ ?_ (fun n hn => (hF n hn).2.1) ?_ ?_
    · intro n hn
      rw [← (hF n hn).1]
      have : n = 0 ∨ n = 1 ∨ n = 2 := by omega
      rcases this with rfl | rfl | rfl <;> rfl
    · intro n hn
      refine hx n _ ?_
      rw [List.getD_eq_getElem?_getD, List.getElem?_eq_getElem hn]; rfl
    · intro n hn W hW
      exact (hF n hn).2.2 _ _ _ W hW
    · intro W
      rw [h2]
      exact count_of l h W

/-- Operands taken by a rule. -/
def rtk (op : Int) (xs : List Arg) : Bool := tk (ndP op) xs || tk (orP op) xs

set_option maxRecDepth 10000 in
set_option maxHeartbeats 1000000 in
theorem rule_take_run (A B V0 V1 V2 U0 U1 U2 : Value) (r1 r2 : Bool) (a : Option Addr) (len cap : Nat) (w : World)
    (h1 : Hid (∀ W, Below w.heap.size w W → Calls Tryd.prog 99 #[.agg #[V0, V1, V2], .slice a len cap] W fun e w' => e = .returned (.bool r1) ∧ Below W.heap.size W w'))
    (h2 : Hid (∀ W, Below w.heap.size w W → Calls Tryd.prog 99 #[.agg #[U0, U1, U2], .slice a len cap] W fun e w' => e = .returned (.bool r2) ∧ Below W.heap.size W w')) :
    Calls Tryd.prog 97 #[.agg #[A, B, V0, V1, V2, U0, U1, U2], .slice a len cap] w fun e w' => e = .returned (.bool (r1 || r2)) ∧ Below w.heap.size w w' := by
  cases r1 with
  | true =>
    go_enter Tryd.func97, Tryd.ntmps97
    go_wp2_with fail
    refine (h1.out _ ((Below.refl _ _).alloc (Nat.le_refl _) _)).mono ?_
    rintro e w1 ⟨rfl, g1⟩
    have b1 : Below w.heap.size w w1 := ((Below.refl _ _).alloc (Nat.le_refl _) _).trans (g1.mono (by simp))
    clear g1
    go_wp2
    go_ret
    exact ⟨by simp, b1⟩
  | false =>
    go_enter Tryd.func97, Tryd.ntmps97
    go_wp2_with fail
    refine (h1.out _ ((Below.refl _ _).alloc (Nat.le_refl _) _)).mono ?_
    rintro e w1 ⟨rfl, g1⟩
    have c5 : w1.cell? ⟨w.heap.size, 5, none⟩ = some U0 := cell_later g1 (by simp)
    have c6 : w1.cell? ⟨w.heap.size, 6, none⟩ = some U1 := cell_later g1 (by simp)
    have c7 : w1.cell? ⟨w.heap.size, 7, none⟩ = some U2 := cell_later g1 (by simp)
    have b1 : Below w.heap.size w w1 := ((Below.refl _ _).alloc (Nat.le_refl _) _).trans (g1.mono (by simp))
    clear g1
    go_wp2_with fail
    refine (h2.out _ b1).mono ?_
    rintro e w2 ⟨rfl, g2⟩
    have b2 := b1.trans (g2.mono b1.size)
    clear g2
    go_wp2
    go_ret
    exact ⟨by simp, b2⟩

theorem rule_take (op : Int) (a : Option Addr) (xs : List Arg) (len cap : Nat) (hlen : len = xs.length) (w : World) (hT : KT w) (hx : Sl w a xs) :
    Calls Tryd.prog 97 #[.agg (rulV op), .slice a len cap] w fun e w' => e = .returned (.bool (rtk op xs)) ∧ Below w.heap.size w w' :=
  rule_take_run _ _ _ _ _ _ _ _ _ _ a len cap w (fun W h => take_of (ndP op) (nd_ok op) a xs len cap hlen W (hT.later h) (hx.later h)) (fun W h => take_of (orP op) (or_ok op) a xs len cap hlen W (hT.later h) (hx.later h))
end Go.Proofs.YtcmmiamnbefefaaDoor
