/- The opposite of a contact: mathematics, and the program's choice of it. -/
import Derived.Test.YtlgacbjopobeoaaDoorEcM
import Derived.Test.YtlgacbjopobeoaaDoorCt
import Derived.Test.YtlgacbjopobeoaaDoorCfM
import Derived.Deep.Upon
namespace Go.Proofs.YtlgacbjopobeoaaDoor
open Go.RowKit Go.Shelf
set_option linter.unusedVariables false

/-- The kind of the contact that says the opposite, or 0. -/
def turnOp (op : Int) (xs : List Arg) : Int := if isC op xs then (if op = 1 then 2 else if op = 2 then 1 else if twB op xs then cF (op - 4) + 4 else 0) else 0
def turnXs (op : Int) (xs : List Arg) : List Arg := if turnOp op xs = 0 then [] else xs
theorem cF_in {j : Int} (h1 : 1 ≤ j) (h6 : j ≤ 6) : 1 ≤ cF j ∧ cF j ≤ 6 := by
  obtain rfl | rfl | rfl | rfl | rfl | rfl : j = 1 ∨ j = 2 ∨ j = 3 ∨ j = 4 ∨ j = 5 ∨ j = 6 := by omega
  all_goals (decide)
theorem turnOp_no {op : Int} {xs : List Arg} (h : isC op xs = false) : turnOp op xs = 0 := by
  unfold turnOp; rw [h]; rfl
theorem tw_big {op : Int} {xs : List Arg} (h : twB op xs = true) : 5 ≤ op := by
  unfold twB at h
  rw [Bool.and_eq_true] at h
  exact of_decide_eq_true h.1

theorem isC_len {op : Int} {xs : List Arg} (h : isC op xs = true) : xs ≠ [] ∧ xs.length ≤ 2 ∧ 1 ≤ op ∧ op ≤ 10 := by
  rcases isC_cases h with ⟨h, k, n, p, rfl, _⟩ | ⟨_, _, k, n, p, k1, n1, p1, rfl⟩
  · exact ⟨by simp, by simp, by omega, by omega⟩
  · exact ⟨by simp, by simp, by omega, by omega⟩

set_option maxRecDepth 10000 in
set_option maxHeartbeats 2000000 in
theorem opp_i (op : Int) (a : Option Addr) (len cap : Nat) (xs : List Arg) (w : World) (hT : KT w) (hC : CT w) (hl : len = xs.length) (hx : Sl w a xs) :
    Calls Tryd.prog 16 #[.agg #[.int .i64 op, .slice a len cap]] w fun e w' => e = .returned (.int .i64 (turnOp op xs)) ∧ Below w.heap.size w w' := by
  have HC : Hid (∀ W, Below w.heap.size w W → Calls Tryd.prog 26 #[.agg #[.int .i64 op, .slice a len cap]] W fun e w' => e = .returned (.bool (isC op xs)) ∧ Below W.heap.size W w') := fun W g => impl_iscontact op a xs len cap hl W (hT.later g) (hx.later g)
  have b0 : Below w.heap.size w (w.alloc (.cells #[.int .i64 op, .slice a len cap] 28)) := (Below.refl _ _).alloc (Nat.le_refl _) _
  have p0 : (w.alloc (.cells #[.int .i64 op, .slice a len cap] 28)).cell? ⟨w.heap.size, 0, none⟩ = some (.int .i64 op) := by simp
  have q0 : (w.alloc (.cells #[.int .i64 op, .slice a len cap] 28)).cell? ⟨w.heap.size, 1, none⟩ = some (.slice a len cap) := by simp
  cases hc : isC op xs with
  | false =>
    rw [hc] at HC
    rw [turnOp_no hc]
    clear hc hx hT hC hl
    go_enter Tryd.func16, Tryd.ntmps16
    go_wp2_with fail
    refine (HC.out _ b0).mono ?_
    rintro e w1 ⟨rfl, g1⟩
    have b1 := b0.trans (g1.mono b0.size)
    clear g1 b0
    go_wp2
    go_ret
    exact ⟨rfl, b1⟩
  | true =>
    obtain ⟨hne, _, h1, h10⟩ := isC_len hc
    have HW : Hid (∀ W, Below w.heap.size w W → Calls Tryd.prog 27 #[.agg #[.int .i64 op, .slice a len cap]] W fun e w' => e = .returned (.bool (twB op xs)) ∧ Below W.heap.size W w') := fun W g => tests_i op a len cap xs W (hT.later g) hl (hx.later g) (fun _ => hne)
    have HF : Hid (∀ W, Below w.heap.size w W → Calls Tryd.prog 28 #[.int .i64 (op - 5 + 1)] W fun e w' => e = .returned (.int .i64 (cF (op - 5 + 1))) ∧ Below W.heap.size W w') := fun W g => impl_flip (op - 5 + 1) W (hC.later g)
    have et : turnOp op xs = if op = 1 then 2 else if op = 2 then 1 else if twB op xs then cF (op - 4) + 4 else 0 := by unfold turnOp; rw [hc, if_pos rfl]
    rw [et]
    rw [hc] at HC
    cases ht : twB op xs with
    | false =>
      rw [ht] at HW
      have h3 : op = 1 ∨ op = 2 ∨ ((op == 1) = false ∧ (op == 2) = false) := by simp only [beq_eq_false_iff_ne]; omega
      clear hc hx hT hC hl ht et HF hne h1 h10
      rcases h3 with rfl | rfl | ⟨e1, e2⟩
      · go_enter Tryd.func16, Tryd.ntmps16
        go_wp2_with fail
        refine (HC.out _ b0).mono ?_
        rintro e w1 ⟨rfl, g1⟩
        have b1 := b0.trans (g1.mono b0.size)
        have c0 := cell_later g1 p0
        clear g1 b0
        go_wp2
        go_ret
        exact ⟨rfl, b1⟩
      · go_enter Tryd.func16, Tryd.ntmps16
        go_wp2_with fail
        refine (HC.out _ b0).mono ?_
        rintro e w1 ⟨rfl, g1⟩
        have b1 := b0.trans (g1.mono b0.size)
        have c0 := cell_later g1 p0
        clear g1 b0
        go_wp2
        go_ret
        exact ⟨rfl, b1⟩
      · have n1 : op ≠ 1 := by simpa using e1
        have n2 : op ≠ 2 := by simpa using e2
        rw [if_neg n1, if_neg n2, if_neg (by simp)]
        go_enter Tryd.func16, Tryd.ntmps16
        go_wp2_with fail
        refine (HC.out _ b0).mono ?_
        rintro e w1 ⟨rfl, g1⟩
        have b1 := b0.trans (g1.mono b0.size)
        have c0 := cell_later g1 p0
        have c1 := cell_later g1 q0
        clear g1 b0
        go_wp2_with fail
        refine (HW.out _ b1).mono ?_
        rintro e w2 ⟨rfl, g2⟩
        have b2 := b1.trans (g2.mono b1.size)
        clear g2 b1
        go_wp2
        go_ret
        exact ⟨rfl, b2⟩
    | true =>
      rw [ht] at HW
      have h5 := tw_big ht
      rw [if_neg (by omega), if_neg (by omega), if_pos rfl]
      clear hc hx hT hC hl ht et hne h1
      obtain ⟨hf1, hf2⟩ := cF_in (j := op - 4) (by omega) (by omega)
      obtain ⟨f, Hf⟩ : ∃ f, Hid (f = cF (op - 4)) := ⟨_, rfl⟩
      rw [← Hf.out] at hf1 hf2 ⊢
      rw [show op - 5 + 1 = op - 4 by omega, ← Hf.out] at HF
      obtain rfl | rfl | rfl | rfl | rfl | rfl : op = 5 ∨ op = 6 ∨ op = 7 ∨ op = 8 ∨ op = 9 ∨ op = 10 := by omega
      all_goals
        clear h5 h10
        simp only [Int.reduceSub] at HF
        go_enter Tryd.func16, Tryd.ntmps16
        go_wp2_with fail
        refine (HC.out _ b0).mono ?_
        rintro e w1 ⟨rfl, g1⟩
        have b1 := b0.trans (g1.mono b0.size)
        have c0 := cell_later g1 p0
        have c1 := cell_later g1 q0
        clear g1 b0
        go_wp2_with fail
        refine (HW.out _ b1).mono ?_
        rintro e w2 ⟨rfl, g2⟩
        have b2 := b1.trans (g2.mono b1.size)
        have d0 := cell_later g2 c0
        clear g2 b1 c0 c1
        go_wp2_with fail
        refine (HF.out _ b2).mono ?_
        rintro e w3 ⟨rfl, g3⟩
        have b3 := b2.trans (g3.mono b2.size)
        clear g3 b2
        go_wp2
        go_ret
        exact ⟨(by show Ending.returned (.int .i64 (f - 1 + 5)) = _; rw [show f - 1 + 5 = f + 4 by omega]), b3⟩
end Go.Proofs.YtlgacbjopobeoaaDoor
/- PeepTurn of the program. -/
namespace Go.Proofs.YtlgacbjopobeoaaDoor
open Go.RowKit Go.Shelf
set_option linter.unusedVariables false

/-- A contact turned, in new memory, or nothing. -/
def TurnR (op : Int) (xs : List Arg) (w : World) (e : Ending) (w' : World) : Prop :=
  ∃ (a : Option Addr) (l cp : Nat), e = .returned (.tuple #[.agg #[.int .i64 (turnOp op xs), .slice a l cp], .bool (decide (turnOp op xs ≠ 0))]) ∧ l = (turnXs op xs).length ∧
    ArgsOwn w' w.heap.size (Value.slice a l cp).ownBlock.toList (.slice a l cp) (turnXs op xs) ∧ Below w.heap.size w w'

theorem args_is_sl {W : World} {a : Option Addr} {len cap : Nat} {xs : List Arg} (hl : len = xs.length) (hm : len ≤ 9223372036854775807) (h : Sl W a xs) : ArgsIs W 0 (.slice a len cap) xs := by
  subst hl
  refine ⟨a, cap, rfl, hm, fun j x hx => ?_⟩
  rcases h with rfl | ⟨b, o, rfl, ho⟩
  · simp at hx
  · obtain ⟨x0, x1, x2⟩ := ho j x hx
    refine ⟨b, o, _, rfl, Nat.zero_le _, ?_, ?_, rfl⟩
    · rfl
    · intro i c hi
      match i, hi with
      | 0, hi => obtain rfl := Option.some.inj hi; exact x0
      | 1, hi => obtain rfl := Option.some.inj hi; exact x1
      | 2, hi => obtain rfl := Option.some.inj hi; exact x2

/-- A row and a value handed back. -/
theorem ret_rowT {P : Program} {fn : Func} {Q : Ending → World → Prop} {a : Act} {w : World} {p p2 : Tmp} {ty : TypeId} (hf : fn.results = #[.cell p ty, .tmp p2]) {g : Nat} (hp : a.tmps.getD p undef = .pointer (some ⟨g, 0, none⟩)) {v2 : Value} (hp2 : a.tmps.getD p2 undef = v2)
    {v : Value} (h1 : (loadVar ty ⟨g, 0, none⟩).run P w = .ok v w) (hdf : a.defers = []) (hR : Q (.returned (.tuple #[v, v2])) w) : bodyPost P fn Q .ret a w := by
  refine bodyPost_ret (v := .tuple #[v, v2]) ?_ hdf hR
  have hp' : a.tmps[p]?.getD undef = .pointer (some ⟨g, 0, none⟩) := by simpa using hp
  have hp2' : a.tmps[p2]?.getD undef = v2 := by simpa using hp2
  simp [results, hf, hp', hp2', asAddr, h1]
theorem gb_celT (W : World) (b f : Nat) (v : Value) : W.grownBy (W.setCell ⟨b, f, none⟩ v) (some b) :=
  ⟨rfl, rfl, rfl, by simp, fun k _ hk => Below.heap_setCell _ _ _ k (fun e => hk (by rw [e]))⟩
theorem gb_stepT {w a b : World} {g : Nat} (h : w.grownBy a (some g)) (k : a.grownBy b (some g)) : w.grownBy b (some g) :=
  ⟨k.os.trans h.os, k.tape.trans h.tape, k.output.trans h.output, Nat.le_trans h.size k.size, fun i hi hne => (k.block i (Nat.lt_of_lt_of_le hi h.size) hne).trans (h.block i hi hne)⟩
theorem info_elemT : (Tryd.prog.info? 28).map (·.size) = some 2 := by kernel_rfl
theorem args_nil (W : World) (base : Nat) : ArgsOwn W base [] (.slice none 0 0) [] := ⟨[], [], .nil, ⟨by simp, .inl ⟨rfl, rfl⟩⟩, rfl⟩

set_option maxRecDepth 10000 in
set_option maxHeartbeats 2000000 in
theorem turn_i (op : Int) (a : Option Addr) (len cap : Nat) (xs : List Arg) (w : World) (hT : KT w) (hC : CT w) (hl : len = xs.length) (hm : len ≤ 1048576) (hx : Sl w a xs) :
    Calls Tryd.prog 7 #[.agg #[.int .i64 op, .slice a len cap]] w fun e w' => TurnR op xs w e w' := by
  have HO : Hid (∀ W, Below w.heap.size w W → Calls Tryd.prog 16 #[.agg #[.int .i64 op, .slice a len cap]] W fun e w' => e = .returned (.int .i64 (turnOp op xs)) ∧ Below W.heap.size W w') := fun W g => opp_i op a len cap xs W (hT.later g) (hC.later g) hl (hx.later g)
  have HN : Hid (∀ W, Below w.heap.size w W → Calls Tryd.prog 17 #[.agg #[.int .i64 op, .slice a len cap]] W fun e w' => ∃ (a : Option Addr) (cp : Nat), e = .returned (.agg #[.int .i64 op, .slice a len cp]) ∧ ArgsOwn w' W.heap.size (Value.slice a len cp).ownBlock.toList (.slice a len cp) xs ∧ Below W.heap.size W w') := fun W g => nelem_i op a len cap 0 xs hl W (args_is_sl hl (by omega) (hx.later g)) (by omega)
  have b0 : Below w.heap.size w ((w.alloc (.cells #[.int .i64 op, .slice a len cap] 28)).alloc (.cells #[.int .i64 0, .slice none 0 0] 28)) := two_below' _ _
  obtain ⟨r1, r2⟩ := rows2 w (.cells #[.int .i64 op, .slice a len cap] 28) (.cells #[.int .i64 0, .slice none 0 0] 28)
  have hz : ((w.alloc (.cells #[.int .i64 op, .slice a len cap] 28)).alloc (.cells #[.int .i64 0, .slice none 0 0] 28)).heap.size = w.heap.size + 2 := by simp
  have Hl : Hid (len = xs.length) := hl
  obtain ⟨T, HTt⟩ : ∃ T, Hid (T = turnOp op xs) := ⟨_, rfl⟩
  unfold TurnR
  have HX : Hid (turnXs op xs = if T = 0 then [] else xs) := (by unfold turnXs; rw [HTt.out] : turnXs op xs = if T = 0 then [] else xs)
  rw [← HTt.out] at HO ⊢
  rw [HX.out]
  clear hx hT hC hl hm
  by_cases hT : T = 0
  · simp only [if_pos hT]
    go_enter Tryd.func7, Tryd.ntmps7
    go_upto_region 1 with fail
    generalize ((w.alloc (.cells #[.int .i64 op, .slice a len cap] 28)).alloc (.cells #[.int .i64 0, .slice none 0 0] 28)) = W0 at b0 r1 r2 hz ⊢
    have c0 : W0.cell? ⟨w.heap.size, 0, none⟩ = some (.int .i64 op) := (cell_of_row _ _ _ _ _ _ r1).trans rfl
    have c1 : W0.cell? ⟨w.heap.size, 1, none⟩ = some (.slice a len cap) := (cell_of_row _ _ _ _ _ _ r1).trans rfl
    go_wp2_with fail
    refine (HO.out _ b0).mono ?_
    rintro e w1 ⟨rfl, g1⟩
    have b1 := b0.trans (g1.mono b0.size)
    have d0 := cell_later g1 c0
    have d1 := cell_later g1 c1
    have s1 : w1.heap[w.heap.size + 1]? = some (.cells #[.int .i64 0, .slice none 0 0] 28 (0, 0)) := (g1.block _ (by omega)).trans r2
    have lt1 : w.heap.size + 1 < w1.heap.size := (Array.getElem?_eq_some_iff.1 s1).1
    have f0 : w1.cell? ⟨w.heap.size + 1, 0, none⟩ = some (.int .i64 0) := (cell_of_row _ _ _ _ _ _ s1).trans rfl
    have f1 : w1.cell? ⟨w.heap.size + 1, 1, none⟩ = some (.slice none 0 0) := (cell_of_row _ _ _ _ _ _ s1).trans rfl
    clear g1 b0 c0 c1 r1 r2 hz HO
    have eT : (T == 0) = true := by rw [hT]; rfl
    obtain ⟨kr, _, _, x0, x1⟩ := two_free (Below.refl w1.heap.size w1) s1
    have HR := row_put (row_put kr 0 (.int .i64 0)) 1 (.slice none 0 0)
    have HB : Below w.heap.size w ((w1.setCell ⟨w.heap.size + 1, 0, none⟩ (.int .i64 0)).setCell ⟨w.heap.size + 1, 1, none⟩ (.slice none 0 0)) := (b1.setCell (p := ⟨w.heap.size + 1, 0, none⟩) (Nat.le_succ _) _).setCell (p := ⟨w.heap.size + 1, 1, none⟩) (Nat.le_succ _) _
    go_wp2
    refine ret_rowT rfl rfl rfl (load_all HR _ _ Tryd.underlying28 rfl info_elemT) rfl ?_
    exact ⟨none, 0, 0, by rw [hT]; rfl, rfl, args_nil _ _, HB⟩
  · simp only [if_neg hT]
    have dT : decide (T ≠ 0) = true := by simp [hT]
    rw [dT]
    go_enter Tryd.func7, Tryd.ntmps7
    go_upto_region 1 with fail
    generalize ((w.alloc (.cells #[.int .i64 op, .slice a len cap] 28)).alloc (.cells #[.int .i64 0, .slice none 0 0] 28)) = W0 at b0 r1 r2 hz ⊢
    have c0 : W0.cell? ⟨w.heap.size, 0, none⟩ = some (.int .i64 op) := (cell_of_row _ _ _ _ _ _ r1).trans rfl
    have c1 : W0.cell? ⟨w.heap.size, 1, none⟩ = some (.slice a len cap) := (cell_of_row _ _ _ _ _ _ r1).trans rfl
    go_wp2_with fail
    refine (HO.out _ b0).mono ?_
    rintro e w1 ⟨rfl, g1⟩
    have b1 := b0.trans (g1.mono b0.size)
    have d0 := cell_later g1 c0
    have d1 := cell_later g1 c1
    have s1 : w1.heap[w.heap.size + 1]? = some (.cells #[.int .i64 0, .slice none 0 0] 28 (0, 0)) := (g1.block _ (by omega)).trans r2
    have lt1 : w.heap.size + 1 < w1.heap.size := (Array.getElem?_eq_some_iff.1 s1).1
    have f0 : w1.cell? ⟨w.heap.size + 1, 0, none⟩ = some (.int .i64 0) := (cell_of_row _ _ _ _ _ _ s1).trans rfl
    have f1 : w1.cell? ⟨w.heap.size + 1, 1, none⟩ = some (.slice none 0 0) := (cell_of_row _ _ _ _ _ _ s1).trans rfl
    clear g1 b0 c0 c1 r1 r2 hz HO
    have eT : (T == 0) = false := by simp [hT]
    go_wp2_with fail
    refine (HN.out _ b1).mono ?_
    rintro e w2 ⟨a2, cp2, rfl, o2, g2⟩
    have b2 := b1.trans (g2.mono b1.size)
    have s2 : w2.heap[w.heap.size + 1]? = some (.cells #[.int .i64 0, .slice none 0 0] 28 (0, 0)) := (g2.block _ lt1).trans s1
    have lt2 : w.heap.size + 1 < w2.heap.size := (Array.getElem?_eq_some_iff.1 s2).1
    have h0 : w2.cell? ⟨w.heap.size + 1, 0, none⟩ = some (.int .i64 0) := (cell_of_row _ _ _ _ _ _ s2).trans rfl
    have h1 : w2.cell? ⟨w.heap.size + 1, 1, none⟩ = some (.slice none 0 0) := (cell_of_row _ _ _ _ _ _ s2).trans rfl
    have HO2 : Hid (ArgsOwn w2 w1.heap.size (Value.slice a2 len cp2).ownBlock.toList (.slice a2 len cp2) xs ∧ w.heap.size + 1 < w1.heap.size ∧ Below w.heap.size w w2) := ⟨o2, lt1, b2⟩
    clear g2 b1 o2 HN s1 f0 f1 d0 d1 b2
    obtain ⟨kr, _, _, x0, x1⟩ := two_free (Below.refl w2.heap.size w2) s2
    have HR := row_put (row_put kr 0 (.int .i64 T)) 1 (.slice a2 len cp2)
    obtain ⟨WF, HWF⟩ : ∃ W, Hid (W = ((w2.setCell ⟨w.heap.size + 1, 0, none⟩ (.int .i64 T)).setCell ⟨w.heap.size + 1, 1, none⟩ (.slice a2 len cp2)).alloc (.cells #[.int .i64 T, .slice a2 len cp2] 28)) := ⟨_, rfl⟩
    have HG : w2.grownBy WF (some (w.heap.size + 1)) := by
      rw [HWF.out]
      have g1 : w2.grownBy (w2.setCell ⟨w.heap.size + 1, 0, none⟩ (.int .i64 T)) (some (w.heap.size + 1)) := gb_celT _ _ _ _
      have g2 : (w2.setCell ⟨w.heap.size + 1, 0, none⟩ (.int .i64 T)).grownBy ((w2.setCell ⟨w.heap.size + 1, 0, none⟩ (.int .i64 T)).setCell ⟨w.heap.size + 1, 1, none⟩ (.slice a2 len cp2)) (some (w.heap.size + 1)) := gb_celT _ _ _ _
      exact gb_stepT (gb_stepT g1 g2) (World.grownBy_alloc _ _ _)
    have HF : Hid (ArgsOwn WF w1.heap.size (Value.slice a2 len cp2).ownBlock.toList (.slice a2 len cp2) xs ∧ Below w.heap.size w WF ∧ WF.heap[w.heap.size + 1]? = some (.cells #[.int .i64 T, .slice a2 len cp2] 28 (0, 0))) := by
      refine ⟨HO2.out.1.move HG (fun b hb => ?_), ?_, ?_⟩
      · have := ArgsOwn.lt HO2.out.1 b hb
        simp; omega
      · rw [HWF.out]
        have h2 := ((HO2.out.2.2.setCell (p := ⟨w.heap.size + 1, 0, none⟩) (Nat.le_succ _) (.int .i64 T)).setCell (p := ⟨w.heap.size + 1, 1, none⟩) (Nat.le_succ _) (.slice a2 len cp2))
        exact h2.alloc h2.size _
      · rw [HWF.out]
        exact (heap_alloc_old _ _ (Array.getElem?_eq_some_iff.1 HR).1).trans HR
    clear kr HG HR
    go_wp2
    rw [← HWF.out]
    refine ret_rowT rfl rfl rfl (load_all HF.out.2.2 _ _ Tryd.underlying28 rfl info_elemT) rfl ?_
    exact ⟨a2, len, cp2, rfl, Hl.out, args_base HF.out.1 (by omega), HF.out.2.1⟩
end Go.Proofs.YtlgacbjopobeoaaDoor
/- PeepTurn of the specification. -/
namespace Go.Proofs.YtlgacbjopobeoaaDoor
open Go.RowKit Go.Shelf
set_option linter.unusedVariables false
set_option linter.unusedSimpArgs false

section
variable {P : Program} {w : World}
theorem wpList_app_runT {ops : Array Oper} {rest : List Oper} {o : Oper} {a : Act} {Q : Exit → Act → World → Prop} (hgd : o.guard = none) (s x : Operand) (t : TypeId)
    (ho : o.op = .call { callee := .builtin .append, args := #[s, x], argTypes := #[t, t] }) (v y : Value) (hs : a.eval s = v) (hx : a.eval x = y) (v' : Value) (w' : World)
    (hr : ∀ ty, (Builtin.append_ #[t, t] ty #[v, y]).run P w = .ok v' w') (h : wpList P ops Q rest (a.put o.dst v') w') : wpList P ops Q (o :: rest) a w :=
  wpList_plain hgd fun K hK => by
    unfold Oper.wp execOp
    simp only [ho, resolve, invoke, builtin, Sem.run_bind, Sem.run_pure, Result.andThen_ok, List.map_toArray, List.map_cons, List.map_nil, hs, hx, hr]
    exact hK _ _ h
end
theorem avs_atT {w : World} {lo : Nat} {a : Option Addr} {n cp : Nat} {xs : List ArgT} (h : RowIs w lo 3 ArgIs (.slice a n cp) xs) (h0 : 0 < xs.length) : ∃ b o, a = some ⟨b, o, none⟩ ∧ b < w.heap.size ∧ ∀ (j : Nat) (u : Value), (avs xs)[j]? = some u → w.cell? ⟨b, o + j, none⟩ = some u := by
  obtain ⟨a', cp', e, _, hx⟩ := h
  cases e
  obtain ⟨b, o, cs, rfl, _, _, hr, hR⟩ := hx 0 _ (List.getElem?_eq_getElem h0)
  have hR : cs = _ := hR
  refine ⟨b, o, rfl, World.block_lt_of_cell? _ _ (hr 0 _ (by rw [hR]; rfl)), ?_⟩
  have key : ∀ (ys : List ArgT) (k : Nat), (∀ i y, ys[i]? = some y → w.rangeAt b (o + (k + i) * 3) [.int .i64 y.1, .int .i64 y.2.1, .int .i64 y.2.2]) → ∀ (j : Nat) (u : Value), (avs ys)[j]? = some u → w.cell? ⟨b, o + k * 3 + j, none⟩ = some u := by
    intro ys
    induction ys with
    | nil => intro k _ j u hu; simp [avs] at hu
    | cons y ys ih =>
      intro k hk j u hu
      have hav : avs (y :: ys) = [.int .i64 y.1, .int .i64 y.2.1, .int .i64 y.2.2] ++ avs ys := rfl
      rw [hav] at hu
      by_cases hj : j < 3
      · rw [List.getElem?_append_left (by simpa using hj)] at hu
        have := hk 0 y rfl j u hu
        simpa using this
      · rw [List.getElem?_append_right (by simp; omega)] at hu
        have := ih (k + 1) (fun i y' hy => by have := hk (i + 1) y' hy; rwa [show k + (i + 1) = k + 1 + i by omega] at this) (j - 3) u (by simpa using hu)
        rwa [show o + (k + 1) * 3 + (j - 3) = o + k * 3 + j by omega] at this
  intro j u hu
  have := key xs 0 (fun i y hy => by
    obtain ⟨b', o', cs', e, _, _, hr', hR'⟩ := hx i y hy
    simp only [Option.some.injEq, Addr.mk.injEq] at e
    obtain ⟨rfl, rfl, _⟩ := e
    have hR' : cs' = _ := hR'
    rw [hR'] at hr'
    simpa using hr') j u hu
  simpa using this

/-- The operands behind an empty row of one's own. -/
theorem app_argsT (W : World) (base lo : Nat) (ua : Option Addr) (ul uc : Nat) (xs : List ArgT) (hul : ul = xs.length) (hbig : ul ≤ 1048576) (hb : base ≤ W.heap.size) (hv : ArgsIs W lo (.slice ua ul uc) xs) :
    ∃ (g cap : Nat) (w' : World), (∀ ty, (Builtin.append_ #[26, 26] ty #[.slice (some ⟨W.heap.size, 0, none⟩) 0 0, .slice ua ul uc]).run Tryd.prog (W.alloc (.cells #[] 39)) = .ok (.slice (some ⟨g, 0, none⟩) ul cap) w') ∧ w'.ownsRow base 39 3 (.slice (some ⟨g, 0, none⟩) ul cap) ul (avs xs) ∧ (W.alloc (.cells #[] 39)).grownBy w' (some W.heap.size) ∧ W.heap.size ≤ g := by
  have hinfo : (Tryd.prog.info? 39).map (fun i => (i.zero, i.size, i.bytes)) = some (some (.agg #[.int .i64 0, .int .i64 0, .int .i64 0]), 3, 24) := by kernel_rfl
  obtain ⟨ti, hi, hzz⟩ := Option.map_eq_some_iff.1 hinfo
  simp only [Prod.mk.injEq] at hzz
  obtain ⟨hz0, hz1, hz2⟩ := hzz
  have own0 : (W.alloc (.cells #[] 39)).ownsRow base 39 3 (.slice (some ⟨W.heap.size, 0, none⟩) 0 0) 0 [] := World.ownsRow_made (base := base) (e := 39) (size := 3) W #[] 0 hb (by unfold maxLen; omega) rfl
  by_cases h0 : 0 < xs.length
  · obtain ⟨b, o, rfl, hbl, hc⟩ := avs_atT hv h0
    have hav := avs_len xs
    have hrun := fun ty => run_append_lies (P := Tryd.prog) (W.alloc (.cells #[] 39)) 26 ty base 39 ti (.agg #[.int .i64 0, .int .i64 0, .int .i64 0]) 3 24 Tryd.underlying26 hi hz0 hz1 hz2 rfl (by decide) (.slice (some ⟨W.heap.size, 0, none⟩) 0 0) 0 [] own0 ⟨b, o, none⟩ ul uc (avs xs) (by rw [hav, hul]) (fun j u hu => by
      rw [show (⟨b, o, none⟩ : Addr).add j = ⟨b, o + j, none⟩ from Addr.add_mid b o j]
      exact (Keeps.of_below ((Below.refl _ _).alloc (Nat.le_refl _) _) 0) _ _ _ (Nat.zero_le _) (hc j u hu)) (avs_one xs) (by omega) (by unfold maxLen; omega) (by omega) (by simp; omega) _ rfl
    obtain ⟨g, cap, w', hr, own, gg, hat, hlt⟩ := hrun 26
    refine ⟨g, cap, w', fun ty => ?_, by simpa using own, gg, ?_⟩
    · have : (Builtin.append_ #[26, 26] ty #[.slice (some ⟨W.heap.size, 0, none⟩) 0 0, .slice (some ⟨b, o, none⟩) ul uc]).run Tryd.prog (W.alloc (.cells #[] 39)) = (Builtin.append_ #[26, 26] 26 #[.slice (some ⟨W.heap.size, 0, none⟩) 0 0, .slice (some ⟨b, o, none⟩) ul uc]).run Tryd.prog (W.alloc (.cells #[] 39)) := by simp only [Builtin.append_]
      rw [this, hr]
      simp
    · rcases hat with h | h
      · simp [Value.ownBlock] at h; omega
      · simp at h; omega
  · have hx0 : xs = [] := List.length_eq_zero_iff.1 (by omega)
    subst hx0
    have hul0 : ul = 0 := by simpa using hul
    subst hul0
    refine ⟨W.heap.size, 0, W.alloc (.cells #[] 39), fun ty => ?_, by simpa [avs] using own0, ⟨rfl, rfl, rfl, Nat.le_refl _, fun _ _ _ => rfl⟩, Nat.le_refl _⟩
    cases ua with
    | none => simp [Builtin.append_, run_underlying Tryd.underlying26, sizeOf, typeInfo, hi, Builtin.lenOf, Builtin.firstCells, storeCells]
    | some ad => simp [Builtin.append_, run_underlying Tryd.underlying26, sizeOf, typeInfo, hi, Builtin.lenOf, Builtin.firstCells, loadCells, loadCellsFrom, storeCells]

set_option maxRecDepth 10000 in
set_option maxHeartbeats 4000000 in
theorem tz_no (op : Int) (a : Option Addr) (len cap : Nat) (xs : List Arg) (w : World) (hc : isC op xs = false) (hl : len = xs.length) (hm : len ≤ 1048576) (hx : Sl w a xs) :
    Calls Tryd.prog 5 #[.agg #[.int .i64 op, .slice a len cap]] w fun e w' => e = .returned (.tuple #[.agg #[.int .i64 0, .slice none 0 0], .bool false]) ∧ Below w.heap.size w w' := by
  have HC : Hid (∀ W, Below w.heap.size w W → Calls Tryd.prog 12 #[.agg #[.int .i64 op, .slice a len cap]] W fun e w' => e = .returned (.bool (isC op xs)) ∧ Below W.heap.size W w') := fun W g => spec_iscontact op a xs len cap hl W (hx.later g)
  have b0 : Below w.heap.size w ((w.alloc (.cells #[.int .i64 op, .slice a len cap] 28)).alloc (.cells #[.int .i64 0, .slice none 0 0] 28)) := two_below' _ _
  obtain ⟨r1, r2⟩ := rows2 w (.cells #[.int .i64 op, .slice a len cap] 28) (.cells #[.int .i64 0, .slice none 0 0] 28)
  have hz : ((w.alloc (.cells #[.int .i64 op, .slice a len cap] 28)).alloc (.cells #[.int .i64 0, .slice none 0 0] 28)).heap.size = w.heap.size + 2 := by simp
  have Hl : Hid (len = xs.length) := hl
  have Hm : Hid (len ≤ 1048576) := hm
  have HXs : Hid (∀ W, Below w.heap.size w W → Sl W a xs) := fun W g => hx.later g
  rw [hc] at HC
  clear hx hl hm hc
  go_enter Tryd.func5, Tryd.ntmps5
  go_upto_region 1 with fail
  generalize ((w.alloc (.cells #[.int .i64 op, .slice a len cap] 28)).alloc (.cells #[.int .i64 0, .slice none 0 0] 28)) = W0 at b0 r1 r2 hz ⊢
  have c0 : W0.cell? ⟨w.heap.size, 0, none⟩ = some (.int .i64 op) := (cell_of_row _ _ _ _ _ _ r1).trans rfl
  have c1 : W0.cell? ⟨w.heap.size, 1, none⟩ = some (.slice a len cap) := (cell_of_row _ _ _ _ _ _ r1).trans rfl
  go_wp2_with fail
  refine (HC.out _ b0).mono ?_
  rintro e w1 ⟨rfl, g1⟩
  have b1 := b0.trans (g1.mono b0.size)
  have d0 := cell_later g1 c0
  have d1 := cell_later g1 c1
  have s1 : w1.heap[w.heap.size + 1]? = some (.cells #[.int .i64 0, .slice none 0 0] 28 (0, 0)) := (g1.block _ (by omega)).trans r2
  have lt1 : w.heap.size + 1 < w1.heap.size := (Array.getElem?_eq_some_iff.1 s1).1
  clear g1 b0 c0 c1 r1 r2 hz HC
  obtain ⟨kr, z0, z1, x0, x1⟩ := two_free (Below.refl w1.heap.size w1) s1
  have HR := row_put (row_put kr 0 (.int .i64 0)) 1 (.slice none 0 0)
  have HB : Below w.heap.size w ((w1.setCell ⟨w.heap.size + 1, 0, none⟩ (.int .i64 0)).setCell ⟨w.heap.size + 1, 1, none⟩ (.slice none 0 0)) := (b1.setCell (p := ⟨w.heap.size + 1, 0, none⟩) (Nat.le_succ _) _).setCell (p := ⟨w.heap.size + 1, 1, none⟩) (Nat.le_succ _) _
  go_wp2
  refine ret_rowT rfl rfl rfl (load_all HR _ _ Tryd.underlying28 rfl info_elemT) rfl ?_
  exact ⟨rfl, HB⟩

set_option maxRecDepth 10000 in
set_option maxHeartbeats 4000000 in
theorem tz_edge (op : Int) (a : Option Addr) (len cap : Nat) (xs : List Arg) (w : World) (hc : isC op xs = true) (ho : op = 3 ∨ op = 4) (hl : len = xs.length) (hm : len ≤ 1048576) (hx : Sl w a xs) :
    Calls Tryd.prog 5 #[.agg #[.int .i64 op, .slice a len cap]] w fun e w' => e = .returned (.tuple #[.agg #[.int .i64 0, .slice none 0 0], .bool false]) ∧ Below w.heap.size w w' := by
  have HC : Hid (∀ W, Below w.heap.size w W → Calls Tryd.prog 12 #[.agg #[.int .i64 op, .slice a len cap]] W fun e w' => e = .returned (.bool (isC op xs)) ∧ Below W.heap.size W w') := fun W g => spec_iscontact op a xs len cap hl W (hx.later g)
  have b0 : Below w.heap.size w ((w.alloc (.cells #[.int .i64 op, .slice a len cap] 28)).alloc (.cells #[.int .i64 0, .slice none 0 0] 28)) := two_below' _ _
  obtain ⟨r1, r2⟩ := rows2 w (.cells #[.int .i64 op, .slice a len cap] 28) (.cells #[.int .i64 0, .slice none 0 0] 28)
  have hz : ((w.alloc (.cells #[.int .i64 op, .slice a len cap] 28)).alloc (.cells #[.int .i64 0, .slice none 0 0] 28)).heap.size = w.heap.size + 2 := by simp
  have Hl : Hid (len = xs.length) := hl
  have Hm : Hid (len ≤ 1048576) := hm
  have HXs : Hid (∀ W, Below w.heap.size w W → Sl W a xs) := fun W g => hx.later g
  rw [hc] at HC
  clear hx hl hm hc
  rcases ho with rfl | rfl
  ·
    go_enter Tryd.func5, Tryd.ntmps5
    go_upto_region 1 with fail
    generalize ((w.alloc (.cells #[.int .i64 3, .slice a len cap] 28)).alloc (.cells #[.int .i64 0, .slice none 0 0] 28)) = W0 at b0 r1 r2 hz ⊢
    have c0 : W0.cell? ⟨w.heap.size, 0, none⟩ = some (.int .i64 3) := (cell_of_row _ _ _ _ _ _ r1).trans rfl
    have c1 : W0.cell? ⟨w.heap.size, 1, none⟩ = some (.slice a len cap) := (cell_of_row _ _ _ _ _ _ r1).trans rfl
    go_wp2_with fail
    refine (HC.out _ b0).mono ?_
    rintro e w1 ⟨rfl, g1⟩
    have b1 := b0.trans (g1.mono b0.size)
    have d0 := cell_later g1 c0
    have d1 := cell_later g1 c1
    have s1 : w1.heap[w.heap.size + 1]? = some (.cells #[.int .i64 0, .slice none 0 0] 28 (0, 0)) := (g1.block _ (by omega)).trans r2
    have lt1 : w.heap.size + 1 < w1.heap.size := (Array.getElem?_eq_some_iff.1 s1).1
    clear g1 b0 c0 c1 r1 r2 hz HC
    obtain ⟨kr, z0, z1, x0, x1⟩ := two_free (Below.refl w1.heap.size w1) s1
    have HR := row_put (row_put kr 0 (.int .i64 0)) 1 (.slice none 0 0)
    have HB : Below w.heap.size w ((w1.setCell ⟨w.heap.size + 1, 0, none⟩ (.int .i64 0)).setCell ⟨w.heap.size + 1, 1, none⟩ (.slice none 0 0)) := (b1.setCell (p := ⟨w.heap.size + 1, 0, none⟩) (Nat.le_succ _) _).setCell (p := ⟨w.heap.size + 1, 1, none⟩) (Nat.le_succ _) _
    go_wp2
    refine ret_rowT rfl rfl rfl (load_all HR _ _ Tryd.underlying28 rfl info_elemT) rfl ?_
    exact ⟨rfl, HB⟩
  ·
    go_enter Tryd.func5, Tryd.ntmps5
    go_upto_region 1 with fail
    generalize ((w.alloc (.cells #[.int .i64 4, .slice a len cap] 28)).alloc (.cells #[.int .i64 0, .slice none 0 0] 28)) = W0 at b0 r1 r2 hz ⊢
    have c0 : W0.cell? ⟨w.heap.size, 0, none⟩ = some (.int .i64 4) := (cell_of_row _ _ _ _ _ _ r1).trans rfl
    have c1 : W0.cell? ⟨w.heap.size, 1, none⟩ = some (.slice a len cap) := (cell_of_row _ _ _ _ _ _ r1).trans rfl
    go_wp2_with fail
    refine (HC.out _ b0).mono ?_
    rintro e w1 ⟨rfl, g1⟩
    have b1 := b0.trans (g1.mono b0.size)
    have d0 := cell_later g1 c0
    have d1 := cell_later g1 c1
    have s1 : w1.heap[w.heap.size + 1]? = some (.cells #[.int .i64 0, .slice none 0 0] 28 (0, 0)) := (g1.block _ (by omega)).trans r2
    have lt1 : w.heap.size + 1 < w1.heap.size := (Array.getElem?_eq_some_iff.1 s1).1
    clear g1 b0 c0 c1 r1 r2 hz HC
    obtain ⟨kr, z0, z1, x0, x1⟩ := two_free (Below.refl w1.heap.size w1) s1
    have HR := row_put (row_put kr 0 (.int .i64 0)) 1 (.slice none 0 0)
    have HB : Below w.heap.size w ((w1.setCell ⟨w.heap.size + 1, 0, none⟩ (.int .i64 0)).setCell ⟨w.heap.size + 1, 1, none⟩ (.slice none 0 0)) := (b1.setCell (p := ⟨w.heap.size + 1, 0, none⟩) (Nat.le_succ _) _).setCell (p := ⟨w.heap.size + 1, 1, none⟩) (Nat.le_succ _) _
    go_wp2
    refine ret_rowT rfl rfl rfl (load_all HR _ _ Tryd.underlying28 rfl info_elemT) rfl ?_
    exact ⟨rfl, HB⟩

set_option maxRecDepth 10000 in
set_option maxHeartbeats 4000000 in
theorem tz_real (op : Int) (a : Option Addr) (len cap : Nat) (xs : List Arg) (w : World) (hc : isC op xs = true) (h5 : 5 ≤ op) (h10 : op ≤ 10) (b o : Nat) (ha : a = some ⟨b, o, none⟩) (hO : Ops w b o xs) (k n p : Int) (hj : xs[0]? = some (k, n, p)) (hpos : 0 < len) (hW : ∀ W, Calls Tryd.prog 13 #[.agg #[.int .i64 k, .int .i64 n, .int .i64 p]] W fun e w' => e = .returned (.bool false) ∧ Below W.heap.size W w') (hl : len = xs.length) (hm : len ≤ 1048576) (hx : Sl w a xs) :
    Calls Tryd.prog 5 #[.agg #[.int .i64 op, .slice a len cap]] w fun e w' => e = .returned (.tuple #[.agg #[.int .i64 0, .slice none 0 0], .bool false]) ∧ Below w.heap.size w w' := by
  have HC : Hid (∀ W, Below w.heap.size w W → Calls Tryd.prog 12 #[.agg #[.int .i64 op, .slice a len cap]] W fun e w' => e = .returned (.bool (isC op xs)) ∧ Below W.heap.size W w') := fun W g => spec_iscontact op a xs len cap hl W (hx.later g)
  have b0 : Below w.heap.size w ((w.alloc (.cells #[.int .i64 op, .slice a len cap] 28)).alloc (.cells #[.int .i64 0, .slice none 0 0] 28)) := two_below' _ _
  obtain ⟨r1, r2⟩ := rows2 w (.cells #[.int .i64 op, .slice a len cap] 28) (.cells #[.int .i64 0, .slice none 0 0] 28)
  have hz : ((w.alloc (.cells #[.int .i64 op, .slice a len cap] 28)).alloc (.cells #[.int .i64 0, .slice none 0 0] 28)).heap.size = w.heap.size + 2 := by simp
  have Hl : Hid (len = xs.length) := hl
  have Hm : Hid (len ≤ 1048576) := hm
  have HXs : Hid (∀ W, Below w.heap.size w W → Sl W a xs) := fun W g => hx.later g
  have HW : Hid (∀ W, Calls Tryd.prog 13 #[.agg #[.int .i64 k, .int .i64 n, .int .i64 p]] W fun e w' => e = .returned (.bool false) ∧ Below W.heap.size W w') := hW
  subst ha
  have i1 : (0 : Int) < (len : Int) := by omega
  have n3 : (op == 3) = false := by simp; omega
  have n4 : (op == 4) = false := by simp; omega
  rw [hc] at HC
  clear hx hl hm hc hpos
  go_enter Tryd.func5, Tryd.ntmps5
  go_upto_region 1 with fail
  generalize ((w.alloc (.cells #[.int .i64 op, .slice (some ⟨b, o, none⟩) len cap] 28)).alloc (.cells #[.int .i64 0, .slice none 0 0] 28)) = W0 at b0 r1 r2 hz ⊢
  have c0 : W0.cell? ⟨w.heap.size, 0, none⟩ = some (.int .i64 op) := (cell_of_row _ _ _ _ _ _ r1).trans rfl
  have c1 : W0.cell? ⟨w.heap.size, 1, none⟩ = some (.slice (some ⟨b, o, none⟩) len cap) := (cell_of_row _ _ _ _ _ _ r1).trans rfl
  go_wp2_with fail
  refine (HC.out _ b0).mono ?_
  rintro e w1 ⟨rfl, g1⟩
  have b1 := b0.trans (g1.mono b0.size)
  have d0 := cell_later g1 c0
  have d1 := cell_later g1 c1
  have s1 : w1.heap[w.heap.size + 1]? = some (.cells #[.int .i64 0, .slice none 0 0] 28 (0, 0)) := (g1.block _ (by omega)).trans r2
  have lt1 : w.heap.size + 1 < w1.heap.size := (Array.getElem?_eq_some_iff.1 s1).1
  clear g1 b0 c0 c1 r1 r2 hz HC
  obtain ⟨y0, y1, y2⟩ := (show Ops w1 b o xs from hO.later b1).c3 (j := 0) (k := k) (n := n) (p := p) hj (o' := o) (by omega)
  have lb : b < w1.heap.size := World.block_lt_of_cell? _ _ y0
  go_wp2_with fail
  refine (HW.out _).mono ?_
  rintro e w2 ⟨rfl, g2⟩
  have b2 := b1.trans (g2.mono b1.size)
  have s2 : w2.heap[w.heap.size + 1]? = some (.cells #[.int .i64 0, .slice none 0 0] 28 (0, 0)) := (g2.block _ lt1).trans s1
  have e0 := cell_later g2 d0
  have e1 := cell_later g2 d1
  have lt2 : w.heap.size + 1 < w2.heap.size := (Array.getElem?_eq_some_iff.1 s2).1
  clear g2 b1 s1 d0 d1 y0 y1 y2 lt1 lb HW
  obtain ⟨kr, z0, z1, x0, x1⟩ := two_free (Below.refl w2.heap.size w2) s2
  have HR := row_put (row_put kr 0 (.int .i64 0)) 1 (.slice none 0 0)
  have HB : Below w.heap.size w ((w2.setCell ⟨w.heap.size + 1, 0, none⟩ (.int .i64 0)).setCell ⟨w.heap.size + 1, 1, none⟩ (.slice none 0 0)) := (b2.setCell (p := ⟨w.heap.size + 1, 0, none⟩) (Nat.le_succ _) _).setCell (p := ⟨w.heap.size + 1, 1, none⟩) (Nat.le_succ _) _
  go_wp2
  refine ret_rowT rfl rfl rfl (load_all HR _ _ Tryd.underlying28 rfl info_elemT) rfl ?_
  exact ⟨rfl, HB⟩

set_option maxRecDepth 10000 in
set_option maxHeartbeats 4000000 in
theorem ty_bit (op : Int) (a : Option Addr) (len cap : Nat) (xs : List Arg) (w : World) (hc : isC op xs = true) (ho : op = 1 ∨ op = 2) (hl : len = xs.length) (hm : len ≤ 1048576) (hx : Sl w a xs) :
    Calls Tryd.prog 5 #[.agg #[.int .i64 op, .slice a len cap]] w fun e w' => ∃ (b' : Option Addr) (cp : Nat), e = .returned (.tuple #[.agg #[.int .i64 (3 - op), .slice b' len cp], .bool true]) ∧ ArgsOwn w' w.heap.size (Value.slice b' len cp).ownBlock.toList (.slice b' len cp) xs ∧ Below w.heap.size w w' := by
  have HC : Hid (∀ W, Below w.heap.size w W → Calls Tryd.prog 12 #[.agg #[.int .i64 op, .slice a len cap]] W fun e w' => e = .returned (.bool (isC op xs)) ∧ Below W.heap.size W w') := fun W g => spec_iscontact op a xs len cap hl W (hx.later g)
  have b0 : Below w.heap.size w ((w.alloc (.cells #[.int .i64 op, .slice a len cap] 28)).alloc (.cells #[.int .i64 0, .slice none 0 0] 28)) := two_below' _ _
  obtain ⟨r1, r2⟩ := rows2 w (.cells #[.int .i64 op, .slice a len cap] 28) (.cells #[.int .i64 0, .slice none 0 0] 28)
  have hz : ((w.alloc (.cells #[.int .i64 op, .slice a len cap] 28)).alloc (.cells #[.int .i64 0, .slice none 0 0] 28)).heap.size = w.heap.size + 2 := by simp
  have Hl : Hid (len = xs.length) := hl
  have Hm : Hid (len ≤ 1048576) := hm
  have HXs : Hid (∀ W, Below w.heap.size w W → Sl W a xs) := fun W g => hx.later g
  rw [hc] at HC
  clear hx hl hm hc
  rcases ho with rfl | rfl
  ·
    go_enter Tryd.func5, Tryd.ntmps5
    go_upto_region 1 with fail
    generalize ((w.alloc (.cells #[.int .i64 1, .slice a len cap] 28)).alloc (.cells #[.int .i64 0, .slice none 0 0] 28)) = W0 at b0 r1 r2 hz ⊢
    have c0 : W0.cell? ⟨w.heap.size, 0, none⟩ = some (.int .i64 1) := (cell_of_row _ _ _ _ _ _ r1).trans rfl
    have c1 : W0.cell? ⟨w.heap.size, 1, none⟩ = some (.slice a len cap) := (cell_of_row _ _ _ _ _ _ r1).trans rfl
    go_wp2_with fail
    refine (HC.out _ b0).mono ?_
    rintro e w1 ⟨rfl, g1⟩
    have b1 := b0.trans (g1.mono b0.size)
    have d0 := cell_later g1 c0
    have d1 := cell_later g1 c1
    have s1 : w1.heap[w.heap.size + 1]? = some (.cells #[.int .i64 0, .slice none 0 0] 28 (0, 0)) := (g1.block _ (by omega)).trans r2
    have lt1 : w.heap.size + 1 < w1.heap.size := (Array.getElem?_eq_some_iff.1 s1).1
    clear g1 b0 c0 c1 r1 r2 hz HC
    obtain ⟨g3, cap3, w9, hr3, own3, gg3, hg3⟩ := app_argsT w1 w1.heap.size 0 a len cap xs Hl.out Hm.out (Nat.le_refl _) (args_is_sl Hl.out (by have := Hm.out; omega) (HXs.out _ b1))
    have G3 : Below w1.heap.size w1 w9 := ((Below.refl _ _).alloc (Nat.le_refl _) (.cells #[] 39)).grown gg3 (by simp) (fun j hj => by simp at hj; omega)
    obtain ⟨kr, z0, z1, x0, x1⟩ := two_free G3 s1
    have HR := row_put (row_put kr 0 (.int .i64 (2))) 1 (.slice (some ⟨g3, 0, none⟩) len cap3)
    have HF : Hid (ArgsOwn ((w9.setCell ⟨w.heap.size + 1, 0, none⟩ (.int .i64 (2))).setCell ⟨w.heap.size + 1, 1, none⟩ (.slice (some ⟨g3, 0, none⟩) len cap3)) w.heap.size (Value.slice (some ⟨g3, 0, none⟩) len cap3).ownBlock.toList (.slice (some ⟨g3, 0, none⟩) len cap3) xs ∧ Below w.heap.size w ((w9.setCell ⟨w.heap.size + 1, 0, none⟩ (.int .i64 (2))).setCell ⟨w.heap.size + 1, 1, none⟩ (.slice (some ⟨g3, 0, none⟩) len cap3))) := by
      have hlt : w.heap.size + 1 < w1.heap.size := (Array.getElem?_eq_some_iff.1 s1).1
      refine ⟨args_of (by rw [← Hl.out]; exact own_base (ownsRow_setCell_below (a := ⟨w.heap.size + 1, 1, none⟩) (ownsRow_setCell_below (a := ⟨w.heap.size + 1, 0, none⟩) own3 hlt _) hlt _) (by omega)), ?_⟩
      exact ((b1.trans (G3.mono b1.size)).setCell (p := ⟨w.heap.size + 1, 0, none⟩) (Nat.le_succ _) _).setCell (p := ⟨w.heap.size + 1, 1, none⟩) (Nat.le_succ _) _
    clear own3 gg3 hg3 G3 kr
    have lt0 : w.heap.size < w1.heap.size := by have := (Array.getElem?_eq_some_iff.1 s1).1; omega
    go_wp2_with (first | (refine wpList_app_runT rfl (.tmp 46) (.tmp 48) 26 rfl (.slice (some ⟨w1.heap.size, 0, none⟩) 0 0) (.slice a len cap) (by simp [Act.eval, Act.put]) (by simp [Act.eval, Act.put]) _ w9 hr3 ?_) | fail)
    refine ret_rowT rfl rfl rfl (load_all HR _ _ Tryd.underlying28 rfl info_elemT) rfl ?_
    exact ⟨some ⟨g3, 0, none⟩, cap3, rfl, HF.out.1, HF.out.2⟩
  ·
    go_enter Tryd.func5, Tryd.ntmps5
    go_upto_region 1 with fail
    generalize ((w.alloc (.cells #[.int .i64 2, .slice a len cap] 28)).alloc (.cells #[.int .i64 0, .slice none 0 0] 28)) = W0 at b0 r1 r2 hz ⊢
    have c0 : W0.cell? ⟨w.heap.size, 0, none⟩ = some (.int .i64 2) := (cell_of_row _ _ _ _ _ _ r1).trans rfl
    have c1 : W0.cell? ⟨w.heap.size, 1, none⟩ = some (.slice a len cap) := (cell_of_row _ _ _ _ _ _ r1).trans rfl
    go_wp2_with fail
    refine (HC.out _ b0).mono ?_
    rintro e w1 ⟨rfl, g1⟩
    have b1 := b0.trans (g1.mono b0.size)
    have d0 := cell_later g1 c0
    have d1 := cell_later g1 c1
    have s1 : w1.heap[w.heap.size + 1]? = some (.cells #[.int .i64 0, .slice none 0 0] 28 (0, 0)) := (g1.block _ (by omega)).trans r2
    have lt1 : w.heap.size + 1 < w1.heap.size := (Array.getElem?_eq_some_iff.1 s1).1
    clear g1 b0 c0 c1 r1 r2 hz HC
    obtain ⟨g3, cap3, w9, hr3, own3, gg3, hg3⟩ := app_argsT w1 w1.heap.size 0 a len cap xs Hl.out Hm.out (Nat.le_refl _) (args_is_sl Hl.out (by have := Hm.out; omega) (HXs.out _ b1))
    have G3 : Below w1.heap.size w1 w9 := ((Below.refl _ _).alloc (Nat.le_refl _) (.cells #[] 39)).grown gg3 (by simp) (fun j hj => by simp at hj; omega)
    obtain ⟨kr, z0, z1, x0, x1⟩ := two_free G3 s1
    have HR := row_put (row_put kr 0 (.int .i64 (1))) 1 (.slice (some ⟨g3, 0, none⟩) len cap3)
    have HF : Hid (ArgsOwn ((w9.setCell ⟨w.heap.size + 1, 0, none⟩ (.int .i64 (1))).setCell ⟨w.heap.size + 1, 1, none⟩ (.slice (some ⟨g3, 0, none⟩) len cap3)) w.heap.size (Value.slice (some ⟨g3, 0, none⟩) len cap3).ownBlock.toList (.slice (some ⟨g3, 0, none⟩) len cap3) xs ∧ Below w.heap.size w ((w9.setCell ⟨w.heap.size + 1, 0, none⟩ (.int .i64 (1))).setCell ⟨w.heap.size + 1, 1, none⟩ (.slice (some ⟨g3, 0, none⟩) len cap3))) := by
      have hlt : w.heap.size + 1 < w1.heap.size := (Array.getElem?_eq_some_iff.1 s1).1
      refine ⟨args_of (by rw [← Hl.out]; exact own_base (ownsRow_setCell_below (a := ⟨w.heap.size + 1, 1, none⟩) (ownsRow_setCell_below (a := ⟨w.heap.size + 1, 0, none⟩) own3 hlt _) hlt _) (by omega)), ?_⟩
      exact ((b1.trans (G3.mono b1.size)).setCell (p := ⟨w.heap.size + 1, 0, none⟩) (Nat.le_succ _) _).setCell (p := ⟨w.heap.size + 1, 1, none⟩) (Nat.le_succ _) _
    clear own3 gg3 hg3 G3 kr
    have lt0 : w.heap.size < w1.heap.size := by have := (Array.getElem?_eq_some_iff.1 s1).1; omega
    go_wp2_with (first | (refine wpList_app_runT rfl (.tmp 46) (.tmp 48) 26 rfl (.slice (some ⟨w1.heap.size, 0, none⟩) 0 0) (.slice a len cap) (by simp [Act.eval, Act.put]) (by simp [Act.eval, Act.put]) _ w9 hr3 ?_) | fail)
    refine ret_rowT rfl rfl rfl (load_all HR _ _ Tryd.underlying28 rfl info_elemT) rfl ?_
    exact ⟨some ⟨g3, 0, none⟩, cap3, rfl, HF.out.1, HF.out.2⟩

set_option maxRecDepth 10000 in
set_option maxHeartbeats 4000000 in
theorem ty_test (op : Int) (a : Option Addr) (len cap : Nat) (xs : List Arg) (w : World) (hc : isC op xs = true) (h5 : 5 ≤ op) (h10 : op ≤ 10) (b o : Nat) (ha : a = some ⟨b, o, none⟩) (hO : Ops w b o xs) (k n p : Int) (hj : xs[0]? = some (k, n, p)) (hpos : 0 < len) (hW : ∀ W, Calls Tryd.prog 13 #[.agg #[.int .i64 k, .int .i64 n, .int .i64 p]] W fun e w' => e = .returned (.bool true) ∧ Below W.heap.size W w') (hl : len = xs.length) (hm : len ≤ 1048576) (hx : Sl w a xs) :
    Calls Tryd.prog 5 #[.agg #[.int .i64 op, .slice a len cap]] w fun e w' => ∃ (b' : Option Addr) (cp : Nat), e = .returned (.tuple #[.agg #[.int .i64 (cF (op - 4) + 4), .slice b' len cp], .bool true]) ∧ ArgsOwn w' w.heap.size (Value.slice b' len cp).ownBlock.toList (.slice b' len cp) xs ∧ Below w.heap.size w w' := by
  have HC : Hid (∀ W, Below w.heap.size w W → Calls Tryd.prog 12 #[.agg #[.int .i64 op, .slice a len cap]] W fun e w' => e = .returned (.bool (isC op xs)) ∧ Below W.heap.size W w') := fun W g => spec_iscontact op a xs len cap hl W (hx.later g)
  have b0 : Below w.heap.size w ((w.alloc (.cells #[.int .i64 op, .slice a len cap] 28)).alloc (.cells #[.int .i64 0, .slice none 0 0] 28)) := two_below' _ _
  obtain ⟨r1, r2⟩ := rows2 w (.cells #[.int .i64 op, .slice a len cap] 28) (.cells #[.int .i64 0, .slice none 0 0] 28)
  have hz : ((w.alloc (.cells #[.int .i64 op, .slice a len cap] 28)).alloc (.cells #[.int .i64 0, .slice none 0 0] 28)).heap.size = w.heap.size + 2 := by simp
  have Hl : Hid (len = xs.length) := hl
  have Hm : Hid (len ≤ 1048576) := hm
  have HXs : Hid (∀ W, Below w.heap.size w W → Sl W a xs) := fun W g => hx.later g
  have HW : Hid (∀ W, Calls Tryd.prog 13 #[.agg #[.int .i64 k, .int .i64 n, .int .i64 p]] W fun e w' => e = .returned (.bool true) ∧ Below W.heap.size W w') := hW
  subst ha
  have i1 : (0 : Int) < (len : Int) := by omega
  have n3 : (op == 3) = false := by simp; omega
  have n4 : (op == 4) = false := by simp; omega
  have HFl : Hid (∀ W, Calls Tryd.prog 14 #[.int .i64 (op - 5 + 1)] W fun e w' => e = .returned (.int .i64 (cF (op - 5 + 1))) ∧ Below W.heap.size W w') := fun W => spec_flip (op - 5 + 1) W
  obtain ⟨hf1, hf2⟩ := cF_in (j := op - 4) (by omega) (by omega)
  obtain ⟨f, Hf⟩ : ∃ f, Hid (f = cF (op - 4)) := ⟨_, rfl⟩
  rw [← Hf.out] at hf1 hf2 ⊢
  rw [show cF (op - 5 + 1) = cF (op - 4) by rw [show op - 5 + 1 = op - 4 by omega], ← Hf.out] at HFl
  rw [hc] at HC
  clear hx hl hm hc hpos
  go_enter Tryd.func5, Tryd.ntmps5
  go_upto_region 1 with fail
  generalize ((w.alloc (.cells #[.int .i64 op, .slice (some ⟨b, o, none⟩) len cap] 28)).alloc (.cells #[.int .i64 0, .slice none 0 0] 28)) = W0 at b0 r1 r2 hz ⊢
  have c0 : W0.cell? ⟨w.heap.size, 0, none⟩ = some (.int .i64 op) := (cell_of_row _ _ _ _ _ _ r1).trans rfl
  have c1 : W0.cell? ⟨w.heap.size, 1, none⟩ = some (.slice (some ⟨b, o, none⟩) len cap) := (cell_of_row _ _ _ _ _ _ r1).trans rfl
  go_wp2_with fail
  refine (HC.out _ b0).mono ?_
  rintro e w1 ⟨rfl, g1⟩
  have b1 := b0.trans (g1.mono b0.size)
  have d0 := cell_later g1 c0
  have d1 := cell_later g1 c1
  have s1 : w1.heap[w.heap.size + 1]? = some (.cells #[.int .i64 0, .slice none 0 0] 28 (0, 0)) := (g1.block _ (by omega)).trans r2
  have lt1 : w.heap.size + 1 < w1.heap.size := (Array.getElem?_eq_some_iff.1 s1).1
  clear g1 b0 c0 c1 r1 r2 hz HC
  obtain ⟨y0, y1, y2⟩ := (show Ops w1 b o xs from hO.later b1).c3 (j := 0) (k := k) (n := n) (p := p) hj (o' := o) (by omega)
  have lb : b < w1.heap.size := World.block_lt_of_cell? _ _ y0
  go_wp2_with fail
  refine (HW.out _).mono ?_
  rintro e w2 ⟨rfl, g2⟩
  have b2 := b1.trans (g2.mono b1.size)
  have s2 : w2.heap[w.heap.size + 1]? = some (.cells #[.int .i64 0, .slice none 0 0] 28 (0, 0)) := (g2.block _ lt1).trans s1
  have e0 := cell_later g2 d0
  have e1 := cell_later g2 d1
  have lt2 : w.heap.size + 1 < w2.heap.size := (Array.getElem?_eq_some_iff.1 s2).1
  clear g2 b1 s1 d0 d1 y0 y1 y2 lt1 lb HW
  go_wp2_with fail
  refine (HFl.out _).mono ?_
  rintro e w3 ⟨rfl, g3'⟩
  have b3 := b2.trans (g3'.mono b2.size)
  have s3 : w3.heap[w.heap.size + 1]? = some (.cells #[.int .i64 0, .slice none 0 0] 28 (0, 0)) := (g3'.block _ lt2).trans s2
  have f0 := cell_later g3' e0
  have f1 := cell_later g3' e1
  clear g3' b2 s2 e0 e1 HFl
  obtain ⟨g3, cap3, w9, hr3, own3, gg3, hg3⟩ := app_argsT w3 w3.heap.size 0 (some ⟨b, o, none⟩) len cap xs Hl.out Hm.out (Nat.le_refl _) (args_is_sl Hl.out (by have := Hm.out; omega) (HXs.out _ b3))
  have G3 : Below w3.heap.size w3 w9 := ((Below.refl _ _).alloc (Nat.le_refl _) (.cells #[] 39)).grown gg3 (by simp) (fun j hj => by simp at hj; omega)
  obtain ⟨kr, z0, z1, x0, x1⟩ := two_free G3 s3
  have HR := row_put (row_put kr 0 (.int .i64 (f + 5 - 1))) 1 (.slice (some ⟨g3, 0, none⟩) len cap3)
  have HF : Hid (ArgsOwn ((w9.setCell ⟨w.heap.size + 1, 0, none⟩ (.int .i64 (f + 5 - 1))).setCell ⟨w.heap.size + 1, 1, none⟩ (.slice (some ⟨g3, 0, none⟩) len cap3)) w.heap.size (Value.slice (some ⟨g3, 0, none⟩) len cap3).ownBlock.toList (.slice (some ⟨g3, 0, none⟩) len cap3) xs ∧ Below w.heap.size w ((w9.setCell ⟨w.heap.size + 1, 0, none⟩ (.int .i64 (f + 5 - 1))).setCell ⟨w.heap.size + 1, 1, none⟩ (.slice (some ⟨g3, 0, none⟩) len cap3))) := by
    have hlt : w.heap.size + 1 < w3.heap.size := (Array.getElem?_eq_some_iff.1 s3).1
    refine ⟨args_of (by rw [← Hl.out]; exact own_base (ownsRow_setCell_below (a := ⟨w.heap.size + 1, 1, none⟩) (ownsRow_setCell_below (a := ⟨w.heap.size + 1, 0, none⟩) own3 hlt _) hlt _) (by omega)), ?_⟩
    exact ((b3.trans (G3.mono b3.size)).setCell (p := ⟨w.heap.size + 1, 0, none⟩) (Nat.le_succ _) _).setCell (p := ⟨w.heap.size + 1, 1, none⟩) (Nat.le_succ _) _
  clear own3 gg3 hg3 G3 kr
  have lt0 : w.heap.size < w3.heap.size := by have := (Array.getElem?_eq_some_iff.1 s3).1; omega
  go_wp2_with (first | (refine wpList_app_runT rfl (.tmp 46) (.tmp 48) 26 rfl (.slice (some ⟨w3.heap.size, 0, none⟩) 0 0) (.slice (some ⟨b, o, none⟩) len cap) (by simp [Act.eval, Act.put]) (by simp [Act.eval, Act.put]) _ w9 hr3 ?_) | fail)
  refine ret_rowT rfl rfl rfl (load_all HR _ _ Tryd.underlying28 rfl info_elemT) rfl ?_
  exact ⟨some ⟨g3, 0, none⟩, cap3, (by show Ending.returned (.tuple #[.agg #[.int .i64 (f + 5 - 1), .slice (some ⟨g3, 0, none⟩) len cap3], .bool true]) = _; rw [show f + 5 - 1 = f + 4 by omega]), HF.out.1, HF.out.2⟩

theorem turnR_zero {op : Int} {xs : List Arg} {w : World} {e : Ending} {w' : World} (ht : turnOp op xs = 0) (h : e = .returned (.tuple #[.agg #[.int .i64 0, .slice none 0 0], .bool false]) ∧ Below w.heap.size w w') : TurnR op xs w e w' := by
  obtain ⟨rfl, g⟩ := h
  unfold TurnR turnXs
  rw [ht, if_pos rfl]
  exact ⟨none, 0, 0, rfl, rfl, args_nil _ _, g⟩
theorem turnR_some {op t : Int} {xs : List Arg} {len : Nat} {w : World} {e : Ending} {w' : World} (ht : turnOp op xs = t) (h0 : t ≠ 0) (hl : len = xs.length)
    (h : ∃ (b' : Option Addr) (cp : Nat), e = .returned (.tuple #[.agg #[.int .i64 t, .slice b' len cp], .bool true]) ∧ ArgsOwn w' w.heap.size (Value.slice b' len cp).ownBlock.toList (.slice b' len cp) xs ∧ Below w.heap.size w w') : TurnR op xs w e w' := by
  obtain ⟨b', cp, rfl, h1, g⟩ := h
  unfold TurnR turnXs
  rw [ht, if_neg h0]
  exact ⟨b', len, cp, by rw [show decide (t ≠ 0) = true by simp [h0]], hl, h1, g⟩

theorem turn_s (op : Int) (a : Option Addr) (len cap : Nat) (xs : List Arg) (w : World) (hl : len = xs.length) (hm : len ≤ 1048576) (hx : Sl w a xs) :
    Calls Tryd.prog 5 #[.agg #[.int .i64 op, .slice a len cap]] w fun e w' => TurnR op xs w e w' := by
  cases hc : isC op xs with
  | false => exact (tz_no op a len cap xs w hc hl hm hx).mono fun e w' h => turnR_zero (turnOp_no hc) h
  | true =>
    have et : turnOp op xs = if op = 1 then 2 else if op = 2 then 1 else if twB op xs then cF (op - 4) + 4 else 0 := by unfold turnOp; rw [hc, if_pos rfl]
    rcases isC_cases hc with ⟨ho, _⟩ | ⟨h3, h10, k, n, p, k1, n1, p1, rfl⟩
    · refine (ty_bit op a len cap xs w hc ho hl hm hx).mono fun e w' h => turnR_some ?_ ?_ hl h
      · rw [et]; rcases ho with rfl | rfl <;> rfl
      · omega
    · by_cases h5 : 5 ≤ op
      · obtain ⟨b, o, rfl, hO⟩ := hx.at
        have etw : twB op [(k, n, p), (k1, n1, p1)] = (okA k n p && kW k) := by unfold twB; rw [decide_eq_true h5]; rfl
        rw [if_neg (by omega), if_neg (by omega), etw] at et
        have hpos : 0 < len := by rw [hl]; simp
        cases hw : (okA k n p && kW k) with
        | false =>
          rw [hw, if_neg (by simp)] at et
          exact (tz_real op _ len cap _ w hc h5 h10 b o rfl hO k n p rfl hpos (fun W => by rw [← hw]; exact spec_iswhole k n p W) hl hm (.inr ⟨b, o, rfl, hO⟩)).mono fun e w' h => turnR_zero et h
        | true =>
          rw [hw, if_pos rfl] at et
          have hf := cF_in (j := op - 4) (by omega) (by omega)
          exact (ty_test op _ len cap _ w hc h5 h10 b o rfl hO k n p rfl hpos (fun W => by rw [← hw]; exact spec_iswhole k n p W) hl hm (.inr ⟨b, o, rfl, hO⟩)).mono fun e w' h => turnR_some et (by omega) hl h
      · have etw : twB op [(k, n, p), (k1, n1, p1)] = false := by unfold twB; rw [decide_eq_false h5]; rfl
        rw [if_neg (by omega), if_neg (by omega), etw, if_neg (by simp)] at et
        exact (tz_edge op a len cap _ w hc (by omega) hl hm hx).mono fun e w' h => turnR_zero et h
end Go.Proofs.YtlgacbjopobeoaaDoor
