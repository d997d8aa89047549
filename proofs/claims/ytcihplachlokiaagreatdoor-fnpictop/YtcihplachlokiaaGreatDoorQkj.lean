/- Instructions as bytes: the specification's l17Inst. -/
import Derived.Test.YtcihplachlokiaaGreatDoorQkeM
namespace Go.Proofs.YtcihplachlokiaaGreatDoor
open Go.RowKit Go.Shelf
set_option linter.unusedVariables false
set_option linter.unusedSimpArgs false

theorem cl_get {l : List Nat} {j : Nat} {u : Value} (h : (cl l)[j]? = some u) : ∃ b, l[j]? = some b ∧ u = .int .u8 (b : Nat) := by
  unfold cl at h
  rw [List.getElem?_map] at h
  cases hb : l[j]? with
  | none => rw [hb] at h; cases h
  | some b => rw [hb] at h; exact ⟨b, rfl, (Option.some.inj h).symm⟩
theorem cl_one (l : List Nat) : ∀ u ∈ cl l, u.oneCell' = true := by
  intro u hu
  simp [cl] at hu
  obtain ⟨b, _, rfl⟩ := hu
  rfl
theorem by_cl {w : World} {g n : Nat} {f : Nat → Nat} {l : List Nat} (h : By w g n f) (hl : ∀ j b, l[j]? = some b → j < n ∧ b = f j) : ∀ j u, (cl l)[j]? = some u → w.cell? ((⟨g, 0, none⟩ : Addr).add j) = some u := by
  intro j u hu
  obtain ⟨b, hb, rfl⟩ := cl_get hu
  obtain ⟨h1, rfl⟩ := hl j b hb
  have := h.cell j h1
  by_cases h0 : j = 0
  · subst h0; simpa [Addr.add] using this
  · simpa [Addr.add, h0] using this
theorem own_made (w : World) (base : Nat) (hb : base ≤ w.heap.size) (l : List Nat) (hl : l.length ≤ 1000000) : OwL (w.alloc (.cells (cl l).toArray 5)) base (.slice (some ⟨w.heap.size, 0, none⟩) l.length l.length) l := by
  refine ⟨by rw [cl_len]; omega, .inr ⟨w.heap.size, l.length, (cl l).toArray, rfl, hb, heap_alloc_last _ _, Nat.le_refl _, by unfold maxLen; omega, by simp [cl_len], ?_⟩⟩
  rw [List.take_of_length_le (by simp [cl_len])]
theorem two_below18 {w : World} (o1 o2 : Obj) : Below w.heap.size w ((w.alloc o1).alloc o2) := ((Below.refl _ _).alloc (Nat.le_refl _) _).alloc (by simp) _
theorem fit_bd {x : ArgT} (h : fitA x = true) : (1 ≤ x.1 ∧ x.1 ≤ 13) ∧ (-1099511627776 ≤ x.2.1 ∧ x.2.1 ≤ 1099511627776) := by
  unfold fitA fitB at h
  by_cases h1 : x.1 < 1 ∨ 13 < x.1
  · rw [if_pos h1] at h; cases h
  · rw [if_neg h1] at h
    refine ⟨by omega, ?_⟩
    by_cases h2 : x.1 = 12
    · rw [if_pos h2] at h; have := of_decide_eq_true h; omega
    · rw [if_neg h2] at h
      by_cases h3 : x.1 = 11
      · rw [if_pos h3] at h; have := of_decide_eq_true h; omega
      · rw [if_neg h3] at h; have := of_decide_eq_true h; omega

/-- A row that grows beside two boxes. -/
def St2 (w : World) (o1 : Obj) (B2 : Nat) (o2 : Obj) (v : Value) (l : List Nat) (W : World) : Prop :=
  OwL W w.heap.size v l ∧ BoxR w.heap.size o1 v W ∧ BoxR B2 o2 v W ∧ Below w.heap.size w W ∧ w.heap.size ≤ W.heap.size
theorem St2.gr {w W W' : World} {o1 o2 : Obj} {B2 : Nat} {v v' : Value} {l l' : List Nat} (h : St2 w o1 B2 o2 v l W) (g : Gr W v W' v') (ho : OwL W' w.heap.size v' l') : St2 w o1 B2 o2 v' l' W' :=
  ⟨ho, h.2.1.gr g, h.2.2.1.gr g, h.2.2.2.1.trans (g.below h.2.2.2.2 (fun x hx => (h.1.own x hx).1)), Nat.le_trans h.2.2.2.2 g.1.size⟩
theorem St2.later {w W W' : World} {o1 o2 : Obj} {B2 : Nat} {v : Value} {l : List Nat} (h : St2 w o1 B2 o2 v l W) (g : Below W.heap.size W W') : St2 w o1 B2 o2 v l W' :=
  ⟨h.1.later g, h.2.1.later g, h.2.2.1.later g, h.2.2.2.1.trans (g.mono h.2.2.2.2), Nat.le_trans h.2.2.2.2 g.size⟩
theorem St2.step {w W w2 : World} {o1 o2 : Obj} {B2 g' cap' : Nat} {v : Value} {l m : List Nat} {o : Obj} (h : St2 w o1 B2 o2 v l W)
    (hown' : w2.ownsRow w.heap.size 5 1 (.slice (some ⟨g', 0, none⟩) (l.length + m.length) cap') (l.length + m.length) (cl l ++ cl m)) (hgrow : (W.alloc o).grownBy w2 v.ownBlock)
    (hat : v.ownBlock = some g' ∨ g' = W.heap.size + 1) : St2 w o1 B2 o2 (.slice (some ⟨g', 0, none⟩) (l ++ m).length cap') (l ++ m) w2 := by
  have h2 := own_step h.2.2.2.2 h.1 hown' hgrow hat
  exact h.gr h2.2.1 h2.1
/-- An append without a row of its own ahead. -/
theorem St2.step0 {w W w2 : World} {o1 o2 : Obj} {B2 g' cap' : Nat} {v : Value} {l m : List Nat} (h : St2 w o1 B2 o2 v l W)
    (hown' : w2.ownsRow w.heap.size 5 1 (.slice (some ⟨g', 0, none⟩) (l.length + m.length) cap') (l.length + m.length) (cl l ++ cl m)) (hgrow : W.grownBy w2 v.ownBlock)
    (hat : v.ownBlock = some g' ∨ g' = W.heap.size) : St2 w o1 B2 o2 (.slice (some ⟨g', 0, none⟩) (l ++ m).length cap') (l ++ m) w2 := by
  refine h.gr ⟨hgrow, fun g hg => ?_⟩ ?_
  · simp [Value.ownBlock] at hg
    subst hg
    rcases hat with h | h
    · exact .inl h
    · exact .inr (by omega)
  · unfold OwL
    rw [cl_app, List.length_append]
    exact hown'

set_option maxRecDepth 10000 in
set_option maxHeartbeats 8000000 in
theorem inst_s (c op : Int) (a : Option Addr) (len cap : Nat) (xs : List ArgT) (w : World)
    (hlen : len = xs.length) (hm : len ≤ 3) (hx : SlA w a xs) (hf : hasB c = true → xs.all fitA = true) :
    Calls Tryz.prog 20 #[.agg #[.int .i64 c, .int .i64 op, .slice a len cap]] w fun e w' => ∃ v', e = .returned v' ∧ OwL w' w.heap.size v' (insL ⟨c, ⟨op, xs⟩⟩) ∧ Below w.heap.size w w' := by
  obtain ⟨i0, hi, hz0, hz1, hz2⟩ := info_parts infoU8
  have HB : Hid (∀ W, Calls Tryz.prog 35 #[.int .i64 c] W fun e w' => e = .returned (.bool (hasB c)) ∧ W = w') := fun W => has_s c W
  have HX : Hid (SlA w a xs ∧ len = xs.length ∧ len ≤ 3) := ⟨hx, hlen, hm⟩
  obtain ⟨LL, HLL⟩ : ∃ LL, Hid (LL = insL ⟨c, ⟨op, xs⟩⟩) := ⟨_, rfl⟩
  rw [← HLL.out]
  obtain ⟨C, hC, HC⟩ : ∃ C : Nat, c % 256 = (C : Int) ∧ Hid ([C] = nbL c 1) := ⟨(c % 256).toNat, by omega, rfl⟩
  obtain ⟨O, hO, HO⟩ : ∃ C : Nat, op % 256 = (C : Int) ∧ Hid ([C] = nbL op 1) := ⟨(op % 256).toNat, by omega, rfl⟩
  have wC : IntKind.u8.wrap c = (C : Int) := by rw [IntKind.wrap_u8']; exact hC
  have wO : IntKind.u8.wrap op = (O : Int) := by rw [IntKind.wrap_u8']; exact hO
  have HW1 : Hid (∀ W0, W0 = w.alloc (.cells #[.int .i64 c, .int .i64 op, .slice a len cap] 44) → OwL (W0.alloc (.cells #[.int .u8 (C : Nat)] 5)) w.heap.size (.slice (some ⟨w.heap.size + 1, 0, none⟩) 1 1) [C] ∧ BoxR w.heap.size (.cells #[.int .i64 c, .int .i64 op, .slice a len cap] 44 (0, 0)) (.slice (some ⟨w.heap.size + 1, 0, none⟩) 1 1) (W0.alloc (.cells #[.int .u8 (C : Nat)] 5)) ∧ Below w.heap.size w (W0.alloc (.cells #[.int .u8 (C : Nat)] 5))) := by
    intro W0 hW
    subst hW
    have hz : (w.alloc (.cells #[.int .i64 c, .int .i64 op, .slice a len cap] 44)).heap.size = w.heap.size + 1 := by simp
    have h := own_made (w.alloc (.cells #[.int .i64 c, .int .i64 op, .slice a len cap] 44)) w.heap.size (by omega) [C] (by simp)
    rw [hz] at h
    refine ⟨h, ⟨?_, ?_⟩, two_below18 _ _⟩
    · rw [Below.heap_alloc _ _ _ (by simp), heap_alloc_last]
    · simp [Value.ownBlock]
  clear hlen hm hx
  cases hh : hasB c with
  | false =>
    rw [hh] at HB
    have HE : Hid (LL = [C]) := (by rw [HLL.out, HC.out]; unfold insL; simp only [hh]; simp : LL = [C])
    clear hf hh HLL
    go_enter Tryz.func20, Tryz.ntmps20
    go_upto_region 2 with fail
    have HW2 := HW1.out _ rfl
    have hzz : (w.alloc (.cells #[.int .i64 c, .int .i64 op, .slice a len cap] 44)).heap.size = w.heap.size + 1 := by simp
    generalize ((w.alloc (.cells #[.int .i64 c, .int .i64 op, .slice a len cap] 44)).alloc (.cells #[.int .u8 (C : Nat)] 5)) = W1 at HW2 ⊢
    have R1 : Hid (OwL W1 w.heap.size (.slice (some ⟨w.heap.size + 1, 0, none⟩) 1 1) [C] ∧ BoxR w.heap.size (.cells #[.int .i64 c, .int .i64 op, .slice a len cap] 44 (0, 0)) (.slice (some ⟨w.heap.size + 1, 0, none⟩) 1 1) W1 ∧ Below w.heap.size w W1) := HW2
    clear HW2 HW1 hzz
    obtain ⟨p0, p1, p2⟩ := cellsQ3 R1.out.2.1.1
    go_wp2_with fail
    refine (HB.out _).mono ?_
    rintro e w1 ⟨rfl, rfl⟩
    have HFin : Hid (OwL W1 w.heap.size (.slice (some ⟨w.heap.size + 1, 0, none⟩) 1 1) LL ∧ Below w.heap.size w W1) := ⟨by rw [HE.out]; exact R1.out.1, R1.out.2.2⟩
    clear R1
    go_wp2
    go_ret
    exact ⟨_, rfl, HFin.out⟩
  | true =>
    rw [hh] at HB
    have hf' := hf hh
    have HE : Hid (LL = [C] ++ [O] ++ opdsL xs) := (by rw [HLL.out, HC.out, HO.out]; unfold insL; simp only [hh]; simp : LL = [C] ++ [O] ++ opdsL xs)
    have HF : Hid (∀ j x, xs[j]? = some x → fitA x = true) := (fun j x hx => List.all_eq_true.1 hf' x (List.mem_of_getElem? hx) : ∀ j x, xs[j]? = some x → fitA x = true)
    clear hf hf' hh HLL
    go_enter Tryz.func20, Tryz.ntmps20
    go_upto_region 2 with fail
    have HW2 := HW1.out _ rfl
    have hzz : (w.alloc (.cells #[.int .i64 c, .int .i64 op, .slice a len cap] 44)).heap.size = w.heap.size + 1 := by simp
    generalize ((w.alloc (.cells #[.int .i64 c, .int .i64 op, .slice a len cap] 44)).alloc (.cells #[.int .u8 (C : Nat)] 5)) = W1 at HW2 ⊢
    have R1 : Hid (OwL W1 w.heap.size (.slice (some ⟨w.heap.size + 1, 0, none⟩) 1 1) [C] ∧ BoxR w.heap.size (.cells #[.int .i64 c, .int .i64 op, .slice a len cap] 44 (0, 0)) (.slice (some ⟨w.heap.size + 1, 0, none⟩) 1 1) W1 ∧ Below w.heap.size w W1) := HW2
    clear HW2 HW1 hzz
    obtain ⟨p0, p1, p2⟩ := cellsQ3 R1.out.2.1.1
    go_wp2_with fail
    refine (HB.out _).mono ?_
    rintro e w1 ⟨rfl, rfl⟩
    go_wp2_with (at_builtin; refine wpList_append_lies _ rfl _ _ 22 rfl w.heap.size 5 i0 (.int .u8 0) 1 1 Tryz.underlying22 hi hz0 hz1 hz2 rfl (by decide) _ 1 (cl [C]) rfl (R1.out.1.alloc _) ⟨W1.heap.size, 0, none⟩ 1 1 [.int .u8 (O : Nat)] rfl rfl (cell_one_new _ _ _) ?c2 (by decide) ?c3 ?c4 ?c5 _ rfl ?_)
    case c2 => first | rfl | (intro u hu; simp at hu; subst hu; rfl)
    case c3 => unfold maxLen; omega
    case c4 => omega
    case c5 => have := R1.out.2.2.size; simp; omega
    intro g' cap' w2 hown' hgrow hat hlt'
    have h2 := own_step (m := [O]) R1.out.2.2.size R1.out.1 hown' hgrow hat
    have R2 : Hid (OwL w2 w.heap.size (.slice (some ⟨g', 0, none⟩) (1 + 1) cap') ([C] ++ [O] ++ opdsL (xs.take 0)) ∧ BoxR w.heap.size (.cells #[.int .i64 c, .int .i64 op, .slice a len cap] 44 (0, 0)) (.slice (some ⟨g', 0, none⟩) (1 + 1) cap') w2 ∧ Below w.heap.size w w2 ∧ w.heap.size ≤ w2.heap.size) :=
      ⟨by rw [List.take_zero]; simpa [opdsL] using h2.1, R1.out.2.1.gr h2.2.1, R1.out.2.2.trans (h2.2.1.below R1.out.2.2.size (fun g hg => (R1.out.1.own g hg).1)), h2.2.2⟩
    clear hown' hgrow hat hlt' h2 R1 p0 p1 p2
    obtain ⟨p0, p1, p2⟩ := cellsQ3 R2.out.2.1.1
    go_wp2
    clear p0 p1 p2
    go_loopw [3, 4, 5] (fun vv i _ wr => ∃ k : Nat, k ≤ len ∧ i = .int .i64 k ∧ Hid (OwL wr w.heap.size vv ([C] ++ [O] ++ opdsL (xs.take k)) ∧ BoxR w.heap.size (.cells #[.int .i64 c, .int .i64 op, .slice a len cap] 44 (0, 0)) vv wr ∧ Below w.heap.size w wr ∧ w.heap.size ≤ wr.heap.size)) (fun _ i _ _ => len - (intOf i).toNat)
    case atStart => exact ⟨0, Nat.zero_le _, rfl, R2.out⟩
    case round =>
      clear R2
      obtain ⟨k, hk, rfl, HR⟩ := hrel
      have ik3 : len ≤ 3 := HX.out.2.2
      obtain ⟨p0, p1, p2⟩ := cellsQ3 HR.out.2.1.1
      by_cases hlt : k < len
      · have ik : (k : Int) < (len : Int) := by omega
        obtain ⟨x, hxk⟩ : ∃ x, xs[k]? = some x := ⟨_, List.getElem?_eq_getElem (by have := HX.out.2.1; omega)⟩
        obtain ⟨b, o, rfl, hb, c0, c1, c2⟩ := (HX.out.1.later HR.out.2.2.1 (Nat.le_refl _)) k x hxk
        have HS : Hid (opdsL (xs.take (k + 1)) = opdsL (xs.take k) ++ opdL x) := opdsL_snoc xs k x hxk
        have hfx := HF.out k x hxk
        obtain ⟨xk, xn, xp⟩ := x
        simp only [] at c0 c1 c2
        clear hxk hb
        have hbd := fit_bd hfx
        have hwd := wd_fit hfx
        simp only [] at hbd hwd
        obtain ⟨l0, Hl0⟩ : ∃ l0, Hid (l0 = [C] ++ [O] ++ opdsL (xs.take k)) := ⟨_, rfl⟩
        have Hlen : Hid (l0.length ≤ 100) := (by
          have h1 := opdsL_len (xs.take k)
          rw [Hl0.out, List.length_append, List.length_append]
          rw [List.length_take] at h1
          simp only [List.length_singleton]
          omega : l0.length ≤ 100)
        obtain ⟨K1, hK1, HK1⟩ : ∃ C : Nat, xk % 256 = (C : Int) ∧ Hid ([C] = nbL xk 1) := ⟨(xk % 256).toNat, by omega, rfl⟩
        have wK1 : IntKind.u8.wrap xk = (K1 : Int) := by rw [IntKind.wrap_u8']; exact hK1
        obtain ⟨P1, hP1, HP1⟩ : ∃ C : Nat, xp % 256 = (C : Int) ∧ Hid ([C] = nbL xp 1) := ⟨(xp % 256).toNat, by omega, rfl⟩
        have wP1 : IntKind.u8.wrap xp = (P1 : Int) := by rw [IntKind.wrap_u8']; exact hP1
        obtain ⟨m, Hm⟩ : ∃ m, Hid (m = wdT xk) := ⟨_, rfl⟩
        have hm4 : 0 < m ∧ m ≤ 4 := by rw [Hm.out]; omega
        have HWd : Hid (∀ W, Calls Tryz.prog 45 #[.int .i64 xk] W fun e w' => e = .returned (.int .i64 (m : Nat)) ∧ W = w') := fun W => by rw [Hm.out]; exact wd_s xk W hbd.1.1 hbd.1.2
        have HNum : Hid (∀ W, Calls Tryz.prog 21 #[.int .i64 xn, .int .i64 (m : Nat)] W fun e w' => e = .returned (.slice (some ⟨W.heap.size, 0, none⟩) m m) ∧ By w' W.heap.size m (nbF xn m) ∧ Below W.heap.size W w') := fun W => num_s xn m W hbd.2 (by omega)
        have R8 : Hid (St2 w (.cells #[.int .i64 c, .int .i64 op, .slice (some ⟨b, o, none⟩) len cap] 44 (0, 0)) wr.heap.size (.cells #[.int .i64 xk, .int .i64 xn, .int .i64 xp] 72 (0, 0)) u3 l0 (wr.alloc (.cells #[.int .i64 xk, .int .i64 xn, .int .i64 xp] 72))) := by
          have gA : Below wr.heap.size wr (wr.alloc (.cells #[.int .i64 xk, .int .i64 xn, .int .i64 xp] 72)) := (Below.refl _ _).alloc (Nat.le_refl _) _
          refine ⟨by rw [Hl0.out]; exact HR.out.1.later gA, HR.out.2.1.later gA, BoxR.new wr _ HR.out.1, HR.out.2.2.1.trans (gA.mono HR.out.2.2.2), Nat.le_trans HR.out.2.2.2 gA.size⟩
        obtain ⟨B2, hB2⟩ : ∃ B2, wr.heap.size = B2 := ⟨_, rfl⟩
        have HFin1 : Hid (opdL (xk, xn, xp) = [K1] ++ nbL xn m ++ (if xk = 12 then [P1] else [])) := (by unfold opdL; rw [HK1.out, HP1.out, Hm.out] : opdL (xk, xn, xp) = [K1] ++ nbL xn m ++ (if xk = 12 then [P1] else []))
        clear hbd hwd hfx HR
        go_upto_region 9 with fail
        generalize (wr.alloc (.cells #[.int .i64 xk, .int .i64 xn, .int .i64 xp] 72)) = W8 at R8 ⊢
        rw [hB2] at R8
        clear hB2 c0 c1 c2 p0 p1 p2
        obtain ⟨p0, p1, p2⟩ := cellsQ3 R8.out.2.2.1.1
        go_wp2_with (at_builtin; refine wpList_append_lies _ rfl _ _ 22 rfl w.heap.size 5 i0 (.int .u8 0) 1 1 Tryz.underlying22 hi hz0 hz1 hz2 rfl (by decide) _ l0.length (cl l0) rfl (R8.out.1.alloc _) ⟨W8.heap.size, 0, none⟩ 1 1 [.int .u8 (K1 : Nat)] rfl rfl (cell_one_new _ _ _) ?c2 (by decide) ?c3 ?c4 ?c5 _ rfl ?_)
        case c2 => first | rfl | (intro u hu; simp at hu; subst hu; rfl)
        case c3 => have := Hlen.out; unfold maxLen; omega
        case c4 => have := Hlen.out; omega
        case c5 => have := R8.out.2.2.2.2; simp; omega
        intro g9 cap9 w9 hown' hgrow hat hlt'
        have h9 := R8.out.step (m := [K1]) hown' hgrow hat
        obtain ⟨l1, hl1, Hl1⟩ : ∃ l1, l0.length + 1 = l1.length ∧ Hid (l1 = l0 ++ [K1]) := ⟨_, by simp, rfl⟩
        rw [← Hl1.out] at h9
        have R9 : Hid (St2 w (.cells #[.int .i64 c, .int .i64 op, .slice (some ⟨b, o, none⟩) len cap] 44 (0, 0)) B2 (.cells #[.int .i64 xk, .int .i64 xn, .int .i64 xp] 72 (0, 0)) (.slice (some ⟨g9, 0, none⟩) l1.length cap9) l1 w9) := h9
        have Hlen1 : Hid (l1.length ≤ 101) := (by have := Hlen.out; omega : l1.length ≤ 101)
        rw [hl1]
        clear hown' hgrow hat hlt' h9 R8 hl1 p0 p1 p2
        obtain ⟨p0, p1, p2⟩ := cellsQ3 R9.out.2.2.1.1
        have HNumR : Hid (∀ W, Below w9.heap.size w9 W → Calls Tryz.prog 21 #[.int .i64 xn, .int .i64 (m : Nat)] W fun e w' => ∃ g, e = .returned (.slice (some ⟨g, 0, none⟩) m m) ∧ St2 w (.cells #[.int .i64 c, .int .i64 op, .slice (some ⟨b, o, none⟩) len cap] 44 (0, 0)) B2 (.cells #[.int .i64 xk, .int .i64 xn, .int .i64 xp] 72 (0, 0)) (.slice (some ⟨g9, 0, none⟩) l1.length cap9) l1 w' ∧ (∀ j u, (cl (nbL xn m))[j]? = some u → w'.cell? ((⟨g, 0, none⟩ : Addr).add j) = some u)) := fun W g => (HNum.out W).mono fun e w' ⟨h1, h2, h3⟩ => ⟨_, h1, (R9.out.later g).later h3, by_cl h2 fun j b hb => by
          have hj : j < m := by have := (List.getElem?_eq_some_iff.1 hb).1; rwa [nbL_len] at this
          exact ⟨hj, Option.some.inj (hb.symm.trans (nbL_get m xn j hj))⟩⟩
        clear HNum
        go_upto_region 10 with fail
        go_region_law (first
          | (go_simp; go_at_call 45; refine (HWd.out _).mono ?_; rintro e w10 ⟨rfl, rfl⟩; simp only [])
          | (go_simp; go_at_call 21; refine (HNumR.out _ (by first | exact Below.refl _ _ | exact (Below.refl _ _).drew)).mono ?_; rintro e w10 ⟨g10, rfl, h10, n10⟩; simp only [])
          | (refine step_append_lies _ rfl (.tmp 42) (.tmp 48) 22 rfl w.heap.size 5 i0 (.int .u8 0) 1 1 Tryz.underlying22 hi hz0 hz1 hz2 rfl (by decide) _ l1.length (cl l1) rfl (by exact h10.1) ⟨g10, 0, none⟩ m m (cl (nbL xn m)) rfl (by rw [cl_len, nbL_len]; omega) (by exact n10) (by exact cl_one _) (by omega) (by have := Hlen1.out; unfold maxLen; omega) (by have := Hlen1.out; omega) (by exact h10.2.2.2.2) _ rfl ?_; intro g11 cap11 w11 hown' hgrow hat hlt'))
        all_goals
          obtain ⟨l2, hl2, Hl2⟩ : ∃ l2, l1.length + m = l2.length ∧ Hid (l2 = l1 ++ nbL xn m) := ⟨_, by rw [List.length_append, nbL_len], rfl⟩
          have h11 := h10.step0 (m := nbL xn m) (by rw [nbL_len]; exact hown') hgrow hat
          rw [← Hl2.out] at h11
          have R11 : Hid (St2 w (.cells #[.int .i64 c, .int .i64 op, .slice (some ⟨b, o, none⟩) len cap] 44 (0, 0)) B2 (.cells #[.int .i64 xk, .int .i64 xn, .int .i64 xp] 72 (0, 0)) (.slice (some ⟨g11, 0, none⟩) l2.length cap11) l2 w11) := h11
          have Hlen2 : Hid (l2.length ≤ 110) := (by have := Hlen1.out; omega : l2.length ≤ 110)
          rw [hl2]
          clear hown' hgrow hat hlt' h10 n10 h11 R9 hl2 p0 p1 p2 HNumR HWd
          obtain ⟨p0, p1, p2⟩ := cellsQ3 R11.out.2.2.1.1
          by_cases h12 : xk = 12
          · subst h12
            go_wp2_with (at_builtin; refine wpList_append_lies _ rfl _ _ 22 rfl w.heap.size 5 i0 (.int .u8 0) 1 1 Tryz.underlying22 hi hz0 hz1 hz2 rfl (by decide) _ l2.length (cl l2) rfl (R11.out.1.alloc _) ⟨w11.heap.size, 0, none⟩ 1 1 [.int .u8 (P1 : Nat)] rfl rfl (cell_one_new _ _ _) ?c2 (by decide) ?c3 ?c4 ?c5 _ rfl ?_)
            case c2 => first | rfl | (intro u hu; simp at hu; subst hu; rfl)
            case c3 => have := Hlen2.out; unfold maxLen; omega
            case c4 => have := Hlen2.out; omega
            case c5 => have := R11.out.2.2.2.2; simp; omega
            intro g13 cap13 w13 hown' hgrow hat hlt'
            have h13 := R11.out.step (m := [P1]) hown' hgrow hat
            have RF : Hid (OwL w13 w.heap.size (.slice (some ⟨g13, 0, none⟩) (l2.length + 1) cap13) ([C] ++ [O] ++ opdsL (xs.take (k + 1))) ∧ BoxR w.heap.size (.cells #[.int .i64 c, .int .i64 op, .slice (some ⟨b, o, none⟩) len cap] 44 (0, 0)) (.slice (some ⟨g13, 0, none⟩) (l2.length + 1) cap13) w13 ∧ Below w.heap.size w w13 ∧ w.heap.size ≤ w13.heap.size) := by
              have e : [C] ++ [O] ++ opdsL (xs.take (k + 1)) = l2 ++ [P1] := by
                rw [HS.out, HFin1.out, Hl2.out, Hl1.out, Hl0.out]
                first
                  | (rw [if_pos rfl]; simp only [List.append_assoc])
                  | (rw [if_pos trivial]; simp only [List.append_assoc])
              rw [e]
              have hq : (l2 ++ [P1]).length = l2.length + 1 := by simp
              rw [hq] at h13
              exact ⟨h13.1, h13.2.1, h13.2.2.2⟩
            clear hown' hgrow hat hlt' h13 R11 p0 p1 p2
            go_wp2
            go_roundw
            case rel => exact ⟨k + 1, by omega, by go_num, RF⟩
            case measure => simp [intOf]; omega
          · have e1 : (xk == 12) = false := by simpa using h12
            have RF : Hid (OwL w11 w.heap.size (.slice (some ⟨g11, 0, none⟩) l2.length cap11) ([C] ++ [O] ++ opdsL (xs.take (k + 1))) ∧ BoxR w.heap.size (.cells #[.int .i64 c, .int .i64 op, .slice (some ⟨b, o, none⟩) len cap] 44 (0, 0)) (.slice (some ⟨g11, 0, none⟩) l2.length cap11) w11 ∧ Below w.heap.size w w11 ∧ w.heap.size ≤ w11.heap.size) := by
              have e : [C] ++ [O] ++ opdsL (xs.take (k + 1)) = l2 := by
                rw [HS.out, HFin1.out, Hl2.out, Hl1.out, Hl0.out, if_neg h12]
                simp only [List.append_assoc, List.append_nil]
              rw [e]
              exact ⟨R11.out.1, R11.out.2.1, R11.out.2.2.2⟩
            clear R11 h12
            go_wp2
            go_roundw
            case rel => exact ⟨k + 1, by omega, by go_num, RF⟩
            case measure => simp [intOf]; omega
      · have hkn : k = xs.length := by have := HX.out.2.1; omega
        have HFin : Hid (OwL wr w.heap.size u3 LL ∧ Below w.heap.size w wr) := ⟨by rw [HE.out]; have := HR.out.1; rwa [hkn, List.take_length] at this, HR.out.2.2.1⟩
        have ik : ¬ ((k : Int) < (len : Int)) := by omega
        clear HR hkn
        go_wp2
        go_ret
        exact ⟨_, rfl, HFin.out⟩
end Go.Proofs.YtcihplachlokiaaGreatDoor
