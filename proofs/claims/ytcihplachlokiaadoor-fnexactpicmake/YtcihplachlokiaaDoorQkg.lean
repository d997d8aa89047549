/- Instructions as bytes: the program. -/
import Derived.Test.YtcihplachlokiaaDoorQkf
namespace Go.Proofs.YtcihplachlokiaaDoor
open Go.RowKit Go.Shelf
set_option linter.unusedVariables false
set_option linter.unusedSimpArgs false

def opdsL (xs : List ArgT) : List Nat := (xs.map opdL).flatten
/-- The bytes of an instruction. -/
def insL (i : InstT) : List Nat := nbL i.code 1 ++ (if hasB i.code then nbL i.one.op 1 ++ opdsL i.one.args else [])
theorem opdL_len (x : ArgT) : (opdL x).length ≤ 6 := by
  have hw : wdT x.1 ≤ 4 := by unfold wdT; split <;> (try omega); split <;> (try omega); split <;> omega
  unfold opdL
  rw [List.length_append, List.length_append, nbL_len, nbL_len]
  by_cases h : x.1 = 12
  · rw [if_pos h, nbL_len]; omega
  · rw [if_neg h]; simp; omega
theorem opdsL_len (xs : List ArgT) : (opdsL xs).length ≤ 6 * xs.length := by
  induction xs with
  | nil => simp [opdsL]
  | cons x xs ih =>
    have := opdL_len x
    simp only [opdsL, List.map_cons, List.flatten_cons, List.length_append, List.length_cons] at ih ⊢
    omega
theorem opdsL_snoc (xs : List ArgT) (k : Nat) (x : ArgT) (h : xs[k]? = some x) : opdsL (xs.take (k + 1)) = opdsL (xs.take k) ++ opdL x := by
  have hk : k < xs.length := (List.getElem?_eq_some_iff.1 h).1
  rw [List.take_succ_eq_append_getElem hk, show xs[k] = x from Option.some.inj ((List.getElem?_eq_getElem hk).symm.trans h)]
  simp [opdsL]

set_option maxRecDepth 10000 in
set_option maxHeartbeats 4000000 in
theorem inst_i (base : Nat) (v : Value) (l : List Nat) (c op : Int) (a : Option Addr) (len cap : Nat) (xs : List ArgT) (w : World) (hb : base ≤ w.heap.size) (hl : l.length ≤ 500000) (ho : OwL w base v l)
    (hlen : len = xs.length) (hm : len ≤ 3) (hx : SlA w a xs) (hr : ∀ g s, xs ≠ [] → a = some ⟨g, s, none⟩ → v.ownBlock ≠ some g) (hf : hasB c = true → xs.all fitA = true) :
    Calls Tryd.prog 38 #[v, .agg #[.int .i64 c, .int .i64 op, .slice a len cap]] w fun e w' => ∃ v', e = .returned v' ∧ OwL w' base v' (l ++ insL ⟨c, ⟨op, xs⟩⟩) ∧ Gr w v w' v' := by
  have HN1 : Hid (∀ (v : Value) (l : List Nat) (n : Int) W, base ≤ W.heap.size → l.length ≤ 1000000 → OwL W base v l → Calls Tryd.prog 39 #[v, .int .i64 n, .int .i64 1] W fun e w' => ∃ v', e = .returned v' ∧ OwL w' base v' (l ++ nbL n 1) ∧ Gr W v w' v') := fun v l n W h1 h2 h3 => num1_i base v l n W h1 h2 h3
  have HB : Hid (∀ W, Calls Tryd.prog 60 #[.int .i64 c] W fun e w' => e = .returned (.bool (hasB c)) ∧ W = w') := fun W => has_i c W
  have HOp : Hid (∀ (v : Value) (l : List Nat) (k n p : Int) W, base ≤ W.heap.size → l.length ≤ 900000 → OwL W base v l → fitA (k, n, p) = true → Calls Tryd.prog 61 #[v, .agg #[.int .i64 k, .int .i64 n, .int .i64 p]] W fun e w' => ∃ v', e = .returned v' ∧ OwL w' base v' (l ++ opdL (k, n, p)) ∧ Gr W v w' v') := fun v l k n p W h1 h2 h3 h4 => opd_i base v l k n p W h1 h2 h3 h4
  have HO0 : Hid (OwL w base v l ∧ base ≤ w.heap.size ∧ l.length ≤ 500000) := ⟨ho, hb, hl⟩
  have B0 : Hid (BoxR w.heap.size (.cells #[.int .i64 c, .int .i64 op, .slice a len cap] 56 (0, 0)) v (w.alloc (.cells #[.int .i64 c, .int .i64 op, .slice a len cap] 56))) := BoxR.new w _ ho
  have bA : Hid (Below w.heap.size w (w.alloc (.cells #[.int .i64 c, .int .i64 op, .slice a len cap] 56))) := (Below.refl _ _).alloc (Nat.le_refl _) _
  have HX : Hid (SlA w a xs ∧ (∀ g s, xs ≠ [] → a = some ⟨g, s, none⟩ → v.ownBlock ≠ some g) ∧ len = xs.length ∧ len ≤ 3) := ⟨hx, hr, hlen, hm⟩
  obtain ⟨LL, HLL⟩ : ∃ LL, Hid (LL = l ++ insL ⟨c, ⟨op, xs⟩⟩) := ⟨_, rfl⟩
  rw [← HLL.out]
  have HLen1 : Hid ((l ++ nbL c 1).length = l.length + 1) := (by rw [List.length_append, nbL_len] : (l ++ nbL c 1).length = l.length + 1)
  clear ho hb hl hlen hm hx hr
  cases hh : hasB c with
  | false =>
    rw [hh] at HB
    have HE : Hid (LL = l ++ nbL c 1) := (by rw [HLL.out]; unfold insL; simp only [hh]; simp : LL = l ++ nbL c 1)
    clear hf hh HLL
    go_enter Tryd.func38, Tryd.ntmps38
    go_upto_region 1 with fail
    generalize (w.alloc (.cells #[.int .i64 c, .int .i64 op, .slice a len cap] 56)) = W0 at B0 bA ⊢
    obtain ⟨p0, p1, p2⟩ := cellsQ3 B0.out.1
    go_wp2_with fail
    refine (HN1.out v l c W0 (Nat.le_trans HO0.out.2.1 bA.out.size) (by have := HO0.out.2.2; omega) (HO0.out.1.later bA.out)).mono ?_
    rintro e w1 ⟨v1, rfl, h1, g1⟩
    have B1 : Hid (BoxR w.heap.size (.cells #[.int .i64 c, .int .i64 op, .slice a len cap] 56 (0, 0)) v1 w1) := B0.out.gr g1
    have G1 : Hid (OwL w1 base v1 LL ∧ Gr w v w1 v1) := ⟨by rw [HE.out]; exact h1, Gr.pre bA.out g1⟩
    clear g1 h1 p0 p1 p2 B0 bA
    obtain ⟨p0, p1, p2⟩ := cellsQ3 B1.out.1
    go_wp2_with fail
    refine (HB.out _).mono ?_
    rintro e w2 ⟨rfl, rfl⟩
    go_wp2
    go_ret
    exact ⟨_, rfl, G1.out⟩
  | true =>
    rw [hh] at HB
    have hf' := hf hh
    have HE : Hid (LL = (l ++ nbL c 1) ++ nbL op 1 ++ opdsL xs) := (by rw [HLL.out]; unfold insL; simp only [hh]; simp : LL = (l ++ nbL c 1) ++ nbL op 1 ++ opdsL xs)
    have HF : Hid (∀ j x, xs[j]? = some x → fitA x = true) := (fun j x hx => List.all_eq_true.1 hf' x (List.mem_of_getElem? hx) : ∀ j x, xs[j]? = some x → fitA x = true)
    clear hf hf' hh HLL
    go_enter Tryd.func38, Tryd.ntmps38
    go_upto_region 1 with fail
    generalize (w.alloc (.cells #[.int .i64 c, .int .i64 op, .slice a len cap] 56)) = W0 at B0 bA ⊢
    obtain ⟨p0, p1, p2⟩ := cellsQ3 B0.out.1
    go_wp2_with fail
    refine (HN1.out v l c W0 (Nat.le_trans HO0.out.2.1 bA.out.size) (by have := HO0.out.2.2; omega) (HO0.out.1.later bA.out)).mono ?_
    rintro e w1 ⟨v1, rfl, h1, g1⟩
    have B1 : Hid (BoxR w.heap.size (.cells #[.int .i64 c, .int .i64 op, .slice a len cap] 56 (0, 0)) v1 w1) := B0.out.gr g1
    have G1 : Hid (OwL w1 base v1 (l ++ nbL c 1) ∧ Gr w v w1 v1 ∧ base ≤ w1.heap.size) := ⟨h1, Gr.pre bA.out g1, Nat.le_trans (Nat.le_trans HO0.out.2.1 bA.out.size) g1.1.size⟩
    clear g1 h1 p0 p1 p2 B0 bA
    obtain ⟨p0, p1, p2⟩ := cellsQ3 B1.out.1
    go_wp2_with fail
    refine (HB.out _).mono ?_
    rintro e w2 ⟨rfl, rfl⟩
    go_wp2_with fail
    refine (HN1.out v1 _ op w1 G1.out.2.2 (by have := HLen1.out; have := HO0.out.2.2; omega) G1.out.1).mono ?_
    rintro e w2 ⟨v2, rfl, h2, g2⟩
    have B2 : Hid (BoxR w.heap.size (.cells #[.int .i64 c, .int .i64 op, .slice a len cap] 56 (0, 0)) v2 w2) := B1.out.gr g2
    have G2 : Hid (OwL w2 base v2 (l ++ nbL c 1 ++ nbL op 1 ++ opdsL (xs.take 0)) ∧ Gr w v w2 v2 ∧ base ≤ w2.heap.size) := ⟨by rw [List.take_zero]; simpa [opdsL] using h2, G1.out.2.1.trans g2, Nat.le_trans G1.out.2.2 g2.1.size⟩
    clear g2 h2 p0 p1 p2 B1 G1
    obtain ⟨p0, p1, p2⟩ := cellsQ3 B2.out.1
    go_wp2
    clear p0 p1 p2
    go_loopw [0, 6, 25] (fun vv _ i wr => ∃ k : Nat, k ≤ len ∧ i = .int .i64 k ∧ Hid (OwL wr base vv (l ++ nbL c 1 ++ nbL op 1 ++ opdsL (xs.take k)) ∧ Gr w v wr vv ∧ base ≤ wr.heap.size)) (fun _ _ i _ => len - (intOf i).toNat)
    case atStart => exact ⟨0, Nat.zero_le _, rfl, G2.out⟩
    case round =>
      clear G2 B2
      obtain ⟨k, hk, rfl, HR⟩ := hrel
      by_cases hlt : k < len
      · have ik : (k : Int) < (len : Int) := by omega
        have ik3 : len ≤ 3 := HX.out.2.2.2
        obtain ⟨x, hxk⟩ : ∃ x, xs[k]? = some x := ⟨_, List.getElem?_eq_getElem (by have := HX.out.2.2.1; omega)⟩
        obtain ⟨b, o, rfl, hb, c0', c1', c2'⟩ := HX.out.1 k x hxk
        have hgr : ∀ s, wr.cell? ⟨b, s, none⟩ = w.cell? ⟨b, s, none⟩ := fun s => HR.out.2.1.1.cell_far (a := ⟨b, s, none⟩) hb (fun e => HX.out.2.1 b o (fun h => by rw [h] at hxk; cases hxk) rfl e.symm)
        have c0 := (hgr _).trans c0'
        have c1 := (hgr _).trans c1'
        have c2 := (hgr _).trans c2'
        have HS : Hid (opdsL (xs.take (k + 1)) = opdsL (xs.take k) ++ opdL x) := opdsL_snoc xs k x hxk
        have hfx : Hid (fitA x = true) := HF.out k x hxk
        have hln : Hid ((l ++ nbL c 1 ++ nbL op 1 ++ opdsL (xs.take k)).length ≤ 900000) := (by
          have h1 := opdsL_len (xs.take k)
          have h2 := HO0.out.2.2
          have h3 := HX.out.2.2.2
          rw [List.length_append, List.length_append, List.length_append, nbL_len, nbL_len]
          rw [List.length_take] at h1
          omega : (l ++ nbL c 1 ++ nbL op 1 ++ opdsL (xs.take k)).length ≤ 900000)
        obtain ⟨xk, xn, xp⟩ := x
        simp only [] at c0 c1 c2
        clear c0' c1' c2' hgr hxk hb
        have bz : Hid (Below wr.heap.size wr (wr.alloc (.cells #[.int .i64 xk, .int .i64 xn, .int .i64 xp] 87))) := (Below.refl _ _).alloc (Nat.le_refl _) _
        go_wp2_with fail
        refine (HOp.out u0 _ xk xn xp _ (Nat.le_trans HR.out.2.2 bz.out.size) hln.out (HR.out.1.later bz.out) hfx.out).mono ?_
        rintro e w8 ⟨v8, rfl, h8, g8⟩
        have R8 : Hid (OwL w8 base v8 (l ++ nbL c 1 ++ nbL op 1 ++ opdsL (xs.take (k + 1))) ∧ Gr w v w8 v8 ∧ base ≤ w8.heap.size) := ⟨by rw [HS.out, ← List.append_assoc]; exact h8, HR.out.2.1.trans (Gr.pre bz.out g8), Nat.le_trans (Nat.le_trans HR.out.2.2 bz.out.size) g8.1.size⟩
        clear g8 h8 HR bz c0 c1 c2 HS hfx hln
        go_wp2
        go_roundw
        case rel => exact ⟨k + 1, by omega, by go_num, R8⟩
        case measure => simp [intOf]; omega
      · have hkn : k = xs.length := by have := HX.out.2.2.1; omega
        have HFin : Hid (OwL wr base u0 LL ∧ Gr w v wr u0) := ⟨by rw [HE.out]; have := HR.out.1; rwa [hkn, List.take_length] at this, HR.out.2.1⟩
        have ik : ¬ ((k : Int) < (len : Int)) := by omega
        clear HR hkn
        go_wp2
        go_ret
        exact ⟨_, rfl, HFin.out⟩
end Go.Proofs.YtcihplachlokiaaDoor
