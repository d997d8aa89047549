/- The first fault of a list: the program's picWrong. -/
import Derived.Test.YtcihplachlokiaaDoorQkg
namespace Go.Proofs.YtcihplachlokiaaDoor
open Go.RowKit Go.Shelf
set_option linter.unusedVariables false
set_option linter.unusedSimpArgs false

/-- The first instruction that cannot be written, counted from j. -/
def fwA : List InstT → Nat → Int × Nat
  | [], _ => (0, 0)
  | x :: xs, j => if wrT x = 0 then fwA xs (j + 1) else (wrT x, j)
theorem fw_step {xs : List InstT} {k : Nat} {x : InstT} (h : xs[k]? = some x) : fwA (xs.drop k) k = if wrT x = 0 then fwA (xs.drop (k + 1)) (k + 1) else (wrT x, k) := by
  have hk := (List.getElem?_eq_some_iff.1 h).1
  rw [List.drop_eq_getElem_cons hk, show xs[k] = x from Option.some.inj ((List.getElem?_eq_getElem hk).symm.trans h)]
  rfl
theorem fw_end (xs : List InstT) (k : Nat) (h : xs.length ≤ k) : fwA (xs.drop k) k = (0, 0) := by rw [List.drop_eq_nil_of_le h]; rfl
theorem fw_zero : ∀ (xs : List InstT) (j : Nat), (fwA xs j).1 = 0 → ∀ x ∈ xs, wrT x = 0
  | [], _, _, x, hx => by cases hx
  | y :: ys, j, h, x, hx => by
    unfold fwA at h
    by_cases hy : wrT y = 0
    · rw [if_pos hy] at h
      rcases List.mem_cons.1 hx with rfl | hx
      · exact hy
      · exact fw_zero ys (j + 1) h x hx
    · rw [if_neg hy] at h
      exact absurd h hy
theorem fw_at : ∀ (xs : List InstT) (j : Nat), (fwA xs j).1 = 0 → fwA xs j = (0, 0)
  | [], _, _ => rfl
  | y :: ys, j, h => by
    unfold fwA at h ⊢
    by_cases hy : wrT y = 0
    · rw [if_pos hy] at h ⊢; exact fw_at ys (j + 1) h
    · rw [if_neg hy] at h; exact absurd h hy
/-- What is wrong with a list. -/
def pfT (xs : List InstT) : Int × Nat := if 1000 < xs.length then (1, 0) else fwA xs 0

/-- Instructions at a slice. -/
def SlI (W : World) (a : Option Addr) (xs : List InstT) : Prop := ∀ j x, xs[j]? = some x → ∃ b o a' c', a = some ⟨b, o, none⟩ ∧ b < W.heap.size ∧ W.cell? ⟨b, o + j * 3, none⟩ = some (.int .i64 x.code) ∧ W.cell? ⟨b, o + j * 3 + 1, none⟩ = some (.int .i64 x.one.op) ∧ W.cell? ⟨b, o + j * 3 + 2, none⟩ = some (.slice a' x.one.args.length c') ∧ x.one.args.length ≤ 9223372036854775807 ∧ SlA W a' x.one.args
theorem SlI.later {W W' : World} {B : Nat} {a : Option Addr} {xs : List InstT} (h : SlI W a xs) (g : Below B W W') (hB : W.heap.size ≤ B) : SlI W' a xs := fun j x hx => by
  obtain ⟨b, o, a', c', h1, h2, h3, h4, h5, h6, h7⟩ := h j x hx
  exact ⟨b, o, a', c', h1, Nat.lt_of_lt_of_le h2 g.size, (g.cell (p := ⟨b, _, none⟩) (by show b < B; omega)).trans h3, (g.cell (p := ⟨b, _, none⟩) (by show b < B; omega)).trans h4, (g.cell (p := ⟨b, _, none⟩) (by show b < B; omega)).trans h5, h6, h7.later g hB⟩
theorem slI_of {W : World} {lo : Nat} {v : Value} {xs : List InstT} (h : InstsIs W lo v xs) : ∃ a c, v = .slice a xs.length c ∧ xs.length ≤ 9223372036854775807 ∧ SlI W a xs := by
  obtain ⟨a, c, h1, h2, h3⟩ := h
  refine ⟨a, c, h1, h2, fun j x hx => ?_⟩
  obtain ⟨b, o, cs, e1, _, _, hr, v', hc, hv'⟩ := h3 j x hx
  obtain ⟨a', c', rfl, hm', hs'⟩ := slA_of hv'
  subst hc
  have c0 := hr 0 _ rfl
  exact ⟨b, o, a', c', e1, World.block_lt_of_cell? _ _ c0, c0, hr 1 _ rfl, hr 2 _ rfl, hm', hs'⟩
/-- A box of two numbers that may be written. -/
theorem box2 {W : World} {B : Nat} {x y : Value} {t : TypeId} (h : W.heap[B]? = some (.cells #[x, y] t (0, 0))) : W.cell? ⟨B, 0, none⟩ = some x ∧ W.cell? ⟨B, 1, none⟩ = some y ∧ W.frozen? ⟨B, 0, none⟩ = false ∧ W.frozen? ⟨B, 1, none⟩ = false :=
  ⟨(cell_of_row _ _ _ _ _ _ h).trans rfl, (cell_of_row _ _ _ _ _ _ h).trans rfl, by simp [World.frozen?, h], by simp [World.frozen?, h]⟩
theorem infoPF : (Tryd.prog.info? 26).map (·.size) = some 2 := by kernel_rfl

set_option maxRecDepth 10000 in
set_option maxHeartbeats 4000000 in
theorem flt_i (a : Option Addr) (cap : Nat) (n : Nat) (xs : List InstT) (w : World) (hl : n = xs.length) (hm : n ≤ 1048576) (hx : SlI w a xs) :
    Calls Tryd.prog 37 #[.slice a n cap] w fun e w' => e = .returned (.agg #[.int .i64 (pfT xs).1, .int .i64 (pfT xs).2]) ∧ Below w.heap.size w w' := by
  have HW : Hid (∀ (c op : Int) (a : Option Addr) (len cap : Nat) (ys : List ArgT) W, len = ys.length → len ≤ 9223372036854775807 → SlA W a ys → Calls Tryd.prog 59 #[.agg #[.int .i64 c, .int .i64 op, .slice a len cap]] W fun e w' => e = .returned (.int .i64 (wrT ⟨c, ⟨op, ys⟩⟩)) ∧ Below W.heap.size W w') := fun c op a len cap ys W h1 h2 h3 => wrong_i c op a len cap ys W h1 h2 h3
  have HX : Hid (SlI w a xs ∧ n = xs.length) := ⟨hx, hl⟩
  have K0 : Hid ((w.alloc (.cells #[.int .i64 0, .int .i64 0] 26)).heap[w.heap.size]? = some (.cells #[.int .i64 0, .int .i64 0] 26 (0, 0)) ∧ Below w.heap.size w (w.alloc (.cells #[.int .i64 0, .int .i64 0] 26))) := ⟨heap_alloc_last _ _, (Below.refl _ _).alloc (Nat.le_refl _) _⟩
  obtain ⟨F1, HF1⟩ : ∃ F, Hid (F = (pfT xs).1) := ⟨_, rfl⟩
  obtain ⟨F2, HF2⟩ : ∃ F : Int, Hid (F = ((pfT xs).2 : Nat)) := ⟨_, rfl⟩
  rw [← HF1.out, ← HF2.out]
  by_cases hbig : 1000 < n
  · have i1 : (1000 : Int) < (n : Int) := by omega
    have HE : Hid (F1 = 1 ∧ F2 = 0) := (by rw [HF1.out, HF2.out]; unfold pfT; rw [if_pos (by omega)]; exact ⟨rfl, rfl⟩ : F1 = 1 ∧ F2 = 0)
    clear hbig hx hl
    go_enter Tryd.func37, Tryd.ntmps37
    go_upto_region 1 with fail
    generalize (w.alloc (.cells #[.int .i64 0, .int .i64 0] 26)) = W0 at K0 ⊢
    obtain ⟨p0, p1, q0, q1⟩ := box2 K0.out.1
    have HR := row_put (row_put K0.out.1 0 (.int .i64 1)) 1 (.int .i64 0)
    have HBl : Below w.heap.size w ((W0.setCell ⟨w.heap.size, 0, none⟩ (.int .i64 1)).setCell ⟨w.heap.size, 1, none⟩ (.int .i64 0)) := bel_set (bel_set K0.out.2 (Nat.le_refl _) _ _) (Nat.le_refl _) _ _
    go_wp2
    refine ret_row rfl rfl HR Tryd.underlying26 rfl infoPF rfl ?_
    exact ⟨by rw [HE.out.1, HE.out.2]; rfl, HBl⟩
  · have i1 : ¬ ((1000 : Int) < (n : Int)) := by omega
    have HP : Hid (pfT xs = fwA xs 0) := (by unfold pfT; rw [if_neg (by omega)] : pfT xs = fwA xs 0)
    have hn : n ≤ 1000 := by omega
    clear hbig hx hl hm
    go_enter Tryd.func37, Tryd.ntmps37
    go_upto_region 1 with fail
    generalize (w.alloc (.cells #[.int .i64 0, .int .i64 0] 26)) = W0 at K0 ⊢
    go_wp2
    go_loopw [3, 4, 5, 12] (fun _ _ _ i wr => ∃ k : Nat, k ≤ n ∧ i = .int .i64 k ∧ Hid (fwA xs 0 = fwA (xs.drop k) k ∧ wr.heap[w.heap.size]? = some (.cells #[.int .i64 0, .int .i64 0] 26 (0, 0)) ∧ Below w.heap.size w wr)) (fun _ _ _ i _ => n - (intOf i).toNat)
    case atStart => exact ⟨0, Nat.zero_le _, rfl, rfl, K0.out⟩
    case round =>
      clear K0
      obtain ⟨k, hk, rfl, HR0⟩ := hrel
      by_cases hlt : k < n
      · have ik : (k : Int) < (n : Int) := by omega
        obtain ⟨x, hxk⟩ : ∃ x, xs[k]? = some x := ⟨_, List.getElem?_eq_getElem (by have := HX.out.2; omega)⟩
        obtain ⟨b, o, a', c', rfl, hb, c0, c1, c2, hal, hsl⟩ := (HX.out.1.later HR0.out.2.2 (Nat.le_refl _)) k x hxk
        have HSt := fw_step hxk
        obtain ⟨⟨xc, ⟨xo, xa⟩⟩, hx2⟩ : ∃ y : InstT, x = y := ⟨x, rfl⟩
        subst hx2
        simp only [] at c0 c1 c2 hal hsl
        have HSt' : Hid (fwA (xs.drop k) k = if wrT ⟨xc, ⟨xo, xa⟩⟩ = 0 then fwA (xs.drop (k + 1)) (k + 1) else (wrT ⟨xc, ⟨xo, xa⟩⟩, k)) := HSt
        obtain ⟨m, hm⟩ : ∃ m, xa.length = m := ⟨_, rfl⟩
        have HM : Hid (m = xa.length) := hm.symm
        rw [hm] at c2 hal
        have HC : Hid (Calls Tryd.prog 59 #[.agg #[.int .i64 xc, .int .i64 xo, .slice a' m c']] (wr.alloc (.cells #[.int .i64 xc, .int .i64 xo, .slice a' m c'] 56)) fun e w' => e = .returned (.int .i64 (wrT ⟨xc, ⟨xo, xa⟩⟩)) ∧ Below (wr.alloc (.cells #[.int .i64 xc, .int .i64 xo, .slice a' m c'] 56)).heap.size (wr.alloc (.cells #[.int .i64 xc, .int .i64 xo, .slice a' m c'] 56)) w') := HW.out xc xo a' m c' xa _ HM.out hal (hsl.later ((Below.refl _ _).alloc (Nat.le_refl _) _) (Nat.le_refl _))
        obtain ⟨V, HV⟩ : ∃ V, Hid (V = wrT ⟨xc, ⟨xo, xa⟩⟩) := ⟨_, rfl⟩
        rw [← HV.out] at HC HSt'
        have bz : Hid (Below wr.heap.size wr (wr.alloc (.cells #[.int .i64 xc, .int .i64 xo, .slice a' m c'] 56))) := (Below.refl _ _).alloc (Nat.le_refl _) _
        clear hxk hb HSt hsl hal hm
        go_wp2_with fail
        refine HC.out.mono ?_
        rintro e w8 ⟨rfl, g8⟩
        have q8 : Below wr.heap.size wr w8 := bz.out.trans (g8.mono bz.out.size)
        have K8 : Hid (w8.heap[w.heap.size]? = some (.cells #[.int .i64 0, .int .i64 0] 26 (0, 0)) ∧ Below w.heap.size w w8) := ⟨(q8.block _ (Array.getElem?_eq_some_iff.1 HR0.out.2.1).1).trans HR0.out.2.1, HR0.out.2.2.trans (q8.mono HR0.out.2.2.size)⟩
        clear g8 q8 bz HC c0 c1 c2
        by_cases hV : V = 0
        · have HNx : Hid (fwA xs 0 = fwA (xs.drop (k + 1)) (k + 1) ∧ w8.heap[w.heap.size]? = some (.cells #[.int .i64 0, .int .i64 0] 26 (0, 0)) ∧ Below w.heap.size w w8) := ⟨by rw [HR0.out.1, HSt'.out, if_pos hV], K8.out⟩
          have eV : (V != 0) = false := by simp [hV]
          clear HR0 HSt' K8 HV hV
          go_wp2
          go_roundw
          case rel => exact ⟨k + 1, by omega, by go_num, HNx⟩
          case measure => simp [intOf]; omega
        · have HE : Hid (F1 = V ∧ F2 = k) := (by rw [HF1.out, HF2.out, HP.out, HR0.out.1, HSt'.out, if_neg hV]; exact ⟨rfl, rfl⟩ : F1 = V ∧ F2 = k)
          have eV : (V != 0) = true := by simp [hV]
          clear HR0 HSt' HV hV
          obtain ⟨p0, p1, q0, q1⟩ := box2 K8.out.1
          have HR := row_put (row_put K8.out.1 0 (.int .i64 V)) 1 (.int .i64 k)
          have HBl : Below w.heap.size w ((w8.setCell ⟨w.heap.size, 0, none⟩ (.int .i64 V)).setCell ⟨w.heap.size, 1, none⟩ (.int .i64 k)) := bel_set (bel_set K8.out.2 (Nat.le_refl _) _ _) (Nat.le_refl _) _ _
          go_wp2
          refine ret_row rfl rfl HR Tryd.underlying26 rfl infoPF rfl ?_
          exact ⟨by rw [HE.out.1, HE.out.2]; rfl, HBl⟩
      · have hkn : xs.length ≤ k := by have := HX.out.2; omega
        have HE : Hid (F1 = 0 ∧ F2 = 0) := (by rw [HF1.out, HF2.out, HP.out, HR0.out.1, fw_end xs k hkn]; exact ⟨rfl, rfl⟩ : F1 = 0 ∧ F2 = 0)
        have ik : ¬ ((k : Int) < (n : Int)) := by omega
        have K8 : Hid (wr.heap[w.heap.size]? = some (.cells #[.int .i64 0, .int .i64 0] 26 (0, 0)) ∧ Below w.heap.size w wr) := HR0.out.2
        clear HR0 hkn
        obtain ⟨p0, p1, q0, q1⟩ := box2 K8.out.1
        have HR := row_put (row_put K8.out.1 0 (.int .i64 0)) 1 (.int .i64 0)
        have HBl : Below w.heap.size w ((wr.setCell ⟨w.heap.size, 0, none⟩ (.int .i64 0)).setCell ⟨w.heap.size, 1, none⟩ (.int .i64 0)) := bel_set (bel_set K8.out.2 (Nat.le_refl _) _ _) (Nat.le_refl _) _ _
        go_wp2
        refine ret_row rfl rfl HR Tryd.underlying26 rfl infoPF rfl ?_
        exact ⟨by rw [HE.out.1, HE.out.2]; rfl, HBl⟩
end Go.Proofs.YtcihplachlokiaaDoor
