/- What is read, and how great it is; what the law keeps of it. -/
import Derived.Test.YtcihplachlokiaaDoorQsiM
import Derived.Test.YtcihplachlokiaaDoorCkaM
import Derived.Test.YtcihplachlokiaaDoorQkn
import Derived.Test.YtcihplachlokiaaDoorDaM
import Derived.Test.YtcihplachlokiaaDoorCards
import Derived.Test.YtcihplachlokiaaDoorTie
import Derived.WalkKit
import Derived.ProofKit
import Derived.OpenShut
import Derived.ShutString
import Derived.ChangeOld
import Derived.ChangeVars
import Derived.Below
import Derived.OpenVars
import Derived.Lay
import Derived.SevenTiedAt
import Derived.Lib.SmallJoins
import Derived.Laws.Cover2
namespace Go.Proofs.YtcihplachlokiaaDoor
open Go.RowKit Go.Shelf
set_option linter.unusedVariables false
set_option linter.unusedSimpArgs false

theorem argsM_len : ∀ (n : Nat) {r r' : List Nat} {xs : List ArgT}, argsM n r = .inr (xs, r') → xs.length = n
  | 0, r, r', xs, h => by unfold argsM at h; cases h; rfl
  | n + 1, r, r', xs, h => by
    unfold argsM at h
    cases h1 : argM r with
    | inl e => rw [h1] at h; cases h
    | inr q =>
      obtain ⟨x, r1⟩ := q
      rw [h1] at h
      simp only [] at h
      cases h2 : argsM n r1 with
      | inl e => rw [h2] at h; cases h
      | inr q2 =>
        obtain ⟨ys, r2⟩ := q2
        rw [h2] at h
        cases h
        rw [List.length_cons, argsM_len n h2]
theorem instM_args {r r' : List Nat} {x : InstT} (h : instM r = .inr (x, r')) : x.one.args.length ≤ 3 := by
  unfold instM at h
  cases h1 : numM 1 r with
  | none => rw [h1] at h; cases h
  | some q =>
    obtain ⟨c, r1⟩ := q
    rw [h1] at h
    simp only [] at h
    by_cases hk : knB c = false
    · rw [if_pos hk] at h; cases h
    rw [if_neg hk] at h
    by_cases hh : hasB c = false
    · rw [if_pos hh] at h; cases h; exact Nat.zero_le _
    rw [if_neg hh] at h
    cases h2 : numM 1 r1 with
    | none => rw [h2] at h; cases h
    | some q2 =>
      obtain ⟨o, r2⟩ := q2
      rw [h2] at h
      simp only [] at h
      by_cases hop : opB c o = false
      · rw [if_pos hop] at h; cases h
      rw [if_neg hop] at h
      cases h3 : argsM (arN o).toNat r2 with
      | inl e => rw [h3] at h; cases h
      | inr q3 =>
        obtain ⟨xs, r3⟩ := q3
        rw [h3] at h
        cases h
        have h4 := argsM_len _ h3
        have h5 := arN_le o
        show xs.length ≤ 3
        omega
theorem instsM_len : ∀ (n : Nat) {k : Int} {r r' : List Nat} {xs : List InstT}, instsM n k r = .inr (xs, r') → xs.length = n ∧ ∀ x ∈ xs, x.one.args.length ≤ 3
  | 0, k, r, r', xs, h => by unfold instsM at h; cases h; exact ⟨rfl, fun x hx => by cases hx⟩
  | n + 1, k, r, r', xs, h => by
    unfold instsM at h
    cases h1 : instM r with
    | inl e => rw [h1] at h; cases h
    | inr q =>
      obtain ⟨x, r1⟩ := q
      rw [h1] at h
      simp only [] at h
      cases h2 : instsM n (k + 1) r1 with
      | inl e => rw [h2] at h; cases h
      | inr q2 =>
        obtain ⟨ys, r2⟩ := q2
        rw [h2] at h
        cases h
        have ih := instsM_len n h2
        refine ⟨by rw [List.length_cons, ih.1], fun y hy => ?_⟩
        rcases List.mem_cons.1 hy with rfl | hy
        · exact instM_args h1
        · exact ih.2 y hy
theorem tR_le : ∀ (xs : List InstT), (∀ x ∈ xs, x.one.args.length ≤ 3) → tR xs ≤ 11 * xs.length
  | [], _ => by simp [tR]
  | x :: xs, h => by
    have h1 := h x (List.mem_cons_self ..)
    have h2 := tR_le xs fun y hy => h y (List.mem_cons_of_mem _ hy)
    unfold tR at h2 ⊢
    rw [List.map_cons, List.sum_cons, List.length_cons]
    unfold tI
    unfold tI at h2
    omega
theorem readM_bounds (f : Nat → Nat) (n : Nat) : (rlT (readM f n)).length ≤ 1000 ∧ tR (rlT (readM f n)) ≤ 4000000 := by
  unfold readM
  split
  · exact ⟨by simp [rlT], by simp [rlT, tR]⟩
  · unfold listM
    split
    · exact ⟨by simp [rlT], by simp [rlT, tR]⟩
    · next hN =>
      cases h : instsM (f 4 * 256 + f 5) 0 ((List.range (n - 8)).map fun j => f (6 + j)) with
      | inl e => exact ⟨by simp [rlT], by simp [rlT, tR]⟩
      | inr q =>
        obtain ⟨xs, r'⟩ := q
        have h1 := instsM_len _ h
        have h2 := tR_le xs h1.2
        simp only []
        split
        · exact ⟨by show xs.length ≤ 1000; omega, by show tR xs ≤ 4000000; omega⟩
        · exact ⟨by simp [rlT], by simp [rlT, tR]⟩

theorem own_same {W W' : World} {base : Nat} {e : TypeId} {size : Nat} {v : Value} {n : Nat} {xs : List Value} (h : W.ownsRow base e size v n xs) (hb : ∀ g, v.ownBlock = some g → W'.heap[g]? = W.heap[g]?) : W'.ownsRow base e size v n xs := by
  refine ⟨h.1, ?_⟩
  rcases h.2 with h | ⟨g1, cap, cur, rfl, e2, e3, e4⟩
  · exact .inl h
  · exact .inr ⟨g1, cap, cur, rfl, e2, (hb g1 rfl).trans e3, e4⟩
theorem row_same {α : Type} {W W' : World} {base e z : Nat} {R R' : List Nat → α → List Value → Prop} {F : List Nat} {v : Value} {xs : List α} (h : RowOwn W base e z R F v xs) (hb : ∀ b ∈ F, W'.heap[b]? = W.heap[b]?) (hR : ∀ f x c, (∀ b ∈ f, W'.heap[b]? = W.heap[b]?) → R f x c → R' f x c) : RowOwn W' base e z R' F v xs := by
  obtain ⟨cs, F', h1, h2, rfl⟩ := h
  exact ⟨cs, F', h1.move fun f x c hf => hR f x c fun b hm => hb b (List.mem_append_right _ (hf hm)), own_same h2 (fun g hg => hb g (by rw [hg]; simp)), rfl⟩
theorem insts_same {W W' : World} {base : Nat} {F : List Nat} {v : Value} {xs : List InstT} (h : InstsOwn W base F v xs) (hb : ∀ b ∈ F, W'.heap[b]? = W.heap[b]?) : InstsOwn W' base F v xs :=
  row_same h hb fun f2 x2 c2 hf2 ⟨u2, e2, k2⟩ => ⟨u2, e2, row_same k2 hf2 fun f3 x3 c3 _ h3 => h3⟩

/-- A list that was read, and the box of its fault. -/
def RA (B base : Nat) (F1 F2 : Int) (v : Value) (F : List Nat) (xs : List InstT) (W : World) : Prop := InstsOwn W base F v xs ∧ W.heap[B]? = some (.cells #[.int .i64 F1, .int .i64 F2] 26 (0, 0))
theorem RA.lt {B base : Nat} {F1 F2 : Int} {v : Value} {F : List Nat} {xs : List InstT} {W : World} (h : RA B base F1 F2 v F xs W) : B < W.heap.size := (Array.getElem?_eq_some_iff.1 h.2).1
theorem RA.later {B base : Nat} {F1 F2 : Int} {v : Value} {F : List Nat} {xs : List InstT} {W W' : World} (h : RA B base F1 F2 v F xs W) (g : Below W.heap.size W W') : RA B base F1 F2 v F xs W' :=
  ⟨h.1.later g, (g.block _ h.lt).trans h.2⟩
theorem RA.cells {B base : Nat} {F1 F2 : Int} {v : Value} {F : List Nat} {xs : List InstT} {W : World} (h : RA B base F1 F2 v F xs W) : W.cell? ⟨B, 0, none⟩ = some (.int .i64 F1) ∧ W.cell? ⟨B, 1, none⟩ = some (.int .i64 F2) ∧ B < W.heap.size :=
  ⟨(cell_of_row _ _ _ _ _ _ h.2).trans rfl, (cell_of_row _ _ _ _ _ _ h.2).trans rfl, h.lt⟩
theorem RA.same {B base : Nat} {F1 F2 : Int} {v : Value} {F : List Nat} {xs : List InstT} {W W' : World} (h : RA B base F1 F2 v F xs W) (hs : ∀ b, (b ∈ F ∨ b = B) → W'.heap[b]? = W.heap[b]?) : RA B base F1 F2 v F xs W' :=
  ⟨insts_same h.1 fun b hb => hs b (.inl hb), (hs B (.inr rfl)).trans h.2⟩
end Go.Proofs.YtcihplachlokiaaDoor
/- The law FnExactPicRead: its walk. -/
namespace Go.Proofs.YtcihplachlokiaaDoor
open Go.RowKit Go.Shelf
set_option linter.unusedVariables false
set_option linter.unusedSimpArgs false

theorem read_u {f : Nat → Nat} {n : Nat} {W : World} {e : Ending} {w' : World} {xs : List InstT} {F1 F2 : Int} (hx : xs = rlT (readM f n)) (h1 : F1 = (rfT (readM f n)).1) (h2 : F2 = (rfT (readM f n)).2) (h : ReadR (readM f n) W e w') :
    ∃ (a : Option Addr) (l c : Nat) (F : List Nat), e = .returned (.tuple #[.slice a l c, .agg #[.int .i64 F1, .int .i64 F2]]) ∧ InstsOwn w' W.heap.size F (.slice a l c) xs ∧ F.Nodup ∧ Below W.heap.size W w' := by
  obtain ⟨v, F, he, hI, hF, hB⟩ := h
  obtain ⟨vp, vn, vc, rfl⟩ : ∃ p n cp, v = .slice p n cp := by
    obtain ⟨cs, F', _, ho, _⟩ := hI
    rcases ho.2 with ⟨h, _⟩ | ⟨g, cap, cur, h, _⟩
    · exact ⟨_, _, _, h⟩
    · exact ⟨_, _, _, h⟩
  subst hx h1 h2
  exact ⟨vp, vn, vc, F, he, hI, hF, hB⟩

set_option maxRecDepth 10000 in
set_option maxHeartbeats 8000000 in
theorem law_pread (a : Option Addr) (n c : Nat) (f : Nat → Nat) (hf : ∀ j, f j < 256) (w : World) (hn : n ≤ 1048576) (h : Bt w a n f) :
    Calls Tryd.prog 5 #[.slice a n c] w fun e w' => e = .returned (.bool true) ∧ Below w.heap.size w w' := by
  have HT : Hid (∀ W, Below w.heap.size w W → Calls Tryd.prog 19 #[.slice a n c] W fun e w' => e = .returned (.slice (some ⟨W.heap.size, 0, none⟩) n n) ∧ By w' W.heap.size n f ∧ Below W.heap.size W w') := fun W g => to_bytes a n c f W hn (h.later g (Nat.le_refl _))
  obtain ⟨xs, Hxs⟩ : ∃ F, Hid (F = rlT (readM f n)) := ⟨_, rfl⟩
  obtain ⟨F1, HF1⟩ : ∃ F, Hid (F = (rfT (readM f n)).1) := ⟨_, rfl⟩
  obtain ⟨F2, HF2⟩ : ∃ F : Int, Hid (F = (rfT (readM f n)).2) := ⟨_, rfl⟩
  have HBd : Hid (xs.length ≤ 1000 ∧ tR xs ≤ 4000000) := (by rw [Hxs.out]; exact readM_bounds f n : xs.length ≤ 1000 ∧ tR xs ≤ 4000000)
  have HPS : Hid (∀ W g, By W g n f → Calls Tryd.prog 7 #[.slice (some ⟨g, 0, none⟩) n n] W fun e w' => ∃ (a : Option Addr) (l c : Nat) (F : List Nat), e = .returned (.tuple #[.slice a l c, .agg #[.int .i64 F1, .int .i64 F2]]) ∧ InstsOwn w' W.heap.size F (.slice a l c) xs ∧ F.Nodup ∧ Below W.heap.size W w') := fun W g h => (sread_all _ n n f hf W hn (Nat.le_refl _) h.bt).mono fun e w' h => read_u Hxs.out HF1.out HF2.out h
  have HPI : Hid (∀ W g, By W g n f → Calls Tryd.prog 8 #[.slice (some ⟨g, 0, none⟩) n n] W fun e w' => ∃ (a : Option Addr) (l c : Nat) (F : List Nat), e = .returned (.tuple #[.slice a l c, .agg #[.int .i64 F1, .int .i64 F2]]) ∧ InstsOwn w' W.heap.size F (.slice a l c) xs ∧ F.Nodup ∧ Below W.heap.size W w') := fun W g h => (read_all _ n n f hf W hn (Nat.le_refl _) h.bt).mono fun e w' h => read_u Hxs.out HF1.out HF2.out h
  have HEb : Hid (∀ W g1 g2, By W g1 n f → By W g2 n f → Calls Tryd.prog 13 #[.slice (some ⟨g1, 0, none⟩) n n, .slice (some ⟨g2, 0, none⟩) n n] W fun e w' => e = .returned (.bool true) ∧ Below W.heap.size W w') := fun W g1 g2 h1 h2 => eq_bytes _ _ n n n f W h1.bt h2.bt hn
  have HEf : Hid (∀ W, Calls Tryd.prog 14 #[.agg #[.int .i64 F1, .int .i64 F2], .agg #[.int .i64 F1, .int .i64 F2]] W fun e w' => e = .returned (.bool true) ∧ Below W.heap.size W w') := fun W => eq_pf F1 F2 W
  have HEi : Hid (∀ W v1 v2, InstsIs W 0 v1 xs → InstsIs W 0 v2 xs → Calls Tryd.prog 15 #[v1, v2] W fun e w' => e = .returned (.bool true) ∧ Below W.heap.size W w') := fun W v1 v2 h1 h2 => (eq_insts v1 v2 xs xs W 0 0 h1 h2).mono fun e w' ⟨e1, e2⟩ => ⟨by rw [e1, eqB_refl], e2⟩
  have HMb : Hid (∀ W g, By W g n f → Calls Tryd.prog 17 #[.slice (some ⟨g, 0, none⟩) n n, .int .i64 1] W fun e w' => e = .returned (.int .i64 (1 + (n : Int))) ∧ W.grownBy w' (some g)) := fun W g h => (mark_ob 0 (some ⟨g, 0, none⟩) n n f W (.inr ⟨g, rfl, Nat.zero_le _, h⟩) hn).mono fun e w' ⟨e1, _, e3⟩ => ⟨e1, e3⟩
  have i0 : ¬ ((1048576 : Int) < (n : Int)) := by omega
  have i1 : ¬ (1 + (n : Int) < 0) := by omega
  have b0 : Hid (Below w.heap.size w w) := Below.refl _ _
  clear h hf hn Hxs HF1 HF2
  go_enter Tryd.func5, Tryd.ntmps5
  go_wp2_with fail
  refine (HT.out _ b0.out).mono ?_
  rintro e w1 ⟨rfl, r1, g1⟩
  have b1 : Hid (Below w.heap.size w w1) := g1
  have HC1 : Hid (Calls Tryd.prog 7 #[.slice (some ⟨w.heap.size, 0, none⟩) n n] w1 fun e w' => ∃ (a : Option Addr) (l c : Nat) (F : List Nat), e = .returned (.tuple #[.slice a l c, .agg #[.int .i64 F1, .int .i64 F2]]) ∧ InstsOwn w' w1.heap.size F (.slice a l c) xs ∧ F.Nodup ∧ Below w1.heap.size w1 w') := HPS.out w1 _ r1
  clear g1 r1 b0 HPS
  go_wp2_with fail
  refine HC1.out.mono ?_
  rintro e w2 ⟨aw, lw, cw, Fw, rfl, ow, _, g2⟩
  have gA2 : Below w2.heap.size w2 (w2.alloc (.cells #[.int .i64 F1, .int .i64 F2] 26)) := (Below.refl _ _).alloc (Nat.le_refl _) _
  have b3 : Hid (Below w.heap.size w (w2.alloc (.cells #[.int .i64 F1, .int .i64 F2] 26))) := b1.out.trans ((g2.trans (gA2.mono g2.size)).mono b1.out.size)
  have W3 : Hid (RA w2.heap.size w1.heap.size F1 F2 (.slice aw lw cw) Fw xs (w2.alloc (.cells #[.int .i64 F1, .int .i64 F2] 26))) := ⟨ow.later gA2, heap_alloc_last _ _⟩
  have HLw : Hid (∀ b, (b ∈ Fw ∨ b = w2.heap.size) → b < w2.heap.size + 1) := (fun b hb => by
    rcases hb with hb | hb
    · have := (InstsOwn.lt ow b hb).2; omega
    · omega : ∀ b, (b ∈ Fw ∨ b = w2.heap.size) → b < w2.heap.size + 1)
  have hw2 : w.heap.size ≤ w2.heap.size := (b1.out.trans (g2.mono b1.out.size)).size
  obtain ⟨Bw, hBw⟩ : ∃ B, w2.heap.size = B := ⟨_, rfl⟩
  have hs3 : (w2.alloc (.cells #[.int .i64 F1, .int .i64 F2] 26)).heap.size = Bw + 1 := by simp [hBw]
  rw [hBw] at W3 HLw hw2
  clear g2 gA2 ow b1 HC1
  go_wp2_with fail
  generalize (w2.alloc (.cells #[.int .i64 F1, .int .i64 F2] 26)) = w3 at b3 W3 hs3 ⊢
  clear hBw
  refine (HT.out _ b3.out).mono ?_
  rintro e w4 ⟨rfl, r4, g4⟩
  rw [hs3] at r4 ⊢
  have b4 : Hid (Below w.heap.size w w4) := b3.out.trans (g4.mono b3.out.size)
  have W4 : Hid (RA Bw w1.heap.size F1 F2 (.slice aw lw cw) Fw xs w4) := W3.out.later g4
  have X4 : Hid (By w4 (Bw + 1) n f ∧ Bw + 1 < w4.heap.size) := ⟨r4, r4.lt⟩
  have HC2 : Hid (Calls Tryd.prog 8 #[.slice (some ⟨Bw + 1, 0, none⟩) n n] w4 fun e w' => ∃ (a : Option Addr) (l c : Nat) (F : List Nat), e = .returned (.tuple #[.slice a l c, .agg #[.int .i64 F1, .int .i64 F2]]) ∧ InstsOwn w' w4.heap.size F (.slice a l c) xs ∧ F.Nodup ∧ Below w4.heap.size w4 w') := HPI.out w4 _ r4
  clear g4 r4 b3 W3 hs3
  go_wp2_with fail
  refine HC2.out.mono ?_
  rintro e w5 ⟨ag, lg, cg, Fg, rfl, og, hFg, g5⟩
  have gA5 : Below w5.heap.size w5 (w5.alloc (.cells #[.int .i64 F1, .int .i64 F2] 26)) := (Below.refl _ _).alloc (Nat.le_refl _) _
  have E6 : Below w4.heap.size w4 (w5.alloc (.cells #[.int .i64 F1, .int .i64 F2] 26)) := g5.trans (gA5.mono g5.size)
  have b6 : Hid (Below w.heap.size w (w5.alloc (.cells #[.int .i64 F1, .int .i64 F2] 26))) := b4.out.trans (E6.mono b4.out.size)
  have W6 : Hid (RA Bw w1.heap.size F1 F2 (.slice aw lw cw) Fw xs (w5.alloc (.cells #[.int .i64 F1, .int .i64 F2] 26))) := W4.out.later E6
  have G6 : Hid (RA w5.heap.size w4.heap.size F1 F2 (.slice ag lg cg) Fg xs (w5.alloc (.cells #[.int .i64 F1, .int .i64 F2] 26))) := ⟨og.later gA5, heap_alloc_last _ _⟩
  have X6 : Hid (By (w5.alloc (.cells #[.int .i64 F1, .int .i64 F2] 26)) (Bw + 1) n f) := X4.out.1.later E6 X4.out.2
  have HLg : Hid (∀ b, (b ∈ Fg ∨ b = w5.heap.size) → w4.heap.size ≤ b) := (fun b hb => by
    rcases hb with hb | hb
    · exact (InstsOwn.lt og b hb).1
    · have := g5.size; omega : ∀ b, (b ∈ Fg ∨ b = w5.heap.size) → w4.heap.size ≤ b)
  have HLg2 : Hid (∀ b ∈ Fg, b < w5.heap.size) := (fun b hb => (InstsOwn.lt og b hb).2 : ∀ b ∈ Fg, b < w5.heap.size)
  have HFg : Hid Fg.Nodup := hFg
  have hs5 : w4.heap.size ≤ w5.heap.size := g5.size
  obtain ⟨Bg, hBg⟩ : ∃ B, w5.heap.size = B := ⟨_, rfl⟩
  rw [hBg] at G6 HLg HLg2 hs5
  clear g5 gA5 og E6 b4 W4 HC2 hFg
  obtain ⟨p0, p1, p2⟩ := W6.out.cells
  obtain ⟨q0, q1, q2⟩ := G6.out.cells
  go_wp2_with fail
  generalize (w5.alloc (.cells #[.int .i64 F1, .int .i64 F2] 26)) = w6 at b6 W6 G6 X6 p0 p1 p2 q0 q1 q2 ⊢
  refine (HEi.out w6 _ _ (G6.out.1.is (Nat.zero_le _)) (W6.out.1.is (Nat.zero_le _))).mono ?_
  rintro e w7 ⟨rfl, g7⟩
  have b7 : Hid (Below w.heap.size w w7) := b6.out.trans (g7.mono b6.out.size)
  have W7 : Hid (RA Bw w1.heap.size F1 F2 (.slice aw lw cw) Fw xs w7) := W6.out.later g7
  have G7 : Hid (RA Bg w4.heap.size F1 F2 (.slice ag lg cg) Fg xs w7) := G6.out.later g7
  have X7 : Hid (By w7 (Bw + 1) n f) := X6.out.later g7 X6.out.lt
  clear g7 b6 W6 G6 X6 p0 p1 p2 q0 q1 q2 hBg
  obtain ⟨p0, p1, p2⟩ := W7.out.cells
  obtain ⟨q0, q1, q2⟩ := G7.out.cells
  go_wp2_with fail
  refine (HEf.out _).mono ?_
  rintro e w8 ⟨rfl, g8⟩
  have b8 : Hid (Below w.heap.size w w8) := b7.out.trans (g8.mono b7.out.size)
  have W8 : Hid (RA Bw w1.heap.size F1 F2 (.slice aw lw cw) Fw xs w8) := W7.out.later g8
  have G8 : Hid (RA Bg w4.heap.size F1 F2 (.slice ag lg cg) Fg xs w8) := G7.out.later g8
  have X8 : Hid (By w8 (Bw + 1) n f) := X7.out.later g8 X7.out.lt
  clear g8 b7 W7 G7 X7 p0 p1 p2 q0 q1 q2
  go_wp2_with fail
  refine (HT.out _ b8.out).mono ?_
  rintro e w9 ⟨rfl, r9, g9⟩
  have b9 : Hid (Below w.heap.size w w9) := b8.out.trans (g9.mono b8.out.size)
  have W9 : Hid (RA Bw w1.heap.size F1 F2 (.slice aw lw cw) Fw xs w9) := W8.out.later g9
  have G9 : Hid (RA Bg w4.heap.size F1 F2 (.slice ag lg cg) Fg xs w9) := G8.out.later g9
  have X9 : Hid (By w9 (Bw + 1) n f) := X8.out.later g9 X8.out.lt
  have R9 : Hid (By w9 w8.heap.size n f) := r9
  clear g9 b8 W8 G8 X8 r9
  go_wp2_with fail
  refine (HEb.out w9 _ _ X9.out R9.out).mono ?_
  rintro e wa ⟨rfl, ga⟩
  have ba : Hid (Below w.heap.size w wa) := b9.out.trans (ga.mono b9.out.size)
  have Wa : Hid (RA Bw w1.heap.size F1 F2 (.slice aw lw cw) Fw xs wa) := W9.out.later ga
  have Ga : Hid (RA Bg w4.heap.size F1 F2 (.slice ag lg cg) Fg xs wa) := G9.out.later ga
  have Xa : Hid (By wa (Bw + 1) n f) := X9.out.later ga X9.out.lt
  clear ga b9 W9 G9 X9 R9
  go_wp2_with fail
  refine (HMb.out wa _ Xa.out).mono ?_
  rintro e wb ⟨rfl, gb⟩
  have bb : Hid (Below w.heap.size w wb) := ba.out.grown gb ba.out.size (fun j hj => by cases hj; omega)
  have Wb : Hid (RA Bw w1.heap.size F1 F2 (.slice aw lw cw) Fw xs wb) := Wa.out.same fun b hb => gb.block b (by
    rcases hb with h | h
    · exact (InstsOwn.lt Wa.out.1 b h).2
    · rw [h]; exact Wa.out.lt) (fun e => by have := HLw.out b hb; cases e; omega)
  have Gb : Hid (RA Bg w4.heap.size F1 F2 (.slice ag lg cg) Fg xs wb) := Ga.out.same fun b hb => gb.block b (by
    rcases hb with h | h
    · exact (InstsOwn.lt Ga.out.1 b h).2
    · rw [h]; exact Ga.out.lt) (fun e => by have := HLg.out b hb; have := X4.out.2; cases e; omega)
  clear gb ba Wa Ga Xa
  obtain ⟨p0, p1, p2⟩ := Wb.out.cells
  obtain ⟨q0, q1, q2⟩ := Gb.out.cells
  go_wp2_with fail
  refine (HEi.out wb _ _ (Gb.out.1.is (Nat.zero_le _)) (Wb.out.1.is (Nat.zero_le _))).mono ?_
  rintro e wc ⟨rfl, gc⟩
  have bc : Hid (Below w.heap.size w wc) := bb.out.trans (gc.mono bb.out.size)
  have Wc : Hid (RA Bw w1.heap.size F1 F2 (.slice aw lw cw) Fw xs wc) := Wb.out.later gc
  have Gc : Hid (RA Bg w4.heap.size F1 F2 (.slice ag lg cg) Fg xs wc) := Gb.out.later gc
  clear gc bb Wb Gb p0 p1 p2 q0 q1 q2
  obtain ⟨p0, p1, p2⟩ := Wc.out.cells
  obtain ⟨q0, q1, q2⟩ := Gc.out.cells
  go_wp2_with fail
  refine (HEf.out _).mono ?_
  rintro e wd ⟨rfl, gd⟩
  have bd : Hid (Below w.heap.size w wd) := bc.out.trans (gd.mono bc.out.size)
  have Wd : Hid (RA Bw w1.heap.size F1 F2 (.slice aw lw cw) Fw xs wd) := Wc.out.later gd
  have Gd : Hid (RA Bg w4.heap.size F1 F2 (.slice ag lg cg) Fg xs wd) := Gc.out.later gd
  clear gd bc Wc Gc p0 p1 p2 q0 q1 q2
  obtain ⟨L, hL1, hL2, hL3, hL4, hL5⟩ := insts_addr Gd.out.1 HFg.out
  have HOk : Hid (LOk L w4.heap.size Bg wd) := ⟨hL2, fun q hq => ⟨HLg.out _ (.inl (hL3 q hq)), HLg2.out _ (hL3 q hq)⟩, hL4, by rw [hL1]; exact HBd.out.2⟩
  have HSL : Hid (InstsL wd L 0 (.slice ag lg cg) xs ∧ L.length = tR xs ∧ 0 + tR xs ≤ L.length) := ⟨hL5, hL1, by omega⟩
  clear hL1 hL2 hL3 hL4 hL5
  go_wp2_with fail
  refine (mark_i L 0 w4.heap.size Bg _ xs wd wd HOk.out HSL.out.1 HSL.out.2.2 HBd.out.1 (MkL.none (WMk.refl _ _ _)) 1 rfl).mono ?_
  rintro e we ⟨rfl, hMe⟩
  rw [show 0 + tR xs = L.length by rw [HSL.out.2.1]; omega] at hMe ⊢
  have be : Hid (Below w.heap.size w we) := WMk.below bd.out hMe.wm (by have := X4.out.2; omega) bd.out.size
  have We : Hid (RA Bw w1.heap.size F1 F2 (.slice aw lw cw) Fw xs we) := Wd.out.same fun b hb => hMe.wm.out b (by
    rcases hb with h | h
    · exact (InstsOwn.lt Wd.out.1 b h).2
    · rw [h]; exact Wd.out.lt) (.inl (by have := HLw.out b hb; have := X4.out.2; omega))
  have Me : Hid (MkL L L.length w4.heap.size Bg wd we) := hMe
  have HLl : Hid (L.length ≤ 4000000) := HOk.out.len
  clear hMe bd Wd Gd HOk
  obtain ⟨M, HM⟩ : ∃ M, Hid (M = 1 + ((L.length : Nat) : Int)) := ⟨_, rfl⟩
  have HHd : Hid (∀ W, MkL L L.length w4.heap.size Bg wd W → Calls Tryd.prog 20 #[.slice ag lg cg, .int .i64 1] W fun e w' => e = .returned (.int .i64 M) ∧ w' = W) := fun W hW => (held_i L 0 w4.heap.size Bg _ xs wd W HLl.out HSL.out.1 HSL.out.2.2 HBd.out.1 hW 1 rfl).mono fun e w' ⟨e1, e2⟩ => ⟨by rw [e1, HM.out, show 0 + tR xs = L.length by rw [HSL.out.2.1]; omega], e2⟩
  have hM0 : 0 ≤ M := by rw [HM.out]; omega
  have i3 : ¬ (M < 0) := by omega
  have i4 : (M != M) = false := by simp
  rw [← HM.out]
  go_wp2_with fail
  refine (HHd.out we Me.out).mono ?_
  rintro e wx ⟨rfl, rfl⟩
  go_wp2_with fail
  refine (HT.out _ be.out).mono ?_
  rintro e wf ⟨rfl, rf, gf⟩
  have bf : Hid (Below w.heap.size w wf) := be.out.trans (gf.mono be.out.size)
  have Wf : Hid (RA Bw w1.heap.size F1 F2 (.slice aw lw cw) Fw xs wf) := We.out.later gf
  have Mf : Hid (MkL L L.length w4.heap.size Bg wd wf) := Me.out.later gf
  have HC3 : Hid (Calls Tryd.prog 8 #[.slice (some ⟨wx.heap.size, 0, none⟩) n n] wf fun e w' => ∃ (a : Option Addr) (l c : Nat) (F : List Nat), e = .returned (.tuple #[.slice a l c, .agg #[.int .i64 F1, .int .i64 F2]]) ∧ InstsOwn w' wf.heap.size F (.slice a l c) xs ∧ F.Nodup ∧ Below wf.heap.size wf w') := HPI.out wf _ rf
  clear gf rf be We Me HT
  go_wp2_with fail
  refine HC3.out.mono ?_
  rintro e wg ⟨ah, lh, ch, Fh, rfl, oh, _, gg⟩
  have gAg : Below wg.heap.size wg (wg.alloc (.cells #[.int .i64 F1, .int .i64 F2] 26)) := (Below.refl _ _).alloc (Nat.le_refl _) _
  have gH := gg.trans (gAg.mono gg.size)
  have bh : Hid (Below w.heap.size w (wg.alloc (.cells #[.int .i64 F1, .int .i64 F2] 26))) := bf.out.trans (gH.mono bf.out.size)
  have Wh : Hid (RA Bw w1.heap.size F1 F2 (.slice aw lw cw) Fw xs (wg.alloc (.cells #[.int .i64 F1, .int .i64 F2] 26))) := Wf.out.later gH
  have Mh : Hid (MkL L L.length w4.heap.size Bg wd (wg.alloc (.cells #[.int .i64 F1, .int .i64 F2] 26))) := Mf.out.later gH
  have Hh : Hid (RA wg.heap.size wf.heap.size F1 F2 (.slice ah lh ch) Fh xs (wg.alloc (.cells #[.int .i64 F1, .int .i64 F2] 26))) := ⟨oh.later gAg, heap_alloc_last _ _⟩
  obtain ⟨Bh, hBh⟩ : ∃ B, wg.heap.size = B := ⟨_, rfl⟩
  rw [hBh] at Hh
  clear gAg gH gg oh bf Wf Mf HC3
  obtain ⟨p0, p1, p2⟩ := Wh.out.cells
  obtain ⟨q0, q1, q2⟩ := Hh.out.cells
  go_wp2_with fail
  generalize (wg.alloc (.cells #[.int .i64 F1, .int .i64 F2] 26)) = wi at bh Wh Mh Hh p0 p1 p2 q0 q1 q2 ⊢
  refine (HEi.out wi _ _ (Hh.out.1.is (Nat.zero_le _)) (Wh.out.1.is (Nat.zero_le _))).mono ?_
  rintro e wj ⟨rfl, gj⟩
  have bj : Hid (Below w.heap.size w wj) := bh.out.trans (gj.mono bh.out.size)
  have Wj : Hid (RA Bw w1.heap.size F1 F2 (.slice aw lw cw) Fw xs wj) := Wh.out.later gj
  have Hj : Hid (RA Bh wf.heap.size F1 F2 (.slice ah lh ch) Fh xs wj) := Hh.out.later gj
  have Mj : Hid (MkL L L.length w4.heap.size Bg wd wj) := Mh.out.later gj
  clear gj bh Wh Mh Hh p0 p1 p2 q0 q1 q2 hBh
  obtain ⟨p0, p1, p2⟩ := Wj.out.cells
  obtain ⟨q0, q1, q2⟩ := Hj.out.cells
  go_wp2_with fail
  refine (HEf.out _).mono ?_
  rintro e wk ⟨rfl, gk⟩
  have bk : Hid (Below w.heap.size w wk) := bj.out.trans (gk.mono bj.out.size)
  have Mk : Hid (MkL L L.length w4.heap.size Bg wd wk) := Mj.out.later gk
  clear gk bj Wj Hj Mj p0 p1 p2 q0 q1 q2
  go_wp2_with fail
  refine (HHd.out wk Mk.out).mono ?_
  rintro e wl ⟨rfl, rfl⟩
  have bl := bk.out
  clear bk Mk
  go_wp2
  go_ret
  exact ⟨rfl, bl⟩

/-- A slice of integers that came in: nil, or a row of its capacity's cells. -/
def IsRow (k : IntKind) (w : World) (a : Option Addr) (len cap : Nat) (zs : List Int) : Prop :=
  (a = none ∧ len = 0 ∧ cap = 0 ∧ zs = []) ∨
  ∃ x, a = some x ∧ len ≤ cap ∧ cap ≤ maxLen ∧ zs.length = cap ∧ (∀ i, i < zs.length → w.cell? (x.add i) = some (.int k (zs.getD i 0))) ∧ ∀ n ∈ zs, (Lit.int k n).wf = true

/-- Bytes that came in. -/
theorem IsRow.bt {w : World} {a : Option Addr} {len cap : Nat} {zs : List Int} (h : IsRow .u8 w a len cap zs) : len ≤ maxLen ∧ ∃ f : Nat → Nat, (∀ j, f j < 256) ∧ Bt w a len f := by
  rcases h with ⟨rfl, rfl, rfl, rfl⟩ | ⟨x, rfl, h1, h2, h3, hc, hw⟩
  · exact ⟨Nat.zero_le _, fun _ => 0, fun _ => by show 0 < 256; omega, .inl rfl⟩
  · refine ⟨by omega, fun j => (zs.getD j 0).toNat % 256, fun j => Nat.mod_lt _ (by decide), ?_⟩
    by_cases h0 : len = 0
    · exact .inl h0
    · obtain ⟨b, off, spot⟩ := x
      have hc0 := hc 0 (by omega)
      have hspot : spot = none := by simpa [Addr.add] using World.cell?_spot hc0
      subst hspot
      have hlt := World.block_lt_of_cell? _ _ hc0
      refine .inr ⟨b, off, rfl, by simpa [Addr.add] using hlt, fun j hj => ?_⟩
      have h := hc j (by omega)
      have hm : zs.getD j 0 ∈ zs := by
        rw [List.getD_eq_getElem?_getD, List.getElem?_eq_getElem (by omega)]
        exact List.getElem_mem (by omega)
      have hb := bounds_u8 (hw _ hm)
      have e1 : (((zs.getD j 0).toNat % 256 : Nat) : Int) = zs.getD j 0 := by omega
      rw [e1]
      by_cases e : j = 0
      · subst e; simpa [Addr.add] using h
      · simpa [Addr.add, e] using h
set_option maxHeartbeats 400000 in
theorem walk_pread (a : Option Addr) (len cap : Nat) (zs : List Int) (w : World) (h : IsRow .u8 w a len cap zs) (_ : KT w) :
    Calls Tryd.prog 5 #[.slice a len cap] w fun e w' => e = .returned (.bool true) ∧ Below w.heap.size w w' := by
  obtain ⟨hm, f, hf, hb⟩ := h.bt
  by_cases hl : len ≤ 1048576
  · exact law_pread a len cap f hf w hl hb
  · unfold maxLen at hm
    have i1 : (1048576 : Int) < (len : Int) := by omega
    clear h hb
    go_enter Tryd.func5, Tryd.ntmps5
    go_wp2
    go_ret
    exact ⟨rfl, Below.refl _ _⟩
end Go.Proofs.YtcihplachlokiaaDoor
/- The law FnExactPicRead holds at every input, where the listed package-level variables start as the program's text lays them. -/
namespace Go.Proofs.YtcihplachlokiaaDoor
open Go.ChangeShapes Go.WideShapes Go.ChangeAt Go.RowKit Go.Joins
open Go.ChangeMaps (open_string shut_string)
set_option linter.unusedVariables false

theorem fnExactPicRead_own : ownKnob Tryd.prog.godebug = none := by kernel_rfl
theorem fnExactPicRead_laidOut : laidOutB Tryd.prog = true := by kernel_rfl


set_option maxRecDepth 100000 in
theorem fnExactPicRead_lifted (os : Os) (started : os.Started) (H : Type) (enc : TypeId × Value → H) :
    ReturnsInHanded {} Tryd.checked os 5 .any (fun w args => (Rows.fnExactPicReadSpec.pre enc Tryd.prog Tryd.f5 [] false w args ∧ laidMetH Tryd.prog Rows.fnExactPicReadRow.laid w) ∧ sizedMet enc Tryd.prog Tryd.f5 (OpenSpec.ofChange Rows.fnExactPicReadSpec) false w args)
      (Rows.fnExactPicReadSpec.post enc Tryd.prog Tryd.f5 false true false false) := by
  refine returnsInHanded_of_change_and (C := Tryd.checked) (X := fun w _ => laidMetH Tryd.prog Rows.fnExactPicReadRow.laid w) (fun _ _ _ hh h => h.of_heap hh) fnExactPicRead_own started (by kernel_rfl) Tryd.func5
    (ChangeSpec.witness_shaped (enc := enc) (C := Tryd.checked) (os := os) (X := fun w _ => laidMetH Tryd.prog Rows.fnExactPicReadRow.laid w) false (World.laidAll Tryd.prog os Rows.fnExactPicReadRow.laid) #[.slice none 0 0] 8 (World.laidAll_os _ _ _)
      (World.shaped_of_ZipB (by kernel_rfl) (by kernel_rfl)) (by kernel_rfl) (by kernel_rfl) (by kernel_rfl)
      (by rw [MakeChecks.laidMetH_plain _ _ _ (by kernel_rfl)]; exact laidMet_laidAll _ (by kernel_rfl) (by kernel_rfl))) ?_
  intro W base args ds gs before hval0 hW _ _ hL _
  have hval : ∀ (j : Nat) t v, Tryd.f5.params[j]? = some t → args[j]? = some v → Value.okWide Tryd.prog W .any base t v := hval0
  have hW' := hW
  obtain ⟨p, q, hA0, hV, rfl, hfz, hnd⟩ := hW
  have hA : DataW.TrodAll enc Tryd.prog W 0 (fun _ => true) true Tryd.f5.params.toList args.toList ds p := hA0
  rw [Tryd.params5] at hA hval
  obtain ⟨v0, vs0, d0, ds0, p0, q0, hargs, rfl, rfl, h0, r0⟩ := trodAll_cons hA
  obtain ⟨rfl, rfl, rfl⟩ := trodAll_nil r0
  obtain rfl : args = #[v0] := by cases args; simp_all
  have hV2 := hV
  obtain ⟨_, _, _, _, gv0, _, rfl, _, _, _, _, _⟩ := trodVars_one hV
  rw [MakeChecks.laidMetH_plain _ _ _ (by kernel_rfl)] at hL
  have k0 := h0
  have lt0 : ∀ x ∈ p0, x.block < W.heap.size := by obtain ⟨m, hm⟩ := k0; exact DataW.trod_lt m _ _ _ hm
  obtain ⟨a0, len0, cap0, rfl⟩ := okWide_slice Tryd.underlying22 (hval 0 22 v0 rfl rfl)
  obtain ⟨z0, wa0⟩ : ∃ zs, IsRow .u8 W a0 len0 cap0 zs := by
    obtain ⟨fuel, hf⟩ := h0
    rcases open_ints Tryd.underlying22 Tryd.underlying5 (by kernel_rfl) hf with ⟨hcs, _⟩ | ⟨x, l, c, zs, hcs, _, hl, hm, hz, _, hcell, hwz⟩
    · simp [Value.cells] at hcs
      obtain ⟨rfl, rfl, rfl⟩ := hcs
      exact ⟨[], .inl ⟨rfl, rfl, rfl, rfl⟩⟩
    · simp [Value.cells] at hcs
      obtain ⟨rfl, rfl, rfl⟩ := hcs
      exact ⟨zs, .inr ⟨_, rfl, hl, hm, by simpa using hz, hcell, hwz⟩⟩
  clear hA0 hval0
  refine (walk_pread a0 len0 cap0 z0 W wa0 (kt_of_reads (Lib.laidMet.reads hL (.head _)))).mono fun e W' ⟨he, bel⟩ => ?_
  subst he
  exact ⟨_, rfl, _, _, _, [], _, _, hW', trodAll_mk1 (shut_bool Tryd.underlying4 _), (trodAll_cons_mk (Below.trod fnExactPicRead_laidOut (by kernel_rfl) (of_decide_eq_true (by kernel_rfl)) k0 bel lt0) trodAll_mk0), Below.trodVars fnExactPicRead_laidOut bel (by kernel_rfl) hV2, bel.frame _, fun h => by cases h⟩

theorem fnExactPicRead_closed : joinedFacts Tryd.prog 5 Tryd.f5 Rows.fnExactPicReadSpec Rows.fnExactPicReadRow = true := by kernel_rfl
theorem fnExactPicRead_fname : Tryd.prog.funcNamed Rows.fnExactPicReadRow.func = some 5 := by kernel_rfl
theorem fnExactPicRead_inst : Tryd.f5.isInstance Tryd.prog Rows.fnExactPicReadRow.origin Rows.fnExactPicReadRow.targs := of_decide_eq_true (by kernel_rfl)
theorem fnExactPicRead_wrap : Tryd.f5.isWrapper Tryd.prog Rows.fnExactPicReadRow.wrapper Rows.fnExactPicReadRow.mainSum := by unfold Func.isWrapper; first | (rw [if_pos (by decide +kernel)]; kernel_rfl) | (rw [if_neg (by decide +kernel)]; exact ⟨rfl, rfl⟩)
theorem fnExactPicRead_said : Rows.FnExactPicReadSaid :=
  OpenClaim.holds_of_wide 5 Tryd.f5 rfl rfl rfl rfl rfl rfl rfl ⟨rfl, rfl, rfl, rfl, rfl⟩ rfl rfl rfl rfl rfl fnExactPicRead_fname Tryd.func5 fnExactPicRead_closed
    fnExactPicRead_inst fnExactPicRead_wrap
    (fun os started H enc _ => fnExactPicRead_lifted os started H enc)

theorem fnExactPicRead_holds : Rows.FnExactPicReadCardSaid :=
  Claim7.holds_tied_plain_at .later [] [.data] true (true, "ddad3005a6c0050652faace7dc73bfd5ce8fad95b4e479b5ee203f8cfbd370ee") true fnExactPicRead_said (fun _ h => by cases h) (by kernel_rfl) (fun _ h => by cases h) fnExactPicRead_row_tie rfl ⟨rfl, rfl⟩ (by kernel_rfl) rfl
    (fun f fn hf hfn => by
      obtain rfl : f = 5 := Option.some.inj ((show Tryd.prog.funcNamed "loop.example/stile/laws.FnExactPicRead" = some 5 by kernel_rfl).symm.trans hf) |>.symm
      obtain rfl : fn = Tryd.f5 := (Option.some.inj (Tryd.func5.symm.trans hfn)).symm
      exact ⟨by kernel_rfl, fun j t ht => by
        rw [Tryd.params5] at ht
        have hm : t ∈ [22] := by simpa using Array.mem_of_getElem? ht
        have hall : ([22].all fun u => !Tryd.prog.wantsStandIn u) = true := by kernel_rfl
        exact (show Tryd.prog.wantsStandIn t = false by simpa using List.all_eq_true.1 hall t hm)⟩)
    (by kernel_rfl)
#print axioms fnExactPicRead_holds
end Go.Proofs.YtcihplachlokiaaDoor
