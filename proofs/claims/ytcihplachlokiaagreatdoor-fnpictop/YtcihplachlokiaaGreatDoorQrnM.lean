/- PicRead of the program, behind the envelope. -/
import Derived.Test.YtcihplachlokiaaGreatDoorQrjM
namespace Go.Proofs.YtcihplachlokiaaGreatDoor
open Go.RowKit Go.Shelf
set_option linter.unusedVariables false
set_option linter.unusedSimpArgs false

/-- The bytes between the head and the sum. -/
def midL (f : Nat → Nat) (m : Nat) : List Nat := (List.range m).map fun j => f (6 + j)
theorem mid_len (f : Nat → Nat) (m : Nat) : (midL f m).length = m := by simp [midL]
theorem mid_at (f : Nat → Nat) (m j : Nat) (h : j < m) : atL (midL f m) j = f (6 + j) := by simp [atL, midL, h]
theorem mid_lt (f : Nat → Nat) (hf : ∀ j, f j < 256) (m : Nat) : ∀ b ∈ midL f m, b < 256 := by
  intro b hb
  simp only [midL, List.mem_map] at hb
  obtain ⟨j, _, rfl⟩ := hb
  exact hf _
theorem env_zero {f : Nat → Nat} {n : Nat} (h : envW f n = 0) : 8 ≤ n ∧ n ≤ 20008 := by
  unfold envW at h
  split at h
  · simp at h
  · omega
/-- The two ways in which the reading of a list ends. -/
theorem list_go (R N : Nat) (r : List Nat) (w : World) (hr : ∀ b ∈ r, b < 256) (h : Rd R r 0 w) :
    (∀ xs, listM N r = .inr xs → Calls Tryz.prog 25 #[.pointer (some ⟨R, 0, none⟩), .int .i64 N] w fun e w' => RdL R xs w e w') ∧
    (∀ c a, listM N r = .inl (c, a) → Calls Tryz.prog 25 #[.pointer (some ⟨R, 0, none⟩), .int .i64 N] w fun e w' => RdP R c a w e w') := by
  unfold listM
  by_cases hN : 1000 < N
  · rw [if_pos hN]
    refine ⟨fun xs hh => by simp at hh, fun c a hh => ?_⟩
    simp at hh
    obtain ⟨rfl, rfl⟩ := hh
    exact list_many R N r w hN h
  rw [if_neg hN]
  cases hi : instsM N 0 r with
  | inl e =>
    refine ⟨fun xs hh => by simp at hh, fun c a hh => ?_⟩
    simp only [Sum.inl.injEq] at hh
    subst hh
    exact list_no R N r c a w (by omega) hr (.inl hi) h
  | inr q =>
    obtain ⟨XS, r'⟩ := q
    cases r' with
    | nil =>
      refine ⟨fun xs hh => ?_, fun c a hh => by simp at hh⟩
      simp at hh
      subst hh
      exact list_ok R N r XS w (by omega) hr hi h
    | cons b r' =>
      refine ⟨fun xs hh => by simp at hh, fun c a hh => ?_⟩
      simp at hh
      obtain ⟨rfl, rfl⟩ := hh
      exact list_no R N r 7 N w (by omega) hr (.inr ⟨XS, b, r', hi, rfl, rfl⟩) h

theorem Bx.gr {w W W' : World} {v : Value} {x y : Int} {R : Nat} (h : Bx w v x y W) (g : W.grownBy W' (some R)) (hR : w.heap.size + 2 ≤ R) : Bx w v x y W' := by
  have := h.lt
  refine ⟨(g.block _ (by omega) (by simp; omega)).trans h.1, (g.block _ (by omega) (by simp; omega)).trans h.2.1, h.2.2.grown g (by omega) (fun j hj => by cases hj; omega)⟩
theorem Bx.drew {w W : World} {v : Value} {x y : Int} (h : Bx w v x y W) : Bx w v x y W.drew := ⟨h.1, h.2.1, h.2.2.drew⟩
/-- What is owned stays owned when the boxes are written. -/
theorem insts_put {w W : World} {base : Nat} {F : List Nat} {v : Value} {xs : List InstT} (h : InstsOwn W base F v xs) (hb : w.heap.size + 2 ≤ base) (v2 : Value) (x2 y2 : Int) :
    InstsOwn (((W.setCell ⟨w.heap.size, 0, none⟩ v2).setCell ⟨w.heap.size + 1, 0, none⟩ (.int .i64 x2)).setCell ⟨w.heap.size + 1, 1, none⟩ (.int .i64 y2)) w.heap.size F v xs := by
  have hl := InstsOwn.lt h
  have s1 : ∀ (W : World) (b o : Nat) (u : Value), b < base → InstsOwn W base F v xs → InstsOwn (W.setCell ⟨b, o, none⟩ u) base F v xs := fun W b o u hlt h => InstsOwn.move (row := some b) h (gb_set18 (gb_refl18 _ _) _ _) (fun j hj e => by have := (InstsOwn.lt h j hj).1; cases e; omega)
  exact insts_base (s1 _ _ _ _ (by omega) (s1 _ _ _ _ (by omega) (s1 _ _ _ _ (by omega) h))) (by omega)

set_option maxRecDepth 100000 in
set_option maxHeartbeats 4000000 in
theorem read_good (a : Option Addr) (n c : Nat) (f : Nat → Nat) (hf : ∀ j, f j < 256) (w : World) (hc : n ≤ c) (h : Bt w a n f) (hE : envW f n = 0) :
    Calls Tryz.prog 7 #[.slice a n c] w fun e w' => ReadR (readM f n) w e w' := by
  have hmf : ∀ (fn : Fn) (first cap : Array Value) (w : World), (Instr.makeFunc fn first cap).run Tryz.prog w = .ok (.func fn first cap) w := fun _ _ _ _ => rfl
  have hn8 := env_zero hE
  obtain ⟨m, rfl⟩ : ∃ m, n = m + 8 := ⟨n - 8, by omega⟩
  obtain ⟨g, o, rfl, hg, hcs⟩ : ∃ g o, a = some ⟨g, o, none⟩ ∧ g < w.heap.size ∧ ∀ j, j < m + 8 → w.cell? ⟨g, o + j, none⟩ = some (.int .u8 (f j)) := by
    rcases h with h | h
    · omega
    · exact h
  have hB := Bx.start w
  have HE : Hid (Calls Tryz.prog 23 #[.slice (some ⟨g, o, none⟩) (m + 8 : Nat) c] ((w.alloc (.cells #[.slice none 0 0] 23)).alloc (.cells #[.int .i64 0, .int .i64 0] 26)) fun e w' => e = .returned (.int .i64 0) ∧ Bx w (.slice none 0 0) 0 0 w') := (env_i (some ⟨g, o, none⟩) (m + 8) c f hf _ (by omega) hc (h.later hB.2.2 (Nat.le_refl _))).mono fun e w' ⟨a, b⟩ => ⟨by rw [a, hE], hB.later b⟩
  have HR : Hid (∀ W, Bx w (.slice none 0 0) 0 0 W → Rd W.heap.size (midL f m) 0 (W.alloc (.cells #[.slice (some ⟨g, o + 6, none⟩) m (c - 6), .int .i64 0] 55))) := fun W hW => by
    refine ⟨some ⟨g, o + 6, none⟩, c - 6, by rw [mid_len]; exact heap_alloc_last _ _, ?_, by rw [mid_len]; omega, fun g' o' e => ?_⟩
    · refine .inr ⟨g, o + 6, rfl, by have := hW.lt; simp; omega, fun j hj => ?_⟩
      rw [mid_len] at hj
      rw [mid_at f m j hj, World.cell?_alloc_past _ _ _ (by show g < W.heap.size; have := hW.lt; omega), show o + 6 + j = o + (6 + j) by omega]
      exact (hW.2.2.cell (p := ⟨g, o + (6 + j), none⟩) hg).trans (hcs (6 + j) (by omega))
    · simp only [Option.some.injEq, Addr.mk.injEq] at e
      have := hW.lt
      omega
  have HP : Hid (∀ W, Bx w (.slice none 0 0) 0 0 W → Calls Tryz.prog 26 #[.slice (some ⟨g, o, none⟩) (m + 8 : Nat) c, .int .i64 4] W fun e w' => e = .returned (.int .i64 ((f 4 * 256 + f 5 : Nat) : Int)) ∧ Below W.heap.size W w') := fun W hW => pair_i (some ⟨g, o, none⟩) (m + 8) c 4 f hf W (by omega) (by omega) (h.later hW.2.2 (Nat.le_refl _))
  have HM : Hid (readM f (m + 8) = listM (f 4 * 256 + f 5) (midL f m) ∧ (∀ b ∈ midL f m, b < 256)) := ⟨by unfold readM; rw [if_neg (by simp [hE])]; rfl, mid_lt f hf m⟩
  obtain ⟨N, HN⟩ : ∃ N, Hid (N = f 4 * 256 + f 5) := ⟨_, rfl⟩
  rw [← HN.out] at HP HM
  have i1 : (6 : Int) ≤ ((m + 8 : Nat) : Int) - 2 := by omega
  have i2 : ((m + 8 : Nat) : Int) - 2 ≤ (c : Int) := by omega
  have i3 : ((m + 8 : Nat) : Int) - 2 = ((m + 6 : Nat) : Int) := by omega
  clear h hB hcs hE
  go_enter_defers Tryz.func7, Tryz.ntmps7
  go_wp2_with fail
  refine HE.out.mono ?_
  rintro e w1 ⟨rfl, h1⟩
  have H1 : Hid (Bx w (.slice none 0 0) 0 0 w1 ∧ g < w1.heap.size) := ⟨h1, by have := h1.lt; omega⟩
  clear h1 HE
  go_wp2_with fail
  have hB1 : Bx w (.slice none 0 0) 0 0 (w1.alloc (.cells #[.slice (some ⟨g, o + 6, none⟩) m (c - 6), .int .i64 0] 55)) := H1.out.1.later ((Below.refl _ _).alloc (Nat.le_refl _) _)
  refine (HP.out _ hB1).mono ?_
  rintro e w2 ⟨rfl, b2⟩
  have hR2 : Rd w1.heap.size (midL f m) 0 w2 := (HR.out w1 H1.out.1).later b2
  have hL := list_go w1.heap.size N (midL f m) w2 HM.out.2 hR2
  have hB2 := hB1.later b2
  have hRl : w.heap.size + 2 ≤ w1.heap.size := H1.out.1.lt
  obtain ⟨R, hRR⟩ : ∃ R, w1.heap.size = R := ⟨_, rfl⟩
  rw [hRR] at hL hRl ⊢
  have H2 : Hid (Bx w (.slice none 0 0) 0 0 w2 ∧ w.heap.size + 2 ≤ R) := ⟨hB2, hRl⟩
  clear hB1 b2 hR2 hB2 hRl hRR H1 HP HR i1 i2 i3 hf
  cases hm : listM N (midL f m) with
  | inl q =>
    obtain ⟨ec, ea⟩ := q
    have HL : Hid (Calls Tryz.prog 25 #[.pointer (some ⟨R, 0, none⟩), .int .i64 N] w2 fun e w' => RdP R ec ea w2 e w') := hL.2 ec ea hm
    have HM2 : Hid (readM f (m + 8) = .inl (ec, ea)) := HM.out.1.trans hm
    clear hL hm HM
    go_wp2_with fail
    refine HL.out.mono ?_
    rintro e w3 ⟨rfl, g3⟩
    have hB3 := H2.out.1.gr g3 H2.out.2
    have H3 : Hid (Bx w (.slice none 0 0) 0 0 w3) := hB3
    unfold tld
    clear g3 hB3 HL H2
    go_wp2
    refine leaves_cons (f := 24) (args := #[.pointer (some ⟨w.heap.size, 0, none⟩), .pointer (some ⟨w.heap.size + 1, 0, none⟩)]) (by simp) (by simp [go_sem]) ?_
    refine (rcatch_thrown _ _ _ _ _ _ _ _ H3.out.1 H3.out.2.1 (by omega)).mono ?_
    rintro e u' w4 ⟨rfl, rfl, rfl⟩
    have H4 := (H3.out.put (.slice none 0 0) ec ea).drew
    exact ⟨_, H4.res rfl _ (by rfl) (by rfl), ReadR.no HM2.out H4.2.2⟩
  | inr XS =>
    have HL : Hid (Calls Tryz.prog 25 #[.pointer (some ⟨R, 0, none⟩), .int .i64 N] w2 fun e w' => RdL R XS w2 e w') := hL.1 XS hm
    have HM2 : Hid (readM f (m + 8) = .inr XS) := HM.out.1.trans hm
    clear hL hm HM
    go_wp2_with fail
    refine HL.out.mono ?_
    rintro e w3 ⟨v, F, rfl, hI, hF, g3⟩
    obtain ⟨vp, vn, vc, rfl⟩ : ∃ p n cp, v = .slice p n cp := by
      obtain ⟨cs, F', _, ho, _⟩ := hI
      rcases ho.2 with ⟨h, _⟩ | ⟨g, cap, cur, h, _⟩
      · exact ⟨_, _, _, h⟩
      · exact ⟨_, _, _, h⟩
    have hB3 := H2.out.1.gr g3 H2.out.2
    have H3 : Hid (Bx w (.slice none 0 0) 0 0 w3 ∧ InstsOwn w3 w2.heap.size F (.slice vp vn vc) XS ∧ F.Nodup ∧ w.heap.size + 2 ≤ w2.heap.size) := ⟨hB3, hI, hF, H2.out.1.lt⟩
    obtain ⟨x0, x1, x2, y0, y1, y2⟩ := hB3.facts
    clear g3 hB3 hI hF HL H2
    go_wp2
    refine leaves_cons (f := 24) (args := #[.pointer (some ⟨w.heap.size, 0, none⟩), .pointer (some ⟨w.heap.size + 1, 0, none⟩)]) (by simp) (by simp [go_sem]) ?_
    refine (rcatch_idle _ _ _).mono ?_
    rintro e u' w4 ⟨rfl, rfl, rfl⟩
    have H4 := H3.out.1.put (.slice vp vn vc) 0 0
    refine ⟨_, H4.res rfl _ (by rfl) (by rfl), ?_⟩
    rw [HM2.out]
    exact ⟨_, F, rfl, insts_put H3.out.2.1 H3.out.2.2.2 _ _ _, H3.out.2.2.1, H4.2.2⟩
end Go.Proofs.YtcihplachlokiaaGreatDoor
/- The specification's reader: take, l17Val. -/
namespace Go.Proofs.YtcihplachlokiaaGreatDoor
open Go.RowKit Go.Shelf
set_option linter.unusedVariables false
set_option linter.unusedSimpArgs false

/-- The specification's reader: the whole, and how far it is. -/
def Sd (R : Nat) (r : List Nat) (W : World) : Prop :=
  ∃ (a : Option Addr) (cap L : Nat) (F : Nat → Nat) (k : Nat), W.heap[R]? = some (.cells #[.slice a L cap, .int .i64 (k : Nat)] 64 (0, 0)) ∧ k ≤ L ∧ L ≤ cap ∧ L ≤ 1048576 ∧ Bt W a L F ∧ (∀ g o, a = some ⟨g, o, none⟩ → g < R) ∧ r.length = L - k ∧ (∀ j, j < L - k → atL r j = F (k + j))
theorem Sd.lt {R : Nat} {r : List Nat} {W : World} (h : Sd R r W) : R < W.heap.size := by
  obtain ⟨a, cap, L, F, k, h1, _⟩ := h
  exact (Array.getElem?_eq_some_iff.1 h1).1
theorem Sd.gr {R : Nat} {r : List Nat} {W W' : World} {row : Option Nat} (h : Sd R r W) (g : W.grownBy W' row) (hR : ∀ b, row = some b → R < b) : Sd R r W' := by
  obtain ⟨a, cap, L, F, k, h1, h2, h3, h4, h5, h6, h7⟩ := h
  refine ⟨a, cap, L, F, k, (g.block _ (Array.getElem?_eq_some_iff.1 h1).1 (fun e => by have := hR R e.symm; omega)).trans h1, h2, h3, h4, ?_, h6, h7⟩
  rcases h5 with h5 | ⟨b, o, e1, e2, e3⟩
  · exact .inl h5
  · exact .inr ⟨b, o, e1, Nat.lt_of_lt_of_le e2 g.size, fun j hj => (g.cell_far (a := ⟨b, o + j, none⟩) e2 (fun e => by have := hR b e.symm; have := h6 b o e1; omega)).trans (e3 j hj)⟩
theorem Sd.later {R : Nat} {r : List Nat} {W W' : World} (h : Sd R r W) (g : Below W.heap.size W W') : Sd R r W' :=
  h.gr (row := none) ⟨g.os, g.tape, g.output, g.size, fun k hk _ => g.block k hk⟩ (fun b hb => by cases hb)

set_option maxHeartbeats 1000000 in
theorem stake_no (R n : Nat) (r : List Nat) (w : World) (hn : n ≤ 1048576) (hr : r.length < n) (h : Sd R r w) :
    Calls Tryz.prog 52 #[.pointer (some ⟨R, 0, none⟩), .int .i64 n] w fun e w' => e = .returned (.tuple #[.slice none 0 0, .bool false]) ∧ Below w.heap.size w w' := by
  obtain ⟨a, cap, L, F, k, h1, h2, h3, h4, h5, h6, h7, h8⟩ := h
  have p0 : w.cell? ⟨R, 0, none⟩ = some (.slice a L cap) := (cell_of_row _ _ _ _ _ _ h1).trans rfl
  have p1 : w.cell? ⟨R, 1, none⟩ = some (.int .i64 (k : Nat)) := (cell_of_row _ _ _ _ _ _ h1).trans rfl
  have i1 : (L : Int) - (k : Int) < (n : Int) := by omega
  clear h1 h5 h6 h7 h8
  go_enter Tryz.func52, Tryz.ntmps52
  go_wp2
  go_quiet (fail)
  go_wp2
  go_ret2
  exact ⟨rfl, below_drewN _ _⟩
/-- What a take of n bytes leaves. -/
def TkR (R n : Nat) (r : List Nat) (w : World) (e : Ending) (w' : World) : Prop :=
  ∃ g o c, e = .returned (.tuple #[.slice (some ⟨g, o, none⟩) n c, .bool true]) ∧ (g < R ∧ ∀ j, j < n → w'.cell? ⟨g, o + j, none⟩ = some (.int .u8 (atL r j : Nat))) ∧ Sd R (r.drop n) w' ∧ w.grownBy w' (some R)
set_option maxRecDepth 10000 in
set_option maxHeartbeats 1000000 in
theorem stake_ok (R n : Nat) (r : List Nat) (w : World) (hn : 0 < n) (hr : n ≤ r.length) (h : Sd R r w) :
    Calls Tryz.prog 52 #[.pointer (some ⟨R, 0, none⟩), .int .i64 n] w fun e w' => TkR R n r w e w' := by
  obtain ⟨a, cap, L, F, k, h1, h2, h3, h4, h5, h6, h7, h8⟩ := h
  obtain ⟨g, o, rfl, hg, hc⟩ : ∃ g o, a = some ⟨g, o, none⟩ ∧ g < w.heap.size ∧ ∀ j, j < L → w.cell? ⟨g, o + j, none⟩ = some (.int .u8 (F j : Nat)) := by
    rcases h5 with h5 | h5
    · omega
    · exact h5
  have p0 : w.cell? ⟨R, 0, none⟩ = some (.slice (some ⟨g, o, none⟩) L cap) := (cell_of_row _ _ _ _ _ _ h1).trans rfl
  have p1 : w.cell? ⟨R, 1, none⟩ = some (.int .i64 (k : Nat)) := (cell_of_row _ _ _ _ _ _ h1).trans rfl
  have q1 : w.frozen? ⟨R, 1, none⟩ = false := by simp [World.frozen?, h1]
  have gR := h6 g o rfl
  obtain ⟨M, hM⟩ : ∃ M, k + n = M := ⟨_, rfl⟩
  have HF : Hid (∀ p q, (∀ j, j < n → (((w.drewN p).setCell ⟨R, 1, none⟩ (.int .i64 (M : Nat))).drewN q).cell? ⟨g, o + k + j, none⟩ = some (.int .u8 (atL r j : Nat))) ∧ Sd R (r.drop n) (((w.drewN p).setCell ⟨R, 1, none⟩ (.int .i64 (M : Nat))).drewN q) ∧ w.grownBy (((w.drewN p).setCell ⟨R, 1, none⟩ (.int .i64 (M : Nat))).drewN q) (some R)) := fun p q => by
    have bP : Below w.heap.size w (w.drewN p) := below_drewN _ _
    have h1' : (w.drewN p).heap[R]? = _ := (bP.block _ (Array.getElem?_eq_some_iff.1 h1).1).trans h1
    have hg' : g < (w.drewN p).heap.size := Nat.lt_of_lt_of_le hg bP.size
    have hc' : ∀ j, j < L → (w.drewN p).cell? ⟨g, o + j, none⟩ = some (.int .u8 (F j : Nat)) := fun j hj => (bP.cell (p := ⟨g, o + j, none⟩) hg).trans (hc j hj)
    have gP : w.grownBy (w.drewN p) (some R) := ⟨bP.os, bP.tape, bP.output, bP.size, fun i hi _ => bP.block i hi⟩
    generalize w.drewN p = W0 at h1' hg' hc' gP ⊢
    have gg : w.grownBy (W0.setCell ⟨R, 1, none⟩ (.int .i64 (M : Nat))) (some R) := gb_step18 gP (gb_setR _ _)
    have hcell : ∀ j, j < L → (W0.setCell ⟨R, 1, none⟩ (.int .i64 (M : Nat))).cell? ⟨g, o + j, none⟩ = some (.int .u8 (F j : Nat)) := fun j hj => (World.cell?_setCell_other _ _ _ _ (by simp <;> omega)).trans (hc' j hj)
    have bD : Below (W0.setCell ⟨R, 1, none⟩ (.int .i64 (M : Nat))).heap.size (W0.setCell ⟨R, 1, none⟩ (.int .i64 (M : Nat))) ((W0.setCell ⟨R, 1, none⟩ (.int .i64 (M : Nat))).drewN q) := below_drewN _ _
    have sd : Sd R (r.drop n) (W0.setCell ⟨R, 1, none⟩ (.int .i64 (M : Nat))) := by
      refine ⟨_, cap, L, F, M, row_put h1' 1 _, by omega, h3, h4, .inr ⟨g, o, rfl, by simpa using hg', hcell⟩, h6, by rw [List.length_drop]; omega, fun j hj => ?_⟩
      have := h8 (n + j) (by omega)
      rw [← Nat.add_assoc, hM] at this
      rw [← this]
      simp [atL, List.getD_eq_getElem?_getD]
    refine ⟨fun j hj => ?_, sd.later bD, ⟨bD.os.trans gg.os, bD.tape.trans gg.tape, bD.output.trans gg.output, Nat.le_trans gg.size bD.size, fun i hi hne => (bD.block i (Nat.lt_of_lt_of_le hi gg.size)).trans (gg.block i hi hne)⟩⟩
    rw [h8 j (by omega), show o + k + j = o + (k + j) by omega]
    exact (bD.cell (p := ⟨g, o + (k + j), none⟩) (by simpa using hg')).trans (hcell _ (by omega))
  have i1 : ¬ ((L : Int) - (k : Int) < (n : Int)) := by omega
  have i2 : (k : Int) + (n : Int) = (M : Int) := by omega
  have i3 : (M : Int) - (n : Int) = (k : Int) := by omega
  have i4 : (M : Int) ≤ (cap : Int) := by omega
  have i5 : (k : Int) ≤ (M : Int) := by omega
  have i6 : M - k = n := by omega
  have bM : (M : Int) ≤ 1048576 := by omega
  clear h1 h5 h6 h7 h8 hc hM
  go_enter Tryz.func52, Tryz.ntmps52
  go_wp2
  go_quiet (fail)
  go_wp2
  go_quiet (fail)
  go_wp2
  go_ret2
  exact ⟨g, o + k, cap - k, rfl, ⟨gR, (HF.out _ _).1⟩, (HF.out _ _).2⟩

/-- The number so far. -/
def valS (F : Nat → Nat) : Nat → Int
  | 0 => 0
  | n + 1 => valS F n * 256 + F n
theorem valS_le (F : Nat → Nat) (hF : ∀ j, F j < 256) : ∀ n, 0 ≤ valS F n ∧ valS F n < 256 ^ n
  | 0 => by simp [valS]
  | n + 1 => by
    have h1 := valS_le F hF n
    have h2 := hF n
    have h3 : (256 : Int) ^ (n + 1) = 256 ^ n * 256 := Int.pow_succ _ _
    unfold valS
    omega
/-- The number of the bytes. -/
def vlS (F : Nat → Nat) (n : Nat) : Int := if 1 < n ∧ 128 ≤ F 0 then valS F n - 256 ^ n else valS F n
theorem vl_1 (F : Nat → Nat) : vlS F 1 = vl1 (F 0) := by simp [vlS, valS, vl1]
theorem vl_2 (F : Nat → Nat) (hF : ∀ j, F j < 256) : vlS F 2 = vl2 (F 0) (F 1) := by
  have := hF 0; have := hF 1
  simp only [vlS, valS, vl2]
  split <;> split <;> omega
theorem vl_4 (F : Nat → Nat) (hF : ∀ j, F j < 256) : vlS F 4 = vl4 (F 0) (F 1) (F 2) (F 3) := by
  have := hF 0; have := hF 1; have := hF 2; have := hF 3
  simp only [vlS, valS, vl4, vl2]
  split <;> split <;> omega
set_option maxHeartbeats 1000000 in
theorem val_s (g o n c : Nat) (F : Nat → Nat) (hF : ∀ j, F j < 256) (w : World) (hn : 0 < n) (h4 : n ≤ 4) (h : ∀ j, j < n → w.cell? ⟨g, o + j, none⟩ = some (.int .u8 (F j : Nat))) :
    Calls Tryz.prog 69 #[.slice (some ⟨g, o, none⟩) n c] w fun e w' => e = .returned (.int .i64 (vlS F n)) ∧ w = w' := by
  have H0 : Hid (∀ j, j < n → w.cell? ⟨g, o + j, none⟩ = some (.int .u8 (F j : Nat))) := h
  have c0 := h 0 hn
  have HF : Hid (∀ j, F j < 256) := hF
  rw [Nat.add_zero] at c0
  have j0 : (0 : Int) < (n : Int) := by omega
  have P4 : Hid (∀ k, k ≤ 4 → (0 : Int) < 256 ^ k ∧ (256 : Int) ^ k ≤ 4294967296) := fun k hk => by
    rcases (by omega : k = 0 ∨ k = 1 ∨ k = 2 ∨ k = 3 ∨ k = 4) with rfl | rfl | rfl | rfl | rfl <;> simp
  clear h hF
  go_enter Tryz.func69, Tryz.ntmps69
  go_wp2
  go_loop [3, 4, 5] (fun v p i => ∃ k : Nat, k ≤ n ∧ i = .int .i64 k ∧ v = .int .i64 (valS F k) ∧ p = .int .i64 (256 ^ k)) (fun _ _ i => n - (intOf i).toNat)
  case atStart => exact ⟨0, Nat.zero_le _, rfl, rfl, rfl⟩
  case round =>
    obtain ⟨k, hk, rfl, rfl, rfl⟩ := hrel
    have hv := valS_le F HF.out k
    have hp := P4.out k (by omega)
    by_cases hlt : k < n
    · have i0 : (k : Int) < (n : Int) := by omega
      have hc := H0.out k hlt
      have hb := HF.out k
      have HV : Hid (valS F k * 256 + (F k : Nat) = valS F (k + 1)) := rfl
      have HP : Hid ((256 : Int) ^ k * 256 = 256 ^ (k + 1)) := (Int.pow_succ _ _).symm
      have hp3 : (256 : Int) ^ k ≤ 16777216 := by
        rcases (by omega : k = 0 ∨ k = 1 ∨ k = 2 ∨ k = 3) with rfl | rfl | rfl | rfl <;> simp
      obtain ⟨V, hV⟩ : ∃ V, valS F k = V := ⟨_, rfl⟩
      obtain ⟨P, hP⟩ : ∃ V, (256 : Int) ^ k = V := ⟨_, rfl⟩
      rw [hV] at hv HV ⊢
      rw [hP] at hv hp hp3 HP ⊢
      clear hV hP
      go_wp2
      go_round
      case rel => exact ⟨k + 1, by omega, by go_num, by rw [← HV.out], by rw [← HP.out]⟩
      case measure => simp [intOf]; omega
    · have hkn : k = n := by omega
      subst hkn
      have hb := HF.out 0
      have HQ : Hid (vlS F k = if 1 < k ∧ 128 ≤ F 0 then valS F k - 256 ^ k else valS F k) := rfl
      obtain ⟨V, hV⟩ : ∃ V, valS F k = V := ⟨_, rfl⟩
      obtain ⟨P, hP⟩ : ∃ V, (256 : Int) ^ k = V := ⟨_, rfl⟩
      rw [hV] at hv HQ ⊢
      rw [hP] at hv hp HQ ⊢
      clear hV hP
      by_cases h1 : 1 < k
      · have i1 : (1 : Int) < (k : Int) := by omega
        by_cases h2 : 128 ≤ F 0
        · have i2 : (128 : Int) ≤ ((F 0 : Nat) : Int) := by omega
          have HQ2 : Hid (vlS F k = V - P) := by show _ = _; rw [HQ.out, if_pos ⟨h1, h2⟩]
          clear HQ h2 h1
          go_wp2
          go_ret
          exact ⟨by rw [HQ2.out]; rfl, rfl⟩
        · have i2 : ¬ (128 : Int) ≤ ((F 0 : Nat) : Int) := by omega
          have HQ2 : Hid (vlS F k = V) := by show _ = _; rw [HQ.out, if_neg (fun h => h2 h.2)]
          clear HQ h2 h1
          go_wp2
          go_ret
          exact ⟨by rw [HQ2.out]; rfl, rfl⟩
      · have i1 : ¬ (1 : Int) < (k : Int) := by omega
        have HQ2 : Hid (vlS F k = V) := by show _ = _; rw [HQ.out, if_neg (fun h => h1 h.1)]
        clear HQ h1
        go_wp2
        go_ret
        exact ⟨by rw [HQ2.out]; rfl, rfl⟩
end Go.Proofs.YtcihplachlokiaaGreatDoor
/- The specification's reader: operands. -/
namespace Go.Proofs.YtcihplachlokiaaGreatDoor
open Go.RowKit Go.Shelf
set_option linter.unusedVariables false
set_option linter.unusedSimpArgs false

theorem atL_lt2 {r : List Nat} (hr : ∀ b ∈ r, b < 256) : ∀ j, atL r j < 256 := fun j => atL_lt hr j
theorem numM_none {m : Nat} {r : List Nat} (hm : m = 1 ∨ m = 2 ∨ m = 4) (h : numM m r = none) : r.length < m := by
  rcases r with _ | ⟨a, _ | ⟨b, _ | ⟨c, _ | ⟨d, r⟩⟩⟩⟩ <;> rcases hm with rfl | rfl | rfl <;> simp [numM] at h ⊢
theorem numM_some {m : Nat} {r r' : List Nat} {v : Int} (hr : ∀ b ∈ r, b < 256) (h : numM m r = some (v, r')) : m ≤ r.length ∧ 0 < m ∧ m ≤ 4 ∧ r' = r.drop m ∧ v = vlS (atL r) m := by
  unfold numM at h
  split at h
  · cases h
    exact ⟨by simp, by omega, by omega, rfl, by rw [vl_1]; rfl⟩
  · cases h
    exact ⟨by simp, by omega, by omega, rfl, by rw [vl_2 _ (atL_lt2 hr)]; rfl⟩
  · cases h
    exact ⟨by simp, by omega, by omega, rfl, by rw [vl_4 _ (atL_lt2 hr)]; rfl⟩
  · cases h
/-- A number taken and told, as the specification does it. -/
theorem snum_ok (R m : Nat) (r r' : List Nat) (v : Int) (w : World) (hr : ∀ b ∈ r, b < 256) (h : numM m r = some (v, r')) (hS : Sd R r w) :
    Calls Tryz.prog 52 #[.pointer (some ⟨R, 0, none⟩), .int .i64 m] w fun e w' => ∃ g o c, e = .returned (.tuple #[.slice (some ⟨g, o, none⟩) m c, .bool true]) ∧ Sd R r' w' ∧ w.grownBy w' (some R) ∧ g < R ∧ w'.cell? ⟨g, o, none⟩ = some (.int .u8 (atL r 0 : Nat)) ∧
      (∀ W, W.heap[g]? = w'.heap[g]? → Calls Tryz.prog 69 #[.slice (some ⟨g, o, none⟩) m c] W fun e w'' => e = .returned (.int .i64 v) ∧ W = w'') := by
  obtain ⟨h1, h2, h3, rfl, rfl⟩ := numM_some hr h
  refine (stake_ok R m r w h2 h1 hS).mono ?_
  rintro e w' ⟨g, o, c, rfl, ⟨hg, hc⟩, hd, gg⟩
  refine ⟨g, o, c, rfl, hd, gg, hg, by have := hc 0 h2; rwa [Nat.add_zero] at this, fun W e1 => val_s g o m c (atL r) (atL_lt2 hr) W h2 h3 fun j hj => ?_⟩
  have := hc j hj
  unfold World.cell? at this ⊢
  simp only [] at this ⊢
  rw [e1]
  exact this
theorem snum_no (R m : Nat) (r : List Nat) (w : World) (hm : m = 1 ∨ m = 2 ∨ m = 4) (h : numM m r = none) (hS : Sd R r w) :
    Calls Tryz.prog 52 #[.pointer (some ⟨R, 0, none⟩), .int .i64 m] w fun e w' => e = .returned (.tuple #[.slice none 0 0, .bool false]) ∧ Below w.heap.size w w' :=
  stake_no R m r w (by omega) (numM_none hm h) hS

/-- A box and a value handed back. -/
theorem ret_ct {P : Program} {fn : Func} {Q : Ending → World → Prop} {a : Act} {w : World} {p p2 : Tmp} {ty : TypeId} (hf : fn.results = #[.cell p ty, .tmp p2]) {g : Nat} (hp : a.tmps.getD p undef = .pointer (some ⟨g, 0, none⟩)) {v2 : Value} (hp2 : a.tmps.getD p2 undef = v2)
    {v : Value} (h1 : (loadVar ty ⟨g, 0, none⟩).run P w = .ok v w) (hdf : a.defers = []) (hR : Q (.returned (.tuple #[v, v2])) w) : bodyPost P fn Q .ret a w := by
  refine bodyPost_ret (v := .tuple #[v, v2]) ?_ hdf hR
  have hp' : a.tmps[p]?.getD undef = .pointer (some ⟨g, 0, none⟩) := by simpa using hp
  have hp2' : a.tmps[p2]?.getD undef = v2 := by simpa using hp2
  simp [results, hf, hp', hp2', asAddr, h1]
/-- Where the reading of an operand stands: the reader, the result's box, the operand's box. -/
def AS0 (w : World) (R : Nat) (r : List Nat) (W : World) : Prop :=
  Sd R r W ∧ R < w.heap.size ∧ W.heap[w.heap.size]? = some (.cells #[.int .i64 0, .int .i64 0, .int .i64 0] 72 (0, 0)) ∧ w.grownBy W (some R)
theorem AS0.start {w : World} {R : Nat} {r : List Nat} (h : Sd R r w) : AS0 w R r (w.alloc (.cells #[.int .i64 0, .int .i64 0, .int .i64 0] 72)) :=
  ⟨h.later ((Below.refl _ _).alloc (Nat.le_refl _) _), h.lt, heap_alloc_last _ _, gb_al _ _ _⟩
theorem AS0.lt {w W : World} {R : Nat} {r : List Nat} (h : AS0 w R r W) : w.heap.size < W.heap.size := (Array.getElem?_eq_some_iff.1 h.2.2.1).1
theorem AS0.read {w W W' : World} {R : Nat} {r r' : List Nat} (h : AS0 w R r W) (d : Sd R r' W') (g : W.grownBy W' (some R)) : AS0 w R r' W' := by
  obtain ⟨h1, h2, h3, h4⟩ := h
  exact ⟨d, h2, gb_row g h3 (by omega), gb_step18 h4 g⟩
theorem AS0.later {w W W' : World} {R : Nat} {r : List Nat} (h : AS0 w R r W) (g : Below W.heap.size W W') : AS0 w R r W' :=
  h.read (h.1.later g) ⟨g.os, g.tape, g.output, g.size, fun k hk _ => g.block k hk⟩
def AS (w : World) (R B3 : Nat) (k n p : Int) (r : List Nat) (W : World) : Prop :=
  AS0 w R r W ∧ w.heap.size < B3 ∧ W.heap[B3]? = some (.cells #[.int .i64 k, .int .i64 n, .int .i64 p] 72 (0, 0))
theorem AS.start {w W : World} {R : Nat} {k : Int} {r : List Nat} (h : AS0 w R r W) : AS w R W.heap.size k 0 0 r (W.alloc (.cells #[.int .i64 k, .int .i64 0, .int .i64 0] 72)) :=
  ⟨h.later ((Below.refl _ _).alloc (Nat.le_refl _) _), h.lt, heap_alloc_last _ _⟩
theorem AS.read {w W W' : World} {R B3 : Nat} {k n p : Int} {r r' : List Nat} (h : AS w R B3 k n p r W) (d : Sd R r' W') (g : W.grownBy W' (some R)) : AS w R B3 k n p r' W' :=
  ⟨h.1.read d g, h.2.1, gb_row g h.2.2 (by have := h.1.2.1; have := h.2.1; omega)⟩
theorem AS.put {w W : World} {R B3 : Nat} {k n p : Int} {r : List Nat} (h : AS w R B3 k n p r W) (f : Nat) (v : Value) : AS0 w R r (W.setCell ⟨B3, f, none⟩ v) := by
  obtain ⟨⟨h1, h2, h3, h4⟩, h5, h6⟩ := h
  exact ⟨h1.gr (row := some B3) (gb_set18 (gb_refl18 _ _) _ _) (fun b hb => by cases hb; omega), h2, row_other h3 _ _ (by omega) _, gb_new h4 B3 (by omega) _ _⟩
/-- The last move: the operand into its result. -/
theorem as_fin {w W : World} {R : Nat} {x y z : Int} {r : List Nat} (h : AS0 w R r W) :
    (((W.setCell ⟨w.heap.size, 0, none⟩ (.int .i64 x)).setCell ⟨w.heap.size, 1, none⟩ (.int .i64 y)).setCell ⟨w.heap.size, 2, none⟩ (.int .i64 z)).heap[w.heap.size]? = some (.cells #[.int .i64 x, .int .i64 y, .int .i64 z] 72 (0, 0)) ∧
    Sd R r (((W.setCell ⟨w.heap.size, 0, none⟩ (.int .i64 x)).setCell ⟨w.heap.size, 1, none⟩ (.int .i64 y)).setCell ⟨w.heap.size, 2, none⟩ (.int .i64 z)) ∧
    w.grownBy (((W.setCell ⟨w.heap.size, 0, none⟩ (.int .i64 x)).setCell ⟨w.heap.size, 1, none⟩ (.int .i64 y)).setCell ⟨w.heap.size, 2, none⟩ (.int .i64 z)) (some R) := by
  obtain ⟨h1, h2, h3, h4⟩ := h
  have s1 : ∀ (W : World) (f : Nat) (v : Value), Sd R r W → Sd R r (W.setCell ⟨w.heap.size, f, none⟩ v) := fun W f v h => h.gr (row := some w.heap.size) (gb_set18 (gb_refl18 _ _) _ _) (fun b hb => by cases hb; exact h2)
  exact ⟨row_put (row_put (row_put h3 0 _) 1 _) 2 _, s1 _ _ _ (s1 _ _ _ (s1 _ _ _ h1)), gb_new (gb_new (gb_new h4 _ (Nat.le_refl _) _ _) _ (Nat.le_refl _) _ _) _ (Nat.le_refl _) _ _⟩
theorem infoDAs : (Tryz.prog.info? 72).map (·.size) = some 3 := by kernel_rfl
theorem as_load {W : World} {B : Nat} {x y z : Int} (h : W.heap[B]? = some (.cells #[.int .i64 x, .int .i64 y, .int .i64 z] 72 (0, 0))) : (loadVar 72 ⟨B, 0, none⟩).run Tryz.prog W = .ok (.agg #[.int .i64 x, .int .i64 y, .int .i64 z]) W :=
  run_loadVar_row W B _ 72 _ _ _ h Tryz.underlying72 rfl infoDAs

/-- What a read of an operand leaves. -/
def SaR (R : Nat) (x : ArgT) (r : List Nat) (w : World) (e : Ending) (w' : World) : Prop :=
  e = .returned (.tuple #[.agg #[.int .i64 x.1, .int .i64 x.2.1, .int .i64 x.2.2], .int .i64 0]) ∧ Sd R r w' ∧ w.grownBy w' (some R)
set_option maxRecDepth 10000 in
set_option maxHeartbeats 4000000 in
theorem arg_s_ok (R : Nat) (r r' : List Nat) (x : ArgT) (w : World) (hr : ∀ b ∈ r, b < 256) (ha : argM r = .inr (x, r')) (h : Sd R r w) :
    Calls Tryz.prog 53 #[.pointer (some ⟨R, 0, none⟩)] w fun e w' => SaR R x r' w e w' := by
  unfold argM at ha
  cases h1 : numM 1 r with
  | none => rw [h1] at ha; cases ha
  | some q1 =>
    obtain ⟨k, r1⟩ := q1
    rw [h1] at ha
    simp only [] at ha
    have hr1 : ∀ b ∈ r1, b < 256 := fun b hb => hr b (numM_sub h1 b hb)
    by_cases hw : wdT k = 0
    · rw [if_pos hw] at ha; cases ha
    rw [if_neg hw] at ha
    have hk : 1 ≤ k ∧ k ≤ 13 := by
      unfold wdT at hw
      by_cases h0 : k < 1 ∨ 13 < k
      · rw [if_pos h0] at hw; exact absurd rfl hw
      · omega
    cases h2 : numM (wdT k) r1 with
    | none => rw [h2] at ha; cases ha
    | some q2 =>
      obtain ⟨n, r2⟩ := q2
      rw [h2] at ha
      simp only [] at ha
      have hr2 : ∀ b ∈ r2, b < 256 := fun b hb => hr1 b (numM_sub h2 b hb)
      have hkv : ((atL r 0 : Nat) : Int) = k := by
        have := (numM_some hr h1).2.2.2.2
        rw [vl_1] at this
        exact this.symm
      obtain ⟨A, hA⟩ : ∃ A, atL r 0 = A := ⟨_, rfl⟩
      have HT1 : Hid (Calls Tryz.prog 52 #[.pointer (some ⟨R, 0, none⟩), .int .i64 1] (w.alloc (.cells #[.int .i64 0, .int .i64 0, .int .i64 0] 72)) fun e w' => ∃ g o c, e = .returned (.tuple #[.slice (some ⟨g, o, none⟩) 1 c, .bool true]) ∧ AS0 w R r1 w' ∧ g < R ∧ w'.cell? ⟨g, o, none⟩ = some (.int .u8 (A : Nat))) := (snum_ok R 1 r r1 k _ hr h1 (AS0.start h).1).mono fun e w' ⟨g, o, c, e1, e2, e3, e4, e5, _⟩ => ⟨g, o, c, e1, (AS0.start h).read e2 e3, e4, by rw [← hA]; exact e5⟩
      have HT2 : Hid (∀ W, Sd R r1 W → Calls Tryz.prog 52 #[.pointer (some ⟨R, 0, none⟩), .int .i64 (wdT k : Nat)] W fun e w' => ∃ g o c, e = .returned (.tuple #[.slice (some ⟨g, o, none⟩) (wdT k) c, .bool true]) ∧ Sd R r2 w' ∧ W.grownBy w' (some R) ∧ g < R ∧ w'.cell? ⟨g, o, none⟩ = some (.int .u8 (atL r1 0 : Nat)) ∧ (∀ W, W.heap[g]? = w'.heap[g]? → Calls Tryz.prog 69 #[.slice (some ⟨g, o, none⟩) (wdT k) c] W fun e w'' => e = .returned (.int .i64 n) ∧ W = w'')) := fun W hW => snum_ok R (wdT k) r1 r2 n W hr1 h2 hW
      have HW : Hid (∀ W, Calls Tryz.prog 45 #[.int .i64 k] W fun e w' => e = .returned (.int .i64 (wdT k : Nat)) ∧ W = w') := fun W => wd_s k W hk.1 hk.2
      obtain ⟨M, HM⟩ : ∃ M : Nat, Hid (M = wdT k) := ⟨_, rfl⟩
      rw [← HM.out] at HT2 HW
      have hA256 : A < 256 := by rw [← hA]; exact atL_lt hr 0
      rw [hA] at hkv
      have k1 : ¬ k < 1 := by omega
      have k2 : ¬ 13 < k := by omega
      clear h h1 h2 hw hr hr1 hA
      go_enter Tryz.func53, Tryz.ntmps53
      go_wp2_with fail
      refine HT1.out.mono ?_
      rintro e w1 ⟨g1, o1, c1, rfl, d1, hg1, x1⟩
      have hI := AS.start (k := k) d1
      have hg1' : g1 < w1.heap.size := by have := d1.lt; have := d1.2.1; omega
      obtain ⟨B3, hB3⟩ : ∃ B, w1.heap.size = B := ⟨_, rfl⟩
      rw [hB3] at hI hg1'
      have I1 : Hid (AS w R B3 k 0 0 r1 (w1.alloc (.cells #[.int .i64 k, .int .i64 0, .int .i64 0] 72))) := hI
      clear d1 hI HT1 hg1
      go_wp2_with fail
      generalize (w1.alloc (.cells #[.int .i64 k, .int .i64 0, .int .i64 0] 72)) = W1 at I1 ⊢
      refine (HW.out W1).mono ?_
      rintro e w2 ⟨rfl, rfl⟩
      clear hB3 x1
      go_wp2_with fail
      refine (HT2.out W1 I1.out.1.1).mono ?_
      rintro e w3 ⟨g3, o3, c3, rfl, d3, gg3, hg3, x3, hv3⟩
      have I3 := I1.out.read d3 gg3
      have HV : Hid (Calls Tryz.prog 69 #[.slice (some ⟨g3, o3, none⟩) (M : Nat) c3] w3 fun e w'' => e = .returned (.int .i64 n) ∧ w3 = w'') := hv3 w3 rfl
      obtain ⟨x0, x1, x2, y0, y1, y2⟩ := box3 I3.2.2
      obtain ⟨z0, z1, z2, u0, u1, u2⟩ := box3 I3.1.2.2.1
      have hb1 : B3 ≠ w.heap.size := by have := I3.2.1; omega
      have hb2 : w.heap.size ≠ B3 := by have := I3.2.1; omega
      have J3 : Hid (AS0 w R r2 (w3.setCell ⟨B3, 1, none⟩ (.int .i64 n)) ∧ (w3.setCell ⟨B3, 1, none⟩ (.int .i64 n)).heap[B3]? = some (.cells #[.int .i64 k, .int .i64 n, .int .i64 0] 72 (0, 0)) ∧ w.heap.size < B3) := ⟨I3.put 1 _, row_put I3.2.2 1 _, I3.2.1⟩
      clear I1 d3 gg3 hg3 hv3 I3 x3 HW HT2
      go_wp2_with fail
      refine HV.out.mono ?_
      rintro e w4 ⟨rfl, rfl⟩
      by_cases h12 : k = 12
      · rw [if_pos h12] at ha
        subst h12
        cases h3 : numM 1 r2 with
        | none => rw [h3] at ha; cases ha
        | some q3 =>
          obtain ⟨p, r3⟩ := q3
          rw [h3] at ha
          cases ha
          have hpv : ((atL r2 0 : Nat) : Int) = p := by
            have := (numM_some hr2 h3).2.2.2.2
            rw [vl_1] at this
            exact this.symm
          have hP256 := atL_lt hr2 0
          obtain ⟨A2, hA2⟩ : ∃ A, atL r2 0 = A := ⟨_, rfl⟩
          rw [hA2] at hpv hP256
          have HT3 : Hid (Calls Tryz.prog 52 #[.pointer (some ⟨R, 0, none⟩), .int .i64 1] (w3.setCell ⟨B3, 1, none⟩ (.int .i64 n)) fun e w' => ∃ g o c, e = .returned (.tuple #[.slice (some ⟨g, o, none⟩) 1 c, .bool true]) ∧ AS w R B3 12 n 0 r' w' ∧ w'.cell? ⟨g, o, none⟩ = some (.int .u8 (A2 : Nat))) := (snum_ok R 1 r2 r' p _ hr2 h3 J3.out.1.1).mono fun e w' ⟨g, o, c, e1, e2, e3, e4, e5, _⟩ => ⟨g, o, c, e1, AS.read ⟨J3.out.1, J3.out.2.2, J3.out.2.1⟩ e2 e3, by rw [← hA2]; exact e5⟩
          have e12 : ((12 : Int) == 12) = true := by decide
          clear J3 HV h3 hA2 hr2
          go_wp2_with fail
          refine HT3.out.mono ?_
          rintro e w5 ⟨g5, o5, c5, rfl, I5, x5⟩
          clear x0 x1 x2 y0 y1 y2 z0 z1 z2 u0 u1 u2
          obtain ⟨x0, x1, x2, y0, y1, y2⟩ := box3 I5.2.2
          obtain ⟨z0, z1, z2, u0, u1, u2⟩ := box3 I5.1.2.2.1
          have J5 : Hid (AS0 w R r' (w5.setCell ⟨B3, 2, none⟩ (.int .i64 p)) ∧ (w5.setCell ⟨B3, 2, none⟩ (.int .i64 p)).heap[B3]? = some (.cells #[.int .i64 12, .int .i64 n, .int .i64 p] 72 (0, 0)) ∧ w.heap.size < B3) := ⟨I5.put 2 _, row_put I5.2.2 2 _, I5.2.1⟩
          clear HT3 I5
          have HFin := as_fin (x := 12) (y := n) (z := p) J5.out.1
          have HRow := as_load HFin.1
          have HFn : Hid (SaR R (12, n, p) r' w (.returned (.tuple #[.agg #[.int .i64 12, .int .i64 n, .int .i64 p], .int .i64 0])) ((((w5.setCell ⟨B3, 2, none⟩ (.int .i64 p)).setCell ⟨w.heap.size, 0, none⟩ (.int .i64 12)).setCell ⟨w.heap.size, 1, none⟩ (.int .i64 n)).setCell ⟨w.heap.size, 2, none⟩ (.int .i64 p))) := ⟨rfl, HFin.2⟩
          clear HFin J5
          go_wp2
          exact ret_ct rfl rfl rfl HRow rfl HFn.out
      · rw [if_neg h12] at ha
        cases ha
        have e12 : (k == 12) = false := by simpa using h12
        have HFin := as_fin (x := k) (y := n) (z := 0) J3.out.1
        have HRow := as_load HFin.1
        have HFn : Hid (SaR R (k, n, 0) r' w (.returned (.tuple #[.agg #[.int .i64 k, .int .i64 n, .int .i64 0], .int .i64 0])) ((((w3.setCell ⟨B3, 1, none⟩ (.int .i64 n)).setCell ⟨w.heap.size, 0, none⟩ (.int .i64 k)).setCell ⟨w.heap.size, 1, none⟩ (.int .i64 n)).setCell ⟨w.heap.size, 2, none⟩ (.int .i64 0))) := ⟨rfl, HFin.2⟩
        clear HFin J3 HV
        go_wp2
        exact ret_ct rfl rfl rfl HRow rfl HFn.out
end Go.Proofs.YtcihplachlokiaaGreatDoor
/- The specification's reader: operands that cannot be read. -/
namespace Go.Proofs.YtcihplachlokiaaGreatDoor
open Go.RowKit Go.Shelf
set_option linter.unusedVariables false
set_option linter.unusedSimpArgs false

theorem argM_pos {r : List Nat} {c : Int} (h : argM r = .inl c) : 0 < c := by
  unfold argM at h
  cases h1 : numM 1 r with
  | none => rw [h1] at h; cases h; decide
  | some q1 =>
    obtain ⟨k, r1⟩ := q1
    rw [h1] at h
    simp only [] at h
    by_cases hw : wdT k = 0
    · rw [if_pos hw] at h; cases h; decide
    rw [if_neg hw] at h
    cases h2 : numM (wdT k) r1 with
    | none => rw [h2] at h; cases h; decide
    | some q2 =>
      obtain ⟨n, r2⟩ := q2
      rw [h2] at h
      simp only [] at h
      by_cases h12 : k = 12
      · rw [if_pos h12] at h
        cases h3 : numM 1 r2 with
        | none => rw [h3] at h; cases h; decide
        | some q3 => rw [h3] at h; cases h
      · rw [if_neg h12] at h; cases h
/-- What a read of an operand leaves, where there is none. -/
def SaN (R : Nat) (c : Int) (w : World) (e : Ending) (w' : World) : Prop :=
  e = .returned (.tuple #[.agg #[.int .i64 0, .int .i64 0, .int .i64 0], .int .i64 c]) ∧ w.grownBy w' (some R)
set_option maxRecDepth 10000 in
set_option maxHeartbeats 4000000 in
theorem arg_s_no (R : Nat) (r : List Nat) (c : Int) (w : World) (hr : ∀ b ∈ r, b < 256) (ha : argM r = .inl c) (h : Sd R r w) :
    Calls Tryz.prog 53 #[.pointer (some ⟨R, 0, none⟩)] w fun e w' => SaN R c w e w' := by
  unfold argM at ha
  cases h1 : numM 1 r with
  | none =>
    rw [h1] at ha
    cases ha
    have HT1 : Hid (Calls Tryz.prog 52 #[.pointer (some ⟨R, 0, none⟩), .int .i64 1] (w.alloc (.cells #[.int .i64 0, .int .i64 0, .int .i64 0] 72)) fun e w' => e = .returned (.tuple #[.slice none 0 0, .bool false]) ∧ AS0 w R r w') := (snum_no R 1 r _ (.inl rfl) h1 (AS0.start h).1).mono fun e w' ⟨a, b⟩ => ⟨a, (AS0.start h).later b⟩
    clear h h1 hr
    go_enter Tryz.func53, Tryz.ntmps53
    go_wp2_with fail
    refine HT1.out.mono ?_
    rintro e w1 ⟨rfl, d1⟩
    obtain ⟨z0, z1, z2, u0, u1, u2⟩ := box3 d1.2.2.1
    have HFin := as_fin (x := 0) (y := 0) (z := 0) d1
    have HRow := as_load HFin.1
    have HFn : Hid (SaN R 6 w (.returned (.tuple #[.agg #[.int .i64 0, .int .i64 0, .int .i64 0], .int .i64 6])) (((w1.setCell ⟨w.heap.size, 0, none⟩ (.int .i64 0)).setCell ⟨w.heap.size, 1, none⟩ (.int .i64 0)).setCell ⟨w.heap.size, 2, none⟩ (.int .i64 0))) := ⟨rfl, HFin.2.2⟩
    clear HFin d1 HT1
    go_wp2
    refine ret_ct rfl rfl rfl HRow rfl ?_; exact HFn.out
  | some q1 =>
    obtain ⟨k, r1⟩ := q1
    rw [h1] at ha
    simp only [] at ha
    have hr1 : ∀ b ∈ r1, b < 256 := fun b hb => hr b (numM_sub h1 b hb)
    have hkv : ((atL r 0 : Nat) : Int) = k := by
      have := (numM_some hr h1).2.2.2.2
      rw [vl_1] at this
      exact this.symm
    obtain ⟨A, hA⟩ : ∃ A, atL r 0 = A := ⟨_, rfl⟩
    have HT1 : Hid (Calls Tryz.prog 52 #[.pointer (some ⟨R, 0, none⟩), .int .i64 1] (w.alloc (.cells #[.int .i64 0, .int .i64 0, .int .i64 0] 72)) fun e w' => ∃ g o c, e = .returned (.tuple #[.slice (some ⟨g, o, none⟩) 1 c, .bool true]) ∧ AS0 w R r1 w' ∧ g < R ∧ w'.cell? ⟨g, o, none⟩ = some (.int .u8 (A : Nat))) := (snum_ok R 1 r r1 k _ hr h1 (AS0.start h).1).mono fun e w' ⟨g, o, c, e1, e2, e3, e4, e5, _⟩ => ⟨g, o, c, e1, (AS0.start h).read e2 e3, e4, by rw [← hA]; exact e5⟩
    have hA256 : A < 256 := by rw [← hA]; exact atL_lt hr 0
    rw [hA] at hkv
    clear h h1 hr hA
    go_enter Tryz.func53, Tryz.ntmps53
    go_wp2_with fail
    refine HT1.out.mono ?_
    rintro e w1 ⟨g1, o1, c1, rfl, d1, hg1, x1⟩
    have hI := AS.start (k := k) d1
    have hg1' : g1 < w1.heap.size := by have := d1.lt; have := d1.2.1; omega
    obtain ⟨B3, hB3⟩ : ∃ B, w1.heap.size = B := ⟨_, rfl⟩
    rw [hB3] at hI hg1'
    have I1 : Hid (AS w R B3 k 0 0 r1 (w1.alloc (.cells #[.int .i64 k, .int .i64 0, .int .i64 0] 72))) := hI
    clear d1 hI HT1 hg1
    by_cases hw : wdT k = 0
    · rw [if_pos hw] at ha
      cases ha
      have hk : k < 1 ∨ 13 < k := by
        unfold wdT at hw
        by_cases h0 : k < 1 ∨ 13 < k
        · exact h0
        · rw [if_neg h0] at hw; split at hw <;> first | (split at hw <;> omega) | omega
      have kd : (decide (k < 1) || decide (13 < k)) = true := by
        rcases hk with hk | hk
        · rw [decide_eq_true hk]; rfl
        · rw [decide_eq_true hk, Bool.or_true]
      clear hw
      go_upto_region 5 with fail
      generalize (w1.alloc (.cells #[.int .i64 k, .int .i64 0, .int .i64 0] 72)) = W1 at I1 ⊢
      obtain ⟨x0, x1, x2, y0, y1, y2⟩ := box3 I1.out.2.2
      obtain ⟨z0, z1, z2, u0, u1, u2⟩ := box3 I1.out.1.2.2.1
      have HFin := as_fin (x := 0) (y := 0) (z := 0) I1.out.1
      have HRow := as_load HFin.1
      have HFn : Hid (SaN R 3 w (.returned (.tuple #[.agg #[.int .i64 0, .int .i64 0, .int .i64 0], .int .i64 3])) (((W1.setCell ⟨w.heap.size, 0, none⟩ (.int .i64 0)).setCell ⟨w.heap.size, 1, none⟩ (.int .i64 0)).setCell ⟨w.heap.size, 2, none⟩ (.int .i64 0))) := ⟨rfl, HFin.2.2⟩
      clear HFin I1 hB3
      rcases hk with hk | hk
      · go_wp2

        refine ret_ct rfl rfl rfl HRow rfl ?_; exact HFn.out
      · have hk1 : ¬ k < 1 := by omega
        go_wp2
        refine ret_ct rfl rfl rfl HRow rfl ?_; exact HFn.out
    · rw [if_neg hw] at ha
      have hk : 1 ≤ k ∧ k ≤ 13 := by
        unfold wdT at hw
        by_cases h0 : k < 1 ∨ 13 < k
        · rw [if_pos h0] at hw; exact absurd rfl hw
        · omega
      have HW : Hid (∀ W, Calls Tryz.prog 45 #[.int .i64 k] W fun e w' => e = .returned (.int .i64 (wdT k : Nat)) ∧ W = w') := fun W => wd_s k W hk.1 hk.2
      obtain ⟨M, HM⟩ : ∃ M : Nat, Hid (M = wdT k) := ⟨_, rfl⟩
      rw [← HM.out] at HW
      have k1 : ¬ k < 1 := by omega
      have k2 : ¬ 13 < k := by omega
      go_wp2_with fail
      generalize (w1.alloc (.cells #[.int .i64 k, .int .i64 0, .int .i64 0] 72)) = W1 at I1 ⊢
      refine (HW.out W1).mono ?_
      rintro e w2 ⟨rfl, rfl⟩
      clear hB3 x1
      cases h2 : numM (wdT k) r1 with
      | none =>
        rw [h2] at ha
        cases ha
        have HT2 : Hid (Calls Tryz.prog 52 #[.pointer (some ⟨R, 0, none⟩), .int .i64 (wdT k : Nat)] W1 fun e w' => e = .returned (.tuple #[.slice none 0 0, .bool false]) ∧ AS0 w R r1 w') := (snum_no R (wdT k) r1 _ (wd_124 hw) h2 I1.out.1.1).mono fun e w' ⟨a, b⟩ => ⟨a, I1.out.1.later b⟩
        rw [← HM.out] at HT2
        clear hw h2 I1
        go_wp2_with fail
        refine HT2.out.mono ?_
        rintro e w3 ⟨rfl, d1⟩
        obtain ⟨z0, z1, z2, u0, u1, u2⟩ := box3 d1.2.2.1
        have HFin := as_fin (x := 0) (y := 0) (z := 0) d1
        have HRow := as_load HFin.1
        have HFn : Hid (SaN R 6 w (.returned (.tuple #[.agg #[.int .i64 0, .int .i64 0, .int .i64 0], .int .i64 6])) (((w3.setCell ⟨w.heap.size, 0, none⟩ (.int .i64 0)).setCell ⟨w.heap.size, 1, none⟩ (.int .i64 0)).setCell ⟨w.heap.size, 2, none⟩ (.int .i64 0))) := ⟨rfl, HFin.2.2⟩
        clear HFin d1 HT2
        go_wp2
        refine ret_ct rfl rfl rfl HRow rfl ?_; exact HFn.out
      | some q2 =>
        obtain ⟨n, r2⟩ := q2
        rw [h2] at ha
        simp only [] at ha
        by_cases h12 : k = 12
        · rw [if_pos h12] at ha
          cases h3 : numM 1 r2 with
          | some q3 => rw [h3] at ha; cases ha
          | none =>
            rw [h3] at ha
            cases ha
            have HT2 : Hid (∀ W, Sd R r1 W → Calls Tryz.prog 52 #[.pointer (some ⟨R, 0, none⟩), .int .i64 (wdT k : Nat)] W fun e w' => ∃ g o c, e = .returned (.tuple #[.slice (some ⟨g, o, none⟩) (wdT k) c, .bool true]) ∧ Sd R r2 w' ∧ W.grownBy w' (some R) ∧ g < R ∧ w'.cell? ⟨g, o, none⟩ = some (.int .u8 (atL r1 0 : Nat)) ∧ (∀ W, W.heap[g]? = w'.heap[g]? → Calls Tryz.prog 69 #[.slice (some ⟨g, o, none⟩) (wdT k) c] W fun e w'' => e = .returned (.int .i64 n) ∧ W = w'')) := fun W hW => snum_ok R (wdT k) r1 r2 n W hr1 h2 hW
            rw [← HM.out] at HT2
            clear hw h2
            go_wp2_with fail
            refine (HT2.out W1 I1.out.1.1).mono ?_
            rintro e w3 ⟨g3, o3, c3, rfl, d3, gg3, hg3, x3, hv3⟩
            have I3 := I1.out.read d3 gg3
            have HV : Hid (Calls Tryz.prog 69 #[.slice (some ⟨g3, o3, none⟩) (M : Nat) c3] w3 fun e w'' => e = .returned (.int .i64 n) ∧ w3 = w'') := hv3 w3 rfl
            obtain ⟨x0, x1, x2, y0, y1, y2⟩ := box3 I3.2.2
            have hb1 : B3 ≠ w.heap.size := by have := I3.2.1; omega
            have hb2 : w.heap.size ≠ B3 := by have := I3.2.1; omega
            have J3 : Hid (AS0 w R r2 (w3.setCell ⟨B3, 1, none⟩ (.int .i64 n)) ∧ (w3.setCell ⟨B3, 1, none⟩ (.int .i64 n)).heap[B3]? = some (.cells #[.int .i64 k, .int .i64 n, .int .i64 0] 72 (0, 0)) ∧ w.heap.size < B3) := ⟨I3.put 1 _, row_put I3.2.2 1 _, I3.2.1⟩
            have HT3 : Hid (Calls Tryz.prog 52 #[.pointer (some ⟨R, 0, none⟩), .int .i64 1] (w3.setCell ⟨B3, 1, none⟩ (.int .i64 n)) fun e w' => e = .returned (.tuple #[.slice none 0 0, .bool false]) ∧ AS0 w R r2 w') := (snum_no R 1 r2 _ (.inl rfl) h3 J3.out.1.1).mono fun e w' ⟨a, b⟩ => ⟨a, J3.out.1.later b⟩
            have e12 : (k == 12) = true := by simpa using h12
            clear I1 d3 gg3 hg3 hv3 I3 x3 HW HT2 J3 h3
            go_wp2_with fail
            refine HV.out.mono ?_
            rintro e w4 ⟨rfl, rfl⟩
            clear HV
            go_wp2_with fail
            refine HT3.out.mono ?_
            rintro e w5 ⟨rfl, d1⟩
            clear x0 x1 x2 y0 y1 y2
            obtain ⟨z0, z1, z2, u0, u1, u2⟩ := box3 d1.2.2.1
            have HFin := as_fin (x := 0) (y := 0) (z := 0) d1
            have HRow := as_load HFin.1
            have HFn : Hid (SaN R 6 w (.returned (.tuple #[.agg #[.int .i64 0, .int .i64 0, .int .i64 0], .int .i64 6])) (((w5.setCell ⟨w.heap.size, 0, none⟩ (.int .i64 0)).setCell ⟨w.heap.size, 1, none⟩ (.int .i64 0)).setCell ⟨w.heap.size, 2, none⟩ (.int .i64 0))) := ⟨rfl, HFin.2.2⟩
            clear HFin d1 HT3
            go_wp2
            refine ret_ct rfl rfl rfl HRow rfl ?_; exact HFn.out
        · rw [if_neg h12] at ha
          cases ha
end Go.Proofs.YtcihplachlokiaaGreatDoor
/- The specification's reader: where the reading of an instruction stands. -/
namespace Go.Proofs.YtcihplachlokiaaGreatDoor
open Go.RowKit Go.Shelf
set_option linter.unusedVariables false
set_option linter.unusedSimpArgs false

theorem Sd.set {R : Nat} {r : List Nat} {W : World} (h : Sd R r W) (b o : Nat) (v : Value) (hb : R < b) : Sd R r (W.setCell ⟨b, o, none⟩ v) :=
  h.gr (row := some b) (gb_set18 (gb_refl18 W (some b)) o v) (fun x hx => by cases hx; exact hb)
/-- Where the reading of operands stands: the reader, the two boxes, the row so far. -/
def SI (w : World) (R B3 : Nat) (c o : Int) (v : Value) (xs : List ArgT) (r : List Nat) (W : World) : Prop :=
  Sd R r W ∧ R < w.heap.size ∧ w.heap.size < B3 ∧ W.heap[w.heap.size]? = some (.cells #[.int .i64 0, .int .i64 0, .slice none 0 0] 44 (0, 0)) ∧ W.heap[B3]? = some (.cells #[.int .i64 c, .int .i64 o, v] 44 (0, 0)) ∧
  W.ownsRow (B3 + 1) 72 3 v xs.length (avs xs) ∧ w.grownBy W (some R) ∧ B3 < W.heap.size
theorem SI.read {w W W' : World} {R B3 : Nat} {c o : Int} {v : Value} {xs : List ArgT} {r r' : List Nat} (h : SI w R B3 c o v xs r W) (d : Sd R r' W') (g : W.grownBy W' (some R)) : SI w R B3 c o v xs r' W' := by
  obtain ⟨h1, h2, h3, h4, h5, h6, h7, h8⟩ := h
  refine ⟨d, h2, h3, gb_row g h4 (by omega), gb_row g h5 (by omega), World.ownsRow.kept (row := some R) h6 g (.inr fun e => ?_), gb_step18 h7 g, Nat.lt_of_lt_of_le h8 g.size⟩
  have := (World.ownsRow.lt h6 R e).1
  omega
theorem SI.later {w W W' : World} {R B3 : Nat} {c o : Int} {v : Value} {xs : List ArgT} {r : List Nat} (h : SI w R B3 c o v xs r W) (g : Below W.heap.size W W') : SI w R B3 c o v xs r W' :=
  h.read (h.1.later g) ⟨g.os, g.tape, g.output, g.size, fun k hk _ => g.block k hk⟩
/-- A row that grew, and its new value laid into the box. -/
theorem SI.put {w W W5 : World} {R B3 g' cap' : Nat} {c o : Int} {v : Value} {xs : List ArgT} {x : ArgT} {r : List Nat} (h : SI w R B3 c o v xs r W)
    (hown : W5.ownsRow (B3 + 1) 72 3 (.slice (some ⟨g', 0, none⟩) (xs.length + 1) cap') (xs.length + 1) (avs xs ++ [.int .i64 x.1, .int .i64 x.2.1, .int .i64 x.2.2])) (hg : W.grownBy W5 v.ownBlock) :
    SI w R B3 c o (.slice (some ⟨g', 0, none⟩) (xs.length + 1) cap') (xs ++ [x]) r (W5.setCell ⟨B3, 2, none⟩ (.slice (some ⟨g', 0, none⟩) (xs.length + 1) cap')) := by
  obtain ⟨h1, h2, h3, h4, h5, h6, h7, h8⟩ := h
  have hv : ∀ j, v.ownBlock = some j → B3 + 1 ≤ j := fun j hj => (World.ownsRow.lt h6 j hj).1
  have k5 : W5.heap[B3]? = some (.cells #[.int .i64 c, .int .i64 o, v] 44 (0, 0)) := (hg.block B3 h8 (fun e => by have := hv B3 e.symm; omega)).trans h5
  have k4 : W5.heap[w.heap.size]? = some (.cells #[.int .i64 0, .int .i64 0, .slice none 0 0] 44 (0, 0)) := (hg.block _ (by omega) (fun e => by have := hv _ e.symm; omega)).trans h4
  have d5 : Sd R r W5 := h1.gr hg (fun j hj => by have := hv j hj; omega)
  have g5 : w.grownBy W5 (some R) := ⟨hg.os.trans h7.os, hg.tape.trans h7.tape, hg.output.trans h7.output, Nat.le_trans h7.size hg.size, fun k hk hne => (hg.block k (Nat.lt_of_lt_of_le hk h7.size) (fun e => by have := hv k e.symm; omega)).trans (h7.block k hk hne)⟩
  have o5 := World.ownsRow.lt hown g' rfl
  refine ⟨d5.set B3 2 _ (by omega), h2, h3, row_other k4 _ _ (by omega) _, row_put k5 2 _, ?_, gb_new g5 B3 (by omega) _ _, by simpa using Nat.lt_of_lt_of_le h8 hg.size⟩
  have e1 : (xs ++ [x]).length = xs.length + 1 := by simp
  rw [e1, avs_snoc]
  exact World.ownsRow.kept (row := some B3) hown (gb_set18 (gb_refl18 _ _) _ _) (.inr fun e => by simp [Value.ownBlock] at e; omega)
/-- The last move: the instruction into its result. -/
theorem si_load {W : World} {B : Nat} {x y : Int} {v : Value} (h : W.heap[B]? = some (.cells #[.int .i64 x, .int .i64 y, v] 44 (0, 0))) : (loadVar 44 ⟨B, 0, none⟩).run Tryz.prog W = .ok (.agg #[.int .i64 x, .int .i64 y, v]) W :=
  run_loadVar_row W B _ 44 _ _ _ h Tryz.underlying44 rfl infoIn
theorem sinst_fin {w W : World} {R B3 : Nat} {c o : Int} {v : Value} {xs : List ArgT} {r : List Nat} (h : SI w R B3 c o v xs r W) :
    (((W.setCell ⟨w.heap.size, 0, none⟩ (.int .i64 c)).setCell ⟨w.heap.size, 1, none⟩ (.int .i64 o)).setCell ⟨w.heap.size, 2, none⟩ v).heap[w.heap.size]? = some (.cells #[.int .i64 c, .int .i64 o, v] 44 (0, 0)) ∧
    Sd R r (((W.setCell ⟨w.heap.size, 0, none⟩ (.int .i64 c)).setCell ⟨w.heap.size, 1, none⟩ (.int .i64 o)).setCell ⟨w.heap.size, 2, none⟩ v) ∧
    w.grownBy (((W.setCell ⟨w.heap.size, 0, none⟩ (.int .i64 c)).setCell ⟨w.heap.size, 1, none⟩ (.int .i64 o)).setCell ⟨w.heap.size, 2, none⟩ v) (some R) ∧
    (((W.setCell ⟨w.heap.size, 0, none⟩ (.int .i64 c)).setCell ⟨w.heap.size, 1, none⟩ (.int .i64 o)).setCell ⟨w.heap.size, 2, none⟩ v).ownsRow (w.heap.size + 1) 72 3 v xs.length (avs xs) := by
  obtain ⟨h1, h2, h3, h4, h5, h6, h7, h8⟩ := h
  have hb : ∀ (W : World) (f : Nat) (u : Value), W.ownsRow (w.heap.size + 1) 72 3 v xs.length (avs xs) → (W.setCell ⟨w.heap.size, f, none⟩ u).ownsRow (w.heap.size + 1) 72 3 v xs.length (avs xs) := fun W f u h => World.ownsRow.kept (row := some w.heap.size) h (gb_set18 (gb_refl18 _ _) _ _) (.inr fun e => by have := (World.ownsRow.lt h _ e).1; omega)
  exact ⟨row_put (row_put (row_put h4 0 _) 1 _) 2 _, ((h1.set _ 0 _ h2).set _ 1 _ h2).set _ 2 _ h2, gb_new (gb_new (gb_new h7 _ (Nat.le_refl _) _ _) _ (Nat.le_refl _) _ _) _ (Nat.le_refl _) _ _, hb _ _ _ (hb _ _ _ (hb _ _ _ (h6.mono (by omega))))⟩
theorem SI.row5 {w W W5 : World} {R B3 : Nat} {c o : Int} {v : Value} {xs : List ArgT} {r : List Nat} (h : SI w R B3 c o v xs r W) (hg : W.grownBy W5 v.ownBlock) : W5.heap[B3]? = some (.cells #[.int .i64 c, .int .i64 o, v] 44 (0, 0)) := by
  obtain ⟨h1, h2, h3, h4, h5, h6, h7, h8⟩ := h
  exact (hg.block B3 h8 (fun e => by have := (World.ownsRow.lt h6 B3 e.symm).1; omega)).trans h5
/-- The bare last move, where there is no instruction. -/
theorem bare_fin {w W : World} {R : Nat} (h4 : W.heap[w.heap.size]? = some (.cells #[.int .i64 0, .int .i64 0, .slice none 0 0] 44 (0, 0))) (h7 : w.grownBy W (some R)) :
    (((W.setCell ⟨w.heap.size, 0, none⟩ (.int .i64 0)).setCell ⟨w.heap.size, 1, none⟩ (.int .i64 0)).setCell ⟨w.heap.size, 2, none⟩ (.slice none 0 0)).heap[w.heap.size]? = some (.cells #[.int .i64 0, .int .i64 0, .slice none 0 0] 44 (0, 0)) ∧
    w.grownBy (((W.setCell ⟨w.heap.size, 0, none⟩ (.int .i64 0)).setCell ⟨w.heap.size, 1, none⟩ (.int .i64 0)).setCell ⟨w.heap.size, 2, none⟩ (.slice none 0 0)) (some R) :=
  ⟨row_put (row_put (row_put h4 0 _) 1 _) 2 _, gb_new (gb_new (gb_new h7 _ (Nat.le_refl _) _ _) _ (Nat.le_refl _) _ _) _ (Nat.le_refl _) _ _⟩
/-- What a read of an instruction leaves. -/
def SdI (R : Nat) (i : InstT) (r : List Nat) (w : World) (e : Ending) (w' : World) : Prop :=
  ∃ v, e = .returned (.tuple #[.agg #[.int .i64 i.code, .int .i64 i.one.op, v], .int .i64 0]) ∧ w'.ownsRow (w.heap.size + 1) 72 3 v i.one.args.length (avs i.one.args) ∧ Sd R r w' ∧ w.grownBy w' (some R)
def SdN (R : Nat) (c : Int) (w : World) (e : Ending) (w' : World) : Prop :=
  e = .returned (.tuple #[.agg #[.int .i64 0, .int .i64 0, .slice none 0 0], .int .i64 c]) ∧ w.grownBy w' (some R)
theorem argsM_pos : ∀ (n : Nat) {r : List Nat} {c : Int}, argsM n r = .inl c → 0 < c
  | 0, r, c, h => by unfold argsM at h; cases h
  | n + 1, r, c, h => by
    unfold argsM at h
    cases h1 : argM r with
    | inl e => rw [h1] at h; cases h; exact argM_pos h1
    | inr q =>
      obtain ⟨x, r1⟩ := q
      rw [h1] at h
      simp only [] at h
      cases h2 : argsM n r1 with
      | inl e => rw [h2] at h; cases h; exact argsM_pos n h2
      | inr q2 => obtain ⟨ys, r2⟩ := q2; rw [h2] at h; cases h
theorem instM_pos {r : List Nat} {c : Int} (h : instM r = .inl c) : 0 < c := by
  unfold instM at h
  cases h1 : numM 1 r with
  | none => rw [h1] at h; cases h; decide
  | some q =>
    obtain ⟨k, r1⟩ := q
    rw [h1] at h
    simp only [] at h
    by_cases hk : knB k = false
    · rw [if_pos hk] at h; cases h; decide
    rw [if_neg hk] at h
    by_cases hh : hasB k = false
    · rw [if_pos hh] at h; cases h
    rw [if_neg hh] at h
    cases h2 : numM 1 r1 with
    | none => rw [h2] at h; cases h; decide
    | some q2 =>
      obtain ⟨o, r2⟩ := q2
      rw [h2] at h
      simp only [] at h
      by_cases hop : opB k o = false
      · rw [if_pos hop] at h; cases h; decide
      rw [if_neg hop] at h
      cases h3 : argsM (arN o).toNat r2 with
      | inl e => rw [h3] at h; cases h; exact argsM_pos _ h3
      | inr q3 => obtain ⟨ys, r3⟩ := q3; rw [h3] at h; cases h
end Go.Proofs.YtcihplachlokiaaGreatDoor
