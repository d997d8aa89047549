/- The image of a list is drawn. -/
import Derived.Test.YtcihplachlokiaaGreatDoorOne
import Derived.Test.YtcihplachlokiaaGreatDoorQkn
import Derived.Test.YtcihplachlokiaaGreatDoorObaM
namespace Go.Proofs.YtcihplachlokiaaGreatDoor.Rr
open Go.RowKit Go.Shelf
set_option linter.unusedVariables false
set_option linter.unusedSimpArgs false

theorem imgL_len {xs : List InstT} (h : (pfT xs).1 = 0) : 8 ≤ (imgL xs).length ∧ (imgL xs).length ≤ 20008 := by
  have h1 := pf_zero h
  have h2 := bodL_len xs h1.2
  have h3 : (hdL xs).length = 6 := by unfold hdL; rw [List.length_append, List.length_append, nbL_len, nbL_len]; rfl
  unfold imgL
  rw [List.length_append, List.length_append, nbL_len, h3]
  omega
theorem imgL_lt (xs : List InstT) : ∀ b ∈ imgL xs, b < 256 := fun b hb => by
  unfold imgL at hb
  rcases List.mem_append.1 hb with hb | hb
  · exact hdL_lt xs b hb
  · exact nbL_lt _ _ _ hb
theorem le_step {q5 q p i D : Nat} (h : q5 ≤ q + D) (h2 : q ≤ p + D * i) : q5 ≤ p + D * (i + 1) := by
  have : D * (i + 1) = D * i + D := Nat.mul_succ D i
  omega
/-- What a draw of an image leaves. -/
def ImgR (w : World) (B R p d : Nat) (e : Ending) (w' : World) : Prop :=
  ∃ (g n c q : Nat) (l : List Nat), e = .returned (.slice (some ⟨g, 0, none⟩) n c) ∧ OwL w' w.heap.size (.slice (some ⟨g, 0, none⟩) n c) l ∧ 8 ≤ n ∧ n ≤ 20008 ∧ (∀ b ∈ l, b < 256) ∧ q ≤ p + d ∧ Reader B w' R q ∧ w.grownBy w' (some R)
/-- An image made, as a draw of it. -/
theorem img_of {w W : World} {B R p q d base : Nat} {v : Value} {xs : List InstT} (hb : w.heap.size ≤ base) (h : OwL W base v (imgL xs)) (h0 : (pfT xs).1 = 0) (hq : q ≤ p + d) (hr : Reader B W R q) (hg : w.grownBy W (some R)) : ∃ g n c, v = .slice (some ⟨g, 0, none⟩) n c ∧ ImgR w B R p d (.returned (.slice (some ⟨g, 0, none⟩) n c)) W := by
  have hl := imgL_len h0
  obtain ⟨g, c, rfl, _, _, _⟩ := owL_news h (by omega)
  exact ⟨g, _, c, rfl, g, _, c, q, imgL xs, rfl, owl_base h hb, hl.1, hl.2, imgL_lt xs, hq, hr, hg⟩

set_option maxRecDepth 10000 in
set_option maxHeartbeats 8000000 in
theorem image_r (w : World) (B R p : Nat) (h : Reader B w R p) (hp : p < 7000000) :
    Calls Tryz.prog 29 #[.pointer (some ⟨R, 0, none⟩)] w fun e w' => ImgR w B R p 1100000 e w' := by
  have hRB := h.1
  have hBw := h.2.1
  have HMk : Hid (∀ (H : Nat) (a : Option Addr) (n c : Nat) (xs : List InstT) (W : World), n = xs.length → n ≤ 4000 → RG W H R (.slice a n c) xs → Calls Tryz.prog 6 #[.slice a n c] W fun e w' => MkR xs W e w') := fun H a n c xs W hn h4 hx => by
    have hI := hx.is (by omega)
    obtain ⟨a', c', e, _, hs⟩ := slI_of hI
    simp only [Value.slice.injEq] at e
    obtain ⟨rfl, _, rfl⟩ := e
    exact mk_s a c n xs W hn (by omega) hs
  have HMk0 : Hid (∀ (W : World), Calls Tryz.prog 6 #[.slice none 0 0] W fun e w' => MkR [] W e w') := fun W => mk_s none 0 0 [] W rfl (by omega) (by intro j x hx; simp at hx)
  have H0 : Hid (Reader B w R p ∧ w.grownBy w (some R)) := ⟨h, gb_refl _ _⟩
  clear h
  go_enter Tryz.func29, Tryz.ntmps29
  go_wp2
  go_loopw [3, 4, 5] (fun iv _ _ wr => ∃ (i q : Nat), iv = .int .i64 i ∧ i ≤ 4 ∧ q ≤ p + 250100 * i ∧ Hid (Reader B wr R q ∧ w.grownBy wr (some R))) (fun iv _ _ _ => 4 - (intOf iv).toNat)
  case atStart => exact ⟨0, p, rfl, by omega, by omega, H0.out⟩
  case round =>
    clear H0
    obtain ⟨i, q, rfl, hi, hq, HR⟩ := hrel
    by_cases i0 : i < 4
    · have hlt : (i : Int) < 4 := by omega
      go_wp2_with fail
      refine (dlist_r wr B R q HR.out.1 (by omega)).mono ?_
      rintro e w5 ⟨a, n, cap, q5, xs, rfl, hn, hn2, hq5, hx, h5, g5⟩
      have HM : Hid (Calls Tryz.prog 6 #[.slice a n cap] w5 fun e w' => MkR xs w5 e w') := HMk.out _ a n cap xs w5 hn.out hn2 hx
      have H5 : Hid (Reader B w5 R q5 ∧ w.grownBy w5 (some R)) := ⟨h5, gb_pick HR.out.2 g5⟩
      clear hx h5 g5 HR hn
      go_wp2_with fail
      refine HM.out.mono ?_
      rintro e w6 ⟨v, rfl, ho, hB⟩
      obtain ⟨F1, hF1⟩ : ∃ F, (pfT xs).1 = F := ⟨_, rfl⟩
      obtain ⟨F2, hF2⟩ : ∃ F : Int, ((pfT xs).2 : Int) = F := ⟨_, rfl⟩
      rw [hF1] at ho ⊢
      rw [hF2]
      obtain ⟨va, vn, vc, rfl⟩ : ∃ a n c, v = .slice a n c := by
        rcases ho.2 with ⟨h, _⟩ | ⟨g, cap, cur, h, _⟩
        · exact ⟨_, _, _, h⟩
        · exact ⟨_, _, _, h⟩
      have gA : Below w6.heap.size w6 (w6.alloc (.cells #[.int .i64 F1, .int .i64 F2] 26)) := (Below.refl _ _).alloc (Nat.le_refl _) _
      have gB : Below w5.heap.size w5 (w6.alloc (.cells #[.int .i64 F1, .int .i64 F2] 26)) := hB.trans (gA.mono hB.size)
      have H7 : Hid (Reader B (w6.alloc (.cells #[.int .i64 F1, .int .i64 F2] 26)) R q5 ∧ w.grownBy (w6.alloc (.cells #[.int .i64 F1, .int .i64 F2] 26)) (some R)) := ⟨H5.out.1.later gB, gb_below' H5.out.2 gB⟩
      have k7 := heap_alloc_last w6 (.cells #[.int .i64 F1, .int .i64 F2] 26)
      have HO7 : Hid (OwL (w6.alloc (.cells #[.int .i64 F1, .int .i64 F2] 26)) w5.heap.size (.slice va vn vc) (if F1 = 0 then imgL xs else [])) := ho.later gA
      have hws : w.heap.size ≤ w5.heap.size := H5.out.2.size
      obtain ⟨Z, hZ⟩ : ∃ Z, w6.heap.size = Z := ⟨_, rfl⟩
      rw [hZ] at k7
      clear ho hB gA gB H5 HM
      go_upto_region 5 with fail
      generalize (w6.alloc (.cells #[.int .i64 F1, .int .i64 F2] 26)) = W7 at H7 k7 HO7 ⊢
      obtain ⟨p0, p1, q0, q1⟩ := box2 k7
      clear hZ
      by_cases hz : F1 = 0
      · have hO := HO7.out
        rw [if_pos hz] at hO
        obtain ⟨g, n9, c9, e, hI⟩ := img_of (p := p) (d := 1100000) hws hO (hF1.trans hz) (by omega) H7.out.1 H7.out.2
        have HI : Hid (ImgR w B R p 1100000 (.returned (.slice va vn vc)) W7) := by rw [e]; exact hI
        have iz : (F1 == 0) = true := by simp [hz]
        clear hO hI e HO7 H7 k7 hF1 hF2
        subst hz
        go_wp2
        go_ret
        exact HI.out
      · have iz : (F1 == 0) = false := by simp [hz]
        have hq6 : q5 ≤ p + 250100 * (i + 1) := le_step hq5 hq
        have hi6 : i + 1 ≤ 4 := by omega
        have HQ6 : Hid (q5 ≤ p + 250100 * (i + 1)) := hq6
        clear HO7 k7 hF1 hF2 hq6
        go_wp2
        go_roundw
        case rel => exact ⟨i + 1, q5, by go_num, hi6, HQ6.out, H7⟩
        case measure => simp [intOf]; omega
    · have hlt : ¬ (i : Int) < 4 := by omega
      go_wp2_with fail
      refine (HMk0.out wr).mono ?_
      rintro e w6 ⟨v, rfl, ho, hB⟩
      have e0 : pfT [] = (0, 0) := rfl
      rw [e0] at ho ⊢
      rw [if_pos rfl] at ho
      simp only []
      have H6 : Hid (Reader B w6 R q ∧ w.grownBy w6 (some R)) := ⟨HR.out.1.later hB, gb_below' HR.out.2 hB⟩
      obtain ⟨g, n9, c9, e, hI⟩ := img_of (p := p) (d := 1100000) (HR.out.2.size) ho (by rw [e0]) (by omega) H6.out.1 H6.out.2
      subst e
      have gA : Below w6.heap.size w6 (w6.alloc (.cells #[.int .i64 0, .int .i64 0] 26)) := (Below.refl _ _).alloc (Nat.le_refl _) _
      have HI : Hid (ImgR w B R p 1100000 (.returned (.slice (some ⟨g, 0, none⟩) n9 c9)) (w6.alloc (.cells #[.int .i64 0, .int .i64 0] 26))) := by
        obtain ⟨g', n', c', q', l', e1, e2, e3, e4, e5, e6, e7, e8⟩ := hI
        exact ⟨g', n', c', q', l', e1, e2.later gA, e3, e4, e5, e6, e7.later gA, gb_below' e8 gA⟩
      clear ho hB H6 hI gA HR
      go_wp2
      go_ret
      exact HI.out
end Go.Proofs.YtcihplachlokiaaGreatDoor.Rr
/- Bytes are drawn: an image, one in two spoilt. -/
namespace Go.Proofs.YtcihplachlokiaaGreatDoor.Rr
open Go.RowKit Go.Shelf
set_option linter.unusedVariables false

/-- What the draw leaves. -/
def DrR (w : World) (e : Ending) (w' : World) : Prop :=
  ∃ (g n c : Nat) (l : List Nat), e = .returned (.slice (some ⟨g, 0, none⟩) n c) ∧ n ≤ 20101 ∧ OwL w' w.heap.size (.slice (some ⟨g, 0, none⟩) n c) l ∧ (∀ b ∈ l, b < 256) ∧ Below w.heap.size w w'
set_option maxRecDepth 10000 in
set_option maxHeartbeats 4000000 in
theorem drawpr_r {a : Option Addr} {len cap blk off : Nat} {z : Nat → Int} (w : World) (h : Code0 w a len cap blk off z) :
    Calls Tryz.prog 9 #[.slice a len cap] w fun e w' => DrR w e w' := by
  go_enter Tryz.func9, Tryz.ntmps9
  go_wp2_with fail
  refine h.open.mono ?_
  rintro e w1 ⟨rfl, h1, g1⟩
  have hB1 := h1.2.1
  have HR : Hid (Reader (w.heap.size + 1) w1 w.heap.size 0) := h1
  have HG : Hid (Below w.heap.size w w1) := g1
  clear h h1 g1
  go_wp2_with fail
  refine (image_r w1 _ _ 0 HR.out (by omega)).mono ?_
  rintro e w2 ⟨g, n, c, q, l, rfl, ho, h8, hn, hl, hq, h2, g2⟩
  have hs2 := g2.size
  have HR2 : Hid (Reader (w.heap.size + 1) w2 w.heap.size q) := h2
  have HG2 : Hid (w1.grownBy w2 (some w.heap.size)) := g2
  have HO2 : Hid (OwL w2 w1.heap.size (.slice (some ⟨g, 0, none⟩) n c) l ∧ (∀ b ∈ l, b < 256)) := ⟨ho, hl⟩
  clear h2 g2 ho hl HR
  go_wp2_with fail
  refine (pick_r _ _ q 2 w2 HR2.out (by omega) (by omega) (by omega)).mono ?_
  rintro e w3 ⟨t, ht, rfl, h3, g3⟩
  have hs3 := g3.size
  have HO3 : Hid (OwL w3 w1.heap.size (.slice (some ⟨g, 0, none⟩) n c) l ∧ (∀ b ∈ l, b < 256)) := ⟨World.ownsRow.kept HO2.out.1 g3 (.inr (by have := (HO2.out.1.own g rfl).1; simp [Value.ownBlock]; omega)), HO2.out.2⟩
  have HR3 : Hid (Reader (w.heap.size + 1) w3 w.heap.size (q + 1)) := h3
  have HB3 : Hid (Below w.heap.size w w3) := HG.out.grown (gb_pick HG2.out g3) (by omega) (fun j hj => by cases hj; omega)
  clear h3 g3 HO2 HR2 HG2 HG
  by_cases t0 : t = 0
  · subst t0
    go_wp2_with fail
    refine (bspoil_r w3 _ _ (q + 1) _ g n c l HR3.out (by omega) HO3.out.1 h8 (by omega) HO3.out.2).mono ?_
    rintro e w4 ⟨g4, n4, c4, q4, l4, rfl, hn4, hq4, hS⟩
    have HF : Hid (DrR w (.returned (.slice (some ⟨g4, 0, none⟩) n4 c4)) w4) := ⟨g4, n4, c4, l4, rfl, hn4, owl_base hS.2.2.2.1 (by omega), hS.2.2.2.2, HB3.out.grown hS.2.2.1 (by omega) (fun j hj => by cases hj; omega)⟩
    clear hS
    go_wp2
    go_ret
    exact HF.out
  · have i1 : ((t : Int) == 0) = false := by simp; omega
    have n1 : ¬ (t : Int) = 0 := by omega
    have HF : Hid (DrR w (.returned (.slice (some ⟨g, 0, none⟩) n c)) w3) := ⟨g, n, c, l, rfl, by omega, owl_base HO3.out.1 (by omega), HO3.out.2, HB3.out⟩
    clear HO3
    go_wp2
    go_ret
    exact HF.out
end Go.Proofs.YtcihplachlokiaaGreatDoor.Rr
