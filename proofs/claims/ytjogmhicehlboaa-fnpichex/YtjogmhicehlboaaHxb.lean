/- Bytes and their texts are drawn. -/
import Derived.Test.YtjogmhicehlboaaOnfM
import Derived.Test.YtjogmhicehlboaaHxmM
namespace Go.Proofs.Ytjogmhicehlboaa.Rr
open Go.RowKit Go.Shelf
set_option linter.unusedVariables false

theorem drr_db {w w' : World} {g n c : Nat} {l : List Nat} (hn : n ≤ 20108) (hnl : l.length = n) (ho : OwL w' w.heap.size (.slice (some ⟨g, 0, none⟩) n c) l) (hl : ∀ b ∈ l, b < 256) (b : Below w.heap.size w w') : DbR w (.returned (.slice (some ⟨g, 0, none⟩) n c)) w' := by
  subst hnl
  exact ⟨_, _, c, atL l, rfl, by omega, atL_lt hl, owL_bt ho, b⟩
set_option maxRecDepth 10000 in
set_option maxHeartbeats 4000000 in
theorem drawhex_r {a : Option Addr} {len cap blk off : Nat} {z : Nat → Int} (w : World) (h : Code0 w a len cap blk off z) :
    Calls Try.prog 11 #[.slice a len cap] w fun e w' => DbR w e w' := by
  go_enter Try.func11, Try.ntmps11
  go_wp2_with fail
  refine h.open.mono ?_
  rintro e w1 ⟨rfl, h1, g1⟩
  have hB1 := h1.2.1
  have HR : Hid (Reader (w.heap.size + 1) w1 w.heap.size 0) := h1
  have HG : Hid (Below w.heap.size w w1) := g1
  clear h h1 g1
  go_wp2_with fail
  refine (image_r w1 _ _ 0 HR.out (by omega)).mono ?_
  rintro e w2 ⟨g, n, c, q, l, rfl, ho, h8, hn, hl, hq, h2, g2⟩
  have hs2 := g2.size
  have HR2 : Hid (Reader (w.heap.size + 1) w2 w.heap.size q) := h2
  have HG2 : Hid (w1.grownBy w2 (some w.heap.size)) := g2
  have HO2 : Hid (OwL w2 w1.heap.size (.slice (some ⟨g, 0, none⟩) n c) l ∧ (∀ b ∈ l, b < 256)) := ⟨ho, hl⟩
  have hnl : Hid (l.length = n) := (owl_len ho).symm
  clear h2 g2 ho hl HR
  go_wp2_with fail
  refine (pick_r _ _ q 20 w2 HR2.out (by omega) (by omega) (by omega)).mono ?_
  rintro e w3 ⟨t, ht, rfl, h3, g3⟩
  have hs3 := g3.size
  have HO3 : Hid (OwL w3 w1.heap.size (.slice (some ⟨g, 0, none⟩) n c) l ∧ (∀ b ∈ l, b < 256)) := ⟨World.ownsRow.kept HO2.out.1 g3 (.inr (by have := (HO2.out.1.own g rfl).1; simp [Value.ownBlock]; omega)), HO2.out.2⟩
  have HR3 : Hid (Reader (w.heap.size + 1) w3 w.heap.size (q + 1)) := h3
  have HB3 : Hid (Below w.heap.size w w3) := HG.out.grown (gb_pick HG2.out g3) (by omega) (fun j hj => by cases hj; omega)
  clear h3 g3 HO2 HR2 HG2 HG
  by_cases t0 : t = 0
  · subst t0
    go_wp2_with fail
    refine (pick_r _ _ (q + 1) 2 w3 HR3.out (by omega) (by omega) (by omega)).mono ?_
    rintro e w4 ⟨t2, ht2, rfl, h4, g4⟩
    have HB4 : Hid (Below w.heap.size w w4) := HB3.out.grown g4 (by have := HB3.out.size; omega) (fun j hj => by cases hj; omega)
    obtain ⟨N, hN, HN⟩ : ∃ N : Nat, (20008 : Int) + (t2 : Int) = (N : Int) ∧ Hid (N ≤ 20009) := ⟨20008 + t2, by omega, (by omega : 20008 + t2 ≤ 20009)⟩
    have i0 : (N : Int) ≤ 20009 := by have := HN.out; omega
    have hmk := run_make_row' (P := Try.prog) 22 5 (.int .u8 0) 1 Try.underlying22 infoU8 rfl .i64 .i64 N (by omega) (by omega)
    have HF : Hid (DbR w (.returned (.slice (some ⟨w4.heap.size, 0, none⟩) N N)) (w4.alloc (.cells (madeCells #[.int .u8 0] N) 5))) := ⟨_, N, N, fun _ => 0, rfl, by omega, fun _ => (by show 0 < 256; decide), (By.made w4 N).bt, HB4.out.alloc HB4.out.size _⟩
    clear h4 g4 HO3 HR3 HB3 HB4
    go_wp2
    go_ret
    exact HF.out
  · have i1 : ((t : Int) == 0) = false := by simp; omega
    have n1 : ¬ (t : Int) = 0 := by omega
    have HF : Hid (DbR w (.returned (.slice (some ⟨g, 0, none⟩) n c)) w3) := drr_db (by omega) hnl.out (owl_base HO3.out.1 (by omega)) HO3.out.2 HB3.out
    clear HO3 hnl
    go_wp2
    go_ret
    exact HF.out
set_option maxRecDepth 10000 in
set_option maxHeartbeats 4000000 in
theorem drawbytes_r {a : Option Addr} {len cap blk off : Nat} {z : Nat → Int} (w : World) (h : Code0 w a len cap blk off z) :
    Calls Try.prog 15 #[.slice a len cap] w fun e w' => TxR w e w' := by
  go_enter Try.func15, Try.ntmps15
  go_wp2_with fail
  refine h.open.mono ?_
  rintro e w1 ⟨rfl, h1, g1⟩
  have hB1 := h1.2.1
  have HR : Hid (Reader (w.heap.size + 1) w1 w.heap.size 0) := h1
  have HG : Hid (Below w.heap.size w w1) := g1
  clear h h1 g1
  go_wp2_with fail
  refine (image_r w1 _ _ 0 HR.out (by omega)).mono ?_
  rintro e w2 ⟨g, n, c, q, l, rfl, ho, h8, hn, hl, hq, h2, g2⟩
  have hs2 := g2.size
  have HR2 : Hid (Reader (w.heap.size + 1) w2 w.heap.size q) := h2
  have HG2 : Hid (Below w.heap.size w w2) := HG.out.grown g2 (by omega) (fun j hj => by cases hj; omega)
  have hnl := owl_len ho
  have HX : Hid (Calls Try.prog 14 #[.slice (some ⟨g, 0, none⟩) n c] w2 fun e w' => e = .returned (.string (hexT (atL l) n)) ∧ Below w2.heap.size w2 w') := hexT_s _ n c (atL l) (atL_lt hl) w2 (by omega) (by have := ho; rw [hnl] at this ⊢; exact owL_bt this)
  obtain ⟨S, HS⟩ : ∃ S, Hid (S = hexT (atL l) n) := ⟨_, rfl⟩
  rw [← HS.out] at HX
  have hS : S.size ≤ 40016 := by rw [HS.out]; exact hexT_size _ _
  clear h2 g2 ho hl HR HG hnl HS
  go_wp2_with fail
  refine HX.out.mono ?_
  rintro e w3 ⟨rfl, g3⟩
  have hs3 := g3.size
  have HR3 : Hid (Reader (w.heap.size + 1) w3 w.heap.size q) := HR2.out.later g3
  have HB3 : Hid (Below w.heap.size w w3) := HG2.out.trans (g3.mono HG2.out.size)
  clear g3 HX HR2 HG2
  go_wp2_with fail
  refine (pick_r _ _ q 8 w3 HR3.out (by omega) (by omega) (by omega)).mono ?_
  rintro e w4 ⟨t, ht, rfl, h4, g4⟩
  have hB4 := h4.2.1
  have HR4 : Hid (Reader (w.heap.size + 1) w4 w.heap.size (q + 1)) := h4
  have HB4 : Hid (Below w.heap.size w w4) := HB3.out.grown g4 (by have := HB3.out.size; omega) (fun j hj => by cases hj; omega)
  clear h4 g4 HR3 HB3
  by_cases t0 : t = 0
  · subst t0
    go_wp2_with fail
    refine (of_r (w.heap.size + 1) w.heap.size (q + 1) w4.heap.size textsP 7 _ (HR4.out.alloc _) (by decide) (by decide) (by omega) (by omega) (by exact rowP w4 textsP 9)).mono ?_
    rintro e w5 ⟨v, hv, rfl, h5, g5⟩
    have hv' := smallP v hv
    have HF : Hid (Below w.heap.size w w5) := (HB4.out.alloc HB4.out.size _).grown g5 (by have := HB4.out.size; simp; omega) (fun j hj => by cases hj; omega)
    clear h5 g5 hv HR4 HB4
    go_wp2
    go_ret
    exact ⟨_, rfl, by rw [ByteArray.size_append]; omega, HF.out⟩
  by_cases t1 : t = 1
  · subst t1
    go_wp2_with fail
    refine (pick_r _ _ (q + 1) 2 w4 HR4.out (by omega) (by omega) (by omega)).mono ?_
    rintro e w5 ⟨t2, ht2, rfl, h5, g5⟩
    have HB5 : Hid (Below w.heap.size w w5) := HB4.out.grown g5 (by have := HB4.out.size; omega) (fun j hj => by cases hj; omega)
    obtain ⟨N, hN, HN⟩ : ∃ N : Nat, (20008 : Int) + (t2 : Int) = (N : Int) ∧ Hid (N ≤ 20009) := ⟨20008 + t2, by omega, (by omega : 20008 + t2 ≤ 20009)⟩
    have i0 : (N : Int) ≤ 20009 := by have := HN.out; omega
    clear h5 g5 HR4 HB4
    go_wp2_with fail
    refine (many_s ⟨#[48, 48]⟩ N w5 (by decide) (by decide) (by omega)).mono ?_
    rintro e w6 ⟨v, rfl, hv, g6⟩
    have hv' : v.size ≤ 40018 := by rw [hv]; show N * 2 ≤ 40018; omega
    have HF : Hid (Below w.heap.size w w6) := HB5.out.trans (g6.mono HB5.out.size)
    clear hv g6 HB5
    go_wp2
    go_ret
    exact ⟨v, rfl, by omega, HF.out⟩
  · have f0 : ((t : Int) == 0) = false := by rw [beq_eq_false_iff_ne]; omega
    have f1 : ((t : Int) == 1) = false := by rw [beq_eq_false_iff_ne]; omega
    clear HR4
    go_wp2
    go_ret
    exact ⟨S, rfl, by omega, HB4.out⟩
end Go.Proofs.Ytjogmhicehlboaa.Rr
