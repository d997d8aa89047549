/- A list is drawn to be made: one in four spoilt. -/
import Derived.Test.YtcihplachlokiaaGreatDoorOnfM
import Derived.Test.YtcihplachlokiaaGreatDoorPtcM
namespace Go.Proofs.YtcihplachlokiaaGreatDoor.Rr
open Go.RowKit Go.Shelf
set_option linter.unusedVariables false

theorem drr_pr {w w' : World} {e : Ending} (h : DrR w e w') : PrR w e w' := by
  obtain ⟨g, n, c, l, rfl, hn, ho, hl, b⟩ := h
  have hnl := owl_len ho
  refine ⟨_, n, c, l, rfl, by omega, owL_cap ho, hnl, ?_, hl, b⟩
  rw [hnl] at ho ⊢
  exact owL_bt ho
set_option maxRecDepth 10000 in
set_option maxHeartbeats 4000000 in
theorem drawpm_r {a : Option Addr} {len cap blk off : Nat} {z : Nat → Int} (w : World) (h : Code0 w a len cap blk off z) :
    Calls Tryz.prog 4 #[.slice a len cap] w fun e w' => PmR w e w' := by
  go_enter Tryz.func4, Tryz.ntmps4
  go_wp2_with fail
  refine h.open.mono ?_
  rintro e w1 ⟨rfl, h1, g1⟩
  have hB1 := h1.2.1
  have HR : Hid (Reader (w.heap.size + 1) w1 w.heap.size 0) := h1
  have HG : Hid (Below w.heap.size w w1) := g1
  clear h h1 g1
  go_wp2_with fail
  refine (dlist_r w1 (w.heap.size + 1) w.heap.size 0 HR.out (by omega)).mono ?_
  rintro e w2 ⟨b, n, cp, q, xs, rfl, hn, hn2, hq, hx, h2, g2⟩
  have hs2 := g2.size
  have HX2 : Hid (RD 0 w2 w1.heap.size w.heap.size (.slice b n cp) xs) := hx
  have HR2 : Hid (Reader (w.heap.size + 1) w2 w.heap.size q) := h2
  have HG2 : Hid (Below w.heap.size w w2) := HG.out.grown g2 (by omega) (fun j hj => by cases hj; omega)
  clear h2 g2 hx HR HG
  go_wp2_with fail
  refine (pick_r _ _ q 4 w2 HR2.out (by omega) (by omega) (by omega)).mono ?_
  rintro e w3 ⟨t, ht, rfl, h3, g3⟩
  have hs3 := g3.size
  have HX3 : Hid (RD 0 w3 w1.heap.size w.heap.size (.slice b n cp) xs) := HX2.out.move g3 (fun j hj => by cases hj; exact .inr (.inl rfl))
  have HR3 : Hid (Reader (w.heap.size + 1) w3 w.heap.size (q + 1)) := h3
  have HG3 : Hid (Below w.heap.size w w3) := HG2.out.grown g3 (by have := HG2.out.size; omega) (fun j hj => by cases hj; omega)
  clear h3 g3 HX2 HR2 HG2
  by_cases t0 : t = 0
  · subst t0
    have HS : Hid (Calls Tryz.prog 14 #[.pointer (some ⟨w.heap.size, 0, none⟩), .slice b n cp] w3 fun e w' => ListH 1 w1.heap.size w3 (w.heap.size + 1) w.heap.size (q + 1) (4000 + 1) 1500 e w') := lspoil_r (LB := 1) (by omega) 4000 (by omega) (by omega) w3 (w.heap.size + 1) w.heap.size (q + 1) w1.heap.size HR3.out (by omega) (by omega) b n cp xs hn hn2 HX3.out.up (fun x hx => (HX3.out.fin x hx).2.2.1) (by omega)
    go_wp2_with fail
    refine HS.out.mono ?_
    rintro e w5 ⟨b5, n5, cp5, q5, xs5, rfl, hn5, hn52, hq5, hx5, h5, g5⟩
    have HF : Hid (PmR w (.returned (.slice b5 n5 cp5)) w5) := ⟨b5, n5, cp5, xs5, rfl, hn5, by omega, RD.is (by omega) hx5 (by have := hn5.out; omega), HG3.out.grown g5 (by have := HG3.out.size; omega) (fun j hj => by cases hj; omega)⟩
    clear hn5 hx5 h5 g5 HS
    go_wp2
    go_ret
    exact HF.out
  · have i1 : ((t : Int) == 0) = false := by simp; omega
    have n1 : ¬ (t : Int) = 0 := by omega
    have HF : Hid (PmR w (.returned (.slice b n cp)) w3) := ⟨b, n, cp, xs, rfl, hn, by omega, RD.is (by omega) HX3.out (by have := hn.out; omega), HG3.out⟩
    clear hn HX3
    go_wp2
    go_ret
    exact HF.out
end Go.Proofs.YtcihplachlokiaaGreatDoor.Rr
