/- Operands that are asked (l5Asks); a memory and an operand that are drawn (DrawMemBit); a memory that is drawn (DrawActEnd). -/
import Derived.Test.YtjnddfpieogpiaaDoorOa
import Derived.Test.YtjnddfpieogpiaaDoorSc6
import Derived.Test.YtjnddfpieogpiaaDoorMr
import Derived.Deep.Cut
namespace Go.Proofs.YtjnddfpieogpiaaDoor
open Go.RowKit
set_option linter.unusedVariables false


/-- An operand that is asked, drawn. -/
def IsAsk (e : Ending) : Prop := ∃ k n m : Int, -3000000000 ≤ n ∧ n ≤ 3000000000 ∧ e = .returned (.agg #[.int .i64 k, .int .i64 n, .int .i64 m])

set_option maxHeartbeats 2000000 in
theorem asks_r (B R p : Nat) (w : World) (h : Reader B w R p) (hp : p < 700000) :
    Calls Tryd.prog 14 #[.pointer (some ⟨R, 0, none⟩)] w fun e w' => IsAsk e ∧ (∃ q, q ≤ p + 20 ∧ Reader B w' R q) ∧ w.grownBy w' (some R) := by
  have hRB := h.1
  have hBw := h.2.1
  go_enter Tryd.func14, Tryd.ntmps14
  go_wp2_with fail
  refine (any_r B R p _ (h.alloc _) (by omega)).mono ?_
  rintro e w1 ⟨⟨k, n, m, n0, n1, rfl⟩, ⟨q1, hq1, h1⟩, g1⟩
  have l1 : w.heap.size + 1 ≤ w1.heap.size := by have := g1.size; simpa using this
  have G1 : w.grownBy w1 (some R) := gb_pick (gb_alloc (gb_refl _ _) _) g1
  have s1 : A3 w1 w.heap.size 0 0 0 := (A3.fresh w 0 0 0 39).grown g1 (by simp; omega)
  clear g1
  go_wp2_with fail
  refine (pick_r B R q1 8 _ (h1.alloc _) (by omega) (by omega) (by omega)).mono ?_
  rintro e w2 ⟨r2, hr2, rfl, h2, g2⟩
  have G2 : w.grownBy w2 (some R) := gb_pick (gb_alloc G1 _) g2
  have s2 : A3 w2 w1.heap.size k n m := (A3.fresh w1 k n m 39).grown g2 (by simp; omega)
  have s1' : A3 w2 w.heap.size 0 0 0 := (s1.alloc _).grown g2 (by simp; omega)
  have l2 : w1.heap.size + 1 ≤ w2.heap.size := by have := g2.size; simpa using this
  clear g2 s1 G1 h1
  by_cases hr : r2 = 0
  · have e0 : ((r2 : Int) == 0) = true := by rw [hr]; rfl
    clear hr
    obtain ⟨c0, c1, c2, f0, f1, f2⟩ := id s2
    go_upto_region 3 with fail
    have s : A3 w2.drew w1.heap.size k n m := s2.grown (gb_drew (gb_refl w2 none)) (by simp)
    have t : A3 w2.drew w.heap.size 0 0 0 := s1'.grown (gb_drew (gb_refl w2 none)) (by simp)
    have h := h2.drew
    have G := gb_drew G2
    clear c0 c1 c2 f0 f1 f2 s2 s1' h2 G2
    refine region_cut (R := fun a' W => ∃ v : Int, -64 ≤ v ∧ v ≤ 128 ∧ A3 W w1.heap.size k (n + v) m ∧ A3 W w.heap.size 0 0 0 ∧ Reader B W R (q1 + 1 + 1) ∧ w.grownBy W (some R) ∧ a' = ⟨#[.pointer (some ⟨R, 0, none⟩), undef, .pointer (some ⟨w.heap.size, 0, none⟩), .pointer (some ⟨w1.heap.size, 0, none⟩), .pointer (some ⟨R, 0, none⟩), .agg #[.int .i64 k, .int .i64 n, .int .i64 m], .pointer (some ⟨R, 0, none⟩), .int .i64 (r2 : Int), .bool true, .pointer (some ⟨w1.heap.size, 1, none⟩), .int .i64 n, .pointer (some ⟨R, 0, none⟩), .slice (some ⟨w2.heap.size, 0, none⟩) 5 5, .int .i64 v, .int .i64 (n + v), .pointer (some ⟨w1.heap.size, 1, none⟩), undef], []⟩) ?_ ?_
    · refine wp_region_held_drew (S := fun _ => True) (by kernel_rfl) trivial (fun _ => ?_)
      show wpAnyH _ _ _ _ _ 8 #[false, false, false, false, false, false, false, false] _ _
      refine tk_val' (i := 0) rfl (by kernel_rfl) (by kernel_rfl) (by kernel_rfl) (fun _ _ _ _ h => nomatch h.1) rfl (.pointer (some ⟨w1.heap.size, 1, none⟩)) (fun W _ => by go_simp) trivial #[true, false, false, false, false, false, false, false] rfl ⟨#[.pointer (some ⟨R, 0, none⟩), undef, .pointer (some ⟨w.heap.size, 0, none⟩), .pointer (some ⟨w1.heap.size, 0, none⟩), .pointer (some ⟨R, 0, none⟩), .agg #[.int .i64 k, .int .i64 n, .int .i64 m], .pointer (some ⟨R, 0, none⟩), .int .i64 (r2 : Int), .bool true, .pointer (some ⟨w1.heap.size, 1, none⟩), undef, undef, undef, undef, undef, undef, undef], []⟩ rfl ?_
      refine tk_val' (i := 2) rfl (by kernel_rfl) (by kernel_rfl) (by kernel_rfl) (fun _ _ _ _ h => nomatch h.1) rfl (.pointer (some ⟨R, 0, none⟩)) (fun W _ => by go_simp) trivial #[true, false, true, false, false, false, false, false] rfl ⟨#[.pointer (some ⟨R, 0, none⟩), undef, .pointer (some ⟨w.heap.size, 0, none⟩), .pointer (some ⟨w1.heap.size, 0, none⟩), .pointer (some ⟨R, 0, none⟩), .agg #[.int .i64 k, .int .i64 n, .int .i64 m], .pointer (some ⟨R, 0, none⟩), .int .i64 (r2 : Int), .bool true, .pointer (some ⟨w1.heap.size, 1, none⟩), undef, .pointer (some ⟨R, 0, none⟩), undef, undef, undef, undef, undef], []⟩ rfl ?_
      refine wpAnyH_all (rs := [1, 3]) (by kernel_rfl) (by simp) (fun i hi => ?_)
      rcases (by simpa using hi : i = 1 ∨ i = 3) with rfl | rfl
      · skip
        have c1 := s.c1
        refine up_val' rfl rfl (.int .i64 n) w2.drew (by go_simp) trivial #[true, true, true, false, false, false, false, false] rfl ⟨#[.pointer (some ⟨R, 0, none⟩), undef, .pointer (some ⟨w.heap.size, 0, none⟩), .pointer (some ⟨w1.heap.size, 0, none⟩), .pointer (some ⟨R, 0, none⟩), .agg #[.int .i64 k, .int .i64 n, .int .i64 m], .pointer (some ⟨R, 0, none⟩), .int .i64 (r2 : Int), .bool true, .pointer (some ⟨w1.heap.size, 1, none⟩), .int .i64 n, .pointer (some ⟨R, 0, none⟩), undef, undef, undef, undef, undef], []⟩ rfl ?_
        clear c1
        refine wpAnyH_all (rs := [3]) (by kernel_rfl) (by simp) (fun i hi => ?_)
        obtain rfl := List.mem_singleton.1 hi
        refine up_val' rfl rfl (.slice (some ⟨w2.heap.size, 0, none⟩) 5 5) (w2.drew.alloc (.cells (([-64, 16, 32, 64, 128] : List Int).map (Value.int .i64)).toArray 3)) (by go_simp) trivial #[true, true, true, true, false, false, false, false] rfl ⟨#[.pointer (some ⟨R, 0, none⟩), undef, .pointer (some ⟨w.heap.size, 0, none⟩), .pointer (some ⟨w1.heap.size, 0, none⟩), .pointer (some ⟨R, 0, none⟩), .agg #[.int .i64 k, .int .i64 n, .int .i64 m], .pointer (some ⟨R, 0, none⟩), .int .i64 (r2 : Int), .bool true, .pointer (some ⟨w1.heap.size, 1, none⟩), .int .i64 n, .pointer (some ⟨R, 0, none⟩), .slice (some ⟨w2.heap.size, 0, none⟩) 5 5, undef, undef, undef, undef], []⟩ rfl ?_
        have s : A3 (w2.drew.alloc (.cells (([-64, 16, 32, 64, 128] : List Int).map (Value.int .i64)).toArray 3)) w1.heap.size k n m := s.alloc _
        have t : A3 (w2.drew.alloc (.cells (([-64, 16, 32, 64, 128] : List Int).map (Value.int .i64)).toArray 3)) w.heap.size 0 0 0 := t.alloc _
        have h : Reader B (w2.drew.alloc (.cells (([-64, 16, 32, 64, 128] : List Int).map (Value.int .i64)).toArray 3)) R (q1 + 1) := h.alloc _
        have G : w.grownBy (w2.drew.alloc (.cells (([-64, 16, 32, 64, 128] : List Int).map (Value.int .i64)).toArray 3)) (some R) := gb_alloc G _
        have hx := cells_row w2.drew [-64, 16, 32, 64, 128] 3
        have hb : w2.drew.heap.size = w2.heap.size := rfl
        rw [hb] at hx
        generalize (w2.drew.alloc (.cells (([-64, 16, 32, 64, 128] : List Int).map (Value.int .i64)).toArray 3)) = wa at s t h G hx ⊢
        refine wpAnyH_all (rs := [4]) (by kernel_rfl) (by simp) (fun i hi => ?_)
        obtain rfl := List.mem_singleton.1 hi
        refine up_fcallV rfl rfl Tryd.func23 (by kernel_rfl) (by kernel_rfl) rfl [.pointer (some ⟨R, 0, none⟩), .slice (some ⟨w2.heap.size, 0, none⟩) 5 5] rfl #[true, true, true, true, true, false, false, false] rfl (fun v => ⟨#[.pointer (some ⟨R, 0, none⟩), undef, .pointer (some ⟨w.heap.size, 0, none⟩), .pointer (some ⟨w1.heap.size, 0, none⟩), .pointer (some ⟨R, 0, none⟩), .agg #[.int .i64 k, .int .i64 n, .int .i64 m], .pointer (some ⟨R, 0, none⟩), .int .i64 (r2 : Int), .bool true, .pointer (some ⟨w1.heap.size, 1, none⟩), .int .i64 n, .pointer (some ⟨R, 0, none⟩), .slice (some ⟨w2.heap.size, 0, none⟩) 5 5, v, undef, undef, undef], []⟩) (fun _ => rfl) (fun v W => ∃ x, v = .int .i64 x ∧ (-64 ≤ x ∧ x ≤ 128) ∧ Reader B W R (q1 + 1 + 1) ∧ wa.grownBy W (some R)) ((num_r B R _ w2.heap.size [-64, 16, 32, 64, 128] 5 _ h (by decide) (by decide) (by omega) (by omega) hx).mono fun e W hh => ?_) ?_
        · obtain ⟨x, hx, he, hr, hg⟩ := hh
          exact ⟨_, he, x, rfl, (by simp at hx; omega), hr, hg⟩
        rintro _ w3 ⟨x, rfl, ⟨x0, x1⟩, h3, g3⟩
        have s : A3 w3 w1.heap.size k n m := s.grown g3 (by simp; omega)
        have t : A3 w3 w.heap.size 0 0 0 := t.grown g3 (by simp; omega)
        have G : w.grownBy w3 (some R) := gb_pick G g3
        have h := h3
        refine ⟨trivial, ?_⟩
        refine tk_val' (i := 5) rfl (by kernel_rfl) (by kernel_rfl) (by kernel_rfl) (fun _ _ _ _ h => nomatch h.1) rfl (.int .i64 (n + x)) (fun W _ => by go_simp; rw [IntKind.wrap_i64]; omega) trivial #[true, true, true, true, true, true, false, false] rfl ⟨#[.pointer (some ⟨R, 0, none⟩), undef, .pointer (some ⟨w.heap.size, 0, none⟩), .pointer (some ⟨w1.heap.size, 0, none⟩), .pointer (some ⟨R, 0, none⟩), .agg #[.int .i64 k, .int .i64 n, .int .i64 m], .pointer (some ⟨R, 0, none⟩), .int .i64 (r2 : Int), .bool true, .pointer (some ⟨w1.heap.size, 1, none⟩), .int .i64 n, .pointer (some ⟨R, 0, none⟩), .slice (some ⟨w2.heap.size, 0, none⟩) 5 5, .int .i64 x, .int .i64 (n + x), undef, undef], []⟩ rfl ?_
        refine tk_val' (i := 6) rfl (by kernel_rfl) (by kernel_rfl) (by kernel_rfl) (fun _ _ _ _ h => nomatch h.1) rfl (.pointer (some ⟨w1.heap.size, 1, none⟩)) (fun W _ => by go_simp) trivial #[true, true, true, true, true, true, true, false] rfl ⟨#[.pointer (some ⟨R, 0, none⟩), undef, .pointer (some ⟨w.heap.size, 0, none⟩), .pointer (some ⟨w1.heap.size, 0, none⟩), .pointer (some ⟨R, 0, none⟩), .agg #[.int .i64 k, .int .i64 n, .int .i64 m], .pointer (some ⟨R, 0, none⟩), .int .i64 (r2 : Int), .bool true, .pointer (some ⟨w1.heap.size, 1, none⟩), .int .i64 n, .pointer (some ⟨R, 0, none⟩), .slice (some ⟨w2.heap.size, 0, none⟩) 5 5, .int .i64 x, .int .i64 (n + x), .pointer (some ⟨w1.heap.size, 1, none⟩), undef], []⟩ rfl ?_
        refine wpAnyH_all (rs := [7]) (by kernel_rfl) (by simp) (fun i hi => ?_)
        obtain rfl := List.mem_singleton.1 hi
        have c3 := s.c1
        have f3 := s.f1
        exact up_store' rfl rfl 3 _ _ rfl _ _ rfl _ rfl (w3.setCell ⟨w1.heap.size, 1, none⟩ (.int .i64 (n + x))) (by simp [go_sem, c3, f3]) trivial #[true, true, true, true, true, true, true, true] rfl ⟨#[.pointer (some ⟨R, 0, none⟩), undef, .pointer (some ⟨w.heap.size, 0, none⟩), .pointer (some ⟨w1.heap.size, 0, none⟩), .pointer (some ⟨R, 0, none⟩), .agg #[.int .i64 k, .int .i64 n, .int .i64 m], .pointer (some ⟨R, 0, none⟩), .int .i64 (r2 : Int), .bool true, .pointer (some ⟨w1.heap.size, 1, none⟩), .int .i64 n, .pointer (some ⟨R, 0, none⟩), .slice (some ⟨w2.heap.size, 0, none⟩) 5 5, .int .i64 x, .int .i64 (n + x), .pointer (some ⟨w1.heap.size, 1, none⟩), undef], []⟩ rfl (wpAnyH_done (by kernel_rfl) ⟨rfl, x, x0, x1, s.put1 (n + x), t.other w1.heap.size 1 (by omega) _, h.set w1.heap.size 1 _ (by omega), gb_put G (by omega), rfl⟩ _)
      · skip
        refine up_val' rfl rfl (.slice (some ⟨w2.heap.size, 0, none⟩) 5 5) (w2.drew.alloc (.cells (([-64, 16, 32, 64, 128] : List Int).map (Value.int .i64)).toArray 3)) (by go_simp) trivial #[true, false, true, true, false, false, false, false] rfl ⟨#[.pointer (some ⟨R, 0, none⟩), undef, .pointer (some ⟨w.heap.size, 0, none⟩), .pointer (some ⟨w1.heap.size, 0, none⟩), .pointer (some ⟨R, 0, none⟩), .agg #[.int .i64 k, .int .i64 n, .int .i64 m], .pointer (some ⟨R, 0, none⟩), .int .i64 (r2 : Int), .bool true, .pointer (some ⟨w1.heap.size, 1, none⟩), undef, .pointer (some ⟨R, 0, none⟩), .slice (some ⟨w2.heap.size, 0, none⟩) 5 5, undef, undef, undef, undef], []⟩ rfl ?_
        have s : A3 (w2.drew.alloc (.cells (([-64, 16, 32, 64, 128] : List Int).map (Value.int .i64)).toArray 3)) w1.heap.size k n m := s.alloc _
        have t : A3 (w2.drew.alloc (.cells (([-64, 16, 32, 64, 128] : List Int).map (Value.int .i64)).toArray 3)) w.heap.size 0 0 0 := t.alloc _
        have h : Reader B (w2.drew.alloc (.cells (([-64, 16, 32, 64, 128] : List Int).map (Value.int .i64)).toArray 3)) R (q1 + 1) := h.alloc _
        have G : w.grownBy (w2.drew.alloc (.cells (([-64, 16, 32, 64, 128] : List Int).map (Value.int .i64)).toArray 3)) (some R) := gb_alloc G _
        have hx := cells_row w2.drew [-64, 16, 32, 64, 128] 3
        have hb : w2.drew.heap.size = w2.heap.size := rfl
        rw [hb] at hx
        generalize (w2.drew.alloc (.cells (([-64, 16, 32, 64, 128] : List Int).map (Value.int .i64)).toArray 3)) = wa at s t h G hx ⊢
        refine wpAnyH_all (rs := [1, 4]) (by kernel_rfl) (by simp) (fun i hi => ?_)
        rcases (by simpa using hi : i = 1 ∨ i = 4) with rfl | rfl
        · skip
          have c1 := s.c1
          refine up_val' rfl rfl (.int .i64 n) wa (by go_simp) trivial #[true, true, true, true, false, false, false, false] rfl ⟨#[.pointer (some ⟨R, 0, none⟩), undef, .pointer (some ⟨w.heap.size, 0, none⟩), .pointer (some ⟨w1.heap.size, 0, none⟩), .pointer (some ⟨R, 0, none⟩), .agg #[.int .i64 k, .int .i64 n, .int .i64 m], .pointer (some ⟨R, 0, none⟩), .int .i64 (r2 : Int), .bool true, .pointer (some ⟨w1.heap.size, 1, none⟩), .int .i64 n, .pointer (some ⟨R, 0, none⟩), .slice (some ⟨w2.heap.size, 0, none⟩) 5 5, undef, undef, undef, undef], []⟩ rfl ?_
          clear c1
          refine wpAnyH_all (rs := [4]) (by kernel_rfl) (by simp) (fun i hi => ?_)
          obtain rfl := List.mem_singleton.1 hi
          refine up_fcallV rfl rfl Tryd.func23 (by kernel_rfl) (by kernel_rfl) rfl [.pointer (some ⟨R, 0, none⟩), .slice (some ⟨w2.heap.size, 0, none⟩) 5 5] rfl #[true, true, true, true, true, false, false, false] rfl (fun v => ⟨#[.pointer (some ⟨R, 0, none⟩), undef, .pointer (some ⟨w.heap.size, 0, none⟩), .pointer (some ⟨w1.heap.size, 0, none⟩), .pointer (some ⟨R, 0, none⟩), .agg #[.int .i64 k, .int .i64 n, .int .i64 m], .pointer (some ⟨R, 0, none⟩), .int .i64 (r2 : Int), .bool true, .pointer (some ⟨w1.heap.size, 1, none⟩), .int .i64 n, .pointer (some ⟨R, 0, none⟩), .slice (some ⟨w2.heap.size, 0, none⟩) 5 5, v, undef, undef, undef], []⟩) (fun _ => rfl) (fun v W => ∃ x, v = .int .i64 x ∧ (-64 ≤ x ∧ x ≤ 128) ∧ Reader B W R (q1 + 1 + 1) ∧ wa.grownBy W (some R)) ((num_r B R _ w2.heap.size [-64, 16, 32, 64, 128] 5 _ h (by decide) (by decide) (by omega) (by omega) hx).mono fun e W hh => ?_) ?_
          · obtain ⟨x, hx, he, hr, hg⟩ := hh
            exact ⟨_, he, x, rfl, (by simp at hx; omega), hr, hg⟩
          rintro _ w3 ⟨x, rfl, ⟨x0, x1⟩, h3, g3⟩
          have s : A3 w3 w1.heap.size k n m := s.grown g3 (by simp; omega)
          have t : A3 w3 w.heap.size 0 0 0 := t.grown g3 (by simp; omega)
          have G : w.grownBy w3 (some R) := gb_pick G g3
          have h := h3
          refine ⟨trivial, ?_⟩
          refine tk_val' (i := 5) rfl (by kernel_rfl) (by kernel_rfl) (by kernel_rfl) (fun _ _ _ _ h => nomatch h.1) rfl (.int .i64 (n + x)) (fun W _ => by go_simp; rw [IntKind.wrap_i64]; omega) trivial #[true, true, true, true, true, true, false, false] rfl ⟨#[.pointer (some ⟨R, 0, none⟩), undef, .pointer (some ⟨w.heap.size, 0, none⟩), .pointer (some ⟨w1.heap.size, 0, none⟩), .pointer (some ⟨R, 0, none⟩), .agg #[.int .i64 k, .int .i64 n, .int .i64 m], .pointer (some ⟨R, 0, none⟩), .int .i64 (r2 : Int), .bool true, .pointer (some ⟨w1.heap.size, 1, none⟩), .int .i64 n, .pointer (some ⟨R, 0, none⟩), .slice (some ⟨w2.heap.size, 0, none⟩) 5 5, .int .i64 x, .int .i64 (n + x), undef, undef], []⟩ rfl ?_
          refine tk_val' (i := 6) rfl (by kernel_rfl) (by kernel_rfl) (by kernel_rfl) (fun _ _ _ _ h => nomatch h.1) rfl (.pointer (some ⟨w1.heap.size, 1, none⟩)) (fun W _ => by go_simp) trivial #[true, true, true, true, true, true, true, false] rfl ⟨#[.pointer (some ⟨R, 0, none⟩), undef, .pointer (some ⟨w.heap.size, 0, none⟩), .pointer (some ⟨w1.heap.size, 0, none⟩), .pointer (some ⟨R, 0, none⟩), .agg #[.int .i64 k, .int .i64 n, .int .i64 m], .pointer (some ⟨R, 0, none⟩), .int .i64 (r2 : Int), .bool true, .pointer (some ⟨w1.heap.size, 1, none⟩), .int .i64 n, .pointer (some ⟨R, 0, none⟩), .slice (some ⟨w2.heap.size, 0, none⟩) 5 5, .int .i64 x, .int .i64 (n + x), .pointer (some ⟨w1.heap.size, 1, none⟩), undef], []⟩ rfl ?_
          refine wpAnyH_all (rs := [7]) (by kernel_rfl) (by simp) (fun i hi => ?_)
          obtain rfl := List.mem_singleton.1 hi
          have c3 := s.c1
          have f3 := s.f1
          exact up_store' rfl rfl 3 _ _ rfl _ _ rfl _ rfl (w3.setCell ⟨w1.heap.size, 1, none⟩ (.int .i64 (n + x))) (by simp [go_sem, c3, f3]) trivial #[true, true, true, true, true, true, true, true] rfl ⟨#[.pointer (some ⟨R, 0, none⟩), undef, .pointer (some ⟨w.heap.size, 0, none⟩), .pointer (some ⟨w1.heap.size, 0, none⟩), .pointer (some ⟨R, 0, none⟩), .agg #[.int .i64 k, .int .i64 n, .int .i64 m], .pointer (some ⟨R, 0, none⟩), .int .i64 (r2 : Int), .bool true, .pointer (some ⟨w1.heap.size, 1, none⟩), .int .i64 n, .pointer (some ⟨R, 0, none⟩), .slice (some ⟨w2.heap.size, 0, none⟩) 5 5, .int .i64 x, .int .i64 (n + x), .pointer (some ⟨w1.heap.size, 1, none⟩), undef], []⟩ rfl (wpAnyH_done (by kernel_rfl) ⟨rfl, x, x0, x1, s.put1 (n + x), t.other w1.heap.size 1 (by omega) _, h.set w1.heap.size 1 _ (by omega), gb_put G (by omega), rfl⟩ _)
        · skip
          refine up_fcallV rfl rfl Tryd.func23 (by kernel_rfl) (by kernel_rfl) rfl [.pointer (some ⟨R, 0, none⟩), .slice (some ⟨w2.heap.size, 0, none⟩) 5 5] rfl #[true, false, true, true, true, false, false, false] rfl (fun v => ⟨#[.pointer (some ⟨R, 0, none⟩), undef, .pointer (some ⟨w.heap.size, 0, none⟩), .pointer (some ⟨w1.heap.size, 0, none⟩), .pointer (some ⟨R, 0, none⟩), .agg #[.int .i64 k, .int .i64 n, .int .i64 m], .pointer (some ⟨R, 0, none⟩), .int .i64 (r2 : Int), .bool true, .pointer (some ⟨w1.heap.size, 1, none⟩), undef, .pointer (some ⟨R, 0, none⟩), .slice (some ⟨w2.heap.size, 0, none⟩) 5 5, v, undef, undef, undef], []⟩) (fun _ => rfl) (fun v W => ∃ x, v = .int .i64 x ∧ (-64 ≤ x ∧ x ≤ 128) ∧ Reader B W R (q1 + 1 + 1) ∧ wa.grownBy W (some R)) ((num_r B R _ w2.heap.size [-64, 16, 32, 64, 128] 5 _ h (by decide) (by decide) (by omega) (by omega) hx).mono fun e W hh => ?_) ?_
          · obtain ⟨x, hx, he, hr, hg⟩ := hh
            exact ⟨_, he, x, rfl, (by simp at hx; omega), hr, hg⟩
          rintro _ w3 ⟨x, rfl, ⟨x0, x1⟩, h3, g3⟩
          have s : A3 w3 w1.heap.size k n m := s.grown g3 (by simp; omega)
          have t : A3 w3 w.heap.size 0 0 0 := t.grown g3 (by simp; omega)
          have G : w.grownBy w3 (some R) := gb_pick G g3
          have h := h3
          refine ⟨trivial, ?_⟩
          refine wpAnyH_all (rs := [1]) (by kernel_rfl) (by simp) (fun i hi => ?_)
          obtain rfl := List.mem_singleton.1 hi
          have c1 := s.c1
          refine up_val' rfl rfl (.int .i64 n) w3 (by go_simp) trivial #[true, true, true, true, true, false, false, false] rfl ⟨#[.pointer (some ⟨R, 0, none⟩), undef, .pointer (some ⟨w.heap.size, 0, none⟩), .pointer (some ⟨w1.heap.size, 0, none⟩), .pointer (some ⟨R, 0, none⟩), .agg #[.int .i64 k, .int .i64 n, .int .i64 m], .pointer (some ⟨R, 0, none⟩), .int .i64 (r2 : Int), .bool true, .pointer (some ⟨w1.heap.size, 1, none⟩), .int .i64 n, .pointer (some ⟨R, 0, none⟩), .slice (some ⟨w2.heap.size, 0, none⟩) 5 5, .int .i64 x, undef, undef, undef], []⟩ rfl ?_
          clear c1
          refine tk_val' (i := 5) rfl (by kernel_rfl) (by kernel_rfl) (by kernel_rfl) (fun _ _ _ _ h => nomatch h.1) rfl (.int .i64 (n + x)) (fun W _ => by go_simp; rw [IntKind.wrap_i64]; omega) trivial #[true, true, true, true, true, true, false, false] rfl ⟨#[.pointer (some ⟨R, 0, none⟩), undef, .pointer (some ⟨w.heap.size, 0, none⟩), .pointer (some ⟨w1.heap.size, 0, none⟩), .pointer (some ⟨R, 0, none⟩), .agg #[.int .i64 k, .int .i64 n, .int .i64 m], .pointer (some ⟨R, 0, none⟩), .int .i64 (r2 : Int), .bool true, .pointer (some ⟨w1.heap.size, 1, none⟩), .int .i64 n, .pointer (some ⟨R, 0, none⟩), .slice (some ⟨w2.heap.size, 0, none⟩) 5 5, .int .i64 x, .int .i64 (n + x), undef, undef], []⟩ rfl ?_
          refine tk_val' (i := 6) rfl (by kernel_rfl) (by kernel_rfl) (by kernel_rfl) (fun _ _ _ _ h => nomatch h.1) rfl (.pointer (some ⟨w1.heap.size, 1, none⟩)) (fun W _ => by go_simp) trivial #[true, true, true, true, true, true, true, false] rfl ⟨#[.pointer (some ⟨R, 0, none⟩), undef, .pointer (some ⟨w.heap.size, 0, none⟩), .pointer (some ⟨w1.heap.size, 0, none⟩), .pointer (some ⟨R, 0, none⟩), .agg #[.int .i64 k, .int .i64 n, .int .i64 m], .pointer (some ⟨R, 0, none⟩), .int .i64 (r2 : Int), .bool true, .pointer (some ⟨w1.heap.size, 1, none⟩), .int .i64 n, .pointer (some ⟨R, 0, none⟩), .slice (some ⟨w2.heap.size, 0, none⟩) 5 5, .int .i64 x, .int .i64 (n + x), .pointer (some ⟨w1.heap.size, 1, none⟩), undef], []⟩ rfl ?_
          refine wpAnyH_all (rs := [7]) (by kernel_rfl) (by simp) (fun i hi => ?_)
          obtain rfl := List.mem_singleton.1 hi
          have c3 := s.c1
          have f3 := s.f1
          exact up_store' rfl rfl 3 _ _ rfl _ _ rfl _ rfl (w3.setCell ⟨w1.heap.size, 1, none⟩ (.int .i64 (n + x))) (by simp [go_sem, c3, f3]) trivial #[true, true, true, true, true, true, true, true] rfl ⟨#[.pointer (some ⟨R, 0, none⟩), undef, .pointer (some ⟨w.heap.size, 0, none⟩), .pointer (some ⟨w1.heap.size, 0, none⟩), .pointer (some ⟨R, 0, none⟩), .agg #[.int .i64 k, .int .i64 n, .int .i64 m], .pointer (some ⟨R, 0, none⟩), .int .i64 (r2 : Int), .bool true, .pointer (some ⟨w1.heap.size, 1, none⟩), .int .i64 n, .pointer (some ⟨R, 0, none⟩), .slice (some ⟨w2.heap.size, 0, none⟩) 5 5, .int .i64 x, .int .i64 (n + x), .pointer (some ⟨w1.heap.size, 1, none⟩), undef], []⟩ rfl (wpAnyH_done (by kernel_rfl) ⟨rfl, x, x0, x1, s.put1 (n + x), t.other w1.heap.size 1 (by omega) _, h.set w1.heap.size 1 _ (by omega), gb_put G (by omega), rfl⟩ _)
    rintro _ w4 ⟨v, v0, v1, s4, s14, h4, G4, rfl⟩
    obtain ⟨t1, t2, t3⟩ := put_end k (n + v) m s14 h4 G4 hBw (Nat.le_refl _)
    obtain ⟨c0, c1, c2, f0, f1, f2⟩ := s4
    obtain ⟨d0, d1, d2, i0, i1, i2⟩ := s14
    obtain ⟨q0, q1, q2, _, _, _⟩ := t1
    clear s t h G
    go_wp2
    exact bodyPost_ret (v := .agg #[.int .i64 k, .int .i64 (n + v), .int .i64 m]) (by simp [results, Tryd.results14, go_sem, q0, q1, q2]) rfl ⟨⟨_, _, _, by omega, by omega, rfl⟩, ⟨_, by omega, t2⟩, t3⟩
  · have e0 : ((r2 : Int) == 0) = false := by simp; omega
    clear hr
    obtain ⟨t1, t2, t3⟩ := put_end k n m s1' h2 G2 hBw (Nat.le_refl _)
    obtain ⟨c0, c1, c2, f0, f1, f2⟩ := s2
    obtain ⟨d0, d1, d2, i0, i1, i2⟩ := s1'
    obtain ⟨q0, q1, q2, _, _, _⟩ := t1
    go_wp2
    exact bodyPost_ret (v := .agg #[.int .i64 k, .int .i64 n, .int .i64 m]) (by simp [results, Tryd.results14, go_sem, q0, q1, q2]) rfl ⟨⟨_, _, _, by omega, by omega, rfl⟩, ⟨_, by omega, t2⟩, t3⟩
end Go.Proofs.YtjnddfpieogpiaaDoor
