/- A run over a list: what is known behind an instruction (onward), the table of rules. -/
import Derived.Test.YtcmmiamnbefefaaDoorBb
import Derived.WalkLawsBesides
namespace Go.Proofs.YtcmmiamnbefefaaDoor
open Go.RowKit
set_option linter.unusedVariables false

theorem one4 (b f : Int) (s k : Bool) : ∀ d ∈ ([.int .i64 b, .int .i64 f, .bool s, .bool k] : List Value), d.oneCell' = true := by
  intro d hd
  simp at hd
  rcases hd with rfl | rfl | rfl | rfl <;> rfl
set_option maxRecDepth 10000 in
set_option maxHeartbeats 4000000 in
theorem onward_i (b f : Int) (s k : Bool) (c : Int) (w : World) (hb0 : -2000 ≤ b) (hb1 : b ≤ 2000) (hf0 : -2000 ≤ f) (hf1 : f ≤ 2000) :
    Calls Tryd.prog 42 #[.agg #[.int .i64 b, .int .i64 f, .bool s, .bool k], .int .i64 c] w fun e w' => e = .returned (.agg #[.int .i64 (bhB b c), .int .i64 (bhF f c), .bool (!decide (c = 11) && (s || decide (c = 10) || decide (c = 7))), .bool (!decide (c = 11) && decide (c = 10))]) ∧ Below w.heap.size w w' := by
  have HBh : Hid (∀ W, Calls Tryd.prog 44 #[.agg #[.int .i64 b, .int .i64 f], .int .i64 c] W fun e w' => e = .returned (.agg #[.int .i64 (bhB b c), .int .i64 (bhF f c)]) ∧ Below W.heap.size W w') := fun W => behind_i b f c W hb0 hb1 hf0 hf1
  generalize bhB b c = nb at HBh ⊢
  generalize bhF f c = nf at HBh ⊢
  have HR := rows2 w (.cells #[.int .i64 b, .int .i64 f, .bool s, .bool k] 75) (.cells #[.int .i64 0, .int .i64 0, .bool false, .bool false] 75)
  have HRr : Hid (((w.alloc (.cells #[.int .i64 b, .int .i64 f, .bool s, .bool k] 75)).alloc (.cells #[.int .i64 0, .int .i64 0, .bool false, .bool false] 75)).heap[w.heap.size]? = some (.cells #[.int .i64 b, .int .i64 f, .bool s, .bool k] 75 (0, 0)) ∧ ((w.alloc (.cells #[.int .i64 b, .int .i64 f, .bool s, .bool k] 75)).alloc (.cells #[.int .i64 0, .int .i64 0, .bool false, .bool false] 75)).heap[w.heap.size + 1]? = some (.cells #[.int .i64 0, .int .i64 0, .bool false, .bool false] 75 (0, 0))) := HR
  have hz : ((w.alloc (.cells #[.int .i64 b, .int .i64 f, .bool s, .bool k] 75)).alloc (.cells #[.int .i64 0, .int .i64 0, .bool false, .bool false] 75)).heap.size = w.heap.size + 1 + 1 := by simp
  have HB : Hid (Below w.heap.size w ((w.alloc (.cells #[.int .i64 b, .int .i64 f, .bool s, .bool k] 75)).alloc (.cells #[.int .i64 0, .int .i64 0, .bool false, .bool false] 75))) := two_below _ _
  clear HR
  go_enter Tryd.func42, Tryd.ntmps42
  go_wp2_with fail
  refine (HBh.out _).mono ?_
  rintro e w1 ⟨rfl, g1⟩
  have h1 : w1.heap[w.heap.size]? = some (.cells #[.int .i64 b, .int .i64 f, .bool s, .bool k] 75 (0, 0)) := (g1.block _ (by omega)).trans HRr.out.1
  have h2 : w1.heap[w.heap.size + 1]? = some (.cells #[.int .i64 0, .int .i64 0, .bool false, .bool false] 75 (0, 0)) := (g1.block _ (by omega)).trans HRr.out.2
  have b1 : Below w.heap.size w w1 := HB.out.trans (g1.mono (by omega))
  have cs : w1.cell? ⟨w.heap.size, 2, none⟩ = some (.bool s) := (cell_of_row _ _ _ _ _ _ h1).trans rfl
  have l2 : w.heap.size + 1 < w1.heap.size := (Array.getElem?_eq_some_iff.1 h2).1
  have l1 : w.heap.size < w1.heap.size := by omega
  have HK : Hid (w1.heap[w.heap.size + 1]? = some (.cells #[.int .i64 0, .int .i64 0, .bool false, .bool false] 75 (0, 0)) ∧ Below w.heap.size w w1) := ⟨h2, b1⟩
  clear h1 h2 b1 g1 HRr HB HBh hz
  by_cases h11 : c = 11
  · subst h11
    have k2 : (w1.alloc (.cells #[.int .i64 nb, .int .i64 nf, .bool false, .bool false] 75)).heap[w.heap.size + 1]? = some (.cells #[.int .i64 0, .int .i64 0, .bool false, .bool false] 75 (0, 0)) := (heap_alloc_old _ _ (h := l2)).trans HK.out.1
    have HLD : Hid ((loadVar 75 ⟨w1.heap.size, 0, none⟩).run Tryd.prog (w1.alloc (.cells #[.int .i64 nb, .int .i64 nf, .bool false, .bool false] 75)) = .ok (.agg #[.int .i64 nb, .int .i64 nf, .bool false, .bool false]) (w1.alloc (.cells #[.int .i64 nb, .int .i64 nf, .bool false, .bool false] 75))) := load_all (heap_alloc_last w1 _) _ _ Tryd.underlying75 rfl (by kernel_rfl)
    have HST : Hid ((storeVar 75 ⟨w.heap.size + 1, 0, none⟩ (.agg #[.int .i64 nb, .int .i64 nf, .bool false, .bool false])).run Tryd.prog (w1.alloc (.cells #[.int .i64 nb, .int .i64 nf, .bool false, .bool false] 75)) = .ok () ((w1.alloc (.cells #[.int .i64 nb, .int .i64 nf, .bool false, .bool false] 75)).setRow (w.heap.size + 1) #[.int .i64 nb, .int .i64 nf, .bool false, .bool false])) := store_all k2 75 _ rfl (by kernel_rfl) (all_one [.int .i64 nb, .int .i64 nf, .bool false, .bool false] (one4 nb nf false false))
    have HRt : Hid (((w1.alloc (.cells #[.int .i64 nb, .int .i64 nf, .bool false, .bool false] 75)).setRow (w.heap.size + 1) #[.int .i64 nb, .int .i64 nf, .bool false, .bool false]).heap[w.heap.size + 1]? = some (.cells #[.int .i64 nb, .int .i64 nf, .bool false, .bool false] 75 (0, 0))) := row_set k2 _
    have HBf : Hid (Below w.heap.size w ((w1.alloc (.cells #[.int .i64 nb, .int .i64 nf, .bool false, .bool false] 75)).setRow (w.heap.size + 1) #[.int .i64 nb, .int .i64 nf, .bool false, .bool false])) := below_setRow (HK.out.2.alloc (by omega) _) (by omega) _
    clear k2 HK
    go_wp2_with (first | (refine wpL_load rfl 75 _ rfl _ _ rfl _ HLD.out ?_) | (refine wpL_store rfl 75 _ _ rfl _ _ rfl _ rfl _ HST.out ?_) | (refine ret_row rfl rfl HRt.out Tryd.underlying75 rfl (by kernel_rfl) rfl ?_) | fail)
    first | exact HBf.out | exact ⟨by simp, HBf.out⟩
  cases s with
  | true =>
    by_cases h10 : c = 10
    · subst h10
      have k2 : (w1.alloc (.cells #[.int .i64 nb, .int .i64 nf, .bool true, .bool true] 75)).heap[w.heap.size + 1]? = some (.cells #[.int .i64 0, .int .i64 0, .bool false, .bool false] 75 (0, 0)) := (heap_alloc_old _ _ (h := l2)).trans HK.out.1
      have HLD : Hid ((loadVar 75 ⟨w1.heap.size, 0, none⟩).run Tryd.prog (w1.alloc (.cells #[.int .i64 nb, .int .i64 nf, .bool true, .bool true] 75)) = .ok (.agg #[.int .i64 nb, .int .i64 nf, .bool true, .bool true]) (w1.alloc (.cells #[.int .i64 nb, .int .i64 nf, .bool true, .bool true] 75))) := load_all (heap_alloc_last w1 _) _ _ Tryd.underlying75 rfl (by kernel_rfl)
      have HST : Hid ((storeVar 75 ⟨w.heap.size + 1, 0, none⟩ (.agg #[.int .i64 nb, .int .i64 nf, .bool true, .bool true])).run Tryd.prog (w1.alloc (.cells #[.int .i64 nb, .int .i64 nf, .bool true, .bool true] 75)) = .ok () ((w1.alloc (.cells #[.int .i64 nb, .int .i64 nf, .bool true, .bool true] 75)).setRow (w.heap.size + 1) #[.int .i64 nb, .int .i64 nf, .bool true, .bool true])) := store_all k2 75 _ rfl (by kernel_rfl) (all_one [.int .i64 nb, .int .i64 nf, .bool true, .bool true] (one4 nb nf true true))
      have HRt : Hid (((w1.alloc (.cells #[.int .i64 nb, .int .i64 nf, .bool true, .bool true] 75)).setRow (w.heap.size + 1) #[.int .i64 nb, .int .i64 nf, .bool true, .bool true]).heap[w.heap.size + 1]? = some (.cells #[.int .i64 nb, .int .i64 nf, .bool true, .bool true] 75 (0, 0))) := row_set k2 _
      have HBf : Hid (Below w.heap.size w ((w1.alloc (.cells #[.int .i64 nb, .int .i64 nf, .bool true, .bool true] 75)).setRow (w.heap.size + 1) #[.int .i64 nb, .int .i64 nf, .bool true, .bool true])) := below_setRow (HK.out.2.alloc (by omega) _) (by omega) _
      clear k2 HK
      go_wp2_with (first | (refine wpL_load rfl 75 _ rfl _ _ rfl _ HLD.out ?_) | (refine wpL_store rfl 75 _ _ rfl _ _ rfl _ rfl _ HST.out ?_) | (refine ret_row rfl rfl HRt.out Tryd.underlying75 rfl (by kernel_rfl) rfl ?_) | fail)
      first | exact HBf.out | exact ⟨by simp, HBf.out⟩
    · have n10 : (c == 10) = false := by simp [h10]
      have n11 : (c != 11) = true := by simp [h11]
      have k2 : (w1.alloc (.cells #[.int .i64 nb, .int .i64 nf, .bool true, .bool false] 75)).heap[w.heap.size + 1]? = some (.cells #[.int .i64 0, .int .i64 0, .bool false, .bool false] 75 (0, 0)) := (heap_alloc_old _ _ (h := l2)).trans HK.out.1
      have HLD : Hid ((loadVar 75 ⟨w1.heap.size, 0, none⟩).run Tryd.prog (w1.alloc (.cells #[.int .i64 nb, .int .i64 nf, .bool true, .bool false] 75)) = .ok (.agg #[.int .i64 nb, .int .i64 nf, .bool true, .bool false]) (w1.alloc (.cells #[.int .i64 nb, .int .i64 nf, .bool true, .bool false] 75))) := load_all (heap_alloc_last w1 _) _ _ Tryd.underlying75 rfl (by kernel_rfl)
      have HST : Hid ((storeVar 75 ⟨w.heap.size + 1, 0, none⟩ (.agg #[.int .i64 nb, .int .i64 nf, .bool true, .bool false])).run Tryd.prog (w1.alloc (.cells #[.int .i64 nb, .int .i64 nf, .bool true, .bool false] 75)) = .ok () ((w1.alloc (.cells #[.int .i64 nb, .int .i64 nf, .bool true, .bool false] 75)).setRow (w.heap.size + 1) #[.int .i64 nb, .int .i64 nf, .bool true, .bool false])) := store_all k2 75 _ rfl (by kernel_rfl) (all_one [.int .i64 nb, .int .i64 nf, .bool true, .bool false] (one4 nb nf true false))
      have HRt : Hid (((w1.alloc (.cells #[.int .i64 nb, .int .i64 nf, .bool true, .bool false] 75)).setRow (w.heap.size + 1) #[.int .i64 nb, .int .i64 nf, .bool true, .bool false]).heap[w.heap.size + 1]? = some (.cells #[.int .i64 nb, .int .i64 nf, .bool true, .bool false] 75 (0, 0))) := row_set k2 _
      have HBf : Hid (Below w.heap.size w ((w1.alloc (.cells #[.int .i64 nb, .int .i64 nf, .bool true, .bool false] 75)).setRow (w.heap.size + 1) #[.int .i64 nb, .int .i64 nf, .bool true, .bool false])) := below_setRow (HK.out.2.alloc (by omega) _) (by omega) _
      clear k2 HK
      go_wp2_with (first | (refine wpL_load rfl 75 _ rfl _ _ rfl _ HLD.out ?_) | (refine wpL_store rfl 75 _ _ rfl _ _ rfl _ rfl _ HST.out ?_) | (refine ret_row rfl rfl HRt.out Tryd.underlying75 rfl (by kernel_rfl) rfl ?_) | fail)
      first | exact HBf.out | exact ⟨by simp [h10, h11], HBf.out⟩
  | false =>
    by_cases h10 : c = 10
    · subst h10
      have k2 : (w1.alloc (.cells #[.int .i64 nb, .int .i64 nf, .bool true, .bool true] 75)).heap[w.heap.size + 1]? = some (.cells #[.int .i64 0, .int .i64 0, .bool false, .bool false] 75 (0, 0)) := (heap_alloc_old _ _ (h := l2)).trans HK.out.1
      have HLD : Hid ((loadVar 75 ⟨w1.heap.size, 0, none⟩).run Tryd.prog (w1.alloc (.cells #[.int .i64 nb, .int .i64 nf, .bool true, .bool true] 75)) = .ok (.agg #[.int .i64 nb, .int .i64 nf, .bool true, .bool true]) (w1.alloc (.cells #[.int .i64 nb, .int .i64 nf, .bool true, .bool true] 75))) := load_all (heap_alloc_last w1 _) _ _ Tryd.underlying75 rfl (by kernel_rfl)
      have HST : Hid ((storeVar 75 ⟨w.heap.size + 1, 0, none⟩ (.agg #[.int .i64 nb, .int .i64 nf, .bool true, .bool true])).run Tryd.prog (w1.alloc (.cells #[.int .i64 nb, .int .i64 nf, .bool true, .bool true] 75)) = .ok () ((w1.alloc (.cells #[.int .i64 nb, .int .i64 nf, .bool true, .bool true] 75)).setRow (w.heap.size + 1) #[.int .i64 nb, .int .i64 nf, .bool true, .bool true])) := store_all k2 75 _ rfl (by kernel_rfl) (all_one [.int .i64 nb, .int .i64 nf, .bool true, .bool true] (one4 nb nf true true))
      have HRt : Hid (((w1.alloc (.cells #[.int .i64 nb, .int .i64 nf, .bool true, .bool true] 75)).setRow (w.heap.size + 1) #[.int .i64 nb, .int .i64 nf, .bool true, .bool true]).heap[w.heap.size + 1]? = some (.cells #[.int .i64 nb, .int .i64 nf, .bool true, .bool true] 75 (0, 0))) := row_set k2 _
      have HBf : Hid (Below w.heap.size w ((w1.alloc (.cells #[.int .i64 nb, .int .i64 nf, .bool true, .bool true] 75)).setRow (w.heap.size + 1) #[.int .i64 nb, .int .i64 nf, .bool true, .bool true])) := below_setRow (HK.out.2.alloc (by omega) _) (by omega) _
      clear k2 HK
      go_wp2_with (first | (refine wpL_load rfl 75 _ rfl _ _ rfl _ HLD.out ?_) | (refine wpL_store rfl 75 _ _ rfl _ _ rfl _ rfl _ HST.out ?_) | (refine ret_row rfl rfl HRt.out Tryd.underlying75 rfl (by kernel_rfl) rfl ?_) | fail)
      first | exact HBf.out | exact ⟨by simp, HBf.out⟩
    · have n10 : (c == 10) = false := by simp [h10]
      have n11 : (c != 11) = true := by simp [h11]
      by_cases h7 : c = 7
      · subst h7
        have k2 : (w1.alloc (.cells #[.int .i64 nb, .int .i64 nf, .bool true, .bool false] 75)).heap[w.heap.size + 1]? = some (.cells #[.int .i64 0, .int .i64 0, .bool false, .bool false] 75 (0, 0)) := (heap_alloc_old _ _ (h := l2)).trans HK.out.1
        have HLD : Hid ((loadVar 75 ⟨w1.heap.size, 0, none⟩).run Tryd.prog (w1.alloc (.cells #[.int .i64 nb, .int .i64 nf, .bool true, .bool false] 75)) = .ok (.agg #[.int .i64 nb, .int .i64 nf, .bool true, .bool false]) (w1.alloc (.cells #[.int .i64 nb, .int .i64 nf, .bool true, .bool false] 75))) := load_all (heap_alloc_last w1 _) _ _ Tryd.underlying75 rfl (by kernel_rfl)
        have HST : Hid ((storeVar 75 ⟨w.heap.size + 1, 0, none⟩ (.agg #[.int .i64 nb, .int .i64 nf, .bool true, .bool false])).run Tryd.prog (w1.alloc (.cells #[.int .i64 nb, .int .i64 nf, .bool true, .bool false] 75)) = .ok () ((w1.alloc (.cells #[.int .i64 nb, .int .i64 nf, .bool true, .bool false] 75)).setRow (w.heap.size + 1) #[.int .i64 nb, .int .i64 nf, .bool true, .bool false])) := store_all k2 75 _ rfl (by kernel_rfl) (all_one [.int .i64 nb, .int .i64 nf, .bool true, .bool false] (one4 nb nf true false))
        have HRt : Hid (((w1.alloc (.cells #[.int .i64 nb, .int .i64 nf, .bool true, .bool false] 75)).setRow (w.heap.size + 1) #[.int .i64 nb, .int .i64 nf, .bool true, .bool false]).heap[w.heap.size + 1]? = some (.cells #[.int .i64 nb, .int .i64 nf, .bool true, .bool false] 75 (0, 0))) := row_set k2 _
        have HBf : Hid (Below w.heap.size w ((w1.alloc (.cells #[.int .i64 nb, .int .i64 nf, .bool true, .bool false] 75)).setRow (w.heap.size + 1) #[.int .i64 nb, .int .i64 nf, .bool true, .bool false])) := below_setRow (HK.out.2.alloc (by omega) _) (by omega) _
        clear k2 HK
        go_wp2_with (first | (refine wpL_load rfl 75 _ rfl _ _ rfl _ HLD.out ?_) | (refine wpL_store rfl 75 _ _ rfl _ _ rfl _ rfl _ HST.out ?_) | (refine ret_row rfl rfl HRt.out Tryd.underlying75 rfl (by kernel_rfl) rfl ?_) | fail)
        first | exact HBf.out | exact ⟨by simp, HBf.out⟩
      · have n7 : (c == 7) = false := by simp [h7]
        have k2 : (w1.alloc (.cells #[.int .i64 nb, .int .i64 nf, .bool false, .bool false] 75)).heap[w.heap.size + 1]? = some (.cells #[.int .i64 0, .int .i64 0, .bool false, .bool false] 75 (0, 0)) := (heap_alloc_old _ _ (h := l2)).trans HK.out.1
        have HLD : Hid ((loadVar 75 ⟨w1.heap.size, 0, none⟩).run Tryd.prog (w1.alloc (.cells #[.int .i64 nb, .int .i64 nf, .bool false, .bool false] 75)) = .ok (.agg #[.int .i64 nb, .int .i64 nf, .bool false, .bool false]) (w1.alloc (.cells #[.int .i64 nb, .int .i64 nf, .bool false, .bool false] 75))) := load_all (heap_alloc_last w1 _) _ _ Tryd.underlying75 rfl (by kernel_rfl)
        have HST : Hid ((storeVar 75 ⟨w.heap.size + 1, 0, none⟩ (.agg #[.int .i64 nb, .int .i64 nf, .bool false, .bool false])).run Tryd.prog (w1.alloc (.cells #[.int .i64 nb, .int .i64 nf, .bool false, .bool false] 75)) = .ok () ((w1.alloc (.cells #[.int .i64 nb, .int .i64 nf, .bool false, .bool false] 75)).setRow (w.heap.size + 1) #[.int .i64 nb, .int .i64 nf, .bool false, .bool false])) := store_all k2 75 _ rfl (by kernel_rfl) (all_one [.int .i64 nb, .int .i64 nf, .bool false, .bool false] (one4 nb nf false false))
        have HRt : Hid (((w1.alloc (.cells #[.int .i64 nb, .int .i64 nf, .bool false, .bool false] 75)).setRow (w.heap.size + 1) #[.int .i64 nb, .int .i64 nf, .bool false, .bool false]).heap[w.heap.size + 1]? = some (.cells #[.int .i64 nb, .int .i64 nf, .bool false, .bool false] 75 (0, 0))) := row_set k2 _
        have HBf : Hid (Below w.heap.size w ((w1.alloc (.cells #[.int .i64 nb, .int .i64 nf, .bool false, .bool false] 75)).setRow (w.heap.size + 1) #[.int .i64 nb, .int .i64 nf, .bool false, .bool false])) := below_setRow (HK.out.2.alloc (by omega) _) (by omega) _
        clear k2 HK
        go_wp2_with (first | (refine wpL_load rfl 75 _ rfl _ _ rfl _ HLD.out ?_) | (refine wpL_store rfl 75 _ _ rfl _ _ rfl _ rfl _ HST.out ?_) | (refine ret_row rfl rfl HRt.out Tryd.underlying75 rfl (by kernel_rfl) rfl ?_) | fail)
        first | exact HBf.out | exact ⟨by simp [h7, h10], HBf.out⟩

/-- The cells of the table of rules. -/
def rulesV : Array Value := #[.int .i64 2, .func (.func 59) #[] #[], .int .i64 3, .func (.func 60) #[] #[], .int .i64 4, .func (.func 61) #[] #[], .int .i64 5, .func (.func 62) #[] #[], .int .i64 6, .func (.func 63) #[] #[], .int .i64 7, .func (.func 64) #[] #[], .int .i64 8, .func (.func 65) #[] #[]]
set_option maxHeartbeats 2000000 in
theorem rules_i (w : World) : Calls Tryd.prog 41 #[] w fun e w' => e = .returned (.slice (some ⟨w.heap.size, 0, none⟩) 7 7) ∧ w' = w.alloc (.cells rulesV 80) := by
  go_enter Tryd.func41, Tryd.ntmps41
  go_wp2
  go_ret
  exact ⟨rfl, rfl⟩
end Go.Proofs.YtcmmiamnbefefaaDoor
