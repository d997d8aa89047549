/- The program's ListParse. -/
import Derived.Test.YtndfmgbdfcggmaaGreatDoorZmM
import Derived.Test.YtndfmgbdfcggmaaGreatDoorZeM
import Derived.RegionTactic
import Derived.ChangeAlike
import Derived.Test.YtndfmgbdfcggmaaGreatDoorZlM
namespace Go.Proofs.YtndfmgbdfcggmaaGreatDoor
open Go.RowKit Go.Shelf
set_option linter.unusedVariables false

theorem below_cell {b : Nat} {W W' : World} (g : Below b W W') {k o : Nat} {v : Value} (h : k < b) (hc : W.cell? ⟨k, o, none⟩ = some v) : W'.cell? ⟨k, o, none⟩ = some v := (g.cell (p := ⟨k, o, none⟩) h).trans hc
theorem as_wa {w : World} (i c : Int) (g : Nat) (old : Value) (ht0 : w.cell? ⟨g, 0, none⟩ = some old) (hf0 : w.frozen? ⟨g, 0, none⟩ = false) (hg : EH w) :
    Calls Tryz.prog 27 #[.iface 59 (.agg #[.int .i64 i, .int .i64 c]), .iface 62 (.pointer (some ⟨g, 0, none⟩))] w fun ev w' => ev = .returned (.bool true) ∧ Below g w w' ∧ w'.cell? ⟨g, 0, none⟩ = some (.int .i64 c) := by
  refine (as_wrong_at i c ⟨g, 0, none⟩ old ht0 hf0 hg).mono ?_
  rintro e w' ⟨rfl, rfl⟩
  have hl : g < w.heap.size := World.block_lt_of_cell? _ _ ht0
  have hb : ∀ A B C D E, Below w.heap.size w (((((w.alloc A).alloc B).alloc C).alloc D).alloc E) := fun A B C D E => (((((Below.refl _ _).alloc (Nat.le_refl _) _).alloc (by simp) _).alloc (by simp <;> omega) _).alloc (by simp <;> omega) _).alloc (by simp <;> omega) _
  exact ⟨rfl, ((hb _ _ _ _ _).mono (Nat.le_of_lt hl)).setCell (p := ⟨g, 0, none⟩) (Nat.le_refl _) _, World.cell?_setCell_same' _ _ _ (by rw [below_cell (hb _ _ _ _ _) hl ht0]; rfl)⟩
theorem as_ww {w : World} (i u : Int) (g : Nat) (o0 o1 : Value) (ht0 : w.heap[g]? = some (.cells #[o0, o1] 59 (0, 0))) (hg : EH w) :
    Calls Tryz.prog 27 #[.iface 59 (.agg #[.int .i64 i, .int .i64 u]), .iface 61 (.pointer (some ⟨g, 0, none⟩))] w fun ev w' => ev = .returned (.bool true) ∧ Below g w w' ∧ w'.cell? ⟨g, 0, none⟩ = some (.int .i64 i) := by
  refine (as_wrong_wrong i u g o0 o1 ht0 hg).mono ?_
  rintro e w' ⟨rfl, rfl⟩
  have hl : g < w.heap.size := (Array.getElem?_eq_some_iff.1 ht0).1
  have hc : w.cell? ⟨g, 0, none⟩ = some o0 := (cell_of_row _ _ _ _ _ _ ht0).trans rfl
  have hb : ∀ A B C D, Below w.heap.size w ((((w.alloc A).alloc B).alloc C).alloc D) := fun A B C D => ((((Below.refl _ _).alloc (Nat.le_refl _) _).alloc (by simp) _).alloc (by simp <;> omega) _).alloc (by simp <;> omega) _
  refine ⟨rfl, (((hb _ _ _ _).mono (Nat.le_of_lt hl)).setCell (p := ⟨g, 0, none⟩) (Nat.le_refl _) _).setCell (p := ⟨g, 1, none⟩) (Nat.le_refl _) _, ?_⟩
  rw [World.cell?_setCell_other _ _ _ _ (by simp)]
  exact World.cell?_setCell_same' _ _ _ (by rw [below_cell (hb _ _ _ _) hl hc]; rfl)
theorem lread (s : ByteArray) (w : World) (hs : s.size ≤ 1048576) (hT : Tabs w) (hL : LT w) (hM : ML w) (hH : EH w) : Calls Tryz.prog 26 #[.string s] w fun e w' => ReadI s w e w' := by
  by_cases h : 50000 < s.size
  · exact lread_long s w hs h
  · exact lread_i s w (by omega) hT hL hM hH
theorem below_two {w W : World} {B : Nat} (b : Below w.heap.size w W) (h : w.heap.size ≤ B) (x y : Value) : Below w.heap.size w ((W.setCell ⟨B, 0, none⟩ x).setCell ⟨B, 1, none⟩ y) :=
  (b.setCell (p := ⟨B, 0, none⟩) h _).setCell (p := ⟨B, 1, none⟩) h _

set_option maxRecDepth 10000 in
set_option maxHeartbeats 4000000 in
theorem parse_i (s : ByteArray) (w : World) (hs : s.size ≤ 1048576) (hT : Tabs w) (hL : LT w) (hM : ML w) (hH : EH w) : Calls Tryz.prog 10 #[.string s] w fun e w' => PR s w e w' := by
  have b0 : Below w.heap.size w (w.alloc (.cells #[.int .i64 0, .int .i64 0] 33)) := (Below.refl _ _).alloc (Nat.le_refl _) _
  have HRd : Hid (Calls Tryz.prog 26 #[.string s] (w.alloc (.cells #[.int .i64 0, .int .i64 0] 33)) fun e w' => ReadI s (w.alloc (.cells #[.int .i64 0, .int .i64 0] 33)) e w') := lread s _ hs (hT.later b0) (hL.later b0) (hM.later b0) (hH.later b0)
  have HEH : Hid (EH w) := hH
  clear hT hL hM hH
  go_enter Tryz.func10, Tryz.ntmps10
  go_wp2_with fail
  refine HRd.out.mono ?_
  intro e w1 hR
  unfold ReadI at hR
  rcases hR with ⟨xs, F, a, m, cp, hp, rfl, hO, hnd, hx1, g1⟩ | ⟨line, code, h1c, hp, rfl, g1⟩
  · have kF1 : w1.heap[w.heap.size]? = some (.cells #[.int .i64 0, .int .i64 0] 33 (0, 0)) := (g1.block _ (by simp)).trans (heap_alloc_last w _)
    have b1 := b0.trans (g1.mono b0.size)
    obtain ⟨W1, HW1⟩ : ∃ W, Hid (W = w1.alloc (.cells #[.int .i64 0, .int .i64 0] 59)) := ⟨_, rfl⟩
    have kF : (w1.alloc (.cells #[.int .i64 0, .int .i64 0] 59)).heap[w.heap.size]? = some (.cells #[.int .i64 0, .int .i64 0] 33 (0, 0)) := (heap_alloc_old _ _ (h := (Array.getElem?_eq_some_iff.1 kF1).1)).trans kF1
    have HST : Hid ((storeVar 33 ⟨w.heap.size, 0, none⟩ (.agg #[.int .i64 0, .int .i64 0])).run Tryz.prog (w1.alloc (.cells #[.int .i64 0, .int .i64 0] 59)) = .ok () ((w1.alloc (.cells #[.int .i64 0, .int .i64 0] 59)).setRow w.heap.size #[.int .i64 0, .int .i64 0])) := store_all kF 33 _ rfl (by kernel_rfl) (all_one [.int .i64 0, .int .i64 0] (by intro d hd; simp at hd; rcases hd with rfl | rfl <;> rfl))
    have rF := row_set kF #[.int .i64 0, .int .i64 0]
    obtain ⟨WF, HWF⟩ : ∃ W, Hid (W = (w1.alloc (.cells #[.int .i64 0, .int .i64 0] 59)).setRow w.heap.size #[.int .i64 0, .int .i64 0]) := ⟨_, rfl⟩
    have q0 : WF.cell? ⟨w.heap.size, 0, none⟩ = some (.int .i64 0) := by rw [HWF.out]; exact (cell_of_row _ _ _ _ _ _ rF).trans rfl
    have q1 : WF.cell? ⟨w.heap.size, 1, none⟩ = some (.int .i64 0) := by rw [HWF.out]; exact (cell_of_row _ _ _ _ _ _ rF).trans rfl
    have HF : Hid (PR s w (.returned (.tuple #[.slice a m cp, .agg #[.int .i64 0, .int .i64 0]])) WF) := by
      rw [HWF.out]
      refine ⟨xs, 0, 0, F, a, m, cp, hp, rfl, insts_base ((hO.later ((Below.refl _ _).alloc (Nat.le_refl _) _)).move (setRow_grown _ w.heap.size _) (fun b hb => by have := InstsOwn.lt hO b hb; simp at this ⊢; omega)) b0.size, hnd, hx1, below_setRow (b1.alloc b1.size _) (Nat.le_refl _) _⟩
    rw [← HWF.out] at HST
    clear HWF rF kF kF1 g1 hO hnd hp HRd HW1 b1
    go_wp2_with fail
    refine (as_nil _ _).mono ?_
    rintro e w2 ⟨rfl, rfl⟩
    go_wp2_with (first | (refine wpL_store rfl 33 _ _ rfl _ _ rfl _ rfl _ HST.out ?_) | fail)
    exact bodyPost_ret (v := .tuple #[.slice a m cp, .agg #[.int .i64 0, .int .i64 0]]) (by simp [results, Tryz.results10, go_sem, q0, q1]) rfl HF.out
  · have kF1 : w1.heap[w.heap.size]? = some (.cells #[.int .i64 0, .int .i64 0] 33 (0, 0)) := (g1.block _ (by simp)).trans (heap_alloc_last w _)
    have lF : w.heap.size < w1.heap.size := (Array.getElem?_eq_some_iff.1 kF1).1
    have b1 := b0.trans (g1.mono b0.size)
    have bA : Below w.heap.size w (w1.alloc (.cells #[.int .i64 0, .int .i64 0] 59)) := b1.alloc b1.size _
    have HPa : Hid (parseT s = ([], line, code)) := hp
    have hgl : 0 < w.heap.size := World.block_lt_of_cell? _ _ HEH.out
    clear g1 hp HRd
    go_wp2_with fail
    refine (as_ww code line w1.heap.size _ _ (heap_alloc_last w1 _) (HEH.out.later bA)).mono ?_
    rintro e w2 ⟨rfl, g2, c2⟩
    have b2 : Below w.heap.size w w2 := bA.trans (g2.mono b1.size)
    have kF2 : w2.heap[w.heap.size]? = some (.cells #[.int .i64 0, .int .i64 0] 33 (0, 0)) := (g2.block _ lF).trans ((heap_alloc_old _ _ (h := lF)).trans kF1)
    have lF2 : w.heap.size < w2.heap.size := (Array.getElem?_eq_some_iff.1 kF2).1
    have bX : Below w.heap.size w ((w2.alloc (.cells #[.int .i64 0, .int .i64 code] 33)).alloc (.cells #[.int .i64 0] 57)) := (b2.alloc b2.size _).alloc (by have := b2.size; simp; omega) _
    have kR : ((w2.alloc (.cells #[.int .i64 0, .int .i64 code] 33)).alloc (.cells #[.int .i64 0] 57)).heap[w2.heap.size]? = some (.cells #[.int .i64 0, .int .i64 code] 33 (0, 0)) := (heap_alloc_old _ _ (h := by simp)).trans (heap_alloc_last w2 _)
    have kFX : ((w2.alloc (.cells #[.int .i64 0, .int .i64 code] 33)).alloc (.cells #[.int .i64 0] 57)).heap[w.heap.size]? = some (.cells #[.int .i64 0, .int .i64 0] 33 (0, 0)) := (heap_alloc_old _ _ (h := by simp; omega)).trans ((heap_alloc_old _ _ (h := lF2)).trans kF2)
    have cX : ((w2.alloc (.cells #[.int .i64 0, .int .i64 code] 33)).alloc (.cells #[.int .i64 0] 57)).cell? ⟨w2.heap.size + 1, 0, none⟩ = some (.int .i64 0) := by simp
    have fX : ((w2.alloc (.cells #[.int .i64 0, .int .i64 code] 33)).alloc (.cells #[.int .i64 0] 57)).frozen? ⟨w2.heap.size + 1, 0, none⟩ = false := by
      have := heap_alloc_last (w2.alloc (.cells #[.int .i64 0, .int .i64 code] 33)) (.cells #[.int .i64 0] 57)
      rw [World.size_alloc] at this
      unfold World.frozen?
      simp only []
      rw [this]
      rfl
    have HAs : Hid (Calls Tryz.prog 27 #[.iface 59 (.agg #[.int .i64 code, .int .i64 line]), .iface 62 (.pointer (some ⟨w2.heap.size + 1, 0, none⟩))] ((w2.alloc (.cells #[.int .i64 0, .int .i64 code] 33)).alloc (.cells #[.int .i64 0] 57)) fun ev w' => ev = .returned (.bool true) ∧ Below (w2.heap.size + 1) ((w2.alloc (.cells #[.int .i64 0, .int .i64 code] 33)).alloc (.cells #[.int .i64 0] 57)) w' ∧ w'.cell? ⟨w2.heap.size + 1, 0, none⟩ = some (.int .i64 line)) := as_wa code line (w2.heap.size + 1) _ cX fX (HEH.out.later bX)
    have HK : Hid (((w2.alloc (.cells #[.int .i64 0, .int .i64 code] 33)).alloc (.cells #[.int .i64 0] 57)).heap[w2.heap.size]? = some (.cells #[.int .i64 0, .int .i64 code] 33 (0, 0)) ∧ ((w2.alloc (.cells #[.int .i64 0, .int .i64 code] 33)).alloc (.cells #[.int .i64 0] 57)).heap[w.heap.size]? = some (.cells #[.int .i64 0, .int .i64 0] 33 (0, 0)) ∧ Below w.heap.size w ((w2.alloc (.cells #[.int .i64 0, .int .i64 code] 33)).alloc (.cells #[.int .i64 0] 57))) := ⟨kR, kFX, bX⟩
    clear g2 kF1 kF2 bA b1 bX kR kFX cX fX
    go_wp2_with fail
    refine HAs.out.mono ?_
    rintro e w3 ⟨rfl, g3, c3⟩
    have kR3 : w3.heap[w2.heap.size]? = some (.cells #[.int .i64 0, .int .i64 code] 33 (0, 0)) := (g3.block _ (by omega)).trans HK.out.1
    have kF3 : w3.heap[w.heap.size]? = some (.cells #[.int .i64 0, .int .i64 0] 33 (0, 0)) := (g3.block _ (by omega)).trans HK.out.2.1
    have b3 : Below w.heap.size w w3 := HK.out.2.2.trans (g3.mono (by omega))
    have HS8 : Hid ((storeVar 3 ⟨w2.heap.size, 0, none⟩ (.int .i64 line)).run Tryz.prog w3 = .ok () (w3.setRow w2.heap.size #[.int .i64 line, .int .i64 code])) := store_one (P := Tryz.prog) kR3 3 0 (.int .i64 line) (by simp) (by kernel_rfl) rfl rfl
    obtain ⟨W4, HW4⟩ : ∃ W, Hid (W = w3.setRow w2.heap.size #[.int .i64 line, .int .i64 code]) := ⟨_, rfl⟩
    have kR4 : W4.heap[w2.heap.size]? = some (.cells #[.int .i64 line, .int .i64 code] 33 (0, 0)) := by rw [HW4.out]; exact row_set kR3 _
    have kF4 : W4.heap[w.heap.size]? = some (.cells #[.int .i64 0, .int .i64 0] 33 (0, 0)) := by rw [HW4.out]; exact row_beside kF3 _ (by omega) _
    have b4 : Below w.heap.size w W4 := by rw [HW4.out]; exact below_setRow b3 (by omega) _
    have d0 : W4.cell? ⟨w2.heap.size, 0, none⟩ = some (.int .i64 line) := (cell_of_row _ _ _ _ _ _ kR4).trans rfl
    have d1 : W4.cell? ⟨w2.heap.size, 1, none⟩ = some (.int .i64 code) := (cell_of_row _ _ _ _ _ _ kR4).trans rfl
    have c0 : W4.cell? ⟨w.heap.size, 0, none⟩ = some (.int .i64 0) := (cell_of_row _ _ _ _ _ _ kF4).trans rfl
    have c1 : W4.cell? ⟨w.heap.size, 1, none⟩ = some (.int .i64 0) := (cell_of_row _ _ _ _ _ _ kF4).trans rfl
    have f0 : W4.frozen? ⟨w.heap.size, 0, none⟩ = false := by simp [World.frozen?, kF4]
    have f1 : W4.frozen? ⟨w.heap.size, 1, none⟩ = false := by simp [World.frozen?, kF4]
    have ne : w2.heap.size ≠ w.heap.size := by omega
    rw [← HW4.out] at HS8
    clear HW4 kR3 kF3 b3 g3 HAs HK kR4 kF4
    go_wp2_with (first | (refine wpL_store rfl 3 _ _ rfl _ _ rfl _ rfl _ HS8.out ?_) | fail)
    go_region
    all_goals go_wp2
    all_goals refine bodyPost_ret (v := .tuple #[.slice none 0 0, .agg #[.int .i64 line, .int .i64 code]]) (by simp [results, Tryz.results10, go_sem, c0, c1]) rfl (wrong_pr HPa.out ?_)
    all_goals first | exact below_two b4 (Nat.le_refl _) _ _ | exact (below_two b4 (Nat.le_refl _) _ _).drew | exact below_two b4.drew (Nat.le_refl _) _ _
end Go.Proofs.YtndfmgbdfcggmaaGreatDoor
/- The text of a list is read as the list: mathematics. -/
namespace Go.Proofs.YtndfmgbdfcggmaaGreatDoor
open Go.RowKit Go.Shelf
open Go.Lib (decDigits itoa)
set_option linter.unusedVariables false

theorem cutp_10 (u p : Nat) (h1 : u ≤ 999999999) (h2 : p ≤ 6) : (cutp u p).length ≤ 10 := by
  have h9 := dec_len9 u h1
  have hp : (pad u p).length ≤ 9 := by
    unfold pad
    simp only [List.length_append, List.length_replicate]
    omega
  unfold cutp
  simp only [List.length_append, List.length_take, List.length_drop, List.length_cons, List.length_nil]
  omega
theorem tl_11 (x : Arg) : (tl x).length ≤ 11 := by
  by_cases h : okA x.1 x.2.1 x.2.2 = true
  · have hs := shape_of h
    unfold tl
    generalize txt x.1 x.2.1 x.2.2 = s at hs
    revert hs
    generalize x.1 = k
    generalize x.2.1 = n
    generalize x.2.2 = p
    intro hs
    cases hs with
    | word i h => rw [wd_tx i h, tx_data]; rcases c4 i h with rfl | rfl | rfl | rfl <;> decide
    | dev k u h1 h2 h3 => have := dec_len9 u h3; rw [tx_data]; simp; omega
    | pos u h => have := dec_len9 u h; rw [tx_data]; omega
    | neg u h0 h => have := dec_len9 u h; rw [tx_data]; simp; omega
    | dpos u p h hp => have := cutp_10 u p h hp; rw [tx_data]; omega
    | dneg u p h0 h hp => have := cutp_10 u p h hp; rw [tx_data]; simp; omega
  · have : txt x.1 x.2.1 x.2.2 = ⟨#[]⟩ := by unfold txt; rw [if_neg h]
    unfold tl
    rw [this]
    simp
theorem etl_43 {op : Int} {xs : List Arg} (h : rtk op xs = true) : (etl op xs).length ≤ 43 := by
  obtain ⟨ho, hl⟩ := rtk_form h
  have hrs := row_sort op ho
  have h6 : (ahd op).data.toList.length ≤ 6 ∧ (btw op).data.toList.length ≤ 2 := by
    obtain ⟨n, rfl⟩ := Int.eq_ofNat_of_zero_le (by omega : 0 ≤ op)
    rcases c38 n (by omega) with rfl | rfl | rfl | rfl | rfl | rfl | rfl | rfl | rfl | rfl | rfl | rfl | rfl | rfl | rfl | rfl | rfl | rfl | rfl | rfl | rfl | rfl | rfl | rfl | rfl | rfl | rfl | rfl | rfl | rfl | rfl | rfl | rfl | rfl | rfl | rfl | rfl | rfl
    all_goals decide
  rw [etl_mid, List.length_append]
  match xs, hl with
  | [], hl => simp at hl; omega
  | [x], _ =>
    have := tl_11 x
    rw [mid_one]
    omega
  | [x, y], _ =>
    have := tl_11 x
    have := tl_11 y
    rw [mid_more, mid_one]
    simp only [List.length_append]
    omega
  | [x, y, z], _ =>
    have := tl_11 x
    have := tl_11 y
    have := tl_11 z
    rw [mid_more, mid_more, mid_one]
    simp only [List.length_append]
    omega
  | _ :: _ :: _ :: _ :: _, hl =>
    simp only [List.length_cons] at hl
    omega
/-- The text of an element has no space and no end of a line. -/
theorem etl_sp {op : Int} {xs : List Arg} (h : rtk op xs = true) : ∀ b ∈ etl op xs, b ≠ 32 ∧ b ≠ 10 := by
  obtain ⟨ho, hl⟩ := rtk_form h
  have h6 : (∀ b ∈ (ahd op).data.toList, b ≠ 32 ∧ b ≠ 10) ∧ (∀ b ∈ (btw op).data.toList, b ≠ 32 ∧ b ≠ 10) := by
    obtain ⟨n, rfl⟩ := Int.eq_ofNat_of_zero_le (by omega : 0 ≤ op)
    rcases c38 n (by omega) with rfl | rfl | rfl | rfl | rfl | rfl | rfl | rfl | rfl | rfl | rfl | rfl | rfl | rfl | rfl | rfl | rfl | rfl | rfl | rfl | rfl | rfl | rfl | rfl | rfl | rfl | rfl | rfl | rfl | rfl | rfl | rfl | rfl | rfl | rfl | rfl | rfl | rfl
    all_goals decide
  have ht : ∀ x : Arg, ∀ b ∈ tl x, b ≠ 32 ∧ b ≠ 10 := fun x b hb => by
    have := (sg_txt x.1 x.2.1 x.2.2 b hb).ne
    exact ⟨this.1, this.2.2.2.2.2.2.2.2.1⟩
  have hm : ∀ xs : List Arg, ∀ b ∈ mid op xs, b ≠ 32 ∧ b ≠ 10 := by
    intro xs
    induction xs with
    | nil => intro b hb; simp [mid, Lib.join_nil] at hb
    | cons x r ih =>
      cases r with
      | nil => rw [mid_one]; exact ht x
      | cons y r =>
        rw [mid_more]
        intro b hb
        rcases List.mem_append.1 hb with hb | hb
        · exact ht x b hb
        · rcases List.mem_append.1 hb with hb | hb
          · exact h6.2 b hb
          · exact ih b hb
  intro b hb
  rw [etl_mid] at hb
  rcases List.mem_append.1 hb with hb | hb
  · exact h6.1 b hb
  · exact hm xs b hb
theorem lwd_sp (c : Int) : ∀ b ∈ (lwd c).data.toList, b ≠ 32 ∧ b ≠ 10 := by
  by_cases h : c < 1 ∨ 11 < c
  · rw [lwd_out h]
    intro b hb
    cases hb
  · obtain ⟨n, rfl⟩ := Int.eq_ofNat_of_zero_le (by omega : 0 ≤ c)
    rcases c12 n (by omega) with rfl | rfl | rfl | rfl | rfl | rfl | rfl | rfl | rfl | rfl | rfl | rfl
    all_goals decide
theorem lwords_plain {l : List UInt8} (h : ∀ b ∈ l, b ≠ 32) (h0 : l ≠ []) : lwords l = [l] := by
  unfold lwords pieces
  rw [cutA_plain 32 _ _ h]
  simp [h0]
theorem lwords_two {a b : List UInt8} (ha : ∀ x ∈ a, x ≠ 32) (hb : ∀ x ∈ b, x ≠ 32) (ha0 : a ≠ []) (hb0 : b ≠ []) : lwords (a ++ 32 :: b) = [a, b] := by
  unfold lwords pieces
  rw [cutA_sign 32 _ _ _ ha, cutA_plain 32 _ _ hb]
  simp [ha0, hb0]
theorem codeW_lwd {c : Int} (h1 : 1 ≤ c) (h2 : c ≤ 11) : codeW (lwd c) = c := by
  obtain ⟨n, rfl⟩ := Int.eq_ofNat_of_zero_le (by omega : 0 ≤ c)
  exact codeW_at n (by omega)
theorem lwd_ne {c : Int} (h1 : 1 ≤ c) (h2 : c ≤ 11) : (lwd c).data.toList ≠ [] := by
  have := lwd_some h1 h2
  rwa [Lib.toList_data] at this
/-- The line of an instruction, cut into words, says the instruction. -/
theorem line_words {x : InstT} (h : okT x = true) : lwords (lineB x).data.toList ≠ [] ∧ lineOf (lwords (lineB x).data.toList) = some x ∧ (∀ b ∈ (lineB x).data.toList, b ≠ 10) ∧ (lineB x).data.toList.length ≤ 48 := by
  obtain ⟨c, op, xs⟩ := x
  have h : okI c op xs = true := h
  have hin := okI_in h
  have hl4 : (lwd c).data.toList.length ≤ 4 := by have := lwd_max c; rwa [Lib.size_eq] at this
  by_cases hc : c ≤ 3 ∨ c = 10
  · have hr := okI_el h hc
    have e : (lineB ⟨c, op, xs⟩).data.toList = (lwd c).data.toList ++ 32 :: etl op xs := by
      show (lineT c op xs).data.toList = _
      unfold lineT
      rw [if_pos h, if_pos hc]
      unfold etx
      rw [if_pos hr]
      simp [ByteArray.data_append]
    have hne : etl op xs ≠ [] := (etl_le hr).2
    have hw : lwords ((lwd c).data.toList ++ 32 :: etl op xs) = [(lwd c).data.toList, etl op xs] := lwords_two (fun b hb => (lwd_sp c b hb).1) (fun b hb => (etl_sp hr b hb).1) (lwd_ne hin.1 hin.2) hne
    have h43 := etl_43 hr
    rw [e, hw]
    refine ⟨by simp, lineOf_some ⟨?_, h, .inr ⟨rfl, hr, ?_⟩⟩, ?_, ?_⟩
    · show c = codeW (lwd c)
      exact (codeW_lwd hin.1 hin.2).symm
    · simp [wdAt]
    · intro b hb
      rcases List.mem_append.1 hb with hb | hb
      · exact (lwd_sp c b hb).2
      · rcases List.mem_cons.1 hb with rfl | hb
        · decide
        · exact (etl_sp hr b hb).2
    · simp only [List.length_append, List.length_cons]; omega
  · have e : (lineB ⟨c, op, xs⟩).data.toList = (lwd c).data.toList := by
      show (lineT c op xs).data.toList = _
      unfold lineT
      rw [if_pos h, if_neg hc]
    have hw : lwords (lwd c).data.toList = [(lwd c).data.toList] := lwords_plain (fun b hb => (lwd_sp c b hb).1) (lwd_ne hin.1 hin.2)
    have hz : op = 0 ∧ xs = [] := by
      unfold okI at h
      rw [if_neg (fun h' => by rw [if_pos h'] at h; cases h), if_neg (by omega), if_neg (by omega)] at h
      simpa using h
    rw [e, hw]
    refine ⟨by simp, lineOf_some ⟨?_, h, .inl ⟨rfl, ?_⟩⟩, fun b hb => (lwd_sp c b hb).2, by omega⟩
    · show c = codeW (lwd c)
      exact (codeW_lwd hin.1 hin.2).symm
    · show (⟨op, xs⟩ : ElemT) = ⟨0, []⟩
      rw [hz.1, hz.2]
/-- A line alone is a text of one instruction. -/
theorem parse_line {x : InstT} (h : okT x = true) : parseT (lineB x) = ([x], 0, 0) := by
  obtain ⟨h1, h2, h3, h4⟩ := line_words h
  have hs : (lineB x).size ≤ 48 := by rw [Lib.size_eq]; exact h4
  unfold parseT
  rw [if_neg (by omega)]
  have e : pieces 10 (lineB x).data.toList = [(lineB x).data.toList] := by
    unfold pieces
    rw [cutA_plain 10 _ _ h3]
    simp
  rw [e, pf, if_neg h1, h2]
  simp only []
  rw [if_neg (by simp), pf]
  simp
theorem lineB_some {x : InstT} (h : okT x = true) : (lineB x).toList ≠ [] := lineT_some h
theorem lineB_none {x : InstT} (h : okT x = false) : lineB x = ⟨#[]⟩ := lineT_none h
/-- Two instructions with one line are one. -/
theorem lineB_inj {x y : InstT} (h : okT x = true) (e : lineB x = lineB y) : x = y := by
  cases hy : okT y with
  | false =>
    have := lineB_some h
    rw [e, lineB_none hy, Lib.toList_data] at this
    exact absurd rfl this
  | true =>
    have h1 := (line_words h).2.1
    have h2 := (line_words hy).2.1
    rw [e] at h1
    exact Option.some.inj (h1.symm.trans h2)
end Go.Proofs.YtndfmgbdfcggmaaGreatDoor
