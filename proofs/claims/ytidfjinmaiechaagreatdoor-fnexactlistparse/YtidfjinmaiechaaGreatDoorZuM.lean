/- The program's ListParse. -/
import Derived.Test.YtidfjinmaiechaaGreatDoorZmM
import Derived.Test.YtidfjinmaiechaaGreatDoorZf
import Derived.RegionTactic
import Derived.ChangeAlike
import Derived.LaidLaws
import Derived.LaidHandle
import Derived.Handed
import Derived.Shelf.Vars
import Derived.Lib.LaidU8
import Derived.Lay
namespace Go.Proofs.YtidfjinmaiechaaGreatDoor
open Go.RowKit Go.Shelf
set_option linter.unusedVariables false

theorem below_cell {b : Nat} {W W' : World} (g : Below b W W') {k o : Nat} {v : Value} (h : k < b) (hc : W.cell? ⟨k, o, none⟩ = some v) : W'.cell? ⟨k, o, none⟩ = some v := (g.cell (p := ⟨k, o, none⟩) h).trans hc
theorem as_wa {w : World} (i c : Int) (g : Nat) (old : Value) (ht0 : w.cell? ⟨g, 0, none⟩ = some old) (hf0 : w.frozen? ⟨g, 0, none⟩ = false) (hg : EH w) :
    Calls Tryz.prog 27 #[.iface 69 (.agg #[.int .i64 i, .int .i64 c]), .iface 72 (.pointer (some ⟨g, 0, none⟩))] w fun ev w' => ev = .returned (.bool true) ∧ Below g w w' ∧ w'.cell? ⟨g, 0, none⟩ = some (.int .i64 c) := by
  refine (as_wrong_at i c ⟨g, 0, none⟩ old ht0 hf0 hg).mono ?_
  rintro e w' ⟨rfl, rfl⟩
  have hl : g < w.heap.size := World.block_lt_of_cell? _ _ ht0
  have hb : ∀ A B C D E, Below w.heap.size w (((((w.alloc A).alloc B).alloc C).alloc D).alloc E) := fun A B C D E => (((((Below.refl _ _).alloc (Nat.le_refl _) _).alloc (by simp) _).alloc (by simp <;> omega) _).alloc (by simp <;> omega) _).alloc (by simp <;> omega) _
  exact ⟨rfl, ((hb _ _ _ _ _).mono (Nat.le_of_lt hl)).setCell (p := ⟨g, 0, none⟩) (Nat.le_refl _) _, World.cell?_setCell_same' _ _ _ (by rw [below_cell (hb _ _ _ _ _) hl ht0]; rfl)⟩
theorem as_ww {w : World} (i u : Int) (g : Nat) (o0 o1 : Value) (ht0 : w.heap[g]? = some (.cells #[o0, o1] 69 (0, 0))) (hg : EH w) :
    Calls Tryz.prog 27 #[.iface 69 (.agg #[.int .i64 i, .int .i64 u]), .iface 71 (.pointer (some ⟨g, 0, none⟩))] w fun ev w' => ev = .returned (.bool true) ∧ Below g w w' ∧ w'.cell? ⟨g, 0, none⟩ = some (.int .i64 i) := by
  refine (as_wrong_wrong i u g o0 o1 ht0 hg).mono ?_
  rintro e w' ⟨rfl, rfl⟩
  have hl : g < w.heap.size := (Array.getElem?_eq_some_iff.1 ht0).1
  have hc : w.cell? ⟨g, 0, none⟩ = some o0 := (cell_of_row _ _ _ _ _ _ ht0).trans rfl
  have hb : ∀ A B C D, Below w.heap.size w ((((w.alloc A).alloc B).alloc C).alloc D) := fun A B C D => ((((Below.refl _ _).alloc (Nat.le_refl _) _).alloc (by simp) _).alloc (by simp <;> omega) _).alloc (by simp <;> omega) _
  refine ⟨rfl, (((hb _ _ _ _).mono (Nat.le_of_lt hl)).setCell (p := ⟨g, 0, none⟩) (Nat.le_refl _) _).setCell (p := ⟨g, 1, none⟩) (Nat.le_refl _) _, ?_⟩
  rw [World.cell?_setCell_other _ _ _ _ (by simp)]
  exact World.cell?_setCell_same' _ _ _ (by rw [below_cell (hb _ _ _ _) hl hc]; rfl)
theorem lread (s : ByteArray) (w : World) (hs : s.size ≤ 1048576) (hT : Tabs w) (hL : LT w) (hM : ML w) (hH : EH w) : Calls Tryz.prog 26 #[.string s] w fun e w' => ReadI s w e w' := by
  by_cases h : 50000 < s.size
  · exact lread_long s w hs h
  · exact lread_i s w (by omega) hT hL hM hH
theorem lparse (s : ByteArray) (w : World) (hs : s.size ≤ 1048576) : Calls Tryz.prog 10 #[.string s] w fun e w' => PR s w e w' := by
  by_cases h : 50000 < s.size
  · exact lparse_long s w hs h
  · exact lparse_s s w (by omega)
theorem below_two {w W : World} {B : Nat} (b : Below w.heap.size w W) (h : w.heap.size ≤ B) (x y : Value) : Below w.heap.size w ((W.setCell ⟨B, 0, none⟩ x).setCell ⟨B, 1, none⟩ y) :=
  (b.setCell (p := ⟨B, 0, none⟩) h _).setCell (p := ⟨B, 1, none⟩) h _

set_option maxRecDepth 10000 in
set_option maxHeartbeats 4000000 in
theorem parse_i (s : ByteArray) (w : World) (hs : s.size ≤ 1048576) (hT : Tabs w) (hL : LT w) (hM : ML w) (hH : EH w) : Calls Tryz.prog 11 #[.string s] w fun e w' => PR s w e w' := by
  have b0 : Below w.heap.size w (w.alloc (.cells #[.int .i64 0, .int .i64 0] 30)) := (Below.refl _ _).alloc (Nat.le_refl _) _
  have HRd : Hid (Calls Tryz.prog 26 #[.string s] (w.alloc (.cells #[.int .i64 0, .int .i64 0] 30)) fun e w' => ReadI s (w.alloc (.cells #[.int .i64 0, .int .i64 0] 30)) e w') := lread s _ hs (hT.later b0) (hL.later b0) (hM.later b0) (hH.later b0)
  have HEH : Hid (EH w) := hH
  clear hT hL hM hH
  go_enter Tryz.func11, Tryz.ntmps11
  go_wp2_with fail
  refine HRd.out.mono ?_
  intro e w1 hR
  unfold ReadI at hR
  rcases hR with ⟨xs, F, a, m, cp, hp, rfl, hO, hnd, hx1, g1⟩ | ⟨line, code, h1c, hp, rfl, g1⟩
  · have kF1 : w1.heap[w.heap.size]? = some (.cells #[.int .i64 0, .int .i64 0] 30 (0, 0)) := (g1.block _ (by simp)).trans (heap_alloc_last w _)
    have b1 := b0.trans (g1.mono b0.size)
    obtain ⟨W1, HW1⟩ : ∃ W, Hid (W = w1.alloc (.cells #[.int .i64 0, .int .i64 0] 69)) := ⟨_, rfl⟩
    have kF : (w1.alloc (.cells #[.int .i64 0, .int .i64 0] 69)).heap[w.heap.size]? = some (.cells #[.int .i64 0, .int .i64 0] 30 (0, 0)) := (heap_alloc_old _ _ (h := (Array.getElem?_eq_some_iff.1 kF1).1)).trans kF1
    have HST : Hid ((storeVar 30 ⟨w.heap.size, 0, none⟩ (.agg #[.int .i64 0, .int .i64 0])).run Tryz.prog (w1.alloc (.cells #[.int .i64 0, .int .i64 0] 69)) = .ok () ((w1.alloc (.cells #[.int .i64 0, .int .i64 0] 69)).setRow w.heap.size #[.int .i64 0, .int .i64 0])) := store_all kF 30 _ rfl (by kernel_rfl) (all_one [.int .i64 0, .int .i64 0] (by intro d hd; simp at hd; rcases hd with rfl | rfl <;> rfl))
    have rF := row_set kF #[.int .i64 0, .int .i64 0]
    obtain ⟨WF, HWF⟩ : ∃ W, Hid (W = (w1.alloc (.cells #[.int .i64 0, .int .i64 0] 69)).setRow w.heap.size #[.int .i64 0, .int .i64 0]) := ⟨_, rfl⟩
    have q0 : WF.cell? ⟨w.heap.size, 0, none⟩ = some (.int .i64 0) := by rw [HWF.out]; exact (cell_of_row _ _ _ _ _ _ rF).trans rfl
    have q1 : WF.cell? ⟨w.heap.size, 1, none⟩ = some (.int .i64 0) := by rw [HWF.out]; exact (cell_of_row _ _ _ _ _ _ rF).trans rfl
    have HF : Hid (PR s w (.returned (.tuple #[.slice a m cp, .agg #[.int .i64 0, .int .i64 0]])) WF) := by
      rw [HWF.out]
      refine ⟨xs, 0, 0, F, a, m, cp, hp, rfl, insts_base ((hO.later ((Below.refl _ _).alloc (Nat.le_refl _) _)).move (setRow_grown _ w.heap.size _) (fun b hb => by have := InstsOwn.lt hO b hb; simp at this ⊢; omega)) b0.size, hnd, hx1, below_setRow (b1.alloc b1.size _) (Nat.le_refl _) _⟩
    rw [← HWF.out] at HST
    clear HWF rF kF kF1 g1 hO hnd hp HRd HW1 b1
    go_wp2_with fail
    refine (as_nil _ _).mono ?_
    rintro e w2 ⟨rfl, rfl⟩
    go_wp2_with (first | (refine wpL_store rfl 30 _ _ rfl _ _ rfl _ rfl _ HST.out ?_) | fail)
    exact bodyPost_ret (v := .tuple #[.slice a m cp, .agg #[.int .i64 0, .int .i64 0]]) (by simp [results, Tryz.results11, go_sem, q0, q1]) rfl HF.out
  · have kF1 : w1.heap[w.heap.size]? = some (.cells #[.int .i64 0, .int .i64 0] 30 (0, 0)) := (g1.block _ (by simp)).trans (heap_alloc_last w _)
    have lF : w.heap.size < w1.heap.size := (Array.getElem?_eq_some_iff.1 kF1).1
    have b1 := b0.trans (g1.mono b0.size)
    have bA : Below w.heap.size w (w1.alloc (.cells #[.int .i64 0, .int .i64 0] 69)) := b1.alloc b1.size _
    have HPa : Hid (parseT s = ([], line, code)) := hp
    have hgl : 0 < w.heap.size := World.block_lt_of_cell? _ _ HEH.out
    clear g1 hp HRd
    go_wp2_with fail
    refine (as_ww code line w1.heap.size _ _ (heap_alloc_last w1 _) (HEH.out.later bA)).mono ?_
    rintro e w2 ⟨rfl, g2, c2⟩
    have b2 : Below w.heap.size w w2 := bA.trans (g2.mono b1.size)
    have kF2 : w2.heap[w.heap.size]? = some (.cells #[.int .i64 0, .int .i64 0] 30 (0, 0)) := (g2.block _ lF).trans ((heap_alloc_old _ _ (h := lF)).trans kF1)
    have lF2 : w.heap.size < w2.heap.size := (Array.getElem?_eq_some_iff.1 kF2).1
    have bX : Below w.heap.size w ((w2.alloc (.cells #[.int .i64 0, .int .i64 code] 30)).alloc (.cells #[.int .i64 0] 67)) := (b2.alloc b2.size _).alloc (by have := b2.size; simp; omega) _
    have kR : ((w2.alloc (.cells #[.int .i64 0, .int .i64 code] 30)).alloc (.cells #[.int .i64 0] 67)).heap[w2.heap.size]? = some (.cells #[.int .i64 0, .int .i64 code] 30 (0, 0)) := (heap_alloc_old _ _ (h := by simp)).trans (heap_alloc_last w2 _)
    have kFX : ((w2.alloc (.cells #[.int .i64 0, .int .i64 code] 30)).alloc (.cells #[.int .i64 0] 67)).heap[w.heap.size]? = some (.cells #[.int .i64 0, .int .i64 0] 30 (0, 0)) := (heap_alloc_old _ _ (h := by simp; omega)).trans ((heap_alloc_old _ _ (h := lF2)).trans kF2)
    have cX : ((w2.alloc (.cells #[.int .i64 0, .int .i64 code] 30)).alloc (.cells #[.int .i64 0] 67)).cell? ⟨w2.heap.size + 1, 0, none⟩ = some (.int .i64 0) := by simp
    have fX : ((w2.alloc (.cells #[.int .i64 0, .int .i64 code] 30)).alloc (.cells #[.int .i64 0] 67)).frozen? ⟨w2.heap.size + 1, 0, none⟩ = false := by
      have := heap_alloc_last (w2.alloc (.cells #[.int .i64 0, .int .i64 code] 30)) (.cells #[.int .i64 0] 67)
      rw [World.size_alloc] at this
      unfold World.frozen?
      simp only []
      rw [this]
      rfl
    have HAs : Hid (Calls Tryz.prog 27 #[.iface 69 (.agg #[.int .i64 code, .int .i64 line]), .iface 72 (.pointer (some ⟨w2.heap.size + 1, 0, none⟩))] ((w2.alloc (.cells #[.int .i64 0, .int .i64 code] 30)).alloc (.cells #[.int .i64 0] 67)) fun ev w' => ev = .returned (.bool true) ∧ Below (w2.heap.size + 1) ((w2.alloc (.cells #[.int .i64 0, .int .i64 code] 30)).alloc (.cells #[.int .i64 0] 67)) w' ∧ w'.cell? ⟨w2.heap.size + 1, 0, none⟩ = some (.int .i64 line)) := as_wa code line (w2.heap.size + 1) _ cX fX (HEH.out.later bX)
    have HK : Hid (((w2.alloc (.cells #[.int .i64 0, .int .i64 code] 30)).alloc (.cells #[.int .i64 0] 67)).heap[w2.heap.size]? = some (.cells #[.int .i64 0, .int .i64 code] 30 (0, 0)) ∧ ((w2.alloc (.cells #[.int .i64 0, .int .i64 code] 30)).alloc (.cells #[.int .i64 0] 67)).heap[w.heap.size]? = some (.cells #[.int .i64 0, .int .i64 0] 30 (0, 0)) ∧ Below w.heap.size w ((w2.alloc (.cells #[.int .i64 0, .int .i64 code] 30)).alloc (.cells #[.int .i64 0] 67))) := ⟨kR, kFX, bX⟩
    clear g2 kF1 kF2 bA b1 bX kR kFX cX fX
    go_wp2_with fail
    refine HAs.out.mono ?_
    rintro e w3 ⟨rfl, g3, c3⟩
    have kR3 : w3.heap[w2.heap.size]? = some (.cells #[.int .i64 0, .int .i64 code] 30 (0, 0)) := (g3.block _ (by omega)).trans HK.out.1
    have kF3 : w3.heap[w.heap.size]? = some (.cells #[.int .i64 0, .int .i64 0] 30 (0, 0)) := (g3.block _ (by omega)).trans HK.out.2.1
    have b3 : Below w.heap.size w w3 := HK.out.2.2.trans (g3.mono (by omega))
    have HS8 : Hid ((storeVar 3 ⟨w2.heap.size, 0, none⟩ (.int .i64 line)).run Tryz.prog w3 = .ok () (w3.setRow w2.heap.size #[.int .i64 line, .int .i64 code])) := store_one (P := Tryz.prog) kR3 3 0 (.int .i64 line) (by simp) (by kernel_rfl) rfl rfl
    obtain ⟨W4, HW4⟩ : ∃ W, Hid (W = w3.setRow w2.heap.size #[.int .i64 line, .int .i64 code]) := ⟨_, rfl⟩
    have kR4 : W4.heap[w2.heap.size]? = some (.cells #[.int .i64 line, .int .i64 code] 30 (0, 0)) := by rw [HW4.out]; exact row_set kR3 _
    have kF4 : W4.heap[w.heap.size]? = some (.cells #[.int .i64 0, .int .i64 0] 30 (0, 0)) := by rw [HW4.out]; exact row_beside kF3 _ (by omega) _
    have b4 : Below w.heap.size w W4 := by rw [HW4.out]; exact below_setRow b3 (by omega) _
    have d0 : W4.cell? ⟨w2.heap.size, 0, none⟩ = some (.int .i64 line) := (cell_of_row _ _ _ _ _ _ kR4).trans rfl
    have d1 : W4.cell? ⟨w2.heap.size, 1, none⟩ = some (.int .i64 code) := (cell_of_row _ _ _ _ _ _ kR4).trans rfl
    have c0 : W4.cell? ⟨w.heap.size, 0, none⟩ = some (.int .i64 0) := (cell_of_row _ _ _ _ _ _ kF4).trans rfl
    have c1 : W4.cell? ⟨w.heap.size, 1, none⟩ = some (.int .i64 0) := (cell_of_row _ _ _ _ _ _ kF4).trans rfl
    have f0 : W4.frozen? ⟨w.heap.size, 0, none⟩ = false := by simp [World.frozen?, kF4]
    have f1 : W4.frozen? ⟨w.heap.size, 1, none⟩ = false := by simp [World.frozen?, kF4]
    have ne : w2.heap.size ≠ w.heap.size := by omega
    rw [← HW4.out] at HS8
    clear HW4 kR3 kF3 b3 g3 HAs HK kR4 kF4
    go_wp2_with (first | (refine wpL_store rfl 3 _ _ rfl _ _ rfl _ rfl _ HS8.out ?_) | fail)
    go_region
    all_goals go_wp2
    all_goals refine bodyPost_ret (v := .tuple #[.slice none 0 0, .agg #[.int .i64 line, .int .i64 code]]) (by simp [results, Tryz.results11, go_sem, c0, c1]) rfl (wrong_pr HPa.out ?_)
    all_goals first | exact below_two b4 (Nat.le_refl _) _ _ | exact (below_two b4 (Nat.le_refl _) _ _).drew | exact below_two b4.drew (Nat.le_refl _) _ _
end Go.Proofs.YtidfjinmaiechaaGreatDoor
/- A list of one's own marked, and the marks looked for. -/
namespace Go.Proofs.YtidfjinmaiechaaGreatDoor
open Go.RowKit Go.Shelf Go.Lib
set_option linter.unusedVariables false

/-- What parsing hands back are instructions that are ok. -/
theorem lineOf_ok {ws : List (List UInt8)} {i : InstT} (h : lineOf ws = some i) : okT i = true := by
  unfold lineOf at h
  split at h
  · next hh =>
    have := hh.choose_spec
    rw [Option.some.inj h] at this
    exact this.2.1
  · cases h
theorem pf_ok : ∀ (ls : List (List UInt8)) (n : Nat) (xs : List InstT), (∀ x ∈ xs, okT x = true) → ∀ x ∈ (pf ls n xs).1, okT x = true
  | [], n, xs, h => by rw [pf]; exact h
  | l :: ls, n, xs, h => by
    rw [pf]
    split
    · exact pf_ok ls (n + 1) xs h
    · split
      · intro x hx; simp at hx
      · next i hi =>
        split
        · intro x hx; simp at hx
        · exact pf_ok ls (n + 1) _ (fun x hx => by
            rcases List.mem_append.1 hx with hx | hx
            · exact h x hx
            · simp at hx; rw [hx]; exact lineOf_ok hi)
theorem parse_ok (s : ByteArray) : ∀ x ∈ (parseT s).1, okT x = true := by
  unfold parseT
  split
  · intro x hx; simp at hx
  · exact pf_ok _ _ _ (fun x hx => by simp at hx)
theorem ok_args {x : InstT} (h : okT x = true) : x.one.args.length ≤ 3 := by
  unfold okT okI at h
  split at h
  · cases h
  · split at h
    · simp at h; exact (rtk_3 h.2).2
    · split at h
      · simp at h; exact (rtk_3 h.2).2
      · simp at h; rw [h.2]; simp

theorem flat_dis : ∀ (fs : List (List Nat)), fs.flatten.Nodup → ∀ (i j : Nat) (fi fj : List Nat) (b : Nat), i ≠ j → fs[i]? = some fi → fs[j]? = some fj → b ∈ fi → b ∈ fj → False
  | [], _, i, j, fi, fj, b, _, hi, _, _, _ => by simp at hi
  | f :: fs, h, i, j, fi, fj, b, hij, hi, hj, h1, h2 => by
    rw [List.flatten_cons] at h
    have h' := List.nodup_append.1 h
    match i, j with
    | 0, 0 => exact hij rfl
    | 0, j + 1 =>
      simp at hi hj
      subst hi
      exact h'.2.2 b h1 b (List.mem_flatten.2 ⟨fj, List.mem_of_getElem? hj, h2⟩) rfl
    | i + 1, 0 =>
      simp at hi hj
      subst hj
      exact h'.2.2 b h2 b (List.mem_flatten.2 ⟨fi, List.mem_of_getElem? hi, h1⟩) rfl
    | i + 1, j + 1 =>
      simp at hi hj
      exact flat_dis fs h'.2.1 i j fi fj b (by omega) hi hj h1 h2
theorem each_ix {W : World} {base : Nat} {F : List Nat} {xs : List InstT} {cs : List Value} (h : Each (InstOwn W base) 3 F xs cs) :
    ∃ (fs : List (List Nat)) (vs : List Value), fs.length = xs.length ∧ vs.length = xs.length ∧ F = fs.flatten ∧ ∀ j x, xs[j]? = some x → ∃ v f, vs[j]? = some v ∧ fs[j]? = some f ∧ ArgsOwn W base f v x.one.args ∧ cs[j * 3 + 2]? = some v := by
  induction h with
  | nil => exact ⟨[], [], rfl, rfl, rfl, fun j x hx => by simp at hx⟩
  | @add F xs cs f y c h hc hr ih =>
    obtain ⟨fs, vs, e1, e2, e3, e4⟩ := ih
    obtain ⟨v, rfl, hv⟩ := hr
    refine ⟨fs ++ [f], vs ++ [v], by simp [e1], by simp [e2], by rw [e3]; simp, fun j x hx => ?_⟩
    rcases Nat.lt_or_ge j xs.length with hj | hj
    · rw [List.getElem?_append_left hj] at hx
      obtain ⟨v', f', h1, h2, h3, h4⟩ := e4 j x hx
      refine ⟨v', f', ?_, ?_, h3, ?_⟩
      · rw [List.getElem?_append_left (by omega)]; exact h1
      · rw [List.getElem?_append_left (by omega)]; exact h2
      · rw [List.getElem?_append_left (by have := h.len; omega)]; exact h4
    · rw [List.getElem?_append_right hj] at hx
      have hj0 : j = xs.length := by
        have := (List.getElem?_eq_some_iff.1 hx).1
        simp at this
        omega
      subst hj0
      simp at hx
      subst hx
      refine ⟨v, f, ?_, ?_, hv, ?_⟩
      · rw [List.getElem?_append_right (by omega), e2]; simp
      · rw [List.getElem?_append_right (by omega), e1]; simp
      · rw [List.getElem?_append_right (by have := h.len; omega), h.len]
        have : xs.length * 3 + 2 - xs.length * 3 = 2 := by omega
        rw [this]; rfl

def slv (a : Option (Nat × Nat)) (l : Nat) : Value := match a with | none => .slice none 0 0 | some (b, c) => .slice (some ⟨b, 0, none⟩) l c
def KK (l : Nat → Nat) : Nat → Int
  | 0 => 1
  | n + 1 => KK l n + 2 + 3 * (l n : Int)
theorem KK_in {l : Nat → Nat} {m : Nat} (h : ∀ j, j < m → l j ≤ 3) : ∀ n, n ≤ m → 1 ≤ KK l n ∧ KK l n ≤ 1 + 11 * (n : Int)
  | 0, _ => by simp [KK]
  | n + 1, hn => by
    have h1 := KK_in h n (by omega)
    have h2 := h n (by omega)
    simp only [KK]
    omega
/-- A list of one's own, its first elements marked. -/
structure MRow (W : World) (base g cap m : Nat) (A : Nat → Option (Nat × Nat)) (l : Nat → Nat) (n : Nat) : Prop where
  row : ∃ vs, W.ownsRow base 47 3 (.slice (some ⟨g, 0, none⟩) m cap) m vs ∧ (∀ j, j < m → vs[j * 3 + 2]? = some (slv (A j) (l j))) ∧ ∀ j, j < n → vs[j * 3]? = some (.int .i64 (KK l j)) ∧ vs[j * 3 + 1]? = some (.int .i64 (KK l j + 1))
  arg : ∀ j, j < m → (A j = none ∧ l j = 0) ∨ ∃ b c us, A j = some (b, c) ∧ Row3 W base b c (l j) us ∧ (j < n → Marked (KK l j + 2) (l j * 3) us)
/-- The blocks of a list are apart. -/
structure MApart (g m : Nat) (A : Nat → Option (Nat × Nat)) (l : Nat → Nat) : Prop where
  two : ∀ i j b c b' c', i < m → j < m → i ≠ j → A i = some (b, c) → A j = some (b', c') → b ≠ b'
  top : ∀ i b c, i < m → A i = some (b, c) → b ≠ g
  few : ∀ j, j < m → l j ≤ 3
theorem args_row {W : World} {base : Nat} {f : List Nat} {v : Value} {xs : List ArgT} (h : ArgsOwn W base f v xs) : (v = .slice none 0 0 ∧ xs = [] ∧ f = []) ∨ ∃ b c us, v = .slice (some ⟨b, 0, none⟩) xs.length c ∧ f = [b] ∧ Row3 W base b c xs.length us := by
  obtain ⟨cs, F', h1, h2, rfl⟩ := h
  have hF : F' = [] := by
    clear h2
    induction h1 with
    | nil => rfl
    | add h hc hr ih => rw [ih, hr.1]; rfl
  subst hF
  rcases id h2.2 with ⟨rfl, hn⟩ | ⟨b, cap, cur, rfl, _⟩
  · exact .inl ⟨rfl, List.length_eq_zero_iff.1 hn, rfl⟩
  · exact .inr ⟨b, cap, cs, rfl, rfl, h2⟩
theorem mrow_of {W : World} {base : Nat} {F : List Nat} {v : Value} {xs : List InstT} (h : InstsOwn W base F v xs) (hnd : F.Nodup) (hok : ∀ x ∈ xs, okT x = true) : (v = .slice none 0 0 ∧ xs = []) ∨ ∃ g cap A l, v = .slice (some ⟨g, 0, none⟩) xs.length cap ∧ MRow W base g cap xs.length A l 0 ∧ MApart g xs.length A l := by
  obtain ⟨cs, F', h1, h2, rfl⟩ := h
  rcases id h2.2 with ⟨rfl, hn⟩ | ⟨g, cap, cur, rfl, _⟩
  · exact .inl ⟨rfl, List.length_eq_zero_iff.1 hn⟩
  right
  obtain ⟨fs, vs, e1, e2, e3, e4⟩ := each_ix h1
  have key : ∀ j, ∃ (a : Option (Nat × Nat)) (l : Nat), j < xs.length → cs[j * 3 + 2]? = some (slv a l) ∧ l ≤ 3 ∧ ((a = none ∧ l = 0 ∧ fs[j]? = some []) ∨ ∃ b c us, a = some (b, c) ∧ Row3 W base b c l us ∧ fs[j]? = some [b]) := fun j => by
    by_cases hj : j < xs.length
    · obtain ⟨v, f, k1, k2, k3, k4⟩ := e4 j _ (List.getElem?_eq_getElem hj)
      have hl := ok_args (hok _ (List.getElem_mem hj))
      rcases args_row k3 with ⟨rfl, k5, rfl⟩ | ⟨b, c, us, rfl, rfl, k5⟩
      · exact ⟨none, 0, fun _ => ⟨k4, by omega, .inl ⟨rfl, rfl, k2⟩⟩⟩
      · exact ⟨some (b, c), _, fun _ => ⟨k4, hl, .inr ⟨b, c, us, rfl, k5, k2⟩⟩⟩
    · exact ⟨none, 0, fun h => absurd h hj⟩
  obtain ⟨A, hA⟩ := Classical.axiomOfChoice key
  obtain ⟨l, hl⟩ := Classical.axiomOfChoice hA
  rw [e3] at hnd
  have hnd2 := List.nodup_append.1 hnd
  refine ⟨g, cap, A, l, rfl, ⟨⟨cs, h2, fun j hj => (hl j hj).1, fun j hj => by omega⟩, fun j hj => ?_⟩, ⟨?_, ?_, fun j hj => (hl j hj).2.1⟩⟩
  · rcases (hl j hj).2.2 with ⟨k1, k2, _⟩ | ⟨b, c, us, k1, k2, _⟩
    · exact .inl ⟨k1, k2⟩
    · exact .inr ⟨b, c, us, k1, k2, fun h => by omega⟩
  · intro i j b c b' c' hi hj hij h3 h4 e
    rcases (hl i hi).2.2 with ⟨k1, _, _⟩ | ⟨b1, c1, us1, k1, _, k2⟩
    · rw [k1] at h3; cases h3
    · rcases (hl j hj).2.2 with ⟨k3, _, _⟩ | ⟨b2, c2, us2, k3, _, k4⟩
      · rw [k3] at h4; cases h4
      · rw [k1] at h3; rw [k3] at h4
        simp only [Option.some.injEq, Prod.mk.injEq] at h3 h4
        exact flat_dis fs hnd2.2.1 i j _ _ b hij k2 k4 (by rw [h3.1]; simp) (by rw [e, h4.1]; simp)
  · intro i b c hi h3 e
    rcases (hl i hi).2.2 with ⟨k1, _, _⟩ | ⟨b1, c1, us1, k1, _, k2⟩
    · rw [k1] at h3; cases h3
    · rw [k1] at h3
      simp only [Option.some.injEq, Prod.mk.injEq] at h3
      exact hnd2.2.2 g (by simp [Value.ownBlock]) b (List.mem_flatten.2 ⟨_, List.mem_of_getElem? k2, by rw [h3.1]; simp⟩) e.symm
theorem row3_kept {W W' : World} {base b c n : Nat} {us : List Value} {row : Option Nat} (h : Row3 W base b c n us) (g : W.grownBy W' row) (hne : some b ≠ row) : Row3 W' base b c n us := World.ownsRow.kept h g (.inr (by simpa [Value.ownBlock] using hne))
theorem row3_below {wb W : World} {b c n : Nat} {us : List Value} (h : Row3 W wb.heap.size b c n us) : wb.heap.size ≤ b := (World.ownsRow.lt h b rfl).1
/-- One more element marked. -/
theorem mrow_step {W W2 W3 : World} {base g cap m n : Nat} {A : Nat → Option (Nat × Nat)} {l : Nat → Nat} (h : MRow W base g cap m A l n) (hD : MApart g m A l) (hn : n < m)
    (hW2 : W2 = (W.setCell ⟨g, n * 3, none⟩ (.int .i64 (KK l n))).setCell ⟨g, n * 3 + 1, none⟩ (.int .i64 (KK l n + 1)))
    (hM : (A n = none ∧ W3 = W2) ∨ ∃ b c us, A n = some (b, c) ∧ Row3 W3 base b c (l n) us ∧ Marked (KK l n + 2) (l n * 3) us ∧ W2.grownBy W3 (some b)) : MRow W3 base g cap m A l (n + 1) := by
  obtain ⟨⟨vs, r1, r2, r3⟩, ha⟩ := h
  have hvl : vs.length = m * 3 := r1.1
  have s1 := r1.stored (n * 3) (.int .i64 (KK l n))
  have s2 := s1.1.stored (n * 3 + 1) (.int .i64 (KK l n + 1))
  rw [← hW2] at s2
  have G2 : W.grownBy W2 (some g) := gb_step s1.2 s2.2
  have R2 : W2.ownsRow base 47 3 (.slice (some ⟨g, 0, none⟩) m cap) m ((vs.set (n * 3) (.int .i64 (KK l n))).set (n * 3 + 1) (.int .i64 (KK l n + 1))) := s2.1
  have A2 : ∀ j, j < m → (A j = none ∧ l j = 0) ∨ ∃ b c us, A j = some (b, c) ∧ Row3 W2 base b c (l j) us ∧ (j < n → Marked (KK l j + 2) (l j * 3) us) := fun j hj => by
    rcases ha j hj with h | ⟨b, c, us, h1, h2, h3⟩
    · exact .inl h
    · exact .inr ⟨b, c, us, h1, row3_kept h2 G2 (by have := hD.top j b c hj h1; simpa using this), h3⟩
  have R3 : ∀ j, j < m → ((vs.set (n * 3) (.int .i64 (KK l n))).set (n * 3 + 1) (.int .i64 (KK l n + 1)))[j * 3 + 2]? = some (slv (A j) (l j)) := fun j hj => by
    rw [List.getElem?_set_ne (by omega), List.getElem?_set_ne (by omega)]; exact r2 j hj
  have R4 : ∀ j, j < n + 1 → ((vs.set (n * 3) (.int .i64 (KK l n))).set (n * 3 + 1) (.int .i64 (KK l n + 1)))[j * 3]? = some (.int .i64 (KK l j)) ∧ ((vs.set (n * 3) (.int .i64 (KK l n))).set (n * 3 + 1) (.int .i64 (KK l n + 1)))[j * 3 + 1]? = some (.int .i64 (KK l j + 1)) := fun j hj => by
    by_cases e : j = n
    · subst e
      refine ⟨?_, ?_⟩
      · rw [List.getElem?_set_ne (by omega), List.getElem?_set_self (by omega)]
      · rw [List.getElem?_set_self (by simp; omega)]
    · have := r3 j (by omega)
      refine ⟨?_, ?_⟩
      · rw [List.getElem?_set_ne (by omega), List.getElem?_set_ne (by omega)]; exact this.1
      · rw [List.getElem?_set_ne (by omega), List.getElem?_set_ne (by omega)]; exact this.2
  rcases hM with ⟨k1, rfl⟩ | ⟨b, c, us, k1, k2, k3, k4⟩
  · refine ⟨⟨_, R2, R3, R4⟩, fun j hj => ?_⟩
    rcases A2 j hj with h | ⟨b, c, us, h1, h2, h3⟩
    · exact .inl h
    · refine .inr ⟨b, c, us, h1, h2, fun hjn => ?_⟩
      by_cases e : j = n
      · rw [e, k1] at h1; cases h1
      · exact h3 (by omega)
  · refine ⟨⟨_, World.ownsRow.kept R2 k4 (.inr (by have := hD.top n b c hn k1; simp [Value.ownBlock]; exact fun e => this e.symm)), R3, R4⟩, fun j hj => ?_⟩
    by_cases e : j = n
    · subst e
      exact .inr ⟨b, c, us, k1, k2, fun _ => k3⟩
    · rcases A2 j hj with h | ⟨b', c', us', h1, h2, h3⟩
      · exact .inl h
      · refine .inr ⟨b', c', us', h1, row3_kept h2 k4 (by have := hD.two j n b' c' b c hj hn e h1 k1; simpa using this), fun hjn => h3 (by omega)⟩
theorem marked_two {m : Int} {n : Nat} {vs : List Value} (h : Marked (m + 1 + 1) n vs) : Marked (m + 2) n vs := fun j hj => by
  rw [h j hj]
  congr 2; omega

set_option maxRecDepth 10000 in
set_option maxHeartbeats 4000000 in
theorem markL (wb w : World) (g cap m : Nat) (A : Nat → Option (Nat × Nat)) (l : Nat → Nat) (hm : m ≤ 1000) (h : MRow w wb.heap.size g cap m A l 0) (hD : MApart g m A l) (hB : Below wb.heap.size wb w) :
    Calls Tryz.prog 13 #[.slice (some ⟨g, 0, none⟩) m cap, .int .i64 1] w fun e w' => e = .returned (.int .i64 (KK l m)) ∧ MRow w' wb.heap.size g cap m A l m ∧ Below wb.heap.size wb w' := by
  have HD : Hid (MApart g m A l) := hD
  have HST : Hid (MRow w wb.heap.size g cap m A l 0 ∧ Below wb.heap.size wb w) := ⟨h, hB⟩
  clear h hD hB
  go_enter Tryz.func13, Tryz.ntmps13
  go_wp2
  go_loopg [1, 5] m (fun gg k i wr => ∃ (n : Nat) (K : Int), n + gg = m ∧ i = .int .i64 n ∧ k = .int .i64 K ∧ Hid (K = KK l n) ∧ 0 ≤ K ∧ K ≤ 20000 ∧ Hid (MRow wr wb.heap.size g cap m A l n ∧ Below wb.heap.size wb wr))
  case atStart => exact ⟨0, 1, by omega, rfl, rfl, rfl, by omega, by omega, HST⟩
  case round =>
    clear HST
    obtain ⟨n, K, hn, rfl, rfl, HK, hK0, hK1, HR⟩ := hrel
    by_cases hlt : n < m
    · have i1 : (n : Int) < (m : Int) := by omega
      have i2 : (0 : Int) ≤ (n : Int) := by omega
      obtain ⟨vs, r1, r2, r3⟩ := HR.out.1.row
      have hvl : vs.length = m * 3 := r1.1
      have s1 := r1.stored (n * 3) (.int .i64 K)
      have s2 := s1.1.stored (n * 3 + 1) (.int .i64 (K + 1))
      obtain ⟨x0, c0⟩ : ∃ x, wr.cell? ⟨g, n * 3, none⟩ = some x := ⟨_, (r1.cellAt _ (by omega)).trans (List.getElem?_eq_getElem (by omega))⟩
      obtain ⟨x1, c1⟩ : ∃ x, (wr.setCell ⟨g, n * 3, none⟩ (.int .i64 K)).cell? ⟨g, n * 3 + 1, none⟩ = some x := ⟨_, (s1.1.cellAt _ (by omega)).trans (List.getElem?_eq_getElem (by simp; omega))⟩
      have f0 := r1.frozenAt (n * 3)
      have f1 := s1.1.frozenAt (n * 3 + 1)
      obtain ⟨W2, HW2⟩ : ∃ W, Hid (W = (wr.setCell ⟨g, n * 3, none⟩ (.int .i64 K)).setCell ⟨g, n * 3 + 1, none⟩ (.int .i64 (K + 1))) := ⟨_, rfl⟩
      have c2 : ((wr.setCell ⟨g, n * 3, none⟩ (.int .i64 K)).setCell ⟨g, n * 3 + 1, none⟩ (.int .i64 (K + 1))).cell? ⟨g, n * 3 + 1 + 1, none⟩ = some (slv (A n) (l n)) := by
        have := s2.1.cellAt (n * 3 + 2) (by omega)
        rw [List.getElem?_set_ne (by omega), List.getElem?_set_ne (by omega), r2 n hlt] at this
        exact this
      have G2 : wr.grownBy ((wr.setCell ⟨g, n * 3, none⟩ (.int .i64 K)).setCell ⟨g, n * 3 + 1, none⟩ (.int .i64 (K + 1))) (some g) := gb_step s1.2 s2.2
      have hgb : wb.heap.size ≤ g := (r1.lt g rfl).1
      have HB2 : Hid (Below wb.heap.size wb ((wr.setCell ⟨g, n * 3, none⟩ (.int .i64 K)).setCell ⟨g, n * 3 + 1, none⟩ (.int .i64 (K + 1)))) := (HR.out.2.setCell (p := ⟨g, n * 3, none⟩) hgb _).setCell (p := ⟨g, n * 3 + 1, none⟩) hgb _
      have HS : Hid (∀ W3, ((A n = none ∧ W3 = (wr.setCell ⟨g, n * 3, none⟩ (.int .i64 K)).setCell ⟨g, n * 3 + 1, none⟩ (.int .i64 (K + 1))) ∨ ∃ b c us, A n = some (b, c) ∧ Row3 W3 wb.heap.size b c (l n) us ∧ Marked (KK l n + 2) (l n * 3) us ∧ ((wr.setCell ⟨g, n * 3, none⟩ (.int .i64 K)).setCell ⟨g, n * 3 + 1, none⟩ (.int .i64 (K + 1))).grownBy W3 (some b)) → MRow W3 wb.heap.size g cap m A l (n + 1)) := fun W3 hM => mrow_step HR.out.1 HD.out hlt (by rw [← HK.out]) hM
      have hb := KK_in (fun j hj => HD.out.few j hj) n (by omega)
      have hl3 := HD.out.few n hlt
      rcases HR.out.1.arg n hlt with ⟨k1, k2⟩ | ⟨b, c, us, k1, k2, _⟩
      · have HN : Hid (K + 1 + 1 = KK l (n + 1)) := by show K + 1 + 1 = KK l (n + 1); simp only [KK]; rw [HK.out, k2]; omega
        have HF : Hid (MRow ((wr.setCell ⟨g, n * 3, none⟩ (.int .i64 K)).setCell ⟨g, n * 3 + 1, none⟩ (.int .i64 (K + 1))) wb.heap.size g cap m A l (n + 1)) := HS.out _ (.inl ⟨k1, rfl⟩)
        rw [k1] at c2
        simp only [slv] at c2
        have hK2 : K + 1 + 1 ≤ 20000 := by rw [HK.out]; omega
        clear r1 r2 r3 s1 s2 hvl G2 HS k1 k2 hb HW2
        go_wp2_with fail
        refine (mark_none _ _).mono ?_
        rintro e w5 ⟨rfl, rfl⟩
        go_wp2
        go_roundg (gk - 1)
        case measure => omega
        case rel => exact ⟨n + 1, K + 1 + 1, by omega, by go_num, rfl, HN, by omega, hK2, HF.out, HB2.out⟩
      · have ht := HD.out.top n b c hlt k1
        have k3 := row3_kept k2 G2 (by simpa using ht)
        have HMk : Hid (Calls Tryz.prog 28 #[.slice (some ⟨b, 0, none⟩) (l n) c, .int .i64 (K + 1 + 1)] ((wr.setCell ⟨g, n * 3, none⟩ (.int .i64 K)).setCell ⟨g, n * 3 + 1, none⟩ (.int .i64 (K + 1))) fun e w' => ∃ vs', e = .returned (.int .i64 (K + 1 + 1 + 3 * (l n : Int))) ∧ Row3 w' wb.heap.size b c (l n) vs' ∧ Marked (K + 1 + 1) (l n * 3) vs' ∧ ((wr.setCell ⟨g, n * 3, none⟩ (.int .i64 K)).setCell ⟨g, n * 3 + 1, none⟩ (.int .i64 (K + 1))).grownBy w' (some b)) := mark_r wb.heap.size b c (l n) (K + 1 + 1) us _ (by omega) (by omega) (by omega) k3
        have hbb := row3_below k2
        rw [k1] at c2
        simp only [slv] at c2
        have HK1 : Hid (A n = some (b, c)) := k1
        have hK2 : K + 1 + 1 + 3 * (l n : Int) ≤ 20000 := by rw [HK.out]; omega
        have HN : Hid (K + 1 + 1 + 3 * (l n : Int) = KK l (n + 1)) := by show _ = KK l (n + 1); simp only [KK]; rw [HK.out]; omega
        generalize l n = ln at HMk c2 hK2 HN hl3 HS
        clear r1 r2 r3 s1 s2 hvl G2 k1 k2 k3 hb HW2
        go_wp2_with fail
        refine HMk.out.mono ?_
        rintro e w5 ⟨vs', rfl, q1, q2, q3⟩
        have HF : Hid (MRow w5 wb.heap.size g cap m A l (n + 1)) := HS.out _ (.inr ⟨b, c, vs', HK1.out, q1, by rw [← HK.out]; exact marked_two q2, q3⟩)
        have HB5 : Hid (Below wb.heap.size wb w5) := HB2.out.grown q3 HB2.out.size (fun j hj => by simp at hj; omega)
        clear q1 q2 q3 HMk c0 c1 c2 f0 f1
        go_wp2
        go_roundg (gk - 1)
        case measure => omega
        case rel => exact ⟨n + 1, _, by omega, by go_num, rfl, HN, by omega, hK2, HF.out, HB5.out⟩
    · have i1 : ¬ ((n : Int) < (m : Int)) := by omega
      have hqn : n = m := by omega
      have HKn : Hid (K = KK l m) := (by rw [← hqn]; exact HK.out : K = KK l m)
      have HMn : Hid (MRow wr wb.heap.size g cap m A l m ∧ Below wb.heap.size wb wr) := (by have := HR.out; rwa [hqn] at this : MRow wr wb.heap.size g cap m A l m ∧ Below wb.heap.size wb wr)
      clear hqn HK HR
      go_wp2
      go_ret
      exact ⟨(by show Ending.returned (.int .i64 K) = _; rw [HKn.out]), HMn.out.1, HMn.out.2⟩

set_option maxRecDepth 10000 in
set_option maxHeartbeats 4000000 in
theorem heldL (base : Nat) (w : World) (g cap m : Nat) (A : Nat → Option (Nat × Nat)) (l : Nat → Nat) (hm : m ≤ 1000) (h : MRow w base g cap m A l m) (hD : MApart g m A l) :
    Calls Tryz.prog 14 #[.slice (some ⟨g, 0, none⟩) m cap, .int .i64 1] w fun e w' => e = .returned (.int .i64 (KK l m)) ∧ w' = w := by
  have HD : Hid (MApart g m A l) := hD
  have HM : Hid (MRow w base g cap m A l m) := h
  clear h hD
  go_enter Tryz.func14, Tryz.ntmps14
  go_wp2
  go_loopg [1, 5] m (fun gg k i wr => ∃ (n : Nat) (K : Int), n + gg = m ∧ i = .int .i64 n ∧ k = .int .i64 K ∧ Hid (K = KK l n) ∧ 0 ≤ K ∧ K ≤ 20000 ∧ wr = w)
  case atStart => exact ⟨0, 1, by omega, rfl, rfl, rfl, by omega, by omega, rfl⟩
  case round =>
    obtain ⟨n, K, hn, rfl, rfl, HK, hK0, hK1, rfl⟩ := hrel
    by_cases hlt : n < m
    · have i1 : (n : Int) < (m : Int) := by omega
      have i2 : (0 : Int) ≤ (n : Int) := by omega
      obtain ⟨vs, r1, r2, r3⟩ := HM.out.row
      have c0 : wr.cell? ⟨g, n * 3, none⟩ = some (.int .i64 K) := by rw [r1.cellAt _ (by omega), (r3 n hlt).1, HK.out]
      have c1 : wr.cell? ⟨g, n * 3 + 1, none⟩ = some (.int .i64 (K + 1)) := by rw [r1.cellAt _ (by omega), (r3 n hlt).2, HK.out]
      have c2 : wr.cell? ⟨g, n * 3 + 1 + 1, none⟩ = some (slv (A n) (l n)) := by
        have := r1.cellAt (n * 3 + 2) (by omega)
        rw [r2 n hlt] at this
        exact this
      have hb := KK_in (fun j hj => HD.out.few j hj) n (by omega)
      have hl3 := HD.out.few n hlt
      rcases HM.out.arg n hlt with ⟨k1, k2⟩ | ⟨b, c, us, k1, k2, k3⟩
      · have HN : Hid (K + 1 + 1 = KK l (n + 1)) := by show K + 1 + 1 = KK l (n + 1); simp only [KK]; rw [HK.out, k2]; omega
        rw [k1] at c2
        simp only [slv] at c2
        have hK2 : K + 1 + 1 ≤ 20000 := by rw [HK.out]; omega
        have j1 : ¬ (K + 1 + 1 < 0) := by omega
        clear r1 r2 r3 k1 k2 hb
        go_wp2_with fail
        refine (held_none _ _).mono ?_
        rintro e w5 ⟨rfl, rfl⟩
        go_wp2
        go_roundg (gk - 1)
        case measure => omega
        case rel => exact ⟨n + 1, K + 1 + 1, by omega, by go_num, rfl, HN, by omega, hK2, rfl⟩
      · have k4 : Marked (K + 1 + 1) (l n * 3) us := fun j hj => by
          rw [k3 hlt j hj, HK.out]
          congr 2; omega
        have HMk : Hid (Calls Tryz.prog 29 #[.slice (some ⟨b, 0, none⟩) (l n) c, .int .i64 (K + 1 + 1)] wr fun e w' => e = .returned (.int .i64 (K + 1 + 1 + 3 * (l n : Int))) ∧ w' = wr) := held_r base b c (l n) (K + 1 + 1) us wr (by omega) (by omega) (by omega) k2 k4
        rw [k1] at c2
        simp only [slv] at c2
        have hK2 : K + 1 + 1 + 3 * (l n : Int) ≤ 20000 := by rw [HK.out]; omega
        have HN : Hid (K + 1 + 1 + 3 * (l n : Int) = KK l (n + 1)) := by show _ = KK l (n + 1); simp only [KK]; rw [HK.out]; omega
        generalize l n = ln at HMk c2 hK2 HN hl3
        have j1 : ¬ (K + 1 + 1 + 3 * (ln : Int) < 0) := by omega
        clear r1 r2 r3 k1 k2 k3 k4 hb
        go_wp2_with fail
        refine HMk.out.mono ?_
        rintro e w5 ⟨rfl, rfl⟩
        clear HMk c0 c1 c2
        go_wp2
        go_roundg (gk - 1)
        case measure => omega
        case rel => exact ⟨n + 1, _, by omega, by go_num, rfl, HN, by omega, hK2, rfl⟩
    · have i1 : ¬ ((n : Int) < (m : Int)) := by omega
      have hqn : n = m := by omega
      have HKn : Hid (K = KK l m) := (by rw [← hqn]; exact HK.out : K = KK l m)
      clear hqn HK
      go_wp2
      go_ret
      exact ⟨(by show Ending.returned (.int .i64 K) = _; rw [HKn.out]), rfl⟩

theorem markL_none (w : World) (m : Int) : Calls Tryz.prog 13 #[.slice none 0 0, .int .i64 m] w fun e w' => e = .returned (.int .i64 m) ∧ w' = w := by
  go_enter Tryz.func13, Tryz.ntmps13
  go_wp2
  go_loopg [1, 5] 0 (fun gg k i wr => i = .int .i64 0 ∧ k = .int .i64 m ∧ wr = w)
  case atStart => exact ⟨rfl, rfl, rfl⟩
  case round =>
    obtain ⟨rfl, rfl, rfl⟩ := hrel
    go_wp2
    go_ret
    exact ⟨rfl, rfl⟩
theorem heldL_none (w : World) (m : Int) : Calls Tryz.prog 14 #[.slice none 0 0, .int .i64 m] w fun e w' => e = .returned (.int .i64 m) ∧ w' = w := by
  go_enter Tryz.func14, Tryz.ntmps14
  go_wp2
  go_loopg [1, 5] 0 (fun gg k i wr => i = .int .i64 0 ∧ k = .int .i64 m ∧ wr = w)
  case atStart => exact ⟨rfl, rfl, rfl⟩
  case round =>
    obtain ⟨rfl, rfl, rfl⟩ := hrel
    go_wp2
    go_ret
    exact ⟨rfl, rfl⟩
end Go.Proofs.YtidfjinmaiechaaGreatDoor
/- The law FnExactListParse. -/
namespace Go.Proofs.YtidfjinmaiechaaGreatDoor
open Go.RowKit Go.Shelf
set_option linter.unusedVariables false

set_option maxHeartbeats 1000000 in
theorem eq_fault (l c : Int) (w : World) : Calls Tryz.prog 12 #[.agg #[.int .i64 l, .int .i64 c], .agg #[.int .i64 l, .int .i64 c]] w fun e w' => e = .returned (.bool true) ∧ Below w.heap.size w w' := by
  have b2 : ∀ A B, Below w.heap.size w ((w.alloc A).alloc B) := fun A B => ((Below.refl _ _).alloc (Nat.le_refl _) _).alloc (by simp) _
  go_enter Tryz.func12, Tryz.ntmps12
  go_wp2
  go_ret
  exact ⟨rfl, b2 _ _⟩
/-- What marks and looks for marks, at a list of one's own. -/
theorem mark_both (wb w : World) (F : List Nat) (a : Option Addr) (m cp : Nat) (xs : List InstT) (h : InstsOwn w wb.heap.size F (.slice a m cp) xs) (hnd : F.Nodup) (hok : ∀ x ∈ xs, okT x = true) (hx : xs.length ≤ 1000) (hB : Below wb.heap.size wb w) :
    ∃ (K : Int) (Q : World → Prop), 1 ≤ K ∧ Calls Tryz.prog 13 #[.slice a m cp, .int .i64 1] w (fun e w' => e = .returned (.int .i64 K) ∧ Q w' ∧ Below wb.heap.size wb w') ∧
      (∀ W, Q W → Calls Tryz.prog 14 #[.slice a m cp, .int .i64 1] W fun e w' => e = .returned (.int .i64 K) ∧ w' = W) ∧ ∀ W W', Q W → Below W.heap.size W W' → Q W' := by
  rcases mrow_of h hnd hok with ⟨h1, h2⟩ | ⟨g, cap, A, l, h1, h2, h3⟩
  · simp only [Value.slice.injEq] at h1
    obtain ⟨rfl, rfl, rfl⟩ := h1
    exact ⟨1, fun _ => True, by omega, (markL_none w 1).mono fun e w' ⟨e1, e2⟩ => ⟨e1, trivial, by rw [e2]; exact hB⟩, fun W _ => heldL_none W 1, fun _ _ _ _ => trivial⟩
  · simp only [Value.slice.injEq] at h1
    obtain ⟨rfl, rfl, rfl⟩ := h1
    refine ⟨KK l xs.length, fun W => MRow W wb.heap.size g cp xs.length A l xs.length, (KK_in (fun j hj => h3.few j hj) _ (Nat.le_refl _)).1, (markL wb w g cp xs.length A l hx h2 h3 hB).mono fun e w' ⟨e1, e2, e3⟩ => ⟨e1, e2, e3⟩, fun W hW => heldL wb.heap.size W g cp xs.length A l hx hW h3, fun W W' hW gW => ?_⟩
    obtain ⟨⟨vs, r1, r2, r3⟩, ha⟩ := hW
    refine ⟨⟨vs, owns_later r1 gW, r2, r3⟩, fun j hj => ?_⟩
    rcases ha j hj with h | ⟨b, c, us, k1, k2, k3⟩
    · exact .inl h
    · exact .inr ⟨b, c, us, k1, owns_later k2 gW, k3⟩

set_option maxRecDepth 10000 in
set_option maxHeartbeats 8000000 in
theorem law_lparse (s : ByteArray) (w : World) (hT : Tabs w) (hL : LT w) (hM : ML w) (hH : EH w) :
    Calls Tryz.prog 4 #[.string s] w fun e w' => e = .returned (.bool true) ∧ Below w.heap.size w w' := by
  by_cases hs : 1048576 < s.size
  · have i1 : (1048576 : Int) < (s.size : Int) := by omega
    go_enter Tryz.func4, Tryz.ntmps4
    go_wp2
    go_ret
    exact ⟨rfl, Below.refl _ _⟩
  have i1 : ¬ ((1048576 : Int) < (s.size : Int)) := by omega
  have HTs : Hid (Tabs w ∧ LT w ∧ ML w ∧ EH w) := ⟨hT, hL, hM, hH⟩
  have HPi : Hid (∀ W, Below w.heap.size w W → Calls Tryz.prog 11 #[.string s] W fun e w' => PR s W e w') := fun W g => parse_i s W (by omega) (HTs.out.1.later g) (HTs.out.2.1.later g) (HTs.out.2.2.1.later g) (HTs.out.2.2.2.later g)
  have HPs : Hid (∀ W, Calls Tryz.prog 10 #[.string s] W fun e w' => PR s W e w') := fun W => lparse s W (by omega)
  obtain ⟨xs, Hxs⟩ : ∃ x, Hid (x = (parseT s).1) := ⟨_, rfl⟩
  obtain ⟨ln, Hln⟩ : ∃ x, Hid (x = (parseT s).2.1) := ⟨_, rfl⟩
  obtain ⟨cd, Hcd⟩ : ∃ x, Hid (x = (parseT s).2.2) := ⟨_, rfl⟩
  have HPR : Hid (∀ (W : World) (e : Ending) (w' : World), PR s W e w' → ∃ (F : List Nat) (a : Option Addr) (m cp : Nat), e = .returned (.tuple #[.slice a m cp, .agg #[.int .i64 ln, .int .i64 cd]]) ∧ InstsOwn w' W.heap.size F (.slice a m cp) xs ∧ F.Nodup ∧ xs.length ≤ 1000 ∧ Below W.heap.size W w') := fun W e w' h => by
    obtain ⟨ys, l', c', F, a, m, cp, h1, h2, h3, h4, h5, h6⟩ := h
    have e1 : xs = ys := by rw [Hxs.out, h1]
    have e2 : ln = l' := by rw [Hln.out, h1]
    have e3 : cd = c' := by rw [Hcd.out, h1]
    subst e1 e2 e3
    exact ⟨F, a, m, cp, h2, h3, h4, h5, h6⟩
  have HOk : Hid (∀ x ∈ xs, okT x = true) := by rw [Hxs.out]; exact parse_ok s
  have HEq : Hid (∀ W v v', InstsIs W 0 v xs → InstsIs W 0 v' xs → Calls Tryz.prog 9 #[v, v'] W fun e w' => e = .returned (.bool true) ∧ Below W.heap.size W w') := fun W v v' h h' => by
    have := eq_insts v v' xs xs W 0 0 h h'
    rwa [eqB_refl] at this
  clear hT hL hM hH Hxs Hln Hcd
  go_enter Tryz.func4, Tryz.ntmps4
  go_wp2_with fail
  refine (HPs.out w).mono ?_
  intro e w1 h1
  obtain ⟨F0, a0, m0, cp0, rfl, hO0, _, _, g1⟩ := HPR.out _ _ _ h1
  have HV0 : Hid (InstsIs w1 0 (.slice a0 m0 cp0) xs) := hO0.is (Nat.zero_le _)
  obtain ⟨W1, HW1⟩ : ∃ W, Hid (W = w1.alloc (.cells #[.int .i64 ln, .int .i64 cd] 30)) := ⟨_, rfl⟩
  have HS1 : Hid ((storeVar 30 ⟨w1.heap.size, 0, none⟩ (.agg #[.int .i64 ln, .int .i64 cd])).run Tryz.prog (w1.alloc (.cells #[.int .i64 0, .int .i64 0] 30)) = .ok () W1) := by
    rw [HW1.out]
    exact run_storeVar_new w1 30 _ _ (by kernel_rfl) rfl (all_one [.int .i64 ln, .int .i64 cd] (by intro d hd; simp at hd; rcases hd with rfl | rfl <;> rfl))
  have k1 : W1.heap[w1.heap.size]? = some (.cells #[.int .i64 ln, .int .i64 cd] 30 (0, 0)) := by rw [HW1.out]; exact heap_alloc_last w1 _
  have gW1 : Below w1.heap.size w1 W1 := by rw [HW1.out]; exact (Below.refl _ _).alloc (Nat.le_refl _) _
  have b1 : Below w.heap.size w W1 := g1.trans (gW1.mono g1.size)
  have HV1 : Hid (InstsIs W1 0 (.slice a0 m0 cp0) xs) := instsIs_move (Keeps.of_below gW1 0) (Nat.le_refl _) HV0.out
  have HB1 : Hid (Below w.heap.size w W1 ∧ W1.heap[w1.heap.size]? = some (.cells #[.int .i64 ln, .int .i64 cd] 30 (0, 0))) := ⟨b1, k1⟩
  clear h1 hO0 g1 HV0 HW1 gW1 b1 k1
  go_wp2_with (first | (refine wpL_store rfl 30 _ _ rfl _ _ rfl _ rfl _ HS1.out ?_) | fail)
  refine (HPi.out W1 HB1.out.1).mono ?_
  intro e w2 h2
  obtain ⟨F1, a1, m1, cp1, rfl, hO1, hnd1, hx1, g2⟩ := HPR.out _ _ _ h2
  obtain ⟨W2, HW2⟩ : ∃ W, Hid (W = w2.alloc (.cells #[.int .i64 ln, .int .i64 cd] 30)) := ⟨_, rfl⟩
  have HS2 : Hid ((storeVar 30 ⟨w2.heap.size, 0, none⟩ (.agg #[.int .i64 ln, .int .i64 cd])).run Tryz.prog (w2.alloc (.cells #[.int .i64 0, .int .i64 0] 30)) = .ok () W2) := by
    rw [HW2.out]
    exact run_storeVar_new w2 30 _ _ (by kernel_rfl) rfl (all_one [.int .i64 ln, .int .i64 cd] (by intro d hd; simp at hd; rcases hd with rfl | rfl <;> rfl))
  have k2 : W2.heap[w2.heap.size]? = some (.cells #[.int .i64 ln, .int .i64 cd] 30 (0, 0)) := by rw [HW2.out]; exact heap_alloc_last w2 _
  have gW2 : Below w2.heap.size w2 W2 := by rw [HW2.out]; exact (Below.refl _ _).alloc (Nat.le_refl _) _
  have gA : Below W1.heap.size W1 W2 := g2.trans (gW2.mono g2.size)
  have k1b : W2.heap[w1.heap.size]? = some (.cells #[.int .i64 ln, .int .i64 cd] 30 (0, 0)) := (gA.block _ (Array.getElem?_eq_some_iff.1 HB1.out.2).1).trans HB1.out.2
  have HV2 : Hid (InstsIs W2 0 (.slice a0 m0 cp0) xs) := instsIs_move (Keeps.of_below gA 0) (Nat.le_refl _) HV1.out
  have hO2 : InstsOwn W2 W1.heap.size F1 (.slice a1 m1 cp1) xs := hO1.later gW2
  have HO2 : Hid (InstsOwn W2 W1.heap.size F1 (.slice a1 m1 cp1) xs ∧ F1.Nodup ∧ xs.length ≤ 1000 ∧ Below W1.heap.size W1 W2) := ⟨hO2, hnd1, hx1, gA⟩
  have HU2 : Hid (InstsIs W2 0 (.slice a1 m1 cp1) xs) := hO2.is (Nat.zero_le _)
  have HK2 : Hid (W2.heap[w1.heap.size]? = some (.cells #[.int .i64 ln, .int .i64 cd] 30 (0, 0)) ∧ W2.heap[w2.heap.size]? = some (.cells #[.int .i64 ln, .int .i64 cd] 30 (0, 0))) := ⟨k1b, k2⟩
  clear h2 hO1 hnd1 hx1 g2 HW2 gW2 k1b hO2 gA k2 HS1
  go_wp2_with (first | (refine wpL_store rfl 30 _ _ rfl _ _ rfl _ rfl _ HS2.out ?_) | fail)
  refine (HEq.out W2 _ _ HU2.out HV2.out).mono ?_
  rintro e w3 ⟨rfl, g3⟩
  have kA := (g3.block _ (Array.getElem?_eq_some_iff.1 HK2.out.1).1).trans HK2.out.1
  have kB := (g3.block _ (Array.getElem?_eq_some_iff.1 HK2.out.2).1).trans HK2.out.2
  have cA0 : w3.cell? ⟨w1.heap.size, 0, none⟩ = some (.int .i64 ln) := (cell_of_row _ _ _ _ _ _ kA).trans rfl
  have cA1 : w3.cell? ⟨w1.heap.size, 1, none⟩ = some (.int .i64 cd) := (cell_of_row _ _ _ _ _ _ kA).trans rfl
  have cB0 : w3.cell? ⟨w2.heap.size, 0, none⟩ = some (.int .i64 ln) := (cell_of_row _ _ _ _ _ _ kB).trans rfl
  have cB1 : w3.cell? ⟨w2.heap.size, 1, none⟩ = some (.int .i64 cd) := (cell_of_row _ _ _ _ _ _ kB).trans rfl
  have HG3 : Hid (Below W2.heap.size W2 w3 ∧ w3.heap[w1.heap.size]? = some (.cells #[.int .i64 ln, .int .i64 cd] 30 (0, 0))) := ⟨g3, kA⟩
  clear g3 kA kB HS2
  go_wp2_with fail
  refine (eq_fault ln cd _).mono ?_
  rintro e w4 ⟨rfl, g4⟩
  have gC := HG3.out.1.trans (g4.mono HG3.out.1.size)
  have gD : Below W1.heap.size W1 w4 := HO2.out.2.2.2.trans (gC.mono HO2.out.2.2.2.size)
  obtain ⟨K, Q, hK1, hMk, hHd, hQl⟩ := mark_both W1 w4 F1 a1 m1 cp1 xs (HO2.out.1.later gC) HO2.out.2.1 HOk.out HO2.out.2.2.1 gD
  have HMk : Hid (Calls Tryz.prog 13 #[.slice a1 m1 cp1, .int .i64 1] w4 (fun e w' => e = .returned (.int .i64 K) ∧ Q w' ∧ Below W1.heap.size W1 w')) := hMk
  have HHd : Hid (∀ W, Q W → Calls Tryz.prog 14 #[.slice a1 m1 cp1, .int .i64 1] W fun e w' => e = .returned (.int .i64 K) ∧ w' = W) := hHd
  have HQl : Hid (∀ W W', Q W → Below W.heap.size W W' → Q W') := hQl
  have j1 : ¬ (K < 0) := by omega
  clear cA0 cA1 cB0 cB1 g4 gC gD hMk hHd hQl
  go_wp2_with fail
  refine HMk.out.mono ?_
  rintro e w5 ⟨rfl, hQ5, g5⟩
  have HQ5 : Hid (Q w5 ∧ Below W1.heap.size W1 w5) := ⟨hQ5, g5⟩
  clear hQ5 g5 HMk
  go_wp2_with fail
  refine (HHd.out w5 HQ5.out.1).mono ?_
  rintro e w6 ⟨rfl, rfl⟩
  have HB6 : Hid (Below w.heap.size w w6) := HB1.out.1.trans (HQ5.out.2.mono HB1.out.1.size)
  go_wp2_with fail
  refine (HPi.out w6 HB6.out).mono ?_
  intro e w7 h7
  obtain ⟨F2, a2, m2, cp2, rfl, hO7, _, _, g7⟩ := HPR.out _ _ _ h7
  obtain ⟨W7, HW7⟩ : ∃ W, Hid (W = w7.alloc (.cells #[.int .i64 ln, .int .i64 cd] 30)) := ⟨_, rfl⟩
  have HS7 : Hid ((storeVar 30 ⟨w7.heap.size, 0, none⟩ (.agg #[.int .i64 ln, .int .i64 cd])).run Tryz.prog (w7.alloc (.cells #[.int .i64 0, .int .i64 0] 30)) = .ok () W7) := by
    rw [HW7.out]
    exact run_storeVar_new w7 30 _ _ (by kernel_rfl) rfl (all_one [.int .i64 ln, .int .i64 cd] (by intro d hd; simp at hd; rcases hd with rfl | rfl <;> rfl))
  have k7 : W7.heap[w7.heap.size]? = some (.cells #[.int .i64 ln, .int .i64 cd] 30 (0, 0)) := by rw [HW7.out]; exact heap_alloc_last w7 _
  have gW7 : Below w7.heap.size w7 W7 := by rw [HW7.out]; exact (Below.refl _ _).alloc (Nat.le_refl _) _
  have gE : Below w6.heap.size w6 W7 := g7.trans (gW7.mono g7.size)
  have gF : Below W1.heap.size W1 W7 := HQ5.out.2.trans (gE.mono HQ5.out.2.size)
  have k17 : W7.heap[w1.heap.size]? = some (.cells #[.int .i64 ln, .int .i64 cd] 30 (0, 0)) := (gF.block _ (Array.getElem?_eq_some_iff.1 HB1.out.2).1).trans HB1.out.2
  have HV7 : Hid (InstsIs W7 0 (.slice a0 m0 cp0) xs) := instsIs_move (Keeps.of_below gF 0) (Nat.le_refl _) HV1.out
  have HU7 : Hid (InstsIs W7 0 (.slice a2 m2 cp2) xs) := (hO7.later gW7).is (Nat.zero_le _)
  have HQ7 : Hid (Q W7 ∧ Below w.heap.size w W7) := ⟨HQl.out _ _ HQ5.out.1 gE, HB6.out.trans (gE.mono HB6.out.size)⟩
  have HK7 : Hid (W7.heap[w1.heap.size]? = some (.cells #[.int .i64 ln, .int .i64 cd] 30 (0, 0)) ∧ W7.heap[w7.heap.size]? = some (.cells #[.int .i64 ln, .int .i64 cd] 30 (0, 0))) := ⟨k17, k7⟩
  clear h7 hO7 g7 HW7 gW7 gE gF k17 k7
  go_wp2_with (first | (refine wpL_store rfl 30 _ _ rfl _ _ rfl _ rfl _ HS7.out ?_) | fail)
  refine (HEq.out W7 _ _ HU7.out HV7.out).mono ?_
  rintro e w8 ⟨rfl, g8⟩
  have kA := (g8.block _ (Array.getElem?_eq_some_iff.1 HK7.out.1).1).trans HK7.out.1
  have kB := (g8.block _ (Array.getElem?_eq_some_iff.1 HK7.out.2).1).trans HK7.out.2
  have cA0 : w8.cell? ⟨w1.heap.size, 0, none⟩ = some (.int .i64 ln) := (cell_of_row _ _ _ _ _ _ kA).trans rfl
  have cA1 : w8.cell? ⟨w1.heap.size, 1, none⟩ = some (.int .i64 cd) := (cell_of_row _ _ _ _ _ _ kA).trans rfl
  have cB0 : w8.cell? ⟨w7.heap.size, 0, none⟩ = some (.int .i64 ln) := (cell_of_row _ _ _ _ _ _ kB).trans rfl
  have cB1 : w8.cell? ⟨w7.heap.size, 1, none⟩ = some (.int .i64 cd) := (cell_of_row _ _ _ _ _ _ kB).trans rfl
  have HG8 : Hid (Below W7.heap.size W7 w8) := g8
  clear g8 kA kB HS7
  go_wp2_with fail
  refine (eq_fault ln cd _).mono ?_
  rintro e w9 ⟨rfl, g9⟩
  have gZ := HG8.out.trans (g9.mono HG8.out.size)
  have HQ9 : Hid (Q w9 ∧ Below w.heap.size w w9) := ⟨HQl.out _ _ HQ7.out.1 gZ, HQ7.out.2.trans (gZ.mono HQ7.out.2.size)⟩
  clear cA0 cA1 cB0 cB1 g9 gZ
  go_wp2_with fail
  refine (HHd.out w9 HQ9.out.1).mono ?_
  rintro e wa ⟨rfl, rfl⟩
  have bb := HQ9.out.2
  go_wp2
  go_ret
  exact ⟨rfl, bb⟩
end Go.Proofs.YtidfjinmaiechaaGreatDoor
/- What the listed variables, the handle and the world's shape give the walk that reads a list; the wrap of a law whose walk asks for the shape too. -/
namespace Go.Proofs.YtidfjinmaiechaaGreatDoor
open Go.RowKit Go.Lib
set_option linter.unusedVariables false

theorem ml_of_shape {W : World} (h : W.ShapedOpen Tryz.prog) : ML W :=
  cell_of_shapedOpen_int (t := 3) (zero := #[.int .i64 0]) h (of_decide_eq_true (by kernel_rfl)) (by kernel_rfl) rfl (by kernel_rfl) (by kernel_rfl) Tryz.underlying3
theorem et_named : Tryz.prog.globalNamed "errors.errorType" = some 0 := by kernel_rfl
theorem rt_type : (Tryz.prog.cutTypes.find? (·.1 == "internal/reflectlite.rtype")).map (·.2) = some 124 := by kernel_rfl
theorem err_row : ((List.range 244).filter fun t => Tryz.prog.rowNamed t [101, 114, 114, 111, 114]) = [55] := by kernel_rfl
theorem types_size : Tryz.prog.types.size = 244 := by kernel_rfl
theorem err_name : (Rows.laid_errors_errorType : DataW Unit).handleName? = some [101, 114, 114, 111, 114] := by kernel_rfl
theorem err_nofn : (Rows.laid_errors_errorType : DataW Unit).funcsIn? = none := by kernel_rfl
theorem eh_of_laid {W : World} (h : handlesMet Tryz.prog [("errors.errorType", Rows.laid_errors_errorType)] W) : EH W := by
  have h1 := h _ (List.mem_singleton.2 rfl)
  simp only [err_nofn] at h1
  obtain ⟨name, u, ty, e1, e2, e3, e4, e5⟩ := h1
  obtain rfl := Option.some.inj (err_name.symm.trans e1)
  obtain rfl := Option.some.inj (rt_type.symm.trans e2)
  have hm : ty ∈ (List.range 244).filter fun t => Tryz.prog.rowNamed t [101, 114, 114, 111, 114] := List.mem_filter.2 ⟨List.mem_range.2 (by rw [← types_size]; exact e3), e4⟩
  rw [err_row] at hm
  obtain rfl := List.mem_singleton.1 hm
  have hh : typeHandle Tryz.prog 55 = .pointer (some ⟨10, 55, none⟩) := by kernel_rfl
  rw [hh] at e5
  have := World.var?_cell et_named e5 0
  simpa [EH] using this

/-- The world in which nothing is laid but the handle. -/
noncomputable def handleBase (os : Os) : World :=
  let w0 := World.holding Tryz.prog os ⟨#[], #[], []⟩
  { w0 with heap := w0.heap.modify 0 fun
      | .cells _ t frozen => .cells #[.iface 124 (.agg #[.pointer (some ⟨10, 55, none⟩)])] t frozen
      | o => o }
/-- The handle, and the plain data on a list. -/
noncomputable def handleWorld (os : Os) (plain : List (String × DataW Unit)) : World := (handleBase os).layVars Tryz.prog plain
theorem handleWorld_os (os : Os) (plain : List (String × DataW Unit)) : (handleWorld os plain).os = os := World.layVars_os _ _ _
theorem handleWorld_met {os : Os} {laid : List (String × DataW Unit)} (args : Array Value)
    (hf : (handleBase os).layFits Tryz.prog (laid.filter fun x => x.2.handleName?.isNone) [] = true)
    (hi : (handleBase os).layIfaces Tryz.prog (laid.filter fun x => x.2.handleName?.isNone) (handleWorld os (laid.filter fun x => x.2.handleName?.isNone)) = true)
    (hh : (laid.filter fun x => x.2.handleName?.isSome).all (handleAtB Tryz.prog ((handleWorld os (laid.filter fun x => x.2.handleName?.isNone)).forCall (fun _ _ => 0) ⟨#[], args, []⟩).memory) = true) :
    laidMetH Tryz.prog laid ((handleWorld os (laid.filter fun x => x.2.handleName?.isNone)).forCall (fun _ _ => 0) ⟨#[], args, []⟩).memory := by
  refine laidMetH_of_parts ?_ hh
  generalize (laid.filter fun x => x.2.handleName?.isNone) = pl at hf hi
  have e1 : (pl.filter fun x => (pl.map (·.1)).contains x.1) = pl := List.filter_eq_self.2 fun x hx => List.contains_iff_mem.2 (List.mem_map.2 ⟨x, hx, rfl⟩)
  have e2 : (pl.filter fun x => !(pl.map (·.1)).contains x.1) = [] := List.filter_eq_nil_iff.2 fun x hx => by rw [List.contains_iff_mem.2 (List.mem_map.2 ⟨x, hx, rfl⟩)]; simp
  have h : laidMet Tryz.prog pl (handleWorld os pl) := laidMet_layVars (w0 := handleBase os) (pl.map (·.1)) [] (by rw [e1]; rfl) (by rw [e1]; exact hf) (by rw [e1]; exact hi) (by rw [e2]; exact LaidIn.none)
  exact h.of_heap (by simp [World.memory, World.forCall, Input.heap])

/-- A law's lifted form out of a walk that is handed the world's shape beside what is laid. -/
theorem lift_shaped {H : Type} {enc : TypeId × Value → H} {asm0 : Assume} {C : Checked} {os : Os} {f : FuncId} {fn : Func} {s : ChangeSpec} {cs : List PathCond} {b1 b2 b3 b4 : Bool} {X : World → Array Value → Prop}
    (keep : ∀ (w w' : World) (args : Array Value), w.heap = w'.heap → X w args → X w' args) (own : ownKnob C.prog.godebug = none) (st : os.Started) (ni : C.prog.inits.idxOf? f = none) (hfn : C.prog.funcs[f]? = some fn)
    (wit : ∃ (w : World) (tape : Tape) (i : Input), w.os = os ∧ (w.forCall tape i).Shaped C.prog ∧ i.vars = [] ∧ Input.okWide C.prog (w.forCall tape i) .any w.heap.size f i ∧
      ((s.pre enc C.prog fn cs b1 (w.forCall tape i).memory i.args ∧ X (w.forCall tape i).memory i.args) ∧ sizedMet enc C.prog fn (OpenSpec.ofChange s) b1 (w.forCall tape i).memory i.args) ∧ asm0.holds C.prog (lone (Frame.enter C.prog f i.args .normal) [] (w.forCall tape i)))
    (walk : ∀ (W : World) (base : Nat) (args : Array Value) (ds gs : List (DataW H)) (before : List MemPlace),
      (∀ (j : Nat) t v, fn.params[j]? = some t → args[j]? = some v → Value.okWide C.prog W .any base t v) →
      DataW.Whole enc C.prog fn.params.toList s.vars b1 W args.toList ds gs before → W.ShapedOpen C.prog → X W args →
      Calls C.prog f args W fun e W' => ∃ v, e = .returned v ∧ s.post enc C.prog fn b1 b2 b3 b4 W args v W') :
    ReturnsInHanded asm0 C os f .any (fun w args => (s.pre enc C.prog fn cs b1 w args ∧ X w args) ∧ sizedMet enc C.prog fn (OpenSpec.ofChange s) b1 w args) (s.post enc C.prog fn b1 b2 b3 b4) := by
  refine returnsInHanded_of_calls own st ni wit (fun w tape i _ shape _ ok pre _ => ?_)
  obtain ⟨-, -, -, fn', hfn', -, -, -, -, vals⟩ := ok
  obtain rfl := Option.some.inj (hfn'.symm.trans hfn)
  obtain ⟨⟨⟨ds, gs, before, whole, -⟩, x⟩, -⟩ := pre
  refine (walk (w.forCall tape i) w.heap.size i.args ds gs before vals (DataW.Whole.of_heap (w' := w.forCall tape i) (by rfl) whole) shape (keep _ _ _ (by rfl) x)).mono ?_
  rintro e W' ⟨v, rfl, hp⟩
  exact ChangeSpec.post_blind hp

/-- The law's walk, as the frame calls it. -/
theorem walk_lparse (s : ByteArray) (W : World) {X : Prop} (_ : X) (p : PT W) (l : LT W) (k : KT W) (t : WT W) (m : ML W) (h : EH W) :
    Calls Tryz.prog 4 #[.string s] W fun e w' => e = .returned (.bool true) ∧ Below W.heap.size W w' := law_lparse s W ⟨k, p, t⟩ l m h
end Go.Proofs.YtidfjinmaiechaaGreatDoor
