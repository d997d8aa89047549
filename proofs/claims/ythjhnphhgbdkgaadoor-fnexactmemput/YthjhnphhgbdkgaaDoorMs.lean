/- The laws FnExactMemPutWhole and FnExactMemPutReal. -/
import Derived.Test.YthjhnphhgbdkgaaDoorMq
import Derived.Test.YthjhnphhgbdkgaaDoorMj
import Derived.Test.YthjhnphhgbdkgaaDoorMr
import Derived.Deep.Cut
namespace Go.Proofs.YthjhnphhgbdkgaaDoor
open Go.RowKit Go.Shelf
set_option linter.unusedVariables false

theorem mem_info : (Tryd.prog.info? 62).map (·.size) = some 136 := by kernel_rfl
theorem arg_info : (Tryd.prog.info? 63).map (·.size) = some 3 := by kernel_rfl
theorem memOk_set {c : Array Value} (hc : MemOk c) (i : Nat) {v : Value} (hv : CellIs (kd i) v) : MemOk (c.setIfInBounds i v) :=
  ⟨by simpa using hc.size, fun j u hu => by
    by_cases hji : i = j
    · subst hji
      have hl : i < c.size := by have := (Array.getElem?_eq_some_iff.1 hu).1; simpa using this
      rw [Array.getElem?_setIfInBounds_self_of_lt hl] at hu
      exact Option.some.inj hu ▸ hv
    · rw [Array.getElem?_setIfInBounds_ne hji] at hu
      exact hc.cell j u hu⟩


theorem i16_wf {v : Int} (h : (Lit.int .i16 v).wf = true) : -32768 ≤ v ∧ v < 32768 := by
  simp [Lit.wf, IntKind.min, IntKind.max, IntKind.bits, IntKind.signed] at h
  omega
theorem has_wf {v : Nat} (h : (Lit.float .f64 v).wf = true) : FloatKind.has .f64 v := by
  simpa [Lit.wf, FloatKind.has] using h

theorem memOk_putw {c : Array Value} (hc : MemOk c) (k n : Int) {v : Int} (hv : -32768 ≤ v ∧ v < 32768) : MemOk (putk c 9 85 k n (.int .i16 v)) := by
  unfold putk
  split
  · rename_i hk
    subst hk
    obtain ⟨q0, q1⟩ := pl_lt 9 n (by decide)
    rw [show kZ 9 = 32 from rfl] at q1
    refine memOk_set hc _ ?_
    rw [kd_d (by omega)]
    simp [CellIs, Value.oneCell']
    exact hv
  · exact hc


theorem memOk_putr {c : Array Value} (hc : MemOk c) (k n : Int) {v : Nat} (hv : FloatKind.has .f64 v) : MemOk (putk c 10 117 k n (.float .f64 v)) := by
  unfold putk
  split
  · rename_i hk
    subst hk
    obtain ⟨q0, q1⟩ := pl_lt 10 n (by decide)
    rw [show kZ 10 = 16 from rfl] at q1
    refine memOk_set hc _ ?_
    rw [kd_r (by omega)]
    simp [CellIs, Value.oneCell']
    exact hv
  · exact hc


set_option maxRecDepth 10000 in
set_option maxHeartbeats 1000000 in
theorem law_putw (c : Array Value) (k n p : Int) (v : Int) (w : World) (hc : MemOk c) (hk : (Lit.int .i64 k).wf = true) (hn : (Lit.int .i64 n).wf = true) (hp : (Lit.int .i64 p).wf = true) (hv : (Lit.int .i16 v).wf = true) (hT : KT w) :
    Calls Tryd.prog 9 #[.agg c, .agg #[.int .i64 k, .int .i64 n, .int .i64 p], .int .i16 v] w fun e w' => e = .returned (.bool true) ∧ Below w.heap.size w w' := by
  have HC : Hid (MemOk c) := hc
  have HT : Hid (KT w) := hT
  have HI : Hid ((Tryd.prog.info? 62).map (·.size) = some c.size) := by rw [HC.out.size]; exact mem_info
  obtain ⟨C, HCC⟩ : ∃ C, Hid (C = putk c 9 85 k n (.int .i16 v)) := ⟨_, rfl⟩
  have HB1 : Hid (∀ W, Calls Tryd.prog 32 #[.agg c, .agg #[.int .i64 k, .int .i64 n, .int .i64 p], .int .i16 v] W fun e w' => e = .returned (.agg C) ∧ Below W.heap.size W w') := fun W => by
    rw [HCC.out]; exact putw_s c HC.out k n p v W
  have HB2 : Hid (∀ W, KT W → Calls Tryd.prog 33 #[.agg c, .agg #[.int .i64 k, .int .i64 n, .int .i64 p], .int .i16 v] W fun e w' => e = .returned (.agg C) ∧ Below W.heap.size W w') := fun W h => by
    rw [HCC.out]; exact putw_i c HC.out k n p v W h
  have hz : Hid (∀ W, (zeroValue 37).run Tryd.prog W = .ok (.agg memZero) W) := zero_mem.1
  obtain ⟨Z, HZ⟩ : ∃ Z, Hid (Z = memZero) := ⟨_, rfl⟩
  rw [← HZ.out] at hz
  have HCM : Hid (MemOk C) := (by rw [HCC.out]; exact memOk_putw HC.out k n (i16_wf hv) : MemOk C)
  have HZC : Hid (Z.size = C.size) := (by rw [HZ.out, memZero_size, HCM.out.size] : Z.size = C.size)
  have HIC : Hid ((Tryd.prog.info? 37).map (·.size) = some C.size) := (by rw [HCM.out.size]; exact zero_mem.2 : (Tryd.prog.info? 37).map (·.size) = some C.size)
  have HCo : Hid (C.all (·.oneCell') = true) := HCM.out.one
  clear hc hT hk hn hp hv
  go_enter Tryd.func9, Tryd.ntmps9
  go_upto_region 1 with fail
  have hA := (rows2 w (.cells c 62) (.cells #[.int .i64 k, .int .i64 n, .int .i64 p] 63)).1
  have hB := (rows2 w (.cells c 62) (.cells #[.int .i64 k, .int .i64 n, .int .i64 p] 63)).2
  have hb : Below w.heap.size w ((w.alloc (.cells c 62)).alloc (.cells #[.int .i64 k, .int .i64 n, .int .i64 p] 63)) := ((Below.refl _ _).alloc (Nat.le_refl _) _).alloc (by simp) _
  generalize ((w.alloc (.cells c 62)).alloc (.cells #[.int .i64 k, .int .i64 n, .int .i64 p] 63)) = w0 at hA hB hb ⊢
  obtain ⟨S1, HS1⟩ : ∃ S : World → Prop, Hid (∀ W, S W ↔ (W.heap[w.heap.size]? = some (.cells c 62 (0, 0)) ∧ W.heap[w.heap.size + 1]? = some (.cells #[.int .i64 k, .int .i64 n, .int .i64 p] 63 (0, 0)) ∧ Below w.heap.size w W)) := ⟨_, fun W => Iff.rfl⟩
  have hSc : Hid (∀ W W', S1 W → Below W.heap.size W W' → S1 W') := fun W W' h g => by
    have h := (HS1.out W).1 h
    have l1 := (Array.getElem?_eq_some_iff.1 h.2.1).1
    
    exact (HS1.out W').2 ⟨(g.block _ (by omega)).trans h.1, (g.block _ (by omega)).trans h.2.1, h.2.2.trans (g.mono (h.2.2).size)⟩
  have hSt : Hid (∀ W g1 D, S1 W → w.heap.size + 2 ≤ g1 → S1 (W.setRow g1 D)) := fun W g1 D h hg => by
    have h := (HS1.out W).1 h
    exact (HS1.out _).2 ⟨row_beside h.1 _ (by omega) _, row_beside h.2.1 _ (by omega) _, below_setRow h.2.2 (by omega) _⟩
  have hSl : Hid (∀ W, S1 W → w.heap.size + 2 ≤ W.heap.size) := fun W h => by
    have h := (HS1.out W).1 h
    have l1 := (Array.getElem?_eq_some_iff.1 h.2.1).1
    show w.heap.size + 2 ≤ W.heap.size
    omega
  have hL1 : Hid (∀ W, S1 W → (loadVar 62 ⟨w.heap.size, 0, none⟩).run Tryd.prog W = .ok (.agg c) W) := fun W h => load_all ((HS1.out W).1 h).1 _ _ Tryd.underlying62 rfl HI.out
  have hL2 : Hid (∀ W, S1 W → (loadVar 63 ⟨w.heap.size + 1, 0, none⟩).run Tryd.prog W = .ok (.agg #[.int .i64 k, .int .i64 n, .int .i64 p]) W) := fun W h => load_all ((HS1.out W).1 h).2.1 _ _ Tryd.underlying63 rfl arg_info
  have cF : Hid (∀ W, S1 W → Calls Tryd.prog 32 #[.agg c, .agg #[.int .i64 k, .int .i64 n, .int .i64 p], .int .i16 v] W fun e w' => e = .returned (.agg C) ∧ Below W.heap.size W w') := fun W h => HB1.out W
  refine region_cut (R := fun a' W => ∃ g1 : Nat, S1 W ∧ w.heap.size + 2 ≤ g1 ∧ W.heap[g1]? = some (.cells C 37 (0, 0)) ∧ a' = ⟨#[.agg c, .agg #[.int .i64 k, .int .i64 n, .int .i64 p], .int .i16 v, .pointer (some ⟨w.heap.size, 0, none⟩), .pointer (some ⟨w.heap.size + 1, 0, none⟩), undef, .bool false, .pointer (some ⟨g1, 0, none⟩), undef, .agg c, .agg c, .agg #[.int .i64 k, .int .i64 n, .int .i64 p], .agg #[.int .i64 k, .int .i64 n, .int .i64 p], .int .i16 v, .agg C, undef, undef, undef, undef, undef, undef, undef, undef, undef, undef], []⟩) ?_ ?_
  · have S0 : S1 w0.drew := (HS1.out _).2 ⟨hA, hB, hb.drew⟩
    refine held_start (S := S1) (by kernel_rfl) S0 8 rfl #[false, false, false, false, false, false, false, false] rfl (fun W0 S0 => ?_)
    refine tk_load' (i := 0) rfl (by kernel_rfl) (by kernel_rfl) (by kernel_rfl) (fun _ _ _ _ h => nomatch h.1) rfl 62 _ rfl _ _ rfl (.agg c) hL1.out S0 #[true, false, false, false, false, false, false, false] rfl ⟨#[.agg c, .agg #[.int .i64 k, .int .i64 n, .int .i64 p], .int .i16 v, .pointer (some ⟨w.heap.size, 0, none⟩), .pointer (some ⟨w.heap.size + 1, 0, none⟩), undef, .bool false, undef, undef, .agg c, undef, undef, undef, undef, undef, undef, undef, undef, undef, undef, undef, undef, undef, undef, undef], []⟩ rfl ?_
    refine tk_load' (i := 2) rfl (by kernel_rfl) (by kernel_rfl) (by kernel_rfl) (fun _ _ _ _ h => nomatch h.1) rfl 63 _ rfl _ _ rfl (.agg #[.int .i64 k, .int .i64 n, .int .i64 p]) hL2.out S0 #[true, false, true, false, false, false, false, false] rfl ⟨#[.agg c, .agg #[.int .i64 k, .int .i64 n, .int .i64 p], .int .i16 v, .pointer (some ⟨w.heap.size, 0, none⟩), .pointer (some ⟨w.heap.size + 1, 0, none⟩), undef, .bool false, undef, undef, .agg c, undef, .agg #[.int .i64 k, .int .i64 n, .int .i64 p], undef, undef, undef, undef, undef, undef, undef, undef, undef, undef, undef, undef, undef], []⟩ rfl ?_
    refine tk_move' (i := 4) rfl (by kernel_rfl) (by kernel_rfl) (by kernel_rfl) (fun _ _ _ _ h => nomatch h.1) rfl _ rfl _ rfl S0 #[true, false, true, false, true, false, false, false] rfl ⟨#[.agg c, .agg #[.int .i64 k, .int .i64 n, .int .i64 p], .int .i16 v, .pointer (some ⟨w.heap.size, 0, none⟩), .pointer (some ⟨w.heap.size + 1, 0, none⟩), undef, .bool false, undef, undef, .agg c, undef, .agg #[.int .i64 k, .int .i64 n, .int .i64 p], undef, .int .i16 v, undef, undef, undef, undef, undef, undef, undef, undef, undef, undef, undef], []⟩ rfl ?_
    refine wpAnyH_all (rs := [1, 6]) (by kernel_rfl) (by simp) (fun i hi => ?_)
    rcases (by simpa using hi : i = 1 ∨ i = 6) with rfl | rfl
    · skip
      refine up_fcall' rfl rfl Tryd.func28 (by kernel_rfl) (by kernel_rfl) rfl [.agg c] rfl #[true, true, true, false, true, false, false, false] rfl (.agg c) ⟨#[.agg c, .agg #[.int .i64 k, .int .i64 n, .int .i64 p], .int .i16 v, .pointer (some ⟨w.heap.size, 0, none⟩), .pointer (some ⟨w.heap.size + 1, 0, none⟩), undef, .bool false, undef, undef, .agg c, .agg c, .agg #[.int .i64 k, .int .i64 n, .int .i64 p], undef, .int .i16 v, undef, undef, undef, undef, undef, undef, undef, undef, undef, undef, undef], []⟩ rfl _ (to_mem c HC.out _) ?_
      intro Wc0 bWc0
      have SWc0 := hSc.out _ _ S0 bWc0
      refine ⟨SWc0, ?_⟩
      refine wpAnyH_all (rs := [3, 6]) (by kernel_rfl) (by simp) (fun i hi => ?_)
      rcases (by simpa using hi : i = 3 ∨ i = 6) with rfl | rfl
      · skip
        refine up_fcall' rfl rfl Tryd.func29 (by kernel_rfl) (by kernel_rfl) rfl [.agg #[.int .i64 k, .int .i64 n, .int .i64 p]] rfl #[true, true, true, true, true, false, false, false] rfl (.agg #[.int .i64 k, .int .i64 n, .int .i64 p]) ⟨#[.agg c, .agg #[.int .i64 k, .int .i64 n, .int .i64 p], .int .i16 v, .pointer (some ⟨w.heap.size, 0, none⟩), .pointer (some ⟨w.heap.size + 1, 0, none⟩), undef, .bool false, undef, undef, .agg c, .agg c, .agg #[.int .i64 k, .int .i64 n, .int .i64 p], .agg #[.int .i64 k, .int .i64 n, .int .i64 p], .int .i16 v, undef, undef, undef, undef, undef, undef, undef, undef, undef, undef, undef], []⟩ rfl _ (to_arg k n p _) ?_
        intro Wc1 bWc1
        have SWc1 := hSc.out _ _ SWc0 bWc1
        refine ⟨SWc1, ?_⟩
        refine wpAnyH_all (rs := [5, 6]) (by kernel_rfl) (by simp) (fun i hi => ?_)
        rcases (by simpa using hi : i = 5 ∨ i = 6) with rfl | rfl
        · skip
          refine up_fcall' rfl rfl Tryd.func32 (by kernel_rfl) (by kernel_rfl) rfl [.agg c, .agg #[.int .i64 k, .int .i64 n, .int .i64 p], .int .i16 v] rfl #[true, true, true, true, true, true, false, false] rfl (.agg C) ⟨#[.agg c, .agg #[.int .i64 k, .int .i64 n, .int .i64 p], .int .i16 v, .pointer (some ⟨w.heap.size, 0, none⟩), .pointer (some ⟨w.heap.size + 1, 0, none⟩), undef, .bool false, undef, undef, .agg c, .agg c, .agg #[.int .i64 k, .int .i64 n, .int .i64 p], .agg #[.int .i64 k, .int .i64 n, .int .i64 p], .int .i16 v, .agg C, undef, undef, undef, undef, undef, undef, undef, undef, undef, undef], []⟩ rfl _ (cF.out _ SWc1) ?_
          intro Wc2 bWc2
          have SWc2 := hSc.out _ _ SWc1 bWc2
          refine ⟨SWc2, ?_⟩
          refine wpAnyH_all (rs := [6]) (by kernel_rfl) (by simp) (fun i hi => ?_)
          obtain rfl := List.mem_singleton.1 hi
          refine up_alloc' rfl rfl 37 rfl Z (hz.out _) (hSc.out _ _ SWc2 ((Below.refl _ _).alloc (Nat.le_refl _) _)) #[true, true, true, true, true, true, true, false] rfl ⟨#[.agg c, .agg #[.int .i64 k, .int .i64 n, .int .i64 p], .int .i16 v, .pointer (some ⟨w.heap.size, 0, none⟩), .pointer (some ⟨w.heap.size + 1, 0, none⟩), undef, .bool false, .pointer (some ⟨Wc2.heap.size, 0, none⟩), undef, .agg c, .agg c, .agg #[.int .i64 k, .int .i64 n, .int .i64 p], .agg #[.int .i64 k, .int .i64 n, .int .i64 p], .int .i16 v, .agg C, undef, undef, undef, undef, undef, undef, undef, undef, undef, undef], []⟩ rfl ?_
          have Sga3 : S1 (Wc2.alloc (.cells Z 37)) := hSc.out _ _ SWc2 ((Below.refl _ _).alloc (Nat.le_refl _) _)
          have hZga3 : (Wc2.alloc (.cells Z 37)).heap[Wc2.heap.size]? = some (.cells Z 37 (0, 0)) := heap_alloc_last _ _
          have hlga3 : w.heap.size + 2 ≤ Wc2.heap.size := hSl.out _ SWc2
          generalize (Wc2.alloc (.cells Z 37)) = Wga3 at Sga3 hZga3 ⊢
          generalize Wc2.heap.size = ga3 at hZga3 hlga3 ⊢
          refine wpAnyH_all (rs := [7]) (by kernel_rfl) (by simp) (fun i hi => ?_)
          obtain rfl := List.mem_singleton.1 hi
          exact up_store' rfl rfl 37 _ _ rfl _ _ rfl _ rfl _ (store_all hZga3 _ _ HZC.out HIC.out HCo.out) (hSt.out _ _ _ Sga3 hlga3) #[true, true, true, true, true, true, true, true] rfl ⟨#[.agg c, .agg #[.int .i64 k, .int .i64 n, .int .i64 p], .int .i16 v, .pointer (some ⟨w.heap.size, 0, none⟩), .pointer (some ⟨w.heap.size + 1, 0, none⟩), undef, .bool false, .pointer (some ⟨ga3, 0, none⟩), undef, .agg c, .agg c, .agg #[.int .i64 k, .int .i64 n, .int .i64 p], .agg #[.int .i64 k, .int .i64 n, .int .i64 p], .int .i16 v, .agg C, undef, undef, undef, undef, undef, undef, undef, undef, undef, undef], []⟩ rfl (wpAnyH_done (by kernel_rfl) ⟨rfl, ga3, hSt.out _ _ _ Sga3 hlga3, hlga3, row_set hZga3 _, rfl⟩ _)
        · skip
          refine up_alloc' rfl rfl 37 rfl Z (hz.out _) (hSc.out _ _ SWc1 ((Below.refl _ _).alloc (Nat.le_refl _) _)) #[true, true, true, true, true, false, true, false] rfl ⟨#[.agg c, .agg #[.int .i64 k, .int .i64 n, .int .i64 p], .int .i16 v, .pointer (some ⟨w.heap.size, 0, none⟩), .pointer (some ⟨w.heap.size + 1, 0, none⟩), undef, .bool false, .pointer (some ⟨Wc1.heap.size, 0, none⟩), undef, .agg c, .agg c, .agg #[.int .i64 k, .int .i64 n, .int .i64 p], .agg #[.int .i64 k, .int .i64 n, .int .i64 p], .int .i16 v, undef, undef, undef, undef, undef, undef, undef, undef, undef, undef, undef], []⟩ rfl ?_
          have Sga2 : S1 (Wc1.alloc (.cells Z 37)) := hSc.out _ _ SWc1 ((Below.refl _ _).alloc (Nat.le_refl _) _)
          have hZga2 : (Wc1.alloc (.cells Z 37)).heap[Wc1.heap.size]? = some (.cells Z 37 (0, 0)) := heap_alloc_last _ _
          have hlga2 : w.heap.size + 2 ≤ Wc1.heap.size := hSl.out _ SWc1
          generalize (Wc1.alloc (.cells Z 37)) = Wga2 at Sga2 hZga2 ⊢
          generalize Wc1.heap.size = ga2 at hZga2 hlga2 ⊢
          refine wpAnyH_all (rs := [5]) (by kernel_rfl) (by simp) (fun i hi => ?_)
          obtain rfl := List.mem_singleton.1 hi
          refine up_fcall' rfl rfl Tryd.func32 (by kernel_rfl) (by kernel_rfl) rfl [.agg c, .agg #[.int .i64 k, .int .i64 n, .int .i64 p], .int .i16 v] rfl #[true, true, true, true, true, true, true, false] rfl (.agg C) ⟨#[.agg c, .agg #[.int .i64 k, .int .i64 n, .int .i64 p], .int .i16 v, .pointer (some ⟨w.heap.size, 0, none⟩), .pointer (some ⟨w.heap.size + 1, 0, none⟩), undef, .bool false, .pointer (some ⟨ga2, 0, none⟩), undef, .agg c, .agg c, .agg #[.int .i64 k, .int .i64 n, .int .i64 p], .agg #[.int .i64 k, .int .i64 n, .int .i64 p], .int .i16 v, .agg C, undef, undef, undef, undef, undef, undef, undef, undef, undef, undef], []⟩ rfl _ (cF.out _ Sga2) ?_
          intro Wc3 bWc3
          have SWc3 := hSc.out _ _ Sga2 bWc3
          have hZga2 := (bWc3.block _ (Array.getElem?_eq_some_iff.1 hZga2).1).trans hZga2
          refine ⟨SWc3, ?_⟩
          refine wpAnyH_all (rs := [7]) (by kernel_rfl) (by simp) (fun i hi => ?_)
          obtain rfl := List.mem_singleton.1 hi
          exact up_store' rfl rfl 37 _ _ rfl _ _ rfl _ rfl _ (store_all hZga2 _ _ HZC.out HIC.out HCo.out) (hSt.out _ _ _ SWc3 hlga2) #[true, true, true, true, true, true, true, true] rfl ⟨#[.agg c, .agg #[.int .i64 k, .int .i64 n, .int .i64 p], .int .i16 v, .pointer (some ⟨w.heap.size, 0, none⟩), .pointer (some ⟨w.heap.size + 1, 0, none⟩), undef, .bool false, .pointer (some ⟨ga2, 0, none⟩), undef, .agg c, .agg c, .agg #[.int .i64 k, .int .i64 n, .int .i64 p], .agg #[.int .i64 k, .int .i64 n, .int .i64 p], .int .i16 v, .agg C, undef, undef, undef, undef, undef, undef, undef, undef, undef, undef], []⟩ rfl (wpAnyH_done (by kernel_rfl) ⟨rfl, ga2, hSt.out _ _ _ SWc3 hlga2, hlga2, row_set hZga2 _, rfl⟩ _)
      · skip
        refine up_alloc' rfl rfl 37 rfl Z (hz.out _) (hSc.out _ _ SWc0 ((Below.refl _ _).alloc (Nat.le_refl _) _)) #[true, true, true, false, true, false, true, false] rfl ⟨#[.agg c, .agg #[.int .i64 k, .int .i64 n, .int .i64 p], .int .i16 v, .pointer (some ⟨w.heap.size, 0, none⟩), .pointer (some ⟨w.heap.size + 1, 0, none⟩), undef, .bool false, .pointer (some ⟨Wc0.heap.size, 0, none⟩), undef, .agg c, .agg c, .agg #[.int .i64 k, .int .i64 n, .int .i64 p], undef, .int .i16 v, undef, undef, undef, undef, undef, undef, undef, undef, undef, undef, undef], []⟩ rfl ?_
        have Sga1 : S1 (Wc0.alloc (.cells Z 37)) := hSc.out _ _ SWc0 ((Below.refl _ _).alloc (Nat.le_refl _) _)
        have hZga1 : (Wc0.alloc (.cells Z 37)).heap[Wc0.heap.size]? = some (.cells Z 37 (0, 0)) := heap_alloc_last _ _
        have hlga1 : w.heap.size + 2 ≤ Wc0.heap.size := hSl.out _ SWc0
        generalize (Wc0.alloc (.cells Z 37)) = Wga1 at Sga1 hZga1 ⊢
        generalize Wc0.heap.size = ga1 at hZga1 hlga1 ⊢
        refine wpAnyH_all (rs := [3]) (by kernel_rfl) (by simp) (fun i hi => ?_)
        obtain rfl := List.mem_singleton.1 hi
        refine up_fcall' rfl rfl Tryd.func29 (by kernel_rfl) (by kernel_rfl) rfl [.agg #[.int .i64 k, .int .i64 n, .int .i64 p]] rfl #[true, true, true, true, true, false, true, false] rfl (.agg #[.int .i64 k, .int .i64 n, .int .i64 p]) ⟨#[.agg c, .agg #[.int .i64 k, .int .i64 n, .int .i64 p], .int .i16 v, .pointer (some ⟨w.heap.size, 0, none⟩), .pointer (some ⟨w.heap.size + 1, 0, none⟩), undef, .bool false, .pointer (some ⟨ga1, 0, none⟩), undef, .agg c, .agg c, .agg #[.int .i64 k, .int .i64 n, .int .i64 p], .agg #[.int .i64 k, .int .i64 n, .int .i64 p], .int .i16 v, undef, undef, undef, undef, undef, undef, undef, undef, undef, undef, undef], []⟩ rfl _ (to_arg k n p _) ?_
        intro Wc2 bWc2
        have SWc2 := hSc.out _ _ Sga1 bWc2
        have hZga1 := (bWc2.block _ (Array.getElem?_eq_some_iff.1 hZga1).1).trans hZga1
        refine ⟨SWc2, ?_⟩
        refine wpAnyH_all (rs := [5]) (by kernel_rfl) (by simp) (fun i hi => ?_)
        obtain rfl := List.mem_singleton.1 hi
        refine up_fcall' rfl rfl Tryd.func32 (by kernel_rfl) (by kernel_rfl) rfl [.agg c, .agg #[.int .i64 k, .int .i64 n, .int .i64 p], .int .i16 v] rfl #[true, true, true, true, true, true, true, false] rfl (.agg C) ⟨#[.agg c, .agg #[.int .i64 k, .int .i64 n, .int .i64 p], .int .i16 v, .pointer (some ⟨w.heap.size, 0, none⟩), .pointer (some ⟨w.heap.size + 1, 0, none⟩), undef, .bool false, .pointer (some ⟨ga1, 0, none⟩), undef, .agg c, .agg c, .agg #[.int .i64 k, .int .i64 n, .int .i64 p], .agg #[.int .i64 k, .int .i64 n, .int .i64 p], .int .i16 v, .agg C, undef, undef, undef, undef, undef, undef, undef, undef, undef, undef], []⟩ rfl _ (cF.out _ SWc2) ?_
        intro Wc3 bWc3
        have SWc3 := hSc.out _ _ SWc2 bWc3
        have hZga1 := (bWc3.block _ (Array.getElem?_eq_some_iff.1 hZga1).1).trans hZga1
        refine ⟨SWc3, ?_⟩
        refine wpAnyH_all (rs := [7]) (by kernel_rfl) (by simp) (fun i hi => ?_)
        obtain rfl := List.mem_singleton.1 hi
        exact up_store' rfl rfl 37 _ _ rfl _ _ rfl _ rfl _ (store_all hZga1 _ _ HZC.out HIC.out HCo.out) (hSt.out _ _ _ SWc3 hlga1) #[true, true, true, true, true, true, true, true] rfl ⟨#[.agg c, .agg #[.int .i64 k, .int .i64 n, .int .i64 p], .int .i16 v, .pointer (some ⟨w.heap.size, 0, none⟩), .pointer (some ⟨w.heap.size + 1, 0, none⟩), undef, .bool false, .pointer (some ⟨ga1, 0, none⟩), undef, .agg c, .agg c, .agg #[.int .i64 k, .int .i64 n, .int .i64 p], .agg #[.int .i64 k, .int .i64 n, .int .i64 p], .int .i16 v, .agg C, undef, undef, undef, undef, undef, undef, undef, undef, undef, undef], []⟩ rfl (wpAnyH_done (by kernel_rfl) ⟨rfl, ga1, hSt.out _ _ _ SWc3 hlga1, hlga1, row_set hZga1 _, rfl⟩ _)
    · skip
      refine up_alloc' rfl rfl 37 rfl Z (hz.out _) (hSc.out _ _ S0 ((Below.refl _ _).alloc (Nat.le_refl _) _)) #[true, false, true, false, true, false, true, false] rfl ⟨#[.agg c, .agg #[.int .i64 k, .int .i64 n, .int .i64 p], .int .i16 v, .pointer (some ⟨w.heap.size, 0, none⟩), .pointer (some ⟨w.heap.size + 1, 0, none⟩), undef, .bool false, .pointer (some ⟨W0.heap.size, 0, none⟩), undef, .agg c, undef, .agg #[.int .i64 k, .int .i64 n, .int .i64 p], undef, .int .i16 v, undef, undef, undef, undef, undef, undef, undef, undef, undef, undef, undef], []⟩ rfl ?_
      have Sga0 : S1 (W0.alloc (.cells Z 37)) := hSc.out _ _ S0 ((Below.refl _ _).alloc (Nat.le_refl _) _)
      have hZga0 : (W0.alloc (.cells Z 37)).heap[W0.heap.size]? = some (.cells Z 37 (0, 0)) := heap_alloc_last _ _
      have hlga0 : w.heap.size + 2 ≤ W0.heap.size := hSl.out _ S0
      generalize (W0.alloc (.cells Z 37)) = Wga0 at Sga0 hZga0 ⊢
      generalize W0.heap.size = ga0 at hZga0 hlga0 ⊢
      refine wpAnyH_all (rs := [1]) (by kernel_rfl) (by simp) (fun i hi => ?_)
      obtain rfl := List.mem_singleton.1 hi
      refine up_fcall' rfl rfl Tryd.func28 (by kernel_rfl) (by kernel_rfl) rfl [.agg c] rfl #[true, true, true, false, true, false, true, false] rfl (.agg c) ⟨#[.agg c, .agg #[.int .i64 k, .int .i64 n, .int .i64 p], .int .i16 v, .pointer (some ⟨w.heap.size, 0, none⟩), .pointer (some ⟨w.heap.size + 1, 0, none⟩), undef, .bool false, .pointer (some ⟨ga0, 0, none⟩), undef, .agg c, .agg c, .agg #[.int .i64 k, .int .i64 n, .int .i64 p], undef, .int .i16 v, undef, undef, undef, undef, undef, undef, undef, undef, undef, undef, undef], []⟩ rfl _ (to_mem c HC.out _) ?_
      intro Wc1 bWc1
      have SWc1 := hSc.out _ _ Sga0 bWc1
      have hZga0 := (bWc1.block _ (Array.getElem?_eq_some_iff.1 hZga0).1).trans hZga0
      refine ⟨SWc1, ?_⟩
      refine wpAnyH_all (rs := [3]) (by kernel_rfl) (by simp) (fun i hi => ?_)
      obtain rfl := List.mem_singleton.1 hi
      refine up_fcall' rfl rfl Tryd.func29 (by kernel_rfl) (by kernel_rfl) rfl [.agg #[.int .i64 k, .int .i64 n, .int .i64 p]] rfl #[true, true, true, true, true, false, true, false] rfl (.agg #[.int .i64 k, .int .i64 n, .int .i64 p]) ⟨#[.agg c, .agg #[.int .i64 k, .int .i64 n, .int .i64 p], .int .i16 v, .pointer (some ⟨w.heap.size, 0, none⟩), .pointer (some ⟨w.heap.size + 1, 0, none⟩), undef, .bool false, .pointer (some ⟨ga0, 0, none⟩), undef, .agg c, .agg c, .agg #[.int .i64 k, .int .i64 n, .int .i64 p], .agg #[.int .i64 k, .int .i64 n, .int .i64 p], .int .i16 v, undef, undef, undef, undef, undef, undef, undef, undef, undef, undef, undef], []⟩ rfl _ (to_arg k n p _) ?_
      intro Wc2 bWc2
      have SWc2 := hSc.out _ _ SWc1 bWc2
      have hZga0 := (bWc2.block _ (Array.getElem?_eq_some_iff.1 hZga0).1).trans hZga0
      refine ⟨SWc2, ?_⟩
      refine wpAnyH_all (rs := [5]) (by kernel_rfl) (by simp) (fun i hi => ?_)
      obtain rfl := List.mem_singleton.1 hi
      refine up_fcall' rfl rfl Tryd.func32 (by kernel_rfl) (by kernel_rfl) rfl [.agg c, .agg #[.int .i64 k, .int .i64 n, .int .i64 p], .int .i16 v] rfl #[true, true, true, true, true, true, true, false] rfl (.agg C) ⟨#[.agg c, .agg #[.int .i64 k, .int .i64 n, .int .i64 p], .int .i16 v, .pointer (some ⟨w.heap.size, 0, none⟩), .pointer (some ⟨w.heap.size + 1, 0, none⟩), undef, .bool false, .pointer (some ⟨ga0, 0, none⟩), undef, .agg c, .agg c, .agg #[.int .i64 k, .int .i64 n, .int .i64 p], .agg #[.int .i64 k, .int .i64 n, .int .i64 p], .int .i16 v, .agg C, undef, undef, undef, undef, undef, undef, undef, undef, undef, undef], []⟩ rfl _ (cF.out _ SWc2) ?_
      intro Wc3 bWc3
      have SWc3 := hSc.out _ _ SWc2 bWc3
      have hZga0 := (bWc3.block _ (Array.getElem?_eq_some_iff.1 hZga0).1).trans hZga0
      refine ⟨SWc3, ?_⟩
      refine wpAnyH_all (rs := [7]) (by kernel_rfl) (by simp) (fun i hi => ?_)
      obtain rfl := List.mem_singleton.1 hi
      exact up_store' rfl rfl 37 _ _ rfl _ _ rfl _ rfl _ (store_all hZga0 _ _ HZC.out HIC.out HCo.out) (hSt.out _ _ _ SWc3 hlga0) #[true, true, true, true, true, true, true, true] rfl ⟨#[.agg c, .agg #[.int .i64 k, .int .i64 n, .int .i64 p], .int .i16 v, .pointer (some ⟨w.heap.size, 0, none⟩), .pointer (some ⟨w.heap.size + 1, 0, none⟩), undef, .bool false, .pointer (some ⟨ga0, 0, none⟩), undef, .agg c, .agg c, .agg #[.int .i64 k, .int .i64 n, .int .i64 p], .agg #[.int .i64 k, .int .i64 n, .int .i64 p], .int .i16 v, .agg C, undef, undef, undef, undef, undef, undef, undef, undef, undef, undef], []⟩ rfl (wpAnyH_done (by kernel_rfl) ⟨rfl, ga0, hSt.out _ _ _ SWc3 hlga0, hlga0, row_set hZga0 _, rfl⟩ _)
  rintro a1 w1 ⟨g1, h1, hg1, hG, rfl⟩
  obtain ⟨hA, hB, hb⟩ := (HS1.out w1).1 h1
  clear hSc hSt hSl hL1 hL2 cF HS1 h1
  go_upto_region 2 with fail
  obtain ⟨S2, HS2⟩ : ∃ S : World → Prop, Hid (∀ W, S W ↔ (W.heap[w.heap.size]? = some (.cells c 62 (0, 0)) ∧ W.heap[w.heap.size + 1]? = some (.cells #[.int .i64 k, .int .i64 n, .int .i64 p] 63 (0, 0)) ∧ Below w.heap.size w W ∧ W.heap[g1]? = some (.cells C 37 (0, 0)) ∧ w.heap.size + 2 ≤ g1)) := ⟨_, fun W => Iff.rfl⟩
  have hSc : Hid (∀ W W', S2 W → Below W.heap.size W W' → S2 W') := fun W W' h g => by
    have h := (HS2.out W).1 h
    have l1 := (Array.getElem?_eq_some_iff.1 h.2.1).1
    have l2 := (Array.getElem?_eq_some_iff.1 h.2.2.2.1).1
    exact (HS2.out W').2 ⟨(g.block _ (by omega)).trans h.1, (g.block _ (by omega)).trans h.2.1, h.2.2.1.trans (g.mono (h.2.2.1).size), (g.block _ l2).trans h.2.2.2.1, h.2.2.2.2⟩
  have hSt : Hid (∀ W g2 D, S2 W → g1 + 1 ≤ g2 → S2 (W.setRow g2 D)) := fun W g2 D h hg => by
    have h := (HS2.out W).1 h
    exact (HS2.out _).2 ⟨row_beside h.1 _ (by have := h.2.2.2.2; omega) _, row_beside h.2.1 _ (by have := h.2.2.2.2; omega) _, below_setRow h.2.2.1 (by have := h.2.2.2.2; omega) _, row_beside h.2.2.2.1 _ (by omega) _, h.2.2.2.2⟩
  have hSl : Hid (∀ W, S2 W → g1 + 1 ≤ W.heap.size) := fun W h => by
    have h := (HS2.out W).1 h
    have l1 := (Array.getElem?_eq_some_iff.1 h.2.2.2.1).1
    show g1 + 1 ≤ W.heap.size
    omega
  have hL1 : Hid (∀ W, S2 W → (loadVar 62 ⟨w.heap.size, 0, none⟩).run Tryd.prog W = .ok (.agg c) W) := fun W h => load_all ((HS2.out W).1 h).1 _ _ Tryd.underlying62 rfl HI.out
  have hL2 : Hid (∀ W, S2 W → (loadVar 63 ⟨w.heap.size + 1, 0, none⟩).run Tryd.prog W = .ok (.agg #[.int .i64 k, .int .i64 n, .int .i64 p]) W) := fun W h => load_all ((HS2.out W).1 h).2.1 _ _ Tryd.underlying63 rfl arg_info
  have cF : Hid (∀ W, S2 W → Calls Tryd.prog 33 #[.agg c, .agg #[.int .i64 k, .int .i64 n, .int .i64 p], .int .i16 v] W fun e w' => e = .returned (.agg C) ∧ Below W.heap.size W w') := fun W h => HB2.out W (HT.out.later ((HS2.out W).1 h).2.2.1)
  refine region_cut (R := fun a' W => ∃ g2 : Nat, S2 W ∧ g1 + 1 ≤ g2 ∧ W.heap[g2]? = some (.cells C 37 (0, 0)) ∧ a' = ⟨#[.agg c, .agg #[.int .i64 k, .int .i64 n, .int .i64 p], .int .i16 v, .pointer (some ⟨w.heap.size, 0, none⟩), .pointer (some ⟨w.heap.size + 1, 0, none⟩), undef, .bool false, .pointer (some ⟨g1, 0, none⟩), .pointer (some ⟨g2, 0, none⟩), .agg c, .agg c, .agg #[.int .i64 k, .int .i64 n, .int .i64 p], .agg #[.int .i64 k, .int .i64 n, .int .i64 p], .int .i16 v, .agg C, .agg c, .agg c, .agg #[.int .i64 k, .int .i64 n, .int .i64 p], .agg #[.int .i64 k, .int .i64 n, .int .i64 p], .int .i16 v, .agg C, undef, undef, undef, undef], []⟩) ?_ ?_
  · have S0 : S2 w1.drew := (HS2.out _).2 ⟨hA, hB, hb.drew, hG, hg1⟩
    refine held_start (S := S2) (by kernel_rfl) S0 8 rfl #[false, false, false, false, false, false, false, false] rfl (fun W0 S0 => ?_)
    refine tk_load' (i := 0) rfl (by kernel_rfl) (by kernel_rfl) (by kernel_rfl) (fun _ _ _ _ h => nomatch h.1) rfl 62 _ rfl _ _ rfl (.agg c) hL1.out S0 #[true, false, false, false, false, false, false, false] rfl ⟨#[.agg c, .agg #[.int .i64 k, .int .i64 n, .int .i64 p], .int .i16 v, .pointer (some ⟨w.heap.size, 0, none⟩), .pointer (some ⟨w.heap.size + 1, 0, none⟩), undef, .bool false, .pointer (some ⟨g1, 0, none⟩), undef, .agg c, .agg c, .agg #[.int .i64 k, .int .i64 n, .int .i64 p], .agg #[.int .i64 k, .int .i64 n, .int .i64 p], .int .i16 v, .agg C, .agg c, undef, undef, undef, undef, undef, undef, undef, undef, undef], []⟩ rfl ?_
    refine tk_load' (i := 2) rfl (by kernel_rfl) (by kernel_rfl) (by kernel_rfl) (fun _ _ _ _ h => nomatch h.1) rfl 63 _ rfl _ _ rfl (.agg #[.int .i64 k, .int .i64 n, .int .i64 p]) hL2.out S0 #[true, false, true, false, false, false, false, false] rfl ⟨#[.agg c, .agg #[.int .i64 k, .int .i64 n, .int .i64 p], .int .i16 v, .pointer (some ⟨w.heap.size, 0, none⟩), .pointer (some ⟨w.heap.size + 1, 0, none⟩), undef, .bool false, .pointer (some ⟨g1, 0, none⟩), undef, .agg c, .agg c, .agg #[.int .i64 k, .int .i64 n, .int .i64 p], .agg #[.int .i64 k, .int .i64 n, .int .i64 p], .int .i16 v, .agg C, .agg c, undef, .agg #[.int .i64 k, .int .i64 n, .int .i64 p], undef, undef, undef, undef, undef, undef, undef], []⟩ rfl ?_
    refine tk_move' (i := 4) rfl (by kernel_rfl) (by kernel_rfl) (by kernel_rfl) (fun _ _ _ _ h => nomatch h.1) rfl _ rfl _ rfl S0 #[true, false, true, false, true, false, false, false] rfl ⟨#[.agg c, .agg #[.int .i64 k, .int .i64 n, .int .i64 p], .int .i16 v, .pointer (some ⟨w.heap.size, 0, none⟩), .pointer (some ⟨w.heap.size + 1, 0, none⟩), undef, .bool false, .pointer (some ⟨g1, 0, none⟩), undef, .agg c, .agg c, .agg #[.int .i64 k, .int .i64 n, .int .i64 p], .agg #[.int .i64 k, .int .i64 n, .int .i64 p], .int .i16 v, .agg C, .agg c, undef, .agg #[.int .i64 k, .int .i64 n, .int .i64 p], undef, .int .i16 v, undef, undef, undef, undef, undef], []⟩ rfl ?_
    refine wpAnyH_all (rs := [1, 6]) (by kernel_rfl) (by simp) (fun i hi => ?_)
    rcases (by simpa using hi : i = 1 ∨ i = 6) with rfl | rfl
    · skip
      refine up_fcall' rfl rfl Tryd.func28 (by kernel_rfl) (by kernel_rfl) rfl [.agg c] rfl #[true, true, true, false, true, false, false, false] rfl (.agg c) ⟨#[.agg c, .agg #[.int .i64 k, .int .i64 n, .int .i64 p], .int .i16 v, .pointer (some ⟨w.heap.size, 0, none⟩), .pointer (some ⟨w.heap.size + 1, 0, none⟩), undef, .bool false, .pointer (some ⟨g1, 0, none⟩), undef, .agg c, .agg c, .agg #[.int .i64 k, .int .i64 n, .int .i64 p], .agg #[.int .i64 k, .int .i64 n, .int .i64 p], .int .i16 v, .agg C, .agg c, .agg c, .agg #[.int .i64 k, .int .i64 n, .int .i64 p], undef, .int .i16 v, undef, undef, undef, undef, undef], []⟩ rfl _ (to_mem c HC.out _) ?_
      intro Wc0 bWc0
      have SWc0 := hSc.out _ _ S0 bWc0
      refine ⟨SWc0, ?_⟩
      refine wpAnyH_all (rs := [3, 6]) (by kernel_rfl) (by simp) (fun i hi => ?_)
      rcases (by simpa using hi : i = 3 ∨ i = 6) with rfl | rfl
      · skip
        refine up_fcall' rfl rfl Tryd.func29 (by kernel_rfl) (by kernel_rfl) rfl [.agg #[.int .i64 k, .int .i64 n, .int .i64 p]] rfl #[true, true, true, true, true, false, false, false] rfl (.agg #[.int .i64 k, .int .i64 n, .int .i64 p]) ⟨#[.agg c, .agg #[.int .i64 k, .int .i64 n, .int .i64 p], .int .i16 v, .pointer (some ⟨w.heap.size, 0, none⟩), .pointer (some ⟨w.heap.size + 1, 0, none⟩), undef, .bool false, .pointer (some ⟨g1, 0, none⟩), undef, .agg c, .agg c, .agg #[.int .i64 k, .int .i64 n, .int .i64 p], .agg #[.int .i64 k, .int .i64 n, .int .i64 p], .int .i16 v, .agg C, .agg c, .agg c, .agg #[.int .i64 k, .int .i64 n, .int .i64 p], .agg #[.int .i64 k, .int .i64 n, .int .i64 p], .int .i16 v, undef, undef, undef, undef, undef], []⟩ rfl _ (to_arg k n p _) ?_
        intro Wc1 bWc1
        have SWc1 := hSc.out _ _ SWc0 bWc1
        refine ⟨SWc1, ?_⟩
        refine wpAnyH_all (rs := [5, 6]) (by kernel_rfl) (by simp) (fun i hi => ?_)
        rcases (by simpa using hi : i = 5 ∨ i = 6) with rfl | rfl
        · skip
          refine up_fcall' rfl rfl Tryd.func33 (by kernel_rfl) (by kernel_rfl) rfl [.agg c, .agg #[.int .i64 k, .int .i64 n, .int .i64 p], .int .i16 v] rfl #[true, true, true, true, true, true, false, false] rfl (.agg C) ⟨#[.agg c, .agg #[.int .i64 k, .int .i64 n, .int .i64 p], .int .i16 v, .pointer (some ⟨w.heap.size, 0, none⟩), .pointer (some ⟨w.heap.size + 1, 0, none⟩), undef, .bool false, .pointer (some ⟨g1, 0, none⟩), undef, .agg c, .agg c, .agg #[.int .i64 k, .int .i64 n, .int .i64 p], .agg #[.int .i64 k, .int .i64 n, .int .i64 p], .int .i16 v, .agg C, .agg c, .agg c, .agg #[.int .i64 k, .int .i64 n, .int .i64 p], .agg #[.int .i64 k, .int .i64 n, .int .i64 p], .int .i16 v, .agg C, undef, undef, undef, undef], []⟩ rfl _ (cF.out _ SWc1) ?_
          intro Wc2 bWc2
          have SWc2 := hSc.out _ _ SWc1 bWc2
          refine ⟨SWc2, ?_⟩
          refine wpAnyH_all (rs := [6]) (by kernel_rfl) (by simp) (fun i hi => ?_)
          obtain rfl := List.mem_singleton.1 hi
          refine up_alloc' rfl rfl 37 rfl Z (hz.out _) (hSc.out _ _ SWc2 ((Below.refl _ _).alloc (Nat.le_refl _) _)) #[true, true, true, true, true, true, true, false] rfl ⟨#[.agg c, .agg #[.int .i64 k, .int .i64 n, .int .i64 p], .int .i16 v, .pointer (some ⟨w.heap.size, 0, none⟩), .pointer (some ⟨w.heap.size + 1, 0, none⟩), undef, .bool false, .pointer (some ⟨g1, 0, none⟩), .pointer (some ⟨Wc2.heap.size, 0, none⟩), .agg c, .agg c, .agg #[.int .i64 k, .int .i64 n, .int .i64 p], .agg #[.int .i64 k, .int .i64 n, .int .i64 p], .int .i16 v, .agg C, .agg c, .agg c, .agg #[.int .i64 k, .int .i64 n, .int .i64 p], .agg #[.int .i64 k, .int .i64 n, .int .i64 p], .int .i16 v, .agg C, undef, undef, undef, undef], []⟩ rfl ?_
          have Sga3 : S2 (Wc2.alloc (.cells Z 37)) := hSc.out _ _ SWc2 ((Below.refl _ _).alloc (Nat.le_refl _) _)
          have hZga3 : (Wc2.alloc (.cells Z 37)).heap[Wc2.heap.size]? = some (.cells Z 37 (0, 0)) := heap_alloc_last _ _
          have hlga3 : g1 + 1 ≤ Wc2.heap.size := hSl.out _ SWc2
          generalize (Wc2.alloc (.cells Z 37)) = Wga3 at Sga3 hZga3 ⊢
          generalize Wc2.heap.size = ga3 at hZga3 hlga3 ⊢
          refine wpAnyH_all (rs := [7]) (by kernel_rfl) (by simp) (fun i hi => ?_)
          obtain rfl := List.mem_singleton.1 hi
          exact up_store' rfl rfl 37 _ _ rfl _ _ rfl _ rfl _ (store_all hZga3 _ _ HZC.out HIC.out HCo.out) (hSt.out _ _ _ Sga3 hlga3) #[true, true, true, true, true, true, true, true] rfl ⟨#[.agg c, .agg #[.int .i64 k, .int .i64 n, .int .i64 p], .int .i16 v, .pointer (some ⟨w.heap.size, 0, none⟩), .pointer (some ⟨w.heap.size + 1, 0, none⟩), undef, .bool false, .pointer (some ⟨g1, 0, none⟩), .pointer (some ⟨ga3, 0, none⟩), .agg c, .agg c, .agg #[.int .i64 k, .int .i64 n, .int .i64 p], .agg #[.int .i64 k, .int .i64 n, .int .i64 p], .int .i16 v, .agg C, .agg c, .agg c, .agg #[.int .i64 k, .int .i64 n, .int .i64 p], .agg #[.int .i64 k, .int .i64 n, .int .i64 p], .int .i16 v, .agg C, undef, undef, undef, undef], []⟩ rfl (wpAnyH_done (by kernel_rfl) ⟨rfl, ga3, hSt.out _ _ _ Sga3 hlga3, hlga3, row_set hZga3 _, rfl⟩ _)
        · skip
          refine up_alloc' rfl rfl 37 rfl Z (hz.out _) (hSc.out _ _ SWc1 ((Below.refl _ _).alloc (Nat.le_refl _) _)) #[true, true, true, true, true, false, true, false] rfl ⟨#[.agg c, .agg #[.int .i64 k, .int .i64 n, .int .i64 p], .int .i16 v, .pointer (some ⟨w.heap.size, 0, none⟩), .pointer (some ⟨w.heap.size + 1, 0, none⟩), undef, .bool false, .pointer (some ⟨g1, 0, none⟩), .pointer (some ⟨Wc1.heap.size, 0, none⟩), .agg c, .agg c, .agg #[.int .i64 k, .int .i64 n, .int .i64 p], .agg #[.int .i64 k, .int .i64 n, .int .i64 p], .int .i16 v, .agg C, .agg c, .agg c, .agg #[.int .i64 k, .int .i64 n, .int .i64 p], .agg #[.int .i64 k, .int .i64 n, .int .i64 p], .int .i16 v, undef, undef, undef, undef, undef], []⟩ rfl ?_
          have Sga2 : S2 (Wc1.alloc (.cells Z 37)) := hSc.out _ _ SWc1 ((Below.refl _ _).alloc (Nat.le_refl _) _)
          have hZga2 : (Wc1.alloc (.cells Z 37)).heap[Wc1.heap.size]? = some (.cells Z 37 (0, 0)) := heap_alloc_last _ _
          have hlga2 : g1 + 1 ≤ Wc1.heap.size := hSl.out _ SWc1
          generalize (Wc1.alloc (.cells Z 37)) = Wga2 at Sga2 hZga2 ⊢
          generalize Wc1.heap.size = ga2 at hZga2 hlga2 ⊢
          refine wpAnyH_all (rs := [5]) (by kernel_rfl) (by simp) (fun i hi => ?_)
          obtain rfl := List.mem_singleton.1 hi
          refine up_fcall' rfl rfl Tryd.func33 (by kernel_rfl) (by kernel_rfl) rfl [.agg c, .agg #[.int .i64 k, .int .i64 n, .int .i64 p], .int .i16 v] rfl #[true, true, true, true, true, true, true, false] rfl (.agg C) ⟨#[.agg c, .agg #[.int .i64 k, .int .i64 n, .int .i64 p], .int .i16 v, .pointer (some ⟨w.heap.size, 0, none⟩), .pointer (some ⟨w.heap.size + 1, 0, none⟩), undef, .bool false, .pointer (some ⟨g1, 0, none⟩), .pointer (some ⟨ga2, 0, none⟩), .agg c, .agg c, .agg #[.int .i64 k, .int .i64 n, .int .i64 p], .agg #[.int .i64 k, .int .i64 n, .int .i64 p], .int .i16 v, .agg C, .agg c, .agg c, .agg #[.int .i64 k, .int .i64 n, .int .i64 p], .agg #[.int .i64 k, .int .i64 n, .int .i64 p], .int .i16 v, .agg C, undef, undef, undef, undef], []⟩ rfl _ (cF.out _ Sga2) ?_
          intro Wc3 bWc3
          have SWc3 := hSc.out _ _ Sga2 bWc3
          have hZga2 := (bWc3.block _ (Array.getElem?_eq_some_iff.1 hZga2).1).trans hZga2
          refine ⟨SWc3, ?_⟩
          refine wpAnyH_all (rs := [7]) (by kernel_rfl) (by simp) (fun i hi => ?_)
          obtain rfl := List.mem_singleton.1 hi
          exact up_store' rfl rfl 37 _ _ rfl _ _ rfl _ rfl _ (store_all hZga2 _ _ HZC.out HIC.out HCo.out) (hSt.out _ _ _ SWc3 hlga2) #[true, true, true, true, true, true, true, true] rfl ⟨#[.agg c, .agg #[.int .i64 k, .int .i64 n, .int .i64 p], .int .i16 v, .pointer (some ⟨w.heap.size, 0, none⟩), .pointer (some ⟨w.heap.size + 1, 0, none⟩), undef, .bool false, .pointer (some ⟨g1, 0, none⟩), .pointer (some ⟨ga2, 0, none⟩), .agg c, .agg c, .agg #[.int .i64 k, .int .i64 n, .int .i64 p], .agg #[.int .i64 k, .int .i64 n, .int .i64 p], .int .i16 v, .agg C, .agg c, .agg c, .agg #[.int .i64 k, .int .i64 n, .int .i64 p], .agg #[.int .i64 k, .int .i64 n, .int .i64 p], .int .i16 v, .agg C, undef, undef, undef, undef], []⟩ rfl (wpAnyH_done (by kernel_rfl) ⟨rfl, ga2, hSt.out _ _ _ SWc3 hlga2, hlga2, row_set hZga2 _, rfl⟩ _)
      · skip
        refine up_alloc' rfl rfl 37 rfl Z (hz.out _) (hSc.out _ _ SWc0 ((Below.refl _ _).alloc (Nat.le_refl _) _)) #[true, true, true, false, true, false, true, false] rfl ⟨#[.agg c, .agg #[.int .i64 k, .int .i64 n, .int .i64 p], .int .i16 v, .pointer (some ⟨w.heap.size, 0, none⟩), .pointer (some ⟨w.heap.size + 1, 0, none⟩), undef, .bool false, .pointer (some ⟨g1, 0, none⟩), .pointer (some ⟨Wc0.heap.size, 0, none⟩), .agg c, .agg c, .agg #[.int .i64 k, .int .i64 n, .int .i64 p], .agg #[.int .i64 k, .int .i64 n, .int .i64 p], .int .i16 v, .agg C, .agg c, .agg c, .agg #[.int .i64 k, .int .i64 n, .int .i64 p], undef, .int .i16 v, undef, undef, undef, undef, undef], []⟩ rfl ?_
        have Sga1 : S2 (Wc0.alloc (.cells Z 37)) := hSc.out _ _ SWc0 ((Below.refl _ _).alloc (Nat.le_refl _) _)
        have hZga1 : (Wc0.alloc (.cells Z 37)).heap[Wc0.heap.size]? = some (.cells Z 37 (0, 0)) := heap_alloc_last _ _
        have hlga1 : g1 + 1 ≤ Wc0.heap.size := hSl.out _ SWc0
        generalize (Wc0.alloc (.cells Z 37)) = Wga1 at Sga1 hZga1 ⊢
        generalize Wc0.heap.size = ga1 at hZga1 hlga1 ⊢
        refine wpAnyH_all (rs := [3]) (by kernel_rfl) (by simp) (fun i hi => ?_)
        obtain rfl := List.mem_singleton.1 hi
        refine up_fcall' rfl rfl Tryd.func29 (by kernel_rfl) (by kernel_rfl) rfl [.agg #[.int .i64 k, .int .i64 n, .int .i64 p]] rfl #[true, true, true, true, true, false, true, false] rfl (.agg #[.int .i64 k, .int .i64 n, .int .i64 p]) ⟨#[.agg c, .agg #[.int .i64 k, .int .i64 n, .int .i64 p], .int .i16 v, .pointer (some ⟨w.heap.size, 0, none⟩), .pointer (some ⟨w.heap.size + 1, 0, none⟩), undef, .bool false, .pointer (some ⟨g1, 0, none⟩), .pointer (some ⟨ga1, 0, none⟩), .agg c, .agg c, .agg #[.int .i64 k, .int .i64 n, .int .i64 p], .agg #[.int .i64 k, .int .i64 n, .int .i64 p], .int .i16 v, .agg C, .agg c, .agg c, .agg #[.int .i64 k, .int .i64 n, .int .i64 p], .agg #[.int .i64 k, .int .i64 n, .int .i64 p], .int .i16 v, undef, undef, undef, undef, undef], []⟩ rfl _ (to_arg k n p _) ?_
        intro Wc2 bWc2
        have SWc2 := hSc.out _ _ Sga1 bWc2
        have hZga1 := (bWc2.block _ (Array.getElem?_eq_some_iff.1 hZga1).1).trans hZga1
        refine ⟨SWc2, ?_⟩
        refine wpAnyH_all (rs := [5]) (by kernel_rfl) (by simp) (fun i hi => ?_)
        obtain rfl := List.mem_singleton.1 hi
        refine up_fcall' rfl rfl Tryd.func33 (by kernel_rfl) (by kernel_rfl) rfl [.agg c, .agg #[.int .i64 k, .int .i64 n, .int .i64 p], .int .i16 v] rfl #[true, true, true, true, true, true, true, false] rfl (.agg C) ⟨#[.agg c, .agg #[.int .i64 k, .int .i64 n, .int .i64 p], .int .i16 v, .pointer (some ⟨w.heap.size, 0, none⟩), .pointer (some ⟨w.heap.size + 1, 0, none⟩), undef, .bool false, .pointer (some ⟨g1, 0, none⟩), .pointer (some ⟨ga1, 0, none⟩), .agg c, .agg c, .agg #[.int .i64 k, .int .i64 n, .int .i64 p], .agg #[.int .i64 k, .int .i64 n, .int .i64 p], .int .i16 v, .agg C, .agg c, .agg c, .agg #[.int .i64 k, .int .i64 n, .int .i64 p], .agg #[.int .i64 k, .int .i64 n, .int .i64 p], .int .i16 v, .agg C, undef, undef, undef, undef], []⟩ rfl _ (cF.out _ SWc2) ?_
        intro Wc3 bWc3
        have SWc3 := hSc.out _ _ SWc2 bWc3
        have hZga1 := (bWc3.block _ (Array.getElem?_eq_some_iff.1 hZga1).1).trans hZga1
        refine ⟨SWc3, ?_⟩
        refine wpAnyH_all (rs := [7]) (by kernel_rfl) (by simp) (fun i hi => ?_)
        obtain rfl := List.mem_singleton.1 hi
        exact up_store' rfl rfl 37 _ _ rfl _ _ rfl _ rfl _ (store_all hZga1 _ _ HZC.out HIC.out HCo.out) (hSt.out _ _ _ SWc3 hlga1) #[true, true, true, true, true, true, true, true] rfl ⟨#[.agg c, .agg #[.int .i64 k, .int .i64 n, .int .i64 p], .int .i16 v, .pointer (some ⟨w.heap.size, 0, none⟩), .pointer (some ⟨w.heap.size + 1, 0, none⟩), undef, .bool false, .pointer (some ⟨g1, 0, none⟩), .pointer (some ⟨ga1, 0, none⟩), .agg c, .agg c, .agg #[.int .i64 k, .int .i64 n, .int .i64 p], .agg #[.int .i64 k, .int .i64 n, .int .i64 p], .int .i16 v, .agg C, .agg c, .agg c, .agg #[.int .i64 k, .int .i64 n, .int .i64 p], .agg #[.int .i64 k, .int .i64 n, .int .i64 p], .int .i16 v, .agg C, undef, undef, undef, undef], []⟩ rfl (wpAnyH_done (by kernel_rfl) ⟨rfl, ga1, hSt.out _ _ _ SWc3 hlga1, hlga1, row_set hZga1 _, rfl⟩ _)
    · skip
      refine up_alloc' rfl rfl 37 rfl Z (hz.out _) (hSc.out _ _ S0 ((Below.refl _ _).alloc (Nat.le_refl _) _)) #[true, false, true, false, true, false, true, false] rfl ⟨#[.agg c, .agg #[.int .i64 k, .int .i64 n, .int .i64 p], .int .i16 v, .pointer (some ⟨w.heap.size, 0, none⟩), .pointer (some ⟨w.heap.size + 1, 0, none⟩), undef, .bool false, .pointer (some ⟨g1, 0, none⟩), .pointer (some ⟨W0.heap.size, 0, none⟩), .agg c, .agg c, .agg #[.int .i64 k, .int .i64 n, .int .i64 p], .agg #[.int .i64 k, .int .i64 n, .int .i64 p], .int .i16 v, .agg C, .agg c, undef, .agg #[.int .i64 k, .int .i64 n, .int .i64 p], undef, .int .i16 v, undef, undef, undef, undef, undef], []⟩ rfl ?_
      have Sga0 : S2 (W0.alloc (.cells Z 37)) := hSc.out _ _ S0 ((Below.refl _ _).alloc (Nat.le_refl _) _)
      have hZga0 : (W0.alloc (.cells Z 37)).heap[W0.heap.size]? = some (.cells Z 37 (0, 0)) := heap_alloc_last _ _
      have hlga0 : g1 + 1 ≤ W0.heap.size := hSl.out _ S0
      generalize (W0.alloc (.cells Z 37)) = Wga0 at Sga0 hZga0 ⊢
      generalize W0.heap.size = ga0 at hZga0 hlga0 ⊢
      refine wpAnyH_all (rs := [1]) (by kernel_rfl) (by simp) (fun i hi => ?_)
      obtain rfl := List.mem_singleton.1 hi
      refine up_fcall' rfl rfl Tryd.func28 (by kernel_rfl) (by kernel_rfl) rfl [.agg c] rfl #[true, true, true, false, true, false, true, false] rfl (.agg c) ⟨#[.agg c, .agg #[.int .i64 k, .int .i64 n, .int .i64 p], .int .i16 v, .pointer (some ⟨w.heap.size, 0, none⟩), .pointer (some ⟨w.heap.size + 1, 0, none⟩), undef, .bool false, .pointer (some ⟨g1, 0, none⟩), .pointer (some ⟨ga0, 0, none⟩), .agg c, .agg c, .agg #[.int .i64 k, .int .i64 n, .int .i64 p], .agg #[.int .i64 k, .int .i64 n, .int .i64 p], .int .i16 v, .agg C, .agg c, .agg c, .agg #[.int .i64 k, .int .i64 n, .int .i64 p], undef, .int .i16 v, undef, undef, undef, undef, undef], []⟩ rfl _ (to_mem c HC.out _) ?_
      intro Wc1 bWc1
      have SWc1 := hSc.out _ _ Sga0 bWc1
      have hZga0 := (bWc1.block _ (Array.getElem?_eq_some_iff.1 hZga0).1).trans hZga0
      refine ⟨SWc1, ?_⟩
      refine wpAnyH_all (rs := [3]) (by kernel_rfl) (by simp) (fun i hi => ?_)
      obtain rfl := List.mem_singleton.1 hi
      refine up_fcall' rfl rfl Tryd.func29 (by kernel_rfl) (by kernel_rfl) rfl [.agg #[.int .i64 k, .int .i64 n, .int .i64 p]] rfl #[true, true, true, true, true, false, true, false] rfl (.agg #[.int .i64 k, .int .i64 n, .int .i64 p]) ⟨#[.agg c, .agg #[.int .i64 k, .int .i64 n, .int .i64 p], .int .i16 v, .pointer (some ⟨w.heap.size, 0, none⟩), .pointer (some ⟨w.heap.size + 1, 0, none⟩), undef, .bool false, .pointer (some ⟨g1, 0, none⟩), .pointer (some ⟨ga0, 0, none⟩), .agg c, .agg c, .agg #[.int .i64 k, .int .i64 n, .int .i64 p], .agg #[.int .i64 k, .int .i64 n, .int .i64 p], .int .i16 v, .agg C, .agg c, .agg c, .agg #[.int .i64 k, .int .i64 n, .int .i64 p], .agg #[.int .i64 k, .int .i64 n, .int .i64 p], .int .i16 v, undef, undef, undef, undef, undef], []⟩ rfl _ (to_arg k n p _) ?_
      intro Wc2 bWc2
      have SWc2 := hSc.out _ _ SWc1 bWc2
      have hZga0 := (bWc2.block _ (Array.getElem?_eq_some_iff.1 hZga0).1).trans hZga0
      refine ⟨SWc2, ?_⟩
      refine wpAnyH_all (rs := [5]) (by kernel_rfl) (by simp) (fun i hi => ?_)
      obtain rfl := List.mem_singleton.1 hi
      refine up_fcall' rfl rfl Tryd.func33 (by kernel_rfl) (by kernel_rfl) rfl [.agg c, .agg #[.int .i64 k, .int .i64 n, .int .i64 p], .int .i16 v] rfl #[true, true, true, true, true, true, true, false] rfl (.agg C) ⟨#[.agg c, .agg #[.int .i64 k, .int .i64 n, .int .i64 p], .int .i16 v, .pointer (some ⟨w.heap.size, 0, none⟩), .pointer (some ⟨w.heap.size + 1, 0, none⟩), undef, .bool false, .pointer (some ⟨g1, 0, none⟩), .pointer (some ⟨ga0, 0, none⟩), .agg c, .agg c, .agg #[.int .i64 k, .int .i64 n, .int .i64 p], .agg #[.int .i64 k, .int .i64 n, .int .i64 p], .int .i16 v, .agg C, .agg c, .agg c, .agg #[.int .i64 k, .int .i64 n, .int .i64 p], .agg #[.int .i64 k, .int .i64 n, .int .i64 p], .int .i16 v, .agg C, undef, undef, undef, undef], []⟩ rfl _ (cF.out _ SWc2) ?_
      intro Wc3 bWc3
      have SWc3 := hSc.out _ _ SWc2 bWc3
      have hZga0 := (bWc3.block _ (Array.getElem?_eq_some_iff.1 hZga0).1).trans hZga0
      refine ⟨SWc3, ?_⟩
      refine wpAnyH_all (rs := [7]) (by kernel_rfl) (by simp) (fun i hi => ?_)
      obtain rfl := List.mem_singleton.1 hi
      exact up_store' rfl rfl 37 _ _ rfl _ _ rfl _ rfl _ (store_all hZga0 _ _ HZC.out HIC.out HCo.out) (hSt.out _ _ _ SWc3 hlga0) #[true, true, true, true, true, true, true, true] rfl ⟨#[.agg c, .agg #[.int .i64 k, .int .i64 n, .int .i64 p], .int .i16 v, .pointer (some ⟨w.heap.size, 0, none⟩), .pointer (some ⟨w.heap.size + 1, 0, none⟩), undef, .bool false, .pointer (some ⟨g1, 0, none⟩), .pointer (some ⟨ga0, 0, none⟩), .agg c, .agg c, .agg #[.int .i64 k, .int .i64 n, .int .i64 p], .agg #[.int .i64 k, .int .i64 n, .int .i64 p], .int .i16 v, .agg C, .agg c, .agg c, .agg #[.int .i64 k, .int .i64 n, .int .i64 p], .agg #[.int .i64 k, .int .i64 n, .int .i64 p], .int .i16 v, .agg C, undef, undef, undef, undef], []⟩ rfl (wpAnyH_done (by kernel_rfl) ⟨rfl, ga0, hSt.out _ _ _ SWc3 hlga0, hlga0, row_set hZga0 _, rfl⟩ _)
  rintro a2 w2 ⟨g2, h2, hg2, hG2, rfl⟩
  obtain ⟨hA, hB, hb, hG, hg1⟩ := (HS2.out w2).1 h2
  clear hSc hSt hSl hL1 hL2 cF HS2 h2 hA hB
  have HLa : Hid ((loadVar 37 ⟨g2, 0, none⟩).run Tryd.prog w2 = .ok (.agg C) w2) := load_all hG2 _ _ Tryd.underlying37 rfl HIC.out
  have HLb : Hid ((loadVar 37 ⟨g1, 0, none⟩).run Tryd.prog w2 = .ok (.agg C) w2) := load_all hG _ _ Tryd.underlying37 rfl HIC.out
  go_wp2_with (first | (refine wpL_load rfl 37 _ rfl _ _ rfl _ HLa.out ?_) | (refine wpL_load rfl 37 _ rfl _ _ rfl _ HLb.out ?_) | fail)
  refine (eq_mem C C (MSame.refl HCM.out) _).mono ?_
  rintro e w3 ⟨rfl, g3⟩
  have b3 := hb.trans (g3.mono hb.size)
  go_wp2
  go_ret
  exact ⟨rfl, b3⟩

set_option maxRecDepth 10000 in
set_option maxHeartbeats 1000000 in
theorem law_putr (c : Array Value) (k n p : Int) (v : Nat) (w : World) (hc : MemOk c) (hk : (Lit.int .i64 k).wf = true) (hn : (Lit.int .i64 n).wf = true) (hp : (Lit.int .i64 p).wf = true) (hv : (Lit.float .f64 v).wf = true) (hT : KT w) :
    Calls Tryd.prog 11 #[.agg c, .agg #[.int .i64 k, .int .i64 n, .int .i64 p], .float .f64 v] w fun e w' => e = .returned (.bool true) ∧ Below w.heap.size w w' := by
  have HC : Hid (MemOk c) := hc
  have HT : Hid (KT w) := hT
  have HI : Hid ((Tryd.prog.info? 62).map (·.size) = some c.size) := by rw [HC.out.size]; exact mem_info
  obtain ⟨C, HCC⟩ : ∃ C, Hid (C = putk c 10 117 k n (.float .f64 v)) := ⟨_, rfl⟩
  have HB1 : Hid (∀ W, Calls Tryd.prog 36 #[.agg c, .agg #[.int .i64 k, .int .i64 n, .int .i64 p], .float .f64 v] W fun e w' => e = .returned (.agg C) ∧ Below W.heap.size W w') := fun W => by
    rw [HCC.out]; exact putr_s c HC.out k n p v W
  have HB2 : Hid (∀ W, KT W → Calls Tryd.prog 37 #[.agg c, .agg #[.int .i64 k, .int .i64 n, .int .i64 p], .float .f64 v] W fun e w' => e = .returned (.agg C) ∧ Below W.heap.size W w') := fun W h => by
    rw [HCC.out]; exact putr_i c HC.out k n p v W h
  have hz : Hid (∀ W, (zeroValue 37).run Tryd.prog W = .ok (.agg memZero) W) := zero_mem.1
  obtain ⟨Z, HZ⟩ : ∃ Z, Hid (Z = memZero) := ⟨_, rfl⟩
  rw [← HZ.out] at hz
  have HCM : Hid (MemOk C) := (by rw [HCC.out]; exact memOk_putr HC.out k n (has_wf hv) : MemOk C)
  have HZC : Hid (Z.size = C.size) := (by rw [HZ.out, memZero_size, HCM.out.size] : Z.size = C.size)
  have HIC : Hid ((Tryd.prog.info? 37).map (·.size) = some C.size) := (by rw [HCM.out.size]; exact zero_mem.2 : (Tryd.prog.info? 37).map (·.size) = some C.size)
  have HCo : Hid (C.all (·.oneCell') = true) := HCM.out.one
  clear hc hT hk hn hp hv
  go_enter Tryd.func11, Tryd.ntmps11
  go_upto_region 1 with fail
  have hA := (rows2 w (.cells c 62) (.cells #[.int .i64 k, .int .i64 n, .int .i64 p] 63)).1
  have hB := (rows2 w (.cells c 62) (.cells #[.int .i64 k, .int .i64 n, .int .i64 p] 63)).2
  have hb : Below w.heap.size w ((w.alloc (.cells c 62)).alloc (.cells #[.int .i64 k, .int .i64 n, .int .i64 p] 63)) := ((Below.refl _ _).alloc (Nat.le_refl _) _).alloc (by simp) _
  generalize ((w.alloc (.cells c 62)).alloc (.cells #[.int .i64 k, .int .i64 n, .int .i64 p] 63)) = w0 at hA hB hb ⊢
  obtain ⟨S1, HS1⟩ : ∃ S : World → Prop, Hid (∀ W, S W ↔ (W.heap[w.heap.size]? = some (.cells c 62 (0, 0)) ∧ W.heap[w.heap.size + 1]? = some (.cells #[.int .i64 k, .int .i64 n, .int .i64 p] 63 (0, 0)) ∧ Below w.heap.size w W)) := ⟨_, fun W => Iff.rfl⟩
  have hSc : Hid (∀ W W', S1 W → Below W.heap.size W W' → S1 W') := fun W W' h g => by
    have h := (HS1.out W).1 h
    have l1 := (Array.getElem?_eq_some_iff.1 h.2.1).1
    
    exact (HS1.out W').2 ⟨(g.block _ (by omega)).trans h.1, (g.block _ (by omega)).trans h.2.1, h.2.2.trans (g.mono (h.2.2).size)⟩
  have hSt : Hid (∀ W g1 D, S1 W → w.heap.size + 2 ≤ g1 → S1 (W.setRow g1 D)) := fun W g1 D h hg => by
    have h := (HS1.out W).1 h
    exact (HS1.out _).2 ⟨row_beside h.1 _ (by omega) _, row_beside h.2.1 _ (by omega) _, below_setRow h.2.2 (by omega) _⟩
  have hSl : Hid (∀ W, S1 W → w.heap.size + 2 ≤ W.heap.size) := fun W h => by
    have h := (HS1.out W).1 h
    have l1 := (Array.getElem?_eq_some_iff.1 h.2.1).1
    show w.heap.size + 2 ≤ W.heap.size
    omega
  have hL1 : Hid (∀ W, S1 W → (loadVar 62 ⟨w.heap.size, 0, none⟩).run Tryd.prog W = .ok (.agg c) W) := fun W h => load_all ((HS1.out W).1 h).1 _ _ Tryd.underlying62 rfl HI.out
  have hL2 : Hid (∀ W, S1 W → (loadVar 63 ⟨w.heap.size + 1, 0, none⟩).run Tryd.prog W = .ok (.agg #[.int .i64 k, .int .i64 n, .int .i64 p]) W) := fun W h => load_all ((HS1.out W).1 h).2.1 _ _ Tryd.underlying63 rfl arg_info
  have cF : Hid (∀ W, S1 W → Calls Tryd.prog 36 #[.agg c, .agg #[.int .i64 k, .int .i64 n, .int .i64 p], .float .f64 v] W fun e w' => e = .returned (.agg C) ∧ Below W.heap.size W w') := fun W h => HB1.out W
  refine region_cut (R := fun a' W => ∃ g1 : Nat, S1 W ∧ w.heap.size + 2 ≤ g1 ∧ W.heap[g1]? = some (.cells C 37 (0, 0)) ∧ a' = ⟨#[.agg c, .agg #[.int .i64 k, .int .i64 n, .int .i64 p], .float .f64 v, .pointer (some ⟨w.heap.size, 0, none⟩), .pointer (some ⟨w.heap.size + 1, 0, none⟩), undef, .bool false, .pointer (some ⟨g1, 0, none⟩), undef, .agg c, .agg c, .agg #[.int .i64 k, .int .i64 n, .int .i64 p], .agg #[.int .i64 k, .int .i64 n, .int .i64 p], .float .f64 v, .agg C, undef, undef, undef, undef, undef, undef, undef, undef, undef, undef], []⟩) ?_ ?_
  · have S0 : S1 w0.drew := (HS1.out _).2 ⟨hA, hB, hb.drew⟩
    refine held_start (S := S1) (by kernel_rfl) S0 8 rfl #[false, false, false, false, false, false, false, false] rfl (fun W0 S0 => ?_)
    refine tk_load' (i := 0) rfl (by kernel_rfl) (by kernel_rfl) (by kernel_rfl) (fun _ _ _ _ h => nomatch h.1) rfl 62 _ rfl _ _ rfl (.agg c) hL1.out S0 #[true, false, false, false, false, false, false, false] rfl ⟨#[.agg c, .agg #[.int .i64 k, .int .i64 n, .int .i64 p], .float .f64 v, .pointer (some ⟨w.heap.size, 0, none⟩), .pointer (some ⟨w.heap.size + 1, 0, none⟩), undef, .bool false, undef, undef, .agg c, undef, undef, undef, undef, undef, undef, undef, undef, undef, undef, undef, undef, undef, undef, undef], []⟩ rfl ?_
    refine tk_load' (i := 2) rfl (by kernel_rfl) (by kernel_rfl) (by kernel_rfl) (fun _ _ _ _ h => nomatch h.1) rfl 63 _ rfl _ _ rfl (.agg #[.int .i64 k, .int .i64 n, .int .i64 p]) hL2.out S0 #[true, false, true, false, false, false, false, false] rfl ⟨#[.agg c, .agg #[.int .i64 k, .int .i64 n, .int .i64 p], .float .f64 v, .pointer (some ⟨w.heap.size, 0, none⟩), .pointer (some ⟨w.heap.size + 1, 0, none⟩), undef, .bool false, undef, undef, .agg c, undef, .agg #[.int .i64 k, .int .i64 n, .int .i64 p], undef, undef, undef, undef, undef, undef, undef, undef, undef, undef, undef, undef, undef], []⟩ rfl ?_
    refine tk_move' (i := 4) rfl (by kernel_rfl) (by kernel_rfl) (by kernel_rfl) (fun _ _ _ _ h => nomatch h.1) rfl _ rfl _ rfl S0 #[true, false, true, false, true, false, false, false] rfl ⟨#[.agg c, .agg #[.int .i64 k, .int .i64 n, .int .i64 p], .float .f64 v, .pointer (some ⟨w.heap.size, 0, none⟩), .pointer (some ⟨w.heap.size + 1, 0, none⟩), undef, .bool false, undef, undef, .agg c, undef, .agg #[.int .i64 k, .int .i64 n, .int .i64 p], undef, .float .f64 v, undef, undef, undef, undef, undef, undef, undef, undef, undef, undef, undef], []⟩ rfl ?_
    refine wpAnyH_all (rs := [1, 6]) (by kernel_rfl) (by simp) (fun i hi => ?_)
    rcases (by simpa using hi : i = 1 ∨ i = 6) with rfl | rfl
    · skip
      refine up_fcall' rfl rfl Tryd.func28 (by kernel_rfl) (by kernel_rfl) rfl [.agg c] rfl #[true, true, true, false, true, false, false, false] rfl (.agg c) ⟨#[.agg c, .agg #[.int .i64 k, .int .i64 n, .int .i64 p], .float .f64 v, .pointer (some ⟨w.heap.size, 0, none⟩), .pointer (some ⟨w.heap.size + 1, 0, none⟩), undef, .bool false, undef, undef, .agg c, .agg c, .agg #[.int .i64 k, .int .i64 n, .int .i64 p], undef, .float .f64 v, undef, undef, undef, undef, undef, undef, undef, undef, undef, undef, undef], []⟩ rfl _ (to_mem c HC.out _) ?_
      intro Wc0 bWc0
      have SWc0 := hSc.out _ _ S0 bWc0
      refine ⟨SWc0, ?_⟩
      refine wpAnyH_all (rs := [3, 6]) (by kernel_rfl) (by simp) (fun i hi => ?_)
      rcases (by simpa using hi : i = 3 ∨ i = 6) with rfl | rfl
      · skip
        refine up_fcall' rfl rfl Tryd.func29 (by kernel_rfl) (by kernel_rfl) rfl [.agg #[.int .i64 k, .int .i64 n, .int .i64 p]] rfl #[true, true, true, true, true, false, false, false] rfl (.agg #[.int .i64 k, .int .i64 n, .int .i64 p]) ⟨#[.agg c, .agg #[.int .i64 k, .int .i64 n, .int .i64 p], .float .f64 v, .pointer (some ⟨w.heap.size, 0, none⟩), .pointer (some ⟨w.heap.size + 1, 0, none⟩), undef, .bool false, undef, undef, .agg c, .agg c, .agg #[.int .i64 k, .int .i64 n, .int .i64 p], .agg #[.int .i64 k, .int .i64 n, .int .i64 p], .float .f64 v, undef, undef, undef, undef, undef, undef, undef, undef, undef, undef, undef], []⟩ rfl _ (to_arg k n p _) ?_
        intro Wc1 bWc1
        have SWc1 := hSc.out _ _ SWc0 bWc1
        refine ⟨SWc1, ?_⟩
        refine wpAnyH_all (rs := [5, 6]) (by kernel_rfl) (by simp) (fun i hi => ?_)
        rcases (by simpa using hi : i = 5 ∨ i = 6) with rfl | rfl
        · skip
          refine up_fcall' rfl rfl Tryd.func36 (by kernel_rfl) (by kernel_rfl) rfl [.agg c, .agg #[.int .i64 k, .int .i64 n, .int .i64 p], .float .f64 v] rfl #[true, true, true, true, true, true, false, false] rfl (.agg C) ⟨#[.agg c, .agg #[.int .i64 k, .int .i64 n, .int .i64 p], .float .f64 v, .pointer (some ⟨w.heap.size, 0, none⟩), .pointer (some ⟨w.heap.size + 1, 0, none⟩), undef, .bool false, undef, undef, .agg c, .agg c, .agg #[.int .i64 k, .int .i64 n, .int .i64 p], .agg #[.int .i64 k, .int .i64 n, .int .i64 p], .float .f64 v, .agg C, undef, undef, undef, undef, undef, undef, undef, undef, undef, undef], []⟩ rfl _ (cF.out _ SWc1) ?_
          intro Wc2 bWc2
          have SWc2 := hSc.out _ _ SWc1 bWc2
          refine ⟨SWc2, ?_⟩
          refine wpAnyH_all (rs := [6]) (by kernel_rfl) (by simp) (fun i hi => ?_)
          obtain rfl := List.mem_singleton.1 hi
          refine up_alloc' rfl rfl 37 rfl Z (hz.out _) (hSc.out _ _ SWc2 ((Below.refl _ _).alloc (Nat.le_refl _) _)) #[true, true, true, true, true, true, true, false] rfl ⟨#[.agg c, .agg #[.int .i64 k, .int .i64 n, .int .i64 p], .float .f64 v, .pointer (some ⟨w.heap.size, 0, none⟩), .pointer (some ⟨w.heap.size + 1, 0, none⟩), undef, .bool false, .pointer (some ⟨Wc2.heap.size, 0, none⟩), undef, .agg c, .agg c, .agg #[.int .i64 k, .int .i64 n, .int .i64 p], .agg #[.int .i64 k, .int .i64 n, .int .i64 p], .float .f64 v, .agg C, undef, undef, undef, undef, undef, undef, undef, undef, undef, undef], []⟩ rfl ?_
          have Sga3 : S1 (Wc2.alloc (.cells Z 37)) := hSc.out _ _ SWc2 ((Below.refl _ _).alloc (Nat.le_refl _) _)
          have hZga3 : (Wc2.alloc (.cells Z 37)).heap[Wc2.heap.size]? = some (.cells Z 37 (0, 0)) := heap_alloc_last _ _
          have hlga3 : w.heap.size + 2 ≤ Wc2.heap.size := hSl.out _ SWc2
          generalize (Wc2.alloc (.cells Z 37)) = Wga3 at Sga3 hZga3 ⊢
          generalize Wc2.heap.size = ga3 at hZga3 hlga3 ⊢
          refine wpAnyH_all (rs := [7]) (by kernel_rfl) (by simp) (fun i hi => ?_)
          obtain rfl := List.mem_singleton.1 hi
          exact up_store' rfl rfl 37 _ _ rfl _ _ rfl _ rfl _ (store_all hZga3 _ _ HZC.out HIC.out HCo.out) (hSt.out _ _ _ Sga3 hlga3) #[true, true, true, true, true, true, true, true] rfl ⟨#[.agg c, .agg #[.int .i64 k, .int .i64 n, .int .i64 p], .float .f64 v, .pointer (some ⟨w.heap.size, 0, none⟩), .pointer (some ⟨w.heap.size + 1, 0, none⟩), undef, .bool false, .pointer (some ⟨ga3, 0, none⟩), undef, .agg c, .agg c, .agg #[.int .i64 k, .int .i64 n, .int .i64 p], .agg #[.int .i64 k, .int .i64 n, .int .i64 p], .float .f64 v, .agg C, undef, undef, undef, undef, undef, undef, undef, undef, undef, undef], []⟩ rfl (wpAnyH_done (by kernel_rfl) ⟨rfl, ga3, hSt.out _ _ _ Sga3 hlga3, hlga3, row_set hZga3 _, rfl⟩ _)
        · skip
          refine up_alloc' rfl rfl 37 rfl Z (hz.out _) (hSc.out _ _ SWc1 ((Below.refl _ _).alloc (Nat.le_refl _) _)) #[true, true, true, true, true, false, true, false] rfl ⟨#[.agg c, .agg #[.int .i64 k, .int .i64 n, .int .i64 p], .float .f64 v, .pointer (some ⟨w.heap.size, 0, none⟩), .pointer (some ⟨w.heap.size + 1, 0, none⟩), undef, .bool false, .pointer (some ⟨Wc1.heap.size, 0, none⟩), undef, .agg c, .agg c, .agg #[.int .i64 k, .int .i64 n, .int .i64 p], .agg #[.int .i64 k, .int .i64 n, .int .i64 p], .float .f64 v, undef, undef, undef, undef, undef, undef, undef, undef, undef, undef, undef], []⟩ rfl ?_
          have Sga2 : S1 (Wc1.alloc (.cells Z 37)) := hSc.out _ _ SWc1 ((Below.refl _ _).alloc (Nat.le_refl _) _)
          have hZga2 : (Wc1.alloc (.cells Z 37)).heap[Wc1.heap.size]? = some (.cells Z 37 (0, 0)) := heap_alloc_last _ _
          have hlga2 : w.heap.size + 2 ≤ Wc1.heap.size := hSl.out _ SWc1
          generalize (Wc1.alloc (.cells Z 37)) = Wga2 at Sga2 hZga2 ⊢
          generalize Wc1.heap.size = ga2 at hZga2 hlga2 ⊢
          refine wpAnyH_all (rs := [5]) (by kernel_rfl) (by simp) (fun i hi => ?_)
          obtain rfl := List.mem_singleton.1 hi
          refine up_fcall' rfl rfl Tryd.func36 (by kernel_rfl) (by kernel_rfl) rfl [.agg c, .agg #[.int .i64 k, .int .i64 n, .int .i64 p], .float .f64 v] rfl #[true, true, true, true, true, true, true, false] rfl (.agg C) ⟨#[.agg c, .agg #[.int .i64 k, .int .i64 n, .int .i64 p], .float .f64 v, .pointer (some ⟨w.heap.size, 0, none⟩), .pointer (some ⟨w.heap.size + 1, 0, none⟩), undef, .bool false, .pointer (some ⟨ga2, 0, none⟩), undef, .agg c, .agg c, .agg #[.int .i64 k, .int .i64 n, .int .i64 p], .agg #[.int .i64 k, .int .i64 n, .int .i64 p], .float .f64 v, .agg C, undef, undef, undef, undef, undef, undef, undef, undef, undef, undef], []⟩ rfl _ (cF.out _ Sga2) ?_
          intro Wc3 bWc3
          have SWc3 := hSc.out _ _ Sga2 bWc3
          have hZga2 := (bWc3.block _ (Array.getElem?_eq_some_iff.1 hZga2).1).trans hZga2
          refine ⟨SWc3, ?_⟩
          refine wpAnyH_all (rs := [7]) (by kernel_rfl) (by simp) (fun i hi => ?_)
          obtain rfl := List.mem_singleton.1 hi
          exact up_store' rfl rfl 37 _ _ rfl _ _ rfl _ rfl _ (store_all hZga2 _ _ HZC.out HIC.out HCo.out) (hSt.out _ _ _ SWc3 hlga2) #[true, true, true, true, true, true, true, true] rfl ⟨#[.agg c, .agg #[.int .i64 k, .int .i64 n, .int .i64 p], .float .f64 v, .pointer (some ⟨w.heap.size, 0, none⟩), .pointer (some ⟨w.heap.size + 1, 0, none⟩), undef, .bool false, .pointer (some ⟨ga2, 0, none⟩), undef, .agg c, .agg c, .agg #[.int .i64 k, .int .i64 n, .int .i64 p], .agg #[.int .i64 k, .int .i64 n, .int .i64 p], .float .f64 v, .agg C, undef, undef, undef, undef, undef, undef, undef, undef, undef, undef], []⟩ rfl (wpAnyH_done (by kernel_rfl) ⟨rfl, ga2, hSt.out _ _ _ SWc3 hlga2, hlga2, row_set hZga2 _, rfl⟩ _)
      · skip
        refine up_alloc' rfl rfl 37 rfl Z (hz.out _) (hSc.out _ _ SWc0 ((Below.refl _ _).alloc (Nat.le_refl _) _)) #[true, true, true, false, true, false, true, false] rfl ⟨#[.agg c, .agg #[.int .i64 k, .int .i64 n, .int .i64 p], .float .f64 v, .pointer (some ⟨w.heap.size, 0, none⟩), .pointer (some ⟨w.heap.size + 1, 0, none⟩), undef, .bool false, .pointer (some ⟨Wc0.heap.size, 0, none⟩), undef, .agg c, .agg c, .agg #[.int .i64 k, .int .i64 n, .int .i64 p], undef, .float .f64 v, undef, undef, undef, undef, undef, undef, undef, undef, undef, undef, undef], []⟩ rfl ?_
        have Sga1 : S1 (Wc0.alloc (.cells Z 37)) := hSc.out _ _ SWc0 ((Below.refl _ _).alloc (Nat.le_refl _) _)
        have hZga1 : (Wc0.alloc (.cells Z 37)).heap[Wc0.heap.size]? = some (.cells Z 37 (0, 0)) := heap_alloc_last _ _
        have hlga1 : w.heap.size + 2 ≤ Wc0.heap.size := hSl.out _ SWc0
        generalize (Wc0.alloc (.cells Z 37)) = Wga1 at Sga1 hZga1 ⊢
        generalize Wc0.heap.size = ga1 at hZga1 hlga1 ⊢
        refine wpAnyH_all (rs := [3]) (by kernel_rfl) (by simp) (fun i hi => ?_)
        obtain rfl := List.mem_singleton.1 hi
        refine up_fcall' rfl rfl Tryd.func29 (by kernel_rfl) (by kernel_rfl) rfl [.agg #[.int .i64 k, .int .i64 n, .int .i64 p]] rfl #[true, true, true, true, true, false, true, false] rfl (.agg #[.int .i64 k, .int .i64 n, .int .i64 p]) ⟨#[.agg c, .agg #[.int .i64 k, .int .i64 n, .int .i64 p], .float .f64 v, .pointer (some ⟨w.heap.size, 0, none⟩), .pointer (some ⟨w.heap.size + 1, 0, none⟩), undef, .bool false, .pointer (some ⟨ga1, 0, none⟩), undef, .agg c, .agg c, .agg #[.int .i64 k, .int .i64 n, .int .i64 p], .agg #[.int .i64 k, .int .i64 n, .int .i64 p], .float .f64 v, undef, undef, undef, undef, undef, undef, undef, undef, undef, undef, undef], []⟩ rfl _ (to_arg k n p _) ?_
        intro Wc2 bWc2
        have SWc2 := hSc.out _ _ Sga1 bWc2
        have hZga1 := (bWc2.block _ (Array.getElem?_eq_some_iff.1 hZga1).1).trans hZga1
        refine ⟨SWc2, ?_⟩
        refine wpAnyH_all (rs := [5]) (by kernel_rfl) (by simp) (fun i hi => ?_)
        obtain rfl := List.mem_singleton.1 hi
        refine up_fcall' rfl rfl Tryd.func36 (by kernel_rfl) (by kernel_rfl) rfl [.agg c, .agg #[.int .i64 k, .int .i64 n, .int .i64 p], .float .f64 v] rfl #[true, true, true, true, true, true, true, false] rfl (.agg C) ⟨#[.agg c, .agg #[.int .i64 k, .int .i64 n, .int .i64 p], .float .f64 v, .pointer (some ⟨w.heap.size, 0, none⟩), .pointer (some ⟨w.heap.size + 1, 0, none⟩), undef, .bool false, .pointer (some ⟨ga1, 0, none⟩), undef, .agg c, .agg c, .agg #[.int .i64 k, .int .i64 n, .int .i64 p], .agg #[.int .i64 k, .int .i64 n, .int .i64 p], .float .f64 v, .agg C, undef, undef, undef, undef, undef, undef, undef, undef, undef, undef], []⟩ rfl _ (cF.out _ SWc2) ?_
        intro Wc3 bWc3
        have SWc3 := hSc.out _ _ SWc2 bWc3
        have hZga1 := (bWc3.block _ (Array.getElem?_eq_some_iff.1 hZga1).1).trans hZga1
        refine ⟨SWc3, ?_⟩
        refine wpAnyH_all (rs := [7]) (by kernel_rfl) (by simp) (fun i hi => ?_)
        obtain rfl := List.mem_singleton.1 hi
        exact up_store' rfl rfl 37 _ _ rfl _ _ rfl _ rfl _ (store_all hZga1 _ _ HZC.out HIC.out HCo.out) (hSt.out _ _ _ SWc3 hlga1) #[true, true, true, true, true, true, true, true] rfl ⟨#[.agg c, .agg #[.int .i64 k, .int .i64 n, .int .i64 p], .float .f64 v, .pointer (some ⟨w.heap.size, 0, none⟩), .pointer (some ⟨w.heap.size + 1, 0, none⟩), undef, .bool false, .pointer (some ⟨ga1, 0, none⟩), undef, .agg c, .agg c, .agg #[.int .i64 k, .int .i64 n, .int .i64 p], .agg #[.int .i64 k, .int .i64 n, .int .i64 p], .float .f64 v, .agg C, undef, undef, undef, undef, undef, undef, undef, undef, undef, undef], []⟩ rfl (wpAnyH_done (by kernel_rfl) ⟨rfl, ga1, hSt.out _ _ _ SWc3 hlga1, hlga1, row_set hZga1 _, rfl⟩ _)
    · skip
      refine up_alloc' rfl rfl 37 rfl Z (hz.out _) (hSc.out _ _ S0 ((Below.refl _ _).alloc (Nat.le_refl _) _)) #[true, false, true, false, true, false, true, false] rfl ⟨#[.agg c, .agg #[.int .i64 k, .int .i64 n, .int .i64 p], .float .f64 v, .pointer (some ⟨w.heap.size, 0, none⟩), .pointer (some ⟨w.heap.size + 1, 0, none⟩), undef, .bool false, .pointer (some ⟨W0.heap.size, 0, none⟩), undef, .agg c, undef, .agg #[.int .i64 k, .int .i64 n, .int .i64 p], undef, .float .f64 v, undef, undef, undef, undef, undef, undef, undef, undef, undef, undef, undef], []⟩ rfl ?_
      have Sga0 : S1 (W0.alloc (.cells Z 37)) := hSc.out _ _ S0 ((Below.refl _ _).alloc (Nat.le_refl _) _)
      have hZga0 : (W0.alloc (.cells Z 37)).heap[W0.heap.size]? = some (.cells Z 37 (0, 0)) := heap_alloc_last _ _
      have hlga0 : w.heap.size + 2 ≤ W0.heap.size := hSl.out _ S0
      generalize (W0.alloc (.cells Z 37)) = Wga0 at Sga0 hZga0 ⊢
      generalize W0.heap.size = ga0 at hZga0 hlga0 ⊢
      refine wpAnyH_all (rs := [1]) (by kernel_rfl) (by simp) (fun i hi => ?_)
      obtain rfl := List.mem_singleton.1 hi
      refine up_fcall' rfl rfl Tryd.func28 (by kernel_rfl) (by kernel_rfl) rfl [.agg c] rfl #[true, true, true, false, true, false, true, false] rfl (.agg c) ⟨#[.agg c, .agg #[.int .i64 k, .int .i64 n, .int .i64 p], .float .f64 v, .pointer (some ⟨w.heap.size, 0, none⟩), .pointer (some ⟨w.heap.size + 1, 0, none⟩), undef, .bool false, .pointer (some ⟨ga0, 0, none⟩), undef, .agg c, .agg c, .agg #[.int .i64 k, .int .i64 n, .int .i64 p], undef, .float .f64 v, undef, undef, undef, undef, undef, undef, undef, undef, undef, undef, undef], []⟩ rfl _ (to_mem c HC.out _) ?_
      intro Wc1 bWc1
      have SWc1 := hSc.out _ _ Sga0 bWc1
      have hZga0 := (bWc1.block _ (Array.getElem?_eq_some_iff.1 hZga0).1).trans hZga0
      refine ⟨SWc1, ?_⟩
      refine wpAnyH_all (rs := [3]) (by kernel_rfl) (by simp) (fun i hi => ?_)
      obtain rfl := List.mem_singleton.1 hi
      refine up_fcall' rfl rfl Tryd.func29 (by kernel_rfl) (by kernel_rfl) rfl [.agg #[.int .i64 k, .int .i64 n, .int .i64 p]] rfl #[true, true, true, true, true, false, true, false] rfl (.agg #[.int .i64 k, .int .i64 n, .int .i64 p]) ⟨#[.agg c, .agg #[.int .i64 k, .int .i64 n, .int .i64 p], .float .f64 v, .pointer (some ⟨w.heap.size, 0, none⟩), .pointer (some ⟨w.heap.size + 1, 0, none⟩), undef, .bool false, .pointer (some ⟨ga0, 0, none⟩), undef, .agg c, .agg c, .agg #[.int .i64 k, .int .i64 n, .int .i64 p], .agg #[.int .i64 k, .int .i64 n, .int .i64 p], .float .f64 v, undef, undef, undef, undef, undef, undef, undef, undef, undef, undef, undef], []⟩ rfl _ (to_arg k n p _) ?_
      intro Wc2 bWc2
      have SWc2 := hSc.out _ _ SWc1 bWc2
      have hZga0 := (bWc2.block _ (Array.getElem?_eq_some_iff.1 hZga0).1).trans hZga0
      refine ⟨SWc2, ?_⟩
      refine wpAnyH_all (rs := [5]) (by kernel_rfl) (by simp) (fun i hi => ?_)
      obtain rfl := List.mem_singleton.1 hi
      refine up_fcall' rfl rfl Tryd.func36 (by kernel_rfl) (by kernel_rfl) rfl [.agg c, .agg #[.int .i64 k, .int .i64 n, .int .i64 p], .float .f64 v] rfl #[true, true, true, true, true, true, true, false] rfl (.agg C) ⟨#[.agg c, .agg #[.int .i64 k, .int .i64 n, .int .i64 p], .float .f64 v, .pointer (some ⟨w.heap.size, 0, none⟩), .pointer (some ⟨w.heap.size + 1, 0, none⟩), undef, .bool false, .pointer (some ⟨ga0, 0, none⟩), undef, .agg c, .agg c, .agg #[.int .i64 k, .int .i64 n, .int .i64 p], .agg #[.int .i64 k, .int .i64 n, .int .i64 p], .float .f64 v, .agg C, undef, undef, undef, undef, undef, undef, undef, undef, undef, undef], []⟩ rfl _ (cF.out _ SWc2) ?_
      intro Wc3 bWc3
      have SWc3 := hSc.out _ _ SWc2 bWc3
      have hZga0 := (bWc3.block _ (Array.getElem?_eq_some_iff.1 hZga0).1).trans hZga0
      refine ⟨SWc3, ?_⟩
      refine wpAnyH_all (rs := [7]) (by kernel_rfl) (by simp) (fun i hi => ?_)
      obtain rfl := List.mem_singleton.1 hi
      exact up_store' rfl rfl 37 _ _ rfl _ _ rfl _ rfl _ (store_all hZga0 _ _ HZC.out HIC.out HCo.out) (hSt.out _ _ _ SWc3 hlga0) #[true, true, true, true, true, true, true, true] rfl ⟨#[.agg c, .agg #[.int .i64 k, .int .i64 n, .int .i64 p], .float .f64 v, .pointer (some ⟨w.heap.size, 0, none⟩), .pointer (some ⟨w.heap.size + 1, 0, none⟩), undef, .bool false, .pointer (some ⟨ga0, 0, none⟩), undef, .agg c, .agg c, .agg #[.int .i64 k, .int .i64 n, .int .i64 p], .agg #[.int .i64 k, .int .i64 n, .int .i64 p], .float .f64 v, .agg C, undef, undef, undef, undef, undef, undef, undef, undef, undef, undef], []⟩ rfl (wpAnyH_done (by kernel_rfl) ⟨rfl, ga0, hSt.out _ _ _ SWc3 hlga0, hlga0, row_set hZga0 _, rfl⟩ _)
  rintro a1 w1 ⟨g1, h1, hg1, hG, rfl⟩
  obtain ⟨hA, hB, hb⟩ := (HS1.out w1).1 h1
  clear hSc hSt hSl hL1 hL2 cF HS1 h1
  go_upto_region 2 with fail
  obtain ⟨S2, HS2⟩ : ∃ S : World → Prop, Hid (∀ W, S W ↔ (W.heap[w.heap.size]? = some (.cells c 62 (0, 0)) ∧ W.heap[w.heap.size + 1]? = some (.cells #[.int .i64 k, .int .i64 n, .int .i64 p] 63 (0, 0)) ∧ Below w.heap.size w W ∧ W.heap[g1]? = some (.cells C 37 (0, 0)) ∧ w.heap.size + 2 ≤ g1)) := ⟨_, fun W => Iff.rfl⟩
  have hSc : Hid (∀ W W', S2 W → Below W.heap.size W W' → S2 W') := fun W W' h g => by
    have h := (HS2.out W).1 h
    have l1 := (Array.getElem?_eq_some_iff.1 h.2.1).1
    have l2 := (Array.getElem?_eq_some_iff.1 h.2.2.2.1).1
    exact (HS2.out W').2 ⟨(g.block _ (by omega)).trans h.1, (g.block _ (by omega)).trans h.2.1, h.2.2.1.trans (g.mono (h.2.2.1).size), (g.block _ l2).trans h.2.2.2.1, h.2.2.2.2⟩
  have hSt : Hid (∀ W g2 D, S2 W → g1 + 1 ≤ g2 → S2 (W.setRow g2 D)) := fun W g2 D h hg => by
    have h := (HS2.out W).1 h
    exact (HS2.out _).2 ⟨row_beside h.1 _ (by have := h.2.2.2.2; omega) _, row_beside h.2.1 _ (by have := h.2.2.2.2; omega) _, below_setRow h.2.2.1 (by have := h.2.2.2.2; omega) _, row_beside h.2.2.2.1 _ (by omega) _, h.2.2.2.2⟩
  have hSl : Hid (∀ W, S2 W → g1 + 1 ≤ W.heap.size) := fun W h => by
    have h := (HS2.out W).1 h
    have l1 := (Array.getElem?_eq_some_iff.1 h.2.2.2.1).1
    show g1 + 1 ≤ W.heap.size
    omega
  have hL1 : Hid (∀ W, S2 W → (loadVar 62 ⟨w.heap.size, 0, none⟩).run Tryd.prog W = .ok (.agg c) W) := fun W h => load_all ((HS2.out W).1 h).1 _ _ Tryd.underlying62 rfl HI.out
  have hL2 : Hid (∀ W, S2 W → (loadVar 63 ⟨w.heap.size + 1, 0, none⟩).run Tryd.prog W = .ok (.agg #[.int .i64 k, .int .i64 n, .int .i64 p]) W) := fun W h => load_all ((HS2.out W).1 h).2.1 _ _ Tryd.underlying63 rfl arg_info
  have cF : Hid (∀ W, S2 W → Calls Tryd.prog 37 #[.agg c, .agg #[.int .i64 k, .int .i64 n, .int .i64 p], .float .f64 v] W fun e w' => e = .returned (.agg C) ∧ Below W.heap.size W w') := fun W h => HB2.out W (HT.out.later ((HS2.out W).1 h).2.2.1)
  refine region_cut (R := fun a' W => ∃ g2 : Nat, S2 W ∧ g1 + 1 ≤ g2 ∧ W.heap[g2]? = some (.cells C 37 (0, 0)) ∧ a' = ⟨#[.agg c, .agg #[.int .i64 k, .int .i64 n, .int .i64 p], .float .f64 v, .pointer (some ⟨w.heap.size, 0, none⟩), .pointer (some ⟨w.heap.size + 1, 0, none⟩), undef, .bool false, .pointer (some ⟨g1, 0, none⟩), .pointer (some ⟨g2, 0, none⟩), .agg c, .agg c, .agg #[.int .i64 k, .int .i64 n, .int .i64 p], .agg #[.int .i64 k, .int .i64 n, .int .i64 p], .float .f64 v, .agg C, .agg c, .agg c, .agg #[.int .i64 k, .int .i64 n, .int .i64 p], .agg #[.int .i64 k, .int .i64 n, .int .i64 p], .float .f64 v, .agg C, undef, undef, undef, undef], []⟩) ?_ ?_
  · have S0 : S2 w1.drew := (HS2.out _).2 ⟨hA, hB, hb.drew, hG, hg1⟩
    refine held_start (S := S2) (by kernel_rfl) S0 8 rfl #[false, false, false, false, false, false, false, false] rfl (fun W0 S0 => ?_)
    refine tk_load' (i := 0) rfl (by kernel_rfl) (by kernel_rfl) (by kernel_rfl) (fun _ _ _ _ h => nomatch h.1) rfl 62 _ rfl _ _ rfl (.agg c) hL1.out S0 #[true, false, false, false, false, false, false, false] rfl ⟨#[.agg c, .agg #[.int .i64 k, .int .i64 n, .int .i64 p], .float .f64 v, .pointer (some ⟨w.heap.size, 0, none⟩), .pointer (some ⟨w.heap.size + 1, 0, none⟩), undef, .bool false, .pointer (some ⟨g1, 0, none⟩), undef, .agg c, .agg c, .agg #[.int .i64 k, .int .i64 n, .int .i64 p], .agg #[.int .i64 k, .int .i64 n, .int .i64 p], .float .f64 v, .agg C, .agg c, undef, undef, undef, undef, undef, undef, undef, undef, undef], []⟩ rfl ?_
    refine tk_load' (i := 2) rfl (by kernel_rfl) (by kernel_rfl) (by kernel_rfl) (fun _ _ _ _ h => nomatch h.1) rfl 63 _ rfl _ _ rfl (.agg #[.int .i64 k, .int .i64 n, .int .i64 p]) hL2.out S0 #[true, false, true, false, false, false, false, false] rfl ⟨#[.agg c, .agg #[.int .i64 k, .int .i64 n, .int .i64 p], .float .f64 v, .pointer (some ⟨w.heap.size, 0, none⟩), .pointer (some ⟨w.heap.size + 1, 0, none⟩), undef, .bool false, .pointer (some ⟨g1, 0, none⟩), undef, .agg c, .agg c, .agg #[.int .i64 k, .int .i64 n, .int .i64 p], .agg #[.int .i64 k, .int .i64 n, .int .i64 p], .float .f64 v, .agg C, .agg c, undef, .agg #[.int .i64 k, .int .i64 n, .int .i64 p], undef, undef, undef, undef, undef, undef, undef], []⟩ rfl ?_
    refine tk_move' (i := 4) rfl (by kernel_rfl) (by kernel_rfl) (by kernel_rfl) (fun _ _ _ _ h => nomatch h.1) rfl _ rfl _ rfl S0 #[true, false, true, false, true, false, false, false] rfl ⟨#[.agg c, .agg #[.int .i64 k, .int .i64 n, .int .i64 p], .float .f64 v, .pointer (some ⟨w.heap.size, 0, none⟩), .pointer (some ⟨w.heap.size + 1, 0, none⟩), undef, .bool false, .pointer (some ⟨g1, 0, none⟩), undef, .agg c, .agg c, .agg #[.int .i64 k, .int .i64 n, .int .i64 p], .agg #[.int .i64 k, .int .i64 n, .int .i64 p], .float .f64 v, .agg C, .agg c, undef, .agg #[.int .i64 k, .int .i64 n, .int .i64 p], undef, .float .f64 v, undef, undef, undef, undef, undef], []⟩ rfl ?_
    refine wpAnyH_all (rs := [1, 6]) (by kernel_rfl) (by simp) (fun i hi => ?_)
    rcases (by simpa using hi : i = 1 ∨ i = 6) with rfl | rfl
    · skip
      refine up_fcall' rfl rfl Tryd.func28 (by kernel_rfl) (by kernel_rfl) rfl [.agg c] rfl #[true, true, true, false, true, false, false, false] rfl (.agg c) ⟨#[.agg c, .agg #[.int .i64 k, .int .i64 n, .int .i64 p], .float .f64 v, .pointer (some ⟨w.heap.size, 0, none⟩), .pointer (some ⟨w.heap.size + 1, 0, none⟩), undef, .bool false, .pointer (some ⟨g1, 0, none⟩), undef, .agg c, .agg c, .agg #[.int .i64 k, .int .i64 n, .int .i64 p], .agg #[.int .i64 k, .int .i64 n, .int .i64 p], .float .f64 v, .agg C, .agg c, .agg c, .agg #[.int .i64 k, .int .i64 n, .int .i64 p], undef, .float .f64 v, undef, undef, undef, undef, undef], []⟩ rfl _ (to_mem c HC.out _) ?_
      intro Wc0 bWc0
      have SWc0 := hSc.out _ _ S0 bWc0
      refine ⟨SWc0, ?_⟩
      refine wpAnyH_all (rs := [3, 6]) (by kernel_rfl) (by simp) (fun i hi => ?_)
      rcases (by simpa using hi : i = 3 ∨ i = 6) with rfl | rfl
      · skip
        refine up_fcall' rfl rfl Tryd.func29 (by kernel_rfl) (by kernel_rfl) rfl [.agg #[.int .i64 k, .int .i64 n, .int .i64 p]] rfl #[true, true, true, true, true, false, false, false] rfl (.agg #[.int .i64 k, .int .i64 n, .int .i64 p]) ⟨#[.agg c, .agg #[.int .i64 k, .int .i64 n, .int .i64 p], .float .f64 v, .pointer (some ⟨w.heap.size, 0, none⟩), .pointer (some ⟨w.heap.size + 1, 0, none⟩), undef, .bool false, .pointer (some ⟨g1, 0, none⟩), undef, .agg c, .agg c, .agg #[.int .i64 k, .int .i64 n, .int .i64 p], .agg #[.int .i64 k, .int .i64 n, .int .i64 p], .float .f64 v, .agg C, .agg c, .agg c, .agg #[.int .i64 k, .int .i64 n, .int .i64 p], .agg #[.int .i64 k, .int .i64 n, .int .i64 p], .float .f64 v, undef, undef, undef, undef, undef], []⟩ rfl _ (to_arg k n p _) ?_
        intro Wc1 bWc1
        have SWc1 := hSc.out _ _ SWc0 bWc1
        refine ⟨SWc1, ?_⟩
        refine wpAnyH_all (rs := [5, 6]) (by kernel_rfl) (by simp) (fun i hi => ?_)
        rcases (by simpa using hi : i = 5 ∨ i = 6) with rfl | rfl
        · skip
          refine up_fcall' rfl rfl Tryd.func37 (by kernel_rfl) (by kernel_rfl) rfl [.agg c, .agg #[.int .i64 k, .int .i64 n, .int .i64 p], .float .f64 v] rfl #[true, true, true, true, true, true, false, false] rfl (.agg C) ⟨#[.agg c, .agg #[.int .i64 k, .int .i64 n, .int .i64 p], .float .f64 v, .pointer (some ⟨w.heap.size, 0, none⟩), .pointer (some ⟨w.heap.size + 1, 0, none⟩), undef, .bool false, .pointer (some ⟨g1, 0, none⟩), undef, .agg c, .agg c, .agg #[.int .i64 k, .int .i64 n, .int .i64 p], .agg #[.int .i64 k, .int .i64 n, .int .i64 p], .float .f64 v, .agg C, .agg c, .agg c, .agg #[.int .i64 k, .int .i64 n, .int .i64 p], .agg #[.int .i64 k, .int .i64 n, .int .i64 p], .float .f64 v, .agg C, undef, undef, undef, undef], []⟩ rfl _ (cF.out _ SWc1) ?_
          intro Wc2 bWc2
          have SWc2 := hSc.out _ _ SWc1 bWc2
          refine ⟨SWc2, ?_⟩
          refine wpAnyH_all (rs := [6]) (by kernel_rfl) (by simp) (fun i hi => ?_)
          obtain rfl := List.mem_singleton.1 hi
          refine up_alloc' rfl rfl 37 rfl Z (hz.out _) (hSc.out _ _ SWc2 ((Below.refl _ _).alloc (Nat.le_refl _) _)) #[true, true, true, true, true, true, true, false] rfl ⟨#[.agg c, .agg #[.int .i64 k, .int .i64 n, .int .i64 p], .float .f64 v, .pointer (some ⟨w.heap.size, 0, none⟩), .pointer (some ⟨w.heap.size + 1, 0, none⟩), undef, .bool false, .pointer (some ⟨g1, 0, none⟩), .pointer (some ⟨Wc2.heap.size, 0, none⟩), .agg c, .agg c, .agg #[.int .i64 k, .int .i64 n, .int .i64 p], .agg #[.int .i64 k, .int .i64 n, .int .i64 p], .float .f64 v, .agg C, .agg c, .agg c, .agg #[.int .i64 k, .int .i64 n, .int .i64 p], .agg #[.int .i64 k, .int .i64 n, .int .i64 p], .float .f64 v, .agg C, undef, undef, undef, undef], []⟩ rfl ?_
          have Sga3 : S2 (Wc2.alloc (.cells Z 37)) := hSc.out _ _ SWc2 ((Below.refl _ _).alloc (Nat.le_refl _) _)
          have hZga3 : (Wc2.alloc (.cells Z 37)).heap[Wc2.heap.size]? = some (.cells Z 37 (0, 0)) := heap_alloc_last _ _
          have hlga3 : g1 + 1 ≤ Wc2.heap.size := hSl.out _ SWc2
          generalize (Wc2.alloc (.cells Z 37)) = Wga3 at Sga3 hZga3 ⊢
          generalize Wc2.heap.size = ga3 at hZga3 hlga3 ⊢
          refine wpAnyH_all (rs := [7]) (by kernel_rfl) (by simp) (fun i hi => ?_)
          obtain rfl := List.mem_singleton.1 hi
          exact up_store' rfl rfl 37 _ _ rfl _ _ rfl _ rfl _ (store_all hZga3 _ _ HZC.out HIC.out HCo.out) (hSt.out _ _ _ Sga3 hlga3) #[true, true, true, true, true, true, true, true] rfl ⟨#[.agg c, .agg #[.int .i64 k, .int .i64 n, .int .i64 p], .float .f64 v, .pointer (some ⟨w.heap.size, 0, none⟩), .pointer (some ⟨w.heap.size + 1, 0, none⟩), undef, .bool false, .pointer (some ⟨g1, 0, none⟩), .pointer (some ⟨ga3, 0, none⟩), .agg c, .agg c, .agg #[.int .i64 k, .int .i64 n, .int .i64 p], .agg #[.int .i64 k, .int .i64 n, .int .i64 p], .float .f64 v, .agg C, .agg c, .agg c, .agg #[.int .i64 k, .int .i64 n, .int .i64 p], .agg #[.int .i64 k, .int .i64 n, .int .i64 p], .float .f64 v, .agg C, undef, undef, undef, undef], []⟩ rfl (wpAnyH_done (by kernel_rfl) ⟨rfl, ga3, hSt.out _ _ _ Sga3 hlga3, hlga3, row_set hZga3 _, rfl⟩ _)
        · skip
          refine up_alloc' rfl rfl 37 rfl Z (hz.out _) (hSc.out _ _ SWc1 ((Below.refl _ _).alloc (Nat.le_refl _) _)) #[true, true, true, true, true, false, true, false] rfl ⟨#[.agg c, .agg #[.int .i64 k, .int .i64 n, .int .i64 p], .float .f64 v, .pointer (some ⟨w.heap.size, 0, none⟩), .pointer (some ⟨w.heap.size + 1, 0, none⟩), undef, .bool false, .pointer (some ⟨g1, 0, none⟩), .pointer (some ⟨Wc1.heap.size, 0, none⟩), .agg c, .agg c, .agg #[.int .i64 k, .int .i64 n, .int .i64 p], .agg #[.int .i64 k, .int .i64 n, .int .i64 p], .float .f64 v, .agg C, .agg c, .agg c, .agg #[.int .i64 k, .int .i64 n, .int .i64 p], .agg #[.int .i64 k, .int .i64 n, .int .i64 p], .float .f64 v, undef, undef, undef, undef, undef], []⟩ rfl ?_
          have Sga2 : S2 (Wc1.alloc (.cells Z 37)) := hSc.out _ _ SWc1 ((Below.refl _ _).alloc (Nat.le_refl _) _)
          have hZga2 : (Wc1.alloc (.cells Z 37)).heap[Wc1.heap.size]? = some (.cells Z 37 (0, 0)) := heap_alloc_last _ _
          have hlga2 : g1 + 1 ≤ Wc1.heap.size := hSl.out _ SWc1
          generalize (Wc1.alloc (.cells Z 37)) = Wga2 at Sga2 hZga2 ⊢
          generalize Wc1.heap.size = ga2 at hZga2 hlga2 ⊢
          refine wpAnyH_all (rs := [5]) (by kernel_rfl) (by simp) (fun i hi => ?_)
          obtain rfl := List.mem_singleton.1 hi
          refine up_fcall' rfl rfl Tryd.func37 (by kernel_rfl) (by kernel_rfl) rfl [.agg c, .agg #[.int .i64 k, .int .i64 n, .int .i64 p], .float .f64 v] rfl #[true, true, true, true, true, true, true, false] rfl (.agg C) ⟨#[.agg c, .agg #[.int .i64 k, .int .i64 n, .int .i64 p], .float .f64 v, .pointer (some ⟨w.heap.size, 0, none⟩), .pointer (some ⟨w.heap.size + 1, 0, none⟩), undef, .bool false, .pointer (some ⟨g1, 0, none⟩), .pointer (some ⟨ga2, 0, none⟩), .agg c, .agg c, .agg #[.int .i64 k, .int .i64 n, .int .i64 p], .agg #[.int .i64 k, .int .i64 n, .int .i64 p], .float .f64 v, .agg C, .agg c, .agg c, .agg #[.int .i64 k, .int .i64 n, .int .i64 p], .agg #[.int .i64 k, .int .i64 n, .int .i64 p], .float .f64 v, .agg C, undef, undef, undef, undef], []⟩ rfl _ (cF.out _ Sga2) ?_
          intro Wc3 bWc3
          have SWc3 := hSc.out _ _ Sga2 bWc3
          have hZga2 := (bWc3.block _ (Array.getElem?_eq_some_iff.1 hZga2).1).trans hZga2
          refine ⟨SWc3, ?_⟩
          refine wpAnyH_all (rs := [7]) (by kernel_rfl) (by simp) (fun i hi => ?_)
          obtain rfl := List.mem_singleton.1 hi
          exact up_store' rfl rfl 37 _ _ rfl _ _ rfl _ rfl _ (store_all hZga2 _ _ HZC.out HIC.out HCo.out) (hSt.out _ _ _ SWc3 hlga2) #[true, true, true, true, true, true, true, true] rfl ⟨#[.agg c, .agg #[.int .i64 k, .int .i64 n, .int .i64 p], .float .f64 v, .pointer (some ⟨w.heap.size, 0, none⟩), .pointer (some ⟨w.heap.size + 1, 0, none⟩), undef, .bool false, .pointer (some ⟨g1, 0, none⟩), .pointer (some ⟨ga2, 0, none⟩), .agg c, .agg c, .agg #[.int .i64 k, .int .i64 n, .int .i64 p], .agg #[.int .i64 k, .int .i64 n, .int .i64 p], .float .f64 v, .agg C, .agg c, .agg c, .agg #[.int .i64 k, .int .i64 n, .int .i64 p], .agg #[.int .i64 k, .int .i64 n, .int .i64 p], .float .f64 v, .agg C, undef, undef, undef, undef], []⟩ rfl (wpAnyH_done (by kernel_rfl) ⟨rfl, ga2, hSt.out _ _ _ SWc3 hlga2, hlga2, row_set hZga2 _, rfl⟩ _)
      · skip
        refine up_alloc' rfl rfl 37 rfl Z (hz.out _) (hSc.out _ _ SWc0 ((Below.refl _ _).alloc (Nat.le_refl _) _)) #[true, true, true, false, true, false, true, false] rfl ⟨#[.agg c, .agg #[.int .i64 k, .int .i64 n, .int .i64 p], .float .f64 v, .pointer (some ⟨w.heap.size, 0, none⟩), .pointer (some ⟨w.heap.size + 1, 0, none⟩), undef, .bool false, .pointer (some ⟨g1, 0, none⟩), .pointer (some ⟨Wc0.heap.size, 0, none⟩), .agg c, .agg c, .agg #[.int .i64 k, .int .i64 n, .int .i64 p], .agg #[.int .i64 k, .int .i64 n, .int .i64 p], .float .f64 v, .agg C, .agg c, .agg c, .agg #[.int .i64 k, .int .i64 n, .int .i64 p], undef, .float .f64 v, undef, undef, undef, undef, undef], []⟩ rfl ?_
        have Sga1 : S2 (Wc0.alloc (.cells Z 37)) := hSc.out _ _ SWc0 ((Below.refl _ _).alloc (Nat.le_refl _) _)
        have hZga1 : (Wc0.alloc (.cells Z 37)).heap[Wc0.heap.size]? = some (.cells Z 37 (0, 0)) := heap_alloc_last _ _
        have hlga1 : g1 + 1 ≤ Wc0.heap.size := hSl.out _ SWc0
        generalize (Wc0.alloc (.cells Z 37)) = Wga1 at Sga1 hZga1 ⊢
        generalize Wc0.heap.size = ga1 at hZga1 hlga1 ⊢
        refine wpAnyH_all (rs := [3]) (by kernel_rfl) (by simp) (fun i hi => ?_)
        obtain rfl := List.mem_singleton.1 hi
        refine up_fcall' rfl rfl Tryd.func29 (by kernel_rfl) (by kernel_rfl) rfl [.agg #[.int .i64 k, .int .i64 n, .int .i64 p]] rfl #[true, true, true, true, true, false, true, false] rfl (.agg #[.int .i64 k, .int .i64 n, .int .i64 p]) ⟨#[.agg c, .agg #[.int .i64 k, .int .i64 n, .int .i64 p], .float .f64 v, .pointer (some ⟨w.heap.size, 0, none⟩), .pointer (some ⟨w.heap.size + 1, 0, none⟩), undef, .bool false, .pointer (some ⟨g1, 0, none⟩), .pointer (some ⟨ga1, 0, none⟩), .agg c, .agg c, .agg #[.int .i64 k, .int .i64 n, .int .i64 p], .agg #[.int .i64 k, .int .i64 n, .int .i64 p], .float .f64 v, .agg C, .agg c, .agg c, .agg #[.int .i64 k, .int .i64 n, .int .i64 p], .agg #[.int .i64 k, .int .i64 n, .int .i64 p], .float .f64 v, undef, undef, undef, undef, undef], []⟩ rfl _ (to_arg k n p _) ?_
        intro Wc2 bWc2
        have SWc2 := hSc.out _ _ Sga1 bWc2
        have hZga1 := (bWc2.block _ (Array.getElem?_eq_some_iff.1 hZga1).1).trans hZga1
        refine ⟨SWc2, ?_⟩
        refine wpAnyH_all (rs := [5]) (by kernel_rfl) (by simp) (fun i hi => ?_)
        obtain rfl := List.mem_singleton.1 hi
        refine up_fcall' rfl rfl Tryd.func37 (by kernel_rfl) (by kernel_rfl) rfl [.agg c, .agg #[.int .i64 k, .int .i64 n, .int .i64 p], .float .f64 v] rfl #[true, true, true, true, true, true, true, false] rfl (.agg C) ⟨#[.agg c, .agg #[.int .i64 k, .int .i64 n, .int .i64 p], .float .f64 v, .pointer (some ⟨w.heap.size, 0, none⟩), .pointer (some ⟨w.heap.size + 1, 0, none⟩), undef, .bool false, .pointer (some ⟨g1, 0, none⟩), .pointer (some ⟨ga1, 0, none⟩), .agg c, .agg c, .agg #[.int .i64 k, .int .i64 n, .int .i64 p], .agg #[.int .i64 k, .int .i64 n, .int .i64 p], .float .f64 v, .agg C, .agg c, .agg c, .agg #[.int .i64 k, .int .i64 n, .int .i64 p], .agg #[.int .i64 k, .int .i64 n, .int .i64 p], .float .f64 v, .agg C, undef, undef, undef, undef], []⟩ rfl _ (cF.out _ SWc2) ?_
        intro Wc3 bWc3
        have SWc3 := hSc.out _ _ SWc2 bWc3
        have hZga1 := (bWc3.block _ (Array.getElem?_eq_some_iff.1 hZga1).1).trans hZga1
        refine ⟨SWc3, ?_⟩
        refine wpAnyH_all (rs := [7]) (by kernel_rfl) (by simp) (fun i hi => ?_)
        obtain rfl := List.mem_singleton.1 hi
        exact up_store' rfl rfl 37 _ _ rfl _ _ rfl _ rfl _ (store_all hZga1 _ _ HZC.out HIC.out HCo.out) (hSt.out _ _ _ SWc3 hlga1) #[true, true, true, true, true, true, true, true] rfl ⟨#[.agg c, .agg #[.int .i64 k, .int .i64 n, .int .i64 p], .float .f64 v, .pointer (some ⟨w.heap.size, 0, none⟩), .pointer (some ⟨w.heap.size + 1, 0, none⟩), undef, .bool false, .pointer (some ⟨g1, 0, none⟩), .pointer (some ⟨ga1, 0, none⟩), .agg c, .agg c, .agg #[.int .i64 k, .int .i64 n, .int .i64 p], .agg #[.int .i64 k, .int .i64 n, .int .i64 p], .float .f64 v, .agg C, .agg c, .agg c, .agg #[.int .i64 k, .int .i64 n, .int .i64 p], .agg #[.int .i64 k, .int .i64 n, .int .i64 p], .float .f64 v, .agg C, undef, undef, undef, undef], []⟩ rfl (wpAnyH_done (by kernel_rfl) ⟨rfl, ga1, hSt.out _ _ _ SWc3 hlga1, hlga1, row_set hZga1 _, rfl⟩ _)
    · skip
      refine up_alloc' rfl rfl 37 rfl Z (hz.out _) (hSc.out _ _ S0 ((Below.refl _ _).alloc (Nat.le_refl _) _)) #[true, false, true, false, true, false, true, false] rfl ⟨#[.agg c, .agg #[.int .i64 k, .int .i64 n, .int .i64 p], .float .f64 v, .pointer (some ⟨w.heap.size, 0, none⟩), .pointer (some ⟨w.heap.size + 1, 0, none⟩), undef, .bool false, .pointer (some ⟨g1, 0, none⟩), .pointer (some ⟨W0.heap.size, 0, none⟩), .agg c, .agg c, .agg #[.int .i64 k, .int .i64 n, .int .i64 p], .agg #[.int .i64 k, .int .i64 n, .int .i64 p], .float .f64 v, .agg C, .agg c, undef, .agg #[.int .i64 k, .int .i64 n, .int .i64 p], undef, .float .f64 v, undef, undef, undef, undef, undef], []⟩ rfl ?_
      have Sga0 : S2 (W0.alloc (.cells Z 37)) := hSc.out _ _ S0 ((Below.refl _ _).alloc (Nat.le_refl _) _)
      have hZga0 : (W0.alloc (.cells Z 37)).heap[W0.heap.size]? = some (.cells Z 37 (0, 0)) := heap_alloc_last _ _
      have hlga0 : g1 + 1 ≤ W0.heap.size := hSl.out _ S0
      generalize (W0.alloc (.cells Z 37)) = Wga0 at Sga0 hZga0 ⊢
      generalize W0.heap.size = ga0 at hZga0 hlga0 ⊢
      refine wpAnyH_all (rs := [1]) (by kernel_rfl) (by simp) (fun i hi => ?_)
      obtain rfl := List.mem_singleton.1 hi
      refine up_fcall' rfl rfl Tryd.func28 (by kernel_rfl) (by kernel_rfl) rfl [.agg c] rfl #[true, true, true, false, true, false, true, false] rfl (.agg c) ⟨#[.agg c, .agg #[.int .i64 k, .int .i64 n, .int .i64 p], .float .f64 v, .pointer (some ⟨w.heap.size, 0, none⟩), .pointer (some ⟨w.heap.size + 1, 0, none⟩), undef, .bool false, .pointer (some ⟨g1, 0, none⟩), .pointer (some ⟨ga0, 0, none⟩), .agg c, .agg c, .agg #[.int .i64 k, .int .i64 n, .int .i64 p], .agg #[.int .i64 k, .int .i64 n, .int .i64 p], .float .f64 v, .agg C, .agg c, .agg c, .agg #[.int .i64 k, .int .i64 n, .int .i64 p], undef, .float .f64 v, undef, undef, undef, undef, undef], []⟩ rfl _ (to_mem c HC.out _) ?_
      intro Wc1 bWc1
      have SWc1 := hSc.out _ _ Sga0 bWc1
      have hZga0 := (bWc1.block _ (Array.getElem?_eq_some_iff.1 hZga0).1).trans hZga0
      refine ⟨SWc1, ?_⟩
      refine wpAnyH_all (rs := [3]) (by kernel_rfl) (by simp) (fun i hi => ?_)
      obtain rfl := List.mem_singleton.1 hi
      refine up_fcall' rfl rfl Tryd.func29 (by kernel_rfl) (by kernel_rfl) rfl [.agg #[.int .i64 k, .int .i64 n, .int .i64 p]] rfl #[true, true, true, true, true, false, true, false] rfl (.agg #[.int .i64 k, .int .i64 n, .int .i64 p]) ⟨#[.agg c, .agg #[.int .i64 k, .int .i64 n, .int .i64 p], .float .f64 v, .pointer (some ⟨w.heap.size, 0, none⟩), .pointer (some ⟨w.heap.size + 1, 0, none⟩), undef, .bool false, .pointer (some ⟨g1, 0, none⟩), .pointer (some ⟨ga0, 0, none⟩), .agg c, .agg c, .agg #[.int .i64 k, .int .i64 n, .int .i64 p], .agg #[.int .i64 k, .int .i64 n, .int .i64 p], .float .f64 v, .agg C, .agg c, .agg c, .agg #[.int .i64 k, .int .i64 n, .int .i64 p], .agg #[.int .i64 k, .int .i64 n, .int .i64 p], .float .f64 v, undef, undef, undef, undef, undef], []⟩ rfl _ (to_arg k n p _) ?_
      intro Wc2 bWc2
      have SWc2 := hSc.out _ _ SWc1 bWc2
      have hZga0 := (bWc2.block _ (Array.getElem?_eq_some_iff.1 hZga0).1).trans hZga0
      refine ⟨SWc2, ?_⟩
      refine wpAnyH_all (rs := [5]) (by kernel_rfl) (by simp) (fun i hi => ?_)
      obtain rfl := List.mem_singleton.1 hi
      refine up_fcall' rfl rfl Tryd.func37 (by kernel_rfl) (by kernel_rfl) rfl [.agg c, .agg #[.int .i64 k, .int .i64 n, .int .i64 p], .float .f64 v] rfl #[true, true, true, true, true, true, true, false] rfl (.agg C) ⟨#[.agg c, .agg #[.int .i64 k, .int .i64 n, .int .i64 p], .float .f64 v, .pointer (some ⟨w.heap.size, 0, none⟩), .pointer (some ⟨w.heap.size + 1, 0, none⟩), undef, .bool false, .pointer (some ⟨g1, 0, none⟩), .pointer (some ⟨ga0, 0, none⟩), .agg c, .agg c, .agg #[.int .i64 k, .int .i64 n, .int .i64 p], .agg #[.int .i64 k, .int .i64 n, .int .i64 p], .float .f64 v, .agg C, .agg c, .agg c, .agg #[.int .i64 k, .int .i64 n, .int .i64 p], .agg #[.int .i64 k, .int .i64 n, .int .i64 p], .float .f64 v, .agg C, undef, undef, undef, undef], []⟩ rfl _ (cF.out _ SWc2) ?_
      intro Wc3 bWc3
      have SWc3 := hSc.out _ _ SWc2 bWc3
      have hZga0 := (bWc3.block _ (Array.getElem?_eq_some_iff.1 hZga0).1).trans hZga0
      refine ⟨SWc3, ?_⟩
      refine wpAnyH_all (rs := [7]) (by kernel_rfl) (by simp) (fun i hi => ?_)
      obtain rfl := List.mem_singleton.1 hi
      exact up_store' rfl rfl 37 _ _ rfl _ _ rfl _ rfl _ (store_all hZga0 _ _ HZC.out HIC.out HCo.out) (hSt.out _ _ _ SWc3 hlga0) #[true, true, true, true, true, true, true, true] rfl ⟨#[.agg c, .agg #[.int .i64 k, .int .i64 n, .int .i64 p], .float .f64 v, .pointer (some ⟨w.heap.size, 0, none⟩), .pointer (some ⟨w.heap.size + 1, 0, none⟩), undef, .bool false, .pointer (some ⟨g1, 0, none⟩), .pointer (some ⟨ga0, 0, none⟩), .agg c, .agg c, .agg #[.int .i64 k, .int .i64 n, .int .i64 p], .agg #[.int .i64 k, .int .i64 n, .int .i64 p], .float .f64 v, .agg C, .agg c, .agg c, .agg #[.int .i64 k, .int .i64 n, .int .i64 p], .agg #[.int .i64 k, .int .i64 n, .int .i64 p], .float .f64 v, .agg C, undef, undef, undef, undef], []⟩ rfl (wpAnyH_done (by kernel_rfl) ⟨rfl, ga0, hSt.out _ _ _ SWc3 hlga0, hlga0, row_set hZga0 _, rfl⟩ _)
  rintro a2 w2 ⟨g2, h2, hg2, hG2, rfl⟩
  obtain ⟨hA, hB, hb, hG, hg1⟩ := (HS2.out w2).1 h2
  clear hSc hSt hSl hL1 hL2 cF HS2 h2 hA hB
  have HLa : Hid ((loadVar 37 ⟨g2, 0, none⟩).run Tryd.prog w2 = .ok (.agg C) w2) := load_all hG2 _ _ Tryd.underlying37 rfl HIC.out
  have HLb : Hid ((loadVar 37 ⟨g1, 0, none⟩).run Tryd.prog w2 = .ok (.agg C) w2) := load_all hG _ _ Tryd.underlying37 rfl HIC.out
  go_wp2_with (first | (refine wpL_load rfl 37 _ rfl _ _ rfl _ HLa.out ?_) | (refine wpL_load rfl 37 _ rfl _ _ rfl _ HLb.out ?_) | fail)
  refine (eq_mem C C (MSame.refl HCM.out) _).mono ?_
  rintro e w3 ⟨rfl, g3⟩
  have b3 := hb.trans (g3.mono hb.size)
  go_wp2
  go_ret
  exact ⟨rfl, b3⟩
end Go.Proofs.YthjhnphhgbdkgaaDoor
