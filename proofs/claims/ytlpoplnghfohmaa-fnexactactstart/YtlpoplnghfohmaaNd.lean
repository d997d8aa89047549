/- The law FnExactActStart; a sample that is handed in. -/
import Derived.Test.YtlpoplnghfohmaaNc
import Derived.Test.YtlpoplnghfohmaaMr
import Derived.Test.YtlpoplnghfohmaaMo
namespace Go.Proofs.Ytlpoplnghfohmaa
open Go.RowKit
set_option linter.unusedVariables false

/-- What a sample's cells are. -/
structure SampOk (x d : Int) (f0 f1 f2 f3 : Nat) : Prop where
  x : 0 ≤ x ∧ x < 4294967296
  d : 0 ≤ d ∧ d < 65536
  f0 : FloatKind.has .f64 f0
  f1 : FloatKind.has .f64 f1
  f2 : FloatKind.has .f64 f2
  f3 : FloatKind.has .f64 f3

set_option maxRecDepth 100000 in
theorem samp_types : (Try.prog.cellTypes Try.prog.depth 54).map (fun ts => ts.map fun u => codeOf (Try.prog.underlying u)) = some [32, 16, 99, 99, 99, 99] := by kernel_rfl

set_option maxRecDepth 100000 in
theorem samp_open {w : World} {r : Reach} {base : Nat} {v : Value} (h : Value.okWide Try.prog w r base 54 v) : ∃ x d f0 f1 f2 f3, v = .agg #[.int .u32 x, .int .u16 d, .float .f64 f0, .float .f64 f1, .float .f64 f2, .float .f64 f3] ∧ SampOk x d f0 f1 f2 f3 := by
  obtain ⟨ts, hts, hk⟩ := Option.map_eq_some_iff.1 samp_types
  have h2 : ∃ cs, v = .agg cs ∧ cs.size = Try.prog.cellsOf 54 ∧ Row.okWide Try.prog w r base 54 cs := by
    unfold Value.okWide at h
    rw [Try.underlying54] at h
    exact h
  obtain ⟨cs, rfl, hs, ts', hts', _, hcell⟩ := h2
  obtain rfl : ts = ts' := Option.some.inj (hts.symm.trans hts')
  have hl : ts.length = 6 := by have := congrArg List.length hk; simpa using this
  have hc6 : cs.size = 6 := hs.trans (by kernel_rfl)
  have hat : ∀ i, i < 6 → ∃ v, cs[i]? = some v ∧ ∀ k, ([32, 16, 99, 99, 99, 99] : List Nat)[i]? = some k → k ≠ 0 → CellIs k v := fun i hi => by
    have hv : cs[i]? = some (cs[i]'(by omega)) := Array.getElem?_eq_getElem (by omega)
    refine ⟨_, hv, fun k hk2 h0 => ?_⟩
    obtain ⟨u, hu', hok⟩ := hcell i _ hv
    rw [hl, Nat.mod_eq_of_lt hi] at hu'
    have hc' : codeOf (Try.prog.underlying u) = k := by
      have := congrArg (fun l => l[i]?) hk
      simp only [List.getElem?_map, hu', Option.map_some] at this
      rw [hk2] at this
      exact Option.some.inj this
    exact cellIs_of_ok hok hc' h0
  obtain ⟨v0, e0, k0⟩ := hat 0 (by omega)
  obtain ⟨v1, e1, k1⟩ := hat 1 (by omega)
  obtain ⟨v2, e2, k2⟩ := hat 2 (by omega)
  obtain ⟨v3, e3, k3⟩ := hat 3 (by omega)
  obtain ⟨v4, e4, k4⟩ := hat 4 (by omega)
  obtain ⟨v5, e5, k5⟩ := hat 5 (by omega)
  obtain ⟨x, rfl, hx⟩ := (k0 32 rfl (by omega)).2.2.1 rfl
  obtain ⟨d, rfl, hd⟩ := (k1 16 rfl (by omega)).2.1 rfl
  obtain ⟨f0, rfl, h0⟩ := (k2 99 rfl (by omega)).2.2.2.2.2.1 rfl
  obtain ⟨f1, rfl, h1⟩ := (k3 99 rfl (by omega)).2.2.2.2.2.1 rfl
  obtain ⟨f2, rfl, h2⟩ := (k4 99 rfl (by omega)).2.2.2.2.2.1 rfl
  obtain ⟨f3, rfl, h3⟩ := (k5 99 rfl (by omega)).2.2.2.2.2.1 rfl
  refine ⟨x, d, f0, f1, f2, f3, ?_, hx, hd, h0, h1, h2, h3⟩
  congr 1
  apply Array.ext_getElem?
  intro i
  by_cases hi : i < 6
  · rcases (by omega : i = 0 ∨ i = 1 ∨ i = 2 ∨ i = 3 ∨ i = 4 ∨ i = 5) with rfl | rfl | rfl | rfl | rfl | rfl
    · exact e0
    · exact e1
    · exact e2
    · exact e3
    · exact e4
    · exact e5
  · rw [Array.getElem?_eq_none (by omega), Array.getElem?_eq_none (by simp; omega)]

set_option maxRecDepth 10000 in
set_option maxHeartbeats 1000000 in
theorem law_start (c : Array Value) (x d : Int) (f0 f1 f2 f3 : Nat) (w : World) (hc : MemOk c) (hs : SampOk x d f0 f1 f2 f3) :
    Calls Try.prog 5 #[.agg c, .agg #[.int .u32 x, .int .u16 d, .float .f64 f0, .float .f64 f1, .float .f64 f2, .float .f64 f3]] w fun e w' => e = .returned (.bool true) ∧ Below w.heap.size w w' := by
  have HC : Hid (MemOk c) := hc
  have HI : Hid ((Try.prog.info? 51).map (·.size) = some c.size) := by rw [HC.out.size]; exact na_info
  obtain ⟨C, HCC⟩ : ∃ C, Hid (C = begun c x ((wordAt c 133 + d) % 4294967296) f0 f1 f2 f3) := ⟨_, rfl⟩
  have HB1 : Hid (∀ W, Calls Try.prog 9 #[.agg c, .agg #[.int .u32 x, .int .u16 d, .float .f64 f0, .float .f64 f1, .float .f64 f2, .float .f64 f3]] W fun e w' => e = .returned (.agg C) ∧ Below W.heap.size W w') := fun W => by
    rw [HCC.out]; exact start_s c HC.out x d f0 f1 f2 f3 W hs.d
  have HB2 : Hid (∀ W, Calls Try.prog 12 #[.agg c, .agg #[.int .u32 x, .int .u16 d, .float .f64 f0, .float .f64 f1, .float .f64 f2, .float .f64 f3]] W fun e w' => e = .returned (.agg C) ∧ Below W.heap.size W w') := fun W => by
    rw [HCC.out]; exact start_i c HC.out x d f0 f1 f2 f3 W hs.d
  have hz : Hid (∀ W, (zeroValue 42).run Try.prog W = .ok (.agg memZero) W) := zero_mem.1
  obtain ⟨Z, HZ⟩ : ∃ Z, Hid (Z = memZero) := ⟨_, rfl⟩
  rw [← HZ.out] at hz
  have HCM : Hid (MemOk C) := (by rw [HCC.out]; exact memOk_begun hc hs.x (by constructor <;> omega) hs.f0 hs.f1 hs.f2 hs.f3 : MemOk C)
  have HZC : Hid (Z.size = C.size) := (by rw [HZ.out, memZero_size, HCM.out.size] : Z.size = C.size)
  have HIC : Hid ((Try.prog.info? 42).map (·.size) = some C.size) := (by rw [HCM.out.size]; exact zero_mem.2 : (Try.prog.info? 42).map (·.size) = some C.size)
  have HCo : Hid (C.all (·.oneCell') = true) := HCM.out.one
  clear hc hs
  go_enter Try.func5, Try.ntmps5
  go_upto_region 1 with fail
  have hA := (rows2 w (.cells c 51) (.cells #[.int .u32 x, .int .u16 d, .float .f64 f0, .float .f64 f1, .float .f64 f2, .float .f64 f3] 54)).1
  have hB := (rows2 w (.cells c 51) (.cells #[.int .u32 x, .int .u16 d, .float .f64 f0, .float .f64 f1, .float .f64 f2, .float .f64 f3] 54)).2
  have hb : Below w.heap.size w ((w.alloc (.cells c 51)).alloc (.cells #[.int .u32 x, .int .u16 d, .float .f64 f0, .float .f64 f1, .float .f64 f2, .float .f64 f3] 54)) := ((Below.refl _ _).alloc (Nat.le_refl _) _).alloc (by simp) _
  generalize ((w.alloc (.cells c 51)).alloc (.cells #[.int .u32 x, .int .u16 d, .float .f64 f0, .float .f64 f1, .float .f64 f2, .float .f64 f3] 54)) = w0 at hA hB hb ⊢
  obtain ⟨S1, HS1⟩ : ∃ S : World → Prop, Hid (∀ W, S W ↔ (W.heap[w.heap.size]? = some (.cells c 51 (0, 0)) ∧ W.heap[w.heap.size + 1]? = some (.cells #[.int .u32 x, .int .u16 d, .float .f64 f0, .float .f64 f1, .float .f64 f2, .float .f64 f3] 54 (0, 0)) ∧ Below w.heap.size w W)) := ⟨_, fun W => Iff.rfl⟩
  have hSc : Hid (∀ W W', S1 W → Below W.heap.size W W' → S1 W') := fun W W' h g => by
    have h := (HS1.out W).1 h
    have l1 := (Array.getElem?_eq_some_iff.1 h.2.1).1
    
    exact (HS1.out W').2 ⟨(g.block _ (by omega)).trans h.1, (g.block _ (by omega)).trans h.2.1, h.2.2.trans (g.mono (h.2.2).size)⟩
  have hSt : Hid (∀ W g1 D, S1 W → w.heap.size + 2 ≤ g1 → S1 (W.setRow g1 D)) := fun W g1 D h hg => by
    have h := (HS1.out W).1 h
    exact (HS1.out _).2 ⟨row_beside h.1 _ (by omega) _, row_beside h.2.1 _ (by omega) _, below_setRow h.2.2 (by omega) _⟩
  have hSl : Hid (∀ W, S1 W → w.heap.size + 2 ≤ W.heap.size) := fun W h => by
    have h := (HS1.out W).1 h
    have l1 := (Array.getElem?_eq_some_iff.1 h.2.1).1
    show w.heap.size + 2 ≤ W.heap.size
    omega
  have hL1 : Hid (∀ W, S1 W → (loadVar 51 ⟨w.heap.size, 0, none⟩).run Try.prog W = .ok (.agg c) W) := fun W h => load_all ((HS1.out W).1 h).1 _ _ Try.underlying51 rfl HI.out
  have hL2 : Hid (∀ W, S1 W → (loadVar 54 ⟨w.heap.size + 1, 0, none⟩).run Try.prog W = .ok (.agg #[.int .u32 x, .int .u16 d, .float .f64 f0, .float .f64 f1, .float .f64 f2, .float .f64 f3]) W) := fun W h => load_all ((HS1.out W).1 h).2.1 _ _ Try.underlying54 rfl infoLS
  have cF : Hid (∀ W, S1 W → Calls Try.prog 9 #[.agg c, .agg #[.int .u32 x, .int .u16 d, .float .f64 f0, .float .f64 f1, .float .f64 f2, .float .f64 f3]] W fun e w' => e = .returned (.agg C) ∧ Below W.heap.size W w') := fun W h => HB1.out W
  refine region_cut (R := fun a' W => ∃ g1 : Nat, S1 W ∧ w.heap.size + 2 ≤ g1 ∧ W.heap[g1]? = some (.cells C 42 (0, 0)) ∧ a' = ⟨#[.agg c, .agg #[.int .u32 x, .int .u16 d, .float .f64 f0, .float .f64 f1, .float .f64 f2, .float .f64 f3], .pointer (some ⟨w.heap.size, 0, none⟩), .pointer (some ⟨w.heap.size + 1, 0, none⟩), .bool false, .pointer (some ⟨g1, 0, none⟩), undef, .agg c, .agg c, .agg #[.int .u32 x, .int .u16 d, .float .f64 f0, .float .f64 f1, .float .f64 f2, .float .f64 f3], .agg #[.int .u32 x, .int .u16 d, .float .f64 f0, .float .f64 f1, .float .f64 f2, .float .f64 f3], .agg C, undef, undef, undef, undef, undef, undef, undef, undef, undef], []⟩) ?_ ?_
  · have S0 : S1 w0.drew := (HS1.out _).2 ⟨hA, hB, hb.drew⟩
    refine held_start (S := S1) (by kernel_rfl) S0 7 rfl #[false, false, false, false, false, false, false] rfl (fun W0 S0 => ?_)
    refine tk_load' (i := 0) rfl (by kernel_rfl) (by kernel_rfl) (by kernel_rfl) (fun _ _ _ _ h => nomatch h.1) rfl 51 _ rfl _ _ rfl (.agg c) hL1.out S0 #[true, false, false, false, false, false, false] rfl ⟨#[.agg c, .agg #[.int .u32 x, .int .u16 d, .float .f64 f0, .float .f64 f1, .float .f64 f2, .float .f64 f3], .pointer (some ⟨w.heap.size, 0, none⟩), .pointer (some ⟨w.heap.size + 1, 0, none⟩), .bool false, undef, undef, .agg c, undef, undef, undef, undef, undef, undef, undef, undef, undef, undef, undef, undef, undef], []⟩ rfl ?_
    refine tk_load' (i := 2) rfl (by kernel_rfl) (by kernel_rfl) (by kernel_rfl) (fun _ _ _ _ h => nomatch h.1) rfl 54 _ rfl _ _ rfl (.agg #[.int .u32 x, .int .u16 d, .float .f64 f0, .float .f64 f1, .float .f64 f2, .float .f64 f3]) hL2.out S0 #[true, false, true, false, false, false, false] rfl ⟨#[.agg c, .agg #[.int .u32 x, .int .u16 d, .float .f64 f0, .float .f64 f1, .float .f64 f2, .float .f64 f3], .pointer (some ⟨w.heap.size, 0, none⟩), .pointer (some ⟨w.heap.size + 1, 0, none⟩), .bool false, undef, undef, .agg c, undef, .agg #[.int .u32 x, .int .u16 d, .float .f64 f0, .float .f64 f1, .float .f64 f2, .float .f64 f3], undef, undef, undef, undef, undef, undef, undef, undef, undef, undef, undef], []⟩ rfl ?_
    refine wpAnyH_all (rs := [1, 5]) (by kernel_rfl) (by simp) (fun i hi => ?_)
    rcases (by simpa using hi : i = 1 ∨ i = 5) with rfl | rfl
    · skip
      refine up_fcall' rfl rfl Try.func10 (by kernel_rfl) (by kernel_rfl) rfl [.agg c] rfl #[true, true, true, false, false, false, false] rfl (.agg c) ⟨#[.agg c, .agg #[.int .u32 x, .int .u16 d, .float .f64 f0, .float .f64 f1, .float .f64 f2, .float .f64 f3], .pointer (some ⟨w.heap.size, 0, none⟩), .pointer (some ⟨w.heap.size + 1, 0, none⟩), .bool false, undef, undef, .agg c, .agg c, .agg #[.int .u32 x, .int .u16 d, .float .f64 f0, .float .f64 f1, .float .f64 f2, .float .f64 f3], undef, undef, undef, undef, undef, undef, undef, undef, undef, undef, undef], []⟩ rfl _ (to_mem c HC.out _) ?_
      intro Wc0 bWc0
      have SWc0 := hSc.out _ _ S0 bWc0
      refine ⟨SWc0, ?_⟩
      refine wpAnyH_all (rs := [3, 5]) (by kernel_rfl) (by simp) (fun i hi => ?_)
      rcases (by simpa using hi : i = 3 ∨ i = 5) with rfl | rfl
      · skip
        refine up_fcall' rfl rfl Try.func11 (by kernel_rfl) (by kernel_rfl) rfl [.agg #[.int .u32 x, .int .u16 d, .float .f64 f0, .float .f64 f1, .float .f64 f2, .float .f64 f3]] rfl #[true, true, true, true, false, false, false] rfl (.agg #[.int .u32 x, .int .u16 d, .float .f64 f0, .float .f64 f1, .float .f64 f2, .float .f64 f3]) ⟨#[.agg c, .agg #[.int .u32 x, .int .u16 d, .float .f64 f0, .float .f64 f1, .float .f64 f2, .float .f64 f3], .pointer (some ⟨w.heap.size, 0, none⟩), .pointer (some ⟨w.heap.size + 1, 0, none⟩), .bool false, undef, undef, .agg c, .agg c, .agg #[.int .u32 x, .int .u16 d, .float .f64 f0, .float .f64 f1, .float .f64 f2, .float .f64 f3], .agg #[.int .u32 x, .int .u16 d, .float .f64 f0, .float .f64 f1, .float .f64 f2, .float .f64 f3], undef, undef, undef, undef, undef, undef, undef, undef, undef, undef], []⟩ rfl _ (to_samp x d f0 f1 f2 f3 _) ?_
        intro Wc1 bWc1
        have SWc1 := hSc.out _ _ SWc0 bWc1
        refine ⟨SWc1, ?_⟩
        refine wpAnyH_all (rs := [4, 5]) (by kernel_rfl) (by simp) (fun i hi => ?_)
        rcases (by simpa using hi : i = 4 ∨ i = 5) with rfl | rfl
        · skip
          refine up_fcall' rfl rfl Try.func9 (by kernel_rfl) (by kernel_rfl) rfl [.agg c, .agg #[.int .u32 x, .int .u16 d, .float .f64 f0, .float .f64 f1, .float .f64 f2, .float .f64 f3]] rfl #[true, true, true, true, true, false, false] rfl (.agg C) ⟨#[.agg c, .agg #[.int .u32 x, .int .u16 d, .float .f64 f0, .float .f64 f1, .float .f64 f2, .float .f64 f3], .pointer (some ⟨w.heap.size, 0, none⟩), .pointer (some ⟨w.heap.size + 1, 0, none⟩), .bool false, undef, undef, .agg c, .agg c, .agg #[.int .u32 x, .int .u16 d, .float .f64 f0, .float .f64 f1, .float .f64 f2, .float .f64 f3], .agg #[.int .u32 x, .int .u16 d, .float .f64 f0, .float .f64 f1, .float .f64 f2, .float .f64 f3], .agg C, undef, undef, undef, undef, undef, undef, undef, undef, undef], []⟩ rfl _ (cF.out _ SWc1) ?_
          intro Wc2 bWc2
          have SWc2 := hSc.out _ _ SWc1 bWc2
          refine ⟨SWc2, ?_⟩
          refine wpAnyH_all (rs := [5]) (by kernel_rfl) (by simp) (fun i hi => ?_)
          obtain rfl := List.mem_singleton.1 hi
          refine up_alloc' rfl rfl 42 rfl Z (hz.out _) (hSc.out _ _ SWc2 ((Below.refl _ _).alloc (Nat.le_refl _) _)) #[true, true, true, true, true, true, false] rfl ⟨#[.agg c, .agg #[.int .u32 x, .int .u16 d, .float .f64 f0, .float .f64 f1, .float .f64 f2, .float .f64 f3], .pointer (some ⟨w.heap.size, 0, none⟩), .pointer (some ⟨w.heap.size + 1, 0, none⟩), .bool false, .pointer (some ⟨Wc2.heap.size, 0, none⟩), undef, .agg c, .agg c, .agg #[.int .u32 x, .int .u16 d, .float .f64 f0, .float .f64 f1, .float .f64 f2, .float .f64 f3], .agg #[.int .u32 x, .int .u16 d, .float .f64 f0, .float .f64 f1, .float .f64 f2, .float .f64 f3], .agg C, undef, undef, undef, undef, undef, undef, undef, undef, undef], []⟩ rfl ?_
          have Sga3 : S1 (Wc2.alloc (.cells Z 42)) := hSc.out _ _ SWc2 ((Below.refl _ _).alloc (Nat.le_refl _) _)
          have hZga3 : (Wc2.alloc (.cells Z 42)).heap[Wc2.heap.size]? = some (.cells Z 42 (0, 0)) := heap_alloc_last _ _
          have hlga3 : w.heap.size + 2 ≤ Wc2.heap.size := hSl.out _ SWc2
          generalize (Wc2.alloc (.cells Z 42)) = Wga3 at Sga3 hZga3 ⊢
          generalize Wc2.heap.size = ga3 at hZga3 hlga3 ⊢
          refine wpAnyH_all (rs := [6]) (by kernel_rfl) (by simp) (fun i hi => ?_)
          obtain rfl := List.mem_singleton.1 hi
          exact up_store' rfl rfl 42 _ _ rfl _ _ rfl _ rfl _ (store_all hZga3 _ _ HZC.out HIC.out HCo.out) (hSt.out _ _ _ Sga3 hlga3) #[true, true, true, true, true, true, true] rfl ⟨#[.agg c, .agg #[.int .u32 x, .int .u16 d, .float .f64 f0, .float .f64 f1, .float .f64 f2, .float .f64 f3], .pointer (some ⟨w.heap.size, 0, none⟩), .pointer (some ⟨w.heap.size + 1, 0, none⟩), .bool false, .pointer (some ⟨ga3, 0, none⟩), undef, .agg c, .agg c, .agg #[.int .u32 x, .int .u16 d, .float .f64 f0, .float .f64 f1, .float .f64 f2, .float .f64 f3], .agg #[.int .u32 x, .int .u16 d, .float .f64 f0, .float .f64 f1, .float .f64 f2, .float .f64 f3], .agg C, undef, undef, undef, undef, undef, undef, undef, undef, undef], []⟩ rfl (wpAnyH_done (by kernel_rfl) ⟨rfl, ga3, hSt.out _ _ _ Sga3 hlga3, hlga3, row_set hZga3 _, rfl⟩ _)
        · skip
          refine up_alloc' rfl rfl 42 rfl Z (hz.out _) (hSc.out _ _ SWc1 ((Below.refl _ _).alloc (Nat.le_refl _) _)) #[true, true, true, true, false, true, false] rfl ⟨#[.agg c, .agg #[.int .u32 x, .int .u16 d, .float .f64 f0, .float .f64 f1, .float .f64 f2, .float .f64 f3], .pointer (some ⟨w.heap.size, 0, none⟩), .pointer (some ⟨w.heap.size + 1, 0, none⟩), .bool false, .pointer (some ⟨Wc1.heap.size, 0, none⟩), undef, .agg c, .agg c, .agg #[.int .u32 x, .int .u16 d, .float .f64 f0, .float .f64 f1, .float .f64 f2, .float .f64 f3], .agg #[.int .u32 x, .int .u16 d, .float .f64 f0, .float .f64 f1, .float .f64 f2, .float .f64 f3], undef, undef, undef, undef, undef, undef, undef, undef, undef, undef], []⟩ rfl ?_
          have Sga2 : S1 (Wc1.alloc (.cells Z 42)) := hSc.out _ _ SWc1 ((Below.refl _ _).alloc (Nat.le_refl _) _)
          have hZga2 : (Wc1.alloc (.cells Z 42)).heap[Wc1.heap.size]? = some (.cells Z 42 (0, 0)) := heap_alloc_last _ _
          have hlga2 : w.heap.size + 2 ≤ Wc1.heap.size := hSl.out _ SWc1
          generalize (Wc1.alloc (.cells Z 42)) = Wga2 at Sga2 hZga2 ⊢
          generalize Wc1.heap.size = ga2 at hZga2 hlga2 ⊢
          refine wpAnyH_all (rs := [4]) (by kernel_rfl) (by simp) (fun i hi => ?_)
          obtain rfl := List.mem_singleton.1 hi
          refine up_fcall' rfl rfl Try.func9 (by kernel_rfl) (by kernel_rfl) rfl [.agg c, .agg #[.int .u32 x, .int .u16 d, .float .f64 f0, .float .f64 f1, .float .f64 f2, .float .f64 f3]] rfl #[true, true, true, true, true, true, false] rfl (.agg C) ⟨#[.agg c, .agg #[.int .u32 x, .int .u16 d, .float .f64 f0, .float .f64 f1, .float .f64 f2, .float .f64 f3], .pointer (some ⟨w.heap.size, 0, none⟩), .pointer (some ⟨w.heap.size + 1, 0, none⟩), .bool false, .pointer (some ⟨ga2, 0, none⟩), undef, .agg c, .agg c, .agg #[.int .u32 x, .int .u16 d, .float .f64 f0, .float .f64 f1, .float .f64 f2, .float .f64 f3], .agg #[.int .u32 x, .int .u16 d, .float .f64 f0, .float .f64 f1, .float .f64 f2, .float .f64 f3], .agg C, undef, undef, undef, undef, undef, undef, undef, undef, undef], []⟩ rfl _ (cF.out _ Sga2) ?_
          intro Wc3 bWc3
          have SWc3 := hSc.out _ _ Sga2 bWc3
          have hZga2 := (bWc3.block _ (Array.getElem?_eq_some_iff.1 hZga2).1).trans hZga2
          refine ⟨SWc3, ?_⟩
          refine wpAnyH_all (rs := [6]) (by kernel_rfl) (by simp) (fun i hi => ?_)
          obtain rfl := List.mem_singleton.1 hi
          exact up_store' rfl rfl 42 _ _ rfl _ _ rfl _ rfl _ (store_all hZga2 _ _ HZC.out HIC.out HCo.out) (hSt.out _ _ _ SWc3 hlga2) #[true, true, true, true, true, true, true] rfl ⟨#[.agg c, .agg #[.int .u32 x, .int .u16 d, .float .f64 f0, .float .f64 f1, .float .f64 f2, .float .f64 f3], .pointer (some ⟨w.heap.size, 0, none⟩), .pointer (some ⟨w.heap.size + 1, 0, none⟩), .bool false, .pointer (some ⟨ga2, 0, none⟩), undef, .agg c, .agg c, .agg #[.int .u32 x, .int .u16 d, .float .f64 f0, .float .f64 f1, .float .f64 f2, .float .f64 f3], .agg #[.int .u32 x, .int .u16 d, .float .f64 f0, .float .f64 f1, .float .f64 f2, .float .f64 f3], .agg C, undef, undef, undef, undef, undef, undef, undef, undef, undef], []⟩ rfl (wpAnyH_done (by kernel_rfl) ⟨rfl, ga2, hSt.out _ _ _ SWc3 hlga2, hlga2, row_set hZga2 _, rfl⟩ _)
      · skip
        refine up_alloc' rfl rfl 42 rfl Z (hz.out _) (hSc.out _ _ SWc0 ((Below.refl _ _).alloc (Nat.le_refl _) _)) #[true, true, true, false, false, true, false] rfl ⟨#[.agg c, .agg #[.int .u32 x, .int .u16 d, .float .f64 f0, .float .f64 f1, .float .f64 f2, .float .f64 f3], .pointer (some ⟨w.heap.size, 0, none⟩), .pointer (some ⟨w.heap.size + 1, 0, none⟩), .bool false, .pointer (some ⟨Wc0.heap.size, 0, none⟩), undef, .agg c, .agg c, .agg #[.int .u32 x, .int .u16 d, .float .f64 f0, .float .f64 f1, .float .f64 f2, .float .f64 f3], undef, undef, undef, undef, undef, undef, undef, undef, undef, undef, undef], []⟩ rfl ?_
        have Sga1 : S1 (Wc0.alloc (.cells Z 42)) := hSc.out _ _ SWc0 ((Below.refl _ _).alloc (Nat.le_refl _) _)
        have hZga1 : (Wc0.alloc (.cells Z 42)).heap[Wc0.heap.size]? = some (.cells Z 42 (0, 0)) := heap_alloc_last _ _
        have hlga1 : w.heap.size + 2 ≤ Wc0.heap.size := hSl.out _ SWc0
        generalize (Wc0.alloc (.cells Z 42)) = Wga1 at Sga1 hZga1 ⊢
        generalize Wc0.heap.size = ga1 at hZga1 hlga1 ⊢
        refine wpAnyH_all (rs := [3]) (by kernel_rfl) (by simp) (fun i hi => ?_)
        obtain rfl := List.mem_singleton.1 hi
        refine up_fcall' rfl rfl Try.func11 (by kernel_rfl) (by kernel_rfl) rfl [.agg #[.int .u32 x, .int .u16 d, .float .f64 f0, .float .f64 f1, .float .f64 f2, .float .f64 f3]] rfl #[true, true, true, true, false, true, false] rfl (.agg #[.int .u32 x, .int .u16 d, .float .f64 f0, .float .f64 f1, .float .f64 f2, .float .f64 f3]) ⟨#[.agg c, .agg #[.int .u32 x, .int .u16 d, .float .f64 f0, .float .f64 f1, .float .f64 f2, .float .f64 f3], .pointer (some ⟨w.heap.size, 0, none⟩), .pointer (some ⟨w.heap.size + 1, 0, none⟩), .bool false, .pointer (some ⟨ga1, 0, none⟩), undef, .agg c, .agg c, .agg #[.int .u32 x, .int .u16 d, .float .f64 f0, .float .f64 f1, .float .f64 f2, .float .f64 f3], .agg #[.int .u32 x, .int .u16 d, .float .f64 f0, .float .f64 f1, .float .f64 f2, .float .f64 f3], undef, undef, undef, undef, undef, undef, undef, undef, undef, undef], []⟩ rfl _ (to_samp x d f0 f1 f2 f3 _) ?_
        intro Wc2 bWc2
        have SWc2 := hSc.out _ _ Sga1 bWc2
        have hZga1 := (bWc2.block _ (Array.getElem?_eq_some_iff.1 hZga1).1).trans hZga1
        refine ⟨SWc2, ?_⟩
        refine wpAnyH_all (rs := [4]) (by kernel_rfl) (by simp) (fun i hi => ?_)
        obtain rfl := List.mem_singleton.1 hi
        refine up_fcall' rfl rfl Try.func9 (by kernel_rfl) (by kernel_rfl) rfl [.agg c, .agg #[.int .u32 x, .int .u16 d, .float .f64 f0, .float .f64 f1, .float .f64 f2, .float .f64 f3]] rfl #[true, true, true, true, true, true, false] rfl (.agg C) ⟨#[.agg c, .agg #[.int .u32 x, .int .u16 d, .float .f64 f0, .float .f64 f1, .float .f64 f2, .float .f64 f3], .pointer (some ⟨w.heap.size, 0, none⟩), .pointer (some ⟨w.heap.size + 1, 0, none⟩), .bool false, .pointer (some ⟨ga1, 0, none⟩), undef, .agg c, .agg c, .agg #[.int .u32 x, .int .u16 d, .float .f64 f0, .float .f64 f1, .float .f64 f2, .float .f64 f3], .agg #[.int .u32 x, .int .u16 d, .float .f64 f0, .float .f64 f1, .float .f64 f2, .float .f64 f3], .agg C, undef, undef, undef, undef, undef, undef, undef, undef, undef], []⟩ rfl _ (cF.out _ SWc2) ?_
        intro Wc3 bWc3
        have SWc3 := hSc.out _ _ SWc2 bWc3
        have hZga1 := (bWc3.block _ (Array.getElem?_eq_some_iff.1 hZga1).1).trans hZga1
        refine ⟨SWc3, ?_⟩
        refine wpAnyH_all (rs := [6]) (by kernel_rfl) (by simp) (fun i hi => ?_)
        obtain rfl := List.mem_singleton.1 hi
        exact up_store' rfl rfl 42 _ _ rfl _ _ rfl _ rfl _ (store_all hZga1 _ _ HZC.out HIC.out HCo.out) (hSt.out _ _ _ SWc3 hlga1) #[true, true, true, true, true, true, true] rfl ⟨#[.agg c, .agg #[.int .u32 x, .int .u16 d, .float .f64 f0, .float .f64 f1, .float .f64 f2, .float .f64 f3], .pointer (some ⟨w.heap.size, 0, none⟩), .pointer (some ⟨w.heap.size + 1, 0, none⟩), .bool false, .pointer (some ⟨ga1, 0, none⟩), undef, .agg c, .agg c, .agg #[.int .u32 x, .int .u16 d, .float .f64 f0, .float .f64 f1, .float .f64 f2, .float .f64 f3], .agg #[.int .u32 x, .int .u16 d, .float .f64 f0, .float .f64 f1, .float .f64 f2, .float .f64 f3], .agg C, undef, undef, undef, undef, undef, undef, undef, undef, undef], []⟩ rfl (wpAnyH_done (by kernel_rfl) ⟨rfl, ga1, hSt.out _ _ _ SWc3 hlga1, hlga1, row_set hZga1 _, rfl⟩ _)
    · skip
      refine up_alloc' rfl rfl 42 rfl Z (hz.out _) (hSc.out _ _ S0 ((Below.refl _ _).alloc (Nat.le_refl _) _)) #[true, false, true, false, false, true, false] rfl ⟨#[.agg c, .agg #[.int .u32 x, .int .u16 d, .float .f64 f0, .float .f64 f1, .float .f64 f2, .float .f64 f3], .pointer (some ⟨w.heap.size, 0, none⟩), .pointer (some ⟨w.heap.size + 1, 0, none⟩), .bool false, .pointer (some ⟨W0.heap.size, 0, none⟩), undef, .agg c, undef, .agg #[.int .u32 x, .int .u16 d, .float .f64 f0, .float .f64 f1, .float .f64 f2, .float .f64 f3], undef, undef, undef, undef, undef, undef, undef, undef, undef, undef, undef], []⟩ rfl ?_
      have Sga0 : S1 (W0.alloc (.cells Z 42)) := hSc.out _ _ S0 ((Below.refl _ _).alloc (Nat.le_refl _) _)
      have hZga0 : (W0.alloc (.cells Z 42)).heap[W0.heap.size]? = some (.cells Z 42 (0, 0)) := heap_alloc_last _ _
      have hlga0 : w.heap.size + 2 ≤ W0.heap.size := hSl.out _ S0
      generalize (W0.alloc (.cells Z 42)) = Wga0 at Sga0 hZga0 ⊢
      generalize W0.heap.size = ga0 at hZga0 hlga0 ⊢
      refine wpAnyH_all (rs := [1]) (by kernel_rfl) (by simp) (fun i hi => ?_)
      obtain rfl := List.mem_singleton.1 hi
      refine up_fcall' rfl rfl Try.func10 (by kernel_rfl) (by kernel_rfl) rfl [.agg c] rfl #[true, true, true, false, false, true, false] rfl (.agg c) ⟨#[.agg c, .agg #[.int .u32 x, .int .u16 d, .float .f64 f0, .float .f64 f1, .float .f64 f2, .float .f64 f3], .pointer (some ⟨w.heap.size, 0, none⟩), .pointer (some ⟨w.heap.size + 1, 0, none⟩), .bool false, .pointer (some ⟨ga0, 0, none⟩), undef, .agg c, .agg c, .agg #[.int .u32 x, .int .u16 d, .float .f64 f0, .float .f64 f1, .float .f64 f2, .float .f64 f3], undef, undef, undef, undef, undef, undef, undef, undef, undef, undef, undef], []⟩ rfl _ (to_mem c HC.out _) ?_
      intro Wc1 bWc1
      have SWc1 := hSc.out _ _ Sga0 bWc1
      have hZga0 := (bWc1.block _ (Array.getElem?_eq_some_iff.1 hZga0).1).trans hZga0
      refine ⟨SWc1, ?_⟩
      refine wpAnyH_all (rs := [3]) (by kernel_rfl) (by simp) (fun i hi => ?_)
      obtain rfl := List.mem_singleton.1 hi
      refine up_fcall' rfl rfl Try.func11 (by kernel_rfl) (by kernel_rfl) rfl [.agg #[.int .u32 x, .int .u16 d, .float .f64 f0, .float .f64 f1, .float .f64 f2, .float .f64 f3]] rfl #[true, true, true, true, false, true, false] rfl (.agg #[.int .u32 x, .int .u16 d, .float .f64 f0, .float .f64 f1, .float .f64 f2, .float .f64 f3]) ⟨#[.agg c, .agg #[.int .u32 x, .int .u16 d, .float .f64 f0, .float .f64 f1, .float .f64 f2, .float .f64 f3], .pointer (some ⟨w.heap.size, 0, none⟩), .pointer (some ⟨w.heap.size + 1, 0, none⟩), .bool false, .pointer (some ⟨ga0, 0, none⟩), undef, .agg c, .agg c, .agg #[.int .u32 x, .int .u16 d, .float .f64 f0, .float .f64 f1, .float .f64 f2, .float .f64 f3], .agg #[.int .u32 x, .int .u16 d, .float .f64 f0, .float .f64 f1, .float .f64 f2, .float .f64 f3], undef, undef, undef, undef, undef, undef, undef, undef, undef, undef], []⟩ rfl _ (to_samp x d f0 f1 f2 f3 _) ?_
      intro Wc2 bWc2
      have SWc2 := hSc.out _ _ SWc1 bWc2
      have hZga0 := (bWc2.block _ (Array.getElem?_eq_some_iff.1 hZga0).1).trans hZga0
      refine ⟨SWc2, ?_⟩
      refine wpAnyH_all (rs := [4]) (by kernel_rfl) (by simp) (fun i hi => ?_)
      obtain rfl := List.mem_singleton.1 hi
      refine up_fcall' rfl rfl Try.func9 (by kernel_rfl) (by kernel_rfl) rfl [.agg c, .agg #[.int .u32 x, .int .u16 d, .float .f64 f0, .float .f64 f1, .float .f64 f2, .float .f64 f3]] rfl #[true, true, true, true, true, true, false] rfl (.agg C) ⟨#[.agg c, .agg #[.int .u32 x, .int .u16 d, .float .f64 f0, .float .f64 f1, .float .f64 f2, .float .f64 f3], .pointer (some ⟨w.heap.size, 0, none⟩), .pointer (some ⟨w.heap.size + 1, 0, none⟩), .bool false, .pointer (some ⟨ga0, 0, none⟩), undef, .agg c, .agg c, .agg #[.int .u32 x, .int .u16 d, .float .f64 f0, .float .f64 f1, .float .f64 f2, .float .f64 f3], .agg #[.int .u32 x, .int .u16 d, .float .f64 f0, .float .f64 f1, .float .f64 f2, .float .f64 f3], .agg C, undef, undef, undef, undef, undef, undef, undef, undef, undef], []⟩ rfl _ (cF.out _ SWc2) ?_
      intro Wc3 bWc3
      have SWc3 := hSc.out _ _ SWc2 bWc3
      have hZga0 := (bWc3.block _ (Array.getElem?_eq_some_iff.1 hZga0).1).trans hZga0
      refine ⟨SWc3, ?_⟩
      refine wpAnyH_all (rs := [6]) (by kernel_rfl) (by simp) (fun i hi => ?_)
      obtain rfl := List.mem_singleton.1 hi
      exact up_store' rfl rfl 42 _ _ rfl _ _ rfl _ rfl _ (store_all hZga0 _ _ HZC.out HIC.out HCo.out) (hSt.out _ _ _ SWc3 hlga0) #[true, true, true, true, true, true, true] rfl ⟨#[.agg c, .agg #[.int .u32 x, .int .u16 d, .float .f64 f0, .float .f64 f1, .float .f64 f2, .float .f64 f3], .pointer (some ⟨w.heap.size, 0, none⟩), .pointer (some ⟨w.heap.size + 1, 0, none⟩), .bool false, .pointer (some ⟨ga0, 0, none⟩), undef, .agg c, .agg c, .agg #[.int .u32 x, .int .u16 d, .float .f64 f0, .float .f64 f1, .float .f64 f2, .float .f64 f3], .agg #[.int .u32 x, .int .u16 d, .float .f64 f0, .float .f64 f1, .float .f64 f2, .float .f64 f3], .agg C, undef, undef, undef, undef, undef, undef, undef, undef, undef], []⟩ rfl (wpAnyH_done (by kernel_rfl) ⟨rfl, ga0, hSt.out _ _ _ SWc3 hlga0, hlga0, row_set hZga0 _, rfl⟩ _)
  rintro a1 w1 ⟨g1, h1, hg1, hG, rfl⟩
  obtain ⟨hA, hB, hb⟩ := (HS1.out w1).1 h1
  clear hSc hSt hSl hL1 hL2 cF HS1 h1
  go_upto_region 2 with fail
  obtain ⟨S2, HS2⟩ : ∃ S : World → Prop, Hid (∀ W, S W ↔ (W.heap[w.heap.size]? = some (.cells c 51 (0, 0)) ∧ W.heap[w.heap.size + 1]? = some (.cells #[.int .u32 x, .int .u16 d, .float .f64 f0, .float .f64 f1, .float .f64 f2, .float .f64 f3] 54 (0, 0)) ∧ Below w.heap.size w W ∧ W.heap[g1]? = some (.cells C 42 (0, 0)) ∧ w.heap.size + 2 ≤ g1)) := ⟨_, fun W => Iff.rfl⟩
  have hSc : Hid (∀ W W', S2 W → Below W.heap.size W W' → S2 W') := fun W W' h g => by
    have h := (HS2.out W).1 h
    have l1 := (Array.getElem?_eq_some_iff.1 h.2.1).1
    have l2 := (Array.getElem?_eq_some_iff.1 h.2.2.2.1).1
    exact (HS2.out W').2 ⟨(g.block _ (by omega)).trans h.1, (g.block _ (by omega)).trans h.2.1, h.2.2.1.trans (g.mono (h.2.2.1).size), (g.block _ l2).trans h.2.2.2.1, h.2.2.2.2⟩
  have hSt : Hid (∀ W g2 D, S2 W → g1 + 1 ≤ g2 → S2 (W.setRow g2 D)) := fun W g2 D h hg => by
    have h := (HS2.out W).1 h
    exact (HS2.out _).2 ⟨row_beside h.1 _ (by have := h.2.2.2.2; omega) _, row_beside h.2.1 _ (by have := h.2.2.2.2; omega) _, below_setRow h.2.2.1 (by have := h.2.2.2.2; omega) _, row_beside h.2.2.2.1 _ (by omega) _, h.2.2.2.2⟩
  have hSl : Hid (∀ W, S2 W → g1 + 1 ≤ W.heap.size) := fun W h => by
    have h := (HS2.out W).1 h
    have l1 := (Array.getElem?_eq_some_iff.1 h.2.2.2.1).1
    show g1 + 1 ≤ W.heap.size
    omega
  have hL1 : Hid (∀ W, S2 W → (loadVar 51 ⟨w.heap.size, 0, none⟩).run Try.prog W = .ok (.agg c) W) := fun W h => load_all ((HS2.out W).1 h).1 _ _ Try.underlying51 rfl HI.out
  have hL2 : Hid (∀ W, S2 W → (loadVar 54 ⟨w.heap.size + 1, 0, none⟩).run Try.prog W = .ok (.agg #[.int .u32 x, .int .u16 d, .float .f64 f0, .float .f64 f1, .float .f64 f2, .float .f64 f3]) W) := fun W h => load_all ((HS2.out W).1 h).2.1 _ _ Try.underlying54 rfl infoLS
  have cF : Hid (∀ W, S2 W → Calls Try.prog 12 #[.agg c, .agg #[.int .u32 x, .int .u16 d, .float .f64 f0, .float .f64 f1, .float .f64 f2, .float .f64 f3]] W fun e w' => e = .returned (.agg C) ∧ Below W.heap.size W w') := fun W h => HB2.out W
  refine region_cut (R := fun a' W => ∃ g2 : Nat, S2 W ∧ g1 + 1 ≤ g2 ∧ W.heap[g2]? = some (.cells C 42 (0, 0)) ∧ a' = ⟨#[.agg c, .agg #[.int .u32 x, .int .u16 d, .float .f64 f0, .float .f64 f1, .float .f64 f2, .float .f64 f3], .pointer (some ⟨w.heap.size, 0, none⟩), .pointer (some ⟨w.heap.size + 1, 0, none⟩), .bool false, .pointer (some ⟨g1, 0, none⟩), .pointer (some ⟨g2, 0, none⟩), .agg c, .agg c, .agg #[.int .u32 x, .int .u16 d, .float .f64 f0, .float .f64 f1, .float .f64 f2, .float .f64 f3], .agg #[.int .u32 x, .int .u16 d, .float .f64 f0, .float .f64 f1, .float .f64 f2, .float .f64 f3], .agg C, .agg c, .agg c, .agg #[.int .u32 x, .int .u16 d, .float .f64 f0, .float .f64 f1, .float .f64 f2, .float .f64 f3], .agg #[.int .u32 x, .int .u16 d, .float .f64 f0, .float .f64 f1, .float .f64 f2, .float .f64 f3], .agg C, undef, undef, undef, undef], []⟩) ?_ ?_
  · have S0 : S2 w1.drew := (HS2.out _).2 ⟨hA, hB, hb.drew, hG, hg1⟩
    refine held_start (S := S2) (by kernel_rfl) S0 7 rfl #[false, false, false, false, false, false, false] rfl (fun W0 S0 => ?_)
    refine tk_load' (i := 0) rfl (by kernel_rfl) (by kernel_rfl) (by kernel_rfl) (fun _ _ _ _ h => nomatch h.1) rfl 51 _ rfl _ _ rfl (.agg c) hL1.out S0 #[true, false, false, false, false, false, false] rfl ⟨#[.agg c, .agg #[.int .u32 x, .int .u16 d, .float .f64 f0, .float .f64 f1, .float .f64 f2, .float .f64 f3], .pointer (some ⟨w.heap.size, 0, none⟩), .pointer (some ⟨w.heap.size + 1, 0, none⟩), .bool false, .pointer (some ⟨g1, 0, none⟩), undef, .agg c, .agg c, .agg #[.int .u32 x, .int .u16 d, .float .f64 f0, .float .f64 f1, .float .f64 f2, .float .f64 f3], .agg #[.int .u32 x, .int .u16 d, .float .f64 f0, .float .f64 f1, .float .f64 f2, .float .f64 f3], .agg C, .agg c, undef, undef, undef, undef, undef, undef, undef, undef], []⟩ rfl ?_
    refine tk_load' (i := 2) rfl (by kernel_rfl) (by kernel_rfl) (by kernel_rfl) (fun _ _ _ _ h => nomatch h.1) rfl 54 _ rfl _ _ rfl (.agg #[.int .u32 x, .int .u16 d, .float .f64 f0, .float .f64 f1, .float .f64 f2, .float .f64 f3]) hL2.out S0 #[true, false, true, false, false, false, false] rfl ⟨#[.agg c, .agg #[.int .u32 x, .int .u16 d, .float .f64 f0, .float .f64 f1, .float .f64 f2, .float .f64 f3], .pointer (some ⟨w.heap.size, 0, none⟩), .pointer (some ⟨w.heap.size + 1, 0, none⟩), .bool false, .pointer (some ⟨g1, 0, none⟩), undef, .agg c, .agg c, .agg #[.int .u32 x, .int .u16 d, .float .f64 f0, .float .f64 f1, .float .f64 f2, .float .f64 f3], .agg #[.int .u32 x, .int .u16 d, .float .f64 f0, .float .f64 f1, .float .f64 f2, .float .f64 f3], .agg C, .agg c, undef, .agg #[.int .u32 x, .int .u16 d, .float .f64 f0, .float .f64 f1, .float .f64 f2, .float .f64 f3], undef, undef, undef, undef, undef, undef], []⟩ rfl ?_
    refine wpAnyH_all (rs := [1, 5]) (by kernel_rfl) (by simp) (fun i hi => ?_)
    rcases (by simpa using hi : i = 1 ∨ i = 5) with rfl | rfl
    · skip
      refine up_fcall' rfl rfl Try.func10 (by kernel_rfl) (by kernel_rfl) rfl [.agg c] rfl #[true, true, true, false, false, false, false] rfl (.agg c) ⟨#[.agg c, .agg #[.int .u32 x, .int .u16 d, .float .f64 f0, .float .f64 f1, .float .f64 f2, .float .f64 f3], .pointer (some ⟨w.heap.size, 0, none⟩), .pointer (some ⟨w.heap.size + 1, 0, none⟩), .bool false, .pointer (some ⟨g1, 0, none⟩), undef, .agg c, .agg c, .agg #[.int .u32 x, .int .u16 d, .float .f64 f0, .float .f64 f1, .float .f64 f2, .float .f64 f3], .agg #[.int .u32 x, .int .u16 d, .float .f64 f0, .float .f64 f1, .float .f64 f2, .float .f64 f3], .agg C, .agg c, .agg c, .agg #[.int .u32 x, .int .u16 d, .float .f64 f0, .float .f64 f1, .float .f64 f2, .float .f64 f3], undef, undef, undef, undef, undef, undef], []⟩ rfl _ (to_mem c HC.out _) ?_
      intro Wc0 bWc0
      have SWc0 := hSc.out _ _ S0 bWc0
      refine ⟨SWc0, ?_⟩
      refine wpAnyH_all (rs := [3, 5]) (by kernel_rfl) (by simp) (fun i hi => ?_)
      rcases (by simpa using hi : i = 3 ∨ i = 5) with rfl | rfl
      · skip
        refine up_fcall' rfl rfl Try.func11 (by kernel_rfl) (by kernel_rfl) rfl [.agg #[.int .u32 x, .int .u16 d, .float .f64 f0, .float .f64 f1, .float .f64 f2, .float .f64 f3]] rfl #[true, true, true, true, false, false, false] rfl (.agg #[.int .u32 x, .int .u16 d, .float .f64 f0, .float .f64 f1, .float .f64 f2, .float .f64 f3]) ⟨#[.agg c, .agg #[.int .u32 x, .int .u16 d, .float .f64 f0, .float .f64 f1, .float .f64 f2, .float .f64 f3], .pointer (some ⟨w.heap.size, 0, none⟩), .pointer (some ⟨w.heap.size + 1, 0, none⟩), .bool false, .pointer (some ⟨g1, 0, none⟩), undef, .agg c, .agg c, .agg #[.int .u32 x, .int .u16 d, .float .f64 f0, .float .f64 f1, .float .f64 f2, .float .f64 f3], .agg #[.int .u32 x, .int .u16 d, .float .f64 f0, .float .f64 f1, .float .f64 f2, .float .f64 f3], .agg C, .agg c, .agg c, .agg #[.int .u32 x, .int .u16 d, .float .f64 f0, .float .f64 f1, .float .f64 f2, .float .f64 f3], .agg #[.int .u32 x, .int .u16 d, .float .f64 f0, .float .f64 f1, .float .f64 f2, .float .f64 f3], undef, undef, undef, undef, undef], []⟩ rfl _ (to_samp x d f0 f1 f2 f3 _) ?_
        intro Wc1 bWc1
        have SWc1 := hSc.out _ _ SWc0 bWc1
        refine ⟨SWc1, ?_⟩
        refine wpAnyH_all (rs := [4, 5]) (by kernel_rfl) (by simp) (fun i hi => ?_)
        rcases (by simpa using hi : i = 4 ∨ i = 5) with rfl | rfl
        · skip
          refine up_fcall' rfl rfl Try.func12 (by kernel_rfl) (by kernel_rfl) rfl [.agg c, .agg #[.int .u32 x, .int .u16 d, .float .f64 f0, .float .f64 f1, .float .f64 f2, .float .f64 f3]] rfl #[true, true, true, true, true, false, false] rfl (.agg C) ⟨#[.agg c, .agg #[.int .u32 x, .int .u16 d, .float .f64 f0, .float .f64 f1, .float .f64 f2, .float .f64 f3], .pointer (some ⟨w.heap.size, 0, none⟩), .pointer (some ⟨w.heap.size + 1, 0, none⟩), .bool false, .pointer (some ⟨g1, 0, none⟩), undef, .agg c, .agg c, .agg #[.int .u32 x, .int .u16 d, .float .f64 f0, .float .f64 f1, .float .f64 f2, .float .f64 f3], .agg #[.int .u32 x, .int .u16 d, .float .f64 f0, .float .f64 f1, .float .f64 f2, .float .f64 f3], .agg C, .agg c, .agg c, .agg #[.int .u32 x, .int .u16 d, .float .f64 f0, .float .f64 f1, .float .f64 f2, .float .f64 f3], .agg #[.int .u32 x, .int .u16 d, .float .f64 f0, .float .f64 f1, .float .f64 f2, .float .f64 f3], .agg C, undef, undef, undef, undef], []⟩ rfl _ (cF.out _ SWc1) ?_
          intro Wc2 bWc2
          have SWc2 := hSc.out _ _ SWc1 bWc2
          refine ⟨SWc2, ?_⟩
          refine wpAnyH_all (rs := [5]) (by kernel_rfl) (by simp) (fun i hi => ?_)
          obtain rfl := List.mem_singleton.1 hi
          refine up_alloc' rfl rfl 42 rfl Z (hz.out _) (hSc.out _ _ SWc2 ((Below.refl _ _).alloc (Nat.le_refl _) _)) #[true, true, true, true, true, true, false] rfl ⟨#[.agg c, .agg #[.int .u32 x, .int .u16 d, .float .f64 f0, .float .f64 f1, .float .f64 f2, .float .f64 f3], .pointer (some ⟨w.heap.size, 0, none⟩), .pointer (some ⟨w.heap.size + 1, 0, none⟩), .bool false, .pointer (some ⟨g1, 0, none⟩), .pointer (some ⟨Wc2.heap.size, 0, none⟩), .agg c, .agg c, .agg #[.int .u32 x, .int .u16 d, .float .f64 f0, .float .f64 f1, .float .f64 f2, .float .f64 f3], .agg #[.int .u32 x, .int .u16 d, .float .f64 f0, .float .f64 f1, .float .f64 f2, .float .f64 f3], .agg C, .agg c, .agg c, .agg #[.int .u32 x, .int .u16 d, .float .f64 f0, .float .f64 f1, .float .f64 f2, .float .f64 f3], .agg #[.int .u32 x, .int .u16 d, .float .f64 f0, .float .f64 f1, .float .f64 f2, .float .f64 f3], .agg C, undef, undef, undef, undef], []⟩ rfl ?_
          have Sga3 : S2 (Wc2.alloc (.cells Z 42)) := hSc.out _ _ SWc2 ((Below.refl _ _).alloc (Nat.le_refl _) _)
          have hZga3 : (Wc2.alloc (.cells Z 42)).heap[Wc2.heap.size]? = some (.cells Z 42 (0, 0)) := heap_alloc_last _ _
          have hlga3 : g1 + 1 ≤ Wc2.heap.size := hSl.out _ SWc2
          generalize (Wc2.alloc (.cells Z 42)) = Wga3 at Sga3 hZga3 ⊢
          generalize Wc2.heap.size = ga3 at hZga3 hlga3 ⊢
          refine wpAnyH_all (rs := [6]) (by kernel_rfl) (by simp) (fun i hi => ?_)
          obtain rfl := List.mem_singleton.1 hi
          exact up_store' rfl rfl 42 _ _ rfl _ _ rfl _ rfl _ (store_all hZga3 _ _ HZC.out HIC.out HCo.out) (hSt.out _ _ _ Sga3 hlga3) #[true, true, true, true, true, true, true] rfl ⟨#[.agg c, .agg #[.int .u32 x, .int .u16 d, .float .f64 f0, .float .f64 f1, .float .f64 f2, .float .f64 f3], .pointer (some ⟨w.heap.size, 0, none⟩), .pointer (some ⟨w.heap.size + 1, 0, none⟩), .bool false, .pointer (some ⟨g1, 0, none⟩), .pointer (some ⟨ga3, 0, none⟩), .agg c, .agg c, .agg #[.int .u32 x, .int .u16 d, .float .f64 f0, .float .f64 f1, .float .f64 f2, .float .f64 f3], .agg #[.int .u32 x, .int .u16 d, .float .f64 f0, .float .f64 f1, .float .f64 f2, .float .f64 f3], .agg C, .agg c, .agg c, .agg #[.int .u32 x, .int .u16 d, .float .f64 f0, .float .f64 f1, .float .f64 f2, .float .f64 f3], .agg #[.int .u32 x, .int .u16 d, .float .f64 f0, .float .f64 f1, .float .f64 f2, .float .f64 f3], .agg C, undef, undef, undef, undef], []⟩ rfl (wpAnyH_done (by kernel_rfl) ⟨rfl, ga3, hSt.out _ _ _ Sga3 hlga3, hlga3, row_set hZga3 _, rfl⟩ _)
        · skip
          refine up_alloc' rfl rfl 42 rfl Z (hz.out _) (hSc.out _ _ SWc1 ((Below.refl _ _).alloc (Nat.le_refl _) _)) #[true, true, true, true, false, true, false] rfl ⟨#[.agg c, .agg #[.int .u32 x, .int .u16 d, .float .f64 f0, .float .f64 f1, .float .f64 f2, .float .f64 f3], .pointer (some ⟨w.heap.size, 0, none⟩), .pointer (some ⟨w.heap.size + 1, 0, none⟩), .bool false, .pointer (some ⟨g1, 0, none⟩), .pointer (some ⟨Wc1.heap.size, 0, none⟩), .agg c, .agg c, .agg #[.int .u32 x, .int .u16 d, .float .f64 f0, .float .f64 f1, .float .f64 f2, .float .f64 f3], .agg #[.int .u32 x, .int .u16 d, .float .f64 f0, .float .f64 f1, .float .f64 f2, .float .f64 f3], .agg C, .agg c, .agg c, .agg #[.int .u32 x, .int .u16 d, .float .f64 f0, .float .f64 f1, .float .f64 f2, .float .f64 f3], .agg #[.int .u32 x, .int .u16 d, .float .f64 f0, .float .f64 f1, .float .f64 f2, .float .f64 f3], undef, undef, undef, undef, undef], []⟩ rfl ?_
          have Sga2 : S2 (Wc1.alloc (.cells Z 42)) := hSc.out _ _ SWc1 ((Below.refl _ _).alloc (Nat.le_refl _) _)
          have hZga2 : (Wc1.alloc (.cells Z 42)).heap[Wc1.heap.size]? = some (.cells Z 42 (0, 0)) := heap_alloc_last _ _
          have hlga2 : g1 + 1 ≤ Wc1.heap.size := hSl.out _ SWc1
          generalize (Wc1.alloc (.cells Z 42)) = Wga2 at Sga2 hZga2 ⊢
          generalize Wc1.heap.size = ga2 at hZga2 hlga2 ⊢
          refine wpAnyH_all (rs := [4]) (by kernel_rfl) (by simp) (fun i hi => ?_)
          obtain rfl := List.mem_singleton.1 hi
          refine up_fcall' rfl rfl Try.func12 (by kernel_rfl) (by kernel_rfl) rfl [.agg c, .agg #[.int .u32 x, .int .u16 d, .float .f64 f0, .float .f64 f1, .float .f64 f2, .float .f64 f3]] rfl #[true, true, true, true, true, true, false] rfl (.agg C) ⟨#[.agg c, .agg #[.int .u32 x, .int .u16 d, .float .f64 f0, .float .f64 f1, .float .f64 f2, .float .f64 f3], .pointer (some ⟨w.heap.size, 0, none⟩), .pointer (some ⟨w.heap.size + 1, 0, none⟩), .bool false, .pointer (some ⟨g1, 0, none⟩), .pointer (some ⟨ga2, 0, none⟩), .agg c, .agg c, .agg #[.int .u32 x, .int .u16 d, .float .f64 f0, .float .f64 f1, .float .f64 f2, .float .f64 f3], .agg #[.int .u32 x, .int .u16 d, .float .f64 f0, .float .f64 f1, .float .f64 f2, .float .f64 f3], .agg C, .agg c, .agg c, .agg #[.int .u32 x, .int .u16 d, .float .f64 f0, .float .f64 f1, .float .f64 f2, .float .f64 f3], .agg #[.int .u32 x, .int .u16 d, .float .f64 f0, .float .f64 f1, .float .f64 f2, .float .f64 f3], .agg C, undef, undef, undef, undef], []⟩ rfl _ (cF.out _ Sga2) ?_
          intro Wc3 bWc3
          have SWc3 := hSc.out _ _ Sga2 bWc3
          have hZga2 := (bWc3.block _ (Array.getElem?_eq_some_iff.1 hZga2).1).trans hZga2
          refine ⟨SWc3, ?_⟩
          refine wpAnyH_all (rs := [6]) (by kernel_rfl) (by simp) (fun i hi => ?_)
          obtain rfl := List.mem_singleton.1 hi
          exact up_store' rfl rfl 42 _ _ rfl _ _ rfl _ rfl _ (store_all hZga2 _ _ HZC.out HIC.out HCo.out) (hSt.out _ _ _ SWc3 hlga2) #[true, true, true, true, true, true, true] rfl ⟨#[.agg c, .agg #[.int .u32 x, .int .u16 d, .float .f64 f0, .float .f64 f1, .float .f64 f2, .float .f64 f3], .pointer (some ⟨w.heap.size, 0, none⟩), .pointer (some ⟨w.heap.size + 1, 0, none⟩), .bool false, .pointer (some ⟨g1, 0, none⟩), .pointer (some ⟨ga2, 0, none⟩), .agg c, .agg c, .agg #[.int .u32 x, .int .u16 d, .float .f64 f0, .float .f64 f1, .float .f64 f2, .float .f64 f3], .agg #[.int .u32 x, .int .u16 d, .float .f64 f0, .float .f64 f1, .float .f64 f2, .float .f64 f3], .agg C, .agg c, .agg c, .agg #[.int .u32 x, .int .u16 d, .float .f64 f0, .float .f64 f1, .float .f64 f2, .float .f64 f3], .agg #[.int .u32 x, .int .u16 d, .float .f64 f0, .float .f64 f1, .float .f64 f2, .float .f64 f3], .agg C, undef, undef, undef, undef], []⟩ rfl (wpAnyH_done (by kernel_rfl) ⟨rfl, ga2, hSt.out _ _ _ SWc3 hlga2, hlga2, row_set hZga2 _, rfl⟩ _)
      · skip
        refine up_alloc' rfl rfl 42 rfl Z (hz.out _) (hSc.out _ _ SWc0 ((Below.refl _ _).alloc (Nat.le_refl _) _)) #[true, true, true, false, false, true, false] rfl ⟨#[.agg c, .agg #[.int .u32 x, .int .u16 d, .float .f64 f0, .float .f64 f1, .float .f64 f2, .float .f64 f3], .pointer (some ⟨w.heap.size, 0, none⟩), .pointer (some ⟨w.heap.size + 1, 0, none⟩), .bool false, .pointer (some ⟨g1, 0, none⟩), .pointer (some ⟨Wc0.heap.size, 0, none⟩), .agg c, .agg c, .agg #[.int .u32 x, .int .u16 d, .float .f64 f0, .float .f64 f1, .float .f64 f2, .float .f64 f3], .agg #[.int .u32 x, .int .u16 d, .float .f64 f0, .float .f64 f1, .float .f64 f2, .float .f64 f3], .agg C, .agg c, .agg c, .agg #[.int .u32 x, .int .u16 d, .float .f64 f0, .float .f64 f1, .float .f64 f2, .float .f64 f3], undef, undef, undef, undef, undef, undef], []⟩ rfl ?_
        have Sga1 : S2 (Wc0.alloc (.cells Z 42)) := hSc.out _ _ SWc0 ((Below.refl _ _).alloc (Nat.le_refl _) _)
        have hZga1 : (Wc0.alloc (.cells Z 42)).heap[Wc0.heap.size]? = some (.cells Z 42 (0, 0)) := heap_alloc_last _ _
        have hlga1 : g1 + 1 ≤ Wc0.heap.size := hSl.out _ SWc0
        generalize (Wc0.alloc (.cells Z 42)) = Wga1 at Sga1 hZga1 ⊢
        generalize Wc0.heap.size = ga1 at hZga1 hlga1 ⊢
        refine wpAnyH_all (rs := [3]) (by kernel_rfl) (by simp) (fun i hi => ?_)
        obtain rfl := List.mem_singleton.1 hi
        refine up_fcall' rfl rfl Try.func11 (by kernel_rfl) (by kernel_rfl) rfl [.agg #[.int .u32 x, .int .u16 d, .float .f64 f0, .float .f64 f1, .float .f64 f2, .float .f64 f3]] rfl #[true, true, true, true, false, true, false] rfl (.agg #[.int .u32 x, .int .u16 d, .float .f64 f0, .float .f64 f1, .float .f64 f2, .float .f64 f3]) ⟨#[.agg c, .agg #[.int .u32 x, .int .u16 d, .float .f64 f0, .float .f64 f1, .float .f64 f2, .float .f64 f3], .pointer (some ⟨w.heap.size, 0, none⟩), .pointer (some ⟨w.heap.size + 1, 0, none⟩), .bool false, .pointer (some ⟨g1, 0, none⟩), .pointer (some ⟨ga1, 0, none⟩), .agg c, .agg c, .agg #[.int .u32 x, .int .u16 d, .float .f64 f0, .float .f64 f1, .float .f64 f2, .float .f64 f3], .agg #[.int .u32 x, .int .u16 d, .float .f64 f0, .float .f64 f1, .float .f64 f2, .float .f64 f3], .agg C, .agg c, .agg c, .agg #[.int .u32 x, .int .u16 d, .float .f64 f0, .float .f64 f1, .float .f64 f2, .float .f64 f3], .agg #[.int .u32 x, .int .u16 d, .float .f64 f0, .float .f64 f1, .float .f64 f2, .float .f64 f3], undef, undef, undef, undef, undef], []⟩ rfl _ (to_samp x d f0 f1 f2 f3 _) ?_
        intro Wc2 bWc2
        have SWc2 := hSc.out _ _ Sga1 bWc2
        have hZga1 := (bWc2.block _ (Array.getElem?_eq_some_iff.1 hZga1).1).trans hZga1
        refine ⟨SWc2, ?_⟩
        refine wpAnyH_all (rs := [4]) (by kernel_rfl) (by simp) (fun i hi => ?_)
        obtain rfl := List.mem_singleton.1 hi
        refine up_fcall' rfl rfl Try.func12 (by kernel_rfl) (by kernel_rfl) rfl [.agg c, .agg #[.int .u32 x, .int .u16 d, .float .f64 f0, .float .f64 f1, .float .f64 f2, .float .f64 f3]] rfl #[true, true, true, true, true, true, false] rfl (.agg C) ⟨#[.agg c, .agg #[.int .u32 x, .int .u16 d, .float .f64 f0, .float .f64 f1, .float .f64 f2, .float .f64 f3], .pointer (some ⟨w.heap.size, 0, none⟩), .pointer (some ⟨w.heap.size + 1, 0, none⟩), .bool false, .pointer (some ⟨g1, 0, none⟩), .pointer (some ⟨ga1, 0, none⟩), .agg c, .agg c, .agg #[.int .u32 x, .int .u16 d, .float .f64 f0, .float .f64 f1, .float .f64 f2, .float .f64 f3], .agg #[.int .u32 x, .int .u16 d, .float .f64 f0, .float .f64 f1, .float .f64 f2, .float .f64 f3], .agg C, .agg c, .agg c, .agg #[.int .u32 x, .int .u16 d, .float .f64 f0, .float .f64 f1, .float .f64 f2, .float .f64 f3], .agg #[.int .u32 x, .int .u16 d, .float .f64 f0, .float .f64 f1, .float .f64 f2, .float .f64 f3], .agg C, undef, undef, undef, undef], []⟩ rfl _ (cF.out _ SWc2) ?_
        intro Wc3 bWc3
        have SWc3 := hSc.out _ _ SWc2 bWc3
        have hZga1 := (bWc3.block _ (Array.getElem?_eq_some_iff.1 hZga1).1).trans hZga1
        refine ⟨SWc3, ?_⟩
        refine wpAnyH_all (rs := [6]) (by kernel_rfl) (by simp) (fun i hi => ?_)
        obtain rfl := List.mem_singleton.1 hi
        exact up_store' rfl rfl 42 _ _ rfl _ _ rfl _ rfl _ (store_all hZga1 _ _ HZC.out HIC.out HCo.out) (hSt.out _ _ _ SWc3 hlga1) #[true, true, true, true, true, true, true] rfl ⟨#[.agg c, .agg #[.int .u32 x, .int .u16 d, .float .f64 f0, .float .f64 f1, .float .f64 f2, .float .f64 f3], .pointer (some ⟨w.heap.size, 0, none⟩), .pointer (some ⟨w.heap.size + 1, 0, none⟩), .bool false, .pointer (some ⟨g1, 0, none⟩), .pointer (some ⟨ga1, 0, none⟩), .agg c, .agg c, .agg #[.int .u32 x, .int .u16 d, .float .f64 f0, .float .f64 f1, .float .f64 f2, .float .f64 f3], .agg #[.int .u32 x, .int .u16 d, .float .f64 f0, .float .f64 f1, .float .f64 f2, .float .f64 f3], .agg C, .agg c, .agg c, .agg #[.int .u32 x, .int .u16 d, .float .f64 f0, .float .f64 f1, .float .f64 f2, .float .f64 f3], .agg #[.int .u32 x, .int .u16 d, .float .f64 f0, .float .f64 f1, .float .f64 f2, .float .f64 f3], .agg C, undef, undef, undef, undef], []⟩ rfl (wpAnyH_done (by kernel_rfl) ⟨rfl, ga1, hSt.out _ _ _ SWc3 hlga1, hlga1, row_set hZga1 _, rfl⟩ _)
    · skip
      refine up_alloc' rfl rfl 42 rfl Z (hz.out _) (hSc.out _ _ S0 ((Below.refl _ _).alloc (Nat.le_refl _) _)) #[true, false, true, false, false, true, false] rfl ⟨#[.agg c, .agg #[.int .u32 x, .int .u16 d, .float .f64 f0, .float .f64 f1, .float .f64 f2, .float .f64 f3], .pointer (some ⟨w.heap.size, 0, none⟩), .pointer (some ⟨w.heap.size + 1, 0, none⟩), .bool false, .pointer (some ⟨g1, 0, none⟩), .pointer (some ⟨W0.heap.size, 0, none⟩), .agg c, .agg c, .agg #[.int .u32 x, .int .u16 d, .float .f64 f0, .float .f64 f1, .float .f64 f2, .float .f64 f3], .agg #[.int .u32 x, .int .u16 d, .float .f64 f0, .float .f64 f1, .float .f64 f2, .float .f64 f3], .agg C, .agg c, undef, .agg #[.int .u32 x, .int .u16 d, .float .f64 f0, .float .f64 f1, .float .f64 f2, .float .f64 f3], undef, undef, undef, undef, undef, undef], []⟩ rfl ?_
      have Sga0 : S2 (W0.alloc (.cells Z 42)) := hSc.out _ _ S0 ((Below.refl _ _).alloc (Nat.le_refl _) _)
      have hZga0 : (W0.alloc (.cells Z 42)).heap[W0.heap.size]? = some (.cells Z 42 (0, 0)) := heap_alloc_last _ _
      have hlga0 : g1 + 1 ≤ W0.heap.size := hSl.out _ S0
      generalize (W0.alloc (.cells Z 42)) = Wga0 at Sga0 hZga0 ⊢
      generalize W0.heap.size = ga0 at hZga0 hlga0 ⊢
      refine wpAnyH_all (rs := [1]) (by kernel_rfl) (by simp) (fun i hi => ?_)
      obtain rfl := List.mem_singleton.1 hi
      refine up_fcall' rfl rfl Try.func10 (by kernel_rfl) (by kernel_rfl) rfl [.agg c] rfl #[true, true, true, false, false, true, false] rfl (.agg c) ⟨#[.agg c, .agg #[.int .u32 x, .int .u16 d, .float .f64 f0, .float .f64 f1, .float .f64 f2, .float .f64 f3], .pointer (some ⟨w.heap.size, 0, none⟩), .pointer (some ⟨w.heap.size + 1, 0, none⟩), .bool false, .pointer (some ⟨g1, 0, none⟩), .pointer (some ⟨ga0, 0, none⟩), .agg c, .agg c, .agg #[.int .u32 x, .int .u16 d, .float .f64 f0, .float .f64 f1, .float .f64 f2, .float .f64 f3], .agg #[.int .u32 x, .int .u16 d, .float .f64 f0, .float .f64 f1, .float .f64 f2, .float .f64 f3], .agg C, .agg c, .agg c, .agg #[.int .u32 x, .int .u16 d, .float .f64 f0, .float .f64 f1, .float .f64 f2, .float .f64 f3], undef, undef, undef, undef, undef, undef], []⟩ rfl _ (to_mem c HC.out _) ?_
      intro Wc1 bWc1
      have SWc1 := hSc.out _ _ Sga0 bWc1
      have hZga0 := (bWc1.block _ (Array.getElem?_eq_some_iff.1 hZga0).1).trans hZga0
      refine ⟨SWc1, ?_⟩
      refine wpAnyH_all (rs := [3]) (by kernel_rfl) (by simp) (fun i hi => ?_)
      obtain rfl := List.mem_singleton.1 hi
      refine up_fcall' rfl rfl Try.func11 (by kernel_rfl) (by kernel_rfl) rfl [.agg #[.int .u32 x, .int .u16 d, .float .f64 f0, .float .f64 f1, .float .f64 f2, .float .f64 f3]] rfl #[true, true, true, true, false, true, false] rfl (.agg #[.int .u32 x, .int .u16 d, .float .f64 f0, .float .f64 f1, .float .f64 f2, .float .f64 f3]) ⟨#[.agg c, .agg #[.int .u32 x, .int .u16 d, .float .f64 f0, .float .f64 f1, .float .f64 f2, .float .f64 f3], .pointer (some ⟨w.heap.size, 0, none⟩), .pointer (some ⟨w.heap.size + 1, 0, none⟩), .bool false, .pointer (some ⟨g1, 0, none⟩), .pointer (some ⟨ga0, 0, none⟩), .agg c, .agg c, .agg #[.int .u32 x, .int .u16 d, .float .f64 f0, .float .f64 f1, .float .f64 f2, .float .f64 f3], .agg #[.int .u32 x, .int .u16 d, .float .f64 f0, .float .f64 f1, .float .f64 f2, .float .f64 f3], .agg C, .agg c, .agg c, .agg #[.int .u32 x, .int .u16 d, .float .f64 f0, .float .f64 f1, .float .f64 f2, .float .f64 f3], .agg #[.int .u32 x, .int .u16 d, .float .f64 f0, .float .f64 f1, .float .f64 f2, .float .f64 f3], undef, undef, undef, undef, undef], []⟩ rfl _ (to_samp x d f0 f1 f2 f3 _) ?_
      intro Wc2 bWc2
      have SWc2 := hSc.out _ _ SWc1 bWc2
      have hZga0 := (bWc2.block _ (Array.getElem?_eq_some_iff.1 hZga0).1).trans hZga0
      refine ⟨SWc2, ?_⟩
      refine wpAnyH_all (rs := [4]) (by kernel_rfl) (by simp) (fun i hi => ?_)
      obtain rfl := List.mem_singleton.1 hi
      refine up_fcall' rfl rfl Try.func12 (by kernel_rfl) (by kernel_rfl) rfl [.agg c, .agg #[.int .u32 x, .int .u16 d, .float .f64 f0, .float .f64 f1, .float .f64 f2, .float .f64 f3]] rfl #[true, true, true, true, true, true, false] rfl (.agg C) ⟨#[.agg c, .agg #[.int .u32 x, .int .u16 d, .float .f64 f0, .float .f64 f1, .float .f64 f2, .float .f64 f3], .pointer (some ⟨w.heap.size, 0, none⟩), .pointer (some ⟨w.heap.size + 1, 0, none⟩), .bool false, .pointer (some ⟨g1, 0, none⟩), .pointer (some ⟨ga0, 0, none⟩), .agg c, .agg c, .agg #[.int .u32 x, .int .u16 d, .float .f64 f0, .float .f64 f1, .float .f64 f2, .float .f64 f3], .agg #[.int .u32 x, .int .u16 d, .float .f64 f0, .float .f64 f1, .float .f64 f2, .float .f64 f3], .agg C, .agg c, .agg c, .agg #[.int .u32 x, .int .u16 d, .float .f64 f0, .float .f64 f1, .float .f64 f2, .float .f64 f3], .agg #[.int .u32 x, .int .u16 d, .float .f64 f0, .float .f64 f1, .float .f64 f2, .float .f64 f3], .agg C, undef, undef, undef, undef], []⟩ rfl _ (cF.out _ SWc2) ?_
      intro Wc3 bWc3
      have SWc3 := hSc.out _ _ SWc2 bWc3
      have hZga0 := (bWc3.block _ (Array.getElem?_eq_some_iff.1 hZga0).1).trans hZga0
      refine ⟨SWc3, ?_⟩
      refine wpAnyH_all (rs := [6]) (by kernel_rfl) (by simp) (fun i hi => ?_)
      obtain rfl := List.mem_singleton.1 hi
      exact up_store' rfl rfl 42 _ _ rfl _ _ rfl _ rfl _ (store_all hZga0 _ _ HZC.out HIC.out HCo.out) (hSt.out _ _ _ SWc3 hlga0) #[true, true, true, true, true, true, true] rfl ⟨#[.agg c, .agg #[.int .u32 x, .int .u16 d, .float .f64 f0, .float .f64 f1, .float .f64 f2, .float .f64 f3], .pointer (some ⟨w.heap.size, 0, none⟩), .pointer (some ⟨w.heap.size + 1, 0, none⟩), .bool false, .pointer (some ⟨g1, 0, none⟩), .pointer (some ⟨ga0, 0, none⟩), .agg c, .agg c, .agg #[.int .u32 x, .int .u16 d, .float .f64 f0, .float .f64 f1, .float .f64 f2, .float .f64 f3], .agg #[.int .u32 x, .int .u16 d, .float .f64 f0, .float .f64 f1, .float .f64 f2, .float .f64 f3], .agg C, .agg c, .agg c, .agg #[.int .u32 x, .int .u16 d, .float .f64 f0, .float .f64 f1, .float .f64 f2, .float .f64 f3], .agg #[.int .u32 x, .int .u16 d, .float .f64 f0, .float .f64 f1, .float .f64 f2, .float .f64 f3], .agg C, undef, undef, undef, undef], []⟩ rfl (wpAnyH_done (by kernel_rfl) ⟨rfl, ga0, hSt.out _ _ _ SWc3 hlga0, hlga0, row_set hZga0 _, rfl⟩ _)
  rintro a2 w2 ⟨g2, h2, hg2, hG2, rfl⟩
  obtain ⟨hA, hB, hb, hG, hg1⟩ := (HS2.out w2).1 h2
  clear hSc hSt hSl hL1 hL2 cF HS2 h2 hA hB
  have HLa : Hid ((loadVar 42 ⟨g2, 0, none⟩).run Try.prog w2 = .ok (.agg C) w2) := load_all hG2 _ _ Try.underlying42 rfl HIC.out
  have HLb : Hid ((loadVar 42 ⟨g1, 0, none⟩).run Try.prog w2 = .ok (.agg C) w2) := load_all hG _ _ Try.underlying42 rfl HIC.out
  go_wp2_with (first | (refine wpL_load rfl 42 _ rfl _ _ rfl _ HLa.out ?_) | (refine wpL_load rfl 42 _ rfl _ _ rfl _ HLb.out ?_) | fail)
  refine (eq_mem C C (MSame.refl HCM.out) _).mono ?_
  rintro e w3 ⟨rfl, g3⟩
  have b3 := hb.trans (g3.mono hb.size)
  go_wp2
  go_ret
  exact ⟨rfl, b3⟩
end Go.Proofs.Ytlpoplnghfohmaa
