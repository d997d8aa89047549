/- A memory that is drawn (l5Draw). -/
import Derived.Test.YtjnddfpieogpiaaGreatDoorMbM
import Derived.Test.YtjnddfpieogpiaaGreatDoorDj
import Derived.Test.YtjnddfpieogpiaaGreatDoorRl
namespace Go.Proofs.YtjnddfpieogpiaaGreatDoor.Rr
open Go.RowKit
set_option linter.unusedVariables false

theorem oa_set {c : Array Value} (hc : MemOk c) (i : Nat) {v : Value} (hv : CellIs (kd i) v) : MemOk (c.setIfInBounds i v) :=
  ⟨by simpa using hc.size, fun j u hu => by
    by_cases hji : i = j
    · subst hji
      have hl : i < c.size := by have := (Array.getElem?_eq_some_iff.1 hu).1; simpa using this
      rw [Array.getElem?_setIfInBounds_self_of_lt hl] at hu
      exact Option.some.inj hu ▸ hv
    · rw [Array.getElem?_setIfInBounds_ne hji] at hu
      exact hc.cell j u hu⟩
theorem is_bool (b : Bool) {k : Nat} (h : k = 1) : CellIs k (.bool b) := by subst h; simp [CellIs, Value.oneCell']
theorem is_u16 {n : Int} (h : 0 ≤ n ∧ n < 65536) {k : Nat} (hk : k = 16) : CellIs k (.int .u16 n) := by subst hk; simp [CellIs, Value.oneCell']; exact h
theorem is_u32 {n : Int} (h : 0 ≤ n ∧ n < 4294967296) {k : Nat} (hk : k = 32) : CellIs k (.int .u32 n) := by subst hk; simp [CellIs, Value.oneCell']; exact h
theorem is_u64 {n : Int} (h : 0 ≤ n ∧ n < 18446744073709551616) {k : Nat} (hk : k = 64) : CellIs k (.int .u64 n) := by subst hk; simp [CellIs, Value.oneCell']; exact h
theorem is_i16 {n : Int} (h : -32768 ≤ n ∧ n < 32768) {k : Nat} (hk : k = 116) : CellIs k (.int .i16 n) := by subst hk; simp [CellIs, Value.oneCell']; exact h
theorem is_f64 {n : Nat} (h : n < 18446744073709551616) {k : Nat} (hk : k = 99) : CellIs k (.float .f64 n) := by subst hk; simp [CellIs, Value.oneCell', FloatKind.has]; exact h
theorem memOk_zero : MemOk memZero := ⟨memZero_size, fun i v hv => by
  have hi : i < 136 := by have := (Array.getElem?_eq_some_iff.1 hv).1; rw [memZero_size] at this; exact this
  rw [memZero_get hi] at hv
  obtain rfl := Option.some.inj hv
  have : (List.range 136).all (fun i => kd i == 1 || kd i == 16 || kd i == 32 || kd i == 64 || kd i == 116 || kd i == 99) = true := by decide
  have := List.all_eq_true.1 this i (by simpa using hi)
  simp at this
  rcases this with ((((h | h) | h) | h) | h) | h <;> rw [h] <;> simp [zc, CellIs, Value.oneCell', FloatKind.has]⟩

/-- What stands while a memory is drawn: the reader, and the row that is filled. -/
structure Dr (B R p g : Nat) (w W : World) (C Z : Array Value) : Prop where
  rd : Reader B W R p
  gb : w.grownBy W (some R)
  row : W.heap[g + 1]? = some (.cells C 37 (0, 0))
  out : W.heap[g]? = some (.cells Z 37 (0, 0))
  ok : MemOk C
  hg : w.heap.size = g
  hR : R < B ∧ B ≤ g
theorem Dr.lt {B R p g : Nat} {w W : World} {C Z : Array Value} (h : Dr B R p g w W C Z) : g + 1 < W.heap.size := (Array.getElem?_eq_some_iff.1 h.row).1
theorem Dr.step {B R p q g : Nat} {w W W1 : World} {C Z : Array Value} (h : Dr B R p g w W C Z) (hr : Reader B W1 R q) (k : W.grownBy W1 (some R)) : Dr B R q g w W1 C Z :=
  have hl := h.lt
  have h1 := h.hR
  ⟨hr, gb_pick h.gb k, (k.block _ (by omega) (by simp; omega)).trans h.row, (k.block _ (by omega) (by simp; omega)).trans h.out, h.ok, h.hg, h.hR⟩
theorem Dr.alloc {B R p g : Nat} {w W : World} {C Z : Array Value} (h : Dr B R p g w W C Z) (o : Obj) : Dr B R p g w (W.alloc o) C Z :=
  have hl := h.lt
  ⟨h.rd.alloc o, gb_alloc h.gb o, (heap_alloc_old W o (by omega)).trans h.row, (heap_alloc_old W o (by omega)).trans h.out, h.ok, h.hg, h.hR⟩
theorem Dr.put {B R p g : Nat} {w W : World} {C Z : Array Value} (h : Dr B R p g w W C Z) (i : Nat) (v : Value) (hv : CellIs (kd i) v) : Dr B R p g w (W.setCell ⟨g + 1, i, none⟩ v) (C.setIfInBounds i v) Z :=
  have h1 := h.hR
  have h2 := h.hg
  ⟨h.rd.set _ _ _ (by omega), gb_put h.gb (by omega), row_put h.row _ _, row_other h.out _ _ (by omega) _, oa_set h.ok i hv, h.hg, h.hR⟩
theorem Dr.cell {B R p g : Nat} {w W : World} {C Z : Array Value} (h : Dr B R p g w W C Z) {i : Nat} (hi : i < 136) : ∃ v, W.cell? ⟨g + 1, i, none⟩ = some v := by
  rw [cell_of_row _ _ _ _ _ _ h.row]
  exact ⟨_, Array.getElem?_eq_getElem (by rw [h.ok.size]; exact hi)⟩
theorem Dr.frozen {B R p g : Nat} {w W : World} {C Z : Array Value} (h : Dr B R p g w W C Z) (i : Nat) : W.frozen? ⟨g + 1, i, none⟩ = false := by simp [World.frozen?, h.row]
theorem gb_row (W : World) (g : Nat) (C : Array Value) : W.grownBy (W.setRow g C) (some g) := ⟨rfl, rfl, rfl, by simp [World.setRow], fun k hk hne => setRow_other W g k C (by simpa using fun e => hne (by rw [e]))⟩
/-- A drawn memory. -/
def IsMem (e : Ending) : Prop := ∃ c, MemOk c ∧ e = .returned (.agg c)


set_option maxRecDepth 10000 in
set_option maxHeartbeats 4000000 in
theorem draw5_r (B R p : Nat) (w : World) (h : Reader B w R p) (hp : p < 700000) :
    Calls Tryz.prog 21 #[.pointer (some ⟨R, 0, none⟩)] w fun e w' => IsMem e ∧ (∃ q, q ≤ p + 800 ∧ Reader B w' R q) ∧ w.grownBy w' (some R) := by
  have hRB := h.1
  have hBw := h.2.1
  have hz := zero_mem.1
  obtain ⟨Z, HZ⟩ : ∃ Z, Hid (Z = memZero) := ⟨_, rfl⟩
  rw [← HZ.out] at hz
  have HZs : Hid (Z.size = 136) := (by rw [HZ.out, memZero_size] : Z.size = 136)
  have HZM : Hid (MemOk Z) := (by rw [HZ.out]; exact memOk_zero : MemOk Z)
  have HZI : Hid ((Tryz.prog.info? 37).map (·.size) = some Z.size) := (by rw [HZs.out]; exact zero_mem.2 : (Tryz.prog.info? 37).map (·.size) = some Z.size)
  obtain ⟨u, HU⟩ : ∃ u, Hid (u = ((w.alloc (.cells Z 37)).alloc (.cells Z 37)).setRow (w.heap.size + 1) Z) := ⟨_, rfl⟩
  have HST : Hid ((storeVar 37 ⟨w.heap.size + 1, 0, none⟩ (.agg Z)).run Tryz.prog ((w.alloc (.cells Z 37)).alloc (.cells Z 37)) = .ok () u) := by
    rw [HU.out]; exact store_all (rows2 w _ _).2 _ _ rfl HZI.out HZM.out.one
  have D0 : Dr B R p w.heap.size w u Z Z := by
    rw [HU.out]
    have e : ((w.alloc (.cells Z 37)).alloc (.cells Z 37)).setRow (w.heap.size + 1) Z = (w.alloc (.cells Z 37)).alloc (.cells Z 37) := setRow_self _ _ _ _ _ (rows2 w _ _).2
    rw [e]
    exact ⟨(h.alloc _).alloc _, gb_alloc (gb_alloc (gb_refl _ _) _) _, (rows2 w _ _).2, (rows2 w _ _).1, HZM.out, rfl, hRB, hBw⟩
  clear HU
  go_enter Tryz.func21, Tryz.ntmps21
  go_wp2_with (first | (refine wpL_store rfl 37 _ _ rfl _ _ rfl _ rfl _ HST.out ?_) | fail)
  clear hz HST
  refine (pick_r B R _ 16 _ D0.rd (by omega) (by omega) (by omega)).mono ?_
  rintro e w0 ⟨r0, hr0, rfl, hd0, gr0⟩
  have D1 := D0.step hd0 gr0
  clear D0 hd0 gr0 h
  by_cases hr : r0 = 0
  · subst hr
    have HLD : Hid ((loadVar 37 ⟨w.heap.size + 1, 0, none⟩).run Tryz.prog w0 = .ok (.agg Z) w0) := load_all D1.row _ _ Tryz.underlying37 rfl (by rw [D1.ok.size]; exact zero_mem.2)
    have HSD : Hid ((storeVar 37 ⟨w.heap.size, 0, none⟩ (.agg Z)).run Tryz.prog w0 = .ok () (w0.setRow w.heap.size Z)) := store_all D1.out _ _ (HZs.out.trans D1.ok.size.symm) (by rw [D1.ok.size]; exact zero_mem.2) D1.ok.one
    have HI : Hid ((Tryz.prog.info? 37).map (·.size) = some (Z).size) := by rw [D1.ok.size]; exact zero_mem.2
    have HO : Hid (w0.heap[w.heap.size]? = some (.cells Z 37 (0, 0))) := D1.out
    have HM : Hid (IsMem (.returned (.agg Z))) := ⟨_, D1.ok, rfl⟩
    have HG : Hid (w.grownBy (w0.setRow w.heap.size Z) (some R)) := gb_then D1.gb (gb_row _ _ _) (fun j hj => .inl (by cases hj; exact Nat.le_refl _))
    have HRD : Hid (∃ q, q ≤ p + 800 ∧ Reader B (w0.setRow w.heap.size Z) R q) := ⟨_, by omega, D1.rd.kept (gb_row _ _ _) (fun j hj => by cases hj; exact hBw)⟩
    clear D1
    go_wp2_with (first | (refine wpL_load rfl 37 _ rfl _ _ rfl _ HLD.out ?_) | (refine wpL_store rfl 37 _ _ rfl _ _ rfl _ rfl _ HSD.out ?_) | exact ret_row rfl rfl (row_set HO.out _) Tryz.underlying37 rfl HI.out rfl ⟨HM.out, HRD.out, HG.out⟩ | fail)
  · have hr' : ((r0 : Int) == 0) = false := by simp [hr]
    go_wp2_with fail
    refine (word_r B R _ _ D1.rd (by omega)).mono ?_
    rintro e w10 ⟨v10, rfl, ⟨a10, b10⟩, ⟨q10, hq10, hr10⟩, gr10⟩
    have D10 := D1.step hr10 gr10
    obtain ⟨x10, c10⟩ := D10.cell (i := 0) (by omega)
    have z10 := D10.frozen 0
    have P10 := D10.put 0 (.int .u32 (v10 % 4294967296)) (is_u32 (by omega) rfl)
    clear D1 D10 hr10 gr10
    go_wp2_with fail
    refine (word_r B R _ _ P10.rd (by omega)).mono ?_
    rintro e w11 ⟨v11, rfl, ⟨a11, b11⟩, ⟨q11, hq11, hr11⟩, gr11⟩
    have D11 := P10.step hr11 gr11
    obtain ⟨x11, c11⟩ := D11.cell (i := 1) (by omega)
    have z11 := D11.frozen 1
    have P11 := D11.put 1 (.int .u32 (v11 % 4294967296)) (is_u32 (by omega) rfl)
    clear P10 D11 hr11 gr11
    go_wp2_with fail
    refine (word_r B R _ _ P11.rd (by omega)).mono ?_
    rintro e w12 ⟨v12, rfl, ⟨a12, b12⟩, ⟨q12, hq12, hr12⟩, gr12⟩
    have D12 := P11.step hr12 gr12
    obtain ⟨x12, c12⟩ := D12.cell (i := 2) (by omega)
    have z12 := D12.frozen 2
    have P12 := D12.put 2 (.int .u64 v12) (is_u64 (by omega) rfl)
    clear P11 D12 hr12 gr12
    go_wp2_with fail
    refine (word_r B R _ _ P12.rd (by omega)).mono ?_
    rintro e w13 ⟨v13, rfl, ⟨a13, b13⟩, ⟨q13, hq13, hr13⟩, gr13⟩
    have D13 := P12.step hr13 gr13
    obtain ⟨x13, c13⟩ := D13.cell (i := 3) (by omega)
    have z13 := D13.frozen 3
    have P13 := D13.put 3 (.int .u16 (v13 % 65536)) (is_u16 (by omega) rfl)
    clear P12 D13 hr13 gr13
    go_wp2_with fail
    refine (word_r B R _ _ P13.rd (by omega)).mono ?_
    rintro e w14 ⟨v14, rfl, ⟨a14, b14⟩, ⟨q14, hq14, hr14⟩, gr14⟩
    have D14 := P13.step hr14 gr14
    obtain ⟨x14, c14⟩ := D14.cell (i := 4) (by omega)
    have z14 := D14.frozen 4
    have P14 := D14.put 4 (.int .u32 (v14 % 4294967296)) (is_u32 (by omega) rfl)
    clear P13 D14 hr14 gr14
    go_wp2
    go_loopg [4, 5] 4 (fun g i k wr => ∃ (n q : Nat) (C : Array Value), n + g = 4 ∧ i = .int .i64 n ∧ q ≤ p + 50 + 60 * n ∧ Dr B R q w.heap.size w wr C Z)
    case atStart => exact ⟨0, _, _, by omega, rfl, by omega, P14⟩
    case round =>
      clear P14 c10 z10 c11 z11 c12 z12 c13 z13 c14 z14 hr hr' hr0
      obtain ⟨n, q, C, hn, rfl, hq, D⟩ := hrel
      by_cases hlt : n < 4
      · have i1 : (n : Int) < 4 := by omega
        go_wp2_with fail
        refine (pick_r B R _ 4 _ D.rd (by omega) (by omega) (by omega)).mono ?_
        rintro e w1 ⟨r1, hr1, rfl, hd1, gr1⟩
        have D1 := D.step hd1 gr1
        clear D hd1 gr1
        by_cases h3 : n = 3
        · have e3 : ((n : Int) == 3) = true := by rw [h3]; rfl
          clear h3
          go_wp2_with fail
          refine (pick_r B R _ 16 _ D1.rd (by omega) (by omega) (by omega)).mono ?_
          rintro e w2 ⟨r2, hr2, rfl, hd2, gr2⟩
          have D2 := D1.step hd2 gr2
          clear D1 hd2 gr2
          have k0 : (0 : Int) ≤ (r2 : Int) := by omega
          have k1 : (r2 : Int) < 16 := by omega
          have k2 : r2 < 16 := by omega
          go_wp2_with fail
          refine (pick_r B R _ 2 _ D2.rd (by omega) (by omega) (by omega)).mono ?_
          rintro e w21 ⟨r21, hr21, rfl, hd21, gr21⟩
          have D21 := D2.step hd21 gr21
          clear D2 hd21 gr21
          go_wp2_with fail
          refine (num_r B R _ w21.heap.size [0, 1, 5, 99, 32767, 32768, 65535] 7 _ (D21.rd.alloc _) (by decide) (by decide) (by omega) (by have := D21.lt; have := D21.hR; omega) (by exact cells_row w21 [0, 1, 5, 99, 32767, 32768, 65535] 3)).mono ?_
          rintro e w22 ⟨v22, hv22, rfl, hd22, gr22⟩
          obtain ⟨a22, b22⟩ : 0 ≤ v22 ∧ v22 < 65536 := by simp at hv22; omega
          have D22 := (D21.alloc _).step hd22 gr22
          clear D21 hd22 gr22 hv22
          obtain ⟨x220, c220⟩ := D22.cell (i := 5 + r2 * 2) (by omega)
          have z220 := D22.frozen (5 + r2 * 2)
          obtain ⟨x221, c221⟩ := D22.cell (i := 5 + r2 * 2 + 1) (by omega)
          have z221 := D22.frozen (5 + r2 * 2 + 1)
          have P22 := ((D22.put (5 + r2 * 2) (.bool ((r21 : Int) == 1)) (is_bool _ (by rw [Nat.mul_comm]; exact (kd_t k2).1))).put (5 + r2 * 2 + 1) (.int .u16 v22) (is_u16 ⟨a22, b22⟩ (by rw [Nat.mul_comm]; exact (kd_t k2).2)))
          clear D22
          go_wp2_with fail
          refine (pick_r B R _ 2 _ P22.rd (by omega) (by omega) (by omega)).mono ?_
          rintro e w23 ⟨r23, hr23, rfl, hd23, gr23⟩
          have D23 := P22.step hd23 gr23
          clear P22 hd23 gr23
          go_wp2_with fail
          refine (pick_r B R _ 2 _ D23.rd (by omega) (by omega) (by omega)).mono ?_
          rintro e w24 ⟨r24, hr24, rfl, hd24, gr24⟩
          have D24 := D23.step hd24 gr24
          clear D23 hd24 gr24
          go_wp2_with fail
          refine (num_r B R _ w24.heap.size [0, 1, 4, 9, 32767, 32768, 65535] 7 _ (D24.rd.alloc _) (by decide) (by decide) (by omega) (by have := D24.lt; have := D24.hR; omega) (by exact cells_row w24 [0, 1, 4, 9, 32767, 32768, 65535] 3)).mono ?_
          rintro e w25 ⟨v25, hv25, rfl, hd25, gr25⟩
          obtain ⟨a25, b25⟩ : 0 ≤ v25 ∧ v25 < 65536 := by simp at hv25; omega
          have D25 := (D24.alloc _).step hd25 gr25
          clear D24 hd25 gr25 hv25
          obtain ⟨x250, c250⟩ := D25.cell (i := 37 + r2 * 3) (by omega)
          have z250 := D25.frozen (37 + r2 * 3)
          obtain ⟨x251, c251⟩ := D25.cell (i := 37 + r2 * 3 + 1) (by omega)
          have z251 := D25.frozen (37 + r2 * 3 + 1)
          obtain ⟨x252, c252⟩ := D25.cell (i := 37 + r2 * 3 + 2) (by omega)
          have z252 := D25.frozen (37 + r2 * 3 + 2)
          have P25 := (((D25.put (37 + r2 * 3) (.bool ((r23 : Int) == 1)) (is_bool _ (by rw [Nat.mul_comm]; exact (kd_c k2).1))).put (37 + r2 * 3 + 1) (.bool ((r24 : Int) == 1)) (is_bool _ (by rw [Nat.mul_comm]; exact (kd_c k2).2.1))).put (37 + r2 * 3 + 2) (.int .u16 v25) (is_u16 ⟨a25, b25⟩ (by rw [Nat.mul_comm]; exact (kd_c k2).2.2)))
          clear D25
          go_wp2_with fail
          refine (whole_r B R _ _ P25.rd (by omega)).mono ?_
          rintro e w26 ⟨v26, rfl, hv26, ⟨q26, hq26, hd26⟩, gr26⟩
          have D26 := P25.step hd26 gr26
          clear P25 hd26 gr26
          obtain ⟨x260, c260⟩ := D26.cell (i := 85 + r2) (by omega)
          have z260 := D26.frozen (85 + r2)
          have P26 := (D26.put (85 + r2) (.int .i16 v26) (is_i16 (by omega) (kd_d (by omega))))
          clear D26
          go_wp2_with fail
          refine (real_r B R _ _ P26.rd (by omega)).mono ?_
          rintro e w27 ⟨v27, rfl, hv27, ⟨q27, hq27, hd27⟩, gr27⟩
          have D27 := P26.step hd27 gr27
          clear P26 hd27 gr27
          obtain ⟨x270, c270⟩ := D27.cell (i := 117 + r2) (by omega)
          have z270 := D27.frozen (117 + r2)
          have st27 : (Go.store ⟨w.heap.size + 1, 117 + r2, none⟩ (.float .f64 v27)).run Tryz.prog w27 = .ok () (w27.setCell ⟨w.heap.size + 1, 117 + r2, none⟩ (.float .f64 v27)) := by rw [run_store _ _ _ _ _ rfl, c270]; simp [z270]
          have P27 := (D27.put (117 + r2) (.float .f64 v27) (is_f64 hv27 (kd_r (by omega))))
          clear D27
          go_wp2
          go_roundg (gk - 1)
          case measure => omega
          case rel => exact ⟨n + 1, _, _, by omega, by simp, by omega, P27⟩
        · have e3 : ((n : Int) == 3) = false := by simp; omega
          clear h3
          have k0 : (0 : Int) ≤ (r1 : Int) := by omega
          have k1 : (r1 : Int) < 16 := by omega
          have k2 : r1 < 16 := by omega
          go_wp2_with fail
          refine (pick_r B R _ 2 _ D1.rd (by omega) (by omega) (by omega)).mono ?_
          rintro e w21 ⟨r21, hr21, rfl, hd21, gr21⟩
          have D21 := D1.step hd21 gr21
          clear D1 hd21 gr21
          go_wp2_with fail
          refine (num_r B R _ w21.heap.size [0, 1, 5, 99, 32767, 32768, 65535] 7 _ (D21.rd.alloc _) (by decide) (by decide) (by omega) (by have := D21.lt; have := D21.hR; omega) (by exact cells_row w21 [0, 1, 5, 99, 32767, 32768, 65535] 3)).mono ?_
          rintro e w22 ⟨v22, hv22, rfl, hd22, gr22⟩
          obtain ⟨a22, b22⟩ : 0 ≤ v22 ∧ v22 < 65536 := by simp at hv22; omega
          have D22 := (D21.alloc _).step hd22 gr22
          clear D21 hd22 gr22 hv22
          obtain ⟨x220, c220⟩ := D22.cell (i := 5 + r1 * 2) (by omega)
          have z220 := D22.frozen (5 + r1 * 2)
          obtain ⟨x221, c221⟩ := D22.cell (i := 5 + r1 * 2 + 1) (by omega)
          have z221 := D22.frozen (5 + r1 * 2 + 1)
          have P22 := ((D22.put (5 + r1 * 2) (.bool ((r21 : Int) == 1)) (is_bool _ (by rw [Nat.mul_comm]; exact (kd_t k2).1))).put (5 + r1 * 2 + 1) (.int .u16 v22) (is_u16 ⟨a22, b22⟩ (by rw [Nat.mul_comm]; exact (kd_t k2).2)))
          clear D22
          go_wp2_with fail
          refine (pick_r B R _ 2 _ P22.rd (by omega) (by omega) (by omega)).mono ?_
          rintro e w23 ⟨r23, hr23, rfl, hd23, gr23⟩
          have D23 := P22.step hd23 gr23
          clear P22 hd23 gr23
          go_wp2_with fail
          refine (pick_r B R _ 2 _ D23.rd (by omega) (by omega) (by omega)).mono ?_
          rintro e w24 ⟨r24, hr24, rfl, hd24, gr24⟩
          have D24 := D23.step hd24 gr24
          clear D23 hd24 gr24
          go_wp2_with fail
          refine (num_r B R _ w24.heap.size [0, 1, 4, 9, 32767, 32768, 65535] 7 _ (D24.rd.alloc _) (by decide) (by decide) (by omega) (by have := D24.lt; have := D24.hR; omega) (by exact cells_row w24 [0, 1, 4, 9, 32767, 32768, 65535] 3)).mono ?_
          rintro e w25 ⟨v25, hv25, rfl, hd25, gr25⟩
          obtain ⟨a25, b25⟩ : 0 ≤ v25 ∧ v25 < 65536 := by simp at hv25; omega
          have D25 := (D24.alloc _).step hd25 gr25
          clear D24 hd25 gr25 hv25
          obtain ⟨x250, c250⟩ := D25.cell (i := 37 + r1 * 3) (by omega)
          have z250 := D25.frozen (37 + r1 * 3)
          obtain ⟨x251, c251⟩ := D25.cell (i := 37 + r1 * 3 + 1) (by omega)
          have z251 := D25.frozen (37 + r1 * 3 + 1)
          obtain ⟨x252, c252⟩ := D25.cell (i := 37 + r1 * 3 + 2) (by omega)
          have z252 := D25.frozen (37 + r1 * 3 + 2)
          have P25 := (((D25.put (37 + r1 * 3) (.bool ((r23 : Int) == 1)) (is_bool _ (by rw [Nat.mul_comm]; exact (kd_c k2).1))).put (37 + r1 * 3 + 1) (.bool ((r24 : Int) == 1)) (is_bool _ (by rw [Nat.mul_comm]; exact (kd_c k2).2.1))).put (37 + r1 * 3 + 2) (.int .u16 v25) (is_u16 ⟨a25, b25⟩ (by rw [Nat.mul_comm]; exact (kd_c k2).2.2)))
          clear D25
          go_wp2_with fail
          refine (whole_r B R _ _ P25.rd (by omega)).mono ?_
          rintro e w26 ⟨v26, rfl, hv26, ⟨q26, hq26, hd26⟩, gr26⟩
          have D26 := P25.step hd26 gr26
          clear P25 hd26 gr26
          obtain ⟨x260, c260⟩ := D26.cell (i := 85 + r1) (by omega)
          have z260 := D26.frozen (85 + r1)
          have P26 := (D26.put (85 + r1) (.int .i16 v26) (is_i16 (by omega) (kd_d (by omega))))
          clear D26
          go_wp2_with fail
          refine (real_r B R _ _ P26.rd (by omega)).mono ?_
          rintro e w27 ⟨v27, rfl, hv27, ⟨q27, hq27, hd27⟩, gr27⟩
          have D27 := P26.step hd27 gr27
          clear P26 hd27 gr27
          obtain ⟨x270, c270⟩ := D27.cell (i := 117 + r1) (by omega)
          have z270 := D27.frozen (117 + r1)
          have st27 : (Go.store ⟨w.heap.size + 1, 117 + r1, none⟩ (.float .f64 v27)).run Tryz.prog w27 = .ok () (w27.setCell ⟨w.heap.size + 1, 117 + r1, none⟩ (.float .f64 v27)) := by rw [run_store _ _ _ _ _ rfl, c270]; simp [z270]
          have P27 := (D27.put (117 + r1) (.float .f64 v27) (is_f64 hv27 (kd_r (by omega))))
          clear D27
          go_wp2
          go_roundg (gk - 1)
          case measure => omega
          case rel => exact ⟨n + 1, _, _, by omega, by simp, by omega, P27⟩
      · have i1 : ¬ ((n : Int) < 4) := by omega
        go_wp2_with fail
        refine (pick_r B R _ 32 _ D.rd (by omega) (by omega) (by omega)).mono ?_
        rintro e w31 ⟨r31, hr31, rfl, hd31, gr31⟩
        have D31 := D.step hd31 gr31
        clear D hd31 gr31
        go_wp2_with fail
        refine (whole_r B R _ _ D31.rd (by omega)).mono ?_
        rintro e w32 ⟨v32, rfl, hv32, ⟨q32, hq32, hd32⟩, gr32⟩
        have D32 := D31.step hd32 gr32
        clear D31 hd32 gr32
        have k0 : (0 : Int) ≤ (r31 : Int) := by omega
        obtain ⟨x320, c320⟩ := D32.cell (i := 85 + r31) (by omega)
        have z320 := D32.frozen (85 + r31)
        have P32 := (D32.put (85 + r31) (.int .i16 v32) (is_i16 (by omega) (kd_d (by omega))))
        clear D32
        go_wp2_with fail
        refine (pick_r B R _ 16 _ P32.rd (by omega) (by omega) (by omega)).mono ?_
        rintro e w33 ⟨r33, hr33, rfl, hd33, gr33⟩
        have D33 := P32.step hd33 gr33
        clear P32 hd33 gr33
        go_wp2_with fail
        refine (real_r B R _ _ D33.rd (by omega)).mono ?_
        rintro e w34 ⟨v34, rfl, hv34, ⟨q34, hq34, hd34⟩, gr34⟩
        have D34 := D33.step hd34 gr34
        clear D33 hd34 gr34
        have k1 : (0 : Int) ≤ (r33 : Int) := by omega
        have l34 := D34.lt
        have l35 := D34.hR
        obtain ⟨x340, c340⟩ := D34.cell (i := 117 + r33) (by omega)
        have z340 := D34.frozen (117 + r33)
        have st34 : (Go.store ⟨w.heap.size + 1, 117 + r33, none⟩ (.float .f64 v34)).run Tryz.prog w34 = .ok () (w34.setCell ⟨w.heap.size + 1, 117 + r33, none⟩ (.float .f64 v34)) := by rw [run_store _ _ _ _ _ rfl, c340]; simp [z340]
        have P34 := (D34.put (117 + r33) (.float .f64 v34) (is_f64 hv34 (kd_r (by omega))))
        clear D34
        go_wp2_with fail
        have h9 := cells_row (w34.setCell ⟨w.heap.size + 1, 117 + r33, none⟩ (.float .f64 v34)) [0, 499, 500, 999, 1000, 4294967295, 4294967000, 77] 3
        rw [show (w34.setCell ⟨w.heap.size + 1, 117 + r33, none⟩ (.float .f64 v34)).heap.size = w34.heap.size from by simp] at h9
        refine (num_r B R _ w34.heap.size [0, 499, 500, 999, 1000, 4294967295, 4294967000, 77] 8 _ (P34.rd.alloc _) (by decide) (by decide) (by omega) (by omega) h9).mono ?_
        clear h9
        rintro e w35 ⟨v35, hv35, rfl, hd35, gr35⟩
        obtain ⟨a35, b35⟩ : 0 ≤ v35 ∧ v35 < 4294967296 := by simp at hv35; omega
        have D35 := (P34.alloc _).step hd35 gr35
        clear P34 hd35 gr35 hv35
        obtain ⟨x350, c350⟩ := D35.cell (i := 133) (by omega)
        have z350 := D35.frozen (133)
        have P35 := (D35.put (133) (.int .u32 v35) (is_u32 ⟨a35, b35⟩ rfl))
        clear D35
        go_wp2_with fail
        refine (pick_r B R _ 3 _ P35.rd (by omega) (by omega) (by omega)).mono ?_
        rintro e w36 ⟨r36, hr36, rfl, hd36, gr36⟩
        have D36 := P35.step hd36 gr36
        clear P35 hd36 gr36
        obtain ⟨x360, c360⟩ := D36.cell (i := 134) (by omega)
        have z360 := D36.frozen (134)
        have P36 := (D36.put (134) (.bool (decide (0 < r36))) (is_bool _ rfl))
        clear D36
        go_wp2_with fail
        refine (pick_r B R _ 4 _ P36.rd (by omega) (by omega) (by omega)).mono ?_
        rintro e w37 ⟨r37, hr37, rfl, hd37, gr37⟩
        have D37 := P36.step hd37 gr37
        clear P36 hd37 gr37
        obtain ⟨x370, c370⟩ := D37.cell (i := 135) (by omega)
        have z370 := D37.frozen (135)
        have P37 := (D37.put (135) (.bool ((r37 : Int) == 0)) (is_bool _ rfl))
        clear D37
        obtain ⟨C9, q9, hq9, P9⟩ : ∃ C q, q ≤ p + 800 ∧ Dr B R q w.heap.size w (w37.setCell ⟨w.heap.size + 1, 135, none⟩ (.bool ((r37 : Int) == 0))) C Z := ⟨_, _, by omega, P37⟩
        clear P37
        have HLD : Hid ((loadVar 37 ⟨w.heap.size + 1, 0, none⟩).run Tryz.prog (w37.setCell ⟨w.heap.size + 1, 135, none⟩ (.bool ((r37 : Int) == 0))) = .ok (.agg C9) (w37.setCell ⟨w.heap.size + 1, 135, none⟩ (.bool ((r37 : Int) == 0)))) := load_all P9.row _ _ Tryz.underlying37 rfl (by rw [P9.ok.size]; exact zero_mem.2)
        have HSD : Hid ((storeVar 37 ⟨w.heap.size, 0, none⟩ (.agg C9)).run Tryz.prog (w37.setCell ⟨w.heap.size + 1, 135, none⟩ (.bool ((r37 : Int) == 0))) = .ok () ((w37.setCell ⟨w.heap.size + 1, 135, none⟩ (.bool ((r37 : Int) == 0))).setRow w.heap.size C9)) := store_all P9.out _ _ (HZs.out.trans P9.ok.size.symm) (by rw [P9.ok.size]; exact zero_mem.2) P9.ok.one
        have HI : Hid ((Tryz.prog.info? 37).map (·.size) = some (C9).size) := by rw [P9.ok.size]; exact zero_mem.2
        have HO : Hid ((w37.setCell ⟨w.heap.size + 1, 135, none⟩ (.bool ((r37 : Int) == 0))).heap[w.heap.size]? = some (.cells Z 37 (0, 0))) := P9.out
        have HM : Hid (IsMem (.returned (.agg C9))) := ⟨_, P9.ok, rfl⟩
        have HG : Hid (w.grownBy ((w37.setCell ⟨w.heap.size + 1, 135, none⟩ (.bool ((r37 : Int) == 0))).setRow w.heap.size C9) (some R)) := gb_then P9.gb (gb_row _ _ _) (fun j hj => .inl (by cases hj; exact Nat.le_refl _))
        have HRD : Hid (∃ q, q ≤ p + 800 ∧ Reader B ((w37.setCell ⟨w.heap.size + 1, 135, none⟩ (.bool ((r37 : Int) == 0))).setRow w.heap.size C9) R q) := ⟨_, by omega, P9.rd.kept (gb_row _ _ _) (fun j hj => by cases hj; exact hBw)⟩
        clear P9
        go_wp2_with (first | (refine wpL_load rfl 37 _ rfl _ _ rfl _ HLD.out ?_) | (refine wpL_store rfl 37 _ _ rfl _ _ rfl _ rfl _ HSD.out ?_) | exact ret_row rfl rfl (row_set HO.out _) Tryz.underlying37 rfl HI.out rfl ⟨HM.out, HRD.out, HG.out⟩ | fail)
end Go.Proofs.YtjnddfpieogpiaaGreatDoor.Rr
