/- A bit that is put; a step. -/
import Derived.Test.YtlpoplnghfohmaaDoorPb
import Derived.Test.YtlpoplnghfohmaaDoorMu
namespace Go.Proofs.YtlpoplnghfohmaaDoor
open Go.RowKit
set_option linter.unusedVariables false

set_option maxRecDepth 10000 in
set_option maxHeartbeats 1000000 in
theorem argput (k n m x3 x4 x5 x6 x7 x8 : Int) (hk : k ≠ 5) (c : Array Value) (hc : MemOk c) (v : Bool) (w : World) (hT : KT w) :
    Calls Tryd.prog 107 #[.agg #[.int .i64 k, .int .i64 n, .int .i64 m, .int .i64 x3, .int .i64 x4, .int .i64 x5, .int .i64 x6, .int .i64 x7, .int .i64 x8], .agg c, .bool v] w fun e w' => e = .returned (.agg (putb c k n v)) ∧ Below w.heap.size w w' := by
  have e5 : (k == 5) = false := by simp [hk]
  have HT : Hid (KT w) := hT
  have HC : Hid (MemOk c) := hc
  have hz := zero_mem.1
  obtain ⟨Z, HZ⟩ : ∃ Z, Hid (Z = memZero) := ⟨_, rfl⟩
  rw [← HZ.out] at hz
  have HZs : Hid (Z.size = 136) := (by rw [HZ.out, memZero_size] : Z.size = 136)
  obtain ⟨C, HCC⟩ : ∃ C, Hid (C = putb c k n v) := ⟨_, rfl⟩
  rw [← HCC.out]
  have HCM : Hid (MemOk C) := (by rw [HCC.out]; exact memOk_putb hc k n v : MemOk C)
  have HI : Hid ((Tryd.prog.info? 37).map (·.size) = some c.size) := by rw [HC.out.size]; exact zero_mem.2
  have HIC : Hid ((Tryd.prog.info? 37).map (·.size) = some C.size) := by rw [HCM.out.size]; exact zero_mem.2
  have HP : Hid (∀ W, KT W → Calls Tryd.prog 9 #[.agg c, .agg #[.int .i64 k, .int .i64 n, .int .i64 m], .bool v] W fun e w' => e = .returned (.agg C) ∧ Below W.heap.size W w') := fun W hW => by rw [HCC.out]; exact put_i c HC.out k n m v W hW
  clear hc hT hk
  go_enter Tryd.func107, Tryd.ntmps107
  go_wp2_with (first | (refine wpL_load rfl 37 _ rfl _ _ rfl _ (load_all (rows3 w _ _ _).2.1 _ _ Tryd.underlying37 rfl HI.out) ?_) | fail)
  refine (HP.out _ (((HT.out.alloc _).alloc _).alloc _)).mono ?_
  rintro e w1 ⟨rfl, g1⟩
  have b1 : Below w.heap.size w w1 := ((((Below.refl _ _).alloc (Nat.le_refl _) _).alloc (by simp) _).alloc (by simp <;> omega) _).trans (g1.mono (by simp <;> omega))
  have h3 : w1.heap[w.heap.size + 1 + 1]? = some (.cells Z 37 (0, 0)) := (g1.block _ (by simp <;> omega)).trans (rows3 w _ _ _).2.2
  have HR3 : Hid (w1.heap[w.heap.size + 1 + 1]? = some (.cells Z 37 (0, 0))) := h3
  have HSD : Hid ((storeVar 37 ⟨w.heap.size + 1 + 1, 0, none⟩ (.agg C)).run Tryd.prog w1 = .ok () (w1.setRow (w.heap.size + 1 + 1) C)) := store_all h3 _ _ (HZs.out.trans HCM.out.size.symm) HIC.out HCM.out.one
  have HB : Hid (Below w.heap.size w (w1.setRow (w.heap.size + 1 + 1) C)) := below_setRow b1 (by omega) _
  clear g1 h3 b1 hz
  go_wp2_with (first | (refine wpL_store rfl 37 _ _ rfl _ _ rfl _ rfl _ HSD.out ?_) | exact ret_row rfl rfl (row_set HR3.out _) Tryd.underlying37 rfl HIC.out rfl ⟨rfl, HB.out⟩ | fail)

/-- The steps with a group of them taken off. -/
def stepOff (s q : Int) : Int := bits .andNot .u16 s (if q < 8 then 255 else 65280)
theorem u16_andNot (s p : Nat) (hs : s < 65536) (hp : p < 65536) : bits .andNot .u16 (s : Int) (p : Int) = ((s &&& (65535 - p) : Nat) : Int) := by
  have of16 : ∀ x : Nat, x < 65536 → (BitVec.ofInt 16 (x : Int)).toNat = x := fun x hx => by
    rw [BitVec.toNat_ofInt]; omega
  have hx : s &&& (65535 - p) < 2 ^ 16 := Nat.and_lt_two_pow _ (by omega)
  show IntKind.u16.wrap ((BitVec.ofInt 16 (s : Int) &&& ~~~BitVec.ofInt 16 (p : Int)).toNat : Int) = _
  rw [BitVec.toNat_and, BitVec.toNat_not, of16 s hs, of16 p hp, IntKind.wrap_u16]
  have e : 2 ^ 16 - 1 - p = 65535 - p := by omega
  rw [e]
  omega
theorem stepOff_nat (s : Nat) (q : Int) (hs : s < 65536) : stepOff s q = ((s &&& (if q < 8 then 65280 else 255) : Nat) : Int) := by
  unfold stepOff
  split
  · exact u16_andNot s 255 hs (by decide)
  · exact u16_andNot s 65280 hs (by decide)
theorem stepOff_bd {s q : Int} (h0 : 0 ≤ s) (h1 : s < 65536) : 0 ≤ stepOff s q ∧ stepOff s q < 65536 := by
  obtain ⟨x, rfl⟩ : ∃ x : Nat, s = x := ⟨s.toNat, by omega⟩
  rw [stepOff_nat x q (by omega)]
  have : (x &&& (if q < 8 then 65280 else 255) : Nat) ≤ x := Nat.and_le_left
  omega
/-- The memory behind a step. -/
def stepped (c : Array Value) (n : Int) : Array Value := putb (c.setIfInBounds 3 (.int .u16 (stepOff (word c 3) (pl 4 n)))) 4 n true
theorem memOk_off {c : Array Value} (hc : MemOk c) (q : Int) : MemOk (c.setIfInBounds 3 (.int .u16 (stepOff (word c 3) q))) := by
  obtain ⟨s, hs, s0, s1⟩ := hc.u16 (i := 3) (by omega) rfl
  rw [word_of hs]
  exact oa_set hc 3 (is_u16 (stepOff_bd s0 s1) rfl)
theorem memOk_stepped {c : Array Value} (hc : MemOk c) (n : Int) : MemOk (stepped c n) := memOk_putb (memOk_off hc _) 4 n true


set_option maxRecDepth 10000 in
set_option maxHeartbeats 1000000 in
theorem step_lo (n dt : Int) (c : Array Value) (hc : MemOk c) (v : Bool) (w : World) (hT : KT w) (hq8 : pl 4 n < 8) :
    Calls Tryd.prog 116 #[.agg #[.int .i64 4, .int .i64 n, .int .i64 0, .int .i64 0, .int .i64 0, .int .i64 0, .int .i64 0, .int .i64 0, .int .i64 0], .agg c, .bool v, .int .u16 dt] w fun e w' => e = .returned (.agg (stepped c n)) ∧ Below w.heap.size w w' := by
  have HT : Hid (KT w) := hT
  have HC : Hid (MemOk c) := hc
  have hz := zero_mem.1
  obtain ⟨Z, HZ⟩ : ∃ Z, Hid (Z = memZero) := ⟨_, rfl⟩
  rw [← HZ.out] at hz
  have HZs : Hid (Z.size = 136) := (by rw [HZ.out, memZero_size] : Z.size = 136)
  obtain ⟨q0, q1⟩ := pl_lt 4 n (by decide)
  rw [show kZ 4 = 16 from rfl] at q1
  obtain ⟨q, hq⟩ : ∃ q : Int, pl 4 n = q := ⟨_, rfl⟩
  rw [hq] at q0 q1 hq8
  obtain ⟨s, hs, s0, s1⟩ := hc.u16 (i := 3) (by omega) rfl
  obtain ⟨y, HY⟩ : ∃ y, Hid (y = bits .andNot .u16 s 255) := ⟨_, rfl⟩
  obtain ⟨D, HD⟩ : ∃ D, Hid (D = c.setIfInBounds 3 (.int .u16 y)) := ⟨_, rfl⟩
  have hDe : D = c.setIfInBounds 3 (.int .u16 (stepOff (word c 3) (pl 4 n))) := by
    rw [HD.out, HY.out, word_of hs, hq]; unfold stepOff; rw [if_pos hq8]
  have HDM : Hid (MemOk D) := (by rw [hDe]; exact memOk_off hc _ : MemOk D)
  obtain ⟨C, HCC⟩ : ∃ C, Hid (C = stepped c n) := ⟨_, rfl⟩
  have hCe : C = putb D 4 n true := by rw [HCC.out, hDe]; rfl
  rw [← HCC.out]
  have HCM : Hid (MemOk C) := (by rw [HCC.out]; exact memOk_stepped hc n : MemOk C)
  have HID : Hid ((Tryd.prog.info? 37).map (·.size) = some D.size) := by rw [HDM.out.size]; exact zero_mem.2
  have HIC : Hid ((Tryd.prog.info? 37).map (·.size) = some C.size) := by rw [HCM.out.size]; exact zero_mem.2
  have HP : Hid (∀ W, KT W → Calls Tryd.prog 107 #[.agg #[.int .i64 4, .int .i64 n, .int .i64 0, .int .i64 0, .int .i64 0, .int .i64 0, .int .i64 0, .int .i64 0, .int .i64 0], .agg D, .bool true] W fun e w' => e = .returned (.agg C) ∧ Below W.heap.size W w') := fun W hW => by rw [hCe]; exact argput 4 n 0 0 0 0 0 0 0 (by decide) D HDM.out true W hW
  clear hc hT hDe hCe
  go_enter Tryd.func116, Tryd.ntmps116
  go_wp2_with fail
  refine (place_r _ _ _ _ (((HT.out.alloc _).alloc _).alloc _)).mono ?_
  rintro e w1 ⟨rfl, g1⟩
  have b1 : Below w.heap.size w w1 := ((((Below.refl _ _).alloc (Nat.le_refl _) _).alloc (by simp) _).alloc (by simp <;> omega) _).trans (g1.mono (by simp <;> omega))
  have h1 : w1.heap[w.heap.size]? = some (.cells #[.int .i64 4, .int .i64 n, .int .i64 0, .int .i64 0, .int .i64 0, .int .i64 0, .int .i64 0, .int .i64 0, .int .i64 0] 124 (0, 0)) := (g1.block _ (by simp <;> omega)).trans (rows3 w _ _ _).1
  have h2 : w1.heap[w.heap.size + 1]? = some (.cells c 37 (0, 0)) := (g1.block _ (by simp <;> omega)).trans (rows3 w _ _ _).2.1
  have h3 : w1.heap[w.heap.size + 1 + 1]? = some (.cells Z 37 (0, 0)) := (g1.block _ (by simp <;> omega)).trans (rows3 w _ _ _).2.2
  have r3 : w1.cell? ⟨w.heap.size + 1, 3, none⟩ = some (.int .u16 s) := (cell_of_row _ _ _ _ _ _ h2).trans hs
  have f3 : w1.frozen? ⟨w.heap.size + 1, 3, none⟩ = false := by simp [World.frozen?, h2]
  clear g1 hz
  rw [hq]
  have e8 : q / 8 = 0 := by omega
  have e9 : q.tdiv 8 = 0 := by rw [Int.tdiv_eq_ediv_of_nonneg q0]; omega
  clear hq
  go_upto_region 4 with fail
  refine region_cut (R := fun a' W => W.heap[w.heap.size]? = some (.cells #[.int .i64 4, .int .i64 n, .int .i64 0, .int .i64 0, .int .i64 0, .int .i64 0, .int .i64 0, .int .i64 0, .int .i64 0] 124 (0, 0)) ∧ W.heap[w.heap.size + 1]? = some (.cells D 37 (0, 0)) ∧ W.heap[w.heap.size + 1 + 1]? = some (.cells Z 37 (0, 0)) ∧ Below w.heap.size w W ∧ a' = ⟨#[.agg #[.int .i64 4, .int .i64 n, .int .i64 0, .int .i64 0, .int .i64 0, .int .i64 0, .int .i64 0, .int .i64 0, .int .i64 0], .agg c, .bool v, .int .u16 dt, .pointer (some ⟨w.heap.size, 0, none⟩), .pointer (some ⟨w.heap.size + 1, 0, none⟩), undef, undef, .pointer (some ⟨w.heap.size + 1 + 1, 0, none⟩), .int .i64 0, .pointer (some ⟨w.heap.size, 0, none⟩), .pointer (some ⟨w.heap.size, 0, none⟩), .pointer (some ⟨w.heap.size, 0, none⟩), .int .i64 4, .bool false, undef, .pointer (some ⟨w.heap.size, 0, none⟩), .pointer (some ⟨w.heap.size, 0, none⟩), .agg #[.int .i64 4, .int .i64 n, .int .i64 0], .int .i64 q, .int .i64 0, .int .i64 0, .pointer (some ⟨w.heap.size + 1, 3, none⟩), .int .u16 s, .int .i64 0, .int .u16 255, .int .u16 y, .pointer (some ⟨w.heap.size + 1, 3, none⟩), undef, undef, undef, undef], []⟩) ?_ ?_
  · refine wp_region_held_drew (S := fun _ => True) (by kernel_rfl) trivial (fun _ => ?_)
    show wpAnyH _ _ _ _ _ 7 #[false, false, false, false, false, false, false] _ _
    refine tk_val' (i := 0) rfl (by kernel_rfl) (by kernel_rfl) (by kernel_rfl) (fun _ _ _ _ h => nomatch h.1) rfl (.pointer (some ⟨w.heap.size + 1, 3, none⟩)) (fun W _ => by go_simp) trivial #[true, false, false, false, false, false, false] rfl ⟨#[.agg #[.int .i64 4, .int .i64 n, .int .i64 0, .int .i64 0, .int .i64 0, .int .i64 0, .int .i64 0, .int .i64 0, .int .i64 0], .agg c, .bool v, .int .u16 dt, .pointer (some ⟨w.heap.size, 0, none⟩), .pointer (some ⟨w.heap.size + 1, 0, none⟩), undef, undef, .pointer (some ⟨w.heap.size + 1 + 1, 0, none⟩), .int .i64 0, .pointer (some ⟨w.heap.size, 0, none⟩), .pointer (some ⟨w.heap.size, 0, none⟩), .pointer (some ⟨w.heap.size, 0, none⟩), .int .i64 4, .bool false, undef, .pointer (some ⟨w.heap.size, 0, none⟩), .pointer (some ⟨w.heap.size, 0, none⟩), .agg #[.int .i64 4, .int .i64 n, .int .i64 0], .int .i64 q, .int .i64 0, .int .i64 0, .pointer (some ⟨w.heap.size + 1, 3, none⟩), undef, undef, undef, undef, undef, undef, undef, undef, undef], []⟩ rfl ?_
    refine tk_val' (i := 2) rfl (by kernel_rfl) (by kernel_rfl) (by kernel_rfl) (fun _ _ _ _ h => nomatch h.1) rfl (.int .i64 0) (fun W _ => by go_simp) trivial #[true, false, true, false, false, false, false] rfl ⟨#[.agg #[.int .i64 4, .int .i64 n, .int .i64 0, .int .i64 0, .int .i64 0, .int .i64 0, .int .i64 0, .int .i64 0, .int .i64 0], .agg c, .bool v, .int .u16 dt, .pointer (some ⟨w.heap.size, 0, none⟩), .pointer (some ⟨w.heap.size + 1, 0, none⟩), undef, undef, .pointer (some ⟨w.heap.size + 1 + 1, 0, none⟩), .int .i64 0, .pointer (some ⟨w.heap.size, 0, none⟩), .pointer (some ⟨w.heap.size, 0, none⟩), .pointer (some ⟨w.heap.size, 0, none⟩), .int .i64 4, .bool false, undef, .pointer (some ⟨w.heap.size, 0, none⟩), .pointer (some ⟨w.heap.size, 0, none⟩), .agg #[.int .i64 4, .int .i64 n, .int .i64 0], .int .i64 q, .int .i64 0, .int .i64 0, .pointer (some ⟨w.heap.size + 1, 3, none⟩), undef, .int .i64 0, undef, undef, undef, undef, undef, undef, undef], []⟩ rfl ?_
    refine tk_val' (i := 3) rfl (by kernel_rfl) (by kernel_rfl) (by kernel_rfl) (fun _ _ _ _ h => nomatch h.1) rfl (.int .u16 255) (fun W _ => by go_simp; rfl) trivial #[true, false, true, true, false, false, false] rfl ⟨#[.agg #[.int .i64 4, .int .i64 n, .int .i64 0, .int .i64 0, .int .i64 0, .int .i64 0, .int .i64 0, .int .i64 0, .int .i64 0], .agg c, .bool v, .int .u16 dt, .pointer (some ⟨w.heap.size, 0, none⟩), .pointer (some ⟨w.heap.size + 1, 0, none⟩), undef, undef, .pointer (some ⟨w.heap.size + 1 + 1, 0, none⟩), .int .i64 0, .pointer (some ⟨w.heap.size, 0, none⟩), .pointer (some ⟨w.heap.size, 0, none⟩), .pointer (some ⟨w.heap.size, 0, none⟩), .int .i64 4, .bool false, undef, .pointer (some ⟨w.heap.size, 0, none⟩), .pointer (some ⟨w.heap.size, 0, none⟩), .agg #[.int .i64 4, .int .i64 n, .int .i64 0], .int .i64 q, .int .i64 0, .int .i64 0, .pointer (some ⟨w.heap.size + 1, 3, none⟩), undef, .int .i64 0, .int .u16 255, undef, undef, undef, undef, undef, undef], []⟩ rfl ?_
    refine wpAnyH_all (rs := [1]) (by kernel_rfl) (by simp) (fun i hi => ?_)
    obtain rfl := List.mem_singleton.1 hi
    refine up_val' rfl rfl (.int .u16 s) w1.drew (by have r3' : w1.drew.cell? ⟨w.heap.size + 1, 3, none⟩ = some (.int .u16 s) := r3; go_simp) trivial #[true, true, true, true, false, false, false] rfl ⟨#[.agg #[.int .i64 4, .int .i64 n, .int .i64 0, .int .i64 0, .int .i64 0, .int .i64 0, .int .i64 0, .int .i64 0, .int .i64 0], .agg c, .bool v, .int .u16 dt, .pointer (some ⟨w.heap.size, 0, none⟩), .pointer (some ⟨w.heap.size + 1, 0, none⟩), undef, undef, .pointer (some ⟨w.heap.size + 1 + 1, 0, none⟩), .int .i64 0, .pointer (some ⟨w.heap.size, 0, none⟩), .pointer (some ⟨w.heap.size, 0, none⟩), .pointer (some ⟨w.heap.size, 0, none⟩), .int .i64 4, .bool false, undef, .pointer (some ⟨w.heap.size, 0, none⟩), .pointer (some ⟨w.heap.size, 0, none⟩), .agg #[.int .i64 4, .int .i64 n, .int .i64 0], .int .i64 q, .int .i64 0, .int .i64 0, .pointer (some ⟨w.heap.size + 1, 3, none⟩), .int .u16 s, .int .i64 0, .int .u16 255, undef, undef, undef, undef, undef, undef], []⟩ rfl ?_
    refine tk_val' (i := 4) rfl (by kernel_rfl) (by kernel_rfl) (by kernel_rfl) (fun _ _ _ _ h => nomatch h.1) rfl (.int .u16 y) (fun W _ => by rw [HY.out]; go_simp) trivial #[true, true, true, true, true, false, false] rfl ⟨#[.agg #[.int .i64 4, .int .i64 n, .int .i64 0, .int .i64 0, .int .i64 0, .int .i64 0, .int .i64 0, .int .i64 0, .int .i64 0], .agg c, .bool v, .int .u16 dt, .pointer (some ⟨w.heap.size, 0, none⟩), .pointer (some ⟨w.heap.size + 1, 0, none⟩), undef, undef, .pointer (some ⟨w.heap.size + 1 + 1, 0, none⟩), .int .i64 0, .pointer (some ⟨w.heap.size, 0, none⟩), .pointer (some ⟨w.heap.size, 0, none⟩), .pointer (some ⟨w.heap.size, 0, none⟩), .int .i64 4, .bool false, undef, .pointer (some ⟨w.heap.size, 0, none⟩), .pointer (some ⟨w.heap.size, 0, none⟩), .agg #[.int .i64 4, .int .i64 n, .int .i64 0], .int .i64 q, .int .i64 0, .int .i64 0, .pointer (some ⟨w.heap.size + 1, 3, none⟩), .int .u16 s, .int .i64 0, .int .u16 255, .int .u16 y, undef, undef, undef, undef, undef], []⟩ rfl ?_
    refine tk_val' (i := 5) rfl (by kernel_rfl) (by kernel_rfl) (by kernel_rfl) (fun _ _ _ _ h => nomatch h.1) rfl (.pointer (some ⟨w.heap.size + 1, 3, none⟩)) (fun W _ => by go_simp) trivial #[true, true, true, true, true, true, false] rfl ⟨#[.agg #[.int .i64 4, .int .i64 n, .int .i64 0, .int .i64 0, .int .i64 0, .int .i64 0, .int .i64 0, .int .i64 0, .int .i64 0], .agg c, .bool v, .int .u16 dt, .pointer (some ⟨w.heap.size, 0, none⟩), .pointer (some ⟨w.heap.size + 1, 0, none⟩), undef, undef, .pointer (some ⟨w.heap.size + 1 + 1, 0, none⟩), .int .i64 0, .pointer (some ⟨w.heap.size, 0, none⟩), .pointer (some ⟨w.heap.size, 0, none⟩), .pointer (some ⟨w.heap.size, 0, none⟩), .int .i64 4, .bool false, undef, .pointer (some ⟨w.heap.size, 0, none⟩), .pointer (some ⟨w.heap.size, 0, none⟩), .agg #[.int .i64 4, .int .i64 n, .int .i64 0], .int .i64 q, .int .i64 0, .int .i64 0, .pointer (some ⟨w.heap.size + 1, 3, none⟩), .int .u16 s, .int .i64 0, .int .u16 255, .int .u16 y, .pointer (some ⟨w.heap.size + 1, 3, none⟩), undef, undef, undef, undef], []⟩ rfl ?_
    refine wpAnyH_all (rs := [6]) (by kernel_rfl) (by simp) (fun i hi => ?_)
    obtain rfl := List.mem_singleton.1 hi
    have r3' : w1.drew.cell? ⟨w.heap.size + 1, 3, none⟩ = some (.int .u16 s) := r3
    have f3' : w1.drew.frozen? ⟨w.heap.size + 1, 3, none⟩ = false := f3
    exact up_store' rfl rfl 25 _ _ rfl _ _ rfl _ rfl (w1.drew.setCell ⟨w.heap.size + 1, 3, none⟩ (.int .u16 y)) (by simp [go_sem, r3', f3']) trivial #[true, true, true, true, true, true, true] rfl ⟨#[.agg #[.int .i64 4, .int .i64 n, .int .i64 0, .int .i64 0, .int .i64 0, .int .i64 0, .int .i64 0, .int .i64 0, .int .i64 0], .agg c, .bool v, .int .u16 dt, .pointer (some ⟨w.heap.size, 0, none⟩), .pointer (some ⟨w.heap.size + 1, 0, none⟩), undef, undef, .pointer (some ⟨w.heap.size + 1 + 1, 0, none⟩), .int .i64 0, .pointer (some ⟨w.heap.size, 0, none⟩), .pointer (some ⟨w.heap.size, 0, none⟩), .pointer (some ⟨w.heap.size, 0, none⟩), .int .i64 4, .bool false, undef, .pointer (some ⟨w.heap.size, 0, none⟩), .pointer (some ⟨w.heap.size, 0, none⟩), .agg #[.int .i64 4, .int .i64 n, .int .i64 0], .int .i64 q, .int .i64 0, .int .i64 0, .pointer (some ⟨w.heap.size + 1, 3, none⟩), .int .u16 s, .int .i64 0, .int .u16 255, .int .u16 y, .pointer (some ⟨w.heap.size + 1, 3, none⟩), undef, undef, undef, undef], []⟩ rfl (wpAnyH_done (by kernel_rfl) ⟨rfl, row_other h1 _ _ (by omega) _, by rw [HD.out]; exact row_put h2 _ _, row_other h3 _ _ (by omega) _, b1.drew.setCell (by simp) _, rfl⟩ _)
  clear h1 h2 h3 r3 f3 b1
  rintro _ w2 ⟨h1, h2, h3, b2, rfl⟩
  have HLD : Hid ((loadVar 37 ⟨w.heap.size + 1, 0, none⟩).run Tryd.prog w2 = .ok (.agg D) w2) := load_all h2 _ _ Tryd.underlying37 rfl HID.out
  have HLA : Hid ((loadVar 99 ⟨w.heap.size, 0, none⟩).run Tryd.prog w2 = .ok (.agg #[.int .i64 4, .int .i64 n, .int .i64 0, .int .i64 0, .int .i64 0, .int .i64 0, .int .i64 0, .int .i64 0, .int .i64 0]) w2) := load_sub h1 _ _ 0 9 (by simp) Tryd.underlying99 rfl info_args
  have H3 : Hid (w2.heap[w.heap.size + 1 + 1]? = some (.cells Z 37 (0, 0))) := h3
  have B2 : Hid (Below w.heap.size w w2) := b2
  clear h1 h2 h3 b2
  go_wp2_with (first | (refine wpL_load rfl 99 _ rfl _ _ rfl _ HLA.out ?_) | (refine wpL_load rfl 37 _ rfl _ _ rfl _ HLD.out ?_) | fail)
  refine (HP.out _ (HT.out.later B2.out)).mono ?_
  rintro e w3 ⟨rfl, g3⟩
  have h3 : w3.heap[w.heap.size + 1 + 1]? = some (.cells Z 37 (0, 0)) := (g3.block _ (Array.getElem?_eq_some_iff.1 H3.out).1).trans H3.out
  have HR3 : Hid (w3.heap[w.heap.size + 1 + 1]? = some (.cells Z 37 (0, 0))) := h3
  have HSD : Hid ((storeVar 37 ⟨w.heap.size + 1 + 1, 0, none⟩ (.agg C)).run Tryd.prog w3 = .ok () (w3.setRow (w.heap.size + 1 + 1) C)) := store_all h3 _ _ (HZs.out.trans HCM.out.size.symm) HIC.out HCM.out.one
  have HB : Hid (Below w.heap.size w (w3.setRow (w.heap.size + 1 + 1) C)) := below_setRow (B2.out.trans (g3.mono B2.out.size)) (by omega) _
  clear g3 h3 HLD HLA
  go_wp2_with (first | (refine wpL_store rfl 37 _ _ rfl _ _ rfl _ rfl _ HSD.out ?_) | exact ret_row rfl rfl (row_set HR3.out _) Tryd.underlying37 rfl HIC.out rfl ⟨rfl, HB.out⟩ | fail)


set_option maxRecDepth 10000 in
set_option maxHeartbeats 1000000 in
theorem step_hi (n dt : Int) (c : Array Value) (hc : MemOk c) (v : Bool) (w : World) (hT : KT w) (hq8 : 8 ≤ pl 4 n) :
    Calls Tryd.prog 116 #[.agg #[.int .i64 4, .int .i64 n, .int .i64 0, .int .i64 0, .int .i64 0, .int .i64 0, .int .i64 0, .int .i64 0, .int .i64 0], .agg c, .bool v, .int .u16 dt] w fun e w' => e = .returned (.agg (stepped c n)) ∧ Below w.heap.size w w' := by
  have HT : Hid (KT w) := hT
  have HC : Hid (MemOk c) := hc
  have hz := zero_mem.1
  obtain ⟨Z, HZ⟩ : ∃ Z, Hid (Z = memZero) := ⟨_, rfl⟩
  rw [← HZ.out] at hz
  have HZs : Hid (Z.size = 136) := (by rw [HZ.out, memZero_size] : Z.size = 136)
  obtain ⟨q0, q1⟩ := pl_lt 4 n (by decide)
  rw [show kZ 4 = 16 from rfl] at q1
  obtain ⟨q, hq⟩ : ∃ q : Int, pl 4 n = q := ⟨_, rfl⟩
  rw [hq] at q0 q1 hq8
  obtain ⟨s, hs, s0, s1⟩ := hc.u16 (i := 3) (by omega) rfl
  obtain ⟨y, HY⟩ : ∃ y, Hid (y = bits .andNot .u16 s 65280) := ⟨_, rfl⟩
  obtain ⟨D, HD⟩ : ∃ D, Hid (D = c.setIfInBounds 3 (.int .u16 y)) := ⟨_, rfl⟩
  have hDe : D = c.setIfInBounds 3 (.int .u16 (stepOff (word c 3) (pl 4 n))) := by
    rw [HD.out, HY.out, word_of hs, hq]; unfold stepOff; rw [if_neg (by omega)]
  have HDM : Hid (MemOk D) := (by rw [hDe]; exact memOk_off hc _ : MemOk D)
  obtain ⟨C, HCC⟩ : ∃ C, Hid (C = stepped c n) := ⟨_, rfl⟩
  have hCe : C = putb D 4 n true := by rw [HCC.out, hDe]; rfl
  rw [← HCC.out]
  have HCM : Hid (MemOk C) := (by rw [HCC.out]; exact memOk_stepped hc n : MemOk C)
  have HID : Hid ((Tryd.prog.info? 37).map (·.size) = some D.size) := by rw [HDM.out.size]; exact zero_mem.2
  have HIC : Hid ((Tryd.prog.info? 37).map (·.size) = some C.size) := by rw [HCM.out.size]; exact zero_mem.2
  have HP : Hid (∀ W, KT W → Calls Tryd.prog 107 #[.agg #[.int .i64 4, .int .i64 n, .int .i64 0, .int .i64 0, .int .i64 0, .int .i64 0, .int .i64 0, .int .i64 0, .int .i64 0], .agg D, .bool true] W fun e w' => e = .returned (.agg C) ∧ Below W.heap.size W w') := fun W hW => by rw [hCe]; exact argput 4 n 0 0 0 0 0 0 0 (by decide) D HDM.out true W hW
  clear hc hT hDe hCe
  go_enter Tryd.func116, Tryd.ntmps116
  go_wp2_with fail
  refine (place_r _ _ _ _ (((HT.out.alloc _).alloc _).alloc _)).mono ?_
  rintro e w1 ⟨rfl, g1⟩
  have b1 : Below w.heap.size w w1 := ((((Below.refl _ _).alloc (Nat.le_refl _) _).alloc (by simp) _).alloc (by simp <;> omega) _).trans (g1.mono (by simp <;> omega))
  have h1 : w1.heap[w.heap.size]? = some (.cells #[.int .i64 4, .int .i64 n, .int .i64 0, .int .i64 0, .int .i64 0, .int .i64 0, .int .i64 0, .int .i64 0, .int .i64 0] 124 (0, 0)) := (g1.block _ (by simp <;> omega)).trans (rows3 w _ _ _).1
  have h2 : w1.heap[w.heap.size + 1]? = some (.cells c 37 (0, 0)) := (g1.block _ (by simp <;> omega)).trans (rows3 w _ _ _).2.1
  have h3 : w1.heap[w.heap.size + 1 + 1]? = some (.cells Z 37 (0, 0)) := (g1.block _ (by simp <;> omega)).trans (rows3 w _ _ _).2.2
  have r3 : w1.cell? ⟨w.heap.size + 1, 3, none⟩ = some (.int .u16 s) := (cell_of_row _ _ _ _ _ _ h2).trans hs
  have f3 : w1.frozen? ⟨w.heap.size + 1, 3, none⟩ = false := by simp [World.frozen?, h2]
  clear g1 hz
  rw [hq]
  have e8 : q / 8 = 1 := by omega
  have e9 : q.tdiv 8 = 1 := by rw [Int.tdiv_eq_ediv_of_nonneg q0]; omega
  clear hq
  go_upto_region 4 with fail
  refine region_cut (R := fun a' W => W.heap[w.heap.size]? = some (.cells #[.int .i64 4, .int .i64 n, .int .i64 0, .int .i64 0, .int .i64 0, .int .i64 0, .int .i64 0, .int .i64 0, .int .i64 0] 124 (0, 0)) ∧ W.heap[w.heap.size + 1]? = some (.cells D 37 (0, 0)) ∧ W.heap[w.heap.size + 1 + 1]? = some (.cells Z 37 (0, 0)) ∧ Below w.heap.size w W ∧ a' = ⟨#[.agg #[.int .i64 4, .int .i64 n, .int .i64 0, .int .i64 0, .int .i64 0, .int .i64 0, .int .i64 0, .int .i64 0, .int .i64 0], .agg c, .bool v, .int .u16 dt, .pointer (some ⟨w.heap.size, 0, none⟩), .pointer (some ⟨w.heap.size + 1, 0, none⟩), undef, undef, .pointer (some ⟨w.heap.size + 1 + 1, 0, none⟩), .int .i64 8, .pointer (some ⟨w.heap.size, 0, none⟩), .pointer (some ⟨w.heap.size, 0, none⟩), .pointer (some ⟨w.heap.size, 0, none⟩), .int .i64 4, .bool false, undef, .pointer (some ⟨w.heap.size, 0, none⟩), .pointer (some ⟨w.heap.size, 0, none⟩), .agg #[.int .i64 4, .int .i64 n, .int .i64 0], .int .i64 q, .int .i64 1, .int .i64 8, .pointer (some ⟨w.heap.size + 1, 3, none⟩), .int .u16 s, .int .i64 8, .int .u16 65280, .int .u16 y, .pointer (some ⟨w.heap.size + 1, 3, none⟩), undef, undef, undef, undef], []⟩) ?_ ?_
  · refine wp_region_held_drew (S := fun _ => True) (by kernel_rfl) trivial (fun _ => ?_)
    show wpAnyH _ _ _ _ _ 7 #[false, false, false, false, false, false, false] _ _
    refine tk_val' (i := 0) rfl (by kernel_rfl) (by kernel_rfl) (by kernel_rfl) (fun _ _ _ _ h => nomatch h.1) rfl (.pointer (some ⟨w.heap.size + 1, 3, none⟩)) (fun W _ => by go_simp) trivial #[true, false, false, false, false, false, false] rfl ⟨#[.agg #[.int .i64 4, .int .i64 n, .int .i64 0, .int .i64 0, .int .i64 0, .int .i64 0, .int .i64 0, .int .i64 0, .int .i64 0], .agg c, .bool v, .int .u16 dt, .pointer (some ⟨w.heap.size, 0, none⟩), .pointer (some ⟨w.heap.size + 1, 0, none⟩), undef, undef, .pointer (some ⟨w.heap.size + 1 + 1, 0, none⟩), .int .i64 8, .pointer (some ⟨w.heap.size, 0, none⟩), .pointer (some ⟨w.heap.size, 0, none⟩), .pointer (some ⟨w.heap.size, 0, none⟩), .int .i64 4, .bool false, undef, .pointer (some ⟨w.heap.size, 0, none⟩), .pointer (some ⟨w.heap.size, 0, none⟩), .agg #[.int .i64 4, .int .i64 n, .int .i64 0], .int .i64 q, .int .i64 1, .int .i64 8, .pointer (some ⟨w.heap.size + 1, 3, none⟩), undef, undef, undef, undef, undef, undef, undef, undef, undef], []⟩ rfl ?_
    refine tk_val' (i := 2) rfl (by kernel_rfl) (by kernel_rfl) (by kernel_rfl) (fun _ _ _ _ h => nomatch h.1) rfl (.int .i64 8) (fun W _ => by go_simp) trivial #[true, false, true, false, false, false, false] rfl ⟨#[.agg #[.int .i64 4, .int .i64 n, .int .i64 0, .int .i64 0, .int .i64 0, .int .i64 0, .int .i64 0, .int .i64 0, .int .i64 0], .agg c, .bool v, .int .u16 dt, .pointer (some ⟨w.heap.size, 0, none⟩), .pointer (some ⟨w.heap.size + 1, 0, none⟩), undef, undef, .pointer (some ⟨w.heap.size + 1 + 1, 0, none⟩), .int .i64 8, .pointer (some ⟨w.heap.size, 0, none⟩), .pointer (some ⟨w.heap.size, 0, none⟩), .pointer (some ⟨w.heap.size, 0, none⟩), .int .i64 4, .bool false, undef, .pointer (some ⟨w.heap.size, 0, none⟩), .pointer (some ⟨w.heap.size, 0, none⟩), .agg #[.int .i64 4, .int .i64 n, .int .i64 0], .int .i64 q, .int .i64 1, .int .i64 8, .pointer (some ⟨w.heap.size + 1, 3, none⟩), undef, .int .i64 8, undef, undef, undef, undef, undef, undef, undef], []⟩ rfl ?_
    refine tk_val' (i := 3) rfl (by kernel_rfl) (by kernel_rfl) (by kernel_rfl) (fun _ _ _ _ h => nomatch h.1) rfl (.int .u16 65280) (fun W _ => by go_simp; rfl) trivial #[true, false, true, true, false, false, false] rfl ⟨#[.agg #[.int .i64 4, .int .i64 n, .int .i64 0, .int .i64 0, .int .i64 0, .int .i64 0, .int .i64 0, .int .i64 0, .int .i64 0], .agg c, .bool v, .int .u16 dt, .pointer (some ⟨w.heap.size, 0, none⟩), .pointer (some ⟨w.heap.size + 1, 0, none⟩), undef, undef, .pointer (some ⟨w.heap.size + 1 + 1, 0, none⟩), .int .i64 8, .pointer (some ⟨w.heap.size, 0, none⟩), .pointer (some ⟨w.heap.size, 0, none⟩), .pointer (some ⟨w.heap.size, 0, none⟩), .int .i64 4, .bool false, undef, .pointer (some ⟨w.heap.size, 0, none⟩), .pointer (some ⟨w.heap.size, 0, none⟩), .agg #[.int .i64 4, .int .i64 n, .int .i64 0], .int .i64 q, .int .i64 1, .int .i64 8, .pointer (some ⟨w.heap.size + 1, 3, none⟩), undef, .int .i64 8, .int .u16 65280, undef, undef, undef, undef, undef, undef], []⟩ rfl ?_
    refine wpAnyH_all (rs := [1]) (by kernel_rfl) (by simp) (fun i hi => ?_)
    obtain rfl := List.mem_singleton.1 hi
    refine up_val' rfl rfl (.int .u16 s) w1.drew (by have r3' : w1.drew.cell? ⟨w.heap.size + 1, 3, none⟩ = some (.int .u16 s) := r3; go_simp) trivial #[true, true, true, true, false, false, false] rfl ⟨#[.agg #[.int .i64 4, .int .i64 n, .int .i64 0, .int .i64 0, .int .i64 0, .int .i64 0, .int .i64 0, .int .i64 0, .int .i64 0], .agg c, .bool v, .int .u16 dt, .pointer (some ⟨w.heap.size, 0, none⟩), .pointer (some ⟨w.heap.size + 1, 0, none⟩), undef, undef, .pointer (some ⟨w.heap.size + 1 + 1, 0, none⟩), .int .i64 8, .pointer (some ⟨w.heap.size, 0, none⟩), .pointer (some ⟨w.heap.size, 0, none⟩), .pointer (some ⟨w.heap.size, 0, none⟩), .int .i64 4, .bool false, undef, .pointer (some ⟨w.heap.size, 0, none⟩), .pointer (some ⟨w.heap.size, 0, none⟩), .agg #[.int .i64 4, .int .i64 n, .int .i64 0], .int .i64 q, .int .i64 1, .int .i64 8, .pointer (some ⟨w.heap.size + 1, 3, none⟩), .int .u16 s, .int .i64 8, .int .u16 65280, undef, undef, undef, undef, undef, undef], []⟩ rfl ?_
    refine tk_val' (i := 4) rfl (by kernel_rfl) (by kernel_rfl) (by kernel_rfl) (fun _ _ _ _ h => nomatch h.1) rfl (.int .u16 y) (fun W _ => by rw [HY.out]; go_simp) trivial #[true, true, true, true, true, false, false] rfl ⟨#[.agg #[.int .i64 4, .int .i64 n, .int .i64 0, .int .i64 0, .int .i64 0, .int .i64 0, .int .i64 0, .int .i64 0, .int .i64 0], .agg c, .bool v, .int .u16 dt, .pointer (some ⟨w.heap.size, 0, none⟩), .pointer (some ⟨w.heap.size + 1, 0, none⟩), undef, undef, .pointer (some ⟨w.heap.size + 1 + 1, 0, none⟩), .int .i64 8, .pointer (some ⟨w.heap.size, 0, none⟩), .pointer (some ⟨w.heap.size, 0, none⟩), .pointer (some ⟨w.heap.size, 0, none⟩), .int .i64 4, .bool false, undef, .pointer (some ⟨w.heap.size, 0, none⟩), .pointer (some ⟨w.heap.size, 0, none⟩), .agg #[.int .i64 4, .int .i64 n, .int .i64 0], .int .i64 q, .int .i64 1, .int .i64 8, .pointer (some ⟨w.heap.size + 1, 3, none⟩), .int .u16 s, .int .i64 8, .int .u16 65280, .int .u16 y, undef, undef, undef, undef, undef], []⟩ rfl ?_
    refine tk_val' (i := 5) rfl (by kernel_rfl) (by kernel_rfl) (by kernel_rfl) (fun _ _ _ _ h => nomatch h.1) rfl (.pointer (some ⟨w.heap.size + 1, 3, none⟩)) (fun W _ => by go_simp) trivial #[true, true, true, true, true, true, false] rfl ⟨#[.agg #[.int .i64 4, .int .i64 n, .int .i64 0, .int .i64 0, .int .i64 0, .int .i64 0, .int .i64 0, .int .i64 0, .int .i64 0], .agg c, .bool v, .int .u16 dt, .pointer (some ⟨w.heap.size, 0, none⟩), .pointer (some ⟨w.heap.size + 1, 0, none⟩), undef, undef, .pointer (some ⟨w.heap.size + 1 + 1, 0, none⟩), .int .i64 8, .pointer (some ⟨w.heap.size, 0, none⟩), .pointer (some ⟨w.heap.size, 0, none⟩), .pointer (some ⟨w.heap.size, 0, none⟩), .int .i64 4, .bool false, undef, .pointer (some ⟨w.heap.size, 0, none⟩), .pointer (some ⟨w.heap.size, 0, none⟩), .agg #[.int .i64 4, .int .i64 n, .int .i64 0], .int .i64 q, .int .i64 1, .int .i64 8, .pointer (some ⟨w.heap.size + 1, 3, none⟩), .int .u16 s, .int .i64 8, .int .u16 65280, .int .u16 y, .pointer (some ⟨w.heap.size + 1, 3, none⟩), undef, undef, undef, undef], []⟩ rfl ?_
    refine wpAnyH_all (rs := [6]) (by kernel_rfl) (by simp) (fun i hi => ?_)
    obtain rfl := List.mem_singleton.1 hi
    have r3' : w1.drew.cell? ⟨w.heap.size + 1, 3, none⟩ = some (.int .u16 s) := r3
    have f3' : w1.drew.frozen? ⟨w.heap.size + 1, 3, none⟩ = false := f3
    exact up_store' rfl rfl 25 _ _ rfl _ _ rfl _ rfl (w1.drew.setCell ⟨w.heap.size + 1, 3, none⟩ (.int .u16 y)) (by simp [go_sem, r3', f3']) trivial #[true, true, true, true, true, true, true] rfl ⟨#[.agg #[.int .i64 4, .int .i64 n, .int .i64 0, .int .i64 0, .int .i64 0, .int .i64 0, .int .i64 0, .int .i64 0, .int .i64 0], .agg c, .bool v, .int .u16 dt, .pointer (some ⟨w.heap.size, 0, none⟩), .pointer (some ⟨w.heap.size + 1, 0, none⟩), undef, undef, .pointer (some ⟨w.heap.size + 1 + 1, 0, none⟩), .int .i64 8, .pointer (some ⟨w.heap.size, 0, none⟩), .pointer (some ⟨w.heap.size, 0, none⟩), .pointer (some ⟨w.heap.size, 0, none⟩), .int .i64 4, .bool false, undef, .pointer (some ⟨w.heap.size, 0, none⟩), .pointer (some ⟨w.heap.size, 0, none⟩), .agg #[.int .i64 4, .int .i64 n, .int .i64 0], .int .i64 q, .int .i64 1, .int .i64 8, .pointer (some ⟨w.heap.size + 1, 3, none⟩), .int .u16 s, .int .i64 8, .int .u16 65280, .int .u16 y, .pointer (some ⟨w.heap.size + 1, 3, none⟩), undef, undef, undef, undef], []⟩ rfl (wpAnyH_done (by kernel_rfl) ⟨rfl, row_other h1 _ _ (by omega) _, by rw [HD.out]; exact row_put h2 _ _, row_other h3 _ _ (by omega) _, b1.drew.setCell (by simp) _, rfl⟩ _)
  clear h1 h2 h3 r3 f3 b1
  rintro _ w2 ⟨h1, h2, h3, b2, rfl⟩
  have HLD : Hid ((loadVar 37 ⟨w.heap.size + 1, 0, none⟩).run Tryd.prog w2 = .ok (.agg D) w2) := load_all h2 _ _ Tryd.underlying37 rfl HID.out
  have HLA : Hid ((loadVar 99 ⟨w.heap.size, 0, none⟩).run Tryd.prog w2 = .ok (.agg #[.int .i64 4, .int .i64 n, .int .i64 0, .int .i64 0, .int .i64 0, .int .i64 0, .int .i64 0, .int .i64 0, .int .i64 0]) w2) := load_sub h1 _ _ 0 9 (by simp) Tryd.underlying99 rfl info_args
  have H3 : Hid (w2.heap[w.heap.size + 1 + 1]? = some (.cells Z 37 (0, 0))) := h3
  have B2 : Hid (Below w.heap.size w w2) := b2
  clear h1 h2 h3 b2
  go_wp2_with (first | (refine wpL_load rfl 99 _ rfl _ _ rfl _ HLA.out ?_) | (refine wpL_load rfl 37 _ rfl _ _ rfl _ HLD.out ?_) | fail)
  refine (HP.out _ (HT.out.later B2.out)).mono ?_
  rintro e w3 ⟨rfl, g3⟩
  have h3 : w3.heap[w.heap.size + 1 + 1]? = some (.cells Z 37 (0, 0)) := (g3.block _ (Array.getElem?_eq_some_iff.1 H3.out).1).trans H3.out
  have HR3 : Hid (w3.heap[w.heap.size + 1 + 1]? = some (.cells Z 37 (0, 0))) := h3
  have HSD : Hid ((storeVar 37 ⟨w.heap.size + 1 + 1, 0, none⟩ (.agg C)).run Tryd.prog w3 = .ok () (w3.setRow (w.heap.size + 1 + 1) C)) := store_all h3 _ _ (HZs.out.trans HCM.out.size.symm) HIC.out HCM.out.one
  have HB : Hid (Below w.heap.size w (w3.setRow (w.heap.size + 1 + 1) C)) := below_setRow (B2.out.trans (g3.mono B2.out.size)) (by omega) _
  clear g3 h3 HLD HLA
  go_wp2_with (first | (refine wpL_store rfl 37 _ _ rfl _ _ rfl _ rfl _ HSD.out ?_) | exact ret_row rfl rfl (row_set HR3.out _) Tryd.underlying37 rfl HIC.out rfl ⟨rfl, HB.out⟩ | fail)

end Go.Proofs.YtlpoplnghfohmaaDoor
