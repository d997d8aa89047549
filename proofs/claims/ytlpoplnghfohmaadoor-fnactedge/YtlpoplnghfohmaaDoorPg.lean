/- An edge that is asked: ActTest. -/
import Derived.Test.YtlpoplnghfohmaaDoorPf
namespace Go.Proofs.YtlpoplnghfohmaaDoor
open Go.RowKit
set_option linter.unusedVariables false


set_option maxRecDepth 10000 in
set_option maxHeartbeats 2000000 in
theorem test_up (k n m n1 m1 : Int) (b : Nat) (t : TypeId) (c : Array Value) (hc : MemOk c) (w : World) (hT : KT w) (hb : w.heap[b]? = some (.cells #[.int .i64 k, .int .i64 n, .int .i64 m, .int .i64 5, .int .i64 n1, .int .i64 m1] t (0, 0))) :
    Calls Tryd.prog 19 #[.agg c, .agg #[.int .i64 3, .slice (some ⟨b, 0, none⟩) 2 2]] w fun e w' => e = .returned (.tuple #[.agg (putb c 5 n1 (mbit c k n)), .bool (mbit c k n && !mbit c 5 n1)]) ∧ Below w.heap.size w w' := by
  have HT : Hid (KT w) := hT
  have HC : Hid (MemOk c) := hc
  have HBb : Hid (w.heap[b]? = some (.cells #[.int .i64 k, .int .i64 n, .int .i64 m, .int .i64 5, .int .i64 n1, .int .i64 m1] t (0, 0))) := hb
  have HLb : Hid (b < w.heap.size) := (Array.getElem?_eq_some_iff.1 hb).1
  have hz := zero_mem.1
  obtain ⟨Z, HZ⟩ : ∃ Z, Hid (Z = memZero) := ⟨_, rfl⟩
  rw [← HZ.out] at hz
  have HZs : Hid (Z.size = 136) := (by rw [HZ.out, memZero_size] : Z.size = 136)
  obtain ⟨C, HCC⟩ : ∃ C, Hid (C = putb c 5 n1 (mbit c k n)) := ⟨_, rfl⟩
  obtain ⟨v, Hv⟩ : ∃ v, Hid (v = (mbit c k n && !mbit c 5 n1)) := ⟨_, rfl⟩
  rw [← HCC.out, ← Hv.out]
  have HCM : Hid (MemOk C) := (by rw [HCC.out]; exact memOk_putb hc 5 n1 _ : MemOk C)
  have HI : Hid ((Tryd.prog.info? 37).map (·.size) = some c.size) := by rw [HC.out.size]; exact zero_mem.2
  have HIC : Hid ((Tryd.prog.info? 37).map (·.size) = some C.size) := by rw [HCM.out.size]; exact zero_mem.2
  have HP : Hid (∀ W, KT W → Calls Tryd.prog 86 #[.agg #[.int .i64 k, .int .i64 n, .int .i64 m, .int .i64 5, .int .i64 n1, .int .i64 m1, .int .i64 0, .int .i64 0, .int .i64 0, .bool true], .agg c] W fun e w' => e = .returned (.tuple #[.agg C, .bool v]) ∧ Below W.heap.size W w') := fun W hW => by rw [HCC.out, Hv.out]; exact edge_true n m n1 m1 k 0 0 0 c HC.out W hW
  clear hc hT hb Hv
  go_enter Tryd.func19, Tryd.ntmps19
  go_upto_region 1 with fail
  have r := rows3 w (.cells c 37) (.cells #[.int .i64 3, .slice (some ⟨b, 0, none⟩) 2 2] 56) (.cells Z 37)
  have bl : Below w.heap.size w (((w.alloc (.cells c 37)).alloc (.cells #[.int .i64 3, .slice (some ⟨b, 0, none⟩) 2 2] 56)).alloc (.cells Z 37)) := (((Below.refl _ _).alloc (Nat.le_refl _) _).alloc (by simp) _).alloc (by simp <;> omega) _
  obtain ⟨h1, h2, h3⟩ := r
  have h0 : (((w.alloc (.cells c 37)).alloc (.cells #[.int .i64 3, .slice (some ⟨b, 0, none⟩) 2 2] 56)).alloc (.cells Z 37)).heap[b]? = some (.cells #[.int .i64 k, .int .i64 n, .int .i64 m, .int .i64 5, .int .i64 n1, .int .i64 m1] t (0, 0)) := (bl.block _ HLb.out).trans HBb.out
  generalize (((w.alloc (.cells c 37)).alloc (.cells #[.int .i64 3, .slice (some ⟨b, 0, none⟩) 2 2] 56)).alloc (.cells Z 37)) = w0 at h1 h2 h3 bl h0 ⊢
  obtain ⟨S, HS⟩ : ∃ S : World → Prop, Hid (∀ W, S W ↔ (W.heap[w.heap.size]? = some (.cells c 37 (0, 0)) ∧ W.heap[w.heap.size + 1]? = some (.cells #[.int .i64 3, .slice (some ⟨b, 0, none⟩) 2 2] 56 (0, 0)) ∧ (∃ D : Array Value, D.size = 136 ∧ W.heap[w.heap.size + 1 + 1]? = some (.cells D 37 (0, 0))) ∧ W.heap[b]? = some (.cells #[.int .i64 k, .int .i64 n, .int .i64 m, .int .i64 5, .int .i64 n1, .int .i64 m1] t (0, 0)) ∧ Below w.heap.size w W)) := ⟨_, fun W => Iff.rfl⟩
  have hSc : Hid (∀ W W', S W → Below W.heap.size W W' → S W') := fun W W' h g => by
    obtain ⟨q1, q2, ⟨D, hD, q3⟩, q4, q5⟩ := (HS.out W).1 h
    have l3 := (Array.getElem?_eq_some_iff.1 q3).1
    exact (HS.out W').2 ⟨(g.block _ (by omega)).trans q1, (g.block _ (by omega)).trans q2, ⟨D, hD, (g.block _ (by omega)).trans q3⟩, (g.block _ (Array.getElem?_eq_some_iff.1 q4).1).trans q4, q5.trans (g.mono q5.size)⟩
  refine region_cut (R := fun a' W => W.heap[w.heap.size + 1 + 1]? = some (.cells C 37 (0, 0)) ∧ Below w.heap.size w W ∧ a' = ⟨#[.agg c, .agg #[.int .i64 3, .slice (some ⟨b, 0, none⟩) 2 2], .pointer (some ⟨w.heap.size, 0, none⟩), .pointer (some ⟨w.heap.size + 1, 0, none⟩), .pointer (some ⟨w.heap.size + 1 + 1, 0, none⟩), .bool v, .agg #[.int .i64 3, .slice (some ⟨b, 0, none⟩) 2 2], .iface 103 (.agg #[.int .i64 k, .int .i64 n, .int .i64 m, .int .i64 5, .int .i64 n1, .int .i64 m1, .int .i64 0, .int .i64 0, .int .i64 0, .bool true]), .agg c, .tuple #[.agg C, .bool v], .agg C, .bool v], []⟩) ?_ ?_
  · have S0 : S w0.drew := (HS.out _).2 ⟨h1, h2, ⟨Z, HZs.out, h3⟩, h0, bl.drew⟩
    refine wp_region_held_drew (S := S) (by kernel_rfl) S0 (fun S0 => ?_)
    show wpAnyH _ _ _ _ _ 8 #[false, false, false, false, false, false, false, false] _ _
    refine tk_load' (i := 0) rfl (by kernel_rfl) (by kernel_rfl) (by kernel_rfl) (fun _ _ _ _ h => nomatch h.1) rfl 56 _ rfl _ _ rfl (.agg #[.int .i64 3, .slice (some ⟨b, 0, none⟩) 2 2]) (fun W hW => load_all ((HS.out W).1 hW).2.1 _ _ Tryd.underlying56 rfl info_elem) S0 #[true, false, false, false, false, false, false, false] rfl ⟨#[.agg c, .agg #[.int .i64 3, .slice (some ⟨b, 0, none⟩) 2 2], .pointer (some ⟨w.heap.size, 0, none⟩), .pointer (some ⟨w.heap.size + 1, 0, none⟩), .pointer (some ⟨w.heap.size + 1 + 1, 0, none⟩), .bool false, .agg #[.int .i64 3, .slice (some ⟨b, 0, none⟩) 2 2], undef, undef, undef, undef, undef], []⟩ rfl ?_
    refine tk_load' (i := 2) rfl (by kernel_rfl) (by kernel_rfl) (by kernel_rfl) (fun _ _ _ _ h => nomatch h.1) rfl 37 _ rfl _ _ rfl (.agg c) (fun W hW => load_all ((HS.out W).1 hW).1 _ _ Tryd.underlying37 rfl HI.out) S0 #[true, false, true, false, false, false, false, false] rfl ⟨#[.agg c, .agg #[.int .i64 3, .slice (some ⟨b, 0, none⟩) 2 2], .pointer (some ⟨w.heap.size, 0, none⟩), .pointer (some ⟨w.heap.size + 1, 0, none⟩), .pointer (some ⟨w.heap.size + 1 + 1, 0, none⟩), .bool false, .agg #[.int .i64 3, .slice (some ⟨b, 0, none⟩) 2 2], undef, .agg c, undef, undef, undef], []⟩ rfl ?_
    refine wpAnyH_all (rs := [1]) (by kernel_rfl) (by simp) (fun i hi => ?_)
    obtain rfl := List.mem_singleton.1 hi
    refine up_fcall' rfl rfl Tryd.func41 (by kernel_rfl) (by kernel_rfl) rfl [.agg #[.int .i64 3, .slice (some ⟨b, 0, none⟩) 2 2]] rfl #[true, true, true, false, false, false, false, false] rfl (.iface 103 (.agg #[.int .i64 k, .int .i64 n, .int .i64 m, .int .i64 5, .int .i64 n1, .int .i64 m1, .int .i64 0, .int .i64 0, .int .i64 0, .bool true])) ⟨#[.agg c, .agg #[.int .i64 3, .slice (some ⟨b, 0, none⟩) 2 2], .pointer (some ⟨w.heap.size, 0, none⟩), .pointer (some ⟨w.heap.size + 1, 0, none⟩), .pointer (some ⟨w.heap.size + 1 + 1, 0, none⟩), .bool false, .agg #[.int .i64 3, .slice (some ⟨b, 0, none⟩) 2 2], .iface 103 (.agg #[.int .i64 k, .int .i64 n, .int .i64 m, .int .i64 5, .int .i64 n1, .int .i64 m1, .int .i64 0, .int .i64 0, .int .i64 0, .bool true]), .agg c, undef, undef, undef], []⟩ rfl _ (sort3 k n m 5 n1 m1 b t _ ((HS.out _).1 S0).2.2.2.1) ?_
    intro w1 gw1
    have Sw1 := hSc.out _ _ S0 gw1
    refine ⟨Sw1, ?_⟩
    refine wpAnyH_all (rs := [3]) (by kernel_rfl) (by simp) (fun i hi => ?_)
    obtain rfl := List.mem_singleton.1 hi
    refine up_inv' rfl rfl 86 #[.agg #[.int .i64 k, .int .i64 n, .int .i64 m, .int .i64 5, .int .i64 n1, .int .i64 m1, .int .i64 0, .int .i64 0, .int .i64 0, .bool true], .agg c] (by go_simp; kernel_rfl) #[true, true, true, true, false, false, false, false] rfl (.tuple #[.agg C, .bool v]) ⟨#[.agg c, .agg #[.int .i64 3, .slice (some ⟨b, 0, none⟩) 2 2], .pointer (some ⟨w.heap.size, 0, none⟩), .pointer (some ⟨w.heap.size + 1, 0, none⟩), .pointer (some ⟨w.heap.size + 1 + 1, 0, none⟩), .bool false, .agg #[.int .i64 3, .slice (some ⟨b, 0, none⟩) 2 2], .iface 103 (.agg #[.int .i64 k, .int .i64 n, .int .i64 m, .int .i64 5, .int .i64 n1, .int .i64 m1, .int .i64 0, .int .i64 0, .int .i64 0, .bool true]), .agg c, .tuple #[.agg C, .bool v], undef, undef], []⟩ rfl _ (HP.out _ (HT.out.later ((HS.out _).1 Sw1).2.2.2.2)) ?_
    intro w2 gw2
    have Sw2 := hSc.out _ _ Sw1 gw2
    refine ⟨Sw2, ?_⟩
    refine tk_val' (i := 4) rfl (by kernel_rfl) (by kernel_rfl) (by kernel_rfl) (fun _ _ _ _ h => nomatch h.1) rfl (.agg C) (fun W _ => by go_simp) Sw2 #[true, true, true, true, true, false, false, false] rfl ⟨#[.agg c, .agg #[.int .i64 3, .slice (some ⟨b, 0, none⟩) 2 2], .pointer (some ⟨w.heap.size, 0, none⟩), .pointer (some ⟨w.heap.size + 1, 0, none⟩), .pointer (some ⟨w.heap.size + 1 + 1, 0, none⟩), .bool false, .agg #[.int .i64 3, .slice (some ⟨b, 0, none⟩) 2 2], .iface 103 (.agg #[.int .i64 k, .int .i64 n, .int .i64 m, .int .i64 5, .int .i64 n1, .int .i64 m1, .int .i64 0, .int .i64 0, .int .i64 0, .bool true]), .agg c, .tuple #[.agg C, .bool v], .agg C, undef], []⟩ rfl ?_
    refine tk_val' (i := 5) rfl (by kernel_rfl) (by kernel_rfl) (by kernel_rfl) (fun _ _ _ _ h => nomatch h.1) rfl (.bool v) (fun W _ => by go_simp) Sw2 #[true, true, true, true, true, true, false, false] rfl ⟨#[.agg c, .agg #[.int .i64 3, .slice (some ⟨b, 0, none⟩) 2 2], .pointer (some ⟨w.heap.size, 0, none⟩), .pointer (some ⟨w.heap.size + 1, 0, none⟩), .pointer (some ⟨w.heap.size + 1 + 1, 0, none⟩), .bool false, .agg #[.int .i64 3, .slice (some ⟨b, 0, none⟩) 2 2], .iface 103 (.agg #[.int .i64 k, .int .i64 n, .int .i64 m, .int .i64 5, .int .i64 n1, .int .i64 m1, .int .i64 0, .int .i64 0, .int .i64 0, .bool true]), .agg c, .tuple #[.agg C, .bool v], .agg C, .bool v], []⟩ rfl ?_
    refine wpAnyH_all (rs := [6]) (by kernel_rfl) (by simp) (fun i hi => ?_)
    obtain rfl := List.mem_singleton.1 hi
    obtain ⟨p1, p2, ⟨D, hD, p3⟩, p4, p5⟩ := (HS.out _).1 Sw2
    have S5 : S (w2.setRow (w.heap.size + 1 + 1) C) := (HS.out _).2 ⟨row_beside p1 _ (by omega) _, row_beside p2 _ (by omega) _, ⟨C, HCM.out.size, row_set p3 _⟩, row_beside p4 _ (by have := HLb.out; omega) _, below_setRow p5 (by omega) _⟩
    refine up_store' rfl rfl 37 _ _ rfl _ _ rfl _ rfl _ (store_all p3 _ _ (hD.trans HCM.out.size.symm) HIC.out HCM.out.one) S5 #[true, true, true, true, true, true, true, false] rfl ⟨#[.agg c, .agg #[.int .i64 3, .slice (some ⟨b, 0, none⟩) 2 2], .pointer (some ⟨w.heap.size, 0, none⟩), .pointer (some ⟨w.heap.size + 1, 0, none⟩), .pointer (some ⟨w.heap.size + 1 + 1, 0, none⟩), .bool false, .agg #[.int .i64 3, .slice (some ⟨b, 0, none⟩) 2 2], .iface 103 (.agg #[.int .i64 k, .int .i64 n, .int .i64 m, .int .i64 5, .int .i64 n1, .int .i64 m1, .int .i64 0, .int .i64 0, .int .i64 0, .bool true]), .agg c, .tuple #[.agg C, .bool v], .agg C, .bool v], []⟩ rfl ?_
    refine tk_val' (i := 7) rfl (by kernel_rfl) (by kernel_rfl) (by kernel_rfl) (fun _ _ _ _ h => nomatch h.1) rfl (.bool v) (fun W _ => by go_simp) S5 #[true, true, true, true, true, true, true, true] rfl ⟨#[.agg c, .agg #[.int .i64 3, .slice (some ⟨b, 0, none⟩) 2 2], .pointer (some ⟨w.heap.size, 0, none⟩), .pointer (some ⟨w.heap.size + 1, 0, none⟩), .pointer (some ⟨w.heap.size + 1 + 1, 0, none⟩), .bool v, .agg #[.int .i64 3, .slice (some ⟨b, 0, none⟩) 2 2], .iface 103 (.agg #[.int .i64 k, .int .i64 n, .int .i64 m, .int .i64 5, .int .i64 n1, .int .i64 m1, .int .i64 0, .int .i64 0, .int .i64 0, .bool true]), .agg c, .tuple #[.agg C, .bool v], .agg C, .bool v], []⟩ rfl ?_
    exact wpAnyH_done (by kernel_rfl) ⟨rfl, row_set p3 _, below_setRow p5 (by omega) _, rfl⟩ _
  clear h0 h1 h2 h3 bl HS hSc
  rintro _ w5 ⟨k5, b5, rfl⟩
  have HL : Hid ((loadVar 37 ⟨w.heap.size + 1 + 1, 0, none⟩).run Tryd.prog w5 = .ok (.agg C) w5) := load_all k5 _ _ Tryd.underlying37 rfl HIC.out
  have HB : Hid (Below w.heap.size w w5) := b5
  clear k5 b5 hz
  go_wp2_with (first | exact ret_rowV rfl rfl rfl HL.out rfl ⟨rfl, HB.out⟩ | fail)


set_option maxRecDepth 10000 in
set_option maxHeartbeats 2000000 in
theorem test_down (k n m n1 m1 : Int) (b : Nat) (t : TypeId) (c : Array Value) (hc : MemOk c) (w : World) (hT : KT w) (hb : w.heap[b]? = some (.cells #[.int .i64 k, .int .i64 n, .int .i64 m, .int .i64 5, .int .i64 n1, .int .i64 m1] t (0, 0))) :
    Calls Tryd.prog 19 #[.agg c, .agg #[.int .i64 4, .slice (some ⟨b, 0, none⟩) 2 2]] w fun e w' => e = .returned (.tuple #[.agg (putb c 5 n1 (mbit c k n)), .bool (!mbit c k n && mbit c 5 n1)]) ∧ Below w.heap.size w w' := by
  have HT : Hid (KT w) := hT
  have HC : Hid (MemOk c) := hc
  have HBb : Hid (w.heap[b]? = some (.cells #[.int .i64 k, .int .i64 n, .int .i64 m, .int .i64 5, .int .i64 n1, .int .i64 m1] t (0, 0))) := hb
  have HLb : Hid (b < w.heap.size) := (Array.getElem?_eq_some_iff.1 hb).1
  have hz := zero_mem.1
  obtain ⟨Z, HZ⟩ : ∃ Z, Hid (Z = memZero) := ⟨_, rfl⟩
  rw [← HZ.out] at hz
  have HZs : Hid (Z.size = 136) := (by rw [HZ.out, memZero_size] : Z.size = 136)
  obtain ⟨C, HCC⟩ : ∃ C, Hid (C = putb c 5 n1 (mbit c k n)) := ⟨_, rfl⟩
  obtain ⟨v, Hv⟩ : ∃ v, Hid (v = (!mbit c k n && mbit c 5 n1)) := ⟨_, rfl⟩
  rw [← HCC.out, ← Hv.out]
  have HCM : Hid (MemOk C) := (by rw [HCC.out]; exact memOk_putb hc 5 n1 _ : MemOk C)
  have HI : Hid ((Tryd.prog.info? 37).map (·.size) = some c.size) := by rw [HC.out.size]; exact zero_mem.2
  have HIC : Hid ((Tryd.prog.info? 37).map (·.size) = some C.size) := by rw [HCM.out.size]; exact zero_mem.2
  have HP : Hid (∀ W, KT W → Calls Tryd.prog 86 #[.agg #[.int .i64 k, .int .i64 n, .int .i64 m, .int .i64 5, .int .i64 n1, .int .i64 m1, .int .i64 0, .int .i64 0, .int .i64 0, .bool false], .agg c] W fun e w' => e = .returned (.tuple #[.agg C, .bool v]) ∧ Below W.heap.size W w') := fun W hW => by rw [HCC.out, Hv.out]; exact edge_false n m n1 m1 k 0 0 0 c HC.out W hW
  clear hc hT hb Hv
  go_enter Tryd.func19, Tryd.ntmps19
  go_upto_region 1 with fail
  have r := rows3 w (.cells c 37) (.cells #[.int .i64 4, .slice (some ⟨b, 0, none⟩) 2 2] 56) (.cells Z 37)
  have bl : Below w.heap.size w (((w.alloc (.cells c 37)).alloc (.cells #[.int .i64 4, .slice (some ⟨b, 0, none⟩) 2 2] 56)).alloc (.cells Z 37)) := (((Below.refl _ _).alloc (Nat.le_refl _) _).alloc (by simp) _).alloc (by simp <;> omega) _
  obtain ⟨h1, h2, h3⟩ := r
  have h0 : (((w.alloc (.cells c 37)).alloc (.cells #[.int .i64 4, .slice (some ⟨b, 0, none⟩) 2 2] 56)).alloc (.cells Z 37)).heap[b]? = some (.cells #[.int .i64 k, .int .i64 n, .int .i64 m, .int .i64 5, .int .i64 n1, .int .i64 m1] t (0, 0)) := (bl.block _ HLb.out).trans HBb.out
  generalize (((w.alloc (.cells c 37)).alloc (.cells #[.int .i64 4, .slice (some ⟨b, 0, none⟩) 2 2] 56)).alloc (.cells Z 37)) = w0 at h1 h2 h3 bl h0 ⊢
  obtain ⟨S, HS⟩ : ∃ S : World → Prop, Hid (∀ W, S W ↔ (W.heap[w.heap.size]? = some (.cells c 37 (0, 0)) ∧ W.heap[w.heap.size + 1]? = some (.cells #[.int .i64 4, .slice (some ⟨b, 0, none⟩) 2 2] 56 (0, 0)) ∧ (∃ D : Array Value, D.size = 136 ∧ W.heap[w.heap.size + 1 + 1]? = some (.cells D 37 (0, 0))) ∧ W.heap[b]? = some (.cells #[.int .i64 k, .int .i64 n, .int .i64 m, .int .i64 5, .int .i64 n1, .int .i64 m1] t (0, 0)) ∧ Below w.heap.size w W)) := ⟨_, fun W => Iff.rfl⟩
  have hSc : Hid (∀ W W', S W → Below W.heap.size W W' → S W') := fun W W' h g => by
    obtain ⟨q1, q2, ⟨D, hD, q3⟩, q4, q5⟩ := (HS.out W).1 h
    have l3 := (Array.getElem?_eq_some_iff.1 q3).1
    exact (HS.out W').2 ⟨(g.block _ (by omega)).trans q1, (g.block _ (by omega)).trans q2, ⟨D, hD, (g.block _ (by omega)).trans q3⟩, (g.block _ (Array.getElem?_eq_some_iff.1 q4).1).trans q4, q5.trans (g.mono q5.size)⟩
  refine region_cut (R := fun a' W => W.heap[w.heap.size + 1 + 1]? = some (.cells C 37 (0, 0)) ∧ Below w.heap.size w W ∧ a' = ⟨#[.agg c, .agg #[.int .i64 4, .slice (some ⟨b, 0, none⟩) 2 2], .pointer (some ⟨w.heap.size, 0, none⟩), .pointer (some ⟨w.heap.size + 1, 0, none⟩), .pointer (some ⟨w.heap.size + 1 + 1, 0, none⟩), .bool v, .agg #[.int .i64 4, .slice (some ⟨b, 0, none⟩) 2 2], .iface 103 (.agg #[.int .i64 k, .int .i64 n, .int .i64 m, .int .i64 5, .int .i64 n1, .int .i64 m1, .int .i64 0, .int .i64 0, .int .i64 0, .bool false]), .agg c, .tuple #[.agg C, .bool v], .agg C, .bool v], []⟩) ?_ ?_
  · have S0 : S w0.drew := (HS.out _).2 ⟨h1, h2, ⟨Z, HZs.out, h3⟩, h0, bl.drew⟩
    refine wp_region_held_drew (S := S) (by kernel_rfl) S0 (fun S0 => ?_)
    show wpAnyH _ _ _ _ _ 8 #[false, false, false, false, false, false, false, false] _ _
    refine tk_load' (i := 0) rfl (by kernel_rfl) (by kernel_rfl) (by kernel_rfl) (fun _ _ _ _ h => nomatch h.1) rfl 56 _ rfl _ _ rfl (.agg #[.int .i64 4, .slice (some ⟨b, 0, none⟩) 2 2]) (fun W hW => load_all ((HS.out W).1 hW).2.1 _ _ Tryd.underlying56 rfl info_elem) S0 #[true, false, false, false, false, false, false, false] rfl ⟨#[.agg c, .agg #[.int .i64 4, .slice (some ⟨b, 0, none⟩) 2 2], .pointer (some ⟨w.heap.size, 0, none⟩), .pointer (some ⟨w.heap.size + 1, 0, none⟩), .pointer (some ⟨w.heap.size + 1 + 1, 0, none⟩), .bool false, .agg #[.int .i64 4, .slice (some ⟨b, 0, none⟩) 2 2], undef, undef, undef, undef, undef], []⟩ rfl ?_
    refine tk_load' (i := 2) rfl (by kernel_rfl) (by kernel_rfl) (by kernel_rfl) (fun _ _ _ _ h => nomatch h.1) rfl 37 _ rfl _ _ rfl (.agg c) (fun W hW => load_all ((HS.out W).1 hW).1 _ _ Tryd.underlying37 rfl HI.out) S0 #[true, false, true, false, false, false, false, false] rfl ⟨#[.agg c, .agg #[.int .i64 4, .slice (some ⟨b, 0, none⟩) 2 2], .pointer (some ⟨w.heap.size, 0, none⟩), .pointer (some ⟨w.heap.size + 1, 0, none⟩), .pointer (some ⟨w.heap.size + 1 + 1, 0, none⟩), .bool false, .agg #[.int .i64 4, .slice (some ⟨b, 0, none⟩) 2 2], undef, .agg c, undef, undef, undef], []⟩ rfl ?_
    refine wpAnyH_all (rs := [1]) (by kernel_rfl) (by simp) (fun i hi => ?_)
    obtain rfl := List.mem_singleton.1 hi
    refine up_fcall' rfl rfl Tryd.func41 (by kernel_rfl) (by kernel_rfl) rfl [.agg #[.int .i64 4, .slice (some ⟨b, 0, none⟩) 2 2]] rfl #[true, true, true, false, false, false, false, false] rfl (.iface 103 (.agg #[.int .i64 k, .int .i64 n, .int .i64 m, .int .i64 5, .int .i64 n1, .int .i64 m1, .int .i64 0, .int .i64 0, .int .i64 0, .bool false])) ⟨#[.agg c, .agg #[.int .i64 4, .slice (some ⟨b, 0, none⟩) 2 2], .pointer (some ⟨w.heap.size, 0, none⟩), .pointer (some ⟨w.heap.size + 1, 0, none⟩), .pointer (some ⟨w.heap.size + 1 + 1, 0, none⟩), .bool false, .agg #[.int .i64 4, .slice (some ⟨b, 0, none⟩) 2 2], .iface 103 (.agg #[.int .i64 k, .int .i64 n, .int .i64 m, .int .i64 5, .int .i64 n1, .int .i64 m1, .int .i64 0, .int .i64 0, .int .i64 0, .bool false]), .agg c, undef, undef, undef], []⟩ rfl _ (sort4 k n m 5 n1 m1 b t _ ((HS.out _).1 S0).2.2.2.1) ?_
    intro w1 gw1
    have Sw1 := hSc.out _ _ S0 gw1
    refine ⟨Sw1, ?_⟩
    refine wpAnyH_all (rs := [3]) (by kernel_rfl) (by simp) (fun i hi => ?_)
    obtain rfl := List.mem_singleton.1 hi
    refine up_inv' rfl rfl 86 #[.agg #[.int .i64 k, .int .i64 n, .int .i64 m, .int .i64 5, .int .i64 n1, .int .i64 m1, .int .i64 0, .int .i64 0, .int .i64 0, .bool false], .agg c] (by go_simp; kernel_rfl) #[true, true, true, true, false, false, false, false] rfl (.tuple #[.agg C, .bool v]) ⟨#[.agg c, .agg #[.int .i64 4, .slice (some ⟨b, 0, none⟩) 2 2], .pointer (some ⟨w.heap.size, 0, none⟩), .pointer (some ⟨w.heap.size + 1, 0, none⟩), .pointer (some ⟨w.heap.size + 1 + 1, 0, none⟩), .bool false, .agg #[.int .i64 4, .slice (some ⟨b, 0, none⟩) 2 2], .iface 103 (.agg #[.int .i64 k, .int .i64 n, .int .i64 m, .int .i64 5, .int .i64 n1, .int .i64 m1, .int .i64 0, .int .i64 0, .int .i64 0, .bool false]), .agg c, .tuple #[.agg C, .bool v], undef, undef], []⟩ rfl _ (HP.out _ (HT.out.later ((HS.out _).1 Sw1).2.2.2.2)) ?_
    intro w2 gw2
    have Sw2 := hSc.out _ _ Sw1 gw2
    refine ⟨Sw2, ?_⟩
    refine tk_val' (i := 4) rfl (by kernel_rfl) (by kernel_rfl) (by kernel_rfl) (fun _ _ _ _ h => nomatch h.1) rfl (.agg C) (fun W _ => by go_simp) Sw2 #[true, true, true, true, true, false, false, false] rfl ⟨#[.agg c, .agg #[.int .i64 4, .slice (some ⟨b, 0, none⟩) 2 2], .pointer (some ⟨w.heap.size, 0, none⟩), .pointer (some ⟨w.heap.size + 1, 0, none⟩), .pointer (some ⟨w.heap.size + 1 + 1, 0, none⟩), .bool false, .agg #[.int .i64 4, .slice (some ⟨b, 0, none⟩) 2 2], .iface 103 (.agg #[.int .i64 k, .int .i64 n, .int .i64 m, .int .i64 5, .int .i64 n1, .int .i64 m1, .int .i64 0, .int .i64 0, .int .i64 0, .bool false]), .agg c, .tuple #[.agg C, .bool v], .agg C, undef], []⟩ rfl ?_
    refine tk_val' (i := 5) rfl (by kernel_rfl) (by kernel_rfl) (by kernel_rfl) (fun _ _ _ _ h => nomatch h.1) rfl (.bool v) (fun W _ => by go_simp) Sw2 #[true, true, true, true, true, true, false, false] rfl ⟨#[.agg c, .agg #[.int .i64 4, .slice (some ⟨b, 0, none⟩) 2 2], .pointer (some ⟨w.heap.size, 0, none⟩), .pointer (some ⟨w.heap.size + 1, 0, none⟩), .pointer (some ⟨w.heap.size + 1 + 1, 0, none⟩), .bool false, .agg #[.int .i64 4, .slice (some ⟨b, 0, none⟩) 2 2], .iface 103 (.agg #[.int .i64 k, .int .i64 n, .int .i64 m, .int .i64 5, .int .i64 n1, .int .i64 m1, .int .i64 0, .int .i64 0, .int .i64 0, .bool false]), .agg c, .tuple #[.agg C, .bool v], .agg C, .bool v], []⟩ rfl ?_
    refine wpAnyH_all (rs := [6]) (by kernel_rfl) (by simp) (fun i hi => ?_)
    obtain rfl := List.mem_singleton.1 hi
    obtain ⟨p1, p2, ⟨D, hD, p3⟩, p4, p5⟩ := (HS.out _).1 Sw2
    have S5 : S (w2.setRow (w.heap.size + 1 + 1) C) := (HS.out _).2 ⟨row_beside p1 _ (by omega) _, row_beside p2 _ (by omega) _, ⟨C, HCM.out.size, row_set p3 _⟩, row_beside p4 _ (by have := HLb.out; omega) _, below_setRow p5 (by omega) _⟩
    refine up_store' rfl rfl 37 _ _ rfl _ _ rfl _ rfl _ (store_all p3 _ _ (hD.trans HCM.out.size.symm) HIC.out HCM.out.one) S5 #[true, true, true, true, true, true, true, false] rfl ⟨#[.agg c, .agg #[.int .i64 4, .slice (some ⟨b, 0, none⟩) 2 2], .pointer (some ⟨w.heap.size, 0, none⟩), .pointer (some ⟨w.heap.size + 1, 0, none⟩), .pointer (some ⟨w.heap.size + 1 + 1, 0, none⟩), .bool false, .agg #[.int .i64 4, .slice (some ⟨b, 0, none⟩) 2 2], .iface 103 (.agg #[.int .i64 k, .int .i64 n, .int .i64 m, .int .i64 5, .int .i64 n1, .int .i64 m1, .int .i64 0, .int .i64 0, .int .i64 0, .bool false]), .agg c, .tuple #[.agg C, .bool v], .agg C, .bool v], []⟩ rfl ?_
    refine tk_val' (i := 7) rfl (by kernel_rfl) (by kernel_rfl) (by kernel_rfl) (fun _ _ _ _ h => nomatch h.1) rfl (.bool v) (fun W _ => by go_simp) S5 #[true, true, true, true, true, true, true, true] rfl ⟨#[.agg c, .agg #[.int .i64 4, .slice (some ⟨b, 0, none⟩) 2 2], .pointer (some ⟨w.heap.size, 0, none⟩), .pointer (some ⟨w.heap.size + 1, 0, none⟩), .pointer (some ⟨w.heap.size + 1 + 1, 0, none⟩), .bool v, .agg #[.int .i64 4, .slice (some ⟨b, 0, none⟩) 2 2], .iface 103 (.agg #[.int .i64 k, .int .i64 n, .int .i64 m, .int .i64 5, .int .i64 n1, .int .i64 m1, .int .i64 0, .int .i64 0, .int .i64 0, .bool false]), .agg c, .tuple #[.agg C, .bool v], .agg C, .bool v], []⟩ rfl ?_
    exact wpAnyH_done (by kernel_rfl) ⟨rfl, row_set p3 _, below_setRow p5 (by omega) _, rfl⟩ _
  clear h0 h1 h2 h3 bl HS hSc
  rintro _ w5 ⟨k5, b5, rfl⟩
  have HL : Hid ((loadVar 37 ⟨w.heap.size + 1 + 1, 0, none⟩).run Tryd.prog w5 = .ok (.agg C) w5) := load_all k5 _ _ Tryd.underlying37 rfl HIC.out
  have HB : Hid (Below w.heap.size w w5) := b5
  clear k5 b5 hz
  go_wp2_with (first | exact ret_rowV rfl rfl rfl HL.out rfl ⟨rfl, HB.out⟩ | fail)

end Go.Proofs.YtlpoplnghfohmaaDoor
