/- A step that is let do: ActDo. -/
import Derived.Test.YtlpoplnghfohmaaDoorPc
import Derived.Recover
namespace Go.Proofs.YtlpoplnghfohmaaDoor
open Go.RowKit
set_option linter.unusedVariables false

section
variable {P : Program} {ops : Array Oper} {Q : Exit → Act → World → Prop} {S : World → Prop} {md : Region.Mode}
theorem up_inv' {i : Nat} {o : Oper} {fuel : Nat} {listed : Array Bool} {a : Act} {w : World} (ho : ops[i]? = some o) (hw : Region.wanted o (yielded ops a.tmps) = true) (f : FuncId) (args : Array Value)
    (hrun : (execOp a.eval o).run P w = .ok (.enter f args) w) (l' : Array Bool) (hl : listed.setIfInBounds i true = l') (v : Value) (a' : Act) (ha : a.put o.dst v = a') (T : World → Prop)
    (hc : Calls P f args w fun e w' => e = .returned v ∧ T w') (h : ∀ w', T w' → S w' ∧ wpAnyH P md ops Q S fuel l' a' w') :
    wpOp P ops Q i (fun a' w' => S w' ∧ wpAnyH P md ops Q S fuel (listed.setIfInBounds i true) a' w') a w := by
  subst hl ha
  exact up_call ho hw f args hrun _ hc fun e w' hR => ⟨v, hR.1, h w' hR.2⟩
end

theorem step_do (n dt : Int) (c : Array Value) (hc : MemOk c) (v : Bool) (w : World) (hT : KT w) :
    Calls Tryd.prog 116 #[.agg #[.int .i64 4, .int .i64 n, .int .i64 0, .int .i64 0, .int .i64 0, .int .i64 0, .int .i64 0, .int .i64 0, .int .i64 0], .agg c, .bool v, .int .u16 dt] w fun e w' => e = .returned (.agg (stepped c n)) ∧ Below w.heap.size w w' := by
  by_cases h : pl 4 n < 8
  · exact step_lo n dt c hc v w hT h
  · exact step_hi n dt c hc v w hT (by omega)

set_option maxRecDepth 10000 in
set_option maxHeartbeats 1000000 in
theorem driven_step (n dt : Int) (c : Array Value) (hc : MemOk c) (w : World) (hT : KT w) :
    Calls Tryd.prog 113 #[.agg #[.iface 124 (.agg #[.int .i64 4, .int .i64 n, .int .i64 0, .int .i64 0, .int .i64 0, .int .i64 0, .int .i64 0, .int .i64 0, .int .i64 0])], .agg c, .bool true, .int .u16 dt] w fun e w' => e = .returned (.agg (stepped c n)) ∧ Below w.heap.size w w' := by
  have HT : Hid (KT w) := hT
  have HC : Hid (MemOk c) := hc
  have hz := zero_mem.1
  obtain ⟨Z, HZ⟩ : ∃ Z, Hid (Z = memZero) := ⟨_, rfl⟩
  rw [← HZ.out] at hz
  have HZs : Hid (Z.size = 136) := (by rw [HZ.out, memZero_size] : Z.size = 136)
  obtain ⟨C, HCC⟩ : ∃ C, Hid (C = stepped c n) := ⟨_, rfl⟩
  rw [← HCC.out]
  have HCM : Hid (MemOk C) := (by rw [HCC.out]; exact memOk_stepped hc n : MemOk C)
  have HI : Hid ((Tryd.prog.info? 37).map (·.size) = some c.size) := by rw [HC.out.size]; exact zero_mem.2
  have HIC : Hid ((Tryd.prog.info? 37).map (·.size) = some C.size) := by rw [HCM.out.size]; exact zero_mem.2
  have HP : Hid (∀ W, KT W → Calls Tryd.prog 116 #[.agg #[.int .i64 4, .int .i64 n, .int .i64 0, .int .i64 0, .int .i64 0, .int .i64 0, .int .i64 0, .int .i64 0, .int .i64 0], .agg c, .bool true, .int .u16 dt] W fun e w' => e = .returned (.agg C) ∧ Below W.heap.size W w') := fun W hW => by rw [HCC.out]; exact step_do n dt c HC.out true W hW
  clear hc hT
  go_enter Tryd.func113, Tryd.ntmps113
  go_wp2_with (first | (refine wpL_load rfl 37 _ rfl _ _ rfl _ (load_all (rows3 w _ _ _).2.1 _ _ Tryd.underlying37 rfl HI.out) ?_) | fail)
  refine (HP.out _ (((HT.out.alloc _).alloc _).alloc _)).mono ?_
  rintro e w1 ⟨rfl, g1⟩
  have b1 : Below w.heap.size w w1 := ((((Below.refl _ _).alloc (Nat.le_refl _) _).alloc (by simp) _).alloc (by simp <;> omega) _).trans (g1.mono (by simp <;> omega))
  have h3 : w1.heap[w.heap.size + 1 + 1]? = some (.cells Z 37 (0, 0)) := (g1.block _ (by simp <;> omega)).trans (rows3 w _ _ _).2.2
  have HR3 : Hid (w1.heap[w.heap.size + 1 + 1]? = some (.cells Z 37 (0, 0))) := h3
  have HSD : Hid ((storeVar 37 ⟨w.heap.size + 1 + 1, 0, none⟩ (.agg C)).run Tryd.prog w1 = .ok () (w1.setRow (w.heap.size + 1 + 1) C)) := store_all h3 _ _ (HZs.out.trans HCM.out.size.symm) HIC.out HCM.out.one
  have HB : Hid (Below w.heap.size w (w1.setRow (w.heap.size + 1 + 1) C)) := below_setRow b1 (by omega) _
  clear g1 h3 b1 hz
  go_wp2_with (first | (refine wpL_store rfl 37 _ _ rfl _ _ rfl _ rfl _ HSD.out ?_) | exact ret_row rfl rfl (row_set HR3.out _) Tryd.underlying37 rfl HIC.out rfl ⟨rfl, HB.out⟩ | fail)

/-- The deferred function behind a coil that came to its end. -/
theorem catch_idle (p q : Addr) (w : World) :
    CallsD Tryd.prog 42 #[.pointer (some p), .pointer (some q)] .returning w fun e u' w' => e = .returned (.tuple #[]) ∧ u' = .returning ∧ w' = w := by
  refine callsD_of_wpS Tryd.func42 rfl fun c₀ cs hu => ?_
  apply wpS_seq
  apply wpS_region
  simp [wpOpsS, go_sem, recoverD, hu, Tryd.ntmps42, Exit.thenS]
  refine wpS_cond (t := false) (by simp [Act.eval, Array.replicate]) ?_
  simp only [Bool.false_eq_true, if_false]
  refine wpS_of_wp (wp_skip ?_)
  cases c₀
  simp_all [bodyPostS, results, Tryd.results42]

set_option maxRecDepth 10000 in
set_option maxHeartbeats 1000000 in
theorem do_step (n dt : Int) (b : Nat) (t : TypeId) (c : Array Value) (hc : MemOk c) (w : World) (hT : KT w) (hb : w.heap[b]? = some (.cells #[.int .i64 4, .int .i64 n, .int .i64 0] t (0, 0))) :
    Calls Tryd.prog 21 #[.agg c, .agg #[.int .i64 25, .slice (some ⟨b, 0, none⟩) 1 1], .bool true, .int .u16 dt] w fun e w' => e = .returned (.agg (stepped c n)) ∧ Below w.heap.size w w' := by
  have HT : Hid (KT w) := hT
  have HC : Hid (MemOk c) := hc
  have HBb : Hid (w.heap[b]? = some (.cells #[.int .i64 4, .int .i64 n, .int .i64 0] t (0, 0))) := hb
  have HLb : Hid (b < w.heap.size) := (Array.getElem?_eq_some_iff.1 hb).1
  have hz := zero_mem.1
  obtain ⟨Z, HZ⟩ : ∃ Z, Hid (Z = memZero) := ⟨_, rfl⟩
  rw [← HZ.out] at hz
  have HZs : Hid (Z.size = 136) := (by rw [HZ.out, memZero_size] : Z.size = 136)
  obtain ⟨C, HCC⟩ : ∃ C, Hid (C = stepped c n) := ⟨_, rfl⟩
  rw [← HCC.out]
  have HCM : Hid (MemOk C) := (by rw [HCC.out]; exact memOk_stepped hc n : MemOk C)
  have HI : Hid ((Tryd.prog.info? 37).map (·.size) = some c.size) := by rw [HC.out.size]; exact zero_mem.2
  have HIC : Hid ((Tryd.prog.info? 37).map (·.size) = some C.size) := by rw [HCM.out.size]; exact zero_mem.2
  have HP : Hid (∀ W, KT W → Calls Tryd.prog 113 #[.agg #[.iface 124 (.agg #[.int .i64 4, .int .i64 n, .int .i64 0, .int .i64 0, .int .i64 0, .int .i64 0, .int .i64 0, .int .i64 0, .int .i64 0])], .agg c, .bool true, .int .u16 dt] W fun e w' => e = .returned (.agg C) ∧ Below W.heap.size W w') := fun W hW => by rw [HCC.out]; exact driven_step n dt c HC.out W hW
  have hmf : ∀ (fn : Fn) (first cap : Array Value) (w : World), (Instr.makeFunc fn first cap).run Tryd.prog w = .ok (.func fn first cap) w := fun _ _ _ _ => rfl
  clear hc hT hb
  go_enter_defers Tryd.func21, Tryd.ntmps21
  go_upto_region 2 with fail
  have r := rows3 w (.cells c 37) (.cells #[.int .i64 25, .slice (some ⟨b, 0, none⟩) 1 1] 56) (.cells Z 37)
  have bl : Below w.heap.size w (((w.alloc (.cells c 37)).alloc (.cells #[.int .i64 25, .slice (some ⟨b, 0, none⟩) 1 1] 56)).alloc (.cells Z 37)) := (((Below.refl _ _).alloc (Nat.le_refl _) _).alloc (by simp) _).alloc (by simp <;> omega) _
  obtain ⟨h1, h2, h3⟩ := r
  have h0 : (((w.alloc (.cells c 37)).alloc (.cells #[.int .i64 25, .slice (some ⟨b, 0, none⟩) 1 1] 56)).alloc (.cells Z 37)).heap[b]? = some (.cells #[.int .i64 4, .int .i64 n, .int .i64 0] t (0, 0)) := (bl.block _ HLb.out).trans HBb.out
  generalize (((w.alloc (.cells c 37)).alloc (.cells #[.int .i64 25, .slice (some ⟨b, 0, none⟩) 1 1] 56)).alloc (.cells Z 37)) = w0 at h1 h2 h3 bl h0 ⊢
  obtain ⟨S, HS⟩ : ∃ S : World → Prop, Hid (∀ W, S W ↔ (W.heap[w.heap.size]? = some (.cells c 37 (0, 0)) ∧ W.heap[w.heap.size + 1]? = some (.cells #[.int .i64 25, .slice (some ⟨b, 0, none⟩) 1 1] 56 (0, 0)) ∧ W.heap[b]? = some (.cells #[.int .i64 4, .int .i64 n, .int .i64 0] t (0, 0)) ∧ W.heap[w.heap.size + 1 + 1]?.isSome = true ∧ Below w.heap.size w W)) := ⟨_, fun W => Iff.rfl⟩
  have hSc : Hid (∀ W W', S W → Below W.heap.size W W' → S W') := fun W W' h g => by
    have h := (HS.out W).1 h
    obtain ⟨ob, ho⟩ := Option.isSome_iff_exists.1 h.2.2.2.1
    have l3 := (Array.getElem?_eq_some_iff.1 ho).1
    exact (HS.out W').2 ⟨(g.block _ (by omega)).trans h.1, (g.block _ (by omega)).trans h.2.1, (g.block _ (Array.getElem?_eq_some_iff.1 h.2.2.1).1).trans h.2.2.1, by rw [g.block _ (by omega)]; exact h.2.2.2.1, h.2.2.2.2.trans (g.mono h.2.2.2.2.size)⟩
  refine region_cut (R := fun a' W => W.heap[w.heap.size + 1 + 1]? = some (.cells C 37 (0, 0)) ∧ Below w.heap.size w W ∧ a' = ⟨#[.agg c, .agg #[.int .i64 25, .slice (some ⟨b, 0, none⟩) 1 1], .bool true, .int .u16 dt, .pointer (some ⟨w.heap.size, 0, none⟩), .pointer (some ⟨w.heap.size + 1, 0, none⟩), undef, undef, .pointer (some ⟨w.heap.size + 1 + 1, 0, none⟩), .func (.func 42) #[] #[.pointer (some ⟨w.heap.size, 0, none⟩), .pointer (some ⟨w.heap.size + 1 + 1, 0, none⟩)], .agg #[.int .i64 25, .slice (some ⟨b, 0, none⟩) 1 1], .iface 114 (.agg #[.iface 124 (.agg #[.int .i64 4, .int .i64 n, .int .i64 0, .int .i64 0, .int .i64 0, .int .i64 0, .int .i64 0, .int .i64 0, .int .i64 0])]), .agg c, .bool true, .int .u16 dt, .agg C], [{ target := .fn (.func 42) #[.pointer (some ⟨w.heap.size, 0, none⟩), .pointer (some ⟨w.heap.size + 1 + 1, 0, none⟩)], args := #[] }]⟩) ?_ ?_
  · have S0 : S w0.drew := (HS.out _).2 ⟨h1, h2, h0, by rw [show w0.drew.heap = w0.heap from rfl, h3]; rfl, bl.drew⟩
    refine wp_region_held_drew (S := S) (by kernel_rfl) S0 (fun S0 => ?_)
    show wpAnyH _ _ _ _ _ 7 #[false, false, false, false, false, false, false] _ _
    refine tk_load' (i := 0) rfl (by kernel_rfl) (by kernel_rfl) (by kernel_rfl) (fun _ _ _ _ h => nomatch h.1) rfl 56 _ rfl _ _ rfl (.agg #[.int .i64 25, .slice (some ⟨b, 0, none⟩) 1 1]) (fun W hW => load_all ((HS.out W).1 hW).2.1 _ _ Tryd.underlying56 rfl info_elem) S0 #[true, false, false, false, false, false, false] rfl ⟨#[.agg c, .agg #[.int .i64 25, .slice (some ⟨b, 0, none⟩) 1 1], .bool true, .int .u16 dt, .pointer (some ⟨w.heap.size, 0, none⟩), .pointer (some ⟨w.heap.size + 1, 0, none⟩), undef, undef, .pointer (some ⟨w.heap.size + 1 + 1, 0, none⟩), .func (.func 42) #[] #[.pointer (some ⟨w.heap.size, 0, none⟩), .pointer (some ⟨w.heap.size + 1 + 1, 0, none⟩)], .agg #[.int .i64 25, .slice (some ⟨b, 0, none⟩) 1 1], undef, undef, undef, undef, undef], [{ target := .fn (.func 42) #[.pointer (some ⟨w.heap.size, 0, none⟩), .pointer (some ⟨w.heap.size + 1 + 1, 0, none⟩)], args := #[] }]⟩ rfl ?_
    refine tk_load' (i := 2) rfl (by kernel_rfl) (by kernel_rfl) (by kernel_rfl) (fun _ _ _ _ h => nomatch h.1) rfl 37 _ rfl _ _ rfl (.agg c) (fun W hW => load_all ((HS.out W).1 hW).1 _ _ Tryd.underlying37 rfl HI.out) S0 #[true, false, true, false, false, false, false] rfl ⟨#[.agg c, .agg #[.int .i64 25, .slice (some ⟨b, 0, none⟩) 1 1], .bool true, .int .u16 dt, .pointer (some ⟨w.heap.size, 0, none⟩), .pointer (some ⟨w.heap.size + 1, 0, none⟩), undef, undef, .pointer (some ⟨w.heap.size + 1 + 1, 0, none⟩), .func (.func 42) #[] #[.pointer (some ⟨w.heap.size, 0, none⟩), .pointer (some ⟨w.heap.size + 1 + 1, 0, none⟩)], .agg #[.int .i64 25, .slice (some ⟨b, 0, none⟩) 1 1], undef, .agg c, undef, undef, undef], [{ target := .fn (.func 42) #[.pointer (some ⟨w.heap.size, 0, none⟩), .pointer (some ⟨w.heap.size + 1 + 1, 0, none⟩)], args := #[] }]⟩ rfl ?_
    refine tk_val' (i := 3) rfl (by kernel_rfl) (by kernel_rfl) (by kernel_rfl) (fun _ _ _ _ h => nomatch h.1) rfl (.bool true) (fun W _ => by go_simp) S0 #[true, false, true, true, false, false, false] rfl ⟨#[.agg c, .agg #[.int .i64 25, .slice (some ⟨b, 0, none⟩) 1 1], .bool true, .int .u16 dt, .pointer (some ⟨w.heap.size, 0, none⟩), .pointer (some ⟨w.heap.size + 1, 0, none⟩), undef, undef, .pointer (some ⟨w.heap.size + 1 + 1, 0, none⟩), .func (.func 42) #[] #[.pointer (some ⟨w.heap.size, 0, none⟩), .pointer (some ⟨w.heap.size + 1 + 1, 0, none⟩)], .agg #[.int .i64 25, .slice (some ⟨b, 0, none⟩) 1 1], undef, .agg c, .bool true, undef, undef], [{ target := .fn (.func 42) #[.pointer (some ⟨w.heap.size, 0, none⟩), .pointer (some ⟨w.heap.size + 1 + 1, 0, none⟩)], args := #[] }]⟩ rfl ?_
    refine tk_val' (i := 4) rfl (by kernel_rfl) (by kernel_rfl) (by kernel_rfl) (fun _ _ _ _ h => nomatch h.1) rfl (.int .u16 dt) (fun W _ => by go_simp) S0 #[true, false, true, true, true, false, false] rfl ⟨#[.agg c, .agg #[.int .i64 25, .slice (some ⟨b, 0, none⟩) 1 1], .bool true, .int .u16 dt, .pointer (some ⟨w.heap.size, 0, none⟩), .pointer (some ⟨w.heap.size + 1, 0, none⟩), undef, undef, .pointer (some ⟨w.heap.size + 1 + 1, 0, none⟩), .func (.func 42) #[] #[.pointer (some ⟨w.heap.size, 0, none⟩), .pointer (some ⟨w.heap.size + 1 + 1, 0, none⟩)], .agg #[.int .i64 25, .slice (some ⟨b, 0, none⟩) 1 1], undef, .agg c, .bool true, .int .u16 dt, undef], [{ target := .fn (.func 42) #[.pointer (some ⟨w.heap.size, 0, none⟩), .pointer (some ⟨w.heap.size + 1 + 1, 0, none⟩)], args := #[] }]⟩ rfl ?_
    refine wpAnyH_all (rs := [1]) (by kernel_rfl) (by simp) (fun i hi => ?_)
    obtain rfl := List.mem_singleton.1 hi
    refine up_fcall' rfl rfl Tryd.func41 (by kernel_rfl) (by kernel_rfl) rfl [.agg #[.int .i64 25, .slice (some ⟨b, 0, none⟩) 1 1]] rfl #[true, true, true, true, true, false, false] rfl (.iface 114 (.agg #[.iface 124 (.agg #[.int .i64 4, .int .i64 n, .int .i64 0, .int .i64 0, .int .i64 0, .int .i64 0, .int .i64 0, .int .i64 0, .int .i64 0])])) ⟨#[.agg c, .agg #[.int .i64 25, .slice (some ⟨b, 0, none⟩) 1 1], .bool true, .int .u16 dt, .pointer (some ⟨w.heap.size, 0, none⟩), .pointer (some ⟨w.heap.size + 1, 0, none⟩), undef, undef, .pointer (some ⟨w.heap.size + 1 + 1, 0, none⟩), .func (.func 42) #[] #[.pointer (some ⟨w.heap.size, 0, none⟩), .pointer (some ⟨w.heap.size + 1 + 1, 0, none⟩)], .agg #[.int .i64 25, .slice (some ⟨b, 0, none⟩) 1 1], .iface 114 (.agg #[.iface 124 (.agg #[.int .i64 4, .int .i64 n, .int .i64 0, .int .i64 0, .int .i64 0, .int .i64 0, .int .i64 0, .int .i64 0, .int .i64 0])]), .agg c, .bool true, .int .u16 dt, undef], [{ target := .fn (.func 42) #[.pointer (some ⟨w.heap.size, 0, none⟩), .pointer (some ⟨w.heap.size + 1 + 1, 0, none⟩)], args := #[] }]⟩ rfl _ (sort25 n b t _ ((HS.out _).1 S0).2.2.1) ?_
    intro w1 g1
    have S1 := hSc.out _ _ S0 g1
    have k1 := (g1.block _ (by have := (Array.getElem?_eq_some_iff.1 h3).1; exact this)).trans (show w0.drew.heap[w.heap.size + 1 + 1]? = _ from h3)
    refine ⟨S1, ?_⟩
    refine wpAnyH_all (rs := [5]) (by kernel_rfl) (by simp) (fun i hi => ?_)
    obtain rfl := List.mem_singleton.1 hi
    refine up_inv' rfl rfl 113 #[.agg #[.iface 124 (.agg #[.int .i64 4, .int .i64 n, .int .i64 0, .int .i64 0, .int .i64 0, .int .i64 0, .int .i64 0, .int .i64 0, .int .i64 0])], .agg c, .bool true, .int .u16 dt] (by go_simp; kernel_rfl) #[true, true, true, true, true, true, false] rfl (.agg C) ⟨#[.agg c, .agg #[.int .i64 25, .slice (some ⟨b, 0, none⟩) 1 1], .bool true, .int .u16 dt, .pointer (some ⟨w.heap.size, 0, none⟩), .pointer (some ⟨w.heap.size + 1, 0, none⟩), undef, undef, .pointer (some ⟨w.heap.size + 1 + 1, 0, none⟩), .func (.func 42) #[] #[.pointer (some ⟨w.heap.size, 0, none⟩), .pointer (some ⟨w.heap.size + 1 + 1, 0, none⟩)], .agg #[.int .i64 25, .slice (some ⟨b, 0, none⟩) 1 1], .iface 114 (.agg #[.iface 124 (.agg #[.int .i64 4, .int .i64 n, .int .i64 0, .int .i64 0, .int .i64 0, .int .i64 0, .int .i64 0, .int .i64 0, .int .i64 0])]), .agg c, .bool true, .int .u16 dt, .agg C], [{ target := .fn (.func 42) #[.pointer (some ⟨w.heap.size, 0, none⟩), .pointer (some ⟨w.heap.size + 1 + 1, 0, none⟩)], args := #[] }]⟩ rfl _ (HP.out _ (HT.out.later ((HS.out _).1 S1).2.2.2.2)) ?_
    intro w2 g2
    have S2 := hSc.out _ _ S1 g2
    have k2 := (g2.block _ (Array.getElem?_eq_some_iff.1 k1).1).trans k1
    have hS2 := (HS.out _).1 S2
    refine ⟨S2, ?_⟩
    refine wpAnyH_all (rs := [6]) (by kernel_rfl) (by simp) (fun i hi => ?_)
    obtain rfl := List.mem_singleton.1 hi
    have S3 : S (w2.setRow (w.heap.size + 1 + 1) C) := (HS.out _).2 ⟨row_beside hS2.1 _ (by omega) _, row_beside hS2.2.1 _ (by omega) _, row_beside hS2.2.2.1 _ (by have := HLb.out; omega) _, by rw [row_set k2 C]; rfl, below_setRow hS2.2.2.2.2 (by omega) _⟩
    exact up_store' rfl rfl 37 _ _ rfl _ _ rfl _ rfl _ (store_all k2 _ _ (HZs.out.trans HCM.out.size.symm) HIC.out HCM.out.one) S3 #[true, true, true, true, true, true, true] rfl ⟨#[.agg c, .agg #[.int .i64 25, .slice (some ⟨b, 0, none⟩) 1 1], .bool true, .int .u16 dt, .pointer (some ⟨w.heap.size, 0, none⟩), .pointer (some ⟨w.heap.size + 1, 0, none⟩), undef, undef, .pointer (some ⟨w.heap.size + 1 + 1, 0, none⟩), .func (.func 42) #[] #[.pointer (some ⟨w.heap.size, 0, none⟩), .pointer (some ⟨w.heap.size + 1 + 1, 0, none⟩)], .agg #[.int .i64 25, .slice (some ⟨b, 0, none⟩) 1 1], .iface 114 (.agg #[.iface 124 (.agg #[.int .i64 4, .int .i64 n, .int .i64 0, .int .i64 0, .int .i64 0, .int .i64 0, .int .i64 0, .int .i64 0, .int .i64 0])]), .agg c, .bool true, .int .u16 dt, .agg C], [{ target := .fn (.func 42) #[.pointer (some ⟨w.heap.size, 0, none⟩), .pointer (some ⟨w.heap.size + 1 + 1, 0, none⟩)], args := #[] }]⟩ rfl (wpAnyH_done (by kernel_rfl) ⟨rfl, row_set k2 _, below_setRow hS2.2.2.2.2 (by omega) _, rfl⟩ _)
  rintro _ w3 ⟨k3, b3, rfl⟩
  have K3 : Hid (w3.heap[w.heap.size + 1 + 1]? = some (.cells C 37 (0, 0))) := k3
  have B3 : Hid (Below w.heap.size w w3) := b3
  clear h0 h1 h2 h3 bl k3 b3 hSc HS
  go_wp2
  refine leaves_cons (f := 42) (args := #[.pointer (some ⟨w.heap.size, 0, none⟩), .pointer (some ⟨w.heap.size + 1 + 1, 0, none⟩)]) (by simp) (by simp [go_sem]) ?_
  refine (catch_idle _ _ _).mono ?_
  rintro e u' w4 ⟨rfl, rfl, rfl⟩
  exact ⟨_, results_cell_row rfl _ _ _ _ _ _ _ rfl K3.out Tryd.underlying37 rfl HIC.out, rfl, B3.out⟩
end Go.Proofs.YtlpoplnghfohmaaDoor
