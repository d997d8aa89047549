/- Two memories that are drawn (DrawMemSame). -/
import Derived.Test.YteekbhhlgicpeaaDoorOc
import Derived.Test.YteekbhhlgicpeaaDoorMw
namespace Go.Proofs.YteekbhhlgicpeaaDoor
open Go.RowKit
set_option linter.unusedVariables false

/-- What stands while two memories are drawn: the reader, the rows of the results, the rows of both. -/
structure Ds (g ga gb p : Nat) (w W : World) (C D Z : Array Value) : Prop where
  rd : Reader (g + 1 + 1 + 1) W (g + 1 + 1) p
  bl : Below g w W
  o0 : W.heap[g]? = some (.cells Z 37 (0, 0))
  o1 : W.heap[g + 1]? = some (.cells Z 37 (0, 0))
  ra : W.heap[ga]? = some (.cells C 37 (0, 0))
  rb : W.heap[gb]? = some (.cells D 37 (0, 0))
  okC : MemOk C
  okD : MemOk D
  hga : g + 1 + 1 + 1 ≤ ga
  hgb : ga < gb
theorem Ds.lt {g ga gb p : Nat} {w W : World} {C D Z : Array Value} (h : Ds g ga gb p w W C D Z) : gb < W.heap.size := (Array.getElem?_eq_some_iff.1 h.rb).1
theorem Ds.step {g ga gb p q : Nat} {w W W1 : World} {C D Z : Array Value} (h : Ds g ga gb p w W C D Z) (hr : Reader (g + 1 + 1 + 1) W1 (g + 1 + 1) q) (k : W.grownBy W1 (some (g + 1 + 1))) : Ds g ga gb q w W1 C D Z :=
  have hl := h.lt
  have h1 := h.hga
  have h2 := h.hgb
  ⟨hr, h.bl.grown k (by omega) (fun j hj => by cases hj; omega), (k.block _ (by omega) (by simp <;> omega)).trans h.o0, (k.block _ (by omega) (by simp <;> omega)).trans h.o1, (k.block _ (by omega) (by simp <;> omega)).trans h.ra, (k.block _ (by omega) (by simp <;> omega)).trans h.rb, h.okC, h.okD, h1, h2⟩
theorem Ds.drew {g ga gb p : Nat} {w W : World} {C D Z : Array Value} (h : Ds g ga gb p w W C D Z) : Ds g ga gb p w W.drew C D Z := h.step h.rd.drew (gb_drew (gb_refl _ _))
theorem Ds.below {g ga gb p : Nat} {w W W1 : World} {C D Z : Array Value} (h : Ds g ga gb p w W C D Z) (k : Below W.heap.size W W1) : Ds g ga gb p w W1 C D Z :=
  have hl := h.lt
  have h1 := h.hga
  have h2 := h.hgb
  ⟨h.rd.kept (gb_below k) (fun j hj => by cases hj), h.bl.trans (k.mono (by omega)), (k.block _ (by omega)).trans h.o0, (k.block _ (by omega)).trans h.o1, (k.block _ (by omega)).trans h.ra, (k.block _ (by omega)).trans h.rb, h.okC, h.okD, h1, h2⟩
theorem Ds.put {g ga gb p : Nat} {w W : World} {C D Z : Array Value} (h : Ds g ga gb p w W C D Z) (i : Nat) (v : Value) (hv : CellIs (kd i) v) : Ds g ga gb p w (W.setCell ⟨gb, i, none⟩ v) C (D.setIfInBounds i v) Z :=
  have h1 := h.hga
  have h2 := h.hgb
  ⟨h.rd.set _ _ _ (by omega), h.bl.setCell (show g ≤ gb by omega) _, row_other h.o0 _ _ (by omega) _, row_other h.o1 _ _ (by omega) _, row_other h.ra _ _ (by omega) _, row_put h.rb _ _, h.okC, oa_set h.okD i hv, h1, h2⟩
theorem Ds.row {g ga gb p : Nat} {w W : World} {C D Z : Array Value} (h : Ds g ga gb p w W C D Z) {E : Array Value} (hE : MemOk E) : Ds g ga gb p w (W.setRow gb E) C E Z :=
  have h1 := h.hga
  have h2 := h.hgb
  ⟨h.rd.kept (gb_row _ _ _) (fun j hj => by cases hj; omega), below_setRow h.bl (by omega) _, row_beside h.o0 _ (by omega) _, row_beside h.o1 _ (by omega) _, row_beside h.ra _ (by omega) _, row_set h.rb _, h.okC, hE, h1, h2⟩
theorem Ds.cell {g ga gb p : Nat} {w W : World} {C D Z : Array Value} (h : Ds g ga gb p w W C D Z) (i : Nat) : W.cell? ⟨gb, i, none⟩ = D[i]? := cell_of_row _ _ _ _ _ _ h.rb
theorem Ds.frozen {g ga gb p : Nat} {w W : World} {C D Z : Array Value} (h : Ds g ga gb p w W C D Z) (i : Nat) : W.frozen? ⟨gb, i, none⟩ = false := by simp [World.frozen?, h.rb]

theorem wrap_i16_bd (n : Int) : -32768 ≤ IntKind.i16.wrap n ∧ IntKind.i16.wrap n < 32768 := by
  have e : IntKind.i16.wrap n = if n % 65536 ≥ 32768 then n % 65536 - 65536 else n % 65536 := by simp [IntKind.wrap, IntKind.bits, IntKind.signed]
  rw [e]; split <;> omega
theorem wrap_u16_bd (n : Int) : 0 ≤ IntKind.u16.wrap n ∧ IntKind.u16.wrap n < 65536 := by
  have e : IntKind.u16.wrap n = n % 65536 := by simp [IntKind.wrap, IntKind.bits, IntKind.signed]
  rw [e]; omega
/-- A load, where its turn has come. -/
theorem up_load' {P : Program} {ops : Array Oper} {Q : Exit → Act → World → Prop} {S : World → Prop} {md : Region.Mode} {i : Nat} {o : Oper} {fuel : Nat} {listed : Array Bool} {a : Act} {w : World} (ho : ops[i]? = some o) (hw : Region.wanted o (yielded ops a.tmps) = true) (ty : TypeId) (x : Operand) (hop : o.op = .load ty x)
    (g f : Nat) (hx : a.eval x = .pointer (some ⟨g, f, none⟩)) (v : Value) (hrun : (loadVar ty ⟨g, f, none⟩).run P w = .ok v w) (hS : S w) (l' : Array Bool) (hl : listed.setIfInBounds i true = l') (a' : Act) (ha : a.put o.dst v = a') (h : wpAnyH P md ops Q S fuel l' a' w) :
    wpOp P ops Q i (fun a' w' => S w' ∧ wpAnyH P md ops Q S fuel (listed.setIfInBounds i true) a' w') a w :=
  up_val' ho hw v w (by unfold execOp; simp only [hop, hx, Instr.loadAt, Instr.sureAddr, Sem.run_bind, Sem.run_pure, Result.andThen_ok, hrun]) hS l' hl a' ha h

theorem memOk_putb {c : Array Value} (hc : MemOk c) (k n : Int) (b : Bool) : MemOk (putb c k n b) := by
  unfold putb
  split
  · rename_i hk; subst hk
    obtain ⟨X, hx, x0, x1⟩ := hc.u32 (i := 1) (by omega) rfl
    obtain ⟨q0, q1⟩ := pl_lt 2 n (by decide)
    rw [show kZ 2 = 32 from rfl] at q1
    have := bput_bd X.toNat (pl 2 n).toNat 32 b (by omega) (by simp; omega) (by omega)
    rw [show ((X.toNat : Nat) : Int) = X by omega, show (((pl 2 n).toNat : Nat) : Int) = pl 2 n by omega] at this
    refine oa_set hc 1 ?_
    rw [word_of hx, show kd 1 = 32 from rfl]
    simp [CellIs, Value.oneCell']
    exact ⟨this.1, by simpa using this.2⟩
  split
  · rename_i _ hk; subst hk
    obtain ⟨X, hx, x0, x1⟩ := hc.u64 (i := 2) (by omega) rfl
    obtain ⟨q0, q1⟩ := pl_lt 3 n (by decide)
    rw [show kZ 3 = 64 from rfl] at q1
    have := bput_bd X.toNat (pl 3 n).toNat 64 b (by omega) (by simp; omega) (by omega)
    rw [show ((X.toNat : Nat) : Int) = X by omega, show (((pl 3 n).toNat : Nat) : Int) = pl 3 n by omega] at this
    refine oa_set hc 2 ?_
    rw [word_of hx, show kd 2 = 64 from rfl]
    simp [CellIs, Value.oneCell']
    exact ⟨this.1, by simpa using this.2⟩
  split
  · rename_i _ _ hk; subst hk
    obtain ⟨X, hx, x0, x1⟩ := hc.u16 (i := 3) (by omega) rfl
    obtain ⟨q0, q1⟩ := pl_lt 4 n (by decide)
    rw [show kZ 4 = 16 from rfl] at q1
    have := bput_bd X.toNat (pl 4 n).toNat 16 b (by omega) (by simp; omega) (by omega)
    rw [show ((X.toNat : Nat) : Int) = X by omega, show (((pl 4 n).toNat : Nat) : Int) = pl 4 n by omega] at this
    refine oa_set hc 3 ?_
    rw [word_of hx, show kd 3 = 16 from rfl]
    simp [CellIs, Value.oneCell']
    exact ⟨this.1, by simpa using this.2⟩
  split
  · rename_i _ _ _ hk; subst hk
    obtain ⟨X, hx, x0, x1⟩ := hc.u32 (i := 4) (by omega) rfl
    obtain ⟨q0, q1⟩ := pl_lt 5 n (by decide)
    rw [show kZ 5 = 32 from rfl] at q1
    have := bput_bd X.toNat (pl 5 n).toNat 32 b (by omega) (by simp; omega) (by omega)
    rw [show ((X.toNat : Nat) : Int) = X by omega, show (((pl 5 n).toNat : Nat) : Int) = pl 5 n by omega] at this
    refine oa_set hc 4 ?_
    rw [word_of hx, show kd 4 = 32 from rfl]
    simp [CellIs, Value.oneCell']
    exact ⟨this.1, by simpa using this.2⟩
  · exact hc

/-- Two drawn memories. -/
def IsMems (e : Ending) : Prop := ∃ c d, MemOk c ∧ MemOk d ∧ e = .returned (.tuple #[.agg c, .agg d])

set_option maxRecDepth 10000 in
set_option maxHeartbeats 4000000 in
theorem drawsame_r {a : Option Addr} {len cap blk off : Nat} {z : Nat → Int} (w : World) (h : Code0 w a len cap blk off z) :
    Calls Tryd.prog 5 #[.slice a len cap] w fun e w' => IsMems e ∧ Below w.heap.size w w' := by
  have hz := zero_mem.1
  obtain ⟨Z, HZ⟩ : ∃ Z, Hid (Z = memZero) := ⟨_, rfl⟩
  rw [← HZ.out] at hz
  have HZs : Hid (Z.size = 136) := (by rw [HZ.out, memZero_size] : Z.size = 136)
  have b0 : Below w.heap.size w ((w.alloc (.cells Z 37)).alloc (.cells Z 37)) := ((Below.refl _ _).alloc (Nat.le_refl _) _).alloc (by simp) _
  have r0 := rows2 w (.cells Z 37) (.cells Z 37)
  go_enter Tryd.func5, Tryd.ntmps5
  go_wp2_with fail
  refine ((h.later b0).open).mono ?_
  rintro e w1 ⟨rfl, hR, g1⟩
  have h1 : Reader (w.heap.size + 1 + 1 + 1) w1 (w.heap.size + 1 + 1) 0 := by simpa using hR
  have b1 : Below w.heap.size w w1 := b0.trans (g1.mono b0.size)
  have k1 : w1.heap[w.heap.size]? = some (.cells Z 37 (0, 0)) := (g1.block _ (by simp <;> omega)).trans r0.1
  have j1 : w1.heap[w.heap.size + 1]? = some (.cells Z 37 (0, 0)) := (g1.block _ (by simp <;> omega)).trans r0.2
  have l1 : w.heap.size + 1 + 1 + 1 ≤ w1.heap.size := h1.2.1
  clear g1 hR b0 r0 h
  go_wp2_with fail
  refine (draw5_r _ _ 0 _ h1 (by omega)).mono ?_
  rintro e w2 ⟨⟨c, hc, rfl⟩, ⟨q2, hq2, h2⟩, g2⟩
  have b2 : Below w.heap.size w w2 := b1.grown g2 b1.size (fun j hj => by cases hj; omega)
  have k2 : w2.heap[w.heap.size]? = some (.cells Z 37 (0, 0)) := (g2.block _ (by omega) (by simp <;> omega)).trans k1
  have j2 : w2.heap[w.heap.size + 1]? = some (.cells Z 37 (0, 0)) := (g2.block _ (by omega) (by simp <;> omega)).trans j1
  have l2 : w.heap.size + 1 + 1 + 1 ≤ w2.heap.size := h2.2.1
  clear g2 k1 j1 b1 h1
  have HIC : Hid ((Tryd.prog.info? 37).map (·.size) = some c.size) := by rw [hc.size]; exact zero_mem.2
  obtain ⟨u, HU⟩ : ∃ u, Hid (u = (w2.alloc (.cells Z 37)).setRow w2.heap.size c) := ⟨_, rfl⟩
  have HS1 : Hid ((storeVar 37 ⟨w2.heap.size, 0, none⟩ (.agg c)).run Tryd.prog (w2.alloc (.cells Z 37)) = .ok () u) := by rw [HU.out]; exact store_all (heap_alloc_last w2 _) _ _ (HZs.out.trans hc.size.symm) HIC.out hc.one
  have bu : Below w.heap.size w u := by rw [HU.out]; exact below_setRow (b2.alloc (by omega) _) (by omega) _
  have ku : u.heap[w.heap.size]? = some (.cells Z 37 (0, 0)) := by rw [HU.out]; exact row_beside ((heap_alloc_old w2 _ (by omega)).trans k2) _ (by omega) _
  have ju : u.heap[w.heap.size + 1]? = some (.cells Z 37 (0, 0)) := by rw [HU.out]; exact row_beside ((heap_alloc_old w2 _ (by omega)).trans j2) _ (by omega) _
  have iu : u.heap[w2.heap.size]? = some (.cells c 37 (0, 0)) := by rw [HU.out]; exact row_set (heap_alloc_last w2 _) _
  have hu : Reader (w.heap.size + 1 + 1 + 1) u (w.heap.size + 1 + 1) q2 := by rw [HU.out]; exact (h2.alloc _).kept (gb_row _ _ _) (fun j hj => by cases hj; omega)
  have lu : w2.heap.size < u.heap.size := (Array.getElem?_eq_some_iff.1 iu).1
  have HLD : Hid ((loadVar 37 ⟨w2.heap.size, 0, none⟩).run Tryd.prog u = .ok (.agg c) u) := load_all iu _ _ Tryd.underlying37 rfl HIC.out
  clear HU b2 k2 j2 h2
  obtain ⟨u2, HU2⟩ : ∃ u2, Hid (u2 = (u.alloc (.cells Z 37)).setRow u.heap.size c) := ⟨_, rfl⟩
  have HS2 : Hid ((storeVar 37 ⟨u.heap.size, 0, none⟩ (.agg c)).run Tryd.prog (u.alloc (.cells Z 37)) = .ok () u2) := by rw [HU2.out]; exact store_all (heap_alloc_last u _) _ _ (HZs.out.trans hc.size.symm) HIC.out hc.one
  have D0 : Ds w.heap.size w2.heap.size u.heap.size q2 w u2 c c Z := by
    rw [HU2.out]
    exact ⟨(hu.alloc _).kept (gb_row _ _ _) (fun j hj => by cases hj; omega), below_setRow (bu.alloc (by omega) _) (by omega) _, row_beside ((heap_alloc_old u _ (by omega)).trans ku) _ (by omega) _, row_beside ((heap_alloc_old u _ (by omega)).trans ju) _ (by omega) _, row_beside ((heap_alloc_old u _ (by omega)).trans iu) _ (by omega) _, row_set (heap_alloc_last u _) _, hc, hc, by omega, by omega⟩
  clear HU2 bu ku ju iu hu hc
  go_wp2_with (first | (refine wpL_store rfl 37 _ _ rfl _ _ rfl _ rfl _ HS1.out ?_) | (refine wpL_load rfl 37 _ rfl _ _ rfl _ HLD.out ?_) | (refine wpL_store rfl 37 _ _ rfl _ _ rfl _ rfl _ HS2.out ?_) | fail)
  clear HS1 HLD HS2 hz
  obtain ⟨gb, HGB⟩ : ∃ g, Hid (g = u.heap.size) := ⟨_, rfl⟩
  rw [← HGB.out] at D0 ⊢
  clear HGB lu
  obtain ⟨ga, HGA⟩ : ∃ g, Hid (g = w2.heap.size) := ⟨_, rfl⟩
  rw [← HGA.out] at D0 ⊢
  clear HGA l1 l2
  refine (pick_r _ _ _ 16 _ D0.rd (by omega) (by omega) (by omega)).mono ?_
  rintro e w3 ⟨r7, hr7, rfl, h3, g3⟩
  have D1 := D0.step h3 g3
  clear D0 h3 g3
  go_wp2_with fail
  refine (pick_r _ _ _ 8 _ D1.rd (by omega) (by omega) (by omega)).mono ?_
  rintro e w4 ⟨r8, hr8, rfl, h4, g4⟩
  have D2 := D1.step h4 g4
  clear D1 h4 g4
  have m0 : (0 : Int) ≤ (r7 : Int) := by omega
  have m1 : (r7 : Int) < 16 := by omega
  have m2 : r7 < 16 := by omega
  go_upto_if 17 with fail
  rename_i Kc hKc
  have FIN : Hid (∀ (q : Nat) (D : Array Value) (W : World) (t17 t18 t19 t20 t21 t22 t23 t24 t25 t26 t27 t28 t29 t30 t31 t32 t33 t34 t35 t36 t37 t38 t39 t40 t41 t42 t43 t44 t45 t46 t47 t48 t49 t50 t51 t52 t53 t54 t55 t56 t57 t58 t59 t60 t61 t62 t63 t64 t65 t66 t67 t68 t69 t70 t71 t72 : Value), Ds w.heap.size ga gb q w W c D Z → Kc ⟨#[.slice a len cap, undef, .pointer (some ⟨w.heap.size, 0, none⟩), .pointer (some ⟨w.heap.size + 1, 0, none⟩), .pointer (some ⟨w.heap.size + 1 + 1, 0, none⟩), .pointer (some ⟨ga, 0, none⟩), .pointer (some ⟨gb, 0, none⟩), .int .i64 (r7 : Int), .slice a len cap, .pointer (some ⟨w.heap.size + 1 + 1, 0, none⟩), .pointer (some ⟨w.heap.size + 1 + 1, 0, none⟩), .agg c, .agg c, .pointer (some ⟨w.heap.size + 1 + 1, 0, none⟩), .int .i64 (r7 : Int), .pointer (some ⟨w.heap.size + 1 + 1, 0, none⟩), .int .i64 (r8 : Int), t17, t18, t19, t20, t21, t22, t23, t24, t25, t26, t27, t28, t29, t30, t31, t32, t33, t34, t35, t36, t37, t38, t39, t40, t41, t42, t43, t44, t45, t46, t47, t48, t49, t50, t51, t52, t53, t54, t55, t56, t57, t58, t59, t60, t61, t62, t63, t64, t65, t66, t67, t68, t69, t70, t71, t72], []⟩ W) := by
    intro q D W t17 t18 t19 t20 t21 t22 t23 t24 t25 t26 t27 t28 t29 t30 t31 t32 t33 t34 t35 t36 t37 t38 t39 t40 t41 t42 t43 t44 t45 t46 t47 t48 t49 t50 t51 t52 t53 t54 t55 t56 t57 t58 t59 t60 t61 t62 t63 t64 t65 t66 t67 t68 t69 t70 t71 t72 hD
    refine hKc _ _ ?_
    clear hKc D2
    have HID : Hid ((Tryd.prog.info? 37).map (·.size) = some D.size) := by rw [hD.okD.size]; exact zero_mem.2
    obtain ⟨S, HS⟩ : ∃ S : World → Prop, Hid (∀ W, S W ↔ W.heap[ga]? = some (.cells c 37 (0, 0)) ∧ W.heap[gb]? = some (.cells D 37 (0, 0))) := ⟨_, fun W => Iff.rfl⟩
    go_upto_region 18 with fail
    refine region_cut (R := fun a' W' => W'.heap[w.heap.size]? = some (.cells c 37 (0, 0)) ∧ W'.heap[w.heap.size + 1]? = some (.cells D 37 (0, 0)) ∧ Below w.heap.size w W' ∧ a' = ⟨#[.slice a len cap, undef, .pointer (some ⟨w.heap.size, 0, none⟩), .pointer (some ⟨w.heap.size + 1, 0, none⟩), .pointer (some ⟨w.heap.size + 1 + 1, 0, none⟩), .pointer (some ⟨ga, 0, none⟩), .pointer (some ⟨gb, 0, none⟩), .int .i64 (r7 : Int), .slice a len cap, .pointer (some ⟨w.heap.size + 1 + 1, 0, none⟩), .pointer (some ⟨w.heap.size + 1 + 1, 0, none⟩), .agg c, .agg c, .pointer (some ⟨w.heap.size + 1 + 1, 0, none⟩), .int .i64 (r7 : Int), .pointer (some ⟨w.heap.size + 1 + 1, 0, none⟩), .int .i64 (r8 : Int), t17, t18, t19, t20, t21, t22, t23, t24, t25, t26, t27, t28, t29, t30, t31, t32, t33, t34, t35, t36, t37, t38, t39, t40, t41, t42, t43, t44, t45, t46, t47, t48, t49, t50, t51, t52, t53, t54, t55, t56, t57, t58, t59, t60, t61, t62, t63, t64, t65, t66, t67, t68, t69, t70, .agg c, .agg D], []⟩) ?_ ?_
    · refine wp_region_held_drew (S := S) (by kernel_rfl) ((HS.out _).2 ⟨hD.ra, hD.rb⟩) (fun S0 => ?_)
      show wpAnyH _ _ _ _ _ 4 #[false, false, false, false] _ _
      refine tk_load' (i := 0) rfl (by kernel_rfl) (by kernel_rfl) (by kernel_rfl) (fun _ _ _ _ h => nomatch h.1) rfl 37 _ rfl _ _ rfl (.agg c) (fun W hW => load_all ((HS.out W).1 hW).1 _ _ Tryd.underlying37 rfl HIC.out) S0 #[true, false, false, false] rfl ⟨#[.slice a len cap, undef, .pointer (some ⟨w.heap.size, 0, none⟩), .pointer (some ⟨w.heap.size + 1, 0, none⟩), .pointer (some ⟨w.heap.size + 1 + 1, 0, none⟩), .pointer (some ⟨ga, 0, none⟩), .pointer (some ⟨gb, 0, none⟩), .int .i64 (r7 : Int), .slice a len cap, .pointer (some ⟨w.heap.size + 1 + 1, 0, none⟩), .pointer (some ⟨w.heap.size + 1 + 1, 0, none⟩), .agg c, .agg c, .pointer (some ⟨w.heap.size + 1 + 1, 0, none⟩), .int .i64 (r7 : Int), .pointer (some ⟨w.heap.size + 1 + 1, 0, none⟩), .int .i64 (r8 : Int), t17, t18, t19, t20, t21, t22, t23, t24, t25, t26, t27, t28, t29, t30, t31, t32, t33, t34, t35, t36, t37, t38, t39, t40, t41, t42, t43, t44, t45, t46, t47, t48, t49, t50, t51, t52, t53, t54, t55, t56, t57, t58, t59, t60, t61, t62, t63, t64, t65, t66, t67, t68, t69, t70, .agg c, t72], []⟩ rfl ?_
      refine tk_load' (i := 1) rfl (by kernel_rfl) (by kernel_rfl) (by kernel_rfl) (fun _ _ _ _ h => nomatch h.1) rfl 37 _ rfl _ _ rfl (.agg D) (fun W hW => load_all ((HS.out W).1 hW).2 _ _ Tryd.underlying37 rfl HID.out) S0 #[true, true, false, false] rfl ⟨#[.slice a len cap, undef, .pointer (some ⟨w.heap.size, 0, none⟩), .pointer (some ⟨w.heap.size + 1, 0, none⟩), .pointer (some ⟨w.heap.size + 1 + 1, 0, none⟩), .pointer (some ⟨ga, 0, none⟩), .pointer (some ⟨gb, 0, none⟩), .int .i64 (r7 : Int), .slice a len cap, .pointer (some ⟨w.heap.size + 1 + 1, 0, none⟩), .pointer (some ⟨w.heap.size + 1 + 1, 0, none⟩), .agg c, .agg c, .pointer (some ⟨w.heap.size + 1 + 1, 0, none⟩), .int .i64 (r7 : Int), .pointer (some ⟨w.heap.size + 1 + 1, 0, none⟩), .int .i64 (r8 : Int), t17, t18, t19, t20, t21, t22, t23, t24, t25, t26, t27, t28, t29, t30, t31, t32, t33, t34, t35, t36, t37, t38, t39, t40, t41, t42, t43, t44, t45, t46, t47, t48, t49, t50, t51, t52, t53, t54, t55, t56, t57, t58, t59, t60, t61, t62, t63, t64, t65, t66, t67, t68, t69, t70, .agg c, .agg D], []⟩ rfl ?_
      refine wpAnyH_all (rs := [2]) (by kernel_rfl) (by simp) (fun i hi => ?_)
      obtain rfl := List.mem_singleton.1 hi
      have S1 : S (W.drew.setRow w.heap.size c) := (HS.out _).2 ⟨row_beside hD.ra _ (by have := hD.hga; omega) _, row_beside hD.rb _ (by have := hD.hga; have := hD.hgb; omega) _⟩
      refine up_store' rfl rfl 37 _ _ rfl _ _ rfl _ rfl _ (store_all (w := W.drew) hD.o0 _ _ (HZs.out.trans hD.okC.size.symm) HIC.out hD.okC.one) S1 #[true, true, true, false] rfl ⟨#[.slice a len cap, undef, .pointer (some ⟨w.heap.size, 0, none⟩), .pointer (some ⟨w.heap.size + 1, 0, none⟩), .pointer (some ⟨w.heap.size + 1 + 1, 0, none⟩), .pointer (some ⟨ga, 0, none⟩), .pointer (some ⟨gb, 0, none⟩), .int .i64 (r7 : Int), .slice a len cap, .pointer (some ⟨w.heap.size + 1 + 1, 0, none⟩), .pointer (some ⟨w.heap.size + 1 + 1, 0, none⟩), .agg c, .agg c, .pointer (some ⟨w.heap.size + 1 + 1, 0, none⟩), .int .i64 (r7 : Int), .pointer (some ⟨w.heap.size + 1 + 1, 0, none⟩), .int .i64 (r8 : Int), t17, t18, t19, t20, t21, t22, t23, t24, t25, t26, t27, t28, t29, t30, t31, t32, t33, t34, t35, t36, t37, t38, t39, t40, t41, t42, t43, t44, t45, t46, t47, t48, t49, t50, t51, t52, t53, t54, t55, t56, t57, t58, t59, t60, t61, t62, t63, t64, t65, t66, t67, t68, t69, t70, .agg c, .agg D], []⟩ rfl ?_
      refine wpAnyH_all (rs := [3]) (by kernel_rfl) (by simp) (fun i hi => ?_)
      obtain rfl := List.mem_singleton.1 hi
      have j5 := row_beside (W := W.drew) hD.o1 w.heap.size (by omega) c
      have S2 : S ((W.drew.setRow w.heap.size c).setRow (w.heap.size + 1) D) := (HS.out _).2 ⟨row_beside ((HS.out _).1 S1).1 _ (by have := hD.hga; omega) _, row_beside ((HS.out _).1 S1).2 _ (by have := hD.hga; have := hD.hgb; omega) _⟩
      refine up_store' rfl rfl 37 _ _ rfl _ _ rfl _ rfl _ (store_all j5 _ _ (HZs.out.trans hD.okD.size.symm) HID.out hD.okD.one) S2 #[true, true, true, true] rfl ⟨#[.slice a len cap, undef, .pointer (some ⟨w.heap.size, 0, none⟩), .pointer (some ⟨w.heap.size + 1, 0, none⟩), .pointer (some ⟨w.heap.size + 1 + 1, 0, none⟩), .pointer (some ⟨ga, 0, none⟩), .pointer (some ⟨gb, 0, none⟩), .int .i64 (r7 : Int), .slice a len cap, .pointer (some ⟨w.heap.size + 1 + 1, 0, none⟩), .pointer (some ⟨w.heap.size + 1 + 1, 0, none⟩), .agg c, .agg c, .pointer (some ⟨w.heap.size + 1 + 1, 0, none⟩), .int .i64 (r7 : Int), .pointer (some ⟨w.heap.size + 1 + 1, 0, none⟩), .int .i64 (r8 : Int), t17, t18, t19, t20, t21, t22, t23, t24, t25, t26, t27, t28, t29, t30, t31, t32, t33, t34, t35, t36, t37, t38, t39, t40, t41, t42, t43, t44, t45, t46, t47, t48, t49, t50, t51, t52, t53, t54, t55, t56, t57, t58, t59, t60, t61, t62, t63, t64, t65, t66, t67, t68, t69, t70, .agg c, .agg D], []⟩ rfl ?_
      exact wpAnyH_done (by kernel_rfl) ⟨rfl, row_beside (row_set (W := W.drew) hD.o0 _) _ (by omega) _, row_set j5 _, below_setRow (below_setRow (w := W.drew) hD.bl.drew (Nat.le_refl _) _) (by omega) _, rfl⟩ _
    rintro _ w5 ⟨k5, j5, b5, rfl⟩
    have HLa : Hid ((loadVar 37 ⟨w.heap.size, 0, none⟩).run Tryd.prog w5 = .ok (.agg c) w5) := load_all k5 _ _ Tryd.underlying37 rfl HIC.out
    have HLb : Hid ((loadVar 37 ⟨w.heap.size + 1, 0, none⟩).run Tryd.prog w5 = .ok (.agg D) w5) := load_all j5 _ _ Tryd.underlying37 rfl HID.out
    have HB : Hid (Below w.heap.size w w5) := b5
    have HM : Hid (MemOk c ∧ MemOk D) := ⟨hD.okC, hD.okD⟩
    clear k5 j5 b5 HS hD
    go_wp2_with (first | exact ret_row2 rfl rfl rfl HLa.out HLb.out rfl ⟨⟨c, D, HM.out.1, HM.out.2, rfl⟩, HB.out⟩ | fail)
  clear hKc
  have hc := D2.okC
  rcases (by omega : r8 = 0 ∨ r8 = 1 ∨ r8 = 2 ∨ r8 = 3 ∨ r8 = 4 ∨ r8 = 5 ∨ 6 ≤ r8) with h8 | h8 | h8 | h8 | h8 | h8 | h8
  · have e0 : ((r8 : Int) == 0) = true := by rw [h8]; rfl
    clear h8
    go_wp2_with fail
    refine (real_r _ _ _ _ D2.rd (by omega)).mono ?_
    rintro e w5 ⟨v, rfl, hv, ⟨q, hq, hd⟩, gr⟩
    have D3 := D2.step hd gr
    clear D2 hd gr
    obtain ⟨x, hx, _⟩ := D3.okD.f64 (i := 117 + r7) (by omega) (kd_r m2)
    have cx := (D3.cell (117 + r7)).trans hx
    have zx := D3.frozen (117 + r7)
    have st : (Go.store ⟨gb, 117 + r7, none⟩ (.float .f64 v)).run Tryd.prog w5 = .ok () (w5.setCell ⟨gb, 117 + r7, none⟩ (.float .f64 v)) := by rw [run_store _ _ _ _ _ rfl, cx]; simp [zx]
    have D4 := D3.put (117 + r7) (.float .f64 v) (is_f64 hv (kd_r m2))
    clear D3
    go_wp2_with fail
    exact FIN.out _ _ _ _ _ _ _ _ _ _ _ _ _ _ _ _ _ _ _ _ _ _ _ _ _ _ _ _ _ _ _ _ _ _ _ _ _ _ _ _ _ _ _ _ _ _ _ _ _ _ _ _ _ _ _ _ _ _ _ (D4)
  · have e0 : ((r8 : Int) == 0) = false := by rw [h8]; rfl
    have e1 : ((r8 : Int) == 1) = true := by rw [h8]; rfl
    clear h8
    obtain ⟨x, hx, x0, x1⟩ := D2.okD.i16 (i := 85 + r7) (by omega) (kd_d (by omega))
    have cx := (D2.cell (85 + r7)).trans hx
    have zx := D2.frozen (85 + r7)
    have D3 := D2.put (85 + r7) (.int .i16 (IntKind.i16.wrap (x + 1))) (is_i16 (wrap_i16_bd _) (kd_d (by omega)))
    clear D2
    go_wp2_with fail
    exact FIN.out _ _ _ _ _ _ _ _ _ _ _ _ _ _ _ _ _ _ _ _ _ _ _ _ _ _ _ _ _ _ _ _ _ _ _ _ _ _ _ _ _ _ _ _ _ _ _ _ _ _ _ _ _ _ _ _ _ _ _ (D3)
  · have e0 : ((r8 : Int) == 0) = false := by rw [h8]; rfl
    have e1 : ((r8 : Int) == 1) = false := by rw [h8]; rfl
    have e2 : ((r8 : Int) == 2) = true := by rw [h8]; rfl
    clear h8
    obtain ⟨x, hx⟩ := D2.okD.bool (i := 37 + 3 * r7 + 1) (by omega) (kd_c m2).2.1
    have cx : w4.cell? ⟨gb, 37 + r7 * 3 + 1, none⟩ = some (.bool x) := by rw [Nat.mul_comm r7]; exact (D2.cell _).trans hx
    have zx := D2.frozen (37 + r7 * 3 + 1)
    have D3 := D2.put (37 + r7 * 3 + 1) (.bool (!x)) (is_bool _ (by rw [Nat.mul_comm]; exact (kd_c m2).2.1))
    clear D2
    go_wp2_with fail
    exact FIN.out _ _ _ _ _ _ _ _ _ _ _ _ _ _ _ _ _ _ _ _ _ _ _ _ _ _ _ _ _ _ _ _ _ _ _ _ _ _ _ _ _ _ _ _ _ _ _ _ _ _ _ _ _ _ _ _ _ _ _ (D3)
  · have e0 : ((r8 : Int) == 0) = false := by rw [h8]; rfl
    have e1 : ((r8 : Int) == 1) = false := by rw [h8]; rfl
    have e2 : ((r8 : Int) == 2) = false := by rw [h8]; rfl
    have e3 : ((r8 : Int) == 3) = true := by rw [h8]; rfl
    clear h8
    obtain ⟨x, hx, x0, x1⟩ := D2.okD.u16 (i := 5 + 2 * r7 + 1) (by omega) (kd_t m2).2
    have cx : w4.cell? ⟨gb, 5 + r7 * 2 + 1, none⟩ = some (.int .u16 x) := by rw [Nat.mul_comm r7]; exact (D2.cell _).trans hx
    have zx := D2.frozen (5 + r7 * 2 + 1)
    have D3 := D2.put (5 + r7 * 2 + 1) (.int .u16 (IntKind.u16.wrap (x + 1))) (is_u16 (wrap_u16_bd _) (by rw [Nat.mul_comm]; exact (kd_t m2).2))
    clear D2
    go_wp2_with fail
    exact FIN.out _ _ _ _ _ _ _ _ _ _ _ _ _ _ _ _ _ _ _ _ _ _ _ _ _ _ _ _ _ _ _ _ _ _ _ _ _ _ _ _ _ _ _ _ _ _ _ _ _ _ _ _ _ _ _ _ _ _ _ (D3)
  · have e0 : ((r8 : Int) == 0) = false := by rw [h8]; rfl
    have e1 : ((r8 : Int) == 1) = false := by rw [h8]; rfl
    have e2 : ((r8 : Int) == 2) = false := by rw [h8]; rfl
    have e3 : ((r8 : Int) == 3) = false := by rw [h8]; rfl
    have e4 : ((r8 : Int) == 4) = true := by rw [h8]; rfl
    clear h8
    go_upto_region 15 with fail
    have D2d := D2.drew
    refine region_cut (R := fun a' W => ∃ (q : Nat) (k n m : Int) (r : Nat), Ds w.heap.size ga gb q w W c (putb c k n ((r : Int) == 1)) Z ∧ a' = ⟨#[.slice a len cap, undef, .pointer (some ⟨w.heap.size, 0, none⟩), .pointer (some ⟨w.heap.size + 1, 0, none⟩), .pointer (some ⟨w.heap.size + 1 + 1, 0, none⟩), .pointer (some ⟨ga, 0, none⟩), .pointer (some ⟨gb, 0, none⟩), .int .i64 (r7 : Int), .slice a len cap, .pointer (some ⟨w.heap.size + 1 + 1, 0, none⟩), .pointer (some ⟨w.heap.size + 1 + 1, 0, none⟩), .agg c, .agg c, .pointer (some ⟨w.heap.size + 1 + 1, 0, none⟩), .int .i64 (r7 : Int), .pointer (some ⟨w.heap.size + 1 + 1, 0, none⟩), .int .i64 (r8 : Int), .bool ((r8 : Int) == 0), .bool ((r8 : Int) == 0), undef, undef, undef, undef, undef, .bool false, .bool false, undef, undef, undef, undef, undef, undef, undef, undef, .bool false, .bool false, undef, undef, undef, undef, undef, undef, undef, undef, undef, undef, .bool false, .bool false, undef, undef, undef, undef, undef, undef, undef, undef, undef, undef, .bool true, .bool true, .agg c, .pointer (some ⟨w.heap.size + 1 + 1, 0, none⟩), .agg #[.int .i64 k, .int .i64 n, .int .i64 m], .pointer (some ⟨w.heap.size + 1 + 1, 0, none⟩), .int .i64 (r : Int), .bool ((r : Int) == 1), .agg (putb c k n ((r : Int) == 1)), undef, undef, undef, undef, undef, undef], []⟩) ?_ ?_
    · refine wp_region_held_drew (S := fun _ => True) (by kernel_rfl) trivial (fun S0 => ?_)
      show wpAnyH _ _ _ _ _ 8 #[false, false, false, false, false, false, false, false] _ _
      refine tk_val' (i := 1) rfl (by kernel_rfl) (by kernel_rfl) (by kernel_rfl) (fun _ _ _ _ h => nomatch h.1) rfl (.pointer (some ⟨w.heap.size + 1 + 1, 0, none⟩)) (fun W _ => by go_simp) trivial #[false, true, false, false, false, false, false, false] rfl ⟨#[.slice a len cap, undef, .pointer (some ⟨w.heap.size, 0, none⟩), .pointer (some ⟨w.heap.size + 1, 0, none⟩), .pointer (some ⟨w.heap.size + 1 + 1, 0, none⟩), .pointer (some ⟨ga, 0, none⟩), .pointer (some ⟨gb, 0, none⟩), .int .i64 (r7 : Int), .slice a len cap, .pointer (some ⟨w.heap.size + 1 + 1, 0, none⟩), .pointer (some ⟨w.heap.size + 1 + 1, 0, none⟩), .agg c, .agg c, .pointer (some ⟨w.heap.size + 1 + 1, 0, none⟩), .int .i64 (r7 : Int), .pointer (some ⟨w.heap.size + 1 + 1, 0, none⟩), .int .i64 (r8 : Int), .bool ((r8 : Int) == 0), .bool ((r8 : Int) == 0), undef, undef, undef, undef, undef, .bool false, .bool false, undef, undef, undef, undef, undef, undef, undef, undef, .bool false, .bool false, undef, undef, undef, undef, undef, undef, undef, undef, undef, undef, .bool false, .bool false, undef, undef, undef, undef, undef, undef, undef, undef, undef, undef, .bool true, .bool true, undef, .pointer (some ⟨w.heap.size + 1 + 1, 0, none⟩), undef, undef, undef, undef, undef, undef, undef, undef, undef, undef, undef], []⟩ rfl ?_
      refine tk_val' (i := 3) rfl (by kernel_rfl) (by kernel_rfl) (by kernel_rfl) (fun _ _ _ _ h => nomatch h.1) rfl (.pointer (some ⟨w.heap.size + 1 + 1, 0, none⟩)) (fun W _ => by go_simp) trivial #[false, true, false, true, false, false, false, false] rfl ⟨#[.slice a len cap, undef, .pointer (some ⟨w.heap.size, 0, none⟩), .pointer (some ⟨w.heap.size + 1, 0, none⟩), .pointer (some ⟨w.heap.size + 1 + 1, 0, none⟩), .pointer (some ⟨ga, 0, none⟩), .pointer (some ⟨gb, 0, none⟩), .int .i64 (r7 : Int), .slice a len cap, .pointer (some ⟨w.heap.size + 1 + 1, 0, none⟩), .pointer (some ⟨w.heap.size + 1 + 1, 0, none⟩), .agg c, .agg c, .pointer (some ⟨w.heap.size + 1 + 1, 0, none⟩), .int .i64 (r7 : Int), .pointer (some ⟨w.heap.size + 1 + 1, 0, none⟩), .int .i64 (r8 : Int), .bool ((r8 : Int) == 0), .bool ((r8 : Int) == 0), undef, undef, undef, undef, undef, .bool false, .bool false, undef, undef, undef, undef, undef, undef, undef, undef, .bool false, .bool false, undef, undef, undef, undef, undef, undef, undef, undef, undef, undef, .bool false, .bool false, undef, undef, undef, undef, undef, undef, undef, undef, undef, undef, .bool true, .bool true, undef, .pointer (some ⟨w.heap.size + 1 + 1, 0, none⟩), undef, .pointer (some ⟨w.heap.size + 1 + 1, 0, none⟩), undef, undef, undef, undef, undef, undef, undef, undef, undef], []⟩ rfl ?_
      refine wpAnyH_all (rs := [0, 2]) (by kernel_rfl) (by simp) (fun i hi => ?_)
      rcases (by simpa using hi : i = 0 ∨ i = 2) with rfl | rfl
      · refine up_load' rfl rfl 37 _ rfl _ _ rfl (.agg c) (load_all D2d.rb _ _ Tryd.underlying37 rfl HIC.out) trivial #[true, true, false, true, false, false, false, false] rfl ⟨#[.slice a len cap, undef, .pointer (some ⟨w.heap.size, 0, none⟩), .pointer (some ⟨w.heap.size + 1, 0, none⟩), .pointer (some ⟨w.heap.size + 1 + 1, 0, none⟩), .pointer (some ⟨ga, 0, none⟩), .pointer (some ⟨gb, 0, none⟩), .int .i64 (r7 : Int), .slice a len cap, .pointer (some ⟨w.heap.size + 1 + 1, 0, none⟩), .pointer (some ⟨w.heap.size + 1 + 1, 0, none⟩), .agg c, .agg c, .pointer (some ⟨w.heap.size + 1 + 1, 0, none⟩), .int .i64 (r7 : Int), .pointer (some ⟨w.heap.size + 1 + 1, 0, none⟩), .int .i64 (r8 : Int), .bool ((r8 : Int) == 0), .bool ((r8 : Int) == 0), undef, undef, undef, undef, undef, .bool false, .bool false, undef, undef, undef, undef, undef, undef, undef, undef, .bool false, .bool false, undef, undef, undef, undef, undef, undef, undef, undef, undef, undef, .bool false, .bool false, undef, undef, undef, undef, undef, undef, undef, undef, undef, undef, .bool true, .bool true, .agg c, .pointer (some ⟨w.heap.size + 1 + 1, 0, none⟩), undef, .pointer (some ⟨w.heap.size + 1 + 1, 0, none⟩), undef, undef, undef, undef, undef, undef, undef, undef, undef], []⟩ rfl ?_
        refine wpAnyH_all (rs := [2]) (by kernel_rfl) (by simp) (fun i hi => ?_)
        obtain rfl := List.mem_singleton.1 hi
        refine up_fcallV rfl rfl Tryd.func16 (by kernel_rfl) (by kernel_rfl) rfl [.pointer (some ⟨w.heap.size + 1 + 1, 0, none⟩)] rfl #[true, true, true, true, false, false, false, false] rfl (fun v => ⟨#[.slice a len cap, undef, .pointer (some ⟨w.heap.size, 0, none⟩), .pointer (some ⟨w.heap.size + 1, 0, none⟩), .pointer (some ⟨w.heap.size + 1 + 1, 0, none⟩), .pointer (some ⟨ga, 0, none⟩), .pointer (some ⟨gb, 0, none⟩), .int .i64 (r7 : Int), .slice a len cap, .pointer (some ⟨w.heap.size + 1 + 1, 0, none⟩), .pointer (some ⟨w.heap.size + 1 + 1, 0, none⟩), .agg c, .agg c, .pointer (some ⟨w.heap.size + 1 + 1, 0, none⟩), .int .i64 (r7 : Int), .pointer (some ⟨w.heap.size + 1 + 1, 0, none⟩), .int .i64 (r8 : Int), .bool ((r8 : Int) == 0), .bool ((r8 : Int) == 0), undef, undef, undef, undef, undef, .bool false, .bool false, undef, undef, undef, undef, undef, undef, undef, undef, .bool false, .bool false, undef, undef, undef, undef, undef, undef, undef, undef, undef, undef, .bool false, .bool false, undef, undef, undef, undef, undef, undef, undef, undef, undef, undef, .bool true, .bool true, .agg c, .pointer (some ⟨w.heap.size + 1 + 1, 0, none⟩), v, .pointer (some ⟨w.heap.size + 1 + 1, 0, none⟩), undef, undef, undef, undef, undef, undef, undef, undef, undef], []⟩) (fun _ => rfl) (fun v W => ∃ (k n m : Int) (q : Nat), v = .agg #[.int .i64 k, .int .i64 n, .int .i64 m] ∧ q ≤ 900 ∧ Ds w.heap.size ga gb q w W c c Z) ((asks_r _ _ _ _ D2d.rd (by omega)).mono fun e W hh => ?_) ?_
        · obtain ⟨⟨k, n, m, n0, n1, he⟩, ⟨q, hq, hd⟩, hg⟩ := hh
          exact ⟨_, he, k, n, m, q, rfl, by omega, D2d.step hd hg⟩
        rintro _ w5 ⟨k, n, m, q5, rfl, hq5, D5⟩
        refine ⟨trivial, ?_⟩
        refine wpAnyH_all (rs := [4]) (by kernel_rfl) (by simp) (fun i hi => ?_)
        obtain rfl := List.mem_singleton.1 hi
        refine up_fcallV rfl rfl Tryd.func13 (by kernel_rfl) (by kernel_rfl) rfl [.pointer (some ⟨w.heap.size + 1 + 1, 0, none⟩), .int .i64 2] rfl #[true, true, true, true, true, false, false, false] rfl (fun v => ⟨#[.slice a len cap, undef, .pointer (some ⟨w.heap.size, 0, none⟩), .pointer (some ⟨w.heap.size + 1, 0, none⟩), .pointer (some ⟨w.heap.size + 1 + 1, 0, none⟩), .pointer (some ⟨ga, 0, none⟩), .pointer (some ⟨gb, 0, none⟩), .int .i64 (r7 : Int), .slice a len cap, .pointer (some ⟨w.heap.size + 1 + 1, 0, none⟩), .pointer (some ⟨w.heap.size + 1 + 1, 0, none⟩), .agg c, .agg c, .pointer (some ⟨w.heap.size + 1 + 1, 0, none⟩), .int .i64 (r7 : Int), .pointer (some ⟨w.heap.size + 1 + 1, 0, none⟩), .int .i64 (r8 : Int), .bool ((r8 : Int) == 0), .bool ((r8 : Int) == 0), undef, undef, undef, undef, undef, .bool false, .bool false, undef, undef, undef, undef, undef, undef, undef, undef, .bool false, .bool false, undef, undef, undef, undef, undef, undef, undef, undef, undef, undef, .bool false, .bool false, undef, undef, undef, undef, undef, undef, undef, undef, undef, undef, .bool true, .bool true, .agg c, .pointer (some ⟨w.heap.size + 1 + 1, 0, none⟩), .agg #[.int .i64 k, .int .i64 n, .int .i64 m], .pointer (some ⟨w.heap.size + 1 + 1, 0, none⟩), v, undef, undef, undef, undef, undef, undef, undef, undef], []⟩) (fun _ => rfl) (fun v W => ∃ (r q : Nat), v = .int .i64 (r : Int) ∧ Ds w.heap.size ga gb q w W c c Z) ((pick_r _ _ _ 2 _ D5.rd (by omega) (by omega) (by omega)).mono fun e W hh => ?_) ?_
        · obtain ⟨r, hr, he, hd, hg⟩ := hh
          exact ⟨_, he, r, _, rfl, D5.step hd hg⟩
        rintro _ w6 ⟨r, q6, rfl, D6⟩
        refine ⟨trivial, ?_⟩
        refine tk_val' (i := 5) rfl (by kernel_rfl) (by kernel_rfl) (by kernel_rfl) (fun _ _ _ _ h => nomatch h.1) rfl (.bool ((r : Int) == 1)) (fun W _ => by go_simp) trivial #[true, true, true, true, true, true, false, false] rfl ⟨#[.slice a len cap, undef, .pointer (some ⟨w.heap.size, 0, none⟩), .pointer (some ⟨w.heap.size + 1, 0, none⟩), .pointer (some ⟨w.heap.size + 1 + 1, 0, none⟩), .pointer (some ⟨ga, 0, none⟩), .pointer (some ⟨gb, 0, none⟩), .int .i64 (r7 : Int), .slice a len cap, .pointer (some ⟨w.heap.size + 1 + 1, 0, none⟩), .pointer (some ⟨w.heap.size + 1 + 1, 0, none⟩), .agg c, .agg c, .pointer (some ⟨w.heap.size + 1 + 1, 0, none⟩), .int .i64 (r7 : Int), .pointer (some ⟨w.heap.size + 1 + 1, 0, none⟩), .int .i64 (r8 : Int), .bool ((r8 : Int) == 0), .bool ((r8 : Int) == 0), undef, undef, undef, undef, undef, .bool false, .bool false, undef, undef, undef, undef, undef, undef, undef, undef, .bool false, .bool false, undef, undef, undef, undef, undef, undef, undef, undef, undef, undef, .bool false, .bool false, undef, undef, undef, undef, undef, undef, undef, undef, undef, undef, .bool true, .bool true, .agg c, .pointer (some ⟨w.heap.size + 1 + 1, 0, none⟩), .agg #[.int .i64 k, .int .i64 n, .int .i64 m], .pointer (some ⟨w.heap.size + 1 + 1, 0, none⟩), .int .i64 (r : Int), .bool ((r : Int) == 1), undef, undef, undef, undef, undef, undef, undef], []⟩ rfl ?_
        refine wpAnyH_all (rs := [6]) (by kernel_rfl) (by simp) (fun i hi => ?_)
        obtain rfl := List.mem_singleton.1 hi
        refine up_fcall' rfl rfl Tryd.func15 (by kernel_rfl) (by kernel_rfl) rfl [.agg c, .agg #[.int .i64 k, .int .i64 n, .int .i64 m], .bool ((r : Int) == 1)] rfl #[true, true, true, true, true, true, true, false] rfl (.agg (putb c k n ((r : Int) == 1))) ⟨#[.slice a len cap, undef, .pointer (some ⟨w.heap.size, 0, none⟩), .pointer (some ⟨w.heap.size + 1, 0, none⟩), .pointer (some ⟨w.heap.size + 1 + 1, 0, none⟩), .pointer (some ⟨ga, 0, none⟩), .pointer (some ⟨gb, 0, none⟩), .int .i64 (r7 : Int), .slice a len cap, .pointer (some ⟨w.heap.size + 1 + 1, 0, none⟩), .pointer (some ⟨w.heap.size + 1 + 1, 0, none⟩), .agg c, .agg c, .pointer (some ⟨w.heap.size + 1 + 1, 0, none⟩), .int .i64 (r7 : Int), .pointer (some ⟨w.heap.size + 1 + 1, 0, none⟩), .int .i64 (r8 : Int), .bool ((r8 : Int) == 0), .bool ((r8 : Int) == 0), undef, undef, undef, undef, undef, .bool false, .bool false, undef, undef, undef, undef, undef, undef, undef, undef, .bool false, .bool false, undef, undef, undef, undef, undef, undef, undef, undef, undef, undef, .bool false, .bool false, undef, undef, undef, undef, undef, undef, undef, undef, undef, undef, .bool true, .bool true, .agg c, .pointer (some ⟨w.heap.size + 1 + 1, 0, none⟩), .agg #[.int .i64 k, .int .i64 n, .int .i64 m], .pointer (some ⟨w.heap.size + 1 + 1, 0, none⟩), .int .i64 (r : Int), .bool ((r : Int) == 1), .agg (putb c k n ((r : Int) == 1)), undef, undef, undef, undef, undef, undef], []⟩ rfl _ (putb_s c D6.okC k n m ((r : Int) == 1) _) ?_
        intro w7 g7
        have D7 := D6.below g7
        refine ⟨trivial, ?_⟩
        refine wpAnyH_all (rs := [7]) (by kernel_rfl) (by simp) (fun i hi => ?_)
        obtain rfl := List.mem_singleton.1 hi
        have hp := memOk_putb D7.okC k n ((r : Int) == 1)
        have D8 := D7.row hp
        refine up_store' rfl rfl 37 _ _ rfl _ _ rfl _ rfl _ (store_all D7.rb _ _ (D7.okD.size.trans hp.size.symm) (by rw [hp.size]; exact zero_mem.2) hp.one) trivial #[true, true, true, true, true, true, true, true] rfl ⟨#[.slice a len cap, undef, .pointer (some ⟨w.heap.size, 0, none⟩), .pointer (some ⟨w.heap.size + 1, 0, none⟩), .pointer (some ⟨w.heap.size + 1 + 1, 0, none⟩), .pointer (some ⟨ga, 0, none⟩), .pointer (some ⟨gb, 0, none⟩), .int .i64 (r7 : Int), .slice a len cap, .pointer (some ⟨w.heap.size + 1 + 1, 0, none⟩), .pointer (some ⟨w.heap.size + 1 + 1, 0, none⟩), .agg c, .agg c, .pointer (some ⟨w.heap.size + 1 + 1, 0, none⟩), .int .i64 (r7 : Int), .pointer (some ⟨w.heap.size + 1 + 1, 0, none⟩), .int .i64 (r8 : Int), .bool ((r8 : Int) == 0), .bool ((r8 : Int) == 0), undef, undef, undef, undef, undef, .bool false, .bool false, undef, undef, undef, undef, undef, undef, undef, undef, .bool false, .bool false, undef, undef, undef, undef, undef, undef, undef, undef, undef, undef, .bool false, .bool false, undef, undef, undef, undef, undef, undef, undef, undef, undef, undef, .bool true, .bool true, .agg c, .pointer (some ⟨w.heap.size + 1 + 1, 0, none⟩), .agg #[.int .i64 k, .int .i64 n, .int .i64 m], .pointer (some ⟨w.heap.size + 1 + 1, 0, none⟩), .int .i64 (r : Int), .bool ((r : Int) == 1), .agg (putb c k n ((r : Int) == 1)), undef, undef, undef, undef, undef, undef], []⟩ rfl ?_
        exact wpAnyH_done (by kernel_rfl) ⟨rfl, _, k, n, m, r, D8, rfl⟩ _
      · refine up_fcallV rfl rfl Tryd.func16 (by kernel_rfl) (by kernel_rfl) rfl [.pointer (some ⟨w.heap.size + 1 + 1, 0, none⟩)] rfl #[false, true, true, true, false, false, false, false] rfl (fun v => ⟨#[.slice a len cap, undef, .pointer (some ⟨w.heap.size, 0, none⟩), .pointer (some ⟨w.heap.size + 1, 0, none⟩), .pointer (some ⟨w.heap.size + 1 + 1, 0, none⟩), .pointer (some ⟨ga, 0, none⟩), .pointer (some ⟨gb, 0, none⟩), .int .i64 (r7 : Int), .slice a len cap, .pointer (some ⟨w.heap.size + 1 + 1, 0, none⟩), .pointer (some ⟨w.heap.size + 1 + 1, 0, none⟩), .agg c, .agg c, .pointer (some ⟨w.heap.size + 1 + 1, 0, none⟩), .int .i64 (r7 : Int), .pointer (some ⟨w.heap.size + 1 + 1, 0, none⟩), .int .i64 (r8 : Int), .bool ((r8 : Int) == 0), .bool ((r8 : Int) == 0), undef, undef, undef, undef, undef, .bool false, .bool false, undef, undef, undef, undef, undef, undef, undef, undef, .bool false, .bool false, undef, undef, undef, undef, undef, undef, undef, undef, undef, undef, .bool false, .bool false, undef, undef, undef, undef, undef, undef, undef, undef, undef, undef, .bool true, .bool true, undef, .pointer (some ⟨w.heap.size + 1 + 1, 0, none⟩), v, .pointer (some ⟨w.heap.size + 1 + 1, 0, none⟩), undef, undef, undef, undef, undef, undef, undef, undef, undef], []⟩) (fun _ => rfl) (fun v W => ∃ (k n m : Int) (q : Nat), v = .agg #[.int .i64 k, .int .i64 n, .int .i64 m] ∧ q ≤ 900 ∧ Ds w.heap.size ga gb q w W c c Z) ((asks_r _ _ _ _ D2d.rd (by omega)).mono fun e W hh => ?_) ?_
        · obtain ⟨⟨k, n, m, n0, n1, he⟩, ⟨q, hq, hd⟩, hg⟩ := hh
          exact ⟨_, he, k, n, m, q, rfl, by omega, D2d.step hd hg⟩
        rintro _ w5 ⟨k, n, m, q5, rfl, hq5, D5⟩
        refine ⟨trivial, ?_⟩
        refine wpAnyH_all (rs := [0, 4]) (by kernel_rfl) (by simp) (fun i hi => ?_)
        rcases (by simpa using hi : i = 0 ∨ i = 4) with rfl | rfl
        · refine up_load' rfl rfl 37 _ rfl _ _ rfl (.agg c) (load_all D5.rb _ _ Tryd.underlying37 rfl HIC.out) trivial #[true, true, true, true, false, false, false, false] rfl ⟨#[.slice a len cap, undef, .pointer (some ⟨w.heap.size, 0, none⟩), .pointer (some ⟨w.heap.size + 1, 0, none⟩), .pointer (some ⟨w.heap.size + 1 + 1, 0, none⟩), .pointer (some ⟨ga, 0, none⟩), .pointer (some ⟨gb, 0, none⟩), .int .i64 (r7 : Int), .slice a len cap, .pointer (some ⟨w.heap.size + 1 + 1, 0, none⟩), .pointer (some ⟨w.heap.size + 1 + 1, 0, none⟩), .agg c, .agg c, .pointer (some ⟨w.heap.size + 1 + 1, 0, none⟩), .int .i64 (r7 : Int), .pointer (some ⟨w.heap.size + 1 + 1, 0, none⟩), .int .i64 (r8 : Int), .bool ((r8 : Int) == 0), .bool ((r8 : Int) == 0), undef, undef, undef, undef, undef, .bool false, .bool false, undef, undef, undef, undef, undef, undef, undef, undef, .bool false, .bool false, undef, undef, undef, undef, undef, undef, undef, undef, undef, undef, .bool false, .bool false, undef, undef, undef, undef, undef, undef, undef, undef, undef, undef, .bool true, .bool true, .agg c, .pointer (some ⟨w.heap.size + 1 + 1, 0, none⟩), .agg #[.int .i64 k, .int .i64 n, .int .i64 m], .pointer (some ⟨w.heap.size + 1 + 1, 0, none⟩), undef, undef, undef, undef, undef, undef, undef, undef, undef], []⟩ rfl ?_
          refine wpAnyH_all (rs := [4]) (by kernel_rfl) (by simp) (fun i hi => ?_)
          obtain rfl := List.mem_singleton.1 hi
          refine up_fcallV rfl rfl Tryd.func13 (by kernel_rfl) (by kernel_rfl) rfl [.pointer (some ⟨w.heap.size + 1 + 1, 0, none⟩), .int .i64 2] rfl #[true, true, true, true, true, false, false, false] rfl (fun v => ⟨#[.slice a len cap, undef, .pointer (some ⟨w.heap.size, 0, none⟩), .pointer (some ⟨w.heap.size + 1, 0, none⟩), .pointer (some ⟨w.heap.size + 1 + 1, 0, none⟩), .pointer (some ⟨ga, 0, none⟩), .pointer (some ⟨gb, 0, none⟩), .int .i64 (r7 : Int), .slice a len cap, .pointer (some ⟨w.heap.size + 1 + 1, 0, none⟩), .pointer (some ⟨w.heap.size + 1 + 1, 0, none⟩), .agg c, .agg c, .pointer (some ⟨w.heap.size + 1 + 1, 0, none⟩), .int .i64 (r7 : Int), .pointer (some ⟨w.heap.size + 1 + 1, 0, none⟩), .int .i64 (r8 : Int), .bool ((r8 : Int) == 0), .bool ((r8 : Int) == 0), undef, undef, undef, undef, undef, .bool false, .bool false, undef, undef, undef, undef, undef, undef, undef, undef, .bool false, .bool false, undef, undef, undef, undef, undef, undef, undef, undef, undef, undef, .bool false, .bool false, undef, undef, undef, undef, undef, undef, undef, undef, undef, undef, .bool true, .bool true, .agg c, .pointer (some ⟨w.heap.size + 1 + 1, 0, none⟩), .agg #[.int .i64 k, .int .i64 n, .int .i64 m], .pointer (some ⟨w.heap.size + 1 + 1, 0, none⟩), v, undef, undef, undef, undef, undef, undef, undef, undef], []⟩) (fun _ => rfl) (fun v W => ∃ (r q : Nat), v = .int .i64 (r : Int) ∧ Ds w.heap.size ga gb q w W c c Z) ((pick_r _ _ _ 2 _ D5.rd (by omega) (by omega) (by omega)).mono fun e W hh => ?_) ?_
          · obtain ⟨r, hr, he, hd, hg⟩ := hh
            exact ⟨_, he, r, _, rfl, D5.step hd hg⟩
          rintro _ w6 ⟨r, q6, rfl, D6⟩
          refine ⟨trivial, ?_⟩
          refine tk_val' (i := 5) rfl (by kernel_rfl) (by kernel_rfl) (by kernel_rfl) (fun _ _ _ _ h => nomatch h.1) rfl (.bool ((r : Int) == 1)) (fun W _ => by go_simp) trivial #[true, true, true, true, true, true, false, false] rfl ⟨#[.slice a len cap, undef, .pointer (some ⟨w.heap.size, 0, none⟩), .pointer (some ⟨w.heap.size + 1, 0, none⟩), .pointer (some ⟨w.heap.size + 1 + 1, 0, none⟩), .pointer (some ⟨ga, 0, none⟩), .pointer (some ⟨gb, 0, none⟩), .int .i64 (r7 : Int), .slice a len cap, .pointer (some ⟨w.heap.size + 1 + 1, 0, none⟩), .pointer (some ⟨w.heap.size + 1 + 1, 0, none⟩), .agg c, .agg c, .pointer (some ⟨w.heap.size + 1 + 1, 0, none⟩), .int .i64 (r7 : Int), .pointer (some ⟨w.heap.size + 1 + 1, 0, none⟩), .int .i64 (r8 : Int), .bool ((r8 : Int) == 0), .bool ((r8 : Int) == 0), undef, undef, undef, undef, undef, .bool false, .bool false, undef, undef, undef, undef, undef, undef, undef, undef, .bool false, .bool false, undef, undef, undef, undef, undef, undef, undef, undef, undef, undef, .bool false, .bool false, undef, undef, undef, undef, undef, undef, undef, undef, undef, undef, .bool true, .bool true, .agg c, .pointer (some ⟨w.heap.size + 1 + 1, 0, none⟩), .agg #[.int .i64 k, .int .i64 n, .int .i64 m], .pointer (some ⟨w.heap.size + 1 + 1, 0, none⟩), .int .i64 (r : Int), .bool ((r : Int) == 1), undef, undef, undef, undef, undef, undef, undef], []⟩ rfl ?_
          refine wpAnyH_all (rs := [6]) (by kernel_rfl) (by simp) (fun i hi => ?_)
          obtain rfl := List.mem_singleton.1 hi
          refine up_fcall' rfl rfl Tryd.func15 (by kernel_rfl) (by kernel_rfl) rfl [.agg c, .agg #[.int .i64 k, .int .i64 n, .int .i64 m], .bool ((r : Int) == 1)] rfl #[true, true, true, true, true, true, true, false] rfl (.agg (putb c k n ((r : Int) == 1))) ⟨#[.slice a len cap, undef, .pointer (some ⟨w.heap.size, 0, none⟩), .pointer (some ⟨w.heap.size + 1, 0, none⟩), .pointer (some ⟨w.heap.size + 1 + 1, 0, none⟩), .pointer (some ⟨ga, 0, none⟩), .pointer (some ⟨gb, 0, none⟩), .int .i64 (r7 : Int), .slice a len cap, .pointer (some ⟨w.heap.size + 1 + 1, 0, none⟩), .pointer (some ⟨w.heap.size + 1 + 1, 0, none⟩), .agg c, .agg c, .pointer (some ⟨w.heap.size + 1 + 1, 0, none⟩), .int .i64 (r7 : Int), .pointer (some ⟨w.heap.size + 1 + 1, 0, none⟩), .int .i64 (r8 : Int), .bool ((r8 : Int) == 0), .bool ((r8 : Int) == 0), undef, undef, undef, undef, undef, .bool false, .bool false, undef, undef, undef, undef, undef, undef, undef, undef, .bool false, .bool false, undef, undef, undef, undef, undef, undef, undef, undef, undef, undef, .bool false, .bool false, undef, undef, undef, undef, undef, undef, undef, undef, undef, undef, .bool true, .bool true, .agg c, .pointer (some ⟨w.heap.size + 1 + 1, 0, none⟩), .agg #[.int .i64 k, .int .i64 n, .int .i64 m], .pointer (some ⟨w.heap.size + 1 + 1, 0, none⟩), .int .i64 (r : Int), .bool ((r : Int) == 1), .agg (putb c k n ((r : Int) == 1)), undef, undef, undef, undef, undef, undef], []⟩ rfl _ (putb_s c D6.okC k n m ((r : Int) == 1) _) ?_
          intro w7 g7
          have D7 := D6.below g7
          refine ⟨trivial, ?_⟩
          refine wpAnyH_all (rs := [7]) (by kernel_rfl) (by simp) (fun i hi => ?_)
          obtain rfl := List.mem_singleton.1 hi
          have hp := memOk_putb D7.okC k n ((r : Int) == 1)
          have D8 := D7.row hp
          refine up_store' rfl rfl 37 _ _ rfl _ _ rfl _ rfl _ (store_all D7.rb _ _ (D7.okD.size.trans hp.size.symm) (by rw [hp.size]; exact zero_mem.2) hp.one) trivial #[true, true, true, true, true, true, true, true] rfl ⟨#[.slice a len cap, undef, .pointer (some ⟨w.heap.size, 0, none⟩), .pointer (some ⟨w.heap.size + 1, 0, none⟩), .pointer (some ⟨w.heap.size + 1 + 1, 0, none⟩), .pointer (some ⟨ga, 0, none⟩), .pointer (some ⟨gb, 0, none⟩), .int .i64 (r7 : Int), .slice a len cap, .pointer (some ⟨w.heap.size + 1 + 1, 0, none⟩), .pointer (some ⟨w.heap.size + 1 + 1, 0, none⟩), .agg c, .agg c, .pointer (some ⟨w.heap.size + 1 + 1, 0, none⟩), .int .i64 (r7 : Int), .pointer (some ⟨w.heap.size + 1 + 1, 0, none⟩), .int .i64 (r8 : Int), .bool ((r8 : Int) == 0), .bool ((r8 : Int) == 0), undef, undef, undef, undef, undef, .bool false, .bool false, undef, undef, undef, undef, undef, undef, undef, undef, .bool false, .bool false, undef, undef, undef, undef, undef, undef, undef, undef, undef, undef, .bool false, .bool false, undef, undef, undef, undef, undef, undef, undef, undef, undef, undef, .bool true, .bool true, .agg c, .pointer (some ⟨w.heap.size + 1 + 1, 0, none⟩), .agg #[.int .i64 k, .int .i64 n, .int .i64 m], .pointer (some ⟨w.heap.size + 1 + 1, 0, none⟩), .int .i64 (r : Int), .bool ((r : Int) == 1), .agg (putb c k n ((r : Int) == 1)), undef, undef, undef, undef, undef, undef], []⟩ rfl ?_
          exact wpAnyH_done (by kernel_rfl) ⟨rfl, _, k, n, m, r, D8, rfl⟩ _
        · refine up_fcallV rfl rfl Tryd.func13 (by kernel_rfl) (by kernel_rfl) rfl [.pointer (some ⟨w.heap.size + 1 + 1, 0, none⟩), .int .i64 2] rfl #[false, true, true, true, true, false, false, false] rfl (fun v => ⟨#[.slice a len cap, undef, .pointer (some ⟨w.heap.size, 0, none⟩), .pointer (some ⟨w.heap.size + 1, 0, none⟩), .pointer (some ⟨w.heap.size + 1 + 1, 0, none⟩), .pointer (some ⟨ga, 0, none⟩), .pointer (some ⟨gb, 0, none⟩), .int .i64 (r7 : Int), .slice a len cap, .pointer (some ⟨w.heap.size + 1 + 1, 0, none⟩), .pointer (some ⟨w.heap.size + 1 + 1, 0, none⟩), .agg c, .agg c, .pointer (some ⟨w.heap.size + 1 + 1, 0, none⟩), .int .i64 (r7 : Int), .pointer (some ⟨w.heap.size + 1 + 1, 0, none⟩), .int .i64 (r8 : Int), .bool ((r8 : Int) == 0), .bool ((r8 : Int) == 0), undef, undef, undef, undef, undef, .bool false, .bool false, undef, undef, undef, undef, undef, undef, undef, undef, .bool false, .bool false, undef, undef, undef, undef, undef, undef, undef, undef, undef, undef, .bool false, .bool false, undef, undef, undef, undef, undef, undef, undef, undef, undef, undef, .bool true, .bool true, undef, .pointer (some ⟨w.heap.size + 1 + 1, 0, none⟩), .agg #[.int .i64 k, .int .i64 n, .int .i64 m], .pointer (some ⟨w.heap.size + 1 + 1, 0, none⟩), v, undef, undef, undef, undef, undef, undef, undef, undef], []⟩) (fun _ => rfl) (fun v W => ∃ (r q : Nat), v = .int .i64 (r : Int) ∧ Ds w.heap.size ga gb q w W c c Z) ((pick_r _ _ _ 2 _ D5.rd (by omega) (by omega) (by omega)).mono fun e W hh => ?_) ?_
          · obtain ⟨r, hr, he, hd, hg⟩ := hh
            exact ⟨_, he, r, _, rfl, D5.step hd hg⟩
          rintro _ w6 ⟨r, q6, rfl, D6⟩
          refine ⟨trivial, ?_⟩
          refine tk_val' (i := 5) rfl (by kernel_rfl) (by kernel_rfl) (by kernel_rfl) (fun _ _ _ _ h => nomatch h.1) rfl (.bool ((r : Int) == 1)) (fun W _ => by go_simp) trivial #[false, true, true, true, true, true, false, false] rfl ⟨#[.slice a len cap, undef, .pointer (some ⟨w.heap.size, 0, none⟩), .pointer (some ⟨w.heap.size + 1, 0, none⟩), .pointer (some ⟨w.heap.size + 1 + 1, 0, none⟩), .pointer (some ⟨ga, 0, none⟩), .pointer (some ⟨gb, 0, none⟩), .int .i64 (r7 : Int), .slice a len cap, .pointer (some ⟨w.heap.size + 1 + 1, 0, none⟩), .pointer (some ⟨w.heap.size + 1 + 1, 0, none⟩), .agg c, .agg c, .pointer (some ⟨w.heap.size + 1 + 1, 0, none⟩), .int .i64 (r7 : Int), .pointer (some ⟨w.heap.size + 1 + 1, 0, none⟩), .int .i64 (r8 : Int), .bool ((r8 : Int) == 0), .bool ((r8 : Int) == 0), undef, undef, undef, undef, undef, .bool false, .bool false, undef, undef, undef, undef, undef, undef, undef, undef, .bool false, .bool false, undef, undef, undef, undef, undef, undef, undef, undef, undef, undef, .bool false, .bool false, undef, undef, undef, undef, undef, undef, undef, undef, undef, undef, .bool true, .bool true, undef, .pointer (some ⟨w.heap.size + 1 + 1, 0, none⟩), .agg #[.int .i64 k, .int .i64 n, .int .i64 m], .pointer (some ⟨w.heap.size + 1 + 1, 0, none⟩), .int .i64 (r : Int), .bool ((r : Int) == 1), undef, undef, undef, undef, undef, undef, undef], []⟩ rfl ?_
          refine wpAnyH_all (rs := [0]) (by kernel_rfl) (by simp) (fun i hi => ?_)
          obtain rfl := List.mem_singleton.1 hi
          refine up_load' rfl rfl 37 _ rfl _ _ rfl (.agg c) (load_all D6.rb _ _ Tryd.underlying37 rfl HIC.out) trivial #[true, true, true, true, true, true, false, false] rfl ⟨#[.slice a len cap, undef, .pointer (some ⟨w.heap.size, 0, none⟩), .pointer (some ⟨w.heap.size + 1, 0, none⟩), .pointer (some ⟨w.heap.size + 1 + 1, 0, none⟩), .pointer (some ⟨ga, 0, none⟩), .pointer (some ⟨gb, 0, none⟩), .int .i64 (r7 : Int), .slice a len cap, .pointer (some ⟨w.heap.size + 1 + 1, 0, none⟩), .pointer (some ⟨w.heap.size + 1 + 1, 0, none⟩), .agg c, .agg c, .pointer (some ⟨w.heap.size + 1 + 1, 0, none⟩), .int .i64 (r7 : Int), .pointer (some ⟨w.heap.size + 1 + 1, 0, none⟩), .int .i64 (r8 : Int), .bool ((r8 : Int) == 0), .bool ((r8 : Int) == 0), undef, undef, undef, undef, undef, .bool false, .bool false, undef, undef, undef, undef, undef, undef, undef, undef, .bool false, .bool false, undef, undef, undef, undef, undef, undef, undef, undef, undef, undef, .bool false, .bool false, undef, undef, undef, undef, undef, undef, undef, undef, undef, undef, .bool true, .bool true, .agg c, .pointer (some ⟨w.heap.size + 1 + 1, 0, none⟩), .agg #[.int .i64 k, .int .i64 n, .int .i64 m], .pointer (some ⟨w.heap.size + 1 + 1, 0, none⟩), .int .i64 (r : Int), .bool ((r : Int) == 1), undef, undef, undef, undef, undef, undef, undef], []⟩ rfl ?_
          refine wpAnyH_all (rs := [6]) (by kernel_rfl) (by simp) (fun i hi => ?_)
          obtain rfl := List.mem_singleton.1 hi
          refine up_fcall' rfl rfl Tryd.func15 (by kernel_rfl) (by kernel_rfl) rfl [.agg c, .agg #[.int .i64 k, .int .i64 n, .int .i64 m], .bool ((r : Int) == 1)] rfl #[true, true, true, true, true, true, true, false] rfl (.agg (putb c k n ((r : Int) == 1))) ⟨#[.slice a len cap, undef, .pointer (some ⟨w.heap.size, 0, none⟩), .pointer (some ⟨w.heap.size + 1, 0, none⟩), .pointer (some ⟨w.heap.size + 1 + 1, 0, none⟩), .pointer (some ⟨ga, 0, none⟩), .pointer (some ⟨gb, 0, none⟩), .int .i64 (r7 : Int), .slice a len cap, .pointer (some ⟨w.heap.size + 1 + 1, 0, none⟩), .pointer (some ⟨w.heap.size + 1 + 1, 0, none⟩), .agg c, .agg c, .pointer (some ⟨w.heap.size + 1 + 1, 0, none⟩), .int .i64 (r7 : Int), .pointer (some ⟨w.heap.size + 1 + 1, 0, none⟩), .int .i64 (r8 : Int), .bool ((r8 : Int) == 0), .bool ((r8 : Int) == 0), undef, undef, undef, undef, undef, .bool false, .bool false, undef, undef, undef, undef, undef, undef, undef, undef, .bool false, .bool false, undef, undef, undef, undef, undef, undef, undef, undef, undef, undef, .bool false, .bool false, undef, undef, undef, undef, undef, undef, undef, undef, undef, undef, .bool true, .bool true, .agg c, .pointer (some ⟨w.heap.size + 1 + 1, 0, none⟩), .agg #[.int .i64 k, .int .i64 n, .int .i64 m], .pointer (some ⟨w.heap.size + 1 + 1, 0, none⟩), .int .i64 (r : Int), .bool ((r : Int) == 1), .agg (putb c k n ((r : Int) == 1)), undef, undef, undef, undef, undef, undef], []⟩ rfl _ (putb_s c D6.okC k n m ((r : Int) == 1) _) ?_
          intro w7 g7
          have D7 := D6.below g7
          refine ⟨trivial, ?_⟩
          refine wpAnyH_all (rs := [7]) (by kernel_rfl) (by simp) (fun i hi => ?_)
          obtain rfl := List.mem_singleton.1 hi
          have hp := memOk_putb D7.okC k n ((r : Int) == 1)
          have D8 := D7.row hp
          refine up_store' rfl rfl 37 _ _ rfl _ _ rfl _ rfl _ (store_all D7.rb _ _ (D7.okD.size.trans hp.size.symm) (by rw [hp.size]; exact zero_mem.2) hp.one) trivial #[true, true, true, true, true, true, true, true] rfl ⟨#[.slice a len cap, undef, .pointer (some ⟨w.heap.size, 0, none⟩), .pointer (some ⟨w.heap.size + 1, 0, none⟩), .pointer (some ⟨w.heap.size + 1 + 1, 0, none⟩), .pointer (some ⟨ga, 0, none⟩), .pointer (some ⟨gb, 0, none⟩), .int .i64 (r7 : Int), .slice a len cap, .pointer (some ⟨w.heap.size + 1 + 1, 0, none⟩), .pointer (some ⟨w.heap.size + 1 + 1, 0, none⟩), .agg c, .agg c, .pointer (some ⟨w.heap.size + 1 + 1, 0, none⟩), .int .i64 (r7 : Int), .pointer (some ⟨w.heap.size + 1 + 1, 0, none⟩), .int .i64 (r8 : Int), .bool ((r8 : Int) == 0), .bool ((r8 : Int) == 0), undef, undef, undef, undef, undef, .bool false, .bool false, undef, undef, undef, undef, undef, undef, undef, undef, .bool false, .bool false, undef, undef, undef, undef, undef, undef, undef, undef, undef, undef, .bool false, .bool false, undef, undef, undef, undef, undef, undef, undef, undef, undef, undef, .bool true, .bool true, .agg c, .pointer (some ⟨w.heap.size + 1 + 1, 0, none⟩), .agg #[.int .i64 k, .int .i64 n, .int .i64 m], .pointer (some ⟨w.heap.size + 1 + 1, 0, none⟩), .int .i64 (r : Int), .bool ((r : Int) == 1), .agg (putb c k n ((r : Int) == 1)), undef, undef, undef, undef, undef, undef], []⟩ rfl ?_
          exact wpAnyH_done (by kernel_rfl) ⟨rfl, _, k, n, m, r, D8, rfl⟩ _
    rintro _ w9 ⟨q9, k, n, m, r, D9, rfl⟩
    clear D2 D2d
    go_wp2_with fail
    exact FIN.out _ _ _ _ _ _ _ _ _ _ _ _ _ _ _ _ _ _ _ _ _ _ _ _ _ _ _ _ _ _ _ _ _ _ _ _ _ _ _ _ _ _ _ _ _ _ _ _ _ _ _ _ _ _ _ _ _ _ _ (D9)
  · have e0 : ((r8 : Int) == 0) = false := by rw [h8]; rfl
    have e1 : ((r8 : Int) == 1) = false := by rw [h8]; rfl
    have e2 : ((r8 : Int) == 2) = false := by rw [h8]; rfl
    have e3 : ((r8 : Int) == 3) = false := by rw [h8]; rfl
    have e4 : ((r8 : Int) == 4) = false := by rw [h8]; rfl
    have e5 : ((r8 : Int) == 5) = true := by rw [h8]; rfl
    clear h8
    go_wp2_with fail
    refine (draw5_r _ _ _ _ D2.rd (by omega)).mono ?_
    rintro e w5 ⟨⟨d, hd, rfl⟩, ⟨q, hq, hr⟩, gr⟩
    have D3 := D2.step hr gr
    clear D2 hr gr
    have HSD : Hid ((storeVar 37 ⟨gb, 0, none⟩ (.agg d)).run Tryd.prog w5 = .ok () (w5.setRow gb d)) := store_all D3.rb _ _ (D3.okD.size.trans hd.size.symm) (by rw [hd.size]; exact zero_mem.2) hd.one
    have D4 := D3.row hd
    clear D3
    go_wp2_with (first | (refine wpL_store rfl 37 _ _ rfl _ _ rfl _ rfl _ HSD.out ?_) | fail)
    exact FIN.out _ _ _ _ _ _ _ _ _ _ _ _ _ _ _ _ _ _ _ _ _ _ _ _ _ _ _ _ _ _ _ _ _ _ _ _ _ _ _ _ _ _ _ _ _ _ _ _ _ _ _ _ _ _ _ _ _ _ _ (D4)
  · have e0 : ((r8 : Int) == 0) = false := by simp; omega
    have e1 : ((r8 : Int) == 1) = false := by simp; omega
    have e2 : ((r8 : Int) == 2) = false := by simp; omega
    have e3 : ((r8 : Int) == 3) = false := by simp; omega
    have e4 : ((r8 : Int) == 4) = false := by simp; omega
    have e5 : ((r8 : Int) == 5) = false := by simp; omega
    clear h8
    go_wp2_with fail
    exact FIN.out _ _ _ _ _ _ _ _ _ _ _ _ _ _ _ _ _ _ _ _ _ _ _ _ _ _ _ _ _ _ _ _ _ _ _ _ _ _ _ _ _ _ _ _ _ _ _ _ _ _ _ _ _ _ _ _ _ _ _ (D2)
end Go.Proofs.YteekbhhlgicpeaaDoor
