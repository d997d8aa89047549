/- A memory and an operand that are drawn (DrawMemBit); a memory that is drawn (DrawActEnd). -/
import Derived.Test.YtlpoplnghfohmaaDoorOb
namespace Go.Proofs.YtlpoplnghfohmaaDoor
open Go.RowKit
set_option linter.unusedVariables false

theorem arg_size : (Tryd.prog.info? 39).map (·.size) = some 3 := by kernel_rfl
theorem int3_one (k n m : Int) : (#[.int .i64 k, .int .i64 n, .int .i64 m] : Array Value).all (·.oneCell') = true := by simp [Value.oneCell']

/-- Two rows handed back through cells. -/
theorem ret_row2 {P : Program} {fn : Func} {Q : Ending → World → Prop} {a : Act} {w : World} {p p2 : Tmp} {ty ty2 : TypeId} (hf : fn.results = #[.cell p ty, .cell p2 ty2]) {g g2 : Nat} (hp : a.tmps.getD p undef = .pointer (some ⟨g, 0, none⟩)) (hp2 : a.tmps.getD p2 undef = .pointer (some ⟨g2, 0, none⟩))
    {v v2 : Value} (h1 : (loadVar ty ⟨g, 0, none⟩).run P w = .ok v w) (h2 : (loadVar ty2 ⟨g2, 0, none⟩).run P w = .ok v2 w) (hdf : a.defers = []) (hR : Q (.returned (.tuple #[v, v2])) w) : bodyPost P fn Q .ret a w := by
  refine bodyPost_ret (v := .tuple #[v, v2]) ?_ hdf hR
  have hp' : a.tmps[p]?.getD undef = .pointer (some ⟨g, 0, none⟩) := by simpa using hp
  have hp2' : a.tmps[p2]?.getD undef = .pointer (some ⟨g2, 0, none⟩) := by simpa using hp2
  simp [results, hf, hp', hp2', asAddr, h1, h2]

/-- A drawn memory and operand. -/
def IsMemArg (e : Ending) : Prop := ∃ c, ∃ k n m : Int, MemOk c ∧ -3000000000 ≤ n ∧ n ≤ 3000000000 ∧ e = .returned (.tuple #[.agg c, .agg #[.int .i64 k, .int .i64 n, .int .i64 m]])

set_option maxRecDepth 10000 in
set_option maxHeartbeats 2000000 in
theorem drawbit_r {a : Option Addr} {len cap blk off : Nat} {z : Nat → Int} (w : World) (h : Code0 w a len cap blk off z) :
    Calls Tryd.prog 11 #[.slice a len cap] w fun e w' => IsMemArg e ∧ Below w.heap.size w w' := by
  have hz := zero_mem.1
  obtain ⟨Z, HZ⟩ : ∃ Z, Hid (Z = memZero) := ⟨_, rfl⟩
  rw [← HZ.out] at hz
  have HZs : Hid (Z.size = 136) := (by rw [HZ.out, memZero_size] : Z.size = 136)
  have b0 : Below w.heap.size w ((w.alloc (.cells Z 37)).alloc (.cells #[.int .i64 0, .int .i64 0, .int .i64 0] 39)) := ((Below.refl _ _).alloc (Nat.le_refl _) _).alloc (by simp) _
  have r0 := rows2 w (.cells Z 37) (.cells #[.int .i64 0, .int .i64 0, .int .i64 0] 39)
  go_enter Tryd.func11, Tryd.ntmps11
  go_wp2_with fail
  refine ((h.later b0).open).mono ?_
  rintro e w1 ⟨rfl, hR, g1⟩
  have h1 : Reader (w.heap.size + 1 + 1 + 1) w1 (w.heap.size + 1 + 1) 0 := by simpa using hR
  have b1 : Below w.heap.size w w1 := b0.trans (g1.mono b0.size)
  have k1 : w1.heap[w.heap.size]? = some (.cells Z 37 (0, 0)) := (g1.block _ (by simp <;> omega)).trans r0.1
  have j1 : w1.heap[w.heap.size + 1]? = some (.cells #[.int .i64 0, .int .i64 0, .int .i64 0] 39 (0, 0)) := (g1.block _ (by simp <;> omega)).trans r0.2
  have l1 : w.heap.size + 1 + 1 + 1 ≤ w1.heap.size := h1.2.1
  clear g1 hR hz b0 r0 h
  go_wp2_with fail
  refine (asks_r _ _ 0 _ h1 (by omega)).mono ?_
  rintro e w2 ⟨⟨k, n, m, n0, n1, rfl⟩, ⟨q2, hq2, h2⟩, g2⟩
  have b2 : Below w.heap.size w w2 := b1.grown g2 b1.size (fun j hj => by cases hj; omega)
  have k2 : w2.heap[w.heap.size]? = some (.cells Z 37 (0, 0)) := (g2.block _ (by omega) (by simp <;> omega)).trans k1
  have j2 : w2.heap[w.heap.size + 1]? = some (.cells #[.int .i64 0, .int .i64 0, .int .i64 0] 39 (0, 0)) := (g2.block _ (by omega) (by simp <;> omega)).trans j1
  have l2 : w.heap.size + 1 + 1 + 1 ≤ w2.heap.size := h2.2.1
  clear g2 k1 j1 b1 h1
  go_upto_region 3 with fail
  have b3 : Below w.heap.size w (w2.alloc (.cells #[.int .i64 k, .int .i64 n, .int .i64 m] 39)) := b2.alloc (by omega) _
  have k3 : (w2.alloc (.cells #[.int .i64 k, .int .i64 n, .int .i64 m] 39)).heap[w.heap.size]? = some (.cells Z 37 (0, 0)) := (heap_alloc_old w2 _ (by omega)).trans k2
  have j3 : (w2.alloc (.cells #[.int .i64 k, .int .i64 n, .int .i64 m] 39)).heap[w.heap.size + 1]? = some (.cells #[.int .i64 0, .int .i64 0, .int .i64 0] 39 (0, 0)) := (heap_alloc_old w2 _ (by omega)).trans j2
  have i3 : (w2.alloc (.cells #[.int .i64 k, .int .i64 n, .int .i64 m] 39)).heap[w2.heap.size]? = some (.cells #[.int .i64 k, .int .i64 n, .int .i64 m] 39 (0, 0)) := heap_alloc_last w2 _
  have h3 := h2.alloc (.cells #[.int .i64 k, .int .i64 n, .int .i64 m] 39)
  have l3 : w2.heap.size + 1 ≤ (w2.alloc (.cells #[.int .i64 k, .int .i64 n, .int .i64 m] 39)).heap.size := by simp
  generalize w2.alloc (.cells #[.int .i64 k, .int .i64 n, .int .i64 m] 39) = w3 at b3 k3 j3 i3 h3 l3 ⊢
  clear b2 k2 j2 h2
  obtain ⟨S, HS⟩ : ∃ S : World → Prop, Hid (∀ W, S W ↔ W.heap[w2.heap.size]? = some (.cells #[.int .i64 k, .int .i64 n, .int .i64 m] 39 (0, 0))) := ⟨_, fun W => Iff.rfl⟩
  refine region_cut (R := fun a' W => ∃ c, MemOk c ∧ W.heap[w.heap.size]? = some (.cells c 37 (0, 0)) ∧ W.heap[w.heap.size + 1]? = some (.cells #[.int .i64 k, .int .i64 n, .int .i64 m] 39 (0, 0)) ∧ Below w.heap.size w W ∧ a' = ⟨#[.slice a len cap, undef, .pointer (some ⟨w.heap.size, 0, none⟩), .pointer (some ⟨w.heap.size + 1, 0, none⟩), .pointer (some ⟨w.heap.size + 1 + 1, 0, none⟩), .pointer (some ⟨w2.heap.size, 0, none⟩), .slice a len cap, .pointer (some ⟨w.heap.size + 1 + 1, 0, none⟩), .pointer (some ⟨w.heap.size + 1 + 1, 0, none⟩), .agg #[.int .i64 k, .int .i64 n, .int .i64 m], .pointer (some ⟨w.heap.size + 1 + 1, 0, none⟩), .agg c, .agg #[.int .i64 k, .int .i64 n, .int .i64 m]], []⟩) ?_ ?_
  · refine wp_region_held_drew (S := S) (by kernel_rfl) ((HS.out _).2 i3) (fun S0 => ?_)
    show wpAnyH _ _ _ _ _ 5 #[false, false, false, false, false] _ _
    refine tk_val' (i := 0) rfl (by kernel_rfl) (by kernel_rfl) (by kernel_rfl) (fun _ _ _ _ h => nomatch h.1) rfl (.pointer (some ⟨w.heap.size + 1 + 1, 0, none⟩)) (fun W _ => by go_simp) S0 #[true, false, false, false, false] rfl ⟨#[.slice a len cap, undef, .pointer (some ⟨w.heap.size, 0, none⟩), .pointer (some ⟨w.heap.size + 1, 0, none⟩), .pointer (some ⟨w.heap.size + 1 + 1, 0, none⟩), .pointer (some ⟨w2.heap.size, 0, none⟩), .slice a len cap, .pointer (some ⟨w.heap.size + 1 + 1, 0, none⟩), .pointer (some ⟨w.heap.size + 1 + 1, 0, none⟩), .agg #[.int .i64 k, .int .i64 n, .int .i64 m], .pointer (some ⟨w.heap.size + 1 + 1, 0, none⟩), undef, undef], []⟩ rfl ?_
    refine tk_load' (i := 2) rfl (by kernel_rfl) (by kernel_rfl) (by kernel_rfl) (fun _ _ _ _ h => nomatch h.1) rfl 39 _ rfl _ _ rfl (.agg #[.int .i64 k, .int .i64 n, .int .i64 m]) (fun W hW => load_all ((HS.out W).1 hW) _ _ Tryd.underlying39 rfl arg_size) S0 #[true, false, true, false, false] rfl ⟨#[.slice a len cap, undef, .pointer (some ⟨w.heap.size, 0, none⟩), .pointer (some ⟨w.heap.size + 1, 0, none⟩), .pointer (some ⟨w.heap.size + 1 + 1, 0, none⟩), .pointer (some ⟨w2.heap.size, 0, none⟩), .slice a len cap, .pointer (some ⟨w.heap.size + 1 + 1, 0, none⟩), .pointer (some ⟨w.heap.size + 1 + 1, 0, none⟩), .agg #[.int .i64 k, .int .i64 n, .int .i64 m], .pointer (some ⟨w.heap.size + 1 + 1, 0, none⟩), undef, .agg #[.int .i64 k, .int .i64 n, .int .i64 m]], []⟩ rfl ?_
    refine wpAnyH_all (rs := [1]) (by kernel_rfl) (by simp) (fun i hi => ?_)
    obtain rfl := List.mem_singleton.1 hi
    refine up_fcallV rfl rfl Tryd.func26 (by kernel_rfl) (by kernel_rfl) rfl [.pointer (some ⟨w.heap.size + 1 + 1, 0, none⟩)] rfl #[true, true, true, false, false] rfl (fun v => ⟨#[.slice a len cap, undef, .pointer (some ⟨w.heap.size, 0, none⟩), .pointer (some ⟨w.heap.size + 1, 0, none⟩), .pointer (some ⟨w.heap.size + 1 + 1, 0, none⟩), .pointer (some ⟨w2.heap.size, 0, none⟩), .slice a len cap, .pointer (some ⟨w.heap.size + 1 + 1, 0, none⟩), .pointer (some ⟨w.heap.size + 1 + 1, 0, none⟩), .agg #[.int .i64 k, .int .i64 n, .int .i64 m], .pointer (some ⟨w.heap.size + 1 + 1, 0, none⟩), v, .agg #[.int .i64 k, .int .i64 n, .int .i64 m]], []⟩) (fun _ => rfl) (fun v W => ∃ c, v = .agg c ∧ MemOk c ∧ w3.drew.grownBy W (some (w.heap.size + 1 + 1))) ((draw5_r _ _ _ _ h3.drew (by omega)).mono fun e W hh => ?_) ?_
    · obtain ⟨⟨c, hc, he⟩, _, hg⟩ := hh
      exact ⟨_, he, c, rfl, hc, hg⟩
    rintro _ w4 ⟨c, rfl, hc, g4⟩
    have b4 : Below w.heap.size w w4 := b3.drew.grown g4 b3.drew.size (fun j hj => by cases hj; omega)
    have k4 : w4.heap[w.heap.size]? = some (.cells Z 37 (0, 0)) := (g4.block _ (by show _ < w3.heap.size; omega) (by simp <;> omega)).trans k3
    have j4 : w4.heap[w.heap.size + 1]? = some (.cells #[.int .i64 0, .int .i64 0, .int .i64 0] 39 (0, 0)) := (g4.block _ (by show _ < w3.heap.size; omega) (by simp <;> omega)).trans j3
    have i4 : w4.heap[w2.heap.size]? = some (.cells #[.int .i64 k, .int .i64 n, .int .i64 m] 39 (0, 0)) := (g4.block _ (by show _ < w3.heap.size; omega) (by simp; omega)).trans i3
    refine ⟨(HS.out _).2 i4, ?_⟩
    have HI : Hid ((Tryd.prog.info? 37).map (·.size) = some c.size) := by rw [hc.size]; exact zero_mem.2
    refine wpAnyH_all (rs := [3]) (by kernel_rfl) (by simp) (fun i hi => ?_)
    obtain rfl := List.mem_singleton.1 hi
    refine up_store' rfl rfl 37 _ _ rfl _ _ rfl _ rfl _ (store_all k4 _ _ (HZs.out.trans hc.size.symm) HI.out hc.one) ((HS.out _).2 (row_beside i4 _ (by omega) _)) #[true, true, true, true, false] rfl ⟨#[.slice a len cap, undef, .pointer (some ⟨w.heap.size, 0, none⟩), .pointer (some ⟨w.heap.size + 1, 0, none⟩), .pointer (some ⟨w.heap.size + 1 + 1, 0, none⟩), .pointer (some ⟨w2.heap.size, 0, none⟩), .slice a len cap, .pointer (some ⟨w.heap.size + 1 + 1, 0, none⟩), .pointer (some ⟨w.heap.size + 1 + 1, 0, none⟩), .agg #[.int .i64 k, .int .i64 n, .int .i64 m], .pointer (some ⟨w.heap.size + 1 + 1, 0, none⟩), .agg c, .agg #[.int .i64 k, .int .i64 n, .int .i64 m]], []⟩ rfl ?_
    refine wpAnyH_all (rs := [4]) (by kernel_rfl) (by simp) (fun i hi => ?_)
    obtain rfl := List.mem_singleton.1 hi
    have j5 := row_beside j4 w.heap.size (by omega) c
    exact up_store' rfl rfl 39 _ _ rfl _ _ rfl _ rfl _ (store_all j5 _ _ rfl arg_size (int3_one k n m)) ((HS.out _).2 (row_beside (row_beside i4 _ (by omega) _) _ (by omega) _)) #[true, true, true, true, true] rfl ⟨#[.slice a len cap, undef, .pointer (some ⟨w.heap.size, 0, none⟩), .pointer (some ⟨w.heap.size + 1, 0, none⟩), .pointer (some ⟨w.heap.size + 1 + 1, 0, none⟩), .pointer (some ⟨w2.heap.size, 0, none⟩), .slice a len cap, .pointer (some ⟨w.heap.size + 1 + 1, 0, none⟩), .pointer (some ⟨w.heap.size + 1 + 1, 0, none⟩), .agg #[.int .i64 k, .int .i64 n, .int .i64 m], .pointer (some ⟨w.heap.size + 1 + 1, 0, none⟩), .agg c, .agg #[.int .i64 k, .int .i64 n, .int .i64 m]], []⟩ rfl (wpAnyH_done (by kernel_rfl) ⟨rfl, c, hc, row_beside (row_set k4 _) _ (by omega) _, row_set j5 _, below_setRow (below_setRow b4 (Nat.le_refl _) _) (by omega) _, rfl⟩ _)
  rintro _ w5 ⟨c, hc, k5, j5, b5, rfl⟩
  have HC : Hid (MemOk c) := hc
  have HLa : Hid ((loadVar 37 ⟨w.heap.size, 0, none⟩).run Tryd.prog w5 = .ok (.agg c) w5) := load_all k5 _ _ Tryd.underlying37 rfl (by rw [hc.size]; exact zero_mem.2)
  have HLb : Hid ((loadVar 39 ⟨w.heap.size + 1, 0, none⟩).run Tryd.prog w5 = .ok (.agg #[.int .i64 k, .int .i64 n, .int .i64 m]) w5) := load_all j5 _ _ Tryd.underlying39 rfl arg_size
  have HB : Hid (Below w.heap.size w w5) := b5
  clear b3 k3 j3 i3 h3 k5 j5 b5 hc HS
  go_wp2_with (first | exact ret_row2 rfl rfl rfl HLa.out HLb.out rfl ⟨⟨c, k, n, m, HC.out, n0, n1, rfl⟩, HB.out⟩ | fail)

set_option maxRecDepth 10000 in
set_option maxHeartbeats 2000000 in
theorem drawend_r {a : Option Addr} {len cap blk off : Nat} {z : Nat → Int} (w : World) (h : Code0 w a len cap blk off z) :
    Calls Tryd.prog 20 #[.slice a len cap] w fun e w' => IsMem e ∧ Below w.heap.size w w' := by
  have hz := zero_mem.1
  obtain ⟨Z, HZ⟩ : ∃ Z, Hid (Z = memZero) := ⟨_, rfl⟩
  rw [← HZ.out] at hz
  have HZs : Hid (Z.size = 136) := (by rw [HZ.out, memZero_size] : Z.size = 136)
  have b0 : Below w.heap.size w (w.alloc (.cells Z 37)) := (Below.refl _ _).alloc (Nat.le_refl _) _
  go_enter Tryd.func20, Tryd.ntmps20
  go_wp2_with fail
  refine ((h.later b0).open).mono ?_
  rintro e w1 ⟨rfl, hR, g1⟩
  have h1 : Reader (w.heap.size + 1 + 1) w1 (w.heap.size + 1) 0 := by simpa using hR
  have b1 : Below w.heap.size w w1 := b0.trans (g1.mono b0.size)
  have k1 : w1.heap[w.heap.size]? = some (.cells Z 37 (0, 0)) := (g1.block _ (by simp)).trans (heap_alloc_last w _)
  have l1 : w.heap.size + 1 + 1 ≤ w1.heap.size := h1.2.1
  clear g1 hR hz b0 h
  go_wp2_with fail
  refine (draw5_r _ _ 0 _ h1 (by omega)).mono ?_
  rintro e w2 ⟨⟨c, hc, rfl⟩, _, g2⟩
  have b2 : Below w.heap.size w w2 := b1.grown g2 b1.size (fun j hj => by cases hj; omega)
  have k2 : w2.heap[w.heap.size]? = some (.cells Z 37 (0, 0)) := (g2.block _ (by omega) (by simp <;> omega)).trans k1
  have HC : Hid (MemOk c) := hc
  have HI : Hid ((Tryd.prog.info? 37).map (·.size) = some c.size) := by rw [HC.out.size]; exact zero_mem.2
  have HS : Hid ((storeVar 37 ⟨w.heap.size, 0, none⟩ (.agg c)).run Tryd.prog w2 = .ok () (w2.setRow w.heap.size c)) := store_all k2 _ _ (HZs.out.trans hc.size.symm) HI.out hc.one
  have HK : Hid (w2.heap[w.heap.size]? = some (.cells Z 37 (0, 0))) := k2
  have HB : Hid (Below w.heap.size w (w2.setRow w.heap.size c)) := below_setRow b2 (Nat.le_refl _) _
  clear g2 k1 k2 b1 b2 h1 hc
  go_wp2_with (first | (refine wpL_store rfl 37 _ _ rfl _ _ rfl _ rfl _ HS.out ?_) | exact ret_row rfl rfl (row_set HK.out _) Tryd.underlying37 rfl HI.out rfl ⟨⟨c, HC.out, rfl⟩, HB.out⟩ | fail)
end Go.Proofs.YtlpoplnghfohmaaDoor
