/- A memory, an operand and a number that are drawn (DrawMemPutWhole, DrawMemPutReal). -/
import Derived.Test.YtjnddfpieogpiaaDoorOc
namespace Go.Proofs.YtjnddfpieogpiaaDoor
open Go.RowKit
set_option linter.unusedVariables false

/-- Two rows and a value handed back. -/
theorem ret_row3 {P : Program} {fn : Func} {Q : Ending → World → Prop} {a : Act} {w : World} {p p2 p3 : Tmp} {ty ty2 : TypeId} (hf : fn.results = #[.cell p ty, .cell p2 ty2, .tmp p3]) {g g2 : Nat} (hp : a.tmps.getD p undef = .pointer (some ⟨g, 0, none⟩)) (hp2 : a.tmps.getD p2 undef = .pointer (some ⟨g2, 0, none⟩)) {v3 : Value} (hp3 : a.tmps.getD p3 undef = v3)
    {v v2 : Value} (h1 : (loadVar ty ⟨g, 0, none⟩).run P w = .ok v w) (h2 : (loadVar ty2 ⟨g2, 0, none⟩).run P w = .ok v2 w) (hdf : a.defers = []) (hR : Q (.returned (.tuple #[v, v2, v3])) w) : bodyPost P fn Q .ret a w := by
  refine bodyPost_ret (v := .tuple #[v, v2, v3]) ?_ hdf hR
  have hp' : a.tmps[p]?.getD undef = .pointer (some ⟨g, 0, none⟩) := by simpa using hp
  have hp2' : a.tmps[p2]?.getD undef = .pointer (some ⟨g2, 0, none⟩) := by simpa using hp2
  have hp3' : a.tmps[p3]?.getD undef = v3 := by simpa using hp3
  simp [results, hf, hp', hp2', hp3', asAddr, h1, h2]

/-- A drawn memory, operand and number. -/
def IsPutW (e : Ending) : Prop := ∃ c, ∃ k n m : Int, ∃ v : Int, MemOk c ∧ -3000000000 ≤ n ∧ n ≤ 3000000000 ∧ (-32768 ≤ v ∧ v ≤ 32767) ∧ e = .returned (.tuple #[.agg c, .agg #[.int .i64 k, .int .i64 n, .int .i64 m], .int .i16 v])

set_option maxRecDepth 10000 in
set_option maxHeartbeats 4000000 in
theorem drawputw_r {a : Option Addr} {len cap blk off : Nat} {z : Nat → Int} (w : World) (h : Code0 w a len cap blk off z) :
    Calls Tryd.prog 4 #[.slice a len cap] w fun e w' => IsPutW e ∧ Below w.heap.size w w' := by
  have hz := zero_mem.1
  obtain ⟨Z, HZ⟩ : ∃ Z, Hid (Z = memZero) := ⟨_, rfl⟩
  rw [← HZ.out] at hz
  have HZs : Hid (Z.size = 136) := (by rw [HZ.out, memZero_size] : Z.size = 136)
  have b0 : Below w.heap.size w ((w.alloc (.cells Z 37)).alloc (.cells #[.int .i64 0, .int .i64 0, .int .i64 0] 39)) := ((Below.refl _ _).alloc (Nat.le_refl _) _).alloc (by simp) _
  have r0 := rows2 w (.cells Z 37) (.cells #[.int .i64 0, .int .i64 0, .int .i64 0] 39)
  go_enter Tryd.func4, Tryd.ntmps4
  go_wp2_with fail
  refine ((h.later b0).open).mono ?_
  rintro e w1 ⟨rfl, hR, g1⟩
  have h1 : Reader (w.heap.size + 1 + 1 + 1) w1 (w.heap.size + 1 + 1) 0 := by simpa using hR
  have b1 : Below w.heap.size w w1 := b0.trans (g1.mono b0.size)
  have k1 : w1.heap[w.heap.size]? = some (.cells Z 37 (0, 0)) := (g1.block _ (by simp <;> omega)).trans r0.1
  have j1 : w1.heap[w.heap.size + 1]? = some (.cells #[.int .i64 0, .int .i64 0, .int .i64 0] 39 (0, 0)) := (g1.block _ (by simp <;> omega)).trans r0.2
  have l1 : w.heap.size + 1 + 1 + 1 ≤ w1.heap.size := h1.2.1
  clear g1 hR hz b0 r0 h
  go_wp2_with fail
  refine (whole_r _ _ 0 _ h1 (by omega)).mono ?_
  rintro e w2 ⟨v, rfl, hv, ⟨q2, hq2, h2⟩, g2⟩
  have HV : Hid ((-32768 ≤ v ∧ v ≤ 32767)) := hv
  have b2 : Below w.heap.size w w2 := b1.grown g2 b1.size (fun j hj => by cases hj; omega)
  have k2 : w2.heap[w.heap.size]? = some (.cells Z 37 (0, 0)) := (g2.block _ (by omega) (by simp <;> omega)).trans k1
  have j2 : w2.heap[w.heap.size + 1]? = some (.cells #[.int .i64 0, .int .i64 0, .int .i64 0] 39 (0, 0)) := (g2.block _ (by omega) (by simp <;> omega)).trans j1
  have l2 : w.heap.size + 1 + 1 + 1 ≤ w2.heap.size := h2.2.1
  clear g2 k1 j1 b1 h1 hv
  go_wp2_with fail
  refine (asks_r _ _ _ _ h2 (by omega)).mono ?_
  rintro e w3 ⟨⟨k, n, m, n0, n1, rfl⟩, ⟨q3, hq3, h3⟩, g3⟩
  have b3 : Below w.heap.size w w3 := b2.grown g3 b2.size (fun j hj => by cases hj; omega)
  have k3 : w3.heap[w.heap.size]? = some (.cells Z 37 (0, 0)) := (g3.block _ (by omega) (by simp <;> omega)).trans k2
  have j3 : w3.heap[w.heap.size + 1]? = some (.cells #[.int .i64 0, .int .i64 0, .int .i64 0] 39 (0, 0)) := (g3.block _ (by omega) (by simp <;> omega)).trans j2
  have l3 : w.heap.size + 1 + 1 + 1 ≤ w3.heap.size := h3.2.1
  clear g3 k2 j2 b2 h2
  go_wp2_with fail
  obtain ⟨u, HU⟩ : ∃ u, Hid (u = w3.alloc (.cells #[.int .i64 k, .int .i64 n, .int .i64 m] 39)) := ⟨_, rfl⟩
  have bu : Below w.heap.size w u := by rw [HU.out]; exact b3.alloc (by omega) _
  have ku : u.heap[w.heap.size]? = some (.cells Z 37 (0, 0)) := by rw [HU.out]; exact (heap_alloc_old w3 _ (by omega)).trans k3
  have ju : u.heap[w.heap.size + 1]? = some (.cells #[.int .i64 0, .int .i64 0, .int .i64 0] 39 (0, 0)) := by rw [HU.out]; exact (heap_alloc_old w3 _ (by omega)).trans j3
  have iu : u.heap[w3.heap.size]? = some (.cells #[.int .i64 k, .int .i64 n, .int .i64 m] 39 (0, 0)) := by rw [HU.out]; exact heap_alloc_last w3 _
  have hu : Reader (w.heap.size + 1 + 1 + 1) u (w.heap.size + 1 + 1) q3 := by rw [HU.out]; exact h3.alloc _
  rw [← HU.out]
  clear HU b3 k3 j3 h3
  obtain ⟨g7, HG⟩ : ∃ g, Hid (g = w3.heap.size) := ⟨_, rfl⟩
  rw [← HG.out] at iu l3 ⊢
  clear HG w3
  refine (pick_r _ _ _ 2 _ hu (by omega) (by omega) (by omega)).mono ?_
  rintro e w3 ⟨r4, hr4, rfl, h3, g3⟩
  have b3 : Below w.heap.size w w3 := bu.grown g3 bu.size (fun j hj => by cases hj; omega)
  have lu : g7 < u.heap.size := (Array.getElem?_eq_some_iff.1 iu).1
  have k3 : w3.heap[w.heap.size]? = some (.cells Z 37 (0, 0)) := (g3.block _ (by omega) (by simp <;> omega)).trans ku
  have j3 : w3.heap[w.heap.size + 1]? = some (.cells #[.int .i64 0, .int .i64 0, .int .i64 0] 39 (0, 0)) := (g3.block _ (by omega) (by simp <;> omega)).trans ju
  have i3 : w3.heap[g7]? = some (.cells #[.int .i64 k, .int .i64 n, .int .i64 m] 39 (0, 0)) := (g3.block _ lu (by simp; omega)).trans iu
  have l4 : g7 < w3.heap.size := (Array.getElem?_eq_some_iff.1 i3).1
  clear g3 bu ku ju iu hu lu hr4
  by_cases hr : r4 = 0
  · have e0 : ((r4 : Int) == 0) = true := by rw [hr]; rfl
    clear hr
    obtain ⟨kk, hkk⟩ : ∃ x : Int, x = k := ⟨_, rfl⟩
    obtain ⟨nn, hnn⟩ : ∃ x : Int, x = n := ⟨_, rfl⟩
    obtain ⟨mm, hmm⟩ : ∃ x : Int, x = m := ⟨_, rfl⟩
    subst hkk hnn hmm
    go_wp2_with fail
    refine (arg_r _ _ _ 9 _ h3 (by omega) (by omega) (by omega)).mono ?_
    rintro e w7 ⟨⟨k, n, m, n0, n1, rfl⟩, ⟨q7, hq7, h7⟩, g7'⟩
    have b7 : Below w.heap.size w w7 := b3.grown g7' b3.size (fun j hj => by cases hj; omega)
    have k7 : w7.heap[w.heap.size]? = some (.cells Z 37 (0, 0)) := (g7'.block _ (by omega) (by simp <;> omega)).trans k3
    have j7 : w7.heap[w.heap.size + 1]? = some (.cells #[.int .i64 0, .int .i64 0, .int .i64 0] 39 (0, 0)) := (g7'.block _ (by omega) (by simp <;> omega)).trans j3
    have i7 := (g7'.block _ l4 (by simp; omega)).trans i3
    clear b3 k3 j3 i3 h3 l4
    obtain ⟨w3, HW3⟩ : ∃ u, Hid (u = w7.setRow g7 #[.int .i64 k, .int .i64 n, .int .i64 m]) := ⟨_, rfl⟩
    have HS3 : Hid ((storeVar 39 ⟨g7, 0, none⟩ (.agg #[.int .i64 k, .int .i64 n, .int .i64 m])).run Tryd.prog w7 = .ok () w3) := by rw [HW3.out]; exact store_all i7 _ _ rfl arg_size (int3_one k n m)
    have b3 : Below w.heap.size w w3 := by rw [HW3.out]; exact below_setRow b7 (by omega) _
    have k3 : w3.heap[w.heap.size]? = some (.cells Z 37 (0, 0)) := by rw [HW3.out]; exact row_beside k7 _ (by omega) _
    have j3 : w3.heap[w.heap.size + 1]? = some (.cells #[.int .i64 0, .int .i64 0, .int .i64 0] 39 (0, 0)) := by rw [HW3.out]; exact row_beside j7 _ (by omega) _
    have i3 : w3.heap[g7]? = some (.cells #[.int .i64 k, .int .i64 n, .int .i64 m] 39 (0, 0)) := by rw [HW3.out]; exact row_set i7 _
    have h3 : Reader (w.heap.size + 1 + 1 + 1) w3 (w.heap.size + 1 + 1) q7 := by rw [HW3.out]; exact h7.kept (gb_row _ _ _) (fun j hj => by cases hj; omega)
    have l4 : g7 < w3.heap.size := (Array.getElem?_eq_some_iff.1 i3).1
    have n0 : -3000000000 ≤ n := by omega
    have n1 : n ≤ 3000000000 := by omega
    clear b7 k7 j7 i7 h7 g7' HW3
    go_upto_region 6 with (first | (refine wpL_store rfl 39 _ _ rfl _ _ rfl _ rfl _ HS3.out ?_) | fail)
    clear HS3
    obtain ⟨S, HS⟩ : ∃ S : World → Prop, Hid (∀ W, S W ↔ W.heap[g7]? = some (.cells #[.int .i64 k, .int .i64 n, .int .i64 m] 39 (0, 0))) := ⟨_, fun W => Iff.rfl⟩
    refine region_cut (R := fun a' W => ∃ c, MemOk c ∧ W.heap[w.heap.size]? = some (.cells c 37 (0, 0)) ∧ W.heap[w.heap.size + 1]? = some (.cells #[.int .i64 k, .int .i64 n, .int .i64 m] 39 (0, 0)) ∧ Below w.heap.size w W ∧ a' = ⟨#[.slice a len cap, undef, .pointer (some ⟨w.heap.size, 0, none⟩), .pointer (some ⟨w.heap.size + 1, 0, none⟩), .int .i16 v, .pointer (some ⟨w.heap.size + 1 + 1, 0, none⟩), .int .i16 v, .pointer (some ⟨g7, 0, none⟩), .slice a len cap, .pointer (some ⟨w.heap.size + 1 + 1, 0, none⟩), .pointer (some ⟨w.heap.size + 1 + 1, 0, none⟩), .int .i16 v, .pointer (some ⟨w.heap.size + 1 + 1, 0, none⟩), .agg #[.int .i64 kk, .int .i64 nn, .int .i64 mm], .pointer (some ⟨w.heap.size + 1 + 1, 0, none⟩), .int .i64 (r4 : Int), .bool true, .pointer (some ⟨w.heap.size + 1 + 1, 0, none⟩), .agg #[.int .i64 k, .int .i64 n, .int .i64 m], .pointer (some ⟨w.heap.size + 1 + 1, 0, none⟩), .agg c, .agg #[.int .i64 k, .int .i64 n, .int .i64 m], .int .i16 v], []⟩) ?_ ?_
    · refine wp_region_held_drew (S := S) (by kernel_rfl) ((HS.out _).2 i3) (fun S0 => ?_)
      show wpAnyH _ _ _ _ _ 7 #[false, false, false, false, false, false, false] _ _
      refine tk_val' (i := 0) rfl (by kernel_rfl) (by kernel_rfl) (by kernel_rfl) (fun _ _ _ _ h => nomatch h.1) rfl (.pointer (some ⟨w.heap.size + 1 + 1, 0, none⟩)) (fun W _ => by go_simp) S0 #[true, false, false, false, false, false, false] rfl ⟨#[.slice a len cap, undef, .pointer (some ⟨w.heap.size, 0, none⟩), .pointer (some ⟨w.heap.size + 1, 0, none⟩), .int .i16 0, .pointer (some ⟨w.heap.size + 1 + 1, 0, none⟩), .int .i16 v, .pointer (some ⟨g7, 0, none⟩), .slice a len cap, .pointer (some ⟨w.heap.size + 1 + 1, 0, none⟩), .pointer (some ⟨w.heap.size + 1 + 1, 0, none⟩), .int .i16 v, .pointer (some ⟨w.heap.size + 1 + 1, 0, none⟩), .agg #[.int .i64 kk, .int .i64 nn, .int .i64 mm], .pointer (some ⟨w.heap.size + 1 + 1, 0, none⟩), .int .i64 (r4 : Int), .bool true, .pointer (some ⟨w.heap.size + 1 + 1, 0, none⟩), .agg #[.int .i64 k, .int .i64 n, .int .i64 m], .pointer (some ⟨w.heap.size + 1 + 1, 0, none⟩), undef, undef, undef], []⟩ rfl ?_
      refine tk_load' (i := 2) rfl (by kernel_rfl) (by kernel_rfl) (by kernel_rfl) (fun _ _ _ _ h => nomatch h.1) rfl 39 _ rfl _ _ rfl (.agg #[.int .i64 k, .int .i64 n, .int .i64 m]) (fun W hW => load_all ((HS.out W).1 hW) _ _ Tryd.underlying39 rfl arg_size) S0 #[true, false, true, false, false, false, false] rfl ⟨#[.slice a len cap, undef, .pointer (some ⟨w.heap.size, 0, none⟩), .pointer (some ⟨w.heap.size + 1, 0, none⟩), .int .i16 0, .pointer (some ⟨w.heap.size + 1 + 1, 0, none⟩), .int .i16 v, .pointer (some ⟨g7, 0, none⟩), .slice a len cap, .pointer (some ⟨w.heap.size + 1 + 1, 0, none⟩), .pointer (some ⟨w.heap.size + 1 + 1, 0, none⟩), .int .i16 v, .pointer (some ⟨w.heap.size + 1 + 1, 0, none⟩), .agg #[.int .i64 kk, .int .i64 nn, .int .i64 mm], .pointer (some ⟨w.heap.size + 1 + 1, 0, none⟩), .int .i64 (r4 : Int), .bool true, .pointer (some ⟨w.heap.size + 1 + 1, 0, none⟩), .agg #[.int .i64 k, .int .i64 n, .int .i64 m], .pointer (some ⟨w.heap.size + 1 + 1, 0, none⟩), undef, .agg #[.int .i64 k, .int .i64 n, .int .i64 m], undef], []⟩ rfl ?_
      refine tk_val' (i := 3) rfl (by kernel_rfl) (by kernel_rfl) (by kernel_rfl) (fun _ _ _ _ h => nomatch h.1) rfl (.int .i16 v) (fun W _ => by go_simp) S0 #[true, false, true, true, false, false, false] rfl ⟨#[.slice a len cap, undef, .pointer (some ⟨w.heap.size, 0, none⟩), .pointer (some ⟨w.heap.size + 1, 0, none⟩), .int .i16 0, .pointer (some ⟨w.heap.size + 1 + 1, 0, none⟩), .int .i16 v, .pointer (some ⟨g7, 0, none⟩), .slice a len cap, .pointer (some ⟨w.heap.size + 1 + 1, 0, none⟩), .pointer (some ⟨w.heap.size + 1 + 1, 0, none⟩), .int .i16 v, .pointer (some ⟨w.heap.size + 1 + 1, 0, none⟩), .agg #[.int .i64 kk, .int .i64 nn, .int .i64 mm], .pointer (some ⟨w.heap.size + 1 + 1, 0, none⟩), .int .i64 (r4 : Int), .bool true, .pointer (some ⟨w.heap.size + 1 + 1, 0, none⟩), .agg #[.int .i64 k, .int .i64 n, .int .i64 m], .pointer (some ⟨w.heap.size + 1 + 1, 0, none⟩), undef, .agg #[.int .i64 k, .int .i64 n, .int .i64 m], .int .i16 v], []⟩ rfl ?_
      refine wpAnyH_all (rs := [1]) (by kernel_rfl) (by simp) (fun i hi => ?_)
      obtain rfl := List.mem_singleton.1 hi
      refine up_fcallV rfl rfl Tryd.func17 (by kernel_rfl) (by kernel_rfl) rfl [.pointer (some ⟨w.heap.size + 1 + 1, 0, none⟩)] rfl #[true, true, true, true, false, false, false] rfl (fun vv => ⟨#[.slice a len cap, undef, .pointer (some ⟨w.heap.size, 0, none⟩), .pointer (some ⟨w.heap.size + 1, 0, none⟩), .int .i16 0, .pointer (some ⟨w.heap.size + 1 + 1, 0, none⟩), .int .i16 v, .pointer (some ⟨g7, 0, none⟩), .slice a len cap, .pointer (some ⟨w.heap.size + 1 + 1, 0, none⟩), .pointer (some ⟨w.heap.size + 1 + 1, 0, none⟩), .int .i16 v, .pointer (some ⟨w.heap.size + 1 + 1, 0, none⟩), .agg #[.int .i64 kk, .int .i64 nn, .int .i64 mm], .pointer (some ⟨w.heap.size + 1 + 1, 0, none⟩), .int .i64 (r4 : Int), .bool true, .pointer (some ⟨w.heap.size + 1 + 1, 0, none⟩), .agg #[.int .i64 k, .int .i64 n, .int .i64 m], .pointer (some ⟨w.heap.size + 1 + 1, 0, none⟩), vv, .agg #[.int .i64 k, .int .i64 n, .int .i64 m], .int .i16 v], []⟩) (fun _ => rfl) (fun vv W => ∃ c, vv = .agg c ∧ MemOk c ∧ w3.drew.grownBy W (some (w.heap.size + 1 + 1))) ((draw5_r _ _ _ _ h3.drew (by omega)).mono fun e W hh => ?_) ?_
      · obtain ⟨⟨c, hc, he⟩, _, hg⟩ := hh
        exact ⟨_, he, c, rfl, hc, hg⟩
      rintro _ w4 ⟨c, rfl, hc, g4⟩
      have b4 : Below w.heap.size w w4 := b3.drew.grown g4 b3.drew.size (fun j hj => by cases hj; omega)
      have k4 : w4.heap[w.heap.size]? = some (.cells Z 37 (0, 0)) := (g4.block _ (by show _ < w3.heap.size; omega) (by simp <;> omega)).trans k3
      have j4 : w4.heap[w.heap.size + 1]? = some (.cells #[.int .i64 0, .int .i64 0, .int .i64 0] 39 (0, 0)) := (g4.block _ (by show _ < w3.heap.size; omega) (by simp <;> omega)).trans j3
      have i4 : w4.heap[g7]? = some (.cells #[.int .i64 k, .int .i64 n, .int .i64 m] 39 (0, 0)) := (g4.block _ (by show _ < w3.heap.size; omega) (by simp; omega)).trans i3
      refine ⟨(HS.out _).2 i4, ?_⟩
      have HI : Hid ((Tryd.prog.info? 37).map (·.size) = some c.size) := by rw [hc.size]; exact zero_mem.2
      refine wpAnyH_all (rs := [4]) (by kernel_rfl) (by simp) (fun i hi => ?_)
      obtain rfl := List.mem_singleton.1 hi
      refine up_store' rfl rfl 37 _ _ rfl _ _ rfl _ rfl _ (store_all k4 _ _ (HZs.out.trans hc.size.symm) HI.out hc.one) ((HS.out _).2 (row_beside i4 _ (by omega) _)) #[true, true, true, true, true, false, false] rfl ⟨#[.slice a len cap, undef, .pointer (some ⟨w.heap.size, 0, none⟩), .pointer (some ⟨w.heap.size + 1, 0, none⟩), .int .i16 0, .pointer (some ⟨w.heap.size + 1 + 1, 0, none⟩), .int .i16 v, .pointer (some ⟨g7, 0, none⟩), .slice a len cap, .pointer (some ⟨w.heap.size + 1 + 1, 0, none⟩), .pointer (some ⟨w.heap.size + 1 + 1, 0, none⟩), .int .i16 v, .pointer (some ⟨w.heap.size + 1 + 1, 0, none⟩), .agg #[.int .i64 kk, .int .i64 nn, .int .i64 mm], .pointer (some ⟨w.heap.size + 1 + 1, 0, none⟩), .int .i64 (r4 : Int), .bool true, .pointer (some ⟨w.heap.size + 1 + 1, 0, none⟩), .agg #[.int .i64 k, .int .i64 n, .int .i64 m], .pointer (some ⟨w.heap.size + 1 + 1, 0, none⟩), .agg c, .agg #[.int .i64 k, .int .i64 n, .int .i64 m], .int .i16 v], []⟩ rfl ?_
      refine wpAnyH_all (rs := [5]) (by kernel_rfl) (by simp) (fun i hi => ?_)
      obtain rfl := List.mem_singleton.1 hi
      have j5 := row_beside j4 w.heap.size (by omega) c
      have S6 : S ((w4.setRow w.heap.size c).setRow (w.heap.size + 1) #[.int .i64 k, .int .i64 n, .int .i64 m]) := (HS.out _).2 (row_beside (row_beside i4 _ (by omega) _) _ (by omega) _)
      refine up_store' rfl rfl 39 _ _ rfl _ _ rfl _ rfl _ (store_all j5 _ _ rfl arg_size (int3_one k n m)) S6 #[true, true, true, true, true, true, false] rfl ⟨#[.slice a len cap, undef, .pointer (some ⟨w.heap.size, 0, none⟩), .pointer (some ⟨w.heap.size + 1, 0, none⟩), .int .i16 0, .pointer (some ⟨w.heap.size + 1 + 1, 0, none⟩), .int .i16 v, .pointer (some ⟨g7, 0, none⟩), .slice a len cap, .pointer (some ⟨w.heap.size + 1 + 1, 0, none⟩), .pointer (some ⟨w.heap.size + 1 + 1, 0, none⟩), .int .i16 v, .pointer (some ⟨w.heap.size + 1 + 1, 0, none⟩), .agg #[.int .i64 kk, .int .i64 nn, .int .i64 mm], .pointer (some ⟨w.heap.size + 1 + 1, 0, none⟩), .int .i64 (r4 : Int), .bool true, .pointer (some ⟨w.heap.size + 1 + 1, 0, none⟩), .agg #[.int .i64 k, .int .i64 n, .int .i64 m], .pointer (some ⟨w.heap.size + 1 + 1, 0, none⟩), .agg c, .agg #[.int .i64 k, .int .i64 n, .int .i64 m], .int .i16 v], []⟩ rfl ?_
      refine tk_val' (i := 6) rfl (by kernel_rfl) (by kernel_rfl) (by kernel_rfl) (fun _ _ _ _ h => nomatch h.1) rfl (.int .i16 v) (fun W _ => by go_simp) S6 #[true, true, true, true, true, true, true] rfl ⟨#[.slice a len cap, undef, .pointer (some ⟨w.heap.size, 0, none⟩), .pointer (some ⟨w.heap.size + 1, 0, none⟩), .int .i16 v, .pointer (some ⟨w.heap.size + 1 + 1, 0, none⟩), .int .i16 v, .pointer (some ⟨g7, 0, none⟩), .slice a len cap, .pointer (some ⟨w.heap.size + 1 + 1, 0, none⟩), .pointer (some ⟨w.heap.size + 1 + 1, 0, none⟩), .int .i16 v, .pointer (some ⟨w.heap.size + 1 + 1, 0, none⟩), .agg #[.int .i64 kk, .int .i64 nn, .int .i64 mm], .pointer (some ⟨w.heap.size + 1 + 1, 0, none⟩), .int .i64 (r4 : Int), .bool true, .pointer (some ⟨w.heap.size + 1 + 1, 0, none⟩), .agg #[.int .i64 k, .int .i64 n, .int .i64 m], .pointer (some ⟨w.heap.size + 1 + 1, 0, none⟩), .agg c, .agg #[.int .i64 k, .int .i64 n, .int .i64 m], .int .i16 v], []⟩ rfl ?_
      exact wpAnyH_done (by kernel_rfl) ⟨rfl, c, hc, row_beside (row_set k4 _) _ (by omega) _, row_set j5 _, below_setRow (below_setRow b4 (Nat.le_refl _) _) (by omega) _, rfl⟩ _
    rintro _ w5 ⟨c, hc, k5, j5, b5, rfl⟩
    have HC : Hid (MemOk c) := hc
    have HLa : Hid ((loadVar 37 ⟨w.heap.size, 0, none⟩).run Tryd.prog w5 = .ok (.agg c) w5) := load_all k5 _ _ Tryd.underlying37 rfl (by rw [hc.size]; exact zero_mem.2)
    have HLb : Hid ((loadVar 39 ⟨w.heap.size + 1, 0, none⟩).run Tryd.prog w5 = .ok (.agg #[.int .i64 k, .int .i64 n, .int .i64 m]) w5) := load_all j5 _ _ Tryd.underlying39 rfl arg_size
    have HB : Hid (Below w.heap.size w w5) := b5
    clear b3 k3 j3 i3 h3 k5 j5 b5 hc HS
    go_wp2_with (first | exact ret_row3 rfl rfl rfl rfl HLa.out HLb.out rfl ⟨⟨c, k, n, m, v, HC.out, n0, n1, HV.out, rfl⟩, HB.out⟩ | fail)
  · have e0 : ((r4 : Int) == 0) = false := by simp; omega
    clear hr
    go_upto_region 6 with fail
    obtain ⟨S, HS⟩ : ∃ S : World → Prop, Hid (∀ W, S W ↔ W.heap[g7]? = some (.cells #[.int .i64 k, .int .i64 n, .int .i64 m] 39 (0, 0))) := ⟨_, fun W => Iff.rfl⟩
    refine region_cut (R := fun a' W => ∃ c, MemOk c ∧ W.heap[w.heap.size]? = some (.cells c 37 (0, 0)) ∧ W.heap[w.heap.size + 1]? = some (.cells #[.int .i64 k, .int .i64 n, .int .i64 m] 39 (0, 0)) ∧ Below w.heap.size w W ∧ a' = ⟨#[.slice a len cap, undef, .pointer (some ⟨w.heap.size, 0, none⟩), .pointer (some ⟨w.heap.size + 1, 0, none⟩), .int .i16 v, .pointer (some ⟨w.heap.size + 1 + 1, 0, none⟩), .int .i16 v, .pointer (some ⟨g7, 0, none⟩), .slice a len cap, .pointer (some ⟨w.heap.size + 1 + 1, 0, none⟩), .pointer (some ⟨w.heap.size + 1 + 1, 0, none⟩), .int .i16 v, .pointer (some ⟨w.heap.size + 1 + 1, 0, none⟩), .agg #[.int .i64 k, .int .i64 n, .int .i64 m], .pointer (some ⟨w.heap.size + 1 + 1, 0, none⟩), .int .i64 (r4 : Int), .bool false, undef, undef, .pointer (some ⟨w.heap.size + 1 + 1, 0, none⟩), .agg c, .agg #[.int .i64 k, .int .i64 n, .int .i64 m], .int .i16 v], []⟩) ?_ ?_
    · refine wp_region_held_drew (S := S) (by kernel_rfl) ((HS.out _).2 i3) (fun S0 => ?_)
      show wpAnyH _ _ _ _ _ 7 #[false, false, false, false, false, false, false] _ _
      refine tk_val' (i := 0) rfl (by kernel_rfl) (by kernel_rfl) (by kernel_rfl) (fun _ _ _ _ h => nomatch h.1) rfl (.pointer (some ⟨w.heap.size + 1 + 1, 0, none⟩)) (fun W _ => by go_simp) S0 #[true, false, false, false, false, false, false] rfl ⟨#[.slice a len cap, undef, .pointer (some ⟨w.heap.size, 0, none⟩), .pointer (some ⟨w.heap.size + 1, 0, none⟩), .int .i16 0, .pointer (some ⟨w.heap.size + 1 + 1, 0, none⟩), .int .i16 v, .pointer (some ⟨g7, 0, none⟩), .slice a len cap, .pointer (some ⟨w.heap.size + 1 + 1, 0, none⟩), .pointer (some ⟨w.heap.size + 1 + 1, 0, none⟩), .int .i16 v, .pointer (some ⟨w.heap.size + 1 + 1, 0, none⟩), .agg #[.int .i64 k, .int .i64 n, .int .i64 m], .pointer (some ⟨w.heap.size + 1 + 1, 0, none⟩), .int .i64 (r4 : Int), .bool false, undef, undef, .pointer (some ⟨w.heap.size + 1 + 1, 0, none⟩), undef, undef, undef], []⟩ rfl ?_
      refine tk_load' (i := 2) rfl (by kernel_rfl) (by kernel_rfl) (by kernel_rfl) (fun _ _ _ _ h => nomatch h.1) rfl 39 _ rfl _ _ rfl (.agg #[.int .i64 k, .int .i64 n, .int .i64 m]) (fun W hW => load_all ((HS.out W).1 hW) _ _ Tryd.underlying39 rfl arg_size) S0 #[true, false, true, false, false, false, false] rfl ⟨#[.slice a len cap, undef, .pointer (some ⟨w.heap.size, 0, none⟩), .pointer (some ⟨w.heap.size + 1, 0, none⟩), .int .i16 0, .pointer (some ⟨w.heap.size + 1 + 1, 0, none⟩), .int .i16 v, .pointer (some ⟨g7, 0, none⟩), .slice a len cap, .pointer (some ⟨w.heap.size + 1 + 1, 0, none⟩), .pointer (some ⟨w.heap.size + 1 + 1, 0, none⟩), .int .i16 v, .pointer (some ⟨w.heap.size + 1 + 1, 0, none⟩), .agg #[.int .i64 k, .int .i64 n, .int .i64 m], .pointer (some ⟨w.heap.size + 1 + 1, 0, none⟩), .int .i64 (r4 : Int), .bool false, undef, undef, .pointer (some ⟨w.heap.size + 1 + 1, 0, none⟩), undef, .agg #[.int .i64 k, .int .i64 n, .int .i64 m], undef], []⟩ rfl ?_
      refine tk_val' (i := 3) rfl (by kernel_rfl) (by kernel_rfl) (by kernel_rfl) (fun _ _ _ _ h => nomatch h.1) rfl (.int .i16 v) (fun W _ => by go_simp) S0 #[true, false, true, true, false, false, false] rfl ⟨#[.slice a len cap, undef, .pointer (some ⟨w.heap.size, 0, none⟩), .pointer (some ⟨w.heap.size + 1, 0, none⟩), .int .i16 0, .pointer (some ⟨w.heap.size + 1 + 1, 0, none⟩), .int .i16 v, .pointer (some ⟨g7, 0, none⟩), .slice a len cap, .pointer (some ⟨w.heap.size + 1 + 1, 0, none⟩), .pointer (some ⟨w.heap.size + 1 + 1, 0, none⟩), .int .i16 v, .pointer (some ⟨w.heap.size + 1 + 1, 0, none⟩), .agg #[.int .i64 k, .int .i64 n, .int .i64 m], .pointer (some ⟨w.heap.size + 1 + 1, 0, none⟩), .int .i64 (r4 : Int), .bool false, undef, undef, .pointer (some ⟨w.heap.size + 1 + 1, 0, none⟩), undef, .agg #[.int .i64 k, .int .i64 n, .int .i64 m], .int .i16 v], []⟩ rfl ?_
      refine wpAnyH_all (rs := [1]) (by kernel_rfl) (by simp) (fun i hi => ?_)
      obtain rfl := List.mem_singleton.1 hi
      refine up_fcallV rfl rfl Tryd.func17 (by kernel_rfl) (by kernel_rfl) rfl [.pointer (some ⟨w.heap.size + 1 + 1, 0, none⟩)] rfl #[true, true, true, true, false, false, false] rfl (fun vv => ⟨#[.slice a len cap, undef, .pointer (some ⟨w.heap.size, 0, none⟩), .pointer (some ⟨w.heap.size + 1, 0, none⟩), .int .i16 0, .pointer (some ⟨w.heap.size + 1 + 1, 0, none⟩), .int .i16 v, .pointer (some ⟨g7, 0, none⟩), .slice a len cap, .pointer (some ⟨w.heap.size + 1 + 1, 0, none⟩), .pointer (some ⟨w.heap.size + 1 + 1, 0, none⟩), .int .i16 v, .pointer (some ⟨w.heap.size + 1 + 1, 0, none⟩), .agg #[.int .i64 k, .int .i64 n, .int .i64 m], .pointer (some ⟨w.heap.size + 1 + 1, 0, none⟩), .int .i64 (r4 : Int), .bool false, undef, undef, .pointer (some ⟨w.heap.size + 1 + 1, 0, none⟩), vv, .agg #[.int .i64 k, .int .i64 n, .int .i64 m], .int .i16 v], []⟩) (fun _ => rfl) (fun vv W => ∃ c, vv = .agg c ∧ MemOk c ∧ w3.drew.grownBy W (some (w.heap.size + 1 + 1))) ((draw5_r _ _ _ _ h3.drew (by omega)).mono fun e W hh => ?_) ?_
      · obtain ⟨⟨c, hc, he⟩, _, hg⟩ := hh
        exact ⟨_, he, c, rfl, hc, hg⟩
      rintro _ w4 ⟨c, rfl, hc, g4⟩
      have b4 : Below w.heap.size w w4 := b3.drew.grown g4 b3.drew.size (fun j hj => by cases hj; omega)
      have k4 : w4.heap[w.heap.size]? = some (.cells Z 37 (0, 0)) := (g4.block _ (by show _ < w3.heap.size; omega) (by simp <;> omega)).trans k3
      have j4 : w4.heap[w.heap.size + 1]? = some (.cells #[.int .i64 0, .int .i64 0, .int .i64 0] 39 (0, 0)) := (g4.block _ (by show _ < w3.heap.size; omega) (by simp <;> omega)).trans j3
      have i4 : w4.heap[g7]? = some (.cells #[.int .i64 k, .int .i64 n, .int .i64 m] 39 (0, 0)) := (g4.block _ (by show _ < w3.heap.size; omega) (by simp; omega)).trans i3
      refine ⟨(HS.out _).2 i4, ?_⟩
      have HI : Hid ((Tryd.prog.info? 37).map (·.size) = some c.size) := by rw [hc.size]; exact zero_mem.2
      refine wpAnyH_all (rs := [4]) (by kernel_rfl) (by simp) (fun i hi => ?_)
      obtain rfl := List.mem_singleton.1 hi
      refine up_store' rfl rfl 37 _ _ rfl _ _ rfl _ rfl _ (store_all k4 _ _ (HZs.out.trans hc.size.symm) HI.out hc.one) ((HS.out _).2 (row_beside i4 _ (by omega) _)) #[true, true, true, true, true, false, false] rfl ⟨#[.slice a len cap, undef, .pointer (some ⟨w.heap.size, 0, none⟩), .pointer (some ⟨w.heap.size + 1, 0, none⟩), .int .i16 0, .pointer (some ⟨w.heap.size + 1 + 1, 0, none⟩), .int .i16 v, .pointer (some ⟨g7, 0, none⟩), .slice a len cap, .pointer (some ⟨w.heap.size + 1 + 1, 0, none⟩), .pointer (some ⟨w.heap.size + 1 + 1, 0, none⟩), .int .i16 v, .pointer (some ⟨w.heap.size + 1 + 1, 0, none⟩), .agg #[.int .i64 k, .int .i64 n, .int .i64 m], .pointer (some ⟨w.heap.size + 1 + 1, 0, none⟩), .int .i64 (r4 : Int), .bool false, undef, undef, .pointer (some ⟨w.heap.size + 1 + 1, 0, none⟩), .agg c, .agg #[.int .i64 k, .int .i64 n, .int .i64 m], .int .i16 v], []⟩ rfl ?_
      refine wpAnyH_all (rs := [5]) (by kernel_rfl) (by simp) (fun i hi => ?_)
      obtain rfl := List.mem_singleton.1 hi
      have j5 := row_beside j4 w.heap.size (by omega) c
      have S6 : S ((w4.setRow w.heap.size c).setRow (w.heap.size + 1) #[.int .i64 k, .int .i64 n, .int .i64 m]) := (HS.out _).2 (row_beside (row_beside i4 _ (by omega) _) _ (by omega) _)
      refine up_store' rfl rfl 39 _ _ rfl _ _ rfl _ rfl _ (store_all j5 _ _ rfl arg_size (int3_one k n m)) S6 #[true, true, true, true, true, true, false] rfl ⟨#[.slice a len cap, undef, .pointer (some ⟨w.heap.size, 0, none⟩), .pointer (some ⟨w.heap.size + 1, 0, none⟩), .int .i16 0, .pointer (some ⟨w.heap.size + 1 + 1, 0, none⟩), .int .i16 v, .pointer (some ⟨g7, 0, none⟩), .slice a len cap, .pointer (some ⟨w.heap.size + 1 + 1, 0, none⟩), .pointer (some ⟨w.heap.size + 1 + 1, 0, none⟩), .int .i16 v, .pointer (some ⟨w.heap.size + 1 + 1, 0, none⟩), .agg #[.int .i64 k, .int .i64 n, .int .i64 m], .pointer (some ⟨w.heap.size + 1 + 1, 0, none⟩), .int .i64 (r4 : Int), .bool false, undef, undef, .pointer (some ⟨w.heap.size + 1 + 1, 0, none⟩), .agg c, .agg #[.int .i64 k, .int .i64 n, .int .i64 m], .int .i16 v], []⟩ rfl ?_
      refine tk_val' (i := 6) rfl (by kernel_rfl) (by kernel_rfl) (by kernel_rfl) (fun _ _ _ _ h => nomatch h.1) rfl (.int .i16 v) (fun W _ => by go_simp) S6 #[true, true, true, true, true, true, true] rfl ⟨#[.slice a len cap, undef, .pointer (some ⟨w.heap.size, 0, none⟩), .pointer (some ⟨w.heap.size + 1, 0, none⟩), .int .i16 v, .pointer (some ⟨w.heap.size + 1 + 1, 0, none⟩), .int .i16 v, .pointer (some ⟨g7, 0, none⟩), .slice a len cap, .pointer (some ⟨w.heap.size + 1 + 1, 0, none⟩), .pointer (some ⟨w.heap.size + 1 + 1, 0, none⟩), .int .i16 v, .pointer (some ⟨w.heap.size + 1 + 1, 0, none⟩), .agg #[.int .i64 k, .int .i64 n, .int .i64 m], .pointer (some ⟨w.heap.size + 1 + 1, 0, none⟩), .int .i64 (r4 : Int), .bool false, undef, undef, .pointer (some ⟨w.heap.size + 1 + 1, 0, none⟩), .agg c, .agg #[.int .i64 k, .int .i64 n, .int .i64 m], .int .i16 v], []⟩ rfl ?_
      exact wpAnyH_done (by kernel_rfl) ⟨rfl, c, hc, row_beside (row_set k4 _) _ (by omega) _, row_set j5 _, below_setRow (below_setRow b4 (Nat.le_refl _) _) (by omega) _, rfl⟩ _
    rintro _ w5 ⟨c, hc, k5, j5, b5, rfl⟩
    have HC : Hid (MemOk c) := hc
    have HLa : Hid ((loadVar 37 ⟨w.heap.size, 0, none⟩).run Tryd.prog w5 = .ok (.agg c) w5) := load_all k5 _ _ Tryd.underlying37 rfl (by rw [hc.size]; exact zero_mem.2)
    have HLb : Hid ((loadVar 39 ⟨w.heap.size + 1, 0, none⟩).run Tryd.prog w5 = .ok (.agg #[.int .i64 k, .int .i64 n, .int .i64 m]) w5) := load_all j5 _ _ Tryd.underlying39 rfl arg_size
    have HB : Hid (Below w.heap.size w w5) := b5
    clear b3 k3 j3 i3 h3 k5 j5 b5 hc HS
    go_wp2_with (first | exact ret_row3 rfl rfl rfl rfl HLa.out HLb.out rfl ⟨⟨c, k, n, m, v, HC.out, n0, n1, HV.out, rfl⟩, HB.out⟩ | fail)

/-- A drawn memory, operand and number. -/
def IsPutR (e : Ending) : Prop := ∃ c, ∃ k n m : Int, ∃ v : Nat, MemOk c ∧ -3000000000 ≤ n ∧ n ≤ 3000000000 ∧ v < 18446744073709551616 ∧ e = .returned (.tuple #[.agg c, .agg #[.int .i64 k, .int .i64 n, .int .i64 m], .float .f64 v])

set_option maxRecDepth 10000 in
set_option maxHeartbeats 4000000 in
theorem drawputr_r {a : Option Addr} {len cap blk off : Nat} {z : Nat → Int} (w : World) (h : Code0 w a len cap blk off z) :
    Calls Tryd.prog 5 #[.slice a len cap] w fun e w' => IsPutR e ∧ Below w.heap.size w w' := by
  have hz := zero_mem.1
  obtain ⟨Z, HZ⟩ : ∃ Z, Hid (Z = memZero) := ⟨_, rfl⟩
  rw [← HZ.out] at hz
  have HZs : Hid (Z.size = 136) := (by rw [HZ.out, memZero_size] : Z.size = 136)
  have b0 : Below w.heap.size w ((w.alloc (.cells Z 37)).alloc (.cells #[.int .i64 0, .int .i64 0, .int .i64 0] 39)) := ((Below.refl _ _).alloc (Nat.le_refl _) _).alloc (by simp) _
  have r0 := rows2 w (.cells Z 37) (.cells #[.int .i64 0, .int .i64 0, .int .i64 0] 39)
  go_enter Tryd.func5, Tryd.ntmps5
  go_wp2_with fail
  refine ((h.later b0).open).mono ?_
  rintro e w1 ⟨rfl, hR, g1⟩
  have h1 : Reader (w.heap.size + 1 + 1 + 1) w1 (w.heap.size + 1 + 1) 0 := by simpa using hR
  have b1 : Below w.heap.size w w1 := b0.trans (g1.mono b0.size)
  have k1 : w1.heap[w.heap.size]? = some (.cells Z 37 (0, 0)) := (g1.block _ (by simp <;> omega)).trans r0.1
  have j1 : w1.heap[w.heap.size + 1]? = some (.cells #[.int .i64 0, .int .i64 0, .int .i64 0] 39 (0, 0)) := (g1.block _ (by simp <;> omega)).trans r0.2
  have l1 : w.heap.size + 1 + 1 + 1 ≤ w1.heap.size := h1.2.1
  clear g1 hR hz b0 r0 h
  go_wp2_with fail
  refine (real_r _ _ 0 _ h1 (by omega)).mono ?_
  rintro e w2 ⟨v, rfl, hv, ⟨q2, hq2, h2⟩, g2⟩
  have HV : Hid (v < 18446744073709551616) := hv
  have b2 : Below w.heap.size w w2 := b1.grown g2 b1.size (fun j hj => by cases hj; omega)
  have k2 : w2.heap[w.heap.size]? = some (.cells Z 37 (0, 0)) := (g2.block _ (by omega) (by simp <;> omega)).trans k1
  have j2 : w2.heap[w.heap.size + 1]? = some (.cells #[.int .i64 0, .int .i64 0, .int .i64 0] 39 (0, 0)) := (g2.block _ (by omega) (by simp <;> omega)).trans j1
  have l2 : w.heap.size + 1 + 1 + 1 ≤ w2.heap.size := h2.2.1
  clear g2 k1 j1 b1 h1 hv
  go_wp2_with fail
  refine (asks_r _ _ _ _ h2 (by omega)).mono ?_
  rintro e w3 ⟨⟨k, n, m, n0, n1, rfl⟩, ⟨q3, hq3, h3⟩, g3⟩
  have b3 : Below w.heap.size w w3 := b2.grown g3 b2.size (fun j hj => by cases hj; omega)
  have k3 : w3.heap[w.heap.size]? = some (.cells Z 37 (0, 0)) := (g3.block _ (by omega) (by simp <;> omega)).trans k2
  have j3 : w3.heap[w.heap.size + 1]? = some (.cells #[.int .i64 0, .int .i64 0, .int .i64 0] 39 (0, 0)) := (g3.block _ (by omega) (by simp <;> omega)).trans j2
  have l3 : w.heap.size + 1 + 1 + 1 ≤ w3.heap.size := h3.2.1
  clear g3 k2 j2 b2 h2
  go_wp2_with fail
  obtain ⟨u, HU⟩ : ∃ u, Hid (u = w3.alloc (.cells #[.int .i64 k, .int .i64 n, .int .i64 m] 39)) := ⟨_, rfl⟩
  have bu : Below w.heap.size w u := by rw [HU.out]; exact b3.alloc (by omega) _
  have ku : u.heap[w.heap.size]? = some (.cells Z 37 (0, 0)) := by rw [HU.out]; exact (heap_alloc_old w3 _ (by omega)).trans k3
  have ju : u.heap[w.heap.size + 1]? = some (.cells #[.int .i64 0, .int .i64 0, .int .i64 0] 39 (0, 0)) := by rw [HU.out]; exact (heap_alloc_old w3 _ (by omega)).trans j3
  have iu : u.heap[w3.heap.size]? = some (.cells #[.int .i64 k, .int .i64 n, .int .i64 m] 39 (0, 0)) := by rw [HU.out]; exact heap_alloc_last w3 _
  have hu : Reader (w.heap.size + 1 + 1 + 1) u (w.heap.size + 1 + 1) q3 := by rw [HU.out]; exact h3.alloc _
  rw [← HU.out]
  clear HU b3 k3 j3 h3
  obtain ⟨g7, HG⟩ : ∃ g, Hid (g = w3.heap.size) := ⟨_, rfl⟩
  rw [← HG.out] at iu l3 ⊢
  clear HG w3
  refine (pick_r _ _ _ 2 _ hu (by omega) (by omega) (by omega)).mono ?_
  rintro e w3 ⟨r4, hr4, rfl, h3, g3⟩
  have b3 : Below w.heap.size w w3 := bu.grown g3 bu.size (fun j hj => by cases hj; omega)
  have lu : g7 < u.heap.size := (Array.getElem?_eq_some_iff.1 iu).1
  have k3 : w3.heap[w.heap.size]? = some (.cells Z 37 (0, 0)) := (g3.block _ (by omega) (by simp <;> omega)).trans ku
  have j3 : w3.heap[w.heap.size + 1]? = some (.cells #[.int .i64 0, .int .i64 0, .int .i64 0] 39 (0, 0)) := (g3.block _ (by omega) (by simp <;> omega)).trans ju
  have i3 : w3.heap[g7]? = some (.cells #[.int .i64 k, .int .i64 n, .int .i64 m] 39 (0, 0)) := (g3.block _ lu (by simp; omega)).trans iu
  have l4 : g7 < w3.heap.size := (Array.getElem?_eq_some_iff.1 i3).1
  clear g3 bu ku ju iu hu lu hr4
  by_cases hr : r4 = 0
  · have e0 : ((r4 : Int) == 0) = true := by rw [hr]; rfl
    clear hr
    obtain ⟨kk, hkk⟩ : ∃ x : Int, x = k := ⟨_, rfl⟩
    obtain ⟨nn, hnn⟩ : ∃ x : Int, x = n := ⟨_, rfl⟩
    obtain ⟨mm, hmm⟩ : ∃ x : Int, x = m := ⟨_, rfl⟩
    subst hkk hnn hmm
    go_wp2_with fail
    refine (arg_r _ _ _ 10 _ h3 (by omega) (by omega) (by omega)).mono ?_
    rintro e w7 ⟨⟨k, n, m, n0, n1, rfl⟩, ⟨q7, hq7, h7⟩, g7'⟩
    have b7 : Below w.heap.size w w7 := b3.grown g7' b3.size (fun j hj => by cases hj; omega)
    have k7 : w7.heap[w.heap.size]? = some (.cells Z 37 (0, 0)) := (g7'.block _ (by omega) (by simp <;> omega)).trans k3
    have j7 : w7.heap[w.heap.size + 1]? = some (.cells #[.int .i64 0, .int .i64 0, .int .i64 0] 39 (0, 0)) := (g7'.block _ (by omega) (by simp <;> omega)).trans j3
    have i7 := (g7'.block _ l4 (by simp; omega)).trans i3
    clear b3 k3 j3 i3 h3 l4
    obtain ⟨w3, HW3⟩ : ∃ u, Hid (u = w7.setRow g7 #[.int .i64 k, .int .i64 n, .int .i64 m]) := ⟨_, rfl⟩
    have HS3 : Hid ((storeVar 39 ⟨g7, 0, none⟩ (.agg #[.int .i64 k, .int .i64 n, .int .i64 m])).run Tryd.prog w7 = .ok () w3) := by rw [HW3.out]; exact store_all i7 _ _ rfl arg_size (int3_one k n m)
    have b3 : Below w.heap.size w w3 := by rw [HW3.out]; exact below_setRow b7 (by omega) _
    have k3 : w3.heap[w.heap.size]? = some (.cells Z 37 (0, 0)) := by rw [HW3.out]; exact row_beside k7 _ (by omega) _
    have j3 : w3.heap[w.heap.size + 1]? = some (.cells #[.int .i64 0, .int .i64 0, .int .i64 0] 39 (0, 0)) := by rw [HW3.out]; exact row_beside j7 _ (by omega) _
    have i3 : w3.heap[g7]? = some (.cells #[.int .i64 k, .int .i64 n, .int .i64 m] 39 (0, 0)) := by rw [HW3.out]; exact row_set i7 _
    have h3 : Reader (w.heap.size + 1 + 1 + 1) w3 (w.heap.size + 1 + 1) q7 := by rw [HW3.out]; exact h7.kept (gb_row _ _ _) (fun j hj => by cases hj; omega)
    have l4 : g7 < w3.heap.size := (Array.getElem?_eq_some_iff.1 i3).1
    have n0 : -3000000000 ≤ n := by omega
    have n1 : n ≤ 3000000000 := by omega
    clear b7 k7 j7 i7 h7 g7' HW3
    go_upto_region 6 with (first | (refine wpL_store rfl 39 _ _ rfl _ _ rfl _ rfl _ HS3.out ?_) | fail)
    clear HS3
    obtain ⟨S, HS⟩ : ∃ S : World → Prop, Hid (∀ W, S W ↔ W.heap[g7]? = some (.cells #[.int .i64 k, .int .i64 n, .int .i64 m] 39 (0, 0))) := ⟨_, fun W => Iff.rfl⟩
    refine region_cut (R := fun a' W => ∃ c, MemOk c ∧ W.heap[w.heap.size]? = some (.cells c 37 (0, 0)) ∧ W.heap[w.heap.size + 1]? = some (.cells #[.int .i64 k, .int .i64 n, .int .i64 m] 39 (0, 0)) ∧ Below w.heap.size w W ∧ a' = ⟨#[.slice a len cap, undef, .pointer (some ⟨w.heap.size, 0, none⟩), .pointer (some ⟨w.heap.size + 1, 0, none⟩), .float .f64 v, .pointer (some ⟨w.heap.size + 1 + 1, 0, none⟩), .float .f64 v, .pointer (some ⟨g7, 0, none⟩), .slice a len cap, .pointer (some ⟨w.heap.size + 1 + 1, 0, none⟩), .pointer (some ⟨w.heap.size + 1 + 1, 0, none⟩), .float .f64 v, .pointer (some ⟨w.heap.size + 1 + 1, 0, none⟩), .agg #[.int .i64 kk, .int .i64 nn, .int .i64 mm], .pointer (some ⟨w.heap.size + 1 + 1, 0, none⟩), .int .i64 (r4 : Int), .bool true, .pointer (some ⟨w.heap.size + 1 + 1, 0, none⟩), .agg #[.int .i64 k, .int .i64 n, .int .i64 m], .pointer (some ⟨w.heap.size + 1 + 1, 0, none⟩), .agg c, .agg #[.int .i64 k, .int .i64 n, .int .i64 m], .float .f64 v], []⟩) ?_ ?_
    · refine wp_region_held_drew (S := S) (by kernel_rfl) ((HS.out _).2 i3) (fun S0 => ?_)
      show wpAnyH _ _ _ _ _ 7 #[false, false, false, false, false, false, false] _ _
      refine tk_val' (i := 0) rfl (by kernel_rfl) (by kernel_rfl) (by kernel_rfl) (fun _ _ _ _ h => nomatch h.1) rfl (.pointer (some ⟨w.heap.size + 1 + 1, 0, none⟩)) (fun W _ => by go_simp) S0 #[true, false, false, false, false, false, false] rfl ⟨#[.slice a len cap, undef, .pointer (some ⟨w.heap.size, 0, none⟩), .pointer (some ⟨w.heap.size + 1, 0, none⟩), .float .f64 0, .pointer (some ⟨w.heap.size + 1 + 1, 0, none⟩), .float .f64 v, .pointer (some ⟨g7, 0, none⟩), .slice a len cap, .pointer (some ⟨w.heap.size + 1 + 1, 0, none⟩), .pointer (some ⟨w.heap.size + 1 + 1, 0, none⟩), .float .f64 v, .pointer (some ⟨w.heap.size + 1 + 1, 0, none⟩), .agg #[.int .i64 kk, .int .i64 nn, .int .i64 mm], .pointer (some ⟨w.heap.size + 1 + 1, 0, none⟩), .int .i64 (r4 : Int), .bool true, .pointer (some ⟨w.heap.size + 1 + 1, 0, none⟩), .agg #[.int .i64 k, .int .i64 n, .int .i64 m], .pointer (some ⟨w.heap.size + 1 + 1, 0, none⟩), undef, undef, undef], []⟩ rfl ?_
      refine tk_load' (i := 2) rfl (by kernel_rfl) (by kernel_rfl) (by kernel_rfl) (fun _ _ _ _ h => nomatch h.1) rfl 39 _ rfl _ _ rfl (.agg #[.int .i64 k, .int .i64 n, .int .i64 m]) (fun W hW => load_all ((HS.out W).1 hW) _ _ Tryd.underlying39 rfl arg_size) S0 #[true, false, true, false, false, false, false] rfl ⟨#[.slice a len cap, undef, .pointer (some ⟨w.heap.size, 0, none⟩), .pointer (some ⟨w.heap.size + 1, 0, none⟩), .float .f64 0, .pointer (some ⟨w.heap.size + 1 + 1, 0, none⟩), .float .f64 v, .pointer (some ⟨g7, 0, none⟩), .slice a len cap, .pointer (some ⟨w.heap.size + 1 + 1, 0, none⟩), .pointer (some ⟨w.heap.size + 1 + 1, 0, none⟩), .float .f64 v, .pointer (some ⟨w.heap.size + 1 + 1, 0, none⟩), .agg #[.int .i64 kk, .int .i64 nn, .int .i64 mm], .pointer (some ⟨w.heap.size + 1 + 1, 0, none⟩), .int .i64 (r4 : Int), .bool true, .pointer (some ⟨w.heap.size + 1 + 1, 0, none⟩), .agg #[.int .i64 k, .int .i64 n, .int .i64 m], .pointer (some ⟨w.heap.size + 1 + 1, 0, none⟩), undef, .agg #[.int .i64 k, .int .i64 n, .int .i64 m], undef], []⟩ rfl ?_
      refine tk_val' (i := 3) rfl (by kernel_rfl) (by kernel_rfl) (by kernel_rfl) (fun _ _ _ _ h => nomatch h.1) rfl (.float .f64 v) (fun W _ => by go_simp) S0 #[true, false, true, true, false, false, false] rfl ⟨#[.slice a len cap, undef, .pointer (some ⟨w.heap.size, 0, none⟩), .pointer (some ⟨w.heap.size + 1, 0, none⟩), .float .f64 0, .pointer (some ⟨w.heap.size + 1 + 1, 0, none⟩), .float .f64 v, .pointer (some ⟨g7, 0, none⟩), .slice a len cap, .pointer (some ⟨w.heap.size + 1 + 1, 0, none⟩), .pointer (some ⟨w.heap.size + 1 + 1, 0, none⟩), .float .f64 v, .pointer (some ⟨w.heap.size + 1 + 1, 0, none⟩), .agg #[.int .i64 kk, .int .i64 nn, .int .i64 mm], .pointer (some ⟨w.heap.size + 1 + 1, 0, none⟩), .int .i64 (r4 : Int), .bool true, .pointer (some ⟨w.heap.size + 1 + 1, 0, none⟩), .agg #[.int .i64 k, .int .i64 n, .int .i64 m], .pointer (some ⟨w.heap.size + 1 + 1, 0, none⟩), undef, .agg #[.int .i64 k, .int .i64 n, .int .i64 m], .float .f64 v], []⟩ rfl ?_
      refine wpAnyH_all (rs := [1]) (by kernel_rfl) (by simp) (fun i hi => ?_)
      obtain rfl := List.mem_singleton.1 hi
      refine up_fcallV rfl rfl Tryd.func17 (by kernel_rfl) (by kernel_rfl) rfl [.pointer (some ⟨w.heap.size + 1 + 1, 0, none⟩)] rfl #[true, true, true, true, false, false, false] rfl (fun vv => ⟨#[.slice a len cap, undef, .pointer (some ⟨w.heap.size, 0, none⟩), .pointer (some ⟨w.heap.size + 1, 0, none⟩), .float .f64 0, .pointer (some ⟨w.heap.size + 1 + 1, 0, none⟩), .float .f64 v, .pointer (some ⟨g7, 0, none⟩), .slice a len cap, .pointer (some ⟨w.heap.size + 1 + 1, 0, none⟩), .pointer (some ⟨w.heap.size + 1 + 1, 0, none⟩), .float .f64 v, .pointer (some ⟨w.heap.size + 1 + 1, 0, none⟩), .agg #[.int .i64 kk, .int .i64 nn, .int .i64 mm], .pointer (some ⟨w.heap.size + 1 + 1, 0, none⟩), .int .i64 (r4 : Int), .bool true, .pointer (some ⟨w.heap.size + 1 + 1, 0, none⟩), .agg #[.int .i64 k, .int .i64 n, .int .i64 m], .pointer (some ⟨w.heap.size + 1 + 1, 0, none⟩), vv, .agg #[.int .i64 k, .int .i64 n, .int .i64 m], .float .f64 v], []⟩) (fun _ => rfl) (fun vv W => ∃ c, vv = .agg c ∧ MemOk c ∧ w3.drew.grownBy W (some (w.heap.size + 1 + 1))) ((draw5_r _ _ _ _ h3.drew (by omega)).mono fun e W hh => ?_) ?_
      · obtain ⟨⟨c, hc, he⟩, _, hg⟩ := hh
        exact ⟨_, he, c, rfl, hc, hg⟩
      rintro _ w4 ⟨c, rfl, hc, g4⟩
      have b4 : Below w.heap.size w w4 := b3.drew.grown g4 b3.drew.size (fun j hj => by cases hj; omega)
      have k4 : w4.heap[w.heap.size]? = some (.cells Z 37 (0, 0)) := (g4.block _ (by show _ < w3.heap.size; omega) (by simp <;> omega)).trans k3
      have j4 : w4.heap[w.heap.size + 1]? = some (.cells #[.int .i64 0, .int .i64 0, .int .i64 0] 39 (0, 0)) := (g4.block _ (by show _ < w3.heap.size; omega) (by simp <;> omega)).trans j3
      have i4 : w4.heap[g7]? = some (.cells #[.int .i64 k, .int .i64 n, .int .i64 m] 39 (0, 0)) := (g4.block _ (by show _ < w3.heap.size; omega) (by simp; omega)).trans i3
      refine ⟨(HS.out _).2 i4, ?_⟩
      have HI : Hid ((Tryd.prog.info? 37).map (·.size) = some c.size) := by rw [hc.size]; exact zero_mem.2
      refine wpAnyH_all (rs := [4]) (by kernel_rfl) (by simp) (fun i hi => ?_)
      obtain rfl := List.mem_singleton.1 hi
      refine up_store' rfl rfl 37 _ _ rfl _ _ rfl _ rfl _ (store_all k4 _ _ (HZs.out.trans hc.size.symm) HI.out hc.one) ((HS.out _).2 (row_beside i4 _ (by omega) _)) #[true, true, true, true, true, false, false] rfl ⟨#[.slice a len cap, undef, .pointer (some ⟨w.heap.size, 0, none⟩), .pointer (some ⟨w.heap.size + 1, 0, none⟩), .float .f64 0, .pointer (some ⟨w.heap.size + 1 + 1, 0, none⟩), .float .f64 v, .pointer (some ⟨g7, 0, none⟩), .slice a len cap, .pointer (some ⟨w.heap.size + 1 + 1, 0, none⟩), .pointer (some ⟨w.heap.size + 1 + 1, 0, none⟩), .float .f64 v, .pointer (some ⟨w.heap.size + 1 + 1, 0, none⟩), .agg #[.int .i64 kk, .int .i64 nn, .int .i64 mm], .pointer (some ⟨w.heap.size + 1 + 1, 0, none⟩), .int .i64 (r4 : Int), .bool true, .pointer (some ⟨w.heap.size + 1 + 1, 0, none⟩), .agg #[.int .i64 k, .int .i64 n, .int .i64 m], .pointer (some ⟨w.heap.size + 1 + 1, 0, none⟩), .agg c, .agg #[.int .i64 k, .int .i64 n, .int .i64 m], .float .f64 v], []⟩ rfl ?_
      refine wpAnyH_all (rs := [5]) (by kernel_rfl) (by simp) (fun i hi => ?_)
      obtain rfl := List.mem_singleton.1 hi
      have j5 := row_beside j4 w.heap.size (by omega) c
      have S6 : S ((w4.setRow w.heap.size c).setRow (w.heap.size + 1) #[.int .i64 k, .int .i64 n, .int .i64 m]) := (HS.out _).2 (row_beside (row_beside i4 _ (by omega) _) _ (by omega) _)
      refine up_store' rfl rfl 39 _ _ rfl _ _ rfl _ rfl _ (store_all j5 _ _ rfl arg_size (int3_one k n m)) S6 #[true, true, true, true, true, true, false] rfl ⟨#[.slice a len cap, undef, .pointer (some ⟨w.heap.size, 0, none⟩), .pointer (some ⟨w.heap.size + 1, 0, none⟩), .float .f64 0, .pointer (some ⟨w.heap.size + 1 + 1, 0, none⟩), .float .f64 v, .pointer (some ⟨g7, 0, none⟩), .slice a len cap, .pointer (some ⟨w.heap.size + 1 + 1, 0, none⟩), .pointer (some ⟨w.heap.size + 1 + 1, 0, none⟩), .float .f64 v, .pointer (some ⟨w.heap.size + 1 + 1, 0, none⟩), .agg #[.int .i64 kk, .int .i64 nn, .int .i64 mm], .pointer (some ⟨w.heap.size + 1 + 1, 0, none⟩), .int .i64 (r4 : Int), .bool true, .pointer (some ⟨w.heap.size + 1 + 1, 0, none⟩), .agg #[.int .i64 k, .int .i64 n, .int .i64 m], .pointer (some ⟨w.heap.size + 1 + 1, 0, none⟩), .agg c, .agg #[.int .i64 k, .int .i64 n, .int .i64 m], .float .f64 v], []⟩ rfl ?_
      refine tk_val' (i := 6) rfl (by kernel_rfl) (by kernel_rfl) (by kernel_rfl) (fun _ _ _ _ h => nomatch h.1) rfl (.float .f64 v) (fun W _ => by go_simp) S6 #[true, true, true, true, true, true, true] rfl ⟨#[.slice a len cap, undef, .pointer (some ⟨w.heap.size, 0, none⟩), .pointer (some ⟨w.heap.size + 1, 0, none⟩), .float .f64 v, .pointer (some ⟨w.heap.size + 1 + 1, 0, none⟩), .float .f64 v, .pointer (some ⟨g7, 0, none⟩), .slice a len cap, .pointer (some ⟨w.heap.size + 1 + 1, 0, none⟩), .pointer (some ⟨w.heap.size + 1 + 1, 0, none⟩), .float .f64 v, .pointer (some ⟨w.heap.size + 1 + 1, 0, none⟩), .agg #[.int .i64 kk, .int .i64 nn, .int .i64 mm], .pointer (some ⟨w.heap.size + 1 + 1, 0, none⟩), .int .i64 (r4 : Int), .bool true, .pointer (some ⟨w.heap.size + 1 + 1, 0, none⟩), .agg #[.int .i64 k, .int .i64 n, .int .i64 m], .pointer (some ⟨w.heap.size + 1 + 1, 0, none⟩), .agg c, .agg #[.int .i64 k, .int .i64 n, .int .i64 m], .float .f64 v], []⟩ rfl ?_
      exact wpAnyH_done (by kernel_rfl) ⟨rfl, c, hc, row_beside (row_set k4 _) _ (by omega) _, row_set j5 _, below_setRow (below_setRow b4 (Nat.le_refl _) _) (by omega) _, rfl⟩ _
    rintro _ w5 ⟨c, hc, k5, j5, b5, rfl⟩
    have HC : Hid (MemOk c) := hc
    have HLa : Hid ((loadVar 37 ⟨w.heap.size, 0, none⟩).run Tryd.prog w5 = .ok (.agg c) w5) := load_all k5 _ _ Tryd.underlying37 rfl (by rw [hc.size]; exact zero_mem.2)
    have HLb : Hid ((loadVar 39 ⟨w.heap.size + 1, 0, none⟩).run Tryd.prog w5 = .ok (.agg #[.int .i64 k, .int .i64 n, .int .i64 m]) w5) := load_all j5 _ _ Tryd.underlying39 rfl arg_size
    have HB : Hid (Below w.heap.size w w5) := b5
    clear b3 k3 j3 i3 h3 k5 j5 b5 hc HS
    go_wp2_with (first | exact ret_row3 rfl rfl rfl rfl HLa.out HLb.out rfl ⟨⟨c, k, n, m, v, HC.out, n0, n1, HV.out, rfl⟩, HB.out⟩ | fail)
  · have e0 : ((r4 : Int) == 0) = false := by simp; omega
    clear hr
    go_upto_region 6 with fail
    obtain ⟨S, HS⟩ : ∃ S : World → Prop, Hid (∀ W, S W ↔ W.heap[g7]? = some (.cells #[.int .i64 k, .int .i64 n, .int .i64 m] 39 (0, 0))) := ⟨_, fun W => Iff.rfl⟩
    refine region_cut (R := fun a' W => ∃ c, MemOk c ∧ W.heap[w.heap.size]? = some (.cells c 37 (0, 0)) ∧ W.heap[w.heap.size + 1]? = some (.cells #[.int .i64 k, .int .i64 n, .int .i64 m] 39 (0, 0)) ∧ Below w.heap.size w W ∧ a' = ⟨#[.slice a len cap, undef, .pointer (some ⟨w.heap.size, 0, none⟩), .pointer (some ⟨w.heap.size + 1, 0, none⟩), .float .f64 v, .pointer (some ⟨w.heap.size + 1 + 1, 0, none⟩), .float .f64 v, .pointer (some ⟨g7, 0, none⟩), .slice a len cap, .pointer (some ⟨w.heap.size + 1 + 1, 0, none⟩), .pointer (some ⟨w.heap.size + 1 + 1, 0, none⟩), .float .f64 v, .pointer (some ⟨w.heap.size + 1 + 1, 0, none⟩), .agg #[.int .i64 k, .int .i64 n, .int .i64 m], .pointer (some ⟨w.heap.size + 1 + 1, 0, none⟩), .int .i64 (r4 : Int), .bool false, undef, undef, .pointer (some ⟨w.heap.size + 1 + 1, 0, none⟩), .agg c, .agg #[.int .i64 k, .int .i64 n, .int .i64 m], .float .f64 v], []⟩) ?_ ?_
    · refine wp_region_held_drew (S := S) (by kernel_rfl) ((HS.out _).2 i3) (fun S0 => ?_)
      show wpAnyH _ _ _ _ _ 7 #[false, false, false, false, false, false, false] _ _
      refine tk_val' (i := 0) rfl (by kernel_rfl) (by kernel_rfl) (by kernel_rfl) (fun _ _ _ _ h => nomatch h.1) rfl (.pointer (some ⟨w.heap.size + 1 + 1, 0, none⟩)) (fun W _ => by go_simp) S0 #[true, false, false, false, false, false, false] rfl ⟨#[.slice a len cap, undef, .pointer (some ⟨w.heap.size, 0, none⟩), .pointer (some ⟨w.heap.size + 1, 0, none⟩), .float .f64 0, .pointer (some ⟨w.heap.size + 1 + 1, 0, none⟩), .float .f64 v, .pointer (some ⟨g7, 0, none⟩), .slice a len cap, .pointer (some ⟨w.heap.size + 1 + 1, 0, none⟩), .pointer (some ⟨w.heap.size + 1 + 1, 0, none⟩), .float .f64 v, .pointer (some ⟨w.heap.size + 1 + 1, 0, none⟩), .agg #[.int .i64 k, .int .i64 n, .int .i64 m], .pointer (some ⟨w.heap.size + 1 + 1, 0, none⟩), .int .i64 (r4 : Int), .bool false, undef, undef, .pointer (some ⟨w.heap.size + 1 + 1, 0, none⟩), undef, undef, undef], []⟩ rfl ?_
      refine tk_load' (i := 2) rfl (by kernel_rfl) (by kernel_rfl) (by kernel_rfl) (fun _ _ _ _ h => nomatch h.1) rfl 39 _ rfl _ _ rfl (.agg #[.int .i64 k, .int .i64 n, .int .i64 m]) (fun W hW => load_all ((HS.out W).1 hW) _ _ Tryd.underlying39 rfl arg_size) S0 #[true, false, true, false, false, false, false] rfl ⟨#[.slice a len cap, undef, .pointer (some ⟨w.heap.size, 0, none⟩), .pointer (some ⟨w.heap.size + 1, 0, none⟩), .float .f64 0, .pointer (some ⟨w.heap.size + 1 + 1, 0, none⟩), .float .f64 v, .pointer (some ⟨g7, 0, none⟩), .slice a len cap, .pointer (some ⟨w.heap.size + 1 + 1, 0, none⟩), .pointer (some ⟨w.heap.size + 1 + 1, 0, none⟩), .float .f64 v, .pointer (some ⟨w.heap.size + 1 + 1, 0, none⟩), .agg #[.int .i64 k, .int .i64 n, .int .i64 m], .pointer (some ⟨w.heap.size + 1 + 1, 0, none⟩), .int .i64 (r4 : Int), .bool false, undef, undef, .pointer (some ⟨w.heap.size + 1 + 1, 0, none⟩), undef, .agg #[.int .i64 k, .int .i64 n, .int .i64 m], undef], []⟩ rfl ?_
      refine tk_val' (i := 3) rfl (by kernel_rfl) (by kernel_rfl) (by kernel_rfl) (fun _ _ _ _ h => nomatch h.1) rfl (.float .f64 v) (fun W _ => by go_simp) S0 #[true, false, true, true, false, false, false] rfl ⟨#[.slice a len cap, undef, .pointer (some ⟨w.heap.size, 0, none⟩), .pointer (some ⟨w.heap.size + 1, 0, none⟩), .float .f64 0, .pointer (some ⟨w.heap.size + 1 + 1, 0, none⟩), .float .f64 v, .pointer (some ⟨g7, 0, none⟩), .slice a len cap, .pointer (some ⟨w.heap.size + 1 + 1, 0, none⟩), .pointer (some ⟨w.heap.size + 1 + 1, 0, none⟩), .float .f64 v, .pointer (some ⟨w.heap.size + 1 + 1, 0, none⟩), .agg #[.int .i64 k, .int .i64 n, .int .i64 m], .pointer (some ⟨w.heap.size + 1 + 1, 0, none⟩), .int .i64 (r4 : Int), .bool false, undef, undef, .pointer (some ⟨w.heap.size + 1 + 1, 0, none⟩), undef, .agg #[.int .i64 k, .int .i64 n, .int .i64 m], .float .f64 v], []⟩ rfl ?_
      refine wpAnyH_all (rs := [1]) (by kernel_rfl) (by simp) (fun i hi => ?_)
      obtain rfl := List.mem_singleton.1 hi
      refine up_fcallV rfl rfl Tryd.func17 (by kernel_rfl) (by kernel_rfl) rfl [.pointer (some ⟨w.heap.size + 1 + 1, 0, none⟩)] rfl #[true, true, true, true, false, false, false] rfl (fun vv => ⟨#[.slice a len cap, undef, .pointer (some ⟨w.heap.size, 0, none⟩), .pointer (some ⟨w.heap.size + 1, 0, none⟩), .float .f64 0, .pointer (some ⟨w.heap.size + 1 + 1, 0, none⟩), .float .f64 v, .pointer (some ⟨g7, 0, none⟩), .slice a len cap, .pointer (some ⟨w.heap.size + 1 + 1, 0, none⟩), .pointer (some ⟨w.heap.size + 1 + 1, 0, none⟩), .float .f64 v, .pointer (some ⟨w.heap.size + 1 + 1, 0, none⟩), .agg #[.int .i64 k, .int .i64 n, .int .i64 m], .pointer (some ⟨w.heap.size + 1 + 1, 0, none⟩), .int .i64 (r4 : Int), .bool false, undef, undef, .pointer (some ⟨w.heap.size + 1 + 1, 0, none⟩), vv, .agg #[.int .i64 k, .int .i64 n, .int .i64 m], .float .f64 v], []⟩) (fun _ => rfl) (fun vv W => ∃ c, vv = .agg c ∧ MemOk c ∧ w3.drew.grownBy W (some (w.heap.size + 1 + 1))) ((draw5_r _ _ _ _ h3.drew (by omega)).mono fun e W hh => ?_) ?_
      · obtain ⟨⟨c, hc, he⟩, _, hg⟩ := hh
        exact ⟨_, he, c, rfl, hc, hg⟩
      rintro _ w4 ⟨c, rfl, hc, g4⟩
      have b4 : Below w.heap.size w w4 := b3.drew.grown g4 b3.drew.size (fun j hj => by cases hj; omega)
      have k4 : w4.heap[w.heap.size]? = some (.cells Z 37 (0, 0)) := (g4.block _ (by show _ < w3.heap.size; omega) (by simp <;> omega)).trans k3
      have j4 : w4.heap[w.heap.size + 1]? = some (.cells #[.int .i64 0, .int .i64 0, .int .i64 0] 39 (0, 0)) := (g4.block _ (by show _ < w3.heap.size; omega) (by simp <;> omega)).trans j3
      have i4 : w4.heap[g7]? = some (.cells #[.int .i64 k, .int .i64 n, .int .i64 m] 39 (0, 0)) := (g4.block _ (by show _ < w3.heap.size; omega) (by simp; omega)).trans i3
      refine ⟨(HS.out _).2 i4, ?_⟩
      have HI : Hid ((Tryd.prog.info? 37).map (·.size) = some c.size) := by rw [hc.size]; exact zero_mem.2
      refine wpAnyH_all (rs := [4]) (by kernel_rfl) (by simp) (fun i hi => ?_)
      obtain rfl := List.mem_singleton.1 hi
      refine up_store' rfl rfl 37 _ _ rfl _ _ rfl _ rfl _ (store_all k4 _ _ (HZs.out.trans hc.size.symm) HI.out hc.one) ((HS.out _).2 (row_beside i4 _ (by omega) _)) #[true, true, true, true, true, false, false] rfl ⟨#[.slice a len cap, undef, .pointer (some ⟨w.heap.size, 0, none⟩), .pointer (some ⟨w.heap.size + 1, 0, none⟩), .float .f64 0, .pointer (some ⟨w.heap.size + 1 + 1, 0, none⟩), .float .f64 v, .pointer (some ⟨g7, 0, none⟩), .slice a len cap, .pointer (some ⟨w.heap.size + 1 + 1, 0, none⟩), .pointer (some ⟨w.heap.size + 1 + 1, 0, none⟩), .float .f64 v, .pointer (some ⟨w.heap.size + 1 + 1, 0, none⟩), .agg #[.int .i64 k, .int .i64 n, .int .i64 m], .pointer (some ⟨w.heap.size + 1 + 1, 0, none⟩), .int .i64 (r4 : Int), .bool false, undef, undef, .pointer (some ⟨w.heap.size + 1 + 1, 0, none⟩), .agg c, .agg #[.int .i64 k, .int .i64 n, .int .i64 m], .float .f64 v], []⟩ rfl ?_
      refine wpAnyH_all (rs := [5]) (by kernel_rfl) (by simp) (fun i hi => ?_)
      obtain rfl := List.mem_singleton.1 hi
      have j5 := row_beside j4 w.heap.size (by omega) c
      have S6 : S ((w4.setRow w.heap.size c).setRow (w.heap.size + 1) #[.int .i64 k, .int .i64 n, .int .i64 m]) := (HS.out _).2 (row_beside (row_beside i4 _ (by omega) _) _ (by omega) _)
      refine up_store' rfl rfl 39 _ _ rfl _ _ rfl _ rfl _ (store_all j5 _ _ rfl arg_size (int3_one k n m)) S6 #[true, true, true, true, true, true, false] rfl ⟨#[.slice a len cap, undef, .pointer (some ⟨w.heap.size, 0, none⟩), .pointer (some ⟨w.heap.size + 1, 0, none⟩), .float .f64 0, .pointer (some ⟨w.heap.size + 1 + 1, 0, none⟩), .float .f64 v, .pointer (some ⟨g7, 0, none⟩), .slice a len cap, .pointer (some ⟨w.heap.size + 1 + 1, 0, none⟩), .pointer (some ⟨w.heap.size + 1 + 1, 0, none⟩), .float .f64 v, .pointer (some ⟨w.heap.size + 1 + 1, 0, none⟩), .agg #[.int .i64 k, .int .i64 n, .int .i64 m], .pointer (some ⟨w.heap.size + 1 + 1, 0, none⟩), .int .i64 (r4 : Int), .bool false, undef, undef, .pointer (some ⟨w.heap.size + 1 + 1, 0, none⟩), .agg c, .agg #[.int .i64 k, .int .i64 n, .int .i64 m], .float .f64 v], []⟩ rfl ?_
      refine tk_val' (i := 6) rfl (by kernel_rfl) (by kernel_rfl) (by kernel_rfl) (fun _ _ _ _ h => nomatch h.1) rfl (.float .f64 v) (fun W _ => by go_simp) S6 #[true, true, true, true, true, true, true] rfl ⟨#[.slice a len cap, undef, .pointer (some ⟨w.heap.size, 0, none⟩), .pointer (some ⟨w.heap.size + 1, 0, none⟩), .float .f64 v, .pointer (some ⟨w.heap.size + 1 + 1, 0, none⟩), .float .f64 v, .pointer (some ⟨g7, 0, none⟩), .slice a len cap, .pointer (some ⟨w.heap.size + 1 + 1, 0, none⟩), .pointer (some ⟨w.heap.size + 1 + 1, 0, none⟩), .float .f64 v, .pointer (some ⟨w.heap.size + 1 + 1, 0, none⟩), .agg #[.int .i64 k, .int .i64 n, .int .i64 m], .pointer (some ⟨w.heap.size + 1 + 1, 0, none⟩), .int .i64 (r4 : Int), .bool false, undef, undef, .pointer (some ⟨w.heap.size + 1 + 1, 0, none⟩), .agg c, .agg #[.int .i64 k, .int .i64 n, .int .i64 m], .float .f64 v], []⟩ rfl ?_
      exact wpAnyH_done (by kernel_rfl) ⟨rfl, c, hc, row_beside (row_set k4 _) _ (by omega) _, row_set j5 _, below_setRow (below_setRow b4 (Nat.le_refl _) _) (by omega) _, rfl⟩ _
    rintro _ w5 ⟨c, hc, k5, j5, b5, rfl⟩
    have HC : Hid (MemOk c) := hc
    have HLa : Hid ((loadVar 37 ⟨w.heap.size, 0, none⟩).run Tryd.prog w5 = .ok (.agg c) w5) := load_all k5 _ _ Tryd.underlying37 rfl (by rw [hc.size]; exact zero_mem.2)
    have HLb : Hid ((loadVar 39 ⟨w.heap.size + 1, 0, none⟩).run Tryd.prog w5 = .ok (.agg #[.int .i64 k, .int .i64 n, .int .i64 m]) w5) := load_all j5 _ _ Tryd.underlying39 rfl arg_size
    have HB : Hid (Below w.heap.size w w5) := b5
    clear b3 k3 j3 i3 h3 k5 j5 b5 hc HS
    go_wp2_with (first | exact ret_row3 rfl rfl rfl rfl HLa.out HLb.out rfl ⟨⟨c, k, n, m, v, HC.out, n0, n1, HV.out, rfl⟩, HB.out⟩ | fail)
end Go.Proofs.YtjnddfpieogpiaaDoor
