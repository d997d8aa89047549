/- What a contact or coil acts with: its operands; its sort. -/
import Derived.Test.YtlpoplnghfohmaaDoorOb
import Derived.Deep.Cut
namespace Go.Proofs.YtlpoplnghfohmaaDoor
open Go.RowKit
set_option linter.unusedVariables false

theorem run_copy_wide {P : Program} (w : World) (dT sT ty elem : TypeId) (z g o dLen dCap : Nat) (a : Addr) (sLen sCap : Nat) (cur : Array Value) (t : TypeId) (cs : List Value)
    (hu : P.underlying dT = some (.slice elem)) (hs : (P.info? elem).map (·.size) = some z)
    (hg : w.heap[g]? = some (.cells cur t (0, 0))) (hn : cs.length = Nat.min sLen dLen * z)
    (hsrc : ∀ j v, cs[j]? = some v → w.cell? (a.add j) = some v) (hfit : o + cs.length ≤ cur.size) (h1 : ∀ v ∈ cs, v.oneCell' = true) :
    (Builtin.copy_ #[dT, sT] ty #[.slice (some ⟨g, o, none⟩) dLen dCap, .slice (some a) sLen sCap]).run P w =
      .ok (goInt (Nat.min sLen dLen : Nat)) (w.setRow g (cur.toList.take o ++ cs ++ cur.toList.drop (o + cs.length)).toArray) := by
  have hl := run_loadCells_list (P := P) w a cs hsrc
  have hst := run_storeCells_at P g o t cs 0 cur w hg (by simpa using hfit) h1
  cases hq : P.info? elem with
  | none => simp [hq] at hs
  | some i =>
    have hi : i.size = z := by simpa [hq] using hs
    simp [Builtin.copy_, run_underlying hu, Builtin.lenOf, Builtin.firstCells, sizeOf, typeInfo, hq, hi, ← hn, hl, hst]

theorem run_copy_op {P : Program} {o : Oper} {a : Act} {w w' : World} {d s : Operand} {dT sT : TypeId} {v1 v2 v : Value} (ho : o.op = .call { callee := .builtin .copy, args := #[d, s], argTypes := #[dT, sT] }) (hd : a.eval d = v1) (hs : a.eval s = v2)
    (hrun : (Builtin.copy_ #[dT, sT] o.type #[v1, v2]).run P w = .ok v w') : (execOp a.eval o).run P w = .ok (.value v) w' := by
  simp [execOp, ho, resolve, invoke, builtin, hd, hs, hrun, Result.andThen]

theorem info_args : (Tryd.prog.info? 99).map (·.size) = some 9 := by kernel_rfl
theorem info_elem : (Tryd.prog.info? 56).map (·.size) = some 2 := by kernel_rfl
theorem int_one {X : List Int} : ((X.map (Value.int .i64)).toArray).all (·.oneCell') = true := by
  rw [Array.all_eq_true_iff_forall_mem]
  intro v hv
  obtain ⟨x, _, rfl⟩ := List.mem_map.1 (by simpa using hv)
  rfl

/-- The operands of a contact or coil, as it acts with them: three, nothing where there is none. -/
def nine (X : List Int) : Array Value := (((X.take 9) ++ List.replicate (9 - X.length) 0).map (Value.int .i64)).toArray


set_option maxRecDepth 10000 in
set_option maxHeartbeats 1000000 in
theorem argsof1 (op : Int) (b : Nat) (k0 n0 m0 : Int) (t : TypeId) (w : World) (hb : w.heap[b]? = some (.cells #[.int .i64 k0, .int .i64 n0, .int .i64 m0] t (0, 0))) : Calls Tryd.prog 58 #[.agg #[.int .i64 op, .slice (some ⟨b, 0, none⟩) 1 1]] w fun e w' => e = .returned (.agg #[.int .i64 k0, .int .i64 n0, .int .i64 m0, .int .i64 0, .int .i64 0, .int .i64 0, .int .i64 0, .int .i64 0, .int .i64 0]) ∧ Below w.heap.size w w' := by
  have HBW : Hid (b < w.heap.size) := (Array.getElem?_eq_some_iff.1 hb).1
  have HB : Hid (w.heap[b]? = some (.cells #[.int .i64 k0, .int .i64 n0, .int .i64 m0] t (0, 0))) := hb
  clear hb
  go_enter Tryd.func58, Tryd.ntmps58
  go_upto_region 2 with fail
  have r := rows3 w (.cells #[.int .i64 op, .slice (some ⟨b, 0, none⟩) 1 1] 56) (.cells #[.int .i64 0, .int .i64 0, .int .i64 0, .int .i64 0, .int .i64 0, .int .i64 0, .int .i64 0, .int .i64 0, .int .i64 0] 99) (.cells #[.int .i64 0, .int .i64 0, .int .i64 0, .int .i64 0, .int .i64 0, .int .i64 0, .int .i64 0, .int .i64 0, .int .i64 0] 121)
  have bl : Below w.heap.size w (((w.alloc (.cells #[.int .i64 op, .slice (some ⟨b, 0, none⟩) 1 1] 56)).alloc (.cells #[.int .i64 0, .int .i64 0, .int .i64 0, .int .i64 0, .int .i64 0, .int .i64 0, .int .i64 0, .int .i64 0, .int .i64 0] 99)).alloc (.cells #[.int .i64 0, .int .i64 0, .int .i64 0, .int .i64 0, .int .i64 0, .int .i64 0, .int .i64 0, .int .i64 0, .int .i64 0] 121)) := (((Below.refl _ _).alloc (Nat.le_refl _) _).alloc (by simp) _).alloc (by simp <;> omega) _
  obtain ⟨h1, h2, h3⟩ := r
  have h0 : (((w.alloc (.cells #[.int .i64 op, .slice (some ⟨b, 0, none⟩) 1 1] 56)).alloc (.cells #[.int .i64 0, .int .i64 0, .int .i64 0, .int .i64 0, .int .i64 0, .int .i64 0, .int .i64 0, .int .i64 0, .int .i64 0] 99)).alloc (.cells #[.int .i64 0, .int .i64 0, .int .i64 0, .int .i64 0, .int .i64 0, .int .i64 0, .int .i64 0, .int .i64 0, .int .i64 0] 121)).heap[b]? = some (.cells #[.int .i64 k0, .int .i64 n0, .int .i64 m0] t (0, 0)) := (bl.block _ HBW.out).trans HB.out
  generalize (((w.alloc (.cells #[.int .i64 op, .slice (some ⟨b, 0, none⟩) 1 1] 56)).alloc (.cells #[.int .i64 0, .int .i64 0, .int .i64 0, .int .i64 0, .int .i64 0, .int .i64 0, .int .i64 0, .int .i64 0, .int .i64 0] 99)).alloc (.cells #[.int .i64 0, .int .i64 0, .int .i64 0, .int .i64 0, .int .i64 0, .int .i64 0, .int .i64 0, .int .i64 0, .int .i64 0] 121)) = w0 at h1 h2 h3 bl h0 ⊢
  obtain ⟨S, HS⟩ : ∃ S : World → Prop, Hid (∀ W, S W ↔ W.heap[w.heap.size]? = some (.cells #[.int .i64 op, .slice (some ⟨b, 0, none⟩) 1 1] 56 (0, 0))) := ⟨_, fun W => Iff.rfl⟩
  refine region_cut (R := fun a' W => W.heap[w.heap.size + 1]? = some (.cells #[.int .i64 0, .int .i64 0, .int .i64 0, .int .i64 0, .int .i64 0, .int .i64 0, .int .i64 0, .int .i64 0, .int .i64 0] 99 (0, 0)) ∧ W.heap[w.heap.size + 1 + 1]? = some (.cells #[.int .i64 k0, .int .i64 n0, .int .i64 m0, .int .i64 0, .int .i64 0, .int .i64 0, .int .i64 0, .int .i64 0, .int .i64 0] 121 (0, 0)) ∧ Below w.heap.size w W ∧ a' = ⟨#[.agg #[.int .i64 op, .slice (some ⟨b, 0, none⟩) 1 1], .pointer (some ⟨w.heap.size, 0, none⟩), .pointer (some ⟨w.heap.size + 1, 0, none⟩), .pointer (some ⟨w.heap.size + 1 + 1, 0, none⟩), .slice (some ⟨w.heap.size + 1 + 1, 0, none⟩) 3 3, .pointer (some ⟨w.heap.size, 1, none⟩), .slice (some ⟨b, 0, none⟩) 1 1, .int .i64 1, undef, undef, undef, undef, undef, undef, undef], []⟩) ?_ ?_
  · refine wp_region_held_drew (S := S) (by kernel_rfl) ((HS.out _).2 h1) (fun S0 => ?_)
    show wpAnyH _ _ _ _ _ 4 #[false, false, false, false] _ _
    refine tk_val' (i := 0) rfl (by kernel_rfl) (by kernel_rfl) (by kernel_rfl) (fun _ _ _ _ h => nomatch h.1) rfl (.slice (some ⟨w.heap.size + 1 + 1, 0, none⟩) 3 3) (fun W _ => by go_simp) S0 #[true, false, false, false] rfl ⟨#[.agg #[.int .i64 op, .slice (some ⟨b, 0, none⟩) 1 1], .pointer (some ⟨w.heap.size, 0, none⟩), .pointer (some ⟨w.heap.size + 1, 0, none⟩), .pointer (some ⟨w.heap.size + 1 + 1, 0, none⟩), .slice (some ⟨w.heap.size + 1 + 1, 0, none⟩) 3 3, undef, undef, undef, undef, undef, undef, undef, undef, undef, undef], []⟩ rfl ?_
    refine tk_val' (i := 1) rfl (by kernel_rfl) (by kernel_rfl) (by kernel_rfl) (fun _ _ _ _ h => nomatch h.1) rfl (.pointer (some ⟨w.heap.size, 1, none⟩)) (fun W _ => by go_simp) S0 #[true, true, false, false] rfl ⟨#[.agg #[.int .i64 op, .slice (some ⟨b, 0, none⟩) 1 1], .pointer (some ⟨w.heap.size, 0, none⟩), .pointer (some ⟨w.heap.size + 1, 0, none⟩), .pointer (some ⟨w.heap.size + 1 + 1, 0, none⟩), .slice (some ⟨w.heap.size + 1 + 1, 0, none⟩) 3 3, .pointer (some ⟨w.heap.size, 1, none⟩), undef, undef, undef, undef, undef, undef, undef, undef, undef], []⟩ rfl ?_
    refine tk_val' (i := 2) rfl (by kernel_rfl) (by kernel_rfl) (by kernel_rfl) (fun _ _ _ _ h => nomatch h.1) rfl (.slice (some ⟨b, 0, none⟩) 1 1) (fun W hW => by have hc : W.cell? ⟨w.heap.size, 1, none⟩ = some (.slice (some ⟨b, 0, none⟩) 1 1) := (cell_of_row _ _ _ _ _ _ ((HS.out W).1 hW)).trans rfl; go_simp) S0 #[true, true, true, false] rfl ⟨#[.agg #[.int .i64 op, .slice (some ⟨b, 0, none⟩) 1 1], .pointer (some ⟨w.heap.size, 0, none⟩), .pointer (some ⟨w.heap.size + 1, 0, none⟩), .pointer (some ⟨w.heap.size + 1 + 1, 0, none⟩), .slice (some ⟨w.heap.size + 1 + 1, 0, none⟩) 3 3, .pointer (some ⟨w.heap.size, 1, none⟩), .slice (some ⟨b, 0, none⟩) 1 1, undef, undef, undef, undef, undef, undef, undef, undef], []⟩ rfl ?_
    refine wpAnyH_all (rs := [3]) (by kernel_rfl) (by simp) (fun i hi => ?_)
    obtain rfl := List.mem_singleton.1 hi
    have hsrc : ∀ j v, ([.int .i64 k0, .int .i64 n0, .int .i64 m0] : List Value)[j]? = some v → w0.drew.cell? ((⟨b, 0, none⟩ : Addr).add j) = some v := fun j v hv => by
      have h0' : w0.drew.heap[b]? = some (.cells #[.int .i64 k0, .int .i64 n0, .int .i64 m0] t (0, 0)) := h0
      rw [Addr.add_lit, Nat.zero_add, cell_of_row _ _ _ _ _ _ h0']
      simpa using hv
    have hrun := run_copy_wide (P := Tryd.prog) w0.drew 54 54 3 39 3 (w.heap.size + 1 + 1) 0 3 3 ⟨b, 0, none⟩ 1 1 #[.int .i64 0, .int .i64 0, .int .i64 0, .int .i64 0, .int .i64 0, .int .i64 0, .int .i64 0, .int .i64 0, .int .i64 0] 121 [.int .i64 k0, .int .i64 n0, .int .i64 m0] Tryd.underlying54 (by kernel_rfl) h3 rfl hsrc (by simp) (by simp [Value.oneCell'])
    refine up_val' rfl rfl (.int .i64 1) (w0.drew.setRow (w.heap.size + 1 + 1) #[.int .i64 k0, .int .i64 n0, .int .i64 m0, .int .i64 0, .int .i64 0, .int .i64 0, .int .i64 0, .int .i64 0, .int .i64 0]) (run_copy_op rfl rfl rfl hrun) ((HS.out _).2 (row_beside h1 _ (by omega) _)) #[true, true, true, true] rfl ⟨#[.agg #[.int .i64 op, .slice (some ⟨b, 0, none⟩) 1 1], .pointer (some ⟨w.heap.size, 0, none⟩), .pointer (some ⟨w.heap.size + 1, 0, none⟩), .pointer (some ⟨w.heap.size + 1 + 1, 0, none⟩), .slice (some ⟨w.heap.size + 1 + 1, 0, none⟩) 3 3, .pointer (some ⟨w.heap.size, 1, none⟩), .slice (some ⟨b, 0, none⟩) 1 1, .int .i64 1, undef, undef, undef, undef, undef, undef, undef], []⟩ rfl ?_
    exact wpAnyH_done (by kernel_rfl) ⟨rfl, row_beside h2 _ (by omega) _, row_set h3 _, below_setRow bl.drew (by omega) _, rfl⟩ _
  rintro _ w5 ⟨h2, h3, bl, rfl⟩
  have y0 : w5.cell? ⟨w.heap.size + 1 + 1, 0, none⟩ = some (.int .i64 k0) := (cell_of_row _ _ _ _ _ _ h3).trans rfl
  have y1 : w5.cell? ⟨w.heap.size + 1 + 1, 1, none⟩ = some (.int .i64 n0) := (cell_of_row _ _ _ _ _ _ h3).trans rfl
  have y2 : w5.cell? ⟨w.heap.size + 1 + 1, 2, none⟩ = some (.int .i64 m0) := (cell_of_row _ _ _ _ _ _ h3).trans rfl
  have y3 : w5.cell? ⟨w.heap.size + 1 + 1, 3, none⟩ = some (.int .i64 0) := (cell_of_row _ _ _ _ _ _ h3).trans rfl
  have y4 : w5.cell? ⟨w.heap.size + 1 + 1, 4, none⟩ = some (.int .i64 0) := (cell_of_row _ _ _ _ _ _ h3).trans rfl
  have y5 : w5.cell? ⟨w.heap.size + 1 + 1, 5, none⟩ = some (.int .i64 0) := (cell_of_row _ _ _ _ _ _ h3).trans rfl
  have y6 : w5.cell? ⟨w.heap.size + 1 + 1, 6, none⟩ = some (.int .i64 0) := (cell_of_row _ _ _ _ _ _ h3).trans rfl
  have y7 : w5.cell? ⟨w.heap.size + 1 + 1, 7, none⟩ = some (.int .i64 0) := (cell_of_row _ _ _ _ _ _ h3).trans rfl
  have y8 : w5.cell? ⟨w.heap.size + 1 + 1, 8, none⟩ = some (.int .i64 0) := (cell_of_row _ _ _ _ _ _ h3).trans rfl
  have HS5 : Hid ((storeVar 99 ⟨w.heap.size + 1, 0, none⟩ (.agg #[.int .i64 k0, .int .i64 n0, .int .i64 m0, .int .i64 0, .int .i64 0, .int .i64 0, .int .i64 0, .int .i64 0, .int .i64 0])).run Tryd.prog w5 = .ok () (w5.setRow (w.heap.size + 1) #[.int .i64 k0, .int .i64 n0, .int .i64 m0, .int .i64 0, .int .i64 0, .int .i64 0, .int .i64 0, .int .i64 0, .int .i64 0])) := store_all h2 _ _ rfl info_args (by simp [Value.oneCell'])
  have HR : Hid (w5.heap[w.heap.size + 1]? = some (.cells #[.int .i64 0, .int .i64 0, .int .i64 0, .int .i64 0, .int .i64 0, .int .i64 0, .int .i64 0, .int .i64 0, .int .i64 0] 99 (0, 0))) := h2
  have HBB : Hid (Below w.heap.size w (w5.setRow (w.heap.size + 1) #[.int .i64 k0, .int .i64 n0, .int .i64 m0, .int .i64 0, .int .i64 0, .int .i64 0, .int .i64 0, .int .i64 0, .int .i64 0])) := below_setRow bl (by omega) _
  clear h2 h3 bl h1 HS h0
  go_wp2_with (first | (refine wpL_store rfl 99 _ _ rfl _ _ rfl _ rfl _ HS5.out ?_) | exact ret_row rfl rfl (row_set HR.out _) Tryd.underlying99 rfl info_args rfl ⟨rfl, HBB.out⟩ | fail)

set_option maxRecDepth 10000 in
set_option maxHeartbeats 1000000 in
theorem argsof2 (op : Int) (b : Nat) (k0 n0 m0 k1 n1 m1 : Int) (t : TypeId) (w : World) (hb : w.heap[b]? = some (.cells #[.int .i64 k0, .int .i64 n0, .int .i64 m0, .int .i64 k1, .int .i64 n1, .int .i64 m1] t (0, 0))) : Calls Tryd.prog 58 #[.agg #[.int .i64 op, .slice (some ⟨b, 0, none⟩) 2 2]] w fun e w' => e = .returned (.agg #[.int .i64 k0, .int .i64 n0, .int .i64 m0, .int .i64 k1, .int .i64 n1, .int .i64 m1, .int .i64 0, .int .i64 0, .int .i64 0]) ∧ Below w.heap.size w w' := by
  have HBW : Hid (b < w.heap.size) := (Array.getElem?_eq_some_iff.1 hb).1
  have HB : Hid (w.heap[b]? = some (.cells #[.int .i64 k0, .int .i64 n0, .int .i64 m0, .int .i64 k1, .int .i64 n1, .int .i64 m1] t (0, 0))) := hb
  clear hb
  go_enter Tryd.func58, Tryd.ntmps58
  go_upto_region 2 with fail
  have r := rows3 w (.cells #[.int .i64 op, .slice (some ⟨b, 0, none⟩) 2 2] 56) (.cells #[.int .i64 0, .int .i64 0, .int .i64 0, .int .i64 0, .int .i64 0, .int .i64 0, .int .i64 0, .int .i64 0, .int .i64 0] 99) (.cells #[.int .i64 0, .int .i64 0, .int .i64 0, .int .i64 0, .int .i64 0, .int .i64 0, .int .i64 0, .int .i64 0, .int .i64 0] 121)
  have bl : Below w.heap.size w (((w.alloc (.cells #[.int .i64 op, .slice (some ⟨b, 0, none⟩) 2 2] 56)).alloc (.cells #[.int .i64 0, .int .i64 0, .int .i64 0, .int .i64 0, .int .i64 0, .int .i64 0, .int .i64 0, .int .i64 0, .int .i64 0] 99)).alloc (.cells #[.int .i64 0, .int .i64 0, .int .i64 0, .int .i64 0, .int .i64 0, .int .i64 0, .int .i64 0, .int .i64 0, .int .i64 0] 121)) := (((Below.refl _ _).alloc (Nat.le_refl _) _).alloc (by simp) _).alloc (by simp <;> omega) _
  obtain ⟨h1, h2, h3⟩ := r
  have h0 : (((w.alloc (.cells #[.int .i64 op, .slice (some ⟨b, 0, none⟩) 2 2] 56)).alloc (.cells #[.int .i64 0, .int .i64 0, .int .i64 0, .int .i64 0, .int .i64 0, .int .i64 0, .int .i64 0, .int .i64 0, .int .i64 0] 99)).alloc (.cells #[.int .i64 0, .int .i64 0, .int .i64 0, .int .i64 0, .int .i64 0, .int .i64 0, .int .i64 0, .int .i64 0, .int .i64 0] 121)).heap[b]? = some (.cells #[.int .i64 k0, .int .i64 n0, .int .i64 m0, .int .i64 k1, .int .i64 n1, .int .i64 m1] t (0, 0)) := (bl.block _ HBW.out).trans HB.out
  generalize (((w.alloc (.cells #[.int .i64 op, .slice (some ⟨b, 0, none⟩) 2 2] 56)).alloc (.cells #[.int .i64 0, .int .i64 0, .int .i64 0, .int .i64 0, .int .i64 0, .int .i64 0, .int .i64 0, .int .i64 0, .int .i64 0] 99)).alloc (.cells #[.int .i64 0, .int .i64 0, .int .i64 0, .int .i64 0, .int .i64 0, .int .i64 0, .int .i64 0, .int .i64 0, .int .i64 0] 121)) = w0 at h1 h2 h3 bl h0 ⊢
  obtain ⟨S, HS⟩ : ∃ S : World → Prop, Hid (∀ W, S W ↔ W.heap[w.heap.size]? = some (.cells #[.int .i64 op, .slice (some ⟨b, 0, none⟩) 2 2] 56 (0, 0))) := ⟨_, fun W => Iff.rfl⟩
  refine region_cut (R := fun a' W => W.heap[w.heap.size + 1]? = some (.cells #[.int .i64 0, .int .i64 0, .int .i64 0, .int .i64 0, .int .i64 0, .int .i64 0, .int .i64 0, .int .i64 0, .int .i64 0] 99 (0, 0)) ∧ W.heap[w.heap.size + 1 + 1]? = some (.cells #[.int .i64 k0, .int .i64 n0, .int .i64 m0, .int .i64 k1, .int .i64 n1, .int .i64 m1, .int .i64 0, .int .i64 0, .int .i64 0] 121 (0, 0)) ∧ Below w.heap.size w W ∧ a' = ⟨#[.agg #[.int .i64 op, .slice (some ⟨b, 0, none⟩) 2 2], .pointer (some ⟨w.heap.size, 0, none⟩), .pointer (some ⟨w.heap.size + 1, 0, none⟩), .pointer (some ⟨w.heap.size + 1 + 1, 0, none⟩), .slice (some ⟨w.heap.size + 1 + 1, 0, none⟩) 3 3, .pointer (some ⟨w.heap.size, 1, none⟩), .slice (some ⟨b, 0, none⟩) 2 2, .int .i64 2, undef, undef, undef, undef, undef, undef, undef], []⟩) ?_ ?_
  · refine wp_region_held_drew (S := S) (by kernel_rfl) ((HS.out _).2 h1) (fun S0 => ?_)
    show wpAnyH _ _ _ _ _ 4 #[false, false, false, false] _ _
    refine tk_val' (i := 0) rfl (by kernel_rfl) (by kernel_rfl) (by kernel_rfl) (fun _ _ _ _ h => nomatch h.1) rfl (.slice (some ⟨w.heap.size + 1 + 1, 0, none⟩) 3 3) (fun W _ => by go_simp) S0 #[true, false, false, false] rfl ⟨#[.agg #[.int .i64 op, .slice (some ⟨b, 0, none⟩) 2 2], .pointer (some ⟨w.heap.size, 0, none⟩), .pointer (some ⟨w.heap.size + 1, 0, none⟩), .pointer (some ⟨w.heap.size + 1 + 1, 0, none⟩), .slice (some ⟨w.heap.size + 1 + 1, 0, none⟩) 3 3, undef, undef, undef, undef, undef, undef, undef, undef, undef, undef], []⟩ rfl ?_
    refine tk_val' (i := 1) rfl (by kernel_rfl) (by kernel_rfl) (by kernel_rfl) (fun _ _ _ _ h => nomatch h.1) rfl (.pointer (some ⟨w.heap.size, 1, none⟩)) (fun W _ => by go_simp) S0 #[true, true, false, false] rfl ⟨#[.agg #[.int .i64 op, .slice (some ⟨b, 0, none⟩) 2 2], .pointer (some ⟨w.heap.size, 0, none⟩), .pointer (some ⟨w.heap.size + 1, 0, none⟩), .pointer (some ⟨w.heap.size + 1 + 1, 0, none⟩), .slice (some ⟨w.heap.size + 1 + 1, 0, none⟩) 3 3, .pointer (some ⟨w.heap.size, 1, none⟩), undef, undef, undef, undef, undef, undef, undef, undef, undef], []⟩ rfl ?_
    refine tk_val' (i := 2) rfl (by kernel_rfl) (by kernel_rfl) (by kernel_rfl) (fun _ _ _ _ h => nomatch h.1) rfl (.slice (some ⟨b, 0, none⟩) 2 2) (fun W hW => by have hc : W.cell? ⟨w.heap.size, 1, none⟩ = some (.slice (some ⟨b, 0, none⟩) 2 2) := (cell_of_row _ _ _ _ _ _ ((HS.out W).1 hW)).trans rfl; go_simp) S0 #[true, true, true, false] rfl ⟨#[.agg #[.int .i64 op, .slice (some ⟨b, 0, none⟩) 2 2], .pointer (some ⟨w.heap.size, 0, none⟩), .pointer (some ⟨w.heap.size + 1, 0, none⟩), .pointer (some ⟨w.heap.size + 1 + 1, 0, none⟩), .slice (some ⟨w.heap.size + 1 + 1, 0, none⟩) 3 3, .pointer (some ⟨w.heap.size, 1, none⟩), .slice (some ⟨b, 0, none⟩) 2 2, undef, undef, undef, undef, undef, undef, undef, undef], []⟩ rfl ?_
    refine wpAnyH_all (rs := [3]) (by kernel_rfl) (by simp) (fun i hi => ?_)
    obtain rfl := List.mem_singleton.1 hi
    have hsrc : ∀ j v, ([.int .i64 k0, .int .i64 n0, .int .i64 m0, .int .i64 k1, .int .i64 n1, .int .i64 m1] : List Value)[j]? = some v → w0.drew.cell? ((⟨b, 0, none⟩ : Addr).add j) = some v := fun j v hv => by
      have h0' : w0.drew.heap[b]? = some (.cells #[.int .i64 k0, .int .i64 n0, .int .i64 m0, .int .i64 k1, .int .i64 n1, .int .i64 m1] t (0, 0)) := h0
      rw [Addr.add_lit, Nat.zero_add, cell_of_row _ _ _ _ _ _ h0']
      simpa using hv
    have hrun := run_copy_wide (P := Tryd.prog) w0.drew 54 54 3 39 3 (w.heap.size + 1 + 1) 0 3 3 ⟨b, 0, none⟩ 2 2 #[.int .i64 0, .int .i64 0, .int .i64 0, .int .i64 0, .int .i64 0, .int .i64 0, .int .i64 0, .int .i64 0, .int .i64 0] 121 [.int .i64 k0, .int .i64 n0, .int .i64 m0, .int .i64 k1, .int .i64 n1, .int .i64 m1] Tryd.underlying54 (by kernel_rfl) h3 rfl hsrc (by simp) (by simp [Value.oneCell'])
    refine up_val' rfl rfl (.int .i64 2) (w0.drew.setRow (w.heap.size + 1 + 1) #[.int .i64 k0, .int .i64 n0, .int .i64 m0, .int .i64 k1, .int .i64 n1, .int .i64 m1, .int .i64 0, .int .i64 0, .int .i64 0]) (run_copy_op rfl rfl rfl hrun) ((HS.out _).2 (row_beside h1 _ (by omega) _)) #[true, true, true, true] rfl ⟨#[.agg #[.int .i64 op, .slice (some ⟨b, 0, none⟩) 2 2], .pointer (some ⟨w.heap.size, 0, none⟩), .pointer (some ⟨w.heap.size + 1, 0, none⟩), .pointer (some ⟨w.heap.size + 1 + 1, 0, none⟩), .slice (some ⟨w.heap.size + 1 + 1, 0, none⟩) 3 3, .pointer (some ⟨w.heap.size, 1, none⟩), .slice (some ⟨b, 0, none⟩) 2 2, .int .i64 2, undef, undef, undef, undef, undef, undef, undef], []⟩ rfl ?_
    exact wpAnyH_done (by kernel_rfl) ⟨rfl, row_beside h2 _ (by omega) _, row_set h3 _, below_setRow bl.drew (by omega) _, rfl⟩ _
  rintro _ w5 ⟨h2, h3, bl, rfl⟩
  have y0 : w5.cell? ⟨w.heap.size + 1 + 1, 0, none⟩ = some (.int .i64 k0) := (cell_of_row _ _ _ _ _ _ h3).trans rfl
  have y1 : w5.cell? ⟨w.heap.size + 1 + 1, 1, none⟩ = some (.int .i64 n0) := (cell_of_row _ _ _ _ _ _ h3).trans rfl
  have y2 : w5.cell? ⟨w.heap.size + 1 + 1, 2, none⟩ = some (.int .i64 m0) := (cell_of_row _ _ _ _ _ _ h3).trans rfl
  have y3 : w5.cell? ⟨w.heap.size + 1 + 1, 3, none⟩ = some (.int .i64 k1) := (cell_of_row _ _ _ _ _ _ h3).trans rfl
  have y4 : w5.cell? ⟨w.heap.size + 1 + 1, 4, none⟩ = some (.int .i64 n1) := (cell_of_row _ _ _ _ _ _ h3).trans rfl
  have y5 : w5.cell? ⟨w.heap.size + 1 + 1, 5, none⟩ = some (.int .i64 m1) := (cell_of_row _ _ _ _ _ _ h3).trans rfl
  have y6 : w5.cell? ⟨w.heap.size + 1 + 1, 6, none⟩ = some (.int .i64 0) := (cell_of_row _ _ _ _ _ _ h3).trans rfl
  have y7 : w5.cell? ⟨w.heap.size + 1 + 1, 7, none⟩ = some (.int .i64 0) := (cell_of_row _ _ _ _ _ _ h3).trans rfl
  have y8 : w5.cell? ⟨w.heap.size + 1 + 1, 8, none⟩ = some (.int .i64 0) := (cell_of_row _ _ _ _ _ _ h3).trans rfl
  have HS5 : Hid ((storeVar 99 ⟨w.heap.size + 1, 0, none⟩ (.agg #[.int .i64 k0, .int .i64 n0, .int .i64 m0, .int .i64 k1, .int .i64 n1, .int .i64 m1, .int .i64 0, .int .i64 0, .int .i64 0])).run Tryd.prog w5 = .ok () (w5.setRow (w.heap.size + 1) #[.int .i64 k0, .int .i64 n0, .int .i64 m0, .int .i64 k1, .int .i64 n1, .int .i64 m1, .int .i64 0, .int .i64 0, .int .i64 0])) := store_all h2 _ _ rfl info_args (by simp [Value.oneCell'])
  have HR : Hid (w5.heap[w.heap.size + 1]? = some (.cells #[.int .i64 0, .int .i64 0, .int .i64 0, .int .i64 0, .int .i64 0, .int .i64 0, .int .i64 0, .int .i64 0, .int .i64 0] 99 (0, 0))) := h2
  have HBB : Hid (Below w.heap.size w (w5.setRow (w.heap.size + 1) #[.int .i64 k0, .int .i64 n0, .int .i64 m0, .int .i64 k1, .int .i64 n1, .int .i64 m1, .int .i64 0, .int .i64 0, .int .i64 0])) := below_setRow bl (by omega) _
  clear h2 h3 bl h1 HS h0
  go_wp2_with (first | (refine wpL_store rfl 99 _ _ rfl _ _ rfl _ rfl _ HS5.out ?_) | exact ret_row rfl rfl (row_set HR.out _) Tryd.underlying99 rfl info_args rfl ⟨rfl, HBB.out⟩ | fail)
end Go.Proofs.YtlpoplnghfohmaaDoor
