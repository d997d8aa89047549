/- What a contact or coil acts with: its operands, however many there are; ActTest over contracts. -/
import Derived.Test.YtlgacbjopobeoaaGreatDoorSc6
import Derived.Test.YtlgacbjopobeoaaGreatDoorEcM
import Derived.Test.YtlgacbjopobeoaaGreatDoorMfM
import Derived.Deep.Cut
import Derived.Laws.CopyRow
namespace Go.Proofs.YtlgacbjopobeoaaGreatDoor
open Go.RowKit
set_option linter.unusedVariables false

theorem run_copy_wide {P : Program} (w : World) (dT sT ty elem : TypeId) (z g o dLen dCap : Nat) (a : Addr) (sLen sCap : Nat) (cur : Array Value) (t : TypeId) (cs : List Value)
    (hu : P.underlying dT = some (.slice elem)) (hs : (P.info? elem).map (·.size) = some z)
    (hg : w.heap[g]? = some (.cells cur t (0, 0))) (hn : cs.length = Nat.min sLen dLen * z)
    (hsrc : ∀ j v, cs[j]? = some v → w.cell? (a.add j) = some v) (hfit : o + cs.length ≤ cur.size) (h1 : ∀ v ∈ cs, v.oneCell' = true) :
    (Builtin.copy_ #[dT, sT] ty #[.slice (some ⟨g, o, none⟩) dLen dCap, .slice (some a) sLen sCap]).run P w =
      .ok (goInt (Nat.min sLen dLen : Nat)) (w.setRow g (cur.toList.take o ++ cs ++ cur.toList.drop (o + cs.length)).toArray) := by
  have hl := run_loadCells_list (P := P) w a cs hsrc
  have hst := run_storeCells_at P g o t cs 0 cur w hg (by simpa using hfit) h1
  cases hq : P.info? elem with
  | none => simp [hq] at hs
  | some i =>
    have hi : i.size = z := by simpa [hq] using hs
    simp [Builtin.copy_, run_underlying hu, Builtin.lenOf, Builtin.firstCells, sizeOf, typeInfo, hq, hi, ← hn, hl, hst]

theorem run_copy_op {P : Program} {o : Oper} {a : Act} {w w' : World} {d s : Operand} {dT sT : TypeId} {v1 v2 v : Value} (ho : o.op = .call { callee := .builtin .copy, args := #[d, s], argTypes := #[dT, sT] }) (hd : a.eval d = v1) (hs : a.eval s = v2)
    (hrun : (Builtin.copy_ #[dT, sT] o.type #[v1, v2]).run P w = .ok v w') : (execOp a.eval o).run P w = .ok (.value v) w' := by
  simp [execOp, ho, resolve, invoke, builtin, hd, hs, hrun, Result.andThen]

theorem info_args : (Tryz.prog.info? 192).map (·.size) = some 9 := by kernel_rfl
theorem info_elem : (Tryz.prog.info? 64).map (·.size) = some 2 := by kernel_rfl

section
variable {P : Program} {ops : Array Oper} {Q : Exit → Act → World → Prop} {S : World → Prop} {md : Region.Mode}
theorem up_inv' {i : Nat} {o : Oper} {fuel : Nat} {listed : Array Bool} {a : Act} {w : World} (ho : ops[i]? = some o) (hw : Region.wanted o (yielded ops a.tmps) = true) (f : FuncId) (args : Array Value)
    (hrun : (execOp a.eval o).run P w = .ok (.enter f args) w) (l' : Array Bool) (hl : listed.setIfInBounds i true = l') (v : Value) (a' : Act) (ha : a.put o.dst v = a') (T : World → Prop)
    (hc : Calls P f args w fun e w' => e = .returned v ∧ T w') (h : ∀ w', T w' → S w' ∧ wpAnyH P md ops Q S fuel l' a' w') :
    wpOp P ops Q i (fun a' w' => S w' ∧ wpAnyH P md ops Q S fuel (listed.setIfInBounds i true) a' w') a w := by
  subst hl ha
  exact up_call ho hw f args hrun _ hc fun e w' hR => ⟨v, hR.1, h w' hR.2⟩
end


section
variable {P : Program} {ops : Array Oper} {Q : Exit → Act → World → Prop} {S : World → Prop} {md : Region.Mode}
theorem tk_skip' {i : Nat} {oi : Oper} {fuel : Nat} {listed : Array Bool} {a : Act} {w : World} (hi : ops[i]? = some oi)
    (hs : Region.noSelect ops = true) (hf : Region.free md ops listed i = true) (hr : (Region.ready md ops listed).contains i = true)
    (hQ : ∀ (v : Value) c a w, Q (.panic c) (a.put oi.dst v) w → Q (.panic c) a w) (hw : Region.wanted oi (yielded ops a.tmps) = false) (hS : S w)
    (l' : Array Bool) (hl : listed.setIfInBounds i true = l') (a' : Act) (ha : a.put oi.dst undef = a')
    (h : wpAnyH P md ops Q S fuel l' a' w) : wpAnyH P md ops Q S (fuel + 1) listed a w := by
  subst hl ha
  exact wpAnyH_take hi hs hf hr (hQ undef) (.inr ⟨hw, rfl⟩) hS h
end
/-- A row and a value handed back. -/
theorem ret_rowV {P : Program} {fn : Func} {Q : Ending → World → Prop} {a : Act} {w : World} {p p2 : Tmp} {ty : TypeId} (hf : fn.results = #[.cell p ty, .tmp p2]) {g : Nat} (hp : a.tmps.getD p undef = .pointer (some ⟨g, 0, none⟩)) {v2 : Value} (hp2 : a.tmps.getD p2 undef = v2)
    {v : Value} (h1 : (loadVar ty ⟨g, 0, none⟩).run P w = .ok v w) (hdf : a.defers = []) (hR : Q (.returned (.tuple #[v, v2])) w) : bodyPost P fn Q .ret a w := by
  refine bodyPost_ret (v := .tuple #[v, v2]) ?_ hdf hR
  have hp' : a.tmps[p]?.getD undef = .pointer (some ⟨g, 0, none⟩) := by simpa using hp
  have hp2' : a.tmps[p2]?.getD undef = v2 := by simpa using hp2
  simp [results, hf, hp', hp2', asAddr, h1]



theorem da_size : (Tryz.prog.info? 78).map (·.size) = some 3 := by kernel_rfl


set_option maxRecDepth 10000 in
set_option maxHeartbeats 1000000 in
theorem args_run (op nn : Int) (a : Option Addr) (len cap : Nat) (x0 x1 x2 x3 x4 x5 x6 x7 x8 : Int) (w : World)
    (hcp : Hid (∀ W g, Below w.heap.size w W → W.heap[g]? = some (.cells #[.int .i64 0, .int .i64 0, .int .i64 0, .int .i64 0, .int .i64 0, .int .i64 0, .int .i64 0, .int .i64 0, .int .i64 0] 243 (0, 0)) → (Builtin.copy_ #[62, 62] 3 #[.slice (some ⟨g, 0, none⟩) 3 3, .slice a len cap]).run Tryz.prog W = .ok (.int .i64 nn) (W.setRow g #[.int .i64 x0, .int .i64 x1, .int .i64 x2, .int .i64 x3, .int .i64 x4, .int .i64 x5, .int .i64 x6, .int .i64 x7, .int .i64 x8]))) :
    Calls Tryz.prog 137 #[.agg #[.int .i64 op, .slice a len cap]] w fun e w' => e = .returned (.agg #[.int .i64 x0, .int .i64 x1, .int .i64 x2, .int .i64 x3, .int .i64 x4, .int .i64 x5, .int .i64 x6, .int .i64 x7, .int .i64 x8]) ∧ Below w.heap.size w w' := by
  have HCp := hcp
  clear hcp
  go_enter Tryz.func137, Tryz.ntmps137
  go_upto_region 2 with fail
  have r := rows3 w (.cells #[.int .i64 op, .slice a len cap] 64) (.cells #[.int .i64 0, .int .i64 0, .int .i64 0, .int .i64 0, .int .i64 0, .int .i64 0, .int .i64 0, .int .i64 0, .int .i64 0] 192) (.cells #[.int .i64 0, .int .i64 0, .int .i64 0, .int .i64 0, .int .i64 0, .int .i64 0, .int .i64 0, .int .i64 0, .int .i64 0] 243)
  have bl : Below w.heap.size w (((w.alloc (.cells #[.int .i64 op, .slice a len cap] 64)).alloc (.cells #[.int .i64 0, .int .i64 0, .int .i64 0, .int .i64 0, .int .i64 0, .int .i64 0, .int .i64 0, .int .i64 0, .int .i64 0] 192)).alloc (.cells #[.int .i64 0, .int .i64 0, .int .i64 0, .int .i64 0, .int .i64 0, .int .i64 0, .int .i64 0, .int .i64 0, .int .i64 0] 243)) := (((Below.refl _ _).alloc (Nat.le_refl _) _).alloc (by simp) _).alloc (by simp <;> omega) _
  obtain ⟨h1, h2, h3⟩ := r
  generalize (((w.alloc (.cells #[.int .i64 op, .slice a len cap] 64)).alloc (.cells #[.int .i64 0, .int .i64 0, .int .i64 0, .int .i64 0, .int .i64 0, .int .i64 0, .int .i64 0, .int .i64 0, .int .i64 0] 192)).alloc (.cells #[.int .i64 0, .int .i64 0, .int .i64 0, .int .i64 0, .int .i64 0, .int .i64 0, .int .i64 0, .int .i64 0, .int .i64 0] 243)) = w0 at h1 h2 h3 bl ⊢
  obtain ⟨S, HS⟩ : ∃ S : World → Prop, Hid (∀ W, S W ↔ W.heap[w.heap.size]? = some (.cells #[.int .i64 op, .slice a len cap] 64 (0, 0))) := ⟨_, fun W => Iff.rfl⟩
  refine region_cut (R := fun a' W => W.heap[w.heap.size + 1]? = some (.cells #[.int .i64 0, .int .i64 0, .int .i64 0, .int .i64 0, .int .i64 0, .int .i64 0, .int .i64 0, .int .i64 0, .int .i64 0] 192 (0, 0)) ∧ W.heap[w.heap.size + 1 + 1]? = some (.cells #[.int .i64 x0, .int .i64 x1, .int .i64 x2, .int .i64 x3, .int .i64 x4, .int .i64 x5, .int .i64 x6, .int .i64 x7, .int .i64 x8] 243 (0, 0)) ∧ Below w.heap.size w W ∧ a' = ⟨#[.agg #[.int .i64 op, .slice a len cap], .pointer (some ⟨w.heap.size, 0, none⟩), .pointer (some ⟨w.heap.size + 1, 0, none⟩), .pointer (some ⟨w.heap.size + 1 + 1, 0, none⟩), .slice (some ⟨w.heap.size + 1 + 1, 0, none⟩) 3 3, .pointer (some ⟨w.heap.size, 1, none⟩), .slice a len cap, .int .i64 nn, undef, undef, undef, undef, undef, undef, undef], []⟩) ?_ ?_
  · refine wp_region_held_drew (S := S) (by kernel_rfl) ((HS.out _).2 h1) (fun S0 => ?_)
    show wpAnyH _ _ _ _ _ 4 #[false, false, false, false] _ _
    refine tk_val' (i := 0) rfl (by kernel_rfl) (by kernel_rfl) (by kernel_rfl) (fun _ _ _ _ h => nomatch h.1) rfl (.slice (some ⟨w.heap.size + 1 + 1, 0, none⟩) 3 3) (fun W _ => by go_simp) S0 #[true, false, false, false] rfl ⟨#[.agg #[.int .i64 op, .slice a len cap], .pointer (some ⟨w.heap.size, 0, none⟩), .pointer (some ⟨w.heap.size + 1, 0, none⟩), .pointer (some ⟨w.heap.size + 1 + 1, 0, none⟩), .slice (some ⟨w.heap.size + 1 + 1, 0, none⟩) 3 3, undef, undef, undef, undef, undef, undef, undef, undef, undef, undef], []⟩ rfl ?_
    refine tk_val' (i := 1) rfl (by kernel_rfl) (by kernel_rfl) (by kernel_rfl) (fun _ _ _ _ h => nomatch h.1) rfl (.pointer (some ⟨w.heap.size, 1, none⟩)) (fun W _ => by go_simp) S0 #[true, true, false, false] rfl ⟨#[.agg #[.int .i64 op, .slice a len cap], .pointer (some ⟨w.heap.size, 0, none⟩), .pointer (some ⟨w.heap.size + 1, 0, none⟩), .pointer (some ⟨w.heap.size + 1 + 1, 0, none⟩), .slice (some ⟨w.heap.size + 1 + 1, 0, none⟩) 3 3, .pointer (some ⟨w.heap.size, 1, none⟩), undef, undef, undef, undef, undef, undef, undef, undef, undef], []⟩ rfl ?_
    refine tk_val' (i := 2) rfl (by kernel_rfl) (by kernel_rfl) (by kernel_rfl) (fun _ _ _ _ h => nomatch h.1) rfl (.slice a len cap) (fun W hW => by have hc : W.cell? ⟨w.heap.size, 1, none⟩ = some (.slice a len cap) := (cell_of_row _ _ _ _ _ _ ((HS.out W).1 hW)).trans rfl; go_simp) S0 #[true, true, true, false] rfl ⟨#[.agg #[.int .i64 op, .slice a len cap], .pointer (some ⟨w.heap.size, 0, none⟩), .pointer (some ⟨w.heap.size + 1, 0, none⟩), .pointer (some ⟨w.heap.size + 1 + 1, 0, none⟩), .slice (some ⟨w.heap.size + 1 + 1, 0, none⟩) 3 3, .pointer (some ⟨w.heap.size, 1, none⟩), .slice a len cap, undef, undef, undef, undef, undef, undef, undef, undef], []⟩ rfl ?_
    refine wpAnyH_all (rs := [3]) (by kernel_rfl) (by simp) (fun i hi => ?_)
    obtain rfl := List.mem_singleton.1 hi
    have hrun := HCp.out _ (w.heap.size + 1 + 1) bl.drew h3
    refine up_val' rfl rfl (.int .i64 nn) (w0.drew.setRow (w.heap.size + 1 + 1) #[.int .i64 x0, .int .i64 x1, .int .i64 x2, .int .i64 x3, .int .i64 x4, .int .i64 x5, .int .i64 x6, .int .i64 x7, .int .i64 x8]) (run_copy_op rfl rfl rfl hrun) ((HS.out _).2 (row_beside h1 _ (by omega) _)) #[true, true, true, true] rfl ⟨#[.agg #[.int .i64 op, .slice a len cap], .pointer (some ⟨w.heap.size, 0, none⟩), .pointer (some ⟨w.heap.size + 1, 0, none⟩), .pointer (some ⟨w.heap.size + 1 + 1, 0, none⟩), .slice (some ⟨w.heap.size + 1 + 1, 0, none⟩) 3 3, .pointer (some ⟨w.heap.size, 1, none⟩), .slice a len cap, .int .i64 nn, undef, undef, undef, undef, undef, undef, undef], []⟩ rfl ?_
    exact wpAnyH_done (by kernel_rfl) ⟨rfl, row_beside h2 _ (by omega) _, row_set h3 _, below_setRow bl.drew (by omega) _, rfl⟩ _
  rintro _ w5 ⟨h2, h3, bl, rfl⟩
  have y0 : w5.cell? ⟨w.heap.size + 1 + 1, 0, none⟩ = some (.int .i64 x0) := (cell_of_row _ _ _ _ _ _ h3).trans rfl
  have y1 : w5.cell? ⟨w.heap.size + 1 + 1, 1, none⟩ = some (.int .i64 x1) := (cell_of_row _ _ _ _ _ _ h3).trans rfl
  have y2 : w5.cell? ⟨w.heap.size + 1 + 1, 2, none⟩ = some (.int .i64 x2) := (cell_of_row _ _ _ _ _ _ h3).trans rfl
  have y3 : w5.cell? ⟨w.heap.size + 1 + 1, 3, none⟩ = some (.int .i64 x3) := (cell_of_row _ _ _ _ _ _ h3).trans rfl
  have y4 : w5.cell? ⟨w.heap.size + 1 + 1, 4, none⟩ = some (.int .i64 x4) := (cell_of_row _ _ _ _ _ _ h3).trans rfl
  have y5 : w5.cell? ⟨w.heap.size + 1 + 1, 5, none⟩ = some (.int .i64 x5) := (cell_of_row _ _ _ _ _ _ h3).trans rfl
  have y6 : w5.cell? ⟨w.heap.size + 1 + 1, 6, none⟩ = some (.int .i64 x6) := (cell_of_row _ _ _ _ _ _ h3).trans rfl
  have y7 : w5.cell? ⟨w.heap.size + 1 + 1, 7, none⟩ = some (.int .i64 x7) := (cell_of_row _ _ _ _ _ _ h3).trans rfl
  have y8 : w5.cell? ⟨w.heap.size + 1 + 1, 8, none⟩ = some (.int .i64 x8) := (cell_of_row _ _ _ _ _ _ h3).trans rfl
  have HS5 : Hid ((storeVar 192 ⟨w.heap.size + 1, 0, none⟩ (.agg #[.int .i64 x0, .int .i64 x1, .int .i64 x2, .int .i64 x3, .int .i64 x4, .int .i64 x5, .int .i64 x6, .int .i64 x7, .int .i64 x8])).run Tryz.prog w5 = .ok () (w5.setRow (w.heap.size + 1) #[.int .i64 x0, .int .i64 x1, .int .i64 x2, .int .i64 x3, .int .i64 x4, .int .i64 x5, .int .i64 x6, .int .i64 x7, .int .i64 x8])) := store_all h2 _ _ rfl info_args (by simp [Value.oneCell'])
  have HR : Hid (w5.heap[w.heap.size + 1]? = some (.cells #[.int .i64 0, .int .i64 0, .int .i64 0, .int .i64 0, .int .i64 0, .int .i64 0, .int .i64 0, .int .i64 0, .int .i64 0] 192 (0, 0))) := h2
  have HBB : Hid (Below w.heap.size w (w5.setRow (w.heap.size + 1) #[.int .i64 x0, .int .i64 x1, .int .i64 x2, .int .i64 x3, .int .i64 x4, .int .i64 x5, .int .i64 x6, .int .i64 x7, .int .i64 x8])) := below_setRow bl (by omega) _
  clear h2 h3 bl h1 HS HCp
  go_wp2_with (first | (refine wpL_store rfl 192 _ _ rfl _ _ rfl _ rfl _ HS5.out ?_) | exact ret_row rfl rfl (row_set HR.out _) Tryz.underlying192 rfl info_args rfl ⟨rfl, HBB.out⟩ | fail)

/-- The operand of a place; nothing where there is none. -/
def ag (xs : List Arg) (i : Nat) : Arg := xs.getD i (0, 0, 0)
/-- Three operands. -/
def nineV (x y z : Arg) : Array Value := #[.int .i64 x.1, .int .i64 x.2.1, .int .i64 x.2.2, .int .i64 y.1, .int .i64 y.2.1, .int .i64 y.2.2, .int .i64 z.1, .int .i64 z.2.1, .int .i64 z.2.2]
theorem copy_none (W : World) (g cap : Nat) (hg : W.heap[g]? = some (.cells #[.int .i64 0, .int .i64 0, .int .i64 0, .int .i64 0, .int .i64 0, .int .i64 0, .int .i64 0, .int .i64 0, .int .i64 0] 243 (0, 0))) : (Builtin.copy_ #[62, 62] 3 #[.slice (some ⟨g, 0, none⟩) 3 3, .slice none 0 cap]).run Tryz.prog W = .ok (.int .i64 0) (W.setRow g #[.int .i64 0, .int .i64 0, .int .i64 0, .int .i64 0, .int .i64 0, .int .i64 0, .int .i64 0, .int .i64 0, .int .i64 0]) := by
  rw [setRow_self W g _ _ _ hg]
  have hs : (Tryz.prog.info? 78).map (·.size) = some 3 := by kernel_rfl
  cases hq : Tryz.prog.info? 78 with
  | none => simp [hq] at hs
  | some i =>
    have hst : ∀ (a : Addr), (storeCells a []).run Tryz.prog W = .ok () W := fun a => by simp [storeCells]
    simp [Builtin.copy_, run_underlying Tryz.underlying62, Builtin.lenOf, Builtin.firstCells, sizeOf, typeInfo, hq, hst, goInt]
theorem copy_some (W : World) (g b o' cap len : Nat) (xs : List Arg) (hl : len = xs.length) (cs : List Value) (hn : cs.length = Nat.min len 3 * 3) (hcs : ∀ j v, cs[j]? = some v → W.cell? ⟨b, o' + j, none⟩ = some v) (h1 : ∀ v ∈ cs, v.oneCell' = true) (hg : W.heap[g]? = some (.cells #[.int .i64 0, .int .i64 0, .int .i64 0, .int .i64 0, .int .i64 0, .int .i64 0, .int .i64 0, .int .i64 0, .int .i64 0] 243 (0, 0))) (D : Array Value) (hD : (cs ++ (#[.int .i64 0, .int .i64 0, .int .i64 0, .int .i64 0, .int .i64 0, .int .i64 0, .int .i64 0, .int .i64 0, .int .i64 0] : Array Value).toList.drop cs.length).toArray = D) :
    (Builtin.copy_ #[62, 62] 3 #[.slice (some ⟨g, 0, none⟩) 3 3, .slice (some ⟨b, o', none⟩) len cap]).run Tryz.prog W = .ok (.int .i64 (Nat.min len 3 : Nat)) (W.setRow g D) := by
  have h := run_copy_wide (P := Tryz.prog) W 62 62 3 78 3 g 0 3 3 ⟨b, o', none⟩ len cap #[.int .i64 0, .int .i64 0, .int .i64 0, .int .i64 0, .int .i64 0, .int .i64 0, .int .i64 0, .int .i64 0, .int .i64 0] 243 cs Tryz.underlying62 (by kernel_rfl) hg hn (fun j v hv => by rw [Addr.add_lit]; exact hcs j v hv) (by rw [hn]; have : Nat.min len 3 ≤ 3 := Nat.min_le_right _ _; show 0 + _ ≤ 9; omega) h1
  rw [h]
  have e : ((#[.int .i64 0, .int .i64 0, .int .i64 0, .int .i64 0, .int .i64 0, .int .i64 0, .int .i64 0, .int .i64 0, .int .i64 0] : Array Value).toList.take 0 ++ cs ++ (#[.int .i64 0, .int .i64 0, .int .i64 0, .int .i64 0, .int .i64 0, .int .i64 0, .int .i64 0, .int .i64 0, .int .i64 0] : Array Value).toList.drop (0 + cs.length)).toArray = D := by rw [← hD]; simp
  rw [e]
  rfl
theorem one_ints (l : List Int) : ∀ v ∈ l.map (Value.int .i64), v.oneCell' = true := fun v hv => by
  obtain ⟨x, _, rfl⟩ := List.mem_map.1 hv
  rfl

theorem aargs_of (op : Int) (a : Option Addr) (len cap : Nat) (xs : List Arg) (w : World) (hl : len = xs.length) (h4 : len ≤ 9) (hx : Sl w a xs) :
    Calls Tryz.prog 137 #[.agg #[.int .i64 op, .slice a len cap]] w fun e w' => e = .returned (.agg (nineV (ag xs 0) (ag xs 1) (ag xs 2))) ∧ Below w.heap.size w w' := by
  rcases hx with rfl | ⟨b, o', rfl, hx⟩
  · subst hl
    cases a with
    | none => exact args_run op 0 none 0 cap 0 0 0 0 0 0 0 0 0 w (fun W g _ hg => copy_none W g cap hg)
    | some p =>
      refine args_run op 0 (some p) 0 cap 0 0 0 0 0 0 0 0 0 w (fun W g _ hg => ?_)
      have h := run_copy_wide (P := Tryz.prog) W 62 62 3 78 3 g 0 3 3 p 0 cap #[.int .i64 0, .int .i64 0, .int .i64 0, .int .i64 0, .int .i64 0, .int .i64 0, .int .i64 0, .int .i64 0, .int .i64 0] 243 [] Tryz.underlying62 (by kernel_rfl) hg rfl (fun j v hv => by simp at hv) (by simp) (by simp)
      rw [h]; rfl
  match xs, hl, hx with
  | [], hl, hx =>
    subst hl
    refine args_run op 0 _ 0 cap 0 0 0 0 0 0 0 0 0 w (fun W g _ hg => ?_)
    exact copy_some W g b o' cap 0 [] rfl [] rfl (fun j v hv => by simp at hv) (by simp) hg _ rfl
  | [x], hl, hx =>
    subst hl
    refine args_run op 1 _ 1 cap x.1 x.2.1 x.2.2 0 0 0 0 0 0 w (fun W g hW hg => ?_)
    have hk := hx.later hW
    refine copy_some W g b o' cap 1 [x] rfl ([x.1, x.2.1, x.2.2].map (Value.int .i64)) rfl (fun j v hv => ?_) (one_ints _) hg _ rfl
    match j, hv with
    | 0, hv => obtain rfl := Option.some.inj hv; exact (hk 0 x rfl).1
    | 1, hv => obtain rfl := Option.some.inj hv; exact (hk 0 x rfl).2.1
    | 2, hv => obtain rfl := Option.some.inj hv; exact (hk 0 x rfl).2.2
  | [x, y], hl, hx =>
    subst hl
    refine args_run op 2 _ 2 cap x.1 x.2.1 x.2.2 y.1 y.2.1 y.2.2 0 0 0 w (fun W g hW hg => ?_)
    have hk := hx.later hW
    refine copy_some W g b o' cap 2 [x, y] rfl ([x.1, x.2.1, x.2.2, y.1, y.2.1, y.2.2].map (Value.int .i64)) rfl (fun j v hv => ?_) (one_ints _) hg _ rfl
    match j, hv with
    | 0, hv => obtain rfl := Option.some.inj hv; exact (hk 0 x rfl).1
    | 1, hv => obtain rfl := Option.some.inj hv; exact (hk 0 x rfl).2.1
    | 2, hv => obtain rfl := Option.some.inj hv; exact (hk 0 x rfl).2.2
    | 3, hv => obtain rfl := Option.some.inj hv; exact (hk 1 y rfl).1
    | 4, hv => obtain rfl := Option.some.inj hv; exact (hk 1 y rfl).2.1
    | 5, hv => obtain rfl := Option.some.inj hv; exact (hk 1 y rfl).2.2
  | x :: y :: z :: r, hl, hx =>
    have hm : Nat.min len 3 = 3 := by rw [hl]; simp only [List.length_cons]; exact Nat.min_eq_right (by omega)
    refine args_run op 3 _ len cap x.1 x.2.1 x.2.2 y.1 y.2.1 y.2.2 z.1 z.2.1 z.2.2 w (fun W g hW hg => ?_)
    have hk := hx.later hW
    have h := copy_some W g b o' cap len (x :: y :: z :: r) hl ([x.1, x.2.1, x.2.2, y.1, y.2.1, y.2.2, z.1, z.2.1, z.2.2].map (Value.int .i64)) (by rw [hm]; rfl) (fun j v hv => ?_) (one_ints _) hg _ rfl
    · rw [hm] at h; exact h
    match j, hv with
    | 0, hv => obtain rfl := Option.some.inj hv; exact (hk 0 x rfl).1
    | 1, hv => obtain rfl := Option.some.inj hv; exact (hk 0 x rfl).2.1
    | 2, hv => obtain rfl := Option.some.inj hv; exact (hk 0 x rfl).2.2
    | 3, hv => obtain rfl := Option.some.inj hv; exact (hk 1 y rfl).1
    | 4, hv => obtain rfl := Option.some.inj hv; exact (hk 1 y rfl).2.1
    | 5, hv => obtain rfl := Option.some.inj hv; exact (hk 1 y rfl).2.2
    | 6, hv => obtain rfl := Option.some.inj hv; exact (hk 2 z rfl).1
    | 7, hv => obtain rfl := Option.some.inj hv; exact (hk 2 z rfl).2.1
    | 8, hv => obtain rfl := Option.some.inj hv; exact (hk 2 z rfl).2.2


set_option maxRecDepth 10000 in
set_option maxHeartbeats 2000000 in
theorem test_run (op : Int) (a : Option Addr) (len cap : Nat) (T : TypeId) (u u' : Value) (f : FuncId) (c C : Array Value) (hc : MemOk c) (hC : MemOk C) (v : Bool) (w : World)
    (HO : Hid (∀ W, Below w.heap.size w W → Calls Tryz.prog 82 #[.agg #[.int .i64 op, .slice a len cap]] W fun e w' => e = .returned (.iface T u) ∧ Below W.heap.size W w'))
    (HMt : Hid (∀ W, (method 449 T u "loop.example/stile/impl.test").run Tryz.prog W = .ok (f, u') W))
    (HE : Hid (∀ args W, (callFunc f args).run Tryz.prog W = .ok (.enter f args) W))
    (HP : Hid (∀ W, Below w.heap.size w W → Calls Tryz.prog f #[u', .agg c] W fun e w' => e = .returned (.tuple #[.agg C, .bool v]) ∧ Below W.heap.size W w')) :
    Calls Tryz.prog 34 #[.agg c, .agg #[.int .i64 op, .slice a len cap]] w fun e w' => e = .returned (.tuple #[.agg C, .bool v]) ∧ Below w.heap.size w w' := by
  have HC : Hid (MemOk c) := hc
  have HCM : Hid (MemOk C) := hC
  have hz := zero_mem.1
  obtain ⟨Z, HZ⟩ : ∃ Z, Hid (Z = memZero) := ⟨_, rfl⟩
  rw [← HZ.out] at hz
  have HZs : Hid (Z.size = 136) := (by rw [HZ.out, memZero_size] : Z.size = 136)
  have HI : Hid ((Tryz.prog.info? 39).map (·.size) = some c.size) := by rw [HC.out.size]; exact zero_mem.2
  have HIC : Hid ((Tryz.prog.info? 39).map (·.size) = some C.size) := by rw [HCM.out.size]; exact zero_mem.2
  clear hc hC
  go_enter Tryz.func34, Tryz.ntmps34
  go_upto_region 1 with fail
  have r := rows3 w (.cells c 39) (.cells #[.int .i64 op, .slice a len cap] 64) (.cells Z 39)
  have bl : Below w.heap.size w (((w.alloc (.cells c 39)).alloc (.cells #[.int .i64 op, .slice a len cap] 64)).alloc (.cells Z 39)) := (((Below.refl _ _).alloc (Nat.le_refl _) _).alloc (by simp) _).alloc (by simp <;> omega) _
  obtain ⟨h1, h2, h3⟩ := r
  generalize (((w.alloc (.cells c 39)).alloc (.cells #[.int .i64 op, .slice a len cap] 64)).alloc (.cells Z 39)) = w0 at h1 h2 h3 bl ⊢
  obtain ⟨S, HS⟩ : ∃ S : World → Prop, Hid (∀ W, S W ↔ (W.heap[w.heap.size]? = some (.cells c 39 (0, 0)) ∧ W.heap[w.heap.size + 1]? = some (.cells #[.int .i64 op, .slice a len cap] 64 (0, 0)) ∧ (∃ D : Array Value, D.size = 136 ∧ W.heap[w.heap.size + 1 + 1]? = some (.cells D 39 (0, 0))) ∧ Below w.heap.size w W)) := ⟨_, fun W => Iff.rfl⟩
  have hSc : Hid (∀ W W', S W → Below W.heap.size W W' → S W') := fun W W' h g => by
    obtain ⟨q1, q2, ⟨D, hD, q3⟩, q5⟩ := (HS.out W).1 h
    have l3 := (Array.getElem?_eq_some_iff.1 q3).1
    exact (HS.out W').2 ⟨(g.block _ (by omega)).trans q1, (g.block _ (by omega)).trans q2, ⟨D, hD, (g.block _ (by omega)).trans q3⟩, q5.trans (g.mono q5.size)⟩
  refine region_cut (R := fun a' W => W.heap[w.heap.size + 1 + 1]? = some (.cells C 39 (0, 0)) ∧ Below w.heap.size w W ∧ a' = ⟨#[.agg c, .agg #[.int .i64 op, .slice a len cap], .pointer (some ⟨w.heap.size, 0, none⟩), .pointer (some ⟨w.heap.size + 1, 0, none⟩), .pointer (some ⟨w.heap.size + 1 + 1, 0, none⟩), .bool v, .agg #[.int .i64 op, .slice a len cap], .iface T u, .agg c, .tuple #[.agg C, .bool v], .agg C, .bool v], []⟩) ?_ ?_
  · have S0 : S w0.drew := (HS.out _).2 ⟨h1, h2, ⟨Z, HZs.out, h3⟩, bl.drew⟩
    refine wp_region_held_drew (S := S) (by kernel_rfl) S0 (fun S0 => ?_)
    show wpAnyH _ _ _ _ _ 8 #[false, false, false, false, false, false, false, false] _ _
    refine tk_load' (i := 0) rfl (by kernel_rfl) (by kernel_rfl) (by kernel_rfl) (fun _ _ _ _ h => nomatch h.1) rfl 64 _ rfl _ _ rfl (.agg #[.int .i64 op, .slice a len cap]) (fun W hW => load_all ((HS.out W).1 hW).2.1 _ _ Tryz.underlying64 rfl info_elem) S0 #[true, false, false, false, false, false, false, false] rfl ⟨#[.agg c, .agg #[.int .i64 op, .slice a len cap], .pointer (some ⟨w.heap.size, 0, none⟩), .pointer (some ⟨w.heap.size + 1, 0, none⟩), .pointer (some ⟨w.heap.size + 1 + 1, 0, none⟩), .bool false, .agg #[.int .i64 op, .slice a len cap], undef, undef, undef, undef, undef], []⟩ rfl ?_
    refine tk_load' (i := 2) rfl (by kernel_rfl) (by kernel_rfl) (by kernel_rfl) (fun _ _ _ _ h => nomatch h.1) rfl 39 _ rfl _ _ rfl (.agg c) (fun W hW => load_all ((HS.out W).1 hW).1 _ _ Tryz.underlying39 rfl HI.out) S0 #[true, false, true, false, false, false, false, false] rfl ⟨#[.agg c, .agg #[.int .i64 op, .slice a len cap], .pointer (some ⟨w.heap.size, 0, none⟩), .pointer (some ⟨w.heap.size + 1, 0, none⟩), .pointer (some ⟨w.heap.size + 1 + 1, 0, none⟩), .bool false, .agg #[.int .i64 op, .slice a len cap], undef, .agg c, undef, undef, undef], []⟩ rfl ?_
    refine wpAnyH_all (rs := [1]) (by kernel_rfl) (by simp) (fun i hi => ?_)
    obtain rfl := List.mem_singleton.1 hi
    refine up_fcall' rfl rfl Tryz.func82 (by kernel_rfl) (by kernel_rfl) rfl [.agg #[.int .i64 op, .slice a len cap]] rfl #[true, true, true, false, false, false, false, false] rfl (.iface T u) ⟨#[.agg c, .agg #[.int .i64 op, .slice a len cap], .pointer (some ⟨w.heap.size, 0, none⟩), .pointer (some ⟨w.heap.size + 1, 0, none⟩), .pointer (some ⟨w.heap.size + 1 + 1, 0, none⟩), .bool false, .agg #[.int .i64 op, .slice a len cap], .iface T u, .agg c, undef, undef, undef], []⟩ rfl _ (HO.out _ ((HS.out _).1 S0).2.2.2) ?_
    intro w1 gw1
    have Sw1 := hSc.out _ _ S0 gw1
    refine ⟨Sw1, ?_⟩
    refine wpAnyH_all (rs := [3]) (by kernel_rfl) (by simp) (fun i hi => ?_)
    obtain rfl := List.mem_singleton.1 hi
    refine up_inv' rfl rfl f #[u', .agg c] (by have hmeth := HMt.out; go_simp; exact HE.out _ _) #[true, true, true, true, false, false, false, false] rfl (.tuple #[.agg C, .bool v]) ⟨#[.agg c, .agg #[.int .i64 op, .slice a len cap], .pointer (some ⟨w.heap.size, 0, none⟩), .pointer (some ⟨w.heap.size + 1, 0, none⟩), .pointer (some ⟨w.heap.size + 1 + 1, 0, none⟩), .bool false, .agg #[.int .i64 op, .slice a len cap], .iface T u, .agg c, .tuple #[.agg C, .bool v], undef, undef], []⟩ rfl _ (HP.out _ ((HS.out _).1 Sw1).2.2.2) ?_
    intro w2 gw2
    have Sw2 := hSc.out _ _ Sw1 gw2
    refine ⟨Sw2, ?_⟩
    refine tk_val' (i := 4) rfl (by kernel_rfl) (by kernel_rfl) (by kernel_rfl) (fun _ _ _ _ h => nomatch h.1) rfl (.agg C) (fun W _ => by go_simp) Sw2 #[true, true, true, true, true, false, false, false] rfl ⟨#[.agg c, .agg #[.int .i64 op, .slice a len cap], .pointer (some ⟨w.heap.size, 0, none⟩), .pointer (some ⟨w.heap.size + 1, 0, none⟩), .pointer (some ⟨w.heap.size + 1 + 1, 0, none⟩), .bool false, .agg #[.int .i64 op, .slice a len cap], .iface T u, .agg c, .tuple #[.agg C, .bool v], .agg C, undef], []⟩ rfl ?_
    refine tk_val' (i := 5) rfl (by kernel_rfl) (by kernel_rfl) (by kernel_rfl) (fun _ _ _ _ h => nomatch h.1) rfl (.bool v) (fun W _ => by go_simp) Sw2 #[true, true, true, true, true, true, false, false] rfl ⟨#[.agg c, .agg #[.int .i64 op, .slice a len cap], .pointer (some ⟨w.heap.size, 0, none⟩), .pointer (some ⟨w.heap.size + 1, 0, none⟩), .pointer (some ⟨w.heap.size + 1 + 1, 0, none⟩), .bool false, .agg #[.int .i64 op, .slice a len cap], .iface T u, .agg c, .tuple #[.agg C, .bool v], .agg C, .bool v], []⟩ rfl ?_
    refine wpAnyH_all (rs := [6]) (by kernel_rfl) (by simp) (fun i hi => ?_)
    obtain rfl := List.mem_singleton.1 hi
    obtain ⟨p1, p2, ⟨D, hD, p3⟩, p5⟩ := (HS.out _).1 Sw2
    have S5 : S (w2.setRow (w.heap.size + 1 + 1) C) := (HS.out _).2 ⟨row_beside p1 _ (by omega) _, row_beside p2 _ (by omega) _, ⟨C, HCM.out.size, row_set p3 _⟩, below_setRow p5 (by omega) _⟩
    refine up_store' rfl rfl 39 _ _ rfl _ _ rfl _ rfl _ (store_all p3 _ _ (hD.trans HCM.out.size.symm) HIC.out HCM.out.one) S5 #[true, true, true, true, true, true, true, false] rfl ⟨#[.agg c, .agg #[.int .i64 op, .slice a len cap], .pointer (some ⟨w.heap.size, 0, none⟩), .pointer (some ⟨w.heap.size + 1, 0, none⟩), .pointer (some ⟨w.heap.size + 1 + 1, 0, none⟩), .bool false, .agg #[.int .i64 op, .slice a len cap], .iface T u, .agg c, .tuple #[.agg C, .bool v], .agg C, .bool v], []⟩ rfl ?_
    refine tk_val' (i := 7) rfl (by kernel_rfl) (by kernel_rfl) (by kernel_rfl) (fun _ _ _ _ h => nomatch h.1) rfl (.bool v) (fun W _ => by go_simp) S5 #[true, true, true, true, true, true, true, true] rfl ⟨#[.agg c, .agg #[.int .i64 op, .slice a len cap], .pointer (some ⟨w.heap.size, 0, none⟩), .pointer (some ⟨w.heap.size + 1, 0, none⟩), .pointer (some ⟨w.heap.size + 1 + 1, 0, none⟩), .bool v, .agg #[.int .i64 op, .slice a len cap], .iface T u, .agg c, .tuple #[.agg C, .bool v], .agg C, .bool v], []⟩ rfl ?_
    exact wpAnyH_done (by kernel_rfl) ⟨rfl, row_set p3 _, below_setRow p5 (by omega) _, rfl⟩ _
  clear h1 h2 h3 bl HS hSc
  rintro _ w5 ⟨k5, b5, rfl⟩
  have HL : Hid ((loadVar 39 ⟨w.heap.size + 1 + 1, 0, none⟩).run Tryz.prog w5 = .ok (.agg C) w5) := load_all k5 _ _ Tryz.underlying39 rfl HIC.out
  have HB : Hid (Below w.heap.size w w5) := b5
  clear k5 b5 hz
  go_wp2_with (first | exact ret_rowV rfl rfl rfl HL.out rfl ⟨rfl, HB.out⟩ | fail)

end Go.Proofs.YtlgacbjopobeoaaGreatDoor
/- The sort of a contact or coil; its test. -/
namespace Go.Proofs.YtlgacbjopobeoaaGreatDoor
open Go.RowKit
set_option linter.unusedVariables false


set_option maxRecDepth 10000 in
set_option maxHeartbeats 1000000 in
theorem sort_1 (a : Option Addr) (len cap : Nat) (x0 x1 x2 x3 x4 x5 x6 x7 x8 : Int) (w : World) (HA : Hid (∀ W, Below w.heap.size w W → Calls Tryz.prog 137 #[.agg #[.int .i64 1, .slice a len cap]] W fun e w' => e = .returned (.agg #[.int .i64 x0, .int .i64 x1, .int .i64 x2, .int .i64 x3, .int .i64 x4, .int .i64 x5, .int .i64 x6, .int .i64 x7, .int .i64 x8]) ∧ Below W.heap.size W w')) :
    Calls Tryz.prog 82 #[.agg #[.int .i64 1, .slice a len cap]] w fun e w' => e = .returned (.iface 195 (.agg #[.int .i64 x0, .int .i64 x1, .int .i64 x2, .int .i64 x3, .int .i64 x4, .int .i64 x5, .int .i64 x6, .int .i64 x7, .int .i64 x8, .bool true])) ∧ Below w.heap.size w w' := by
  go_enter Tryz.func82, Tryz.ntmps82
  go_wp2_with fail
  refine (HA.out _ ((Below.refl _ _).alloc (Nat.le_refl _) _)).mono ?_
  rintro e w1 ⟨rfl, g1⟩
  have b1 : Below w.heap.size w w1 := ((Below.refl _ _).alloc (Nat.le_refl _) _).trans (g1.mono (by simp))
  have y0 : w1.cell? ⟨w.heap.size, 0, none⟩ = some (.int .i64 1) := by rw [g1.cell (by simp)]; exact (cell_of_row _ _ _ _ _ _ (heap_alloc_last w _)).trans rfl
  have l1 : w.heap.size < w1.heap.size := by have := g1.size; simp at this; omega
  have n1 : w.heap.size ≠ w1.heap.size := by omega
  clear g1
  go_wp2
  go_ret
  exact ⟨rfl, b1.alloc b1.size _⟩


set_option maxRecDepth 10000 in
set_option maxHeartbeats 1000000 in
theorem sort_2 (a : Option Addr) (len cap : Nat) (x0 x1 x2 x3 x4 x5 x6 x7 x8 : Int) (w : World) (HA : Hid (∀ W, Below w.heap.size w W → Calls Tryz.prog 137 #[.agg #[.int .i64 2, .slice a len cap]] W fun e w' => e = .returned (.agg #[.int .i64 x0, .int .i64 x1, .int .i64 x2, .int .i64 x3, .int .i64 x4, .int .i64 x5, .int .i64 x6, .int .i64 x7, .int .i64 x8]) ∧ Below W.heap.size W w')) :
    Calls Tryz.prog 82 #[.agg #[.int .i64 2, .slice a len cap]] w fun e w' => e = .returned (.iface 195 (.agg #[.int .i64 x0, .int .i64 x1, .int .i64 x2, .int .i64 x3, .int .i64 x4, .int .i64 x5, .int .i64 x6, .int .i64 x7, .int .i64 x8, .bool false])) ∧ Below w.heap.size w w' := by
  go_enter Tryz.func82, Tryz.ntmps82
  go_wp2_with fail
  refine (HA.out _ ((Below.refl _ _).alloc (Nat.le_refl _) _)).mono ?_
  rintro e w1 ⟨rfl, g1⟩
  have b1 : Below w.heap.size w w1 := ((Below.refl _ _).alloc (Nat.le_refl _) _).trans (g1.mono (by simp))
  have y0 : w1.cell? ⟨w.heap.size, 0, none⟩ = some (.int .i64 2) := by rw [g1.cell (by simp)]; exact (cell_of_row _ _ _ _ _ _ (heap_alloc_last w _)).trans rfl
  have l1 : w.heap.size < w1.heap.size := by have := g1.size; simp at this; omega
  have n1 : w.heap.size ≠ w1.heap.size := by omega
  clear g1
  go_wp2
  go_ret
  exact ⟨rfl, b1.alloc b1.size _⟩


set_option maxRecDepth 10000 in
set_option maxHeartbeats 1000000 in
theorem sort_3 (a : Option Addr) (len cap : Nat) (x0 x1 x2 x3 x4 x5 x6 x7 x8 : Int) (w : World) (HA : Hid (∀ W, Below w.heap.size w W → Calls Tryz.prog 137 #[.agg #[.int .i64 3, .slice a len cap]] W fun e w' => e = .returned (.agg #[.int .i64 x0, .int .i64 x1, .int .i64 x2, .int .i64 x3, .int .i64 x4, .int .i64 x5, .int .i64 x6, .int .i64 x7, .int .i64 x8]) ∧ Below W.heap.size W w')) :
    Calls Tryz.prog 82 #[.agg #[.int .i64 3, .slice a len cap]] w fun e w' => e = .returned (.iface 196 (.agg #[.int .i64 x0, .int .i64 x1, .int .i64 x2, .int .i64 x3, .int .i64 x4, .int .i64 x5, .int .i64 x6, .int .i64 x7, .int .i64 x8, .bool true])) ∧ Below w.heap.size w w' := by
  go_enter Tryz.func82, Tryz.ntmps82
  go_wp2_with fail
  refine (HA.out _ ((Below.refl _ _).alloc (Nat.le_refl _) _)).mono ?_
  rintro e w1 ⟨rfl, g1⟩
  have b1 : Below w.heap.size w w1 := ((Below.refl _ _).alloc (Nat.le_refl _) _).trans (g1.mono (by simp))
  have y0 : w1.cell? ⟨w.heap.size, 0, none⟩ = some (.int .i64 3) := by rw [g1.cell (by simp)]; exact (cell_of_row _ _ _ _ _ _ (heap_alloc_last w _)).trans rfl
  have l1 : w.heap.size < w1.heap.size := by have := g1.size; simp at this; omega
  have n1 : w.heap.size ≠ w1.heap.size := by omega
  clear g1
  go_wp2
  go_ret
  exact ⟨rfl, b1.alloc b1.size _⟩


set_option maxRecDepth 10000 in
set_option maxHeartbeats 1000000 in
theorem sort_4 (a : Option Addr) (len cap : Nat) (x0 x1 x2 x3 x4 x5 x6 x7 x8 : Int) (w : World) (HA : Hid (∀ W, Below w.heap.size w W → Calls Tryz.prog 137 #[.agg #[.int .i64 4, .slice a len cap]] W fun e w' => e = .returned (.agg #[.int .i64 x0, .int .i64 x1, .int .i64 x2, .int .i64 x3, .int .i64 x4, .int .i64 x5, .int .i64 x6, .int .i64 x7, .int .i64 x8]) ∧ Below W.heap.size W w')) :
    Calls Tryz.prog 82 #[.agg #[.int .i64 4, .slice a len cap]] w fun e w' => e = .returned (.iface 196 (.agg #[.int .i64 x0, .int .i64 x1, .int .i64 x2, .int .i64 x3, .int .i64 x4, .int .i64 x5, .int .i64 x6, .int .i64 x7, .int .i64 x8, .bool false])) ∧ Below w.heap.size w w' := by
  go_enter Tryz.func82, Tryz.ntmps82
  go_wp2_with fail
  refine (HA.out _ ((Below.refl _ _).alloc (Nat.le_refl _) _)).mono ?_
  rintro e w1 ⟨rfl, g1⟩
  have b1 : Below w.heap.size w w1 := ((Below.refl _ _).alloc (Nat.le_refl _) _).trans (g1.mono (by simp))
  have y0 : w1.cell? ⟨w.heap.size, 0, none⟩ = some (.int .i64 4) := by rw [g1.cell (by simp)]; exact (cell_of_row _ _ _ _ _ _ (heap_alloc_last w _)).trans rfl
  have l1 : w.heap.size < w1.heap.size := by have := g1.size; simp at this; omega
  have n1 : w.heap.size ≠ w1.heap.size := by omega
  clear g1
  go_wp2
  go_ret
  exact ⟨rfl, b1.alloc b1.size _⟩


set_option maxRecDepth 10000 in
set_option maxHeartbeats 1000000 in
theorem sort_5 (a : Option Addr) (len cap : Nat) (x0 x1 x2 x3 x4 x5 x6 x7 x8 : Int) (w : World) (HA : Hid (∀ W, Below w.heap.size w W → Calls Tryz.prog 137 #[.agg #[.int .i64 5, .slice a len cap]] W fun e w' => e = .returned (.agg #[.int .i64 x0, .int .i64 x1, .int .i64 x2, .int .i64 x3, .int .i64 x4, .int .i64 x5, .int .i64 x6, .int .i64 x7, .int .i64 x8]) ∧ Below W.heap.size W w')) :
    Calls Tryz.prog 82 #[.agg #[.int .i64 5, .slice a len cap]] w fun e w' => e = .returned (.iface 198 (.agg #[.int .i64 x0, .int .i64 x1, .int .i64 x2, .int .i64 x3, .int .i64 x4, .int .i64 x5, .int .i64 x6, .int .i64 x7, .int .i64 x8, .int .i64 1])) ∧ Below w.heap.size w w' := by
  go_enter Tryz.func82, Tryz.ntmps82
  go_wp2_with fail
  refine (HA.out _ ((Below.refl _ _).alloc (Nat.le_refl _) _)).mono ?_
  rintro e w1 ⟨rfl, g1⟩
  have b1 : Below w.heap.size w w1 := ((Below.refl _ _).alloc (Nat.le_refl _) _).trans (g1.mono (by simp))
  have y0 : w1.cell? ⟨w.heap.size, 0, none⟩ = some (.int .i64 5) := by rw [g1.cell (by simp)]; exact (cell_of_row _ _ _ _ _ _ (heap_alloc_last w _)).trans rfl
  have l1 : w.heap.size < w1.heap.size := by have := g1.size; simp at this; omega
  have n1 : w.heap.size ≠ w1.heap.size := by omega
  clear g1
  go_wp2
  go_ret
  exact ⟨rfl, b1.alloc b1.size _⟩


set_option maxRecDepth 10000 in
set_option maxHeartbeats 1000000 in
theorem sort_6 (a : Option Addr) (len cap : Nat) (x0 x1 x2 x3 x4 x5 x6 x7 x8 : Int) (w : World) (HA : Hid (∀ W, Below w.heap.size w W → Calls Tryz.prog 137 #[.agg #[.int .i64 6, .slice a len cap]] W fun e w' => e = .returned (.agg #[.int .i64 x0, .int .i64 x1, .int .i64 x2, .int .i64 x3, .int .i64 x4, .int .i64 x5, .int .i64 x6, .int .i64 x7, .int .i64 x8]) ∧ Below W.heap.size W w')) :
    Calls Tryz.prog 82 #[.agg #[.int .i64 6, .slice a len cap]] w fun e w' => e = .returned (.iface 198 (.agg #[.int .i64 x0, .int .i64 x1, .int .i64 x2, .int .i64 x3, .int .i64 x4, .int .i64 x5, .int .i64 x6, .int .i64 x7, .int .i64 x8, .int .i64 2])) ∧ Below w.heap.size w w' := by
  go_enter Tryz.func82, Tryz.ntmps82
  go_wp2_with fail
  refine (HA.out _ ((Below.refl _ _).alloc (Nat.le_refl _) _)).mono ?_
  rintro e w1 ⟨rfl, g1⟩
  have b1 : Below w.heap.size w w1 := ((Below.refl _ _).alloc (Nat.le_refl _) _).trans (g1.mono (by simp))
  have y0 : w1.cell? ⟨w.heap.size, 0, none⟩ = some (.int .i64 6) := by rw [g1.cell (by simp)]; exact (cell_of_row _ _ _ _ _ _ (heap_alloc_last w _)).trans rfl
  have l1 : w.heap.size < w1.heap.size := by have := g1.size; simp at this; omega
  have n1 : w.heap.size ≠ w1.heap.size := by omega
  clear g1
  go_wp2
  go_ret
  exact ⟨rfl, b1.alloc b1.size _⟩


set_option maxRecDepth 10000 in
set_option maxHeartbeats 1000000 in
theorem sort_7 (a : Option Addr) (len cap : Nat) (x0 x1 x2 x3 x4 x5 x6 x7 x8 : Int) (w : World) (HA : Hid (∀ W, Below w.heap.size w W → Calls Tryz.prog 137 #[.agg #[.int .i64 7, .slice a len cap]] W fun e w' => e = .returned (.agg #[.int .i64 x0, .int .i64 x1, .int .i64 x2, .int .i64 x3, .int .i64 x4, .int .i64 x5, .int .i64 x6, .int .i64 x7, .int .i64 x8]) ∧ Below W.heap.size W w')) :
    Calls Tryz.prog 82 #[.agg #[.int .i64 7, .slice a len cap]] w fun e w' => e = .returned (.iface 198 (.agg #[.int .i64 x0, .int .i64 x1, .int .i64 x2, .int .i64 x3, .int .i64 x4, .int .i64 x5, .int .i64 x6, .int .i64 x7, .int .i64 x8, .int .i64 3])) ∧ Below w.heap.size w w' := by
  go_enter Tryz.func82, Tryz.ntmps82
  go_wp2_with fail
  refine (HA.out _ ((Below.refl _ _).alloc (Nat.le_refl _) _)).mono ?_
  rintro e w1 ⟨rfl, g1⟩
  have b1 : Below w.heap.size w w1 := ((Below.refl _ _).alloc (Nat.le_refl _) _).trans (g1.mono (by simp))
  have y0 : w1.cell? ⟨w.heap.size, 0, none⟩ = some (.int .i64 7) := by rw [g1.cell (by simp)]; exact (cell_of_row _ _ _ _ _ _ (heap_alloc_last w _)).trans rfl
  have l1 : w.heap.size < w1.heap.size := by have := g1.size; simp at this; omega
  have n1 : w.heap.size ≠ w1.heap.size := by omega
  clear g1
  go_wp2
  go_ret
  exact ⟨rfl, b1.alloc b1.size _⟩


set_option maxRecDepth 10000 in
set_option maxHeartbeats 1000000 in
theorem sort_8 (a : Option Addr) (len cap : Nat) (x0 x1 x2 x3 x4 x5 x6 x7 x8 : Int) (w : World) (HA : Hid (∀ W, Below w.heap.size w W → Calls Tryz.prog 137 #[.agg #[.int .i64 8, .slice a len cap]] W fun e w' => e = .returned (.agg #[.int .i64 x0, .int .i64 x1, .int .i64 x2, .int .i64 x3, .int .i64 x4, .int .i64 x5, .int .i64 x6, .int .i64 x7, .int .i64 x8]) ∧ Below W.heap.size W w')) :
    Calls Tryz.prog 82 #[.agg #[.int .i64 8, .slice a len cap]] w fun e w' => e = .returned (.iface 198 (.agg #[.int .i64 x0, .int .i64 x1, .int .i64 x2, .int .i64 x3, .int .i64 x4, .int .i64 x5, .int .i64 x6, .int .i64 x7, .int .i64 x8, .int .i64 4])) ∧ Below w.heap.size w w' := by
  go_enter Tryz.func82, Tryz.ntmps82
  go_wp2_with fail
  refine (HA.out _ ((Below.refl _ _).alloc (Nat.le_refl _) _)).mono ?_
  rintro e w1 ⟨rfl, g1⟩
  have b1 : Below w.heap.size w w1 := ((Below.refl _ _).alloc (Nat.le_refl _) _).trans (g1.mono (by simp))
  have y0 : w1.cell? ⟨w.heap.size, 0, none⟩ = some (.int .i64 8) := by rw [g1.cell (by simp)]; exact (cell_of_row _ _ _ _ _ _ (heap_alloc_last w _)).trans rfl
  have l1 : w.heap.size < w1.heap.size := by have := g1.size; simp at this; omega
  have n1 : w.heap.size ≠ w1.heap.size := by omega
  clear g1
  go_wp2
  go_ret
  exact ⟨rfl, b1.alloc b1.size _⟩


set_option maxRecDepth 10000 in
set_option maxHeartbeats 1000000 in
theorem sort_9 (a : Option Addr) (len cap : Nat) (x0 x1 x2 x3 x4 x5 x6 x7 x8 : Int) (w : World) (HA : Hid (∀ W, Below w.heap.size w W → Calls Tryz.prog 137 #[.agg #[.int .i64 9, .slice a len cap]] W fun e w' => e = .returned (.agg #[.int .i64 x0, .int .i64 x1, .int .i64 x2, .int .i64 x3, .int .i64 x4, .int .i64 x5, .int .i64 x6, .int .i64 x7, .int .i64 x8]) ∧ Below W.heap.size W w')) :
    Calls Tryz.prog 82 #[.agg #[.int .i64 9, .slice a len cap]] w fun e w' => e = .returned (.iface 198 (.agg #[.int .i64 x0, .int .i64 x1, .int .i64 x2, .int .i64 x3, .int .i64 x4, .int .i64 x5, .int .i64 x6, .int .i64 x7, .int .i64 x8, .int .i64 5])) ∧ Below w.heap.size w w' := by
  go_enter Tryz.func82, Tryz.ntmps82
  go_wp2_with fail
  refine (HA.out _ ((Below.refl _ _).alloc (Nat.le_refl _) _)).mono ?_
  rintro e w1 ⟨rfl, g1⟩
  have b1 : Below w.heap.size w w1 := ((Below.refl _ _).alloc (Nat.le_refl _) _).trans (g1.mono (by simp))
  have y0 : w1.cell? ⟨w.heap.size, 0, none⟩ = some (.int .i64 9) := by rw [g1.cell (by simp)]; exact (cell_of_row _ _ _ _ _ _ (heap_alloc_last w _)).trans rfl
  have l1 : w.heap.size < w1.heap.size := by have := g1.size; simp at this; omega
  have n1 : w.heap.size ≠ w1.heap.size := by omega
  clear g1
  go_wp2
  go_ret
  exact ⟨rfl, b1.alloc b1.size _⟩


set_option maxRecDepth 10000 in
set_option maxHeartbeats 1000000 in
theorem sort_10 (a : Option Addr) (len cap : Nat) (x0 x1 x2 x3 x4 x5 x6 x7 x8 : Int) (w : World) (HA : Hid (∀ W, Below w.heap.size w W → Calls Tryz.prog 137 #[.agg #[.int .i64 10, .slice a len cap]] W fun e w' => e = .returned (.agg #[.int .i64 x0, .int .i64 x1, .int .i64 x2, .int .i64 x3, .int .i64 x4, .int .i64 x5, .int .i64 x6, .int .i64 x7, .int .i64 x8]) ∧ Below W.heap.size W w')) :
    Calls Tryz.prog 82 #[.agg #[.int .i64 10, .slice a len cap]] w fun e w' => e = .returned (.iface 198 (.agg #[.int .i64 x0, .int .i64 x1, .int .i64 x2, .int .i64 x3, .int .i64 x4, .int .i64 x5, .int .i64 x6, .int .i64 x7, .int .i64 x8, .int .i64 6])) ∧ Below w.heap.size w w' := by
  go_enter Tryz.func82, Tryz.ntmps82
  go_wp2_with fail
  refine (HA.out _ ((Below.refl _ _).alloc (Nat.le_refl _) _)).mono ?_
  rintro e w1 ⟨rfl, g1⟩
  have b1 : Below w.heap.size w w1 := ((Below.refl _ _).alloc (Nat.le_refl _) _).trans (g1.mono (by simp))
  have y0 : w1.cell? ⟨w.heap.size, 0, none⟩ = some (.int .i64 10) := by rw [g1.cell (by simp)]; exact (cell_of_row _ _ _ _ _ _ (heap_alloc_last w _)).trans rfl
  have l1 : w.heap.size < w1.heap.size := by have := g1.size; simp at this; omega
  have n1 : w.heap.size ≠ w1.heap.size := by omega
  clear g1
  go_wp2
  go_ret
  exact ⟨rfl, b1.alloc b1.size _⟩


set_option maxRecDepth 10000 in
set_option maxHeartbeats 1000000 in
theorem sort_21 (a : Option Addr) (len cap : Nat) (x0 x1 x2 x3 x4 x5 x6 x7 x8 : Int) (w : World) (HA : Hid (∀ W, Below w.heap.size w W → Calls Tryz.prog 137 #[.agg #[.int .i64 21, .slice a len cap]] W fun e w' => e = .returned (.agg #[.int .i64 x0, .int .i64 x1, .int .i64 x2, .int .i64 x3, .int .i64 x4, .int .i64 x5, .int .i64 x6, .int .i64 x7, .int .i64 x8]) ∧ Below W.heap.size W w')) :
    Calls Tryz.prog 82 #[.agg #[.int .i64 21, .slice a len cap]] w fun e w' => e = .returned (.iface 200 (.agg #[.int .i64 x0, .int .i64 x1, .int .i64 x2, .int .i64 x3, .int .i64 x4, .int .i64 x5, .int .i64 x6, .int .i64 x7, .int .i64 x8])) ∧ Below w.heap.size w w' := by
  go_enter Tryz.func82, Tryz.ntmps82
  go_wp2_with fail
  refine (HA.out _ ((Below.refl _ _).alloc (Nat.le_refl _) _)).mono ?_
  rintro e w1 ⟨rfl, g1⟩
  have b1 : Below w.heap.size w w1 := ((Below.refl _ _).alloc (Nat.le_refl _) _).trans (g1.mono (by simp))
  have y0 : w1.cell? ⟨w.heap.size, 0, none⟩ = some (.int .i64 21) := by rw [g1.cell (by simp)]; exact (cell_of_row _ _ _ _ _ _ (heap_alloc_last w _)).trans rfl
  have l1 : w.heap.size < w1.heap.size := by have := g1.size; simp at this; omega
  have n1 : w.heap.size ≠ w1.heap.size := by omega
  clear g1
  go_wp2
  go_ret
  exact ⟨rfl, b1.alloc b1.size _⟩


set_option maxRecDepth 10000 in
set_option maxHeartbeats 1000000 in
theorem sort_24 (a : Option Addr) (len cap : Nat) (x0 x1 x2 x3 x4 x5 x6 x7 x8 : Int) (w : World) (HA : Hid (∀ W, Below w.heap.size w W → Calls Tryz.prog 137 #[.agg #[.int .i64 24, .slice a len cap]] W fun e w' => e = .returned (.agg #[.int .i64 x0, .int .i64 x1, .int .i64 x2, .int .i64 x3, .int .i64 x4, .int .i64 x5, .int .i64 x6, .int .i64 x7, .int .i64 x8]) ∧ Below W.heap.size W w')) :
    Calls Tryz.prog 82 #[.agg #[.int .i64 24, .slice a len cap]] w fun e w' => e = .returned (.iface 201 (.agg #[.int .i64 x0, .int .i64 x1, .int .i64 x2, .int .i64 x3, .int .i64 x4, .int .i64 x5, .int .i64 x6, .int .i64 x7, .int .i64 x8])) ∧ Below w.heap.size w w' := by
  go_enter Tryz.func82, Tryz.ntmps82
  go_wp2_with fail
  refine (HA.out _ ((Below.refl _ _).alloc (Nat.le_refl _) _)).mono ?_
  rintro e w1 ⟨rfl, g1⟩
  have b1 : Below w.heap.size w w1 := ((Below.refl _ _).alloc (Nat.le_refl _) _).trans (g1.mono (by simp))
  have y0 : w1.cell? ⟨w.heap.size, 0, none⟩ = some (.int .i64 24) := by rw [g1.cell (by simp)]; exact (cell_of_row _ _ _ _ _ _ (heap_alloc_last w _)).trans rfl
  have l1 : w.heap.size < w1.heap.size := by have := g1.size; simp at this; omega
  have n1 : w.heap.size ≠ w1.heap.size := by omega
  clear g1
  go_wp2
  go_ret
  exact ⟨rfl, b1.alloc b1.size _⟩


set_option maxRecDepth 10000 in
set_option maxHeartbeats 1000000 in
theorem sort_26 (a : Option Addr) (len cap : Nat) (x0 x1 x2 x3 x4 x5 x6 x7 x8 : Int) (w : World) (HA : Hid (∀ W, Below w.heap.size w W → Calls Tryz.prog 137 #[.agg #[.int .i64 26, .slice a len cap]] W fun e w' => e = .returned (.agg #[.int .i64 x0, .int .i64 x1, .int .i64 x2, .int .i64 x3, .int .i64 x4, .int .i64 x5, .int .i64 x6, .int .i64 x7, .int .i64 x8]) ∧ Below W.heap.size W w')) :
    Calls Tryz.prog 82 #[.agg #[.int .i64 26, .slice a len cap]] w fun e w' => e = .returned (.iface 202 (.agg #[.int .i64 x0, .int .i64 x1, .int .i64 x2, .int .i64 x3, .int .i64 x4, .int .i64 x5, .int .i64 x6, .int .i64 x7, .int .i64 x8])) ∧ Below w.heap.size w w' := by
  go_enter Tryz.func82, Tryz.ntmps82
  go_wp2_with fail
  refine (HA.out _ ((Below.refl _ _).alloc (Nat.le_refl _) _)).mono ?_
  rintro e w1 ⟨rfl, g1⟩
  have b1 : Below w.heap.size w w1 := ((Below.refl _ _).alloc (Nat.le_refl _) _).trans (g1.mono (by simp))
  have y0 : w1.cell? ⟨w.heap.size, 0, none⟩ = some (.int .i64 26) := by rw [g1.cell (by simp)]; exact (cell_of_row _ _ _ _ _ _ (heap_alloc_last w _)).trans rfl
  have l1 : w.heap.size < w1.heap.size := by have := g1.size; simp at this; omega
  have n1 : w.heap.size ≠ w1.heap.size := by omega
  clear g1
  go_wp2
  go_ret
  exact ⟨rfl, b1.alloc b1.size _⟩


set_option maxRecDepth 10000 in
set_option maxHeartbeats 1000000 in
theorem sort_28 (a : Option Addr) (len cap : Nat) (x0 x1 x2 x3 x4 x5 x6 x7 x8 : Int) (w : World) (HA : Hid (∀ W, Below w.heap.size w W → Calls Tryz.prog 137 #[.agg #[.int .i64 28, .slice a len cap]] W fun e w' => e = .returned (.agg #[.int .i64 x0, .int .i64 x1, .int .i64 x2, .int .i64 x3, .int .i64 x4, .int .i64 x5, .int .i64 x6, .int .i64 x7, .int .i64 x8]) ∧ Below W.heap.size W w')) :
    Calls Tryz.prog 82 #[.agg #[.int .i64 28, .slice a len cap]] w fun e w' => e = .returned (.iface 203 (.agg #[.int .i64 x0, .int .i64 x1, .int .i64 x2, .int .i64 x3, .int .i64 x4, .int .i64 x5, .int .i64 x6, .int .i64 x7, .int .i64 x8])) ∧ Below w.heap.size w w' := by
  go_enter Tryz.func82, Tryz.ntmps82
  go_wp2_with fail
  refine (HA.out _ ((Below.refl _ _).alloc (Nat.le_refl _) _)).mono ?_
  rintro e w1 ⟨rfl, g1⟩
  have b1 : Below w.heap.size w w1 := ((Below.refl _ _).alloc (Nat.le_refl _) _).trans (g1.mono (by simp))
  have y0 : w1.cell? ⟨w.heap.size, 0, none⟩ = some (.int .i64 28) := by rw [g1.cell (by simp)]; exact (cell_of_row _ _ _ _ _ _ (heap_alloc_last w _)).trans rfl
  have l1 : w.heap.size < w1.heap.size := by have := g1.size; simp at this; omega
  have n1 : w.heap.size ≠ w1.heap.size := by omega
  clear g1
  go_wp2
  go_ret
  exact ⟨rfl, b1.alloc b1.size _⟩


set_option maxRecDepth 10000 in
set_option maxHeartbeats 1000000 in
theorem sort_29 (a : Option Addr) (len cap : Nat) (x0 x1 x2 x3 x4 x5 x6 x7 x8 : Int) (w : World) (HA : Hid (∀ W, Below w.heap.size w W → Calls Tryz.prog 137 #[.agg #[.int .i64 29, .slice a len cap]] W fun e w' => e = .returned (.agg #[.int .i64 x0, .int .i64 x1, .int .i64 x2, .int .i64 x3, .int .i64 x4, .int .i64 x5, .int .i64 x6, .int .i64 x7, .int .i64 x8]) ∧ Below W.heap.size W w')) :
    Calls Tryz.prog 82 #[.agg #[.int .i64 29, .slice a len cap]] w fun e w' => e = .returned (.iface 204 (.agg #[.int .i64 x0, .int .i64 x1, .int .i64 x2, .int .i64 x3, .int .i64 x4, .int .i64 x5, .int .i64 x6, .int .i64 x7, .int .i64 x8])) ∧ Below w.heap.size w w' := by
  go_enter Tryz.func82, Tryz.ntmps82
  go_wp2_with fail
  refine (HA.out _ ((Below.refl _ _).alloc (Nat.le_refl _) _)).mono ?_
  rintro e w1 ⟨rfl, g1⟩
  have b1 : Below w.heap.size w w1 := ((Below.refl _ _).alloc (Nat.le_refl _) _).trans (g1.mono (by simp))
  have y0 : w1.cell? ⟨w.heap.size, 0, none⟩ = some (.int .i64 29) := by rw [g1.cell (by simp)]; exact (cell_of_row _ _ _ _ _ _ (heap_alloc_last w _)).trans rfl
  have l1 : w.heap.size < w1.heap.size := by have := g1.size; simp at this; omega
  have n1 : w.heap.size ≠ w1.heap.size := by omega
  clear g1
  go_wp2
  go_ret
  exact ⟨rfl, b1.alloc b1.size _⟩


/-- A sort whose test is that of operands alone. -/
def Dull (T : TypeId) (u : Value) (x0 x1 x2 x3 x4 x5 x6 x7 x8 : Int) : Prop := ∀ W, (method 449 T (u) "loop.example/stile/impl.test").run Tryz.prog W = .ok (316, .agg #[.int .i64 x0, .int .i64 x1, .int .i64 x2, .int .i64 x3, .int .i64 x4, .int .i64 x5, .int .i64 x6, .int .i64 x7, .int .i64 x8]) W

theorem dull_21 (x0 x1 x2 x3 x4 x5 x6 x7 x8 : Int) : Dull 200 (.agg #[.int .i64 x0, .int .i64 x1, .int .i64 x2, .int .i64 x3, .int .i64 x4, .int .i64 x5, .int .i64 x6, .int .i64 x7, .int .i64 x8]) x0 x1 x2 x3 x4 x5 x6 x7 x8 := fun W => by kernel_rfl
theorem dull_24 (x0 x1 x2 x3 x4 x5 x6 x7 x8 : Int) : Dull 201 (.agg #[.int .i64 x0, .int .i64 x1, .int .i64 x2, .int .i64 x3, .int .i64 x4, .int .i64 x5, .int .i64 x6, .int .i64 x7, .int .i64 x8]) x0 x1 x2 x3 x4 x5 x6 x7 x8 := fun W => by kernel_rfl
theorem dull_26 (x0 x1 x2 x3 x4 x5 x6 x7 x8 : Int) : Dull 202 (.agg #[.int .i64 x0, .int .i64 x1, .int .i64 x2, .int .i64 x3, .int .i64 x4, .int .i64 x5, .int .i64 x6, .int .i64 x7, .int .i64 x8]) x0 x1 x2 x3 x4 x5 x6 x7 x8 := fun W => by kernel_rfl
theorem dull_28 (x0 x1 x2 x3 x4 x5 x6 x7 x8 : Int) : Dull 203 (.agg #[.int .i64 x0, .int .i64 x1, .int .i64 x2, .int .i64 x3, .int .i64 x4, .int .i64 x5, .int .i64 x6, .int .i64 x7, .int .i64 x8]) x0 x1 x2 x3 x4 x5 x6 x7 x8 := fun W => by kernel_rfl
theorem dull_29 (x0 x1 x2 x3 x4 x5 x6 x7 x8 : Int) : Dull 204 (.agg #[.int .i64 x0, .int .i64 x1, .int .i64 x2, .int .i64 x3, .int .i64 x4, .int .i64 x5, .int .i64 x6, .int .i64 x7, .int .i64 x8]) x0 x1 x2 x3 x4 x5 x6 x7 x8 := fun W => by kernel_rfl

theorem dull_22 (x0 x1 x2 x3 x4 x5 x6 x7 x8 : Int) : Dull 207 (.agg #[.iface 244 (.agg #[.int .i64 x0, .int .i64 x1, .int .i64 x2, .int .i64 x3, .int .i64 x4, .int .i64 x5, .int .i64 x6, .int .i64 x7, .int .i64 x8])]) x0 x1 x2 x3 x4 x5 x6 x7 x8 := fun W => by kernel_rfl
set_option maxRecDepth 10000 in
set_option maxHeartbeats 1000000 in
theorem driven_22 (x0 x1 x2 x3 x4 x5 x6 x7 x8 : Int) (w : World) : Calls Tryz.prog 138 #[.int .i64 22, .agg #[.int .i64 x0, .int .i64 x1, .int .i64 x2, .int .i64 x3, .int .i64 x4, .int .i64 x5, .int .i64 x6, .int .i64 x7, .int .i64 x8]] w fun e w' => e = .returned (.iface 244 (.agg #[.int .i64 x0, .int .i64 x1, .int .i64 x2, .int .i64 x3, .int .i64 x4, .int .i64 x5, .int .i64 x6, .int .i64 x7, .int .i64 x8])) ∧ Below w.heap.size w w' := by
  go_enter Tryz.func138, Tryz.ntmps138
  go_wp2
  go_ret
  exact ⟨rfl, (Below.refl _ _).alloc (Nat.le_refl _) _⟩


theorem dull_23 (x0 x1 x2 x3 x4 x5 x6 x7 x8 : Int) : Dull 207 (.agg #[.iface 245 (.agg #[.int .i64 x0, .int .i64 x1, .int .i64 x2, .int .i64 x3, .int .i64 x4, .int .i64 x5, .int .i64 x6, .int .i64 x7, .int .i64 x8])]) x0 x1 x2 x3 x4 x5 x6 x7 x8 := fun W => by kernel_rfl
set_option maxRecDepth 10000 in
set_option maxHeartbeats 1000000 in
theorem driven_23 (x0 x1 x2 x3 x4 x5 x6 x7 x8 : Int) (w : World) : Calls Tryz.prog 138 #[.int .i64 23, .agg #[.int .i64 x0, .int .i64 x1, .int .i64 x2, .int .i64 x3, .int .i64 x4, .int .i64 x5, .int .i64 x6, .int .i64 x7, .int .i64 x8]] w fun e w' => e = .returned (.iface 245 (.agg #[.int .i64 x0, .int .i64 x1, .int .i64 x2, .int .i64 x3, .int .i64 x4, .int .i64 x5, .int .i64 x6, .int .i64 x7, .int .i64 x8])) ∧ Below w.heap.size w w' := by
  go_enter Tryz.func138, Tryz.ntmps138
  go_wp2
  go_ret
  exact ⟨rfl, (Below.refl _ _).alloc (Nat.le_refl _) _⟩


theorem dull_25 (x0 x1 x2 x3 x4 x5 x6 x7 x8 : Int) : Dull 207 (.agg #[.iface 246 (.agg #[.int .i64 x0, .int .i64 x1, .int .i64 x2, .int .i64 x3, .int .i64 x4, .int .i64 x5, .int .i64 x6, .int .i64 x7, .int .i64 x8])]) x0 x1 x2 x3 x4 x5 x6 x7 x8 := fun W => by kernel_rfl
set_option maxRecDepth 10000 in
set_option maxHeartbeats 1000000 in
theorem driven_25 (x0 x1 x2 x3 x4 x5 x6 x7 x8 : Int) (w : World) : Calls Tryz.prog 138 #[.int .i64 25, .agg #[.int .i64 x0, .int .i64 x1, .int .i64 x2, .int .i64 x3, .int .i64 x4, .int .i64 x5, .int .i64 x6, .int .i64 x7, .int .i64 x8]] w fun e w' => e = .returned (.iface 246 (.agg #[.int .i64 x0, .int .i64 x1, .int .i64 x2, .int .i64 x3, .int .i64 x4, .int .i64 x5, .int .i64 x6, .int .i64 x7, .int .i64 x8])) ∧ Below w.heap.size w w' := by
  go_enter Tryz.func138, Tryz.ntmps138
  go_wp2
  go_ret
  exact ⟨rfl, (Below.refl _ _).alloc (Nat.le_refl _) _⟩


theorem dull_27 (x0 x1 x2 x3 x4 x5 x6 x7 x8 : Int) : Dull 207 (.agg #[.iface 202 (.agg #[.int .i64 x0, .int .i64 x1, .int .i64 x2, .int .i64 x3, .int .i64 x4, .int .i64 x5, .int .i64 x6, .int .i64 x7, .int .i64 x8])]) x0 x1 x2 x3 x4 x5 x6 x7 x8 := fun W => by kernel_rfl
set_option maxRecDepth 10000 in
set_option maxHeartbeats 1000000 in
theorem driven_27 (x0 x1 x2 x3 x4 x5 x6 x7 x8 : Int) (w : World) : Calls Tryz.prog 138 #[.int .i64 27, .agg #[.int .i64 x0, .int .i64 x1, .int .i64 x2, .int .i64 x3, .int .i64 x4, .int .i64 x5, .int .i64 x6, .int .i64 x7, .int .i64 x8]] w fun e w' => e = .returned (.iface 202 (.agg #[.int .i64 x0, .int .i64 x1, .int .i64 x2, .int .i64 x3, .int .i64 x4, .int .i64 x5, .int .i64 x6, .int .i64 x7, .int .i64 x8])) ∧ Below w.heap.size w w' := by
  go_enter Tryz.func138, Tryz.ntmps138
  go_wp2
  go_ret
  exact ⟨rfl, (Below.refl _ _).alloc (Nat.le_refl _) _⟩


theorem dull_30 (x0 x1 x2 x3 x4 x5 x6 x7 x8 : Int) : Dull 207 (.agg #[.iface 247 (.agg #[.int .i64 x0, .int .i64 x1, .int .i64 x2, .int .i64 x3, .int .i64 x4, .int .i64 x5, .int .i64 x6, .int .i64 x7, .int .i64 x8])]) x0 x1 x2 x3 x4 x5 x6 x7 x8 := fun W => by kernel_rfl
set_option maxRecDepth 10000 in
set_option maxHeartbeats 1000000 in
theorem driven_30 (x0 x1 x2 x3 x4 x5 x6 x7 x8 : Int) (w : World) : Calls Tryz.prog 138 #[.int .i64 30, .agg #[.int .i64 x0, .int .i64 x1, .int .i64 x2, .int .i64 x3, .int .i64 x4, .int .i64 x5, .int .i64 x6, .int .i64 x7, .int .i64 x8]] w fun e w' => e = .returned (.iface 247 (.agg #[.int .i64 x0, .int .i64 x1, .int .i64 x2, .int .i64 x3, .int .i64 x4, .int .i64 x5, .int .i64 x6, .int .i64 x7, .int .i64 x8])) ∧ Below w.heap.size w w' := by
  go_enter Tryz.func138, Tryz.ntmps138
  go_wp2
  go_ret
  exact ⟨rfl, (Below.refl _ _).alloc (Nat.le_refl _) _⟩


theorem dull_31 (x0 x1 x2 x3 x4 x5 x6 x7 x8 : Int) : Dull 207 (.agg #[.iface 248 (.agg #[.int .i64 x0, .int .i64 x1, .int .i64 x2, .int .i64 x3, .int .i64 x4, .int .i64 x5, .int .i64 x6, .int .i64 x7, .int .i64 x8, .int .i64 1])]) x0 x1 x2 x3 x4 x5 x6 x7 x8 := fun W => by kernel_rfl
set_option maxRecDepth 10000 in
set_option maxHeartbeats 1000000 in
theorem driven_31 (x0 x1 x2 x3 x4 x5 x6 x7 x8 : Int) (w : World) : Calls Tryz.prog 138 #[.int .i64 31, .agg #[.int .i64 x0, .int .i64 x1, .int .i64 x2, .int .i64 x3, .int .i64 x4, .int .i64 x5, .int .i64 x6, .int .i64 x7, .int .i64 x8]] w fun e w' => e = .returned (.iface 248 (.agg #[.int .i64 x0, .int .i64 x1, .int .i64 x2, .int .i64 x3, .int .i64 x4, .int .i64 x5, .int .i64 x6, .int .i64 x7, .int .i64 x8, .int .i64 1])) ∧ Below w.heap.size w w' := by
  go_enter Tryz.func138, Tryz.ntmps138
  go_wp2
  go_ret
  exact ⟨rfl, (Below.refl _ _).alloc (Nat.le_refl _) _⟩


theorem dull_32 (x0 x1 x2 x3 x4 x5 x6 x7 x8 : Int) : Dull 207 (.agg #[.iface 248 (.agg #[.int .i64 x0, .int .i64 x1, .int .i64 x2, .int .i64 x3, .int .i64 x4, .int .i64 x5, .int .i64 x6, .int .i64 x7, .int .i64 x8, .int .i64 2])]) x0 x1 x2 x3 x4 x5 x6 x7 x8 := fun W => by kernel_rfl
set_option maxRecDepth 10000 in
set_option maxHeartbeats 1000000 in
theorem driven_32 (x0 x1 x2 x3 x4 x5 x6 x7 x8 : Int) (w : World) : Calls Tryz.prog 138 #[.int .i64 32, .agg #[.int .i64 x0, .int .i64 x1, .int .i64 x2, .int .i64 x3, .int .i64 x4, .int .i64 x5, .int .i64 x6, .int .i64 x7, .int .i64 x8]] w fun e w' => e = .returned (.iface 248 (.agg #[.int .i64 x0, .int .i64 x1, .int .i64 x2, .int .i64 x3, .int .i64 x4, .int .i64 x5, .int .i64 x6, .int .i64 x7, .int .i64 x8, .int .i64 2])) ∧ Below w.heap.size w w' := by
  go_enter Tryz.func138, Tryz.ntmps138
  go_wp2
  go_ret
  exact ⟨rfl, (Below.refl _ _).alloc (Nat.le_refl _) _⟩


theorem dull_33 (x0 x1 x2 x3 x4 x5 x6 x7 x8 : Int) : Dull 207 (.agg #[.iface 248 (.agg #[.int .i64 x0, .int .i64 x1, .int .i64 x2, .int .i64 x3, .int .i64 x4, .int .i64 x5, .int .i64 x6, .int .i64 x7, .int .i64 x8, .int .i64 3])]) x0 x1 x2 x3 x4 x5 x6 x7 x8 := fun W => by kernel_rfl
set_option maxRecDepth 10000 in
set_option maxHeartbeats 1000000 in
theorem driven_33 (x0 x1 x2 x3 x4 x5 x6 x7 x8 : Int) (w : World) : Calls Tryz.prog 138 #[.int .i64 33, .agg #[.int .i64 x0, .int .i64 x1, .int .i64 x2, .int .i64 x3, .int .i64 x4, .int .i64 x5, .int .i64 x6, .int .i64 x7, .int .i64 x8]] w fun e w' => e = .returned (.iface 248 (.agg #[.int .i64 x0, .int .i64 x1, .int .i64 x2, .int .i64 x3, .int .i64 x4, .int .i64 x5, .int .i64 x6, .int .i64 x7, .int .i64 x8, .int .i64 3])) ∧ Below w.heap.size w w' := by
  go_enter Tryz.func138, Tryz.ntmps138
  go_wp2
  go_ret
  exact ⟨rfl, (Below.refl _ _).alloc (Nat.le_refl _) _⟩


theorem dull_34 (x0 x1 x2 x3 x4 x5 x6 x7 x8 : Int) : Dull 207 (.agg #[.iface 248 (.agg #[.int .i64 x0, .int .i64 x1, .int .i64 x2, .int .i64 x3, .int .i64 x4, .int .i64 x5, .int .i64 x6, .int .i64 x7, .int .i64 x8, .int .i64 4])]) x0 x1 x2 x3 x4 x5 x6 x7 x8 := fun W => by kernel_rfl
set_option maxRecDepth 10000 in
set_option maxHeartbeats 1000000 in
theorem driven_34 (x0 x1 x2 x3 x4 x5 x6 x7 x8 : Int) (w : World) : Calls Tryz.prog 138 #[.int .i64 34, .agg #[.int .i64 x0, .int .i64 x1, .int .i64 x2, .int .i64 x3, .int .i64 x4, .int .i64 x5, .int .i64 x6, .int .i64 x7, .int .i64 x8]] w fun e w' => e = .returned (.iface 248 (.agg #[.int .i64 x0, .int .i64 x1, .int .i64 x2, .int .i64 x3, .int .i64 x4, .int .i64 x5, .int .i64 x6, .int .i64 x7, .int .i64 x8, .int .i64 4])) ∧ Below w.heap.size w w' := by
  go_enter Tryz.func138, Tryz.ntmps138
  go_wp2
  go_ret
  exact ⟨rfl, (Below.refl _ _).alloc (Nat.le_refl _) _⟩


theorem dull_35 (x0 x1 x2 x3 x4 x5 x6 x7 x8 : Int) : Dull 207 (.agg #[.iface 248 (.agg #[.int .i64 x0, .int .i64 x1, .int .i64 x2, .int .i64 x3, .int .i64 x4, .int .i64 x5, .int .i64 x6, .int .i64 x7, .int .i64 x8, .int .i64 5])]) x0 x1 x2 x3 x4 x5 x6 x7 x8 := fun W => by kernel_rfl
set_option maxRecDepth 10000 in
set_option maxHeartbeats 1000000 in
theorem driven_35 (x0 x1 x2 x3 x4 x5 x6 x7 x8 : Int) (w : World) : Calls Tryz.prog 138 #[.int .i64 35, .agg #[.int .i64 x0, .int .i64 x1, .int .i64 x2, .int .i64 x3, .int .i64 x4, .int .i64 x5, .int .i64 x6, .int .i64 x7, .int .i64 x8]] w fun e w' => e = .returned (.iface 248 (.agg #[.int .i64 x0, .int .i64 x1, .int .i64 x2, .int .i64 x3, .int .i64 x4, .int .i64 x5, .int .i64 x6, .int .i64 x7, .int .i64 x8, .int .i64 5])) ∧ Below w.heap.size w w' := by
  go_enter Tryz.func138, Tryz.ntmps138
  go_wp2
  go_ret
  exact ⟨rfl, (Below.refl _ _).alloc (Nat.le_refl _) _⟩


theorem dull_36 (x0 x1 x2 x3 x4 x5 x6 x7 x8 : Int) : Dull 207 (.agg #[.iface 249 (.agg #[.int .i64 x0, .int .i64 x1, .int .i64 x2, .int .i64 x3, .int .i64 x4, .int .i64 x5, .int .i64 x6, .int .i64 x7, .int .i64 x8])]) x0 x1 x2 x3 x4 x5 x6 x7 x8 := fun W => by kernel_rfl
set_option maxRecDepth 10000 in
set_option maxHeartbeats 1000000 in
theorem driven_36 (x0 x1 x2 x3 x4 x5 x6 x7 x8 : Int) (w : World) : Calls Tryz.prog 138 #[.int .i64 36, .agg #[.int .i64 x0, .int .i64 x1, .int .i64 x2, .int .i64 x3, .int .i64 x4, .int .i64 x5, .int .i64 x6, .int .i64 x7, .int .i64 x8]] w fun e w' => e = .returned (.iface 249 (.agg #[.int .i64 x0, .int .i64 x1, .int .i64 x2, .int .i64 x3, .int .i64 x4, .int .i64 x5, .int .i64 x6, .int .i64 x7, .int .i64 x8])) ∧ Below w.heap.size w w' := by
  go_enter Tryz.func138, Tryz.ntmps138
  go_wp2
  go_ret
  exact ⟨rfl, (Below.refl _ _).alloc (Nat.le_refl _) _⟩


theorem dull_37 (x0 x1 x2 x3 x4 x5 x6 x7 x8 : Int) : Dull 207 (.agg #[.iface 250 (.agg #[.int .i64 x0, .int .i64 x1, .int .i64 x2, .int .i64 x3, .int .i64 x4, .int .i64 x5, .int .i64 x6, .int .i64 x7, .int .i64 x8])]) x0 x1 x2 x3 x4 x5 x6 x7 x8 := fun W => by kernel_rfl
set_option maxRecDepth 10000 in
set_option maxHeartbeats 1000000 in
theorem driven_37 (x0 x1 x2 x3 x4 x5 x6 x7 x8 : Int) (w : World) : Calls Tryz.prog 138 #[.int .i64 37, .agg #[.int .i64 x0, .int .i64 x1, .int .i64 x2, .int .i64 x3, .int .i64 x4, .int .i64 x5, .int .i64 x6, .int .i64 x7, .int .i64 x8]] w fun e w' => e = .returned (.iface 250 (.agg #[.int .i64 x0, .int .i64 x1, .int .i64 x2, .int .i64 x3, .int .i64 x4, .int .i64 x5, .int .i64 x6, .int .i64 x7, .int .i64 x8])) ∧ Below w.heap.size w w' := by
  go_enter Tryz.func138, Tryz.ntmps138
  go_wp2
  go_ret
  exact ⟨rfl, (Below.refl _ _).alloc (Nat.le_refl _) _⟩


theorem dull_other (x0 x1 x2 x3 x4 x5 x6 x7 x8 : Int) : Dull 207 (.agg #[.iface 192 (.agg #[.int .i64 x0, .int .i64 x1, .int .i64 x2, .int .i64 x3, .int .i64 x4, .int .i64 x5, .int .i64 x6, .int .i64 x7, .int .i64 x8])]) x0 x1 x2 x3 x4 x5 x6 x7 x8 := fun W => by kernel_rfl
set_option maxRecDepth 10000 in
set_option maxHeartbeats 1000000 in
theorem driven_other (op : Int) (x0 x1 x2 x3 x4 x5 x6 x7 x8 : Int) (w : World) (h : op ≠ 22 ∧ op ≠ 23 ∧ op ≠ 25 ∧ op ≠ 27 ∧ op ≠ 30 ∧ op ≠ 31 ∧ op ≠ 32 ∧ op ≠ 33 ∧ op ≠ 34 ∧ op ≠ 35 ∧ op ≠ 36 ∧ op ≠ 37) : Calls Tryz.prog 138 #[.int .i64 op, .agg #[.int .i64 x0, .int .i64 x1, .int .i64 x2, .int .i64 x3, .int .i64 x4, .int .i64 x5, .int .i64 x6, .int .i64 x7, .int .i64 x8]] w fun e w' => e = .returned (.iface 192 (.agg #[.int .i64 x0, .int .i64 x1, .int .i64 x2, .int .i64 x3, .int .i64 x4, .int .i64 x5, .int .i64 x6, .int .i64 x7, .int .i64 x8])) ∧ Below w.heap.size w w' := by
  have e22 : (op == 22) = false := by simp; omega
  have e23 : (op == 23) = false := by simp; omega
  have e25 : (op == 25) = false := by simp; omega
  have e27 : (op == 27) = false := by simp; omega
  have e30 : (op == 30) = false := by simp; omega
  have e31 : (op == 31) = false := by simp; omega
  have e32 : (op == 32) = false := by simp; omega
  have e33 : (op == 33) = false := by simp; omega
  have e34 : (op == 34) = false := by simp; omega
  have e35 : (op == 35) = false := by simp; omega
  have e36 : (op == 36) = false := by simp; omega
  have e37 : (op == 37) = false := by simp; omega
  clear h
  go_enter Tryz.func138, Tryz.ntmps138
  go_wp2
  go_ret
  exact ⟨rfl, (Below.refl _ _).alloc (Nat.le_refl _) _⟩

theorem driven_all (op : Int) (x0 x1 x2 x3 x4 x5 x6 x7 x8 : Int) : ∃ T u, Dull 207 (.agg #[.iface T u]) x0 x1 x2 x3 x4 x5 x6 x7 x8 ∧ ∀ w, Calls Tryz.prog 138 #[.int .i64 op, .agg #[.int .i64 x0, .int .i64 x1, .int .i64 x2, .int .i64 x3, .int .i64 x4, .int .i64 x5, .int .i64 x6, .int .i64 x7, .int .i64 x8]] w fun e w' => e = .returned (.iface T u) ∧ Below w.heap.size w w' := by

  by_cases h22 : op = 22
  · subst h22; exact ⟨_, _, dull_22 x0 x1 x2 x3 x4 x5 x6 x7 x8, fun w => driven_22 x0 x1 x2 x3 x4 x5 x6 x7 x8 w⟩
  by_cases h23 : op = 23
  · subst h23; exact ⟨_, _, dull_23 x0 x1 x2 x3 x4 x5 x6 x7 x8, fun w => driven_23 x0 x1 x2 x3 x4 x5 x6 x7 x8 w⟩
  by_cases h25 : op = 25
  · subst h25; exact ⟨_, _, dull_25 x0 x1 x2 x3 x4 x5 x6 x7 x8, fun w => driven_25 x0 x1 x2 x3 x4 x5 x6 x7 x8 w⟩
  by_cases h27 : op = 27
  · subst h27; exact ⟨_, _, dull_27 x0 x1 x2 x3 x4 x5 x6 x7 x8, fun w => driven_27 x0 x1 x2 x3 x4 x5 x6 x7 x8 w⟩
  by_cases h30 : op = 30
  · subst h30; exact ⟨_, _, dull_30 x0 x1 x2 x3 x4 x5 x6 x7 x8, fun w => driven_30 x0 x1 x2 x3 x4 x5 x6 x7 x8 w⟩
  by_cases h31 : op = 31
  · subst h31; exact ⟨_, _, dull_31 x0 x1 x2 x3 x4 x5 x6 x7 x8, fun w => driven_31 x0 x1 x2 x3 x4 x5 x6 x7 x8 w⟩
  by_cases h32 : op = 32
  · subst h32; exact ⟨_, _, dull_32 x0 x1 x2 x3 x4 x5 x6 x7 x8, fun w => driven_32 x0 x1 x2 x3 x4 x5 x6 x7 x8 w⟩
  by_cases h33 : op = 33
  · subst h33; exact ⟨_, _, dull_33 x0 x1 x2 x3 x4 x5 x6 x7 x8, fun w => driven_33 x0 x1 x2 x3 x4 x5 x6 x7 x8 w⟩
  by_cases h34 : op = 34
  · subst h34; exact ⟨_, _, dull_34 x0 x1 x2 x3 x4 x5 x6 x7 x8, fun w => driven_34 x0 x1 x2 x3 x4 x5 x6 x7 x8 w⟩
  by_cases h35 : op = 35
  · subst h35; exact ⟨_, _, dull_35 x0 x1 x2 x3 x4 x5 x6 x7 x8, fun w => driven_35 x0 x1 x2 x3 x4 x5 x6 x7 x8 w⟩
  by_cases h36 : op = 36
  · subst h36; exact ⟨_, _, dull_36 x0 x1 x2 x3 x4 x5 x6 x7 x8, fun w => driven_36 x0 x1 x2 x3 x4 x5 x6 x7 x8 w⟩
  by_cases h37 : op = 37
  · subst h37; exact ⟨_, _, dull_37 x0 x1 x2 x3 x4 x5 x6 x7 x8, fun w => driven_37 x0 x1 x2 x3 x4 x5 x6 x7 x8 w⟩
  exact ⟨_, _, dull_other x0 x1 x2 x3 x4 x5 x6 x7 x8, fun w => driven_other op x0 x1 x2 x3 x4 x5 x6 x7 x8 w ⟨h22, h23, h25, h27, h30, h31, h32, h33, h34, h35, h36, h37⟩⟩


set_option maxRecDepth 10000 in
set_option maxHeartbeats 1000000 in
theorem sort_driven (op : Int) (a : Option Addr) (len cap : Nat) (x0 x1 x2 x3 x4 x5 x6 x7 x8 : Int) (T : TypeId) (u : Value) (w : World) (HA : Hid (∀ W, Below w.heap.size w W → Calls Tryz.prog 137 #[.agg #[.int .i64 op, .slice a len cap]] W fun e w' => e = .returned (.agg #[.int .i64 x0, .int .i64 x1, .int .i64 x2, .int .i64 x3, .int .i64 x4, .int .i64 x5, .int .i64 x6, .int .i64 x7, .int .i64 x8]) ∧ Below W.heap.size W w')) (h : op ≠ 1 ∧ op ≠ 2 ∧ op ≠ 3 ∧ op ≠ 4 ∧ op ≠ 5 ∧ op ≠ 6 ∧ op ≠ 7 ∧ op ≠ 8 ∧ op ≠ 9 ∧ op ≠ 10 ∧ op ≠ 21 ∧ op ≠ 24 ∧ op ≠ 26 ∧ op ≠ 28 ∧ op ≠ 29)
    (HD : Hid (∀ w, Calls Tryz.prog 138 #[.int .i64 op, .agg #[.int .i64 x0, .int .i64 x1, .int .i64 x2, .int .i64 x3, .int .i64 x4, .int .i64 x5, .int .i64 x6, .int .i64 x7, .int .i64 x8]] w fun e w' => e = .returned (.iface T u) ∧ Below w.heap.size w w')) :
    Calls Tryz.prog 82 #[.agg #[.int .i64 op, .slice a len cap]] w fun e w' => e = .returned (.iface 207 (.agg #[.iface T u])) ∧ Below w.heap.size w w' := by
  have e1 : (op == 1) = false := by simp; omega
  have e2 : (op == 2) = false := by simp; omega
  have e3 : (op == 3) = false := by simp; omega
  have e4 : (op == 4) = false := by simp; omega
  have e5 : (op == 5) = false := by simp; omega
  have e6 : (op == 6) = false := by simp; omega
  have e7 : (op == 7) = false := by simp; omega
  have e8 : (op == 8) = false := by simp; omega
  have e9 : (op == 9) = false := by simp; omega
  have e10 : (op == 10) = false := by simp; omega
  have e21 : (op == 21) = false := by simp; omega
  have e24 : (op == 24) = false := by simp; omega
  have e26 : (op == 26) = false := by simp; omega
  have e28 : (op == 28) = false := by simp; omega
  have e29 : (op == 29) = false := by simp; omega
  clear h
  go_enter Tryz.func82, Tryz.ntmps82
  go_wp2_with fail
  refine (HA.out _ ((Below.refl _ _).alloc (Nat.le_refl _) _)).mono ?_
  rintro e w1 ⟨rfl, g1⟩
  have b1 : Below w.heap.size w w1 := ((Below.refl _ _).alloc (Nat.le_refl _) _).trans (g1.mono (by simp))
  have y0 : w1.cell? ⟨w.heap.size, 0, none⟩ = some (.int .i64 op) := by rw [g1.cell (by simp)]; exact (cell_of_row _ _ _ _ _ _ (heap_alloc_last w _)).trans rfl
  have l1 : w.heap.size < w1.heap.size := by have := g1.size; simp at this; omega
  have n1 : w.heap.size ≠ w1.heap.size := by omega
  clear g1
  go_wp2_with fail
  refine (HD.out _).mono ?_
  rintro e w2 ⟨rfl, g2⟩
  have b2 : Below w.heap.size w w2 := (b1.alloc b1.size _).trans (g2.mono (by have := b1.size; simp; omega))
  clear g2 b1
  go_wp2
  go_ret
  exact ⟨rfl, b2⟩
end Go.Proofs.YtlgacbjopobeoaaGreatDoor
