/- What the listed variables hold gives the walks their tables. -/
import Derived.Test.YtcihplachlokiaaDoorDa
import Derived.Lib.LaidU8
import Derived.OpenVars
namespace Go.Proofs.YtcihplachlokiaaDoor
open Go.RowKit Go.Lib
set_option linter.unusedVariables false

theorem g1_named : Tryd.prog.globalNamed "loop.example/stile/impl.devKinds" = some 0 := by kernel_rfl
theorem g1_type : (Tryd.prog.globals[0]?).map (·.type) = some 133 := by kernel_rfl
theorem cellsK : Tryd.prog.cellsOf 130 = 5 := by kernel_rfl
theorem cells9 : Tryd.prog.cellsOf 9 = 1 := by kernel_rfl
theorem cells3 : Tryd.prog.cellsOf 3 = 1 := by kernel_rfl
theorem cells4 : Tryd.prog.cellsOf 4 = 1 := by kernel_rfl

theorem ba_list {s : ByteArray} {l : List UInt8} (h : s.data.toList = l) : s = ⟨l.toArray⟩ := by rw [← h, Lib.mk_data]

set_option maxRecDepth 100000 in
theorem row5 {w : World} {base : Nat} {sp : Nat → Bool} {fuel : Nat} {cs : List Value} {s : List UInt8} {z : Int} {a b c : Bool} {p : List MemPlace}
    (h : DataW.trod (fun _ => ()) Tryd.prog w base sp false fuel 130 cs = some (.agg [.lit (.string s), .lit (.int .i64 z), .lit (.bool a), .lit (.bool b), .lit (.bool c)], p)) :
    cs = [.string ⟨s.toArray⟩, .int .i64 z, .bool a, .bool b, .bool c] := by
  obtain ⟨xs, n, rfl, hx, hl, hxl, hall⟩ := DataW.trod_struct Tryd.underlying130 h
  rw [cellsK] at hl
  have hxs := congrArg Prod.fst hx
  simp only [DataW.agg.injEq] at hxs
  match cs, hl with
  | [c0, c1, c2, c3, c4], _ =>
    match xs, hxs with
    | [x0, x1, x2, x3, x4], hxs =>
      have h0 : DataW.trod (fun _ => ()) Tryd.prog w base sp false n 9 (([c0, c1, c2, c3, c4].drop 0).take (Tryd.prog.cellsOf 9)) = [x0, x1, x2, x3, x4][0]? := hall 0 _ rfl
      have h1 : DataW.trod (fun _ => ()) Tryd.prog w base sp false n 3 (([c0, c1, c2, c3, c4].drop 1).take (Tryd.prog.cellsOf 3)) = [x0, x1, x2, x3, x4][1]? := hall 1 _ rfl
      have h2 : DataW.trod (fun _ => ()) Tryd.prog w base sp false n 4 (([c0, c1, c2, c3, c4].drop 2).take (Tryd.prog.cellsOf 4)) = [x0, x1, x2, x3, x4][2]? := hall 2 _ rfl
      have h3 : DataW.trod (fun _ => ()) Tryd.prog w base sp false n 4 (([c0, c1, c2, c3, c4].drop 3).take (Tryd.prog.cellsOf 4)) = [x0, x1, x2, x3, x4][3]? := hall 3 _ rfl
      have h4 : DataW.trod (fun _ => ()) Tryd.prog w base sp false n 4 (([c0, c1, c2, c3, c4].drop 4).take (Tryd.prog.cellsOf 4)) = [x0, x1, x2, x3, x4][4]? := hall 4 _ rfl
      simp only [cells9, cells3, cells4, List.drop_zero, List.drop_succ_cons, List.take_succ_cons, List.take_zero, List.getElem?_cons_zero, List.getElem?_cons_succ] at h0 h1 h2 h3 h4
      obtain ⟨v0, e0, rfl, _⟩ := DataW.trod_string Tryd.underlying9 h0
      obtain ⟨v1, e1, rfl, _⟩ := DataW.trod_int Tryd.underlying3 h1
      obtain ⟨v2, e2, rfl⟩ := DataW.trod_bool Tryd.underlying4 h2
      obtain ⟨v3, e3, rfl⟩ := DataW.trod_bool Tryd.underlying4 h3
      obtain ⟨v4, e4, rfl⟩ := DataW.trod_bool Tryd.underlying4 h4
      simp only [List.map_cons, List.map_nil, List.cons.injEq, DataW.lit.injEq, Lit.string.injEq, Lit.int.injEq, Lit.bool.injEq, true_and, and_true] at hxs e0 e1 e2 e3 e4
      obtain ⟨f0, f1, f2, f3, f4⟩ := hxs
      rw [e0, e1, e2, e3, e4, f1, f2, f3, f4, ba_list f0.symm]

theorem at5 {W : World} {cs : Array Value} {n : String} {g : Nat} (hg : Tryd.prog.globalNamed n = some g) (hv : W.var? Tryd.prog n = some cs) {i : Nat} {a b c d e : Value} (h : (cs.toList.drop (i * 5)).take 5 = [a, b, c, d, e]) :
    W.cell? ⟨g, i * 5, none⟩ = some a ∧ W.cell? ⟨g, i * 5 + 1, none⟩ = some b ∧ W.cell? ⟨g, i * 5 + 2, none⟩ = some c ∧ W.cell? ⟨g, i * 5 + 3, none⟩ = some d ∧ W.cell? ⟨g, i * 5 + 4, none⟩ = some e := by
  have key : ∀ j, j < 5 → W.cell? ⟨g, i * 5 + j, none⟩ = [a, b, c, d, e][j]? := fun j hj => by
    rw [World.var?_cell hg hv, ← h, List.getElem?_take, if_pos hj, List.getElem?_drop]
    simp
  exact ⟨key 0 (by omega), key 1 (by omega), key 2 (by omega), key 3 (by omega), key 4 (by omega)⟩

theorem c14 (i : Nat) (h : i < 14) : i = 0 ∨ i = 1 ∨ i = 2 ∨ i = 3 ∨ i = 4 ∨ i = 5 ∨ i = 6 ∨ i = 7 ∨ i = 8 ∨ i = 9 ∨ i = 10 ∨ i = 11 ∨ i = 12 ∨ i = 13 := by omega

theorem kt_of_reads {W : World} (h : VarReads Tryd.prog W "loop.example/stile/impl.devKinds" Rows.laid_loop_example_stile_impl_devKinds) : KT W := by
  obtain ⟨g, t, cs, fuel, p, hg, ht, hv, hd⟩ := h
  obtain rfl := Option.some.inj (g1_named.symm.trans hg)
  obtain rfl := Option.some.inj (g1_type.symm.trans ht)
  intro i hi
  unfold Rows.laid_loop_example_stile_impl_devKinds at hd
  obtain ⟨f', d, q, hdi, hr⟩ := Lib.array_elem Tryd.underlying133 hd i hi
  rw [cellsK] at hr
  rcases c14 i hi with rfl | rfl | rfl | rfl | rfl | rfl | rfl | rfl | rfl | rfl | rfl | rfl | rfl | rfl
  all_goals
    obtain rfl := Option.some.inj hdi
    have := at5 hg hv (row5 hr)
    exact this
end Go.Proofs.YtcihplachlokiaaDoor
