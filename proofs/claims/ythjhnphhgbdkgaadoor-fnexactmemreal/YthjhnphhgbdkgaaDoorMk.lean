/- MemReal, the program's and the specification's; the law FnExactMemReal. -/
import Derived.Test.YthjhnphhgbdkgaaDoorMd
import Derived.Test.YthjhnphhgbdkgaaDoorMf
import Derived.Test.YthjhnphhgbdkgaaDoorMr
import Derived.Test.YthjhnphhgbdkgaaDoorAr
import Derived.Deep.Cut
namespace Go.Proofs.YthjhnphhgbdkgaaDoor
open Go.RowKit Go.Shelf
set_option linter.unusedVariables false

/-- What real number an operand asks for. -/
def MRv (c : Array Value) (k n p : Int) (v : Nat) : Prop := (k = 10 ∧ c[117 + (pl k n).toNat]? = some (.float .f64 v)) ∨ (k ≠ 10 ∧ ArgV k n p v)
theorem mrv_same {c : Array Value} {k n p : Int} {x y : Nat} (hx : MRv c k n p x) (hy : MRv c k n p y) : Same x y := by
  rcases hx with ⟨h, hx⟩ | ⟨h, hx⟩
  · rcases hy with ⟨_, hy⟩ | ⟨h', _⟩
    · rw [hx] at hy
      injection hy with hy
      injection hy with _ hy
      exact Or.inl hy
    · exact absurd h h'
  · rcases hy with ⟨h', _⟩ | ⟨_, hy⟩
    · exact absurd h' h
    · exact arg_same hx hy
theorem mk_wf {x : Nat} (h : FloatKind.has .f64 x) : (Lit.float .f64 x).wf = true := by
  simpa [Lit.wf, FloatKind.has] using h
theorem mk_info : (Tryd.prog.info? 62).map (·.size) = some 136 := by kernel_rfl
theorem mk_arg_info : (Tryd.prog.info? 63).map (·.size) = some 3 := by kernel_rfl

section
variable {P : Program} {ops : Array Oper} {Q : Exit → Act → World → Prop} {S : World → Prop} {md : Region.Mode}
theorem tk_assign' {i : Nat} {oi : Oper} {fuel : Nat} {listed : Array Bool} {a : Act} {w : World} (hi : ops[i]? = some oi)
    (hs : Region.noSelect ops = true) (hf : Region.free md ops listed i = true) (hr : (Region.ready md ops listed).contains i = true)
    (hQ : ∀ (v : Value) c a w, Q (.panic c) (a.put oi.dst v) w → Q (.panic c) a w) (hw : Region.wanted oi (yielded ops a.tmps) = true) (x : Operand) (ho : oi.op = .assign x) (v : Value) (hx : a.eval x = v) (hS : S w)
    (l' : Array Bool) (hl : listed.setIfInBounds i true = l') (a' : Act) (ha : a.put oi.dst v = a')
    (h : wpAnyH P md ops Q S fuel l' a' w) : wpAnyH P md ops Q S (fuel + 1) listed a w := by
  subst hl ha
  exact wpAnyH_take hi hs hf hr (hQ v) (.inl ⟨hw, fun w hw' => by
    unfold execOp
    simp [ho, hx]⟩) hS h
end


set_option maxHeartbeats 1000000 in
theorem real_i (c : Array Value) (hc : MemOk c) (k n p : Int) (w : World) (hT : KT w) : Calls Tryd.prog 27 #[.agg c, .agg #[.int .i64 k, .int .i64 n, .int .i64 p]] w fun e w' => ∃ v, e = .returned (.float .f64 v) ∧ MRv c k n p v ∧ (Lit.float .f64 v).wf = true ∧ Below w.heap.size w w' := by
  have HT : Hid (KT w) := hT
  clear hT
  by_cases hk : k = 10
  · subst hk
    obtain ⟨q0, q1⟩ := pl_lt 10 n (by decide)
    rw [show kZ 10 = 16 from rfl] at q1
    obtain ⟨q, hq⟩ : ∃ q : Nat, pl 10 n = q := ⟨(pl 10 n).toNat, by omega⟩
    rw [hq] at q0 q1
    have hq16 : q < 16 := by omega
    obtain ⟨x, hx, hh⟩ := hc.f64 (i := 117 + q) (by omega) (kd_r hq16)
    have HV : Hid (MRv c 10 n p x) := Or.inl ⟨rfl, by rw [hq, Int.toNat_natCast]; exact hx⟩
    have HW : Hid ((Lit.float .f64 x).wf = true) := mk_wf hh
    clear hc hh
    go_enter Tryd.func27, Tryd.ntmps27
    go_wp2_with fail
    refine (place_r _ _ _ _ ((HT.out.alloc _).alloc _)).mono ?_
    rintro e w1 ⟨rfl, g1⟩
    have b1 : Below w.heap.size w w1 := (((Below.refl _ _).alloc (Nat.le_refl _) _).alloc (by simp) _).trans (g1.mono (by simp <;> omega))
    have h1 : w1.heap[w.heap.size]? = some (.cells c 37 (0, 0)) := (g1.block _ (by simp <;> omega)).trans (rows2 w _ _).1
    clear g1
    have r1 : w1.cell? ⟨w.heap.size, 117 + q, none⟩ = some (.float .f64 x) := by rw [cell_of_row _ _ _ _ _ _ h1]; exact hx
    rw [hq]
    clear hq
    go_wp2
    go_ret
    exact ⟨x, rfl, HV.out, HW.out, b1⟩
  · have e10 : (k == 10) = false := by simp [hk]
    have HK : Hid (k ≠ 10) := hk
    clear hk hc
    go_enter Tryd.func27, Tryd.ntmps27
    go_wp2_with fail
    refine (impl_arg k n p _ ((HT.out.alloc _).alloc _)).mono ?_
    rintro e w1 ⟨v, rfl, hv, hf, g1⟩
    have HV : Hid (MRv c k n p v) := Or.inr ⟨HK.out, hv⟩
    have HW : Hid ((Lit.float .f64 v).wf = true) := hf
    have b1 : Below w.heap.size w w1 := (((Below.refl _ _).alloc (Nat.le_refl _) _).alloc (by simp) _).trans (g1.mono (by simp <;> omega))
    clear g1 hv hf
    go_wp2
    go_ret
    exact ⟨v, rfl, HV.out, HW.out, b1⟩

set_option maxHeartbeats 1000000 in
theorem real_s (c : Array Value) (hc : MemOk c) (k n p : Int) (w : World) : Calls Tryd.prog 34 #[.agg c, .agg #[.int .i64 k, .int .i64 n, .int .i64 p]] w fun e w' => ∃ v, e = .returned (.float .f64 v) ∧ MRv c k n p v ∧ (Lit.float .f64 v).wf = true ∧ Below w.heap.size w w' := by
  by_cases hk : k = 10
  · subst hk
    obtain ⟨q0, q1⟩ := pl_lt 10 n (by decide)
    rw [show kZ 10 = 16 from rfl] at q1
    obtain ⟨q, hq⟩ : ∃ q : Nat, pl 10 n = q := ⟨(pl 10 n).toNat, by omega⟩
    rw [hq] at q0 q1
    have hq16 : q < 16 := by omega
    obtain ⟨x, hx, hh⟩ := hc.f64 (i := 117 + q) (by omega) (kd_r hq16)
    have HV : Hid (MRv c 10 n p x) := Or.inl ⟨rfl, by rw [hq, Int.toNat_natCast]; exact hx⟩
    have HW : Hid ((Lit.float .f64 x).wf = true) := mk_wf hh
    clear hc hh
    go_enter Tryd.func34, Tryd.ntmps34
    go_wp2_with fail
    refine (at_r _ _ _ _).mono ?_
    rintro e w1 ⟨rfl, g1⟩
    have b1 : Below w.heap.size w w1 := (((Below.refl _ _).alloc (Nat.le_refl _) _).alloc (by simp) _).trans (g1.mono (by simp <;> omega))
    have h1 : w1.heap[w.heap.size]? = some (.cells c 37 (0, 0)) := (g1.block _ (by simp <;> omega)).trans (rows2 w _ _).1
    clear g1
    have r1 : w1.cell? ⟨w.heap.size, 117 + q, none⟩ = some (.float .f64 x) := by rw [cell_of_row _ _ _ _ _ _ h1]; exact hx
    rw [hq]
    clear hq
    go_wp2
    go_ret
    exact ⟨x, rfl, HV.out, HW.out, b1⟩
  · have e10 : (k == 10) = false := by simp [hk]
    have HK : Hid (k ≠ 10) := hk
    clear hk hc
    go_enter Tryd.func34, Tryd.ntmps34
    go_wp2_with fail
    refine (spec_arg k n p _).mono ?_
    rintro e w1 ⟨v, rfl, hv, hf, g1⟩
    have HV : Hid (MRv c k n p v) := Or.inr ⟨HK.out, hv⟩
    have HW : Hid ((Lit.float .f64 v).wf = true) := hf
    have b1 : Below w.heap.size w w1 := (((Below.refl _ _).alloc (Nat.le_refl _) _).alloc (by simp) _).trans (g1.mono (by simp <;> omega))
    clear g1 hv hf
    go_wp2
    go_ret
    exact ⟨v, rfl, HV.out, HW.out, b1⟩

set_option maxRecDepth 10000 in
set_option maxHeartbeats 1000000 in
theorem law_real (c : Array Value) (k n p : Int) (w : World) (hc : MemOk c) (hk : (Lit.int .i64 k).wf = true) (hn : (Lit.int .i64 n).wf = true) (hp : (Lit.int .i64 p).wf = true) (hT : KT w) :
    Calls Tryd.prog 10 #[.agg c, .agg #[.int .i64 k, .int .i64 n, .int .i64 p]] w fun e w' => e = .returned (.bool true) ∧ Below w.heap.size w w' := by
  have HC : Hid (MemOk c) := hc
  have HT : Hid (KT w) := hT
  have HI : Hid ((Tryd.prog.info? 62).map (·.size) = some c.size) := by rw [HC.out.size]; exact mk_info
  clear hc hT hk hn hp
  go_enter Tryd.func10, Tryd.ntmps10
  go_upto_region 1 with fail
  have hA := (rows2 w (.cells c 62) (.cells #[.int .i64 k, .int .i64 n, .int .i64 p] 63)).1
  have hB := (rows2 w (.cells c 62) (.cells #[.int .i64 k, .int .i64 n, .int .i64 p] 63)).2
  have hb : Below w.heap.size w ((w.alloc (.cells c 62)).alloc (.cells #[.int .i64 k, .int .i64 n, .int .i64 p] 63)) := ((Below.refl _ _).alloc (Nat.le_refl _) _).alloc (by simp) _
  generalize ((w.alloc (.cells c 62)).alloc (.cells #[.int .i64 k, .int .i64 n, .int .i64 p] 63)) = w0 at hA hB hb ⊢
  obtain ⟨S, HS⟩ : ∃ S : World → Prop, Hid (∀ W, S W ↔ (W.heap[w.heap.size]? = some (.cells c 62 (0, 0)) ∧ W.heap[w.heap.size + 1]? = some (.cells #[.int .i64 k, .int .i64 n, .int .i64 p] 63 (0, 0)) ∧ Below w.heap.size w W)) := ⟨_, fun W => Iff.rfl⟩
  have hSc : Hid (∀ W W', S W → Below W.heap.size W W' → S W') := fun W W' h g => by
    have h := (HS.out W).1 h
    have l1 := (Array.getElem?_eq_some_iff.1 h.2.1).1
    exact (HS.out W').2 ⟨(g.block _ (by omega)).trans h.1, (g.block _ (by omega)).trans h.2.1, h.2.2.trans (g.mono h.2.2.size)⟩
  have hL1 : Hid (∀ W, S W → (loadVar 62 ⟨w.heap.size, 0, none⟩).run Tryd.prog W = .ok (.agg c) W) := fun W h => load_all ((HS.out W).1 h).1 _ _ Tryd.underlying62 rfl HI.out
  have hL2 : Hid (∀ W, S W → (loadVar 63 ⟨w.heap.size + 1, 0, none⟩).run Tryd.prog W = .ok (.agg #[.int .i64 k, .int .i64 n, .int .i64 p]) W) := fun W h => load_all ((HS.out W).1 h).2.1 _ _ Tryd.underlying63 rfl mk_arg_info
  refine region_cut (R := fun a' W => ∃ x : Nat, S W ∧ MRv c k n p x ∧ (Lit.float .f64 x).wf = true ∧ a' = ⟨#[.agg c, .agg #[.int .i64 k, .int .i64 n, .int .i64 p], .pointer (some ⟨w.heap.size, 0, none⟩), .pointer (some ⟨w.heap.size + 1, 0, none⟩), .bool false, .float .f64 x, undef, .agg c, .agg c, .agg #[.int .i64 k, .int .i64 n, .int .i64 p], .agg #[.int .i64 k, .int .i64 n, .int .i64 p], .float .f64 x, undef, undef, undef, undef, undef, undef, undef, undef, undef], []⟩) ?_ ?_
  · have S0 : S w0.drew := (HS.out _).2 ⟨hA, hB, hb.drew⟩
    refine held_start (S := S) (by kernel_rfl) S0 6 rfl #[false, false, false, false, false, false] rfl (fun W0 S0 => ?_)
    refine tk_load' (i := 0) rfl (by kernel_rfl) (by kernel_rfl) (by kernel_rfl) (fun _ _ _ _ h => nomatch h.1) rfl 62 _ rfl _ _ rfl (.agg c) hL1.out S0 #[true, false, false, false, false, false] rfl ⟨#[.agg c, .agg #[.int .i64 k, .int .i64 n, .int .i64 p], .pointer (some ⟨w.heap.size, 0, none⟩), .pointer (some ⟨w.heap.size + 1, 0, none⟩), .bool false, undef, undef, .agg c, undef, undef, undef, undef, undef, undef, undef, undef, undef, undef, undef, undef, undef], []⟩ rfl ?_
    refine tk_load' (i := 2) rfl (by kernel_rfl) (by kernel_rfl) (by kernel_rfl) (fun _ _ _ _ h => nomatch h.1) rfl 63 _ rfl _ _ rfl (.agg #[.int .i64 k, .int .i64 n, .int .i64 p]) hL2.out S0 #[true, false, true, false, false, false] rfl ⟨#[.agg c, .agg #[.int .i64 k, .int .i64 n, .int .i64 p], .pointer (some ⟨w.heap.size, 0, none⟩), .pointer (some ⟨w.heap.size + 1, 0, none⟩), .bool false, undef, undef, .agg c, undef, .agg #[.int .i64 k, .int .i64 n, .int .i64 p], undef, undef, undef, undef, undef, undef, undef, undef, undef, undef, undef], []⟩ rfl ?_
    refine wpAnyH_all (rs := [1]) (by kernel_rfl) (by simp) (fun i hi => ?_)
    obtain rfl := List.mem_singleton.1 hi
    refine up_fcall' rfl rfl Tryd.func28 (by kernel_rfl) (by kernel_rfl) rfl [.agg c] rfl #[true, true, true, false, false, false] rfl (.agg c) ⟨#[.agg c, .agg #[.int .i64 k, .int .i64 n, .int .i64 p], .pointer (some ⟨w.heap.size, 0, none⟩), .pointer (some ⟨w.heap.size + 1, 0, none⟩), .bool false, undef, undef, .agg c, .agg c, .agg #[.int .i64 k, .int .i64 n, .int .i64 p], undef, undef, undef, undef, undef, undef, undef, undef, undef, undef, undef], []⟩ rfl _ (to_mem c HC.out _) ?_
    intro W1 b1
    have S1 := hSc.out _ _ S0 b1
    refine ⟨S1, ?_⟩
    refine wpAnyH_all (rs := [3]) (by kernel_rfl) (by simp) (fun i hi => ?_)
    obtain rfl := List.mem_singleton.1 hi
    refine up_fcall' rfl rfl Tryd.func29 (by kernel_rfl) (by kernel_rfl) rfl [.agg #[.int .i64 k, .int .i64 n, .int .i64 p]] rfl #[true, true, true, true, false, false] rfl (.agg #[.int .i64 k, .int .i64 n, .int .i64 p]) ⟨#[.agg c, .agg #[.int .i64 k, .int .i64 n, .int .i64 p], .pointer (some ⟨w.heap.size, 0, none⟩), .pointer (some ⟨w.heap.size + 1, 0, none⟩), .bool false, undef, undef, .agg c, .agg c, .agg #[.int .i64 k, .int .i64 n, .int .i64 p], .agg #[.int .i64 k, .int .i64 n, .int .i64 p], undef, undef, undef, undef, undef, undef, undef, undef, undef, undef], []⟩ rfl _ (to_arg k n p _) ?_
    intro W2 b2
    have S2 := hSc.out _ _ S1 b2
    refine ⟨S2, ?_⟩
    refine wpAnyH_all (rs := [4]) (by kernel_rfl) (by simp) (fun i hi => ?_)
    obtain rfl := List.mem_singleton.1 hi
    refine up_fcallV rfl rfl Tryd.func34 (by kernel_rfl) (by kernel_rfl) rfl [.agg c, .agg #[.int .i64 k, .int .i64 n, .int .i64 p]] rfl #[true, true, true, true, true, false] rfl (fun v => ⟨#[.agg c, .agg #[.int .i64 k, .int .i64 n, .int .i64 p], .pointer (some ⟨w.heap.size, 0, none⟩), .pointer (some ⟨w.heap.size + 1, 0, none⟩), .bool false, undef, undef, .agg c, .agg c, .agg #[.int .i64 k, .int .i64 n, .int .i64 p], .agg #[.int .i64 k, .int .i64 n, .int .i64 p], v, undef, undef, undef, undef, undef, undef, undef, undef, undef], []⟩) (fun _ => rfl) (fun v W => ∃ x, v = .float .f64 x ∧ MRv c k n p x ∧ (Lit.float .f64 x).wf = true ∧ Below W2.heap.size W2 W) ((real_s c HC.out k n p _).mono fun e W h => ?_) ?_
    · obtain ⟨v, he, h⟩ := h
      exact ⟨_, he, v, rfl, h⟩
    rintro _ W3 ⟨x, rfl, hx1, hx2, b3⟩
    have S3 := hSc.out _ _ S2 b3
    refine ⟨S3, ?_⟩
    refine tk_assign' (i := 5) rfl (by kernel_rfl) (by kernel_rfl) (by kernel_rfl) (fun _ _ _ _ h => nomatch h.1) rfl _ rfl _ rfl S3 #[true, true, true, true, true, true] rfl ⟨#[.agg c, .agg #[.int .i64 k, .int .i64 n, .int .i64 p], .pointer (some ⟨w.heap.size, 0, none⟩), .pointer (some ⟨w.heap.size + 1, 0, none⟩), .bool false, .float .f64 x, undef, .agg c, .agg c, .agg #[.int .i64 k, .int .i64 n, .int .i64 p], .agg #[.int .i64 k, .int .i64 n, .int .i64 p], .float .f64 x, undef, undef, undef, undef, undef, undef, undef, undef, undef], []⟩ rfl ?_
    exact wpAnyH_done (by kernel_rfl) ⟨rfl, x, S3, hx1, hx2, rfl⟩ _
  rintro a1 w1 ⟨x, h1, hx, hxf, rfl⟩
  obtain ⟨hA, hB, hb⟩ := (HS.out w1).1 h1
  have HX : Hid (MRv c k n p x) := hx
  have HXF : Hid ((Lit.float .f64 x).wf = true) := hxf
  clear h1 hx hxf
  go_upto_region 2 with fail
  refine region_cut (R := fun a' W => ∃ y : Nat, S W ∧ MRv c k n p y ∧ (Lit.float .f64 y).wf = true ∧ a' = ⟨#[.agg c, .agg #[.int .i64 k, .int .i64 n, .int .i64 p], .pointer (some ⟨w.heap.size, 0, none⟩), .pointer (some ⟨w.heap.size + 1, 0, none⟩), .bool false, .float .f64 x, .float .f64 y, .agg c, .agg c, .agg #[.int .i64 k, .int .i64 n, .int .i64 p], .agg #[.int .i64 k, .int .i64 n, .int .i64 p], .float .f64 x, .agg c, .agg c, .agg #[.int .i64 k, .int .i64 n, .int .i64 p], .agg #[.int .i64 k, .int .i64 n, .int .i64 p], .float .f64 y, undef, undef, undef, undef], []⟩) ?_ ?_
  · have S0 : S w1.drew := (HS.out _).2 ⟨hA, hB, hb.drew⟩
    refine held_start (S := S) (by kernel_rfl) S0 6 rfl #[false, false, false, false, false, false] rfl (fun W0 S0 => ?_)
    refine tk_load' (i := 0) rfl (by kernel_rfl) (by kernel_rfl) (by kernel_rfl) (fun _ _ _ _ h => nomatch h.1) rfl 62 _ rfl _ _ rfl (.agg c) hL1.out S0 #[true, false, false, false, false, false] rfl ⟨#[.agg c, .agg #[.int .i64 k, .int .i64 n, .int .i64 p], .pointer (some ⟨w.heap.size, 0, none⟩), .pointer (some ⟨w.heap.size + 1, 0, none⟩), .bool false, .float .f64 x, undef, .agg c, .agg c, .agg #[.int .i64 k, .int .i64 n, .int .i64 p], .agg #[.int .i64 k, .int .i64 n, .int .i64 p], .float .f64 x, .agg c, undef, undef, undef, undef, undef, undef, undef, undef], []⟩ rfl ?_
    refine tk_load' (i := 2) rfl (by kernel_rfl) (by kernel_rfl) (by kernel_rfl) (fun _ _ _ _ h => nomatch h.1) rfl 63 _ rfl _ _ rfl (.agg #[.int .i64 k, .int .i64 n, .int .i64 p]) hL2.out S0 #[true, false, true, false, false, false] rfl ⟨#[.agg c, .agg #[.int .i64 k, .int .i64 n, .int .i64 p], .pointer (some ⟨w.heap.size, 0, none⟩), .pointer (some ⟨w.heap.size + 1, 0, none⟩), .bool false, .float .f64 x, undef, .agg c, .agg c, .agg #[.int .i64 k, .int .i64 n, .int .i64 p], .agg #[.int .i64 k, .int .i64 n, .int .i64 p], .float .f64 x, .agg c, undef, .agg #[.int .i64 k, .int .i64 n, .int .i64 p], undef, undef, undef, undef, undef, undef], []⟩ rfl ?_
    refine wpAnyH_all (rs := [1]) (by kernel_rfl) (by simp) (fun i hi => ?_)
    obtain rfl := List.mem_singleton.1 hi
    refine up_fcall' rfl rfl Tryd.func28 (by kernel_rfl) (by kernel_rfl) rfl [.agg c] rfl #[true, true, true, false, false, false] rfl (.agg c) ⟨#[.agg c, .agg #[.int .i64 k, .int .i64 n, .int .i64 p], .pointer (some ⟨w.heap.size, 0, none⟩), .pointer (some ⟨w.heap.size + 1, 0, none⟩), .bool false, .float .f64 x, undef, .agg c, .agg c, .agg #[.int .i64 k, .int .i64 n, .int .i64 p], .agg #[.int .i64 k, .int .i64 n, .int .i64 p], .float .f64 x, .agg c, .agg c, .agg #[.int .i64 k, .int .i64 n, .int .i64 p], undef, undef, undef, undef, undef, undef], []⟩ rfl _ (to_mem c HC.out _) ?_
    intro W1 b1
    have S1 := hSc.out _ _ S0 b1
    refine ⟨S1, ?_⟩
    refine wpAnyH_all (rs := [3]) (by kernel_rfl) (by simp) (fun i hi => ?_)
    obtain rfl := List.mem_singleton.1 hi
    refine up_fcall' rfl rfl Tryd.func29 (by kernel_rfl) (by kernel_rfl) rfl [.agg #[.int .i64 k, .int .i64 n, .int .i64 p]] rfl #[true, true, true, true, false, false] rfl (.agg #[.int .i64 k, .int .i64 n, .int .i64 p]) ⟨#[.agg c, .agg #[.int .i64 k, .int .i64 n, .int .i64 p], .pointer (some ⟨w.heap.size, 0, none⟩), .pointer (some ⟨w.heap.size + 1, 0, none⟩), .bool false, .float .f64 x, undef, .agg c, .agg c, .agg #[.int .i64 k, .int .i64 n, .int .i64 p], .agg #[.int .i64 k, .int .i64 n, .int .i64 p], .float .f64 x, .agg c, .agg c, .agg #[.int .i64 k, .int .i64 n, .int .i64 p], .agg #[.int .i64 k, .int .i64 n, .int .i64 p], undef, undef, undef, undef, undef], []⟩ rfl _ (to_arg k n p _) ?_
    intro W2 b2
    have S2 := hSc.out _ _ S1 b2
    refine ⟨S2, ?_⟩
    refine wpAnyH_all (rs := [4]) (by kernel_rfl) (by simp) (fun i hi => ?_)
    obtain rfl := List.mem_singleton.1 hi
    refine up_fcallV rfl rfl Tryd.func27 (by kernel_rfl) (by kernel_rfl) rfl [.agg c, .agg #[.int .i64 k, .int .i64 n, .int .i64 p]] rfl #[true, true, true, true, true, false] rfl (fun v => ⟨#[.agg c, .agg #[.int .i64 k, .int .i64 n, .int .i64 p], .pointer (some ⟨w.heap.size, 0, none⟩), .pointer (some ⟨w.heap.size + 1, 0, none⟩), .bool false, .float .f64 x, undef, .agg c, .agg c, .agg #[.int .i64 k, .int .i64 n, .int .i64 p], .agg #[.int .i64 k, .int .i64 n, .int .i64 p], .float .f64 x, .agg c, .agg c, .agg #[.int .i64 k, .int .i64 n, .int .i64 p], .agg #[.int .i64 k, .int .i64 n, .int .i64 p], v, undef, undef, undef, undef], []⟩) (fun _ => rfl) (fun v W => ∃ x, v = .float .f64 x ∧ MRv c k n p x ∧ (Lit.float .f64 x).wf = true ∧ Below W2.heap.size W2 W) ((real_i c HC.out k n p _ (HT.out.later ((HS.out _).1 S2).2.2)).mono fun e W h => ?_) ?_
    · obtain ⟨v, he, h⟩ := h
      exact ⟨_, he, v, rfl, h⟩
    rintro _ W3 ⟨y, rfl, hx1, hx2, b3⟩
    have S3 := hSc.out _ _ S2 b3
    refine ⟨S3, ?_⟩
    refine tk_assign' (i := 5) rfl (by kernel_rfl) (by kernel_rfl) (by kernel_rfl) (fun _ _ _ _ h => nomatch h.1) rfl _ rfl _ rfl S3 #[true, true, true, true, true, true] rfl ⟨#[.agg c, .agg #[.int .i64 k, .int .i64 n, .int .i64 p], .pointer (some ⟨w.heap.size, 0, none⟩), .pointer (some ⟨w.heap.size + 1, 0, none⟩), .bool false, .float .f64 x, .float .f64 y, .agg c, .agg c, .agg #[.int .i64 k, .int .i64 n, .int .i64 p], .agg #[.int .i64 k, .int .i64 n, .int .i64 p], .float .f64 x, .agg c, .agg c, .agg #[.int .i64 k, .int .i64 n, .int .i64 p], .agg #[.int .i64 k, .int .i64 n, .int .i64 p], .float .f64 y, undef, undef, undef, undef], []⟩ rfl ?_
    exact wpAnyH_done (by kernel_rfl) ⟨rfl, y, S3, hx1, hx2, rfl⟩ _
  rintro a2 w2 ⟨y, h2, hy, hyf, rfl⟩
  obtain ⟨hA, hB, hb⟩ := (HS.out w2).1 h2
  have HSM : Hid (Same y x) := mrv_same hy HX.out
  have HYF : Hid ((Lit.float .f64 y).wf = true) := hyf
  clear h2 hy hyf hA hB hSc hL1 hL2
  go_wp2_with fail
  refine (same_r y x _ HYF.out HSM.out).mono ?_
  rintro e w3 ⟨rfl, rfl⟩
  go_wp2
  go_ret
  exact ⟨rfl, hb⟩
end Go.Proofs.YthjhnphhgbdkgaaDoor
