/- ActStart, the program's and the specification's; the law FnExactActStart. -/
import Derived.Test.YtlpoplnghfohmaaNb
import Derived.Deep.RegionLaw
namespace Go.Proofs.Ytlpoplnghfohmaa
open Go.RowKit
set_option linter.unusedVariables false

def wordAt (c : Array Value) (i : Nat) : Int := match c[i]? with | some (.int _ n) => n | _ => 0
theorem wordAt_of {c : Array Value} {i : Nat} {k : IntKind} {n : Int} (h : c[i]? = some (.int k n)) : wordAt c i = n := by simp [wordAt, h]

theorem step_copy_row {P : Program} {ops : Array Oper} {o : Oper} {a : Act} {w : World} {K : Act → World → Prop} {Q : Exit → Act → World → Prop} {E : Prop} (hgd : o.guard = none) (d s : Operand) (dT sT : TypeId)
    (ho : o.op = .call { callee := .builtin .copy, args := #[d, s], argTypes := #[dT, sT] }) (elem : TypeId) (hu : P.underlying dT = some (.slice elem)) (hsz : (P.info? elem).map (·.size) = some 1)
    (g off dLen dCap : Nat) (ad : Addr) (sLen sCap : Nat) (hd : a.eval d = .slice (some ⟨g, off, none⟩) dLen dCap) (hs : a.eval s = .slice (some ad) sLen sCap)
    (cur : Array Value) (t : TypeId) (hg : w.heap[g]? = some (.cells cur t (0, 0))) (cs : List Value) (hn : cs.length = Nat.min sLen dLen)
    (hsrc : ∀ j v, cs[j]? = some v → w.cell? (ad.add j) = some v) (hfit : off + cs.length ≤ cur.size) (h1 : ∀ v ∈ cs, v.oneCell' = true)
    (C : Array Value) (hC : (splice cur.toList off cs).toArray = C) (h : K (a.put o.dst (goInt cs.length)) (w.setRow g C)) :
    if Region.wanted o (yielded ops a.tmps) = true then Oper.wp P o a w K Q else E := by
  have hw : Region.wanted o (yielded ops a.tmps) = true := by simp [Region.wanted, hgd]
  rw [if_pos hw]
  have hrun := run_copy_row (P := P) w dT sT o.type elem g off dLen dCap ad sLen sCap cur t cs hu hsz hg hn hsrc hfit h1
  rw [List.append_assoc, show (cur.toList.take off ++ (cs ++ cur.toList.drop (off + cs.length))).toArray = C from hC] at hrun
  unfold Oper.wp
  simp [execOp, ho, resolve, invoke, builtin, hd, hs, hrun, Result.andThen]
  exact h

set_option maxRecDepth 10000 in
theorem splice_four (c : Array Value) (hc : c.size = 136) (a0 a1 a2 a3 : Value) : (splice c.toList 129 [a0, a1, a2, a3]).toArray = (((c.setIfInBounds 129 a0).setIfInBounds 130 a1).setIfInBounds 131 a2).setIfInBounds 132 a3 := by
  apply Array.ext_getElem?
  intro j
  have hl : c.toList.length = 136 := by simpa using hc
  simp only [splice, List.getElem?_toArray, List.length_cons, List.length_nil]
  rw [List.getElem?_append, List.getElem?_append, List.length_take, hl]
  simp only [List.getElem?_take, List.getElem?_drop, List.length_cons, List.length_nil]
  by_cases h0 : j < 129
  · rw [if_pos (by omega), if_pos h0, Array.getElem?_toList, Array.getElem?_setIfInBounds_ne (by omega), Array.getElem?_setIfInBounds_ne (by omega), Array.getElem?_setIfInBounds_ne (by omega), Array.getElem?_setIfInBounds_ne (by omega)]
  · rw [if_neg (by omega)]
    by_cases h1 : j < 133
    · rw [if_pos (by omega)]
      rcases (by omega : j = 129 ∨ j = 130 ∨ j = 131 ∨ j = 132) with rfl | rfl | rfl | rfl
      · rw [Array.getElem?_setIfInBounds_ne (by omega), Array.getElem?_setIfInBounds_ne (by omega), Array.getElem?_setIfInBounds_ne (by omega), Array.getElem?_setIfInBounds_self_of_lt (by first | omega | (simp only [Array.size_setIfInBounds]; omega))]; simp
      · rw [Array.getElem?_setIfInBounds_ne (by omega), Array.getElem?_setIfInBounds_ne (by omega), Array.getElem?_setIfInBounds_self_of_lt (by first | omega | (simp only [Array.size_setIfInBounds]; omega))]; simp
      · rw [Array.getElem?_setIfInBounds_ne (by omega), Array.getElem?_setIfInBounds_self_of_lt (by first | omega | (simp only [Array.size_setIfInBounds]; omega))]; simp
      · rw [Array.getElem?_setIfInBounds_self_of_lt (by first | omega | (simp only [Array.size_setIfInBounds]; omega))]; simp
    · rw [if_neg (by omega), Array.getElem?_toList, Array.getElem?_setIfInBounds_ne (by omega), Array.getElem?_setIfInBounds_ne (by omega), Array.getElem?_setIfInBounds_ne (by omega), Array.getElem?_setIfInBounds_ne (by omega)]
      congr 1
      omega

set_option maxRecDepth 10000 in
set_option maxHeartbeats 1000000 in
theorem start_i (c : Array Value) (hc : MemOk c) (x d : Int) (f0 f1 f2 f3 : Nat) (w : World) (hd : 0 ≤ d ∧ d < 65536) : Calls Try.prog 12 #[.agg c, .agg #[.int .u32 x, .int .u16 d, .float .f64 f0, .float .f64 f1, .float .f64 f2, .float .f64 f3]] w fun e w' => e = .returned (.agg (begun c x ((wordAt c 133 + d) % 4294967296) f0 f1 f2 f3)) ∧ Below w.heap.size w w' := by
  obtain ⟨v0, x0, -⟩ := hc.u32 (i := 0) (by omega) rfl
  obtain ⟨v1, x1, q0, q1⟩ := hc.u32 (i := 133) (by omega) rfl
  obtain ⟨v2, x2⟩ := hc.bool (i := 135) (by omega) rfl
  rw [wordAt_of x1]
  obtain ⟨d0, d1⟩ := hd
  have HC : Hid (MemOk c) := hc
  have hz := zero_mem.1
  obtain ⟨Z, HZ⟩ : ∃ Z, Hid (Z = memZero) := ⟨_, rfl⟩
  rw [← HZ.out] at hz
  have HZs : Hid (Z.size = 136) := (by rw [HZ.out, memZero_size] : Z.size = 136)
  obtain ⟨C, HCC⟩ : ∃ C, Hid (C = begun c x ((v1 + d) % 4294967296) f0 f1 f2 f3) := ⟨_, rfl⟩
  rw [← HCC.out]
  have HCs : Hid (C.size = 136) := (by rw [HCC.out]; simp [begun]; exact hc.size : C.size = 136)
  have HCo : Hid (C.all (·.oneCell') = true) := (by rw [HCC.out]; exact na_one (na_one (na_one (na_one (na_one (na_one (na_one hc.one _ rfl) _ rfl) _ rfl) _ rfl) _ rfl) _ rfl) _ rfl : C.all (·.oneCell') = true)
  have HI : Hid ((Try.prog.info? 42).map (·.size) = some C.size) := (by rw [HCs.out]; exact zero_mem.2 : (Try.prog.info? 42).map (·.size) = some C.size)
  clear hc
  obtain ⟨D, HD⟩ : ∃ D, Hid (D = ((c.setIfInBounds 0 (.int .u32 x)).setIfInBounds 133 (.int .u32 ((v1 + d) % 4294967296))).setIfInBounds 135 (.bool false)) := ⟨_, rfl⟩
  have HDs : Hid (D.size = 136) := (by rw [HD.out]; simpa using HC.out.size : D.size = 136)
  have HDC : Hid ((splice D.toList 129 [.float .f64 f0, .float .f64 f1, .float .f64 f2, .float .f64 f3]).toArray = C) := by
    rw [HCC.out, splice_four D HDs.out, HD.out]; rfl
  go_enter Try.func12, Try.ntmps12
  go_upto_region 4 with fail
  rw [← HD.out]
  have hA := (rows3 w (.cells D 42) (.cells #[.int .u32 x, .int .u16 d, .float .f64 f0, .float .f64 f1, .float .f64 f2, .float .f64 f3] 57) (.cells Z 42)).1
  have hB := (rows3 w (.cells D 42) (.cells #[.int .u32 x, .int .u16 d, .float .f64 f0, .float .f64 f1, .float .f64 f2, .float .f64 f3] 57) (.cells Z 42)).2.1
  have hE := (rows3 w (.cells D 42) (.cells #[.int .u32 x, .int .u16 d, .float .f64 f0, .float .f64 f1, .float .f64 f2, .float .f64 f3] 57) (.cells Z 42)).2.2
  have hb : Below w.heap.size w (((w.alloc (.cells D 42)).alloc (.cells #[.int .u32 x, .int .u16 d, .float .f64 f0, .float .f64 f1, .float .f64 f2, .float .f64 f3] 57)).alloc (.cells Z 42)) := (((Below.refl _ _).alloc (Nat.le_refl _) _).alloc (by simp) _).alloc (by simp <;> omega) _
  generalize (((w.alloc (.cells D 42)).alloc (.cells #[.int .u32 x, .int .u16 d, .float .f64 f0, .float .f64 f1, .float .f64 f2, .float .f64 f3] 57)).alloc (.cells Z 42)) = W0 at hA hB hE hb ⊢
  have HS : Hid (∀ j v, ([.float .f64 f0, .float .f64 f1, .float .f64 f2, .float .f64 f3] : List Value)[j]? = some v → W0.drew.cell? ((⟨w.heap.size + 1, 2, none⟩ : Addr).add j) = some v) := fun j v hv => by
    have : W0.drew.heap[w.heap.size + 1]? = some (.cells #[.int .u32 x, .int .u16 d, .float .f64 f0, .float .f64 f1, .float .f64 f2, .float .f64 f3] 57 (0, 0)) := hB
    rcases (by have := (List.getElem?_eq_some_iff.1 hv).1; simp at this; omega : j = 0 ∨ j = 1 ∨ j = 2 ∨ j = 3) with rfl | rfl | rfl | rfl
    all_goals (rw [Addr.add_lit, cell_of_row _ _ _ _ _ _ this]; exact hv)
  have HB0 : Hid (Below w.heap.size w W0.drew) := hb.drew
  have HF : Hid (129 + 4 ≤ D.size) := (by rw [HDs.out]; decide : 129 + 4 ≤ D.size)
  have HA : Hid (W0.drew.heap[w.heap.size]? = some (.cells D 42 (0, 0))) := hA
  have HEE : Hid (W0.drew.heap[w.heap.size + 1 + 1]? = some (.cells Z 42 (0, 0))) := hE
  have HR1 : Hid ((W0.drew.setRow w.heap.size C).heap[w.heap.size]? = some (.cells C 42 (0, 0))) := row_set HA.out C
  have HR3 : Hid ((W0.drew.setRow w.heap.size C).heap[w.heap.size + 1 + 1]? = some (.cells Z 42 (0, 0))) := row_beside HEE.out _ (by omega) _
  have HB1 : Hid (Below w.heap.size w ((W0.drew.setRow w.heap.size C).setRow (w.heap.size + 1 + 1) C)) := below_setRow (below_setRow hb.drew (Nat.le_refl _) _) (by omega) _
  go_region_law (refine step_copy_row rfl (.tmp 17) (.tmp 19) 72 72 rfl 39 Try.underlying72 (by kernel_rfl) w.heap.size 129 _ _ _ _ _ rfl rfl D 42 HA.out [.float .f64 f0, .float .f64 f1, .float .f64 f2, .float .f64 f3] rfl HS.out HF.out (by simp [Value.oneCell']) C HDC.out ?_)
  clear hA hB hE hb HS HA HEE HB0 HF
  go_wp2_with (first | (refine wpL_load rfl 42 _ rfl _ _ rfl _ (load_all HR1.out _ _ Try.underlying42 rfl HI.out) ?_) | (refine wpL_store rfl 42 _ _ rfl _ _ rfl _ rfl _ (store_all HR3.out _ _ (HZs.out.trans HCs.out.symm) HI.out HCo.out) ?_) | exact ret_row rfl rfl (row_set HR3.out _) Try.underlying42 rfl HI.out rfl ⟨rfl, HB1.out⟩ | fail)

def upn (D : Array Value) (f0 f1 f2 f3 : Nat) (n : Nat) : Array Value := putAt D 129 (([.float .f64 f0, .float .f64 f1, .float .f64 f2, .float .f64 f3] : List Value).take n)
theorem upn_size (D : Array Value) (f0 f1 f2 f3 n : Nat) : (upn D f0 f1 f2 f3 n).size = D.size := putAt_size _ _ _
theorem upn_next (x d : Int) (D : Array Value) (f0 f1 f2 f3 n : Nat) (h : n < 4) : ∃ y : Nat, (#[.int .u32 x, .int .u16 d, .float .f64 f0, .float .f64 f1, .float .f64 f2, .float .f64 f3] : Array Value)[2 + n]? = some (.float .f64 y) ∧ (upn D f0 f1 f2 f3 n).setIfInBounds (129 + n) (.float .f64 y) = upn D f0 f1 f2 f3 (n + 1) := by
  rcases (by omega : n = 0 ∨ n = 1 ∨ n = 2 ∨ n = 3) with rfl | rfl | rfl | rfl
  all_goals exact ⟨_, rfl, rfl⟩

set_option maxRecDepth 10000 in
set_option maxHeartbeats 1000000 in
theorem start_s (c : Array Value) (hc : MemOk c) (x d : Int) (f0 f1 f2 f3 : Nat) (w : World) (hd : 0 ≤ d ∧ d < 65536) : Calls Try.prog 9 #[.agg c, .agg #[.int .u32 x, .int .u16 d, .float .f64 f0, .float .f64 f1, .float .f64 f2, .float .f64 f3]] w fun e w' => e = .returned (.agg (begun c x ((wordAt c 133 + d) % 4294967296) f0 f1 f2 f3)) ∧ Below w.heap.size w w' := by
  obtain ⟨v0, x0, -⟩ := hc.u32 (i := 0) (by omega) rfl
  obtain ⟨v1, x1, q0, q1⟩ := hc.u32 (i := 133) (by omega) rfl
  obtain ⟨v2, x2⟩ := hc.bool (i := 135) (by omega) rfl
  rw [wordAt_of x1]
  obtain ⟨d0, d1⟩ := hd
  have HC : Hid (MemOk c) := hc
  have hz := zero_mem.1
  obtain ⟨Z, HZ⟩ : ∃ Z, Hid (Z = memZero) := ⟨_, rfl⟩
  rw [← HZ.out] at hz
  have HZs : Hid (Z.size = 136) := (by rw [HZ.out, memZero_size] : Z.size = 136)
  obtain ⟨C, HCC⟩ : ∃ C, Hid (C = begun c x ((v1 + d) % 4294967296) f0 f1 f2 f3) := ⟨_, rfl⟩
  rw [← HCC.out]
  have HCs : Hid (C.size = 136) := (by rw [HCC.out]; simp [begun]; exact hc.size : C.size = 136)
  have HCo : Hid (C.all (·.oneCell') = true) := (by rw [HCC.out]; exact na_one (na_one (na_one (na_one (na_one (na_one (na_one hc.one _ rfl) _ rfl) _ rfl) _ rfl) _ rfl) _ rfl) _ rfl : C.all (·.oneCell') = true)
  have HI : Hid ((Try.prog.info? 42).map (·.size) = some C.size) := (by rw [HCs.out]; exact zero_mem.2 : (Try.prog.info? 42).map (·.size) = some C.size)
  clear hc
  obtain ⟨D, HD⟩ : ∃ D, Hid (D = ((c.setIfInBounds 0 (.int .u32 x)).setIfInBounds 133 (.int .u32 ((v1 + d) % 4294967296))).setIfInBounds 135 (.bool false)) := ⟨_, rfl⟩
  have HDs : Hid (D.size = 136) := (by rw [HD.out]; simpa using HC.out.size : D.size = 136)
  have HDC : Hid (upn D f0 f1 f2 f3 4 = C) := (by rw [HCC.out, HD.out]; rfl : upn D f0 f1 f2 f3 4 = C)
  go_enter Try.func9, Try.ntmps9
  go_wp2
  rw [← HD.out]
  go_loopg [5] 4 (fun g i wr => ∃ n : Nat, n + g = 4 ∧ i = .int .i64 n ∧ Below w.heap.size w wr ∧ wr.heap[w.heap.size]? = some (.cells (upn D f0 f1 f2 f3 n) 42 (0, 0)) ∧ wr.heap[w.heap.size + 1]? = some (.cells #[.int .u32 x, .int .u16 d, .float .f64 f0, .float .f64 f1, .float .f64 f2, .float .f64 f3] 57 (0, 0)) ∧ wr.heap[w.heap.size + 1 + 1]? = some (.cells Z 42 (0, 0)))
  case atStart =>
    exact ⟨0, by omega, rfl, (((Below.refl _ _).alloc (Nat.le_refl _) _).alloc (by simp) _).alloc (by simp <;> omega) _, (rows3 w _ _ _).1, (rows3 w _ _ _).2.1, (rows3 w _ _ _).2.2⟩
  case round =>
    obtain ⟨n, hn, rfl, hb, h1, h2, h3⟩ := hrel
    by_cases hlt : n < 4
    · have i1 : (n : Int) < 4 := by omega
      have i3 : (0 : Int) ≤ (n : Int) := by omega
      obtain ⟨y, hy, hnx⟩ := upn_next x d D f0 f1 f2 f3 n hlt
      have HNX : Hid ((upn D f0 f1 f2 f3 n).setIfInBounds (129 + n) (.float .f64 y) = upn D f0 f1 f2 f3 (n + 1)) := hnx
      have HB : Hid (Below w.heap.size w wr) := hb
      have H1 : Hid (wr.heap[w.heap.size]? = some (.cells (upn D f0 f1 f2 f3 n) 42 (0, 0))) := h1
      have H2 : Hid (wr.heap[w.heap.size + 1]? = some (.cells #[.int .u32 x, .int .u16 d, .float .f64 f0, .float .f64 f1, .float .f64 f2, .float .f64 f3] 57 (0, 0))) := h2
      have H3 : Hid (wr.heap[w.heap.size + 1 + 1]? = some (.cells Z 42 (0, 0))) := h3
      have r0 : wr.cell? ⟨w.heap.size + 1, 2 + n, none⟩ = some (.float .f64 y) := by rw [cell_of_row _ _ _ _ _ _ h2]; exact hy
      have c0 : wr.cell? ⟨w.heap.size, 117 + (12 + n), none⟩ = some ((upn D f0 f1 f2 f3 n)[129 + n]'(by rw [upn_size, HDs.out]; omega)) := by rw [show 117 + (12 + n) = 129 + n by omega, cell_of_row _ _ _ _ _ _ h1]; exact Array.getElem?_eq_getElem (by rw [upn_size, HDs.out]; omega)
      have f0' : wr.frozen? ⟨w.heap.size, 117 + (12 + n), none⟩ = false := by simp [World.frozen?, h1]
      have st0 : (store ⟨w.heap.size, 117 + (12 + n), none⟩ (.float .f64 y)).run Try.prog wr = .ok () (wr.setCell ⟨w.heap.size, 117 + (12 + n), none⟩ (.float .f64 y)) := by rw [run_store _ _ _ _ _ rfl, c0]; simp [f0']
      clear h1 h2 h3 hb hy hnx
      go_wp2
      go_roundg (gk - 1)
      case measure => omega
      case rel =>
        refine ⟨n + 1, by omega, by simp, HB.out.setCell (by simp) _, ?_, row_other H2.out _ _ (by omega) _, row_other H3.out _ _ (by omega) _⟩
        rw [← HNX.out, show 129 + n = 117 + (12 + n) by omega]
        exact row_put H1.out _ _
    · have i1 : ¬ ((n : Int) < 4) := by omega
      obtain rfl : n = 4 := by omega
      have HR1 : Hid (wr.heap[w.heap.size]? = some (.cells C 42 (0, 0))) := (by rw [← HDC.out]; exact h1 : wr.heap[w.heap.size]? = some (.cells C 42 (0, 0)))
      have HR3 : Hid (wr.heap[w.heap.size + 1 + 1]? = some (.cells Z 42 (0, 0))) := h3
      have HB : Hid (Below w.heap.size w (wr.setRow (w.heap.size + 1 + 1) C)) := below_setRow hb (by omega) _
      clear h1 h2 h3 hb
      go_wp2_with (first | (refine wpL_load rfl 42 _ rfl _ _ rfl _ (load_all HR1.out _ _ Try.underlying42 rfl HI.out) ?_) | (refine wpL_store rfl 42 _ _ rfl _ _ rfl _ rfl _ (store_all HR3.out _ _ (HZs.out.trans HCs.out.symm) HI.out HCo.out) ?_) | exact ret_row rfl rfl (row_set HR3.out _) Try.underlying42 rfl HI.out rfl ⟨rfl, HB.out⟩ | fail)
end Go.Proofs.Ytlpoplnghfohmaa
