/- TreeUses of the program. -/
import Derived.Test.YtocnhfecnhndgaaGr
import Derived.Test.YtocnhfecnhndgaaGg
namespace Go.Proofs.Ytocnhfecnhndgaa
open Go.RowKit Go.Shelf
set_option linter.unusedVariables false
attribute [local go_sem] Oper.semAt_some

noncomputable def uA (a x : ArgT) : Nat := (eqB x a).toNat
noncomputable def uE (a : ArgT) (e : ElemT) : Nat := (e.args.map (uA a)).sum
noncomputable def pUse (a : ArgT) : PartT → Nat
  | .inl (.mk _ e _) => uE a e
  | .inr (.mk _ coils _) => (coils.map (uE a)).sum
noncomputable def usP (a : ArgT) (ps : List PartT) : Nat := (ps.map (pUse a)).sum
theorem uA_le (a x : ArgT) : uA a x ≤ 1 := by unfold uA; cases eqB x a <;> decide
theorem sum_const_le {α : Type} (f : α → Nat) (h : ∀ x, f x ≤ 1) : ∀ xs : List α, (xs.map f).sum ≤ xs.length
  | [] => Nat.le_refl _
  | x :: xs => by
    have h1 := sum_const_le f h xs
    have h2 := h x
    simp only [List.map_cons, List.sum_cons, List.length_cons]; omega
theorem uE_le (a : ArgT) (e : ElemT) : uE a e ≤ wE e := sum_const_le _ (uA_le a) _
theorem usP_flat (a : ArgT) {α : Type} (f : α → List PartT) : ∀ xs : List α, usP a (xs.flatMap f) = (xs.map fun x => usP a (f x)).sum
  | [] => rfl
  | x :: xs => by
    have h := usP_flat a f xs
    simp only [usP, List.flatMap_cons, List.map_append, List.sum_append, List.map_cons, List.sum_cons] at h ⊢
    rw [h]
theorem usP_app (a : ArgT) (x y : List PartT) : usP a (x ++ y) = usP a x + usP a y := by simp [usP]

theorem mem2u {a b : Value} (ha : a.oneCell' = true) (hb : b.oneCell' = true) : ∀ x ∈ [a, b], x.oneCell' = true := by
  intro x hx
  simp at hx
  rcases hx with rfl | rfl <;> assumption
theorem ElemIs.cells {W : World} {lo : Nat} {t : ElemT} {cs : List Value} (h : ElemIs W lo t cs) : ∃ n0 n1, cs = [n0, n1] ∧ n0.oneCell' = true ∧ n1.oneCell' = true := by
  obtain ⟨v, rfl, hr⟩ := h
  exact ⟨_, _, rfl, rfl, hr.one⟩

set_option maxRecDepth 10000 in
set_option maxHeartbeats 2000000 in
theorem elemUses_i (k n p : Int) (e : ElemT) (cs : List Value) (w : World) (lo : Nat) (hv : ElemIs w lo e cs) (hbig : wE e ≤ 1048576) :
    Calls Try.prog 110 #[.agg cs.toArray, .agg #[.int .i64 k, .int .i64 n, .int .i64 p]] w fun r w' => r = .returned (.int .i64 (uE (k, n, p) e : Nat)) ∧ Below w.heap.size w w' := by
  obtain ⟨v, rfl, hr⟩ := hv
  obtain ⟨xs, Hxs⟩ : ∃ xs, Hid (xs = e.args) := ⟨_, rfl⟩
  unfold uE
  unfold wE at hbig
  rw [← Hxs.out] at hr hbig ⊢
  generalize e.op = op
  obtain ⟨a, cap, rfl, hl, hx⟩ := hr
  have HX : Hid (∀ j x, xs[j]? = some x → ∃ b o cs, a = some ⟨b, o, none⟩ ∧ lo ≤ b ∧ cs.length = 3 ∧ w.rangeAt b (o + j * 3) cs ∧ ArgIs x cs) := hx
  have HTot : Hid (∀ i, ((xs.take i).map (uA (k, n, p))).sum ≤ xs.length) := fun i => Nat.le_trans (sum_take_le _ _ _) (sum_const_le _ (uA_le _) _)
  obtain ⟨len, HL⟩ : ∃ len, Hid (len = xs.length) := ⟨_, rfl⟩
  rw [← HL.out] at hl hbig HTot ⊢
  have hk := rows2 w (.cells #[.int .i64 op, .slice a len cap] 45) (.cells #[.int .i64 k, .int .i64 n, .int .i64 p] 33)
  have HKb : Hid (((w.alloc (.cells #[.int .i64 op, .slice a len cap] 45)).alloc (.cells #[.int .i64 k, .int .i64 n, .int .i64 p] 33)).heap[w.heap.size + 1]? = some (.cells #[.int .i64 k, .int .i64 n, .int .i64 p] 33 (0, 0))) := hk.2
  clear hx hk
  go_enter Try.func110, Try.ntmps110
  go_wp2
  go_loopg [5, 11] len (fun g s i wr => ∃ c S : Nat, c + g = len ∧ i = .int .i64 c ∧ s = .int .i64 (S : Int) ∧ Hid (S = ((xs.take c).map (uA (k, n, p))).sum) ∧ S ≤ 1048576 ∧ Below w.heap.size w wr ∧ wr.heap[w.heap.size + 1]? = some (.cells #[.int .i64 k, .int .i64 n, .int .i64 p] 33 (0, 0)))
  case atStart => exact ⟨0, 0, by omega, rfl, rfl, (by simp : (0 : Nat) = ((xs.take 0).map (uA (k, n, p))).sum), by omega, ((Below.refl _ _).alloc (Nat.le_refl _) _).alloc (by simp) _, HKb.out⟩
  case round =>
    obtain ⟨c, S, hn, rfl, rfl, HS, hS, hb, hk1⟩ := hrel
    by_cases hlt : c < len
    · have i2 : (c : Int) < (len : Int) := by omega
      have i3 : (0 : Int) ≤ (c : Int) := by omega
      obtain ⟨x, hxn⟩ : ∃ x, xs[c]? = some x := ⟨_, List.getElem?_eq_getElem (by have := HL.out; omega)⟩
      obtain ⟨b, o, cs, rfl, hlo, hcs, hrg, hR⟩ := HX.out c x hxn
      obtain rfl : cs = _ := hR
      have x0 : wr.cell? ⟨b, o + c * 3, none⟩ = some (.int .i64 x.1) := (Keeps.of_below hb 0) _ _ _ (Nat.zero_le _) (hrg 0 _ rfl)
      have x1 : wr.cell? ⟨b, o + c * 3 + 1, none⟩ = some (.int .i64 x.2.1) := (Keeps.of_below hb 0) _ _ _ (Nat.zero_le _) (hrg 1 _ rfl)
      have x2 : wr.cell? ⟨b, o + c * 3 + 2, none⟩ = some (.int .i64 x.2.2) := (Keeps.of_below hb 0) _ _ _ (Nat.zero_le _) (hrg 2 _ rfl)
      have lt1 : w.heap.size + 1 < wr.heap.size := (Array.getElem?_eq_some_iff.1 hk1).1
      have k2 : (wr.alloc (.cells #[.int .i64 x.1, .int .i64 x.2.1, .int .i64 x.2.2] 33)).heap[w.heap.size + 1]? = some (.cells #[.int .i64 k, .int .i64 n, .int .i64 p] 33 (0, 0)) := (((Below.refl wr.heap.size wr).alloc (Nat.le_refl _) _).block _ lt1).trans hk1
      have d0 : (wr.alloc (.cells #[.int .i64 x.1, .int .i64 x.2.1, .int .i64 x.2.2] 33)).cell? ⟨w.heap.size + 1, 0, none⟩ = some (.int .i64 k) := (cell_of_row _ _ _ _ _ _ k2).trans rfl
      have d1 : (wr.alloc (.cells #[.int .i64 x.1, .int .i64 x.2.1, .int .i64 x.2.2] 33)).cell? ⟨w.heap.size + 1, 1, none⟩ = some (.int .i64 n) := (cell_of_row _ _ _ _ _ _ k2).trans rfl
      have d2 : (wr.alloc (.cells #[.int .i64 x.1, .int .i64 x.2.1, .int .i64 x.2.2] 33)).cell? ⟨w.heap.size + 1, 2, none⟩ = some (.int .i64 p) := (cell_of_row _ _ _ _ _ _ k2).trans rfl
      have b2 : Below w.heap.size w (wr.alloc (.cells #[.int .i64 x.1, .int .i64 x.2.1, .int .i64 x.2.2] 33)) := hb.alloc hb.size _
      have HB2 : Hid (Below w.heap.size w (wr.alloc (.cells #[.int .i64 x.1, .int .i64 x.2.1, .int .i64 x.2.2] 33)) ∧ (wr.alloc (.cells #[.int .i64 x.1, .int .i64 x.2.1, .int .i64 x.2.2] 33)).heap[w.heap.size + 1]? = some (.cells #[.int .i64 k, .int .i64 n, .int .i64 p] 33 (0, 0))) := ⟨b2, k2⟩
      have HS' : Hid (S + uA (k, n, p) x = ((xs.take (c + 1)).map (uA (k, n, p))).sum) := (by rw [sum_take _ _ _ _ hxn, HS.out] : S + uA (k, n, p) x = ((xs.take (c + 1)).map (uA (k, n, p))).sum)
      have hle : S + uA (k, n, p) x ≤ 1048576 := by rw [HS'.out]; have := HTot.out (c + 1); omega
      obtain ⟨r, hr, hr'⟩ := eqD_arg 9998 x.1 x.2.1 x.2.2 k n p
      have hrq : uA (k, n, p) x = r.toNat := by unfold uA; rw [eqB_iff hr']
      rw [hrq] at HS' hle
      have hS0 : (0 : Int) ≤ (S : Int) := by omega
      have hS1 : (S : Int) ≤ 1048576 := by omega
      clear hr' hrq hb hrg hcs hk1 k2 b2 HS hlo
      cases r with
      | true =>
        go_wp2
        go_roundg (gk - 1)
        case measure => omega
        case rel => exact ⟨c + 1, S + 1, by omega, by simp, by simp, HS', hle, HB2.out.1, HB2.out.2⟩
      | false =>
        go_wp2
        go_roundg (gk - 1)
        case measure => omega
        case rel => exact ⟨c + 1, S, by omega, by simp, rfl, HS', hS, HB2.out.1, HB2.out.2⟩
    · have i2 : ¬ ((c : Int) < (len : Int)) := by omega
      have HSt : Hid (S = (xs.map (uA (k, n, p))).sum) := (by rw [HS.out, List.take_of_length_le (by have := HL.out; omega)] : S = (xs.map (uA (k, n, p))).sum)
      go_wp2
      go_ret
      exact ⟨by rw [← HSt.out]; rfl, hb⟩

set_option maxHeartbeats 1000000 in
theorem netUses_i (k n p : Int) (c0 : Value) (cs : List Value) (c3 : Value) (e : ElemT) (w : World) (lo : Nat) (h0 : c0.oneCell' = true) (h3 : c3.oneCell' = true) (hv : ElemIs w lo e cs) (hbig : wE e ≤ 1048576) :
    Calls Try.prog 138 #[.agg ([c0] ++ cs ++ [c3]).toArray, .agg #[.int .i64 k, .int .i64 n, .int .i64 p]] w fun r w' => r = .returned (.int .i64 (uE (k, n, p) e : Nat)) ∧ Below w.heap.size w w' := by
  have HC : Hid (∀ W, Below w.heap.size w W → Calls Try.prog 110 #[.agg cs.toArray, .agg #[.int .i64 k, .int .i64 n, .int .i64 p]] W fun r w' => r = .returned (.int .i64 (uE (k, n, p) e : Nat)) ∧ Below W.heap.size W w') := fun W g => elemUses_i k n p e cs W lo (hv.move (Keeps.of_below g lo) (Nat.le_refl _)) hbig
  obtain ⟨v, rfl, hr⟩ := hv
  have h1 := hr.one
  generalize uE (k, n, p) e = u at HC ⊢
  generalize e.op = op at HC ⊢
  clear hr
  have b0 : Below w.heap.size w ((w.alloc (.cells #[c0, .int .i64 op, v, c3] 107)).alloc (.cells #[.int .i64 k, .int .i64 n, .int .i64 p] 33)) := ((Below.refl _ _).alloc (Nat.le_refl _) _).alloc (by simp) _
  show Calls Try.prog _ #[.agg #[c0, .int .i64 op, v, c3], _] w _
  go_enter Try.func138, Try.ntmps138
  go_wp2_with fail
  refine (HC.out _ b0).mono ?_
  rintro r w1 ⟨rfl, g1⟩
  have b1 := b0.trans (g1.mono b0.size)
  clear g1 b0
  go_wp2
  go_ret
  exact ⟨rfl, b1⟩

set_option maxRecDepth 10000 in
set_option maxHeartbeats 2000000 in
theorem armUses_i (k n p : Int) (n0 n1 n2 n3 n5 n6 v : Value) (o0 : n0.oneCell' = true) (o1 : n1.oneCell' = true) (o2 : n2.oneCell' = true) (o3 : n3.oneCell' = true) (o5 : n5.oneCell' = true) (o6 : n6.oneCell' = true) (xs : List ElemT) (w : World) (lo : Nat) (hv : ElemsIs w lo v xs) (hbig : xs.length + (xs.map wE).sum ≤ 1048576) :
    Calls Try.prog 108 #[.agg #[n0, n1, n2, n3, v, n5, n6], .agg #[.int .i64 k, .int .i64 n, .int .i64 p]] w fun r w' => r = .returned (.int .i64 ((xs.map (uE (k, n, p))).sum : Nat)) ∧ Below w.heap.size w w' := by
  have HC : Hid (∀ x cs, x ∈ xs → ∀ (W : World), ElemIs W lo x cs → Calls Try.prog 110 #[.agg cs.toArray, .agg #[.int .i64 k, .int .i64 n, .int .i64 p]] W fun r w' => r = .returned (.int .i64 (uE (k, n, p) x : Nat)) ∧ Below W.heap.size W w') := fun x cs hx W h => elemUses_i k n p x cs W lo h (by have := sum_mem wE xs x hx; omega)
  obtain ⟨a, cap, rfl, hl, hx⟩ := hv
  have HX : Hid (∀ j x, xs[j]? = some x → ∃ b o cs, a = some ⟨b, o, none⟩ ∧ lo ≤ b ∧ cs.length = 2 ∧ w.rangeAt b (o + j * 2) cs ∧ ElemIs w lo x cs) := hx
  have HTot : Hid (∀ i, ((xs.take i).map (uE (k, n, p))).sum ≤ 1048576) := fun i => by
    have h1 := sum_take_le (uE (k, n, p)) xs i
    have h2 := sum_le_sum (uE (k, n, p)) wE xs (fun x _ => uE_le _ x)
    omega
  obtain ⟨len, HL⟩ : ∃ len, Hid (len = xs.length) := ⟨_, rfl⟩
  rw [← HL.out] at hl hbig ⊢
  have hk := rows2 w (.cells #[n0, n1, n2, n3, .slice a len cap, n5, n6] 92) (.cells #[.int .i64 k, .int .i64 n, .int .i64 p] 33)
  have HKb : Hid (((w.alloc (.cells #[n0, n1, n2, n3, .slice a len cap, n5, n6] 92)).alloc (.cells #[.int .i64 k, .int .i64 n, .int .i64 p] 33)).heap[w.heap.size + 1]? = some (.cells #[.int .i64 k, .int .i64 n, .int .i64 p] 33 (0, 0))) := hk.2
  clear hx hk
  go_enter Try.func108, Try.ntmps108
  go_wp2
  go_loopg [5, 12] len (fun g s i wr => ∃ c S : Nat, c + g = len ∧ i = .int .i64 c ∧ s = .int .i64 (S : Int) ∧ Hid (S = ((xs.take c).map (uE (k, n, p))).sum) ∧ S ≤ 1048576 ∧ Below w.heap.size w wr ∧ wr.heap[w.heap.size + 1]? = some (.cells #[.int .i64 k, .int .i64 n, .int .i64 p] 33 (0, 0)))
  case atStart => exact ⟨0, 0, by omega, rfl, rfl, (by simp : (0 : Nat) = ((xs.take 0).map (uE (k, n, p))).sum), by omega, ((Below.refl _ _).alloc (Nat.le_refl _) _).alloc (by simp) _, HKb.out⟩
  case round =>
    obtain ⟨c, S, hn, rfl, rfl, HS, hS, hb, hk1⟩ := hrel
    by_cases hlt : c < len
    · have i2 : (c : Int) < (len : Int) := by omega
      have i3 : (0 : Int) ≤ (c : Int) := by omega
      obtain ⟨x, hxn⟩ : ∃ x, xs[c]? = some x := ⟨_, List.getElem?_eq_getElem (by have := HL.out; omega)⟩
      obtain ⟨b, o, cs, rfl, hlo, hcs, hrg, hR⟩ := HX.out c x hxn
      obtain ⟨x0, x1, rfl, y0, y1⟩ := id hR.cells
      have HL1 : Hid ((loadVar 45 ⟨b, o + c * 2, none⟩).run Try.prog wr = .ok (.agg #[x0, x1]) wr) := run_loadVar_mid wr b (o + c * 2) 45 [x0, x1] _ (fun i c hi => (Keeps.of_below hb 0) _ _ _ (Nat.zero_le _) (hrg i c hi)) Try.underlying45 rfl (by kernel_rfl)
      have HS1 : Hid ((storeVar 45 ⟨wr.heap.size, 0, none⟩ (.agg #[x0, x1])).run Try.prog (wr.alloc (.cells #[.int .i64 0, .slice none 0 0] 45)) = .ok () (wr.alloc (.cells #[x0, x1] 45))) := run_storeVar_new wr 45 _ _ (by kernel_rfl) rfl (all_one [x0, x1] (mem2u y0 y1))
      have lt1 : w.heap.size + 1 < wr.heap.size := (Array.getElem?_eq_some_iff.1 hk1).1
      have k2 : (wr.alloc (.cells #[x0, x1] 45)).heap[w.heap.size + 1]? = some (.cells #[.int .i64 k, .int .i64 n, .int .i64 p] 33 (0, 0)) := (((Below.refl wr.heap.size wr).alloc (Nat.le_refl _) _).block _ lt1).trans hk1
      have d0 : (wr.alloc (.cells #[x0, x1] 45)).cell? ⟨w.heap.size + 1, 0, none⟩ = some (.int .i64 k) := (cell_of_row _ _ _ _ _ _ k2).trans rfl
      have d1 : (wr.alloc (.cells #[x0, x1] 45)).cell? ⟨w.heap.size + 1, 1, none⟩ = some (.int .i64 n) := (cell_of_row _ _ _ _ _ _ k2).trans rfl
      have d2 : (wr.alloc (.cells #[x0, x1] 45)).cell? ⟨w.heap.size + 1, 2, none⟩ = some (.int .i64 p) := (cell_of_row _ _ _ _ _ _ k2).trans rfl
      have b2 : Below w.heap.size w (wr.alloc (.cells #[x0, x1] 45)) := hb.alloc hb.size _
      have HB2 : Hid (Below w.heap.size w (wr.alloc (.cells #[x0, x1] 45)) ∧ (wr.alloc (.cells #[x0, x1] 45)).heap[w.heap.size + 1]? = some (.cells #[.int .i64 k, .int .i64 n, .int .i64 p] 33 (0, 0))) := ⟨b2, k2⟩
      have HCx := HC.out x [x0, x1] (List.mem_of_getElem? hxn) (wr.alloc (.cells #[x0, x1] 45)) (hR.move (Keeps.of_below b2 lo) (Nat.le_refl _))
      have HS' : Hid (S + uE (k, n, p) x = ((xs.take (c + 1)).map (uE (k, n, p))).sum) := (by rw [sum_take _ _ _ _ hxn, HS.out] : S + uE (k, n, p) x = ((xs.take (c + 1)).map (uE (k, n, p))).sum)
      have hle : S + uE (k, n, p) x ≤ 1048576 := by rw [HS'.out]; exact HTot.out (c + 1)
      obtain ⟨q, Hq⟩ : ∃ q, Hid (q = uE (k, n, p) x) := ⟨_, rfl⟩
      rw [← Hq.out] at HCx HS' hle
      have HCy : Hid (Calls Try.prog 110 #[.agg #[x0, x1], .agg #[.int .i64 k, .int .i64 n, .int .i64 p]] (wr.alloc (.cells #[x0, x1] 45)) fun r w' => r = .returned (.int .i64 (q : Nat)) ∧ Below (wr.alloc (.cells #[x0, x1] 45)).heap.size (wr.alloc (.cells #[x0, x1] 45)) w') := HCx
      have hS0 : (0 : Int) ≤ (S : Int) + (q : Int) := by omega
      have hS1 : (S : Int) + (q : Int) ≤ 1048576 := by omega
      clear hb hrg hcs hk1 k2 b2 HS hlo HCx hR
      go_wp2_with (first | (refine wpL_load rfl 45 _ rfl _ _ rfl _ HL1.out ?_) | (refine wpL_store rfl 45 _ _ rfl _ _ rfl _ rfl _ HS1.out ?_) | fail)
      refine HCy.out.mono ?_
      rintro r w1 ⟨rfl, g1⟩
      have b1 := HB2.out.1.trans (g1.mono HB2.out.1.size)
      have k1 : Hid (w1.heap[w.heap.size + 1]? = some (.cells #[.int .i64 k, .int .i64 n, .int .i64 p] 33 (0, 0))) := (g1.block _ (Array.getElem?_eq_some_iff.1 HB2.out.2).1).trans HB2.out.2
      clear g1 HCy HL1 HS1 HB2 d0 d1 d2
      go_wp2
      go_roundg (gk - 1)
      case measure => omega
      case rel => exact ⟨c + 1, S + q, by omega, by simp, by simp, HS', hle, b1, k1.out⟩
    · have i2 : ¬ ((c : Int) < (len : Int)) := by omega
      have HSt : Hid (S = (xs.map (uE (k, n, p))).sum) := (by rw [HS.out, List.take_of_length_le (by have := HL.out; omega)] : S = (xs.map (uE (k, n, p))).sum)
      go_wp2
      go_ret
      exact ⟨by rw [← HSt.out]; rfl, hb⟩
end Go.Proofs.Ytocnhfecnhndgaa
