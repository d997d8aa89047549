/- Ladders copied: toArm, toArmS. -/
import Derived.Test.YtocnhfecnhndgaaGc
namespace Go.Proofs.Ytocnhfecnhndgaa
open Go.RowKit
set_option linter.unusedVariables false

theorem mem6 {a b c d e f : Value} (ha : a.oneCell' = true) (hb : b.oneCell' = true) (hc : c.oneCell' = true) (hd : d.oneCell' = true) (he : e.oneCell' = true) (hf : f.oneCell' = true) : ∀ x ∈ [a, b, c, d, e, f], x.oneCell' = true := by
  intro x hx
  simp at hx
  rcases hx with rfl | rfl | rfl | rfl | rfl | rfl <;> assumption
theorem mem4 {a b c d : Value} (ha : a.oneCell' = true) (hb : b.oneCell' = true) (hc : c.oneCell' = true) (hd : d.oneCell' = true) : ∀ x ∈ [a, b, c, d], x.oneCell' = true := by
  intro x hx
  simp at hx
  rcases hx with rfl | rfl | rfl | rfl <;> assumption

set_option maxRecDepth 10000 in
set_option maxHeartbeats 4000000 in
theorem to_arm_step (m : Nat) (net : NetT) (coils : List ElemT) (kids : List ArmT) (n0 n1 n2 n3 v v' : Value) (o0 : n0.oneCell' = true) (o1 : n1.oneCell' = true) (o2 : n2.oneCell' = true) (o3 : n3.oneCell' = true) (s1 : v.oneCell' = true) (s1' : v'.oneCell' = true) (w : World)
    (HE : Hid (∀ W, Below w.heap.size w W → Calls Try.prog 19 #[.agg #[n0, n1, n2, n3]] W fun r w' => ∃ ds : List Value, r = .returned (.agg ds.toArray) ∧ ds.length = 4 ∧ (∀ d ∈ ds, d.oneCell' = true) ∧ NetIs w' W.heap.size m net ds ∧ Below W.heap.size W w'))
    (HC : Hid (∀ W, Below w.heap.size w W → Calls Try.prog 55 #[v] W fun r w' => ∃ v', r = .returned v' ∧ ElemsIs w' W.heap.size v' coils ∧ Below W.heap.size W w'))
    (HN : Hid (∀ W, Below w.heap.size w W → Calls Try.prog 9 #[v'] W fun r w' => ∃ v', r = .returned v' ∧ ArmsIs w' W.heap.size m v' kids ∧ Below W.heap.size W w')) :
    Calls Try.prog 26 #[.agg #[n0, n1, n2, n3, v, v']] w fun r w' => ∃ ds : List Value, r = .returned (.agg ds.toArray) ∧ ds.length = 6 ∧ (∀ d ∈ ds, d.oneCell' = true) ∧ ArmIs w' w.heap.size (m + 1) (.mk net coils kids) ds ∧ Below w.heap.size w w' := by
  go_enter Try.func26, Try.ntmps26
  go_wp2_with fail
  have b0 : Below w.heap.size w (((w.alloc (.cells #[n0, n1, n2, n3, v, v'] 57)).alloc (.cells #[.int .i64 0, .int .i64 0, .slice none 0 0, .slice none 0 0, .slice none 0 0, .slice none 0 0] 61)).alloc (.cells #[.int .i64 0, .int .i64 0, .slice none 0 0, .slice none 0 0, .slice none 0 0, .slice none 0 0] 61)) := (((Below.refl _ _).alloc (Nat.le_refl _) _).alloc (by simp) _).alloc (by simp <;> omega) _
  have hk := rows3 w (.cells #[n0, n1, n2, n3, v, v'] 57) (.cells #[.int .i64 0, .int .i64 0, .slice none 0 0, .slice none 0 0, .slice none 0 0, .slice none 0 0] 61) (.cells #[.int .i64 0, .int .i64 0, .slice none 0 0, .slice none 0 0, .slice none 0 0, .slice none 0 0] 61)
  have hz : (((w.alloc (.cells #[n0, n1, n2, n3, v, v'] 57)).alloc (.cells #[.int .i64 0, .int .i64 0, .slice none 0 0, .slice none 0 0, .slice none 0 0, .slice none 0 0] 61)).alloc (.cells #[.int .i64 0, .int .i64 0, .slice none 0 0, .slice none 0 0, .slice none 0 0, .slice none 0 0] 61)).heap.size = w.heap.size + 1 + 1 + 1 := by simp
  generalize (((w.alloc (.cells #[n0, n1, n2, n3, v, v'] 57)).alloc (.cells #[.int .i64 0, .int .i64 0, .slice none 0 0, .slice none 0 0, .slice none 0 0, .slice none 0 0] 61)).alloc (.cells #[.int .i64 0, .int .i64 0, .slice none 0 0, .slice none 0 0, .slice none 0 0, .slice none 0 0] 61)) = W0 at b0 hk hz ⊢
  refine (HE.out W0 b0).mono ?_
  rintro r w1 ⟨ds, rfl, hds, hone, hn1, g1⟩
  obtain ⟨m0, m1, m2, m3, rfl, p0, p1, p2, p3⟩ := hn1.cells
  have c0 := (g1.block _ (by omega)).trans hk.1
  have c1 := (g1.block _ (by omega)).trans hk.2.1
  have c2 := (g1.block _ (by omega)).trans hk.2.2
  have b1 := b0.trans (g1.mono b0.size)
  have z1 : w.heap.size + 1 + 1 + 1 ≤ w1.heap.size := by have := g1.size; omega
  have HST : Hid ((storeVar 48 ⟨w.heap.size + 1 + 1, 0, none⟩ (.agg #[m0, m1, m2, m3])).run Try.prog w1 = .ok () (w1.setRow (w.heap.size + 1 + 1) #[m0, m1, m2, m3, .slice none 0 0, .slice none 0 0])) := store_sub (P := Try.prog) c2 48 0 #[m0, m1, m2, m3] (by simp) (by kernel_rfl) (all_one [m0, m1, m2, m3] hone)
  obtain ⟨W2, HW2⟩ : ∃ W, Hid (W = w1.setRow (w.heap.size + 1 + 1) #[m0, m1, m2, m3, .slice none 0 0, .slice none 0 0]) := ⟨_, rfl⟩
  have d0 : W2.heap[w.heap.size]? = some (.cells #[n0, n1, n2, n3, v, v'] 57 (0, 0)) := by rw [HW2.out]; exact row_beside c0 _ (by omega) _
  have d1 : W2.heap[w.heap.size + 1]? = some (.cells #[.int .i64 0, .int .i64 0, .slice none 0 0, .slice none 0 0, .slice none 0 0, .slice none 0 0] 61 (0, 0)) := by rw [HW2.out]; exact row_beside c1 _ (by omega) _
  have d2 : W2.heap[w.heap.size + 1 + 1]? = some (.cells #[m0, m1, m2, m3, .slice none 0 0, .slice none 0 0] 61 (0, 0)) := by rw [HW2.out]; exact row_set c2 _
  have b2 : Below w.heap.size w W2 := by rw [HW2.out]; exact below_setRow b1 (by omega) _
  have z2 : w.heap.size + 1 + 1 + 1 ≤ W2.heap.size := by rw [HW2.out, size_setRow]; exact z1
  have k2 : NetIs W2 (w.heap.size + 1 + 1 + 1) m net [m0, m1, m2, m3] := by rw [HW2.out]; exact NetIs.move (keeps_row (by omega)) (by omega) _ _ (Nat.le_refl _) _ _ hn1
  have l4 : W2.cell? ⟨w.heap.size, 4, none⟩ = some v := (cell_of_row _ _ _ _ _ _ d0).trans rfl
  have HN2 : Hid (Calls Try.prog 55 #[v] W2 fun r w' => ∃ v', r = .returned v' ∧ ElemsIs w' W2.heap.size v' coils ∧ Below W2.heap.size W2 w') := HC.out W2 b2
  rw [← HW2.out] at HST
  have HD : Hid (W2.heap[w.heap.size]? = some (.cells #[n0, n1, n2, n3, v, v'] 57 (0, 0)) ∧ W2.heap[w.heap.size + 1]? = some (.cells #[.int .i64 0, .int .i64 0, .slice none 0 0, .slice none 0 0, .slice none 0 0, .slice none 0 0] 61 (0, 0)) ∧ W2.heap[w.heap.size + 1 + 1]? = some (.cells #[m0, m1, m2, m3, .slice none 0 0, .slice none 0 0] 61 (0, 0)) ∧ Below w.heap.size w W2 ∧ w.heap.size + 1 + 1 + 1 ≤ W2.heap.size ∧ NetIs W2 (w.heap.size + 1 + 1 + 1) m net [m0, m1, m2, m3]) := ⟨d0, d1, d2, b2, z2, k2⟩
  clear HW2 g1 b0 hk hz c0 c1 c2 b1 hn1 k2 d0 d1 d2 b2 z1 z2 HE HC hone hds
  go_wp2_with (first | (refine wpL_store rfl 48 _ _ rfl _ _ rfl _ rfl _ HST.out ?_) | fail)
  refine HN2.out.mono ?_
  rintro r w3 ⟨v1, rfl, hv1, g3⟩
  obtain ⟨d0, d1, d2, b2, z2, k2⟩ := HD.out
  have e0 := (g3.block _ (by omega)).trans d0
  have e1 := (g3.block _ (by omega)).trans d1
  have e2 := (g3.block _ (by omega)).trans d2
  have b3 := b2.trans (g3.mono b2.size)
  have z3 : w.heap.size + 1 + 1 + 1 ≤ w3.heap.size := by have := g3.size; omega
  have k3 : NetIs w3 (w.heap.size + 1 + 1 + 1) m net [m0, m1, m2, m3] := NetIs.move (Keeps.of_below g3 _) (Nat.le_refl _) _ _ (Nat.le_refl _) _ _ k2
  have HS3 : Hid ((storeVar 59 ⟨w.heap.size + 1 + 1, 4, none⟩ v1).run Try.prog w3 = .ok () (w3.setRow (w.heap.size + 1 + 1) #[m0, m1, m2, m3, v1, .slice none 0 0])) := store_one (P := Try.prog) e2 59 4 v1 (by simp) (by kernel_rfl) (slice_one hv1) hv1.one
  have s2 := hv1.one
  obtain ⟨W4, HW4⟩ : ∃ W, Hid (W = w3.setRow (w.heap.size + 1 + 1) #[m0, m1, m2, m3, v1, .slice none 0 0]) := ⟨_, rfl⟩
  have f0 : W4.heap[w.heap.size]? = some (.cells #[n0, n1, n2, n3, v, v'] 57 (0, 0)) := by rw [HW4.out]; exact row_beside e0 _ (by omega) _
  have f1 : W4.heap[w.heap.size + 1]? = some (.cells #[.int .i64 0, .int .i64 0, .slice none 0 0, .slice none 0 0, .slice none 0 0, .slice none 0 0] 61 (0, 0)) := by rw [HW4.out]; exact row_beside e1 _ (by omega) _
  have f2 : W4.heap[w.heap.size + 1 + 1]? = some (.cells #[m0, m1, m2, m3, v1, .slice none 0 0] 61 (0, 0)) := by rw [HW4.out]; exact row_set e2 _
  have b4 : Below w.heap.size w W4 := by rw [HW4.out]; exact below_setRow b3 (by omega) _
  have z4 : w.heap.size + 1 + 1 + 1 ≤ W4.heap.size := by rw [HW4.out, size_setRow]; exact z3
  have k4 : NetIs W4 (w.heap.size + 1 + 1 + 1) m net [m0, m1, m2, m3] := by rw [HW4.out]; exact NetIs.move (keeps_row (by omega)) (by omega) _ _ (Nat.le_refl _) _ _ k3
  have q4 : ElemsIs W4 (w.heap.size + 1 + 1 + 1) v1 coils := by rw [HW4.out]; exact elemsIs_move (keeps_row (by omega)) (by omega) hv1
  have l5 : W4.cell? ⟨w.heap.size, 5, none⟩ = some v' := (cell_of_row _ _ _ _ _ _ f0).trans rfl
  have HN4 : Hid (Calls Try.prog 9 #[v'] W4 fun r w' => ∃ v', r = .returned v' ∧ ArmsIs w' W4.heap.size m v' kids ∧ Below W4.heap.size W4 w') := HN.out W4 b4
  rw [← HW4.out] at HS3
  have HD4 : Hid (W4.heap[w.heap.size + 1]? = some (.cells #[.int .i64 0, .int .i64 0, .slice none 0 0, .slice none 0 0, .slice none 0 0, .slice none 0 0] 61 (0, 0)) ∧ W4.heap[w.heap.size + 1 + 1]? = some (.cells #[m0, m1, m2, m3, v1, .slice none 0 0] 61 (0, 0)) ∧ Below w.heap.size w W4 ∧ w.heap.size + 1 + 1 + 1 ≤ W4.heap.size ∧ NetIs W4 (w.heap.size + 1 + 1 + 1) m net [m0, m1, m2, m3] ∧ ElemsIs W4 (w.heap.size + 1 + 1 + 1) v1 coils) := ⟨f1, f2, b4, z4, k4, q4⟩
  clear HW4 g3 e0 e1 e2 b3 z3 k3 f0 f1 f2 b4 z4 k4 q4 hv1 d0 d1 d2 b2 z2 k2 HD HN2 HST l4 HN
  go_wp2_with (first | (refine wpL_store rfl 59 _ _ rfl _ _ rfl _ rfl _ HS3.out ?_) | fail)
  refine HN4.out.mono ?_
  rintro r w5 ⟨v2, rfl, hv2, g5⟩
  obtain ⟨f1, f2, b4, z4, k4, q4⟩ := HD4.out
  have e1 := (g5.block _ (by omega)).trans f1
  have e2 := (g5.block _ (by omega)).trans f2
  have b5 := b4.trans (g5.mono b4.size)
  have k5 : NetIs w5 (w.heap.size + 1 + 1 + 1) m net [m0, m1, m2, m3] := NetIs.move (Keeps.of_below g5 _) (Nat.le_refl _) _ _ (Nat.le_refl _) _ _ k4
  have q5 : ElemsIs w5 (w.heap.size + 1 + 1 + 1) v1 coils := elemsIs_move (Keeps.of_below g5 _) (Nat.le_refl _) q4
  have HS5 : Hid ((storeVar 25 ⟨w.heap.size + 1 + 1, 5, none⟩ v2).run Try.prog w5 = .ok () (w5.setRow (w.heap.size + 1 + 1) #[m0, m1, m2, m3, v1, v2])) := store_one (P := Try.prog) e2 25 5 v2 (by simp) (by kernel_rfl) (slice_one hv2) hv2.one
  have s3 := hv2.one
  have HO : Hid (∀ d ∈ [m0, m1, m2, m3, v1, v2], d.oneCell' = true) := mem6 p0 p1 p2 p3 s2 s3
  obtain ⟨W6, HW6⟩ : ∃ W, Hid (W = w5.setRow (w.heap.size + 1 + 1) #[m0, m1, m2, m3, v1, v2]) := ⟨_, rfl⟩
  have f1 : W6.heap[w.heap.size + 1]? = some (.cells #[.int .i64 0, .int .i64 0, .slice none 0 0, .slice none 0 0, .slice none 0 0, .slice none 0 0] 61 (0, 0)) := by rw [HW6.out]; exact row_beside e1 _ (by omega) _
  have f2 : W6.heap[w.heap.size + 1 + 1]? = some (.cells #[m0, m1, m2, m3, v1, v2] 61 (0, 0)) := by rw [HW6.out]; exact row_set e2 _
  have b6 : Below w.heap.size w W6 := by rw [HW6.out]; exact below_setRow b5 (by omega) _
  have k6 : NetIs W6 (w.heap.size + 1 + 1 + 1) m net [m0, m1, m2, m3] := by rw [HW6.out]; exact NetIs.move (keeps_row (by omega)) (by omega) _ _ (Nat.le_refl _) _ _ k5
  have q6 : ElemsIs W6 (w.heap.size + 1 + 1 + 1) v1 coils := by rw [HW6.out]; exact elemsIs_move (keeps_row (by omega)) (by omega) q5
  have r6 : ArmsIs W6 (w.heap.size + 1 + 1 + 1) m v2 kids := by rw [HW6.out]; exact armsIs_move (keeps_row (by omega)) (by omega) (Nat.le_refl _) hv2
  have HLD : Hid ((loadVar 61 ⟨w.heap.size + 1 + 1, 0, none⟩).run Try.prog W6 = .ok (.agg #[m0, m1, m2, m3, v1, v2]) W6) := load_all f2 _ _ Try.underlying61 rfl (by kernel_rfl)
  have HS2 : Hid ((storeVar 61 ⟨w.heap.size + 1, 0, none⟩ (.agg #[m0, m1, m2, m3, v1, v2])).run Try.prog W6 = .ok () (W6.setRow (w.heap.size + 1) #[m0, m1, m2, m3, v1, v2])) := store_all f1 61 _ rfl (by kernel_rfl) (all_one [m0, m1, m2, m3, v1, v2] HO.out)
  have HR : Hid ((W6.setRow (w.heap.size + 1) #[m0, m1, m2, m3, v1, v2]).heap[w.heap.size + 1]? = some (.cells #[m0, m1, m2, m3, v1, v2] 61 (0, 0))) := row_set f1 _
  have HB : Hid (Below w.heap.size w (W6.setRow (w.heap.size + 1) #[m0, m1, m2, m3, v1, v2])) := below_setRow b6 (by omega) _
  have HK : Hid (NetIs (W6.setRow (w.heap.size + 1) #[m0, m1, m2, m3, v1, v2]) w.heap.size m net [m0, m1, m2, m3] ∧ ElemsIs (W6.setRow (w.heap.size + 1) #[m0, m1, m2, m3, v1, v2]) w.heap.size v1 coils ∧ ArmsIs (W6.setRow (w.heap.size + 1) #[m0, m1, m2, m3, v1, v2]) w.heap.size m v2 kids) := ⟨NetIs.move (keeps_row (by omega)) (by omega) _ _ (Nat.le_refl _) _ _ k6, elemsIs_move (keeps_row (by omega)) (by omega) q6, armsIs_move (keeps_row (by omega)) (by omega) (Nat.le_refl _) r6⟩
  rw [← HW6.out] at HS5
  clear HW6 g5 e1 e2 b5 k5 q5 f1 f2 b6 k6 q6 r6 hv2 b4 z4 k4 q4 HD4 HN4 HS3 l5
  go_wp2_with (first | (refine wpL_store rfl 25 _ _ rfl _ _ rfl _ rfl _ HS5.out ?_) | (refine wpL_load rfl 61 _ rfl _ _ rfl _ HLD.out ?_) | (refine wpL_store rfl 61 _ _ rfl _ _ rfl _ rfl _ HS2.out ?_) | (refine ret_row rfl rfl HR.out Try.underlying61 rfl (by kernel_rfl) rfl ?_) | fail)
  exact ⟨[m0, m1, m2, m3, v1, v2], rfl, rfl, HO.out, ⟨[m0, m1, m2, m3], v1, v2, rfl, HK.out.1, HK.out.2.1, HK.out.2.2⟩, HB.out⟩

theorem to_arm : ∀ (m : Nat) (t : ArmT) (cs : List Value) (w : World) (lo : Nat) (hv : ArmIs w lo m t cs) (hbig : wA m t ≤ 1048576),
    Calls Try.prog 26 #[.agg cs.toArray] w fun r w' => ∃ ds : List Value, r = .returned (.agg ds.toArray) ∧ ds.length = 6 ∧ (∀ d ∈ ds, d.oneCell' = true) ∧ ArmIs w' w.heap.size m t ds ∧ Below w.heap.size w w'
  | 0, _, _, _, _, h, _ => h.elim
  | m + 1, .mk net coils kids, cs, w, lo, hv, hbig => by
    obtain ⟨ns, v, v', rfl, hn, hc, hk⟩ := hv
    have hn' := hn
    obtain ⟨n0, n1, n2, n3, rfl, o0, o1, o2, o3⟩ := hn'.cells
    simp only [wA] at hbig
    exact to_arm_step m net coils kids n0 n1 n2 n3 v v' o0 o1 o2 o3 hc.one hk.one w
      (fun W g => to_net m net _ W lo (NetIs.move (Keeps.of_below g lo) (Nat.le_refl _) _ _ (Nat.le_refl _) _ _ hn) (by omega))
      (fun W g => to_elems v coils W lo (elemsIs_move (Keeps.of_below g lo) (Nat.le_refl _) hc) (by omega))
      (fun W g => to_arms_row m v' kids W lo (armsIs_move (Keeps.of_below g lo) (Nat.le_refl _) (Nat.le_refl _) hk) (by omega)
        (fun x cs hx W h => to_arm m x cs W lo h (by have := sum_mem (wA m) kids x hx; omega)) (fun x cs l l' W W' k hl h => ArmIs.move k hl _ _ (Nat.le_refl _) _ _ h))
theorem to_arms (m : Nat) (v : Value) (xs : List ArmT) (w : World) (lo : Nat) (hv : ArmsIs w lo m v xs) (hbig : xs.length + (xs.map (wA m)).sum ≤ 1048576) :
    Calls Try.prog 9 #[v] w fun r w' => ∃ v', r = .returned v' ∧ ArmsIs w' w.heap.size m v' xs ∧ Below w.heap.size w w' :=
  to_arms_row m v xs w lo hv (by omega) (fun x cs hx W h => to_arm m x cs W lo h (by have := sum_mem (wA m) xs x hx; omega)) (fun x cs l l' W W' k hl h => ArmIs.move k hl _ _ (Nat.le_refl _) _ _ h)
end Go.Proofs.Ytocnhfecnhndgaa
