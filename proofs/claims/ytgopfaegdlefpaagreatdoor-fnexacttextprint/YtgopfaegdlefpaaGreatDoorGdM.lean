/- Ladders copied: toArm, toArmS. -/
import Derived.Test.YtgopfaegdlefpaaGreatDoorGc
namespace Go.Proofs.YtgopfaegdlefpaaGreatDoor
open Go.RowKit
set_option linter.unusedVariables false

theorem mem6 {a b c d e f : Value} (ha : a.oneCell' = true) (hb : b.oneCell' = true) (hc : c.oneCell' = true) (hd : d.oneCell' = true) (he : e.oneCell' = true) (hf : f.oneCell' = true) : ∀ x ∈ [a, b, c, d, e, f], x.oneCell' = true := by
  intro x hx
  simp at hx
  rcases hx with rfl | rfl | rfl | rfl | rfl | rfl <;> assumption
theorem mem4 {a b c d : Value} (ha : a.oneCell' = true) (hb : b.oneCell' = true) (hc : c.oneCell' = true) (hd : d.oneCell' = true) : ∀ x ∈ [a, b, c, d], x.oneCell' = true := by
  intro x hx
  simp at hx
  rcases hx with rfl | rfl | rfl | rfl <;> assumption

set_option maxRecDepth 10000 in
set_option maxHeartbeats 4000000 in
theorem to_arm_step (m : Nat) (net : NetT) (coils : List ElemT) (kids : List ArmT) (n0 n1 n2 n3 v v' : Value) (o0 : n0.oneCell' = true) (o1 : n1.oneCell' = true) (o2 : n2.oneCell' = true) (o3 : n3.oneCell' = true) (s1 : v.oneCell' = true) (s1' : v'.oneCell' = true) (w : World)
    (HE : Hid (∀ W, Below w.heap.size w W → Calls Tryz.prog 103 #[.agg #[n0, n1, n2, n3]] W fun r w' => ∃ ds : List Value, r = .returned (.agg ds.toArray) ∧ ds.length = 4 ∧ (∀ d ∈ ds, d.oneCell' = true) ∧ NetIs w' W.heap.size m net ds ∧ Below W.heap.size W w'))
    (HC : Hid (∀ W, Below w.heap.size w W → Calls Tryz.prog 104 #[v] W fun r w' => ∃ v', r = .returned v' ∧ ElemsIs w' W.heap.size v' coils ∧ Below W.heap.size W w'))
    (HN : Hid (∀ W, Below w.heap.size w W → Calls Tryz.prog 24 #[v'] W fun r w' => ∃ v', r = .returned v' ∧ ArmsIs w' W.heap.size m v' kids ∧ Below W.heap.size W w')) :
    Calls Tryz.prog 61 #[.agg #[n0, n1, n2, n3, v, v']] w fun r w' => ∃ ds : List Value, r = .returned (.agg ds.toArray) ∧ ds.length = 6 ∧ (∀ d ∈ ds, d.oneCell' = true) ∧ ArmIs w' w.heap.size (m + 1) (.mk net coils kids) ds ∧ Below w.heap.size w w' := by
  go_enter Tryz.func61, Tryz.ntmps61
  go_wp2_with fail
  have b0 : Below w.heap.size w (((w.alloc (.cells #[n0, n1, n2, n3, v, v'] 119)).alloc (.cells #[.int .i64 0, .int .i64 0, .slice none 0 0, .slice none 0 0, .slice none 0 0, .slice none 0 0] 60)).alloc (.cells #[.int .i64 0, .int .i64 0, .slice none 0 0, .slice none 0 0, .slice none 0 0, .slice none 0 0] 60)) := (((Below.refl _ _).alloc (Nat.le_refl _) _).alloc (by simp) _).alloc (by simp <;> omega) _
  have hk := rows3 w (.cells #[n0, n1, n2, n3, v, v'] 119) (.cells #[.int .i64 0, .int .i64 0, .slice none 0 0, .slice none 0 0, .slice none 0 0, .slice none 0 0] 60) (.cells #[.int .i64 0, .int .i64 0, .slice none 0 0, .slice none 0 0, .slice none 0 0, .slice none 0 0] 60)
  have hz : (((w.alloc (.cells #[n0, n1, n2, n3, v, v'] 119)).alloc (.cells #[.int .i64 0, .int .i64 0, .slice none 0 0, .slice none 0 0, .slice none 0 0, .slice none 0 0] 60)).alloc (.cells #[.int .i64 0, .int .i64 0, .slice none 0 0, .slice none 0 0, .slice none 0 0, .slice none 0 0] 60)).heap.size = w.heap.size + 1 + 1 + 1 := by simp
  generalize (((w.alloc (.cells #[n0, n1, n2, n3, v, v'] 119)).alloc (.cells #[.int .i64 0, .int .i64 0, .slice none 0 0, .slice none 0 0, .slice none 0 0, .slice none 0 0] 60)).alloc (.cells #[.int .i64 0, .int .i64 0, .slice none 0 0, .slice none 0 0, .slice none 0 0, .slice none 0 0] 60)) = W0 at b0 hk hz ⊢
  refine (HE.out W0 b0).mono ?_
  rintro r w1 ⟨ds, rfl, hds, hone, hn1, g1⟩
  obtain ⟨m0, m1, m2, m3, rfl, p0, p1, p2, p3⟩ := hn1.cells
  have c0 := (g1.block _ (by omega)).trans hk.1
  have c1 := (g1.block _ (by omega)).trans hk.2.1
  have c2 := (g1.block _ (by omega)).trans hk.2.2
  have b1 := b0.trans (g1.mono b0.size)
  have z1 : w.heap.size + 1 + 1 + 1 ≤ w1.heap.size := by have := g1.size; omega
  have HST : Hid ((storeVar 57 ⟨w.heap.size + 1 + 1, 0, none⟩ (.agg #[m0, m1, m2, m3])).run Tryz.prog w1 = .ok () (w1.setRow (w.heap.size + 1 + 1) #[m0, m1, m2, m3, .slice none 0 0, .slice none 0 0])) := store_sub (P := Tryz.prog) c2 57 0 #[m0, m1, m2, m3] (by simp) (by kernel_rfl) (all_one [m0, m1, m2, m3] hone)
  obtain ⟨W2, HW2⟩ : ∃ W, Hid (W = w1.setRow (w.heap.size + 1 + 1) #[m0, m1, m2, m3, .slice none 0 0, .slice none 0 0]) := ⟨_, rfl⟩
  have d0 : W2.heap[w.heap.size]? = some (.cells #[n0, n1, n2, n3, v, v'] 119 (0, 0)) := by rw [HW2.out]; exact row_beside c0 _ (by omega) _
  have d1 : W2.heap[w.heap.size + 1]? = some (.cells #[.int .i64 0, .int .i64 0, .slice none 0 0, .slice none 0 0, .slice none 0 0, .slice none 0 0] 60 (0, 0)) := by rw [HW2.out]; exact row_beside c1 _ (by omega) _
  have d2 : W2.heap[w.heap.size + 1 + 1]? = some (.cells #[m0, m1, m2, m3, .slice none 0 0, .slice none 0 0] 60 (0, 0)) := by rw [HW2.out]; exact row_set c2 _
  have b2 : Below w.heap.size w W2 := by rw [HW2.out]; exact below_setRow b1 (by omega) _
  have z2 : w.heap.size + 1 + 1 + 1 ≤ W2.heap.size := by rw [HW2.out, size_setRow]; exact z1
  have k2 : NetIs W2 (w.heap.size + 1 + 1 + 1) m net [m0, m1, m2, m3] := by rw [HW2.out]; exact NetIs.move (keeps_row (by omega)) (by omega) _ _ (Nat.le_refl _) _ _ hn1
  have l4 : W2.cell? ⟨w.heap.size, 4, none⟩ = some v := (cell_of_row _ _ _ _ _ _ d0).trans rfl
  have HN2 : Hid (Calls Tryz.prog 104 #[v] W2 fun r w' => ∃ v', r = .returned v' ∧ ElemsIs w' W2.heap.size v' coils ∧ Below W2.heap.size W2 w') := HC.out W2 b2
  rw [← HW2.out] at HST
  have HD : Hid (W2.heap[w.heap.size]? = some (.cells #[n0, n1, n2, n3, v, v'] 119 (0, 0)) ∧ W2.heap[w.heap.size + 1]? = some (.cells #[.int .i64 0, .int .i64 0, .slice none 0 0, .slice none 0 0, .slice none 0 0, .slice none 0 0] 60 (0, 0)) ∧ W2.heap[w.heap.size + 1 + 1]? = some (.cells #[m0, m1, m2, m3, .slice none 0 0, .slice none 0 0] 60 (0, 0)) ∧ Below w.heap.size w W2 ∧ w.heap.size + 1 + 1 + 1 ≤ W2.heap.size ∧ NetIs W2 (w.heap.size + 1 + 1 + 1) m net [m0, m1, m2, m3]) := ⟨d0, d1, d2, b2, z2, k2⟩
  clear HW2 g1 b0 hk hz c0 c1 c2 b1 hn1 k2 d0 d1 d2 b2 z1 z2 HE HC hone hds
  go_wp2_with (first | (refine wpL_store rfl 57 _ _ rfl _ _ rfl _ rfl _ HST.out ?_) | fail)
  refine HN2.out.mono ?_
  rintro r w3 ⟨v1, rfl, hv1, g3⟩
  obtain ⟨d0, d1, d2, b2, z2, k2⟩ := HD.out
  have e0 := (g3.block _ (by omega)).trans d0
  have e1 := (g3.block _ (by omega)).trans d1
  have e2 := (g3.block _ (by omega)).trans d2
  have b3 := b2.trans (g3.mono b2.size)
  have z3 : w.heap.size + 1 + 1 + 1 ≤ w3.heap.size := by have := g3.size; omega
  have k3 : NetIs w3 (w.heap.size + 1 + 1 + 1) m net [m0, m1, m2, m3] := NetIs.move (Keeps.of_below g3 _) (Nat.le_refl _) _ _ (Nat.le_refl _) _ _ k2
  have HS3 : Hid ((storeVar 58 ⟨w.heap.size + 1 + 1, 4, none⟩ v1).run Tryz.prog w3 = .ok () (w3.setRow (w.heap.size + 1 + 1) #[m0, m1, m2, m3, v1, .slice none 0 0])) := store_one (P := Tryz.prog) e2 58 4 v1 (by simp) (by kernel_rfl) (slice_one hv1) hv1.one
  have s2 := hv1.one
  obtain ⟨W4, HW4⟩ : ∃ W, Hid (W = w3.setRow (w.heap.size + 1 + 1) #[m0, m1, m2, m3, v1, .slice none 0 0]) := ⟨_, rfl⟩
  have f0 : W4.heap[w.heap.size]? = some (.cells #[n0, n1, n2, n3, v, v'] 119 (0, 0)) := by rw [HW4.out]; exact row_beside e0 _ (by omega) _
  have f1 : W4.heap[w.heap.size + 1]? = some (.cells #[.int .i64 0, .int .i64 0, .slice none 0 0, .slice none 0 0, .slice none 0 0, .slice none 0 0] 60 (0, 0)) := by rw [HW4.out]; exact row_beside e1 _ (by omega) _
  have f2 : W4.heap[w.heap.size + 1 + 1]? = some (.cells #[m0, m1, m2, m3, v1, .slice none 0 0] 60 (0, 0)) := by rw [HW4.out]; exact row_set e2 _
  have b4 : Below w.heap.size w W4 := by rw [HW4.out]; exact below_setRow b3 (by omega) _
  have z4 : w.heap.size + 1 + 1 + 1 ≤ W4.heap.size := by rw [HW4.out, size_setRow]; exact z3
  have k4 : NetIs W4 (w.heap.size + 1 + 1 + 1) m net [m0, m1, m2, m3] := by rw [HW4.out]; exact NetIs.move (keeps_row (by omega)) (by omega) _ _ (Nat.le_refl _) _ _ k3
  have q4 : ElemsIs W4 (w.heap.size + 1 + 1 + 1) v1 coils := by rw [HW4.out]; exact elemsIs_move (keeps_row (by omega)) (by omega) hv1
  have l5 : W4.cell? ⟨w.heap.size, 5, none⟩ = some v' := (cell_of_row _ _ _ _ _ _ f0).trans rfl
  have HN4 : Hid (Calls Tryz.prog 24 #[v'] W4 fun r w' => ∃ v', r = .returned v' ∧ ArmsIs w' W4.heap.size m v' kids ∧ Below W4.heap.size W4 w') := HN.out W4 b4
  rw [← HW4.out] at HS3
  have HD4 : Hid (W4.heap[w.heap.size + 1]? = some (.cells #[.int .i64 0, .int .i64 0, .slice none 0 0, .slice none 0 0, .slice none 0 0, .slice none 0 0] 60 (0, 0)) ∧ W4.heap[w.heap.size + 1 + 1]? = some (.cells #[m0, m1, m2, m3, v1, .slice none 0 0] 60 (0, 0)) ∧ Below w.heap.size w W4 ∧ w.heap.size + 1 + 1 + 1 ≤ W4.heap.size ∧ NetIs W4 (w.heap.size + 1 + 1 + 1) m net [m0, m1, m2, m3] ∧ ElemsIs W4 (w.heap.size + 1 + 1 + 1) v1 coils) := ⟨f1, f2, b4, z4, k4, q4⟩
  clear HW4 g3 e0 e1 e2 b3 z3 k3 f0 f1 f2 b4 z4 k4 q4 hv1 d0 d1 d2 b2 z2 k2 HD HN2 HST l4 HN
  go_wp2_with (first | (refine wpL_store rfl 58 _ _ rfl _ _ rfl _ rfl _ HS3.out ?_) | fail)
  refine HN4.out.mono ?_
  rintro r w5 ⟨v2, rfl, hv2, g5⟩
  obtain ⟨f1, f2, b4, z4, k4, q4⟩ := HD4.out
  have e1 := (g5.block _ (by omega)).trans f1
  have e2 := (g5.block _ (by omega)).trans f2
  have b5 := b4.trans (g5.mono b4.size)
  have k5 : NetIs w5 (w.heap.size + 1 + 1 + 1) m net [m0, m1, m2, m3] := NetIs.move (Keeps.of_below g5 _) (Nat.le_refl _) _ _ (Nat.le_refl _) _ _ k4
  have q5 : ElemsIs w5 (w.heap.size + 1 + 1 + 1) v1 coils := elemsIs_move (Keeps.of_below g5 _) (Nat.le_refl _) q4
  have HS5 : Hid ((storeVar 23 ⟨w.heap.size + 1 + 1, 5, none⟩ v2).run Tryz.prog w5 = .ok () (w5.setRow (w.heap.size + 1 + 1) #[m0, m1, m2, m3, v1, v2])) := store_one (P := Tryz.prog) e2 23 5 v2 (by simp) (by kernel_rfl) (slice_one hv2) hv2.one
  have s3 := hv2.one
  have HO : Hid (∀ d ∈ [m0, m1, m2, m3, v1, v2], d.oneCell' = true) := mem6 p0 p1 p2 p3 s2 s3
  obtain ⟨W6, HW6⟩ : ∃ W, Hid (W = w5.setRow (w.heap.size + 1 + 1) #[m0, m1, m2, m3, v1, v2]) := ⟨_, rfl⟩
  have f1 : W6.heap[w.heap.size + 1]? = some (.cells #[.int .i64 0, .int .i64 0, .slice none 0 0, .slice none 0 0, .slice none 0 0, .slice none 0 0] 60 (0, 0)) := by rw [HW6.out]; exact row_beside e1 _ (by omega) _
  have f2 : W6.heap[w.heap.size + 1 + 1]? = some (.cells #[m0, m1, m2, m3, v1, v2] 60 (0, 0)) := by rw [HW6.out]; exact row_set e2 _
  have b6 : Below w.heap.size w W6 := by rw [HW6.out]; exact below_setRow b5 (by omega) _
  have k6 : NetIs W6 (w.heap.size + 1 + 1 + 1) m net [m0, m1, m2, m3] := by rw [HW6.out]; exact NetIs.move (keeps_row (by omega)) (by omega) _ _ (Nat.le_refl _) _ _ k5
  have q6 : ElemsIs W6 (w.heap.size + 1 + 1 + 1) v1 coils := by rw [HW6.out]; exact elemsIs_move (keeps_row (by omega)) (by omega) q5
  have r6 : ArmsIs W6 (w.heap.size + 1 + 1 + 1) m v2 kids := by rw [HW6.out]; exact armsIs_move (keeps_row (by omega)) (by omega) (Nat.le_refl _) hv2
  have HLD : Hid ((loadVar 60 ⟨w.heap.size + 1 + 1, 0, none⟩).run Tryz.prog W6 = .ok (.agg #[m0, m1, m2, m3, v1, v2]) W6) := load_all f2 _ _ Tryz.underlying60 rfl (by kernel_rfl)
  have HS2 : Hid ((storeVar 60 ⟨w.heap.size + 1, 0, none⟩ (.agg #[m0, m1, m2, m3, v1, v2])).run Tryz.prog W6 = .ok () (W6.setRow (w.heap.size + 1) #[m0, m1, m2, m3, v1, v2])) := store_all f1 60 _ rfl (by kernel_rfl) (all_one [m0, m1, m2, m3, v1, v2] HO.out)
  have HR : Hid ((W6.setRow (w.heap.size + 1) #[m0, m1, m2, m3, v1, v2]).heap[w.heap.size + 1]? = some (.cells #[m0, m1, m2, m3, v1, v2] 60 (0, 0))) := row_set f1 _
  have HB : Hid (Below w.heap.size w (W6.setRow (w.heap.size + 1) #[m0, m1, m2, m3, v1, v2])) := below_setRow b6 (by omega) _
  have HK : Hid (NetIs (W6.setRow (w.heap.size + 1) #[m0, m1, m2, m3, v1, v2]) w.heap.size m net [m0, m1, m2, m3] ∧ ElemsIs (W6.setRow (w.heap.size + 1) #[m0, m1, m2, m3, v1, v2]) w.heap.size v1 coils ∧ ArmsIs (W6.setRow (w.heap.size + 1) #[m0, m1, m2, m3, v1, v2]) w.heap.size m v2 kids) := ⟨NetIs.move (keeps_row (by omega)) (by omega) _ _ (Nat.le_refl _) _ _ k6, elemsIs_move (keeps_row (by omega)) (by omega) q6, armsIs_move (keeps_row (by omega)) (by omega) (Nat.le_refl _) r6⟩
  rw [← HW6.out] at HS5
  clear HW6 g5 e1 e2 b5 k5 q5 f1 f2 b6 k6 q6 r6 hv2 b4 z4 k4 q4 HD4 HN4 HS3 l5
  go_wp2_with (first | (refine wpL_store rfl 23 _ _ rfl _ _ rfl _ rfl _ HS5.out ?_) | (refine wpL_load rfl 60 _ rfl _ _ rfl _ HLD.out ?_) | (refine wpL_store rfl 60 _ _ rfl _ _ rfl _ rfl _ HS2.out ?_) | (refine ret_row rfl rfl HR.out Tryz.underlying60 rfl (by kernel_rfl) rfl ?_) | fail)
  exact ⟨[m0, m1, m2, m3, v1, v2], rfl, rfl, HO.out, ⟨[m0, m1, m2, m3], v1, v2, rfl, HK.out.1, HK.out.2.1, HK.out.2.2⟩, HB.out⟩

theorem to_arm : ∀ (m : Nat) (t : ArmT) (cs : List Value) (w : World) (lo : Nat) (hv : ArmIs w lo m t cs) (hbig : wA m t ≤ 1048576),
    Calls Tryz.prog 61 #[.agg cs.toArray] w fun r w' => ∃ ds : List Value, r = .returned (.agg ds.toArray) ∧ ds.length = 6 ∧ (∀ d ∈ ds, d.oneCell' = true) ∧ ArmIs w' w.heap.size m t ds ∧ Below w.heap.size w w'
  | 0, _, _, _, _, h, _ => h.elim
  | m + 1, .mk net coils kids, cs, w, lo, hv, hbig => by
    obtain ⟨ns, v, v', rfl, hn, hc, hk⟩ := hv
    have hn' := hn
    obtain ⟨n0, n1, n2, n3, rfl, o0, o1, o2, o3⟩ := hn'.cells
    simp only [wA] at hbig
    exact to_arm_step m net coils kids n0 n1 n2 n3 v v' o0 o1 o2 o3 hc.one hk.one w
      (fun W g => to_net m net _ W lo (NetIs.move (Keeps.of_below g lo) (Nat.le_refl _) _ _ (Nat.le_refl _) _ _ hn) (by omega))
      (fun W g => to_elems v coils W lo (elemsIs_move (Keeps.of_below g lo) (Nat.le_refl _) hc) (by omega))
      (fun W g => to_arms_row m v' kids W lo (armsIs_move (Keeps.of_below g lo) (Nat.le_refl _) (Nat.le_refl _) hk) (by omega)
        (fun x cs hx W h => to_arm m x cs W lo h (by have := sum_mem (wA m) kids x hx; omega)) (fun x cs l l' W W' k hl h => ArmIs.move k hl _ _ (Nat.le_refl _) _ _ h))
theorem to_arms (m : Nat) (v : Value) (xs : List ArmT) (w : World) (lo : Nat) (hv : ArmsIs w lo m v xs) (hbig : xs.length + (xs.map (wA m)).sum ≤ 1048576) :
    Calls Tryz.prog 24 #[v] w fun r w' => ∃ v', r = .returned v' ∧ ArmsIs w' w.heap.size m v' xs ∧ Below w.heap.size w w' :=
  to_arms_row m v xs w lo hv (by omega) (fun x cs hx W h => to_arm m x cs W lo h (by have := sum_mem (wA m) xs x hx; omega)) (fun x cs l l' W W' k hl h => ArmIs.move k hl _ _ (Nat.le_refl _) _ _ h)
end Go.Proofs.YtgopfaegdlefpaaGreatDoor
/- Copies of ladders, with their room. -/
namespace Go.Proofs.YtgopfaegdlefpaaGreatDoor
open Go.RowKit
set_option linter.unusedVariables false

set_option maxRecDepth 10000 in
set_option maxHeartbeats 2000000 in
theorem to_arms_rowc (m : Nat) (v : Value) (xs : List ArmT) (w : World) (lo : Nat) (hv : RowIs w lo 6 (ArmIs w lo m) v xs) (hbig : xs.length ≤ 1048576)
    (HC : Hid (∀ x cs, x ∈ xs → ∀ (W : World), (ArmIs W lo m) x cs → Calls Tryz.prog 61 #[.agg cs.toArray] W fun r w' => ∃ ds : List Value, r = .returned (.agg ds.toArray) ∧ ds.length = 6 ∧ (∀ d ∈ ds, d.oneCell' = true) ∧ (ArmIs w' W.heap.size m) x ds ∧ Below W.heap.size W w'))
    (HM : Hid (∀ x cs (l l' : Nat) (W W' : World), Keeps l W W' → l' ≤ l → (ArmIs W l m) x cs → (ArmIs W' l' m) x cs)) :
    Calls Tryz.prog 24 #[v] w fun r w' => ∃ a cap, r = .returned (.slice a xs.length cap) ∧ xs.length ≤ cap ∧ RowIs w' w.heap.size 6 (ArmIs w' w.heap.size m) (.slice a xs.length cap) xs ∧ Below w.heap.size w w' := by
  obtain ⟨a, cap, rfl, hl, hx⟩ := hv
  have HX : Hid (∀ j x, xs[j]? = some x → ∃ b o cs, a = some ⟨b, o, none⟩ ∧ lo ≤ b ∧ cs.length = 6 ∧ w.rangeAt b (o + j * 6) cs ∧ (ArmIs w lo m) x cs) := hx
  have hmk := make_Arm xs.length hbig
  obtain ⟨len, HL⟩ : ∃ len, Hid (len = xs.length) := ⟨_, rfl⟩
  rw [← HL.out] at hl hmk hbig ⊢
  clear hx
  go_enter Tryz.func24, Tryz.ntmps24
  go_wp2
  go_loopg [4] len (fun g i wr => ∃ n : Nat, n + g = len ∧ i = .int .i64 n ∧ Below w.heap.size w wr ∧ ∃ C : Array Value, wr.heap[w.heap.size]? = some (.cells C 60 (0, 0)) ∧ C.size = len * 6 ∧ Hid (∀ j x, j < n → xs[j]? = some x → ∃ ds : List Value, ds.length = 6 ∧ (∀ i d, ds[i]? = some d → C[j * 6 + i]? = some d) ∧ (ArmIs wr (w.heap.size + 1) m) x ds))
  case atStart => exact ⟨0, by omega, rfl, (Below.refl _ _).alloc (Nat.le_refl _) _, _, heap_alloc_last w _, size_madeCells _ _, fun j x hj => by omega⟩
  case round =>
    obtain ⟨n, hn, rfl, hb, C, hC, hs, HS⟩ := hrel
    by_cases hlt : n < len
    · have i1 : (n : Int) < (len : Int) := by omega
      have i3 : (0 : Int) ≤ (n : Int) := by omega
      obtain ⟨x, hxn⟩ : ∃ x, xs[n]? = some x := ⟨_, List.getElem?_eq_getElem (by have := HL.out; omega)⟩
      obtain ⟨b, o, cs, rfl, hlo, hcs, hrg, hR⟩ := HX.out n x hxn
      have HB : Hid (Below w.heap.size w wr) := hb
      have HCr : Hid (wr.heap[w.heap.size]? = some (.cells C 60 (0, 0))) := hC
      have HLd : Hid ((loadVar 119 ⟨b, o + n * 6, none⟩).run Tryz.prog wr = .ok (.agg cs.toArray) wr) := run_loadVar_mid wr b (o + n * 6) 119 cs _ (fun i c hi => (Keeps.of_below hb 0) _ _ _ (Nat.zero_le _) (hrg i c hi)) Tryz.underlying119 rfl (by rw [hcs]; kernel_rfl)
      have HCx : Hid (Calls Tryz.prog 61 #[.agg cs.toArray] wr fun r w' => ∃ ds : List Value, r = .returned (.agg ds.toArray) ∧ ds.length = 6 ∧ (∀ d ∈ ds, d.oneCell' = true) ∧ (ArmIs w' wr.heap.size m) x ds ∧ Below wr.heap.size wr w') := HC.out x cs (List.mem_of_getElem? hxn) wr (HM.out x cs lo lo w wr (Keeps.of_below hb lo) (Nat.le_refl _) hR)
      have Bl : w.heap.size < wr.heap.size := (Array.getElem?_eq_some_iff.1 hC).1
      clear hb hrg hcs hR hlo hC
      go_wp2_with (first | (refine wpL_load rfl 119 _ rfl _ _ rfl _ HLd.out ?_) | fail)
      refine HCx.out.mono ?_
      rintro r w1 ⟨ds, rfl, hds, hone, hRd, g1⟩
      have hC1 : w1.heap[w.heap.size]? = some (.cells C 60 (0, 0)) := (g1.block _ Bl).trans HCr.out
      have b1 : Below w.heap.size w w1 := HB.out.trans (g1.mono HB.out.size)
      have HST : Hid ((storeVar 60 ⟨w.heap.size, n * 6, none⟩ (.agg ds.toArray)).run Tryz.prog w1 = .ok () (w1.setRow w.heap.size (putAt C (n * 6) ds))) := by
        have h1 : n * 6 + 6 ≤ len * 6 := by omega
        have := store_sub (P := Tryz.prog) hC1 60 (n * 6) ds.toArray (by simp [hds]; omega) (by rw [List.size_toArray, hds]; kernel_rfl) (by simp; exact hone)
        show _ = _
        simpa using this
      clear HCx HLd
      go_wp2_with (first | (refine wpL_store rfl 60 _ _ rfl _ _ rfl _ rfl _ HST.out ?_) | fail)
      go_roundg (gk - 1)
      case measure => omega
      case rel =>
        refine ⟨n + 1, by omega, by simp, below_row b1 (Nat.le_refl _) hC1 _, _, row_set hC1 _, by rw [putAt_size]; exact hs, ?_⟩
        intro j x' hj hx'
        by_cases hjn : j = n
        · subst hjn
          obtain rfl := Option.some.inj (hxn.symm.trans hx')
          refine ⟨ds, hds, fun i d hd => ?_, HM.out _ _ wr.heap.size (w.heap.size + 1) w1 (w1.setRow w.heap.size (putAt C (j * 6) ds)) (keeps_row (by omega)) (by omega) hRd⟩
          have hi : i < 6 := by have := (List.getElem?_eq_some_iff.1 hd).1; omega
          rw [putAt_get _ _ _ (by omega), if_pos (by omega), Nat.add_sub_cancel_left]; exact hd
        · obtain ⟨es, he, hce, hRe⟩ := HS.out j x' (by omega) hx'
          refine ⟨es, he, fun i d hd => ?_, HM.out _ _ (w.heap.size + 1) (w.heap.size + 1) wr (w1.setRow w.heap.size (putAt C (n * 6) ds)) ((Keeps.of_below g1 _).trans (keeps_row (by omega))) (Nat.le_refl _) hRe⟩
          have hi : i < 6 := by have := (List.getElem?_eq_some_iff.1 hd).1; omega
          rw [putAt_get _ _ _ (by omega), if_neg (by omega)]; exact hce i d hd
    · have i1 : ¬ ((n : Int) < (len : Int)) := by omega
      go_wp2
      go_ret
      refine ⟨_, _, rfl, Nat.le_refl _, ⟨some ⟨w.heap.size, 0, none⟩, len, by rw [← HL.out], by rw [← HL.out]; omega, fun j x hj => ?_⟩, hb⟩
      have hjl : j < n := by have := (List.getElem?_eq_some_iff.1 hj).1; have := HL.out; omega
      obtain ⟨ds, hds, hcd, hRd⟩ := HS.out j x hjl hj
      refine ⟨w.heap.size, 0, ds, rfl, Nat.le_refl _, hds, fun i d hd => ?_, HM.out _ _ (w.heap.size + 1) w.heap.size wr wr (Keeps.refl _ _) (by omega) hRd⟩
      rw [Nat.zero_add, cell_of_row _ _ _ _ _ _ hC]; exact hcd i d hd



theorem to_arms_cap (m : Nat) (v : Value) (xs : List ArmT) (w : World) (lo : Nat) (hv : ArmsIs w lo m v xs) (hbig : xs.length + (xs.map (wA m)).sum ≤ 1048576) :
    Calls Tryz.prog 24 #[v] w fun r w' => ∃ a cap, r = .returned (.slice a xs.length cap) ∧ xs.length ≤ cap ∧ ArmsIs w' w.heap.size m (.slice a xs.length cap) xs ∧ Below w.heap.size w w' :=
  to_arms_rowc m v xs w lo hv (by omega) (fun x cs hx W h => to_arm m x cs W lo h (by have := sum_mem (wA m) xs x hx; omega)) (fun x cs l l' W W' k hl h => ArmIs.move k hl _ _ (Nat.le_refl _) _ _ h)
end Go.Proofs.YtgopfaegdlefpaaGreatDoor
