/- The parts of a ladder: the closure over arms, a round. -/
import Derived.Test.YtgopfaegdlefpaaGreatDoorGmM
namespace Go.Proofs.YtgopfaegdlefpaaGreatDoor
open Go.RowKit Go.Shelf
set_option linter.unusedVariables false
attribute [local go_sem] Oper.semAt_some

set_option maxRecDepth 100000 in
set_option maxHeartbeats 8000000 in
theorem arms_step (w : World) (B l By Bn Ba : Nat) (L : List PartT) (hBw : w.heap.size ≤ B) (hBy : By ≠ B) (hBn : Bn ≠ B) (hBa : Ba ≠ B) (J Jx : List (PartW w) → World → Prop) (hJg : ∀ pre W W', Below W.heap.size W W' → J pre W → J pre W')
    (hY : ∀ pre (x : PartW w) W, J pre W → Fit L pre [x.1.2] → YieldAt Fence.wide 0 Tryz.prog l #[x.1.1] W fun e W' => (e = .returned (.bool true) ∧ J (pre ++ [x]) W' ∧ KC w.heap.size B W W') ∨ (e = .returned (.bool false) ∧ Jx (pre ++ [x]) W'))
    (R : ArmT → List Value → Prop) (PN PK : ArmT → List PartT) (n : Nat) (v : Value) (rung : Bool) (kids : List ArmT) (pre : List (PartW w)) (W : World) (hb : Below w.heap.size w W) (hBW : B < W.heap.size) (hyb : YB W By l) (hnb : MB W By Bn) (hab : AB W By Bn Ba) (hr : RowB W B 6 R v kids) (hJ : J pre W) (hN : Fit L pre (kids.flatMap (fun t => PN t ++ .inr (t, rung) :: PK t)))
    (HR : Hid (∀ t cs, t ∈ kids → R t cs → ∃ k op a1 l1 c1 a2 l2 c2 a3 l3 c3 a4 l4 c4, ∃ nn : Bool, cs = [.int .i64 k, .int .i64 op, .slice a1 l1 c1, .slice a2 l2 c2, .slice a3 l3 c3, .slice a4 l4 c4] ∧
      (∀ r, POk w (.iface 172 (.agg #[.int .i64 k, .int .i64 op, .slice a1 l1 c1, .slice a2 l2 c2, .slice a3 l3 c3, .slice a4 l4 c4, .bool r]), .inr (t, r))) ∧
      (∀ W, Calls Tryz.prog 98 #[.agg #[.int .i64 k, .int .i64 op, .slice a1 l1 c1, .slice a2 l2 c2]] W fun e w' => e = .returned (.bool nn) ∧ Below W.heap.size W w') ∧ (nn = true → PN t = []) ∧
      (nn = false → ∀ n pre W, Below w.heap.size w W → B < W.heap.size → YB W By l → MB W By Bn → J pre W → Fit L pre (PN t) →
        CallsIn Fence.wide n Tryz.prog 95 #[.agg #[.int .i64 k, .int .i64 op, .slice a1 l1 c1, .slice a2 l2 c2], .pointer (some ⟨By, 0, none⟩)] W fun e W' =>
          (e = .returned (.bool true) ∧ (∃ ys, ghosts ys = PN t ∧ J (pre ++ ys) W') ∧ KC w.heap.size B W W') ∨ (e = .returned (.bool false) ∧ ∃ q, Jx q W')) ∧
      (∀ n pre W, Below w.heap.size w W → B < W.heap.size → YB W By l → MB W By Bn → AB W By Bn Ba → J pre W → Fit L pre (PK t) →
        CallsIn Fence.wide n Tryz.prog 97 #[.slice a4 l4 c4, .bool false, .pointer (some ⟨Bn, 0, none⟩), .pointer (some ⟨By, 0, none⟩), .pointer (some ⟨Ba, 0, none⟩)] W fun e W' =>
          (e = .returned (.bool true) ∧ (∃ ys, ghosts ys = PK t ∧ J (pre ++ ys) W') ∧ KC w.heap.size B W W') ∨ (e = .returned (.bool false) ∧ ∃ q, Jx q W')))) :
      CallsIn Fence.wide n Tryz.prog 97 #[v, .bool rung, .pointer (some ⟨Bn, 0, none⟩), .pointer (some ⟨By, 0, none⟩), .pointer (some ⟨Ba, 0, none⟩)] W fun e W' =>
        (e = .returned (.bool true) ∧ (∃ ys, ghosts ys = kids.flatMap (fun t => PN t ++ .inr (t, rung) :: PK t) ∧ J (pre ++ ys) W') ∧ KC w.heap.size B W W') ∨ (e = .returned (.bool false) ∧ ∃ q, Jx q W') := by
  have hr0 := hr
  obtain ⟨a, cap, rfl, hl, _⟩ := hr
  have HRow : Hid (RowB W B 6 R (.slice a kids.length cap) kids) := hr0
  have HJ0 : Hid (J pre W) := hJ
  have HYb : Hid (YB W By l ∧ MB W By Bn ∧ AB W By Bn Ba ∧ Below w.heap.size w W ∧ B < W.heap.size) := ⟨hyb, hnb, hab, hb, hBW⟩
  have HN : Hid (Fit L pre (kids.flatMap (fun t => PN t ++ .inr (t, rung) :: PK t))) := hN
  have HJg : Hid (∀ pre W W', Below W.heap.size W W' → J pre W → J pre W') := hJg
  have HY : Hid (∀ pre (x : PartW w) W, J pre W → Fit L pre [x.1.2] → YieldAt Fence.wide 0 Tryz.prog l #[x.1.1] W fun e W' => (e = .returned (.bool true) ∧ J (pre ++ [x]) W' ∧ KC w.heap.size B W W') ∨ (e = .returned (.bool false) ∧ Jx (pre ++ [x]) W')) := hY
  obtain ⟨len, HL⟩ : ∃ len, Hid (len = kids.length) := ⟨_, rfl⟩
  rw [← HL.out] at hl HRow ⊢
  have hdd : ∀ k : Nat, (Fence.wide.depth.isSome = true → 1 ≤ k) := fun k h => by cases h
  clear hr0 hJ hyb hnb hab hb hBW hN hJg hY
  refine callsIn_of_wp Tryz.func97 rfl trivial ?_ rfl
  simp only [Tryz.ntmps97, List.size_toArray, List.length_cons, List.length_nil, Nat.reduceAdd, Nat.reduceSub, Array.replicate_succ, Array.replicate_zero, List.push_toArray, List.append_toArray, List.nil_append, List.cons_append]
  gi_wp2
  gi_loopw [12] (fun i wr => ∃ (c : Nat) (ys : List (PartW w)), i = .int .i64 c ∧ c ≤ len ∧ Hid (ghosts ys = (kids.take c).flatMap (fun t => PN t ++ .inr (t, rung) :: PK t)) ∧ Hid (J (pre ++ ys) wr) ∧ Hid (KC w.heap.size B W wr))
    (fun i _ => len - (RowKit.intOf i).toNat)
  case atStart => exact ⟨0, [], rfl, Nat.zero_le _, rfl, (by simpa using HJ0.out : J (pre ++ []) W), KC.refl _ _ _⟩
  case round =>
    obtain ⟨c, ys, rfl, hc, HG, HJ, HK⟩ := hrel
    by_cases hlt : c < len
    · have i1 : (c : Int) < (len : Int) := by omega
      have i3 : (0 : Int) ≤ (c : Int) := by omega
      obtain ⟨t, ht⟩ : ∃ t, kids[c]? = some t := ⟨_, List.getElem?_eq_getElem (by have := HL.out; omega)⟩
      obtain ⟨a', cap', hv', hl', hx⟩ := HRow.out.keep HK.out
      simp only [Value.slice.injEq] at hv'
      obtain ⟨ea, ea1, ea2⟩ := hv'
      subst ea
      clear ea1 ea2
      obtain ⟨b, o, cs, rfl, hbB, hcs, hrg, hRt⟩ := hx c t ht
      obtain ⟨k, op, a1, l1, c1, a2, l2, c2, a3, l3, c3, a4, l4, c4, nn, rfl, hpok, hnone, hnn, hnet, hrec⟩ := HR.out t cs (List.mem_of_getElem? ht) hRt
      have x0 : wr.cell? ⟨b, o + c * 6, none⟩ = some (.int .i64 k) := hrg 0 _ rfl
      have x1 : wr.cell? ⟨b, o + c * 6 + 1, none⟩ = some (.int .i64 op) := hrg 1 _ rfl
      have x2 : wr.cell? ⟨b, o + c * 6 + 2, none⟩ = some (.slice a1 l1 c1) := hrg 2 _ rfl
      have x3 : wr.cell? ⟨b, o + c * 6 + 3, none⟩ = some (.slice a2 l2 c2) := hrg 3 _ rfl
      have x4 : wr.cell? ⟨b, o + c * 6 + 4, none⟩ = some (.slice a3 l3 c3) := hrg 4 _ rfl
      have x5 : wr.cell? ⟨b, o + c * 6 + 5, none⟩ = some (.slice a4 l4 c4) := hrg 5 _ rfl
      have hgs : (kids.take (c + 1)).flatMap (fun t => PN t ++ Sum.inr (t, rung) :: PK t) = (kids.take c).flatMap (fun t => PN t ++ .inr (t, rung) :: PK t) ++ (PN t ++ .inr (t, rung) :: PK t) := by
        rw [List.take_add_one, ht]; simp
      have HF : Hid (kids.flatMap (fun t => PN t ++ Sum.inr (t, rung) :: PK t) = ghosts ys ++ (PN t ++ (Sum.inr (t, rung) :: (PK t ++ (kids.drop (c + 1)).flatMap (fun t => PN t ++ Sum.inr (t, rung) :: PK t))))) := (by
        rw [HG.out, flat_at _ _ _ _ ht]; simp : kids.flatMap (fun t => PN t ++ Sum.inr (t, rung) :: PK t) = ghosts ys ++ (PN t ++ (Sum.inr (t, rung) :: (PK t ++ (kids.drop (c + 1)).flatMap (fun t => PN t ++ Sum.inr (t, rung) :: PK t)))))
      have hn₀ : w.heap.size ≤ wr.heap.size := Nat.le_trans HYb.out.2.2.2.1.size HK.out.1.size
      have szw : B < wr.heap.size := Nat.lt_of_lt_of_le HYb.out.2.2.2.2 HK.out.1.size
      have bx0 := heap_alloc_last wr (.cells #[.int .i64 k, .int .i64 op, .slice a1 l1 c1, .slice a2 l2 c2, .slice a3 l3 c3, .slice a4 l4 c4] 60)
      have gA : Below wr.heap.size wr (wr.alloc (.cells #[.int .i64 k, .int .i64 op, .slice a1 l1 c1, .slice a2 l2 c2, .slice a3 l3 c3, .slice a4 l4 c4] 60)) := (Below.refl _ _).alloc (Nat.le_refl _) _
      have HA : Hid ((wr.alloc (.cells #[.int .i64 k, .int .i64 op, .slice a1 l1 c1, .slice a2 l2 c2, .slice a3 l3 c3, .slice a4 l4 c4] 60)).heap[wr.heap.size]? = some (.cells #[.int .i64 k, .int .i64 op, .slice a1 l1 c1, .slice a2 l2 c2, .slice a3 l3 c3, .slice a4 l4 c4] 60 (0, 0)) ∧ KC w.heap.size B W (wr.alloc (.cells #[.int .i64 k, .int .i64 op, .slice a1 l1 c1, .slice a2 l2 c2, .slice a3 l3 c3, .slice a4 l4 c4] 60)) ∧ J (pre ++ ys) (wr.alloc (.cells #[.int .i64 k, .int .i64 op, .slice a1 l1 c1, .slice a2 l2 c2, .slice a3 l3 c3, .slice a4 l4 c4] 60)) ∧ w.heap.size ≤ (wr.alloc (.cells #[.int .i64 k, .int .i64 op, .slice a1 l1 c1, .slice a2 l2 c2, .slice a3 l3 c3, .slice a4 l4 c4] 60)).heap.size) := ⟨bx0, HK.out.trans (KC.alloc hn₀ _), HJg.out _ _ _ gA HJ.out, by simp; omega⟩
      clear hx hrg bx0 gA
      gi_wp2
      refine ⟨trivial, hdd _, ?_⟩
      refine (callsIn_wide.2 (hnone _)).mono ?_
      rintro e w1 ⟨rfl, g1⟩
      have bx1 : w1.heap[wr.heap.size]? = some (.cells #[.int .i64 k, .int .i64 op, .slice a1 l1 c1, .slice a2 l2 c2, .slice a3 l3 c3, .slice a4 l4 c4] 60 (0, 0)) := (g1.block _ (Array.getElem?_eq_some_iff.1 HA.out.1).1).trans HA.out.1
      have K1 : KC w.heap.size B W w1 := HA.out.2.1.trans (KC.of_below g1 HA.out.2.2.2)
      have J1 : J (pre ++ ys) w1 := HJg.out _ _ _ g1 HA.out.2.2.1
      clear g1 HA x0 x1 x2 x3 x4 x5 hnone
      cases nn with
      | true =>
        have hPN : ghosts ([] : List (PartW w)) = PN t := by rw [hnn rfl]; rfl
        have J1' : J (pre ++ ys ++ ([] : List (PartW w))) w1 := by simpa using J1
        have d0 : w1.cell? ⟨wr.heap.size, 0, none⟩ = some (.int .i64 k) := (cell_of_row _ _ _ _ _ _ bx1).trans rfl
        have d1 : w1.cell? ⟨wr.heap.size, 1, none⟩ = some (.int .i64 op) := (cell_of_row _ _ _ _ _ _ bx1).trans rfl
        have d2 : w1.cell? ⟨wr.heap.size, 2, none⟩ = some (.slice a1 l1 c1) := (cell_of_row _ _ _ _ _ _ bx1).trans rfl
        have d3 : w1.cell? ⟨wr.heap.size, 3, none⟩ = some (.slice a2 l2 c2) := (cell_of_row _ _ _ _ _ _ bx1).trans rfl
        have d4 : w1.cell? ⟨wr.heap.size, 4, none⟩ = some (.slice a3 l3 c3) := (cell_of_row _ _ _ _ _ _ bx1).trans rfl
        have d5 : w1.cell? ⟨wr.heap.size, 5, none⟩ = some (.slice a4 l4 c4) := (cell_of_row _ _ _ _ _ _ bx1).trans rfl
        have cy : w1.cell? ⟨By, 0, none⟩ = some (.func (.yield l) #[] #[]) := (cell_of_row _ _ _ _ _ _ (K1.row hBy HYb.out.1)).trans rfl
        obtain ⟨fn, tmps, assign, body, hy, hR⟩ := yield_any (n - 1) (HY.out (pre ++ ys ++ ([] : List (PartW w))) ⟨(.iface 172 (.agg #[.int .i64 k, .int .i64 op, .slice a1 l1 c1, .slice a2 l2 c2, .slice a3 l3 c3, .slice a4 l4 c4, .bool rung]), .inr (t, rung)), hpok rung⟩ w1 J1' (by rw [List.append_assoc]; exact HN.out.go _ _ (PK t ++ ((kids.drop (c + 1)).flatMap (fun t => PN t ++ Sum.inr (t, rung) :: PK t))) (by rw [HF.out, ← hPN]; simp [ghosts])))
        have HKx : Hid (KC w.heap.size B W w1 ∧ w1.heap[wr.heap.size]? = some (.cells #[.int .i64 k, .int .i64 op, .slice a1 l1 c1, .slice a2 l2 c2, .slice a3 l3 c3, .slice a4 l4 c4] 60 (0, 0))) := ⟨K1, bx1⟩
        gi_wp2
        refine ⟨fun _ h => (by cases h), ?_⟩
        gi_wp2
        refine ⟨hdd _, ?_⟩
        refine hR.mono ?_
        rintro e W5 (⟨rfl, hJ5, hk5⟩ | ⟨rfl, hx5⟩)
        rotate_left
        · clear hy hR cy d0 d1 d2 d3 d4 d5 HKx hrec
          gi_wp2
          refine ⟨fun _ h => (by cases h), ?_⟩
          gi_wp2
          go_ret
          exact .inr ⟨rfl, _, hx5⟩
        have hK5 : KC w.heap.size B W W5 := HKx.out.1.trans hk5
        have yb5 : YB W5 By l := hK5.row hBy HYb.out.1
        have nb5 : MB W5 By Bn := hK5.row hBn HYb.out.2.1
        have ab5 : AB W5 By Bn Ba := hK5.row hBa HYb.out.2.2.1
        have ca5 : W5.cell? ⟨Ba, 0, none⟩ = some (.func (.func 97) #[] #[.pointer (some ⟨Bn, 0, none⟩), .pointer (some ⟨By, 0, none⟩), .pointer (some ⟨Ba, 0, none⟩)]) := (cell_of_row _ _ _ _ _ _ ab5).trans rfl
        have bx5 : W5.heap[wr.heap.size]? = some (.cells #[.int .i64 k, .int .i64 op, .slice a1 l1 c1, .slice a2 l2 c2, .slice a3 l3 c3, .slice a4 l4 c4] 60 (0, 0)) := hk5.row (by omega) HKx.out.2
        have e5 : W5.cell? ⟨wr.heap.size, 5, none⟩ = some (.slice a4 l4 c4) := (cell_of_row _ _ _ _ _ _ bx5).trans rfl
        have hrc := hrec (n - 1) _ W5 (HYb.out.2.2.2.1.trans hK5.1) (Nat.lt_of_lt_of_le HYb.out.2.2.2.2 hK5.1.size) yb5 nb5 ab5 hJ5 (by rw [List.append_assoc, List.append_assoc]; exact HN.out.go _ _ ((kids.drop (c + 1)).flatMap (fun t => PN t ++ Sum.inr (t, rung) :: PK t)) (by rw [HF.out, ← hPN]; simp [ghosts]))
        have HK5 : Hid (KC w.heap.size B W W5) := hK5
        clear hy hR hk5 yb5 nb5 ab5 bx5 hK5 hJ5 cy d0 d1 d2 d3 d4 d5 HKx
        gi_wp2
        refine ⟨trivial, hdd _, ?_⟩
        refine hrc.mono ?_
        rintro e W6 (⟨rfl, ⟨zs, hzs, hJ6⟩, hk6⟩ | ⟨rfl, qx, hx6⟩)
        rotate_left
        · clear hrc
          gi_wp2
          go_ret
          exact .inr ⟨rfl, qx, hx6⟩
        clear hrc
        gi_wp2
        go_roundw
        case rel =>
          refine ⟨c + 1, ys ++ (([] : List (PartW w)) ++ (⟨(.iface 172 (.agg #[.int .i64 k, .int .i64 op, .slice a1 l1 c1, .slice a2 l2 c2, .slice a3 l3 c3, .slice a4 l4 c4, .bool rung]), .inr (t, rung)), hpok rung⟩ : PartW w) :: zs), by simp, by omega, ?_, ?_, HK5.out.trans hk6⟩
          · show ghosts _ = _
            rw [hgs, ← HG.out, ← hPN, ← hzs]; simp [ghosts]
          · show J _ W6
            simpa [List.append_assoc] using hJ6
        case measure => simp [RowKit.intOf]; omega
      | false =>
        have yb1 : YB w1 By l := K1.row hBy HYb.out.1
        have nb1 : MB w1 By Bn := K1.row hBn HYb.out.2.1
        have cn1 : w1.cell? ⟨Bn, 0, none⟩ = some (.func (.func 95) #[] #[.pointer (some ⟨By, 0, none⟩)]) := (cell_of_row _ _ _ _ _ _ nb1).trans rfl
        have hnc := hnet rfl (n - 1) (pre ++ ys) w1 (HYb.out.2.2.2.1.trans K1.1) (Nat.lt_of_lt_of_le HYb.out.2.2.2.2 K1.1.size) yb1 nb1 J1 (HN.out.go ys _ _ HF.out)
        have HK1 : Hid (KC w.heap.size B W w1 ∧ w1.heap[wr.heap.size]? = some (.cells #[.int .i64 k, .int .i64 op, .slice a1 l1 c1, .slice a2 l2 c2, .slice a3 l3 c3, .slice a4 l4 c4] 60 (0, 0))) := ⟨K1, bx1⟩
        have d0 : w1.cell? ⟨wr.heap.size, 0, none⟩ = some (.int .i64 k) := (cell_of_row _ _ _ _ _ _ bx1).trans rfl
        have d1 : w1.cell? ⟨wr.heap.size, 1, none⟩ = some (.int .i64 op) := (cell_of_row _ _ _ _ _ _ bx1).trans rfl
        have d2 : w1.cell? ⟨wr.heap.size, 2, none⟩ = some (.slice a1 l1 c1) := (cell_of_row _ _ _ _ _ _ bx1).trans rfl
        have d3 : w1.cell? ⟨wr.heap.size, 3, none⟩ = some (.slice a2 l2 c2) := (cell_of_row _ _ _ _ _ _ bx1).trans rfl
        have d4 : w1.cell? ⟨wr.heap.size, 4, none⟩ = some (.slice a3 l3 c3) := (cell_of_row _ _ _ _ _ _ bx1).trans rfl
        have d5 : w1.cell? ⟨wr.heap.size, 5, none⟩ = some (.slice a4 l4 c4) := (cell_of_row _ _ _ _ _ _ bx1).trans rfl
        clear yb1 nb1 J1 K1 bx1 hnet
        gi_wp2
        refine ⟨trivial, hdd _, ?_⟩
        refine hnc.mono ?_
        rintro e W3 (⟨rfl, ⟨ns, hns, J3⟩, hk3⟩ | ⟨rfl, qx, hx3⟩)
        rotate_left
        · clear hnc HK1 cn1 d0 d1 d2 d3 d4 d5 hrec
          gi_wp2
          go_ret
          exact .inr ⟨rfl, qx, hx3⟩
        have K3 : KC w.heap.size B W W3 := HK1.out.1.trans hk3
        have bx3 : W3.heap[wr.heap.size]? = some (.cells #[.int .i64 k, .int .i64 op, .slice a1 l1 c1, .slice a2 l2 c2, .slice a3 l3 c3, .slice a4 l4 c4] 60 (0, 0)) := hk3.row (by omega) HK1.out.2
        clear hk3 hnc HK1 cn1 d0 d1 d2 d3 d4 d5
        have d0 : W3.cell? ⟨wr.heap.size, 0, none⟩ = some (.int .i64 k) := (cell_of_row _ _ _ _ _ _ bx3).trans rfl
        have d1 : W3.cell? ⟨wr.heap.size, 1, none⟩ = some (.int .i64 op) := (cell_of_row _ _ _ _ _ _ bx3).trans rfl
        have d2 : W3.cell? ⟨wr.heap.size, 2, none⟩ = some (.slice a1 l1 c1) := (cell_of_row _ _ _ _ _ _ bx3).trans rfl
        have d3 : W3.cell? ⟨wr.heap.size, 3, none⟩ = some (.slice a2 l2 c2) := (cell_of_row _ _ _ _ _ _ bx3).trans rfl
        have d4 : W3.cell? ⟨wr.heap.size, 4, none⟩ = some (.slice a3 l3 c3) := (cell_of_row _ _ _ _ _ _ bx3).trans rfl
        have d5 : W3.cell? ⟨wr.heap.size, 5, none⟩ = some (.slice a4 l4 c4) := (cell_of_row _ _ _ _ _ _ bx3).trans rfl
        have cy : W3.cell? ⟨By, 0, none⟩ = some (.func (.yield l) #[] #[]) := (cell_of_row _ _ _ _ _ _ (K3.row hBy HYb.out.1)).trans rfl
        obtain ⟨fn, tmps, assign, body, hy, hR⟩ := yield_any (n - 1) (HY.out (pre ++ ys ++ (ns)) ⟨(.iface 172 (.agg #[.int .i64 k, .int .i64 op, .slice a1 l1 c1, .slice a2 l2 c2, .slice a3 l3 c3, .slice a4 l4 c4, .bool rung]), .inr (t, rung)), hpok rung⟩ W3 J3 (by rw [List.append_assoc]; exact HN.out.go _ _ (PK t ++ ((kids.drop (c + 1)).flatMap (fun t => PN t ++ Sum.inr (t, rung) :: PK t))) (by rw [HF.out, ← hns]; simp [ghosts])))
        have HKx : Hid (KC w.heap.size B W W3 ∧ W3.heap[wr.heap.size]? = some (.cells #[.int .i64 k, .int .i64 op, .slice a1 l1 c1, .slice a2 l2 c2, .slice a3 l3 c3, .slice a4 l4 c4] 60 (0, 0))) := ⟨K3, bx3⟩
        gi_wp2
        refine ⟨hdd _, ?_⟩
        refine hR.mono ?_
        rintro e W5 (⟨rfl, hJ5, hk5⟩ | ⟨rfl, hx5⟩)
        rotate_left
        · clear hy hR cy d0 d1 d2 d3 d4 d5 HKx hrec
          gi_wp2
          refine ⟨fun _ h => (by cases h), ?_⟩
          gi_wp2
          go_ret
          exact .inr ⟨rfl, _, hx5⟩
        have hK5 : KC w.heap.size B W W5 := HKx.out.1.trans hk5
        have yb5 : YB W5 By l := hK5.row hBy HYb.out.1
        have nb5 : MB W5 By Bn := hK5.row hBn HYb.out.2.1
        have ab5 : AB W5 By Bn Ba := hK5.row hBa HYb.out.2.2.1
        have ca5 : W5.cell? ⟨Ba, 0, none⟩ = some (.func (.func 97) #[] #[.pointer (some ⟨Bn, 0, none⟩), .pointer (some ⟨By, 0, none⟩), .pointer (some ⟨Ba, 0, none⟩)]) := (cell_of_row _ _ _ _ _ _ ab5).trans rfl
        have bx5 : W5.heap[wr.heap.size]? = some (.cells #[.int .i64 k, .int .i64 op, .slice a1 l1 c1, .slice a2 l2 c2, .slice a3 l3 c3, .slice a4 l4 c4] 60 (0, 0)) := hk5.row (by omega) HKx.out.2
        have e5 : W5.cell? ⟨wr.heap.size, 5, none⟩ = some (.slice a4 l4 c4) := (cell_of_row _ _ _ _ _ _ bx5).trans rfl
        have hrc := hrec (n - 1) _ W5 (HYb.out.2.2.2.1.trans hK5.1) (Nat.lt_of_lt_of_le HYb.out.2.2.2.2 hK5.1.size) yb5 nb5 ab5 hJ5 (by rw [List.append_assoc, List.append_assoc]; exact HN.out.go _ _ ((kids.drop (c + 1)).flatMap (fun t => PN t ++ Sum.inr (t, rung) :: PK t)) (by rw [HF.out, ← hns]; simp [ghosts]))
        have HK5 : Hid (KC w.heap.size B W W5) := hK5
        clear hy hR hk5 yb5 nb5 ab5 bx5 hK5 hJ5 cy d0 d1 d2 d3 d4 d5 HKx
        gi_wp2
        refine ⟨trivial, hdd _, ?_⟩
        refine hrc.mono ?_
        rintro e W6 (⟨rfl, ⟨zs, hzs, hJ6⟩, hk6⟩ | ⟨rfl, qx, hx6⟩)
        rotate_left
        · clear hrc
          gi_wp2
          go_ret
          exact .inr ⟨rfl, qx, hx6⟩
        clear hrc
        gi_wp2
        go_roundw
        case rel =>
          refine ⟨c + 1, ys ++ ((ns) ++ (⟨(.iface 172 (.agg #[.int .i64 k, .int .i64 op, .slice a1 l1 c1, .slice a2 l2 c2, .slice a3 l3 c3, .slice a4 l4 c4, .bool rung]), .inr (t, rung)), hpok rung⟩ : PartW w) :: zs), by simp, by omega, ?_, ?_, HK5.out.trans hk6⟩
          · show ghosts _ = _
            rw [hgs, ← HG.out, ← hns, ← hzs]; simp [ghosts]
          · show J _ W6
            simpa [List.append_assoc] using hJ6
        case measure => simp [RowKit.intOf]; omega
    · have i1 : ¬ ((c : Int) < (len : Int)) := by omega
      gi_wp2
      go_ret
      refine .inl ⟨rfl, ⟨ys, ?_, HJ.out⟩, HK.out⟩
      rw [HG.out, List.take_of_length_le (by have := HL.out; omega)]
end Go.Proofs.YtgopfaegdlefpaaGreatDoor
/- The parts of a ladder: the iterator's contract. -/
namespace Go.Proofs.YtgopfaegdlefpaaGreatDoor
open Go.RowKit Go.Shelf
set_option linter.unusedVariables false
attribute [local go_sem] Oper.semAt_some

theorem noneT_len (k : Int) (e : ElemT) (kids : List NetT) : noneT (.mk k e kids) = (decide (k = 0) && decide (e.op = 0) && decide (e.args.length = 0) && decide (kids.length = 0)) := by
  cases e with
  | mk op args => cases args <;> cases kids <;> simp [noneT]

theorem arms_in (w : World) (B l By Bn Ba b0 b1 : Nat) (L : List PartT) (hBw : w.heap.size ≤ B) (hBb : B < b1) (h01 : b0 ≤ b1) (hBy : By ≠ B) (hBn : Bn ≠ B) (hBa : Ba ≠ B) (J Jx : List (PartW w) → World → Prop) (hJg : ∀ pre W W', Below W.heap.size W W' → J pre W → J pre W') (hJd : Dep b1 J) (hJxd : Dep b1 Jx) (hJs : ∀ pre W, J pre W → b1 ≤ W.heap.size)
    (hY0 : ∀ pre (x : PartW w) W, J pre W → Fit L pre [x.1.2] → YieldAt Fence.wide 0 Tryz.prog l #[x.1.1] W fun e W' => (e = .returned (.bool true) ∧ KD w.heap.size B b0 W W' ∧ J (pre ++ [x]) W') ∨ (e = .returned (.bool false) ∧ KQ b0 W W' ∧ Jx (pre ++ [x]) W')) :
    ∀ (m n : Nat) (v : Value) (rung : Bool) (kids : List ArmT) (pre : List (PartW w)) (W : World), Below w.heap.size w W → B < W.heap.size → YB W By l → MB W By Bn → AB W By Bn Ba → RowB W B 6 (ArmIs w 0 m) v kids → (kids.map (wA m)).sum ≤ 1048576 → J pre W → Fit L pre (kids.flatMap (pArm m rung)) →
      CallsIn Fence.wide n Tryz.prog 97 #[v, .bool rung, .pointer (some ⟨Bn, 0, none⟩), .pointer (some ⟨By, 0, none⟩), .pointer (some ⟨Ba, 0, none⟩)] W fun e W' =>
        (e = .returned (.bool true) ∧ (∃ ys, ghosts ys = kids.flatMap (pArm m rung) ∧ J (pre ++ ys) W') ∧ KC w.heap.size B W W') ∨ (e = .returned (.bool false) ∧ ∃ q, Jx q W') := by
  have hY : ∀ pre (x : PartW w) W, J pre W → Fit L pre [x.1.2] → YieldAt Fence.wide 0 Tryz.prog l #[x.1.1] W fun e W' => (e = .returned (.bool true) ∧ J (pre ++ [x]) W' ∧ KC w.heap.size B W W') ∨ (e = .returned (.bool false) ∧ Jx (pre ++ [x]) W') := fun pre x W h hl => (hY0 pre x W h hl).mono fun e W' hh => by
    rcases hh with ⟨he, hk, hj⟩ | ⟨he, hk, hj⟩
    · exact .inl ⟨he, hj, hk.1⟩
    · exact .inr ⟨he, hj⟩
  intro m
  induction m with
  | zero =>
    intro n v rung kids pre W hb hBW hyb hnb hab hr hw hJ hN
    have hk : kids = [] := by
      obtain ⟨a, cap, rfl, hl, hx⟩ := hr
      cases kids with
      | nil => rfl
      | cons k r => obtain ⟨_, _, _, _, _, _, _, h⟩ := hx 0 k rfl; exact h.elim
    subst hk
    exact arms_step w B l By Bn Ba L hBw hBy hBn hBa J Jx hJg hY (ArmIs w 0 0) (fun _ => []) (fun _ => []) n v rung [] pre W hb hBW hyb hnb hab hr hJ hN (fun t cs h => by simp at h)
  | succ m ih =>
    intro n v rung kids pre W hb hBW hyb hnb hab hr hw hJ hN
    have e : kids.flatMap (pArm (m + 1) rung) = kids.flatMap (fun t => (match t with | .mk net coils ks => if noneT net then [] else pNet m net) ++ Sum.inr (t, rung) :: (match t with | .mk net coils ks => ks.flatMap (pArm m false))) := by
      congr 1; funext t; cases t; rfl
    rw [e] at hN ⊢
    refine arms_step w B l By Bn Ba L hBw hBy hBn hBa J Jx hJg hY (ArmIs w 0 (m + 1)) _ _ n v rung kids pre W hb hBW hyb hnb hab hr hJ hN ?_
    intro t cs ht hR
    have hwt : wA (m + 1) t ≤ 1048576 := sum_le_mem _ _ _ ht hw
    cases t with
    | mk net coils ks =>
      have hR' := hR
      obtain ⟨ns, v3, v4, rfl, hn, hc, hk⟩ := hR
      have hn' := hn
      cases m with
      | zero => exact hn.elim
      | succ m' =>
        cases net with
        | mk k e nk =>
          obtain ⟨v1, v2, rfl, ha, hnk⟩ := hn
          obtain ⟨a1, c1, rfl, hl1, _⟩ := id ha
          obtain ⟨a2, c2, rfl, hl2, _⟩ := id hnk
          obtain ⟨a3, c3, rfl, _, _⟩ := id hc
          obtain ⟨a4, c4, rfl, _, _⟩ := id hk
          have hww := hwt
          rw [show wA (m' + 1 + 1) (ArmT.mk (NetT.mk k e nk) coils ks) = wN (m' + 1) (NetT.mk k e nk) + (coils.length + (coils.map wE).sum) + (ks.length + (ks.map (wA (m' + 1))).sum) from rfl] at hww
          refine ⟨k, e.op, a1, _, c1, a2, _, c2, a3, _, c3, a4, _, c4, noneT (.mk k e nk), rfl, fun r => ⟨m' + 1 + 1, _, hR', hwt, rfl⟩, fun W => ?_, fun hnn => ?_, fun hnn n' pre' W' hb' hBW' hyb' hnb' hJ' hN' => ?_, fun n' pre' W' hb' hBW' hyb' hnb' hab' hJ' hN' => ?_⟩
          · rw [noneT_len]; exact none_i k e.op a1 _ c1 a2 _ c2 W hl1 hl2
          · show (if noneT (.mk k e nk) then [] else pNet (m' + 1) (.mk k e nk)) = []
            rw [hnn]; rfl
          · have eP : (if noneT (.mk k e nk) then ([] : List PartT) else pNet (m' + 1) (.mk k e nk)) = pNet (m' + 1) (.mk k e nk) := by rw [hnn]; simp
            have hN2 : Fit L pre' (if noneT (.mk k e nk) then ([] : List PartT) else pNet (m' + 1) (.mk k e nk)) := hN'
            rw [eP] at hN2
            have h := net1_in w B l By b0 b1 L hBw hBb h01 hBy J Jx hJd hJxd hY0 (m' + 1) n' k e.op a1 _ c1 a2 _ c2 (NetT.mk k e nk) pre' W' hb' (hJs _ _ hJ') hyb' hn' (by omega) hJ' hN2
            rw [← eP] at h
            exact h
          · exact ih n' _ false ks pre' W' hb' hBW' hyb' hnb' hab' (RowIs.rowB hk (by omega) hb' hBw) (by omega) hJ' hN'

set_option maxRecDepth 100000 in
set_option maxHeartbeats 2000000 in
/-- The function that treeParts hands back. -/
theorem parts1_in (w : World) (B Bx l m b0 b1 : Nat) (L : List PartT) (hBw : w.heap.size ≤ B) (hBb : B < b1) (h01 : b0 ≤ b1) (hBx : Bx ≠ B) (J Jx : List (PartW w) → World → Prop) (hJg : ∀ pre W W', Below W.heap.size W W' → J pre W → J pre W') (hJd : Dep b1 J) (hJxd : Dep b1 Jx) (hJs : ∀ pre W, J pre W → b1 ≤ W.heap.size)
    (n : Nat) (hY : ∀ pre (x : PartW w) W, J pre W → Fit L pre [x.1.2] → YieldAt Fence.wide (n - 1) Tryz.prog l #[x.1.1] W fun e W' => (e = .returned (.bool true) ∧ KD w.heap.size B b0 W W' ∧ J (pre ++ [x]) W') ∨ (e = .returned (.bool false) ∧ KQ b0 W W' ∧ Jx (pre ++ [x]) W'))
    (v : Value) (kids : List ArmT) (W : World) (hb : Below w.heap.size w W) (hBW : B < W.heap.size) (hc : W.cell? ⟨Bx, 0, none⟩ = some v) (hr : ArmsIs w 0 m v kids) (hw : (kids.map (wA m)).sum ≤ 1048576) (hJ : J [] W) (hN : Fit (w := w) L [] (kids.flatMap (pArm m true))) :
      CallsIn Fence.wide n Tryz.prog 94 #[.func (.yield l) #[] #[], .pointer (some ⟨Bx, 0, none⟩)] W fun e W' =>
        (∃ v, e = .returned v) ∧ ((∃ ys, ghosts ys = kids.flatMap (pArm m true) ∧ J ys W') ∨ (∃ q, True ∧ Jx q W')) := by
  have hdd : ∀ k : Nat, (Fence.wide.depth.isSome = true → 1 ≤ k) := fun k h => by cases h
  have hmf : ∀ (fn : Fn) (first cap : Array Value) (w : World), (Instr.makeFunc fn first cap).run Tryz.prog w = .ok (.func fn first cap) w := fun _ _ _ _ => rfl
  have stf : ∀ (fn : Fn) (first cap : Array Value) (w : World) (a : Addr) (m : Mode), (store a (.func fn first cap) m).run Tryz.prog w = stored Tryz.prog w a (.func fn first cap) m := fun _ _ _ w a m => run_store Tryz.prog w a _ m rfl
  have hr0 := hr
  obtain ⟨a, cap, rfl, _, _⟩ := hr0
  have lx : Bx < W.heap.size := World.block_lt_of_cell? _ _ hc
  obtain ⟨W1, hW1⟩ : ∃ W1, W1 = (((W.alloc (.cells #[.func (.yield l) #[] #[]] 168)).alloc (.cells #[.func (.func 95) #[] #[.pointer (some ⟨W.heap.size, 0, none⟩)]] 134)).alloc (.cells #[.func (.func 97) #[] #[.pointer (some ⟨W.heap.size + 1, 0, none⟩), .pointer (some ⟨W.heap.size, 0, none⟩), .pointer (some ⟨W.heap.size + 1 + 1, 0, none⟩)]] 170)) := ⟨_, rfl⟩
  have g1 : Below W.heap.size W W1 := by rw [hW1]; exact (((Below.refl _ _).alloc (Nat.le_refl _) _).alloc (by simp) _).alloc (by simp <;> omega) _
  have hk := rows3 W (.cells #[.func (.yield l) #[] #[]] 168) (.cells #[.func (.func 95) #[] #[.pointer (some ⟨W.heap.size, 0, none⟩)]] 134) (.cells #[.func (.func 97) #[] #[.pointer (some ⟨W.heap.size + 1, 0, none⟩), .pointer (some ⟨W.heap.size, 0, none⟩), .pointer (some ⟨W.heap.size + 1 + 1, 0, none⟩)]] 170)
  rw [← hW1] at hk
  have hca := arms_in w B l W.heap.size (W.heap.size + 1) (W.heap.size + 1 + 1) b0 b1 L hBw hBb h01 (by omega) (by omega) (by omega) J Jx hJg hJd hJxd hJs (fun pre x W h hl => yield_any 0 (hY pre x W h hl)) m (n - 1) _ true kids [] W1 (hb.trans (g1.mono hb.size)) (Nat.lt_of_lt_of_le hBW g1.size) hk.1 hk.2.1 hk.2.2 (RowIs.rowB hr (by omega) (hb.trans (g1.mono hb.size)) hBw) hw (hJg _ _ _ g1 hJ) hN
  have cx : W1.cell? ⟨Bx, 0, none⟩ = some (.slice a kids.length cap) := (Keeps.of_below g1 0) _ _ _ (Nat.zero_le _) hc
  rw [hW1] at hca cx
  clear hk g1 hW1 hY hJg
  refine callsIn_of_wp Tryz.func94 rfl trivial ?_ rfl
  simp only [Tryz.ntmps94, List.size_toArray, List.length_cons, List.length_nil, Nat.reduceAdd, Nat.reduceSub, Array.replicate_succ, Array.replicate_zero, List.push_toArray, List.append_toArray, List.nil_append, List.cons_append]
  gi_wp2
  refine ⟨trivial, hdd _, ?_⟩
  refine hca.mono ?_
  rintro e W3 (⟨rfl, ⟨ys, hys, hJ3⟩, _⟩ | ⟨rfl, q, hx⟩)
  · gi_wp2
    go_end0
    exact ⟨⟨_, rfl⟩, .inl ⟨ys, hys, by simpa using hJ3⟩⟩
  · gi_wp2
    go_end0
    exact ⟨⟨_, rfl⟩, .inr ⟨q, trivial, hx⟩⟩
end Go.Proofs.YtgopfaegdlefpaaGreatDoor
