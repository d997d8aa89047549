/- The parts of a ladder: the closure over arms, a round. -/
import Derived.Test.YtocnhfecnhndgaaXn
namespace Go.Proofs.Ytocnhfecnhndgaa
open Go.RowKit Go.Shelf
set_option linter.unusedVariables false
attribute [local go_sem] Oper.semAt_some

set_option maxRecDepth 100000 in
set_option maxHeartbeats 8000000 in
theorem arms_step (w : World) (B l By Bn Ba N : Nat) (hBw : w.heap.size ≤ B) (hBy : By ≠ B) (hBn : Bn ≠ B) (hBa : Ba ≠ B) (J Jx : List (PartW w) → World → Prop) (hJg : ∀ pre W W', Below W.heap.size W W' → J pre W → J pre W')
    (hY : ∀ pre (x : PartW w) W, J pre W → pre.length < N → YieldAt Fence.wide 0 Try.prog l #[x.1.1] W fun e W' => (e = .returned (.bool true) ∧ J (pre ++ [x]) W' ∧ KC w.heap.size B W W') ∨ (e = .returned (.bool false) ∧ Jx (pre ++ [x]) W'))
    (R : ArmT → List Value → Prop) (PN PK : ArmT → List PartT) (n : Nat) (v : Value) (rung : Bool) (kids : List ArmT) (pre : List (PartW w)) (W : World) (hb : Below w.heap.size w W) (hBW : B < W.heap.size) (hyb : YB W By l) (hnb : MB W By Bn) (hab : AB W By Bn Ba) (hr : RowB W B 6 R v kids) (hJ : J pre W) (hN : pre.length + (kids.flatMap (fun t => PN t ++ .inr t :: PK t)).length ≤ N)
    (HR : Hid (∀ t cs, t ∈ kids → R t cs → ∃ k op a1 l1 c1 a2 l2 c2 a3 l3 c3 a4 l4 c4, ∃ nn : Bool, cs = [.int .i64 k, .int .i64 op, .slice a1 l1 c1, .slice a2 l2 c2, .slice a3 l3 c3, .slice a4 l4 c4] ∧
      (∀ r, POk w (.iface 92 (.agg #[.int .i64 k, .int .i64 op, .slice a1 l1 c1, .slice a2 l2 c2, .slice a3 l3 c3, .slice a4 l4 c4, .bool r]), .inr t)) ∧
      (∀ W, Calls Try.prog 60 #[.agg #[.int .i64 k, .int .i64 op, .slice a1 l1 c1, .slice a2 l2 c2]] W fun e w' => e = .returned (.bool nn) ∧ Below W.heap.size W w') ∧ (nn = true → PN t = []) ∧
      (nn = false → ∀ n pre W, Below w.heap.size w W → B < W.heap.size → YB W By l → MB W By Bn → J pre W → pre.length + (PN t).length ≤ N →
        CallsIn Fence.wide n Try.prog 57 #[.agg #[.int .i64 k, .int .i64 op, .slice a1 l1 c1, .slice a2 l2 c2], .pointer (some ⟨By, 0, none⟩)] W fun e W' =>
          (e = .returned (.bool true) ∧ (∃ ys, ghosts ys = PN t ∧ J (pre ++ ys) W') ∧ KC w.heap.size B W W') ∨ (e = .returned (.bool false) ∧ ∃ q, Jx q W')) ∧
      (∀ n pre W, Below w.heap.size w W → B < W.heap.size → YB W By l → MB W By Bn → AB W By Bn Ba → J pre W → pre.length + (PK t).length ≤ N →
        CallsIn Fence.wide n Try.prog 59 #[.slice a4 l4 c4, .bool false, .pointer (some ⟨Bn, 0, none⟩), .pointer (some ⟨By, 0, none⟩), .pointer (some ⟨Ba, 0, none⟩)] W fun e W' =>
          (e = .returned (.bool true) ∧ (∃ ys, ghosts ys = PK t ∧ J (pre ++ ys) W') ∧ KC w.heap.size B W W') ∨ (e = .returned (.bool false) ∧ ∃ q, Jx q W')))) :
      CallsIn Fence.wide n Try.prog 59 #[v, .bool rung, .pointer (some ⟨Bn, 0, none⟩), .pointer (some ⟨By, 0, none⟩), .pointer (some ⟨Ba, 0, none⟩)] W fun e W' =>
        (e = .returned (.bool true) ∧ (∃ ys, ghosts ys = kids.flatMap (fun t => PN t ++ .inr t :: PK t) ∧ J (pre ++ ys) W') ∧ KC w.heap.size B W W') ∨ (e = .returned (.bool false) ∧ ∃ q, Jx q W') := by
  have hr0 := hr
  obtain ⟨a, cap, rfl, hl, _⟩ := hr
  have HRow : Hid (RowB W B 6 R (.slice a kids.length cap) kids) := hr0
  have HJ0 : Hid (J pre W) := hJ
  have HYb : Hid (YB W By l ∧ MB W By Bn ∧ AB W By Bn Ba ∧ Below w.heap.size w W ∧ B < W.heap.size) := ⟨hyb, hnb, hab, hb, hBW⟩
  have HN : Hid (pre.length + (kids.flatMap (fun t => PN t ++ .inr t :: PK t)).length ≤ N) := hN
  have HJg : Hid (∀ pre W W', Below W.heap.size W W' → J pre W → J pre W') := hJg
  have HY : Hid (∀ pre (x : PartW w) W, J pre W → pre.length < N → YieldAt Fence.wide 0 Try.prog l #[x.1.1] W fun e W' => (e = .returned (.bool true) ∧ J (pre ++ [x]) W' ∧ KC w.heap.size B W W') ∨ (e = .returned (.bool false) ∧ Jx (pre ++ [x]) W')) := hY
  obtain ⟨len, HL⟩ : ∃ len, Hid (len = kids.length) := ⟨_, rfl⟩
  rw [← HL.out] at hl HRow ⊢
  have hdd : ∀ k : Nat, (Fence.wide.depth.isSome = true → 1 ≤ k) := fun k h => by cases h
  clear hr0 hJ hyb hnb hab hb hBW hN hJg hY
  refine callsIn_of_wp Try.func59 rfl trivial ?_ rfl
  simp only [Try.ntmps59, List.size_toArray, List.length_cons, List.length_nil, Nat.reduceAdd, Nat.reduceSub, Array.replicate_succ, Array.replicate_zero, List.push_toArray, List.append_toArray, List.nil_append, List.cons_append]
  gi_wp2
  gi_loopw [12] (fun i wr => ∃ (c : Nat) (ys : List (PartW w)), i = .int .i64 c ∧ c ≤ len ∧ Hid (ghosts ys = (kids.take c).flatMap (fun t => PN t ++ .inr t :: PK t)) ∧ Hid (J (pre ++ ys) wr) ∧ Hid (KC w.heap.size B W wr))
    (fun i _ => len - (RowKit.intOf i).toNat)
  case atStart => exact ⟨0, [], rfl, Nat.zero_le _, rfl, (by simpa using HJ0.out : J (pre ++ []) W), KC.refl _ _ _⟩
  case round =>
    obtain ⟨c, ys, rfl, hc, HG, HJ, HK⟩ := hrel
    by_cases hlt : c < len
    · have i1 : (c : Int) < (len : Int) := by omega
      have i3 : (0 : Int) ≤ (c : Int) := by omega
      obtain ⟨t, ht⟩ : ∃ t, kids[c]? = some t := ⟨_, List.getElem?_eq_getElem (by have := HL.out; omega)⟩
      obtain ⟨a', cap', hv', hl', hx⟩ := HRow.out.keep HK.out
      simp only [Value.slice.injEq] at hv'
      obtain ⟨ea, ea1, ea2⟩ := hv'
      subst ea
      clear ea1 ea2
      obtain ⟨b, o, cs, rfl, hbB, hcs, hrg, hRt⟩ := hx c t ht
      obtain ⟨k, op, a1, l1, c1, a2, l2, c2, a3, l3, c3, a4, l4, c4, nn, rfl, hpok, hnone, hnn, hnet, hrec⟩ := HR.out t cs (List.mem_of_getElem? ht) hRt
      have x0 : wr.cell? ⟨b, o + c * 6, none⟩ = some (.int .i64 k) := hrg 0 _ rfl
      have x1 : wr.cell? ⟨b, o + c * 6 + 1, none⟩ = some (.int .i64 op) := hrg 1 _ rfl
      have x2 : wr.cell? ⟨b, o + c * 6 + 2, none⟩ = some (.slice a1 l1 c1) := hrg 2 _ rfl
      have x3 : wr.cell? ⟨b, o + c * 6 + 3, none⟩ = some (.slice a2 l2 c2) := hrg 3 _ rfl
      have x4 : wr.cell? ⟨b, o + c * 6 + 4, none⟩ = some (.slice a3 l3 c3) := hrg 4 _ rfl
      have x5 : wr.cell? ⟨b, o + c * 6 + 5, none⟩ = some (.slice a4 l4 c4) := hrg 5 _ rfl
      have hgs : (kids.take (c + 1)).flatMap (fun t => PN t ++ Sum.inr t :: PK t) = (kids.take c).flatMap (fun t => PN t ++ .inr t :: PK t) ++ (PN t ++ .inr t :: PK t) := by
        rw [List.take_add_one, ht]; simp
      have hlenG : ys.length = ((kids.take c).flatMap (fun t => PN t ++ Sum.inr t :: PK t)).length := by rw [← HG.out]; simp [ghosts]
      have hpl : ((kids.take (c + 1)).flatMap (fun t => PN t ++ Sum.inr t :: PK t)).length ≤ (kids.flatMap (fun t => PN t ++ Sum.inr t :: PK t)).length := flat_take_le _ _ _
      have hNN := HN.out
      rw [hgs, List.length_append, List.length_append, List.length_cons] at hpl
      have hn₀ : w.heap.size ≤ wr.heap.size := Nat.le_trans HYb.out.2.2.2.1.size HK.out.1.size
      have szw : B < wr.heap.size := Nat.lt_of_lt_of_le HYb.out.2.2.2.2 HK.out.1.size
      have bx0 := heap_alloc_last wr (.cells #[.int .i64 k, .int .i64 op, .slice a1 l1 c1, .slice a2 l2 c2, .slice a3 l3 c3, .slice a4 l4 c4] 61)
      have gA : Below wr.heap.size wr (wr.alloc (.cells #[.int .i64 k, .int .i64 op, .slice a1 l1 c1, .slice a2 l2 c2, .slice a3 l3 c3, .slice a4 l4 c4] 61)) := (Below.refl _ _).alloc (Nat.le_refl _) _
      have HA : Hid ((wr.alloc (.cells #[.int .i64 k, .int .i64 op, .slice a1 l1 c1, .slice a2 l2 c2, .slice a3 l3 c3, .slice a4 l4 c4] 61)).heap[wr.heap.size]? = some (.cells #[.int .i64 k, .int .i64 op, .slice a1 l1 c1, .slice a2 l2 c2, .slice a3 l3 c3, .slice a4 l4 c4] 61 (0, 0)) ∧ KC w.heap.size B W (wr.alloc (.cells #[.int .i64 k, .int .i64 op, .slice a1 l1 c1, .slice a2 l2 c2, .slice a3 l3 c3, .slice a4 l4 c4] 61)) ∧ J (pre ++ ys) (wr.alloc (.cells #[.int .i64 k, .int .i64 op, .slice a1 l1 c1, .slice a2 l2 c2, .slice a3 l3 c3, .slice a4 l4 c4] 61)) ∧ w.heap.size ≤ (wr.alloc (.cells #[.int .i64 k, .int .i64 op, .slice a1 l1 c1, .slice a2 l2 c2, .slice a3 l3 c3, .slice a4 l4 c4] 61)).heap.size) := ⟨bx0, HK.out.trans (KC.alloc hn₀ _), HJg.out _ _ _ gA HJ.out, by simp; omega⟩
      clear hx hrg bx0 gA
      gi_wp2
      refine ⟨trivial, hdd _, ?_⟩
      refine (callsIn_wide.2 (hnone _)).mono ?_
      rintro e w1 ⟨rfl, g1⟩
      have bx1 : w1.heap[wr.heap.size]? = some (.cells #[.int .i64 k, .int .i64 op, .slice a1 l1 c1, .slice a2 l2 c2, .slice a3 l3 c3, .slice a4 l4 c4] 61 (0, 0)) := (g1.block _ (Array.getElem?_eq_some_iff.1 HA.out.1).1).trans HA.out.1
      have K1 : KC w.heap.size B W w1 := HA.out.2.1.trans (KC.of_below g1 HA.out.2.2.2)
      have J1 : J (pre ++ ys) w1 := HJg.out _ _ _ g1 HA.out.2.2.1
      clear g1 HA x0 x1 x2 x3 x4 x5 hnone
      cases nn with
      | true =>
        have hPN : ghosts ([] : List (PartW w)) = PN t := by rw [hnn rfl]; rfl
        have J1' : J (pre ++ ys ++ ([] : List (PartW w))) w1 := by simpa using J1
        have d0 : w1.cell? ⟨wr.heap.size, 0, none⟩ = some (.int .i64 k) := (cell_of_row _ _ _ _ _ _ bx1).trans rfl
        have d1 : w1.cell? ⟨wr.heap.size, 1, none⟩ = some (.int .i64 op) := (cell_of_row _ _ _ _ _ _ bx1).trans rfl
        have d2 : w1.cell? ⟨wr.heap.size, 2, none⟩ = some (.slice a1 l1 c1) := (cell_of_row _ _ _ _ _ _ bx1).trans rfl
        have d3 : w1.cell? ⟨wr.heap.size, 3, none⟩ = some (.slice a2 l2 c2) := (cell_of_row _ _ _ _ _ _ bx1).trans rfl
        have d4 : w1.cell? ⟨wr.heap.size, 4, none⟩ = some (.slice a3 l3 c3) := (cell_of_row _ _ _ _ _ _ bx1).trans rfl
        have d5 : w1.cell? ⟨wr.heap.size, 5, none⟩ = some (.slice a4 l4 c4) := (cell_of_row _ _ _ _ _ _ bx1).trans rfl
        have cy : w1.cell? ⟨By, 0, none⟩ = some (.func (.yield l) #[] #[]) := (cell_of_row _ _ _ _ _ _ (K1.row hBy HYb.out.1)).trans rfl
        have hnl : ([] : List (PartW w)).length = (PN t).length := by rw [← hPN]; simp [ghosts]
        obtain ⟨fn, tmps, assign, body, hy, hR⟩ := yield_any (n - 1) (HY.out (pre ++ ys ++ ([] : List (PartW w))) ⟨(.iface 92 (.agg #[.int .i64 k, .int .i64 op, .slice a1 l1 c1, .slice a2 l2 c2, .slice a3 l3 c3, .slice a4 l4 c4, .bool rung]), .inr t), hpok rung⟩ w1 J1' (by simp only [List.length_append]; omega))
        have HKx : Hid (KC w.heap.size B W w1 ∧ w1.heap[wr.heap.size]? = some (.cells #[.int .i64 k, .int .i64 op, .slice a1 l1 c1, .slice a2 l2 c2, .slice a3 l3 c3, .slice a4 l4 c4] 61 (0, 0))) := ⟨K1, bx1⟩
        gi_wp2
        refine ⟨fun _ h => (by cases h), ?_⟩
        gi_wp2
        refine ⟨hdd _, ?_⟩
        refine hR.mono ?_
        rintro e W5 (⟨rfl, hJ5, hk5⟩ | ⟨rfl, hx5⟩)
        rotate_left
        · clear hy hR cy d0 d1 d2 d3 d4 d5 HKx hrec
          gi_wp2
          refine ⟨fun _ h => (by cases h), ?_⟩
          gi_wp2
          go_ret
          exact .inr ⟨rfl, _, hx5⟩
        have hK5 : KC w.heap.size B W W5 := HKx.out.1.trans hk5
        have yb5 : YB W5 By l := hK5.row hBy HYb.out.1
        have nb5 : MB W5 By Bn := hK5.row hBn HYb.out.2.1
        have ab5 : AB W5 By Bn Ba := hK5.row hBa HYb.out.2.2.1
        have ca5 : W5.cell? ⟨Ba, 0, none⟩ = some (.func (.func 59) #[] #[.pointer (some ⟨Bn, 0, none⟩), .pointer (some ⟨By, 0, none⟩), .pointer (some ⟨Ba, 0, none⟩)]) := (cell_of_row _ _ _ _ _ _ ab5).trans rfl
        have bx5 : W5.heap[wr.heap.size]? = some (.cells #[.int .i64 k, .int .i64 op, .slice a1 l1 c1, .slice a2 l2 c2, .slice a3 l3 c3, .slice a4 l4 c4] 61 (0, 0)) := hk5.row (by omega) HKx.out.2
        have e5 : W5.cell? ⟨wr.heap.size, 5, none⟩ = some (.slice a4 l4 c4) := (cell_of_row _ _ _ _ _ _ bx5).trans rfl
        have hrc := hrec (n - 1) _ W5 (HYb.out.2.2.2.1.trans hK5.1) (Nat.lt_of_lt_of_le HYb.out.2.2.2.2 hK5.1.size) yb5 nb5 ab5 hJ5 (by simp only [List.length_append, List.length_cons, List.length_nil]; omega)
        have HK5 : Hid (KC w.heap.size B W W5) := hK5
        clear hy hR hk5 yb5 nb5 ab5 bx5 hK5 hJ5 cy d0 d1 d2 d3 d4 d5 HKx
        gi_wp2
        refine ⟨trivial, hdd _, ?_⟩
        refine hrc.mono ?_
        rintro e W6 (⟨rfl, ⟨zs, hzs, hJ6⟩, hk6⟩ | ⟨rfl, qx, hx6⟩)
        rotate_left
        · clear hrc
          gi_wp2
          go_ret
          exact .inr ⟨rfl, qx, hx6⟩
        clear hrc
        gi_wp2
        go_roundw
        case rel =>
          refine ⟨c + 1, ys ++ (([] : List (PartW w)) ++ (⟨(.iface 92 (.agg #[.int .i64 k, .int .i64 op, .slice a1 l1 c1, .slice a2 l2 c2, .slice a3 l3 c3, .slice a4 l4 c4, .bool rung]), .inr t), hpok rung⟩ : PartW w) :: zs), by simp, by omega, ?_, ?_, HK5.out.trans hk6⟩
          · show ghosts _ = _
            rw [hgs, ← HG.out, ← hPN, ← hzs]; simp [ghosts]
          · show J _ W6
            simpa [List.append_assoc] using hJ6
        case measure => simp [RowKit.intOf]; omega
      | false =>
        have yb1 : YB w1 By l := K1.row hBy HYb.out.1
        have nb1 : MB w1 By Bn := K1.row hBn HYb.out.2.1
        have cn1 : w1.cell? ⟨Bn, 0, none⟩ = some (.func (.func 57) #[] #[.pointer (some ⟨By, 0, none⟩)]) := (cell_of_row _ _ _ _ _ _ nb1).trans rfl
        have hnc := hnet rfl (n - 1) (pre ++ ys) w1 (HYb.out.2.2.2.1.trans K1.1) (Nat.lt_of_lt_of_le HYb.out.2.2.2.2 K1.1.size) yb1 nb1 J1 (by simp only [List.length_append]; omega)
        have HK1 : Hid (KC w.heap.size B W w1 ∧ w1.heap[wr.heap.size]? = some (.cells #[.int .i64 k, .int .i64 op, .slice a1 l1 c1, .slice a2 l2 c2, .slice a3 l3 c3, .slice a4 l4 c4] 61 (0, 0))) := ⟨K1, bx1⟩
        have d0 : w1.cell? ⟨wr.heap.size, 0, none⟩ = some (.int .i64 k) := (cell_of_row _ _ _ _ _ _ bx1).trans rfl
        have d1 : w1.cell? ⟨wr.heap.size, 1, none⟩ = some (.int .i64 op) := (cell_of_row _ _ _ _ _ _ bx1).trans rfl
        have d2 : w1.cell? ⟨wr.heap.size, 2, none⟩ = some (.slice a1 l1 c1) := (cell_of_row _ _ _ _ _ _ bx1).trans rfl
        have d3 : w1.cell? ⟨wr.heap.size, 3, none⟩ = some (.slice a2 l2 c2) := (cell_of_row _ _ _ _ _ _ bx1).trans rfl
        have d4 : w1.cell? ⟨wr.heap.size, 4, none⟩ = some (.slice a3 l3 c3) := (cell_of_row _ _ _ _ _ _ bx1).trans rfl
        have d5 : w1.cell? ⟨wr.heap.size, 5, none⟩ = some (.slice a4 l4 c4) := (cell_of_row _ _ _ _ _ _ bx1).trans rfl
        clear yb1 nb1 J1 K1 bx1 hnet
        gi_wp2
        refine ⟨trivial, hdd _, ?_⟩
        refine hnc.mono ?_
        rintro e W3 (⟨rfl, ⟨ns, hns, J3⟩, hk3⟩ | ⟨rfl, qx, hx3⟩)
        rotate_left
        · clear hnc HK1 cn1 d0 d1 d2 d3 d4 d5 hrec
          gi_wp2
          go_ret
          exact .inr ⟨rfl, qx, hx3⟩
        have K3 : KC w.heap.size B W W3 := HK1.out.1.trans hk3
        have bx3 : W3.heap[wr.heap.size]? = some (.cells #[.int .i64 k, .int .i64 op, .slice a1 l1 c1, .slice a2 l2 c2, .slice a3 l3 c3, .slice a4 l4 c4] 61 (0, 0)) := hk3.row (by omega) HK1.out.2
        clear hk3 hnc HK1 cn1 d0 d1 d2 d3 d4 d5
        have d0 : W3.cell? ⟨wr.heap.size, 0, none⟩ = some (.int .i64 k) := (cell_of_row _ _ _ _ _ _ bx3).trans rfl
        have d1 : W3.cell? ⟨wr.heap.size, 1, none⟩ = some (.int .i64 op) := (cell_of_row _ _ _ _ _ _ bx3).trans rfl
        have d2 : W3.cell? ⟨wr.heap.size, 2, none⟩ = some (.slice a1 l1 c1) := (cell_of_row _ _ _ _ _ _ bx3).trans rfl
        have d3 : W3.cell? ⟨wr.heap.size, 3, none⟩ = some (.slice a2 l2 c2) := (cell_of_row _ _ _ _ _ _ bx3).trans rfl
        have d4 : W3.cell? ⟨wr.heap.size, 4, none⟩ = some (.slice a3 l3 c3) := (cell_of_row _ _ _ _ _ _ bx3).trans rfl
        have d5 : W3.cell? ⟨wr.heap.size, 5, none⟩ = some (.slice a4 l4 c4) := (cell_of_row _ _ _ _ _ _ bx3).trans rfl
        have cy : W3.cell? ⟨By, 0, none⟩ = some (.func (.yield l) #[] #[]) := (cell_of_row _ _ _ _ _ _ (K3.row hBy HYb.out.1)).trans rfl
        have hnl : (ns).length = (PN t).length := by rw [← hns]; simp [ghosts]
        obtain ⟨fn, tmps, assign, body, hy, hR⟩ := yield_any (n - 1) (HY.out (pre ++ ys ++ (ns)) ⟨(.iface 92 (.agg #[.int .i64 k, .int .i64 op, .slice a1 l1 c1, .slice a2 l2 c2, .slice a3 l3 c3, .slice a4 l4 c4, .bool rung]), .inr t), hpok rung⟩ W3 J3 (by simp only [List.length_append]; omega))
        have HKx : Hid (KC w.heap.size B W W3 ∧ W3.heap[wr.heap.size]? = some (.cells #[.int .i64 k, .int .i64 op, .slice a1 l1 c1, .slice a2 l2 c2, .slice a3 l3 c3, .slice a4 l4 c4] 61 (0, 0))) := ⟨K3, bx3⟩
        gi_wp2
        refine ⟨hdd _, ?_⟩
        refine hR.mono ?_
        rintro e W5 (⟨rfl, hJ5, hk5⟩ | ⟨rfl, hx5⟩)
        rotate_left
        · clear hy hR cy d0 d1 d2 d3 d4 d5 HKx hrec
          gi_wp2
          refine ⟨fun _ h => (by cases h), ?_⟩
          gi_wp2
          go_ret
          exact .inr ⟨rfl, _, hx5⟩
        have hK5 : KC w.heap.size B W W5 := HKx.out.1.trans hk5
        have yb5 : YB W5 By l := hK5.row hBy HYb.out.1
        have nb5 : MB W5 By Bn := hK5.row hBn HYb.out.2.1
        have ab5 : AB W5 By Bn Ba := hK5.row hBa HYb.out.2.2.1
        have ca5 : W5.cell? ⟨Ba, 0, none⟩ = some (.func (.func 59) #[] #[.pointer (some ⟨Bn, 0, none⟩), .pointer (some ⟨By, 0, none⟩), .pointer (some ⟨Ba, 0, none⟩)]) := (cell_of_row _ _ _ _ _ _ ab5).trans rfl
        have bx5 : W5.heap[wr.heap.size]? = some (.cells #[.int .i64 k, .int .i64 op, .slice a1 l1 c1, .slice a2 l2 c2, .slice a3 l3 c3, .slice a4 l4 c4] 61 (0, 0)) := hk5.row (by omega) HKx.out.2
        have e5 : W5.cell? ⟨wr.heap.size, 5, none⟩ = some (.slice a4 l4 c4) := (cell_of_row _ _ _ _ _ _ bx5).trans rfl
        have hrc := hrec (n - 1) _ W5 (HYb.out.2.2.2.1.trans hK5.1) (Nat.lt_of_lt_of_le HYb.out.2.2.2.2 hK5.1.size) yb5 nb5 ab5 hJ5 (by simp only [List.length_append, List.length_cons, List.length_nil]; omega)
        have HK5 : Hid (KC w.heap.size B W W5) := hK5
        clear hy hR hk5 yb5 nb5 ab5 bx5 hK5 hJ5 cy d0 d1 d2 d3 d4 d5 HKx
        gi_wp2
        refine ⟨trivial, hdd _, ?_⟩
        refine hrc.mono ?_
        rintro e W6 (⟨rfl, ⟨zs, hzs, hJ6⟩, hk6⟩ | ⟨rfl, qx, hx6⟩)
        rotate_left
        · clear hrc
          gi_wp2
          go_ret
          exact .inr ⟨rfl, qx, hx6⟩
        clear hrc
        gi_wp2
        go_roundw
        case rel =>
          refine ⟨c + 1, ys ++ ((ns) ++ (⟨(.iface 92 (.agg #[.int .i64 k, .int .i64 op, .slice a1 l1 c1, .slice a2 l2 c2, .slice a3 l3 c3, .slice a4 l4 c4, .bool rung]), .inr t), hpok rung⟩ : PartW w) :: zs), by simp, by omega, ?_, ?_, HK5.out.trans hk6⟩
          · show ghosts _ = _
            rw [hgs, ← HG.out, ← hns, ← hzs]; simp [ghosts]
          · show J _ W6
            simpa [List.append_assoc] using hJ6
        case measure => simp [RowKit.intOf]; omega
    · have i1 : ¬ ((c : Int) < (len : Int)) := by omega
      gi_wp2
      go_ret
      refine .inl ⟨rfl, ⟨ys, ?_, HJ.out⟩, HK.out⟩
      rw [HG.out, List.take_of_length_le (by have := HL.out; omega)]
end Go.Proofs.Ytocnhfecnhndgaa
