/- What the specification says is wrong with an arm and with a ladder. -/
import Derived.Test.YtgopfaegdlefpaaGreatDoorUe
namespace Go.Proofs.YtgopfaegdlefpaaGreatDoor
open Go.RowKit
set_option linter.unusedVariables false

def armR (ct cl : Int → List ArgT → Bool) (m : Nat) (r nn : Bool) (cn : Int) (coils : List ElemT) (kids : List ArmT) : Int :=
  let a := if nn then 0 else cn
  let b := cAv r nn (coils.all fun e => cl e.op e.args) coils.length kids.length
  if a = 0 then (if b = 0 then firstC ct cl (kids.flatMap (pArm m false)) else b) else a
theorem armR_b {ct cl : Int → List ArgT → Bool} {m : Nat} {r nn : Bool} {cn : Int} {coils : List ElemT} {kids : List ArmT} (ha : (if nn then 0 else cn) = 0) {b : Int} (hb : cAv r nn (coils.all fun e => cl e.op e.args) coils.length kids.length = b) (h0 : b ≠ 0) : armR ct cl m r nn cn coils kids = b := by
  unfold armR
  simp only [ha, hb, if_true, h0, if_false]
theorem armR_k {ct cl : Int → List ArgT → Bool} {m : Nat} {r nn : Bool} {cn : Int} {coils : List ElemT} {kids : List ArmT} (ha : (if nn then 0 else cn) = 0) (hb : cAv r nn (coils.all fun e => cl e.op e.args) coils.length kids.length = 0) : armR ct cl m r nn cn coils kids = firstC ct cl (kids.flatMap (pArm m false)) := by
  unfold armR
  simp only [ha, hb, if_true]

set_option maxRecDepth 10000 in
set_option maxHeartbeats 16000000 in
theorem sa_step (ct cl : Int → List ArgT → Bool) (m : Nat) (r nn : Bool) (cn : Int) (hcn : 0 ≤ cn) (k op : Int) (a1 : Option Addr) (l1 c1 : Nat) (a2 : Option Addr) (l2 c2 : Nat) (v3 : Value) (coils : List ElemT) (v4 : Value) (kids : List ArmT) (w : World) (lo : Nat) (hv3 : ElemsIs w lo v3 coils) (hv4 : RowIs w lo 6 (ArmIs w lo m) v4 kids)
    (HN : Hid (∀ W, Calls Tryz.prog 72 #[.agg #[.int .i64 k, .int .i64 op, .slice a1 l1 c1, .slice a2 l2 c2]] W fun e w' => e = .returned (.bool nn) ∧ Below W.heap.size W w'))
    (HW : Hid (∀ W, Below w.heap.size w W → Calls Tryz.prog 76 #[.agg #[.int .i64 k, .int .i64 op, .slice a1 l1 c1, .slice a2 l2 c2]] W fun e w' => e = .returned (.int .i64 cn) ∧ Below W.heap.size W w'))
    (HL : Hid (∀ W, Below w.heap.size w W → ∀ op v xs, ArgsIs W lo v xs → Calls Tryz.prog 77 #[.agg #[.int .i64 op, v]] W fun e w' => e = .returned (.bool (cl op xs)) ∧ Below W.heap.size W w'))
    (HK : Hid (∀ x cs, x ∈ kids → ∀ (W : World), Below w.heap.size w W → (ArmIs W lo m) x cs → Calls Tryz.prog 34 #[.agg cs.toArray, .bool false] W fun r w' => r = .returned (.int .i64 (firstC ct cl (pArm m false x))) ∧ Below W.heap.size W w'))
    (HM : Hid (∀ x cs (W : World), Below w.heap.size w W → (ArmIs w lo m) x cs → (ArmIs W lo m) x cs)) :
    Calls Tryz.prog 34 #[.agg #[.int .i64 k, .int .i64 op, .slice a1 l1 c1, .slice a2 l2 c2, v3, v4], .bool r] w fun e w' => e = .returned (.int .i64 (armR ct cl m r nn cn coils kids)) ∧ Below w.heap.size w w' := by
  obtain ⟨a3, c3, rfl, hl3, hx3⟩ := hv3
  obtain ⟨a4, c4, rfl, hl4, hx4⟩ := hv4
  have HX3 : Hid (∀ j x, coils[j]? = some x → ∃ b o cs, a3 = some ⟨b, o, none⟩ ∧ lo ≤ b ∧ cs.length = 2 ∧ w.rangeAt b (o + j * 2) cs ∧ ElemIs w lo x cs) := hx3
  have HX4 : Hid (∀ j x, kids[j]? = some x → ∃ b o cs, a4 = some ⟨b, o, none⟩ ∧ lo ≤ b ∧ cs.length = 6 ∧ w.rangeAt b (o + j * 6) cs ∧ (ArmIs w lo m) x cs) := hx4
  obtain ⟨l3, HL3⟩ : ∃ l3, Hid (l3 = coils.length) := ⟨_, rfl⟩
  obtain ⟨l4, HL4⟩ : ∃ l4, Hid (l4 = kids.length) := ⟨_, rfl⟩
  rw [← HL3.out] at hl3 ⊢
  rw [← HL4.out] at hl4 ⊢
  clear hx3 hx4
  obtain ⟨RES, HRES⟩ : ∃ R, Hid (R = armR ct cl m r nn cn coils kids) := ⟨_, rfl⟩
  rw [← HRES.out]
  have hk0 := heap_alloc_last w (.cells #[.int .i64 k, .int .i64 op, .slice a1 l1 c1, .slice a2 l2 c2, .slice a3 l3 c3, .slice a4 l4 c4] 60)
  have b0 : Below w.heap.size w (w.alloc (.cells #[.int .i64 k, .int .i64 op, .slice a1 l1 c1, .slice a2 l2 c2, .slice a3 l3 c3, .slice a4 l4 c4] 60)) := (Below.refl _ _).alloc (Nat.le_refl _) _
  have HK0 : Hid ((w.alloc (.cells #[.int .i64 k, .int .i64 op, .slice a1 l1 c1, .slice a2 l2 c2, .slice a3 l3 c3, .slice a4 l4 c4] 60)).heap[w.heap.size]? = some (.cells #[.int .i64 k, .int .i64 op, .slice a1 l1 c1, .slice a2 l2 c2, .slice a3 l3 c3, .slice a4 l4 c4] 60 (0, 0)) ∧ w.heap.size < (w.alloc (.cells #[.int .i64 k, .int .i64 op, .slice a1 l1 c1, .slice a2 l2 c2, .slice a3 l3 c3, .slice a4 l4 c4] 60)).heap.size) := ⟨hk0, by simp⟩
  clear hk0
  cases r with
  | true =>
    go_enter Tryz.func34, Tryz.ntmps34
    go_wp2_with fail
    refine (HN.out _).mono ?_
    rintro e w1 ⟨rfl, g1⟩
    have kS := (g1.block _ HK0.out.2).trans HK0.out.1
    have bS := b0.trans (g1.mono b0.size)
    clear g1 b0 HK0

    cases nn with
    | true =>
      clear kS
      go_wp2
      go_ret
      exact ⟨by rw [HRES.out, armR_b (ct := ct) (cl := cl) (m := m) (r := true) (nn := true) (cn := cn) (coils := coils) (kids := kids) rfl (b := 4) rfl (by omega)] <;> rfl, bS⟩
    | false =>
      have d0 : w1.cell? ⟨w.heap.size, 0, none⟩ = some (.int .i64 k) := (cell_of_row _ _ _ _ _ _ kS).trans rfl
      have d1 : w1.cell? ⟨w.heap.size, 1, none⟩ = some (.int .i64 op) := (cell_of_row _ _ _ _ _ _ kS).trans rfl
      have d2 : w1.cell? ⟨w.heap.size, 2, none⟩ = some (.slice a1 l1 c1) := (cell_of_row _ _ _ _ _ _ kS).trans rfl
      have d3 : w1.cell? ⟨w.heap.size, 3, none⟩ = some (.slice a2 l2 c2) := (cell_of_row _ _ _ _ _ _ kS).trans rfl
      have K1 : Hid (w1.heap[w.heap.size]? = some (.cells #[.int .i64 k, .int .i64 op, .slice a1 l1 c1, .slice a2 l2 c2, .slice a3 l3 c3, .slice a4 l4 c4] 60 (0, 0))) := kS
      have B1 : Hid (Below w.heap.size w w1) := bS
      clear kS bS
      go_wp2_with fail
      refine (HN.out _).mono ?_
      rintro e w2 ⟨rfl, g2⟩
      have kS := (g2.block _ (Array.getElem?_eq_some_iff.1 K1.out).1).trans K1.out
      have bS := B1.out.trans (g2.mono B1.out.size)
      clear g2 K1 B1 d0 d1 d2 d3

      have d0 : w2.cell? ⟨w.heap.size, 0, none⟩ = some (.int .i64 k) := (cell_of_row _ _ _ _ _ _ kS).trans rfl
      have d1 : w2.cell? ⟨w.heap.size, 1, none⟩ = some (.int .i64 op) := (cell_of_row _ _ _ _ _ _ kS).trans rfl
      have d2 : w2.cell? ⟨w.heap.size, 2, none⟩ = some (.slice a1 l1 c1) := (cell_of_row _ _ _ _ _ _ kS).trans rfl
      have d3 : w2.cell? ⟨w.heap.size, 3, none⟩ = some (.slice a2 l2 c2) := (cell_of_row _ _ _ _ _ _ kS).trans rfl
      have K1 : Hid (w2.heap[w.heap.size]? = some (.cells #[.int .i64 k, .int .i64 op, .slice a1 l1 c1, .slice a2 l2 c2, .slice a3 l3 c3, .slice a4 l4 c4] 60 (0, 0))) := kS
      have B1 : Hid (Below w.heap.size w w2) := bS
      clear kS bS
      go_wp2_with fail
      refine (HW.out _ B1.out).mono ?_
      rintro e w3 ⟨rfl, g2⟩
      have kS := (g2.block _ (Array.getElem?_eq_some_iff.1 K1.out).1).trans K1.out
      have bS := B1.out.trans (g2.mono B1.out.size)
      clear g2 K1 B1 d0 d1 d2 d3
      by_cases hz : cn = 0
      · have z : ¬ (cn > 0) := by omega
        have z' : ¬ ((0 : Int) < cn) := by omega
        have HA0 : Hid (cn = 0) := hz
        clear hz hcn
        have q0 : (0 : Int) ≤ (l3 : Int) := by omega
        go_wp2
        go_loopg [6] l3 (fun g i wr => ∃ n : Nat, n + g = l3 ∧ i = .int .i64 n ∧ Hid (∀ e ∈ coils.take n, cl e.op e.args = true) ∧ Below w.heap.size w wr ∧ wr.heap[w.heap.size]? = some (.cells #[.int .i64 k, .int .i64 op, .slice a1 l1 c1, .slice a2 l2 c2, .slice a3 l3 c3, .slice a4 l4 c4] 60 (0, 0)))
        case atStart => exact ⟨0, by omega, rfl, fun e he => by simp at he, bS, kS⟩
        case round =>
          obtain ⟨n, hn, rfl, HA, hb, hk⟩ := hrel
          have c4' : wr.cell? ⟨w.heap.size, 4, none⟩ = some (.slice a3 l3 c3) := (cell_of_row _ _ _ _ _ _ hk).trans rfl
          by_cases hlt : n < l3
          · have i2 : (n : Int) < (l3 : Int) := by omega
            have i3 : (0 : Int) ≤ (n : Int) := by omega
            obtain ⟨x, hxn⟩ : ∃ x, coils[n]? = some x := ⟨_, List.getElem?_eq_getElem (by have := HL3.out; omega)⟩
            obtain ⟨b, o, cs, rfl, hlo, hcs, hrg, v, rfl, hR⟩ := HX3.out n x hxn
            have hkk := Keeps.of_below hb lo
            have x0 : wr.cell? ⟨b, o + n * 2, none⟩ = some (.int .i64 x.op) := hkk _ _ _ hlo (hrg 0 _ rfl)
            have x1 : wr.cell? ⟨b, o + n * 2 + 1, none⟩ = some v := hkk _ _ _ hlo (hrg 1 _ rfl)
            obtain ⟨a5, c5, hv5, hl5, _⟩ := id hR
            have hRw : ArgsIs wr lo v x.args := argsIs_move hkk (Nat.le_refl _) hR
            subst hv5
            obtain ⟨l5, HL5⟩ : ∃ l5, Hid (l5 = x.args.length) := ⟨_, rfl⟩
            rw [← HL5.out] at x1 hRw hl5
            have hc := HL.out _ hb x.op _ x.args hRw
            have HC : Hid (Calls Tryz.prog 77 #[.agg #[.int .i64 x.op, .slice a5 l5 c5]] wr fun e w' => e = .returned (.bool (cl x.op x.args)) ∧ Below wr.heap.size wr w') := hc
            have HB : Hid (Below w.heap.size w wr ∧ wr.heap[w.heap.size]? = some (.cells #[.int .i64 k, .int .i64 op, .slice a1 l1 c1, .slice a2 l2 c2, .slice (some ⟨b, o, none⟩) l3 c3, .slice a4 l4 c4] 60 (0, 0))) := ⟨hb, hk⟩
            clear hc hRw hkk hb hk hrg hcs hR hl5
            go_wp2_with fail
            refine HC.out.mono ?_
            rintro e w1 ⟨rfl, g1⟩
            have b1 : Below w.heap.size w w1 := HB.out.1.trans (g1.mono HB.out.1.size)
            have k1 : Hid (w1.heap[w.heap.size]? = some (.cells #[.int .i64 k, .int .i64 op, .slice a1 l1 c1, .slice a2 l2 c2, .slice (some ⟨b, o, none⟩) l3 c3, .slice a4 l4 c4] 60 (0, 0))) := (g1.block _ (Array.getElem?_eq_some_iff.1 HB.out.2).1).trans HB.out.2
            have HD : Hid (coils[n]? = some x) := hxn
            clear g1 HB HC x0 x1 hxn c4'
            obtain ⟨bb, HBB⟩ : ∃ bb, Hid (bb = cl x.op x.args) := ⟨_, rfl⟩
            rw [← HBB.out]
            cases bb with
            | true =>
              go_wp2
              go_roundg (gk - 1)
              case measure => omega
              case rel =>
                refine ⟨n + 1, by omega, by simp, ?_, b1, k1.out⟩
                intro e he
                rw [List.take_add_one, HD.out] at he
                simp only [Option.toList_some, List.mem_append, List.mem_singleton] at he
                rcases he with he | rfl
                · exact HA.out e he
                · exact HBB.out.symm
            | false =>
              go_wp2
              go_ret
              refine ⟨?_, b1⟩
              have hall : (coils.all fun e => cl e.op e.args) = false := List.all_eq_false.2 ⟨x, List.mem_of_getElem? HD.out, by rw [← HBB.out]; simp⟩
              rw [HRES.out, armR_b (ct := ct) (cl := cl) (m := m) (r := true) (nn := false) (cn := cn) (coils := coils) (kids := kids) HA0.out (b := 3) (by rw [hall]; rfl) (by omega)] <;> rfl
          · have i2 : ¬ ((n : Int) < (l3 : Int)) := by omega
            have HALL : Hid ((coils.all fun e => cl e.op e.args) = true) := List.all_eq_true.2 (fun e he => HA.out e (by rw [List.take_of_length_le (by have := HL3.out; omega)]; exact he))
            have d5 : wr.cell? ⟨w.heap.size, 5, none⟩ = some (.slice a4 l4 c4) := (cell_of_row _ _ _ _ _ _ hk).trans rfl
            have KR : Hid (wr.heap[w.heap.size]? = some (.cells #[.int .i64 k, .int .i64 op, .slice a1 l1 c1, .slice a2 l2 c2, .slice a3 l3 c3, .slice a4 l4 c4] 60 (0, 0))) := hk
            clear hk
            by_cases hz : l3 = 0 ∧ l4 = 0
            · have z3 : ((l3 : Int) == 0) = true := by simp [hz.1]
              have z4 : ((l4 : Int) == 0) = true := by simp [hz.2]
              have HZ : Hid (l3 = 0 ∧ l4 = 0) := hz
              clear hz hlt hn
              go_wp2
              go_ret
              exact ⟨by rw [HRES.out, armR_b (ct := ct) (cl := cl) (m := m) (r := true) (nn := false) (cn := cn) (coils := coils) (kids := kids) HA0.out (b := 5) (by rw [HALL.out, ← HL3.out, ← HL4.out, HZ.out.1, HZ.out.2]; rfl) (by omega)] <;> rfl, hb⟩
            · have HZ : Hid (armR ct cl m true false cn coils kids = firstC ct cl (kids.flatMap (pArm m false))) := armR_k (ct := ct) (cl := cl) (m := m) (r := true) (nn := false) (cn := cn) (coils := coils) (kids := kids) HA0.out (by rw [HALL.out, ← HL3.out, ← HL4.out]; unfold cAv; rw [if_neg (by simp), if_pos rfl, if_neg hz])
              rw [HZ.out] at HRES
              have HB0 : Hid (Below w.heap.size w wr) := hb
              have LOOP : True := trivial
              have z3 : ((l3 : Int) == 0) = false ∨ ((l3 : Int) == 0) = true ∧ ((l4 : Int) == 0) = false := by
                by_cases h3 : l3 = 0
                · exact .inr ⟨by simp [h3], by simp; omega⟩
                · exact .inl (by simp; omega)
              clear hz hlt hn HA HX3 HL HZ hb
              rcases z3 with z3 | ⟨z3, z4⟩
              all_goals
                go_wp2
                go_loopg [7] l4 (fun g i wr => ∃ n : Nat, n + g = l4 ∧ i = .int .i64 n ∧ Hid (firstC ct cl ((kids.take n).flatMap (pArm m false)) = 0) ∧ Below w.heap.size w wr ∧ wr.heap[w.heap.size]? = some (.cells #[.int .i64 k, .int .i64 op, .slice a1 l1 c1, .slice a2 l2 c2, .slice a3 l3 c3, .slice a4 l4 c4] 60 (0, 0)))
                case atStart => exact ⟨0, by omega, rfl, rfl, HB0.out, KR.out⟩
                case round =>
                  clear z3 c4' d5
                  try clear z4
                  obtain ⟨n, hn, rfl, HS, hb, hk0⟩ := hrel
                  have c0 : wr.cell? ⟨w.heap.size, 5, none⟩ = some (.slice a4 l4 c4) := (cell_of_row _ _ _ _ _ _ hk0).trans rfl
                  by_cases hlt : n < l4
                  · have i2 : (n : Int) < (l4 : Int) := by omega
                    have i3 : (0 : Int) ≤ (n : Int) := by omega
                    obtain ⟨x, hxn⟩ : ∃ x, kids[n]? = some x := ⟨_, List.getElem?_eq_getElem (by have := HL4.out; omega)⟩
                    obtain ⟨b, o, cs, rfl, hlo, hcs, hrg, hR⟩ := HX4.out n x hxn
                    have HB : Hid (Below w.heap.size w wr) := hb
                    have HLd : Hid ((loadVar 60 ⟨b, o + n * 6, none⟩).run Tryz.prog wr = .ok (.agg cs.toArray) wr) := run_loadVar_mid wr b (o + n * 6) 60 cs _ (fun i c hi => (Keeps.of_below hb 0) _ _ _ (Nat.zero_le _) (hrg i c hi)) Tryz.underlying60 rfl (by rw [hcs]; kernel_rfl)
                    have HCx : Hid (Calls Tryz.prog 34 #[.agg cs.toArray, .bool false] wr fun r w' => r = .returned (.int .i64 (firstC ct cl (pArm m false x))) ∧ Below wr.heap.size wr w') := HK.out x cs (List.mem_of_getElem? hxn) wr hb (HM.out x cs wr hb hR)
                    obtain ⟨q, Hq⟩ : ∃ q, Hid (q = firstC ct cl (pArm m false x)) := ⟨_, rfl⟩
                    rw [← Hq.out] at HCx
                    have hq := (firstC_range ct cl (pArm m false x)).1
                    rw [← Hq.out] at hq
                    have HKk : Hid (wr.heap[w.heap.size]? = some (.cells #[.int .i64 k, .int .i64 op, .slice a1 l1 c1, .slice a2 l2 c2, .slice a3 l3 c3, .slice (some ⟨b, o, none⟩) l4 c4] 60 (0, 0))) := hk0
                    have HD : Hid (kids[n]? = some x) := hxn
                    clear hb hrg hcs hR hlo hk0 hxn
                    go_wp2_with (first | (refine wpL_load rfl 60 _ rfl _ _ rfl _ HLd.out ?_) | fail)
                    refine HCx.out.mono ?_
                    rintro r w1 ⟨rfl, g1⟩
                    have b1 : Below w.heap.size w w1 := HB.out.trans (g1.mono HB.out.size)
                    have k1 : Hid (w1.heap[w.heap.size]? = some (.cells #[.int .i64 k, .int .i64 op, .slice a1 l1 c1, .slice a2 l2 c2, .slice a3 l3 c3, .slice (some ⟨b, o, none⟩) l4 c4] 60 (0, 0))) := (g1.block _ (Array.getElem?_eq_some_iff.1 HKk.out).1).trans HKk.out
                    clear g1 HCx HLd c0
                    by_cases hz : q = 0
                    · have z : ¬ (q > 0) := by omega
                      have HZ : Hid (q = 0) := hz
                      have z' : ¬ ((0 : Int) < q) := by omega
                      clear hz hq
                      go_wp2
                      go_roundg (gk - 1)
                      case measure => omega
                      case rel => exact ⟨n + 1, by omega, by simp, first_go _ _ _ _ HD.out HS.out (by rw [← Hq.out]; exact HZ.out), b1, k1.out⟩
                    · have z : q > 0 := by omega
                      have z' : (0 : Int) < q := by omega
                      have HZ : Hid (¬ q = 0) := hz
                      clear hz hq
                      go_wp2
                      go_ret
                      exact ⟨by rw [HRES.out, first_hit _ _ _ _ HD.out HS.out (by rw [← Hq.out]; exact HZ.out), ← Hq.out] <;> rfl, b1⟩
                  · have i2 : ¬ ((n : Int) < (l4 : Int)) := by omega
                    have HSt : Hid (firstC ct cl (kids.flatMap (pArm m false)) = 0) := (by have := HS.out; rwa [List.take_of_length_le (by have := HL4.out; omega)] at this : firstC ct cl (kids.flatMap (pArm m false)) = 0)
                    go_wp2
                    go_ret
                    exact ⟨by rw [HRES.out, HSt.out] <;> rfl, hb⟩

      · have z : cn > 0 := by omega
        have z' : (0 : Int) < cn := by omega
        have HA0 : Hid (¬ cn = 0) := hz
        clear hz hcn kS
        go_wp2
        go_ret
        exact ⟨by rw [HRES.out]; unfold armR; simp only [HA0.out, if_false, Bool.false_eq_true] <;> rfl, bS⟩

  | false =>
    go_enter Tryz.func34, Tryz.ntmps34
    go_wp2_with fail
    refine (HN.out _).mono ?_
    rintro e w1 ⟨rfl, g1⟩
    have kS := (g1.block _ HK0.out.2).trans HK0.out.1
    have bS := b0.trans (g1.mono b0.size)
    clear g1 b0 HK0

    cases nn with
    | true =>
      have q0 : (0 : Int) ≤ (l3 : Int) := by omega
      go_wp2
      go_loopg [6] l3 (fun g i wr => ∃ n : Nat, n + g = l3 ∧ i = .int .i64 n ∧ Hid (∀ e ∈ coils.take n, cl e.op e.args = true) ∧ Below w.heap.size w wr ∧ wr.heap[w.heap.size]? = some (.cells #[.int .i64 k, .int .i64 op, .slice a1 l1 c1, .slice a2 l2 c2, .slice a3 l3 c3, .slice a4 l4 c4] 60 (0, 0)))
      case atStart => exact ⟨0, by omega, rfl, fun e he => by simp at he, bS, kS⟩
      case round =>
        obtain ⟨n, hn, rfl, HA, hb, hk⟩ := hrel
        have c4' : wr.cell? ⟨w.heap.size, 4, none⟩ = some (.slice a3 l3 c3) := (cell_of_row _ _ _ _ _ _ hk).trans rfl
        by_cases hlt : n < l3
        · have i2 : (n : Int) < (l3 : Int) := by omega
          have i3 : (0 : Int) ≤ (n : Int) := by omega
          obtain ⟨x, hxn⟩ : ∃ x, coils[n]? = some x := ⟨_, List.getElem?_eq_getElem (by have := HL3.out; omega)⟩
          obtain ⟨b, o, cs, rfl, hlo, hcs, hrg, v, rfl, hR⟩ := HX3.out n x hxn
          have hkk := Keeps.of_below hb lo
          have x0 : wr.cell? ⟨b, o + n * 2, none⟩ = some (.int .i64 x.op) := hkk _ _ _ hlo (hrg 0 _ rfl)
          have x1 : wr.cell? ⟨b, o + n * 2 + 1, none⟩ = some v := hkk _ _ _ hlo (hrg 1 _ rfl)
          obtain ⟨a5, c5, hv5, hl5, _⟩ := id hR
          have hRw : ArgsIs wr lo v x.args := argsIs_move hkk (Nat.le_refl _) hR
          subst hv5
          obtain ⟨l5, HL5⟩ : ∃ l5, Hid (l5 = x.args.length) := ⟨_, rfl⟩
          rw [← HL5.out] at x1 hRw hl5
          have hc := HL.out _ hb x.op _ x.args hRw
          have HC : Hid (Calls Tryz.prog 77 #[.agg #[.int .i64 x.op, .slice a5 l5 c5]] wr fun e w' => e = .returned (.bool (cl x.op x.args)) ∧ Below wr.heap.size wr w') := hc
          have HB : Hid (Below w.heap.size w wr ∧ wr.heap[w.heap.size]? = some (.cells #[.int .i64 k, .int .i64 op, .slice a1 l1 c1, .slice a2 l2 c2, .slice (some ⟨b, o, none⟩) l3 c3, .slice a4 l4 c4] 60 (0, 0))) := ⟨hb, hk⟩
          clear hc hRw hkk hb hk hrg hcs hR hl5
          go_wp2_with fail
          refine HC.out.mono ?_
          rintro e w1 ⟨rfl, g1⟩
          have b1 : Below w.heap.size w w1 := HB.out.1.trans (g1.mono HB.out.1.size)
          have k1 : Hid (w1.heap[w.heap.size]? = some (.cells #[.int .i64 k, .int .i64 op, .slice a1 l1 c1, .slice a2 l2 c2, .slice (some ⟨b, o, none⟩) l3 c3, .slice a4 l4 c4] 60 (0, 0))) := (g1.block _ (Array.getElem?_eq_some_iff.1 HB.out.2).1).trans HB.out.2
          have HD : Hid (coils[n]? = some x) := hxn
          clear g1 HB HC x0 x1 hxn c4'
          obtain ⟨bb, HBB⟩ : ∃ bb, Hid (bb = cl x.op x.args) := ⟨_, rfl⟩
          rw [← HBB.out]
          cases bb with
          | true =>
            go_wp2
            go_roundg (gk - 1)
            case measure => omega
            case rel =>
              refine ⟨n + 1, by omega, by simp, ?_, b1, k1.out⟩
              intro e he
              rw [List.take_add_one, HD.out] at he
              simp only [Option.toList_some, List.mem_append, List.mem_singleton] at he
              rcases he with he | rfl
              · exact HA.out e he
              · exact HBB.out.symm
          | false =>
            go_wp2
            go_ret
            refine ⟨?_, b1⟩
            have hall : (coils.all fun e => cl e.op e.args) = false := List.all_eq_false.2 ⟨x, List.mem_of_getElem? HD.out, by rw [← HBB.out]; simp⟩
            rw [HRES.out, armR_b (ct := ct) (cl := cl) (m := m) (r := false) (nn := true) (cn := cn) (coils := coils) (kids := kids) (rfl : (if true = true then 0 else cn) = 0) (b := 3) (by rw [hall]; rfl) (by omega)] <;> rfl
        · have i2 : ¬ ((n : Int) < (l3 : Int)) := by omega
          have HALL : Hid ((coils.all fun e => cl e.op e.args) = true) := List.all_eq_true.2 (fun e he => HA.out e (by rw [List.take_of_length_le (by have := HL3.out; omega)]; exact he))
          have d5 : wr.cell? ⟨w.heap.size, 5, none⟩ = some (.slice a4 l4 c4) := (cell_of_row _ _ _ _ _ _ hk).trans rfl
          have KR : Hid (wr.heap[w.heap.size]? = some (.cells #[.int .i64 k, .int .i64 op, .slice a1 l1 c1, .slice a2 l2 c2, .slice a3 l3 c3, .slice a4 l4 c4] 60 (0, 0))) := hk
          clear hk
          by_cases hz : l3 = 0 ∧ l4 = 0
          · have z3 : ((l3 : Int) == 0) = true := by simp [hz.1]
            have z4 : ((l4 : Int) == 0) = true := by simp [hz.2]
            have HZ : Hid (l3 = 0 ∧ l4 = 0) := hz
            clear hz hlt hn
            go_wp2
            go_ret
            exact ⟨by rw [HRES.out, armR_b (ct := ct) (cl := cl) (m := m) (r := false) (nn := true) (cn := cn) (coils := coils) (kids := kids) (rfl : (if true = true then 0 else cn) = 0) (b := 5) (by rw [HALL.out, ← HL3.out, ← HL4.out, HZ.out.1, HZ.out.2]; rfl) (by omega)] <;> rfl, hb⟩
          · have HZ : Hid (armR ct cl m false true cn coils kids = firstC ct cl (kids.flatMap (pArm m false))) := armR_k (ct := ct) (cl := cl) (m := m) (r := false) (nn := true) (cn := cn) (coils := coils) (kids := kids) (rfl : (if true = true then 0 else cn) = 0) (by rw [HALL.out, ← HL3.out, ← HL4.out]; unfold cAv; rw [if_neg (by simp), if_pos rfl, if_neg hz])
            rw [HZ.out] at HRES
            have HB0 : Hid (Below w.heap.size w wr) := hb
            have LOOP : True := trivial
            have z3 : ((l3 : Int) == 0) = false ∨ ((l3 : Int) == 0) = true ∧ ((l4 : Int) == 0) = false := by
              by_cases h3 : l3 = 0
              · exact .inr ⟨by simp [h3], by simp; omega⟩
              · exact .inl (by simp; omega)
            clear hz hlt hn HA HX3 HL HZ hb
            rcases z3 with z3 | ⟨z3, z4⟩
            all_goals
              go_wp2
              go_loopg [7] l4 (fun g i wr => ∃ n : Nat, n + g = l4 ∧ i = .int .i64 n ∧ Hid (firstC ct cl ((kids.take n).flatMap (pArm m false)) = 0) ∧ Below w.heap.size w wr ∧ wr.heap[w.heap.size]? = some (.cells #[.int .i64 k, .int .i64 op, .slice a1 l1 c1, .slice a2 l2 c2, .slice a3 l3 c3, .slice a4 l4 c4] 60 (0, 0)))
              case atStart => exact ⟨0, by omega, rfl, rfl, HB0.out, KR.out⟩
              case round =>
                clear z3 c4' d5
                try clear z4
                obtain ⟨n, hn, rfl, HS, hb, hk0⟩ := hrel
                have c0 : wr.cell? ⟨w.heap.size, 5, none⟩ = some (.slice a4 l4 c4) := (cell_of_row _ _ _ _ _ _ hk0).trans rfl
                by_cases hlt : n < l4
                · have i2 : (n : Int) < (l4 : Int) := by omega
                  have i3 : (0 : Int) ≤ (n : Int) := by omega
                  obtain ⟨x, hxn⟩ : ∃ x, kids[n]? = some x := ⟨_, List.getElem?_eq_getElem (by have := HL4.out; omega)⟩
                  obtain ⟨b, o, cs, rfl, hlo, hcs, hrg, hR⟩ := HX4.out n x hxn
                  have HB : Hid (Below w.heap.size w wr) := hb
                  have HLd : Hid ((loadVar 60 ⟨b, o + n * 6, none⟩).run Tryz.prog wr = .ok (.agg cs.toArray) wr) := run_loadVar_mid wr b (o + n * 6) 60 cs _ (fun i c hi => (Keeps.of_below hb 0) _ _ _ (Nat.zero_le _) (hrg i c hi)) Tryz.underlying60 rfl (by rw [hcs]; kernel_rfl)
                  have HCx : Hid (Calls Tryz.prog 34 #[.agg cs.toArray, .bool false] wr fun r w' => r = .returned (.int .i64 (firstC ct cl (pArm m false x))) ∧ Below wr.heap.size wr w') := HK.out x cs (List.mem_of_getElem? hxn) wr hb (HM.out x cs wr hb hR)
                  obtain ⟨q, Hq⟩ : ∃ q, Hid (q = firstC ct cl (pArm m false x)) := ⟨_, rfl⟩
                  rw [← Hq.out] at HCx
                  have hq := (firstC_range ct cl (pArm m false x)).1
                  rw [← Hq.out] at hq
                  have HKk : Hid (wr.heap[w.heap.size]? = some (.cells #[.int .i64 k, .int .i64 op, .slice a1 l1 c1, .slice a2 l2 c2, .slice a3 l3 c3, .slice (some ⟨b, o, none⟩) l4 c4] 60 (0, 0))) := hk0
                  have HD : Hid (kids[n]? = some x) := hxn
                  clear hb hrg hcs hR hlo hk0 hxn
                  go_wp2_with (first | (refine wpL_load rfl 60 _ rfl _ _ rfl _ HLd.out ?_) | fail)
                  refine HCx.out.mono ?_
                  rintro r w1 ⟨rfl, g1⟩
                  have b1 : Below w.heap.size w w1 := HB.out.trans (g1.mono HB.out.size)
                  have k1 : Hid (w1.heap[w.heap.size]? = some (.cells #[.int .i64 k, .int .i64 op, .slice a1 l1 c1, .slice a2 l2 c2, .slice a3 l3 c3, .slice (some ⟨b, o, none⟩) l4 c4] 60 (0, 0))) := (g1.block _ (Array.getElem?_eq_some_iff.1 HKk.out).1).trans HKk.out
                  clear g1 HCx HLd c0
                  by_cases hz : q = 0
                  · have z : ¬ (q > 0) := by omega
                    have HZ : Hid (q = 0) := hz
                    have z' : ¬ ((0 : Int) < q) := by omega
                    clear hz hq
                    go_wp2
                    go_roundg (gk - 1)
                    case measure => omega
                    case rel => exact ⟨n + 1, by omega, by simp, first_go _ _ _ _ HD.out HS.out (by rw [← Hq.out]; exact HZ.out), b1, k1.out⟩
                  · have z : q > 0 := by omega
                    have z' : (0 : Int) < q := by omega
                    have HZ : Hid (¬ q = 0) := hz
                    clear hz hq
                    go_wp2
                    go_ret
                    exact ⟨by rw [HRES.out, first_hit _ _ _ _ HD.out HS.out (by rw [← Hq.out]; exact HZ.out), ← Hq.out] <;> rfl, b1⟩
                · have i2 : ¬ ((n : Int) < (l4 : Int)) := by omega
                  have HSt : Hid (firstC ct cl (kids.flatMap (pArm m false)) = 0) := (by have := HS.out; rwa [List.take_of_length_le (by have := HL4.out; omega)] at this : firstC ct cl (kids.flatMap (pArm m false)) = 0)
                  go_wp2
                  go_ret
                  exact ⟨by rw [HRES.out, HSt.out] <;> rfl, hb⟩

    | false =>
      have d0 : w1.cell? ⟨w.heap.size, 0, none⟩ = some (.int .i64 k) := (cell_of_row _ _ _ _ _ _ kS).trans rfl
      have d1 : w1.cell? ⟨w.heap.size, 1, none⟩ = some (.int .i64 op) := (cell_of_row _ _ _ _ _ _ kS).trans rfl
      have d2 : w1.cell? ⟨w.heap.size, 2, none⟩ = some (.slice a1 l1 c1) := (cell_of_row _ _ _ _ _ _ kS).trans rfl
      have d3 : w1.cell? ⟨w.heap.size, 3, none⟩ = some (.slice a2 l2 c2) := (cell_of_row _ _ _ _ _ _ kS).trans rfl
      have K1 : Hid (w1.heap[w.heap.size]? = some (.cells #[.int .i64 k, .int .i64 op, .slice a1 l1 c1, .slice a2 l2 c2, .slice a3 l3 c3, .slice a4 l4 c4] 60 (0, 0))) := kS
      have B1 : Hid (Below w.heap.size w w1) := bS
      clear kS bS
      go_wp2_with fail
      refine (HW.out _ B1.out).mono ?_
      rintro e w3 ⟨rfl, g2⟩
      have kS := (g2.block _ (Array.getElem?_eq_some_iff.1 K1.out).1).trans K1.out
      have bS := B1.out.trans (g2.mono B1.out.size)
      clear g2 K1 B1 d0 d1 d2 d3
      by_cases hz : cn = 0
      · have z : ¬ (cn > 0) := by omega
        have z' : ¬ ((0 : Int) < cn) := by omega
        have HA0 : Hid (cn = 0) := hz
        clear hz hcn
        have q0 : (0 : Int) ≤ (l3 : Int) := by omega
        go_wp2
        go_loopg [6] l3 (fun g i wr => ∃ n : Nat, n + g = l3 ∧ i = .int .i64 n ∧ Hid (∀ e ∈ coils.take n, cl e.op e.args = true) ∧ Below w.heap.size w wr ∧ wr.heap[w.heap.size]? = some (.cells #[.int .i64 k, .int .i64 op, .slice a1 l1 c1, .slice a2 l2 c2, .slice a3 l3 c3, .slice a4 l4 c4] 60 (0, 0)))
        case atStart => exact ⟨0, by omega, rfl, fun e he => by simp at he, bS, kS⟩
        case round =>
          obtain ⟨n, hn, rfl, HA, hb, hk⟩ := hrel
          have c4' : wr.cell? ⟨w.heap.size, 4, none⟩ = some (.slice a3 l3 c3) := (cell_of_row _ _ _ _ _ _ hk).trans rfl
          by_cases hlt : n < l3
          · have i2 : (n : Int) < (l3 : Int) := by omega
            have i3 : (0 : Int) ≤ (n : Int) := by omega
            obtain ⟨x, hxn⟩ : ∃ x, coils[n]? = some x := ⟨_, List.getElem?_eq_getElem (by have := HL3.out; omega)⟩
            obtain ⟨b, o, cs, rfl, hlo, hcs, hrg, v, rfl, hR⟩ := HX3.out n x hxn
            have hkk := Keeps.of_below hb lo
            have x0 : wr.cell? ⟨b, o + n * 2, none⟩ = some (.int .i64 x.op) := hkk _ _ _ hlo (hrg 0 _ rfl)
            have x1 : wr.cell? ⟨b, o + n * 2 + 1, none⟩ = some v := hkk _ _ _ hlo (hrg 1 _ rfl)
            obtain ⟨a5, c5, hv5, hl5, _⟩ := id hR
            have hRw : ArgsIs wr lo v x.args := argsIs_move hkk (Nat.le_refl _) hR
            subst hv5
            obtain ⟨l5, HL5⟩ : ∃ l5, Hid (l5 = x.args.length) := ⟨_, rfl⟩
            rw [← HL5.out] at x1 hRw hl5
            have hc := HL.out _ hb x.op _ x.args hRw
            have HC : Hid (Calls Tryz.prog 77 #[.agg #[.int .i64 x.op, .slice a5 l5 c5]] wr fun e w' => e = .returned (.bool (cl x.op x.args)) ∧ Below wr.heap.size wr w') := hc
            have HB : Hid (Below w.heap.size w wr ∧ wr.heap[w.heap.size]? = some (.cells #[.int .i64 k, .int .i64 op, .slice a1 l1 c1, .slice a2 l2 c2, .slice (some ⟨b, o, none⟩) l3 c3, .slice a4 l4 c4] 60 (0, 0))) := ⟨hb, hk⟩
            clear hc hRw hkk hb hk hrg hcs hR hl5
            go_wp2_with fail
            refine HC.out.mono ?_
            rintro e w1 ⟨rfl, g1⟩
            have b1 : Below w.heap.size w w1 := HB.out.1.trans (g1.mono HB.out.1.size)
            have k1 : Hid (w1.heap[w.heap.size]? = some (.cells #[.int .i64 k, .int .i64 op, .slice a1 l1 c1, .slice a2 l2 c2, .slice (some ⟨b, o, none⟩) l3 c3, .slice a4 l4 c4] 60 (0, 0))) := (g1.block _ (Array.getElem?_eq_some_iff.1 HB.out.2).1).trans HB.out.2
            have HD : Hid (coils[n]? = some x) := hxn
            clear g1 HB HC x0 x1 hxn c4'
            obtain ⟨bb, HBB⟩ : ∃ bb, Hid (bb = cl x.op x.args) := ⟨_, rfl⟩
            rw [← HBB.out]
            cases bb with
            | true =>
              go_wp2
              go_roundg (gk - 1)
              case measure => omega
              case rel =>
                refine ⟨n + 1, by omega, by simp, ?_, b1, k1.out⟩
                intro e he
                rw [List.take_add_one, HD.out] at he
                simp only [Option.toList_some, List.mem_append, List.mem_singleton] at he
                rcases he with he | rfl
                · exact HA.out e he
                · exact HBB.out.symm
            | false =>
              go_wp2
              go_ret
              refine ⟨?_, b1⟩
              have hall : (coils.all fun e => cl e.op e.args) = false := List.all_eq_false.2 ⟨x, List.mem_of_getElem? HD.out, by rw [← HBB.out]; simp⟩
              rw [HRES.out, armR_b (ct := ct) (cl := cl) (m := m) (r := false) (nn := false) (cn := cn) (coils := coils) (kids := kids) HA0.out (b := 3) (by rw [hall]; rfl) (by omega)] <;> rfl
          · have i2 : ¬ ((n : Int) < (l3 : Int)) := by omega
            have HALL : Hid ((coils.all fun e => cl e.op e.args) = true) := List.all_eq_true.2 (fun e he => HA.out e (by rw [List.take_of_length_le (by have := HL3.out; omega)]; exact he))
            have d5 : wr.cell? ⟨w.heap.size, 5, none⟩ = some (.slice a4 l4 c4) := (cell_of_row _ _ _ _ _ _ hk).trans rfl
            have KR : Hid (wr.heap[w.heap.size]? = some (.cells #[.int .i64 k, .int .i64 op, .slice a1 l1 c1, .slice a2 l2 c2, .slice a3 l3 c3, .slice a4 l4 c4] 60 (0, 0))) := hk
            clear hk
            by_cases hz : l3 = 0 ∧ l4 = 0
            · have z3 : ((l3 : Int) == 0) = true := by simp [hz.1]
              have z4 : ((l4 : Int) == 0) = true := by simp [hz.2]
              have HZ : Hid (l3 = 0 ∧ l4 = 0) := hz
              clear hz hlt hn
              go_wp2
              go_ret
              exact ⟨by rw [HRES.out, armR_b (ct := ct) (cl := cl) (m := m) (r := false) (nn := false) (cn := cn) (coils := coils) (kids := kids) HA0.out (b := 5) (by rw [HALL.out, ← HL3.out, ← HL4.out, HZ.out.1, HZ.out.2]; rfl) (by omega)] <;> rfl, hb⟩
            · have HZ : Hid (armR ct cl m false false cn coils kids = firstC ct cl (kids.flatMap (pArm m false))) := armR_k (ct := ct) (cl := cl) (m := m) (r := false) (nn := false) (cn := cn) (coils := coils) (kids := kids) HA0.out (by rw [HALL.out, ← HL3.out, ← HL4.out]; unfold cAv; rw [if_neg (by simp), if_pos rfl, if_neg hz])
              rw [HZ.out] at HRES
              have HB0 : Hid (Below w.heap.size w wr) := hb
              have LOOP : True := trivial
              have z3 : ((l3 : Int) == 0) = false ∨ ((l3 : Int) == 0) = true ∧ ((l4 : Int) == 0) = false := by
                by_cases h3 : l3 = 0
                · exact .inr ⟨by simp [h3], by simp; omega⟩
                · exact .inl (by simp; omega)
              clear hz hlt hn HA HX3 HL HZ hb
              rcases z3 with z3 | ⟨z3, z4⟩
              all_goals
                go_wp2
                go_loopg [7] l4 (fun g i wr => ∃ n : Nat, n + g = l4 ∧ i = .int .i64 n ∧ Hid (firstC ct cl ((kids.take n).flatMap (pArm m false)) = 0) ∧ Below w.heap.size w wr ∧ wr.heap[w.heap.size]? = some (.cells #[.int .i64 k, .int .i64 op, .slice a1 l1 c1, .slice a2 l2 c2, .slice a3 l3 c3, .slice a4 l4 c4] 60 (0, 0)))
                case atStart => exact ⟨0, by omega, rfl, rfl, HB0.out, KR.out⟩
                case round =>
                  clear z3 c4' d5
                  try clear z4
                  obtain ⟨n, hn, rfl, HS, hb, hk0⟩ := hrel
                  have c0 : wr.cell? ⟨w.heap.size, 5, none⟩ = some (.slice a4 l4 c4) := (cell_of_row _ _ _ _ _ _ hk0).trans rfl
                  by_cases hlt : n < l4
                  · have i2 : (n : Int) < (l4 : Int) := by omega
                    have i3 : (0 : Int) ≤ (n : Int) := by omega
                    obtain ⟨x, hxn⟩ : ∃ x, kids[n]? = some x := ⟨_, List.getElem?_eq_getElem (by have := HL4.out; omega)⟩
                    obtain ⟨b, o, cs, rfl, hlo, hcs, hrg, hR⟩ := HX4.out n x hxn
                    have HB : Hid (Below w.heap.size w wr) := hb
                    have HLd : Hid ((loadVar 60 ⟨b, o + n * 6, none⟩).run Tryz.prog wr = .ok (.agg cs.toArray) wr) := run_loadVar_mid wr b (o + n * 6) 60 cs _ (fun i c hi => (Keeps.of_below hb 0) _ _ _ (Nat.zero_le _) (hrg i c hi)) Tryz.underlying60 rfl (by rw [hcs]; kernel_rfl)
                    have HCx : Hid (Calls Tryz.prog 34 #[.agg cs.toArray, .bool false] wr fun r w' => r = .returned (.int .i64 (firstC ct cl (pArm m false x))) ∧ Below wr.heap.size wr w') := HK.out x cs (List.mem_of_getElem? hxn) wr hb (HM.out x cs wr hb hR)
                    obtain ⟨q, Hq⟩ : ∃ q, Hid (q = firstC ct cl (pArm m false x)) := ⟨_, rfl⟩
                    rw [← Hq.out] at HCx
                    have hq := (firstC_range ct cl (pArm m false x)).1
                    rw [← Hq.out] at hq
                    have HKk : Hid (wr.heap[w.heap.size]? = some (.cells #[.int .i64 k, .int .i64 op, .slice a1 l1 c1, .slice a2 l2 c2, .slice a3 l3 c3, .slice (some ⟨b, o, none⟩) l4 c4] 60 (0, 0))) := hk0
                    have HD : Hid (kids[n]? = some x) := hxn
                    clear hb hrg hcs hR hlo hk0 hxn
                    go_wp2_with (first | (refine wpL_load rfl 60 _ rfl _ _ rfl _ HLd.out ?_) | fail)
                    refine HCx.out.mono ?_
                    rintro r w1 ⟨rfl, g1⟩
                    have b1 : Below w.heap.size w w1 := HB.out.trans (g1.mono HB.out.size)
                    have k1 : Hid (w1.heap[w.heap.size]? = some (.cells #[.int .i64 k, .int .i64 op, .slice a1 l1 c1, .slice a2 l2 c2, .slice a3 l3 c3, .slice (some ⟨b, o, none⟩) l4 c4] 60 (0, 0))) := (g1.block _ (Array.getElem?_eq_some_iff.1 HKk.out).1).trans HKk.out
                    clear g1 HCx HLd c0
                    by_cases hz : q = 0
                    · have z : ¬ (q > 0) := by omega
                      have HZ : Hid (q = 0) := hz
                      have z' : ¬ ((0 : Int) < q) := by omega
                      clear hz hq
                      go_wp2
                      go_roundg (gk - 1)
                      case measure => omega
                      case rel => exact ⟨n + 1, by omega, by simp, first_go _ _ _ _ HD.out HS.out (by rw [← Hq.out]; exact HZ.out), b1, k1.out⟩
                    · have z : q > 0 := by omega
                      have z' : (0 : Int) < q := by omega
                      have HZ : Hid (¬ q = 0) := hz
                      clear hz hq
                      go_wp2
                      go_ret
                      exact ⟨by rw [HRES.out, first_hit _ _ _ _ HD.out HS.out (by rw [← Hq.out]; exact HZ.out), ← Hq.out] <;> rfl, b1⟩
                  · have i2 : ¬ ((n : Int) < (l4 : Int)) := by omega
                    have HSt : Hid (firstC ct cl (kids.flatMap (pArm m false)) = 0) := (by have := HS.out; rwa [List.take_of_length_le (by have := HL4.out; omega)] at this : firstC ct cl (kids.flatMap (pArm m false)) = 0)
                    go_wp2
                    go_ret
                    exact ⟨by rw [HRES.out, HSt.out] <;> rfl, hb⟩

      · have z : cn > 0 := by omega
        have z' : (0 : Int) < cn := by omega
        have HA0 : Hid (¬ cn = 0) := hz
        clear hz hcn kS
        go_wp2
        go_ret
        exact ⟨by rw [HRES.out]; unfold armR; simp only [HA0.out, if_false, Bool.false_eq_true] <;> rfl, bS⟩

theorem sa_arm (ct cl : Int → List ArgT → Bool) : ∀ (m : Nat) (r : Bool) (t : ArmT) (cs : List Value) (w : World) (lo : Nat) (hv : ArmIs w lo m t cs)
    (HC : ∀ W, Below w.heap.size w W → ∀ op v xs, ArgsIs W lo v xs → Calls Tryz.prog 119 #[.agg #[.int .i64 op, v]] W fun e w' => e = .returned (.bool (ct op xs)) ∧ Below W.heap.size W w')
    (HL : ∀ W, Below w.heap.size w W → ∀ op v xs, ArgsIs W lo v xs → Calls Tryz.prog 77 #[.agg #[.int .i64 op, v]] W fun e w' => e = .returned (.bool (cl op xs)) ∧ Below W.heap.size W w'),
    Calls Tryz.prog 34 #[.agg cs.toArray, .bool r] w fun e w' => e = .returned (.int .i64 (firstC ct cl (pArm m r t))) ∧ Below w.heap.size w w'
  | 0, _, _, _, _, _, h, _, _ => h.elim
  | m + 1, r, .mk net coils kids, cs, w, lo, hv, HC, HL => by
    obtain ⟨ns, v, v', rfl, hn, hc, hk⟩ := hv
    have hn' := hn
    cases m with
    | zero => exact hn.elim
    | succ m' =>
      cases net with
      | mk k e nk =>
        obtain ⟨v1, v2, rfl, ha, hnk⟩ := hn
        obtain ⟨a1, c1, rfl, hl1, _⟩ := id ha
        obtain ⟨a2, c2, rfl, hl2, _⟩ := id hnk
        have e1 : firstC ct cl (pArm (m' + 1 + 1) r (.mk (.mk k e nk) coils kids)) = armR ct cl (m' + 1) r (noneT (.mk k e nk)) (firstC ct cl (pNet (m' + 1) (.mk k e nk))) coils kids := firstC_arm ct cl (m' + 1) r _ coils kids
        rw [e1]
        exact sa_step ct cl (m' + 1) r (noneT (.mk k e nk)) _ (firstC_range _ _ _).1 k e.op a1 _ c1 a2 _ c2 v coils v' kids w lo hc hk
          (fun W => by rw [noneT_len]; exact none_s k e.op a1 _ c1 a2 _ c2 W hl1 hl2)
          (fun W g => sw_net ct cl (m' + 1) (.mk k e nk) _ W lo (NetIs.move (Keeps.of_below g lo) (Nat.le_refl _) _ _ (Nat.le_refl _) _ _ hn') (fun W' g' => HC W' (g.trans (g'.mono g.size))))
          HL
          (fun x cs hx W g h => sa_arm ct cl (m' + 1) false x cs W lo h (fun W' g' => HC W' (g.trans (g'.mono g.size))) (fun W' g' => HL W' (g.trans (g'.mono g.size))))
          (fun x cs W g h => ArmIs.move (Keeps.of_below g lo) (Nat.le_refl _) _ _ (Nat.le_refl _) _ _ h)
end Go.Proofs.YtgopfaegdlefpaaGreatDoor
