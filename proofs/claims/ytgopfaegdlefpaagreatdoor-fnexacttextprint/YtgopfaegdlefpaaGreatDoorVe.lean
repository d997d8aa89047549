/- The writer writes an arm. -/
import Derived.Test.YtgopfaegdlefpaaGreatDoorVd
namespace Go.Proofs.YtgopfaegdlefpaaGreatDoor
open Go.RowKit
set_option linter.unusedVariables false

/-- The words of the kids that are written so far. -/
def kidsP : List (List ByteArray) → List ByteArray
  | [] => []
  | x :: xs => sgK 6 :: (x ++ xs.flatMap (fun y => sgK 7 :: y))
theorem kidsP_snoc (xs : List (List ByteArray)) (y : List ByteArray) : kidsP (xs ++ [y]) = kidsP xs ++ (sgK (if xs.length = 0 then 6 else 7) :: y) := by
  cases xs with
  | nil => simp [kidsP]
  | cons x xs => simp [kidsP]
theorem kidsW_P (xs : List (List ByteArray)) (h : xs.length ≠ 0) : kidsW xs = kidsP xs ++ [sgK 8] := by
  cases xs with
  | nil => simp at h
  | cons x xs => simp [kidsW, kidsP]
theorem kidsP_take {α : Type} (f : α → List ByteArray) (xs : List α) (n : Nat) (x : α) (h : xs[n]? = some x) : kidsP ((xs.take (n + 1)).map f) = kidsP ((xs.take n).map f) ++ (sgK (if n = 0 then 6 else 7) :: f x) := by
  have hn : n < xs.length := (List.getElem?_eq_some_iff.1 h).1
  rw [List.take_add_one, h]
  simp only [Option.toList_some, List.map_append, List.map_cons, List.map_nil]
  rw [kidsP_snoc]
  have : ((xs.take n).map f).length = n := by simp; omega
  rw [this]
theorem kidsP_le {α : Type} (f : α → List ByteArray) (xs : List α) (n : Nat) : (kidsP ((xs.take n).map f)).length ≤ (kidsP (xs.map f)).length := by
  cases xs with
  | nil => simp
  | cons x xs =>
    cases n with
    | zero => simp [kidsP]
    | succ n =>
      simp only [List.take_succ_cons, List.map_cons, kidsP, List.length_cons, List.length_append]
      have := flat_take_le (fun y => sgK 7 :: y) (xs.map f) n
      rw [← List.map_take] at this
      omega

set_option maxRecDepth 10000 in
set_option maxHeartbeats 16000000 in
theorem arm_step (tx : Int → List ArgT → ByteArray) (B : Nat) (k op : Int) (nn : Bool) (hkk : (k != 0) = !nn) (nw : List ByteArray) (m : Nat) (a1 : Option Addr) (l1 c1 : Nat) (a2 : Option Addr) (l2 c2 : Nat) (v3 : Value) (coils : List ElemT) (v4 : Value) (kids : List ArmT) (w0 : World) (hB : w0.heap.size ≤ B) (hv3 : ElemsIs w0 0 v3 coils) (hv4 : RowIs w0 0 6 (ArmIs w0 0 m) v4 kids)
    (W : World) (v : Value) (L : List ByteArray) (hb : Below w0.heap.size w0 W) (h : WrS sgA W B v L) (hL : L.length + (nw ++ sgK 5 :: (coils.map (fun e => tx e.op e.args) ++ kidsW (kids.map (wArm tx m)))).length ≤ 1000000)
    (HT : Hid (∀ W', Below w0.heap.size w0 W' → ∀ op v xs, ArgsIs W' 0 v xs → Calls Tryz.prog 114 #[.agg #[.int .i64 op, v]] W' fun e w' => e = .returned (.string (tx op xs)) ∧ Below W'.heap.size W' w'))
    (HN : Hid (nn = false → ∀ (W : World) v L, Below w0.heap.size w0 W → WrS sgA W B v L → L.length + nw.length ≤ 1000000 → Calls Tryz.prog 67 #[.pointer (some ⟨B, 0, none⟩), .agg #[.int .i64 k, .int .i64 op, .slice a1 l1 c1, .slice a2 l2 c2]] W fun e W' => e = .returned (.tuple #[]) ∧ ∃ v', WrS sgA W' B v' (L ++ nw) ∧ WK B v v' W W'))
    (hnw : nn = true → nw = [])
    (HK : Hid (∀ x cs, x ∈ kids → ArmIs w0 0 m x cs → ∀ (W : World) v L, Below w0.heap.size w0 W → WrS sgA W B v L → L.length + (wArm tx m x).length ≤ 1000000 → Calls Tryz.prog 28 #[.pointer (some ⟨B, 0, none⟩), .agg cs.toArray] W fun e W' => e = .returned (.tuple #[]) ∧ ∃ v', WrS sgA W' B v' (L ++ wArm tx m x) ∧ WK B v v' W W')) :
    Calls Tryz.prog 28 #[.pointer (some ⟨B, 0, none⟩), .agg #[.int .i64 k, .int .i64 op, .slice a1 l1 c1, .slice a2 l2 c2, v3, v4]] W fun e W' => e = .returned (.tuple #[]) ∧ ∃ v', WrS sgA W' B v' (L ++ (nw ++ sgK 5 :: (coils.map (fun e => tx e.op e.args) ++ kidsW (kids.map (wArm tx m))))) ∧ WK B v v' W W' := by
  obtain ⟨a3, c3, rfl, hl3, hx3⟩ := hv3
  obtain ⟨a4, c4, rfl, hl4, hx4⟩ := hv4
  have HX3 : Hid (∀ j x, coils[j]? = some x → ∃ b o cs, a3 = some ⟨b, o, none⟩ ∧ cs.length = 2 ∧ w0.rangeAt b (o + j * 2) cs ∧ ElemIs w0 0 x cs) := fun j x hj => by
    obtain ⟨b, o, cs, h1, _, h2, h3, h4⟩ := hx3 j x hj
    exact ⟨b, o, cs, h1, h2, h3, h4⟩
  have HX4 : Hid (∀ j x, kids[j]? = some x → ∃ b o cs, a4 = some ⟨b, o, none⟩ ∧ cs.length = 6 ∧ w0.rangeAt b (o + j * 6) cs ∧ (ArmIs w0 0 m) x cs) := fun j x hj => by
    obtain ⟨b, o, cs, h1, _, h2, h3, h4⟩ := hx4 j x hj
    exact ⟨b, o, cs, h1, h2, h3, h4⟩
  obtain ⟨l3, HL3⟩ : ∃ l3, Hid (l3 = coils.length) := ⟨_, rfl⟩
  obtain ⟨l4, HL4⟩ : ∃ l4, Hid (l4 = kids.length) := ⟨_, rfl⟩
  rw [← HL3.out] at hl3 ⊢
  rw [← HL4.out] at hl4 ⊢
  have HWR : Hid (WrS sgA W B v L ∧ Below w0.heap.size w0 W ∧ L.length + (nw ++ sgK 5 :: (coils.map (fun e => tx e.op e.args) ++ kidsW (kids.map (wArm tx m)))).length ≤ 1000000) := ⟨h, hb, hL⟩
  clear hx3 hx4 h hb hL
  have gA : Below W.heap.size W (W.alloc (.cells #[.int .i64 k, .int .i64 op, .slice a1 l1 c1, .slice a2 l2 c2, .slice a3 l3 c3, .slice a4 l4 c4] 60)) := (Below.refl _ _).alloc (Nat.le_refl _) _
  have hk0 := heap_alloc_last W (.cells #[.int .i64 k, .int .i64 op, .slice a1 l1 c1, .slice a2 l2 c2, .slice a3 l3 c3, .slice a4 l4 c4] 60)
  have hlt := HWR.out.1.lt
  have how := HWR.out.1.own
  have HA0 : Hid ((W.alloc (.cells #[.int .i64 k, .int .i64 op, .slice a1 l1 c1, .slice a2 l2 c2, .slice a3 l3 c3, .slice a4 l4 c4] 60)).heap[W.heap.size]? = some (.cells #[.int .i64 k, .int .i64 op, .slice a1 l1 c1, .slice a2 l2 c2, .slice a3 l3 c3, .slice a4 l4 c4] 60 (0, 0)) ∧ WK B v v W (W.alloc (.cells #[.int .i64 k, .int .i64 op, .slice a1 l1 c1, .slice a2 l2 c2, .slice a3 l3 c3, .slice a4 l4 c4] 60)) ∧ WrS sgA (W.alloc (.cells #[.int .i64 k, .int .i64 op, .slice a1 l1 c1, .slice a2 l2 c2, .slice a3 l3 c3, .slice a4 l4 c4] 60)) B v L ∧ W.heap.size ≠ B ∧ v.ownBlock ≠ some W.heap.size ∧ Below w0.heap.size w0 (W.alloc (.cells #[.int .i64 k, .int .i64 op, .slice a1 l1 c1, .slice a2 l2 c2, .slice a3 l3 c3, .slice a4 l4 c4] 60))) :=
    ⟨hk0, WK.of_below gA (by omega), HWR.out.1.later gA, by omega, fun e => by have := (how _ e).2; omega, HWR.out.2.1.trans (gA.mono HWR.out.2.1.size)⟩
  clear gA hk0 hlt how
  have HS5 : Hid (SignOk B 5 (sgK 5)) := signOk B 5 (by omega)
  have HS8 : Hid (SignOk B 8 (sgK 8)) := signOk B 8 (by omega)
  have HS67 : Hid (∀ n : Nat, SignOk B (if n = 0 then 6 else 7) (sgK (if n = 0 then 6 else 7))) := fun n => by
    by_cases hn : n = 0
    · rw [if_pos hn]; exact signOk B 6 (by omega)
    · rw [if_neg hn]; exact signOk B 7 (by omega)
  cases nn with
  | true =>
    have k0 : (k != 0) = false := hkk
    have HC0 : Hid (WrS sgA (W.alloc (.cells #[.int .i64 k, .int .i64 op, .slice a1 l1 c1, .slice a2 l2 c2, .slice a3 l3 c3, .slice a4 l4 c4] 60)) B v (L ++ nw) ∧ WK B v v (W.alloc (.cells #[.int .i64 k, .int .i64 op, .slice a1 l1 c1, .slice a2 l2 c2, .slice a3 l3 c3, .slice a4 l4 c4] 60)) (W.alloc (.cells #[.int .i64 k, .int .i64 op, .slice a1 l1 c1, .slice a2 l2 c2, .slice a3 l3 c3, .slice a4 l4 c4] 60))) := ⟨by rw [hnw rfl]; simpa using HA0.out.2.2.1, WK.refl _ _ _⟩
    clear HN hkk hnw
    go_enter Tryz.func28, Tryz.ntmps28
    -- HC0 : WrS sgA w1 B v (L ++ nw) ∧ WK B v v (W.alloc (.cells #[.int .i64 k, .int .i64 op, .slice a1 l1 c1, .slice a2 l2 c2, .slice a3 l3 c3, .slice a4 l4 c4] 60)) w1
    have r1 : (W.alloc (.cells #[.int .i64 k, .int .i64 op, .slice a1 l1 c1, .slice a2 l2 c2, .slice a3 l3 c3, .slice a4 l4 c4] 60)).heap[W.heap.size]? = some (.cells #[.int .i64 k, .int .i64 op, .slice a1 l1 c1, .slice a2 l2 c2, .slice a3 l3 c3, .slice a4 l4 c4] 60 (0, 0)) := HC0.out.2.row HA0.out.2.2.2.1 HA0.out.2.2.2.2.1 HA0.out.1
    have R1 : Hid ((W.alloc (.cells #[.int .i64 k, .int .i64 op, .slice a1 l1 c1, .slice a2 l2 c2, .slice a3 l3 c3, .slice a4 l4 c4] 60)).heap[W.heap.size]? = some (.cells #[.int .i64 k, .int .i64 op, .slice a1 l1 c1, .slice a2 l2 c2, .slice a3 l3 c3, .slice a4 l4 c4] 60 (0, 0))) := r1
    clear r1
    go_wp2_with fail
    refine (HS5.out _ _ _ HC0.out.1 (by have := HWR.out.2.2; simp only [List.length_append, List.length_cons] at this ⊢; omega)).mono ?_
    rintro e w2 ⟨rfl, v2, hW2, hK2⟩
    have HC1 : Hid (WrS sgA w2 B v2 (L ++ nw ++ [sgK 5]) ∧ WK B v v2 (W.alloc (.cells #[.int .i64 k, .int .i64 op, .slice a1 l1 c1, .slice a2 l2 c2, .slice a3 l3 c3, .slice a4 l4 c4] 60)) w2) := ⟨hW2, HC0.out.2.trans hK2⟩
    have r2 : w2.heap[W.heap.size]? = some (.cells #[.int .i64 k, .int .i64 op, .slice a1 l1 c1, .slice a2 l2 c2, .slice a3 l3 c3, .slice a4 l4 c4] 60 (0, 0)) := HC1.out.2.row HA0.out.2.2.2.1 HA0.out.2.2.2.2.1 HA0.out.1
    have c4' : w2.cell? ⟨W.heap.size, 4, none⟩ = some (.slice a3 l3 c3) := (cell_of_row _ _ _ _ _ _ r2).trans rfl
    clear hW2 hK2 R1 HC0 r2
    have q0 : (0 : Int) ≤ (l3 : Int) := by omega
    go_wp2
    go_loopg [22] l3 (fun g i wr => ∃ (n : Nat) (v' : Value), n + g = l3 ∧ i = .int .i64 n ∧ Hid (WrS sgA wr B v' (L ++ nw ++ [sgK 5] ++ (coils.take n).map (fun e => tx e.op e.args)) ∧ WK B v v' (W.alloc (.cells #[.int .i64 k, .int .i64 op, .slice a1 l1 c1, .slice a2 l2 c2, .slice a3 l3 c3, .slice a4 l4 c4] 60)) wr))
    case atStart => exact ⟨0, v2, by omega, rfl, (by simpa using HC1.out : WrS sgA w2 B v2 (L ++ nw ++ [sgK 5] ++ (coils.take 0).map (fun e => tx e.op e.args)) ∧ WK B v v2 (W.alloc (.cells #[.int .i64 k, .int .i64 op, .slice a1 l1 c1, .slice a2 l2 c2, .slice a3 l3 c3, .slice a4 l4 c4] 60)) w2)⟩
    case round =>
      obtain ⟨n, v', hn, rfl, HR⟩ := hrel
      have hbw : Below w0.heap.size w0 wr := HA0.out.2.2.2.2.2.trans (HR.out.2.below.mono hB)
      by_cases hlt : n < l3
      · have i2 : (n : Int) < (l3 : Int) := by omega
        have i3 : (0 : Int) ≤ (n : Int) := by omega
        obtain ⟨x, hxn⟩ : ∃ x, coils[n]? = some x := ⟨_, List.getElem?_eq_getElem (by have := HL3.out; omega)⟩
        obtain ⟨b, o, cs, rfl, hcs, hrg, vx, rfl, hR⟩ := HX3.out n x hxn
        obtain ⟨a5, c5, hv5, hl5, _⟩ := id hR
        have x0 : wr.cell? ⟨b, o + n * 2, none⟩ = some (.int .i64 x.op) := (Keeps.of_below hbw 0) _ _ _ (Nat.zero_le _) (hrg 0 _ rfl)
        have x1 : wr.cell? ⟨b, o + n * 2 + 1, none⟩ = some vx := (Keeps.of_below hbw 0) _ _ _ (Nat.zero_le _) (hrg 1 _ rfl)
        have hRw : ArgsIs wr 0 vx x.args := argsIs_move (Keeps.of_below hbw 0) (Nat.le_refl _) hR
        subst hv5
        obtain ⟨l5, HL5⟩ : ∃ l5, Hid (l5 = x.args.length) := ⟨_, rfl⟩
        rw [← HL5.out] at x1 hRw hl5
        have gA : Below wr.heap.size wr (wr.alloc (.cells #[.int .i64 x.op, .slice a5 l5 c5] 54)) := (Below.refl _ _).alloc (Nat.le_refl _) _
        have hmap : (coils.take (n + 1)).map (fun e => tx e.op e.args) = (coils.take n).map (fun e => tx e.op e.args) ++ [tx x.op x.args] := by rw [List.take_add_one, hxn]; simp
        have hE := elem_w sgA B x.op (.slice a5 l5 c5) rfl (tx x.op x.args) _ v' _ (HR.out.1.later gA) (by have := HWR.out.2.2; have h2 : ((coils.take n).map (fun e => tx e.op e.args)).length ≤ coils.length := by simp; omega
                                                                                                           simp only [List.length_append, List.length_cons, List.length_map, List.length_nil] at this h2 ⊢; omega)
          (fun W' g => HT.out W' (hbw.trans ((gA.trans (g.mono gA.size)).mono hbw.size)) x.op _ x.args (argsIs_move (Keeps.of_below (gA.trans (g.mono gA.size)) 0) (Nat.le_refl _) hRw))
        have HE : Hid (Calls Tryz.prog 69 #[.pointer (some ⟨B, 0, none⟩), .agg #[.int .i64 x.op, .slice a5 l5 c5]] (wr.alloc (.cells #[.int .i64 x.op, .slice a5 l5 c5] 54)) fun e W' => e = .returned (.tuple #[]) ∧ ∃ v'', WrS sgA W' B v'' (L ++ nw ++ [sgK 5] ++ (coils.take (n + 1)).map (fun e => tx e.op e.args)) ∧ WK B v v'' (W.alloc (.cells #[.int .i64 k, .int .i64 op, .slice a1 l1 c1, .slice a2 l2 c2, .slice (some ⟨b, o, none⟩) l3 c3, .slice a4 l4 c4] 60)) W') := hE.mono fun e W' hh => ⟨hh.1, by
          obtain ⟨v'', q1, q2⟩ := hh.2
          exact ⟨v'', by rw [hmap, ← List.append_assoc]; exact q1, HR.out.2.trans ((WK.of_below gA (Nat.le_of_lt HR.out.1.lt)).trans q2)⟩⟩
        clear hE gA hmap hRw hrg hcs hR hxn hbw hl5
        go_wp2_with fail
        refine HE.out.mono ?_
        rintro e w3 ⟨rfl, v'', q1, q2⟩
        have HQ : Hid (WrS sgA w3 B v'' (L ++ nw ++ [sgK 5] ++ (coils.take (n + 1)).map (fun e => tx e.op e.args)) ∧ WK B v v'' (W.alloc (.cells #[.int .i64 k, .int .i64 op, .slice a1 l1 c1, .slice a2 l2 c2, .slice (some ⟨b, o, none⟩) l3 c3, .slice a4 l4 c4] 60)) w3) := ⟨q1, q2⟩
        clear q1 q2 HE x0 x1
        go_wp2
        go_roundg (gk - 1)
        case measure => omega
        case rel => exact ⟨n + 1, v'', by omega, by simp, HQ⟩
      · have i2 : ¬ ((n : Int) < (l3 : Int)) := by omega
        have htk : coils.take n = coils := List.take_of_length_le (by have := HL3.out; omega)
        have h0 := HR.out
        rw [htk] at h0
        have HC2 : Hid (WrS sgA wr B v' (L ++ nw ++ [sgK 5] ++ coils.map (fun e => tx e.op e.args)) ∧ WK B v v' (W.alloc (.cells #[.int .i64 k, .int .i64 op, .slice a1 l1 c1, .slice a2 l2 c2, .slice a3 l3 c3, .slice a4 l4 c4] 60)) wr) := h0
        have r3 : wr.heap[W.heap.size]? = some (.cells #[.int .i64 k, .int .i64 op, .slice a1 l1 c1, .slice a2 l2 c2, .slice a3 l3 c3, .slice a4 l4 c4] 60 (0, 0)) := h0.2.row HA0.out.2.2.2.1 HA0.out.2.2.2.2.1 HA0.out.1
        have d5 : wr.cell? ⟨W.heap.size, 5, none⟩ = some (.slice a4 l4 c4) := (cell_of_row _ _ _ _ _ _ r3).trans rfl
        clear htk h0 r3 HR hbw hlt hn HC1 c4'
        by_cases hz : l4 = 0
        · have z4 : ((l4 : Int) == 0) = true := by simp [hz]
          have HZ : Hid (kids = []) := List.eq_nil_of_length_eq_zero (by rw [← HL4.out]; exact hz)
          clear hz
          go_wp2
          refine bodyPost_ret (results_none rfl _ _ _) rfl ⟨rfl, v', ?_, HA0.out.2.1.trans HC2.out.2⟩
          rw [HZ.out]
          simpa [kidsW, List.append_assoc] using HC2.out.1
        · have z4 : ((l4 : Int) == 0) = false := by simp; omega
          have HZ : Hid ((kids.map (wArm tx m)).length ≠ 0) := (by rw [List.length_map, ← HL4.out]; exact hz : (kids.map (wArm tx m)).length ≠ 0)
          clear hz
          obtain ⟨L1, HL1⟩ : ∃ L1, Hid (L1 = L ++ nw ++ [sgK 5] ++ coils.map (fun e => tx e.op e.args)) := ⟨_, rfl⟩
          rw [← HL1.out] at HC2
          have HLen : Hid (L1.length + ((kidsP (kids.map (wArm tx m))).length + 1) ≤ 1000000) := (by
            have := HWR.out.2.2
            rw [kidsW_P _ HZ.out] at this
            rw [HL1.out]
            simp only [List.length_append, List.length_cons, List.length_nil] at this ⊢
            omega : L1.length + ((kidsP (kids.map (wArm tx m))).length + 1) ≤ 1000000)
          have HFin : Hid (∀ W' v'', WrS sgA W' B v'' (L1 ++ (kidsP (kids.map (wArm tx m)) ++ [sgK 8])) → WK B v v'' (W.alloc (.cells #[.int .i64 k, .int .i64 op, .slice a1 l1 c1, .slice a2 l2 c2, .slice a3 l3 c3, .slice a4 l4 c4] 60)) W' → ∃ v', WrS sgA W' B v' (L ++ (nw ++ sgK 5 :: (coils.map (fun e => tx e.op e.args) ++ kidsW (kids.map (wArm tx m))))) ∧ WK B v v' W W') := fun W' v'' h1 h2 => ⟨v'', by
            rw [kidsW_P _ HZ.out]
            rw [HL1.out] at h1
            simpa [List.append_assoc] using h1, HA0.out.2.1.trans h2⟩
          clear HX3 HL3 HL1 HZ
          go_wp2
          go_loopg [6, 37] l4 (fun g sl i wr => ∃ (n : Nat) (v' : Value), n + g = l4 ∧ i = .int .i64 n ∧ sl = .int .i64 (if n = 0 then 6 else 7) ∧ Hid (WrS sgA wr B v' (L1 ++ kidsP ((kids.take n).map (wArm tx m))) ∧ WK B v v' (W.alloc (.cells #[.int .i64 k, .int .i64 op, .slice a1 l1 c1, .slice a2 l2 c2, .slice a3 l3 c3, .slice a4 l4 c4] 60)) wr))
          case atStart => exact ⟨0, v', by omega, rfl, rfl, (by simpa [kidsP] using HC2.out : WrS sgA wr B v' (L1 ++ kidsP ((kids.take 0).map (wArm tx m))) ∧ WK B v v' (W.alloc (.cells #[.int .i64 k, .int .i64 op, .slice a1 l1 c1, .slice a2 l2 c2, .slice a3 l3 c3, .slice a4 l4 c4] 60)) wr)⟩
          case round =>
            clear HC2 z4 d5 i2
            obtain ⟨n, v', hn, rfl, rfl, HR⟩ := hrel
            obtain ⟨q, Hq⟩ : ∃ q : Int, Hid (q = if n = 0 then 6 else 7) := ⟨_, rfl⟩
            rw [← Hq.out]
            have hbw : Below w0.heap.size w0 wr := HA0.out.2.2.2.2.2.trans (HR.out.2.below.mono hB)
            by_cases hlt : n < l4
            · have i2 : (n : Int) < (l4 : Int) := by omega
              have i3 : (0 : Int) ≤ (n : Int) := by omega
              obtain ⟨x, hxn⟩ : ∃ x, kids[n]? = some x := ⟨_, List.getElem?_eq_getElem (by have := HL4.out; omega)⟩
              obtain ⟨b, o, cs, rfl, hcs, hrg, hR⟩ := HX4.out n x hxn
              have hpt := kidsP_take (wArm tx m) kids n x hxn
              have hple := kidsP_le (wArm tx m) kids (n + 1)
              rw [← Hq.out] at hpt
              obtain ⟨y0, y1, y2, y3, y4, y5, y6, y7, y8, y9, z0, z1, z2, z3, rfl⟩ := hR.form
              have d0 : wr.cell? ⟨b, o + n * 6, none⟩ = some (.int .i64 y0) := (Keeps.of_below hbw 0) _ _ _ (Nat.zero_le _) (hrg 0 _ rfl)
              have d1 : wr.cell? ⟨b, o + n * 6 + 1, none⟩ = some (.int .i64 y1) := (Keeps.of_below hbw 0) _ _ _ (Nat.zero_le _) (hrg 1 _ rfl)
              have d2 : wr.cell? ⟨b, o + n * 6 + 2, none⟩ = some (.slice y2 y3 y4) := (Keeps.of_below hbw 0) _ _ _ (Nat.zero_le _) (hrg 2 _ rfl)
              have d3 : wr.cell? ⟨b, o + n * 6 + 3, none⟩ = some (.slice y5 y6 y7) := (Keeps.of_below hbw 0) _ _ _ (Nat.zero_le _) (hrg 3 _ rfl)
              have d4 : wr.cell? ⟨b, o + n * 6 + 4, none⟩ = some (.slice y8 y9 z0) := (Keeps.of_below hbw 0) _ _ _ (Nat.zero_le _) (hrg 4 _ rfl)
              have d5 : wr.cell? ⟨b, o + n * 6 + 5, none⟩ = some (.slice z1 z2 z3) := (Keeps.of_below hbw 0) _ _ _ (Nat.zero_le _) (hrg 5 _ rfl)
              have gA : Below wr.heap.size wr (wr.alloc (.cells #[.int .i64 y0, .int .i64 y1, .slice y2 y3 y4, .slice y5 y6 y7, .slice y8 y9 z0, .slice z1 z2 z3] 60)) := (Below.refl _ _).alloc (Nat.le_refl _) _
              have hSg := HS67.out n
              rw [← Hq.out] at hSg
              have hlen : L1.length + ((kidsP ((kids.take n).map (wArm tx m))).length + (1 + (wArm tx m x).length)) + 1 ≤ 1000000 := by
                have h1 := HLen.out
                rw [hpt] at hple
                simp only [List.length_append, List.length_cons] at hple
                omega
              have HSg : Hid (Calls Tryz.prog 68 #[.pointer (some ⟨B, 0, none⟩), .int .i64 q] (wr.alloc (.cells #[.int .i64 y0, .int .i64 y1, .slice y2 y3 y4, .slice y5 y6 y7, .slice y8 y9 z0, .slice z1 z2 z3] 60)) fun e W' => e = .returned (.tuple #[]) ∧ ∃ v'', WrS sgA W' B v'' (L1 ++ kidsP ((kids.take n).map (wArm tx m)) ++ [sgK q]) ∧ WK B v' v'' (wr.alloc (.cells #[.int .i64 y0, .int .i64 y1, .slice y2 y3 y4, .slice y5 y6 y7, .slice y8 y9 z0, .slice z1 z2 z3] 60)) W') := hSg _ _ _ (HR.out.1.later gA) (by simp only [List.length_append]; omega)
              have HBox : Hid ((wr.alloc (.cells #[.int .i64 y0, .int .i64 y1, .slice y2 y3 y4, .slice y5 y6 y7, .slice y8 y9 z0, .slice z1 z2 z3] 60)).heap[wr.heap.size]? = some (.cells #[.int .i64 y0, .int .i64 y1, .slice y2 y3 y4, .slice y5 y6 y7, .slice y8 y9 z0, .slice z1 z2 z3] 60 (0, 0)) ∧ wr.heap.size ≠ B ∧ v'.ownBlock ≠ some wr.heap.size ∧ WK B v v' (W.alloc (.cells #[.int .i64 k, .int .i64 op, .slice a1 l1 c1, .slice a2 l2 c2, .slice a3 l3 c3, .slice (some ⟨b, o, none⟩) l4 c4] 60)) (wr.alloc (.cells #[.int .i64 y0, .int .i64 y1, .slice y2 y3 y4, .slice y5 y6 y7, .slice y8 y9 z0, .slice z1 z2 z3] 60)) ∧ Below w0.heap.size w0 (wr.alloc (.cells #[.int .i64 y0, .int .i64 y1, .slice y2 y3 y4, .slice y5 y6 y7, .slice y8 y9 z0, .slice z1 z2 z3] 60))) :=
                ⟨heap_alloc_last wr _, by have := HR.out.1.lt; omega, fun e => by have := (HR.out.1.own _ e).2; omega, HR.out.2.trans (WK.of_below gA (Nat.le_of_lt HR.out.1.lt)), hbw.trans (gA.mono hbw.size)⟩
              have HKK : Hid (∀ (W : World) v L, Below w0.heap.size w0 W → WrS sgA W B v L → L.length + (wArm tx m x).length ≤ 1000000 → Calls Tryz.prog 28 #[.pointer (some ⟨B, 0, none⟩), .agg #[.int .i64 y0, .int .i64 y1, .slice y2 y3 y4, .slice y5 y6 y7, .slice y8 y9 z0, .slice z1 z2 z3]] W fun e W' => e = .returned (.tuple #[]) ∧ ∃ v', WrS sgA W' B v' (L ++ wArm tx m x) ∧ WK B v v' W W') := HK.out x _ (List.mem_of_getElem? hxn) hR
              have HPT : Hid (kidsP ((kids.take (n + 1)).map (wArm tx m)) = kidsP ((kids.take n).map (wArm tx m)) ++ (sgK q :: wArm tx m x) ∧ L1.length + ((kidsP ((kids.take n).map (wArm tx m))).length + (1 + (wArm tx m x).length)) + 1 ≤ 1000000) := ⟨hpt, hlen⟩
              clear hrg hcs hR hxn hbw hpt hple gA hSg hlen HR Hq
              go_wp2_with fail
              refine HSg.out.mono ?_
              rintro e w4 ⟨rfl, v5, q1, q2⟩
              have r4 : w4.heap[wr.heap.size]? = some (.cells #[.int .i64 y0, .int .i64 y1, .slice y2 y3 y4, .slice y5 y6 y7, .slice y8 y9 z0, .slice z1 z2 z3] 60 (0, 0)) := q2.row HBox.out.2.1 HBox.out.2.2.1 HBox.out.1
              have e0 : w4.cell? ⟨wr.heap.size, 0, none⟩ = some (.int .i64 y0) := (cell_of_row _ _ _ _ _ _ r4).trans rfl
              have e1 : w4.cell? ⟨wr.heap.size, 1, none⟩ = some (.int .i64 y1) := (cell_of_row _ _ _ _ _ _ r4).trans rfl
              have e2 : w4.cell? ⟨wr.heap.size, 2, none⟩ = some (.slice y2 y3 y4) := (cell_of_row _ _ _ _ _ _ r4).trans rfl
              have e3 : w4.cell? ⟨wr.heap.size, 3, none⟩ = some (.slice y5 y6 y7) := (cell_of_row _ _ _ _ _ _ r4).trans rfl
              have e4 : w4.cell? ⟨wr.heap.size, 4, none⟩ = some (.slice y8 y9 z0) := (cell_of_row _ _ _ _ _ _ r4).trans rfl
              have e5 : w4.cell? ⟨wr.heap.size, 5, none⟩ = some (.slice z1 z2 z3) := (cell_of_row _ _ _ _ _ _ r4).trans rfl
              have HA5 : Hid (Calls Tryz.prog 28 #[.pointer (some ⟨B, 0, none⟩), .agg #[.int .i64 y0, .int .i64 y1, .slice y2 y3 y4, .slice y5 y6 y7, .slice y8 y9 z0, .slice z1 z2 z3]] w4 fun e W' => e = .returned (.tuple #[]) ∧ ∃ v6, WrS sgA W' B v6 (L1 ++ kidsP ((kids.take (n + 1)).map (wArm tx m))) ∧ WK B v v6 (W.alloc (.cells #[.int .i64 k, .int .i64 op, .slice a1 l1 c1, .slice a2 l2 c2, .slice a3 l3 c3, .slice (some ⟨b, o, none⟩) l4 c4] 60)) W') := by
                have := HKK.out w4 v5 _ (HBox.out.2.2.2.2.trans (q2.below.mono hB)) q1 (by have := HPT.out.2; simp only [List.length_append, List.length_singleton]; omega)
                refine this.mono fun e W' hh => ⟨hh.1, ?_⟩
                obtain ⟨v6, p1, p2⟩ := hh.2
                exact ⟨v6, by rw [HPT.out.1]; simpa [List.append_assoc] using p1, HBox.out.2.2.2.1.trans (q2.trans p2)⟩
              clear q1 q2 r4 HSg HBox HKK HPT d0 d1 d2 d3 d4 d5
              go_wp2_with fail
              refine HA5.out.mono ?_
              rintro e w6 ⟨rfl, v6, p1, p2⟩
              have HQ : Hid (WrS sgA w6 B v6 (L1 ++ kidsP ((kids.take (n + 1)).map (wArm tx m))) ∧ WK B v v6 (W.alloc (.cells #[.int .i64 k, .int .i64 op, .slice a1 l1 c1, .slice a2 l2 c2, .slice a3 l3 c3, .slice (some ⟨b, o, none⟩) l4 c4] 60)) w6) := ⟨p1, p2⟩
              clear p1 p2 HA5 e0 e1 e2 e3 e4 e5
              go_wp2
              go_roundg (gk - 1)
              case measure => omega
              case rel => exact ⟨n + 1, v6, by omega, by simp, by simp, HQ⟩
            · have i2 : ¬ ((n : Int) < (l4 : Int)) := by omega
              have htk : kids.take n = kids := List.take_of_length_le (by have := HL4.out; omega)
              have h0 := HR.out
              rw [htk] at h0
              have HC : Hid (Calls Tryz.prog 68 #[.pointer (some ⟨B, 0, none⟩), .int .i64 8] wr fun e W' => e = .returned (.tuple #[]) ∧ ∃ v', WrS sgA W' B v' (L ++ (nw ++ sgK 5 :: (coils.map (fun e => tx e.op e.args) ++ kidsW (kids.map (wArm tx m))))) ∧ WK B v v' W W') := by
                have := HS8.out wr v' _ h0.1 (by have := HLen.out; simp only [List.length_append]; omega)
                refine this.mono fun e W' hh => ⟨hh.1, ?_⟩
                obtain ⟨v'', p1, p2⟩ := hh.2
                exact HFin.out W' v'' (by rw [← List.append_assoc]; exact p1) (h0.2.trans p2)
              clear htk h0 hbw
              go_wp2_with fail
              refine HC.out.mono ?_
              rintro e w6 ⟨rfl, p⟩
              go_wp2
              go_end0
              exact ⟨rfl, p⟩

  | false =>
    have k0 : (k != 0) = true := hkk
    have HN2 := (show Hid _ from HN.out rfl)
    clear hkk hnw HN
    go_enter Tryz.func28, Tryz.ntmps28
    go_wp2_with fail
    refine (HN2.out _ _ _ HA0.out.2.2.2.2.2 HA0.out.2.2.1 (by have := HWR.out.2.2; simp only [List.length_append, List.length_cons] at this; omega)).mono ?_
    rintro e w1 ⟨rfl, v1, hW1, hK1⟩
    have HC0 : Hid (WrS sgA w1 B v1 (L ++ nw) ∧ WK B v v1 (W.alloc (.cells #[.int .i64 k, .int .i64 op, .slice a1 l1 c1, .slice a2 l2 c2, .slice a3 l3 c3, .slice a4 l4 c4] 60)) w1) := ⟨hW1, hK1⟩
    clear hW1 hK1 HN2
    -- HC0 : WrS sgA w1 B v1 (L ++ nw) ∧ WK B v v1 (W.alloc (.cells #[.int .i64 k, .int .i64 op, .slice a1 l1 c1, .slice a2 l2 c2, .slice a3 l3 c3, .slice a4 l4 c4] 60)) w1
    have r1 : w1.heap[W.heap.size]? = some (.cells #[.int .i64 k, .int .i64 op, .slice a1 l1 c1, .slice a2 l2 c2, .slice a3 l3 c3, .slice a4 l4 c4] 60 (0, 0)) := HC0.out.2.row HA0.out.2.2.2.1 HA0.out.2.2.2.2.1 HA0.out.1
    have R1 : Hid (w1.heap[W.heap.size]? = some (.cells #[.int .i64 k, .int .i64 op, .slice a1 l1 c1, .slice a2 l2 c2, .slice a3 l3 c3, .slice a4 l4 c4] 60 (0, 0))) := r1
    clear r1
    go_wp2_with fail
    refine (HS5.out _ _ _ HC0.out.1 (by have := HWR.out.2.2; simp only [List.length_append, List.length_cons] at this ⊢; omega)).mono ?_
    rintro e w2 ⟨rfl, v2, hW2, hK2⟩
    have HC1 : Hid (WrS sgA w2 B v2 (L ++ nw ++ [sgK 5]) ∧ WK B v v2 (W.alloc (.cells #[.int .i64 k, .int .i64 op, .slice a1 l1 c1, .slice a2 l2 c2, .slice a3 l3 c3, .slice a4 l4 c4] 60)) w2) := ⟨hW2, HC0.out.2.trans hK2⟩
    have r2 : w2.heap[W.heap.size]? = some (.cells #[.int .i64 k, .int .i64 op, .slice a1 l1 c1, .slice a2 l2 c2, .slice a3 l3 c3, .slice a4 l4 c4] 60 (0, 0)) := HC1.out.2.row HA0.out.2.2.2.1 HA0.out.2.2.2.2.1 HA0.out.1
    have c4' : w2.cell? ⟨W.heap.size, 4, none⟩ = some (.slice a3 l3 c3) := (cell_of_row _ _ _ _ _ _ r2).trans rfl
    clear hW2 hK2 R1 HC0 r2
    have q0 : (0 : Int) ≤ (l3 : Int) := by omega
    go_wp2
    go_loopg [22] l3 (fun g i wr => ∃ (n : Nat) (v' : Value), n + g = l3 ∧ i = .int .i64 n ∧ Hid (WrS sgA wr B v' (L ++ nw ++ [sgK 5] ++ (coils.take n).map (fun e => tx e.op e.args)) ∧ WK B v v' (W.alloc (.cells #[.int .i64 k, .int .i64 op, .slice a1 l1 c1, .slice a2 l2 c2, .slice a3 l3 c3, .slice a4 l4 c4] 60)) wr))
    case atStart => exact ⟨0, v2, by omega, rfl, (by simpa using HC1.out : WrS sgA w2 B v2 (L ++ nw ++ [sgK 5] ++ (coils.take 0).map (fun e => tx e.op e.args)) ∧ WK B v v2 (W.alloc (.cells #[.int .i64 k, .int .i64 op, .slice a1 l1 c1, .slice a2 l2 c2, .slice a3 l3 c3, .slice a4 l4 c4] 60)) w2)⟩
    case round =>
      obtain ⟨n, v', hn, rfl, HR⟩ := hrel
      have hbw : Below w0.heap.size w0 wr := HA0.out.2.2.2.2.2.trans (HR.out.2.below.mono hB)
      by_cases hlt : n < l3
      · have i2 : (n : Int) < (l3 : Int) := by omega
        have i3 : (0 : Int) ≤ (n : Int) := by omega
        obtain ⟨x, hxn⟩ : ∃ x, coils[n]? = some x := ⟨_, List.getElem?_eq_getElem (by have := HL3.out; omega)⟩
        obtain ⟨b, o, cs, rfl, hcs, hrg, vx, rfl, hR⟩ := HX3.out n x hxn
        obtain ⟨a5, c5, hv5, hl5, _⟩ := id hR
        have x0 : wr.cell? ⟨b, o + n * 2, none⟩ = some (.int .i64 x.op) := (Keeps.of_below hbw 0) _ _ _ (Nat.zero_le _) (hrg 0 _ rfl)
        have x1 : wr.cell? ⟨b, o + n * 2 + 1, none⟩ = some vx := (Keeps.of_below hbw 0) _ _ _ (Nat.zero_le _) (hrg 1 _ rfl)
        have hRw : ArgsIs wr 0 vx x.args := argsIs_move (Keeps.of_below hbw 0) (Nat.le_refl _) hR
        subst hv5
        obtain ⟨l5, HL5⟩ : ∃ l5, Hid (l5 = x.args.length) := ⟨_, rfl⟩
        rw [← HL5.out] at x1 hRw hl5
        have gA : Below wr.heap.size wr (wr.alloc (.cells #[.int .i64 x.op, .slice a5 l5 c5] 54)) := (Below.refl _ _).alloc (Nat.le_refl _) _
        have hmap : (coils.take (n + 1)).map (fun e => tx e.op e.args) = (coils.take n).map (fun e => tx e.op e.args) ++ [tx x.op x.args] := by rw [List.take_add_one, hxn]; simp
        have hE := elem_w sgA B x.op (.slice a5 l5 c5) rfl (tx x.op x.args) _ v' _ (HR.out.1.later gA) (by have := HWR.out.2.2; have h2 : ((coils.take n).map (fun e => tx e.op e.args)).length ≤ coils.length := by simp; omega
                                                                                                           simp only [List.length_append, List.length_cons, List.length_map, List.length_nil] at this h2 ⊢; omega)
          (fun W' g => HT.out W' (hbw.trans ((gA.trans (g.mono gA.size)).mono hbw.size)) x.op _ x.args (argsIs_move (Keeps.of_below (gA.trans (g.mono gA.size)) 0) (Nat.le_refl _) hRw))
        have HE : Hid (Calls Tryz.prog 69 #[.pointer (some ⟨B, 0, none⟩), .agg #[.int .i64 x.op, .slice a5 l5 c5]] (wr.alloc (.cells #[.int .i64 x.op, .slice a5 l5 c5] 54)) fun e W' => e = .returned (.tuple #[]) ∧ ∃ v'', WrS sgA W' B v'' (L ++ nw ++ [sgK 5] ++ (coils.take (n + 1)).map (fun e => tx e.op e.args)) ∧ WK B v v'' (W.alloc (.cells #[.int .i64 k, .int .i64 op, .slice a1 l1 c1, .slice a2 l2 c2, .slice (some ⟨b, o, none⟩) l3 c3, .slice a4 l4 c4] 60)) W') := hE.mono fun e W' hh => ⟨hh.1, by
          obtain ⟨v'', q1, q2⟩ := hh.2
          exact ⟨v'', by rw [hmap, ← List.append_assoc]; exact q1, HR.out.2.trans ((WK.of_below gA (Nat.le_of_lt HR.out.1.lt)).trans q2)⟩⟩
        clear hE gA hmap hRw hrg hcs hR hxn hbw hl5
        go_wp2_with fail
        refine HE.out.mono ?_
        rintro e w3 ⟨rfl, v'', q1, q2⟩
        have HQ : Hid (WrS sgA w3 B v'' (L ++ nw ++ [sgK 5] ++ (coils.take (n + 1)).map (fun e => tx e.op e.args)) ∧ WK B v v'' (W.alloc (.cells #[.int .i64 k, .int .i64 op, .slice a1 l1 c1, .slice a2 l2 c2, .slice (some ⟨b, o, none⟩) l3 c3, .slice a4 l4 c4] 60)) w3) := ⟨q1, q2⟩
        clear q1 q2 HE x0 x1
        go_wp2
        go_roundg (gk - 1)
        case measure => omega
        case rel => exact ⟨n + 1, v'', by omega, by simp, HQ⟩
      · have i2 : ¬ ((n : Int) < (l3 : Int)) := by omega
        have htk : coils.take n = coils := List.take_of_length_le (by have := HL3.out; omega)
        have h0 := HR.out
        rw [htk] at h0
        have HC2 : Hid (WrS sgA wr B v' (L ++ nw ++ [sgK 5] ++ coils.map (fun e => tx e.op e.args)) ∧ WK B v v' (W.alloc (.cells #[.int .i64 k, .int .i64 op, .slice a1 l1 c1, .slice a2 l2 c2, .slice a3 l3 c3, .slice a4 l4 c4] 60)) wr) := h0
        have r3 : wr.heap[W.heap.size]? = some (.cells #[.int .i64 k, .int .i64 op, .slice a1 l1 c1, .slice a2 l2 c2, .slice a3 l3 c3, .slice a4 l4 c4] 60 (0, 0)) := h0.2.row HA0.out.2.2.2.1 HA0.out.2.2.2.2.1 HA0.out.1
        have d5 : wr.cell? ⟨W.heap.size, 5, none⟩ = some (.slice a4 l4 c4) := (cell_of_row _ _ _ _ _ _ r3).trans rfl
        clear htk h0 r3 HR hbw hlt hn HC1 c4'
        by_cases hz : l4 = 0
        · have z4 : ((l4 : Int) == 0) = true := by simp [hz]
          have HZ : Hid (kids = []) := List.eq_nil_of_length_eq_zero (by rw [← HL4.out]; exact hz)
          clear hz
          go_wp2
          refine bodyPost_ret (results_none rfl _ _ _) rfl ⟨rfl, v', ?_, HA0.out.2.1.trans HC2.out.2⟩
          rw [HZ.out]
          simpa [kidsW, List.append_assoc] using HC2.out.1
        · have z4 : ((l4 : Int) == 0) = false := by simp; omega
          have HZ : Hid ((kids.map (wArm tx m)).length ≠ 0) := (by rw [List.length_map, ← HL4.out]; exact hz : (kids.map (wArm tx m)).length ≠ 0)
          clear hz
          obtain ⟨L1, HL1⟩ : ∃ L1, Hid (L1 = L ++ nw ++ [sgK 5] ++ coils.map (fun e => tx e.op e.args)) := ⟨_, rfl⟩
          rw [← HL1.out] at HC2
          have HLen : Hid (L1.length + ((kidsP (kids.map (wArm tx m))).length + 1) ≤ 1000000) := (by
            have := HWR.out.2.2
            rw [kidsW_P _ HZ.out] at this
            rw [HL1.out]
            simp only [List.length_append, List.length_cons, List.length_nil] at this ⊢
            omega : L1.length + ((kidsP (kids.map (wArm tx m))).length + 1) ≤ 1000000)
          have HFin : Hid (∀ W' v'', WrS sgA W' B v'' (L1 ++ (kidsP (kids.map (wArm tx m)) ++ [sgK 8])) → WK B v v'' (W.alloc (.cells #[.int .i64 k, .int .i64 op, .slice a1 l1 c1, .slice a2 l2 c2, .slice a3 l3 c3, .slice a4 l4 c4] 60)) W' → ∃ v', WrS sgA W' B v' (L ++ (nw ++ sgK 5 :: (coils.map (fun e => tx e.op e.args) ++ kidsW (kids.map (wArm tx m))))) ∧ WK B v v' W W') := fun W' v'' h1 h2 => ⟨v'', by
            rw [kidsW_P _ HZ.out]
            rw [HL1.out] at h1
            simpa [List.append_assoc] using h1, HA0.out.2.1.trans h2⟩
          clear HX3 HL3 HL1 HZ
          go_wp2
          go_loopg [6, 37] l4 (fun g sl i wr => ∃ (n : Nat) (v' : Value), n + g = l4 ∧ i = .int .i64 n ∧ sl = .int .i64 (if n = 0 then 6 else 7) ∧ Hid (WrS sgA wr B v' (L1 ++ kidsP ((kids.take n).map (wArm tx m))) ∧ WK B v v' (W.alloc (.cells #[.int .i64 k, .int .i64 op, .slice a1 l1 c1, .slice a2 l2 c2, .slice a3 l3 c3, .slice a4 l4 c4] 60)) wr))
          case atStart => exact ⟨0, v', by omega, rfl, rfl, (by simpa [kidsP] using HC2.out : WrS sgA wr B v' (L1 ++ kidsP ((kids.take 0).map (wArm tx m))) ∧ WK B v v' (W.alloc (.cells #[.int .i64 k, .int .i64 op, .slice a1 l1 c1, .slice a2 l2 c2, .slice a3 l3 c3, .slice a4 l4 c4] 60)) wr)⟩
          case round =>
            clear HC2 z4 d5 i2
            obtain ⟨n, v', hn, rfl, rfl, HR⟩ := hrel
            obtain ⟨q, Hq⟩ : ∃ q : Int, Hid (q = if n = 0 then 6 else 7) := ⟨_, rfl⟩
            rw [← Hq.out]
            have hbw : Below w0.heap.size w0 wr := HA0.out.2.2.2.2.2.trans (HR.out.2.below.mono hB)
            by_cases hlt : n < l4
            · have i2 : (n : Int) < (l4 : Int) := by omega
              have i3 : (0 : Int) ≤ (n : Int) := by omega
              obtain ⟨x, hxn⟩ : ∃ x, kids[n]? = some x := ⟨_, List.getElem?_eq_getElem (by have := HL4.out; omega)⟩
              obtain ⟨b, o, cs, rfl, hcs, hrg, hR⟩ := HX4.out n x hxn
              have hpt := kidsP_take (wArm tx m) kids n x hxn
              have hple := kidsP_le (wArm tx m) kids (n + 1)
              rw [← Hq.out] at hpt
              obtain ⟨y0, y1, y2, y3, y4, y5, y6, y7, y8, y9, z0, z1, z2, z3, rfl⟩ := hR.form
              have d0 : wr.cell? ⟨b, o + n * 6, none⟩ = some (.int .i64 y0) := (Keeps.of_below hbw 0) _ _ _ (Nat.zero_le _) (hrg 0 _ rfl)
              have d1 : wr.cell? ⟨b, o + n * 6 + 1, none⟩ = some (.int .i64 y1) := (Keeps.of_below hbw 0) _ _ _ (Nat.zero_le _) (hrg 1 _ rfl)
              have d2 : wr.cell? ⟨b, o + n * 6 + 2, none⟩ = some (.slice y2 y3 y4) := (Keeps.of_below hbw 0) _ _ _ (Nat.zero_le _) (hrg 2 _ rfl)
              have d3 : wr.cell? ⟨b, o + n * 6 + 3, none⟩ = some (.slice y5 y6 y7) := (Keeps.of_below hbw 0) _ _ _ (Nat.zero_le _) (hrg 3 _ rfl)
              have d4 : wr.cell? ⟨b, o + n * 6 + 4, none⟩ = some (.slice y8 y9 z0) := (Keeps.of_below hbw 0) _ _ _ (Nat.zero_le _) (hrg 4 _ rfl)
              have d5 : wr.cell? ⟨b, o + n * 6 + 5, none⟩ = some (.slice z1 z2 z3) := (Keeps.of_below hbw 0) _ _ _ (Nat.zero_le _) (hrg 5 _ rfl)
              have gA : Below wr.heap.size wr (wr.alloc (.cells #[.int .i64 y0, .int .i64 y1, .slice y2 y3 y4, .slice y5 y6 y7, .slice y8 y9 z0, .slice z1 z2 z3] 60)) := (Below.refl _ _).alloc (Nat.le_refl _) _
              have hSg := HS67.out n
              rw [← Hq.out] at hSg
              have hlen : L1.length + ((kidsP ((kids.take n).map (wArm tx m))).length + (1 + (wArm tx m x).length)) + 1 ≤ 1000000 := by
                have h1 := HLen.out
                rw [hpt] at hple
                simp only [List.length_append, List.length_cons] at hple
                omega
              have HSg : Hid (Calls Tryz.prog 68 #[.pointer (some ⟨B, 0, none⟩), .int .i64 q] (wr.alloc (.cells #[.int .i64 y0, .int .i64 y1, .slice y2 y3 y4, .slice y5 y6 y7, .slice y8 y9 z0, .slice z1 z2 z3] 60)) fun e W' => e = .returned (.tuple #[]) ∧ ∃ v'', WrS sgA W' B v'' (L1 ++ kidsP ((kids.take n).map (wArm tx m)) ++ [sgK q]) ∧ WK B v' v'' (wr.alloc (.cells #[.int .i64 y0, .int .i64 y1, .slice y2 y3 y4, .slice y5 y6 y7, .slice y8 y9 z0, .slice z1 z2 z3] 60)) W') := hSg _ _ _ (HR.out.1.later gA) (by simp only [List.length_append]; omega)
              have HBox : Hid ((wr.alloc (.cells #[.int .i64 y0, .int .i64 y1, .slice y2 y3 y4, .slice y5 y6 y7, .slice y8 y9 z0, .slice z1 z2 z3] 60)).heap[wr.heap.size]? = some (.cells #[.int .i64 y0, .int .i64 y1, .slice y2 y3 y4, .slice y5 y6 y7, .slice y8 y9 z0, .slice z1 z2 z3] 60 (0, 0)) ∧ wr.heap.size ≠ B ∧ v'.ownBlock ≠ some wr.heap.size ∧ WK B v v' (W.alloc (.cells #[.int .i64 k, .int .i64 op, .slice a1 l1 c1, .slice a2 l2 c2, .slice a3 l3 c3, .slice (some ⟨b, o, none⟩) l4 c4] 60)) (wr.alloc (.cells #[.int .i64 y0, .int .i64 y1, .slice y2 y3 y4, .slice y5 y6 y7, .slice y8 y9 z0, .slice z1 z2 z3] 60)) ∧ Below w0.heap.size w0 (wr.alloc (.cells #[.int .i64 y0, .int .i64 y1, .slice y2 y3 y4, .slice y5 y6 y7, .slice y8 y9 z0, .slice z1 z2 z3] 60))) :=
                ⟨heap_alloc_last wr _, by have := HR.out.1.lt; omega, fun e => by have := (HR.out.1.own _ e).2; omega, HR.out.2.trans (WK.of_below gA (Nat.le_of_lt HR.out.1.lt)), hbw.trans (gA.mono hbw.size)⟩
              have HKK : Hid (∀ (W : World) v L, Below w0.heap.size w0 W → WrS sgA W B v L → L.length + (wArm tx m x).length ≤ 1000000 → Calls Tryz.prog 28 #[.pointer (some ⟨B, 0, none⟩), .agg #[.int .i64 y0, .int .i64 y1, .slice y2 y3 y4, .slice y5 y6 y7, .slice y8 y9 z0, .slice z1 z2 z3]] W fun e W' => e = .returned (.tuple #[]) ∧ ∃ v', WrS sgA W' B v' (L ++ wArm tx m x) ∧ WK B v v' W W') := HK.out x _ (List.mem_of_getElem? hxn) hR
              have HPT : Hid (kidsP ((kids.take (n + 1)).map (wArm tx m)) = kidsP ((kids.take n).map (wArm tx m)) ++ (sgK q :: wArm tx m x) ∧ L1.length + ((kidsP ((kids.take n).map (wArm tx m))).length + (1 + (wArm tx m x).length)) + 1 ≤ 1000000) := ⟨hpt, hlen⟩
              clear hrg hcs hR hxn hbw hpt hple gA hSg hlen HR Hq
              go_wp2_with fail
              refine HSg.out.mono ?_
              rintro e w4 ⟨rfl, v5, q1, q2⟩
              have r4 : w4.heap[wr.heap.size]? = some (.cells #[.int .i64 y0, .int .i64 y1, .slice y2 y3 y4, .slice y5 y6 y7, .slice y8 y9 z0, .slice z1 z2 z3] 60 (0, 0)) := q2.row HBox.out.2.1 HBox.out.2.2.1 HBox.out.1
              have e0 : w4.cell? ⟨wr.heap.size, 0, none⟩ = some (.int .i64 y0) := (cell_of_row _ _ _ _ _ _ r4).trans rfl
              have e1 : w4.cell? ⟨wr.heap.size, 1, none⟩ = some (.int .i64 y1) := (cell_of_row _ _ _ _ _ _ r4).trans rfl
              have e2 : w4.cell? ⟨wr.heap.size, 2, none⟩ = some (.slice y2 y3 y4) := (cell_of_row _ _ _ _ _ _ r4).trans rfl
              have e3 : w4.cell? ⟨wr.heap.size, 3, none⟩ = some (.slice y5 y6 y7) := (cell_of_row _ _ _ _ _ _ r4).trans rfl
              have e4 : w4.cell? ⟨wr.heap.size, 4, none⟩ = some (.slice y8 y9 z0) := (cell_of_row _ _ _ _ _ _ r4).trans rfl
              have e5 : w4.cell? ⟨wr.heap.size, 5, none⟩ = some (.slice z1 z2 z3) := (cell_of_row _ _ _ _ _ _ r4).trans rfl
              have HA5 : Hid (Calls Tryz.prog 28 #[.pointer (some ⟨B, 0, none⟩), .agg #[.int .i64 y0, .int .i64 y1, .slice y2 y3 y4, .slice y5 y6 y7, .slice y8 y9 z0, .slice z1 z2 z3]] w4 fun e W' => e = .returned (.tuple #[]) ∧ ∃ v6, WrS sgA W' B v6 (L1 ++ kidsP ((kids.take (n + 1)).map (wArm tx m))) ∧ WK B v v6 (W.alloc (.cells #[.int .i64 k, .int .i64 op, .slice a1 l1 c1, .slice a2 l2 c2, .slice a3 l3 c3, .slice (some ⟨b, o, none⟩) l4 c4] 60)) W') := by
                have := HKK.out w4 v5 _ (HBox.out.2.2.2.2.trans (q2.below.mono hB)) q1 (by have := HPT.out.2; simp only [List.length_append, List.length_singleton]; omega)
                refine this.mono fun e W' hh => ⟨hh.1, ?_⟩
                obtain ⟨v6, p1, p2⟩ := hh.2
                exact ⟨v6, by rw [HPT.out.1]; simpa [List.append_assoc] using p1, HBox.out.2.2.2.1.trans (q2.trans p2)⟩
              clear q1 q2 r4 HSg HBox HKK HPT d0 d1 d2 d3 d4 d5
              go_wp2_with fail
              refine HA5.out.mono ?_
              rintro e w6 ⟨rfl, v6, p1, p2⟩
              have HQ : Hid (WrS sgA w6 B v6 (L1 ++ kidsP ((kids.take (n + 1)).map (wArm tx m))) ∧ WK B v v6 (W.alloc (.cells #[.int .i64 k, .int .i64 op, .slice a1 l1 c1, .slice a2 l2 c2, .slice a3 l3 c3, .slice (some ⟨b, o, none⟩) l4 c4] 60)) w6) := ⟨p1, p2⟩
              clear p1 p2 HA5 e0 e1 e2 e3 e4 e5
              go_wp2
              go_roundg (gk - 1)
              case measure => omega
              case rel => exact ⟨n + 1, v6, by omega, by simp, by simp, HQ⟩
            · have i2 : ¬ ((n : Int) < (l4 : Int)) := by omega
              have htk : kids.take n = kids := List.take_of_length_le (by have := HL4.out; omega)
              have h0 := HR.out
              rw [htk] at h0
              have HC : Hid (Calls Tryz.prog 68 #[.pointer (some ⟨B, 0, none⟩), .int .i64 8] wr fun e W' => e = .returned (.tuple #[]) ∧ ∃ v', WrS sgA W' B v' (L ++ (nw ++ sgK 5 :: (coils.map (fun e => tx e.op e.args) ++ kidsW (kids.map (wArm tx m))))) ∧ WK B v v' W W') := by
                have := HS8.out wr v' _ h0.1 (by have := HLen.out; simp only [List.length_append]; omega)
                refine this.mono fun e W' hh => ⟨hh.1, ?_⟩
                obtain ⟨v'', p1, p2⟩ := hh.2
                exact HFin.out W' v'' (by rw [← List.append_assoc]; exact p1) (h0.2.trans p2)
              clear htk h0 hbw
              go_wp2_with fail
              refine HC.out.mono ?_
              rintro e w6 ⟨rfl, p⟩
              go_wp2
              go_end0
              exact ⟨rfl, p⟩

/-- The writer writes an arm that is right. -/
theorem arm_w (ct cl : Int → List ArgT → Bool) (tx : Int → List ArgT → ByteArray) (B : Nat) (w0 : World) (hB : w0.heap.size ≤ B)
    (HT : ∀ W', Below w0.heap.size w0 W' → ∀ op v xs, ArgsIs W' 0 v xs → Calls Tryz.prog 114 #[.agg #[.int .i64 op, v]] W' fun e w' => e = .returned (.string (tx op xs)) ∧ Below W'.heap.size W' w') :
    ∀ (m : Nat) (r : Bool) (t : ArmT) (cs : List Value), ArmIs w0 0 m t cs → firstC ct cl (pArm m r t) = 0 → ∀ (W : World) v L, Below w0.heap.size w0 W → WrS sgA W B v L → L.length + (wArm tx m t).length ≤ 1000000 →
      Calls Tryz.prog 28 #[.pointer (some ⟨B, 0, none⟩), .agg cs.toArray] W fun e W' => e = .returned (.tuple #[]) ∧ ∃ v', WrS sgA W' B v' (L ++ wArm tx m t) ∧ WK B v v' W W'
  | 0, _, _, _, h, _, _, _, _, _, _, _ => h.elim
  | m + 1, r, .mk net coils kids, cs, hv, hz, W, v, L, hb, hW, hL => by
    obtain ⟨ns, v3, v4, rfl, hn, hc, hk⟩ := hv
    rw [firstC_arm] at hz
    simp only at hz
    have ha0 : (if noneT net then 0 else firstC ct cl (pNet m net)) = 0 := by
      by_cases h0 : (if noneT net then 0 else firstC ct cl (pNet m net)) = 0
      · exact h0
      · rw [if_neg h0] at hz; exact absurd hz h0
    rw [if_pos ha0] at hz
    have hb0 : cAv r (noneT net) (coils.all fun e => cl e.op e.args) coils.length kids.length = 0 := by
      by_cases h0 : cAv r (noneT net) (coils.all fun e => cl e.op e.args) coils.length kids.length = 0
      · exact h0
      · rw [if_neg h0] at hz; exact absurd hz h0
    rw [if_pos hb0] at hz
    have hzk : ∀ x ∈ kids, firstC ct cl (pArm m false x) = 0 := firstC_all hz
    have hn' := hn
    cases m with
    | zero => exact hn.elim
    | succ m' =>
      cases net with
      | mk k e nk =>
        obtain ⟨v1, v2, rfl, hga, hnk⟩ := hn
        obtain ⟨a1, c1, rfl, hl1, _⟩ := id hga
        obtain ⟨a2, c2, rfl, hl2, _⟩ := id hnk
        have hkk : (k != 0) = !noneT (.mk k e nk) := by
          cases hnn : noneT (.mk k e nk) with
          | true =>
            rw [noneT_len] at hnn
            simp only [Bool.and_eq_true, decide_eq_true_eq] at hnn
            simp [hnn.1.1.1]
          | false =>
            rw [hnn, if_neg (by simp), firstC_net] at ha0
            have hc0 : cNv k e.op e.args.length nk.length (ct e.op e.args) = 0 := by
              by_cases h0 : cNv k e.op e.args.length nk.length (ct e.op e.args) = 0
              · exact h0
              · rw [if_neg h0] at ha0; exact absurd ha0 h0
            have : k ≠ 0 := by
              intro h0
              subst h0
              unfold cNv at hc0
              rw [if_neg (by omega), if_neg (fun hh => by omega)] at hc0
              omega
            simpa using this
        exact arm_step tx B k e.op (noneT (.mk k e nk)) hkk (if noneT (.mk k e nk) then [] else wNet tx (m' + 1) (.mk k e nk)) (m' + 1) a1 _ c1 a2 _ c2 v3 coils v4 kids w0 hB hc hk W v L hb hW hL HT
          (fun hnn W' v' L' hb' hW' hL' => by
            have h0 : firstC ct cl (pNet (m' + 1) (.mk k e nk)) = 0 := by rw [hnn, if_neg (by simp)] at ha0; exact ha0
            rw [hnn, if_neg (by simp)] at hL' ⊢
            exact net_w ct cl tx B w0 hB HT (m' + 1) (.mk k e nk) _ hn' h0 W' v' L' hb' hW' hL')
          (fun hnn => by rw [hnn]; rfl)
          (fun x cs hx hR W' v' L' hb' hW' hL' => arm_w ct cl tx B w0 hB HT (m' + 1) false x cs hR (hzk x hx) W' v' L' hb' hW' hL')
end Go.Proofs.YtgopfaegdlefpaaGreatDoor
