/- The specification writes an arm. -/
import Derived.Test.YtgopfaegdlefpaaGreatDoorVg
namespace Go.Proofs.YtgopfaegdlefpaaGreatDoor
open Go.RowKit
set_option linter.unusedVariables false

theorem mem_flat_len {α : Type} (f : α → List ByteArray) (xs : List α) (x : α) (hx : x ∈ xs) : (f x).length ≤ (kidsP (xs.map f)).length := by
  obtain ⟨j, hj, rfl⟩ := List.mem_iff_getElem.1 hx
  have h1 := kidsP_take f xs j xs[j] (List.getElem?_eq_getElem hj)
  have h2 := kidsP_le f xs (j + 1)
  rw [h1] at h2
  simp only [List.length_append, List.length_cons] at h2
  omega

set_option maxRecDepth 10000 in
set_option maxHeartbeats 16000000 in
theorem s8_arm_step (tx : Int → List ArgT → ByteArray) (ht : ∀ op xs, (tx op xs).size ≤ 300) (m : Nat) (nn : Bool) (nw : List ByteArray) (hnb : bdW nw) (hnw : nn = true → nw = []) (k op : Int) (a1 : Option Addr) (l1 c1 : Nat) (a2 : Option Addr) (l2 c2 : Nat) (v3 : Value) (coils : List ElemT) (v4 : Value) (kids : List ArmT) (w : World) (lo : Nat) (hv3 : ElemsIs w lo v3 coils) (hv4 : RowIs w lo 6 (ArmIs w lo m) v4 kids)
    (hL : (nw ++ sgK 5 :: (coils.map (fun e => tx e.op e.args) ++ kidsW (kids.map (wArm tx m)))).length ≤ 1000000)
    (HN : Hid (∀ W, Calls Tryz.prog 72 #[.agg #[.int .i64 k, .int .i64 op, .slice a1 l1 c1, .slice a2 l2 c2]] W fun e w' => e = .returned (.bool nn) ∧ Below W.heap.size W w'))
    (HW : Hid (nn = false → ∀ W, Below w.heap.size w W → Calls Tryz.prog 73 #[.agg #[.int .i64 k, .int .i64 op, .slice a1 l1 c1, .slice a2 l2 c2]] W fun e w' => e = .returned (.string (catB nw)) ∧ Below W.heap.size W w'))
    (HT : Hid (∀ W, Below w.heap.size w W → ∀ op v xs, ArgsIs W lo v xs → Calls Tryz.prog 74 #[.agg #[.int .i64 op, v]] W fun e w' => e = .returned (.string (tx op xs)) ∧ Below W.heap.size W w'))
    (HK : Hid (∀ x cs, x ∈ kids → ∀ (W : World), Below w.heap.size w W → (ArmIs W lo m) x cs → Calls Tryz.prog 32 #[.agg cs.toArray] W fun r w' => r = .returned (.string (catB (wArm tx m x))) ∧ Below W.heap.size W w'))
    (HM : Hid (∀ x cs (W : World), Below w.heap.size w W → (ArmIs w lo m) x cs → (ArmIs W lo m) x cs)) :
    Calls Tryz.prog 32 #[.agg #[.int .i64 k, .int .i64 op, .slice a1 l1 c1, .slice a2 l2 c2, v3, v4]] w fun e w' => e = .returned (.string (catB (nw ++ sgK 5 :: (coils.map (fun e => tx e.op e.args) ++ kidsW (kids.map (wArm tx m)))))) ∧ Below w.heap.size w w' := by
  obtain ⟨a3, c3, rfl, hl3, hx3⟩ := hv3
  obtain ⟨a4, c4, rfl, hl4, hx4⟩ := hv4
  have HX3 : Hid (∀ j x, coils[j]? = some x → ∃ b o cs, a3 = some ⟨b, o, none⟩ ∧ lo ≤ b ∧ cs.length = 2 ∧ w.rangeAt b (o + j * 2) cs ∧ ElemIs w lo x cs) := hx3
  have HX4 : Hid (∀ j x, kids[j]? = some x → ∃ b o cs, a4 = some ⟨b, o, none⟩ ∧ lo ≤ b ∧ cs.length = 6 ∧ w.rangeAt b (o + j * 6) cs ∧ (ArmIs w lo m) x cs) := hx4
  obtain ⟨l3, HL3⟩ : ∃ l3, Hid (l3 = coils.length) := ⟨_, rfl⟩
  obtain ⟨l4, HL4⟩ : ∃ l4, Hid (l4 = kids.length) := ⟨_, rfl⟩
  rw [← HL3.out] at hl3 ⊢
  rw [← HL4.out] at hl4 ⊢
  clear hx3 hx4
  have hkl : (kidsP (kids.map (wArm tx m))).length ≤ (kidsW (kids.map (wArm tx m))).length := by
    by_cases h0 : (kids.map (wArm tx m)).length = 0
    · rw [List.eq_nil_of_length_eq_zero h0]; exact Nat.le_refl _
    · rw [kidsW_P _ h0]; simp
  have hL' := hL
  simp only [List.length_append, List.length_cons, List.length_map] at hL'
  have hbk := bd_kidsP (wArm tx m) kids (fun x _ => bd_arm tx ht m x)
  have hbc : ∀ n, bdW ((coils.take n).map (fun e => tx e.op e.args)) := fun n s hs => by
    obtain ⟨e, _, rfl⟩ := List.mem_map.1 hs; exact ht _ _
  have HSN : Hid ((catB nw).size ≤ 301 * 1000000) := (by have := catB_size nw hnb; omega : (catB nw).size ≤ 301 * 1000000)
  have HSC : Hid (∀ n, (catB (nw ++ [sgK 5] ++ (coils.take n).map (fun e => tx e.op e.args))).size ≤ 301 * 1000000) := fun n => by
    have h1 := catB_size _ ((hnb.app (b := [sgK 5]) (fun s hs => by simp at hs; rw [hs]; have := sgK_size 5; omega)).app (hbc n))
    have h2 : ((coils.take n).map (fun e => tx e.op e.args)).length ≤ coils.length := by simp; omega
    simp only [List.length_append, List.length_singleton] at h1
    omega
  have HSK : Hid (∀ n, (catB (nw ++ [sgK 5] ++ coils.map (fun e => tx e.op e.args) ++ kidsP ((kids.take n).map (wArm tx m)))).size ≤ 301 * 1000000) := fun n => by
    have hb2 := bd_kidsP (wArm tx m) (kids.take n) (fun x _ => bd_arm tx ht m x)
    have hcc := hbc coils.length
    rw [List.take_length] at hcc
    have h1 := catB_size _ (((hnb.app (b := [sgK 5]) (fun s hs => by simp at hs; rw [hs]; have := sgK_size 5; omega)).app hcc).app hb2)
    have h2 := kidsP_le (wArm tx m) kids n
    simp only [List.length_append, List.length_singleton, List.length_map] at h1 h2
    omega
  have HSX : Hid (∀ x ∈ kids, (catB (wArm tx m x)).size ≤ 301 * 1000000) := fun x hx => by
    have h1 := catB_size _ (bd_arm tx ht m x)
    have h2 := mem_flat_len (wArm tx m) kids x hx
    omega
  have HTX : Hid (∀ op xs, (tx op xs).size ≤ 300) := ht
  clear hL hL' hkl hbk hbc ht hnb
  obtain ⟨RES, HRES⟩ : ∃ R, Hid (R = catB (nw ++ sgK 5 :: (coils.map (fun e => tx e.op e.args) ++ kidsW (kids.map (wArm tx m))))) := ⟨_, rfl⟩
  rw [← HRES.out]
  have hk0 := heap_alloc_last w (.cells #[.int .i64 k, .int .i64 op, .slice a1 l1 c1, .slice a2 l2 c2, .slice a3 l3 c3, .slice a4 l4 c4] 60)
  have b0 : Below w.heap.size w (w.alloc (.cells #[.int .i64 k, .int .i64 op, .slice a1 l1 c1, .slice a2 l2 c2, .slice a3 l3 c3, .slice a4 l4 c4] 60)) := (Below.refl _ _).alloc (Nat.le_refl _) _
  have HK0 : Hid ((w.alloc (.cells #[.int .i64 k, .int .i64 op, .slice a1 l1 c1, .slice a2 l2 c2, .slice a3 l3 c3, .slice a4 l4 c4] 60)).heap[w.heap.size]? = some (.cells #[.int .i64 k, .int .i64 op, .slice a1 l1 c1, .slice a2 l2 c2, .slice a3 l3 c3, .slice a4 l4 c4] 60 (0, 0)) ∧ w.heap.size < (w.alloc (.cells #[.int .i64 k, .int .i64 op, .slice a1 l1 c1, .slice a2 l2 c2, .slice a3 l3 c3, .slice a4 l4 c4] 60)).heap.size) := ⟨hk0, by simp⟩
  clear hk0
  go_enter Tryz.func32, Tryz.ntmps32
  go_wp2_with fail
  refine (HN.out _).mono ?_
  rintro e w1 ⟨rfl, g1⟩
  have kS := (g1.block _ HK0.out.2).trans HK0.out.1
  have bS := b0.trans (g1.mono b0.size)
  clear g1 b0 HK0
  cases nn with
  | true =>
    have hn0 := hnw rfl
    have T0 : (⟨#[45, 62, 32]⟩ : ByteArray) = catB (nw ++ [sgK 5] ++ (coils.take 0).map (fun e => tx e.op e.args)) := by rw [hn0]; rfl
    have HT0 : Hid ((⟨#[45, 62, 32]⟩ : ByteArray) = catB (nw ++ [sgK 5] ++ (coils.take 0).map (fun e => tx e.op e.args))) := T0
    clear hn0 hnw HW T0
    have KR : Hid (w1.heap[w.heap.size]? = some (.cells #[.int .i64 k, .int .i64 op, .slice a1 l1 c1, .slice a2 l2 c2, .slice a3 l3 c3, .slice a4 l4 c4] 60 (0, 0)) ∧ Below w.heap.size w w1) := ⟨kS, bS⟩
    clear kS bS
    go_wp2
    go_loopg [3, 4] l3 (fun g s i wr => ∃ (n : Nat) (T : ByteArray), n + g = l3 ∧ i = .int .i64 n ∧ s = .string T ∧ Hid (T = catB (nw ++ [sgK 5] ++ (coils.take n).map (fun e => tx e.op e.args))) ∧ Below w.heap.size w wr ∧ wr.heap[w.heap.size]? = some (.cells #[.int .i64 k, .int .i64 op, .slice a1 l1 c1, .slice a2 l2 c2, .slice a3 l3 c3, .slice a4 l4 c4] 60 (0, 0)))
    case atStart => exact ⟨0, _, by omega, rfl, rfl, HT0, KR.out.2, KR.out.1⟩
    case round =>
      obtain ⟨n, T, hn, rfl, rfl, HTT, hb, hk⟩ := hrel
      have c4' : wr.cell? ⟨w.heap.size, 4, none⟩ = some (.slice a3 l3 c3) := (cell_of_row _ _ _ _ _ _ hk).trans rfl
      have hTs : T.size ≤ 301 * 1000000 := by rw [HTT.out]; exact HSC.out n
      by_cases hlt : n < l3
      · have i2 : (n : Int) < (l3 : Int) := by omega
        have i3 : (0 : Int) ≤ (n : Int) := by omega
        obtain ⟨x, hxn⟩ : ∃ x, coils[n]? = some x := ⟨_, List.getElem?_eq_getElem (by have := HL3.out; omega)⟩
        obtain ⟨b, o, cs, rfl, hlo, hcs, hrg, v, rfl, hR⟩ := HX3.out n x hxn
        have hkk := Keeps.of_below hb lo
        have x0 : wr.cell? ⟨b, o + n * 2, none⟩ = some (.int .i64 x.op) := hkk _ _ _ hlo (hrg 0 _ rfl)
        have x1 : wr.cell? ⟨b, o + n * 2 + 1, none⟩ = some v := hkk _ _ _ hlo (hrg 1 _ rfl)
        obtain ⟨a5, c5, hv5, hl5, _⟩ := id hR
        have hRw : ArgsIs wr lo v x.args := argsIs_move hkk (Nat.le_refl _) hR
        subst hv5
        obtain ⟨l5, HL5⟩ : ∃ l5, Hid (l5 = x.args.length) := ⟨_, rfl⟩
        rw [← HL5.out] at x1 hRw hl5
        have hc := HT.out _ hb x.op _ x.args hRw
        obtain ⟨U, HU⟩ : ∃ U, Hid (U = tx x.op x.args) := ⟨_, rfl⟩
        rw [← HU.out] at hc
        have hUs : U.size ≤ 300 := by rw [HU.out]; exact HTX.out _ _
        have HC : Hid (Calls Tryz.prog 74 #[.agg #[.int .i64 x.op, .slice a5 l5 c5]] wr fun e w' => e = .returned (.string U) ∧ Below wr.heap.size wr w') := hc
        have hz : ¬ 9223372036854775807 < T.size + U.size := by omega
        have hz2 : ¬ 9223372036854775807 < T.size + U.size + 1 := by omega
        have HT2 : Hid (T ++ U ++ ⟨#[32]⟩ = catB (nw ++ [sgK 5] ++ (coils.take (n + 1)).map (fun e => tx e.op e.args))) := (by
          rw [List.take_add_one, hxn, List.map_append, ← List.append_assoc, catB_app, ← HTT.out]
          simp only [Option.toList_some, List.map_cons, List.map_nil]
          rw [catB_one, ← HU.out, ByteArray.append_assoc] : T ++ U ++ ⟨#[32]⟩ = catB (nw ++ [sgK 5] ++ (coils.take (n + 1)).map (fun e => tx e.op e.args)))
        have HB : Hid (Below w.heap.size w wr ∧ wr.heap[w.heap.size]? = some (.cells #[.int .i64 k, .int .i64 op, .slice a1 l1 c1, .slice a2 l2 c2, .slice (some ⟨b, o, none⟩) l3 c3, .slice a4 l4 c4] 60 (0, 0))) := ⟨hb, hk⟩
        clear hc hRw hkk hb hk hrg hcs hR hl5 hxn hTs hUs
        go_wp2_with fail
        refine HC.out.mono ?_
        rintro e w2 ⟨rfl, g2⟩
        have b2 : Below w.heap.size w w2 := HB.out.1.trans (g2.mono HB.out.1.size)
        have k2 : Hid (w2.heap[w.heap.size]? = some (.cells #[.int .i64 k, .int .i64 op, .slice a1 l1 c1, .slice a2 l2 c2, .slice (some ⟨b, o, none⟩) l3 c3, .slice a4 l4 c4] 60 (0, 0))) := (g2.block _ (Array.getElem?_eq_some_iff.1 HB.out.2).1).trans HB.out.2
        clear g2 HB HC x0 x1 c4'
        go_wp2
        go_roundg (gk - 1)
        case measure => omega
        case rel => exact ⟨n + 1, _, by omega, by simp, rfl, HT2, b2, k2.out⟩
      · have i2 : ¬ ((n : Int) < (l3 : Int)) := by omega
        have htk : coils.take n = coils := List.take_of_length_le (by have := HL3.out; omega)
        have HT3 : Hid (T = catB (nw ++ [sgK 5] ++ coils.map (fun e => tx e.op e.args))) := (by rw [HTT.out, htk] : T = catB (nw ++ [sgK 5] ++ coils.map (fun e => tx e.op e.args)))
        have KR2 : Hid (wr.heap[w.heap.size]? = some (.cells #[.int .i64 k, .int .i64 op, .slice a1 l1 c1, .slice a2 l2 c2, .slice a3 l3 c3, .slice a4 l4 c4] 60 (0, 0)) ∧ Below w.heap.size w wr) := ⟨hk, hb⟩
        clear htk HTT hb hk hTs hn hlt KR HX3
        go_wp2
        go_loopg [3, 5] l4 (fun g s i wr => ∃ (n : Nat) (T : ByteArray), n + g = l4 ∧ i = .int .i64 n ∧ s = .string T ∧ Hid (T = catB (nw ++ [sgK 5] ++ coils.map (fun e => tx e.op e.args) ++ kidsP ((kids.take n).map (wArm tx m)))) ∧ Below w.heap.size w wr ∧ wr.heap[w.heap.size]? = some (.cells #[.int .i64 k, .int .i64 op, .slice a1 l1 c1, .slice a2 l2 c2, .slice a3 l3 c3, .slice a4 l4 c4] 60 (0, 0)))
        case atStart => exact ⟨0, T, by omega, rfl, rfl, (by simpa [kidsP] using HT3.out : T = catB (nw ++ [sgK 5] ++ coils.map (fun e => tx e.op e.args) ++ kidsP ((kids.take 0).map (wArm tx m)))), KR2.out.2, KR2.out.1⟩
        case round =>
          clear HT3 KR2 i2 c4'
          obtain ⟨n, T, hn, rfl, rfl, HTT, hb, hk0⟩ := hrel
          have c0 : wr.cell? ⟨w.heap.size, 5, none⟩ = some (.slice a4 l4 c4) := (cell_of_row _ _ _ _ _ _ hk0).trans rfl
          have hTs : T.size ≤ 301 * 1000000 := by rw [HTT.out]; exact HSK.out n
          by_cases hlt : n < l4
          · have i2 : (n : Int) < (l4 : Int) := by omega
            have i3 : (0 : Int) ≤ (n : Int) := by omega
            obtain ⟨x, hxn⟩ : ∃ x, kids[n]? = some x := ⟨_, List.getElem?_eq_getElem (by have := HL4.out; omega)⟩
            obtain ⟨b, o, cs, rfl, hlo, hcs, hrg, hR⟩ := HX4.out n x hxn
            have hpt := kidsP_take (wArm tx m) kids n x hxn
            have HB : Hid (Below w.heap.size w wr) := hb
            have HLd : Hid ((loadVar 60 ⟨b, o + n * 6, none⟩).run Tryz.prog wr = .ok (.agg cs.toArray) wr) := run_loadVar_mid wr b (o + n * 6) 60 cs _ (fun i c hi => (Keeps.of_below hb 0) _ _ _ (Nat.zero_le _) (hrg i c hi)) Tryz.underlying60 rfl (by rw [hcs]; kernel_rfl)
            have HCx : Hid (Calls Tryz.prog 32 #[.agg cs.toArray] wr fun r w' => r = .returned (.string (catB (wArm tx m x))) ∧ Below wr.heap.size wr w') := HK.out x cs (List.mem_of_getElem? hxn) wr hb (HM.out x cs wr hb hR)
            obtain ⟨U, HU⟩ : ∃ U, Hid (U = catB (wArm tx m x)) := ⟨_, rfl⟩
            rw [← HU.out] at HCx
            have hUs : U.size ≤ 301 * 1000000 := by rw [HU.out]; exact HSX.out x (List.mem_of_getElem? hxn)
            have hz : ¬ 9223372036854775807 < T.size + 2 := by omega
            have hz2 : ¬ 9223372036854775807 < T.size + 2 + U.size := by omega
            have HKk : Hid (wr.heap[w.heap.size]? = some (.cells #[.int .i64 k, .int .i64 op, .slice a1 l1 c1, .slice a2 l2 c2, .slice a3 l3 c3, .slice (some ⟨b, o, none⟩) l4 c4] 60 (0, 0))) := hk0
            have mk : ∀ q : ByteArray, catB [sgK (if n = 0 then 6 else 7)] = q → T ++ q ++ U = catB (nw ++ [sgK 5] ++ coils.map (fun e => tx e.op e.args) ++ kidsP ((kids.take (n + 1)).map (wArm tx m))) := fun q hq => by
              rw [hpt, ← List.append_assoc, catB_app, ← HTT.out, show (sgK (if n = 0 then 6 else 7) :: wArm tx m x) = [sgK (if n = 0 then 6 else 7)] ++ wArm tx m x from rfl, catB_app, hq, ← HU.out, ByteArray.append_assoc]
            by_cases hn0 : n = 0
            · have HT2 : Hid (T ++ ⟨#[91, 32]⟩ ++ U = catB (nw ++ [sgK 5] ++ coils.map (fun e => tx e.op e.args) ++ kidsP ((kids.take (n + 1)).map (wArm tx m)))) := mk _ (by rw [if_pos hn0]; rfl)
              have n0 : ((n : Int) == 0) = true := by simp [hn0]
              clear hb hrg hcs hR hlo hk0 hxn hTs hUs mk hpt hn0
              go_wp2_with (first | (refine wpL_load rfl 60 _ rfl _ _ rfl _ HLd.out ?_) | fail)
              refine HCx.out.mono ?_
              rintro r w2 ⟨rfl, g2⟩
              have b2 : Below w.heap.size w w2 := HB.out.trans (g2.mono HB.out.size)
              have k2 : Hid (w2.heap[w.heap.size]? = some (.cells #[.int .i64 k, .int .i64 op, .slice a1 l1 c1, .slice a2 l2 c2, .slice a3 l3 c3, .slice (some ⟨b, o, none⟩) l4 c4] 60 (0, 0))) := (g2.block _ (Array.getElem?_eq_some_iff.1 HKk.out).1).trans HKk.out
              clear g2 HCx HLd c0
              go_wp2
              go_roundg (gk - 1)
              case measure => omega
              case rel => exact ⟨n + 1, _, by omega, by simp, rfl, HT2, b2, k2.out⟩
            · have HT2 : Hid (T ++ ⟨#[124, 32]⟩ ++ U = catB (nw ++ [sgK 5] ++ coils.map (fun e => tx e.op e.args) ++ kidsP ((kids.take (n + 1)).map (wArm tx m)))) := mk _ (by rw [if_neg hn0]; rfl)
              have n0 : ((n : Int) == 0) = false := by simp; omega
              clear hb hrg hcs hR hlo hk0 hxn hTs hUs mk hpt hn0
              go_wp2_with (first | (refine wpL_load rfl 60 _ rfl _ _ rfl _ HLd.out ?_) | fail)
              refine HCx.out.mono ?_
              rintro r w2 ⟨rfl, g2⟩
              have b2 : Below w.heap.size w w2 := HB.out.trans (g2.mono HB.out.size)
              have k2 : Hid (w2.heap[w.heap.size]? = some (.cells #[.int .i64 k, .int .i64 op, .slice a1 l1 c1, .slice a2 l2 c2, .slice a3 l3 c3, .slice (some ⟨b, o, none⟩) l4 c4] 60 (0, 0))) := (g2.block _ (Array.getElem?_eq_some_iff.1 HKk.out).1).trans HKk.out
              clear g2 HCx HLd c0
              go_wp2
              go_roundg (gk - 1)
              case measure => omega
              case rel => exact ⟨n + 1, _, by omega, by simp, rfl, HT2, b2, k2.out⟩
          · have i2 : ¬ ((n : Int) < (l4 : Int)) := by omega
            have htk : kids.take n = kids := List.take_of_length_le (by have := HL4.out; omega)
            have hz : ¬ 9223372036854775807 < T.size + 2 := by omega
            by_cases h40 : l4 = 0
            · have n4 : ¬ ((l4 : Int) > 0) := by omega
              have n4' : ¬ ((0 : Int) < (l4 : Int)) := by omega
              have HTE : Hid (T = RES) := (by
                have hk : kids = [] := List.eq_nil_of_length_eq_zero (by rw [← HL4.out]; exact h40)
                rw [HRES.out, HTT.out, htk, hk]
                simp [kidsP, kidsW] : T = RES)
              clear h40 hTs htk
              go_wp2
              go_ret
              exact ⟨by rw [← HTE.out] <;> rfl, hb⟩
            · have n4 : ((l4 : Int) > 0) := by omega
              have n4' : ((0 : Int) < (l4 : Int)) := by omega
              have HTE : Hid (T ++ ⟨#[93, 32]⟩ = RES) := (by
                rw [HRES.out, HTT.out, htk, kidsW_P _ (by rw [List.length_map, ← HL4.out]; exact h40)]
                rw [show nw ++ sgK 5 :: (coils.map (fun e => tx e.op e.args) ++ (kidsP (kids.map (wArm tx m)) ++ [sgK 8])) = (nw ++ [sgK 5] ++ coils.map (fun e => tx e.op e.args) ++ kidsP (kids.map (wArm tx m))) ++ [sgK 8] by simp, catB_app _ [sgK 8]]
                rfl : T ++ ⟨#[93, 32]⟩ = RES)
              clear h40 hTs htk
              go_wp2
              go_ret
              exact ⟨by rw [← HTE.out] <;> rfl, hb⟩

  | false =>
    have HW2 := (show Hid _ from HW.out rfl)
    have d0 : w1.cell? ⟨w.heap.size, 0, none⟩ = some (.int .i64 k) := (cell_of_row _ _ _ _ _ _ kS).trans rfl
    have d1 : w1.cell? ⟨w.heap.size, 1, none⟩ = some (.int .i64 op) := (cell_of_row _ _ _ _ _ _ kS).trans rfl
    have d2 : w1.cell? ⟨w.heap.size, 2, none⟩ = some (.slice a1 l1 c1) := (cell_of_row _ _ _ _ _ _ kS).trans rfl
    have d3 : w1.cell? ⟨w.heap.size, 3, none⟩ = some (.slice a2 l2 c2) := (cell_of_row _ _ _ _ _ _ kS).trans rfl
    have K1 : Hid (w1.heap[w.heap.size]? = some (.cells #[.int .i64 k, .int .i64 op, .slice a1 l1 c1, .slice a2 l2 c2, .slice a3 l3 c3, .slice a4 l4 c4] 60 (0, 0)) ∧ Below w.heap.size w w1) := ⟨kS, bS⟩
    obtain ⟨N, HNW⟩ : ∃ N, Hid (N = catB nw) := ⟨_, rfl⟩
    rw [← HNW.out] at HW2 HSN
    have hz : ¬ 9223372036854775807 < N.size + 3 := by have := HSN.out; omega
    have HT0 : Hid (N ++ ⟨#[45, 62, 32]⟩ = catB (nw ++ [sgK 5] ++ (coils.take 0).map (fun e => tx e.op e.args))) := (by
      rw [List.take_zero, List.map_nil, List.append_nil, catB_app, HNW.out]; rfl : N ++ ⟨#[45, 62, 32]⟩ = catB (nw ++ [sgK 5] ++ (coils.take 0).map (fun e => tx e.op e.args)))
    clear kS bS hnw HW
    go_wp2_with fail
    refine (HW2.out _ K1.out.2).mono ?_
    rintro e w2 ⟨rfl, g2⟩
    have kS := (g2.block _ (Array.getElem?_eq_some_iff.1 K1.out.1).1).trans K1.out.1
    have bS := K1.out.2.trans (g2.mono K1.out.2.size)
    clear g2 K1 d0 d1 d2 d3 HW2
    have KR : Hid (w2.heap[w.heap.size]? = some (.cells #[.int .i64 k, .int .i64 op, .slice a1 l1 c1, .slice a2 l2 c2, .slice a3 l3 c3, .slice a4 l4 c4] 60 (0, 0)) ∧ Below w.heap.size w w2) := ⟨kS, bS⟩
    clear kS bS
    go_wp2
    go_loopg [3, 4] l3 (fun g s i wr => ∃ (n : Nat) (T : ByteArray), n + g = l3 ∧ i = .int .i64 n ∧ s = .string T ∧ Hid (T = catB (nw ++ [sgK 5] ++ (coils.take n).map (fun e => tx e.op e.args))) ∧ Below w.heap.size w wr ∧ wr.heap[w.heap.size]? = some (.cells #[.int .i64 k, .int .i64 op, .slice a1 l1 c1, .slice a2 l2 c2, .slice a3 l3 c3, .slice a4 l4 c4] 60 (0, 0)))
    case atStart => exact ⟨0, _, by omega, rfl, rfl, HT0, KR.out.2, KR.out.1⟩
    case round =>
      obtain ⟨n, T, hn, rfl, rfl, HTT, hb, hk⟩ := hrel
      have c4' : wr.cell? ⟨w.heap.size, 4, none⟩ = some (.slice a3 l3 c3) := (cell_of_row _ _ _ _ _ _ hk).trans rfl
      have hTs : T.size ≤ 301 * 1000000 := by rw [HTT.out]; exact HSC.out n
      by_cases hlt : n < l3
      · have i2 : (n : Int) < (l3 : Int) := by omega
        have i3 : (0 : Int) ≤ (n : Int) := by omega
        obtain ⟨x, hxn⟩ : ∃ x, coils[n]? = some x := ⟨_, List.getElem?_eq_getElem (by have := HL3.out; omega)⟩
        obtain ⟨b, o, cs, rfl, hlo, hcs, hrg, v, rfl, hR⟩ := HX3.out n x hxn
        have hkk := Keeps.of_below hb lo
        have x0 : wr.cell? ⟨b, o + n * 2, none⟩ = some (.int .i64 x.op) := hkk _ _ _ hlo (hrg 0 _ rfl)
        have x1 : wr.cell? ⟨b, o + n * 2 + 1, none⟩ = some v := hkk _ _ _ hlo (hrg 1 _ rfl)
        obtain ⟨a5, c5, hv5, hl5, _⟩ := id hR
        have hRw : ArgsIs wr lo v x.args := argsIs_move hkk (Nat.le_refl _) hR
        subst hv5
        obtain ⟨l5, HL5⟩ : ∃ l5, Hid (l5 = x.args.length) := ⟨_, rfl⟩
        rw [← HL5.out] at x1 hRw hl5
        have hc := HT.out _ hb x.op _ x.args hRw
        obtain ⟨U, HU⟩ : ∃ U, Hid (U = tx x.op x.args) := ⟨_, rfl⟩
        rw [← HU.out] at hc
        have hUs : U.size ≤ 300 := by rw [HU.out]; exact HTX.out _ _
        have HC : Hid (Calls Tryz.prog 74 #[.agg #[.int .i64 x.op, .slice a5 l5 c5]] wr fun e w' => e = .returned (.string U) ∧ Below wr.heap.size wr w') := hc
        have hz : ¬ 9223372036854775807 < T.size + U.size := by omega
        have hz2 : ¬ 9223372036854775807 < T.size + U.size + 1 := by omega
        have HT2 : Hid (T ++ U ++ ⟨#[32]⟩ = catB (nw ++ [sgK 5] ++ (coils.take (n + 1)).map (fun e => tx e.op e.args))) := (by
          rw [List.take_add_one, hxn, List.map_append, ← List.append_assoc, catB_app, ← HTT.out]
          simp only [Option.toList_some, List.map_cons, List.map_nil]
          rw [catB_one, ← HU.out, ByteArray.append_assoc] : T ++ U ++ ⟨#[32]⟩ = catB (nw ++ [sgK 5] ++ (coils.take (n + 1)).map (fun e => tx e.op e.args)))
        have HB : Hid (Below w.heap.size w wr ∧ wr.heap[w.heap.size]? = some (.cells #[.int .i64 k, .int .i64 op, .slice a1 l1 c1, .slice a2 l2 c2, .slice (some ⟨b, o, none⟩) l3 c3, .slice a4 l4 c4] 60 (0, 0))) := ⟨hb, hk⟩
        clear hc hRw hkk hb hk hrg hcs hR hl5 hxn hTs hUs
        go_wp2_with fail
        refine HC.out.mono ?_
        rintro e w5 ⟨rfl, g2⟩
        have b2 : Below w.heap.size w w5 := HB.out.1.trans (g2.mono HB.out.1.size)
        have k2 : Hid (w5.heap[w.heap.size]? = some (.cells #[.int .i64 k, .int .i64 op, .slice a1 l1 c1, .slice a2 l2 c2, .slice (some ⟨b, o, none⟩) l3 c3, .slice a4 l4 c4] 60 (0, 0))) := (g2.block _ (Array.getElem?_eq_some_iff.1 HB.out.2).1).trans HB.out.2
        clear g2 HB HC x0 x1 c4'
        go_wp2
        go_roundg (gk - 1)
        case measure => omega
        case rel => exact ⟨n + 1, _, by omega, by simp, rfl, HT2, b2, k2.out⟩
      · have i2 : ¬ ((n : Int) < (l3 : Int)) := by omega
        have htk : coils.take n = coils := List.take_of_length_le (by have := HL3.out; omega)
        have HT3 : Hid (T = catB (nw ++ [sgK 5] ++ coils.map (fun e => tx e.op e.args))) := (by rw [HTT.out, htk] : T = catB (nw ++ [sgK 5] ++ coils.map (fun e => tx e.op e.args)))
        have KR2 : Hid (wr.heap[w.heap.size]? = some (.cells #[.int .i64 k, .int .i64 op, .slice a1 l1 c1, .slice a2 l2 c2, .slice a3 l3 c3, .slice a4 l4 c4] 60 (0, 0)) ∧ Below w.heap.size w wr) := ⟨hk, hb⟩
        clear htk HTT hb hk hTs hn hlt KR HX3
        go_wp2
        go_loopg [3, 5] l4 (fun g s i wr => ∃ (n : Nat) (T : ByteArray), n + g = l4 ∧ i = .int .i64 n ∧ s = .string T ∧ Hid (T = catB (nw ++ [sgK 5] ++ coils.map (fun e => tx e.op e.args) ++ kidsP ((kids.take n).map (wArm tx m)))) ∧ Below w.heap.size w wr ∧ wr.heap[w.heap.size]? = some (.cells #[.int .i64 k, .int .i64 op, .slice a1 l1 c1, .slice a2 l2 c2, .slice a3 l3 c3, .slice a4 l4 c4] 60 (0, 0)))
        case atStart => exact ⟨0, T, by omega, rfl, rfl, (by simpa [kidsP] using HT3.out : T = catB (nw ++ [sgK 5] ++ coils.map (fun e => tx e.op e.args) ++ kidsP ((kids.take 0).map (wArm tx m)))), KR2.out.2, KR2.out.1⟩
        case round =>
          clear HT3 KR2 i2 c4'
          obtain ⟨n, T, hn, rfl, rfl, HTT, hb, hk0⟩ := hrel
          have c0 : wr.cell? ⟨w.heap.size, 5, none⟩ = some (.slice a4 l4 c4) := (cell_of_row _ _ _ _ _ _ hk0).trans rfl
          have hTs : T.size ≤ 301 * 1000000 := by rw [HTT.out]; exact HSK.out n
          by_cases hlt : n < l4
          · have i2 : (n : Int) < (l4 : Int) := by omega
            have i3 : (0 : Int) ≤ (n : Int) := by omega
            obtain ⟨x, hxn⟩ : ∃ x, kids[n]? = some x := ⟨_, List.getElem?_eq_getElem (by have := HL4.out; omega)⟩
            obtain ⟨b, o, cs, rfl, hlo, hcs, hrg, hR⟩ := HX4.out n x hxn
            have hpt := kidsP_take (wArm tx m) kids n x hxn
            have HB : Hid (Below w.heap.size w wr) := hb
            have HLd : Hid ((loadVar 60 ⟨b, o + n * 6, none⟩).run Tryz.prog wr = .ok (.agg cs.toArray) wr) := run_loadVar_mid wr b (o + n * 6) 60 cs _ (fun i c hi => (Keeps.of_below hb 0) _ _ _ (Nat.zero_le _) (hrg i c hi)) Tryz.underlying60 rfl (by rw [hcs]; kernel_rfl)
            have HCx : Hid (Calls Tryz.prog 32 #[.agg cs.toArray] wr fun r w' => r = .returned (.string (catB (wArm tx m x))) ∧ Below wr.heap.size wr w') := HK.out x cs (List.mem_of_getElem? hxn) wr hb (HM.out x cs wr hb hR)
            obtain ⟨U, HU⟩ : ∃ U, Hid (U = catB (wArm tx m x)) := ⟨_, rfl⟩
            rw [← HU.out] at HCx
            have hUs : U.size ≤ 301 * 1000000 := by rw [HU.out]; exact HSX.out x (List.mem_of_getElem? hxn)
            have hz : ¬ 9223372036854775807 < T.size + 2 := by omega
            have hz2 : ¬ 9223372036854775807 < T.size + 2 + U.size := by omega
            have HKk : Hid (wr.heap[w.heap.size]? = some (.cells #[.int .i64 k, .int .i64 op, .slice a1 l1 c1, .slice a2 l2 c2, .slice a3 l3 c3, .slice (some ⟨b, o, none⟩) l4 c4] 60 (0, 0))) := hk0
            have mk : ∀ q : ByteArray, catB [sgK (if n = 0 then 6 else 7)] = q → T ++ q ++ U = catB (nw ++ [sgK 5] ++ coils.map (fun e => tx e.op e.args) ++ kidsP ((kids.take (n + 1)).map (wArm tx m))) := fun q hq => by
              rw [hpt, ← List.append_assoc, catB_app, ← HTT.out, show (sgK (if n = 0 then 6 else 7) :: wArm tx m x) = [sgK (if n = 0 then 6 else 7)] ++ wArm tx m x from rfl, catB_app, hq, ← HU.out, ByteArray.append_assoc]
            by_cases hn0 : n = 0
            · have HT2 : Hid (T ++ ⟨#[91, 32]⟩ ++ U = catB (nw ++ [sgK 5] ++ coils.map (fun e => tx e.op e.args) ++ kidsP ((kids.take (n + 1)).map (wArm tx m)))) := mk _ (by rw [if_pos hn0]; rfl)
              have n0 : ((n : Int) == 0) = true := by simp [hn0]
              clear hb hrg hcs hR hlo hk0 hxn hTs hUs mk hpt hn0
              go_wp2_with (first | (refine wpL_load rfl 60 _ rfl _ _ rfl _ HLd.out ?_) | fail)
              refine HCx.out.mono ?_
              rintro r w5 ⟨rfl, g2⟩
              have b2 : Below w.heap.size w w5 := HB.out.trans (g2.mono HB.out.size)
              have k2 : Hid (w5.heap[w.heap.size]? = some (.cells #[.int .i64 k, .int .i64 op, .slice a1 l1 c1, .slice a2 l2 c2, .slice a3 l3 c3, .slice (some ⟨b, o, none⟩) l4 c4] 60 (0, 0))) := (g2.block _ (Array.getElem?_eq_some_iff.1 HKk.out).1).trans HKk.out
              clear g2 HCx HLd c0
              go_wp2
              go_roundg (gk - 1)
              case measure => omega
              case rel => exact ⟨n + 1, _, by omega, by simp, rfl, HT2, b2, k2.out⟩
            · have HT2 : Hid (T ++ ⟨#[124, 32]⟩ ++ U = catB (nw ++ [sgK 5] ++ coils.map (fun e => tx e.op e.args) ++ kidsP ((kids.take (n + 1)).map (wArm tx m)))) := mk _ (by rw [if_neg hn0]; rfl)
              have n0 : ((n : Int) == 0) = false := by simp; omega
              clear hb hrg hcs hR hlo hk0 hxn hTs hUs mk hpt hn0
              go_wp2_with (first | (refine wpL_load rfl 60 _ rfl _ _ rfl _ HLd.out ?_) | fail)
              refine HCx.out.mono ?_
              rintro r w5 ⟨rfl, g2⟩
              have b2 : Below w.heap.size w w5 := HB.out.trans (g2.mono HB.out.size)
              have k2 : Hid (w5.heap[w.heap.size]? = some (.cells #[.int .i64 k, .int .i64 op, .slice a1 l1 c1, .slice a2 l2 c2, .slice a3 l3 c3, .slice (some ⟨b, o, none⟩) l4 c4] 60 (0, 0))) := (g2.block _ (Array.getElem?_eq_some_iff.1 HKk.out).1).trans HKk.out
              clear g2 HCx HLd c0
              go_wp2
              go_roundg (gk - 1)
              case measure => omega
              case rel => exact ⟨n + 1, _, by omega, by simp, rfl, HT2, b2, k2.out⟩
          · have i2 : ¬ ((n : Int) < (l4 : Int)) := by omega
            have htk : kids.take n = kids := List.take_of_length_le (by have := HL4.out; omega)
            have hz : ¬ 9223372036854775807 < T.size + 2 := by omega
            by_cases h40 : l4 = 0
            · have n4 : ¬ ((l4 : Int) > 0) := by omega
              have n4' : ¬ ((0 : Int) < (l4 : Int)) := by omega
              have HTE : Hid (T = RES) := (by
                have hk : kids = [] := List.eq_nil_of_length_eq_zero (by rw [← HL4.out]; exact h40)
                rw [HRES.out, HTT.out, htk, hk]
                simp [kidsP, kidsW] : T = RES)
              clear h40 hTs htk
              go_wp2
              go_ret
              exact ⟨by rw [← HTE.out] <;> rfl, hb⟩
            · have n4 : ((l4 : Int) > 0) := by omega
              have n4' : ((0 : Int) < (l4 : Int)) := by omega
              have HTE : Hid (T ++ ⟨#[93, 32]⟩ = RES) := (by
                rw [HRES.out, HTT.out, htk, kidsW_P _ (by rw [List.length_map, ← HL4.out]; exact h40)]
                rw [show nw ++ sgK 5 :: (coils.map (fun e => tx e.op e.args) ++ (kidsP (kids.map (wArm tx m)) ++ [sgK 8])) = (nw ++ [sgK 5] ++ coils.map (fun e => tx e.op e.args) ++ kidsP (kids.map (wArm tx m))) ++ [sgK 8] by simp, catB_app _ [sgK 8]]
                rfl : T ++ ⟨#[93, 32]⟩ = RES)
              clear h40 hTs htk
              go_wp2
              go_ret
              exact ⟨by rw [← HTE.out] <;> rfl, hb⟩

theorem s8_arm (ct cl : Int → List ArgT → Bool) (tx : Int → List ArgT → ByteArray) (ht : ∀ op xs, (tx op xs).size ≤ 300) : ∀ (m : Nat) (r : Bool) (t : ArmT) (cs : List Value) (w : World) (lo : Nat) (hv : ArmIs w lo m t cs) (hz : firstC ct cl (pArm m r t) = 0) (hL : (wArm tx m t).length ≤ 1000000)
    (HT : ∀ W, Below w.heap.size w W → ∀ op v xs, ArgsIs W lo v xs → Calls Tryz.prog 74 #[.agg #[.int .i64 op, v]] W fun e w' => e = .returned (.string (tx op xs)) ∧ Below W.heap.size W w'),
    Calls Tryz.prog 32 #[.agg cs.toArray] w fun r w' => r = .returned (.string (catB (wArm tx m t))) ∧ Below w.heap.size w w'
  | 0, _, _, _, _, _, h, _, _, _ => h.elim
  | m + 1, r, .mk net coils kids, cs, w, lo, hv, hz, hL, HT => by
    obtain ⟨ns, v3, v4, rfl, hn, hc, hk⟩ := hv
    rw [firstC_arm] at hz
    simp only at hz
    have ha0 : (if noneT net then 0 else firstC ct cl (pNet m net)) = 0 := by
      by_cases h0 : (if noneT net then 0 else firstC ct cl (pNet m net)) = 0
      · exact h0
      · rw [if_neg h0] at hz; exact absurd hz h0
    rw [if_pos ha0] at hz
    have hb0 : cAv r (noneT net) (coils.all fun e => cl e.op e.args) coils.length kids.length = 0 := by
      by_cases h0 : cAv r (noneT net) (coils.all fun e => cl e.op e.args) coils.length kids.length = 0
      · exact h0
      · rw [if_neg h0] at hz; exact absurd hz h0
    rw [if_pos hb0] at hz
    have hzk : ∀ x ∈ kids, firstC ct cl (pArm m false x) = 0 := firstC_all hz
    have hn' := hn
    cases m with
    | zero => exact hn.elim
    | succ m' =>
      cases net with
      | mk k e nk =>
        obtain ⟨v1, v2, rfl, hga, hnk⟩ := hn
        obtain ⟨a1, c1, rfl, hl1, _⟩ := id hga
        obtain ⟨a2, c2, rfl, hl2, _⟩ := id hnk
        have hL' := hL
        rw [show wArm tx (m' + 1 + 1) (.mk (.mk k e nk) coils kids) = (if noneT (.mk k e nk) then [] else wNet tx (m' + 1) (.mk k e nk)) ++ sgK 5 :: (coils.map (fun e => tx e.op e.args) ++ kidsW (kids.map (wArm tx (m' + 1)))) from rfl] at hL'
        simp only [List.length_append, List.length_cons] at hL'
        exact s8_arm_step tx ht (m' + 1) (noneT (.mk k e nk)) (if noneT (.mk k e nk) then [] else wNet tx (m' + 1) (.mk k e nk)) (by
            split
            · intro s hs; simp at hs
            · exact bd_net tx ht _ _) (fun hnn => by rw [hnn]; rfl) k e.op a1 _ c1 a2 _ c2 v3 coils v4 kids w lo hc hk hL
          (fun W => by rw [noneT_len]; exact none_s k e.op a1 _ c1 a2 _ c2 W hl1 hl2)
          (fun hnn W g => by
            have h0 : firstC ct cl (pNet (m' + 1) (.mk k e nk)) = 0 := by rw [hnn, if_neg (by simp)] at ha0; exact ha0
            rw [hnn, if_neg (by simp)] at hL' ⊢
            exact s8_net ct cl tx ht (m' + 1) (.mk k e nk) _ W lo (NetIs.move (Keeps.of_below g lo) (Nat.le_refl _) _ _ (Nat.le_refl _) _ _ hn') h0 (by omega) (fun W' g' => HT W' (g.trans (g'.mono g.size))))
          HT
          (fun x cs hx W g h => s8_arm ct cl tx ht (m' + 1) false x cs W lo h (hzk x hx) (by
            have h1 := mem_flat_len (wArm tx (m' + 1)) kids x hx
            have h2 : (kidsP (kids.map (wArm tx (m' + 1)))).length ≤ (kidsW (kids.map (wArm tx (m' + 1)))).length := by
              by_cases h0 : (kids.map (wArm tx (m' + 1))).length = 0
              · rw [List.eq_nil_of_length_eq_zero h0]; exact Nat.le_refl _
              · rw [kidsW_P _ h0]; simp
            omega) (fun W' g' => HT W' (g.trans (g'.mono g.size))))
          (fun x cs W g h => ArmIs.move (Keeps.of_below g lo) (Nat.le_refl _) _ _ (Nat.le_refl _) _ _ h)
end Go.Proofs.YtgopfaegdlefpaaGreatDoor
