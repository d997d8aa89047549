/- The specification writes a ladder. -/
import Derived.Test.YtgopfaegdlefpaaGreatDoorVj
import Derived.Test.YtgopfaegdlefpaaGreatDoorUg
namespace Go.Proofs.YtgopfaegdlefpaaGreatDoor
open Go.RowKit
set_option linter.unusedVariables false

theorem cat_cut (y : ByteArray) (ys : List ByteArray) : (catB (y :: ys)).extract 0 ((catB (y :: ys)).size - 1) = ⟨(joinL (y :: ys)).toArray⟩ := by
  have h1 : (catB (y :: ys)).data.toList = joinL (y :: ys) ++ [32] := joinL_cat y ys
  have h2 : (catB (y :: ys)).size = (joinL (y :: ys)).length + 1 := by rw [Lib.size_eq, h1, List.length_append]; rfl
  have h3 : ((catB (y :: ys)).extract 0 ((catB (y :: ys)).size - 1)).data.toList = joinL (y :: ys) := by
    rw [Lib.extract_data, h1, h2]
    simp
  apply ByteArray.ext
  apply Array.ext'
  rw [h3]
theorem cat_pos (y : ByteArray) (ys : List ByteArray) : 1 ≤ (catB (y :: ys)).size := by
  rw [Lib.size_eq, show (catB (y :: ys)).data.toList = joinL (y :: ys) ++ [32] from joinL_cat y ys, List.length_append]
  simp

set_option maxRecDepth 10000 in
set_option maxHeartbeats 16000000 in
theorem sprint_run (ct cl : Int → List ArgT → Bool) (tx : Int → List ArgT → ByteArray) (ht : ∀ op xs, (tx op xs).size ≤ 300) (m : Nat) (v : Value) (xs : List ArmT) (w : World) (lo : Nat) (hv : ArmsIs w lo m v xs) (c i : Int) (hc0 : 0 ≤ c)
    (hgood : c = 0 → (∀ x ∈ xs, firstC ct cl (pArm m true x) = 0) ∧ xs.length ≤ 40 ∧ ∀ x ∈ xs, (wArm tx m x).length ≤ 2000)
    (HCk : Hid (∀ W, Below w.heap.size w W → Calls Tryz.prog 11 #[v] W fun e w' => e = .returned (.agg #[.int .i64 c, .int .i64 i]) ∧ Below W.heap.size W w'))
    (HT : ∀ W', Below w.heap.size w W' → ∀ op v xs, ArgsIs W' lo v xs → Calls Tryz.prog 74 #[.agg #[.int .i64 op, v]] W' fun e w' => e = .returned (.string (tx op xs)) ∧ Below W'.heap.size W' w') :
    Calls Tryz.prog 10 #[v] w fun e w' => e = .returned (.string (if c = 0 then ⟨(textL tx m xs).toArray⟩ else ⟨#[]⟩)) ∧ Below w.heap.size w w' := by
  have hfd : ∀ (c i : Int) (W : World), (Instr.field 27 (.agg #[.int .i64 c, .int .i64 i]) 0).run Tryz.prog W = .ok (.int .i64 c) W := fun c i W => by kernel_rfl
  obtain ⟨a, cap, rfl, hl, hx⟩ := hv
  have HX : Hid (∀ j x, xs[j]? = some x → ∃ b o cs, a = some ⟨b, o, none⟩ ∧ lo ≤ b ∧ cs.length = 6 ∧ w.rangeAt b (o + j * 6) cs ∧ (ArmIs w lo m) x cs) := hx
  obtain ⟨len, HLn⟩ : ∃ len, Hid (len = xs.length) := ⟨_, rfl⟩
  rw [← HLn.out] at hl HCk ⊢
  clear hx
  by_cases hc : c = 0
  rotate_left
  · have hc' : c > 0 := by omega
    have hc'' : 0 < c := by omega
    rw [if_neg hc]
    clear hc hc0
    go_enter Tryz.func10, Tryz.ntmps10
    go_wp2_with fail
    refine (HCk.out _ (Below.refl _ _)).mono ?_
    rintro e w1 ⟨rfl, g1⟩
    go_wp2
    go_ret
    exact ⟨rfl, g1⟩
  subst hc
  have HG : Hid ((∀ x ∈ xs, firstC ct cl (pArm m true x) = 0) ∧ xs.length ≤ 40 ∧ ∀ x ∈ xs, (wArm tx m x).length ≤ 2000) := hgood rfl
  rw [if_pos rfl]
  obtain ⟨RES, HRES⟩ : ∃ R : ByteArray, Hid (R = ⟨(textL tx m xs).toArray⟩) := ⟨_, rfl⟩
  rw [← HRES.out]
  have HTX : Hid (∀ op xs, (tx op xs).size ≤ 300) := ht
  have HA : Hid (∀ x cs (W : World), x ∈ xs → Below w.heap.size w W → ArmIs w lo m x cs → Calls Tryz.prog 32 #[.agg cs.toArray] W fun r w' => r = .returned (.string (catB (wArm tx m x))) ∧ Below W.heap.size W w') := fun x cs W hxm g h =>
    s8_arm ct cl tx HTX.out m true x cs W lo (ArmIs.move (Keeps.of_below g lo) (Nat.le_refl _) _ _ (Nat.le_refl _) _ _ h) (HG.out.1 x hxm) (by have := HG.out.2.2 x hxm; omega) (fun W' g' => HT W' (g.trans (g'.mono g.size)))
  clear hgood ht HT hc0
  go_enter Tryz.func10, Tryz.ntmps10
  go_wp2_with fail
  refine (HCk.out _ (Below.refl _ _)).mono ?_
  rintro e w1 ⟨rfl, g1⟩
  have HB1 : Hid (Below w.heap.size w w1) := g1
  clear g1 HCk
  go_wp2
  go_loopg [3, 4] len (fun g s i wr => ∃ (n : Nat) (T : ByteArray), n + g = len ∧ i = .int .i64 n ∧ s = .string T ∧ Hid (T = ⟨(textL tx m (xs.take n)).toArray⟩) ∧ Below w.heap.size w wr)
  case atStart => exact ⟨0, _, by omega, rfl, rfl, rfl, HB1.out⟩
  case round =>
    clear HB1
    obtain ⟨n, T, hn, rfl, rfl, HTT, hb⟩ := hrel
    have hTs : T.size ≤ 40 * (301 * 2000 + 1) := by
      rw [HTT.out]
      show (textL tx m (xs.take n)).toArray.size ≤ _
      rw [List.size_toArray]
      exact textL_le tx HTX.out m xs n HG.out.2.1 HG.out.2.2
    by_cases hlt : n < len
    · have i2 : (n : Int) < (len : Int) := by omega
      have i3 : (0 : Int) ≤ (n : Int) := by omega
      obtain ⟨x, hxn⟩ : ∃ x, xs[n]? = some x := ⟨_, List.getElem?_eq_getElem (by have := HLn.out; omega)⟩
      obtain ⟨b, o, cs, rfl, hlo, hcs, hrg, hR⟩ := HX.out n x hxn
      have hxm := List.mem_of_getElem? hxn
      have hm : ∃ m', m = m' + 1 := by
        cases m with
        | zero => exact hR.elim
        | succ m' => exact ⟨m', rfl⟩
      obtain ⟨y, ys, hw⟩ : ∃ y ys, wArm tx m x = y :: ys := by
        obtain ⟨m', rfl⟩ := hm
        exact wArm_cons tx m' x
      have HLd : Hid ((loadVar 60 ⟨b, o + n * 6, none⟩).run Tryz.prog wr = .ok (.agg cs.toArray) wr) := run_loadVar_mid wr b (o + n * 6) 60 cs _ (fun i c hi => (Keeps.of_below hb 0) _ _ _ (Nat.zero_le _) (hrg i c hi)) Tryz.underlying60 rfl (by rw [hcs]; kernel_rfl)
      have HCx : Hid (Calls Tryz.prog 32 #[.agg cs.toArray] wr fun r w' => r = .returned (.string (catB (wArm tx m x))) ∧ Below wr.heap.size wr w') := HA.out x cs wr hxm hb hR
      obtain ⟨U, HU⟩ : ∃ U, Hid (U = catB (wArm tx m x)) := ⟨_, rfl⟩
      rw [← HU.out] at HCx
      have hUs : U.size ≤ 301 * 2000 := by rw [HU.out]; have h1 := catB_size _ (bd_arm tx HTX.out m x); have := HG.out.2.2 x hxm; omega
      have hU1 : 1 ≤ U.size := by rw [HU.out, hw]; exact cat_pos y ys
      obtain ⟨J, HJ⟩ : ∃ J : ByteArray, Hid (J = U.extract 0 (U.size - 1)) := ⟨_, rfl⟩
      have HJ2 : Hid (J = ⟨(joinL (y :: ys)).toArray⟩) := (by rw [HJ.out, HU.out, hw]; exact cat_cut y ys : J = ⟨(joinL (y :: ys)).toArray⟩)
      have hJs : J.size ≤ 301 * 2000 := by rw [HJ.out, ByteArray.size_extract]; omega
      have HTE : Hid (T ++ J ++ ⟨#[10]⟩ = ⟨(textL tx m (xs.take (n + 1))).toArray⟩) := (by
        have e1 : textL tx m (xs.take (n + 1)) = textL tx m (xs.take n) ++ (joinL (y :: ys) ++ [10]) := by
          unfold textL
          rw [List.take_add_one, hxn, show joinL (y :: ys) ++ [10] = lineL (wArm tx m x) by rw [hw]; rfl]; simp
        rw [e1, ba_app, ba_app, ← HTT.out, ← HJ2.out, ByteArray.append_assoc] : T ++ J ++ ⟨#[10]⟩ = ⟨(textL tx m (xs.take (n + 1))).toArray⟩)
      have HB : Hid (Below w.heap.size w wr) := hb
      have s1 : (0 : Int) ≤ (U.size : Int) - 1 := by omega
      have s2 : (U.size : Int) - 1 ≤ (U.size : Int) := by omega
      have hz : ¬ 9223372036854775807 < T.size + J.size := by omega
      have hz2 : ¬ 9223372036854775807 < T.size + J.size + 1 := by omega
      clear hb hrg hcs hR hlo hxn hTs hm hxm hw hJs
      go_wp2_with (first | (refine wpL_load rfl 60 _ rfl _ _ rfl _ HLd.out ?_) | fail)
      refine HCx.out.mono ?_
      rintro r w2 ⟨rfl, g2⟩
      have b2 : Below w.heap.size w w2 := HB.out.trans (g2.mono HB.out.size)
      clear g2 HCx HLd
      have hJe : U.extract 0 (U.size - 1) = J := HJ.out.symm
      go_wp2
      go_roundg (gk - 1)
      case measure => omega
      case rel => exact ⟨n + 1, _, by omega, by simp, rfl, HTE, b2⟩
    · have i2 : ¬ ((n : Int) < (len : Int)) := by omega
      have htk : xs.take n = xs := List.take_of_length_le (by have := HLn.out; omega)
      have HTE : Hid (T = RES) := (by rw [HRES.out, HTT.out, htk] : T = RES)
      clear htk hTs
      go_wp2
      go_ret
      exact ⟨by rw [← HTE.out] <;> rfl, hb⟩
end Go.Proofs.YtgopfaegdlefpaaGreatDoor
