/- The specification writes a net and an arm. -/
import Derived.Test.YtgopfaegdlefpaaGreatDoorVe
namespace Go.Proofs.YtgopfaegdlefpaaGreatDoor
open Go.RowKit
set_option linter.unusedVariables false

/-- Words, a space behind each. -/
def catB (ws : List ByteArray) : ByteArray := ⟨(ws.flatMap (fun s => s.data.toList ++ [32])).toArray⟩
theorem ba_app (a b : List UInt8) : (⟨(a ++ b).toArray⟩ : ByteArray) = ⟨a.toArray⟩ ++ ⟨b.toArray⟩ := by
  apply ByteArray.ext
  simp
theorem catB_app (a b : List ByteArray) : catB (a ++ b) = catB a ++ catB b := by
  unfold catB
  rw [List.flatMap_append, ba_app]
theorem catB_one (s : ByteArray) : catB [s] = s ++ ⟨#[32]⟩ := by
  unfold catB
  rw [List.flatMap_cons, List.flatMap_nil, List.append_nil, ba_app]
theorem catB_nil : catB [] = ⟨#[]⟩ := rfl
def bdW (ws : List ByteArray) : Prop := ∀ s ∈ ws, s.size ≤ 300
theorem bdW.app {a b : List ByteArray} (ha : bdW a) (hb : bdW b) : bdW (a ++ b) := fun s hs => (List.mem_append.1 hs).elim (ha s) (hb s)
theorem bdW.left {a b : List ByteArray} (h : bdW (a ++ b)) : bdW a := fun s hs => h s (List.mem_append.2 (.inl hs))
theorem bdW.right {a b : List ByteArray} (h : bdW (a ++ b)) : bdW b := fun s hs => h s (List.mem_append.2 (.inr hs))
theorem bdW.flat {α : Type} {f : α → List ByteArray} {xs : List α} (h : ∀ x ∈ xs, bdW (f x)) : bdW (xs.flatMap f) := fun s hs => by
  obtain ⟨x, hx, hs⟩ := List.mem_flatMap.1 hs
  exact h x hx s hs
theorem catB_size : ∀ (ws : List ByteArray), bdW ws → (catB ws).size ≤ 301 * ws.length
  | [], _ => Nat.zero_le _
  | s :: ws, h => by
    have h1 := catB_size ws (fun x hx => h x (by simp [hx]))
    have h2 := h s (by simp)
    rw [show s :: ws = [s] ++ ws from rfl, catB_app, catB_one, ByteArray.size_append, ByteArray.size_append, List.length_append]
    have : (⟨#[32]⟩ : ByteArray).size = 1 := rfl
    simp only [List.length_singleton]
    omega
theorem sgK_size (k : Int) : (sgK k).size ≤ 4 := by
  unfold sgK
  rcases Nat.lt_or_ge k.toNat 10 with h | h
  · have : ∀ i < 10, (sgA.getD i ⟨#[]⟩).size ≤ 4 := by decide
    exact this _ h
  · rw [List.getD_eq_getElem?_getD, List.getElem?_eq_none (by exact h)]
    exact Nat.zero_le _
theorem bd_net (tx : Int → List ArgT → ByteArray) (ht : ∀ op xs, (tx op xs).size ≤ 300) : ∀ (m : Nat) (t : NetT), bdW (wNet tx m t)
  | 0, _ => fun s hs => by simp [wNet] at hs
  | m + 1, .mk k e kids => by
    have hk := bdW.flat (f := wNet tx m) (xs := kids) (fun x _ => bd_net tx ht m x)
    intro s hs
    rw [show wNet tx (m + 1) (.mk k e kids) = if k = 1 then [tx e.op e.args] else sgK k :: (kids.flatMap (wNet tx m) ++ [sgK 9]) from rfl] at hs
    split at hs
    · simp at hs; rw [hs]; exact ht _ _
    · rcases List.mem_cons.1 hs with rfl | hs
      · have := sgK_size k; omega
      · rcases List.mem_append.1 hs with hs | hs
        · exact hk s hs
        · simp at hs; rw [hs]; have := sgK_size 9; omega
theorem bd_kidsP {α : Type} (f : α → List ByteArray) (xs : List α) (h : ∀ x ∈ xs, bdW (f x)) : bdW (kidsP (xs.map f)) := by
  cases xs with
  | nil => intro s hs; simp [kidsP] at hs
  | cons x xs =>
    intro s hs
    simp only [List.map_cons, kidsP] at hs
    rcases List.mem_cons.1 hs with rfl | hs
    · have := sgK_size 6; omega
    · rcases List.mem_append.1 hs with hs | hs
      · exact h x (by simp) s hs
      · obtain ⟨y, hy, hs⟩ := List.mem_flatMap.1 hs
        obtain ⟨z, hz, rfl⟩ := List.mem_map.1 hy
        rcases List.mem_cons.1 hs with rfl | hs
        · have := sgK_size 7; omega
        · exact h z (by simp [hz]) s hs
theorem bd_arm (tx : Int → List ArgT → ByteArray) (ht : ∀ op xs, (tx op xs).size ≤ 300) : ∀ (m : Nat) (t : ArmT), bdW (wArm tx m t)
  | 0, _ => fun s hs => by simp [wArm] at hs
  | m + 1, .mk net coils kids => by
    have hk := bd_kidsP (wArm tx m) kids (fun x _ => bd_arm tx ht m x)
    intro s hs
    rw [show wArm tx (m + 1) (.mk net coils kids) = (if noneT net then [] else wNet tx m net) ++ sgK 5 :: (coils.map (fun e => tx e.op e.args) ++ kidsW (kids.map (wArm tx m))) from rfl] at hs
    rcases List.mem_append.1 hs with hs | hs
    · split at hs
      · simp at hs
      · exact bd_net tx ht m net s hs
    · rcases List.mem_cons.1 hs with rfl | hs
      · have := sgK_size 5; omega
      · rcases List.mem_append.1 hs with hs | hs
        · obtain ⟨e, _, rfl⟩ := List.mem_map.1 hs; exact ht _ _
        · by_cases h0 : (kids.map (wArm tx m)).length = 0
          · rw [List.eq_nil_of_length_eq_zero h0] at hs; simp [kidsW] at hs
          · rw [kidsW_P _ h0] at hs
            rcases List.mem_append.1 hs with hs | hs
            · exact hk s hs
            · simp at hs; rw [hs]; have := sgK_size 8; omega


set_option maxRecDepth 10000 in
set_option maxHeartbeats 4000000 in
theorem s8_net2 (tx : Int → List ArgT → ByteArray) (ht : ∀ op xs, (tx op xs).size ≤ 300) (m : Nat) (op : Int) (a1 : Option Addr) (l1 c1 : Nat) (v : Value) (kids : List NetT) (w : World) (lo : Nat) (hv : RowIs w lo 4 (NetIs w lo m) v kids) (hL : (kids.flatMap (wNet tx m)).length ≤ 1000000)
    (HC : Hid (∀ x cs, x ∈ kids → ∀ (W : World), Below w.heap.size w W → (NetIs W lo m) x cs → Calls Tryz.prog 73 #[.agg cs.toArray] W fun r w' => r = .returned (.string (catB (wNet tx m x))) ∧ Below W.heap.size W w'))
    (HM : Hid (∀ x cs (W : World), Below w.heap.size w W → (NetIs w lo m) x cs → (NetIs W lo m) x cs)) :
    Calls Tryz.prog 73 #[.agg #[.int .i64 2, .int .i64 op, .slice a1 l1 c1, v]] w fun r w' => r = .returned (.string (catB (sgK 2 :: (kids.flatMap (wNet tx m) ++ [sgK 9])))) ∧ Below w.heap.size w w' := by
  obtain ⟨a, cap, rfl, hl, hx⟩ := hv
  have HX : Hid (∀ j x, kids[j]? = some x → ∃ b o cs, a = some ⟨b, o, none⟩ ∧ lo ≤ b ∧ cs.length = 4 ∧ w.rangeAt b (o + j * 4) cs ∧ (NetIs w lo m) x cs) := hx
  obtain ⟨len, HL⟩ : ∃ len, Hid (len = kids.length) := ⟨_, rfl⟩
  rw [← HL.out] at hl ⊢
  clear hx
  have HBD : Hid (∀ n, (catB (sgK 2 :: (kids.take n).flatMap (wNet tx m))).size ≤ 301 * 1000001) := fun n => by
    have h1 := catB_size (sgK 2 :: (kids.take n).flatMap (wNet tx m)) (by
      intro s hs
      rcases List.mem_cons.1 hs with rfl | hs
      · have := sgK_size 2; omega
      · exact bdW.flat (f := wNet tx m) (fun x _ => bd_net tx ht m x) s hs)
    have h2 := flat_take_le (wNet tx m) kids n
    rw [List.length_cons] at h1
    omega
  have HBX : Hid (∀ x ∈ kids, (catB (wNet tx m x)).size ≤ 301 * 1000000) := fun x hx => by
    have h1 := catB_size _ (bd_net tx ht m x)
    have h2 : (wNet tx m x).length ≤ (kids.flatMap (wNet tx m)).length := by
      obtain ⟨j, hj, rfl⟩ := List.mem_iff_getElem.1 hx
      rw [flat_at (wNet tx m) kids j kids[j] (List.getElem?_eq_getElem hj)]
      simp only [List.length_append]; omega
    omega
  obtain ⟨RES, HRES⟩ : ∃ r, Hid (r = catB (sgK 2 :: (kids.flatMap (wNet tx m) ++ [sgK 9]))) := ⟨_, rfl⟩
  rw [← HRES.out]
  have b0 : Below w.heap.size w (w.alloc (.cells #[.int .i64 2, .int .i64 op, .slice a1 l1 c1, .slice a len cap] 57)) := (Below.refl _ _).alloc (Nat.le_refl _) _
  have K0 : Hid ((w.alloc (.cells #[.int .i64 2, .int .i64 op, .slice a1 l1 c1, .slice a len cap] 57)).heap[w.heap.size]? = some (.cells #[.int .i64 2, .int .i64 op, .slice a1 l1 c1, .slice a len cap] 57 (0, 0))) := heap_alloc_last w _
  clear hL
  go_enter Tryz.func73, Tryz.ntmps73
  go_wp2
  go_loopg [3, 4] len (fun g s i wr => ∃ (n : Nat) (T : ByteArray), n + g = len ∧ i = .int .i64 n ∧ s = .string T ∧ Hid (T = catB (sgK 2 :: (kids.take n).flatMap (wNet tx m))) ∧ Below w.heap.size w wr ∧ wr.heap[w.heap.size]? = some (.cells #[.int .i64 2, .int .i64 op, .slice a1 l1 c1, .slice a len cap] 57 (0, 0)))
  case atStart => exact ⟨0, _, by omega, rfl, rfl, rfl, b0, K0.out⟩
  case round =>
    obtain ⟨n, T, hn, rfl, rfl, HT, hb, hk0⟩ := hrel
    have c0 : wr.cell? ⟨w.heap.size, 3, none⟩ = some (.slice a len cap) := (cell_of_row _ _ _ _ _ _ hk0).trans rfl
    have hTs : T.size ≤ 301 * 1000001 := by rw [HT.out]; exact HBD.out n
    by_cases hlt : n < len
    · have i2 : (n : Int) < (len : Int) := by omega
      have i3 : (0 : Int) ≤ (n : Int) := by omega
      obtain ⟨x, hxn⟩ : ∃ x, kids[n]? = some x := ⟨_, List.getElem?_eq_getElem (by have := HL.out; omega)⟩
      obtain ⟨b, o, cs, rfl, hlo, hcs, hrg, hR⟩ := HX.out n x hxn
      have HB : Hid (Below w.heap.size w wr) := hb
      have HLd : Hid ((loadVar 57 ⟨b, o + n * 4, none⟩).run Tryz.prog wr = .ok (.agg cs.toArray) wr) := run_loadVar_mid wr b (o + n * 4) 57 cs _ (fun i c hi => (Keeps.of_below hb 0) _ _ _ (Nat.zero_le _) (hrg i c hi)) Tryz.underlying57 rfl (by rw [hcs]; kernel_rfl)
      have HCx : Hid (Calls Tryz.prog 73 #[.agg cs.toArray] wr fun r w' => r = .returned (.string (catB (wNet tx m x))) ∧ Below wr.heap.size wr w') := HC.out x cs (List.mem_of_getElem? hxn) wr hb (HM.out x cs wr hb hR)
      obtain ⟨U, HU⟩ : ∃ U, Hid (U = catB (wNet tx m x)) := ⟨_, rfl⟩
      rw [← HU.out] at HCx
      have hUs : U.size ≤ 301 * 1000000 := by rw [HU.out]; exact HBX.out x (List.mem_of_getElem? hxn)
      have hz : ¬ 9223372036854775807 < T.size + U.size := by omega
      have HT2 : Hid (T ++ U = catB (sgK 2 :: (kids.take (n + 1)).flatMap (wNet tx m))) := (by
        rw [List.take_add_one, hxn, HT.out, HU.out]
        simp only [Option.toList_some, List.flatMap_append, List.flatMap_cons, List.flatMap_nil, List.append_nil]
        rw [← List.cons_append, catB_app] : T ++ U = catB (sgK 2 :: (kids.take (n + 1)).flatMap (wNet tx m)))
      have HK : Hid (wr.heap[w.heap.size]? = some (.cells #[.int .i64 2, .int .i64 op, .slice a1 l1 c1, .slice (some ⟨b, o, none⟩) len cap] 57 (0, 0))) := hk0
      clear hb hrg hcs hR hlo hk0 hxn hTs hUs
      go_wp2_with (first | (refine wpL_load rfl 57 _ rfl _ _ rfl _ HLd.out ?_) | fail)
      refine HCx.out.mono ?_
      rintro r w1 ⟨rfl, g1⟩
      have b1 : Below w.heap.size w w1 := HB.out.trans (g1.mono HB.out.size)
      have k1 : Hid (w1.heap[w.heap.size]? = some (.cells #[.int .i64 2, .int .i64 op, .slice a1 l1 c1, .slice (some ⟨b, o, none⟩) len cap] 57 (0, 0))) := (g1.block _ (Array.getElem?_eq_some_iff.1 HK.out).1).trans HK.out
      clear g1 HCx HLd c0
      go_wp2
      go_roundg (gk - 1)
      case measure => omega
      case rel => exact ⟨n + 1, _, by omega, by simp, rfl, HT2, b1, k1.out⟩
    · have i2 : ¬ ((n : Int) < (len : Int)) := by omega
      have htk : kids.take n = kids := List.take_of_length_le (by have := HL.out; omega)
      have hz : ¬ 9223372036854775807 < T.size + 2 := by omega
      have HTE : Hid (T ++ ⟨#[41, 32]⟩ = RES) := (by
        rw [HRES.out, HT.out, htk, ← List.cons_append, catB_app]; rfl : T ++ ⟨#[41, 32]⟩ = RES)
      clear hTs htk
      go_wp2
      go_ret
      exact ⟨by rw [← HTE.out] <;> rfl, hb⟩

set_option maxRecDepth 10000 in
set_option maxHeartbeats 4000000 in
theorem s8_net3 (tx : Int → List ArgT → ByteArray) (ht : ∀ op xs, (tx op xs).size ≤ 300) (m : Nat) (op : Int) (a1 : Option Addr) (l1 c1 : Nat) (v : Value) (kids : List NetT) (w : World) (lo : Nat) (hv : RowIs w lo 4 (NetIs w lo m) v kids) (hL : (kids.flatMap (wNet tx m)).length ≤ 1000000)
    (HC : Hid (∀ x cs, x ∈ kids → ∀ (W : World), Below w.heap.size w W → (NetIs W lo m) x cs → Calls Tryz.prog 73 #[.agg cs.toArray] W fun r w' => r = .returned (.string (catB (wNet tx m x))) ∧ Below W.heap.size W w'))
    (HM : Hid (∀ x cs (W : World), Below w.heap.size w W → (NetIs w lo m) x cs → (NetIs W lo m) x cs)) :
    Calls Tryz.prog 73 #[.agg #[.int .i64 3, .int .i64 op, .slice a1 l1 c1, v]] w fun r w' => r = .returned (.string (catB (sgK 3 :: (kids.flatMap (wNet tx m) ++ [sgK 9])))) ∧ Below w.heap.size w w' := by
  obtain ⟨a, cap, rfl, hl, hx⟩ := hv
  have HX : Hid (∀ j x, kids[j]? = some x → ∃ b o cs, a = some ⟨b, o, none⟩ ∧ lo ≤ b ∧ cs.length = 4 ∧ w.rangeAt b (o + j * 4) cs ∧ (NetIs w lo m) x cs) := hx
  obtain ⟨len, HL⟩ : ∃ len, Hid (len = kids.length) := ⟨_, rfl⟩
  rw [← HL.out] at hl ⊢
  clear hx
  have HBD : Hid (∀ n, (catB (sgK 3 :: (kids.take n).flatMap (wNet tx m))).size ≤ 301 * 1000001) := fun n => by
    have h1 := catB_size (sgK 3 :: (kids.take n).flatMap (wNet tx m)) (by
      intro s hs
      rcases List.mem_cons.1 hs with rfl | hs
      · have := sgK_size 3; omega
      · exact bdW.flat (f := wNet tx m) (fun x _ => bd_net tx ht m x) s hs)
    have h2 := flat_take_le (wNet tx m) kids n
    rw [List.length_cons] at h1
    omega
  have HBX : Hid (∀ x ∈ kids, (catB (wNet tx m x)).size ≤ 301 * 1000000) := fun x hx => by
    have h1 := catB_size _ (bd_net tx ht m x)
    have h2 : (wNet tx m x).length ≤ (kids.flatMap (wNet tx m)).length := by
      obtain ⟨j, hj, rfl⟩ := List.mem_iff_getElem.1 hx
      rw [flat_at (wNet tx m) kids j kids[j] (List.getElem?_eq_getElem hj)]
      simp only [List.length_append]; omega
    omega
  obtain ⟨RES, HRES⟩ : ∃ r, Hid (r = catB (sgK 3 :: (kids.flatMap (wNet tx m) ++ [sgK 9]))) := ⟨_, rfl⟩
  rw [← HRES.out]
  have b0 : Below w.heap.size w (w.alloc (.cells #[.int .i64 3, .int .i64 op, .slice a1 l1 c1, .slice a len cap] 57)) := (Below.refl _ _).alloc (Nat.le_refl _) _
  have K0 : Hid ((w.alloc (.cells #[.int .i64 3, .int .i64 op, .slice a1 l1 c1, .slice a len cap] 57)).heap[w.heap.size]? = some (.cells #[.int .i64 3, .int .i64 op, .slice a1 l1 c1, .slice a len cap] 57 (0, 0))) := heap_alloc_last w _
  clear hL
  go_enter Tryz.func73, Tryz.ntmps73
  go_wp2
  go_loopg [3, 4] len (fun g s i wr => ∃ (n : Nat) (T : ByteArray), n + g = len ∧ i = .int .i64 n ∧ s = .string T ∧ Hid (T = catB (sgK 3 :: (kids.take n).flatMap (wNet tx m))) ∧ Below w.heap.size w wr ∧ wr.heap[w.heap.size]? = some (.cells #[.int .i64 3, .int .i64 op, .slice a1 l1 c1, .slice a len cap] 57 (0, 0)))
  case atStart => exact ⟨0, _, by omega, rfl, rfl, rfl, b0, K0.out⟩
  case round =>
    obtain ⟨n, T, hn, rfl, rfl, HT, hb, hk0⟩ := hrel
    have c0 : wr.cell? ⟨w.heap.size, 3, none⟩ = some (.slice a len cap) := (cell_of_row _ _ _ _ _ _ hk0).trans rfl
    have hTs : T.size ≤ 301 * 1000001 := by rw [HT.out]; exact HBD.out n
    by_cases hlt : n < len
    · have i2 : (n : Int) < (len : Int) := by omega
      have i3 : (0 : Int) ≤ (n : Int) := by omega
      obtain ⟨x, hxn⟩ : ∃ x, kids[n]? = some x := ⟨_, List.getElem?_eq_getElem (by have := HL.out; omega)⟩
      obtain ⟨b, o, cs, rfl, hlo, hcs, hrg, hR⟩ := HX.out n x hxn
      have HB : Hid (Below w.heap.size w wr) := hb
      have HLd : Hid ((loadVar 57 ⟨b, o + n * 4, none⟩).run Tryz.prog wr = .ok (.agg cs.toArray) wr) := run_loadVar_mid wr b (o + n * 4) 57 cs _ (fun i c hi => (Keeps.of_below hb 0) _ _ _ (Nat.zero_le _) (hrg i c hi)) Tryz.underlying57 rfl (by rw [hcs]; kernel_rfl)
      have HCx : Hid (Calls Tryz.prog 73 #[.agg cs.toArray] wr fun r w' => r = .returned (.string (catB (wNet tx m x))) ∧ Below wr.heap.size wr w') := HC.out x cs (List.mem_of_getElem? hxn) wr hb (HM.out x cs wr hb hR)
      obtain ⟨U, HU⟩ : ∃ U, Hid (U = catB (wNet tx m x)) := ⟨_, rfl⟩
      rw [← HU.out] at HCx
      have hUs : U.size ≤ 301 * 1000000 := by rw [HU.out]; exact HBX.out x (List.mem_of_getElem? hxn)
      have hz : ¬ 9223372036854775807 < T.size + U.size := by omega
      have HT2 : Hid (T ++ U = catB (sgK 3 :: (kids.take (n + 1)).flatMap (wNet tx m))) := (by
        rw [List.take_add_one, hxn, HT.out, HU.out]
        simp only [Option.toList_some, List.flatMap_append, List.flatMap_cons, List.flatMap_nil, List.append_nil]
        rw [← List.cons_append, catB_app] : T ++ U = catB (sgK 3 :: (kids.take (n + 1)).flatMap (wNet tx m)))
      have HK : Hid (wr.heap[w.heap.size]? = some (.cells #[.int .i64 3, .int .i64 op, .slice a1 l1 c1, .slice (some ⟨b, o, none⟩) len cap] 57 (0, 0))) := hk0
      clear hb hrg hcs hR hlo hk0 hxn hTs hUs
      go_wp2_with (first | (refine wpL_load rfl 57 _ rfl _ _ rfl _ HLd.out ?_) | fail)
      refine HCx.out.mono ?_
      rintro r w1 ⟨rfl, g1⟩
      have b1 : Below w.heap.size w w1 := HB.out.trans (g1.mono HB.out.size)
      have k1 : Hid (w1.heap[w.heap.size]? = some (.cells #[.int .i64 3, .int .i64 op, .slice a1 l1 c1, .slice (some ⟨b, o, none⟩) len cap] 57 (0, 0))) := (g1.block _ (Array.getElem?_eq_some_iff.1 HK.out).1).trans HK.out
      clear g1 HCx HLd c0
      go_wp2
      go_roundg (gk - 1)
      case measure => omega
      case rel => exact ⟨n + 1, _, by omega, by simp, rfl, HT2, b1, k1.out⟩
    · have i2 : ¬ ((n : Int) < (len : Int)) := by omega
      have htk : kids.take n = kids := List.take_of_length_le (by have := HL.out; omega)
      have hz : ¬ 9223372036854775807 < T.size + 2 := by omega
      have HTE : Hid (T ++ ⟨#[41, 32]⟩ = RES) := (by
        rw [HRES.out, HT.out, htk, ← List.cons_append, catB_app]; rfl : T ++ ⟨#[41, 32]⟩ = RES)
      clear hTs htk
      go_wp2
      go_ret
      exact ⟨by rw [← HTE.out] <;> rfl, hb⟩

set_option maxRecDepth 10000 in
set_option maxHeartbeats 4000000 in
theorem s8_net4 (tx : Int → List ArgT → ByteArray) (ht : ∀ op xs, (tx op xs).size ≤ 300) (m : Nat) (op : Int) (a1 : Option Addr) (l1 c1 : Nat) (v : Value) (kids : List NetT) (w : World) (lo : Nat) (hv : RowIs w lo 4 (NetIs w lo m) v kids) (hL : (kids.flatMap (wNet tx m)).length ≤ 1000000)
    (HC : Hid (∀ x cs, x ∈ kids → ∀ (W : World), Below w.heap.size w W → (NetIs W lo m) x cs → Calls Tryz.prog 73 #[.agg cs.toArray] W fun r w' => r = .returned (.string (catB (wNet tx m x))) ∧ Below W.heap.size W w'))
    (HM : Hid (∀ x cs (W : World), Below w.heap.size w W → (NetIs w lo m) x cs → (NetIs W lo m) x cs)) :
    Calls Tryz.prog 73 #[.agg #[.int .i64 4, .int .i64 op, .slice a1 l1 c1, v]] w fun r w' => r = .returned (.string (catB (sgK 4 :: (kids.flatMap (wNet tx m) ++ [sgK 9])))) ∧ Below w.heap.size w w' := by
  obtain ⟨a, cap, rfl, hl, hx⟩ := hv
  have HX : Hid (∀ j x, kids[j]? = some x → ∃ b o cs, a = some ⟨b, o, none⟩ ∧ lo ≤ b ∧ cs.length = 4 ∧ w.rangeAt b (o + j * 4) cs ∧ (NetIs w lo m) x cs) := hx
  obtain ⟨len, HL⟩ : ∃ len, Hid (len = kids.length) := ⟨_, rfl⟩
  rw [← HL.out] at hl ⊢
  clear hx
  have HBD : Hid (∀ n, (catB (sgK 4 :: (kids.take n).flatMap (wNet tx m))).size ≤ 301 * 1000001) := fun n => by
    have h1 := catB_size (sgK 4 :: (kids.take n).flatMap (wNet tx m)) (by
      intro s hs
      rcases List.mem_cons.1 hs with rfl | hs
      · have := sgK_size 4; omega
      · exact bdW.flat (f := wNet tx m) (fun x _ => bd_net tx ht m x) s hs)
    have h2 := flat_take_le (wNet tx m) kids n
    rw [List.length_cons] at h1
    omega
  have HBX : Hid (∀ x ∈ kids, (catB (wNet tx m x)).size ≤ 301 * 1000000) := fun x hx => by
    have h1 := catB_size _ (bd_net tx ht m x)
    have h2 : (wNet tx m x).length ≤ (kids.flatMap (wNet tx m)).length := by
      obtain ⟨j, hj, rfl⟩ := List.mem_iff_getElem.1 hx
      rw [flat_at (wNet tx m) kids j kids[j] (List.getElem?_eq_getElem hj)]
      simp only [List.length_append]; omega
    omega
  obtain ⟨RES, HRES⟩ : ∃ r, Hid (r = catB (sgK 4 :: (kids.flatMap (wNet tx m) ++ [sgK 9]))) := ⟨_, rfl⟩
  rw [← HRES.out]
  have b0 : Below w.heap.size w (w.alloc (.cells #[.int .i64 4, .int .i64 op, .slice a1 l1 c1, .slice a len cap] 57)) := (Below.refl _ _).alloc (Nat.le_refl _) _
  have K0 : Hid ((w.alloc (.cells #[.int .i64 4, .int .i64 op, .slice a1 l1 c1, .slice a len cap] 57)).heap[w.heap.size]? = some (.cells #[.int .i64 4, .int .i64 op, .slice a1 l1 c1, .slice a len cap] 57 (0, 0))) := heap_alloc_last w _
  clear hL
  go_enter Tryz.func73, Tryz.ntmps73
  go_wp2
  go_loopg [3, 4] len (fun g s i wr => ∃ (n : Nat) (T : ByteArray), n + g = len ∧ i = .int .i64 n ∧ s = .string T ∧ Hid (T = catB (sgK 4 :: (kids.take n).flatMap (wNet tx m))) ∧ Below w.heap.size w wr ∧ wr.heap[w.heap.size]? = some (.cells #[.int .i64 4, .int .i64 op, .slice a1 l1 c1, .slice a len cap] 57 (0, 0)))
  case atStart => exact ⟨0, _, by omega, rfl, rfl, rfl, b0, K0.out⟩
  case round =>
    obtain ⟨n, T, hn, rfl, rfl, HT, hb, hk0⟩ := hrel
    have c0 : wr.cell? ⟨w.heap.size, 3, none⟩ = some (.slice a len cap) := (cell_of_row _ _ _ _ _ _ hk0).trans rfl
    have hTs : T.size ≤ 301 * 1000001 := by rw [HT.out]; exact HBD.out n
    by_cases hlt : n < len
    · have i2 : (n : Int) < (len : Int) := by omega
      have i3 : (0 : Int) ≤ (n : Int) := by omega
      obtain ⟨x, hxn⟩ : ∃ x, kids[n]? = some x := ⟨_, List.getElem?_eq_getElem (by have := HL.out; omega)⟩
      obtain ⟨b, o, cs, rfl, hlo, hcs, hrg, hR⟩ := HX.out n x hxn
      have HB : Hid (Below w.heap.size w wr) := hb
      have HLd : Hid ((loadVar 57 ⟨b, o + n * 4, none⟩).run Tryz.prog wr = .ok (.agg cs.toArray) wr) := run_loadVar_mid wr b (o + n * 4) 57 cs _ (fun i c hi => (Keeps.of_below hb 0) _ _ _ (Nat.zero_le _) (hrg i c hi)) Tryz.underlying57 rfl (by rw [hcs]; kernel_rfl)
      have HCx : Hid (Calls Tryz.prog 73 #[.agg cs.toArray] wr fun r w' => r = .returned (.string (catB (wNet tx m x))) ∧ Below wr.heap.size wr w') := HC.out x cs (List.mem_of_getElem? hxn) wr hb (HM.out x cs wr hb hR)
      obtain ⟨U, HU⟩ : ∃ U, Hid (U = catB (wNet tx m x)) := ⟨_, rfl⟩
      rw [← HU.out] at HCx
      have hUs : U.size ≤ 301 * 1000000 := by rw [HU.out]; exact HBX.out x (List.mem_of_getElem? hxn)
      have hz : ¬ 9223372036854775807 < T.size + U.size := by omega
      have HT2 : Hid (T ++ U = catB (sgK 4 :: (kids.take (n + 1)).flatMap (wNet tx m))) := (by
        rw [List.take_add_one, hxn, HT.out, HU.out]
        simp only [Option.toList_some, List.flatMap_append, List.flatMap_cons, List.flatMap_nil, List.append_nil]
        rw [← List.cons_append, catB_app] : T ++ U = catB (sgK 4 :: (kids.take (n + 1)).flatMap (wNet tx m)))
      have HK : Hid (wr.heap[w.heap.size]? = some (.cells #[.int .i64 4, .int .i64 op, .slice a1 l1 c1, .slice (some ⟨b, o, none⟩) len cap] 57 (0, 0))) := hk0
      clear hb hrg hcs hR hlo hk0 hxn hTs hUs
      go_wp2_with (first | (refine wpL_load rfl 57 _ rfl _ _ rfl _ HLd.out ?_) | fail)
      refine HCx.out.mono ?_
      rintro r w1 ⟨rfl, g1⟩
      have b1 : Below w.heap.size w w1 := HB.out.trans (g1.mono HB.out.size)
      have k1 : Hid (w1.heap[w.heap.size]? = some (.cells #[.int .i64 4, .int .i64 op, .slice a1 l1 c1, .slice (some ⟨b, o, none⟩) len cap] 57 (0, 0))) := (g1.block _ (Array.getElem?_eq_some_iff.1 HK.out).1).trans HK.out
      clear g1 HCx HLd c0
      go_wp2
      go_roundg (gk - 1)
      case measure => omega
      case rel => exact ⟨n + 1, _, by omega, by simp, rfl, HT2, b1, k1.out⟩
    · have i2 : ¬ ((n : Int) < (len : Int)) := by omega
      have htk : kids.take n = kids := List.take_of_length_le (by have := HL.out; omega)
      have hz : ¬ 9223372036854775807 < T.size + 2 := by omega
      have HTE : Hid (T ++ ⟨#[41, 32]⟩ = RES) := (by
        rw [HRES.out, HT.out, htk, ← List.cons_append, catB_app]; rfl : T ++ ⟨#[41, 32]⟩ = RES)
      clear hTs htk
      go_wp2
      go_ret
      exact ⟨by rw [← HTE.out] <;> rfl, hb⟩

set_option maxHeartbeats 2000000 in
theorem s8_one (op : Int) (s : ByteArray) (hs : s.size ≤ 300) (a1 : Option Addr) (l1 c1 : Nat) (a2 : Option Addr) (l2 c2 : Nat) (w : World)
    (HT : Hid (∀ W, Below w.heap.size w W → Calls Tryz.prog 74 #[.agg #[.int .i64 op, .slice a1 l1 c1]] W fun e w' => e = .returned (.string s) ∧ Below W.heap.size W w')) :
    Calls Tryz.prog 73 #[.agg #[.int .i64 1, .int .i64 op, .slice a1 l1 c1, .slice a2 l2 c2]] w fun r w' => r = .returned (.string (catB [s])) ∧ Below w.heap.size w w' := by
  have b0 : Below w.heap.size w (w.alloc (.cells #[.int .i64 1, .int .i64 op, .slice a1 l1 c1, .slice a2 l2 c2] 57)) := (Below.refl _ _).alloc (Nat.le_refl _) _
  have hz : ¬ 9223372036854775807 < s.size + 1 := by omega
  rw [catB_one]
  clear hs
  go_enter Tryz.func73, Tryz.ntmps73
  go_wp2_with fail
  refine (HT.out _ b0).mono ?_
  rintro e w1 ⟨rfl, g1⟩
  have b1 := b0.trans (g1.mono b0.size)
  clear g1 b0
  go_wp2
  go_ret
  exact ⟨rfl, b1⟩

theorem s8_net (ct cl : Int → List ArgT → Bool) (tx : Int → List ArgT → ByteArray) (ht : ∀ op xs, (tx op xs).size ≤ 300) : ∀ (m : Nat) (t : NetT) (cs : List Value) (w : World) (lo : Nat) (hv : NetIs w lo m t cs) (hz : firstC ct cl (pNet m t) = 0) (hL : (wNet tx m t).length ≤ 1000000)
    (HT : ∀ W, Below w.heap.size w W → ∀ op v xs, ArgsIs W lo v xs → Calls Tryz.prog 74 #[.agg #[.int .i64 op, v]] W fun e w' => e = .returned (.string (tx op xs)) ∧ Below W.heap.size W w'),
    Calls Tryz.prog 73 #[.agg cs.toArray] w fun r w' => r = .returned (.string (catB (wNet tx m t))) ∧ Below w.heap.size w w'
  | 0, _, _, _, _, h, _, _, _ => h.elim
  | m + 1, .mk k e kids, cs, w, lo, hv, hz, hL, HT => by
    obtain ⟨v1, v2, rfl, ha, hk⟩ := hv
    obtain ⟨a1, c1, rfl, hl1, _⟩ := id ha
    rw [firstC_net] at hz
    have hc : cNv k e.op e.args.length kids.length (ct e.op e.args) = 0 := by
      by_cases h0 : cNv k e.op e.args.length kids.length (ct e.op e.args) = 0
      · exact h0
      · rw [if_neg h0] at hz; exact absurd hz h0
    rw [if_pos hc] at hz
    by_cases k1 : k = 1
    · subst k1
      obtain ⟨a2, c2, rfl, hl2, _⟩ := id hk
      exact s8_one e.op _ (ht _ _) a1 _ c1 a2 _ c2 w (fun W g => HT W g e.op _ e.args (argsIs_move (Keeps.of_below g lo) (Nat.le_refl _) ha))
    · have hk4 : 2 ≤ k ∧ k ≤ 4 := by
        unfold cNv at hc
        rw [if_neg k1] at hc
        by_cases hh : 2 ≤ k ∧ k ≤ 4 ∧ e.op = 0 ∧ e.args.length = 0 ∧ 0 < kids.length ∧ (k = 4 → kids.length = 1)
        · exact ⟨hh.1, hh.2.1⟩
        · rw [if_neg hh] at hc; omega
      have ew : wNet tx (m + 1) (.mk k e kids) = sgK k :: (kids.flatMap (wNet tx m) ++ [sgK 9]) := by
        show (if k = 1 then _ else _) = _
        rw [if_neg k1]
      rw [ew] at hL ⊢
      have hzk : ∀ x ∈ kids, firstC ct cl (pNet m x) = 0 := firstC_all hz
      have hL2 : (kids.flatMap (wNet tx m)).length ≤ 1000000 := by simp only [List.length_cons, List.length_append] at hL; omega
      have HK : Hid (∀ x cs, x ∈ kids → ∀ (W : World), Below w.heap.size w W → (NetIs W lo m) x cs → Calls Tryz.prog 73 #[.agg cs.toArray] W fun r w' => r = .returned (.string (catB (wNet tx m x))) ∧ Below W.heap.size W w') :=
        fun x cs hx W g h => s8_net ct cl tx ht m x cs W lo h (hzk x hx) (by
          obtain ⟨j, hj, rfl⟩ := List.mem_iff_getElem.1 hx
          rw [flat_at (wNet tx m) kids j kids[j] (List.getElem?_eq_getElem hj)] at hL2
          simp only [List.length_append] at hL2; omega) (fun W' g' => HT W' (g.trans (g'.mono g.size)))
      have HM : Hid (∀ x cs (W : World), Below w.heap.size w W → (NetIs w lo m) x cs → (NetIs W lo m) x cs) := fun x cs W g h => NetIs.move (Keeps.of_below g lo) (Nat.le_refl _) _ _ (Nat.le_refl _) _ _ h
      rcases (by omega : k = 2 ∨ k = 3 ∨ k = 4) with rfl | rfl | rfl
      · exact s8_net2 tx ht m e.op a1 _ c1 v2 kids w lo hk hL2 HK HM
      · exact s8_net3 tx ht m e.op a1 _ c1 v2 kids w lo hk hL2 HK HM
      · exact s8_net4 tx ht m e.op a1 _ c1 v2 kids w lo hk hL2 HK HM
end Go.Proofs.YtgopfaegdlefpaaGreatDoor
