/- MemText of the program whole; the law FnExactMemText. -/
import Derived.Test.YteekbhhlgicpeaaDoorVc6
namespace Go.Proofs.YteekbhhlgicpeaaDoor
open Go.RowKit Go.Shelf
open Go.Lib (decDigits itoa)
set_option linter.unusedVariables false

theorem strs_cells {W : World} {base g cap : Nat} {L : List ByteArray} (h : Words W base g cap L) (j : Nat) (x : ByteArray) (hx : L[j]? = some x) : W.cell? ⟨g, 0 + j, none⟩ = some (.string x) := by
  have hj : j < L.length := (List.getElem?_eq_some_iff.1 hx).1
  rw [Nat.zero_add, World.ownsRow.cellAt h j (by omega), strs, List.getElem?_map, hx]
  rfl
theorem Words.lt {W : World} {base g cap : Nat} {L : List ByteArray} (h : Words W base g cap L) : g < W.heap.size := (World.ownsRow.lt h g rfl).2

theorem text_i {rt : Nat → List UInt8} (hrt : RtOk rt) (c : Array Value) (hc : MemOk c) (w : World) (hT : Tabs w) :
    Calls Tryd.prog 7 #[.agg c] w fun e w' => e = .returned (.string (memT rt c)) ∧ Below w.heap.size w w' := by
  obtain ⟨m, hm, hm0, hm1⟩ := hc.u32 (i := 133) (by omega) rfl
  obtain ⟨ran, hran⟩ := hc.bool (i := 134) (by omega) rfl
  obtain ⟨fault, hfault⟩ := hc.bool (i := 135) (by omega) rfl
  obtain ⟨tm, rfl⟩ := Int.eq_ofNat_of_zero_le hm0
  have e1 : word c 133 = (tm : Int) := word_of hm
  have e2 : flag c 134 = ran := flag_of hran
  have e3 : flag c 135 = fault := flag_of hfault
  have hv : ∀ k n : Nat, 1 ≤ k → k ≤ 10 → n < (kS (k : Int)).toNat → (vT rt c k n).size ≤ 80 := fun k n h1 h2 hn => (mval_all hrt c hc k n h1 h2 hn w hT).1
  have hts : (tx (itoa (tm : Int))).size ≤ 21 := itoa_small6 tm (by omega)
  have eW : wordsAll rt c = wordsK rt c 10 ++ optW (decide (0 < (tm : Int))) (⟨#[116, 105, 109, 101, 61]⟩ ++ tx (itoa (tm : Int))) ++ optW ran ⟨#[114, 97, 110]⟩ ++ optW fault ⟨#[102, 97, 117, 108, 116]⟩ := by
    unfold wordsAll; rw [e1, e2, e3]
  have small : ∀ x ∈ wordsAll rt c, x.size ≤ 200 := fun x hx => by
    rw [eW] at hx
    rcases List.mem_append.1 hx with hx | hx
    · rcases List.mem_append.1 hx with hx | hx
      · rcases List.mem_append.1 hx with hx | hx
        · exact words_small hv 10 (by omega) x hx
        · rw [optW_mem hx, ByteArray.size_append]
          have : (⟨#[116, 105, 109, 101, 61]⟩ : ByteArray).size = 5 := rfl
          omega
      · rw [optW_mem hx]; decide
    · rw [optW_mem hx]; decide
  have hlen := wordsAll_len rt c
  have hjl : (Lib.join ((wordsAll rt c).map fun x => x.data.toList) [32]).length ≤ 140737488355328 := by
    rw [join_flat, List.length_dropLast]
    have h1 := flat_size (wordsAll rt c) ⟨#[]⟩ small
    have h2 : (flat (wordsAll rt c)).data.toList.length = (flat (wordsAll rt c)).size := rfl
    have h3 : (⟨#[]⟩ : ByteArray).size = 0 := rfl
    rw [h3] at h1
    have h4 : (flat (wordsAll rt c)).size ≤ 0 + 201 * (wordsAll rt c).length := h1
    omega
  refine text_inner c hc (vT rt c) nmT (vP rt c) (wordsK rt c) (tx (itoa (tm : Int))) (memT rt c) w hT tm ran fault hm hran hfault (by omega) ?_ ?_ ?_ rfl ?_ ?_ ?_ (by omega) ?_
  · intro k n h1 h2 hn W hW; exact (mval_all hrt c hc k n h1 h2 hn W hW).2
  · intro k n h1 h2 hn W hW; exact dev_all k n h1 h2 hn W hW
  · intro k n h1 h2 hn
    have h3 := hv k n h1 h2 hn
    have h4 := kS_bd (k : Int)
    have h5 := nmT_size k n (by omega)
    omega
  · intro j; rfl
  · intro j _; exact wordsK_len rt c j
  · intro W hW; have := digits_i tm (by omega) W hW.p; rw [digits_itoa] at this; exact this
  · intro W g cap base hW
    rw [← eW] at hW ⊢
    rw [memT_join]
    exact Any.strings_Join Tryd.layJ Tryd.layJ_extra g 0 cap (wordsAll rt c) ⟨#[32]⟩ W (strs_cells hW) hW.lt (by omega) (owns_cap hW) hjl

theorem mem_info6 : (Tryd.prog.info? 48).map (·.size) = some 136 := by kernel_rfl
set_option maxRecDepth 10000 in
set_option maxHeartbeats 1000000 in
theorem law_text (c : Array Value) (w : World) (hc : MemOk c) (hT : Tabs w) :
    Calls Tryd.prog 4 #[.agg c] w fun e w' => e = .returned (.bool true) ∧ Below w.heap.size w w' := by
  obtain ⟨rt, hrt⟩ := rt_ok
  have HC : Hid (MemOk c) := hc
  have HT : Hid (Tabs w) := hT
  have HI : Hid ((Tryd.prog.info? 48).map (·.size) = some c.size) := by rw [HC.out.size]; exact mem_info6
  have HM : Hid (∀ W, Calls Tryd.prog 10 #[.agg c] W fun e w' => e = .returned (.agg c) ∧ Below W.heap.size W w') := fun W => to_mem c HC.out W
  obtain ⟨T, HTt⟩ : ∃ t, Hid (t = memT rt c) := ⟨_, rfl⟩
  have H1 : Hid (∀ W, Calls Tryd.prog 9 #[.agg c] W fun e w' => e = .returned (.string T) ∧ Below W.heap.size W w') := fun W => by rw [HTt.out]; exact text_s hrt c HC.out W
  have H2 : Hid (∀ W, Tabs W → Calls Tryd.prog 7 #[.agg c] W fun e w' => e = .returned (.string T) ∧ Below W.heap.size W w') := fun W h => by rw [HTt.out]; exact text_i hrt c HC.out W h
  have b0 : Below w.heap.size w (w.alloc (.cells c 48)) := (Below.refl _ _).alloc (Nat.le_refl _) _
  have k0 := heap_alloc_new w (.cells c 48)
  have L0 : Hid ((loadVar 48 ⟨w.heap.size, 0, none⟩).run Tryd.prog (w.alloc (.cells c 48)) = .ok (.agg c) (w.alloc (.cells c 48))) := load_all k0 _ _ Tryd.underlying48 rfl HI.out
  have K0 : Hid ((w.alloc (.cells c 48)).heap[w.heap.size]? = some (.cells c 48 (0, 0)) ∧ Below w.heap.size w (w.alloc (.cells c 48)) ∧ w.heap.size < (w.alloc (.cells c 48)).heap.size) := ⟨k0, b0, by simp⟩
  clear hc hT hrt k0 b0 HTt
  go_enter Tryd.func4, Tryd.ntmps4
  go_wp2_with (first | (refine wpL_load rfl 48 _ rfl _ _ rfl _ L0.out ?_) | fail)
  refine (HM.out _).mono ?_
  rintro e w1 ⟨rfl, g1⟩
  obtain ⟨k0, b0, l0⟩ := K0.out
  have k1 := (g1.block _ l0).trans k0
  have b1 := b0.trans (g1.mono b0.size)
  clear g1 k0 b0 l0 L0 K0
  go_wp2_with fail
  refine (H1.out _).mono ?_
  rintro e w2 ⟨rfl, g2⟩
  have k2 := (g2.block _ (Array.getElem?_eq_some_iff.1 k1).1).trans k1
  have b2 := b1.trans (g2.mono b1.size)
  clear g2 k1 b1
  have L2 : Hid ((loadVar 48 ⟨w.heap.size, 0, none⟩).run Tryd.prog w2 = .ok (.agg c) w2) := load_all k2 _ _ Tryd.underlying48 rfl HI.out
  clear k2
  go_wp2_with (first | (refine wpL_load rfl 48 _ rfl _ _ rfl _ L2.out ?_) | fail)
  refine (HM.out _).mono ?_
  rintro e w3 ⟨rfl, g3⟩
  have b3 := b2.trans (g3.mono b2.size)
  clear g3 b2 L2
  go_wp2_with fail
  refine (H2.out _ (HT.out.later b3)).mono ?_
  rintro e w4 ⟨rfl, g4⟩
  have b4 := b3.trans (g4.mono b3.size)
  clear g4 b3
  go_wp2
  go_ret
  exact ⟨rfl, b4⟩
theorem walk_text (c : Array Value) (w : World) (hc : MemOk c) (hk : KT w) (hp : PT w) (hw : WT w) :
    Calls Tryd.prog 4 #[.agg c] w fun e w' => e = .returned (.bool true) ∧ Below w.heap.size w w' := law_text c w hc ⟨hk, hp, hw⟩
end Go.Proofs.YteekbhhlgicpeaaDoor
