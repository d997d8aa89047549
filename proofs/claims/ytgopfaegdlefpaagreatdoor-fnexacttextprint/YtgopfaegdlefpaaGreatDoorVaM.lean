/- The words by their kinds: a map that is told in sorted order. -/
import Derived.Test.YtgopfaegdlefpaaGreatDoorVe
import Derived.Test.YtgopfaegdlefpaaGreatDoorLg
import Derived.Maps.OwnOps
import Derived.Maps.OwnSet
import Derived.Sort.KeysCollected
import Derived.StringKeys
namespace Go.Proofs.YtgopfaegdlefpaaGreatDoor
open Go.RowKit Go.Maps Go.Sort Go.Shelf
set_option linter.unusedVariables false

def DK : DataW Unit := (((((((((DataW.map [] : DataW Unit).put (.string [97, 110, 100, 40]) (.lit (.int .i64 2))).put (.string [111, 114, 40]) (.lit (.int .i64 3))).put (.string [110, 111, 116, 40]) (.lit (.int .i64 4))).put (.string [41]) (.lit (.int .i64 9))).put (.string [45, 62]) (.lit (.int .i64 5))).put (.string [91]) (.lit (.int .i64 6))).put (.string [124]) (.lit (.int .i64 7))).put (.string [93]) (.lit (.int .i64 8)))
def SW : List (List UInt8) := [[41], [45, 62], [91], [93], [97, 110, 100, 40], [110, 111, 116, 40], [111, 114, 40], [124]]
theorem keyS : Keyed Tryz.prog 9 := Keyed.of_law (Go.WideMaps.string_law Tryz.underlying9)
theorem sw_perm : (strKeys DK).Perm SW := by decide +kernel
theorem sw_sort : SW.mergeSort leB = SW := by
  apply List.mergeSort_of_pairwise
  decide +kernel

set_option maxHeartbeats 4000000 in
theorem kinds_i (w : World) : Calls Tryz.prog 64 #[] w fun e w' => e = .returned (.map (some w.heap.size)) ∧ w'.ownsMap Tryz.prog 9 (plainElem Tryz.prog 3) w.heap.size 8 DK ∧ Below w.heap.size w w' := by
  have h0 := World.ownsMap_made (H := Unit) w Tryz.prog 9 (plainElem Tryz.prog 3)
  have b0 : Below w.heap.size w (w.alloc (.map #[] 0)) := (Below.refl _ _).alloc (Nat.le_refl _) _
  obtain ⟨w1, e1, h1, g1⟩ := h0.update (t := 124) (e := 3) keyS Tryz.underlying124 (by unfold maxLen; omega) (key := .string ⟨#[97, 110, 100, 40]⟩) (val := .int .i64 2) (kl := .string [97, 110, 100, 40]) (by kernel_rfl) (plainElem_int Tryz.underlying3 (by decide))
  have b1 := b0.grown g1 (by have := b0.size; omega) (fun k hk => by simp at hk; omega)
  obtain ⟨w2, e2, h2, g2⟩ := h1.update (t := 124) (e := 3) keyS Tryz.underlying124 (by unfold maxLen; omega) (key := .string ⟨#[111, 114, 40]⟩) (val := .int .i64 3) (kl := .string [111, 114, 40]) (by kernel_rfl) (plainElem_int Tryz.underlying3 (by decide))
  have b2 := b1.grown g2 (by have := b1.size; omega) (fun k hk => by simp at hk; omega)
  obtain ⟨w3, e3, h3, g3⟩ := h2.update (t := 124) (e := 3) keyS Tryz.underlying124 (by unfold maxLen; omega) (key := .string ⟨#[110, 111, 116, 40]⟩) (val := .int .i64 4) (kl := .string [110, 111, 116, 40]) (by kernel_rfl) (plainElem_int Tryz.underlying3 (by decide))
  have b3 := b2.grown g3 (by have := b2.size; omega) (fun k hk => by simp at hk; omega)
  obtain ⟨w4, e4, h4, g4⟩ := h3.update (t := 124) (e := 3) keyS Tryz.underlying124 (by unfold maxLen; omega) (key := .string ⟨#[41]⟩) (val := .int .i64 9) (kl := .string [41]) (by kernel_rfl) (plainElem_int Tryz.underlying3 (by decide))
  have b4 := b3.grown g4 (by have := b3.size; omega) (fun k hk => by simp at hk; omega)
  obtain ⟨w5, e5, h5, g5⟩ := h4.update (t := 124) (e := 3) keyS Tryz.underlying124 (by unfold maxLen; omega) (key := .string ⟨#[45, 62]⟩) (val := .int .i64 5) (kl := .string [45, 62]) (by kernel_rfl) (plainElem_int Tryz.underlying3 (by decide))
  have b5 := b4.grown g5 (by have := b4.size; omega) (fun k hk => by simp at hk; omega)
  obtain ⟨w6, e6, h6, g6⟩ := h5.update (t := 124) (e := 3) keyS Tryz.underlying124 (by unfold maxLen; omega) (key := .string ⟨#[91]⟩) (val := .int .i64 6) (kl := .string [91]) (by kernel_rfl) (plainElem_int Tryz.underlying3 (by decide))
  have b6 := b5.grown g6 (by have := b5.size; omega) (fun k hk => by simp at hk; omega)
  obtain ⟨w7, e7, h7, g7⟩ := h6.update (t := 124) (e := 3) keyS Tryz.underlying124 (by unfold maxLen; omega) (key := .string ⟨#[124]⟩) (val := .int .i64 7) (kl := .string [124]) (by kernel_rfl) (plainElem_int Tryz.underlying3 (by decide))
  have b7 := b6.grown g7 (by have := b6.size; omega) (fun k hk => by simp at hk; omega)
  obtain ⟨w8, e8, h8, g8⟩ := h7.update (t := 124) (e := 3) keyS Tryz.underlying124 (by unfold maxLen; omega) (key := .string ⟨#[93]⟩) (val := .int .i64 8) (kl := .string [93]) (by kernel_rfl) (plainElem_int Tryz.underlying3 (by decide))
  have b8 := b7.grown g8 (by have := b7.size; omega) (fun k hk => by simp at hk; omega)
  have hmk : (Instr.makeMap 124 none).run Tryz.prog w = .ok (.map (some w.heap.size)) (w.alloc (.map #[] 0)) := rfl
  go_enter Tryz.func64, Tryz.ntmps64
  go_wp2
  go_ret
  exact ⟨rfl, h8, b8⟩

theorem sorts_i (m : Nat) : AnyZ.SortsIn Tryz.prog Tryz.sortedA_ren Fence.wide m :=
  ⟨fun blk off cap ss W hH hblk hsz => callsIn_wide.2 (AnyM.slices_Sort_string Tryz.sortA blk off cap ss W hH hblk hsz),
   fun p cap W => callsIn_wide.2 (AnyM.slices_Sort_string_none Tryz.sortA p cap W)⟩
theorem keys_i (mb : Option Nat) (W : World) : Calls Tryz.prog 66 #[.map mb] W fun e w' => e = .returned (.func (.func 113) #[] #[.pointer (some ⟨W.heap.size, 0, none⟩)]) ∧ w' = W.alloc (.cells #[.map mb] 124) :=
  (callsIn_wide (n := 5)).1 (AnyZ.keys_in Tryz.keysA Fence.wide 5 trivial rfl mb W)
theorem sorted_i (b : Nat) (w : World) (hown : w.ownsMap Tryz.prog 9 (plainElem (H := Unit) Tryz.prog 3) b 8 DK) :
    Calls Tryz.prog 65 #[.func (.func 113) #[] #[.pointer (some ⟨w.heap.size, 0, none⟩)]] (w.alloc (.cells #[.map (some b)] 124)) fun e w' => ∃ (v : Value) (ss : List (List UInt8)), e = .returned v ∧ ss.Perm (strKeys DK) ∧
      w'.ownsRow (w.alloc (.cells #[.map (some b)] 124)).heap.size 9 1 v ss.length ((ss.mergeSort (fun x y => decide (x ≤ y))).map encStr) ∧ (v = .slice none 0 0 ↔ ss = []) ∧ Below (w.alloc (.cells #[.map (some b)] 124)).heap.size (w.alloc (.cells #[.map (some b)] 124)) w' := by
  have hbl := hown.lt
  have hsz : Maps.size DK = 8 := by decide +kernel
  have hseq : SeqGives Fence.wide 2 Tryz.prog 113 #[.pointer (some ⟨w.heap.size, 0, none⟩)] encStr (fun ss => ss.Perm (strKeys DK)) (Maps.size DK) (w.alloc (.cells #[.map (some b)] 124)) :=
    AnyZ.keys_gives (ρ := Tryz.keysA_ren) { Tryz.keysA with } Fence.wide _ trivial rfl (by omega) w.heap.size b 8 DK _ (by simp) (by simp) (by
      obtain ⟨es, clock, hb, Ft, hs, hD⟩ := hown
      exact ⟨es, clock, (Below.heap_alloc _ _ b hbl).trans hb, Ft, hs, hD⟩)
  have cS := AnyZ.sorted_in Tryz.sortedA Fence.wide 5 trivial trivial trivial trivial rfl (by omega) (sorts_i _) (enters_of Tryz.func112 (by kernel_rfl) rfl) 113 #[.pointer (some ⟨w.heap.size, 0, none⟩)] trivial (enters_of Tryz.func113 (by kernel_rfl) rfl) _ _ (by rw [hsz]; decide) (by rw [hsz]; omega) _ hseq
  change CallsIn _ _ Tryz.prog 65 _ _ _ at cS
  exact (callsIn_wide (n := 5)).1 cS
end Go.Proofs.YtgopfaegdlefpaaGreatDoor
/- The signs by their kinds. -/
namespace Go.Proofs.YtgopfaegdlefpaaGreatDoor
open Go.RowKit Go.Maps Go.Sort Go.Shelf
set_option linter.unusedVariables false

/-- The array behind so many words. -/
def sgN : Nat → Array Value
  | 0 => #[.string ⟨#[]⟩, .string ⟨#[]⟩, .string ⟨#[]⟩, .string ⟨#[]⟩, .string ⟨#[]⟩, .string ⟨#[]⟩, .string ⟨#[]⟩, .string ⟨#[]⟩, .string ⟨#[]⟩, .string ⟨#[]⟩]
  | 1 => #[.string ⟨#[]⟩, .string ⟨#[]⟩, .string ⟨#[]⟩, .string ⟨#[]⟩, .string ⟨#[]⟩, .string ⟨#[]⟩, .string ⟨#[]⟩, .string ⟨#[]⟩, .string ⟨#[]⟩, .string ⟨#[41]⟩]
  | 2 => #[.string ⟨#[]⟩, .string ⟨#[]⟩, .string ⟨#[]⟩, .string ⟨#[]⟩, .string ⟨#[]⟩, .string ⟨#[45, 62]⟩, .string ⟨#[]⟩, .string ⟨#[]⟩, .string ⟨#[]⟩, .string ⟨#[41]⟩]
  | 3 => #[.string ⟨#[]⟩, .string ⟨#[]⟩, .string ⟨#[]⟩, .string ⟨#[]⟩, .string ⟨#[]⟩, .string ⟨#[45, 62]⟩, .string ⟨#[91]⟩, .string ⟨#[]⟩, .string ⟨#[]⟩, .string ⟨#[41]⟩]
  | 4 => #[.string ⟨#[]⟩, .string ⟨#[]⟩, .string ⟨#[]⟩, .string ⟨#[]⟩, .string ⟨#[]⟩, .string ⟨#[45, 62]⟩, .string ⟨#[91]⟩, .string ⟨#[]⟩, .string ⟨#[93]⟩, .string ⟨#[41]⟩]
  | 5 => #[.string ⟨#[]⟩, .string ⟨#[]⟩, .string ⟨#[97, 110, 100, 40]⟩, .string ⟨#[]⟩, .string ⟨#[]⟩, .string ⟨#[45, 62]⟩, .string ⟨#[91]⟩, .string ⟨#[]⟩, .string ⟨#[93]⟩, .string ⟨#[41]⟩]
  | 6 => #[.string ⟨#[]⟩, .string ⟨#[]⟩, .string ⟨#[97, 110, 100, 40]⟩, .string ⟨#[]⟩, .string ⟨#[110, 111, 116, 40]⟩, .string ⟨#[45, 62]⟩, .string ⟨#[91]⟩, .string ⟨#[]⟩, .string ⟨#[93]⟩, .string ⟨#[41]⟩]
  | 7 => #[.string ⟨#[]⟩, .string ⟨#[]⟩, .string ⟨#[97, 110, 100, 40]⟩, .string ⟨#[111, 114, 40]⟩, .string ⟨#[110, 111, 116, 40]⟩, .string ⟨#[45, 62]⟩, .string ⟨#[91]⟩, .string ⟨#[]⟩, .string ⟨#[93]⟩, .string ⟨#[41]⟩]
  | 8 => #[.string ⟨#[]⟩, .string ⟨#[]⟩, .string ⟨#[97, 110, 100, 40]⟩, .string ⟨#[111, 114, 40]⟩, .string ⟨#[110, 111, 116, 40]⟩, .string ⟨#[45, 62]⟩, .string ⟨#[91]⟩, .string ⟨#[124]⟩, .string ⟨#[93]⟩, .string ⟨#[41]⟩]
  | _ => #[]
theorem grown_put {w w' : World} {l : Nat} (h : w.grownBy w' (some l)) (o : Nat) (v : Value) : w.grownBy (w'.setCell ⟨l, o, none⟩ v) (some l) :=
  ⟨h.os, h.tape, h.output, by rw [World.size_setCell]; exact h.size, fun k hk hne => by
    rw [heap_setCell_other _ ⟨l, o, none⟩ k _ (fun e => hne (by rw [show k = l from e]))]
    exact h.block k hk hne⟩
theorem sgN_8 : sgN 8 = (sgA.map Value.string).toArray := by kernel_rfl

set_option maxRecDepth 10000 in
set_option maxHeartbeats 16000000 in
theorem signs_i (w : World) : Calls Tryz.prog 27 #[] w fun e w' => e = .returned (.agg (sgA.map Value.string).toArray) ∧ Below w.heap.size w w' := by
  have b0 : Below w.heap.size w (w.alloc (.cells #[.string ⟨#[]⟩, .string ⟨#[]⟩, .string ⟨#[]⟩, .string ⟨#[]⟩, .string ⟨#[]⟩, .string ⟨#[]⟩, .string ⟨#[]⟩, .string ⟨#[]⟩, .string ⟨#[]⟩, .string ⟨#[]⟩] 47)) := (Below.refl _ _).alloc (Nat.le_refl _) _
  have R0 : Hid ((w.alloc (.cells #[.string ⟨#[]⟩, .string ⟨#[]⟩, .string ⟨#[]⟩, .string ⟨#[]⟩, .string ⟨#[]⟩, .string ⟨#[]⟩, .string ⟨#[]⟩, .string ⟨#[]⟩, .string ⟨#[]⟩, .string ⟨#[]⟩] 47)).heap[w.heap.size]? = some (.cells #[.string ⟨#[]⟩, .string ⟨#[]⟩, .string ⟨#[]⟩, .string ⟨#[]⟩, .string ⟨#[]⟩, .string ⟨#[]⟩, .string ⟨#[]⟩, .string ⟨#[]⟩, .string ⟨#[]⟩, .string ⟨#[]⟩] 47 (0, 0)) ∧ w.heap.size < (w.alloc (.cells #[.string ⟨#[]⟩, .string ⟨#[]⟩, .string ⟨#[]⟩, .string ⟨#[]⟩, .string ⟨#[]⟩, .string ⟨#[]⟩, .string ⟨#[]⟩, .string ⟨#[]⟩, .string ⟨#[]⟩, .string ⟨#[]⟩] 47)).heap.size) := ⟨heap_alloc_last w _, by simp⟩
  go_enter Tryz.func27, Tryz.ntmps27
  go_wp2_with fail
  refine (kinds_i _).mono ?_
  rintro e w1 ⟨rfl, hM, g1⟩
  have r1 := (g1.block _ R0.out.2).trans R0.out.1
  have b1 := b0.trans (g1.mono b0.size)
  have l1 : w.heap.size < w1.heap.size := (Array.getElem?_eq_some_iff.1 r1).1
  simp only [World.size_alloc] at hM ⊢
  have lm : w.heap.size + 1 < w1.heap.size := hM.lt
  obtain ⟨w2, hw2⟩ : ∃ w2, w1.alloc (.cells #[.string ⟨#[]⟩, .string ⟨#[]⟩, .string ⟨#[]⟩, .string ⟨#[]⟩, .string ⟨#[]⟩, .string ⟨#[]⟩, .string ⟨#[]⟩, .string ⟨#[]⟩, .string ⟨#[]⟩, .string ⟨#[]⟩] 47) = w2 := ⟨_, rfl⟩
  have g2 : Below w1.heap.size w1 w2 := by rw [← hw2]; exact (Below.refl _ _).alloc (Nat.le_refl _) _
  have rl : w2.heap[w1.heap.size]? = some (.cells #[.string ⟨#[]⟩, .string ⟨#[]⟩, .string ⟨#[]⟩, .string ⟨#[]⟩, .string ⟨#[]⟩, .string ⟨#[]⟩, .string ⟨#[]⟩, .string ⟨#[]⟩, .string ⟨#[]⟩, .string ⟨#[]⟩] 47 (0, 0)) := by rw [← hw2]; exact heap_alloc_last w1 _
  have s2 : w2.heap.size = w1.heap.size + 1 := by rw [← hw2]; simp
  have r2 := (g2.block _ l1).trans r1
  have M2 : w2.ownsMap Tryz.prog 9 (plainElem (H := Unit) Tryz.prog 3) (w.heap.size + 1) 8 DK := by rw [← hw2]; exact hM.alloc _
  have b2 := b1.trans (g2.mono b1.size)
  have HM2 : Hid (w2.ownsMap Tryz.prog 9 (plainElem (H := Unit) Tryz.prog 3) (w.heap.size + 1) 8 DK ∧ w2.heap[w.heap.size]? = some (.cells #[.string ⟨#[]⟩, .string ⟨#[]⟩, .string ⟨#[]⟩, .string ⟨#[]⟩, .string ⟨#[]⟩, .string ⟨#[]⟩, .string ⟨#[]⟩, .string ⟨#[]⟩, .string ⟨#[]⟩, .string ⟨#[]⟩] 47 (0, 0)) ∧ w2.heap[w1.heap.size]? = some (.cells #[.string ⟨#[]⟩, .string ⟨#[]⟩, .string ⟨#[]⟩, .string ⟨#[]⟩, .string ⟨#[]⟩, .string ⟨#[]⟩, .string ⟨#[]⟩, .string ⟨#[]⟩, .string ⟨#[]⟩, .string ⟨#[]⟩] 47 (0, 0)) ∧ Below w.heap.size w w2 ∧ w.heap.size < w1.heap.size ∧ w.heap.size + 1 < w1.heap.size ∧ w2.heap.size = w1.heap.size + 1) := ⟨M2, r2, rl, b2, l1, lm, s2⟩
  clear g1 b0 R0 r1 b1 hM g2 rl r2 M2 b2 lm s2
  go_wp2_with fail
  try rw [hw2]
  refine (keys_i _ _).mono ?_
  rintro e w3 ⟨rfl, rfl⟩
  go_wp2_with fail
  refine (sorted_i _ _ HM2.out.1).mono ?_
  rintro e w4 ⟨v, ss, rfl, hperm, hrow, hnil, g4⟩
  have hsort : ss.mergeSort (fun x y => decide (x ≤ y)) = SW := (mergeSort_of_perm hperm).trans ((mergeSort_of_perm sw_perm).trans sw_sort)
  have hlen : ss.length = 8 := by rw [hperm.length_eq, sw_perm.length_eq]; rfl
  rw [hsort, hlen] at hrow
  obtain ⟨_, ⟨rfl, h0⟩ | ⟨g, cap, cur, rfl, hbase, hgb, q1, q2, q3, q4⟩⟩ := id hrow
  · cases h0
  have hcells := hrow.cells rfl
  have gb : (w2.alloc (.cells #[.map (some (w.heap.size + 1))] 124)).grownBy w4 none := ⟨g4.os, g4.tape, g4.output, g4.size, fun k hk _ => g4.block k hk⟩
  have gA : Below w2.heap.size w2 (w2.alloc (.cells #[.map (some (w.heap.size + 1))] 124)) := (Below.refl _ _).alloc (Nat.le_refl _) _
  have g24 : Below w2.heap.size w2 w4 := gA.trans (g4.mono gA.size)
  have M4 : w4.ownsMap Tryz.prog 9 (plainElem (H := Unit) Tryz.prog 3) (w.heap.size + 1) 8 DK := (HM2.out.1.alloc _).kept gb (by simp)
  have rr4 := (g24.block _ (by have := HM2.out.2.2.2.2.2.2; have := HM2.out.2.2.2.2.1; omega)).trans HM2.out.2.1
  have rl4 := (g24.block _ (by have := HM2.out.2.2.2.2.2.2; omega)).trans HM2.out.2.2.1
  have b4 : Below w.heap.size w w4 := HM2.out.2.2.2.1.trans (g24.mono HM2.out.2.2.2.1.size)
  have hgl : w1.heap.size + 1 + 1 ≤ g := by have := HM2.out.2.2.2.2.2.2; simp at hbase; omega
  have lm := HM2.out.2.2.2.2.2.1
  obtain ⟨l, hl⟩ : ∃ l, l = w1.heap.size := ⟨_, rfl⟩
  have HD : Hid (w4.ownsMap Tryz.prog 9 (plainElem (H := Unit) Tryz.prog 3) (w.heap.size + 1) 8 DK ∧ w4.heap[w.heap.size]? = some (.cells #[.string ⟨#[]⟩, .string ⟨#[]⟩, .string ⟨#[]⟩, .string ⟨#[]⟩, .string ⟨#[]⟩, .string ⟨#[]⟩, .string ⟨#[]⟩, .string ⟨#[]⟩, .string ⟨#[]⟩, .string ⟨#[]⟩] 47 (0, 0)) ∧ w4.heap[l]? = some (.cells #[.string ⟨#[]⟩, .string ⟨#[]⟩, .string ⟨#[]⟩, .string ⟨#[]⟩, .string ⟨#[]⟩, .string ⟨#[]⟩, .string ⟨#[]⟩, .string ⟨#[]⟩, .string ⟨#[]⟩, .string ⟨#[]⟩] 47 (0, 0)) ∧ Below w.heap.size w w4 ∧ l + 1 + 1 ≤ g ∧ w.heap.size + 1 < l ∧ (∀ (j : Nat) (u : Value), (SW.map encStr)[j]? = some u → w4.cell? ⟨g, j, none⟩ = some u) ∧ g < w4.heap.size) := ⟨M4, rr4, by rw [hl]; exact rl4, b4, by rw [hl]; exact hgl, by rw [hl]; exact lm, fun j u hj => by
    have ad : (⟨g, 0, none⟩ : Addr).add j = ⟨g, j, none⟩ := by unfold Addr.add; split <;> simp_all
    have := hcells j u hj
    rw [show (⟨(⟨g, 0, none⟩ : Addr).block, 0, none⟩ : Addr) = ⟨g, 0, none⟩ from rfl, ad] at this
    exact this, (Array.getElem?_eq_some_iff.1 hgb).1⟩
  rw [← hl]
  clear hgb hbase hcells hrow q1 q2 q3 q4 hnil hperm hsort hlen gb gA g24 M4 rr4 rl4 b4 hgl lm g4 HM2 hw2 l1
  clear hl
  have z3 : ∀ W, (zeroValue 3).run Tryz.prog W = .ok (.int .i64 0) W := Tryz.zeroValue3
  go_wp2
  go_loopg [10] 8 (fun gk i wr => ∃ n : Nat, n + gk = 8 ∧ i = .int .i64 n ∧ w4.grownBy wr (some l) ∧ wr.heap[l]? = some (.cells (sgN n) 47 (0, 0)))
  case atStart => exact ⟨0, by omega, rfl, ⟨rfl, rfl, rfl, Nat.le_refl _, fun _ _ _ => rfl⟩, HD.out.2.2.1⟩
  case round =>
    obtain ⟨n, hn, rfl, hG, hk⟩ := hrel
    have hM : wr.ownsMap Tryz.prog 9 (plainElem (H := Unit) Tryz.prog 3) (w.heap.size + 1) 8 DK := HD.out.1.kept hG (by simp; have := HD.out.2.2.2.2.2.1; omega)
    have hgl := HD.out.2.2.2.2.1
    have hcell : ∀ (j : Nat) (u : Value), (SW.map encStr)[j]? = some u → wr.cell? ⟨g, j, none⟩ = some u := fun j u hj => by
      rw [World.cell?_of_block (a := ⟨g, j, none⟩) (hG.block g HD.out.2.2.2.2.2.2.2 (by simp; omega))]
      exact HD.out.2.2.2.2.2.2.1 j u hj
    have HG : Hid (w4.grownBy wr (some l)) := hG
    by_cases hlt : n < 8
    · have hcs : n = 0 ∨ n = 1 ∨ n = 2 ∨ n = 3 ∨ n = 4 ∨ n = 5 ∨ n = 6 ∨ n = 7 := by omega
      clear hG hgl hlt
      rcases hcs with rfl | rfl | rfl | rfl | rfl | rfl | rfl | rfl
      · obtain ⟨c, hrun, hat, _⟩ := hM.lookup_int keyS Tryz.underlying124 Tryz.underlying3 (z3 _) (key := .string ⟨#[41]⟩) (kl := .string [41]) (by kernel_rfl)
        have hc : DK.atKey (.string [41]) (.lit (.int .i64 0)) = .lit (.int .i64 9) := by kernel_rfl
        rw [hc] at hat
        have e1 : c = 9 := by simp only [DataW.lit.injEq, Lit.int.injEq, true_and] at hat; exact hat.symm
        subst e1
        have d0 : wr.cell? ⟨g, 0, none⟩ = some (.string ⟨#[41]⟩) := hcell 0 _ rfl
        have d1 : wr.cell? ⟨l, 9, none⟩ = some (.string ⟨#[]⟩) := (cell_of_row _ _ _ _ _ _ hk).trans rfl
        have d2 : wr.frozen? ⟨l, 9, none⟩ = false := by simp [World.frozen?, hk]
        have HP : Hid (w4.grownBy (wr.setCell ⟨l, 9, none⟩ (.string ⟨#[41]⟩)) (some l) ∧ (wr.setCell ⟨l, 9, none⟩ (.string ⟨#[41]⟩)).heap[l]? = some (.cells (sgN 1) 47 (0, 0))) := ⟨grown_put HG.out _ _, row_put hk _ _⟩
        clear hat hc hM hcell hk
        go_wp2
        go_roundg (gk - 1)
        case measure => omega
        case rel => exact ⟨1, by omega, by simp, HP.out.1, HP.out.2⟩
      · obtain ⟨c, hrun, hat, _⟩ := hM.lookup_int keyS Tryz.underlying124 Tryz.underlying3 (z3 _) (key := .string ⟨#[45, 62]⟩) (kl := .string [45, 62]) (by kernel_rfl)
        have hc : DK.atKey (.string [45, 62]) (.lit (.int .i64 0)) = .lit (.int .i64 5) := by kernel_rfl
        rw [hc] at hat
        have e1 : c = 5 := by simp only [DataW.lit.injEq, Lit.int.injEq, true_and] at hat; exact hat.symm
        subst e1
        have d0 : wr.cell? ⟨g, 1, none⟩ = some (.string ⟨#[45, 62]⟩) := hcell 1 _ rfl
        have d1 : wr.cell? ⟨l, 5, none⟩ = some (.string ⟨#[]⟩) := (cell_of_row _ _ _ _ _ _ hk).trans rfl
        have d2 : wr.frozen? ⟨l, 5, none⟩ = false := by simp [World.frozen?, hk]
        have HP : Hid (w4.grownBy (wr.setCell ⟨l, 5, none⟩ (.string ⟨#[45, 62]⟩)) (some l) ∧ (wr.setCell ⟨l, 5, none⟩ (.string ⟨#[45, 62]⟩)).heap[l]? = some (.cells (sgN 2) 47 (0, 0))) := ⟨grown_put HG.out _ _, row_put hk _ _⟩
        clear hat hc hM hcell hk
        go_wp2
        go_roundg (gk - 1)
        case measure => omega
        case rel => exact ⟨2, by omega, by simp, HP.out.1, HP.out.2⟩
      · obtain ⟨c, hrun, hat, _⟩ := hM.lookup_int keyS Tryz.underlying124 Tryz.underlying3 (z3 _) (key := .string ⟨#[91]⟩) (kl := .string [91]) (by kernel_rfl)
        have hc : DK.atKey (.string [91]) (.lit (.int .i64 0)) = .lit (.int .i64 6) := by kernel_rfl
        rw [hc] at hat
        have e1 : c = 6 := by simp only [DataW.lit.injEq, Lit.int.injEq, true_and] at hat; exact hat.symm
        subst e1
        have d0 : wr.cell? ⟨g, 2, none⟩ = some (.string ⟨#[91]⟩) := hcell 2 _ rfl
        have d1 : wr.cell? ⟨l, 6, none⟩ = some (.string ⟨#[]⟩) := (cell_of_row _ _ _ _ _ _ hk).trans rfl
        have d2 : wr.frozen? ⟨l, 6, none⟩ = false := by simp [World.frozen?, hk]
        have HP : Hid (w4.grownBy (wr.setCell ⟨l, 6, none⟩ (.string ⟨#[91]⟩)) (some l) ∧ (wr.setCell ⟨l, 6, none⟩ (.string ⟨#[91]⟩)).heap[l]? = some (.cells (sgN 3) 47 (0, 0))) := ⟨grown_put HG.out _ _, row_put hk _ _⟩
        clear hat hc hM hcell hk
        go_wp2
        go_roundg (gk - 1)
        case measure => omega
        case rel => exact ⟨3, by omega, by simp, HP.out.1, HP.out.2⟩
      · obtain ⟨c, hrun, hat, _⟩ := hM.lookup_int keyS Tryz.underlying124 Tryz.underlying3 (z3 _) (key := .string ⟨#[93]⟩) (kl := .string [93]) (by kernel_rfl)
        have hc : DK.atKey (.string [93]) (.lit (.int .i64 0)) = .lit (.int .i64 8) := by kernel_rfl
        rw [hc] at hat
        have e1 : c = 8 := by simp only [DataW.lit.injEq, Lit.int.injEq, true_and] at hat; exact hat.symm
        subst e1
        have d0 : wr.cell? ⟨g, 3, none⟩ = some (.string ⟨#[93]⟩) := hcell 3 _ rfl
        have d1 : wr.cell? ⟨l, 8, none⟩ = some (.string ⟨#[]⟩) := (cell_of_row _ _ _ _ _ _ hk).trans rfl
        have d2 : wr.frozen? ⟨l, 8, none⟩ = false := by simp [World.frozen?, hk]
        have HP : Hid (w4.grownBy (wr.setCell ⟨l, 8, none⟩ (.string ⟨#[93]⟩)) (some l) ∧ (wr.setCell ⟨l, 8, none⟩ (.string ⟨#[93]⟩)).heap[l]? = some (.cells (sgN 4) 47 (0, 0))) := ⟨grown_put HG.out _ _, row_put hk _ _⟩
        clear hat hc hM hcell hk
        go_wp2
        go_roundg (gk - 1)
        case measure => omega
        case rel => exact ⟨4, by omega, by simp, HP.out.1, HP.out.2⟩
      · obtain ⟨c, hrun, hat, _⟩ := hM.lookup_int keyS Tryz.underlying124 Tryz.underlying3 (z3 _) (key := .string ⟨#[97, 110, 100, 40]⟩) (kl := .string [97, 110, 100, 40]) (by kernel_rfl)
        have hc : DK.atKey (.string [97, 110, 100, 40]) (.lit (.int .i64 0)) = .lit (.int .i64 2) := by kernel_rfl
        rw [hc] at hat
        have e1 : c = 2 := by simp only [DataW.lit.injEq, Lit.int.injEq, true_and] at hat; exact hat.symm
        subst e1
        have d0 : wr.cell? ⟨g, 4, none⟩ = some (.string ⟨#[97, 110, 100, 40]⟩) := hcell 4 _ rfl
        have d1 : wr.cell? ⟨l, 2, none⟩ = some (.string ⟨#[]⟩) := (cell_of_row _ _ _ _ _ _ hk).trans rfl
        have d2 : wr.frozen? ⟨l, 2, none⟩ = false := by simp [World.frozen?, hk]
        have HP : Hid (w4.grownBy (wr.setCell ⟨l, 2, none⟩ (.string ⟨#[97, 110, 100, 40]⟩)) (some l) ∧ (wr.setCell ⟨l, 2, none⟩ (.string ⟨#[97, 110, 100, 40]⟩)).heap[l]? = some (.cells (sgN 5) 47 (0, 0))) := ⟨grown_put HG.out _ _, row_put hk _ _⟩
        clear hat hc hM hcell hk
        go_wp2
        go_roundg (gk - 1)
        case measure => omega
        case rel => exact ⟨5, by omega, by simp, HP.out.1, HP.out.2⟩
      · obtain ⟨c, hrun, hat, _⟩ := hM.lookup_int keyS Tryz.underlying124 Tryz.underlying3 (z3 _) (key := .string ⟨#[110, 111, 116, 40]⟩) (kl := .string [110, 111, 116, 40]) (by kernel_rfl)
        have hc : DK.atKey (.string [110, 111, 116, 40]) (.lit (.int .i64 0)) = .lit (.int .i64 4) := by kernel_rfl
        rw [hc] at hat
        have e1 : c = 4 := by simp only [DataW.lit.injEq, Lit.int.injEq, true_and] at hat; exact hat.symm
        subst e1
        have d0 : wr.cell? ⟨g, 5, none⟩ = some (.string ⟨#[110, 111, 116, 40]⟩) := hcell 5 _ rfl
        have d1 : wr.cell? ⟨l, 4, none⟩ = some (.string ⟨#[]⟩) := (cell_of_row _ _ _ _ _ _ hk).trans rfl
        have d2 : wr.frozen? ⟨l, 4, none⟩ = false := by simp [World.frozen?, hk]
        have HP : Hid (w4.grownBy (wr.setCell ⟨l, 4, none⟩ (.string ⟨#[110, 111, 116, 40]⟩)) (some l) ∧ (wr.setCell ⟨l, 4, none⟩ (.string ⟨#[110, 111, 116, 40]⟩)).heap[l]? = some (.cells (sgN 6) 47 (0, 0))) := ⟨grown_put HG.out _ _, row_put hk _ _⟩
        clear hat hc hM hcell hk
        go_wp2
        go_roundg (gk - 1)
        case measure => omega
        case rel => exact ⟨6, by omega, by simp, HP.out.1, HP.out.2⟩
      · obtain ⟨c, hrun, hat, _⟩ := hM.lookup_int keyS Tryz.underlying124 Tryz.underlying3 (z3 _) (key := .string ⟨#[111, 114, 40]⟩) (kl := .string [111, 114, 40]) (by kernel_rfl)
        have hc : DK.atKey (.string [111, 114, 40]) (.lit (.int .i64 0)) = .lit (.int .i64 3) := by kernel_rfl
        rw [hc] at hat
        have e1 : c = 3 := by simp only [DataW.lit.injEq, Lit.int.injEq, true_and] at hat; exact hat.symm
        subst e1
        have d0 : wr.cell? ⟨g, 6, none⟩ = some (.string ⟨#[111, 114, 40]⟩) := hcell 6 _ rfl
        have d1 : wr.cell? ⟨l, 3, none⟩ = some (.string ⟨#[]⟩) := (cell_of_row _ _ _ _ _ _ hk).trans rfl
        have d2 : wr.frozen? ⟨l, 3, none⟩ = false := by simp [World.frozen?, hk]
        have HP : Hid (w4.grownBy (wr.setCell ⟨l, 3, none⟩ (.string ⟨#[111, 114, 40]⟩)) (some l) ∧ (wr.setCell ⟨l, 3, none⟩ (.string ⟨#[111, 114, 40]⟩)).heap[l]? = some (.cells (sgN 7) 47 (0, 0))) := ⟨grown_put HG.out _ _, row_put hk _ _⟩
        clear hat hc hM hcell hk
        go_wp2
        go_roundg (gk - 1)
        case measure => omega
        case rel => exact ⟨7, by omega, by simp, HP.out.1, HP.out.2⟩
      · obtain ⟨c, hrun, hat, _⟩ := hM.lookup_int keyS Tryz.underlying124 Tryz.underlying3 (z3 _) (key := .string ⟨#[124]⟩) (kl := .string [124]) (by kernel_rfl)
        have hc : DK.atKey (.string [124]) (.lit (.int .i64 0)) = .lit (.int .i64 7) := by kernel_rfl
        rw [hc] at hat
        have e1 : c = 7 := by simp only [DataW.lit.injEq, Lit.int.injEq, true_and] at hat; exact hat.symm
        subst e1
        have d0 : wr.cell? ⟨g, 7, none⟩ = some (.string ⟨#[124]⟩) := hcell 7 _ rfl
        have d1 : wr.cell? ⟨l, 7, none⟩ = some (.string ⟨#[]⟩) := (cell_of_row _ _ _ _ _ _ hk).trans rfl
        have d2 : wr.frozen? ⟨l, 7, none⟩ = false := by simp [World.frozen?, hk]
        have HP : Hid (w4.grownBy (wr.setCell ⟨l, 7, none⟩ (.string ⟨#[124]⟩)) (some l) ∧ (wr.setCell ⟨l, 7, none⟩ (.string ⟨#[124]⟩)).heap[l]? = some (.cells (sgN 8) 47 (0, 0))) := ⟨grown_put HG.out _ _, row_put hk _ _⟩
        clear hat hc hM hcell hk
        go_wp2
        go_roundg (gk - 1)
        case measure => omega
        case rel => exact ⟨8, by omega, by simp, HP.out.1, HP.out.2⟩
    · have h8 : n = 8 := by omega
      subst h8
      have r8 : wr.heap[w.heap.size]? = some (.cells #[.string ⟨#[]⟩, .string ⟨#[]⟩, .string ⟨#[]⟩, .string ⟨#[]⟩, .string ⟨#[]⟩, .string ⟨#[]⟩, .string ⟨#[]⟩, .string ⟨#[]⟩, .string ⟨#[]⟩, .string ⟨#[]⟩] 47 (0, 0)) := (hG.block _ (by have := (Array.getElem?_eq_some_iff.1 HD.out.2.1).1; omega) (by simp; have := HD.out.2.2.2.2.2.1; omega)).trans HD.out.2.1
      have hi8 : (Tryz.prog.info? 47).map (·.size) = some (sgN 8).size := by kernel_rfl
      have HLd : Hid ((loadVar 47 ⟨l, 0, none⟩).run Tryz.prog wr = .ok (.agg (sgN 8)) wr) := load_all hk _ _ Tryz.underlying47 rfl hi8
      have HST : Hid ((storeVar 47 ⟨w.heap.size, 0, none⟩ (.agg (sgN 8))).run Tryz.prog wr = .ok () (wr.setRow w.heap.size (sgN 8))) := store_all r8 _ _ rfl hi8 (by kernel_rfl)
      have HB : Hid (Below w.heap.size w (wr.setRow w.heap.size (sgN 8)) ∧ (wr.setRow w.heap.size (sgN 8)).heap[w.heap.size]? = some (.cells (sgN 8) 47 (0, 0))) := ⟨below_row (HD.out.2.2.2.1.grown hG (by have := HD.out.2.2.2.1.size; omega) (fun k e => by simp at e; have := HD.out.2.2.2.2.2.1; omega)) (Nat.le_refl _) r8 _, row_set r8 _⟩
      obtain ⟨C8, HC8⟩ : ∃ C, Hid (C = sgN 8) := ⟨_, rfl⟩
      rw [← HC8.out] at HLd HST HB hi8
      clear hk hM hcell hgl hG r8 hlt
      go_wp2_with (first | (refine wpL_load rfl 47 _ rfl _ _ rfl _ HLd.out ?_) | (refine wpL_store rfl 47 _ _ rfl _ _ rfl _ rfl _ HST.out ?_) | (refine ret_row rfl rfl HB.out.2 Tryz.underlying47 rfl hi8 rfl ⟨?_, HB.out.1⟩; rw [HC8.out, sgN_8]) | fail)
end Go.Proofs.YtgopfaegdlefpaaGreatDoor
