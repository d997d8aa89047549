/- A play: one more instruction is put. -/
import Derived.Test.YtcihplachlokiaaGreatDoorYa
import Derived.Test.YtcihplachlokiaaGreatDoorEkM
import Derived.Deep.RegionHeld3
import Derived.Deep.RegionLaw
namespace Go.Proofs.YtcihplachlokiaaGreatDoor.Rr
open Go.RowKit
set_option linter.unusedVariables false
variable {LB : Nat}

def PutR (LB : Nat) (w0 : World) (B R pb p on : Nat) (bits forks : Int) (base : Bool) (c : Int) (e : Ending) (w' : World) : Prop :=
  e = .returned (.tuple #[]) ∧ ∃ (q : Nat) (oa : Option Addr) (oc : Nat), q ≤ p + (if c ≤ 3 ∨ c = 10 then 60 else 0) ∧ Play LB w0 B R pb w' q oa (on + 1) oc bits forks (base || (c == 10 || c == 7)) (c == 10)

set_option maxRecDepth 10000 in
set_option maxHeartbeats 8000000 in
theorem put_contact (c : Int) (w0 w : World) (B R pb p on oc : Nat) (oa : Option Addr) (bits forks : Int) (base fresh : Bool) (h : Play LB w0 B R pb w p oa on oc bits forks base fresh) (hc1 : 1 ≤ c) (hc2 : c ≤ 3) (hp : p < 9690000) (hon : on ≤ 100000) :
    Calls Tryz.prog 79 #[.pointer (some ⟨pb, 0, none⟩), .int .i64 c] w fun e w' => PutR LB w0 B R pb p on bits forks base c e w' := by
  have hinfo : (Tryz.prog.info? 44).map (fun i => (i.zero, i.size, i.bytes)) = some (some (.agg #[.int .i64 0, .int .i64 0, .slice none 0 0]), 3, 40) := by kernel_rfl
  obtain ⟨ti, hi, hzz⟩ := Option.map_eq_some_iff.1 hinfo
  simp only [Prod.mk.injEq] at hzz
  obtain ⟨hz0, hz1, hz2⟩ := hzz
  have HI : Hid (Tryz.prog.info? 44 = some ti ∧ ti.zero = some (.agg #[.int .i64 0, .int .i64 0, .slice none 0 0]) ∧ ti.size = 3 ∧ ti.bytes = 40) := ⟨hi, hz0, hz1, hz2⟩
  clear hi hz0 hz1 hz2 hinfo
  obtain ⟨c0, c1⟩ := And.intro h.c0 h.c1
  have hl := h.lt
  have hRB := h.RB
  have hB0 := h.hB
  have hs0 := h.gr.size
  have hfar := h.far
  have i1 : c ≤ 3 := hc2
  have i2 : (c == 10) = false := by simp; omega
  have i3 : (c == 7) = false := by simp; omega
  go_enter Tryz.func79, Tryz.ntmps79
  go_wp2_with fail
  refine (contact_r B R p _ (h.rd.alloc _) (by omega)).mono ?_
  rintro e w2 ⟨⟨op, a, len, cap, xs, rfl, o1, o2, l1, cc1, L1, bd1, O2⟩, ⟨q, hq, h2⟩, g2⟩
  have Hul : Hid (len = xs.length) := l1
  have kA : (w.alloc (.cells #[.int .i64 c, .int .i64 0, .slice none 0 0] 44)).heap[w.heap.size]? = some (.cells #[.int .i64 c, .int .i64 0, .slice none 0 0] 44 (0, 0)) := heap_alloc_last w _
  obtain ⟨⟨k0, k1, k2⟩, j0, j1, j2⟩ := three_at kA g2 (by simp; omega)
  have hi2 : w.heap.size < w2.heap.size := by have := g2.size; simp at this; omega
  have G3 : w.grownBy ((w2.setCell ⟨w.heap.size, 1, none⟩ (.int .i64 op)).setCell ⟨w.heap.size, 2, none⟩ (.slice a len cap)) (some R) := gb_put (gb_put (gb_pick (gb_alloc (gb_refl _ _) _) g2) (Nat.le_refl _)) (Nat.le_refl _)
  have P3 := h.move G3 ((h2.set w.heap.size 1 (.int .i64 op) (by omega)).set w.heap.size 2 (.slice a len cap) (by omega))
  have e1 : w2.cell? ⟨pb, 1, none⟩ = some (.slice oa on oc) := (h.move (gb_pick (gb_alloc (gb_refl _ _) _) g2) h2).c1
  have E3 : EF LB ((w2.setCell ⟨w.heap.size, 1, none⟩ (.int .i64 op)).setCell ⟨w.heap.size, 2, none⟩ (.slice a len cap)) w0.heap.size (fun b => b ≠ pb ∧ some b ≠ (Value.slice oa on oc).ownBlock) (⟨c, ⟨op, xs⟩⟩ : InstT) [.int .i64 c, .int .i64 op, .slice a xs.length cap] :=
    EF.of (H' := w.heap.size + 1) (x := ⟨c, ⟨op, xs⟩⟩) (by show xs.length ≤ cap; omega) ⟨⟨by show -100 ≤ c; omega, by show c ≤ 100; omega⟩, ⟨o1, o2⟩, by show xs.length ≤ LB + 9; omega, bd1⟩ (own_set2 _ _ (by simpa using O2) (by omega)) (by omega) (fun b hb => hfar b (by omega))
  have x8 : xs.length ≤ 8 := by omega
  clear l1 L1 O2 g2 kA h2 G3 o1 o2 bd1 cc1
  obtain ⟨cs, own5, news5, hs5, hY⟩ := P3.more ⟨c, ⟨op, xs⟩⟩ x8 a cap E3 44
  dsimp only at own5 news5 hY
  rw [← Hul.out] at own5 news5 hY
  have own5D : (((w2.setCell ⟨w.heap.size, 1, none⟩ (.int .i64 op)).setCell ⟨w.heap.size, 2, none⟩ (.slice a len cap)).alloc (.cells #[.int .i64 c, .int .i64 op, .slice a len cap] 44)).drew.ownsRow w0.heap.size 44 3 (.slice oa on oc) on cs := World.ownsRow.kept (row := none) own5 (gb_drew (gb_refl _ _)) (by cases (Value.slice oa on oc).ownBlock <;> simp)
  have news5D : ∀ (q : Nat) (v : Value), ([.int .i64 c, .int .i64 op, .slice a len cap] : List Value)[q]? = some v → (((w2.setCell ⟨w.heap.size, 1, none⟩ (.int .i64 op)).setCell ⟨w.heap.size, 2, none⟩ (.slice a len cap)).alloc (.cells #[.int .i64 c, .int .i64 op, .slice a len cap] 44)).drew.cell? ((⟨w2.heap.size, 0, none⟩ : Addr).add q) = some v := fun q v hq => by simpa using news5 q v hq
  have HY : Hid (∀ (w5 : World) (g1 cap1 : Nat), w5.ownsRow w0.heap.size 44 3 (.slice (some ⟨g1, 0, none⟩) (on + 1) cap1) (on + 1) (cs ++ [.int .i64 c, .int .i64 op, .slice a len cap]) → (((w2.setCell ⟨w.heap.size, 1, none⟩ (.int .i64 op)).setCell ⟨w.heap.size, 2, none⟩ (.slice a len cap)).alloc (.cells #[.int .i64 c, .int .i64 op, .slice a len cap] 44)).grownBy w5 (Value.slice oa on oc).ownBlock → ((Value.slice oa on oc).ownBlock = some g1 ∨ g1 = ((w2.setCell ⟨w.heap.size, 1, none⟩ (.int .i64 op)).setCell ⟨w.heap.size, 2, none⟩ (.slice a len cap)).heap.size + 1) →
        (w5.cell? ⟨pb, 1, none⟩ = some (.slice oa on oc) ∧ w5.cell? ⟨pb, 4, none⟩ = some (.bool base) ∧ w5.cell? ⟨pb, 5, none⟩ = some (.bool fresh) ∧ w5.frozen? ⟨pb, 1, none⟩ = false ∧ w5.frozen? ⟨pb, 4, none⟩ = false ∧ w5.frozen? ⟨pb, 5, none⟩ = false) ∧ Play LB w0 B R pb (w5.setCell ⟨pb, 1, none⟩ (.slice (some ⟨g1, 0, none⟩) (on + 1) cap1)) q (some ⟨g1, 0, none⟩) (on + 1) cap1 bits forks base fresh) := hY
  have dA : (((w2.setCell ⟨w.heap.size, 1, none⟩ (.int .i64 op)).setCell ⟨w.heap.size, 2, none⟩ (.slice a len cap)).alloc (.cells #[.int .i64 c, .int .i64 op, .slice a len cap] 44)).cell? ⟨pb, 1, none⟩ = some (.slice oa on oc) := (P3.alloc _).c1
  have d1 : ((w2.setCell ⟨w.heap.size, 1, none⟩ (.int .i64 op)).setCell ⟨w.heap.size, 2, none⟩ (.slice a len cap)).cell? ⟨pb, 1, none⟩ = some (.slice oa on oc) := P3.c1
  clear hY P3 E3 h c0 c1 hfar 
  go_wp2_with fail
  go_region_law
    (first
      | (refine step_append_lies _ (by rfl) (.tmp 27) (.tmp 29) 23 (by rfl) w0.heap.size 44 ti (.agg #[.int .i64 0, .int .i64 0, .slice none 0 0]) 3 40 Tryz.underlying23 HI.out.1 HI.out.2.1 HI.out.2.2.1 HI.out.2.2.2 (by rfl) (by decide) (.slice oa on oc) on cs (by rfl) (by first | exact own5 | exact own5D) ⟨w2.heap.size, 0, none⟩ 1 1 [.int .i64 c, .int .i64 op, .slice a len cap] (by rfl) (by rfl) (by first | exact news5 | exact news5D) (by intro v hu; simp at hu; rcases hu with rfl | rfl | rfl <;> rfl) (by omega) (by unfold maxLen; omega) (by omega) (by simp; omega) _ rfl ?_; intro g1 cap1 w6 own6 gg6 hat6 hlt6; obtain ⟨⟨z1, z4, z5, y1, y4, y5⟩, hPl⟩ := HY.out w6 g1 cap1 own6 (by first | exact gg6 | exact ⟨gg6.os, gg6.tape, gg6.output, gg6.size, gg6.block⟩) (by simpa using hat6); have HP : Hid (Play LB w0 B R pb (w6.setCell ⟨pb, 1, none⟩ (.slice (some ⟨g1, 0, none⟩) (on + 1) cap1)) q (some ⟨g1, 0, none⟩) (on + 1) cap1 bits forks base fresh) := hPl; clear hPl own6 gg6 hat6 hlt6)
      | fail)
  all_goals clear HY own5 news5 own5D news5D
  all_goals go_wp2
  all_goals exact bodyPost_ret (v := .tuple #[]) (by simp [results, Tryz.results79]) rfl ⟨rfl, q, _, _, by rw [if_pos (by omega)]; omega, by rw [i2, i3]; simpa using HP.out.setN false⟩

set_option maxRecDepth 10000 in
set_option maxHeartbeats 8000000 in
theorem put_none (c : Int) (w0 w : World) (B R pb p on oc : Nat) (oa : Option Addr) (bits forks : Int) (base fresh : Bool) (h : Play LB w0 B R pb w p oa on oc bits forks base fresh) (hc1 : 4 ≤ c) (hc2 : c ≤ 11) (hc3 : c ≠ 10) (hc7 : c ≠ 7) (hp : p < 9690000) (hon : on ≤ 100000) :
    Calls Tryz.prog 79 #[.pointer (some ⟨pb, 0, none⟩), .int .i64 c] w fun e w' => PutR LB w0 B R pb p on bits forks base c e w' := by
  have hinfo : (Tryz.prog.info? 44).map (fun i => (i.zero, i.size, i.bytes)) = some (some (.agg #[.int .i64 0, .int .i64 0, .slice none 0 0]), 3, 40) := by kernel_rfl
  obtain ⟨ti, hi, hzz⟩ := Option.map_eq_some_iff.1 hinfo
  simp only [Prod.mk.injEq] at hzz
  obtain ⟨hz0, hz1, hz2⟩ := hzz
  have HI : Hid (Tryz.prog.info? 44 = some ti ∧ ti.zero = some (.agg #[.int .i64 0, .int .i64 0, .slice none 0 0]) ∧ ti.size = 3 ∧ ti.bytes = 40) := ⟨hi, hz0, hz1, hz2⟩
  clear hi hz0 hz1 hz2 hinfo
  obtain ⟨c0, c1⟩ := And.intro h.c0 h.c1
  have hl := h.lt
  have hRB := h.RB
  have hB0 := h.hB
  have hs0 := h.gr.size
  have hfar := h.far
  have i1 : ¬ c ≤ 3 := by omega
  have i2 : (c == 10) = false := by simp [hc3]
  have i3 : (c == 7) = false := by simp [hc7]
  go_enter Tryz.func79, Tryz.ntmps79
  have P3 := h.alloc (.cells #[.int .i64 c, .int .i64 0, .slice none 0 0] 44)
  have E3 : EF LB (w.alloc (.cells #[.int .i64 c, .int .i64 0, .slice none 0 0] 44)) w0.heap.size (fun b => b ≠ pb ∧ some b ≠ (Value.slice oa on oc).ownBlock) (⟨c, ⟨0, []⟩⟩ : InstT) [.int .i64 c, .int .i64 0, .slice none 0 0] := ⟨none, 0, rfl, Nat.le_refl _, ⟨⟨by show -100 ≤ c; omega, by show c ≤ 100; omega⟩, ⟨by show (-100 : Int) ≤ 0; omega, by show (0 : Int) ≤ 100; omega⟩, Nat.zero_le _, fun x hx => by cases hx⟩, .inl rfl⟩
  obtain ⟨cs, own5, news5, hs5, hY⟩ := P3.more ⟨c, ⟨0, []⟩⟩ (Nat.zero_le _) none 0 E3 44
  dsimp only at own5 news5 hY
  rw [List.length_nil] at own5 news5 hY
  have own5D : ((w.alloc (.cells #[.int .i64 c, .int .i64 0, .slice none 0 0] 44)).alloc (.cells #[.int .i64 c, .int .i64 0, .slice none 0 0] 44)).drew.ownsRow w0.heap.size 44 3 (.slice oa on oc) on cs := World.ownsRow.kept (row := none) own5 (gb_drew (gb_refl _ _)) (by cases (Value.slice oa on oc).ownBlock <;> simp)
  have news5D : ∀ (q : Nat) (v : Value), ([.int .i64 c, .int .i64 0, .slice none 0 0] : List Value)[q]? = some v → ((w.alloc (.cells #[.int .i64 c, .int .i64 0, .slice none 0 0] 44)).alloc (.cells #[.int .i64 c, .int .i64 0, .slice none 0 0] 44)).drew.cell? ((⟨w.heap.size + 1, 0, none⟩ : Addr).add q) = some v := fun q v hq => by simpa using news5 q v hq
  have HY : Hid (∀ (w5 : World) (g1 cap1 : Nat), w5.ownsRow w0.heap.size 44 3 (.slice (some ⟨g1, 0, none⟩) (on + 1) cap1) (on + 1) (cs ++ [.int .i64 c, .int .i64 0, .slice none 0 0]) → ((w.alloc (.cells #[.int .i64 c, .int .i64 0, .slice none 0 0] 44)).alloc (.cells #[.int .i64 c, .int .i64 0, .slice none 0 0] 44)).grownBy w5 (Value.slice oa on oc).ownBlock → ((Value.slice oa on oc).ownBlock = some g1 ∨ g1 = (w.alloc (.cells #[.int .i64 c, .int .i64 0, .slice none 0 0] 44)).heap.size + 1) →
        (w5.cell? ⟨pb, 1, none⟩ = some (.slice oa on oc) ∧ w5.cell? ⟨pb, 4, none⟩ = some (.bool base) ∧ w5.cell? ⟨pb, 5, none⟩ = some (.bool fresh) ∧ w5.frozen? ⟨pb, 1, none⟩ = false ∧ w5.frozen? ⟨pb, 4, none⟩ = false ∧ w5.frozen? ⟨pb, 5, none⟩ = false) ∧ Play LB w0 B R pb (w5.setCell ⟨pb, 1, none⟩ (.slice (some ⟨g1, 0, none⟩) (on + 1) cap1)) p (some ⟨g1, 0, none⟩) (on + 1) cap1 bits forks base fresh) := hY
  have dA : ((w.alloc (.cells #[.int .i64 c, .int .i64 0, .slice none 0 0] 44)).alloc (.cells #[.int .i64 c, .int .i64 0, .slice none 0 0] 44)).cell? ⟨pb, 1, none⟩ = some (.slice oa on oc) := (P3.alloc _).c1
  have d1 : (w.alloc (.cells #[.int .i64 c, .int .i64 0, .slice none 0 0] 44)).cell? ⟨pb, 1, none⟩ = some (.slice oa on oc) := P3.c1
  clear hY P3 E3 h c0 c1 hfar 
  go_wp2_with fail
  go_region_law
    (first
      | (refine step_append_lies _ (by rfl) (.tmp 27) (.tmp 29) 23 (by rfl) w0.heap.size 44 ti (.agg #[.int .i64 0, .int .i64 0, .slice none 0 0]) 3 40 Tryz.underlying23 HI.out.1 HI.out.2.1 HI.out.2.2.1 HI.out.2.2.2 (by rfl) (by decide) (.slice oa on oc) on cs (by rfl) (by first | exact own5 | exact own5D) ⟨w.heap.size + 1, 0, none⟩ 1 1 [.int .i64 c, .int .i64 0, .slice none 0 0] (by rfl) (by rfl) (by first | exact news5 | exact news5D) (by intro v hu; simp at hu; rcases hu with rfl | rfl | rfl <;> rfl) (by omega) (by unfold maxLen; omega) (by omega) (by simp; omega) _ rfl ?_; intro g1 cap1 w6 own6 gg6 hat6 hlt6; obtain ⟨⟨z1, z4, z5, y1, y4, y5⟩, hPl⟩ := HY.out w6 g1 cap1 own6 (by first | exact gg6 | exact ⟨gg6.os, gg6.tape, gg6.output, gg6.size, gg6.block⟩) (by simpa using hat6); have HP : Hid (Play LB w0 B R pb (w6.setCell ⟨pb, 1, none⟩ (.slice (some ⟨g1, 0, none⟩) (on + 1) cap1)) p (some ⟨g1, 0, none⟩) (on + 1) cap1 bits forks base fresh) := hPl; clear hPl own6 gg6 hat6 hlt6)
      | fail)
  all_goals clear HY own5 news5 own5D news5D
  all_goals go_wp2
  all_goals exact bodyPost_ret (v := .tuple #[]) (by simp [results, Tryz.results79]) rfl ⟨rfl, p, _, _, by omega, by rw [i2, i3]; simpa using HP.out.setN false⟩

set_option maxRecDepth 10000 in
set_option maxHeartbeats 8000000 in
theorem put_mps (c : Int) (w0 w : World) (B R pb p on oc : Nat) (oa : Option Addr) (bits forks : Int) (base fresh : Bool) (h : Play LB w0 B R pb w p oa on oc bits forks base fresh) (hc1 : Hid (c = 7)) (hp : p < 9690000) (hon : on ≤ 100000) :
    Calls Tryz.prog 79 #[.pointer (some ⟨pb, 0, none⟩), .int .i64 c] w fun e w' => PutR LB w0 B R pb p on bits forks base c e w' := by
  have b1 : 1 ≤ c := by have := hc1.out; omega
  have b2 : c ≤ 11 := by have := hc1.out; omega
  have hinfo : (Tryz.prog.info? 44).map (fun i => (i.zero, i.size, i.bytes)) = some (some (.agg #[.int .i64 0, .int .i64 0, .slice none 0 0]), 3, 40) := by kernel_rfl
  obtain ⟨ti, hi, hzz⟩ := Option.map_eq_some_iff.1 hinfo
  simp only [Prod.mk.injEq] at hzz
  obtain ⟨hz0, hz1, hz2⟩ := hzz
  have HI : Hid (Tryz.prog.info? 44 = some ti ∧ ti.zero = some (.agg #[.int .i64 0, .int .i64 0, .slice none 0 0]) ∧ ti.size = 3 ∧ ti.bytes = 40) := ⟨hi, hz0, hz1, hz2⟩
  clear hi hz0 hz1 hz2 hinfo
  obtain ⟨c0, c1⟩ := And.intro h.c0 h.c1
  have hl := h.lt
  have hRB := h.RB
  have hB0 := h.hB
  have hs0 := h.gr.size
  have hfar := h.far
  have i1 : ¬ c ≤ 3 := by have := hc1.out; omega
  have i2 : (c == 10) = false := by have := hc1.out; simp; omega
  have i3 : (c == 7) = true := by have := hc1.out; simp; omega
  go_enter Tryz.func79, Tryz.ntmps79
  have P3 := h.alloc (.cells #[.int .i64 c, .int .i64 0, .slice none 0 0] 44)
  have E3 : EF LB (w.alloc (.cells #[.int .i64 c, .int .i64 0, .slice none 0 0] 44)) w0.heap.size (fun b => b ≠ pb ∧ some b ≠ (Value.slice oa on oc).ownBlock) (⟨c, ⟨0, []⟩⟩ : InstT) [.int .i64 c, .int .i64 0, .slice none 0 0] := ⟨none, 0, rfl, Nat.le_refl _, ⟨⟨by show -100 ≤ c; omega, by show c ≤ 100; omega⟩, ⟨by show (-100 : Int) ≤ 0; omega, by show (0 : Int) ≤ 100; omega⟩, Nat.zero_le _, fun x hx => by cases hx⟩, .inl rfl⟩
  obtain ⟨cs, own5, news5, hs5, hY⟩ := P3.more ⟨c, ⟨0, []⟩⟩ (Nat.zero_le _) none 0 E3 44
  dsimp only at own5 news5 hY
  rw [List.length_nil] at own5 news5 hY
  have own5D : ((w.alloc (.cells #[.int .i64 c, .int .i64 0, .slice none 0 0] 44)).alloc (.cells #[.int .i64 c, .int .i64 0, .slice none 0 0] 44)).drew.ownsRow w0.heap.size 44 3 (.slice oa on oc) on cs := World.ownsRow.kept (row := none) own5 (gb_drew (gb_refl _ _)) (by cases (Value.slice oa on oc).ownBlock <;> simp)
  have news5D : ∀ (q : Nat) (v : Value), ([.int .i64 c, .int .i64 0, .slice none 0 0] : List Value)[q]? = some v → ((w.alloc (.cells #[.int .i64 c, .int .i64 0, .slice none 0 0] 44)).alloc (.cells #[.int .i64 c, .int .i64 0, .slice none 0 0] 44)).drew.cell? ((⟨w.heap.size + 1, 0, none⟩ : Addr).add q) = some v := fun q v hq => by simpa using news5 q v hq
  have HY : Hid (∀ (w5 : World) (g1 cap1 : Nat), w5.ownsRow w0.heap.size 44 3 (.slice (some ⟨g1, 0, none⟩) (on + 1) cap1) (on + 1) (cs ++ [.int .i64 c, .int .i64 0, .slice none 0 0]) → ((w.alloc (.cells #[.int .i64 c, .int .i64 0, .slice none 0 0] 44)).alloc (.cells #[.int .i64 c, .int .i64 0, .slice none 0 0] 44)).grownBy w5 (Value.slice oa on oc).ownBlock → ((Value.slice oa on oc).ownBlock = some g1 ∨ g1 = (w.alloc (.cells #[.int .i64 c, .int .i64 0, .slice none 0 0] 44)).heap.size + 1) →
        (w5.cell? ⟨pb, 1, none⟩ = some (.slice oa on oc) ∧ w5.cell? ⟨pb, 4, none⟩ = some (.bool base) ∧ w5.cell? ⟨pb, 5, none⟩ = some (.bool fresh) ∧ w5.frozen? ⟨pb, 1, none⟩ = false ∧ w5.frozen? ⟨pb, 4, none⟩ = false ∧ w5.frozen? ⟨pb, 5, none⟩ = false) ∧ Play LB w0 B R pb (w5.setCell ⟨pb, 1, none⟩ (.slice (some ⟨g1, 0, none⟩) (on + 1) cap1)) p (some ⟨g1, 0, none⟩) (on + 1) cap1 bits forks base fresh) := hY
  have dA : ((w.alloc (.cells #[.int .i64 c, .int .i64 0, .slice none 0 0] 44)).alloc (.cells #[.int .i64 c, .int .i64 0, .slice none 0 0] 44)).cell? ⟨pb, 1, none⟩ = some (.slice oa on oc) := (P3.alloc _).c1
  have d1 : (w.alloc (.cells #[.int .i64 c, .int .i64 0, .slice none 0 0] 44)).cell? ⟨pb, 1, none⟩ = some (.slice oa on oc) := P3.c1
  clear hY P3 E3 h c0 c1 hfar 
  go_wp2_with fail
  go_region_law
    (first
      | (refine step_append_lies _ (by rfl) (.tmp 27) (.tmp 29) 23 (by rfl) w0.heap.size 44 ti (.agg #[.int .i64 0, .int .i64 0, .slice none 0 0]) 3 40 Tryz.underlying23 HI.out.1 HI.out.2.1 HI.out.2.2.1 HI.out.2.2.2 (by rfl) (by decide) (.slice oa on oc) on cs (by rfl) (by first | exact own5 | exact own5D) ⟨w.heap.size + 1, 0, none⟩ 1 1 [.int .i64 c, .int .i64 0, .slice none 0 0] (by rfl) (by rfl) (by first | exact news5 | exact news5D) (by intro v hu; simp at hu; rcases hu with rfl | rfl | rfl <;> rfl) (by omega) (by unfold maxLen; omega) (by omega) (by simp; omega) _ rfl ?_; intro g1 cap1 w6 own6 gg6 hat6 hlt6; obtain ⟨⟨z1, z4, z5, y1, y4, y5⟩, hPl⟩ := HY.out w6 g1 cap1 own6 (by first | exact gg6 | exact ⟨gg6.os, gg6.tape, gg6.output, gg6.size, gg6.block⟩) (by simpa using hat6); have HP : Hid (Play LB w0 B R pb (w6.setCell ⟨pb, 1, none⟩ (.slice (some ⟨g1, 0, none⟩) (on + 1) cap1)) p (some ⟨g1, 0, none⟩) (on + 1) cap1 bits forks base fresh) := hPl; clear hPl own6 gg6 hat6 hlt6)
      | fail)
  all_goals clear HY own5 news5 own5D news5D
  all_goals go_wp2
  all_goals exact bodyPost_ret (v := .tuple #[]) (by simp [results, Tryz.results79]) rfl ⟨rfl, p, _, _, by omega, by rw [i2, i3]; simpa using (HP.out.setN false).setM true⟩
end Go.Proofs.YtcihplachlokiaaGreatDoor.Rr
