/- A play: a coil is put; any instruction. -/
import Derived.Test.YtcihplachlokiaaGreatDoorYb
import Derived.Test.YtcihplachlokiaaGreatDoorEw
import Derived.Deep.LoopGhost
import Derived.BigQuiet
namespace Go.Proofs.YtcihplachlokiaaGreatDoor.Rr
open Go.RowKit
set_option linter.unusedVariables false
variable {LB : Nat}

set_option maxRecDepth 10000 in
set_option maxHeartbeats 8000000 in
theorem put_coil (c : Int) (w0 w : World) (B R pb p on oc : Nat) (oa : Option Addr) (bits forks : Int) (base fresh : Bool) (h : Play LB w0 B R pb w p oa on oc bits forks base fresh) (hc1 : Hid (c = 10)) (hp : p < 9690000) (hon : on ≤ 100000) :
    Calls Tryz.prog 79 #[.pointer (some ⟨pb, 0, none⟩), .int .i64 c] w fun e w' => PutR LB w0 B R pb p on bits forks base c e w' := by
  have b1 : 1 ≤ c := by have := hc1.out; omega
  have b2 : c ≤ 11 := by have := hc1.out; omega
  have hinfo : (Tryz.prog.info? 44).map (fun i => (i.zero, i.size, i.bytes)) = some (some (.agg #[.int .i64 0, .int .i64 0, .slice none 0 0]), 3, 40) := by kernel_rfl
  obtain ⟨ti, hi, hzz⟩ := Option.map_eq_some_iff.1 hinfo
  simp only [Prod.mk.injEq] at hzz
  obtain ⟨hz0, hz1, hz2⟩ := hzz
  have HI : Hid (Tryz.prog.info? 44 = some ti ∧ ti.zero = some (.agg #[.int .i64 0, .int .i64 0, .slice none 0 0]) ∧ ti.size = 3 ∧ ti.bytes = 40) := ⟨hi, hz0, hz1, hz2⟩
  clear hi hz0 hz1 hz2 hinfo
  obtain ⟨c0, c1⟩ := And.intro h.c0 h.c1
  have hl := h.lt
  have hRB := h.RB
  have hB0 := h.hB
  have hs0 := h.gr.size
  have hfar := h.far
  have i1 : ¬ c ≤ 3 := by have := hc1.out; omega
  have i2 : (c == 10) = true := by have := hc1.out; simp; omega
  have i3 : (c == 7) = false := by have := hc1.out; simp; omega
  go_enter Tryz.func79, Tryz.ntmps79
  go_wp2_with fail
  refine (coil_r B R p _ (h.rd.alloc _) (by omega)).mono ?_
  rintro e w2 ⟨⟨op, a, len, cap, xs, rfl, o1, o2, l1, cc1, L1, bd1, O2⟩, ⟨q, hq, h2⟩, g2⟩
  have Hul : Hid (len = xs.length) := l1
  have kA : (w.alloc (.cells #[.int .i64 c, .int .i64 0, .slice none 0 0] 44)).heap[w.heap.size]? = some (.cells #[.int .i64 c, .int .i64 0, .slice none 0 0] 44 (0, 0)) := heap_alloc_last w _
  obtain ⟨⟨k0, k1, k2⟩, j0, j1, j2⟩ := three_at kA g2 (by simp; omega)
  have hi2 : w.heap.size < w2.heap.size := by have := g2.size; simp at this; omega
  have G3 : w.grownBy ((w2.setCell ⟨w.heap.size, 1, none⟩ (.int .i64 op)).setCell ⟨w.heap.size, 2, none⟩ (.slice a len cap)) (some R) := gb_put (gb_put (gb_pick (gb_alloc (gb_refl _ _) _) g2) (Nat.le_refl _)) (Nat.le_refl _)
  have P3 := h.move G3 ((h2.set w.heap.size 1 (.int .i64 op) (by omega)).set w.heap.size 2 (.slice a len cap) (by omega))
  have e1 : w2.cell? ⟨pb, 1, none⟩ = some (.slice oa on oc) := (h.move (gb_pick (gb_alloc (gb_refl _ _) _) g2) h2).c1
  have E3 : EF LB ((w2.setCell ⟨w.heap.size, 1, none⟩ (.int .i64 op)).setCell ⟨w.heap.size, 2, none⟩ (.slice a len cap)) w0.heap.size (fun b => b ≠ pb ∧ some b ≠ (Value.slice oa on oc).ownBlock) (⟨c, ⟨op, xs⟩⟩ : InstT) [.int .i64 c, .int .i64 op, .slice a xs.length cap] :=
    EF.of (H' := w.heap.size + 1) (x := ⟨c, ⟨op, xs⟩⟩) (by show xs.length ≤ cap; omega) ⟨⟨by show -100 ≤ c; omega, by show c ≤ 100; omega⟩, ⟨o1, o2⟩, by show xs.length ≤ LB + 9; omega, bd1⟩ (own_set2 _ _ (by simpa using O2) (by omega)) (by omega) (fun b hb => hfar b (by omega))
  have x8 : xs.length ≤ 8 := by omega
  clear l1 L1 O2 g2 kA h2 G3 o1 o2 bd1 cc1
  obtain ⟨cs, own5, news5, hs5, hY⟩ := P3.more ⟨c, ⟨op, xs⟩⟩ x8 a cap E3 44
  dsimp only at own5 news5 hY
  rw [← Hul.out] at own5 news5 hY
  have own5D : (((w2.setCell ⟨w.heap.size, 1, none⟩ (.int .i64 op)).setCell ⟨w.heap.size, 2, none⟩ (.slice a len cap)).alloc (.cells #[.int .i64 c, .int .i64 op, .slice a len cap] 44)).drew.ownsRow w0.heap.size 44 3 (.slice oa on oc) on cs := World.ownsRow.kept (row := none) own5 (gb_drew (gb_refl _ _)) (by cases (Value.slice oa on oc).ownBlock <;> simp)
  have news5D : ∀ (q : Nat) (v : Value), ([.int .i64 c, .int .i64 op, .slice a len cap] : List Value)[q]? = some v → (((w2.setCell ⟨w.heap.size, 1, none⟩ (.int .i64 op)).setCell ⟨w.heap.size, 2, none⟩ (.slice a len cap)).alloc (.cells #[.int .i64 c, .int .i64 op, .slice a len cap] 44)).drew.cell? ((⟨w2.heap.size, 0, none⟩ : Addr).add q) = some v := fun q v hq => by simpa using news5 q v hq
  have HY : Hid (∀ (w5 : World) (g1 cap1 : Nat), w5.ownsRow w0.heap.size 44 3 (.slice (some ⟨g1, 0, none⟩) (on + 1) cap1) (on + 1) (cs ++ [.int .i64 c, .int .i64 op, .slice a len cap]) → (((w2.setCell ⟨w.heap.size, 1, none⟩ (.int .i64 op)).setCell ⟨w.heap.size, 2, none⟩ (.slice a len cap)).alloc (.cells #[.int .i64 c, .int .i64 op, .slice a len cap] 44)).grownBy w5 (Value.slice oa on oc).ownBlock → ((Value.slice oa on oc).ownBlock = some g1 ∨ g1 = ((w2.setCell ⟨w.heap.size, 1, none⟩ (.int .i64 op)).setCell ⟨w.heap.size, 2, none⟩ (.slice a len cap)).heap.size + 1) →
        (w5.cell? ⟨pb, 1, none⟩ = some (.slice oa on oc) ∧ w5.cell? ⟨pb, 4, none⟩ = some (.bool base) ∧ w5.cell? ⟨pb, 5, none⟩ = some (.bool fresh) ∧ w5.frozen? ⟨pb, 1, none⟩ = false ∧ w5.frozen? ⟨pb, 4, none⟩ = false ∧ w5.frozen? ⟨pb, 5, none⟩ = false) ∧ Play LB w0 B R pb (w5.setCell ⟨pb, 1, none⟩ (.slice (some ⟨g1, 0, none⟩) (on + 1) cap1)) q (some ⟨g1, 0, none⟩) (on + 1) cap1 bits forks base fresh) := hY
  have dA : (((w2.setCell ⟨w.heap.size, 1, none⟩ (.int .i64 op)).setCell ⟨w.heap.size, 2, none⟩ (.slice a len cap)).alloc (.cells #[.int .i64 c, .int .i64 op, .slice a len cap] 44)).cell? ⟨pb, 1, none⟩ = some (.slice oa on oc) := (P3.alloc _).c1
  have d1 : ((w2.setCell ⟨w.heap.size, 1, none⟩ (.int .i64 op)).setCell ⟨w.heap.size, 2, none⟩ (.slice a len cap)).cell? ⟨pb, 1, none⟩ = some (.slice oa on oc) := P3.c1
  clear hY P3 E3 h c0 c1 hfar 
  go_wp2_with fail
  go_region_law
    (first
      | (refine step_append_lies _ (by rfl) (.tmp 27) (.tmp 29) 23 (by rfl) w0.heap.size 44 ti (.agg #[.int .i64 0, .int .i64 0, .slice none 0 0]) 3 40 Tryz.underlying23 HI.out.1 HI.out.2.1 HI.out.2.2.1 HI.out.2.2.2 (by rfl) (by decide) (.slice oa on oc) on cs (by rfl) (by first | exact own5 | exact own5D) ⟨w2.heap.size, 0, none⟩ 1 1 [.int .i64 c, .int .i64 op, .slice a len cap] (by rfl) (by rfl) (by first | exact news5 | exact news5D) (by intro v hu; simp at hu; rcases hu with rfl | rfl | rfl <;> rfl) (by omega) (by unfold maxLen; omega) (by omega) (by simp; omega) _ rfl ?_; intro g1 cap1 w6 own6 gg6 hat6 hlt6; obtain ⟨⟨z1, z4, z5, y1, y4, y5⟩, hPl⟩ := HY.out w6 g1 cap1 own6 (by first | exact gg6 | exact ⟨gg6.os, gg6.tape, gg6.output, gg6.size, gg6.block⟩) (by simpa using hat6); have HP : Hid (Play LB w0 B R pb (w6.setCell ⟨pb, 1, none⟩ (.slice (some ⟨g1, 0, none⟩) (on + 1) cap1)) q (some ⟨g1, 0, none⟩) (on + 1) cap1 bits forks base fresh) := hPl; clear hPl own6 gg6 hat6 hlt6)
      | fail)
  all_goals clear HY own5 news5 own5D news5D
  all_goals go_wp2
  all_goals exact bodyPost_ret (v := .tuple #[]) (by simp [results, Tryz.results79]) rfl ⟨rfl, q, _, _, by rw [if_pos (by have := hc1.out; omega)]; omega, by rw [i2, i3]; simpa using (HP.out.setN true).setM true⟩

theorem put_r (c : Int) (w0 w : World) (B R pb p on oc : Nat) (oa : Option Addr) (bits forks : Int) (base fresh : Bool) (h : Play LB w0 B R pb w p oa on oc bits forks base fresh) (hc1 : 1 ≤ c) (hc2 : c ≤ 11) (hp : p < 9690000) (hon : on ≤ 100000) :
    Calls Tryz.prog 79 #[.pointer (some ⟨pb, 0, none⟩), .int .i64 c] w fun e w' => PutR LB w0 B R pb p on bits forks base c e w' := by
  by_cases h3 : c ≤ 3
  · exact put_contact c w0 w B R pb p on oc oa bits forks base fresh h hc1 h3 hp hon
  by_cases h7 : c = 7
  · exact put_mps c w0 w B R pb p on oc oa bits forks base fresh h h7 hp hon
  by_cases h10 : c = 10
  · exact put_coil c w0 w B R pb p on oc oa bits forks base fresh h h10 hp hon
  · exact put_none c w0 w B R pb p on oc oa bits forks base fresh h (by omega) hc2 h10 h7 hp hon
/-- What a put leaves, whatever the marks. -/
def PutD (LB : Nat) (w0 : World) (B R pb p on d : Nat) (bits forks : Int) (e : Ending) (w' : World) : Prop :=
  e = .returned (.tuple #[]) ∧ ∃ (q : Nat) (oa : Option Addr) (oc : Nat) (base fresh : Bool), q ≤ p + d ∧ Play LB w0 B R pb w' q oa (on + 1) oc bits forks base fresh
theorem put_d (c : Int) (d : Nat) (w0 w : World) (B R pb p on oc : Nat) (oa : Option Addr) (bits forks : Int) (base fresh : Bool) (h : Play LB w0 B R pb w p oa on oc bits forks base fresh) (hc1 : 1 ≤ c) (hc2 : c ≤ 11) (hp : p < 9690000) (hon : on ≤ 100000) (hd : (if c ≤ 3 ∨ c = 10 then 60 else 0) ≤ d) :
    Calls Tryz.prog 79 #[.pointer (some ⟨pb, 0, none⟩), .int .i64 c] w fun e w' => PutD LB w0 B R pb p on d bits forks e w' := by
  refine (put_r c w0 w B R pb p on oc oa bits forks base fresh h hc1 hc2 hp hon).mono ?_
  rintro e w' ⟨he, q, oa', oc', hq, hP⟩
  exact ⟨he, q, oa', oc', _, _, by omega, hP⟩
end Go.Proofs.YtcihplachlokiaaGreatDoor.Rr
/- A play: the bits are brought down to one, and a coil is put. -/
namespace Go.Proofs.YtcihplachlokiaaGreatDoor.Rr
open Go.RowKit
set_option linter.unusedVariables false
variable {LB : Nat}

def CloseR (LB : Nat) (w0 : World) (B R pb p on : Nat) (forks : Int) (e : Ending) (w' : World) : Prop :=
  e = .returned (.tuple #[]) ∧ ∃ (q : Nat) (oa : Option Addr) (n oc : Nat) (base fresh : Bool), q ≤ p + 80 ∧ on ≤ n ∧ n ≤ on + 17 ∧ Play LB w0 B R pb w' q oa n oc 1 forks base fresh

set_option maxRecDepth 10000 in
set_option maxHeartbeats 8000000 in
theorem close_r (w0 w : World) (B R pb p on oc : Nat) (oa : Option Addr) (bits forks : Int) (base fresh : Bool) (h : Play LB w0 B R pb w p oa on oc bits forks base fresh) (hb1 : 1 ≤ bits) (hb2 : bits ≤ 16) (hp : p < 9680000) (hon : on ≤ 90000) :
    Calls Tryz.prog 81 #[.pointer (some ⟨pb, 0, none⟩)] w fun e w' => CloseR LB w0 B R pb p on forks e w' := by
  have H0 : Hid (Play LB w0 B R pb w p oa on oc bits forks base fresh) := h
  clear h
  go_enter Tryz.func81, Tryz.ntmps81
  go_wp2
  go_loopg [] bits.toNat (fun gk wr => ∃ (q : Nat) (oa : Option Addr) (n oc : Nat) (bt : Int) (base fresh : Bool), (1 ≤ bt ∧ bt ≤ gk ∧ bt ≤ bits) ∧ (n : Int) + bt = on + bits ∧ (q : Int) + bt ≤ p + bits ∧ Hid (Play LB w0 B R pb wr q oa n oc bt forks base fresh))
  case atStart => exact ⟨p, oa, on, oc, bits, base, fresh, by omega, by omega, by omega, H0⟩
  case round =>
    clear H0
    obtain ⟨q, oa1, n, oc1, bt, ba, fr, hbt, hn, hq, HP⟩ := hrel
    have c0 := HP.out.c0
    have c2 := HP.out.c2
    have c4 := HP.out.c4
    have c5 := HP.out.c5
    by_cases h1 : bt = 1
    · subst h1
      cases fr with
      | true =>
        go_wp2
        go_end0
        exact ⟨rfl, q, oa1, n, oc1, ba, true, by omega, by omega, by omega, HP.out⟩
      | false =>
        have HK : Hid (Calls Tryz.prog 79 #[.pointer (some ⟨pb, 0, none⟩), .int .i64 10] wr fun e w' => PutD LB w0 B R pb q n 60 1 forks e w') := put_d 10 60 _ _ _ _ _ _ _ _ _ _ _ _ _ HP.out (by omega) (by omega) (by omega) (by omega) (by simp)
        clear HP
        go_wp2_with fail
        refine HK.out.mono ?_
        rintro e w2 ⟨rfl, q2, oa2, oc2, ba2, fr2, hq2, hP2⟩
        have HP2 : Hid (Play LB w0 B R pb w2 q2 oa2 (n + 1) oc2 1 forks ba2 fr2) := hP2
        clear hP2 c0 c2 c4 c5
        go_wp2
        go_end0
        exact ⟨rfl, q2, oa2, n + 1, oc2, ba2, fr2, by omega, by omega, by omega, HP2.out⟩
    · have i1 : (1 : Int) < bt := by omega
      have HN : Hid (∀ W q' c, Play LB w0 B R pb W q' oa1 n oc1 bt forks ba fr → q' ≤ q + 1 → (c = 4 ∨ c = 5) → Calls Tryz.prog 79 #[.pointer (some ⟨pb, 0, none⟩), .int .i64 c] W fun e w' => PutD LB w0 B R pb q' n 0 bt forks e w') := fun W q' c hW hq' hc => put_d c 0 _ _ _ _ _ _ _ _ _ _ _ _ _ hW (by omega) (by omega) (by omega) (by omega) (by rw [if_neg (by omega)]; omega)
      have HR : Hid (Calls Tryz.prog 13 #[.pointer (some ⟨R, 0, none⟩), .int .i64 2] wr fun e w' => ∃ r : Nat, r < 2 ∧ e = .returned (.int .i64 r) ∧ Play LB w0 B R pb w' (q + 1) oa1 n oc1 bt forks ba fr) := (pick_r B R q 2 wr HP.out.rd (by omega) (by omega) (by omega)).mono fun e w' ⟨r, r1, e1, h1, g1⟩ => ⟨r, by omega, e1, HP.out.move g1 h1⟩
      cases ba with
      | true =>
        by_cases h2 : bt = 2
        · have H2 : Hid (bt = 2) := h2
          have j2 : (bt == 2) = true := by simp [h2]
          clear h2
          have HK : Hid (Calls Tryz.prog 79 #[.pointer (some ⟨pb, 0, none⟩), .int .i64 4] wr fun e w' => PutD LB w0 B R pb q n 0 bt forks e w') := HN.out wr q 4 HP.out (by omega) (by omega)
          clear HN HR HP
          go_wp2_with fail
          refine HK.out.mono ?_
          rintro e w3 ⟨rfl, q3, oa3, oc3, ba3, fr3, hq3, hP3⟩
          have HP3 : Hid (Play LB w0 B R pb w3 q3 oa3 (n + 1) oc3 bt forks ba3 fr3) := hP3
          have d2 := hP3.c2
          have f2 := hP3.fz 2
          clear hP3 HK c0 c2 c4 c5
          go_wp2
          go_roundg (gk - 1)
          case measure => omega
          case rel => exact ⟨q3, oa3, n + 1, oc3, bt - 1, ba3, fr3, by omega, by omega, by omega, HP3.out.setB _⟩
        · have j2 : (bt == 2) = false := by simp [h2]
          clear h2
          go_wp2_with fail
          refine HR.out.mono ?_
          rintro e w2 ⟨r, hr, rfl, hP2⟩
          have HP2 : Hid (Play LB w0 B R pb w2 (q + 1) oa1 n oc1 bt forks true fr) := hP2
          clear hP2
          have hr2 : r = 0 ∨ r = 1 := by omega
          rcases hr2 with rfl | rfl
          · have HK : Hid (Calls Tryz.prog 79 #[.pointer (some ⟨pb, 0, none⟩), .int .i64 4] w2 fun e w' => PutD LB w0 B R pb (q + 1) n 0 bt forks e w') := HN.out w2 (q + 1) 4 HP2.out (by omega) (by omega)
            clear HN HR HP
            go_wp2_with fail
            refine HK.out.mono ?_
            rintro e w3 ⟨rfl, q3, oa3, oc3, ba3, fr3, hq3, hP3⟩
            have HP3 : Hid (Play LB w0 B R pb w3 q3 oa3 (n + 1) oc3 bt forks ba3 fr3) := hP3
            have d2 := hP3.c2
            have f2 := hP3.fz 2
            clear hP3 HK c0 c2 c4 c5
            go_wp2
            go_roundg (gk - 1)
            case measure => omega
            case rel => exact ⟨q3, oa3, n + 1, oc3, bt - 1, ba3, fr3, by omega, by omega, by omega, HP3.out.setB _⟩
          · have HK : Hid (Calls Tryz.prog 79 #[.pointer (some ⟨pb, 0, none⟩), .int .i64 5] w2 fun e w' => PutD LB w0 B R pb (q + 1) n 0 bt forks e w') := HN.out w2 (q + 1) 5 HP2.out (by omega) (by omega)
            clear HN HR HP
            go_wp2_with fail
            refine HK.out.mono ?_
            rintro e w3 ⟨rfl, q3, oa3, oc3, ba3, fr3, hq3, hP3⟩
            have HP3 : Hid (Play LB w0 B R pb w3 q3 oa3 (n + 1) oc3 bt forks ba3 fr3) := hP3
            have d2 := hP3.c2
            have f2 := hP3.fz 2
            clear hP3 HK c0 c2 c4 c5
            go_wp2
            go_roundg (gk - 1)
            case measure => omega
            case rel => exact ⟨q3, oa3, n + 1, oc3, bt - 1, ba3, fr3, by omega, by omega, by omega, HP3.out.setB _⟩
      | false =>
        go_wp2_with fail
        refine HR.out.mono ?_
        rintro e w2 ⟨r, hr, rfl, hP2⟩
        have HP2 : Hid (Play LB w0 B R pb w2 (q + 1) oa1 n oc1 bt forks false fr) := hP2
        clear hP2
        have hr2 : r = 0 ∨ r = 1 := by omega
        rcases hr2 with rfl | rfl
        · have HK : Hid (Calls Tryz.prog 79 #[.pointer (some ⟨pb, 0, none⟩), .int .i64 4] w2 fun e w' => PutD LB w0 B R pb (q + 1) n 0 bt forks e w') := HN.out w2 (q + 1) 4 HP2.out (by omega) (by omega)
          clear HN HR HP
          go_wp2_with fail
          refine HK.out.mono ?_
          rintro e w3 ⟨rfl, q3, oa3, oc3, ba3, fr3, hq3, hP3⟩
          have HP3 : Hid (Play LB w0 B R pb w3 q3 oa3 (n + 1) oc3 bt forks ba3 fr3) := hP3
          have d2 := hP3.c2
          have f2 := hP3.fz 2
          clear hP3 HK c0 c2 c4 c5
          go_wp2
          go_roundg (gk - 1)
          case measure => omega
          case rel => exact ⟨q3, oa3, n + 1, oc3, bt - 1, ba3, fr3, by omega, by omega, by omega, HP3.out.setB _⟩
        · have HK : Hid (Calls Tryz.prog 79 #[.pointer (some ⟨pb, 0, none⟩), .int .i64 5] w2 fun e w' => PutD LB w0 B R pb (q + 1) n 0 bt forks e w') := HN.out w2 (q + 1) 5 HP2.out (by omega) (by omega)
          clear HN HR HP
          go_wp2_with fail
          refine HK.out.mono ?_
          rintro e w3 ⟨rfl, q3, oa3, oc3, ba3, fr3, hq3, hP3⟩
          have HP3 : Hid (Play LB w0 B R pb w3 q3 oa3 (n + 1) oc3 bt forks ba3 fr3) := hP3
          have d2 := hP3.c2
          have f2 := hP3.fz 2
          clear hP3 HK c0 c2 c4 c5
          go_wp2
          go_roundg (gk - 1)
          case measure => omega
          case rel => exact ⟨q3, oa3, n + 1, oc3, bt - 1, ba3, fr3, by omega, by omega, by omega, HP3.out.setB _⟩
end Go.Proofs.YtcihplachlokiaaGreatDoor.Rr
/- A play: one step. -/
namespace Go.Proofs.YtcihplachlokiaaGreatDoor.Rr
open Go.RowKit
set_option linter.unusedVariables false
variable {LB : Nat}

/-- An instruction of a drawn list, in its cells. -/
theorem RD.cell {W : World} {H pb : Nat} {v : Value} {xs : List InstT} (h : RD LB W H pb v xs) (j : Nat) (x : InstT) (hx : xs[j]? = some x) :
    ∃ g cap c, v = .slice (some ⟨g, 0, none⟩) xs.length cap ∧ xs.length ≤ cap ∧ H ≤ g ∧ EF LB W H (fun b => b ≠ pb ∧ some b ≠ some g) x c ∧ (∀ i u, c[i]? = some u → W.cell? ⟨g, j * 3 + i, none⟩ = some u) ∧ ∀ q, W.frozen? ⟨g, q, none⟩ = false := by
  obtain ⟨h1, cs, h2, h3⟩ := h
  have hj := (List.getElem?_eq_some_iff.1 hx).1
  rcases id h3.2 with ⟨_, hn⟩ | ⟨g, cap, cur, rfl, hb, hg, hnc, hcm, hsz, hcur⟩
  · omega
  obtain ⟨f, c, F1, F2, cs1, cs2, _, e2, e3, e4, hr⟩ := h2.at j x hx
  refine ⟨g, cap, c, rfl, hnc, hb, hr.2, fun i u hi => ?_, fun q => h3.frozenAt q⟩
  have hc := h3.cells (g := g) rfl (j * 3 + i) u (by
    rw [e2, List.append_assoc, List.getElem?_append_right (by omega), e3, List.getElem?_append_left (by have := (List.getElem?_eq_some_iff.1 hi).1; omega)]
    rw [show j * 3 + i - j * 3 = i by omega]
    exact hi)
  have : (⟨g, 0, none⟩ : Addr).add (j * 3 + i) = ⟨g, j * 3 + i, none⟩ := by simp [Addr.add]; omega
  rw [this] at hc
  exact hc
theorem Play.last {w0 w : World} {B R pb p n oc : Nat} {oa : Option Addr} {bits forks : Int} {base fresh : Bool} (h : Play LB w0 B R pb w p oa (n + 1) oc bits forks base fresh) : n + 1 ≤ oc ∧ ∃ (g : Nat) (x : Int), oa = some ⟨g, 0, none⟩ ∧ w.cell? ⟨g, n * 3, none⟩ = some (.int .i64 x) := by
  obtain ⟨xs, e, hx, _⟩ := h.row
  obtain ⟨g, cap, c, h1, h2, _, ⟨a, cp, rfl, _⟩, h4, _⟩ := hx.cell n _ (List.getElem?_eq_getElem (by omega))
  simp only [Value.slice.injEq] at h1
  obtain ⟨rfl, _, rfl⟩ := h1
  exact ⟨by omega, g, _, rfl, h4 0 _ rfl⟩
theorem Play.drewN {w0 w : World} {B R pb p n oc : Nat} {oa : Option Addr} {bits forks : Int} {base fresh : Bool} (h : Play LB w0 B R pb w p oa n oc bits forks base fresh) (k : Nat) : Play LB w0 B R pb (w.drewN k) p oa n oc bits forks base fresh := h.move (gb_drewN (gb_refl _ _) k) (h.rd.kept (gb_drewN (gb_refl w none) k) (fun j hj => by cases hj))
def StepR (LB : Nat) (w0 : World) (B R pb p on : Nat) (e : Ending) (w' : World) : Prop :=
  e = .returned (.tuple #[]) ∧ ∃ (q : Nat) (oa : Option Addr) (n oc : Nat) (bits forks : Int) (base fresh : Bool), q ≤ p + 150 ∧ on ≤ n ∧ n ≤ on + 18 ∧ (1 ≤ bits ∧ bits ≤ 16) ∧ (0 ≤ forks ∧ forks ≤ 8) ∧ Play LB w0 B R pb w' q oa n oc bits forks base fresh

set_option maxRecDepth 10000 in
set_option maxHeartbeats 8000000 in
theorem step_r (w0 w : World) (B R pb p on oc : Nat) (oa : Option Addr) (bits forks : Int) (base fresh : Bool) (h : Play LB w0 B R pb w p oa on oc bits forks base fresh) (hb1 : 1 ≤ bits) (hb2 : bits ≤ 16) (hk1 : 0 ≤ forks) (hk2 : forks ≤ 8) (hp : p < 9670000) (hon : on ≤ 80000) :
    Calls Tryz.prog 80 #[.pointer (some ⟨pb, 0, none⟩)] w fun e w' => StepR LB w0 B R pb p on e w' := by
  have HR : Hid (Calls Tryz.prog 13 #[.pointer (some ⟨R, 0, none⟩), .int .i64 11] w fun e w' => ∃ r : Nat, r < 11 ∧ e = .returned (.int .i64 r) ∧ Play LB w0 B R pb w' (p + 1) oa on oc bits forks base fresh) := (pick_r B R p 11 w h.rd (by omega) (by omega) (by omega)).mono fun e w' ⟨r, r1, e1, h1, g1⟩ => ⟨r, by omega, e1, h.move g1 h1⟩
  have c0 := h.c0
  have c4 := h.c4
  clear h
  cases base
  · go_enter Tryz.func80, Tryz.ntmps80
    go_wp2_with fail
    refine HR.out.mono ?_
    rintro e w2 ⟨r, hr, rfl, hP2⟩
    have HPL : Hid (Play LB w0 B R pb w2 (p + 1) oa on oc bits forks false fresh) := hP2
    have a0 := hP2.c0
    have a2 := hP2.c2
    have a3 := hP2.c3
    clear hP2 HR c0 c4
    have hr2 : r = 0 ∨ r = 1 ∨ r = 2 ∨ r = 3 ∨ r = 4 ∨ r = 5 ∨ r = 6 ∨ r = 7 ∨ r = 8 ∨ r = 9 ∨ r = 10 := by omega
    rcases hr2 with rfl | rfl | rfl | rfl | rfl | rfl | rfl | rfl | rfl | rfl | rfl
    · by_cases i1 : bits < 16
      · have HK : Hid (Calls Tryz.prog 79 #[.pointer (some ⟨pb, 0, none⟩), .int .i64 1] w2 fun e w' => PutD LB w0 B R pb (p + 1) on 60 bits forks e w') := put_d 1 60 _ _ _ _ _ _ _ _ _ _ _ _ _ HPL.out (by omega) (by omega) (by omega) (by omega) (by split <;> omega)
        clear HPL
        go_wp2_with fail
        refine HK.out.mono ?_
        rintro e w7 ⟨rfl, q7, oa7, oc7, ba7, fr7, hq7, hP7⟩
        have HP7 : Hid (Play LB w0 B R pb w7 q7 oa7 (on + 1) oc7 bits forks ba7 fr7) := hP7
        have x2 := hP7.c2
        have x3 := hP7.c3
        have y2 := hP7.fz 2
        have y3 := hP7.fz 3
        clear hP7 HK a0 a2 a3
        go_wp2
        go_end0
        exact ⟨rfl, q7, oa7, on + 1, oc7, bits + 1, forks, ba7, fr7, by omega, by omega, by omega, by omega, by omega, HP7.out.setB _⟩
      · go_wp2
        go_end0
        exact ⟨rfl, p + 1, oa, on, oc, bits, forks, _, fresh, by omega, by omega, by omega, by omega, by omega, HPL.out⟩
    · by_cases i1 : bits < 16
      · have HK : Hid (Calls Tryz.prog 79 #[.pointer (some ⟨pb, 0, none⟩), .int .i64 1] w2 fun e w' => PutD LB w0 B R pb (p + 1) on 60 bits forks e w') := put_d 1 60 _ _ _ _ _ _ _ _ _ _ _ _ _ HPL.out (by omega) (by omega) (by omega) (by omega) (by split <;> omega)
        clear HPL
        go_wp2_with fail
        refine HK.out.mono ?_
        rintro e w7 ⟨rfl, q7, oa7, oc7, ba7, fr7, hq7, hP7⟩
        have HP7 : Hid (Play LB w0 B R pb w7 q7 oa7 (on + 1) oc7 bits forks ba7 fr7) := hP7
        have x2 := hP7.c2
        have x3 := hP7.c3
        have y2 := hP7.fz 2
        have y3 := hP7.fz 3
        clear hP7 HK a0 a2 a3
        go_wp2
        go_end0
        exact ⟨rfl, q7, oa7, on + 1, oc7, bits + 1, forks, ba7, fr7, by omega, by omega, by omega, by omega, by omega, HP7.out.setB _⟩
      · go_wp2
        go_end0
        exact ⟨rfl, p + 1, oa, on, oc, bits, forks, _, fresh, by omega, by omega, by omega, by omega, by omega, HPL.out⟩
    · have HK : Hid (Calls Tryz.prog 79 #[.pointer (some ⟨pb, 0, none⟩), .int .i64 2] w2 fun e w' => PutD LB w0 B R pb (p + 1) on 60 bits forks e w') := put_d 2 60 _ _ _ _ _ _ _ _ _ _ _ _ _ HPL.out (by omega) (by omega) (by omega) (by omega) (by split <;> omega)
      clear HPL
      go_wp2_with fail
      refine HK.out.mono ?_
      rintro e w7 ⟨rfl, q7, oa7, oc7, ba7, fr7, hq7, hP7⟩
      have HP7 : Hid (Play LB w0 B R pb w7 q7 oa7 (on + 1) oc7 bits forks ba7 fr7) := hP7
      have x2 := hP7.c2
      have x3 := hP7.c3
      have y2 := hP7.fz 2
      have y3 := hP7.fz 3
      clear hP7 HK a0 a2 a3
      go_wp2
      go_end0
      exact ⟨rfl, q7, oa7, on + 1, oc7, bits, forks, ba7, fr7, by omega, by omega, by omega, by omega, by omega, HP7.out⟩
    · have HK : Hid (Calls Tryz.prog 79 #[.pointer (some ⟨pb, 0, none⟩), .int .i64 2] w2 fun e w' => PutD LB w0 B R pb (p + 1) on 60 bits forks e w') := put_d 2 60 _ _ _ _ _ _ _ _ _ _ _ _ _ HPL.out (by omega) (by omega) (by omega) (by omega) (by split <;> omega)
      clear HPL
      go_wp2_with fail
      refine HK.out.mono ?_
      rintro e w7 ⟨rfl, q7, oa7, oc7, ba7, fr7, hq7, hP7⟩
      have HP7 : Hid (Play LB w0 B R pb w7 q7 oa7 (on + 1) oc7 bits forks ba7 fr7) := hP7
      have x2 := hP7.c2
      have x3 := hP7.c3
      have y2 := hP7.fz 2
      have y3 := hP7.fz 3
      clear hP7 HK a0 a2 a3
      go_wp2
      go_end0
      exact ⟨rfl, q7, oa7, on + 1, oc7, bits, forks, ba7, fr7, by omega, by omega, by omega, by omega, by omega, HP7.out⟩
    · by_cases i1 : (1 : Int) ≤ bits
      · have HK : Hid (Calls Tryz.prog 79 #[.pointer (some ⟨pb, 0, none⟩), .int .i64 3] w2 fun e w' => PutD LB w0 B R pb (p + 1) on 60 bits forks e w') := put_d 3 60 _ _ _ _ _ _ _ _ _ _ _ _ _ HPL.out (by omega) (by omega) (by omega) (by omega) (by split <;> omega)
        clear HPL
        go_wp2_with fail
        refine HK.out.mono ?_
        rintro e w7 ⟨rfl, q7, oa7, oc7, ba7, fr7, hq7, hP7⟩
        have HP7 : Hid (Play LB w0 B R pb w7 q7 oa7 (on + 1) oc7 bits forks ba7 fr7) := hP7
        have x2 := hP7.c2
        have x3 := hP7.c3
        have y2 := hP7.fz 2
        have y3 := hP7.fz 3
        clear hP7 HK a0 a2 a3
        go_wp2
        go_end0
        exact ⟨rfl, q7, oa7, on + 1, oc7, bits, forks, ba7, fr7, by omega, by omega, by omega, by omega, by omega, HP7.out⟩
      · exact absurd hb1 i1
    · by_cases i1 : (1 : Int) ≤ bits
      · have HQ : Hid (Calls Tryz.prog 13 #[.pointer (some ⟨R, 0, none⟩), .int .i64 2] w2 fun e w' => ∃ r : Nat, r < 2 ∧ e = .returned (.int .i64 r) ∧ Play LB w0 B R pb w' (p + 1 + 1) oa on oc bits forks false fresh) := (pick_r B R (p + 1) 2 w2 HPL.out.rd (by omega) (by omega) (by omega)).mono fun e w' ⟨r, r1, e1, h1, g1⟩ => ⟨r, by omega, e1, HPL.out.move g1 h1⟩
        clear HPL
        go_wp2_with fail
        refine HQ.out.mono ?_
        rintro e w3 ⟨s, hs, rfl, hP3⟩
        have HPL : Hid (Play LB w0 B R pb w3 (p + 1 + 1) oa on oc bits forks false fresh) := hP3
        clear a0 a2 a3 HQ
        have a0 := hP3.c0
        have a2 := hP3.c2
        have a3 := hP3.c3
        clear hP3
        have hs2 : s = 0 ∨ s = 1 := by omega
        rcases hs2 with rfl | rfl
        · have HK : Hid (Calls Tryz.prog 79 #[.pointer (some ⟨pb, 0, none⟩), .int .i64 6] w3 fun e w' => PutD LB w0 B R pb (p + 1 + 1) on 60 bits forks e w') := put_d 6 60 _ _ _ _ _ _ _ _ _ _ _ _ _ HPL.out (by omega) (by omega) (by omega) (by omega) (by split <;> omega)
          clear HPL
          go_wp2_with fail
          refine HK.out.mono ?_
          rintro e w7 ⟨rfl, q7, oa7, oc7, ba7, fr7, hq7, hP7⟩
          have HP7 : Hid (Play LB w0 B R pb w7 q7 oa7 (on + 1) oc7 bits forks ba7 fr7) := hP7
          have x2 := hP7.c2
          have x3 := hP7.c3
          have y2 := hP7.fz 2
          have y3 := hP7.fz 3
          clear hP7 HK a0 a2 a3
          go_wp2
          go_end0
          exact ⟨rfl, q7, oa7, on + 1, oc7, bits, forks, ba7, fr7, by omega, by omega, by omega, by omega, by omega, HP7.out⟩
        · go_wp2
          go_end0
          exact ⟨rfl, p + 1 + 1, oa, on, oc, bits, forks, _, fresh, by omega, by omega, by omega, by omega, by omega, HPL.out⟩
      · exact absurd hb1 i1
    · by_cases i1 : (1 : Int) < bits
      · have HK : Hid (Calls Tryz.prog 79 #[.pointer (some ⟨pb, 0, none⟩), .int .i64 4] w2 fun e w' => PutD LB w0 B R pb (p + 1) on 60 bits forks e w') := put_d 4 60 _ _ _ _ _ _ _ _ _ _ _ _ _ HPL.out (by omega) (by omega) (by omega) (by omega) (by split <;> omega)
        clear HPL
        go_wp2_with fail
        refine HK.out.mono ?_
        rintro e w7 ⟨rfl, q7, oa7, oc7, ba7, fr7, hq7, hP7⟩
        have HP7 : Hid (Play LB w0 B R pb w7 q7 oa7 (on + 1) oc7 bits forks ba7 fr7) := hP7
        have x2 := hP7.c2
        have x3 := hP7.c3
        have y2 := hP7.fz 2
        have y3 := hP7.fz 3
        clear hP7 HK a0 a2 a3
        go_wp2
        go_end0
        exact ⟨rfl, q7, oa7, on + 1, oc7, bits - 1, forks, ba7, fr7, by omega, by omega, by omega, by omega, by omega, HP7.out.setB _⟩
      · go_wp2
        go_end0
        exact ⟨rfl, p + 1, oa, on, oc, bits, forks, _, fresh, by omega, by omega, by omega, by omega, by omega, HPL.out⟩
    · by_cases i1 : (1 : Int) < bits
      · have HK : Hid (Calls Tryz.prog 79 #[.pointer (some ⟨pb, 0, none⟩), .int .i64 5] w2 fun e w' => PutD LB w0 B R pb (p + 1) on 60 bits forks e w') := put_d 5 60 _ _ _ _ _ _ _ _ _ _ _ _ _ HPL.out (by omega) (by omega) (by omega) (by omega) (by split <;> omega)
        clear HPL
        go_wp2_with fail
        refine HK.out.mono ?_
        rintro e w7 ⟨rfl, q7, oa7, oc7, ba7, fr7, hq7, hP7⟩
        have HP7 : Hid (Play LB w0 B R pb w7 q7 oa7 (on + 1) oc7 bits forks ba7 fr7) := hP7
        have x2 := hP7.c2
        have x3 := hP7.c3
        have y2 := hP7.fz 2
        have y3 := hP7.fz 3
        clear hP7 HK a0 a2 a3
        go_wp2
        go_end0
        exact ⟨rfl, q7, oa7, on + 1, oc7, bits - 1, forks, ba7, fr7, by omega, by omega, by omega, by omega, by omega, HP7.out.setB _⟩
      · go_wp2
        go_end0
        exact ⟨rfl, p + 1, oa, on, oc, bits, forks, _, fresh, by omega, by omega, by omega, by omega, by omega, HPL.out⟩
    · by_cases i1 : bits = 1
      · have j1 : (bits == 1) = true := by simp [i1]
        clear i1
        have HK : Hid (Calls Tryz.prog 79 #[.pointer (some ⟨pb, 0, none⟩), .int .i64 10] w2 fun e w' => PutD LB w0 B R pb (p + 1) on 60 bits forks e w') := put_d 10 60 _ _ _ _ _ _ _ _ _ _ _ _ _ HPL.out (by omega) (by omega) (by omega) (by omega) (by split <;> omega)
        clear HPL
        go_wp2_with fail
        refine HK.out.mono ?_
        rintro e w7 ⟨rfl, q7, oa7, oc7, ba7, fr7, hq7, hP7⟩
        have HP7 : Hid (Play LB w0 B R pb w7 q7 oa7 (on + 1) oc7 bits forks ba7 fr7) := hP7
        have x2 := hP7.c2
        have x3 := hP7.c3
        have y2 := hP7.fz 2
        have y3 := hP7.fz 3
        clear hP7 HK a0 a2 a3
        go_wp2
        go_end0
        exact ⟨rfl, q7, oa7, on + 1, oc7, bits, forks, ba7, fr7, by omega, by omega, by omega, by omega, by omega, HP7.out⟩
      · have j1 : (bits == 1) = false := by simp [i1]
        clear i1
        go_wp2
        go_end0
        exact ⟨rfl, p + 1, oa, on, oc, bits, forks, _, fresh, by omega, by omega, by omega, by omega, by omega, HPL.out⟩
    · by_cases i1 : bits = 1
      · have j1 : (bits == 1) = true := by simp [i1]
        clear i1
        by_cases i2 : forks < 8
        · have HK : Hid (Calls Tryz.prog 79 #[.pointer (some ⟨pb, 0, none⟩), .int .i64 7] w2 fun e w' => PutD LB w0 B R pb (p + 1) on 60 bits forks e w') := put_d 7 60 _ _ _ _ _ _ _ _ _ _ _ _ _ HPL.out (by omega) (by omega) (by omega) (by omega) (by split <;> omega)
          clear HPL
          go_wp2_with fail
          refine HK.out.mono ?_
          rintro e w7 ⟨rfl, q7, oa7, oc7, ba7, fr7, hq7, hP7⟩
          have HP7 : Hid (Play LB w0 B R pb w7 q7 oa7 (on + 1) oc7 bits forks ba7 fr7) := hP7
          have x2 := hP7.c2
          have x3 := hP7.c3
          have y2 := hP7.fz 2
          have y3 := hP7.fz 3
          clear hP7 HK a0 a2 a3
          go_wp2
          go_end0
          exact ⟨rfl, q7, oa7, on + 1, oc7, bits, forks + 1, ba7, fr7, by omega, by omega, by omega, by omega, by omega, HP7.out.setF _⟩
        · go_wp2
          go_end0
          exact ⟨rfl, p + 1, oa, on, oc, bits, forks, _, fresh, by omega, by omega, by omega, by omega, by omega, HPL.out⟩
      · have j1 : (bits == 1) = false := by simp [i1]
        clear i1
        go_wp2
        go_end0
        exact ⟨rfl, p + 1, oa, on, oc, bits, forks, _, fresh, by omega, by omega, by omega, by omega, by omega, HPL.out⟩
    · by_cases i1 : (0 : Int) < forks
      · have HC : Hid (Calls Tryz.prog 81 #[.pointer (some ⟨pb, 0, none⟩)] w2 fun e w' => CloseR LB w0 B R pb (p + 1) on forks e w') := close_r _ _ _ _ _ _ _ _ _ _ _ _ _ HPL.out (by omega) (by omega) (by omega) (by omega)
        clear HPL
        go_wp2_with fail
        refine HC.out.mono ?_
        rintro e w3 ⟨rfl, q3, oa3, n3, oc3, ba3, fr3, hq3, hn3, hn4, hP3⟩
        have HQ : Hid (Calls Tryz.prog 13 #[.pointer (some ⟨R, 0, none⟩), .int .i64 2] w3 fun e w' => ∃ r : Nat, r < 2 ∧ e = .returned (.int .i64 r) ∧ Play LB w0 B R pb w' (q3 + 1) oa3 n3 oc3 1 forks ba3 fr3) := (pick_r B R q3 2 w3 hP3.rd (by omega) (by omega) (by omega)).mono fun e w' ⟨r, r1, e1, h1, g1⟩ => ⟨r, by omega, e1, hP3.move g1 h1⟩
        clear a0 a2 a3 HC
        have a0 := hP3.c0
        clear hP3
        go_wp2_with fail
        refine HQ.out.mono ?_
        rintro e w4 ⟨s, hs, rfl, hP4⟩
        have HK : Hid (Calls Tryz.prog 79 #[.pointer (some ⟨pb, 0, none⟩), .int .i64 (8 + (s : Int))] w4 fun e w' => PutD LB w0 B R pb (q3 + 1) n3 60 1 forks e w') := put_d (8 + (s : Int)) 60 _ _ _ _ _ _ _ _ _ _ _ _ _ hP4 (by omega) (by omega) (by omega) (by omega) (by split <;> omega)
        clear hP4 a0 HQ
        go_wp2_with fail
        refine HK.out.mono ?_
        rintro e w7 ⟨rfl, q7, oa7, oc7, ba7, fr7, hq7, hP7⟩
        have HP7 : Hid (Play LB w0 B R pb w7 q7 oa7 (n3 + 1) oc7 1 forks ba7 fr7) := hP7
        obtain ⟨hoc, g7, x7, rfl, k7⟩ := hP7.last
        have x1 := hP7.c1
        have x3 := hP7.c3
        have y3 := hP7.fz 3
        clear hP7 HK
        go_wp2
        go_quiet (fail)
        by_cases h9 : x7 = 9
        · have j9 : (x7 == 9) = true := by simp [h9]
          clear h9
          go_wp2
          go_end0
          exact ⟨rfl, q7, _, n3 + 1, oc7, 1, forks - 1, ba7, fr7, by omega, by omega, by omega, by omega, by omega, (HP7.out.drewN _).setF _⟩
        · have j9 : (x7 == 9) = false := by simp [h9]
          clear h9
          go_wp2
          go_end0
          exact ⟨rfl, q7, _, n3 + 1, oc7, 1, forks, ba7, fr7, by omega, by omega, by omega, by omega, by omega, HP7.out.drewN _⟩
      · go_wp2
        go_end0
        exact ⟨rfl, p + 1, oa, on, oc, bits, forks, _, fresh, by omega, by omega, by omega, by omega, by omega, HPL.out⟩
  · go_enter Tryz.func80, Tryz.ntmps80
    go_wp2_with fail
    refine HR.out.mono ?_
    rintro e w2 ⟨r, hr, rfl, hP2⟩
    have HPL : Hid (Play LB w0 B R pb w2 (p + 1) oa on oc bits forks true fresh) := hP2
    have a0 := hP2.c0
    have a2 := hP2.c2
    have a3 := hP2.c3
    clear hP2 HR c0 c4
    have hr2 : r = 0 ∨ r = 1 ∨ r = 2 ∨ r = 3 ∨ r = 4 ∨ r = 5 ∨ r = 6 ∨ r = 7 ∨ r = 8 ∨ r = 9 ∨ r = 10 := by omega
    rcases hr2 with rfl | rfl | rfl | rfl | rfl | rfl | rfl | rfl | rfl | rfl | rfl
    · by_cases i1 : bits < 16
      · have HK : Hid (Calls Tryz.prog 79 #[.pointer (some ⟨pb, 0, none⟩), .int .i64 1] w2 fun e w' => PutD LB w0 B R pb (p + 1) on 60 bits forks e w') := put_d 1 60 _ _ _ _ _ _ _ _ _ _ _ _ _ HPL.out (by omega) (by omega) (by omega) (by omega) (by split <;> omega)
        clear HPL
        go_wp2_with fail
        refine HK.out.mono ?_
        rintro e w7 ⟨rfl, q7, oa7, oc7, ba7, fr7, hq7, hP7⟩
        have HP7 : Hid (Play LB w0 B R pb w7 q7 oa7 (on + 1) oc7 bits forks ba7 fr7) := hP7
        have x2 := hP7.c2
        have x3 := hP7.c3
        have y2 := hP7.fz 2
        have y3 := hP7.fz 3
        clear hP7 HK a0 a2 a3
        go_wp2
        go_end0
        exact ⟨rfl, q7, oa7, on + 1, oc7, bits + 1, forks, ba7, fr7, by omega, by omega, by omega, by omega, by omega, HP7.out.setB _⟩
      · go_wp2
        go_end0
        exact ⟨rfl, p + 1, oa, on, oc, bits, forks, _, fresh, by omega, by omega, by omega, by omega, by omega, HPL.out⟩
    · by_cases i1 : bits < 16
      · have HK : Hid (Calls Tryz.prog 79 #[.pointer (some ⟨pb, 0, none⟩), .int .i64 1] w2 fun e w' => PutD LB w0 B R pb (p + 1) on 60 bits forks e w') := put_d 1 60 _ _ _ _ _ _ _ _ _ _ _ _ _ HPL.out (by omega) (by omega) (by omega) (by omega) (by split <;> omega)
        clear HPL
        go_wp2_with fail
        refine HK.out.mono ?_
        rintro e w7 ⟨rfl, q7, oa7, oc7, ba7, fr7, hq7, hP7⟩
        have HP7 : Hid (Play LB w0 B R pb w7 q7 oa7 (on + 1) oc7 bits forks ba7 fr7) := hP7
        have x2 := hP7.c2
        have x3 := hP7.c3
        have y2 := hP7.fz 2
        have y3 := hP7.fz 3
        clear hP7 HK a0 a2 a3
        go_wp2
        go_end0
        exact ⟨rfl, q7, oa7, on + 1, oc7, bits + 1, forks, ba7, fr7, by omega, by omega, by omega, by omega, by omega, HP7.out.setB _⟩
      · go_wp2
        go_end0
        exact ⟨rfl, p + 1, oa, on, oc, bits, forks, _, fresh, by omega, by omega, by omega, by omega, by omega, HPL.out⟩
    · have HK : Hid (Calls Tryz.prog 79 #[.pointer (some ⟨pb, 0, none⟩), .int .i64 2] w2 fun e w' => PutD LB w0 B R pb (p + 1) on 60 bits forks e w') := put_d 2 60 _ _ _ _ _ _ _ _ _ _ _ _ _ HPL.out (by omega) (by omega) (by omega) (by omega) (by split <;> omega)
      clear HPL
      go_wp2_with fail
      refine HK.out.mono ?_
      rintro e w7 ⟨rfl, q7, oa7, oc7, ba7, fr7, hq7, hP7⟩
      have HP7 : Hid (Play LB w0 B R pb w7 q7 oa7 (on + 1) oc7 bits forks ba7 fr7) := hP7
      have x2 := hP7.c2
      have x3 := hP7.c3
      have y2 := hP7.fz 2
      have y3 := hP7.fz 3
      clear hP7 HK a0 a2 a3
      go_wp2
      go_end0
      exact ⟨rfl, q7, oa7, on + 1, oc7, bits, forks, ba7, fr7, by omega, by omega, by omega, by omega, by omega, HP7.out⟩
    · have HK : Hid (Calls Tryz.prog 79 #[.pointer (some ⟨pb, 0, none⟩), .int .i64 2] w2 fun e w' => PutD LB w0 B R pb (p + 1) on 60 bits forks e w') := put_d 2 60 _ _ _ _ _ _ _ _ _ _ _ _ _ HPL.out (by omega) (by omega) (by omega) (by omega) (by split <;> omega)
      clear HPL
      go_wp2_with fail
      refine HK.out.mono ?_
      rintro e w7 ⟨rfl, q7, oa7, oc7, ba7, fr7, hq7, hP7⟩
      have HP7 : Hid (Play LB w0 B R pb w7 q7 oa7 (on + 1) oc7 bits forks ba7 fr7) := hP7
      have x2 := hP7.c2
      have x3 := hP7.c3
      have y2 := hP7.fz 2
      have y3 := hP7.fz 3
      clear hP7 HK a0 a2 a3
      go_wp2
      go_end0
      exact ⟨rfl, q7, oa7, on + 1, oc7, bits, forks, ba7, fr7, by omega, by omega, by omega, by omega, by omega, HP7.out⟩
    · by_cases i1 : (2 : Int) ≤ bits
      · have HK : Hid (Calls Tryz.prog 79 #[.pointer (some ⟨pb, 0, none⟩), .int .i64 3] w2 fun e w' => PutD LB w0 B R pb (p + 1) on 60 bits forks e w') := put_d 3 60 _ _ _ _ _ _ _ _ _ _ _ _ _ HPL.out (by omega) (by omega) (by omega) (by omega) (by split <;> omega)
        clear HPL
        go_wp2_with fail
        refine HK.out.mono ?_
        rintro e w7 ⟨rfl, q7, oa7, oc7, ba7, fr7, hq7, hP7⟩
        have HP7 : Hid (Play LB w0 B R pb w7 q7 oa7 (on + 1) oc7 bits forks ba7 fr7) := hP7
        have x2 := hP7.c2
        have x3 := hP7.c3
        have y2 := hP7.fz 2
        have y3 := hP7.fz 3
        clear hP7 HK a0 a2 a3
        go_wp2
        go_end0
        exact ⟨rfl, q7, oa7, on + 1, oc7, bits, forks, ba7, fr7, by omega, by omega, by omega, by omega, by omega, HP7.out⟩
      · go_wp2
        go_end0
        exact ⟨rfl, p + 1, oa, on, oc, bits, forks, _, fresh, by omega, by omega, by omega, by omega, by omega, HPL.out⟩
    · by_cases i1 : (2 : Int) ≤ bits
      · have HQ : Hid (Calls Tryz.prog 13 #[.pointer (some ⟨R, 0, none⟩), .int .i64 2] w2 fun e w' => ∃ r : Nat, r < 2 ∧ e = .returned (.int .i64 r) ∧ Play LB w0 B R pb w' (p + 1 + 1) oa on oc bits forks true fresh) := (pick_r B R (p + 1) 2 w2 HPL.out.rd (by omega) (by omega) (by omega)).mono fun e w' ⟨r, r1, e1, h1, g1⟩ => ⟨r, by omega, e1, HPL.out.move g1 h1⟩
        clear HPL
        go_wp2_with fail
        refine HQ.out.mono ?_
        rintro e w3 ⟨s, hs, rfl, hP3⟩
        have HPL : Hid (Play LB w0 B R pb w3 (p + 1 + 1) oa on oc bits forks true fresh) := hP3
        clear a0 a2 a3 HQ
        have a0 := hP3.c0
        have a2 := hP3.c2
        have a3 := hP3.c3
        clear hP3
        have hs2 : s = 0 ∨ s = 1 := by omega
        rcases hs2 with rfl | rfl
        · have HK : Hid (Calls Tryz.prog 79 #[.pointer (some ⟨pb, 0, none⟩), .int .i64 6] w3 fun e w' => PutD LB w0 B R pb (p + 1 + 1) on 60 bits forks e w') := put_d 6 60 _ _ _ _ _ _ _ _ _ _ _ _ _ HPL.out (by omega) (by omega) (by omega) (by omega) (by split <;> omega)
          clear HPL
          go_wp2_with fail
          refine HK.out.mono ?_
          rintro e w7 ⟨rfl, q7, oa7, oc7, ba7, fr7, hq7, hP7⟩
          have HP7 : Hid (Play LB w0 B R pb w7 q7 oa7 (on + 1) oc7 bits forks ba7 fr7) := hP7
          have x2 := hP7.c2
          have x3 := hP7.c3
          have y2 := hP7.fz 2
          have y3 := hP7.fz 3
          clear hP7 HK a0 a2 a3
          go_wp2
          go_end0
          exact ⟨rfl, q7, oa7, on + 1, oc7, bits, forks, ba7, fr7, by omega, by omega, by omega, by omega, by omega, HP7.out⟩
        · go_wp2
          go_end0
          exact ⟨rfl, p + 1 + 1, oa, on, oc, bits, forks, _, fresh, by omega, by omega, by omega, by omega, by omega, HPL.out⟩
      · go_wp2
        go_end0
        exact ⟨rfl, p + 1, oa, on, oc, bits, forks, _, fresh, by omega, by omega, by omega, by omega, by omega, HPL.out⟩
    · by_cases i1 : (1 : Int) < bits
      · have HK : Hid (Calls Tryz.prog 79 #[.pointer (some ⟨pb, 0, none⟩), .int .i64 4] w2 fun e w' => PutD LB w0 B R pb (p + 1) on 60 bits forks e w') := put_d 4 60 _ _ _ _ _ _ _ _ _ _ _ _ _ HPL.out (by omega) (by omega) (by omega) (by omega) (by split <;> omega)
        clear HPL
        go_wp2_with fail
        refine HK.out.mono ?_
        rintro e w7 ⟨rfl, q7, oa7, oc7, ba7, fr7, hq7, hP7⟩
        have HP7 : Hid (Play LB w0 B R pb w7 q7 oa7 (on + 1) oc7 bits forks ba7 fr7) := hP7
        have x2 := hP7.c2
        have x3 := hP7.c3
        have y2 := hP7.fz 2
        have y3 := hP7.fz 3
        clear hP7 HK a0 a2 a3
        go_wp2
        go_end0
        exact ⟨rfl, q7, oa7, on + 1, oc7, bits - 1, forks, ba7, fr7, by omega, by omega, by omega, by omega, by omega, HP7.out.setB _⟩
      · go_wp2
        go_end0
        exact ⟨rfl, p + 1, oa, on, oc, bits, forks, _, fresh, by omega, by omega, by omega, by omega, by omega, HPL.out⟩
    · by_cases i1 : (2 : Int) < bits
      · have HK : Hid (Calls Tryz.prog 79 #[.pointer (some ⟨pb, 0, none⟩), .int .i64 5] w2 fun e w' => PutD LB w0 B R pb (p + 1) on 60 bits forks e w') := put_d 5 60 _ _ _ _ _ _ _ _ _ _ _ _ _ HPL.out (by omega) (by omega) (by omega) (by omega) (by split <;> omega)
        clear HPL
        go_wp2_with fail
        refine HK.out.mono ?_
        rintro e w7 ⟨rfl, q7, oa7, oc7, ba7, fr7, hq7, hP7⟩
        have HP7 : Hid (Play LB w0 B R pb w7 q7 oa7 (on + 1) oc7 bits forks ba7 fr7) := hP7
        have x2 := hP7.c2
        have x3 := hP7.c3
        have y2 := hP7.fz 2
        have y3 := hP7.fz 3
        clear hP7 HK a0 a2 a3
        go_wp2
        go_end0
        exact ⟨rfl, q7, oa7, on + 1, oc7, bits - 1, forks, ba7, fr7, by omega, by omega, by omega, by omega, by omega, HP7.out.setB _⟩
      · go_wp2
        go_end0
        exact ⟨rfl, p + 1, oa, on, oc, bits, forks, _, fresh, by omega, by omega, by omega, by omega, by omega, HPL.out⟩
    · by_cases i1 : bits = 1
      · have j1 : (bits == 1) = true := by simp [i1]
        clear i1
        have HK : Hid (Calls Tryz.prog 79 #[.pointer (some ⟨pb, 0, none⟩), .int .i64 10] w2 fun e w' => PutD LB w0 B R pb (p + 1) on 60 bits forks e w') := put_d 10 60 _ _ _ _ _ _ _ _ _ _ _ _ _ HPL.out (by omega) (by omega) (by omega) (by omega) (by split <;> omega)
        clear HPL
        go_wp2_with fail
        refine HK.out.mono ?_
        rintro e w7 ⟨rfl, q7, oa7, oc7, ba7, fr7, hq7, hP7⟩
        have HP7 : Hid (Play LB w0 B R pb w7 q7 oa7 (on + 1) oc7 bits forks ba7 fr7) := hP7
        have x2 := hP7.c2
        have x3 := hP7.c3
        have y2 := hP7.fz 2
        have y3 := hP7.fz 3
        clear hP7 HK a0 a2 a3
        go_wp2
        go_end0
        exact ⟨rfl, q7, oa7, on + 1, oc7, bits, forks, ba7, fr7, by omega, by omega, by omega, by omega, by omega, HP7.out⟩
      · have j1 : (bits == 1) = false := by simp [i1]
        clear i1
        go_wp2
        go_end0
        exact ⟨rfl, p + 1, oa, on, oc, bits, forks, _, fresh, by omega, by omega, by omega, by omega, by omega, HPL.out⟩
    · by_cases i1 : bits = 1
      · have j1 : (bits == 1) = true := by simp [i1]
        clear i1
        by_cases i2 : forks < 8
        · have HK : Hid (Calls Tryz.prog 79 #[.pointer (some ⟨pb, 0, none⟩), .int .i64 7] w2 fun e w' => PutD LB w0 B R pb (p + 1) on 60 bits forks e w') := put_d 7 60 _ _ _ _ _ _ _ _ _ _ _ _ _ HPL.out (by omega) (by omega) (by omega) (by omega) (by split <;> omega)
          clear HPL
          go_wp2_with fail
          refine HK.out.mono ?_
          rintro e w7 ⟨rfl, q7, oa7, oc7, ba7, fr7, hq7, hP7⟩
          have HP7 : Hid (Play LB w0 B R pb w7 q7 oa7 (on + 1) oc7 bits forks ba7 fr7) := hP7
          have x2 := hP7.c2
          have x3 := hP7.c3
          have y2 := hP7.fz 2
          have y3 := hP7.fz 3
          clear hP7 HK a0 a2 a3
          go_wp2
          go_end0
          exact ⟨rfl, q7, oa7, on + 1, oc7, bits, forks + 1, ba7, fr7, by omega, by omega, by omega, by omega, by omega, HP7.out.setF _⟩
        · go_wp2
          go_end0
          exact ⟨rfl, p + 1, oa, on, oc, bits, forks, _, fresh, by omega, by omega, by omega, by omega, by omega, HPL.out⟩
      · have j1 : (bits == 1) = false := by simp [i1]
        clear i1
        go_wp2
        go_end0
        exact ⟨rfl, p + 1, oa, on, oc, bits, forks, _, fresh, by omega, by omega, by omega, by omega, by omega, HPL.out⟩
    · by_cases i1 : (0 : Int) < forks
      · have HC : Hid (Calls Tryz.prog 81 #[.pointer (some ⟨pb, 0, none⟩)] w2 fun e w' => CloseR LB w0 B R pb (p + 1) on forks e w') := close_r _ _ _ _ _ _ _ _ _ _ _ _ _ HPL.out (by omega) (by omega) (by omega) (by omega)
        clear HPL
        go_wp2_with fail
        refine HC.out.mono ?_
        rintro e w3 ⟨rfl, q3, oa3, n3, oc3, ba3, fr3, hq3, hn3, hn4, hP3⟩
        have HQ : Hid (Calls Tryz.prog 13 #[.pointer (some ⟨R, 0, none⟩), .int .i64 2] w3 fun e w' => ∃ r : Nat, r < 2 ∧ e = .returned (.int .i64 r) ∧ Play LB w0 B R pb w' (q3 + 1) oa3 n3 oc3 1 forks ba3 fr3) := (pick_r B R q3 2 w3 hP3.rd (by omega) (by omega) (by omega)).mono fun e w' ⟨r, r1, e1, h1, g1⟩ => ⟨r, by omega, e1, hP3.move g1 h1⟩
        clear a0 a2 a3 HC
        have a0 := hP3.c0
        clear hP3
        go_wp2_with fail
        refine HQ.out.mono ?_
        rintro e w4 ⟨s, hs, rfl, hP4⟩
        have HK : Hid (Calls Tryz.prog 79 #[.pointer (some ⟨pb, 0, none⟩), .int .i64 (8 + (s : Int))] w4 fun e w' => PutD LB w0 B R pb (q3 + 1) n3 60 1 forks e w') := put_d (8 + (s : Int)) 60 _ _ _ _ _ _ _ _ _ _ _ _ _ hP4 (by omega) (by omega) (by omega) (by omega) (by split <;> omega)
        clear hP4 a0 HQ
        go_wp2_with fail
        refine HK.out.mono ?_
        rintro e w7 ⟨rfl, q7, oa7, oc7, ba7, fr7, hq7, hP7⟩
        have HP7 : Hid (Play LB w0 B R pb w7 q7 oa7 (n3 + 1) oc7 1 forks ba7 fr7) := hP7
        obtain ⟨hoc, g7, x7, rfl, k7⟩ := hP7.last
        have x1 := hP7.c1
        have x3 := hP7.c3
        have y3 := hP7.fz 3
        clear hP7 HK
        go_wp2
        go_quiet (fail)
        by_cases h9 : x7 = 9
        · have j9 : (x7 == 9) = true := by simp [h9]
          clear h9
          go_wp2
          go_end0
          exact ⟨rfl, q7, _, n3 + 1, oc7, 1, forks - 1, ba7, fr7, by omega, by omega, by omega, by omega, by omega, (HP7.out.drewN _).setF _⟩
        · have j9 : (x7 == 9) = false := by simp [h9]
          clear h9
          go_wp2
          go_end0
          exact ⟨rfl, q7, _, n3 + 1, oc7, 1, forks, ba7, fr7, by omega, by omega, by omega, by omega, by omega, HP7.out.drewN _⟩
      · go_wp2
        go_end0
        exact ⟨rfl, p + 1, oa, on, oc, bits, forks, _, fresh, by omega, by omega, by omega, by omega, by omega, HPL.out⟩
end Go.Proofs.YtcihplachlokiaaGreatDoor.Rr
/- A play: a rung. -/
namespace Go.Proofs.YtcihplachlokiaaGreatDoor.Rr
open Go.RowKit
set_option linter.unusedVariables false
variable {LB : Nat}

def RungP (LB : Nat) (w0 : World) (B R pb p on : Nat) (e : Ending) (w' : World) : Prop :=
  e = .returned (.tuple #[]) ∧ ∃ (q : Nat) (oa : Option Addr) (n oc : Nat) (base fresh : Bool), q ≤ p + 7000 ∧ on + 2 ≤ n ∧ n ≤ on + 900 ∧ Play LB w0 B R pb w' q oa n oc 0 0 base fresh

set_option maxRecDepth 10000 in
set_option maxHeartbeats 8000000 in
theorem rung_r (N : Nat) (w0 w : World) (B R pb p on oc : Nat) (oa : Option Addr) (bits : Int) (base fresh : Bool) (h : Play LB w0 B R pb w p oa on oc bits 0 base fresh) (hN : N < 40) (hp : p < 9660000) (hon : on ≤ 70000) :
    Calls Tryz.prog 70 #[.pointer (some ⟨pb, 0, none⟩), .int .i64 (N : Int)] w fun e w' => RungP LB w0 B R pb p on e w' := by
  have c4 := h.c4
  have f4 := h.fz 4
  have HK : Hid (Calls Tryz.prog 79 #[.pointer (some ⟨pb, 0, none⟩), .int .i64 1] (w.setCell ⟨pb, 4, none⟩ (.bool false)) fun e w' => PutD LB w0 B R pb p on 60 bits 0 e w') := put_d 1 60 _ _ _ _ _ _ _ _ _ _ _ _ _ (h.setM false) (by omega) (by omega) (by omega) (by omega) (by split <;> omega)
  clear h
  go_enter Tryz.func70, Tryz.ntmps70
  go_wp2_with fail
  refine HK.out.mono ?_
  rintro e w2 ⟨rfl, q2, oa2, oc2, ba2, fr2, hq2, hP2⟩
  have x2 := hP2.c2
  have y2 := hP2.fz 2
  have HP2 : Hid (Play LB w0 B R pb (w2.setCell ⟨pb, 2, none⟩ (.int .i64 1)) q2 oa2 (on + 1) oc2 1 0 ba2 fr2) := hP2.setB 1
  clear hP2 HK c4 f4
  go_wp2
  go_loopg [4] N (fun gk i wr => ∃ (k q : Nat) (oa : Option Addr) (m oc : Nat) (bt fk : Int) (ba fr : Bool), k + gk = N ∧ i = .int .i64 (k : Int) ∧ q ≤ p + 60 + 150 * k ∧ on + 1 ≤ m ∧ m ≤ on + 1 + 18 * k ∧ (1 ≤ bt ∧ bt ≤ 16) ∧ (0 ≤ fk ∧ fk ≤ 8) ∧ Hid (Play LB w0 B R pb wr q oa m oc bt fk ba fr))
  case atStart => exact ⟨0, q2, oa2, on + 1, oc2, 1, 0, ba2, fr2, by omega, rfl, by omega, by omega, by omega, by omega, by omega, HP2⟩
  case round =>
    clear HP2 x2 y2
    obtain ⟨k, q, oa1, m, oc1, bt, fk, ba, fr, hk, rfl, hq, hm1, hm2, hbt, hfk, HP⟩ := hrel
    by_cases i1 : (k : Int) < (N : Int)
    · have HS : Hid (Calls Tryz.prog 80 #[.pointer (some ⟨pb, 0, none⟩)] wr fun e w' => StepR LB w0 B R pb q m e w') := step_r _ _ _ _ _ _ _ _ _ _ _ _ _ HP.out (by omega) (by omega) (by omega) (by omega) (by omega) (by omega)
      clear HP
      go_wp2_with fail
      refine HS.out.mono ?_
      rintro e w3 ⟨rfl, q3, oa3, n3, oc3, b3, k3, ba3, fr3, hq3, hn3, hn4, hb3, hk3, hP3⟩
      have HP3 : Hid (Play LB w0 B R pb w3 q3 oa3 n3 oc3 b3 k3 ba3 fr3) := hP3
      clear hP3 HS
      go_wp2
      go_roundg (gk - 1)
      case measure => omega
      case rel => exact ⟨k + 1, q3, oa3, n3, oc3, b3, k3, ba3, fr3, by omega, by simp, by omega, by omega, by omega, by omega, by omega, HP3⟩
    · have hkN : k = N := by omega
      have HC : Hid (Calls Tryz.prog 81 #[.pointer (some ⟨pb, 0, none⟩)] wr fun e w' => CloseR LB w0 B R pb q m fk e w') := close_r _ _ _ _ _ _ _ _ _ _ _ _ _ HP.out (by omega) (by omega) (by omega) (by omega)
      clear HP
      go_wp2_with fail
      refine HC.out.mono ?_
      rintro e w3 ⟨rfl, q3, oa3, n3, oc3, ba3, fr3, hq3, hn3, hn4, hP3⟩
      have HP3 : Hid (Play LB w0 B R pb w3 q3 oa3 n3 oc3 1 fk ba3 fr3) := hP3
      clear hP3 HC
      go_wp2
      go_loopg [] 8 (fun gj wr => ∃ (q : Nat) (oa : Option Addr) (m oc : Nat) (f2 : Int) (ba fr : Bool), (0 ≤ f2 ∧ f2 ≤ gj ∧ gj ≤ 8) ∧ q + 80 * gj ≤ p + 6700 ∧ on + 1 ≤ m ∧ m + 18 * gj ≤ on + 890 ∧ Hid (Play LB w0 B R pb wr q oa m oc 1 f2 ba fr))
      case atStart => exact ⟨q3, oa3, n3, oc3, fk, ba3, fr3, by omega, by omega, by omega, by omega, HP3⟩
      case round =>
        clear HP3
        obtain ⟨q4, oa4, m4, oc4, f4, ba4, fr4, hf4, hq4, hm4, hm5, HP⟩ := hrel
        have a3 := HP.out.c3
        by_cases i2 : (0 : Int) < f4
        · have HK : Hid (Calls Tryz.prog 79 #[.pointer (some ⟨pb, 0, none⟩), .int .i64 9] wr fun e w' => PutD LB w0 B R pb q4 m4 0 1 f4 e w') := put_d 9 0 _ _ _ _ _ _ _ _ _ _ _ _ _ HP.out (by omega) (by omega) (by omega) (by omega) (by simp)
          clear HP
          go_wp2_with fail
          refine HK.out.mono ?_
          rintro e w5 ⟨rfl, q5, oa5, oc5, ba5, fr5, hq5, hP5⟩
          have x3 := hP5.c3
          have y3 := hP5.fz 3
          have HC : Hid (Calls Tryz.prog 81 #[.pointer (some ⟨pb, 0, none⟩)] (w5.setCell ⟨pb, 3, none⟩ (.int .i64 (f4 - 1))) fun e w' => CloseR LB w0 B R pb q5 (m4 + 1) (f4 - 1) e w') := close_r _ _ _ _ _ _ _ _ _ _ _ _ _ (hP5.setF (f4 - 1)) (by omega) (by omega) (by omega) (by omega)
          clear hP5 HK a3
          go_wp2_with fail
          refine HC.out.mono ?_
          rintro e w6 ⟨rfl, q6, oa6, n6, oc6, ba6, fr6, hq6, hn6, hn7, hP6⟩
          have HP6 : Hid (Play LB w0 B R pb w6 q6 oa6 n6 oc6 1 (f4 - 1) ba6 fr6) := hP6
          clear hP6 HC x3 y3
          go_wp2
          go_roundg (gk - 1)
          case measure => omega
          case rel => exact ⟨q6, oa6, n6, oc6, f4 - 1, ba6, fr6, by omega, by omega, by omega, by omega, HP6⟩
        · have h0 : f4 = 0 := by omega
          subst h0
          have HK : Hid (Calls Tryz.prog 79 #[.pointer (some ⟨pb, 0, none⟩), .int .i64 11] wr fun e w' => PutD LB w0 B R pb q4 m4 0 1 0 e w') := put_d 11 0 _ _ _ _ _ _ _ _ _ _ _ _ _ HP.out (by omega) (by omega) (by omega) (by omega) (by simp)
          clear HP
          go_wp2_with fail
          refine HK.out.mono ?_
          rintro e w5 ⟨rfl, q5, oa5, oc5, ba5, fr5, hq5, hP5⟩
          have HP5 : Hid (Play LB w0 B R pb w5 q5 oa5 (m4 + 1) oc5 1 0 ba5 fr5) := hP5
          have x2 := hP5.c2
          have y2 := hP5.fz 2
          clear hP5 HK a3
          go_wp2
          go_end0
          exact ⟨rfl, q5, oa5, m4 + 1, oc5, ba5, fr5, by omega, by omega, by omega, HP5.out.setB 0⟩
end Go.Proofs.YtcihplachlokiaaGreatDoor.Rr
