/- A play: a coil is put; any instruction. -/
import Derived.Test.YtndfmgbdfcggmaaGreatDoorYb
import Derived.Test.YtndfmgbdfcggmaaGreatDoorEw
import Derived.Deep.LoopGhost
import Derived.BigQuiet
import Derived.Deep.AppendLies
namespace Go.Proofs.YtndfmgbdfcggmaaGreatDoor
open Go.RowKit
set_option linter.unusedVariables false
variable {LB : Nat}

set_option maxRecDepth 10000 in
set_option maxHeartbeats 8000000 in
theorem put_coil (c : Int) (w0 w : World) (B R pb p on oc : Nat) (oa : Option Addr) (bits forks : Int) (base fresh : Bool) (h : Play LB w0 B R pb w p oa on oc bits forks base fresh) (hc1 : Hid (c = 10)) (hp : p < 690000) (hon : on ≤ 100000) :
    Calls Tryz.prog 104 #[.pointer (some ⟨pb, 0, none⟩), .int .i64 c] w fun e w' => PutR LB w0 B R pb p on bits forks base c e w' := by
  have b1 : 1 ≤ c := by have := hc1.out; omega
  have b2 : c ≤ 11 := by have := hc1.out; omega
  have hinfo : (Tryz.prog.info? 31).map (fun i => (i.zero, i.size, i.bytes)) = some (some (.agg #[.int .i64 0, .int .i64 0, .slice none 0 0]), 3, 40) := by kernel_rfl
  obtain ⟨ti, hi, hzz⟩ := Option.map_eq_some_iff.1 hinfo
  simp only [Prod.mk.injEq] at hzz
  obtain ⟨hz0, hz1, hz2⟩ := hzz
  have HI : Hid (Tryz.prog.info? 31 = some ti ∧ ti.zero = some (.agg #[.int .i64 0, .int .i64 0, .slice none 0 0]) ∧ ti.size = 3 ∧ ti.bytes = 40) := ⟨hi, hz0, hz1, hz2⟩
  clear hi hz0 hz1 hz2 hinfo
  obtain ⟨c0, c1⟩ := And.intro h.c0 h.c1
  have hl := h.lt
  have hRB := h.RB
  have hB0 := h.hB
  have hs0 := h.gr.size
  have hfar := h.far
  have i1 : ¬ c ≤ 3 := by have := hc1.out; omega
  have i2 : (c == 10) = true := by have := hc1.out; simp; omega
  have i3 : (c == 7) = false := by have := hc1.out; simp; omega
  go_enter Tryz.func104, Tryz.ntmps104
  go_wp2_with fail
  refine (coil_r B R p _ (h.rd.alloc _) (by omega)).mono ?_
  rintro e w2 ⟨⟨op, a, len, cap, xs, rfl, o1, o2, l1, cc1, L1, bd1, O2⟩, ⟨q, hq, h2⟩, g2⟩
  have Hul : Hid (len = xs.length) := l1
  have kA : (w.alloc (.cells #[.int .i64 c, .int .i64 0, .slice none 0 0] 31)).heap[w.heap.size]? = some (.cells #[.int .i64 c, .int .i64 0, .slice none 0 0] 31 (0, 0)) := heap_alloc_last w _
  obtain ⟨⟨k0, k1, k2⟩, j0, j1, j2⟩ := three_at kA g2 (by simp; omega)
  have hi2 : w.heap.size < w2.heap.size := by have := g2.size; simp at this; omega
  have G3 : w.grownBy ((w2.setCell ⟨w.heap.size, 1, none⟩ (.int .i64 op)).setCell ⟨w.heap.size, 2, none⟩ (.slice a len cap)) (some R) := gb_put (gb_put (gb_pick (gb_alloc (gb_refl _ _) _) g2) (Nat.le_refl _)) (Nat.le_refl _)
  have P3 := h.move G3 ((h2.set w.heap.size 1 (.int .i64 op) (by omega)).set w.heap.size 2 (.slice a len cap) (by omega))
  have e1 : w2.cell? ⟨pb, 1, none⟩ = some (.slice oa on oc) := (h.move (gb_pick (gb_alloc (gb_refl _ _) _) g2) h2).c1
  have E3 : EF LB ((w2.setCell ⟨w.heap.size, 1, none⟩ (.int .i64 op)).setCell ⟨w.heap.size, 2, none⟩ (.slice a len cap)) w0.heap.size (fun b => b ≠ pb ∧ some b ≠ (Value.slice oa on oc).ownBlock) (⟨c, ⟨op, xs⟩⟩ : InstT) [.int .i64 c, .int .i64 op, .slice a xs.length cap] :=
    EF.of (H' := w.heap.size + 1) (x := ⟨c, ⟨op, xs⟩⟩) (by show xs.length ≤ cap; omega) ⟨⟨by show -100 ≤ c; omega, by show c ≤ 100; omega⟩, ⟨o1, o2⟩, by show xs.length ≤ LB + 9; omega, bd1⟩ (own_set2 _ _ (by simpa using O2) (by omega)) (by omega) (fun b hb => hfar b (by omega))
  have x8 : xs.length ≤ 8 := by omega
  clear l1 L1 O2 g2 kA h2 G3 o1 o2 bd1 cc1
  obtain ⟨cs, own5, news5, hs5, hY⟩ := P3.more ⟨c, ⟨op, xs⟩⟩ x8 a cap E3 31
  dsimp only at own5 news5 hY
  rw [← Hul.out] at own5 news5 hY
  have own5D : (((w2.setCell ⟨w.heap.size, 1, none⟩ (.int .i64 op)).setCell ⟨w.heap.size, 2, none⟩ (.slice a len cap)).alloc (.cells #[.int .i64 c, .int .i64 op, .slice a len cap] 31)).drew.ownsRow w0.heap.size 31 3 (.slice oa on oc) on cs := World.ownsRow.kept (row := none) own5 (gb_drew (gb_refl _ _)) (by cases (Value.slice oa on oc).ownBlock <;> simp)
  have news5D : ∀ (q : Nat) (v : Value), ([.int .i64 c, .int .i64 op, .slice a len cap] : List Value)[q]? = some v → (((w2.setCell ⟨w.heap.size, 1, none⟩ (.int .i64 op)).setCell ⟨w.heap.size, 2, none⟩ (.slice a len cap)).alloc (.cells #[.int .i64 c, .int .i64 op, .slice a len cap] 31)).drew.cell? ((⟨w2.heap.size, 0, none⟩ : Addr).add q) = some v := fun q v hq => by simpa using news5 q v hq
  have HY : Hid (∀ (w5 : World) (g1 cap1 : Nat), w5.ownsRow w0.heap.size 31 3 (.slice (some ⟨g1, 0, none⟩) (on + 1) cap1) (on + 1) (cs ++ [.int .i64 c, .int .i64 op, .slice a len cap]) → (((w2.setCell ⟨w.heap.size, 1, none⟩ (.int .i64 op)).setCell ⟨w.heap.size, 2, none⟩ (.slice a len cap)).alloc (.cells #[.int .i64 c, .int .i64 op, .slice a len cap] 31)).grownBy w5 (Value.slice oa on oc).ownBlock → ((Value.slice oa on oc).ownBlock = some g1 ∨ g1 = ((w2.setCell ⟨w.heap.size, 1, none⟩ (.int .i64 op)).setCell ⟨w.heap.size, 2, none⟩ (.slice a len cap)).heap.size + 1) →
        (w5.cell? ⟨pb, 1, none⟩ = some (.slice oa on oc) ∧ w5.cell? ⟨pb, 4, none⟩ = some (.bool base) ∧ w5.cell? ⟨pb, 5, none⟩ = some (.bool fresh) ∧ w5.frozen? ⟨pb, 1, none⟩ = false ∧ w5.frozen? ⟨pb, 4, none⟩ = false ∧ w5.frozen? ⟨pb, 5, none⟩ = false) ∧ Play LB w0 B R pb (w5.setCell ⟨pb, 1, none⟩ (.slice (some ⟨g1, 0, none⟩) (on + 1) cap1)) q (some ⟨g1, 0, none⟩) (on + 1) cap1 bits forks base fresh) := hY
  have dA : (((w2.setCell ⟨w.heap.size, 1, none⟩ (.int .i64 op)).setCell ⟨w.heap.size, 2, none⟩ (.slice a len cap)).alloc (.cells #[.int .i64 c, .int .i64 op, .slice a len cap] 31)).cell? ⟨pb, 1, none⟩ = some (.slice oa on oc) := (P3.alloc _).c1
  have d1 : ((w2.setCell ⟨w.heap.size, 1, none⟩ (.int .i64 op)).setCell ⟨w.heap.size, 2, none⟩ (.slice a len cap)).cell? ⟨pb, 1, none⟩ = some (.slice oa on oc) := P3.c1
  clear hY P3 E3 h c0 c1 hfar 
  go_wp2_with fail
  go_region_law
    (first
      | (refine step_append_lies _ (by rfl) (.tmp 27) (.tmp 29) 23 (by rfl) w0.heap.size 31 ti (.agg #[.int .i64 0, .int .i64 0, .slice none 0 0]) 3 40 Tryz.underlying23 HI.out.1 HI.out.2.1 HI.out.2.2.1 HI.out.2.2.2 (by rfl) (by decide) (.slice oa on oc) on cs (by rfl) (by first | exact own5 | exact own5D) ⟨w2.heap.size, 0, none⟩ 1 1 [.int .i64 c, .int .i64 op, .slice a len cap] (by rfl) (by rfl) (by first | exact news5 | exact news5D) (by intro v hu; simp at hu; rcases hu with rfl | rfl | rfl <;> rfl) (by omega) (by unfold maxLen; omega) (by omega) (by simp; omega) _ rfl ?_; intro g1 cap1 w6 own6 gg6 hat6 hlt6; obtain ⟨⟨z1, z4, z5, y1, y4, y5⟩, hPl⟩ := HY.out w6 g1 cap1 own6 (by first | exact gg6 | exact ⟨gg6.os, gg6.tape, gg6.output, gg6.size, gg6.block⟩) (by simpa using hat6); have HP : Hid (Play LB w0 B R pb (w6.setCell ⟨pb, 1, none⟩ (.slice (some ⟨g1, 0, none⟩) (on + 1) cap1)) q (some ⟨g1, 0, none⟩) (on + 1) cap1 bits forks base fresh) := hPl; clear hPl own6 gg6 hat6 hlt6)
      | fail)
  all_goals clear HY own5 news5 own5D news5D
  all_goals go_wp2
  all_goals exact bodyPost_ret (v := .tuple #[]) (by simp [results, Tryz.results104]) rfl ⟨rfl, q, _, _, by rw [if_pos (by have := hc1.out; omega)]; omega, by rw [i2, i3]; simpa using (HP.out.setN true).setM true⟩

theorem put_r (c : Int) (w0 w : World) (B R pb p on oc : Nat) (oa : Option Addr) (bits forks : Int) (base fresh : Bool) (h : Play LB w0 B R pb w p oa on oc bits forks base fresh) (hc1 : 1 ≤ c) (hc2 : c ≤ 11) (hp : p < 690000) (hon : on ≤ 100000) :
    Calls Tryz.prog 104 #[.pointer (some ⟨pb, 0, none⟩), .int .i64 c] w fun e w' => PutR LB w0 B R pb p on bits forks base c e w' := by
  by_cases h3 : c ≤ 3
  · exact put_contact c w0 w B R pb p on oc oa bits forks base fresh h hc1 h3 hp hon
  by_cases h7 : c = 7
  · exact put_mps c w0 w B R pb p on oc oa bits forks base fresh h h7 hp hon
  by_cases h10 : c = 10
  · exact put_coil c w0 w B R pb p on oc oa bits forks base fresh h h10 hp hon
  · exact put_none c w0 w B R pb p on oc oa bits forks base fresh h (by omega) hc2 h10 h7 hp hon
/-- What a put leaves, whatever the marks. -/
def PutD (LB : Nat) (w0 : World) (B R pb p on d : Nat) (bits forks : Int) (e : Ending) (w' : World) : Prop :=
  e = .returned (.tuple #[]) ∧ ∃ (q : Nat) (oa : Option Addr) (oc : Nat) (base fresh : Bool), q ≤ p + d ∧ Play LB w0 B R pb w' q oa (on + 1) oc bits forks base fresh
theorem put_d (c : Int) (d : Nat) (w0 w : World) (B R pb p on oc : Nat) (oa : Option Addr) (bits forks : Int) (base fresh : Bool) (h : Play LB w0 B R pb w p oa on oc bits forks base fresh) (hc1 : 1 ≤ c) (hc2 : c ≤ 11) (hp : p < 690000) (hon : on ≤ 100000) (hd : (if c ≤ 3 ∨ c = 10 then 60 else 0) ≤ d) :
    Calls Tryz.prog 104 #[.pointer (some ⟨pb, 0, none⟩), .int .i64 c] w fun e w' => PutD LB w0 B R pb p on d bits forks e w' := by
  refine (put_r c w0 w B R pb p on oc oa bits forks base fresh h hc1 hc2 hp hon).mono ?_
  rintro e w' ⟨he, q, oa', oc', hq, hP⟩
  exact ⟨he, q, oa', oc', _, _, by omega, hP⟩
end Go.Proofs.YtndfmgbdfcggmaaGreatDoor
/- A play: the bits are brought down to one, and a coil is put. -/
namespace Go.Proofs.YtndfmgbdfcggmaaGreatDoor
open Go.RowKit
set_option linter.unusedVariables false
variable {LB : Nat}

def CloseR (LB : Nat) (w0 : World) (B R pb p on : Nat) (forks : Int) (e : Ending) (w' : World) : Prop :=
  e = .returned (.tuple #[]) ∧ ∃ (q : Nat) (oa : Option Addr) (n oc : Nat) (base fresh : Bool), q ≤ p + 80 ∧ on ≤ n ∧ n ≤ on + 17 ∧ Play LB w0 B R pb w' q oa n oc 1 forks base fresh

set_option maxRecDepth 10000 in
set_option maxHeartbeats 8000000 in
theorem close_r (w0 w : World) (B R pb p on oc : Nat) (oa : Option Addr) (bits forks : Int) (base fresh : Bool) (h : Play LB w0 B R pb w p oa on oc bits forks base fresh) (hb1 : 1 ≤ bits) (hb2 : bits ≤ 16) (hp : p < 680000) (hon : on ≤ 90000) :
    Calls Tryz.prog 106 #[.pointer (some ⟨pb, 0, none⟩)] w fun e w' => CloseR LB w0 B R pb p on forks e w' := by
  have H0 : Hid (Play LB w0 B R pb w p oa on oc bits forks base fresh) := h
  clear h
  go_enter Tryz.func106, Tryz.ntmps106
  go_wp2
  go_loopg [] bits.toNat (fun gk wr => ∃ (q : Nat) (oa : Option Addr) (n oc : Nat) (bt : Int) (base fresh : Bool), (1 ≤ bt ∧ bt ≤ gk ∧ bt ≤ bits) ∧ (n : Int) + bt = on + bits ∧ (q : Int) + bt ≤ p + bits ∧ Hid (Play LB w0 B R pb wr q oa n oc bt forks base fresh))
  case atStart => exact ⟨p, oa, on, oc, bits, base, fresh, by omega, by omega, by omega, H0⟩
  case round =>
    clear H0
    obtain ⟨q, oa1, n, oc1, bt, ba, fr, hbt, hn, hq, HP⟩ := hrel
    have c0 := HP.out.c0
    have c2 := HP.out.c2
    have c4 := HP.out.c4
    have c5 := HP.out.c5
    by_cases h1 : bt = 1
    · subst h1
      cases fr with
      | true =>
        go_wp2
        go_end0
        exact ⟨rfl, q, oa1, n, oc1, ba, true, by omega, by omega, by omega, HP.out⟩
      | false =>
        have HK : Hid (Calls Tryz.prog 104 #[.pointer (some ⟨pb, 0, none⟩), .int .i64 10] wr fun e w' => PutD LB w0 B R pb q n 60 1 forks e w') := put_d 10 60 _ _ _ _ _ _ _ _ _ _ _ _ _ HP.out (by omega) (by omega) (by omega) (by omega) (by simp)
        clear HP
        go_wp2_with fail
        refine HK.out.mono ?_
        rintro e w2 ⟨rfl, q2, oa2, oc2, ba2, fr2, hq2, hP2⟩
        have HP2 : Hid (Play LB w0 B R pb w2 q2 oa2 (n + 1) oc2 1 forks ba2 fr2) := hP2
        clear hP2 c0 c2 c4 c5
        go_wp2
        go_end0
        exact ⟨rfl, q2, oa2, n + 1, oc2, ba2, fr2, by omega, by omega, by omega, HP2.out⟩
    · have i1 : (1 : Int) < bt := by omega
      have HN : Hid (∀ W q' c, Play LB w0 B R pb W q' oa1 n oc1 bt forks ba fr → q' ≤ q + 1 → (c = 4 ∨ c = 5) → Calls Tryz.prog 104 #[.pointer (some ⟨pb, 0, none⟩), .int .i64 c] W fun e w' => PutD LB w0 B R pb q' n 0 bt forks e w') := fun W q' c hW hq' hc => put_d c 0 _ _ _ _ _ _ _ _ _ _ _ _ _ hW (by omega) (by omega) (by omega) (by omega) (by rw [if_neg (by omega)]; omega)
      have HR : Hid (Calls Tryz.prog 30 #[.pointer (some ⟨R, 0, none⟩), .int .i64 2] wr fun e w' => ∃ r : Nat, r < 2 ∧ e = .returned (.int .i64 r) ∧ Play LB w0 B R pb w' (q + 1) oa1 n oc1 bt forks ba fr) := (pick_r B R q 2 wr HP.out.rd (by omega) (by omega) (by omega)).mono fun e w' ⟨r, r1, e1, h1, g1⟩ => ⟨r, by omega, e1, HP.out.move g1 h1⟩
      cases ba with
      | true =>
        by_cases h2 : bt = 2
        · have H2 : Hid (bt = 2) := h2
          have j2 : (bt == 2) = true := by simp [h2]
          clear h2
          have HK : Hid (Calls Tryz.prog 104 #[.pointer (some ⟨pb, 0, none⟩), .int .i64 4] wr fun e w' => PutD LB w0 B R pb q n 0 bt forks e w') := HN.out wr q 4 HP.out (by omega) (by omega)
          clear HN HR HP
          go_wp2_with fail
          refine HK.out.mono ?_
          rintro e w3 ⟨rfl, q3, oa3, oc3, ba3, fr3, hq3, hP3⟩
          have HP3 : Hid (Play LB w0 B R pb w3 q3 oa3 (n + 1) oc3 bt forks ba3 fr3) := hP3
          have d2 := hP3.c2
          have f2 := hP3.fz 2
          clear hP3 HK c0 c2 c4 c5
          go_wp2
          go_roundg (gk - 1)
          case measure => omega
          case rel => exact ⟨q3, oa3, n + 1, oc3, bt - 1, ba3, fr3, by omega, by omega, by omega, HP3.out.setB _⟩
        · have j2 : (bt == 2) = false := by simp [h2]
          clear h2
          go_wp2_with fail
          refine HR.out.mono ?_
          rintro e w2 ⟨r, hr, rfl, hP2⟩
          have HP2 : Hid (Play LB w0 B R pb w2 (q + 1) oa1 n oc1 bt forks true fr) := hP2
          clear hP2
          have hr2 : r = 0 ∨ r = 1 := by omega
          rcases hr2 with rfl | rfl
          · have HK : Hid (Calls Tryz.prog 104 #[.pointer (some ⟨pb, 0, none⟩), .int .i64 4] w2 fun e w' => PutD LB w0 B R pb (q + 1) n 0 bt forks e w') := HN.out w2 (q + 1) 4 HP2.out (by omega) (by omega)
            clear HN HR HP
            go_wp2_with fail
            refine HK.out.mono ?_
            rintro e w3 ⟨rfl, q3, oa3, oc3, ba3, fr3, hq3, hP3⟩
            have HP3 : Hid (Play LB w0 B R pb w3 q3 oa3 (n + 1) oc3 bt forks ba3 fr3) := hP3
            have d2 := hP3.c2
            have f2 := hP3.fz 2
            clear hP3 HK c0 c2 c4 c5
            go_wp2
            go_roundg (gk - 1)
            case measure => omega
            case rel => exact ⟨q3, oa3, n + 1, oc3, bt - 1, ba3, fr3, by omega, by omega, by omega, HP3.out.setB _⟩
          · have HK : Hid (Calls Tryz.prog 104 #[.pointer (some ⟨pb, 0, none⟩), .int .i64 5] w2 fun e w' => PutD LB w0 B R pb (q + 1) n 0 bt forks e w') := HN.out w2 (q + 1) 5 HP2.out (by omega) (by omega)
            clear HN HR HP
            go_wp2_with fail
            refine HK.out.mono ?_
            rintro e w3 ⟨rfl, q3, oa3, oc3, ba3, fr3, hq3, hP3⟩
            have HP3 : Hid (Play LB w0 B R pb w3 q3 oa3 (n + 1) oc3 bt forks ba3 fr3) := hP3
            have d2 := hP3.c2
            have f2 := hP3.fz 2
            clear hP3 HK c0 c2 c4 c5
            go_wp2
            go_roundg (gk - 1)
            case measure => omega
            case rel => exact ⟨q3, oa3, n + 1, oc3, bt - 1, ba3, fr3, by omega, by omega, by omega, HP3.out.setB _⟩
      | false =>
        go_wp2_with fail
        refine HR.out.mono ?_
        rintro e w2 ⟨r, hr, rfl, hP2⟩
        have HP2 : Hid (Play LB w0 B R pb w2 (q + 1) oa1 n oc1 bt forks false fr) := hP2
        clear hP2
        have hr2 : r = 0 ∨ r = 1 := by omega
        rcases hr2 with rfl | rfl
        · have HK : Hid (Calls Tryz.prog 104 #[.pointer (some ⟨pb, 0, none⟩), .int .i64 4] w2 fun e w' => PutD LB w0 B R pb (q + 1) n 0 bt forks e w') := HN.out w2 (q + 1) 4 HP2.out (by omega) (by omega)
          clear HN HR HP
          go_wp2_with fail
          refine HK.out.mono ?_
          rintro e w3 ⟨rfl, q3, oa3, oc3, ba3, fr3, hq3, hP3⟩
          have HP3 : Hid (Play LB w0 B R pb w3 q3 oa3 (n + 1) oc3 bt forks ba3 fr3) := hP3
          have d2 := hP3.c2
          have f2 := hP3.fz 2
          clear hP3 HK c0 c2 c4 c5
          go_wp2
          go_roundg (gk - 1)
          case measure => omega
          case rel => exact ⟨q3, oa3, n + 1, oc3, bt - 1, ba3, fr3, by omega, by omega, by omega, HP3.out.setB _⟩
        · have HK : Hid (Calls Tryz.prog 104 #[.pointer (some ⟨pb, 0, none⟩), .int .i64 5] w2 fun e w' => PutD LB w0 B R pb (q + 1) n 0 bt forks e w') := HN.out w2 (q + 1) 5 HP2.out (by omega) (by omega)
          clear HN HR HP
          go_wp2_with fail
          refine HK.out.mono ?_
          rintro e w3 ⟨rfl, q3, oa3, oc3, ba3, fr3, hq3, hP3⟩
          have HP3 : Hid (Play LB w0 B R pb w3 q3 oa3 (n + 1) oc3 bt forks ba3 fr3) := hP3
          have d2 := hP3.c2
          have f2 := hP3.fz 2
          clear hP3 HK c0 c2 c4 c5
          go_wp2
          go_roundg (gk - 1)
          case measure => omega
          case rel => exact ⟨q3, oa3, n + 1, oc3, bt - 1, ba3, fr3, by omega, by omega, by omega, HP3.out.setB _⟩
end Go.Proofs.YtndfmgbdfcggmaaGreatDoor
/- A play: one step. -/
namespace Go.Proofs.YtndfmgbdfcggmaaGreatDoor
open Go.RowKit
set_option linter.unusedVariables false
variable {LB : Nat}

/-- An instruction of a drawn list, in its cells. -/
theorem RD.cell {W : World} {H pb : Nat} {v : Value} {xs : List InstT} (h : RD LB W H pb v xs) (j : Nat) (x : InstT) (hx : xs[j]? = some x) :
    ∃ g cap c, v = .slice (some ⟨g, 0, none⟩) xs.length cap ∧ xs.length ≤ cap ∧ H ≤ g ∧ EF LB W H (fun b => b ≠ pb ∧ some b ≠ some g) x c ∧ (∀ i u, c[i]? = some u → W.cell? ⟨g, j * 3 + i, none⟩ = some u) ∧ ∀ q, W.frozen? ⟨g, q, none⟩ = false := by
  obtain ⟨h1, cs, h2, h3⟩ := h
  have hj := (List.getElem?_eq_some_iff.1 hx).1
  rcases id h3.2 with ⟨_, hn⟩ | ⟨g, cap, cur, rfl, hb, hg, hnc, hcm, hsz, hcur⟩
  · omega
  obtain ⟨f, c, F1, F2, cs1, cs2, _, e2, e3, e4, hr⟩ := h2.at j x hx
  refine ⟨g, cap, c, rfl, hnc, hb, hr.2, fun i u hi => ?_, fun q => h3.frozenAt q⟩
  have hc := h3.cells (g := g) rfl (j * 3 + i) u (by
    rw [e2, List.append_assoc, List.getElem?_append_right (by omega), e3, List.getElem?_append_left (by have := (List.getElem?_eq_some_iff.1 hi).1; omega)]
    rw [show j * 3 + i - j * 3 = i by omega]
    exact hi)
  have : (⟨g, 0, none⟩ : Addr).add (j * 3 + i) = ⟨g, j * 3 + i, none⟩ := by simp [Addr.add]; omega
  rw [this] at hc
  exact hc
theorem Play.last {w0 w : World} {B R pb p n oc : Nat} {oa : Option Addr} {bits forks : Int} {base fresh : Bool} (h : Play LB w0 B R pb w p oa (n + 1) oc bits forks base fresh) : n + 1 ≤ oc ∧ ∃ (g : Nat) (x : Int), oa = some ⟨g, 0, none⟩ ∧ w.cell? ⟨g, n * 3, none⟩ = some (.int .i64 x) := by
  obtain ⟨xs, e, hx, _⟩ := h.row
  obtain ⟨g, cap, c, h1, h2, _, ⟨a, cp, rfl, _⟩, h4, _⟩ := hx.cell n _ (List.getElem?_eq_getElem (by omega))
  simp only [Value.slice.injEq] at h1
  obtain ⟨rfl, _, rfl⟩ := h1
  exact ⟨by omega, g, _, rfl, h4 0 _ rfl⟩
theorem Play.drewN {w0 w : World} {B R pb p n oc : Nat} {oa : Option Addr} {bits forks : Int} {base fresh : Bool} (h : Play LB w0 B R pb w p oa n oc bits forks base fresh) (k : Nat) : Play LB w0 B R pb (w.drewN k) p oa n oc bits forks base fresh := h.move (gb_drewN (gb_refl _ _) k) (h.rd.kept (gb_drewN (gb_refl w none) k) (fun j hj => by cases hj))
def StepR (LB : Nat) (w0 : World) (B R pb p on : Nat) (e : Ending) (w' : World) : Prop :=
  e = .returned (.tuple #[]) ∧ ∃ (q : Nat) (oa : Option Addr) (n oc : Nat) (bits forks : Int) (base fresh : Bool), q ≤ p + 150 ∧ on ≤ n ∧ n ≤ on + 18 ∧ (1 ≤ bits ∧ bits ≤ 16) ∧ (0 ≤ forks ∧ forks ≤ 8) ∧ Play LB w0 B R pb w' q oa n oc bits forks base fresh

set_option maxRecDepth 10000 in
set_option maxHeartbeats 8000000 in
theorem step_r (w0 w : World) (B R pb p on oc : Nat) (oa : Option Addr) (bits forks : Int) (base fresh : Bool) (h : Play LB w0 B R pb w p oa on oc bits forks base fresh) (hb1 : 1 ≤ bits) (hb2 : bits ≤ 16) (hk1 : 0 ≤ forks) (hk2 : forks ≤ 8) (hp : p < 670000) (hon : on ≤ 80000) :
    Calls Tryz.prog 105 #[.pointer (some ⟨pb, 0, none⟩)] w fun e w' => StepR LB w0 B R pb p on e w' := by
  have HR : Hid (Calls Tryz.prog 30 #[.pointer (some ⟨R, 0, none⟩), .int .i64 11] w fun e w' => ∃ r : Nat, r < 11 ∧ e = .returned (.int .i64 r) ∧ Play LB w0 B R pb w' (p + 1) oa on oc bits forks base fresh) := (pick_r B R p 11 w h.rd (by omega) (by omega) (by omega)).mono fun e w' ⟨r, r1, e1, h1, g1⟩ => ⟨r, by omega, e1, h.move g1 h1⟩
  have c0 := h.c0
  have c4 := h.c4
  clear h
  cases base
  · go_enter Tryz.func105, Tryz.ntmps105
    go_wp2_with fail
    refine HR.out.mono ?_
    rintro e w2 ⟨r, hr, rfl, hP2⟩
    have HPL : Hid (Play LB w0 B R pb w2 (p + 1) oa on oc bits forks false fresh) := hP2
    have a0 := hP2.c0
    have a2 := hP2.c2
    have a3 := hP2.c3
    clear hP2 HR c0 c4
    have hr2 : r = 0 ∨ r = 1 ∨ r = 2 ∨ r = 3 ∨ r = 4 ∨ r = 5 ∨ r = 6 ∨ r = 7 ∨ r = 8 ∨ r = 9 ∨ r = 10 := by omega
    rcases hr2 with rfl | rfl | rfl | rfl | rfl | rfl | rfl | rfl | rfl | rfl | rfl
    · by_cases i1 : bits < 16
      · have HK : Hid (Calls Tryz.prog 104 #[.pointer (some ⟨pb, 0, none⟩), .int .i64 1] w2 fun e w' => PutD LB w0 B R pb (p + 1) on 60 bits forks e w') := put_d 1 60 _ _ _ _ _ _ _ _ _ _ _ _ _ HPL.out (by omega) (by omega) (by omega) (by omega) (by split <;> omega)
        clear HPL
        go_wp2_with fail
        refine HK.out.mono ?_
        rintro e w7 ⟨rfl, q7, oa7, oc7, ba7, fr7, hq7, hP7⟩
        have HP7 : Hid (Play LB w0 B R pb w7 q7 oa7 (on + 1) oc7 bits forks ba7 fr7) := hP7
        have x2 := hP7.c2
        have x3 := hP7.c3
        have y2 := hP7.fz 2
        have y3 := hP7.fz 3
        clear hP7 HK a0 a2 a3
        go_wp2
        go_end0
        exact ⟨rfl, q7, oa7, on + 1, oc7, bits + 1, forks, ba7, fr7, by omega, by omega, by omega, by omega, by omega, HP7.out.setB _⟩
      · go_wp2
        go_end0
        exact ⟨rfl, p + 1, oa, on, oc, bits, forks, _, fresh, by omega, by omega, by omega, by omega, by omega, HPL.out⟩
    · by_cases i1 : bits < 16
      · have HK : Hid (Calls Tryz.prog 104 #[.pointer (some ⟨pb, 0, none⟩), .int .i64 1] w2 fun e w' => PutD LB w0 B R pb (p + 1) on 60 bits forks e w') := put_d 1 60 _ _ _ _ _ _ _ _ _ _ _ _ _ HPL.out (by omega) (by omega) (by omega) (by omega) (by split <;> omega)
        clear HPL
        go_wp2_with fail
        refine HK.out.mono ?_
        rintro e w7 ⟨rfl, q7, oa7, oc7, ba7, fr7, hq7, hP7⟩
        have HP7 : Hid (Play LB w0 B R pb w7 q7 oa7 (on + 1) oc7 bits forks ba7 fr7) := hP7
        have x2 := hP7.c2
        have x3 := hP7.c3
        have y2 := hP7.fz 2
        have y3 := hP7.fz 3
        clear hP7 HK a0 a2 a3
        go_wp2
        go_end0
        exact ⟨rfl, q7, oa7, on + 1, oc7, bits + 1, forks, ba7, fr7, by omega, by omega, by omega, by omega, by omega, HP7.out.setB _⟩
      · go_wp2
        go_end0
        exact ⟨rfl, p + 1, oa, on, oc, bits, forks, _, fresh, by omega, by omega, by omega, by omega, by omega, HPL.out⟩
    · have HK : Hid (Calls Tryz.prog 104 #[.pointer (some ⟨pb, 0, none⟩), .int .i64 2] w2 fun e w' => PutD LB w0 B R pb (p + 1) on 60 bits forks e w') := put_d 2 60 _ _ _ _ _ _ _ _ _ _ _ _ _ HPL.out (by omega) (by omega) (by omega) (by omega) (by split <;> omega)
      clear HPL
      go_wp2_with fail
      refine HK.out.mono ?_
      rintro e w7 ⟨rfl, q7, oa7, oc7, ba7, fr7, hq7, hP7⟩
      have HP7 : Hid (Play LB w0 B R pb w7 q7 oa7 (on + 1) oc7 bits forks ba7 fr7) := hP7
      have x2 := hP7.c2
      have x3 := hP7.c3
      have y2 := hP7.fz 2
      have y3 := hP7.fz 3
      clear hP7 HK a0 a2 a3
      go_wp2
      go_end0
      exact ⟨rfl, q7, oa7, on + 1, oc7, bits, forks, ba7, fr7, by omega, by omega, by omega, by omega, by omega, HP7.out⟩
    · have HK : Hid (Calls Tryz.prog 104 #[.pointer (some ⟨pb, 0, none⟩), .int .i64 2] w2 fun e w' => PutD LB w0 B R pb (p + 1) on 60 bits forks e w') := put_d 2 60 _ _ _ _ _ _ _ _ _ _ _ _ _ HPL.out (by omega) (by omega) (by omega) (by omega) (by split <;> omega)
      clear HPL
      go_wp2_with fail
      refine HK.out.mono ?_
      rintro e w7 ⟨rfl, q7, oa7, oc7, ba7, fr7, hq7, hP7⟩
      have HP7 : Hid (Play LB w0 B R pb w7 q7 oa7 (on + 1) oc7 bits forks ba7 fr7) := hP7
      have x2 := hP7.c2
      have x3 := hP7.c3
      have y2 := hP7.fz 2
      have y3 := hP7.fz 3
      clear hP7 HK a0 a2 a3
      go_wp2
      go_end0
      exact ⟨rfl, q7, oa7, on + 1, oc7, bits, forks, ba7, fr7, by omega, by omega, by omega, by omega, by omega, HP7.out⟩
    · by_cases i1 : (1 : Int) ≤ bits
      · have HK : Hid (Calls Tryz.prog 104 #[.pointer (some ⟨pb, 0, none⟩), .int .i64 3] w2 fun e w' => PutD LB w0 B R pb (p + 1) on 60 bits forks e w') := put_d 3 60 _ _ _ _ _ _ _ _ _ _ _ _ _ HPL.out (by omega) (by omega) (by omega) (by omega) (by split <;> omega)
        clear HPL
        go_wp2_with fail
        refine HK.out.mono ?_
        rintro e w7 ⟨rfl, q7, oa7, oc7, ba7, fr7, hq7, hP7⟩
        have HP7 : Hid (Play LB w0 B R pb w7 q7 oa7 (on + 1) oc7 bits forks ba7 fr7) := hP7
        have x2 := hP7.c2
        have x3 := hP7.c3
        have y2 := hP7.fz 2
        have y3 := hP7.fz 3
        clear hP7 HK a0 a2 a3
        go_wp2
        go_end0
        exact ⟨rfl, q7, oa7, on + 1, oc7, bits, forks, ba7, fr7, by omega, by omega, by omega, by omega, by omega, HP7.out⟩
      · exact absurd hb1 i1
    · by_cases i1 : (1 : Int) ≤ bits
      · have HQ : Hid (Calls Tryz.prog 30 #[.pointer (some ⟨R, 0, none⟩), .int .i64 2] w2 fun e w' => ∃ r : Nat, r < 2 ∧ e = .returned (.int .i64 r) ∧ Play LB w0 B R pb w' (p + 1 + 1) oa on oc bits forks false fresh) := (pick_r B R (p + 1) 2 w2 HPL.out.rd (by omega) (by omega) (by omega)).mono fun e w' ⟨r, r1, e1, h1, g1⟩ => ⟨r, by omega, e1, HPL.out.move g1 h1⟩
        clear HPL
        go_wp2_with fail
        refine HQ.out.mono ?_
        rintro e w3 ⟨s, hs, rfl, hP3⟩
        have HPL : Hid (Play LB w0 B R pb w3 (p + 1 + 1) oa on oc bits forks false fresh) := hP3
        clear a0 a2 a3 HQ
        have a0 := hP3.c0
        have a2 := hP3.c2
        have a3 := hP3.c3
        clear hP3
        have hs2 : s = 0 ∨ s = 1 := by omega
        rcases hs2 with rfl | rfl
        · have HK : Hid (Calls Tryz.prog 104 #[.pointer (some ⟨pb, 0, none⟩), .int .i64 6] w3 fun e w' => PutD LB w0 B R pb (p + 1 + 1) on 60 bits forks e w') := put_d 6 60 _ _ _ _ _ _ _ _ _ _ _ _ _ HPL.out (by omega) (by omega) (by omega) (by omega) (by split <;> omega)
          clear HPL
          go_wp2_with fail
          refine HK.out.mono ?_
          rintro e w7 ⟨rfl, q7, oa7, oc7, ba7, fr7, hq7, hP7⟩
          have HP7 : Hid (Play LB w0 B R pb w7 q7 oa7 (on + 1) oc7 bits forks ba7 fr7) := hP7
          have x2 := hP7.c2
          have x3 := hP7.c3
          have y2 := hP7.fz 2
          have y3 := hP7.fz 3
          clear hP7 HK a0 a2 a3
          go_wp2
          go_end0
          exact ⟨rfl, q7, oa7, on + 1, oc7, bits, forks, ba7, fr7, by omega, by omega, by omega, by omega, by omega, HP7.out⟩
        · go_wp2
          go_end0
          exact ⟨rfl, p + 1 + 1, oa, on, oc, bits, forks, _, fresh, by omega, by omega, by omega, by omega, by omega, HPL.out⟩
      · exact absurd hb1 i1
    · by_cases i1 : (1 : Int) < bits
      · have HK : Hid (Calls Tryz.prog 104 #[.pointer (some ⟨pb, 0, none⟩), .int .i64 4] w2 fun e w' => PutD LB w0 B R pb (p + 1) on 60 bits forks e w') := put_d 4 60 _ _ _ _ _ _ _ _ _ _ _ _ _ HPL.out (by omega) (by omega) (by omega) (by omega) (by split <;> omega)
        clear HPL
        go_wp2_with fail
        refine HK.out.mono ?_
        rintro e w7 ⟨rfl, q7, oa7, oc7, ba7, fr7, hq7, hP7⟩
        have HP7 : Hid (Play LB w0 B R pb w7 q7 oa7 (on + 1) oc7 bits forks ba7 fr7) := hP7
        have x2 := hP7.c2
        have x3 := hP7.c3
        have y2 := hP7.fz 2
        have y3 := hP7.fz 3
        clear hP7 HK a0 a2 a3
        go_wp2
        go_end0
        exact ⟨rfl, q7, oa7, on + 1, oc7, bits - 1, forks, ba7, fr7, by omega, by omega, by omega, by omega, by omega, HP7.out.setB _⟩
      · go_wp2
        go_end0
        exact ⟨rfl, p + 1, oa, on, oc, bits, forks, _, fresh, by omega, by omega, by omega, by omega, by omega, HPL.out⟩
    · by_cases i1 : (1 : Int) < bits
      · have HK : Hid (Calls Tryz.prog 104 #[.pointer (some ⟨pb, 0, none⟩), .int .i64 5] w2 fun e w' => PutD LB w0 B R pb (p + 1) on 60 bits forks e w') := put_d 5 60 _ _ _ _ _ _ _ _ _ _ _ _ _ HPL.out (by omega) (by omega) (by omega) (by omega) (by split <;> omega)
        clear HPL
        go_wp2_with fail
        refine HK.out.mono ?_
        rintro e w7 ⟨rfl, q7, oa7, oc7, ba7, fr7, hq7, hP7⟩
        have HP7 : Hid (Play LB w0 B R pb w7 q7 oa7 (on + 1) oc7 bits forks ba7 fr7) := hP7
        have x2 := hP7.c2
        have x3 := hP7.c3
        have y2 := hP7.fz 2
        have y3 := hP7.fz 3
        clear hP7 HK a0 a2 a3
        go_wp2
        go_end0
        exact ⟨rfl, q7, oa7, on + 1, oc7, bits - 1, forks, ba7, fr7, by omega, by omega, by omega, by omega, by omega, HP7.out.setB _⟩
      · go_wp2
        go_end0
        exact ⟨rfl, p + 1, oa, on, oc, bits, forks, _, fresh, by omega, by omega, by omega, by omega, by omega, HPL.out⟩
    · by_cases i1 : bits = 1
      · have j1 : (bits == 1) = true := by simp [i1]
        clear i1
        have HK : Hid (Calls Tryz.prog 104 #[.pointer (some ⟨pb, 0, none⟩), .int .i64 10] w2 fun e w' => PutD LB w0 B R pb (p + 1) on 60 bits forks e w') := put_d 10 60 _ _ _ _ _ _ _ _ _ _ _ _ _ HPL.out (by omega) (by omega) (by omega) (by omega) (by split <;> omega)
        clear HPL
        go_wp2_with fail
        refine HK.out.mono ?_
        rintro e w7 ⟨rfl, q7, oa7, oc7, ba7, fr7, hq7, hP7⟩
        have HP7 : Hid (Play LB w0 B R pb w7 q7 oa7 (on + 1) oc7 bits forks ba7 fr7) := hP7
        have x2 := hP7.c2
        have x3 := hP7.c3
        have y2 := hP7.fz 2
        have y3 := hP7.fz 3
        clear hP7 HK a0 a2 a3
        go_wp2
        go_end0
        exact ⟨rfl, q7, oa7, on + 1, oc7, bits, forks, ba7, fr7, by omega, by omega, by omega, by omega, by omega, HP7.out⟩
      · have j1 : (bits == 1) = false := by simp [i1]
        clear i1
        go_wp2
        go_end0
        exact ⟨rfl, p + 1, oa, on, oc, bits, forks, _, fresh, by omega, by omega, by omega, by omega, by omega, HPL.out⟩
    · by_cases i1 : bits = 1
      · have j1 : (bits == 1) = true := by simp [i1]
        clear i1
        by_cases i2 : forks < 8
        · have HK : Hid (Calls Tryz.prog 104 #[.pointer (some ⟨pb, 0, none⟩), .int .i64 7] w2 fun e w' => PutD LB w0 B R pb (p + 1) on 60 bits forks e w') := put_d 7 60 _ _ _ _ _ _ _ _ _ _ _ _ _ HPL.out (by omega) (by omega) (by omega) (by omega) (by split <;> omega)
          clear HPL
          go_wp2_with fail
          refine HK.out.mono ?_
          rintro e w7 ⟨rfl, q7, oa7, oc7, ba7, fr7, hq7, hP7⟩
          have HP7 : Hid (Play LB w0 B R pb w7 q7 oa7 (on + 1) oc7 bits forks ba7 fr7) := hP7
          have x2 := hP7.c2
          have x3 := hP7.c3
          have y2 := hP7.fz 2
          have y3 := hP7.fz 3
          clear hP7 HK a0 a2 a3
          go_wp2
          go_end0
          exact ⟨rfl, q7, oa7, on + 1, oc7, bits, forks + 1, ba7, fr7, by omega, by omega, by omega, by omega, by omega, HP7.out.setF _⟩
        · go_wp2
          go_end0
          exact ⟨rfl, p + 1, oa, on, oc, bits, forks, _, fresh, by omega, by omega, by omega, by omega, by omega, HPL.out⟩
      · have j1 : (bits == 1) = false := by simp [i1]
        clear i1
        go_wp2
        go_end0
        exact ⟨rfl, p + 1, oa, on, oc, bits, forks, _, fresh, by omega, by omega, by omega, by omega, by omega, HPL.out⟩
    · by_cases i1 : (0 : Int) < forks
      · have HC : Hid (Calls Tryz.prog 106 #[.pointer (some ⟨pb, 0, none⟩)] w2 fun e w' => CloseR LB w0 B R pb (p + 1) on forks e w') := close_r _ _ _ _ _ _ _ _ _ _ _ _ _ HPL.out (by omega) (by omega) (by omega) (by omega)
        clear HPL
        go_wp2_with fail
        refine HC.out.mono ?_
        rintro e w3 ⟨rfl, q3, oa3, n3, oc3, ba3, fr3, hq3, hn3, hn4, hP3⟩
        have HQ : Hid (Calls Tryz.prog 30 #[.pointer (some ⟨R, 0, none⟩), .int .i64 2] w3 fun e w' => ∃ r : Nat, r < 2 ∧ e = .returned (.int .i64 r) ∧ Play LB w0 B R pb w' (q3 + 1) oa3 n3 oc3 1 forks ba3 fr3) := (pick_r B R q3 2 w3 hP3.rd (by omega) (by omega) (by omega)).mono fun e w' ⟨r, r1, e1, h1, g1⟩ => ⟨r, by omega, e1, hP3.move g1 h1⟩
        clear a0 a2 a3 HC
        have a0 := hP3.c0
        clear hP3
        go_wp2_with fail
        refine HQ.out.mono ?_
        rintro e w4 ⟨s, hs, rfl, hP4⟩
        have HK : Hid (Calls Tryz.prog 104 #[.pointer (some ⟨pb, 0, none⟩), .int .i64 (8 + (s : Int))] w4 fun e w' => PutD LB w0 B R pb (q3 + 1) n3 60 1 forks e w') := put_d (8 + (s : Int)) 60 _ _ _ _ _ _ _ _ _ _ _ _ _ hP4 (by omega) (by omega) (by omega) (by omega) (by split <;> omega)
        clear hP4 a0 HQ
        go_wp2_with fail
        refine HK.out.mono ?_
        rintro e w7 ⟨rfl, q7, oa7, oc7, ba7, fr7, hq7, hP7⟩
        have HP7 : Hid (Play LB w0 B R pb w7 q7 oa7 (n3 + 1) oc7 1 forks ba7 fr7) := hP7
        obtain ⟨hoc, g7, x7, rfl, k7⟩ := hP7.last
        have x1 := hP7.c1
        have x3 := hP7.c3
        have y3 := hP7.fz 3
        clear hP7 HK
        go_wp2
        go_quiet (fail)
        by_cases h9 : x7 = 9
        · have j9 : (x7 == 9) = true := by simp [h9]
          clear h9
          go_wp2
          go_end0
          exact ⟨rfl, q7, _, n3 + 1, oc7, 1, forks - 1, ba7, fr7, by omega, by omega, by omega, by omega, by omega, (HP7.out.drewN _).setF _⟩
        · have j9 : (x7 == 9) = false := by simp [h9]
          clear h9
          go_wp2
          go_end0
          exact ⟨rfl, q7, _, n3 + 1, oc7, 1, forks, ba7, fr7, by omega, by omega, by omega, by omega, by omega, HP7.out.drewN _⟩
      · go_wp2
        go_end0
        exact ⟨rfl, p + 1, oa, on, oc, bits, forks, _, fresh, by omega, by omega, by omega, by omega, by omega, HPL.out⟩
  · go_enter Tryz.func105, Tryz.ntmps105
    go_wp2_with fail
    refine HR.out.mono ?_
    rintro e w2 ⟨r, hr, rfl, hP2⟩
    have HPL : Hid (Play LB w0 B R pb w2 (p + 1) oa on oc bits forks true fresh) := hP2
    have a0 := hP2.c0
    have a2 := hP2.c2
    have a3 := hP2.c3
    clear hP2 HR c0 c4
    have hr2 : r = 0 ∨ r = 1 ∨ r = 2 ∨ r = 3 ∨ r = 4 ∨ r = 5 ∨ r = 6 ∨ r = 7 ∨ r = 8 ∨ r = 9 ∨ r = 10 := by omega
    rcases hr2 with rfl | rfl | rfl | rfl | rfl | rfl | rfl | rfl | rfl | rfl | rfl
    · by_cases i1 : bits < 16
      · have HK : Hid (Calls Tryz.prog 104 #[.pointer (some ⟨pb, 0, none⟩), .int .i64 1] w2 fun e w' => PutD LB w0 B R pb (p + 1) on 60 bits forks e w') := put_d 1 60 _ _ _ _ _ _ _ _ _ _ _ _ _ HPL.out (by omega) (by omega) (by omega) (by omega) (by split <;> omega)
        clear HPL
        go_wp2_with fail
        refine HK.out.mono ?_
        rintro e w7 ⟨rfl, q7, oa7, oc7, ba7, fr7, hq7, hP7⟩
        have HP7 : Hid (Play LB w0 B R pb w7 q7 oa7 (on + 1) oc7 bits forks ba7 fr7) := hP7
        have x2 := hP7.c2
        have x3 := hP7.c3
        have y2 := hP7.fz 2
        have y3 := hP7.fz 3
        clear hP7 HK a0 a2 a3
        go_wp2
        go_end0
        exact ⟨rfl, q7, oa7, on + 1, oc7, bits + 1, forks, ba7, fr7, by omega, by omega, by omega, by omega, by omega, HP7.out.setB _⟩
      · go_wp2
        go_end0
        exact ⟨rfl, p + 1, oa, on, oc, bits, forks, _, fresh, by omega, by omega, by omega, by omega, by omega, HPL.out⟩
    · by_cases i1 : bits < 16
      · have HK : Hid (Calls Tryz.prog 104 #[.pointer (some ⟨pb, 0, none⟩), .int .i64 1] w2 fun e w' => PutD LB w0 B R pb (p + 1) on 60 bits forks e w') := put_d 1 60 _ _ _ _ _ _ _ _ _ _ _ _ _ HPL.out (by omega) (by omega) (by omega) (by omega) (by split <;> omega)
        clear HPL
        go_wp2_with fail
        refine HK.out.mono ?_
        rintro e w7 ⟨rfl, q7, oa7, oc7, ba7, fr7, hq7, hP7⟩
        have HP7 : Hid (Play LB w0 B R pb w7 q7 oa7 (on + 1) oc7 bits forks ba7 fr7) := hP7
        have x2 := hP7.c2
        have x3 := hP7.c3
        have y2 := hP7.fz 2
        have y3 := hP7.fz 3
        clear hP7 HK a0 a2 a3
        go_wp2
        go_end0
        exact ⟨rfl, q7, oa7, on + 1, oc7, bits + 1, forks, ba7, fr7, by omega, by omega, by omega, by omega, by omega, HP7.out.setB _⟩
      · go_wp2
        go_end0
        exact ⟨rfl, p + 1, oa, on, oc, bits, forks, _, fresh, by omega, by omega, by omega, by omega, by omega, HPL.out⟩
    · have HK : Hid (Calls Tryz.prog 104 #[.pointer (some ⟨pb, 0, none⟩), .int .i64 2] w2 fun e w' => PutD LB w0 B R pb (p + 1) on 60 bits forks e w') := put_d 2 60 _ _ _ _ _ _ _ _ _ _ _ _ _ HPL.out (by omega) (by omega) (by omega) (by omega) (by split <;> omega)
      clear HPL
      go_wp2_with fail
      refine HK.out.mono ?_
      rintro e w7 ⟨rfl, q7, oa7, oc7, ba7, fr7, hq7, hP7⟩
      have HP7 : Hid (Play LB w0 B R pb w7 q7 oa7 (on + 1) oc7 bits forks ba7 fr7) := hP7
      have x2 := hP7.c2
      have x3 := hP7.c3
      have y2 := hP7.fz 2
      have y3 := hP7.fz 3
      clear hP7 HK a0 a2 a3
      go_wp2
      go_end0
      exact ⟨rfl, q7, oa7, on + 1, oc7, bits, forks, ba7, fr7, by omega, by omega, by omega, by omega, by omega, HP7.out⟩
    · have HK : Hid (Calls Tryz.prog 104 #[.pointer (some ⟨pb, 0, none⟩), .int .i64 2] w2 fun e w' => PutD LB w0 B R pb (p + 1) on 60 bits forks e w') := put_d 2 60 _ _ _ _ _ _ _ _ _ _ _ _ _ HPL.out (by omega) (by omega) (by omega) (by omega) (by split <;> omega)
      clear HPL
      go_wp2_with fail
      refine HK.out.mono ?_
      rintro e w7 ⟨rfl, q7, oa7, oc7, ba7, fr7, hq7, hP7⟩
      have HP7 : Hid (Play LB w0 B R pb w7 q7 oa7 (on + 1) oc7 bits forks ba7 fr7) := hP7
      have x2 := hP7.c2
      have x3 := hP7.c3
      have y2 := hP7.fz 2
      have y3 := hP7.fz 3
      clear hP7 HK a0 a2 a3
      go_wp2
      go_end0
      exact ⟨rfl, q7, oa7, on + 1, oc7, bits, forks, ba7, fr7, by omega, by omega, by omega, by omega, by omega, HP7.out⟩
    · by_cases i1 : (2 : Int) ≤ bits
      · have HK : Hid (Calls Tryz.prog 104 #[.pointer (some ⟨pb, 0, none⟩), .int .i64 3] w2 fun e w' => PutD LB w0 B R pb (p + 1) on 60 bits forks e w') := put_d 3 60 _ _ _ _ _ _ _ _ _ _ _ _ _ HPL.out (by omega) (by omega) (by omega) (by omega) (by split <;> omega)
        clear HPL
        go_wp2_with fail
        refine HK.out.mono ?_
        rintro e w7 ⟨rfl, q7, oa7, oc7, ba7, fr7, hq7, hP7⟩
        have HP7 : Hid (Play LB w0 B R pb w7 q7 oa7 (on + 1) oc7 bits forks ba7 fr7) := hP7
        have x2 := hP7.c2
        have x3 := hP7.c3
        have y2 := hP7.fz 2
        have y3 := hP7.fz 3
        clear hP7 HK a0 a2 a3
        go_wp2
        go_end0
        exact ⟨rfl, q7, oa7, on + 1, oc7, bits, forks, ba7, fr7, by omega, by omega, by omega, by omega, by omega, HP7.out⟩
      · go_wp2
        go_end0
        exact ⟨rfl, p + 1, oa, on, oc, bits, forks, _, fresh, by omega, by omega, by omega, by omega, by omega, HPL.out⟩
    · by_cases i1 : (2 : Int) ≤ bits
      · have HQ : Hid (Calls Tryz.prog 30 #[.pointer (some ⟨R, 0, none⟩), .int .i64 2] w2 fun e w' => ∃ r : Nat, r < 2 ∧ e = .returned (.int .i64 r) ∧ Play LB w0 B R pb w' (p + 1 + 1) oa on oc bits forks true fresh) := (pick_r B R (p + 1) 2 w2 HPL.out.rd (by omega) (by omega) (by omega)).mono fun e w' ⟨r, r1, e1, h1, g1⟩ => ⟨r, by omega, e1, HPL.out.move g1 h1⟩
        clear HPL
        go_wp2_with fail
        refine HQ.out.mono ?_
        rintro e w3 ⟨s, hs, rfl, hP3⟩
        have HPL : Hid (Play LB w0 B R pb w3 (p + 1 + 1) oa on oc bits forks true fresh) := hP3
        clear a0 a2 a3 HQ
        have a0 := hP3.c0
        have a2 := hP3.c2
        have a3 := hP3.c3
        clear hP3
        have hs2 : s = 0 ∨ s = 1 := by omega
        rcases hs2 with rfl | rfl
        · have HK : Hid (Calls Tryz.prog 104 #[.pointer (some ⟨pb, 0, none⟩), .int .i64 6] w3 fun e w' => PutD LB w0 B R pb (p + 1 + 1) on 60 bits forks e w') := put_d 6 60 _ _ _ _ _ _ _ _ _ _ _ _ _ HPL.out (by omega) (by omega) (by omega) (by omega) (by split <;> omega)
          clear HPL
          go_wp2_with fail
          refine HK.out.mono ?_
          rintro e w7 ⟨rfl, q7, oa7, oc7, ba7, fr7, hq7, hP7⟩
          have HP7 : Hid (Play LB w0 B R pb w7 q7 oa7 (on + 1) oc7 bits forks ba7 fr7) := hP7
          have x2 := hP7.c2
          have x3 := hP7.c3
          have y2 := hP7.fz 2
          have y3 := hP7.fz 3
          clear hP7 HK a0 a2 a3
          go_wp2
          go_end0
          exact ⟨rfl, q7, oa7, on + 1, oc7, bits, forks, ba7, fr7, by omega, by omega, by omega, by omega, by omega, HP7.out⟩
        · go_wp2
          go_end0
          exact ⟨rfl, p + 1 + 1, oa, on, oc, bits, forks, _, fresh, by omega, by omega, by omega, by omega, by omega, HPL.out⟩
      · go_wp2
        go_end0
        exact ⟨rfl, p + 1, oa, on, oc, bits, forks, _, fresh, by omega, by omega, by omega, by omega, by omega, HPL.out⟩
    · by_cases i1 : (1 : Int) < bits
      · have HK : Hid (Calls Tryz.prog 104 #[.pointer (some ⟨pb, 0, none⟩), .int .i64 4] w2 fun e w' => PutD LB w0 B R pb (p + 1) on 60 bits forks e w') := put_d 4 60 _ _ _ _ _ _ _ _ _ _ _ _ _ HPL.out (by omega) (by omega) (by omega) (by omega) (by split <;> omega)
        clear HPL
        go_wp2_with fail
        refine HK.out.mono ?_
        rintro e w7 ⟨rfl, q7, oa7, oc7, ba7, fr7, hq7, hP7⟩
        have HP7 : Hid (Play LB w0 B R pb w7 q7 oa7 (on + 1) oc7 bits forks ba7 fr7) := hP7
        have x2 := hP7.c2
        have x3 := hP7.c3
        have y2 := hP7.fz 2
        have y3 := hP7.fz 3
        clear hP7 HK a0 a2 a3
        go_wp2
        go_end0
        exact ⟨rfl, q7, oa7, on + 1, oc7, bits - 1, forks, ba7, fr7, by omega, by omega, by omega, by omega, by omega, HP7.out.setB _⟩
      · go_wp2
        go_end0
        exact ⟨rfl, p + 1, oa, on, oc, bits, forks, _, fresh, by omega, by omega, by omega, by omega, by omega, HPL.out⟩
    · by_cases i1 : (2 : Int) < bits
      · have HK : Hid (Calls Tryz.prog 104 #[.pointer (some ⟨pb, 0, none⟩), .int .i64 5] w2 fun e w' => PutD LB w0 B R pb (p + 1) on 60 bits forks e w') := put_d 5 60 _ _ _ _ _ _ _ _ _ _ _ _ _ HPL.out (by omega) (by omega) (by omega) (by omega) (by split <;> omega)
        clear HPL
        go_wp2_with fail
        refine HK.out.mono ?_
        rintro e w7 ⟨rfl, q7, oa7, oc7, ba7, fr7, hq7, hP7⟩
        have HP7 : Hid (Play LB w0 B R pb w7 q7 oa7 (on + 1) oc7 bits forks ba7 fr7) := hP7
        have x2 := hP7.c2
        have x3 := hP7.c3
        have y2 := hP7.fz 2
        have y3 := hP7.fz 3
        clear hP7 HK a0 a2 a3
        go_wp2
        go_end0
        exact ⟨rfl, q7, oa7, on + 1, oc7, bits - 1, forks, ba7, fr7, by omega, by omega, by omega, by omega, by omega, HP7.out.setB _⟩
      · go_wp2
        go_end0
        exact ⟨rfl, p + 1, oa, on, oc, bits, forks, _, fresh, by omega, by omega, by omega, by omega, by omega, HPL.out⟩
    · by_cases i1 : bits = 1
      · have j1 : (bits == 1) = true := by simp [i1]
        clear i1
        have HK : Hid (Calls Tryz.prog 104 #[.pointer (some ⟨pb, 0, none⟩), .int .i64 10] w2 fun e w' => PutD LB w0 B R pb (p + 1) on 60 bits forks e w') := put_d 10 60 _ _ _ _ _ _ _ _ _ _ _ _ _ HPL.out (by omega) (by omega) (by omega) (by omega) (by split <;> omega)
        clear HPL
        go_wp2_with fail
        refine HK.out.mono ?_
        rintro e w7 ⟨rfl, q7, oa7, oc7, ba7, fr7, hq7, hP7⟩
        have HP7 : Hid (Play LB w0 B R pb w7 q7 oa7 (on + 1) oc7 bits forks ba7 fr7) := hP7
        have x2 := hP7.c2
        have x3 := hP7.c3
        have y2 := hP7.fz 2
        have y3 := hP7.fz 3
        clear hP7 HK a0 a2 a3
        go_wp2
        go_end0
        exact ⟨rfl, q7, oa7, on + 1, oc7, bits, forks, ba7, fr7, by omega, by omega, by omega, by omega, by omega, HP7.out⟩
      · have j1 : (bits == 1) = false := by simp [i1]
        clear i1
        go_wp2
        go_end0
        exact ⟨rfl, p + 1, oa, on, oc, bits, forks, _, fresh, by omega, by omega, by omega, by omega, by omega, HPL.out⟩
    · by_cases i1 : bits = 1
      · have j1 : (bits == 1) = true := by simp [i1]
        clear i1
        by_cases i2 : forks < 8
        · have HK : Hid (Calls Tryz.prog 104 #[.pointer (some ⟨pb, 0, none⟩), .int .i64 7] w2 fun e w' => PutD LB w0 B R pb (p + 1) on 60 bits forks e w') := put_d 7 60 _ _ _ _ _ _ _ _ _ _ _ _ _ HPL.out (by omega) (by omega) (by omega) (by omega) (by split <;> omega)
          clear HPL
          go_wp2_with fail
          refine HK.out.mono ?_
          rintro e w7 ⟨rfl, q7, oa7, oc7, ba7, fr7, hq7, hP7⟩
          have HP7 : Hid (Play LB w0 B R pb w7 q7 oa7 (on + 1) oc7 bits forks ba7 fr7) := hP7
          have x2 := hP7.c2
          have x3 := hP7.c3
          have y2 := hP7.fz 2
          have y3 := hP7.fz 3
          clear hP7 HK a0 a2 a3
          go_wp2
          go_end0
          exact ⟨rfl, q7, oa7, on + 1, oc7, bits, forks + 1, ba7, fr7, by omega, by omega, by omega, by omega, by omega, HP7.out.setF _⟩
        · go_wp2
          go_end0
          exact ⟨rfl, p + 1, oa, on, oc, bits, forks, _, fresh, by omega, by omega, by omega, by omega, by omega, HPL.out⟩
      · have j1 : (bits == 1) = false := by simp [i1]
        clear i1
        go_wp2
        go_end0
        exact ⟨rfl, p + 1, oa, on, oc, bits, forks, _, fresh, by omega, by omega, by omega, by omega, by omega, HPL.out⟩
    · by_cases i1 : (0 : Int) < forks
      · have HC : Hid (Calls Tryz.prog 106 #[.pointer (some ⟨pb, 0, none⟩)] w2 fun e w' => CloseR LB w0 B R pb (p + 1) on forks e w') := close_r _ _ _ _ _ _ _ _ _ _ _ _ _ HPL.out (by omega) (by omega) (by omega) (by omega)
        clear HPL
        go_wp2_with fail
        refine HC.out.mono ?_
        rintro e w3 ⟨rfl, q3, oa3, n3, oc3, ba3, fr3, hq3, hn3, hn4, hP3⟩
        have HQ : Hid (Calls Tryz.prog 30 #[.pointer (some ⟨R, 0, none⟩), .int .i64 2] w3 fun e w' => ∃ r : Nat, r < 2 ∧ e = .returned (.int .i64 r) ∧ Play LB w0 B R pb w' (q3 + 1) oa3 n3 oc3 1 forks ba3 fr3) := (pick_r B R q3 2 w3 hP3.rd (by omega) (by omega) (by omega)).mono fun e w' ⟨r, r1, e1, h1, g1⟩ => ⟨r, by omega, e1, hP3.move g1 h1⟩
        clear a0 a2 a3 HC
        have a0 := hP3.c0
        clear hP3
        go_wp2_with fail
        refine HQ.out.mono ?_
        rintro e w4 ⟨s, hs, rfl, hP4⟩
        have HK : Hid (Calls Tryz.prog 104 #[.pointer (some ⟨pb, 0, none⟩), .int .i64 (8 + (s : Int))] w4 fun e w' => PutD LB w0 B R pb (q3 + 1) n3 60 1 forks e w') := put_d (8 + (s : Int)) 60 _ _ _ _ _ _ _ _ _ _ _ _ _ hP4 (by omega) (by omega) (by omega) (by omega) (by split <;> omega)
        clear hP4 a0 HQ
        go_wp2_with fail
        refine HK.out.mono ?_
        rintro e w7 ⟨rfl, q7, oa7, oc7, ba7, fr7, hq7, hP7⟩
        have HP7 : Hid (Play LB w0 B R pb w7 q7 oa7 (n3 + 1) oc7 1 forks ba7 fr7) := hP7
        obtain ⟨hoc, g7, x7, rfl, k7⟩ := hP7.last
        have x1 := hP7.c1
        have x3 := hP7.c3
        have y3 := hP7.fz 3
        clear hP7 HK
        go_wp2
        go_quiet (fail)
        by_cases h9 : x7 = 9
        · have j9 : (x7 == 9) = true := by simp [h9]
          clear h9
          go_wp2
          go_end0
          exact ⟨rfl, q7, _, n3 + 1, oc7, 1, forks - 1, ba7, fr7, by omega, by omega, by omega, by omega, by omega, (HP7.out.drewN _).setF _⟩
        · have j9 : (x7 == 9) = false := by simp [h9]
          clear h9
          go_wp2
          go_end0
          exact ⟨rfl, q7, _, n3 + 1, oc7, 1, forks, ba7, fr7, by omega, by omega, by omega, by omega, by omega, HP7.out.drewN _⟩
      · go_wp2
        go_end0
        exact ⟨rfl, p + 1, oa, on, oc, bits, forks, _, fresh, by omega, by omega, by omega, by omega, by omega, HPL.out⟩
end Go.Proofs.YtndfmgbdfcggmaaGreatDoor
/- A play: a rung. -/
namespace Go.Proofs.YtndfmgbdfcggmaaGreatDoor
open Go.RowKit
set_option linter.unusedVariables false
variable {LB : Nat}

def RungP (LB : Nat) (w0 : World) (B R pb p on : Nat) (e : Ending) (w' : World) : Prop :=
  e = .returned (.tuple #[]) ∧ ∃ (q : Nat) (oa : Option Addr) (n oc : Nat) (base fresh : Bool), q ≤ p + 7000 ∧ on + 2 ≤ n ∧ n ≤ on + 900 ∧ Play LB w0 B R pb w' q oa n oc 0 0 base fresh

set_option maxRecDepth 10000 in
set_option maxHeartbeats 8000000 in
theorem rung_r (N : Nat) (w0 w : World) (B R pb p on oc : Nat) (oa : Option Addr) (bits : Int) (base fresh : Bool) (h : Play LB w0 B R pb w p oa on oc bits 0 base fresh) (hN : N < 40) (hp : p < 660000) (hon : on ≤ 70000) :
    Calls Tryz.prog 75 #[.pointer (some ⟨pb, 0, none⟩), .int .i64 (N : Int)] w fun e w' => RungP LB w0 B R pb p on e w' := by
  have c4 := h.c4
  have f4 := h.fz 4
  have HK : Hid (Calls Tryz.prog 104 #[.pointer (some ⟨pb, 0, none⟩), .int .i64 1] (w.setCell ⟨pb, 4, none⟩ (.bool false)) fun e w' => PutD LB w0 B R pb p on 60 bits 0 e w') := put_d 1 60 _ _ _ _ _ _ _ _ _ _ _ _ _ (h.setM false) (by omega) (by omega) (by omega) (by omega) (by split <;> omega)
  clear h
  go_enter Tryz.func75, Tryz.ntmps75
  go_wp2_with fail
  refine HK.out.mono ?_
  rintro e w2 ⟨rfl, q2, oa2, oc2, ba2, fr2, hq2, hP2⟩
  have x2 := hP2.c2
  have y2 := hP2.fz 2
  have HP2 : Hid (Play LB w0 B R pb (w2.setCell ⟨pb, 2, none⟩ (.int .i64 1)) q2 oa2 (on + 1) oc2 1 0 ba2 fr2) := hP2.setB 1
  clear hP2 HK c4 f4
  go_wp2
  go_loopg [4] N (fun gk i wr => ∃ (k q : Nat) (oa : Option Addr) (m oc : Nat) (bt fk : Int) (ba fr : Bool), k + gk = N ∧ i = .int .i64 (k : Int) ∧ q ≤ p + 60 + 150 * k ∧ on + 1 ≤ m ∧ m ≤ on + 1 + 18 * k ∧ (1 ≤ bt ∧ bt ≤ 16) ∧ (0 ≤ fk ∧ fk ≤ 8) ∧ Hid (Play LB w0 B R pb wr q oa m oc bt fk ba fr))
  case atStart => exact ⟨0, q2, oa2, on + 1, oc2, 1, 0, ba2, fr2, by omega, rfl, by omega, by omega, by omega, by omega, by omega, HP2⟩
  case round =>
    clear HP2 x2 y2
    obtain ⟨k, q, oa1, m, oc1, bt, fk, ba, fr, hk, rfl, hq, hm1, hm2, hbt, hfk, HP⟩ := hrel
    by_cases i1 : (k : Int) < (N : Int)
    · have HS : Hid (Calls Tryz.prog 105 #[.pointer (some ⟨pb, 0, none⟩)] wr fun e w' => StepR LB w0 B R pb q m e w') := step_r _ _ _ _ _ _ _ _ _ _ _ _ _ HP.out (by omega) (by omega) (by omega) (by omega) (by omega) (by omega)
      clear HP
      go_wp2_with fail
      refine HS.out.mono ?_
      rintro e w3 ⟨rfl, q3, oa3, n3, oc3, b3, k3, ba3, fr3, hq3, hn3, hn4, hb3, hk3, hP3⟩
      have HP3 : Hid (Play LB w0 B R pb w3 q3 oa3 n3 oc3 b3 k3 ba3 fr3) := hP3
      clear hP3 HS
      go_wp2
      go_roundg (gk - 1)
      case measure => omega
      case rel => exact ⟨k + 1, q3, oa3, n3, oc3, b3, k3, ba3, fr3, by omega, by simp, by omega, by omega, by omega, by omega, by omega, HP3⟩
    · have hkN : k = N := by omega
      have HC : Hid (Calls Tryz.prog 106 #[.pointer (some ⟨pb, 0, none⟩)] wr fun e w' => CloseR LB w0 B R pb q m fk e w') := close_r _ _ _ _ _ _ _ _ _ _ _ _ _ HP.out (by omega) (by omega) (by omega) (by omega)
      clear HP
      go_wp2_with fail
      refine HC.out.mono ?_
      rintro e w3 ⟨rfl, q3, oa3, n3, oc3, ba3, fr3, hq3, hn3, hn4, hP3⟩
      have HP3 : Hid (Play LB w0 B R pb w3 q3 oa3 n3 oc3 1 fk ba3 fr3) := hP3
      clear hP3 HC
      go_wp2
      go_loopg [] 8 (fun gj wr => ∃ (q : Nat) (oa : Option Addr) (m oc : Nat) (f2 : Int) (ba fr : Bool), (0 ≤ f2 ∧ f2 ≤ gj ∧ gj ≤ 8) ∧ q + 80 * gj ≤ p + 6700 ∧ on + 1 ≤ m ∧ m + 18 * gj ≤ on + 890 ∧ Hid (Play LB w0 B R pb wr q oa m oc 1 f2 ba fr))
      case atStart => exact ⟨q3, oa3, n3, oc3, fk, ba3, fr3, by omega, by omega, by omega, by omega, HP3⟩
      case round =>
        clear HP3
        obtain ⟨q4, oa4, m4, oc4, f4, ba4, fr4, hf4, hq4, hm4, hm5, HP⟩ := hrel
        have a3 := HP.out.c3
        by_cases i2 : (0 : Int) < f4
        · have HK : Hid (Calls Tryz.prog 104 #[.pointer (some ⟨pb, 0, none⟩), .int .i64 9] wr fun e w' => PutD LB w0 B R pb q4 m4 0 1 f4 e w') := put_d 9 0 _ _ _ _ _ _ _ _ _ _ _ _ _ HP.out (by omega) (by omega) (by omega) (by omega) (by simp)
          clear HP
          go_wp2_with fail
          refine HK.out.mono ?_
          rintro e w5 ⟨rfl, q5, oa5, oc5, ba5, fr5, hq5, hP5⟩
          have x3 := hP5.c3
          have y3 := hP5.fz 3
          have HC : Hid (Calls Tryz.prog 106 #[.pointer (some ⟨pb, 0, none⟩)] (w5.setCell ⟨pb, 3, none⟩ (.int .i64 (f4 - 1))) fun e w' => CloseR LB w0 B R pb q5 (m4 + 1) (f4 - 1) e w') := close_r _ _ _ _ _ _ _ _ _ _ _ _ _ (hP5.setF (f4 - 1)) (by omega) (by omega) (by omega) (by omega)
          clear hP5 HK a3
          go_wp2_with fail
          refine HC.out.mono ?_
          rintro e w6 ⟨rfl, q6, oa6, n6, oc6, ba6, fr6, hq6, hn6, hn7, hP6⟩
          have HP6 : Hid (Play LB w0 B R pb w6 q6 oa6 n6 oc6 1 (f4 - 1) ba6 fr6) := hP6
          clear hP6 HC x3 y3
          go_wp2
          go_roundg (gk - 1)
          case measure => omega
          case rel => exact ⟨q6, oa6, n6, oc6, f4 - 1, ba6, fr6, by omega, by omega, by omega, by omega, HP6⟩
        · have h0 : f4 = 0 := by omega
          subst h0
          have HK : Hid (Calls Tryz.prog 104 #[.pointer (some ⟨pb, 0, none⟩), .int .i64 11] wr fun e w' => PutD LB w0 B R pb q4 m4 0 1 0 e w') := put_d 11 0 _ _ _ _ _ _ _ _ _ _ _ _ _ HP.out (by omega) (by omega) (by omega) (by omega) (by simp)
          clear HP
          go_wp2_with fail
          refine HK.out.mono ?_
          rintro e w5 ⟨rfl, q5, oa5, oc5, ba5, fr5, hq5, hP5⟩
          have HP5 : Hid (Play LB w0 B R pb w5 q5 oa5 (m4 + 1) oc5 1 0 ba5 fr5) := hP5
          have x2 := hP5.c2
          have y2 := hP5.fz 2
          clear hP5 HK a3
          go_wp2
          go_end0
          exact ⟨rfl, q5, oa5, m4 + 1, oc5, ba5, fr5, by omega, by omega, by omega, HP5.out.setB 0⟩
end Go.Proofs.YtndfmgbdfcggmaaGreatDoor
/- A list that keeps to heights and grammar is drawn. -/
namespace Go.Proofs.YtndfmgbdfcggmaaGreatDoor
open Go.RowKit
set_option linter.unusedVariables false
variable {LB : Nat}

theorem RD.off {W : World} {H pb pb' : Nat} {v : Value} {xs : List InstT} (h : RD LB W H pb v xs) (hp : pb' < H) : RD LB W H pb' v xs := by
  have hl := h.lt
  obtain ⟨h1, cs, h2, h3⟩ := h
  refine ⟨fun e => by have := hl _ e; omega, cs, h2.move fun f x c _ hh => ⟨hh.1, hh.2.move (gb_refl _ none) (fun b _ _ _ => by simp) (fun b b1 _ b3 => ⟨by omega, b3.2⟩)⟩, h3⟩
/-- What a draw of a list leaves: the list, of at most L instructions; d numbers read at most. -/
def ListR (LB : Nat) (w : World) (B R p L d : Nat) (e : Ending) (w' : World) : Prop :=
  ∃ (a : Option Addr) (n cap q : Nat) (xs : List InstT), e = .returned (.slice a n cap) ∧ Hid (n = xs.length) ∧ n ≤ L ∧ q ≤ p + d ∧ RD LB w' w.heap.size R (.slice a n cap) xs ∧ Reader B w' R q ∧ w.grownBy w' (some R)
/-- The same, and short operands. -/
def ListS (LB : Nat) (w : World) (B R p L d : Nat) (e : Ending) (w' : World) : Prop :=
  ∃ (a : Option Addr) (n cap q : Nat) (xs : List InstT), e = .returned (.slice a n cap) ∧ Hid (n = xs.length) ∧ n ≤ L ∧ q ≤ p + d ∧ RD LB w' w.heap.size R (.slice a n cap) xs ∧ Reader B w' R q ∧ w.grownBy w' (some R) ∧ ∀ x ∈ xs, x.one.args.length ≤ 8
theorem play_end {w w' : World} {B R pb p q oc on L d : Nat} {oa : Option Addr} {bits forks : Int} {base fresh : Bool} (h : Play LB w B R pb w' q oa on oc bits forks base fresh) (hn : on ≤ L) (hq : q ≤ p + d) : ListS LB w B R p L d (.returned (.slice oa on oc)) w' := by
  obtain ⟨xs, e, hx, h8⟩ := h.row
  exact ⟨oa, on, oc, q, xs, rfl, e, hn, hq, hx.off h.RB.1, h.rd, h.gr, h8⟩
theorem play_new {w : World} {B R p : Nat} (h : Reader B w R p) (t : TypeId) : Play LB w B R w.heap.size (w.alloc (.cells #[.pointer (some ⟨R, 0, none⟩), .slice none 0 0, .int .i64 0, .int .i64 0, .bool false, .bool false] t)) p none 0 0 0 0 false false :=
  ⟨h.alloc _, gb_alloc (gb_refl _ _) _, h.2.1, Nat.le_refl _, by simp, by simp, by simp, by simp, by simp, by simp, fun o => by simp, [], rfl, RD.nil _ _ _, fun x hx => by cases hx⟩

set_option maxRecDepth 10000 in
set_option maxHeartbeats 8000000 in
theorem sure_r (w : World) (B R p : Nat) (h : Reader B w R p) (hp : p < 300000) :
    Calls Tryz.prog 47 #[.pointer (some ⟨R, 0, none⟩)] w fun e w' => ListS LB w B R p 2800 240000 e w' := by
  have hRB := h.1
  have hBw := h.2.1
  have hPk : ∀ (W : World) (q : Nat) (N : Int) (pb : Nat) (oa : Option Addr) (n oc : Nat) (b k : Int) (ba fr : Bool), Play LB w B R pb W q oa n oc b k ba fr → 1 ≤ N → N ≤ 1000000 → q < 1000000 → Calls Tryz.prog 30 #[.pointer (some ⟨R, 0, none⟩), .int .i64 N] W fun e w' => ∃ r : Nat, (r : Int) < N ∧ e = .returned (.int .i64 r) ∧ Play LB w B R pb w' (q + 1) oa n oc b k ba fr :=
    fun W q N pb oa n oc b k ba fr hP h1 h2 h3 => (pick_r B R q N W hP.rd h1 h2 h3).mono fun e w' ⟨r, r1, e1, hr, g1⟩ => ⟨r, r1, e1, hP.move g1 hr⟩
  have HPk : Hid (∀ (W : World) (q : Nat) (N : Int) (pb : Nat) (oa : Option Addr) (n oc : Nat) (b k : Int) (ba fr : Bool), Play LB w B R pb W q oa n oc b k ba fr → 1 ≤ N → N ≤ 1000000 → q < 1000000 → Calls Tryz.prog 30 #[.pointer (some ⟨R, 0, none⟩), .int .i64 N] W fun e w' => ∃ r : Nat, (r : Int) < N ∧ e = .returned (.int .i64 r) ∧ Play LB w B R pb w' (q + 1) oa n oc b k ba fr) := hPk
  have HP0 : Hid (Play LB w B R w.heap.size (w.alloc (.cells #[.pointer (some ⟨R, 0, none⟩), .slice none 0 0, .int .i64 0, .int .i64 0, .bool false, .bool false] 120)) p none 0 0 0 0 false false) := play_new h _
  obtain ⟨pb, Hpb⟩ : ∃ pb, Hid (pb = w.heap.size) := ⟨_, rfl⟩
  clear h hPk
  go_enter Tryz.func47, Tryz.ntmps47
  go_wp2_with fail
  refine (HPk.out _ _ 30 _ _ _ _ _ _ _ _ HP0.out (by omega) (by omega) (by omega)).mono ?_
  rintro e w1 ⟨r, hr, rfl, hP1⟩
  have HP1 : Hid (Play LB w B R w.heap.size w1 (p + 1) none 0 0 0 0 false false) := hP1
  have x1 := hP1.c1
  clear hP1 HP0
  by_cases hr0 : r = 0
  · subst hr0
    go_wp2
    go_ret
    exact play_end HP1.out (by omega) (by omega)
  have j0 : ((r : Int) == 0) = false := by simp; omega
  go_wp2_with fail
  refine (HPk.out _ _ 3 _ _ _ _ _ _ _ _ HP1.out (by omega) (by omega) (by omega)).mono ?_
  rintro e w2 ⟨s, hs, rfl, hP2⟩
  have HP2 : Hid (Play LB w B R w.heap.size w2 (p + 1 + 1) none 0 0 0 0 false false) := hP2
  clear hP2 HP1 x1 j0 hr0
  go_wp2
  go_loopg [4] (1 + s) (fun gk i wr => ∃ (q : Nat) (oa : Option Addr) (m oc : Nat) (bt : Int) (ba fr : Bool), i = .int .i64 (gk : Int) ∧ gk ≤ 3 ∧ q + 7001 * gk ≤ p + 2 + 21003 ∧ m + 900 * gk ≤ 2700 ∧ Hid (Play LB w B R w.heap.size wr q oa m oc bt 0 ba fr))
  case atStart => exact ⟨p + 2, none, 0, 0, 0, false, false, by simp, by omega, by omega, by omega, HP2⟩
  case round =>
    clear HP2
    obtain ⟨q, oa1, m, oc1, bt, ba, fr, rfl, hg, hq, hm, HP⟩ := hrel
    by_cases i1 : (0 : Int) < (gk : Int)
    · go_wp2_with fail
      refine (HPk.out _ _ 14 _ _ _ _ _ _ _ _ HP.out (by omega) (by omega) (by omega)).mono ?_
      rintro e w3 ⟨t, ht, rfl, hP3⟩
      have HS : Hid (Calls Tryz.prog 75 #[.pointer (some ⟨w.heap.size, 0, none⟩), .int .i64 (t : Int)] w3 fun e w' => RungP LB w B R w.heap.size (q + 1) m e w') := rung_r t _ _ _ _ _ _ _ _ _ _ _ _ hP3 (by omega) (by omega) (by omega)
      clear HP hP3
      go_wp2_with fail
      refine HS.out.mono ?_
      rintro e w4 ⟨rfl, q4, oa4, n4, oc4, ba4, fr4, hq4, hn4, hn5, hP4⟩
      have HP4 : Hid (Play LB w B R w.heap.size w4 q4 oa4 n4 oc4 0 0 ba4 fr4) := hP4
      clear hP4 HS
      go_wp2
      go_roundg (gk - 1)
      case measure => omega
      case rel => exact ⟨q4, oa4, n4, oc4, 0, ba4, fr4, by congr 1; omega, by omega, by omega, by omega, HP4⟩
    · go_wp2_with fail
      refine (HPk.out _ _ 16 _ _ _ _ _ _ _ _ HP.out (by omega) (by omega) (by omega)).mono ?_
      rintro e w3 ⟨t, ht, rfl, hP3⟩
      have HP3 : Hid (Play LB w B R w.heap.size w3 (q + 1) oa1 m oc1 bt 0 ba fr) := hP3
      have x1 := hP3.c1
      clear HP hP3
      by_cases ht0 : t = 0
      · subst ht0
        clear x1
        go_wp2
        go_loopg [] 30 (fun gj wr => ∃ (q : Nat) (oa : Option Addr) (m oc : Nat) (bt : Int) (ba fr : Bool), gj ≤ 30 ∧ q + 7100 * gj ≤ p + 21006 + 213000 ∧ m ≤ 2700 ∧ 60 ≤ m + 2 * gj ∧ Hid (Play LB w B R w.heap.size wr q oa m oc bt 0 ba fr))
        case atStart => exact ⟨q + 1, oa1, m, oc1, bt, ba, fr, by omega, by omega, by omega, by omega, HP3⟩
        case round =>
          clear HP3
          obtain ⟨q5, oa5, m5, oc5, bt5, ba5, fr5, hg5, hq5, hm5, hm6, HP⟩ := hrel
          have x1 := HP.out.c1
          by_cases i2 : (m5 : Int) < 60
          · go_wp2_with fail
            refine (HPk.out _ _ 40 _ _ _ _ _ _ _ _ HP.out (by omega) (by omega) (by omega)).mono ?_
            rintro e w6 ⟨u, hu, rfl, hP6⟩
            have HS : Hid (Calls Tryz.prog 75 #[.pointer (some ⟨w.heap.size, 0, none⟩), .int .i64 (u : Int)] w6 fun e w' => RungP LB w B R w.heap.size (q5 + 1) m5 e w') := rung_r u _ _ _ _ _ _ _ _ _ _ _ _ hP6 (by omega) (by omega) (by omega)
            clear HP hP6 x1
            go_wp2_with fail
            refine HS.out.mono ?_
            rintro e w7 ⟨rfl, q7, oa7, n7, oc7, ba7, fr7, hq7, hn7, hn8, hP7⟩
            have HP7 : Hid (Play LB w B R w.heap.size w7 q7 oa7 n7 oc7 0 0 ba7 fr7) := hP7
            clear hP7 HS
            go_wp2
            go_roundg (gk - 1)
            case measure => omega
            case rel => exact ⟨q7, oa7, n7, oc7, 0, ba7, fr7, by omega, by omega, by omega, by omega, HP7⟩
          · go_wp2
            go_ret
            exact play_end HP.out (by omega) (by omega)
      · have j0 : ((t : Int) == 0) = false := by simp; omega
        go_wp2
        go_ret
        exact play_end HP3.out (by omega) (by omega)
end Go.Proofs.YtndfmgbdfcggmaaGreatDoor
/- An instruction that is ok is drawn. -/
namespace Go.Proofs.YtndfmgbdfcggmaaGreatDoor
open Go.RowKit
set_option linter.unusedVariables false
variable {LB : Nat}

/-- What a draw of an instruction leaves. -/
def InstR (LB : Nat) (w : World) (e : Ending) (w' : World) : Prop :=
  ∃ (c op : Int) (a : Option Addr) (len cap : Nat) (xs : List Arg), e = .returned (.agg #[.int .i64 c, .int .i64 op, .slice a len cap]) ∧ Hid (len = xs.length) ∧ len ≤ cap ∧ Fin1 LB ⟨c, ⟨op, xs⟩⟩ ∧ Own w' w.heap.size a xs
theorem three_put {W : World} {b : Nat} {x y z : Value} (x' y' z' : Value) (h : W.cell? ⟨b, 0, none⟩ = some x ∧ W.cell? ⟨b, 1, none⟩ = some y ∧ W.cell? ⟨b, 2, none⟩ = some z) :
    (((W.setCell ⟨b, 0, none⟩ x').setCell ⟨b, 1, none⟩ y').setCell ⟨b, 2, none⟩ z').cell? ⟨b, 0, none⟩ = some x' ∧ (((W.setCell ⟨b, 0, none⟩ x').setCell ⟨b, 1, none⟩ y').setCell ⟨b, 2, none⟩ z').cell? ⟨b, 1, none⟩ = some y' ∧ (((W.setCell ⟨b, 0, none⟩ x').setCell ⟨b, 1, none⟩ y').setCell ⟨b, 2, none⟩ z').cell? ⟨b, 2, none⟩ = some z' := by
  refine ⟨?_, ?_, ?_⟩
  · exact (World.cell?_setCell_other _ _ _ _ (by simp)).trans ((World.cell?_setCell_other _ _ _ _ (by simp)).trans (World.cell?_setCell_same _ _ _ h.1))
  · exact (World.cell?_setCell_other _ _ _ _ (by simp)).trans (World.cell?_setCell_same _ _ _ ((World.cell?_setCell_other _ _ _ _ (by simp)).trans h.2.1))
  · exact World.cell?_setCell_same _ _ _ ((World.cell?_setCell_other _ _ _ _ (by simp)).trans ((World.cell?_setCell_other _ _ _ _ (by simp)).trans h.2.2))
theorem own_set3 {w : World} {b H H' : Nat} {a : Option Addr} {xs : List Arg} (u v z : Value) (h : Own w H a xs) (hb : b < H) (hH : H' ≤ H) : Own (((w.setCell ⟨b, 0, none⟩ u).setCell ⟨b, 1, none⟩ v).setCell ⟨b, 2, none⟩ z) H' a xs := by
  rcases h with h | ⟨c, o, h1, h2, h3⟩
  · exact .inl h
  · exact .inr ⟨c, o, h1, by omega, ((h3.other b 0 (by omega) u).other b 1 (by omega) v).other b 2 (by omega) z⟩

set_option maxRecDepth 10000 in
set_option maxHeartbeats 8000000 in
theorem inst_r (B R p : Nat) (w : World) (h : Reader B w R p) (hp : p < 690000) :
    Calls Tryz.prog 42 #[.pointer (some ⟨R, 0, none⟩)] w fun e w' => InstR LB w e w' ∧ (∃ q, q ≤ p + 70 ∧ Reader B w' R q) ∧ w.grownBy w' (some R) := by
  have hRB := h.1
  have hBw := h.2.1
  have hN := fun W (hW : Reader B W R p) hx => num_r B R p (w.heap.size + 1) [1, 1, 1, 2, 2, 2, 3, 3, 4, 5, 6, 7, 8, 9, 10, 10, 10, 11] 18 W hW (by simp) (by simp) (by omega) (by omega) hx
  have kA : (w.alloc (.cells #[.int .i64 0, .int .i64 0, .slice none 0 0] 31)).heap[w.heap.size]? = some (.cells #[.int .i64 0, .int .i64 0, .slice none 0 0] 31 (0, 0)) := heap_alloc_last w _
  go_enter Tryz.func42, Tryz.ntmps42
  go_wp2_with fail
  refine (hN _ ((h.alloc _).alloc _) (cells_row2 w _ [1, 1, 1, 2, 2, 2, 3, 3, 4, 5, 6, 7, 8, 9, 10, 10, 10, 11] 3)).mono ?_
  rintro e w1 ⟨v, hv, rfl, h1, g1⟩
  have G1 : w.grownBy w1 (some R) := gb_pick (gb_alloc (gb_alloc (gb_refl _ _) _) _) g1
  have GA : (w.alloc (.cells #[.int .i64 0, .int .i64 0, .slice none 0 0] 31)).grownBy w1 (some R) := gb_pick (gb_alloc (gb_refl _ _) _) g1
  have hv1 : 1 ≤ v ∧ v ≤ 11 := by simp at hv; omega
  have hlt : w.heap.size < w1.heap.size := by have := g1.size; simp at this; omega
  clear g1 h hN hv
  by_cases i1 : v ≤ 3
  · go_wp2_with fail
    refine (contact_r B R (p + 1) _ h1 (by omega)).mono ?_
    rintro e w2 ⟨⟨op, a, len, cap, xs, rfl, o1, o2, l1, cc1, L1, bd1, O2⟩, ⟨q, hq, h2⟩, g2⟩
    obtain ⟨⟨k0, k1, k2⟩, j0, j1, j2⟩ := three_at kA (gb_pick GA g2) (by simp; omega)
    obtain ⟨t0, t1, t2⟩ := three_put (.int .i64 v) (.int .i64 op) (.slice a len cap) ⟨k0, k1, k2⟩
    have G2 : w.grownBy w2 (some R) := gb_pick G1 g2
    have hl1 : Hid (len = xs.length) := l1
    have OE : Own (((w2.setCell ⟨w.heap.size, 0, none⟩ (.int .i64 v)).setCell ⟨w.heap.size, 1, none⟩ (.int .i64 op)).setCell ⟨w.heap.size, 2, none⟩ (.slice a len cap)) w.heap.size a xs := own_set3 _ _ _ O2 hlt (by omega)
    have RE := ((h2.set w.heap.size 0 (.int .i64 v) hBw).set w.heap.size 1 (.int .i64 op) hBw).set w.heap.size 2 (.slice a len cap) hBw
    have GE : w.grownBy (((w2.setCell ⟨w.heap.size, 0, none⟩ (.int .i64 v)).setCell ⟨w.heap.size, 1, none⟩ (.int .i64 op)).setCell ⟨w.heap.size, 2, none⟩ (.slice a len cap)) (some R) := gb_put (gb_put (gb_put G2 (Nat.le_refl _)) (Nat.le_refl _)) (Nat.le_refl _)
    have FE : Fin1 LB ⟨v, ⟨op, xs⟩⟩ := ⟨⟨by show -100 ≤ v; omega, by show v ≤ 100; omega⟩, ⟨o1, o2⟩, by show xs.length ≤ LB + 9; omega, bd1⟩
    clear g2 GA G1 h1 l1 O2 h2 G2 kA
    go_wp2
    exact bodyPost_ret (v := .agg #[.int .i64 v, .int .i64 op, .slice a len cap]) (by simp [results, Tryz.results42, go_sem, t0, t1, t2]) rfl ⟨⟨v, op, a, len, cap, xs, rfl, hl1, cc1, FE, OE⟩, ⟨q, by omega, RE⟩, GE⟩
  by_cases i2 : v = 10
  · have j10 : (v == 10) = true := by simp [i2]
    have H2 : Hid (v = 10) := i2
    clear i2
    go_wp2_with fail
    refine (coil_r B R (p + 1) _ h1 (by omega)).mono ?_
    rintro e w2 ⟨⟨op, a, len, cap, xs, rfl, o1, o2, l1, cc1, L1, bd1, O2⟩, ⟨q, hq, h2⟩, g2⟩
    obtain ⟨⟨k0, k1, k2⟩, j0, j1, j2⟩ := three_at kA (gb_pick GA g2) (by simp; omega)
    obtain ⟨t0, t1, t2⟩ := three_put (.int .i64 v) (.int .i64 op) (.slice a len cap) ⟨k0, k1, k2⟩
    have G2 : w.grownBy w2 (some R) := gb_pick G1 g2
    have hl1 : Hid (len = xs.length) := l1
    have OE : Own (((w2.setCell ⟨w.heap.size, 0, none⟩ (.int .i64 v)).setCell ⟨w.heap.size, 1, none⟩ (.int .i64 op)).setCell ⟨w.heap.size, 2, none⟩ (.slice a len cap)) w.heap.size a xs := own_set3 _ _ _ O2 hlt (by omega)
    have RE := ((h2.set w.heap.size 0 (.int .i64 v) hBw).set w.heap.size 1 (.int .i64 op) hBw).set w.heap.size 2 (.slice a len cap) hBw
    have GE : w.grownBy (((w2.setCell ⟨w.heap.size, 0, none⟩ (.int .i64 v)).setCell ⟨w.heap.size, 1, none⟩ (.int .i64 op)).setCell ⟨w.heap.size, 2, none⟩ (.slice a len cap)) (some R) := gb_put (gb_put (gb_put G2 (Nat.le_refl _)) (Nat.le_refl _)) (Nat.le_refl _)
    have FE : Fin1 LB ⟨v, ⟨op, xs⟩⟩ := ⟨⟨by show -100 ≤ v; omega, by show v ≤ 100; omega⟩, ⟨o1, o2⟩, by show xs.length ≤ LB + 9; omega, bd1⟩
    clear g2 GA G1 h1 l1 O2 h2 G2 kA
    go_wp2
    exact bodyPost_ret (v := .agg #[.int .i64 v, .int .i64 op, .slice a len cap]) (by simp [results, Tryz.results42, go_sem, t0, t1, t2]) rfl ⟨⟨v, op, a, len, cap, xs, rfl, hl1, cc1, FE, OE⟩, ⟨q, by omega, RE⟩, GE⟩
  · have j10 : (v == 10) = false := by simp [i2]
    clear i2
    obtain ⟨⟨k0, k1, k2⟩, j0, j1, j2⟩ := three_at kA GA (by simp; omega)
    obtain ⟨t0, t1, t2⟩ := three_put (.int .i64 v) (.int .i64 0) (.slice none 0 0) ⟨k0, k1, k2⟩
    have RE := ((h1.set w.heap.size 0 (.int .i64 v) hBw).set w.heap.size 1 (.int .i64 0) hBw).set w.heap.size 2 (.slice none 0 0) hBw
    have GE : w.grownBy (((w1.setCell ⟨w.heap.size, 0, none⟩ (.int .i64 v)).setCell ⟨w.heap.size, 1, none⟩ (.int .i64 0)).setCell ⟨w.heap.size, 2, none⟩ (.slice none 0 0)) (some R) := gb_put (gb_put (gb_put G1 (Nat.le_refl _)) (Nat.le_refl _)) (Nat.le_refl _)
    have FE : Fin1 LB ⟨v, ⟨0, []⟩⟩ := ⟨⟨by show -100 ≤ v; omega, by show v ≤ 100; omega⟩, ⟨by show (-100 : Int) ≤ 0; omega, by show (0 : Int) ≤ 100; omega⟩, Nat.zero_le _, fun x hx => by cases hx⟩
    clear GA G1 h1 kA
    go_wp2
    exact bodyPost_ret (v := .agg #[.int .i64 v, .int .i64 0, .slice none 0 0]) (by simp [results, Tryz.results42, go_sem, t0, t1, t2]) rfl ⟨⟨v, 0, none, 0, 0, [], rfl, rfl, Nat.le_refl _, FE, .inl rfl⟩, ⟨_, by omega, RE⟩, GE⟩
end Go.Proofs.YtndfmgbdfcggmaaGreatDoor
/- Lists that are drawn: more elements by an append; two instructions that are held beside the list. -/
namespace Go.Proofs.YtndfmgbdfcggmaaGreatDoor
open Go.RowKit
set_option linter.unusedVariables false
variable {LB : Nat}

theorem Each.append {α : Type} {R : List Nat → α → List Value → Prop} {z : Nat} {F G : List Nat} {xs ys : List α} {cs ds : List Value} (h : Each R z F xs cs) (k : Each R z G ys ds) : Each R z (F ++ G) (xs ++ ys) (cs ++ ds) := by
  induction k with
  | nil => simpa using h
  | add k hc hr ih => rw [← List.append_assoc, ← List.append_assoc, ← List.append_assoc]; exact .add ih hc hr
/-- Instructions, in their cells. -/
abbrev EFs (LB : Nat) (W : World) (H : Nat) (ok : Nat → Prop) (xs : List InstT) (cs : List Value) : Prop := Each (fun f x c => f = [] ∧ EF LB W H ok x c) 3 [] xs cs
theorem EFs.one {W : World} {H : Nat} {ok : Nat → Prop} {x : InstT} {c : List Value} (h : EF LB W H ok x c) : EFs LB W H ok [x] c := by
  have hc : c.length = 3 := by obtain ⟨a, cap, e, _⟩ := h; rw [e]; rfl
  have := Each.add (R := fun f x c => f = [] ∧ EF LB W H ok x c) (z := 3) .nil hc ⟨rfl, h⟩
  simpa using this
/-- More instructions. -/
theorem RD.pushes {w4 w5 : World} {H pb : Nat} {v : Value} {xs ys : List InstT} {cs c : List Value} {g1 cap1 : Nat} (h1 : v.ownBlock ≠ some pb) (h2 : EFs LB w4 H (fun b => b ≠ pb ∧ some b ≠ v.ownBlock) xs cs)
    (hN : EFs LB w4 H (fun b => b ≠ pb ∧ some b ≠ v.ownBlock) ys c) (hpb : pb < w4.heap.size)
    (own5 : w5.ownsRow H 31 3 (.slice (some ⟨g1, 0, none⟩) (xs.length + ys.length) cap1) (xs.length + ys.length) (cs ++ c)) (g5 : w4.grownBy w5 v.ownBlock) (hat : v.ownBlock = some g1 ∨ g1 = w4.heap.size) :
    (∀ x c, EF LB w4 H (fun b => b ≠ pb ∧ some b ≠ v.ownBlock) x c → EF LB w5 H (fun b => b ≠ pb ∧ some b ≠ some g1) x c) ∧ RD LB w5 H pb (.slice (some ⟨g1, 0, none⟩) (xs.length + ys.length) cap1) (xs ++ ys) := by
  have key : ∀ x c, EF LB w4 H (fun b => b ≠ pb ∧ some b ≠ v.ownBlock) x c → EF LB w5 H (fun b => b ≠ pb ∧ some b ≠ some g1) x c := fun x c h => h.move g5 (fun b _ _ b3 => b3.2) (fun b b1 b2 b3 => ⟨b3.1, fun e => by
    rcases hat with h | h
    · exact b3.2 (by rw [h, ← e])
    · simp at e; omega⟩)
  refine ⟨key, ?_, cs ++ c, ?_, ?_⟩
  · show some g1 ≠ some pb
    rcases hat with h | h
    · rw [← h]; exact h1
    · simp; omega
  · exact (h2.append hN).move fun f x c _ hh => ⟨hh.1, key x c hh.2⟩
  · simpa using own5
/-- A list that is being made, and two instructions held in blocks beside it. -/
structure DS (LB : Nat) (w : World) (B R i j : Nat) (x y : InstT) (cx cy : List Value) (W : World) (p : Nat) (v : Value) (n : Nat) : Prop where
  rd : Reader B W R p
  gr : w.grownBy W (some R)
  row : ∃ xs : List InstT, n = xs.length ∧ RD LB W w.heap.size R v xs
  ex : EF LB W w.heap.size (fun b => b ≠ R ∧ some b ≠ v.ownBlock) x cx
  ey : EF LB W w.heap.size (fun b => b ≠ R ∧ some b ≠ v.ownBlock) y cy
  bi : W.heap[i]? = some (.cells cx.toArray 31 (0, 0))
  bj : W.heap[j]? = some (.cells cy.toArray 31 (0, 0))
  ni : v.ownBlock ≠ some i ∧ R ≠ i
  nj : v.ownBlock ≠ some j ∧ R ≠ j
variable {w W W' : World} {B R i j p n : Nat} {x y : InstT} {cx cy : List Value} {v : Value}
end Go.Proofs.YtndfmgbdfcggmaaGreatDoor
/- A list at or beyond the bounds of its stacks is drawn. -/
namespace Go.Proofs.YtndfmgbdfcggmaaGreatDoor
open Go.RowKit
set_option linter.unusedVariables false
variable {LB : Nat}

theorem news_of (W : World) (l : List Value) (t : TypeId) : ∀ (q : Nat) (v : Value), l[q]? = some v → (W.alloc (.cells l.toArray t)).cell? ((⟨W.heap.size, 0, none⟩ : Addr).add q) = some v := by
  intro q v hq
  have : (⟨W.heap.size, 0, none⟩ : Addr).add q = ⟨W.heap.size, q, none⟩ := by unfold Addr.add; split <;> simp_all
  rw [this, cell_of_row _ _ _ _ _ _ (heap_alloc_last _ _), List.getElem?_toArray]
  exact hq
theorem three_of {W : World} {b : Nat} {t : TypeId} {x y z : Value} (k : W.heap[b]? = some (.cells [x, y, z].toArray t (0, 0))) : W.cell? ⟨b, 0, none⟩ = some x ∧ W.cell? ⟨b, 1, none⟩ = some y ∧ W.cell? ⟨b, 2, none⟩ = some z :=
  ⟨(cell_of_row _ _ _ _ _ _ k).trans rfl, (cell_of_row _ _ _ _ _ _ k).trans rfl, (cell_of_row _ _ _ _ _ _ k).trans rfl⟩
end Go.Proofs.YtndfmgbdfcggmaaGreatDoor
/- Lists that are drawn: copied, cut, written over. -/
namespace Go.Proofs.YtndfmgbdfcggmaaGreatDoor
open Go.RowKit
set_option linter.unusedVariables false
variable {LB : Nat}

/-- Instructions by their places. -/
def EFi (LB : Nat) (W : World) (H : Nat) (ok : Nat → Prop) (xs : List InstT) (cs : List Value) : Prop := cs.length = xs.length * 3 ∧ ∀ j x, xs[j]? = some x → ∃ c, EF LB W H ok x c ∧ ∀ i, i < 3 → cs[j * 3 + i]? = c[i]?
theorem EFs.i {W : World} {H : Nat} {ok : Nat → Prop} {xs : List InstT} {cs : List Value} (h : EFs LB W H ok xs cs) : EFi LB W H ok xs cs := by
  refine ⟨h.len, fun j x hx => ?_⟩
  obtain ⟨f, c, F1, F2, cs1, cs2, _, e2, e3, e4, hr⟩ := h.at j x hx
  refine ⟨c, hr.2, fun i hi => ?_⟩
  rw [e2, List.append_assoc, List.getElem?_append_right (by omega), List.getElem?_append_left (by omega)]
  congr 1
  omega
theorem EF.len {W : World} {H : Nat} {ok : Nat → Prop} {x : InstT} {c : List Value} (h : EF LB W H ok x c) : c.length = 3 := by
  obtain ⟨a, cap, e, _⟩ := h
  rw [e]; rfl
theorem EFi.s {W : World} {H : Nat} {ok : Nat → Prop} : ∀ (n : Nat) (xs : List InstT) (cs : List Value), xs.length = n → EFi LB W H ok xs cs → EFs LB W H ok xs cs
  | 0, xs, cs, hn, h => by
    obtain rfl := List.length_eq_zero_iff.1 hn
    have : cs = [] := List.length_eq_zero_iff.1 (by simpa using h.1)
    subst this
    exact .nil
  | n + 1, xs, cs, hn, h => by
    rcases List.eq_nil_or_concat xs with rfl | ⟨l, x, rfl⟩
    · simp at hn
    rw [List.concat_eq_append] at *
    have hl : l.length = n := by simpa using hn
    have hcs : cs.length = n * 3 + 3 := by have := h.1; simp at this; omega
    obtain ⟨c, hc, hi⟩ := h.2 n x (by rw [List.getElem?_append_right (by omega)]; simp [hl])
    have e : cs = cs.take (n * 3) ++ c := by
      apply List.ext_getElem?
      intro i
      by_cases h1 : i < n * 3
      · rw [List.getElem?_append_left (by rw [List.length_take]; omega), List.getElem?_take_of_lt h1]
      · rw [List.getElem?_append_right (by rw [List.length_take]; omega), List.length_take, show min (n * 3) cs.length = n * 3 by omega]
        by_cases h2 : i < n * 3 + 3
        · rw [← hi (i - n * 3) (by omega)]
          congr 1; omega
        · rw [List.getElem?_eq_none (by omega), List.getElem?_eq_none (by rw [hc.len]; omega)]
    have h1 : EFs LB W H ok l (cs.take (n * 3)) := EFi.s n l _ hl ⟨by rw [List.length_take]; omega, fun j y hy => by
      have hj : j < l.length := (List.getElem?_eq_some_iff.1 hy).1
      obtain ⟨d, hd, hk⟩ := h.2 j y (by rw [List.getElem?_append_left hj]; exact hy)
      exact ⟨d, hd, fun i hi => by rw [List.getElem?_take_of_lt (by omega)]; exact hk i hi⟩⟩
    rw [e]
    exact Each.add h1 hc.len ⟨rfl, hc⟩
theorem EFi.one {W : World} {H : Nat} {ok : Nat → Prop} {xs : List InstT} {cs : List Value} (h : EFi LB W H ok xs cs) : ∀ u ∈ cs, u.oneCell' = true := by
  intro u hu
  obtain ⟨i, hi⟩ := List.mem_iff_getElem?.1 hu
  have hl := (List.getElem?_eq_some_iff.1 hi).1
  rw [h.1] at hl
  obtain ⟨c, hc, hk⟩ := h.2 (i / 3) _ (List.getElem?_eq_getElem (by omega))
  have h1 := hk (i % 3) (by omega)
  rw [show i / 3 * 3 + i % 3 = i by omega, hi] at h1
  have hm : u ∈ c := List.mem_of_getElem? h1.symm
  obtain ⟨a, cap, e, _⟩ := hc
  rw [e] at hm
  simp at hm
  rcases hm with rfl | rfl | rfl <;> rfl
/-- A drawn list's cells. -/
theorem RD.cells {W : World} {H pb : Nat} {v : Value} {xs : List InstT} (h : RD LB W H pb v xs) : ∃ cs, cs.length = xs.length * 3 ∧ (∀ u ∈ cs, u.oneCell' = true) ∧ W.ownsRow H 31 3 v xs.length cs ∧ EFi LB W H (fun b => b ≠ pb ∧ some b ≠ v.ownBlock) xs cs := by
  obtain ⟨h1, cs, h2, h3⟩ := h
  exact ⟨cs, h2.len, (EFs.i h2).one, h3, EFs.i h2⟩
/-- The beginning of a drawn list. -/
theorem RD.take {W : World} {H pb g n cap : Nat} {xs : List InstT} (h : RD LB W H pb (.slice (some ⟨g, 0, none⟩) n cap) xs) (k : Nat) (hk : k ≤ xs.length) : RD LB W H pb (.slice (some ⟨g, 0, none⟩) k cap) (xs.take k) := by
  obtain ⟨h1, cs, h2, h3⟩ := h
  have hl : (xs.take k).length = k := by simp; omega
  refine ⟨h1, cs.take (k * 3), EFi.s k _ _ hl ⟨by rw [hl, List.length_take, h2.len]; omega, fun j x hx => ?_⟩, ?_⟩
  · have hj : j < k := by have := (List.getElem?_eq_some_iff.1 hx).1; omega
    rw [List.getElem?_take_of_lt hj] at hx
    obtain ⟨c, hc, hi⟩ := (EFs.i h2).2 j x hx
    exact ⟨c, hc, fun i hi' => by rw [List.getElem?_take_of_lt (by omega)]; exact hi i hi'⟩
  · rcases h3.2 with ⟨h', _⟩ | ⟨g', cap', cur, h', hb, hg, hnc, hcm, hcs, htake⟩
    · simp at h'
    · simp only [Value.slice.injEq, Option.some.injEq, Addr.mk.injEq, and_true] at h'
      obtain ⟨rfl, hn, rfl⟩ := h'
      rw [hl]
      refine ⟨by rw [List.length_take, h2.len]; omega, .inr ⟨g, cap, cur, rfl, hb, hg, by omega, hcm, hcs, ?_⟩⟩
      rw [← htake, List.take_take, show min (k * 3) (xs.length * 3) = k * 3 by omega]
/-- A drawn list copied into a new block. -/
theorem RD.copied {W w1 : World} {H pb g cap : Nat} {v : Value} {xs : List InstT} {cs : List Value} (h2 : EFi LB W H (fun b => b ≠ pb ∧ some b ≠ v.ownBlock) xs cs) (hB : Below W.heap.size W w1) (own1 : w1.ownsRow H 31 3 (.slice (some ⟨g, 0, none⟩) xs.length cap) xs.length cs) (hg : W.heap.size ≤ g) (hp : pb < W.heap.size) : RD LB w1 H pb (.slice (some ⟨g, 0, none⟩) xs.length cap) xs := by
  refine ⟨by show some g ≠ some pb; simp; omega, cs, (EFi.s _ xs cs rfl h2).move fun f x c _ hh => ⟨hh.1, hh.2.move (gb_below hB) (fun _ _ _ _ => by simp) (fun b _ b2 b3 => ⟨b3.1, ?_⟩)⟩, own1⟩
  show some b ≠ some g
  simp; omega
/-- An instruction of a drawn list written over. -/
theorem RD.put {W W' : World} {H pb g cap k : Nat} {xs : List InstT} {y : InstT} {cs cs' c : List Value} (h1 : some g ≠ some pb) (h2 : EFi LB W H (fun b => b ≠ pb ∧ some b ≠ some g) xs cs) (gW : W.grownBy W' (some g)) (own' : W'.ownsRow H 31 3 (.slice (some ⟨g, 0, none⟩) xs.length cap) xs.length cs')
    (hc : EF LB W H (fun b => b ≠ pb ∧ some b ≠ some g) y c) (hlen : cs'.length = cs.length) (hne : ∀ i, i < k * 3 ∨ k * 3 + 3 ≤ i → cs'[i]? = cs[i]?) (hk : ∀ i, i < 3 → cs'[k * 3 + i]? = c[i]?) : RD LB W' H pb (.slice (some ⟨g, 0, none⟩) xs.length cap) (xs.set k y) := by
  have hm : ∀ x c, EF LB W H (fun b => b ≠ pb ∧ some b ≠ some g) x c → EF LB W' H (fun b => b ≠ pb ∧ some b ≠ some g) x c := fun x c h => h.move gW (fun b _ _ b3 => b3.2) (fun _ _ _ b3 => b3)
  refine ⟨h1, cs', EFi.s _ _ _ rfl ⟨by rw [hlen, h2.1]; simp, fun j x hx => ?_⟩, by rw [List.length_set]; exact own'⟩
  by_cases hj : j = k
  · subst hj
    have hjl : j < xs.length := by have := (List.getElem?_eq_some_iff.1 hx).1; simpa using this
    rw [List.getElem?_set_self hjl] at hx
    obtain rfl := Option.some.inj hx
    exact ⟨c, hm _ _ hc, hk⟩
  · rw [List.getElem?_set_ne (fun e => hj e.symm)] at hx
    obtain ⟨d, hd, hi⟩ := h2.2 j x hx
    exact ⟨d, hm _ _ hd, fun i hi' => by rw [hne _ (by omega)]; exact hi i hi'⟩
end Go.Proofs.YtndfmgbdfcggmaaGreatDoor
