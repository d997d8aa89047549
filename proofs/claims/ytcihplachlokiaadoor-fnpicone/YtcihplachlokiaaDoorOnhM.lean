/- The law FnPicOne. -/
import Derived.Test.YtcihplachlokiaaDoorOnfM
import Derived.Test.YtcihplachlokiaaDoorQsfM
import Derived.Test.YtcihplachlokiaaDoorOna
import Derived.Test.YtcihplachlokiaaDoorDaM
import Derived.Test.YtcihplachlokiaaDoorCards
import Derived.Test.YtcihplachlokiaaDoorTie
import Derived.WalkKit
import Derived.ProofKit
import Derived.OpenShut
import Derived.ShutString
import Derived.ChangeOld
import Derived.ChangeVars
import Derived.Below
import Derived.OpenVars
import Derived.Lay
import Derived.SevenTiedAt
import Derived.Lib.SmallJoins
import Derived.Laws.Cover2
namespace Go.Proofs.YtcihplachlokiaaDoor
open Go.RowKit Go.Shelf
set_option linter.unusedVariables false
set_option linter.unusedSimpArgs false

theorem instsM_pos : ∀ (n : Nat) {k : Int} {r : List Nat} {e : Int × Int}, instsM n k r = .inl e → 0 < e.1
  | 0, k, r, e, h => by unfold instsM at h; cases h
  | n + 1, k, r, e, h => by
    unfold instsM at h
    cases h1 : instM r with
    | inl c => rw [h1] at h; cases h; exact instM_pos h1
    | inr q =>
      obtain ⟨x, r1⟩ := q
      rw [h1] at h
      simp only [] at h
      cases h2 : instsM n (k + 1) r1 with
      | inl c => rw [h2] at h; cases h; exact instsM_pos n h2
      | inr q2 => obtain ⟨ys, r2⟩ := q2; rw [h2] at h; cases h
theorem readM_ok {f : Nat → Nat} {n : Nat} (h : (rfT (readM f n)).1 ≤ 0) : ∃ xs, readM f n = .inr xs ∧ 8 ≤ n := by
  have hp := env_cases f n
  have key : ∀ e, readM f n = .inl e → 0 < e.1 := fun e he => by
    unfold readM at he
    by_cases hE : envW f n ≠ 0
    · rw [if_pos hE] at he; cases he; show 0 < envW f n; omega
    · rw [if_neg hE] at he
      unfold listM at he
      split at he
      · cases he; show (0 : Int) < 1; omega
      · cases hi : instsM (f 4 * 256 + f 5) 0 ((List.range (n - 8)).map fun j => f (6 + j)) with
        | inl c => rw [hi] at he; cases he; exact instsM_pos _ hi
        | inr q =>
          obtain ⟨ys, r'⟩ := q
          rw [hi] at he
          simp only [] at he
          split at he
          · cases he
          · cases he; show (0 : Int) < 7; omega
  cases hm : readM f n with
  | inl e => rw [hm] at h; have := key e hm; simp only [rfT] at h; omega
  | inr xs =>
    refine ⟨xs, rfl, ?_⟩
    by_cases hE : envW f n = 0
    · exact (env_all hE).1
    · unfold readM at hm; rw [if_pos hE] at hm; cases hm
theorem atL_set (l : List Nat) (k y j : Nat) (hk : k < l.length) : atL (l.set k y) j = if j = k then y else atL l j := by
  unfold atL
  rw [List.getD_eq_getElem?_getD, List.getElem?_set, List.getD_eq_getElem?_getD]
  by_cases e : k = j
  · subst e; simp [hk]
  · rw [if_neg e, if_neg (fun h => e h.symm)]
theorem xor_byte {a b : Nat} (ha : a < 256) (hb : b < 256) : bits .xor .u8 (a : Int) (b : Int) = ((a ^^^ b : Nat) : Int) := by
  show IntKind.u8.wrap ((BitVec.ofInt 8 (a : Int) ^^^ BitVec.ofInt 8 (b : Int)).toNat : Int) = _
  have e1 : (BitVec.ofInt 8 (a : Int)).toNat = a := by simp [BitVec.toNat_ofInt]; omega
  have e2 : (BitVec.ofInt 8 (b : Int)).toNat = b := by simp [BitVec.toNat_ofInt]; omega
  rw [BitVec.toNat_xor, e1, e2]
  have h3 : a ^^^ b < 256 := Nat.xor_lt_two_pow (n := 8) ha hb
  rw [IntKind.wrap_u8']
  omega
theorem xor_ne {a b : Nat} (hb : b ≠ 0) : a ≠ a ^^^ b := fun h => by
  have : a ^^^ a = a ^^^ (a ^^^ b) := congrArg (fun x => a ^^^ x) h
  rw [Nat.xor_self, ← Nat.xor_assoc, Nat.xor_self, Nat.zero_xor] at this
  exact hb this.symm
theorem read_two {f : Nat → Nat} {n : Nat} {W : World} {e : Ending} {w' : World} {F1 F2 : Int} {k : Nat} (h1 : F1 = (rfT (readM f n)).1) (h2 : F2 = (rfT (readM f n)).2) (hk : k = (rlT (readM f n)).length) (h : ReadR (readM f n) W e w') :
    ∃ (a : Option Addr) (c : Nat), e = .returned (.tuple #[.slice a k c, .agg #[.int .i64 F1, .int .i64 F2]]) ∧ Below W.heap.size W w' := by
  obtain ⟨v, F, he, hI, hF, hB⟩ := h
  subst h1 h2 hk
  obtain ⟨cs, F', _, ho, _⟩ := hI
  rcases ho.2 with ⟨h, h0⟩ | ⟨g, cap, cur, h, _⟩
  · subst h
    exact ⟨none, 0, by rw [he, h0], hB⟩
  · exact ⟨_, cap, by rw [he, h], hB⟩

set_option maxRecDepth 10000 in
set_option maxHeartbeats 8000000 in
theorem law_pone {a1 : Option Addr} {len1 cap1 blk off : Nat} {z : Nat → Int} (a2 : Option Addr) (len2 cap2 : Nat) (f2 : Nat → Nat) (hf2 : ∀ j, f2 j < 256) (w : World) (h : Rr.Code0 w a1 len1 cap1 blk off z) (hl1 : len1 ≤ 1048576) (hl2 : len2 ≤ 1048576) (h3 : 3 ≤ len2) (hb : Bt w a2 len2 f2) :
    Calls Tryd.prog 3 #[.slice a1 len1 cap1, .slice a2 len2 cap2] w fun e w' => e = .returned (.bool true) ∧ Below w.heap.size w w' := by
  obtain ⟨g2, o2, rfl, hg2, hc2⟩ : ∃ g o, a2 = some ⟨g, o, none⟩ ∧ g < w.heap.size ∧ ∀ j, j < len2 → w.cell? ⟨g, o + j, none⟩ = some (.int .u8 (f2 j : Nat)) := by
    rcases hb with h | h
    · omega
    · exact h
  have HC : Hid (∀ W, Below w.heap.size w W → ∀ j, j < 3 → W.cell? ⟨g2, o2 + j, none⟩ = some (.int .u8 (f2 j : Nat))) := fun W b j hj => (b.cell (p := ⟨g2, o2 + j, none⟩) hg2).trans (hc2 j (by omega))
  have HD : Hid (Calls Tryd.prog 6 #[.slice a1 len1 cap1] w fun e w' => Rr.DrR w e w') := Rr.drawpr_r w h
  have i1 : ¬ (1048576 : Int) < (len1 : Int) := by omega
  have i2 : ¬ (1048576 : Int) < (len2 : Int) := by omega
  have i3 : ¬ (len2 : Int) < 3 := by omega
  have i4 : (2 : Int) < (len2 : Int) := by omega
  have i5 : (1 : Int) < (len2 : Int) := by omega
  have i6 : (0 : Int) < (len2 : Int) := by omega
  have Hf2 : Hid (∀ j, f2 j < 256) := hf2
  clear h hb hc2 hf2
  go_enter Tryd.func3, Tryd.ntmps3
  go_wp2_with fail
  refine HD.out.mono ?_
  rintro e w1 ⟨g, n, c, l, rfl, hn, ho, hl, b1⟩
  have hnl := Rr.owl_len ho
  have hcap := owL_cap ho
  obtain ⟨f, Hf⟩ : ∃ f, Hid (f = atL l) := ⟨_, rfl⟩
  have hf : ∀ j, f j < 256 := by rw [Hf.out]; exact atL_lt hl
  obtain ⟨F1, HF1⟩ : ∃ F, Hid (F = (rfT (readM f n)).1) := ⟨_, rfl⟩
  obtain ⟨F2, HF2⟩ : ∃ F, Hid (F = (rfT (readM f n)).2) := ⟨_, rfl⟩
  obtain ⟨K, HK⟩ : ∃ k, Hid (k = (rlT (readM f n)).length) := ⟨_, rfl⟩
  have HBt : Hid (∀ W, Below w1.heap.size w1 W → Bt W (some ⟨g, 0, none⟩) n f) := fun W b => by
    have h1 := ho.later b
    rw [hnl] at h1
    have := owL_bt h1
    rw [← hnl, ← Hf.out] at this
    exact this
  have HS : Hid (Calls Tryd.prog 7 #[.slice (some ⟨g, 0, none⟩) n c] w1 fun e w' => ∃ (a : Option Addr) (c : Nat), e = .returned (.tuple #[.slice a K c, .agg #[.int .i64 F1, .int .i64 F2]]) ∧ Below w1.heap.size w1 w') := (sread_all _ n c f hf w1 (by omega) hcap (HBt.out w1 (Below.refl _ _))).mono fun e w' h => read_two HF1.out HF2.out HK.out h
  have HI : Hid (∀ W, Below w1.heap.size w1 W → Calls Tryd.prog 8 #[.slice (some ⟨g, 0, none⟩) n c] W fun e w' => ∃ (a : Option Addr) (c : Nat), e = .returned (.tuple #[.slice a K c, .agg #[.int .i64 F1, .int .i64 F2]]) ∧ Below W.heap.size W w') := fun W b => (read_all _ n c f hf W (by omega) hcap (HBt.out W b)).mono fun e w' h => read_two HF1.out HF2.out HK.out h
  have HO : Hid (OwL w1 w.heap.size (.slice (some ⟨g, 0, none⟩) n c) l ∧ (∀ b ∈ l, b < 256) ∧ n = l.length) := ⟨ho, hl, hnl⟩
  have B1 : Hid (Below w.heap.size w w1) := b1
  have hg1 : w.heap.size ≤ g ∧ g < w1.heap.size := ho.own g rfl
  clear ho hl hnl HD b1 hf HBt
  go_wp2_with fail
  refine HS.out.mono ?_
  rintro e w2 ⟨sa, sc, rfl, g2'⟩
  have gA : Below w2.heap.size w2 (w2.alloc (.cells #[.int .i64 F1, .int .i64 F2] 26)) := (Below.refl _ _).alloc (Nat.le_refl _) _
  have B3 : Hid (Below w1.heap.size w1 (w2.alloc (.cells #[.int .i64 F1, .int .i64 F2] 26))) := g2'.trans (gA.mono g2'.size)
  have k3 := heap_alloc_last w2 (.cells #[.int .i64 F1, .int .i64 F2] 26)
  obtain ⟨Bs, hBs⟩ : ∃ B, w2.heap.size = B := ⟨_, rfl⟩
  rw [hBs] at k3
  clear g2' gA HS
  go_upto_region 5 with fail
  generalize (w2.alloc (.cells #[.int .i64 F1, .int .i64 F2] 26)) = w3 at B3 k3 ⊢
  have K3 : Hid (w3.heap[Bs]? = some (.cells #[.int .i64 F1, .int .i64 F2] 26 (0, 0))) := k3
  clear hBs k3
  go_wp2_with fail
  refine (HI.out w3 B3.out).mono ?_
  rintro e w4 ⟨ia, ic, rfl, g4⟩
  have gA : Below w4.heap.size w4 (w4.alloc (.cells #[.int .i64 F1, .int .i64 F2] 26)) := (Below.refl _ _).alloc (Nat.le_refl _) _
  have gB := g4.trans (gA.mono g4.size)
  have B5 : Hid (Below w1.heap.size w1 (w4.alloc (.cells #[.int .i64 F1, .int .i64 F2] 26))) := B3.out.trans (gB.mono B3.out.size)
  have k5 := heap_alloc_last w4 (.cells #[.int .i64 F1, .int .i64 F2] 26)
  have k3 : (w4.alloc (.cells #[.int .i64 F1, .int .i64 F2] 26)).heap[Bs]? = some (.cells #[.int .i64 F1, .int .i64 F2] 26 (0, 0)) := (gB.block _ (Array.getElem?_eq_some_iff.1 K3.out).1).trans K3.out
  obtain ⟨Bi, hBi⟩ : ∃ B, w4.heap.size = B := ⟨_, rfl⟩
  rw [hBi] at k5
  clear g4 gA gB K3 B3
  go_upto_region 6 with fail
  generalize (w4.alloc (.cells #[.int .i64 F1, .int .i64 F2] 26)) = w5 at B5 k5 k3 ⊢
  clear hBi
  have L3 := load_all k3 _ _ Tryd.underlying26 rfl infoPF
  have L5 := load_all k5 _ _ Tryd.underlying26 rfl infoPF
  obtain ⟨p0, p1, q0, q1⟩ := box2 k3
  obtain ⟨r0, r1, s0, s1⟩ := box2 k5
  go_upto_region 8 with fail
  have B5' : Hid (Below w.heap.size w w5) := B1.out.trans (B5.out.mono B1.out.size)
  by_cases hF : (0 : Int) < F1
  · clear L3 L5 p0 p1 q0 q1 k3 k5
    go_wp2
    go_ret
    exact ⟨rfl, B5'.out⟩
  obtain ⟨xs, hx, h8⟩ := readM_ok (f := f) (n := n) (by rw [← HF1.out]; omega)
  have Hx : Hid (readM f n = .inr xs) := hx
  have e0 : F1 = 0 := by rw [HF1.out, hx]; rfl
  have c20 := HC.out w5 B5'.out 0 (by omega)
  have c21 := HC.out w5 B5'.out 1 (by omega)
  have c22 := HC.out w5 B5'.out 2 (by omega)
  rw [Nat.add_zero] at c20
  have b0 := Hf2.out 0
  have b1 := Hf2.out 1
  have b2 := Hf2.out 2
  obtain ⟨m0, hm0⟩ : ∃ m, f2 0 = m := ⟨_, rfl⟩
  obtain ⟨m1, hm1⟩ : ∃ m, f2 1 = m := ⟨_, rfl⟩
  obtain ⟨m2, hm2⟩ : ∃ m, f2 2 = m := ⟨_, rfl⟩
  rw [hm0] at c20 b0
  rw [hm1] at c21 b1
  rw [hm2] at c22 b2
  have HC2 : Hid (∀ W, Below w5.heap.size w5 W → W.cell? ⟨g2, o2 + 2, none⟩ = some (.int .u8 (m2 : Nat))) := fun W b => by
    have := HC.out W (B5'.out.trans (b.mono B5'.out.size)) 2 (by omega)
    rwa [hm2] at this
  clear hm0 hm1 hm2 HC Hf2 hx L3 L5 p0 p1 q0 q1 k3 HI HF1 HF2 HK
  by_cases hz : m2 = 0
  · subst hz
    go_wp2
    go_ret
    exact ⟨rfl, B5'.out⟩
  have z1 : ((m2 : Int) == 0) = false := by simp; omega
  have z2 : ¬ (m2 : Int) = 0 := by omega
  obtain ⟨k, hk⟩ : ∃ k, (m0 * 256 + m1) % n = k := ⟨_, rfl⟩
  have hkn : k < n := by rw [← hk]; exact Nat.mod_lt _ (by omega)
  have hmod : ((m0 : Int) * 256 + (m1 : Int)).tmod (n : Int) = (k : Int) := by
    rw [Int.tmod_eq_emod_of_nonneg (by omega), ← hk]
    have : ((m0 : Int) * 256 + (m1 : Int)) = ((m0 * 256 + m1 : Nat) : Int) := by omega
    rw [this, ← Int.natCast_emod]
  have hn0 : ¬ (n : Int) = 0 := by omega
  have hkn2 : (k : Int) < (n : Int) := by omega
  go_upto_region 10 with fail
  go_quiet (fail)
  go_upto_region 11 with fail
  have B6 : Hid (Below w5.heap.size w5 (w5.drewN nq)) := below_drewN _ _
  generalize (w5.drewN nq) = w6 at B6 ⊢
  have hb6 := B6.out
  have HO6 : Hid (OwL w6 w.heap.size (.slice (some ⟨g, 0, none⟩) n c) l) := HO.out.1.later (B5.out.trans (hb6.mono B5.out.size))
  obtain ⟨x, hx⟩ : ∃ x, l[k]? = some x := ⟨_, List.getElem?_eq_getElem (by have := HO.out.2.2; omega)⟩
  have hx256 := HO.out.2.1 x (List.mem_of_getElem? hx)
  have d0 := Rr.owl_at HO6.out k x hx
  have f0 : w6.frozen? ⟨g, k, none⟩ = false := by
    have h6 := HO6.out
    unfold OwL at h6
    rw [← HO.out.2.2] at h6
    exact World.ownsRow.frozenAt h6 k
  have d2 := HC2.out w6 hb6
  have B6' : Hid (Below w.heap.size w w6) := B5'.out.trans (hb6.mono B5'.out.size)
  have hxr := xor_byte hx256 b2
  obtain ⟨y, hy⟩ : ∃ y, x ^^^ m2 = y := ⟨_, rfl⟩
  have hy256 : y < 256 := by rw [← hy]; exact Nat.xor_lt_two_pow (n := 8) hx256 b2
  have hxy : x ≠ y := by rw [← hy]; exact xor_ne hz
  rw [hy] at hxr
  have HO7 : Hid (∀ W, Below w6.heap.size w6 W → OwL (W.setCell ⟨g, k, none⟩ (.int .u8 (y : Nat))) w.heap.size (.slice (some ⟨g, 0, none⟩) n c) (l.set k y)) := fun W b => Rr.owl_put (HO6.out.later b) k y hkn
  have HB7 : Hid (∀ W, Below w6.heap.size w6 W → Below w.heap.size w (W.setCell ⟨g, k, none⟩ (.int .u8 (y : Nat)))) := fun W b => bel_set (B6'.out.trans (b.mono B6'.out.size)) hg1.1 _ _
  have HR7 : Hid (∃ c', 0 < c' ∧ readM (atL (l.set k y)) n = .inl (c', 0)) := by
    have hlen := HO.out.2.2
    have hft : ∀ j, f j = atL l j := fun j => by rw [Hf.out]
    have ek : atL l k = x := by unfold atL; rw [List.getD_eq_getElem?_getD, hx]; rfl
    refine one_byte (f := f) (k := k) (xs := xs) (by rw [Hf.out]; exact atL_lt HO.out.2.1) (atL_lt (Rr.all_set HO.out.2.1 k y hy256)) Hx.out hkn (fun j hj => ?_) ?_
    · rw [hft, atL_set l k y j (by omega), if_neg hj]
    · rw [hft, atL_set l k y k (by omega), if_pos rfl, ek]; exact hxy
  have HL7 : Hid ((∀ b ∈ l.set k y, b < 256) ∧ n = (l.set k y).length) := ⟨Rr.all_set HO.out.2.1 k y hy256, by rw [List.length_set]; exact HO.out.2.2⟩
  have hg6 : g < w6.heap.size := (HO6.out.own g rfl).2
  clear HO HO6 HC2 Hx B1 B5 B5' B6 hb6 hk hx hmod c20 c21 c22 hy hxy Hf k5 B6'
  go_region_law (first | fail)
  all_goals
    obtain ⟨c', hc0, hcr⟩ := HR7.out
    have HW7 : Hid (OwL (w6.setCell ⟨g, k, none⟩ (.int .u8 (y : Nat))).drew w.heap.size (.slice (some ⟨g, 0, none⟩) n c) (l.set k y) ∧ Below w.heap.size w (w6.setCell ⟨g, k, none⟩ (.int .u8 (y : Nat))).drew) := ⟨(HO7.out w6 (Below.refl _ _)).later (below_drew _), (HB7.out w6 (Below.refl _ _)).drew⟩
    clear HO7 HB7 HR7 d0 f0 d2 hxr
    go_upto_region 12 with fail
    generalize (w6.setCell ⟨g, k, none⟩ (.int .u8 (y : Nat))).drew = w7 at HW7 ⊢
    have hBt : Bt w7 (some ⟨g, 0, none⟩) n (atL (l.set k y)) := by
      have h1 := HW7.out.1
      rw [HL7.out.2] at h1
      have := owL_bt h1
      rw [← HL7.out.2] at this
      exact this
    have HI2 : Hid (Calls Tryd.prog 8 #[.slice (some ⟨g, 0, none⟩) n c] w7 fun e w' => ∃ (a : Option Addr) (c2 : Nat), e = .returned (.tuple #[.slice a 0 c2, .agg #[.int .i64 c', .int .i64 0]]) ∧ Below w7.heap.size w7 w') := (read_all _ n c _ (atL_lt HL7.out.1) w7 (by omega) hcap hBt).mono fun e w' h => read_two (by rw [hcr]; rfl) (by rw [hcr]; rfl) (by rw [hcr]; rfl) h
    clear hBt hcr HL7
    go_wp2_with fail
    refine HI2.out.mono ?_
    rintro e w8 ⟨ra, rc, rfl, g8⟩
    have gA : Below w8.heap.size w8 (w8.alloc (.cells #[.int .i64 c', .int .i64 0] 26)) := (Below.refl _ _).alloc (Nat.le_refl _) _
    have B9 : Hid (Below w.heap.size w (w8.alloc (.cells #[.int .i64 c', .int .i64 0] 26))) := HW7.out.2.trans ((g8.trans (gA.mono g8.size)).mono HW7.out.2.size)
    clear g8 gA HI2 HW7
    go_wp2
    go_ret
    exact ⟨rfl, B9.out⟩
end Go.Proofs.YtcihplachlokiaaDoor
/- The law FnPicOne: its walk. -/
namespace Go.Proofs.YtcihplachlokiaaDoor
open Go.RowKit Go.Shelf
set_option linter.unusedVariables false
set_option linter.unusedSimpArgs false

theorem row_bt {w : World} {a : Option Addr} {len cap : Nat} {zs : List Int} (h : Rr.IsRow .u8 w a len cap zs) : len ≤ maxLen ∧ ∃ f : Nat → Nat, (∀ j, f j < 256) ∧ Bt w a len f := by
  rcases h with ⟨rfl, rfl, rfl, rfl⟩ | ⟨x, rfl, h1, h2, h3, hc, hw⟩
  · exact ⟨Nat.zero_le _, fun _ => 0, fun _ => by show 0 < 256; omega, .inl rfl⟩
  · refine ⟨by omega, fun j => (zs.getD j 0).toNat % 256, fun j => Nat.mod_lt _ (by decide), ?_⟩
    by_cases h0 : len = 0
    · exact .inl h0
    · obtain ⟨b, off, spot⟩ := x
      have hc0 := hc 0 (by omega)
      have hspot : spot = none := by simpa [Addr.add] using World.cell?_spot hc0
      subst hspot
      have hlt := World.block_lt_of_cell? _ _ hc0
      refine .inr ⟨b, off, rfl, by simpa [Addr.add] using hlt, fun j hj => ?_⟩
      have h := hc j (by omega)
      have hm : zs.getD j 0 ∈ zs := by
        rw [List.getD_eq_getElem?_getD, List.getElem?_eq_getElem (by omega)]
        exact List.getElem_mem (by omega)
      have hb := bounds_u8 (hw _ hm)
      have e1 : (((zs.getD j 0).toNat % 256 : Nat) : Int) = zs.getD j 0 := by omega
      rw [e1]
      by_cases e : j = 0
      · subst e; simpa [Addr.add] using h
      · simpa [Addr.add, e] using h
set_option maxHeartbeats 1000000 in
theorem walk_pone (a : Option Addr) (len cap : Nat) (zs : List Int) (a' : Option Addr) (len' cap' : Nat) (zs' : List Int) (w : World) (h : Rr.IsRow .u8 w a len cap zs) (h' : Rr.IsRow .u8 w a' len' cap' zs') (_ : KT w) :
    Calls Tryd.prog 3 #[.slice a len cap, .slice a' len' cap'] w fun e w' => e = .returned (.bool true) ∧ Below w.heap.size w w' := by
  obtain ⟨hm, f, hf, hb⟩ := row_bt h
  obtain ⟨hm', f', hf', hb'⟩ := row_bt h'
  unfold maxLen at hm hm'
  by_cases hl : len ≤ 1048576
  rotate_left
  · have i1 : (1048576 : Int) < (len : Int) := by omega
    clear h hb h' hb'
    go_enter Tryd.func3, Tryd.ntmps3
    go_wp2
    go_ret
    exact ⟨rfl, Below.refl _ _⟩
  have i1 : ¬ (1048576 : Int) < (len : Int) := by omega
  by_cases hl' : len' ≤ 1048576
  rotate_left
  · have i2 : (1048576 : Int) < (len' : Int) := by omega
    clear h hb h' hb'
    go_enter Tryd.func3, Tryd.ntmps3
    go_wp2
    go_ret
    exact ⟨rfl, Below.refl _ _⟩
  have i2 : ¬ (1048576 : Int) < (len' : Int) := by omega
  by_cases h3 : 3 ≤ len'
  rotate_left
  · have i3 : (len' : Int) < 3 := by omega
    clear h hb h' hb'
    go_enter Tryd.func3, Tryd.ntmps3
    go_wp2
    go_ret
    exact ⟨rfl, Below.refl _ _⟩
  obtain ⟨blk, off, z, hc⟩ := h.code hl
  exact law_pone a' len' cap' f' hf' w hc hl hl' h3 hb'
end Go.Proofs.YtcihplachlokiaaDoor
/- The law FnPicOne holds at every input, where the listed package-level variables start as the program's text lays them. -/
namespace Go.Proofs.YtcihplachlokiaaDoor
open Go.ChangeShapes Go.WideShapes Go.ChangeAt Go.RowKit Go.Joins
open Go.ChangeMaps (open_string shut_string)
set_option linter.unusedVariables false

theorem fnPicOne_own : ownKnob Tryd.prog.godebug = none := by kernel_rfl
theorem fnPicOne_laidOut : laidOutB Tryd.prog = true := by kernel_rfl


set_option maxRecDepth 100000 in
theorem fnPicOne_lifted (os : Os) (started : os.Started) (H : Type) (enc : TypeId × Value → H) :
    ReturnsInHanded {} Tryd.checked os 3 .any (fun w args => (Rows.fnPicOneSpec.pre enc Tryd.prog Tryd.f3 [] false w args ∧ laidMetH Tryd.prog Rows.fnPicOneRow.laid w) ∧ sizedMet enc Tryd.prog Tryd.f3 (OpenSpec.ofChange Rows.fnPicOneSpec) false w args)
      (Rows.fnPicOneSpec.post enc Tryd.prog Tryd.f3 false true false false) := by
  refine returnsInHanded_of_change_and (C := Tryd.checked) (X := fun w _ => laidMetH Tryd.prog Rows.fnPicOneRow.laid w) (fun _ _ _ hh h => h.of_heap hh) fnPicOne_own started (by kernel_rfl) Tryd.func3
    (ChangeSpec.witness_shaped (enc := enc) (C := Tryd.checked) (os := os) (X := fun w _ => laidMetH Tryd.prog Rows.fnPicOneRow.laid w) false (World.laidAll Tryd.prog os Rows.fnPicOneRow.laid) #[.slice none 0 0, .slice none 0 0] 8 (World.laidAll_os _ _ _)
      (World.shaped_of_ZipB (by kernel_rfl) (by kernel_rfl)) (by kernel_rfl) (by kernel_rfl) (by kernel_rfl)
      (by rw [MakeChecks.laidMetH_plain _ _ _ (by kernel_rfl)]; exact laidMet_laidAll _ (by kernel_rfl) (by kernel_rfl))) ?_
  intro W base args ds gs before hval0 hW _ _ hL _
  have hval : ∀ (j : Nat) t v, Tryd.f3.params[j]? = some t → args[j]? = some v → Value.okWide Tryd.prog W .any base t v := hval0
  have hW' := hW
  obtain ⟨p, q, hA0, hV, rfl, hfz, hnd⟩ := hW
  have hA : DataW.TrodAll enc Tryd.prog W 0 (fun _ => true) true Tryd.f3.params.toList args.toList ds p := hA0
  rw [Tryd.params3] at hA hval
  obtain ⟨v0, vs0, d0, ds0, p0, q0, hargs, rfl, rfl, h0, r0⟩ := trodAll_cons hA
  obtain ⟨v1, vs1, d1, ds1, p1, q1, rfl, rfl, rfl, h1, r1⟩ := trodAll_cons r0
  obtain ⟨rfl, rfl, rfl⟩ := trodAll_nil r1
  obtain rfl : args = #[v0, v1] := by cases args; simp_all
  have hV2 := hV
  obtain ⟨_, _, _, _, gv0, _, rfl, _, _, _, _, _⟩ := trodVars_one hV
  rw [MakeChecks.laidMetH_plain _ _ _ (by kernel_rfl)] at hL
  have k0 := h0
  have lt0 : ∀ x ∈ p0, x.block < W.heap.size := by obtain ⟨m, hm⟩ := k0; exact DataW.trod_lt m _ _ _ hm
  obtain ⟨a0, len0, cap0, rfl⟩ := okWide_slice Tryd.underlying22 (hval 0 22 v0 rfl rfl)
  obtain ⟨z0, wa0⟩ : ∃ zs, Rr.IsRow .u8 W a0 len0 cap0 zs := by
    obtain ⟨fuel, hf⟩ := h0
    rcases open_ints Tryd.underlying22 Tryd.underlying5 (by kernel_rfl) hf with ⟨hcs, _⟩ | ⟨x, l, c, zs, hcs, _, hl, hm, hz, _, hcell, hwz⟩
    · simp [Value.cells] at hcs
      obtain ⟨rfl, rfl, rfl⟩ := hcs
      exact ⟨[], .inl ⟨rfl, rfl, rfl, rfl⟩⟩
    · simp [Value.cells] at hcs
      obtain ⟨rfl, rfl, rfl⟩ := hcs
      exact ⟨zs, .inr ⟨_, rfl, hl, hm, by simpa using hz, hcell, hwz⟩⟩
  have k1 := h1
  have lt1 : ∀ x ∈ p1, x.block < W.heap.size := by obtain ⟨m, hm⟩ := k1; exact DataW.trod_lt m _ _ _ hm
  obtain ⟨a1, len1, cap1, rfl⟩ := okWide_slice Tryd.underlying22 (hval 1 22 v1 rfl rfl)
  obtain ⟨z1, wa1⟩ : ∃ zs, Rr.IsRow .u8 W a1 len1 cap1 zs := by
    obtain ⟨fuel, hf⟩ := h1
    rcases open_ints Tryd.underlying22 Tryd.underlying5 (by kernel_rfl) hf with ⟨hcs, _⟩ | ⟨x, l, c, zs, hcs, _, hl, hm, hz, _, hcell, hwz⟩
    · simp [Value.cells] at hcs
      obtain ⟨rfl, rfl, rfl⟩ := hcs
      exact ⟨[], .inl ⟨rfl, rfl, rfl, rfl⟩⟩
    · simp [Value.cells] at hcs
      obtain ⟨rfl, rfl, rfl⟩ := hcs
      exact ⟨zs, .inr ⟨_, rfl, hl, hm, by simpa using hz, hcell, hwz⟩⟩
  clear hA0 hval0
  refine (walk_pone a0 len0 cap0 z0 a1 len1 cap1 z1 W wa0 wa1 (kt_of_reads (Lib.laidMet.reads hL (.head _)))).mono fun e W' ⟨he, bel⟩ => ?_
  subst he
  exact ⟨_, rfl, _, _, _, [], _, _, hW', trodAll_mk1 (shut_bool Tryd.underlying4 _), (trodAll_cons_mk (Below.trod fnPicOne_laidOut (by kernel_rfl) (of_decide_eq_true (by kernel_rfl)) k0 bel lt0) (trodAll_cons_mk (Below.trod fnPicOne_laidOut (by kernel_rfl) (of_decide_eq_true (by kernel_rfl)) k1 bel lt1) trodAll_mk0)), Below.trodVars fnPicOne_laidOut bel (by kernel_rfl) hV2, bel.frame _, fun h => by cases h⟩

theorem fnPicOne_closed : joinedFacts Tryd.prog 3 Tryd.f3 Rows.fnPicOneSpec Rows.fnPicOneRow = true := by kernel_rfl
theorem fnPicOne_fname : Tryd.prog.funcNamed Rows.fnPicOneRow.func = some 3 := by kernel_rfl
theorem fnPicOne_inst : Tryd.f3.isInstance Tryd.prog Rows.fnPicOneRow.origin Rows.fnPicOneRow.targs := of_decide_eq_true (by kernel_rfl)
theorem fnPicOne_wrap : Tryd.f3.isWrapper Tryd.prog Rows.fnPicOneRow.wrapper Rows.fnPicOneRow.mainSum := by unfold Func.isWrapper; first | (rw [if_pos (by decide +kernel)]; kernel_rfl) | (rw [if_neg (by decide +kernel)]; exact ⟨rfl, rfl⟩)
theorem fnPicOne_said : Rows.FnPicOneSaid :=
  OpenClaim.holds_of_wide 3 Tryd.f3 rfl rfl rfl rfl rfl rfl rfl ⟨rfl, rfl, rfl, rfl, rfl⟩ rfl rfl rfl rfl rfl fnPicOne_fname Tryd.func3 fnPicOne_closed
    fnPicOne_inst fnPicOne_wrap
    (fun os started H enc _ => fnPicOne_lifted os started H enc)

theorem fnPicOne_holds : Rows.FnPicOneCardSaid :=
  Claim7.holds_tied_plain_at .later [] [.data] true (true, "ddad3005a6c0050652faace7dc73bfd5ce8fad95b4e479b5ee203f8cfbd370ee") true fnPicOne_said (fun _ h => by cases h) (by kernel_rfl) (fun _ h => by cases h) fnPicOne_row_tie rfl ⟨rfl, rfl⟩ (by kernel_rfl) rfl
    (fun f fn hf hfn => by
      obtain rfl : f = 3 := Option.some.inj ((show Tryd.prog.funcNamed "loop.example/stile/laws.FnPicOne" = some 3 by kernel_rfl).symm.trans hf) |>.symm
      obtain rfl : fn = Tryd.f3 := (Option.some.inj (Tryd.func3.symm.trans hfn)).symm
      exact ⟨by kernel_rfl, fun j t ht => by
        rw [Tryd.params3] at ht
        have hm : t ∈ [22, 22] := by simpa using Array.mem_of_getElem? ht
        have hall : ([22, 22].all fun u => !Tryd.prog.wantsStandIn u) = true := by kernel_rfl
        exact (show Tryd.prog.wantsStandIn t = false by simpa using List.all_eq_true.1 hall t hm)⟩)
    (by kernel_rfl)
#print axioms fnPicOne_holds
end Go.Proofs.YtcihplachlokiaaDoor
