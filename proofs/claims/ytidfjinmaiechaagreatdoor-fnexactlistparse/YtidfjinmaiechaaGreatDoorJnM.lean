/- The specification's ElemRead. -/
import Derived.Test.YtidfjinmaiechaaGreatDoorJm
import Derived.Test.YtidfjinmaiechaaGreatDoorJl
import Derived.Laws.OwnMore
namespace Go.Proofs.YtidfjinmaiechaaGreatDoor
open Go.RowKit Go.Shelf Go.Lib
set_option linter.unusedVariables false

theorem etx_yes {s : ByteArray} {op : Int} {xs : List Arg} (hne : s.data.toList ≠ []) (h : etx op xs = s) : IsEl s op xs := by
  unfold etx at h
  split at h
  · rename_i hr
    exact ⟨hr, by rw [← h]⟩
  · exact absurd (by rw [← h]) hne
theorem etx_of {s : ByteArray} {op : Int} {xs : List Arg} (h : IsEl s op xs) : etx op xs = s := by
  unfold etx
  rw [if_pos h.1]
  apply ByteArray.ext
  rw [h.2]
theorem guess_of {s : ByteArray} {op : Int} {xs : List Arg} (h : IsEl s op xs) : guess s.data.toList = (op, xs) := by
  rw [← h.2]
  exact guess_etl h.1

set_option maxHeartbeats 4000000 in
/-- A text that is none at once. -/
theorem eread_s_no (s : ByteArray) (w : World) (h : (s.toList == []) = true ∨ ((s.toList == []) = false ∧ 100 < s.size)) :
    Calls Tryz.prog 41 #[.string s] w fun e w' => e = .returned (.tuple #[.agg #[.int .i64 0, .slice none 0 0], .bool false]) ∧ Below w.heap.size w w' := by
  rcases h with h | ⟨h, h2⟩
  · go_enter Tryz.func41, Tryz.ntmps41
    go_wp2
    go_returns
    exact ⟨rfl, by go_grown⟩
  · have h3 : (100 : Int) < (s.size : Int) := by omega
    go_enter Tryz.func41, Tryz.ntmps41
    go_wp2
    go_returns
    exact ⟨rfl, by go_grown⟩

set_option maxHeartbeats 4000000 in
/-- The specification's ElemRead. -/
theorem eread_s (s : ByteArray) (w : World) (hs : s.size ≤ 1048576) :
    Calls Tryz.prog 41 #[.string s] w fun e w' => IsERead s w e w' := by
  by_cases h0 : (s.toList == []) = true
  · refine (eread_s_no s w (.inl h0)).mono ?_
    rintro e w' ⟨rfl, hb⟩
    refine .inr ⟨fun op xs h => ?_, rfl, hb⟩
    have := (etl_le h.1).2
    rw [h.2, ← Lib.toList_data] at this
    exact this (eq_of_beq h0)
  have h1 : (s.toList == []) = false := by simpa using h0
  by_cases h100 : 100 < s.size
  · refine (eread_s_no s w (.inr ⟨h1, h100⟩)).mono ?_
    rintro e w' ⟨rfl, hb⟩
    refine .inr ⟨fun op xs h => ?_, rfl, hb⟩
    have := (etl_le h.1).1
    rw [h.2, ← Lib.size_eq] at this
    omega
  have hne : s.data.toList ≠ [] := by
    rw [← Lib.toList_data]
    intro e
    rw [e] at h1
    cases h1
  have h2 : ¬ ((100 : Int) < (s.size : Int)) := by omega
  have HGs : Hid (∀ W, Calls Tryz.prog 70 #[.string s] W fun e w' => IsG (guess s.data.toList) W e w') := fun W => guess_s s W hs
  have HN : Hid (∀ op xs, IsEl s op xs → guess s.data.toList = (op, xs)) := fun op xs h => guess_of h
  have HNE : Hid (s.data.toList ≠ []) := hne
  clear hne h0
  obtain ⟨op, xs, hr⟩ : ∃ op xs, guess s.data.toList = (op, xs) := ⟨_, _, rfl⟩
  rw [hr] at HGs HN
  have B0 : Below w.heap.size w (w.alloc (.cells #[.int .i64 0, .slice none 0 0] 45)) := (Below.refl _ w).alloc (Nat.le_refl _) _
  have sz0 : (w.alloc (.cells #[.int .i64 0, .slice none 0 0] 45)).heap.size = w.heap.size + 1 := by simp
  go_enter Tryz.func41, Tryz.ntmps41
  go_wp2_with fail
  refine (HGs.out _).mono ?_
  intro e w1 hG
  unfold IsG at hG
  rcases hG with ⟨g, cap, rfl, ho, g1⟩ | ⟨hx, rfl, g1⟩
  · rw [sz0] at ho
    have hgl := ho.lt g rfl
    have HO : Hid (OpsOwn w1 (w.heap.size + 1) g cap xs) := ho
    have E1 := (E2.fresh w (.int .i64 0) (.slice none 0 0) 45).later g1
    have B1 : Below w.heap.size w w1 := B0.trans (g1.mono B0.size)
    have hlt1 := E1.lt
    have HO1 : OpsOwn (w1.alloc (.cells #[.int .i64 op, .slice (some ⟨g, 0, none⟩) xs.length cap] 45)) (w.heap.size + 1) g cap xs := World.ownsRow.alloc HO.out _
    have HT : Hid (∀ W, Below (w1.alloc (.cells #[.int .i64 op, .slice (some ⟨g, 0, none⟩) xs.length cap] 45)).heap.size (w1.alloc (.cells #[.int .i64 op, .slice (some ⟨g, 0, none⟩) xs.length cap] 45)) W → Calls Tryz.prog 34 #[.agg #[.int .i64 op, .slice (some ⟨g, 0, none⟩) xs.length cap]] W fun e w' => e = .returned (.string (etx op xs)) ∧ Below W.heap.size W w') := fun W hW => spec_etext op (some ⟨g, 0, none⟩) xs xs.length cap rfl W (.inr ⟨g, 0, rfl, (OpsOwn.later HO1 hW).ops⟩)
    have HE : Hid (etx op xs = s → IsEl s op xs) := fun h => etx_yes HNE.out h
    have HF : Hid (IsEl s op xs → etx op xs = s) := etx_of
    obtain ⟨T, hT⟩ : ∃ T, etx op xs = T := ⟨_, rfl⟩
    rw [hT] at HT HE HF
    have EA := E1.alloc (.cells #[.int .i64 op, .slice (some ⟨g, 0, none⟩) xs.length cap] 45)
    have EB : E2 (w1.alloc (.cells #[.int .i64 op, .slice (some ⟨g, 0, none⟩) xs.length cap] 45)) w1.heap.size (.int .i64 op) (.slice (some ⟨g, 0, none⟩) xs.length cap) := E2.fresh w1 _ _ _
    have B2 := B1.alloc B1.size (.cells #[.int .i64 op, .slice (some ⟨g, 0, none⟩) xs.length cap] 45)
    clear E1 B1 g1 ho B0 hT
    go_wp2_with fail
    generalize w1.alloc (.cells #[.int .i64 op, .slice (some ⟨g, 0, none⟩) xs.length cap] 45) = W2 at HO1 HT EA EB B2 ⊢
    refine (HT.out W2 (Below.refl _ _)).mono ?_
    rintro e w3 ⟨rfl, g3⟩
    have EA3 := EA.later g3
    have EB3 := EB.later g3
    have B3 := B2.trans (g3.mono B2.size)
    have O3 : OpsOwn w3 (w.heap.size + 1) g cap xs := OpsOwn.later HO1 g3
    clear EA EB B2 HO1 g3 HT
    cases hq : (T.toList == s.toList) with
    | false =>
      have HNo : Hid (∀ op xs, ¬ IsEl s op xs) := fun op' xs' h => by
        have e := HN.out op' xs' h
        simp only [Prod.mk.injEq] at e
        rw [← e.1, ← e.2] at h
        rw [HF.out h] at hq
        simp at hq
      have EP := EA3.put (.int .i64 0) (.slice none 0 0)
      have BP : Hid (Below w.heap.size w ((w3.setCell ⟨w.heap.size, 0, none⟩ (.int .i64 0)).setCell ⟨w.heap.size, 1, none⟩ (.slice none 0 0))) := (B3.setCell (Nat.le_refl _) _).setCell (Nat.le_refl _) _
      obtain ⟨c0, c1, f0, f1⟩ := EA3
      obtain ⟨q0, q1, _, _⟩ := EP
      clear EB3 B3 O3 HE HF HN
      go_wp2
      exact bodyPost_ret (v := .tuple #[.agg #[.int .i64 0, .slice none 0 0], .bool false]) (by simp [results, Tryz.results41, go_sem, q0, q1]) rfl (.inr ⟨HNo.out, rfl, BP.out⟩)
    | true =>
      have hTs : T = s := by
        have := eq_of_beq hq
        rw [Lib.toList_data, Lib.toList_data] at this
        exact ba_list this
      have HIs : Hid (IsEl s op xs) := HE.out hTs
      have EP := EA3.put (.int .i64 op) (.slice (some ⟨g, 0, none⟩) xs.length cap)
      have BP : Hid (Below w.heap.size w ((w3.setCell ⟨w.heap.size, 0, none⟩ (.int .i64 op)).setCell ⟨w.heap.size, 1, none⟩ (.slice (some ⟨g, 0, none⟩) xs.length cap))) := (B3.setCell (Nat.le_refl _) _).setCell (Nat.le_refl _) _
      have WP : Hid (OpsOwn ((w3.setCell ⟨w.heap.size, 0, none⟩ (.int .i64 op)).setCell ⟨w.heap.size, 1, none⟩ (.slice (some ⟨g, 0, none⟩) xs.length cap)) w.heap.size g cap xs) := own_other (own_other (OpsOwn.base O3 (by omega)) w.heap.size 0 (by omega) _) w.heap.size 1 (by omega) _
      obtain ⟨c0, c1, f0, f1⟩ := EA3
      obtain ⟨d0, d1, _, _⟩ := EB3
      obtain ⟨q0, q1, _, _⟩ := EP
      clear B3 O3 HE HF HN hTs
      go_wp2
      exact bodyPost_ret (v := .tuple #[.agg #[.int .i64 op, .slice (some ⟨g, 0, none⟩) xs.length cap], .bool true]) (by simp [results, Tryz.results41, go_sem, q0, q1]) rfl (.inl ⟨op, xs, g, cap, HIs.out, rfl, WP.out, BP.out⟩)
  · have hx : xs = [] := hx
    subst hx
    have E1 := (E2.fresh w (.int .i64 0) (.slice none 0 0) 45).later g1
    have B1 : Below w.heap.size w w1 := B0.trans (g1.mono B0.size)
    have hlt1 := E1.lt
    have HT : Hid (∀ W, Calls Tryz.prog 34 #[.agg #[.int .i64 op, .slice none 0 0]] W fun e w' => e = .returned (.string (etx op [])) ∧ Below W.heap.size W w') := fun W => spec_etext op none [] 0 0 rfl W (.inl rfl)
    have hex : etx op [] = ⟨#[]⟩ := by
      unfold etx
      rw [if_neg]
      intro h
      have := rtk_form h
      have hr := row_sort op this.1
      have h3 := this.2
      simp at h3
      omega
    have HNo : Hid (∀ op xs, ¬ IsEl s op xs) := fun op' xs' h => by
      have e := HN.out op' xs' h
      simp only [Prod.mk.injEq] at e
      rw [← e.1, ← e.2] at h
      have h5 := etx_of h
      rw [hex] at h5
      exact HNE.out (by rw [← h5])
    rw [hex] at HT
    have hq : ((⟨#[]⟩ : ByteArray).toList == s.toList) = false := by
      rw [beq_eq_false_iff_ne]
      intro e
      rw [← e] at h1
      simp at h1
    have hq2 : s.toList.isEmpty = false := by
      cases hh : s.toList with
      | nil => rw [hh] at h1; cases h1
      | cons a b => rfl
    have EA := E1.alloc (.cells #[.int .i64 op, .slice none 0 0] 45)
    have EB : E2 (w1.alloc (.cells #[.int .i64 op, .slice none 0 0] 45)) w1.heap.size (.int .i64 op) (.slice none 0 0) := E2.fresh w1 _ _ _
    have B2 := B1.alloc B1.size (.cells #[.int .i64 op, .slice none 0 0] 45)
    clear E1 B1 g1 B0 hex
    go_wp2_with fail
    generalize w1.alloc (.cells #[.int .i64 op, .slice none 0 0] 45) = W2 at EA EB B2 ⊢
    refine (HT.out W2).mono ?_
    rintro e w3 ⟨rfl, g3⟩
    have EA3 := EA.later g3
    have B3 := B2.trans (g3.mono B2.size)
    have EP := EA3.put (.int .i64 0) (.slice none 0 0)
    have BP : Hid (Below w.heap.size w ((w3.setCell ⟨w.heap.size, 0, none⟩ (.int .i64 0)).setCell ⟨w.heap.size, 1, none⟩ (.slice none 0 0))) := (B3.setCell (Nat.le_refl _) _).setCell (Nat.le_refl _) _
    obtain ⟨c0, c1, f0, f1⟩ := EA3
    obtain ⟨q0, q1, _, _⟩ := EP
    clear EA EB B2 g3 B3 HT
    go_wp2
    exact bodyPost_ret (v := .tuple #[.agg #[.int .i64 0, .slice none 0 0], .bool false]) (by simp [results, Tryz.results41, go_sem, q0, q1]) rfl (.inr ⟨HNo.out, rfl, BP.out⟩)
end Go.Proofs.YtidfjinmaiechaaGreatDoor
/- Elements held against each other; their operands marked, and the marks looked for. -/
namespace Go.Proofs.YtidfjinmaiechaaGreatDoor
open Go.RowKit Go.Shelf Go.Lib
set_option linter.unusedVariables false

set_option maxHeartbeats 1000000 in
theorem eqa_r (k n p : Int) (w : World) :
    Calls Tryz.prog 91 #[.agg #[.int .i64 k, .int .i64 n, .int .i64 p], .agg #[.int .i64 k, .int .i64 n, .int .i64 p]] w fun e w' => e = .returned (.bool true) ∧ Below w.heap.size w w' := by
  go_enter Tryz.func91, Tryz.ntmps91
  go_wp2
  go_ret
  exact ⟨rfl, by go_grown⟩

set_option maxRecDepth 10000 in
set_option maxHeartbeats 1000000 in
theorem eqs_r (a1 a2 : Option Addr) (xs : List Arg) (len c1 c2 : Nat) (hlen : len = xs.length) (hbig : len ≤ 1048576) (w : World) (h1 : Sl w a1 xs) (h2 : Sl w a2 xs) :
    Calls Tryz.prog 69 #[.slice a1 len c1, .slice a2 len c2] w fun e w' => e = .returned (.bool true) ∧ Below w.heap.size w w' := by
  have HL : Hid (len = xs.length) := hlen
  clear hlen
  go_enter Tryz.func69, Tryz.ntmps69
  go_wp2
  go_loopg [5] len (fun g i wr => ∃ n : Nat, n + g = len ∧ i = .int .i64 n ∧ Below w.heap.size w wr)
  case atStart => exact ⟨0, by omega, rfl, Below.refl _ _⟩
  case round =>
    obtain ⟨n, hn, rfl, hb⟩ := hrel
    by_cases hlt : n < len
    · have i1 : (n : Int) < (len : Int) := by omega
      have i3 : (0 : Int) ≤ (n : Int) := by omega
      obtain ⟨x, hxn⟩ : ∃ x, xs[n]? = some x := ⟨_, List.getElem?_eq_getElem (by have := HL.out; omega)⟩
      rcases h1 with rfl | ⟨b, o, rfl, ho⟩
      · simp at hxn
      rcases h2 with rfl | ⟨b', o', rfl, ho'⟩
      · simp at hxn
      obtain ⟨y0, y1, y2⟩ := (ho.later hb) n x hxn
      obtain ⟨y3, y4, y5⟩ := (ho'.later hb) n x hxn
      have k0 := cell_regrown y0
      have k1 := cell_regrown y1
      have k2 := cell_regrown y2
      have k3 := cell_regrown y3
      have k4 := cell_regrown y4
      have k5 := cell_regrown y5
      have cE : ∀ d os, Calls Tryz.prog 91 #[.agg #[.int .i64 x.1, .int .i64 x.2.1, .int .i64 x.2.2], .agg #[.int .i64 x.1, .int .i64 x.2.1, .int .i64 x.2.2]] (Sort.grow (redrawn wr d) os) fun e w'' => e = .returned (.bool true) ∧ ∃ p : Regrown, w'' = Sort.grow (redrawn wr p.d) p.os :=
        fun d os => Calls.regrown_of (eqa_r _ _ _ _)
      go_upto_region 6 with fail
      refine wp_region_quiet_below (by kernel_rfl) (by kernel_rfl) ?_
      repeat (go_big_quiet_step (first | exact cE _ _))
      refine wpQuiet_nil ?_
      intro _ hw'
      obtain ⟨⟨dq, osq⟩, hw''⟩ := hw'
      subst hw''
      go_wp2
      go_roundg (gk - 1)
      case measure => omega
      case rel => exact ⟨n + 1, by omega, by simp, hb.trans ((below_regrown wr dq osq).mono hb.size)⟩
    · have i1 : ¬ ((n : Int) < (len : Int)) := by omega
      go_wp2
      go_ret
      exact ⟨rfl, hb⟩

set_option maxHeartbeats 1000000 in
theorem eq_r (op : Int) (a1 a2 : Option Addr) (xs : List Arg) (len c1 c2 : Nat) (hlen : len = xs.length) (hbig : len ≤ 1048576) (w : World) (h1 : Sl w a1 xs) (h2 : Sl w a2 xs) :
    Calls Tryz.prog 40 #[.agg #[.int .i64 op, .slice a1 len c1], .agg #[.int .i64 op, .slice a2 len c2]] w fun e w' => e = .returned (.bool true) ∧ Below w.heap.size w w' := by
  have HE : Hid (∀ W, Below w.heap.size w W → Calls Tryz.prog 69 #[.slice a1 len c1, .slice a2 len c2] W fun e w' => e = .returned (.bool true) ∧ Below W.heap.size W w') := fun W h => eqs_r a1 a2 xs len c1 c2 hlen hbig W (h1.later h) (h2.later h)
  clear hlen
  have b0 : Below w.heap.size w ((w.alloc (.cells #[.int .i64 op, .slice a1 len c1] 45)).alloc (.cells #[.int .i64 op, .slice a2 len c2] 45)) := ((Below.refl _ _).alloc (Nat.le_refl _) _).alloc (by simp) _
  go_enter Tryz.func40, Tryz.ntmps40
  go_wp2_with fail
  refine (HE.out _ b0).mono ?_
  rintro e w1 ⟨rfl, g1⟩
  have b1 := b0.trans (g1.mono b0.size)
  clear g1
  go_wp2
  go_ret
  exact ⟨rfl, b1⟩

theorem gb_step {w a b : World} {g : Nat} (h : w.grownBy a (some g)) (k : a.grownBy b (some g)) : w.grownBy b (some g) :=
  ⟨k.os.trans h.os, k.tape.trans h.tape, k.output.trans h.output, Nat.le_trans h.size k.size, fun i hi hne => (k.block i (Nat.lt_of_lt_of_le hi h.size) hne).trans (h.block i hi hne)⟩
/-- A row of operands of one's own, cell by cell. -/
abbrev Row3 (w : World) (base g cap n : Nat) (vs : List Value) : Prop := w.ownsRow base 101 3 (.slice (some ⟨g, 0, none⟩) n cap) n vs
/-- The first cells are marks. -/
def Marked (m : Int) (n : Nat) (vs : List Value) : Prop := ∀ j, j < n → vs[j]? = some (.int .i64 (m + (j : Int)))
theorem marked_next {m K : Int} {n : Nat} {vs : List Value} (h : Marked m (n * 3) vs) (hK : K = m + 3 * (n : Int)) (hl : n * 3 + 2 < vs.length) :
    Marked m ((n + 1) * 3) (((vs.set (n * 3) (.int .i64 K)).set (n * 3 + 1) (.int .i64 (K + 1))).set (n * 3 + 2) (.int .i64 (K + 1 + 1))) := by
  intro j hj
  rcases (by omega : j < n * 3 ∨ j = n * 3 ∨ j = n * 3 + 1 ∨ j = n * 3 + 2) with h1 | h1 | h1 | h1
  · rw [List.getElem?_set_ne (by omega), List.getElem?_set_ne (by omega), List.getElem?_set_ne (by omega)]
    exact h j h1
  · subst h1
    rw [List.getElem?_set_ne (by omega), List.getElem?_set_ne (by omega), List.getElem?_set_self (by omega)]
    congr 2; omega
  · subst h1
    rw [List.getElem?_set_ne (by omega), List.getElem?_set_self (by simp; omega)]
    congr 2; omega
  · subst h1
    rw [List.getElem?_set_self (by simp; omega)]
    congr 2; omega

set_option maxRecDepth 10000 in
set_option maxHeartbeats 2000000 in
theorem mark_r (base g cap n : Nat) (m : Int) (vs : List Value) (w : World) (hn : n ≤ 1000) (hm0 : 0 ≤ m) (hm1 : m ≤ 1000000) (h : Row3 w base g cap n vs) :
    Calls Tryz.prog 28 #[.slice (some ⟨g, 0, none⟩) n cap, .int .i64 m] w fun e w' => ∃ vs', e = .returned (.int .i64 (m + 3 * (n : Int))) ∧ Row3 w' base g cap n vs' ∧ Marked m (n * 3) vs' ∧ w.grownBy w' (some g) := by
  go_enter Tryz.func28, Tryz.ntmps28
  go_wp2
  go_loopg [1, 5] n (fun gg k i wr => ∃ (q : Nat) (K : Int) (us : List Value), q + gg = n ∧ i = .int .i64 q ∧ k = .int .i64 K ∧ Hid (K = m + 3 * (q : Int)) ∧ 0 ≤ K ∧ K ≤ 2000000 ∧ Hid (Row3 wr base g cap n us) ∧ Hid (Marked m (q * 3) us) ∧ Hid (w.grownBy wr (some g)))
  case atStart => exact ⟨0, m, vs, by omega, rfl, rfl, (by simp : m = m + 3 * ((0 : Nat) : Int)), hm0, by omega, h, fun j hj => by omega, gb_refl _ _⟩
  case round =>
    obtain ⟨q, K, us, hq, rfl, rfl, HK, hK0, hK1, HR, HM, HG⟩ := hrel
    by_cases hlt : q < n
    · have i1 : (q : Int) < (n : Int) := by omega
      have i2 : (0 : Int) ≤ (q : Int) := by omega
      have hlen : us.length = n * 3 := HR.out.1
      have s1 := HR.out.stored (q * 3) (.int .i64 K)
      have s2 := s1.1.stored (q * 3 + 1) (.int .i64 (K + 1))
      have s3 := s2.1.stored (q * 3 + 2) (.int .i64 (K + 1 + 1))
      obtain ⟨x0, c0⟩ : ∃ x, wr.cell? ⟨g, q * 3, none⟩ = some x := ⟨_, (HR.out.cellAt _ (by omega)).trans (List.getElem?_eq_getElem (by omega))⟩
      obtain ⟨x1, c1⟩ : ∃ x, (wr.setCell ⟨g, q * 3, none⟩ (.int .i64 K)).cell? ⟨g, q * 3 + 1, none⟩ = some x := ⟨_, (s1.1.cellAt _ (by omega)).trans (List.getElem?_eq_getElem (by simp; omega))⟩
      obtain ⟨x2, c2⟩ : ∃ x, ((wr.setCell ⟨g, q * 3, none⟩ (.int .i64 K)).setCell ⟨g, q * 3 + 1, none⟩ (.int .i64 (K + 1))).cell? ⟨g, q * 3 + 2, none⟩ = some x := ⟨_, (s2.1.cellAt _ (by omega)).trans (List.getElem?_eq_getElem (by simp; omega))⟩
      have f0 := HR.out.frozenAt (q * 3)
      have f1 := s1.1.frozenAt (q * 3 + 1)
      have f2 := s2.1.frozenAt (q * 3 + 2)
      have HR3 : Hid (Row3 (((wr.setCell ⟨g, q * 3, none⟩ (.int .i64 K)).setCell ⟨g, q * 3 + 1, none⟩ (.int .i64 (K + 1))).setCell ⟨g, q * 3 + 2, none⟩ (.int .i64 (K + 1 + 1))) base g cap n (((us.set (q * 3) (.int .i64 K)).set (q * 3 + 1) (.int .i64 (K + 1))).set (q * 3 + 2) (.int .i64 (K + 1 + 1)))) := s3.1
      have HM3 : Hid (Marked m ((q + 1) * 3) (((us.set (q * 3) (.int .i64 K)).set (q * 3 + 1) (.int .i64 (K + 1))).set (q * 3 + 2) (.int .i64 (K + 1 + 1)))) := marked_next HM.out HK.out (by omega)
      have HG3 : Hid (w.grownBy (((wr.setCell ⟨g, q * 3, none⟩ (.int .i64 K)).setCell ⟨g, q * 3 + 1, none⟩ (.int .i64 (K + 1))).setCell ⟨g, q * 3 + 2, none⟩ (.int .i64 (K + 1 + 1))) (some g)) := gb_step (gb_step (gb_step HG.out s1.2) s2.2) s3.2
      clear s1 s2 s3 HR HM HG hlen
      go_wp2
      go_roundg (gk - 1)
      case measure => omega
      case rel => exact ⟨q + 1, K + 1 + 1 + 1, _, by omega, by go_num, by go_num, (by have := HK.out; omega : K + 1 + 1 + 1 = m + 3 * ((q + 1 : Nat) : Int)), by omega, by have := HK.out; omega, HR3, HM3, HG3⟩
    · have i1 : ¬ ((q : Int) < (n : Int)) := by omega
      have hqn : q = n := by omega
      have HKn : Hid (K = m + 3 * (n : Int)) := (by rw [← hqn]; exact HK.out : K = m + 3 * (n : Int))
      have HMn : Hid (Marked m (n * 3) us) := (by rw [← hqn]; exact HM.out : Marked m (n * 3) us)
      clear hqn HK HM
      go_wp2
      go_ret
      exact ⟨(by show Ending.returned (.int .i64 K) = _; rw [HKn.out]), us, HR.out, HMn.out, HG.out⟩

set_option maxRecDepth 10000 in
set_option maxHeartbeats 2000000 in
theorem held_r (base g cap n : Nat) (m : Int) (vs : List Value) (w : World) (hn : n ≤ 1000) (hm0 : 0 ≤ m) (hm1 : m ≤ 1000000) (h : Row3 w base g cap n vs) (hv : Marked m (n * 3) vs) :
    Calls Tryz.prog 29 #[.slice (some ⟨g, 0, none⟩) n cap, .int .i64 m] w fun e w' => e = .returned (.int .i64 (m + 3 * (n : Int))) ∧ w' = w := by
  have HR : Hid (Row3 w base g cap n vs) := h
  have HM : Hid (Marked m (n * 3) vs) := hv
  clear h hv
  go_enter Tryz.func29, Tryz.ntmps29
  go_wp2
  go_loopg [1, 5] n (fun gg k i wr => ∃ (q : Nat) (K : Int), q + gg = n ∧ i = .int .i64 q ∧ k = .int .i64 K ∧ Hid (K = m + 3 * (q : Int)) ∧ 0 ≤ K ∧ K ≤ 2000000 ∧ wr = w)
  case atStart => exact ⟨0, m, by omega, rfl, rfl, (by simp : m = m + 3 * ((0 : Nat) : Int)), hm0, by omega, rfl⟩
  case round =>
    obtain ⟨q, K, hq, rfl, rfl, HK, hK0, hK1, rfl⟩ := hrel
    by_cases hlt : q < n
    · have i1 : (q : Int) < (n : Int) := by omega
      have i2 : (0 : Int) ≤ (q : Int) := by omega
      have c0 : wr.cell? ⟨g, q * 3, none⟩ = some (.int .i64 K) := by
        rw [HR.out.cellAt _ (by omega), HM.out _ (by omega), HK.out]
        congr 2; omega
      have c1 : wr.cell? ⟨g, q * 3 + 1, none⟩ = some (.int .i64 (K + 1)) := by
        rw [HR.out.cellAt _ (by omega), HM.out _ (by omega), HK.out]
        congr 2; omega
      have c2 : wr.cell? ⟨g, q * 3 + 2, none⟩ = some (.int .i64 (K + 1 + 1)) := by
        rw [HR.out.cellAt _ (by omega), HM.out _ (by omega), HK.out]
        congr 2; omega
      go_wp2
      go_roundg (gk - 1)
      case measure => omega
      case rel => exact ⟨q + 1, K + 1 + 1 + 1, by omega, by go_num, by go_num, (by have := HK.out; omega : K + 1 + 1 + 1 = m + 3 * ((q + 1 : Nat) : Int)), by omega, by have := HK.out; omega, rfl⟩
    · have i1 : ¬ ((q : Int) < (n : Int)) := by omega
      have hqn : q = n := by omega
      have HKn : Hid (K = m + 3 * (n : Int)) := (by rw [← hqn]; exact HK.out : K = m + 3 * (n : Int))
      clear hqn HK
      go_wp2
      go_ret
      exact ⟨(by show Ending.returned (.int .i64 K) = _; rw [HKn.out]), rfl⟩

theorem mark_none (w : World) (m : Int) :
    Calls Tryz.prog 28 #[.slice none 0 0, .int .i64 m] w fun e w' => e = .returned (.int .i64 m) ∧ w' = w := by
  go_enter Tryz.func28, Tryz.ntmps28
  go_wp2
  go_loopg [1, 5] 0 (fun gg k i wr => i = .int .i64 0 ∧ k = .int .i64 m ∧ wr = w)
  case atStart => exact ⟨rfl, rfl, rfl⟩
  case round =>
    obtain ⟨rfl, rfl, rfl⟩ := hrel
    go_wp2
    go_ret
    exact ⟨rfl, rfl⟩
theorem held_none (w : World) (m : Int) :
    Calls Tryz.prog 29 #[.slice none 0 0, .int .i64 m] w fun e w' => e = .returned (.int .i64 m) ∧ w' = w := by
  go_enter Tryz.func29, Tryz.ntmps29
  go_wp2
  go_loopg [1, 5] 0 (fun gg k i wr => i = .int .i64 0 ∧ k = .int .i64 m ∧ wr = w)
  case atStart => exact ⟨rfl, rfl, rfl⟩
  case round =>
    obtain ⟨rfl, rfl, rfl⟩ := hrel
    go_wp2
    go_ret
    exact ⟨rfl, rfl⟩
end Go.Proofs.YtidfjinmaiechaaGreatDoor
