/- Reading: the specification's guess; DevRead of both; the law FnExactDevRead. -/
import Derived.Test.YtkaoajihpclpiaaDoorZa
namespace Go.Proofs.YtkaoajihpclpiaaDoor
open Go.RowKit
open Go.Lib (decDigits itoa)
set_option linter.unusedVariables false

theorem nw_cmp {s : ByteArray} (h : NW s) : ∀ i : Nat, i < 4 → (s.toList == (wd i).toList) = false := by
  intro i hi
  rw [Bool.eq_false_iff]
  intro e
  have e1 := eq_of_beq e
  rw [Lib.toList_data, Lib.toList_data] at e1
  apply h i hi
  have := ba_list e1
  rw [this, Lib.mk_data]
theorem word_cmp (j : Nat) (hj : j < 4) : ∀ i : Nat, i < 4 → ((wd j).toList == (wd i).toList) = decide (i = j) := by
  intro i hi
  rcases c4 i hi with rfl | rfl | rfl | rfl <;> rcases c4 j hj with rfl | rfl | rfl | rfl <;> decide +kernel
theorem size_pos {s : ByteArray} (h : s.toList ≠ []) : 0 < s.size := by
  rw [Lib.size_eq, ← Lib.toList_data]
  cases hx : s.toList with
  | nil => exact absurd hx h
  | cons a r => simp
theorem not_empty {s : ByteArray} (h : s.toList ≠ []) : s.toList.isEmpty = false := by
  cases hx : s.toList with
  | nil => exact absurd hx h
  | cons a r => rfl
theorem no_ltr {s : ByteArray} (h0 : 0 < s.size) (hl : ltr (s[0]'h0).toNat = 0) : ∀ k : Nat, 1 ≤ k → k ≤ 10 → ((s.extract 0 1).toList == (kL k).toList) = false := by
  intro k h1 h2
  rw [cmpF s k h0 h1 h2, hl]
  simp
  omega

/-- The first point. -/
theorem first_dot (T : ByteArray) : ∃ d, d ≤ T.size ∧ (∀ j, j < d → ∀ h : j < T.size, (T[j]'h).toNat ≠ 46) ∧ (∀ h : d < T.size, (T[d]'h).toNat = 46) := by
  have key : ∀ m, m ≤ T.size → (∀ j, j < T.size - m → ∀ h : j < T.size, (T[j]'h).toNat ≠ 46) → ∃ d, d ≤ T.size ∧ (∀ j, j < d → ∀ h : j < T.size, (T[j]'h).toNat ≠ 46) ∧ (∀ h : d < T.size, (T[d]'h).toNat = 46) := by
    intro m
    induction m with
    | zero => intro _ h; exact ⟨T.size, Nat.le_refl _, fun j hj => h j (by omega), fun h => absurd h (Nat.lt_irrefl _)⟩
    | succ m ih =>
      intro hm h
      have hlt : T.size - (m + 1) < T.size := by omega
      by_cases e : (T[T.size - (m + 1)]'hlt).toNat = 46
      · exact ⟨T.size - (m + 1), by omega, h, fun _ => e⟩
      · refine ih (by omega) ?_
        intro j hj hh
        by_cases ej : j = T.size - (m + 1)
        · subst ej; exact e
        · exact h j (by omega) hh
  exact key T.size (Nat.le_refl _) (fun j hj => by omega)

theorem ext_tail (b : UInt8) (r : List UInt8) : (tx (b :: r)).extract 1 (tx (b :: r)).size = tx r := by
  rw [extract_tx, tx_size]
  simp

theorem byte45 (b : UInt8) (h : b.toNat = 45) : (((b.toNat : Nat) : Int) == 45) = true := by rw [h]; rfl
theorem byteN45 (b : UInt8) (h : b.toNat ≠ 45) : (((b.toNat : Nat) : Int) == 45) = false := by rw [beq_eq_false_iff_ne]; omega

/-- The specification's guess at a text that opens with no letter. -/
theorem sguess_num {s : ByteArray} (G : Int × Int × Int) (hs : s.size ≤ 1048576) (hne : s.toList ≠ []) (hw : NW s) (hl : ltr (s[0]'(size_pos hne)).toNat = 0) (h45 : (s[0]'(size_pos hne)).toNat ≠ 45) (d : Nat) (hd0 : d ≤ s.size)
    (hno : ∀ j, j < d → ∀ h : j < s.size, (s[j]'h).toNat ≠ 46) (hat : ∀ h : d < s.size, (s[d]'h).toNat = 46) (hG : G = numG 1 s d) (w : World) :
    Calls Tryd.prog 45 #[.string s] w fun e w' => e = .returned (.agg #[.int .i64 G.1, .int .i64 G.2.1, .int .i64 G.2.2]) ∧ Below w.heap.size w w' :=
  sguess_pos s G d w hs (size_pos hne) (nw_cmp hw) (no_ltr (size_pos hne) hl) (not_empty hne) (byteN45 _ h45) hs hd0 hno hat hG
theorem sguess_min {s : ByteArray} (T : ByteArray) (G : Int × Int × Int) (hs : s.size ≤ 1048576) (hne : s.toList ≠ []) (hw : NW s) (h45 : (s[0]'(size_pos hne)).toNat = 45) (hT : s.extract 1 s.size = T) (hTs : T.size ≤ 1048576) (d : Nat) (hd0 : d ≤ T.size)
    (hno : ∀ j, j < d → ∀ h : j < T.size, (T[j]'h).toNat ≠ 46) (hat : ∀ h : d < T.size, (T[d]'h).toNat = 46) (hG : G = numG (-1) T d) (w : World) :
    Calls Tryd.prog 45 #[.string s] w fun e w' => e = .returned (.agg #[.int .i64 G.1, .int .i64 G.2.1, .int .i64 G.2.2]) ∧ Below w.heap.size w w' :=
  sguess_neg s T G d w hs (size_pos hne) (nw_cmp hw) (no_ltr (size_pos hne) (by rw [h45]; rfl)) (not_empty hne) hT (byte45 _ h45) hTs hd0 hno hat hG

theorem spec_guess_some (s : ByteArray) (hs : s.size ≤ 1048576) : ∃ G : Int × Int × Int, ∀ w, Calls Tryd.prog 45 #[.string s] w fun e w' => e = .returned (.agg #[.int .i64 G.1, .int .i64 G.2.1, .int .i64 G.2.2]) ∧ Below w.heap.size w w' := by
  by_cases h : NW s
  · by_cases hne : s.toList = []
    · obtain rfl : s = ⟨#[]⟩ := by rw [Lib.toList_data] at hne; have := ba_list hne; rw [this]
      exact ⟨(11, -1, 0), fun w => sguess_empty w⟩
    · by_cases hl : ltr (s[0]'(size_pos hne)).toNat = 0
      · by_cases h45 : (s[0]'(size_pos hne)).toNat = 45
        · obtain ⟨d, hd0, hno, hat⟩ := first_dot (s.extract 1 s.size)
          exact ⟨numG (-1) (s.extract 1 s.size) d, fun w => sguess_min (s.extract 1 s.size) _ hs hne h h45 rfl (by simp; omega) d hd0 hno hat rfl w⟩
        · obtain ⟨d, hd0, hno, hat⟩ := first_dot s
          exact ⟨numG 1 s d, fun w => sguess_num _ hs hne h hl h45 d hd0 hno hat rfl w⟩
      · exact ⟨(_, _, 0), fun w => sguess_ltr s w hs (size_pos hne) hl (nw_cmp h)⟩
  · obtain ⟨i, hi, e⟩ : ∃ i : Nat, i < 4 ∧ s = wd i := Classical.byContradiction fun hn => h fun i hi e => hn ⟨i, hi, e⟩
    subst e
    exact ⟨(13, i, 0), fun w => sguess_word _ i hi w (word_cmp i hi)⟩

theorem no_dots (l : List UInt8) (h : ∀ b ∈ l, isD b) : ∀ j, j < l.length → ∀ hh : j < (tx l).size, ((tx l)[j]'hh).toNat ≠ 46 := by
  intro j hj hh
  rw [tx_get l j hh hj]
  exact (isD_ne (h _ (List.getElem_mem hj))).2.2.2.1
theorem numG_int (sg : Int) (u : Nat) (hu : u ≤ 999999999) : numG sg (tx (decDigits u)) (decDigits u).length = (11, sg * u, 0) := by
  have h1 := dec_len9 u hu
  have h2 := (dec_len u (by omega)).1
  unfold numG
  rw [tx_size, if_neg (Nat.lt_irrefl _), tx_data, digS_val _ (dec_isD u) h2 (by omega), dec_val]
theorem cut_dot (u p : Nat) : ∃ d, d < (cutp u p).length ∧ (∀ j, j < d → ∀ hh : j < (tx (cutp u p)).size, ((tx (cutp u p))[j]'hh).toNat ≠ 46) ∧ (∀ hh : d < (tx (cutp u p)).size, ((tx (cutp u p))[d]'hh).toNat = 46) ∧
    (cutp u p).take d ++ (cutp u p).drop (d + 1) = pad u p ∧ (cutp u p).length = d + 1 + p := by
  obtain ⟨A, B, h1, h2, h3, h4⟩ := cutp_parts u p
  have hd := pad_isD u p
  rw [← h2] at hd
  rw [h1]
  refine ⟨A.length, by simp, ?_, ?_, ?_, ?_⟩
  · intro j hj hh
    have hj' : j < (A ++ 46 :: B).length := by simp; omega
    rw [tx_get _ j hh hj', List.getElem_append_left hj]
    exact (isD_ne (hd _ (by simp))).2.2.2.1
  · intro hh
    have hj' : A.length < (A ++ 46 :: B).length := by simp
    rw [tx_get _ A.length hh hj', List.getElem_append_right (Nat.le_refl _)]
    simp
  · rw [← h2]
    simp
  · simp
    omega
theorem numG_cut (sg : Int) (u p d : Nat) (hu : u ≤ 999999999) (hp : p ≤ 6) (h1 : d < (cutp u p).length) (h2 : (cutp u p).take d ++ (cutp u p).drop (d + 1) = pad u p) (h3 : (cutp u p).length = d + 1 + p) :
    numG sg (tx (cutp u p)) d = (12, sg * u, (p : Int)) := by
  have h4 := pad_len9 u p hu hp
  have h5 := pad_len u p
  unfold numG
  rw [tx_size, if_pos h1, tx_data, h2, digS_val _ (pad_isD u p) (by omega) (by omega), pad_val, h3]
  congr 2
  omega

theorem spec_guess_ok {k n p : Int} {s : ByteArray} (h : Shape k n p s) (w : World) :
    Calls Tryd.prog 45 #[.string s] w fun e w' => e = .returned (.agg #[.int .i64 k, .int .i64 n, .int .i64 p]) ∧ Below w.heap.size w w' := by
  have hsz := h.size
  have hne := h.ne
  have hnw := fun hk => h.nw hk
  cases h with
  | word i h => exact sguess_word _ i h w (word_cmp i h)
  | dev k u h1 h2 h3 =>
    have hl := lc_ltr k h1 h2
    have hg := sguess_ltr (tx (lc k :: decDigits u)) w hsz (size_pos hne) (by show ltr (lc k).toNat ≠ 0; rw [hl.1]; omega) (nw_cmp (hnw (by omega)))
    have e0 : ltr ((tx (lc k :: decDigits u))[0]'(size_pos hne)).toNat = k := hl.1
    have e1 : (tx (lc k :: decDigits u)).data.toList.drop 1 = decDigits u := by rw [tx_data]; rfl
    have e2 : digS (decDigits u) = u := by
      have := dec_len9 u h3
      rw [digS_val _ (dec_isD u) (dec_len u (by omega)).1 (by omega), dec_val]
    rw [e1, e2] at hg
    rw [e0] at hg
    exact hg
  | pos u h =>
    obtain ⟨b, r, e, hb⟩ := dec_cons u
    have hi := isD_ne hb
    have hb0 : ((tx (decDigits u))[0]'(size_pos hne)) = b := by
      have : ∀ (l : List UInt8) (hl : l = b :: r) (hh : 0 < (tx l).size), (tx l)[0]'hh = b := by intro l hl hh; subst hl; rfl
      exact this _ e _
    have hg := sguess_num (11, (u : Int), 0) hsz hne (hnw (by decide)) (by rw [hb0]; exact hi.2.2.2.2) (by rw [hb0]; exact hi.2.2.1) (decDigits u).length (by rw [tx_size]; exact Nat.le_refl _) (no_dots _ (dec_isD u)) (fun hh => absurd hh (by rw [tx_size]; exact Nat.lt_irrefl _)) (by rw [numG_int 1 u h]; simp) w
    exact hg
  | neg u h0 h =>
    have hg := sguess_min (tx (decDigits u)) (11, -(u : Int), 0) hsz hne (hnw (by decide)) rfl (ext_tail 45 (decDigits u)) (by have := dec_len9 u h; rw [tx_size]; omega) (decDigits u).length (by rw [tx_size]; exact Nat.le_refl _) (no_dots _ (dec_isD u)) (fun hh => absurd hh (by rw [tx_size]; exact Nat.lt_irrefl _)) (by rw [numG_int (-1) u h]; simp) w
    exact hg
  | dpos u p h hp =>
    obtain ⟨b, r, e, hb⟩ := cut_cons u p
    have hi := isD_ne hb
    have hb0 : ((tx (cutp u p))[0]'(size_pos hne)) = b := by
      have : ∀ (l : List UInt8) (hl : l = b :: r) (hh : 0 < (tx l).size), (tx l)[0]'hh = b := by intro l hl hh; subst hl; rfl
      exact this _ e _
    obtain ⟨d, d1, d2, d3, d4, d5⟩ := cut_dot u p
    have hg := sguess_num (12, (u : Int), (p : Int)) hsz hne (hnw (by decide)) (by rw [hb0]; exact hi.2.2.2.2) (by rw [hb0]; exact hi.2.2.1) d (by rw [tx_size]; omega) d2 d3 (by rw [numG_cut 1 u p d h hp d1 d4 d5]; simp) w
    exact hg
  | dneg u p h0 h hp =>
    obtain ⟨d, d1, d2, d3, d4, d5⟩ := cut_dot u p
    have hg := sguess_min (tx (cutp u p)) (12, -(u : Int), (p : Int)) hsz hne (hnw (by decide)) rfl (ext_tail 45 (cutp u p)) (by have := cutp_len u p (by omega) hp; rw [tx_size]; omega) d (by rw [tx_size]; omega) d2 d3 (by rw [numG_cut (-1) u p d h hp d1 d4 d5]; simp) w
    exact hg

theorem cmp_self (s : ByteArray) : (s.toList == s.toList) = true := beq_self_eq_true _
theorem cmp_ne {a b : ByteArray} (h : a ≠ b) : (a.toList == b.toList) = false := by
  rw [Bool.eq_false_iff]
  intro e
  have e1 := eq_of_beq e
  rw [Lib.toList_data, Lib.toList_data] at e1
  have := ba_list e1
  exact h (by rw [this, Lib.mk_data])

/-- Nobody's text. -/
def NT (s : ByteArray) : Prop := ∀ k n p : Int, okA k n p = true → txt k n p ≠ s
theorem nt_ne {s : ByteArray} (h : NT s) (hne : s.toList ≠ []) (k n p : Int) : ((txt k n p).toList == s.toList) = false := by
  apply cmp_ne
  by_cases ho : okA k n p = true
  · exact h k n p ho
  · intro e
    apply hne
    rw [← e]
    unfold txt
    rw [if_neg ho, Lib.toList_data]

theorem impl_dev_yes {k n p : Int} (ho : okA k n p = true) (w : World) (hT : Tabs w) :
    Calls Tryd.prog 17 #[.string (txt k n p)] w fun e w' => e = .returned (.tuple #[.agg #[.int .i64 k, .int .i64 n, .int .i64 p], .bool true]) ∧ Below w.heap.size w w' :=
  impl_read_yes _ k n p w hT (shape_of ho).ne (fun W hW => impl_guess_ok (shape_of ho) W hW) (cmp_self _)
theorem impl_dev_no {s : ByteArray} (h : NT s) (hs : s.size ≤ 1048576) (w : World) (hT : Tabs w) :
    Calls Tryd.prog 17 #[.string s] w fun e w' => e = .returned (.tuple #[.agg #[.int .i64 0, .int .i64 0, .int .i64 0], .bool false]) ∧ Below w.heap.size w w' := by
  obtain ⟨G, hG⟩ := impl_guess_some s hs
  by_cases hne : s.toList = []
  · exact impl_read_empty s G.1 G.2.1 G.2.2 w hT (by rw [hne]; rfl) hG
  · exact impl_read_no s G.1 G.2.1 G.2.2 w hT hne hG (nt_ne h hne _ _ _)
theorem spec_dev_yes {k n p : Int} (ho : okA k n p = true) (w : World) :
    Calls Tryd.prog 19 #[.string (txt k n p)] w fun e w' => e = .returned (.tuple #[.agg #[.int .i64 k, .int .i64 n, .int .i64 p], .bool true]) ∧ Below w.heap.size w w' :=
  spec_read_yes _ k n p w (shape_of ho).ne (fun W => spec_guess_ok (shape_of ho) W) (cmp_self _)
theorem spec_dev_no {s : ByteArray} (h : NT s) (hs : s.size ≤ 1048576) (w : World) :
    Calls Tryd.prog 19 #[.string s] w fun e w' => e = .returned (.tuple #[.agg #[.int .i64 0, .int .i64 0, .int .i64 0], .bool false]) ∧ Below w.heap.size w w' := by
  obtain ⟨G, hG⟩ := spec_guess_some s hs
  by_cases hne : s.toList = []
  · exact spec_read_empty s G.1 G.2.1 G.2.2 w (by rw [hne]; rfl) hG
  · exact spec_read_no s G.1 G.2.1 G.2.2 w hne hG (nt_ne h hne _ _ _)

set_option maxHeartbeats 1000000 in
theorem eq_args (K N P : Int) (w : World) :
    Calls Tryd.prog 33 #[.agg #[.int .i64 K, .int .i64 N, .int .i64 P], .agg #[.int .i64 K, .int .i64 N, .int .i64 P]] w fun e w' => e = .returned (.bool true) ∧ Below w.heap.size w w' := by
  go_enter Tryd.func33, Tryd.ntmps33
  go_wp2
  go_ret
  exact ⟨rfl, by go_grown⟩

set_option maxHeartbeats 2000000 in
theorem law12 (s : ByteArray) (K N P : Int) (B : Bool) (w : World) (hT : Tabs w) (hs : s.size ≤ 1048576)
    (Hs : Hid (∀ W : World, Calls Tryd.prog 19 #[.string s] W fun e w' => e = .returned (.tuple #[.agg #[.int .i64 K, .int .i64 N, .int .i64 P], .bool B]) ∧ Below W.heap.size W w'))
    (Hi : Hid (∀ W : World, Tabs W → Calls Tryd.prog 17 #[.string s] W fun e w' => e = .returned (.tuple #[.agg #[.int .i64 K, .int .i64 N, .int .i64 P], .bool B]) ∧ Below W.heap.size W w')) :
    Calls Tryd.prog 12 #[.string s] w fun e w' => e = .returned (.bool true) ∧ Below w.heap.size w w' := by
  have i1 : ¬ (1048576 < (s.size : Int)) := by omega
  go_enter Tryd.func12, Tryd.ntmps12
  go_wp2_with fail
  refine (Hs.out _).mono ?_
  rintro e w1 ⟨rfl, b1⟩
  have c1 := b1.alloc b1.size (.cells #[.int .i64 K, .int .i64 N, .int .i64 P] 24)
  have a1 : A3 (w1.alloc (.cells #[.int .i64 K, .int .i64 N, .int .i64 P] 24)) w1.heap.size K N P := A3.fresh w1 K N P 24
  clear b1 Hs
  go_wp2_with fail
  refine (Hi.out _ (hT.later c1)).mono ?_
  rintro e w2 ⟨rfl, g2⟩
  have c2 := c1.trans (g2.mono c1.size)
  have a2 := a1.later g2
  have c3 := c2.alloc c2.size (.cells #[.int .i64 K, .int .i64 N, .int .i64 P] 24)
  have a3 := a2.alloc (.cells #[.int .i64 K, .int .i64 N, .int .i64 P] 24)
  have d3 : A3 (w2.alloc (.cells #[.int .i64 K, .int .i64 N, .int .i64 P] 24)) w2.heap.size K N P := A3.fresh w2 K N P 24
  clear g2 c1 a1 c2 a2 Hi
  obtain ⟨x0, x1, x2, _, _, _⟩ := a3
  obtain ⟨y0, y1, y2, _, _, _⟩ := d3
  go_wp2_with fail
  refine (eq_args K N P _).mono ?_
  rintro e w3 ⟨rfl, g3⟩
  have c4 := c3.trans (g3.mono c3.size)
  clear g3 c3
  go_wp2
  go_ret
  exact ⟨rfl, c4⟩

theorem walk12 (s : ByteArray) (w : World) (hs0 : s.size ≤ maxLen) (h1 : KT w) (h2 : PT w) (h3 : WT w) :
    Calls Tryd.prog 12 #[.string s] w fun e w' => e = .returned (.bool true) ∧ Below w.heap.size w w' := by
  by_cases hs : s.size ≤ 1048576
  · by_cases h : NT s
    · exact law12 s 0 0 0 false w ⟨h1, h2, h3⟩ hs (fun W => spec_dev_no h hs W) (fun W hW => impl_dev_no h hs W hW)
    · obtain ⟨k, n, p, ho, rfl⟩ : ∃ k n p : Int, okA k n p = true ∧ txt k n p = s := Classical.byContradiction fun hn => h fun k n p ho e => hn ⟨k, n, p, ho, e⟩
      exact law12 _ k n p true w ⟨h1, h2, h3⟩ hs (fun W => spec_dev_yes ho W) (fun W hW => impl_dev_yes ho W hW)
  · unfold maxLen at hs0
    have i1 : 1048576 < (s.size : Int) := by omega
    go_enter Tryd.func12, Tryd.ntmps12
    go_wp2
    go_ret
    exact ⟨rfl, Below.refl _ _⟩
end Go.Proofs.YtkaoajihpclpiaaDoor
