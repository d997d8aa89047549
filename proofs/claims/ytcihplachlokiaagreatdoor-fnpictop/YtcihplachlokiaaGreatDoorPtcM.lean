/- For the law FnPicTop: what is made and read, in short. -/
import Derived.Test.YtcihplachlokiaaGreatDoorPtb
import Derived.Test.YtcihplachlokiaaGreatDoorQsiM
import Derived.Test.YtcihplachlokiaaGreatDoorQkm
import Derived.Test.YtcihplachlokiaaGreatDoorZc
import Derived.Test.YtcihplachlokiaaGreatDoorOna
import Derived.Laws.IdiomStrings
import Derived.Lib.BufferRead
namespace Go.Proofs.YtcihplachlokiaaGreatDoor
open Go.RowKit Go.Shelf
set_option linter.unusedVariables false
set_option linter.unusedSimpArgs false

theorem instsM_pos2 : ∀ (n : Nat) {k : Int} {r : List Nat} {e : Int × Int}, instsM n k r = .inl e → 0 < e.1
  | 0, k, r, e, h => by unfold instsM at h; cases h
  | n + 1, k, r, e, h => by
    unfold instsM at h
    cases h1 : instM r with
    | inl c => rw [h1] at h; cases h; exact instM_pos h1
    | inr q =>
      obtain ⟨x, r1⟩ := q
      rw [h1] at h
      simp only [] at h
      cases h2 : instsM n (k + 1) r1 with
      | inl c => rw [h2] at h; cases h; exact instsM_pos2 n h2
      | inr q2 => obtain ⟨ys, r2⟩ := q2; rw [h2] at h; cases h
theorem readM_two (f : Nat → Nat) (n : Nat) : (0 < (rfT (readM f n)).1 ∧ rlT (readM f n) = []) ∨ ∃ xs, readM f n = .inr xs := by
  have hp := env_cases f n
  have key : ∀ e, readM f n = .inl e → 0 < e.1 := fun e he => by
    unfold readM at he
    by_cases hE : envW f n ≠ 0
    · rw [if_pos hE] at he; cases he; show 0 < envW f n; omega
    · rw [if_neg hE] at he
      unfold listM at he
      split at he
      · cases he; show (0 : Int) < 1; omega
      · cases hi : instsM (f 4 * 256 + f 5) 0 ((List.range (n - 8)).map fun j => f (6 + j)) with
        | inl c => rw [hi] at he; cases he; exact instsM_pos2 _ hi
        | inr q =>
          obtain ⟨ys, r'⟩ := q
          rw [hi] at he
          simp only [] at he
          split at he
          · cases he
          · cases he; show (0 : Int) < 7; omega
  cases hm : readM f n with
  | inl e => exact .inl ⟨key e hm, rfl⟩
  | inr xs => exact .inr ⟨xs, rfl⟩
theorem fw_lt : ∀ (xs : List InstT) (j : Nat), (fwA xs j).1 ≠ 0 → (fwA xs j).2 < j + xs.length
  | [], j, h => absurd rfl h
  | y :: ys, j, h => by
    unfold fwA at h ⊢
    by_cases hy : wrT y = 0
    · rw [if_pos hy] at h ⊢
      have := fw_lt ys (j + 1) h
      rw [List.length_cons]
      omega
    · rw [if_neg hy, List.length_cons]
      show j < _
      omega
theorem pf_lt {xs : List InstT} (h : (pfT xs).1 ≠ 0) : (pfT xs).2 < xs.length := by
  unfold pfT at h ⊢
  by_cases hb : 1000 < xs.length
  · rw [if_pos hb]; show 0 < _; omega
  · rw [if_neg hb] at h ⊢
    have := fw_lt xs 0 h
    omega
theorem is_later {w w' : World} {v : Value} {xs : List InstT} (h : InstsIs w 0 v xs) (g : Below w.heap.size w w') : InstsIs w' 0 v xs := instsIs_move (Keeps.of_below g 0) (Nat.le_refl _) h
/-- What is made, in short. -/
theorem mk_u {xs : List InstT} {W : World} {e : Ending} {w' : World} {P : Int} {Q m : Nat} {L : List Nat} (hP : P = (pfT xs).1) (hQ : Q = (pfT xs).2) (hL : L = if P = 0 then imgL xs else []) (hm : m = L.length) (h : MkR xs W e w') :
    ∃ (a : Option Addr) (c : Nat), e = .returned (.tuple #[.slice a m c, .agg #[.int .i64 P, .int .i64 (Q : Nat)]]) ∧ m ≤ c ∧ Bt w' a m (atL L) ∧ Below W.heap.size W w' := by
  obtain ⟨v, he, ho, hb⟩ := h
  subst hP hQ
  rw [← hL] at ho
  obtain ⟨a, c, rfl, hO⟩ := owL_ob ho
  have hc := owL_cap ho
  subst hm
  exact ⟨a, c, he, hc, hO.bt, hb⟩
/-- What is read, in short. -/
theorem rd_u {f : Nat → Nat} {n : Nat} {W : World} {e : Ending} {w' : World} {F1 F2 : Int} {k : Nat} {ys : List InstT} (h1 : F1 = (rfT (readM f n)).1) (h2 : F2 = (rfT (readM f n)).2) (hy : ys = rlT (readM f n)) (hk : k = ys.length) (h : ReadR (readM f n) W e w') :
    ∃ (a : Option Addr) (c : Nat), e = .returned (.tuple #[.slice a k c, .agg #[.int .i64 F1, .int .i64 F2]]) ∧ InstsIs w' 0 (.slice a k c) ys ∧ Below W.heap.size W w' := by
  obtain ⟨v, F, he, hI, hF, hB⟩ := h
  rw [← hy] at hI
  have hi := hI.is (Nat.zero_le _)
  obtain ⟨a, c, rfl, _, _⟩ := slI_of hi
  subst h1 h2 hk
  exact ⟨a, c, he, hi, hB⟩
/-- Bytes as a text. -/
def rwT (f : Nat → Nat) (n : Nat) : List UInt8 := (List.range n).map fun j => UInt8.ofNat (f j)
theorem rwT_len (f : Nat → Nat) (n : Nat) : (rwT f n).length = n := by simp [rwT]
/-- Bytes are converted to a text. -/
theorem cnv_bt {w : World} {a : Option Addr} {n c : Nat} {f : Nat → Nat} (hf : ∀ j, f j < 256) (h : Bt w a n f) :
    (convert 22 9 (.slice a n c)).run Tryz.prog w = .ok (.string ⟨(rwT f n).toArray⟩) w := by
  have key : ∀ g : Addr, (∀ j, j < n → w.cell? (g.add j) = some (.int .u8 (f j))) → (convert 22 9 (.slice (some g) n c)).run Tryz.prog w = .ok (.string ⟨(rwT f n).toArray⟩) w := fun g hg => by
    have := run_convert_bytes_back (P := Tryz.prog) w 22 9 5 g c (rwT f n) Tryz.underlying22 Tryz.underlying5 Tryz.underlying9 (fun j hj => by
      have hj' : j < n := by rwa [rwT_len] at hj
      rw [hg j hj']
      have h1 := hf j
      simp [rwT]
      omega)
    rwa [rwT_len] at this
  rcases h with rfl | ⟨g, o, rfl, _, h3⟩
  · cases a with
    | none => exact Lib.run_convert_nil_bytes w 22 9 5 c Tryz.underlying22 Tryz.underlying5 Tryz.underlying9
    | some g => exact key g fun j hj => absurd hj (by omega)
  · exact key ⟨g, o, none⟩ fun j hj => by
      by_cases e : j = 0
      · subst e; simpa [Addr.add] using h3 0 hj
      · simpa [Addr.add, e] using h3 j hj
/-- What the draws leave. -/
def PmR (w : World) (e : Ending) (w' : World) : Prop :=
  ∃ (a : Option Addr) (n c : Nat) (xs : List InstT), e = .returned (.slice a n c) ∧ Hid (n = xs.length) ∧ n ≤ 8100 ∧ InstsIs w' 0 (.slice a n c) xs ∧ Below w.heap.size w w'
def PrR (w : World) (e : Ending) (w' : World) : Prop :=
  ∃ (a : Option Addr) (n c : Nat) (l : List Nat), e = .returned (.slice a n c) ∧ n ≤ 20108 ∧ n ≤ c ∧ Hid (n = l.length) ∧ Bt w' a n (atL l) ∧ (∀ b ∈ l, b < 256) ∧ Below w.heap.size w w'
theorem sl_of {w : World} {a : Option Addr} {n c : Nat} {xs : List InstT} (h : InstsIs w 0 (.slice a n c) xs) : SlI w a xs := by
  obtain ⟨a', c', e, _, hs⟩ := slI_of h
  simp only [Value.slice.injEq] at e
  obtain ⟨rfl, _, _⟩ := e
  exact hs
end Go.Proofs.YtcihplachlokiaaGreatDoor
/- The law FnPicTop, of what is drawn. -/
namespace Go.Proofs.YtcihplachlokiaaGreatDoor
open Go.RowKit Go.Shelf
set_option linter.unusedVariables false
set_option linter.unusedSimpArgs false

set_option maxRecDepth 10000 in
set_option maxHeartbeats 8000000 in
theorem law_pictop {a1 a2 : Option Addr} {len1 cap1 len2 cap2 : Nat} (w : World) (hl1 : len1 ≤ 1048576) (hl2 : len2 ≤ 1048576)
    (HD : Hid (Calls Tryz.prog 4 #[.slice a1 len1 cap1] w fun e w' => PmR w e w'))
    (HD2 : Hid (∀ W, Below w.heap.size w W → Calls Tryz.prog 9 #[.slice a2 len2 cap2] W fun e w' => PrR W e w')) :
    Calls Tryz.prog 3 #[.slice a1 len1 cap1, .slice a2 len2 cap2] w fun e w' => e = .returned (.bool true) ∧ Below w.heap.size w w' := by
  have i1 : ¬ (1048576 : Int) < (len1 : Int) := by omega
  have i2 : ¬ (1048576 : Int) < (len2 : Int) := by omega
  have HRd : Hid (∀ W (a : Option Addr) (n c : Nat) (f : Nat → Nat) (F1 F2 : Int) (k : Nat) (ys : List InstT), F1 = (rfT (readM f n)).1 → F2 = (rfT (readM f n)).2 → ys = rlT (readM f n) → k = ys.length → (∀ j, f j < 256) → n ≤ 1048576 → n ≤ c → Bt W a n f → Calls Tryz.prog 7 #[.slice a n c] W fun e w' => ∃ (a : Option Addr) (c : Nat), e = .returned (.tuple #[.slice a k c, .agg #[.int .i64 F1, .int .i64 F2]]) ∧ InstsIs w' 0 (.slice a k c) ys ∧ Below W.heap.size W w') :=
    fun W a n c f F1 F2 k ys h1 h2 h3 h4 hf hn hc hb => (read_all a n c f hf W hn hc hb).mono fun e w' h => rd_u h1 h2 h3 h4 h
  have HSd : Hid (∀ W (a : Option Addr) (n c : Nat) (f : Nat → Nat) (F1 F2 : Int) (k : Nat) (ys : List InstT), F1 = (rfT (readM f n)).1 → F2 = (rfT (readM f n)).2 → ys = rlT (readM f n) → k = ys.length → (∀ j, f j < 256) → n ≤ 1048576 → n ≤ c → Bt W a n f → Calls Tryz.prog 10 #[.slice a n c] W fun e w' => ∃ (a : Option Addr) (c : Nat), e = .returned (.tuple #[.slice a k c, .agg #[.int .i64 F1, .int .i64 F2]]) ∧ InstsIs w' 0 (.slice a k c) ys ∧ Below W.heap.size W w') :=
    fun W a n c f F1 F2 k ys h1 h2 h3 h4 hf hn hc hb => (sread_all a n c f hf W hn hc hb).mono fun e w' h => rd_u h1 h2 h3 h4 h
  have HMk : Hid (∀ W (a : Option Addr) (n c : Nat) (xs : List InstT) (P : Int) (Q m : Nat) (L : List Nat), P = (pfT xs).1 → Q = (pfT xs).2 → (L = if P = 0 then imgL xs else []) → m = L.length → n = xs.length → n ≤ 1048576 → InstsIs W 0 (.slice a n c) xs → Calls Tryz.prog 5 #[.slice a n c] W fun e w' => ∃ (a : Option Addr) (c : Nat), e = .returned (.tuple #[.slice a m c, .agg #[.int .i64 P, .int .i64 (Q : Nat)]]) ∧ m ≤ c ∧ Bt w' a m (atL L) ∧ Below W.heap.size W w') :=
    fun W a n c xs P Q m L h1 h2 h3 h4 hn hm hx => (mk_i a c n xs W hn hm (sl_of hx)).mono fun e w' h => mk_u h1 h2 h3 h4 h
  have HMs : Hid (∀ W (a : Option Addr) (n c : Nat) (xs : List InstT) (P : Int) (Q m : Nat) (L : List Nat), P = (pfT xs).1 → Q = (pfT xs).2 → (L = if P = 0 then imgL xs else []) → m = L.length → n = xs.length → n ≤ 1048576 → InstsIs W 0 (.slice a n c) xs → Calls Tryz.prog 6 #[.slice a n c] W fun e w' => ∃ (a : Option Addr) (c : Nat), e = .returned (.tuple #[.slice a m c, .agg #[.int .i64 P, .int .i64 (Q : Nat)]]) ∧ m ≤ c ∧ Bt w' a m (atL L) ∧ Below W.heap.size W w') :=
    fun W a n c xs P Q m L h1 h2 h3 h4 hn hm hx => (mk_s a c n xs W hn hm (sl_of hx)).mono fun e w' h => mk_u h1 h2 h3 h4 h
  go_enter Tryz.func3, Tryz.ntmps3
  go_wp2_with fail
  refine HD.out.mono ?_
  rintro e w1 ⟨a, n, c, xs, rfl, hn, hn2, hx, b1⟩
  obtain ⟨P, HP⟩ : ∃ P, Hid (P = (pfT xs).1) := ⟨_, rfl⟩
  obtain ⟨Q, HQ⟩ : ∃ Q, Hid (Q = (pfT xs).2) := ⟨_, rfl⟩
  obtain ⟨L, HL⟩ : ∃ L, Hid (L = if P = 0 then imgL xs else []) := ⟨_, rfl⟩
  obtain ⟨m, Hm⟩ : ∃ m, Hid (m = L.length) := ⟨_, rfl⟩
  have HX1 : Hid (InstsIs w1 0 (.slice a n c) xs) := hx
  have HB1 : Hid (Below w.heap.size w w1) := b1
  have HM1 : Hid (∀ W, Below w1.heap.size w1 W → Calls Tryz.prog 5 #[.slice a n c] W fun e w' => ∃ (a : Option Addr) (c : Nat), e = .returned (.tuple #[.slice a m c, .agg #[.int .i64 P, .int .i64 (Q : Nat)]]) ∧ m ≤ c ∧ Bt w' a m (atL L) ∧ Below W.heap.size W w') := fun W b => HMk.out W a n c xs P Q m L HP.out HQ.out HL.out Hm.out hn.out (by omega) (is_later hx b)
  have HM2 : Hid (∀ W, Below w1.heap.size w1 W → Calls Tryz.prog 6 #[.slice a n c] W fun e w' => ∃ (a : Option Addr) (c : Nat), e = .returned (.tuple #[.slice a m c, .agg #[.int .i64 P, .int .i64 (Q : Nat)]]) ∧ m ≤ c ∧ Bt w' a m (atL L) ∧ Below W.heap.size W w') := fun W b => HMs.out W a n c xs P Q m L HP.out HQ.out HL.out Hm.out hn.out (by omega) (is_later hx b)
  clear HD hx b1 HMs
  go_wp2_with fail
  refine (HM1.out w1 (Below.refl _ _)).mono ?_
  rintro e w2 ⟨a4, c4, rfl, hc4, ho4, g2⟩
  have gA : Below w2.heap.size w2 (w2.alloc (.cells #[.int .i64 P, .int .i64 (Q : Nat)] 26)) := (Below.refl _ _).alloc (Nat.le_refl _) _
  have B3 : Hid (Below w1.heap.size w1 (w2.alloc (.cells #[.int .i64 P, .int .i64 (Q : Nat)] 26))) := g2.trans (gA.mono g2.size)
  have O3 : Hid (Bt (w2.alloc (.cells #[.int .i64 P, .int .i64 (Q : Nat)] 26)) a4 m (atL L)) := ho4.later gA (Nat.le_refl _)
  have k7 := heap_alloc_last w2 (.cells #[.int .i64 P, .int .i64 (Q : Nat)] 26)
  obtain ⟨B7, hB7⟩ : ∃ B, w2.heap.size = B := ⟨_, rfl⟩
  rw [hB7] at k7
  clear g2 gA ho4 HM1
  go_upto_region 5 with fail
  generalize (w2.alloc (.cells #[.int .i64 P, .int .i64 (Q : Nat)] 26)) = w3 at B3 O3 k7 ⊢
  have K7 : Hid (w3.heap[B7]? = some (.cells #[.int .i64 P, .int .i64 (Q : Nat)] 26 (0, 0))) := k7
  clear hB7 k7
  go_wp2_with fail
  refine (HM2.out w3 B3.out).mono ?_
  rintro e w4 ⟨a5, c5, rfl, _, _, g4⟩
  have gA : Below w4.heap.size w4 (w4.alloc (.cells #[.int .i64 P, .int .i64 (Q : Nat)] 26)) := (Below.refl _ _).alloc (Nat.le_refl _) _
  have gB := g4.trans (gA.mono g4.size)
  have B5 : Hid (Below w1.heap.size w1 (w4.alloc (.cells #[.int .i64 P, .int .i64 (Q : Nat)] 26))) := B3.out.trans (gB.mono B3.out.size)
  have O5 : Hid (Bt (w4.alloc (.cells #[.int .i64 P, .int .i64 (Q : Nat)] 26)) a4 m (atL L)) := O3.out.later gB (Nat.le_refl _)
  have k9 := heap_alloc_last w4 (.cells #[.int .i64 P, .int .i64 (Q : Nat)] 26)
  have k7 : (w4.alloc (.cells #[.int .i64 P, .int .i64 (Q : Nat)] 26)).heap[B7]? = some (.cells #[.int .i64 P, .int .i64 (Q : Nat)] 26 (0, 0)) := (gB.block _ (Array.getElem?_eq_some_iff.1 K7.out).1).trans K7.out
  obtain ⟨B9, hB9⟩ : ∃ B, w4.heap.size = B := ⟨_, rfl⟩
  rw [hB9] at k9
  clear g4 gA gB B3 O3 K7 HM2
  go_upto_region 6 with fail
  generalize (w4.alloc (.cells #[.int .i64 P, .int .i64 (Q : Nat)] 26)) = w5 at B5 O5 k9 k7 ⊢
  clear hB9
  have L7 := load_all k7 _ _ Tryz.underlying26 rfl infoPF
  have L9 := load_all k9 _ _ Tryz.underlying26 rfl infoPF
  obtain ⟨p0, p1, q0, q1⟩ := box2 k7
  obtain ⟨r0, r1, s0, s1⟩ := box2 k9
  go_upto_region 8 with fail
  have B5w : Hid (Below w.heap.size w w5) := HB1.out.trans (B5.out.mono HB1.out.size)
  clear L7 L9 r0 r1 s0 s1 k9
  by_cases hP : P = 0
  · have hL : L = imgL xs := by rw [HL.out, if_pos hP]
    have hpf : (pfT xs).1 = 0 := by rw [← HP.out]; exact hP
    have hri := read_img hpf
    have hm20 : m ≤ 20008 := by
      have h2 := pf_zero hpf
      have h3 := bodL_len xs h2.2
      have h4 := (img_at xs).2.2.2
      rw [Hm.out, hL]
      omega
    have m20 : ¬ (20008 : Int) < (m : Int) := by omega
    have HR5 : Hid (Calls Tryz.prog 7 #[.slice a4 m c4] w5 fun e w' => ∃ (a : Option Addr) (c : Nat), e = .returned (.tuple #[.slice a n c, .agg #[.int .i64 0, .int .i64 0]]) ∧ InstsIs w' 0 (.slice a n c) xs ∧ Below w5.heap.size w5 w') := by
      have hr : readM (atL L) m = .inr xs := by rw [Hm.out, hL]; exact hri
      exact HRd.out w5 a4 m c4 (atL L) 0 0 n xs (by rw [hr]; rfl) (by rw [hr]; rfl) (by rw [hr]; rfl) hn.out (by rw [hL]; exact atL_lt (fun b hb => by
        unfold imgL at hb
        rcases List.mem_append.1 hb with hb | hb
        · exact hdL_lt xs b hb
        · exact nbL_lt _ _ _ hb)) (by omega) hc4 O5.out
    have HX5 : Hid (InstsIs w5 0 (.slice a n c) xs) := is_later HX1.out B5.out
    subst hP
    clear hL hpf hri HP HQ HL Hm O5 B5 HX1 HB1
    go_wp2_with fail
    refine HR5.out.mono ?_
    rintro e w6 ⟨a6, c6, rfl, hx6, g6⟩
    have gA : Below w6.heap.size w6 (w6.alloc (.cells #[.int .i64 0, .int .i64 0] 26)) := (Below.refl _ _).alloc (Nat.le_refl _) _
    have gB := g6.trans (gA.mono g6.size)
    have B7w : Hid (Below w.heap.size w (w6.alloc (.cells #[.int .i64 0, .int .i64 0] 26))) := B5w.out.trans (gB.mono B5w.out.size)
    have HLs : Hid (Calls Tryz.prog 8 #[.slice a6 n c6, .slice a n c] (w6.alloc (.cells #[.int .i64 0, .int .i64 0] 26)) fun e w' => e = .returned (.bool true) ∧ Below (w6.alloc (.cells #[.int .i64 0, .int .i64 0] 26)).heap.size (w6.alloc (.cells #[.int .i64 0, .int .i64 0] 26)) w') := by
      have := i_listsame (.slice a6 n c6) (.slice a n c) xs xs _ 0 0 (is_later hx6 gA) (is_later HX5.out gB)
      rwa [eqB_refl] at this
    have k11 := heap_alloc_last w6 (.cells #[.int .i64 0, .int .i64 0] 26)
    obtain ⟨B11, hB11⟩ : ∃ B, w6.heap.size = B := ⟨_, rfl⟩
    rw [hB11] at k11
    clear g6 gA gB hx6 HR5 HX5 B5w k7 p0 p1 q0 q1
    go_upto_region 10 with fail
    generalize (w6.alloc (.cells #[.int .i64 0, .int .i64 0] 26)) = w7 at B7w HLs k11 ⊢
    clear hB11
    have L11 := load_all k11 _ _ Tryz.underlying26 rfl infoPF
    obtain ⟨r0, r1, s0, s1⟩ := box2 k11
    go_wp2_with fail
    refine HLs.out.mono ?_
    rintro e w8 ⟨rfl, g8⟩
    have HB8 : Hid (Below w.heap.size w w8) := B7w.out.trans (g8.mono B7w.out.size)
    clear g8 HLs B7w k11 L11 r0 r1 s0 s1
    go_wp2_with fail
    refine (HD2.out _ HB8.out).mono ?_
    rintro e w9 ⟨a9, n9, c9, l, rfl, hn9, hc9, hnl, ho9, hl9, g9⟩
    have HB9 : Hid (Below w.heap.size w w9) := HB8.out.trans (g9.mono HB8.out.size)
    obtain ⟨f, Hf⟩ : ∃ f, Hid (f = atL l) := ⟨_, rfl⟩
    have hf : ∀ j, f j < 256 := by rw [Hf.out]; exact atL_lt hl9
    obtain ⟨F1, HF1⟩ : ∃ F, Hid (F = (rfT (readM f n9)).1) := ⟨_, rfl⟩
    obtain ⟨F2, HF2⟩ : ∃ F, Hid (F = (rfT (readM f n9)).2) := ⟨_, rfl⟩
    obtain ⟨ys, Hy⟩ : ∃ ys, Hid (ys = rlT (readM f n9)) := ⟨_, rfl⟩
    obtain ⟨K, HK⟩ : ∃ k, Hid (k = ys.length) := ⟨_, rfl⟩
    have HO9 : Hid (Bt w9 a9 n9 f) := by rw [Hf.out]; exact ho9
    have HI9 : Hid (∀ W, Below w9.heap.size w9 W → Calls Tryz.prog 7 #[.slice a9 n9 c9] W fun e w' => ∃ (a : Option Addr) (c : Nat), e = .returned (.tuple #[.slice a K c, .agg #[.int .i64 F1, .int .i64 F2]]) ∧ InstsIs w' 0 (.slice a K c) ys ∧ Below W.heap.size W w') := fun W b => HRd.out W a9 n9 c9 f F1 F2 K ys HF1.out HF2.out Hy.out HK.out hf (by omega) hc9 (HO9.out.later b (Nat.le_refl _))
    have HS9 : Hid (∀ W, Below w9.heap.size w9 W → Calls Tryz.prog 10 #[.slice a9 n9 c9] W fun e w' => ∃ (a : Option Addr) (c : Nat), e = .returned (.tuple #[.slice a K c, .agg #[.int .i64 F1, .int .i64 F2]]) ∧ InstsIs w' 0 (.slice a K c) ys ∧ Below W.heap.size W w') := fun W b => HSd.out W a9 n9 c9 f F1 F2 K ys HF1.out HF2.out Hy.out HK.out hf (by omega) hc9 (HO9.out.later b (Nat.le_refl _))
    have HL9 : Hid ((∀ b ∈ l, b < 256) ∧ n9 = l.length) := ⟨hl9, hnl.out⟩
    have HFf : Hid (∀ j, f j < 256) := hf
    clear g9 ho9 hl9 hnl hf HB8 HD2 HRd HSd
    go_wp2_with fail
    refine (HI9.out w9 (Below.refl _ _)).mono ?_
    rintro e wa ⟨ax, cx, rfl, hxa, ga⟩
    have gA : Below wa.heap.size wa (wa.alloc (.cells #[.int .i64 F1, .int .i64 F2] 26)) := (Below.refl _ _).alloc (Nat.le_refl _) _
    have B3 : Hid (Below w9.heap.size w9 (wa.alloc (.cells #[.int .i64 F1, .int .i64 F2] 26))) := ga.trans (gA.mono ga.size)
    have X3 : Hid (InstsIs (wa.alloc (.cells #[.int .i64 F1, .int .i64 F2] 26)) 0 (.slice ax K cx) ys) := is_later hxa gA
    have k7 := heap_alloc_last wa (.cells #[.int .i64 F1, .int .i64 F2] 26)
    obtain ⟨Ba, hBa⟩ : ∃ B, wa.heap.size = B := ⟨_, rfl⟩
    rw [hBa] at k7
    clear ga gA hxa HI9
    go_upto_region 16 with fail
    generalize (wa.alloc (.cells #[.int .i64 F1, .int .i64 F2] 26)) = wb at B3 X3 k7 ⊢
    have K7 : Hid (wb.heap[Ba]? = some (.cells #[.int .i64 F1, .int .i64 F2] 26 (0, 0))) := k7
    clear hBa k7
    go_wp2_with fail
    refine (HS9.out wb B3.out).mono ?_
    rintro e wc ⟨ay, cy, rfl, _, gc⟩
    have gA : Below wc.heap.size wc (wc.alloc (.cells #[.int .i64 F1, .int .i64 F2] 26)) := (Below.refl _ _).alloc (Nat.le_refl _) _
    have gB := gc.trans (gA.mono gc.size)
    have B5 : Hid (Below w9.heap.size w9 (wc.alloc (.cells #[.int .i64 F1, .int .i64 F2] 26))) := B3.out.trans (gB.mono B3.out.size)
    have X5 : Hid (InstsIs (wc.alloc (.cells #[.int .i64 F1, .int .i64 F2] 26)) 0 (.slice ax K cx) ys) := is_later X3.out gB
    have k9 := heap_alloc_last wc (.cells #[.int .i64 F1, .int .i64 F2] 26)
    have k7 : (wc.alloc (.cells #[.int .i64 F1, .int .i64 F2] 26)).heap[Ba]? = some (.cells #[.int .i64 F1, .int .i64 F2] 26 (0, 0)) := (gB.block _ (Array.getElem?_eq_some_iff.1 K7.out).1).trans K7.out
    obtain ⟨Bc, hBc⟩ : ∃ B, wc.heap.size = B := ⟨_, rfl⟩
    rw [hBc] at k9
    clear gc gA gB B3 X3 K7 HS9
    go_upto_region 17 with fail
    generalize (wc.alloc (.cells #[.int .i64 F1, .int .i64 F2] 26)) = wd at B5 X5 k9 k7 ⊢
    clear hBc
    have L7 := load_all k7 _ _ Tryz.underlying26 rfl infoPF
    have L9 := load_all k9 _ _ Tryz.underlying26 rfl infoPF
    obtain ⟨p0, p1, q0, q1⟩ := box2 k7
    obtain ⟨r0, r1, s0, s1⟩ := box2 k9
    go_upto_region 19 with fail
    have HBd : Hid (Below w.heap.size w wd) := HB9.out.trans (B5.out.mono HB9.out.size)
    clear L7 L9 r0 r1 s0 s1 k9 k7
    by_cases hF : (0 : Int) < F1
    · have hK : K = 0 := by
        rcases readM_two f n9 with ⟨_, h⟩ | ⟨zs, h⟩
        · rw [HK.out, Hy.out, h]; rfl
        · rw [HF1.out, h] at hF; exact absurd hF (by show ¬ (0 : Int) < 0; omega)
      subst hK
      clear HF1 HF2 Hy HK X5 B5
      go_wp2
      go_ret
      exact ⟨rfl, HBd.out⟩
    · obtain ⟨zs, hz⟩ : ∃ xs, readM f n9 = .inr xs := by
        rcases readM_two f n9 with ⟨h, _⟩ | h
        · rw [← HF1.out] at h; exact absurd h hF
        · exact h
      have hyz : ys = zs := by rw [Hy.out, hz]; rfl
      subst hyz
      have hbk : (pfT ys).1 = 0 ∧ imgL ys = l := read_back HL9.out.1 (by rw [← Hf.out, ← HL9.out.2]; exact hz)
      have hys : ys.length ≤ 1000 := (pf_zero hbk.1).1
      have HM9 : Hid (Calls Tryz.prog 5 #[.slice ax K cx] wd fun e w' => ∃ (a : Option Addr) (c : Nat), e = .returned (.tuple #[.slice a n9 c, .agg #[.int .i64 0, .int .i64 ((pfT ys).2 : Nat)]]) ∧ n9 ≤ c ∧ Bt w' a n9 (atL l) ∧ Below wd.heap.size wd w') := HMk.out wd ax K cx ys 0 (pfT ys).2 n9 l hbk.1.symm rfl (by rw [if_pos rfl]; exact hbk.2.symm) HL9.out.2 HK.out (by have := HK.out; omega) X5.out
      obtain ⟨Q2, HQ2⟩ : ∃ Q, Hid (Q = (pfT ys).2) := ⟨_, rfl⟩
      rw [← HQ2.out] at HM9
      have HOd : Hid (Bt wd a9 n9 f) := HO9.out.later B5.out (Nat.le_refl _)
      clear hbk hys HF1 HF2 Hy HK X5 B5 hz HQ2
      go_wp2_with fail
      refine HM9.out.mono ?_
      rintro e we ⟨ag, cg, rfl, _, hoe, ge⟩
      have gA : Below we.heap.size we (we.alloc (.cells #[.int .i64 0, .int .i64 (Q2 : Nat)] 26)) := (Below.refl _ _).alloc (Nat.le_refl _) _
      have gB := ge.trans (gA.mono ge.size)
      have HBe : Hid (Below w.heap.size w (we.alloc (.cells #[.int .i64 0, .int .i64 (Q2 : Nat)] 26))) := HBd.out.trans (gB.mono HBd.out.size)
      have k1 := cnv_bt (c := cg) HFf.out (show Bt (we.alloc (.cells #[.int .i64 0, .int .i64 (Q2 : Nat)] 26)) ag n9 f by rw [Hf.out]; exact hoe.later gA (Nat.le_refl _))
      have k2 := cnv_bt (c := c9) HFf.out (HOd.out.later gB (Nat.le_refl _))
      generalize (⟨(rwT f n9).toArray⟩ : ByteArray) = TT at k1 k2
      have k3 := heap_alloc_last we (.cells #[.int .i64 0, .int .i64 (Q2 : Nat)] 26)
      obtain ⟨Be, hBe⟩ : ∃ B, we.heap.size = B := ⟨_, rfl⟩
      rw [hBe] at k3
      clear ge gA gB hoe HM9 HOd
      go_upto_region 22 with fail
      generalize (we.alloc (.cells #[.int .i64 0, .int .i64 (Q2 : Nat)] 26)) = wf at HBe k1 k2 k3 ⊢
      clear hBe
      obtain ⟨t0, t1, u0, u1⟩ := box2 k3
      go_wp2
      go_ret
      exact ⟨rfl, HBe.out⟩
  · have hL : L = [] := by rw [HL.out, if_neg hP]
    have hm0 : m = 0 := by rw [Hm.out, hL]; rfl
    have hQn : Q < n := by rw [HQ.out, hn.out]; exact pf_lt (by rw [← HP.out]; exact hP)
    have j0 : (P == 0) = false := by simpa using hP
    have j1 : ¬ (Q : Int) < 0 := by omega
    have j2 : ¬ (n : Int) ≤ (Q : Int) := by omega
    have HB8 : Hid (Below w.heap.size w w5) := B5w.out
    subst hm0
    clear hL HP HQ HL Hm O5 B5 HX1 HB1 B5w k7
    obtain ⟨w8, hw8⟩ : ∃ W, w5 = W := ⟨_, rfl⟩
    subst hw8
    go_wp2_with fail
    refine (HD2.out _ HB8.out).mono ?_
    rintro e w9 ⟨a9, n9, c9, l, rfl, hn9, hc9, hnl, ho9, hl9, g9⟩
    have HB9 : Hid (Below w.heap.size w w9) := HB8.out.trans (g9.mono HB8.out.size)
    obtain ⟨f, Hf⟩ : ∃ f, Hid (f = atL l) := ⟨_, rfl⟩
    have hf : ∀ j, f j < 256 := by rw [Hf.out]; exact atL_lt hl9
    obtain ⟨F1, HF1⟩ : ∃ F, Hid (F = (rfT (readM f n9)).1) := ⟨_, rfl⟩
    obtain ⟨F2, HF2⟩ : ∃ F, Hid (F = (rfT (readM f n9)).2) := ⟨_, rfl⟩
    obtain ⟨ys, Hy⟩ : ∃ ys, Hid (ys = rlT (readM f n9)) := ⟨_, rfl⟩
    obtain ⟨K, HK⟩ : ∃ k, Hid (k = ys.length) := ⟨_, rfl⟩
    have HO9 : Hid (Bt w9 a9 n9 f) := by rw [Hf.out]; exact ho9
    have HI9 : Hid (∀ W, Below w9.heap.size w9 W → Calls Tryz.prog 7 #[.slice a9 n9 c9] W fun e w' => ∃ (a : Option Addr) (c : Nat), e = .returned (.tuple #[.slice a K c, .agg #[.int .i64 F1, .int .i64 F2]]) ∧ InstsIs w' 0 (.slice a K c) ys ∧ Below W.heap.size W w') := fun W b => HRd.out W a9 n9 c9 f F1 F2 K ys HF1.out HF2.out Hy.out HK.out hf (by omega) hc9 (HO9.out.later b (Nat.le_refl _))
    have HS9 : Hid (∀ W, Below w9.heap.size w9 W → Calls Tryz.prog 10 #[.slice a9 n9 c9] W fun e w' => ∃ (a : Option Addr) (c : Nat), e = .returned (.tuple #[.slice a K c, .agg #[.int .i64 F1, .int .i64 F2]]) ∧ InstsIs w' 0 (.slice a K c) ys ∧ Below W.heap.size W w') := fun W b => HSd.out W a9 n9 c9 f F1 F2 K ys HF1.out HF2.out Hy.out HK.out hf (by omega) hc9 (HO9.out.later b (Nat.le_refl _))
    have HL9 : Hid ((∀ b ∈ l, b < 256) ∧ n9 = l.length) := ⟨hl9, hnl.out⟩
    have HFf : Hid (∀ j, f j < 256) := hf
    clear g9 ho9 hl9 hnl hf HB8 HD2 HRd HSd
    go_wp2_with fail
    refine (HI9.out w9 (Below.refl _ _)).mono ?_
    rintro e wa ⟨ax, cx, rfl, hxa, ga⟩
    have gA : Below wa.heap.size wa (wa.alloc (.cells #[.int .i64 F1, .int .i64 F2] 26)) := (Below.refl _ _).alloc (Nat.le_refl _) _
    have B3 : Hid (Below w9.heap.size w9 (wa.alloc (.cells #[.int .i64 F1, .int .i64 F2] 26))) := ga.trans (gA.mono ga.size)
    have X3 : Hid (InstsIs (wa.alloc (.cells #[.int .i64 F1, .int .i64 F2] 26)) 0 (.slice ax K cx) ys) := is_later hxa gA
    have k7 := heap_alloc_last wa (.cells #[.int .i64 F1, .int .i64 F2] 26)
    obtain ⟨Ba, hBa⟩ : ∃ B, wa.heap.size = B := ⟨_, rfl⟩
    rw [hBa] at k7
    clear ga gA hxa HI9
    go_upto_region 16 with fail
    generalize (wa.alloc (.cells #[.int .i64 F1, .int .i64 F2] 26)) = wb at B3 X3 k7 ⊢
    have K7 : Hid (wb.heap[Ba]? = some (.cells #[.int .i64 F1, .int .i64 F2] 26 (0, 0))) := k7
    clear hBa k7
    go_wp2_with fail
    refine (HS9.out wb B3.out).mono ?_
    rintro e wc ⟨ay, cy, rfl, _, gc⟩
    have gA : Below wc.heap.size wc (wc.alloc (.cells #[.int .i64 F1, .int .i64 F2] 26)) := (Below.refl _ _).alloc (Nat.le_refl _) _
    have gB := gc.trans (gA.mono gc.size)
    have B5 : Hid (Below w9.heap.size w9 (wc.alloc (.cells #[.int .i64 F1, .int .i64 F2] 26))) := B3.out.trans (gB.mono B3.out.size)
    have X5 : Hid (InstsIs (wc.alloc (.cells #[.int .i64 F1, .int .i64 F2] 26)) 0 (.slice ax K cx) ys) := is_later X3.out gB
    have k9 := heap_alloc_last wc (.cells #[.int .i64 F1, .int .i64 F2] 26)
    have k7 : (wc.alloc (.cells #[.int .i64 F1, .int .i64 F2] 26)).heap[Ba]? = some (.cells #[.int .i64 F1, .int .i64 F2] 26 (0, 0)) := (gB.block _ (Array.getElem?_eq_some_iff.1 K7.out).1).trans K7.out
    obtain ⟨Bc, hBc⟩ : ∃ B, wc.heap.size = B := ⟨_, rfl⟩
    rw [hBc] at k9
    clear gc gA gB B3 X3 K7 HS9
    go_upto_region 17 with fail
    generalize (wc.alloc (.cells #[.int .i64 F1, .int .i64 F2] 26)) = wd at B5 X5 k9 k7 ⊢
    clear hBc
    have L7 := load_all k7 _ _ Tryz.underlying26 rfl infoPF
    have L9 := load_all k9 _ _ Tryz.underlying26 rfl infoPF
    obtain ⟨p0, p1, q0, q1⟩ := box2 k7
    obtain ⟨r0, r1, s0, s1⟩ := box2 k9
    go_upto_region 19 with fail
    have HBd : Hid (Below w.heap.size w wd) := HB9.out.trans (B5.out.mono HB9.out.size)
    clear L7 L9 r0 r1 s0 s1 k9 k7
    by_cases hF : (0 : Int) < F1
    · have hK : K = 0 := by
        rcases readM_two f n9 with ⟨_, h⟩ | ⟨zs, h⟩
        · rw [HK.out, Hy.out, h]; rfl
        · rw [HF1.out, h] at hF; exact absurd hF (by show ¬ (0 : Int) < 0; omega)
      subst hK
      clear HF1 HF2 Hy HK X5 B5
      go_wp2
      go_ret
      exact ⟨rfl, HBd.out⟩
    · obtain ⟨zs, hz⟩ : ∃ xs, readM f n9 = .inr xs := by
        rcases readM_two f n9 with ⟨h, _⟩ | h
        · rw [← HF1.out] at h; exact absurd h hF
        · exact h
      have hyz : ys = zs := by rw [Hy.out, hz]; rfl
      subst hyz
      have hbk : (pfT ys).1 = 0 ∧ imgL ys = l := read_back HL9.out.1 (by rw [← Hf.out, ← HL9.out.2]; exact hz)
      have hys : ys.length ≤ 1000 := (pf_zero hbk.1).1
      have HM9 : Hid (Calls Tryz.prog 5 #[.slice ax K cx] wd fun e w' => ∃ (a : Option Addr) (c : Nat), e = .returned (.tuple #[.slice a n9 c, .agg #[.int .i64 0, .int .i64 ((pfT ys).2 : Nat)]]) ∧ n9 ≤ c ∧ Bt w' a n9 (atL l) ∧ Below wd.heap.size wd w') := HMk.out wd ax K cx ys 0 (pfT ys).2 n9 l hbk.1.symm rfl (by rw [if_pos rfl]; exact hbk.2.symm) HL9.out.2 HK.out (by have := HK.out; omega) X5.out
      obtain ⟨Q2, HQ2⟩ : ∃ Q, Hid (Q = (pfT ys).2) := ⟨_, rfl⟩
      rw [← HQ2.out] at HM9
      have HOd : Hid (Bt wd a9 n9 f) := HO9.out.later B5.out (Nat.le_refl _)
      clear hbk hys HF1 HF2 Hy HK X5 B5 hz HQ2
      go_wp2_with fail
      refine HM9.out.mono ?_
      rintro e we ⟨ag, cg, rfl, _, hoe, ge⟩
      have gA : Below we.heap.size we (we.alloc (.cells #[.int .i64 0, .int .i64 (Q2 : Nat)] 26)) := (Below.refl _ _).alloc (Nat.le_refl _) _
      have gB := ge.trans (gA.mono ge.size)
      have HBe : Hid (Below w.heap.size w (we.alloc (.cells #[.int .i64 0, .int .i64 (Q2 : Nat)] 26))) := HBd.out.trans (gB.mono HBd.out.size)
      have k1 := cnv_bt (c := cg) HFf.out (show Bt (we.alloc (.cells #[.int .i64 0, .int .i64 (Q2 : Nat)] 26)) ag n9 f by rw [Hf.out]; exact hoe.later gA (Nat.le_refl _))
      have k2 := cnv_bt (c := c9) HFf.out (HOd.out.later gB (Nat.le_refl _))
      generalize (⟨(rwT f n9).toArray⟩ : ByteArray) = TT at k1 k2
      have k3 := heap_alloc_last we (.cells #[.int .i64 0, .int .i64 (Q2 : Nat)] 26)
      obtain ⟨Be, hBe⟩ : ∃ B, we.heap.size = B := ⟨_, rfl⟩
      rw [hBe] at k3
      clear ge gA gB hoe HM9 HOd
      go_upto_region 22 with fail
      generalize (we.alloc (.cells #[.int .i64 0, .int .i64 (Q2 : Nat)] 26)) = wf at HBe k1 k2 k3 ⊢
      clear hBe
      obtain ⟨t0, t1, u0, u1⟩ := box2 k3
      go_wp2
      go_ret
      exact ⟨rfl, HBe.out⟩
end Go.Proofs.YtcihplachlokiaaGreatDoor
