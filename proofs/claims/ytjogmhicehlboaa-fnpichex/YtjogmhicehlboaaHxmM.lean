/- Bytes and their text: back and forth. -/
import Derived.Test.YtjogmhicehlboaaPckM
import Derived.Test.YtjogmhicehlboaaPcgM
import Derived.Lib.BufferRead
import Derived.Deep.RegionLaw
namespace Go.Proofs.Ytjogmhicehlboaa
open Go.RowKit Go.Shelf
set_option linter.unusedVariables false

theorem dv_dgF : ∀ j : Fin 16, dv (dg j.val) = (j.val : Int) := by decide
theorem dv_dg {d : Nat} (h : d < 16) : dv (dg d) = (d : Int) := dv_dgF ⟨d, h⟩
theorem dg_dvF : ∀ c : Fin 256, 0 ≤ dv (UInt8.ofNat c.val) → dg (dv (UInt8.ofNat c.val)).toNat = UInt8.ofNat c.val := by decide +kernel
theorem dg_dv (c : UInt8) (h : 0 ≤ dv c) : dg (dv c).toNat = c := by
  have := dg_dvF ⟨c.toNat, c.toNat_lt⟩
  simp only [UInt8.ofNat_toNat] at this
  exact this h
theorem hexL_at (f : Nat → Nat) : ∀ n k, k < n → (hexL f n).getD (2 * k) 0 = dg (f k / 16) ∧ (hexL f n).getD (2 * k + 1) 0 = dg (f k % 16)
  | 0, k, h => by omega
  | n + 1, k, h => by
    have hl := hexL_len f n
    rw [List.getD_eq_getElem?_getD, List.getD_eq_getElem?_getD]
    unfold hexL
    by_cases e : k = n
    · subst e
      rw [List.getElem?_append_right (by omega), List.getElem?_append_right (by omega), hl]
      refine ⟨?_, ?_⟩
      · rw [show 2 * k - 2 * k = 0 by omega]; rfl
      · rw [show 2 * k + 1 - 2 * k = 1 by omega]; rfl
    · rw [List.getElem?_append_left (by omega), List.getElem?_append_left (by omega)]
      have := hexL_at f n k (by omega)
      rwa [List.getD_eq_getElem?_getD, List.getD_eq_getElem?_getD] at this
theorem allP_of {s : ByteArray} : ∀ n, (∀ k, k < n → gdP s k = true) → allP s n = true
  | 0, _ => rfl
  | n + 1, h => by
    unfold allP
    rw [allP_of n fun k hk => h k (by omega), h n (by omega)]
    rfl
theorem allP_get {s : ByteArray} {n k : Nat} (h : allP s n = true) (hk : k < n) : gdP s k = true := by
  by_cases e : gdP s k = true
  · exact e
  · rw [allP_no (by simpa using e) n hk] at h; cases h
/-- The text of bytes is read as them. -/
theorem hex_back {f : Nat → Nat} {n : Nat} (hf : ∀ j, f j < 256) (hn : n ≤ 20008) : okT (hexT f n) = true ∧ lnT (hexT f n) = n ∧ ∀ k, k < n → byP (hexT f n) k = f k := by
  have hT : hexT f n = ⟨(hexL f n).toArray⟩ := by unfold hexT; rw [if_pos hn]
  have hsz : (hexT f n).size = 2 * n := by rw [hT]; show (hexL f n).toArray.size = 2 * n; simp [hexL_len]
  have hd : ∀ k, k < n → dn (hexT f n) (2 * k) = ((f k / 16 : Nat) : Int) ∧ dn (hexT f n) (2 * k + 1) = ((f k % 16 : Nat) : Int) := fun k hk => by
    have h1 := hexL_at f n k hk
    have h2 := hf k
    unfold dn
    rw [hT]
    simp only []
    rw [h1.1, h1.2]
    exact ⟨dv_dg (by omega), dv_dg (by omega)⟩
  have hall : allP (hexT f n) n = true := allP_of n fun k hk => by
    unfold gdP
    rw [(hd k hk).1, (hd k hk).2]
    simp
    omega
  have hok : okT (hexT f n) = true := by
    unfold okT
    rw [hsz, show 2 * n / 2 = n by omega, hall]
    simp
    omega
  refine ⟨hok, by unfold lnT; rw [hok, if_pos rfl, hsz]; omega, fun k hk => ?_⟩
  unfold byP
  rw [(hd k hk).1, (hd k hk).2]
  have := hf k
  omega
theorem hexL_self {s : ByteArray} : ∀ n, 2 * n ≤ s.size → allP s n = true → hexL (byP s) n = s.data.toList.take (2 * n)
  | 0, _, _ => by simp [hexL]
  | n + 1, h, ha => by
    have hg := allP_get ha (k := n) (by omega)
    have ha' : allP s n = true := allP_of n fun k hk => allP_get ha (by omega)
    have hlen : s.data.toList.length = s.size := Array.length_toList
    unfold gdP at hg
    rw [Bool.and_eq_true] at hg
    have h1 := of_decide_eq_true hg.1
    have h2 := of_decide_eq_true hg.2
    have b1 : dn s (2 * n) ≤ 15 := (dv_bd _).2
    have b2 : dn s (2 * n + 1) ≤ 15 := (dv_bd _).2
    have e1 : byP s n / 16 = (dn s (2 * n)).toNat := by unfold byP; omega
    have e2 : byP s n % 16 = (dn s (2 * n + 1)).toNat := by unfold byP; omega
    have c1 : dg (byP s n / 16) = s.data.toList.getD (2 * n) 0 := by rw [e1]; exact dg_dv _ h1
    have c2 : dg (byP s n % 16) = s.data.toList.getD (2 * n + 1) 0 := by rw [e2]; exact dg_dv _ h2
    show hexL (byP s) n ++ [dg (byP s n / 16), dg (byP s n % 16)] = _
    rw [hexL_self n (by omega) ha', c1, c2, show 2 * (n + 1) = 2 * n + 1 + 1 by omega, List.take_succ_eq_append_getElem (by omega), List.take_succ_eq_append_getElem (by omega), List.append_assoc]
    congr 1
    rw [List.getD_eq_getElem?_getD, List.getD_eq_getElem?_getD, List.getElem?_eq_getElem (by omega), List.getElem?_eq_getElem (by omega)]
    rfl
/-- A text that is read is the text of what was read. -/
theorem hex_forth {s : ByteArray} (h : okT s = true) : hexT (byP s) (lnT s) = s := by
  have h0 := h
  unfold okT at h0
  simp only [Bool.and_eq_true, decide_eq_true_eq] at h0
  have hl : lnT s = s.size / 2 := by unfold lnT; rw [h, if_pos rfl]
  unfold hexT
  rw [hl, if_pos (by omega), hexL_self (s.size / 2) (by omega) h0.2, List.take_of_length_le (by have : s.data.toList.length = s.size := Array.length_toList; omega)]
theorem byP_lt (s : ByteArray) (k : Nat) : byP s k < 256 := by
  unfold byP
  have b1 : dn s (2 * k) ≤ 15 := (dv_bd _).2
  have b2 : dn s (2 * k + 1) ≤ 15 := (dv_bd _).2
  omega
theorem empty_ok : okT ⟨#[]⟩ = true ∧ lnT ⟨#[]⟩ = 0 := by decide
end Go.Proofs.Ytjogmhicehlboaa
/- Texts of bytes: converted, drawn many times. -/
namespace Go.Proofs.Ytjogmhicehlboaa
open Go.RowKit Go.Shelf
set_option linter.unusedVariables false

/-- Bytes as a text. -/
def rowT (f : Nat → Nat) (n : Nat) : List UInt8 := (List.range n).map fun j => UInt8.ofNat (f j)
theorem rowT_len (f : Nat → Nat) (n : Nat) : (rowT f n).length = n := by simp [rowT]
theorem rowT_congr {f f' : Nat → Nat} {n : Nat} (h : ∀ j, j < n → f j = f' j) : rowT f n = rowT f' n := by
  unfold rowT
  refine List.map_congr_left fun j hj => ?_
  rw [h j (List.mem_range.1 hj)]
/-- Bytes are converted to a text. -/
theorem conv_bt {w : World} {a : Option Addr} {n c : Nat} {f : Nat → Nat} (hf : ∀ j, f j < 256) (h : Bt w a n f) :
    (convert 22 9 (.slice a n c)).run Try.prog w = .ok (.string ⟨(rowT f n).toArray⟩) w := by
  have key : ∀ g : Addr, (∀ j, j < n → w.cell? (g.add j) = some (.int .u8 (f j))) → (convert 22 9 (.slice (some g) n c)).run Try.prog w = .ok (.string ⟨(rowT f n).toArray⟩) w := fun g hg => by
    have := run_convert_bytes_back (P := Try.prog) w 22 9 5 g c (rowT f n) Try.underlying22 Try.underlying5 Try.underlying9 (fun j hj => by
      have hj' : j < n := by rwa [rowT_len] at hj
      rw [hg j hj']
      have h1 := hf j
      simp [rowT]
      omega)
    rwa [rowT_len] at this
  rcases h with rfl | ⟨g, o, rfl, _, h3⟩
  · cases a with
    | none => exact Lib.run_convert_nil_bytes w 22 9 5 c Try.underlying22 Try.underlying5 Try.underlying9
    | some g => exact key g fun j hj => absurd hj (by omega)
  · exact key ⟨g, o, none⟩ fun j hj => by
      by_cases e : j = 0
      · subst e; simpa [Addr.add] using h3 0 hj
      · simpa [Addr.add, e] using h3 j hj
theorem hexT_size (f : Nat → Nat) (n : Nat) : (hexT f n).size ≤ 40016 := by
  unfold hexT
  split
  · next h => show (hexL f n).toArray.size ≤ 40016; simp [hexL_len]; omega
  · exact Nat.zero_le _

set_option maxRecDepth 10000 in
set_option maxHeartbeats 4000000 in
/-- A text so many times. -/
theorem many_s (s : ByteArray) (n : Nat) (w : World) (h1 : 1 ≤ s.size) (hs : s.size ≤ 4) (hn : n ≤ 52000) :
    Calls Try.prog 30 #[.string s, .int .i64 n] w fun e w' => ∃ v : ByteArray, e = .returned (.string v) ∧ v.size = n * s.size ∧ Below w.heap.size w w' := by
  obtain ⟨T, HT⟩ : ∃ T, Hid (T = n * s.size) := ⟨_, rfl⟩
  have hT : T ≤ 208000 := by rw [HT.out]; exact Nat.le_trans (Nat.mul_le_mul hn hs) (by decide)
  rw [← HT.out]
  go_enter Try.func30, Try.ntmps30
  go_wp2
  go_loopg [0, 1, 5] n (fun g sv nv ov wr => ∃ (m : Nat) (S O : ByteArray), m ≤ g ∧ sv = .string S ∧ nv = .int .i64 m ∧ ov = .string O ∧ Hid (O.size + m * S.size = T) ∧ S.size ≤ 416000 ∧ m ≤ 52000 ∧ Below w.heap.size w wr)
  case atStart => exact ⟨n, s, ⟨#[]⟩, Nat.le_refl _, rfl, rfl, rfl, (by show 0 + _ = T; rw [HT.out]; omega), by omega, hn, Below.refl _ _⟩
  case round =>
    obtain ⟨m, S, O, hm, rfl, rfl, rfl, HE, hS, hm2, hb⟩ := hrel
    have hO : O.size ≤ 208000 := by have := HE.out; omega
    by_cases h0 : 0 < m
    · have i0 : (0 : Int) < (m : Int) := by omega
      have hmul : S.size ≤ m * S.size := Nat.le_mul_of_pos_left _ h0
      have hS2 : S.size ≤ 208000 := by have := HE.out; omega
      clear hmul
      have e1 : Int.tdiv (m : Int) 2 = ((m / 2 : Nat) : Int) := (Int.ofNat_tdiv m 2).symm
      have e2 : Int.tmod (m : Int) 2 = ((m % 2 : Nat) : Int) := (Int.ofNat_tmod m 2).symm
      have hq : m % 2 = 0 ∨ m % 2 = 1 := by omega
      have hdbl : m / 2 * (S.size + S.size) = 2 * (m / 2) * S.size := by rw [← Nat.two_mul, Nat.mul_left_comm, ← Nat.mul_assoc]
      rcases hq with hq | hq
      · have e3 : ((((m % 2 : Nat) : Int)) == 1) = false := by rw [hq]; rfl
        have HE' : Hid (O.size + m / 2 * (S ++ S).size = T) := by
          show O.size + m / 2 * (S ++ S).size = T
          rw [ByteArray.size_append, hdbl, show 2 * (m / 2) = m by omega]; exact HE.out
        clear HE hdbl
        go_wp2
        go_roundg (gk - 1)
        case measure => omega
        case rel => exact ⟨m / 2, S ++ S, O, by omega, rfl, congrArg (Value.int .i64) (by omega), rfl, HE', by rw [ByteArray.size_append]; omega, by omega, hb⟩
      · have e3 : ((((m % 2 : Nat) : Int)) == 1) = true := by rw [hq]; rfl
        have HE' : Hid ((O ++ S).size + m / 2 * (S ++ S).size = T) := by
          show (O ++ S).size + m / 2 * (S ++ S).size = T
          rw [ByteArray.size_append, ByteArray.size_append, hdbl, ← HE.out]
          have : m * S.size = 2 * (m / 2) * S.size + S.size := by
            have : m = 2 * (m / 2) + 1 := by omega
            conv => lhs; rw [this]
            rw [Nat.add_mul, Nat.one_mul]
          omega
        clear HE hdbl
        go_wp2
        go_roundg (gk - 1)
        case measure => omega
        case rel => exact ⟨m / 2, S ++ S, O ++ S, by omega, rfl, congrArg (Value.int .i64) (by omega), rfl, HE', by rw [ByteArray.size_append]; omega, by omega, hb⟩
    · have i0 : ¬ ((0 : Int) < (m : Int)) := by omega
      have hz : O.size = T := by have := HE.out; have : m = 0 := by omega
                                 subst this; omega
      clear HE
      go_wp2
      go_ret
      exact ⟨O, rfl, hz, hb⟩
def textsP : List ByteArray := [⟨#[48]⟩, ⟨#[103, 48]⟩, ⟨#[48, 65]⟩, ⟨#[32]⟩, ⟨#[102, 102]⟩, ⟨#[48, 120]⟩, ⟨#[10]⟩]
theorem smallP : ∀ v ∈ textsP, v.size ≤ 30 := by decide +kernel
theorem rowP (w : World) (xs : List ByteArray) (t : TypeId) : ∀ j x, xs[j]? = some x → (w.alloc (.cells (xs.map Value.string).toArray t)).cell? ⟨w.heap.size, j, none⟩ = some (.string x) := by
  intro j x hx
  rw [World.cell?_alloc_at _ _ _ _ rfl]
  simp [hx]
/-- What the draws leave. -/
def DbR (w : World) (e : Ending) (w' : World) : Prop :=
  ∃ (a : Option Addr) (n c : Nat) (f : Nat → Nat), e = .returned (.slice a n c) ∧ n ≤ 40000 ∧ (∀ j, f j < 256) ∧ Bt w' a n f ∧ Below w.heap.size w w'
def TxR (w : World) (e : Ending) (w' : World) : Prop := ∃ s : ByteArray, e = .returned (.string s) ∧ s.size ≤ 60000 ∧ Below w.heap.size w w'
end Go.Proofs.Ytjogmhicehlboaa
/- The law FnPicHex, of what is drawn. -/
namespace Go.Proofs.Ytjogmhicehlboaa
open Go.RowKit Go.Shelf
set_option linter.unusedVariables false
set_option linter.unusedSimpArgs false

set_option maxRecDepth 10000 in
set_option maxHeartbeats 8000000 in
theorem law_pichex {a1 a2 : Option Addr} {len1 cap1 len2 cap2 : Nat} (w : World) (hl1 : len1 ≤ 1048576) (hl2 : len2 ≤ 1048576)
    (HD : Hid (Calls Try.prog 11 #[.slice a1 len1 cap1] w fun e w' => DbR w e w'))
    (HD2 : Hid (∀ W, Below w.heap.size w W → Calls Try.prog 15 #[.slice a2 len2 cap2] W fun e w' => TxR W e w')) :
    Calls Try.prog 4 #[.slice a1 len1 cap1, .slice a2 len2 cap2] w fun e w' => e = .returned (.bool true) ∧ Below w.heap.size w w' := by
  have i1 : ¬ (1048576 : Int) < (len1 : Int) := by omega
  have i2 : ¬ (1048576 : Int) < (len2 : Int) := by omega
  go_enter Try.func4, Try.ntmps4
  go_wp2_with fail
  refine HD.out.mono ?_
  rintro e w1 ⟨a, n, c, f, rfl, hn, hf, ho, b1⟩
  have HB1 : Hid (Below w.heap.size w w1) := b1
  have HO1 : Hid (Bt w1 a n f ∧ ∀ j, f j < 256) := ⟨ho, hf⟩
  obtain ⟨V, HV⟩ : ∃ V : ByteArray, Hid (V = hexT f n) := ⟨_, rfl⟩
  have hV : V.size ≤ 40016 := by rw [HV.out]; exact hexT_size _ _
  have HI : Hid (∀ W, Bt W a n f → Calls Try.prog 12 #[.slice a n c] W fun e w' => e = .returned (.string V) ∧ Below W.heap.size W w') := fun W b => by rw [HV.out]; exact hexT_i a n c f hf W (by omega) b
  have HS : Hid (∀ W, Bt W a n f → Calls Try.prog 14 #[.slice a n c] W fun e w' => e = .returned (.string V) ∧ Below W.heap.size W w') := fun W b => by rw [HV.out]; exact hexT_s a n c f hf W (by omega) b
  obtain ⟨M, HM⟩ : ∃ M, Hid (M = lnT V) := ⟨_, rfl⟩
  obtain ⟨fx, Hfx⟩ : ∃ fx, Hid (fx = byP V) := ⟨_, rfl⟩
  have hOk : okT V = true := by
    rw [HV.out]
    by_cases hl : n ≤ 20008
    · exact (hex_back hf hl).1
    · unfold hexT; rw [if_neg hl]; exact empty_ok.1
  have HP : Hid (∀ W, Calls Try.prog 13 #[.string V] W fun e w' => ∃ (a : Option Addr) (c : Nat), e = .returned (.tuple #[.slice a M c, .bool true]) ∧ Ob w' W.heap.size a M fx ∧ Below W.heap.size W w') := fun W => by
    rw [HM.out, Hfx.out, ← hOk]; exact pt_i V W (by omega)
  have HC : Hid (∀ W a' c', n ≤ 20008 → Bt W a n f → Bt W a' M fx → ∃ T : ByteArray, (convert 22 9 (.slice a n c)).run Try.prog W = .ok (.string T) W ∧ (convert 22 9 (.slice a' M c')).run Try.prog W = .ok (.string T) W) := fun W a' c' hl h1 h2 => by
    have hb := hex_back hf hl
    rw [← HV.out] at hb
    have hMn : M = n := by rw [HM.out]; exact hb.2.1
    subst hMn
    refine ⟨_, conv_bt hf h1, ?_⟩
    rw [rowT_congr fun j hj => (hb.2.2 j hj).symm, ← Hfx.out]
    exact conv_bt (fun j => by rw [Hfx.out]; exact byP_lt V j) h2
  have hn2 : (n : Int) ≤ 40000 := by omega
  clear HD b1 ho hf hV hOk HV HM Hfx
  go_wp2_with fail
  refine (HI.out w1 HO1.out.1).mono ?_
  rintro e w2 ⟨rfl, g2⟩
  have HB2 : Hid (Below w.heap.size w w2) := HB1.out.trans (g2.mono HB1.out.size)
  have HO2 : Hid (Bt w2 a n f) := HO1.out.1.later g2 (Nat.le_refl _)
  clear g2 HI HO1 HB1
  go_wp2_with fail
  refine (HP.out w2).mono ?_
  rintro e w3 ⟨ax, cx, rfl, hx, g3⟩
  have HB3 : Hid (Below w.heap.size w w3) := HB2.out.trans (g3.mono HB2.out.size)
  have HO3 : Hid (Bt w3 a n f ∧ Bt w3 ax M fx) := ⟨HO2.out.later g3 (Nat.le_refl _), hx.bt⟩
  clear hx g3 HP HO2 HB2
  go_wp2_with fail
  refine (HS.out w3 HO3.out.1).mono ?_
  rintro e w4 ⟨rfl, g4⟩
  have HB4 : Hid (Below w.heap.size w w4) := HB3.out.trans (g4.mono HB3.out.size)
  have HO4 : Hid (Bt w4 a n f ∧ Bt w4 ax M fx) := ⟨HO3.out.1.later g4 (Nat.le_refl _), HO3.out.2.later g4 (Nat.le_refl _)⟩
  have HD4 : Hid (Calls Try.prog 15 #[.slice a2 len2 cap2] w4 fun e w' => TxR w4 e w') := HD2.out w4 HB4.out
  clear g4 HS HO3 HB3 HD2
  by_cases hl : n ≤ 20008
  · have j1 : (n : Int) ≤ 20008 := by omega
    obtain ⟨T, k1, k2⟩ := HC.out w4 ax cx hl HO4.out.1 HO4.out.2
    clear HC HO4
    go_wp2_with fail
    refine HD4.out.mono ?_
    rintro e w5 ⟨v, rfl, hv, g5⟩
    have HB5 : Hid (Below w.heap.size w w5) := HB4.out.trans (g5.mono HB4.out.size)
    obtain ⟨M2, HM2⟩ : ∃ M2, Hid (M2 = lnT v) := ⟨_, rfl⟩
    obtain ⟨fy, Hfy⟩ : ∃ fy, Hid (fy = byP v) := ⟨_, rfl⟩
    clear g5 HB4 HD4
    by_cases hk : okT v = true
    · have HP1 : Hid (∀ W, Calls Try.prog 13 #[.string v] W fun e w' => ∃ (a : Option Addr) (c : Nat), e = .returned (.tuple #[.slice a M2 c, .bool true]) ∧ Ob w' W.heap.size a M2 fy ∧ Below W.heap.size W w') := fun W => by
        rw [HM2.out, Hfy.out, ← hk]; exact pt_i v W (by omega)
      have HP2 : Hid (∀ W, Calls Try.prog 16 #[.string v] W fun e w' => ∃ (a : Option Addr) (c : Nat), e = .returned (.tuple #[.slice a M2 c, .bool true]) ∧ Ob w' W.heap.size a M2 fy ∧ Below W.heap.size W w') := fun W => by
        rw [HM2.out, Hfy.out, ← hk]; exact pt_s v W (by omega)
      have HH : Hid (∀ W a c, Bt W a M2 fy → Calls Try.prog 12 #[.slice a M2 c] W fun e w' => e = .returned (.string v) ∧ Below W.heap.size W w') := fun W a c hb => by
        have h := hexT_i a M2 c fy (by rw [Hfy.out]; exact byP_lt v) W (by rw [HM2.out]; have := lnT_le v; omega) hb
        rw [show hexT fy M2 = v by rw [HM2.out, Hfy.out]; exact hex_forth hk] at h
        exact h
      clear HM2 Hfy hk
      go_wp2_with fail
      refine (HP1.out w5).mono ?_
      rintro e w6 ⟨ay, cy, rfl, hy, g6⟩
      have HB6 : Hid (Below w.heap.size w w6) := HB5.out.trans (g6.mono HB5.out.size)
      have HO6 : Hid (Bt w6 ay M2 fy) := hy.bt
      clear hy g6 HP1 HB5
      go_wp2_with fail
      refine (HP2.out w6).mono ?_
      rintro e w7 ⟨az, cz, rfl, hz, g7⟩
      have HB7 : Hid (Below w.heap.size w w7) := HB6.out.trans (g7.mono HB6.out.size)
      have HO7 : Hid (Bt w7 ay M2 fy) := HO6.out.later g7 (Nat.le_refl _)
      clear hz g7 HP2 HB6 HO6
      go_wp2_with fail
      refine (HH.out w7 ay cy HO7.out).mono ?_
      rintro e w8 ⟨rfl, g8⟩
      have HB8 : Hid (Below w.heap.size w w8) := HB7.out.trans (g8.mono HB7.out.size)
      clear g8 HH HB7 HO7
      go_wp2
      go_ret
      exact ⟨rfl, HB8.out⟩
    · have hk' : okT v = false := by simpa using hk
      have HP1 : Hid (∀ W, Calls Try.prog 13 #[.string v] W fun e w' => ∃ (a : Option Addr) (c : Nat), e = .returned (.tuple #[.slice a M2 c, .bool false]) ∧ Ob w' W.heap.size a M2 fy ∧ Below W.heap.size W w') := fun W => by
        rw [HM2.out, Hfy.out, ← hk']; exact pt_i v W (by omega)
      have HP2 : Hid (∀ W, Calls Try.prog 16 #[.string v] W fun e w' => ∃ (a : Option Addr) (c : Nat), e = .returned (.tuple #[.slice a M2 c, .bool false]) ∧ Ob w' W.heap.size a M2 fy ∧ Below W.heap.size W w') := fun W => by
        rw [HM2.out, Hfy.out, ← hk']; exact pt_s v W (by omega)
      clear HM2 Hfy hk hk'
      go_wp2_with fail
      refine (HP1.out w5).mono ?_
      rintro e w6 ⟨ay, cy, rfl, hy, g6⟩
      have HB6 : Hid (Below w.heap.size w w6) := HB5.out.trans (g6.mono HB5.out.size)
      clear hy g6 HP1 HB5
      go_wp2_with fail
      refine (HP2.out w6).mono ?_
      rintro e w7 ⟨az, cz, rfl, hz, g7⟩
      have HB7 : Hid (Below w.heap.size w w7) := HB6.out.trans (g7.mono HB6.out.size)
      clear hz g7 HP2 HB6
      go_wp2
      go_ret
      exact ⟨rfl, HB7.out⟩
  · have j1 : ¬ (n : Int) ≤ 20008 := by omega
    clear HC HO4
    go_wp2_with fail
    refine HD4.out.mono ?_
    rintro e w5 ⟨v, rfl, hv, g5⟩
    have HB5 : Hid (Below w.heap.size w w5) := HB4.out.trans (g5.mono HB4.out.size)
    obtain ⟨M2, HM2⟩ : ∃ M2, Hid (M2 = lnT v) := ⟨_, rfl⟩
    obtain ⟨fy, Hfy⟩ : ∃ fy, Hid (fy = byP v) := ⟨_, rfl⟩
    clear g5 HB4 HD4
    by_cases hk : okT v = true
    · have HP1 : Hid (∀ W, Calls Try.prog 13 #[.string v] W fun e w' => ∃ (a : Option Addr) (c : Nat), e = .returned (.tuple #[.slice a M2 c, .bool true]) ∧ Ob w' W.heap.size a M2 fy ∧ Below W.heap.size W w') := fun W => by
        rw [HM2.out, Hfy.out, ← hk]; exact pt_i v W (by omega)
      have HP2 : Hid (∀ W, Calls Try.prog 16 #[.string v] W fun e w' => ∃ (a : Option Addr) (c : Nat), e = .returned (.tuple #[.slice a M2 c, .bool true]) ∧ Ob w' W.heap.size a M2 fy ∧ Below W.heap.size W w') := fun W => by
        rw [HM2.out, Hfy.out, ← hk]; exact pt_s v W (by omega)
      have HH : Hid (∀ W a c, Bt W a M2 fy → Calls Try.prog 12 #[.slice a M2 c] W fun e w' => e = .returned (.string v) ∧ Below W.heap.size W w') := fun W a c hb => by
        have h := hexT_i a M2 c fy (by rw [Hfy.out]; exact byP_lt v) W (by rw [HM2.out]; have := lnT_le v; omega) hb
        rw [show hexT fy M2 = v by rw [HM2.out, Hfy.out]; exact hex_forth hk] at h
        exact h
      clear HM2 Hfy hk
      go_wp2_with fail
      refine (HP1.out w5).mono ?_
      rintro e w6 ⟨ay, cy, rfl, hy, g6⟩
      have HB6 : Hid (Below w.heap.size w w6) := HB5.out.trans (g6.mono HB5.out.size)
      have HO6 : Hid (Bt w6 ay M2 fy) := hy.bt
      clear hy g6 HP1 HB5
      go_wp2_with fail
      refine (HP2.out w6).mono ?_
      rintro e w7 ⟨az, cz, rfl, hz, g7⟩
      have HB7 : Hid (Below w.heap.size w w7) := HB6.out.trans (g7.mono HB6.out.size)
      have HO7 : Hid (Bt w7 ay M2 fy) := HO6.out.later g7 (Nat.le_refl _)
      clear hz g7 HP2 HB6 HO6
      go_wp2_with fail
      refine (HH.out w7 ay cy HO7.out).mono ?_
      rintro e w8 ⟨rfl, g8⟩
      have HB8 : Hid (Below w.heap.size w w8) := HB7.out.trans (g8.mono HB7.out.size)
      clear g8 HH HB7 HO7
      go_wp2
      go_ret
      exact ⟨rfl, HB8.out⟩
    · have hk' : okT v = false := by simpa using hk
      have HP1 : Hid (∀ W, Calls Try.prog 13 #[.string v] W fun e w' => ∃ (a : Option Addr) (c : Nat), e = .returned (.tuple #[.slice a M2 c, .bool false]) ∧ Ob w' W.heap.size a M2 fy ∧ Below W.heap.size W w') := fun W => by
        rw [HM2.out, Hfy.out, ← hk']; exact pt_i v W (by omega)
      have HP2 : Hid (∀ W, Calls Try.prog 16 #[.string v] W fun e w' => ∃ (a : Option Addr) (c : Nat), e = .returned (.tuple #[.slice a M2 c, .bool false]) ∧ Ob w' W.heap.size a M2 fy ∧ Below W.heap.size W w') := fun W => by
        rw [HM2.out, Hfy.out, ← hk']; exact pt_s v W (by omega)
      clear HM2 Hfy hk hk'
      go_wp2_with fail
      refine (HP1.out w5).mono ?_
      rintro e w6 ⟨ay, cy, rfl, hy, g6⟩
      have HB6 : Hid (Below w.heap.size w w6) := HB5.out.trans (g6.mono HB5.out.size)
      clear hy g6 HP1 HB5
      go_wp2_with fail
      refine (HP2.out w6).mono ?_
      rintro e w7 ⟨az, cz, rfl, hz, g7⟩
      have HB7 : Hid (Below w.heap.size w w7) := HB6.out.trans (g7.mono HB6.out.size)
      clear hz g7 HP2 HB6
      go_wp2
      go_ret
      exact ⟨rfl, HB7.out⟩
end Go.Proofs.Ytjogmhicehlboaa
