/- PicBytes of the program. -/
import Derived.Test.YtjogmhicehlboaaPcgM
import Derived.Test.YtjogmhicehlboaaPcbM
import Derived.Test.YtjogmhicehlboaaLz
namespace Go.Proofs.Ytjogmhicehlboaa
open Go.RowKit Go.Shelf
set_option linter.unusedVariables false

/-- The value of a digit, or -1. -/
def dv (c : UInt8) : Int := if 48 ≤ c.toNat ∧ c.toNat ≤ 57 then c.toNat - 48 else if 97 ≤ c.toNat ∧ c.toNat ≤ 102 then c.toNat - 87 else -1
theorem dv_bd (c : UInt8) : -1 ≤ dv c ∧ dv c ≤ 15 := by
  unfold dv
  split
  · omega
  · split <;> omega
theorem dv_index : ∀ c : Fin 256, Lib.indexByte [48, 49, 50, 51, 52, 53, 54, 55, 56, 57, 97, 98, 99, 100, 101, 102] (UInt8.ofNat c.val) = dv (UInt8.ofNat c.val) := by decide +kernel
theorem dv_index' (c : UInt8) : Lib.indexByte [48, 49, 50, 51, 52, 53, 54, 55, 56, 57, 97, 98, 99, 100, 101, 102] c = dv c := by
  have := dv_index ⟨c.toNat, c.toNat_lt⟩
  simpa using this
/-- The digit at a place of a text. -/
def dn (s : ByteArray) (j : Nat) : Int := dv (s.data.toList.getD j 0)
def gdP (s : ByteArray) (k : Nat) : Bool := decide (0 ≤ dn s (2 * k)) && decide (0 ≤ dn s (2 * k + 1))
/-- The first so many pairs are digits. -/
def allP (s : ByteArray) : Nat → Bool
  | 0 => true
  | n + 1 => allP s n && gdP s n
def byP (s : ByteArray) (k : Nat) : Nat := (dn s (2 * k)).toNat * 16 + (dn s (2 * k + 1)).toNat
theorem allP_no {s : ByteArray} {k : Nat} (h : gdP s k = false) : ∀ n, k < n → allP s n = false
  | 0, h0 => by omega
  | n + 1, h1 => by
    unfold allP
    by_cases e : k = n
    · subst e; rw [h]; simp
    · rw [allP_no h n (by omega)]; rfl
/-- The cells of bytes. -/
def bcs (f : Nat → Nat) : Nat → List Value
  | 0 => []
  | n + 1 => bcs f n ++ [.int .u8 (f n : Nat)]
theorem bcs_len (f : Nat → Nat) : ∀ n, (bcs f n).length = n
  | 0 => rfl
  | n + 1 => by simp [bcs, bcs_len f n]
theorem bcs_get (f : Nat → Nat) : ∀ n j, j < n → (bcs f n)[j]? = some (.int .u8 (f j : Nat))
  | 0, j, h => by omega
  | n + 1, j, h => by
    unfold bcs
    by_cases e : j = n
    · subst e; rw [List.getElem?_append_right (by rw [bcs_len]; omega), bcs_len]; simp
    · rw [List.getElem?_append_left (by rw [bcs_len]; omega)]; exact bcs_get f n j (by omega)
theorem ob_of {w : World} {base n : Nat} {v : Value} {f : Nat → Nat} (h : w.ownsRow base 5 1 v n (bcs f n)) : ∃ a c, v = .slice a n c ∧ Ob w base a n f := by
  have h' := h
  rcases h'.2 with ⟨hv, hx⟩ | ⟨g, cap, cur, hv, _, hg, _⟩
  · have hn : n = 0 := by rw [← bcs_len f n, hx]; rfl
    exact ⟨none, 0, by rw [hv, hn], .inl ⟨rfl, hn⟩⟩
  · refine ⟨some ⟨g, 0, none⟩, cap, hv, .inr ⟨g, rfl, (h.lt g (by rw [hv]; rfl)).1, ⟨fun j hj => ?_, fun o => ?_, (h.lt g (by rw [hv]; rfl)).2⟩⟩⟩
    · have := h.cells (by rw [hv]; rfl) j _ (bcs_get f n j hj)
      by_cases h0 : j = 0
      · subst h0; simpa [Addr.add] using this
      · simpa [Addr.add, h0] using this
    · simp [World.frozen?, hg]

/-- What PicBytes answers. -/
def PbR (s : ByteArray) (m : Nat) (w : World) (e : Ending) (w' : World) : Prop :=
  ∃ (a : Option Addr) (c : Nat), e = .returned (.tuple #[.slice a (if allP s m then m else 0) c, .bool (allP s m)]) ∧ Ob w' w.heap.size a (if allP s m then m else 0) (byP s) ∧ Below w.heap.size w w'
theorem pbR_no {s : ByteArray} {m : Nat} {w w' : World} (h : allP s m = false) (b : Below w.heap.size w w') : PbR s m w (.returned (.tuple #[.slice none 0 0, .bool false])) w' := by
  refine ⟨none, 0, ?_, ?_, b⟩
  · rw [h]; rfl
  · rw [h]; exact .inl ⟨rfl, rfl⟩

theorem or16F : ∀ a b : Fin 16, bits .or .i64 (((a.val : Nat) : Int) * 16) ((b.val : Nat) : Int) % 256 = ((a.val * 16 + b.val : Nat) : Int) := by decide +kernel
theorem or16 (a b : Int) (h0 : 0 ≤ a) (h1 : a ≤ 15) (h2 : 0 ≤ b) (h3 : b ≤ 15) : bits .or .i64 (a * 16) b % 256 = a * 16 + b := by
  have := or16F ⟨a.toNat, by omega⟩ ⟨b.toNat, by omega⟩
  simp only [Int.toNat_of_nonneg h0, Int.toNat_of_nonneg h2] at this
  omega
theorem ix_i (s : UInt8) (w : World) :
    Calls Try.prog 28 #[.string ⟨#[48, 49, 50, 51, 52, 53, 54, 55, 56, 57, 97, 98, 99, 100, 101, 102]⟩, .int .u8 s.toNat] w fun e w' => e = .returned (.int .i64 (dv s)) ∧ w' = w := by
  refine (Any.strings_IndexByte Go.Proofs.Try.layX ⟨#[48, 49, 50, 51, 52, 53, 54, 55, 56, 57, 97, 98, 99, 100, 101, 102]⟩ s.toNat w).mono ?_
  rintro e w' ⟨rfl, rfl⟩
  refine ⟨?_, rfl⟩
  have e1 : ((s.toNat : Int)).toNat.toUInt8 = s := by simp
  rw [e1]
  show Ending.returned (.int .i64 (Lib.indexByte [48, 49, 50, 51, 52, 53, 54, 55, 56, 57, 97, 98, 99, 100, 101, 102] s)) = _
  rw [dv_index']
theorem at_s (s : ByteArray) (j : Nat) (h : j < s.size) : s[j] = s.data.toList.getD j 0 := by
  have : j < s.data.toList.length := by simpa using h
  rw [List.getD_eq_getElem?_getD, List.getElem?_eq_getElem this]
  rfl

set_option maxRecDepth 10000 in
set_option maxHeartbeats 2000000 in
theorem bytes_i (s : ByteArray) (m : Nat) (w : World) (hs : s.size = 2 * m) (hm : m ≤ 20008) :
    Calls Try.prog 13 #[.string s] w fun e w' => PbR s m w e w' := by
  obtain ⟨i0, hi, hz0, hz1, hz2⟩ := info_parts infoU8
  have o1 : w.ownsRow w.heap.size 5 1 (.slice none 0 0) 0 (bcs (byP s) 0) := World.ownsRow_nil _ _ _ _
  have e0 : ((s.size : Int)).tmod 2 = 0 := by rw [hs, Int.tmod_eq_emod_of_nonneg (by omega)]; omega
  have e1 : ¬ ((40016 : Int) < (s.size : Int)) := by omega
  go_enter Try.func13, Try.ntmps13
  go_wp2
  go_loopw [4, 5, 6, 7] (fun v i _ _ wr => ∃ k : Nat, k ≤ m ∧ i = .int .i64 ((2 * k : Nat) : Int) ∧ Hid (allP s k = true ∧ wr.ownsRow w.heap.size 5 1 v k (bcs (byP s) k) ∧ Below w.heap.size w wr)) (fun _ i _ _ _ => 2 * m - (intOf i).toNat)
  case atStart => exact ⟨0, Nat.zero_le _, rfl, rfl, o1, Below.refl _ _⟩
  case round =>
    obtain ⟨k, hk, rfl, HB⟩ := hrel
    by_cases hlt : k < m
    · have ik : ((2 * k : Nat) : Int) < (s.size : Int) := by omega
      have ik1 : ((2 * k : Nat) : Int) + 1 < (s.size : Int) := by omega
      obtain ⟨D0, hD0, HD0⟩ : ∃ D, dv (s[2 * k]'(by omega)) = D ∧ Hid (D = dn s (2 * k)) := ⟨_, rfl, by show _ = _; unfold dn; rw [at_s]⟩
      obtain ⟨D1, hD1, HD1⟩ : ∃ D, dv (s[2 * k + 1]'(by omega)) = D ∧ Hid (D = dn s (2 * k + 1)) := ⟨_, rfl, by show _ = _; unfold dn; rw [at_s]⟩
      have bd0 : -1 ≤ D0 ∧ D0 ≤ 15 := by rw [← hD0]; exact dv_bd _
      have bd1 : -1 ≤ D1 ∧ D1 ≤ 15 := by rw [← hD1]; exact dv_bd _
      have HI0 : Hid (∀ W h, Calls Try.prog 28 #[.string ⟨#[48, 49, 50, 51, 52, 53, 54, 55, 56, 57, 97, 98, 99, 100, 101, 102]⟩, .int .u8 (s[2 * k]'h).toNat] W fun e w' => e = .returned (.int .i64 D0) ∧ w' = W) := fun W h => by rw [← hD0]; exact ix_i _ W
      have HI1 : Hid (∀ W h, Calls Try.prog 28 #[.string ⟨#[48, 49, 50, 51, 52, 53, 54, 55, 56, 57, 97, 98, 99, 100, 101, 102]⟩, .int .u8 (s[2 * k + 1]'h).toNat] W fun e w' => e = .returned (.int .i64 D1) ∧ w' = W) := fun W h => by rw [← hD1]; exact ix_i _ W
      clear hD0 hD1
      go_wp2_with fail
      refine (HI0.out _ _).mono ?_
      rintro e w1 ⟨rfl, rfl⟩
      go_wp2_with fail
      refine (HI1.out _ _).mono ?_
      rintro e w1 ⟨rfl, rfl⟩
      by_cases n0 : D0 < 0
      · have HN : Hid (PbR s m w (.returned (.tuple #[.slice none 0 0, .bool false])) w1) := pbR_no (allP_no (k := k) (by unfold gdP; rw [← HD0.out, ← HD1.out]; simp; omega) m hlt) HB.out.2.2
        clear HI0 HI1 HB HD0 HD1
        go_wp2
        go_ret2
        exact HN.out
      · by_cases n1 : D1 < 0
        · have HN : Hid (PbR s m w (.returned (.tuple #[.slice none 0 0, .bool false])) w1) := pbR_no (allP_no (k := k) (by unfold gdP; rw [← HD0.out, ← HD1.out]; simp [n1]) m hlt) HB.out.2.2
          clear HI0 HI1 HB HD0 HD1
          go_wp2
          go_ret2
          exact HN.out
        · clear HI0 HI1
          obtain ⟨V, hV, HV⟩ : ∃ V : Int, bits .or .i64 (D0 * 16) D1 % 256 = V ∧ Hid (V = (byP s k : Nat)) := ⟨_, rfl, by
            show _ = _
            unfold byP
            rw [← HD0.out, ← HD1.out, or16 D0 D1 (by omega) (by omega) (by omega) (by omega)]
            omega⟩
          have HG : Hid (gdP s k = true) := (by unfold gdP; rw [← HD0.out, ← HD1.out]; simp; omega : gdP s k = true)
          have j0 : 0 ≤ D0 := by omega
          have j1 : 0 ≤ D1 := by omega
          clear HD0 HD1
          go_wp2_with (at_builtin; refine wpList_append_lies _ rfl _ _ 22 rfl w.heap.size 5 i0 (.int .u8 0) 1 1 Try.underlying22 hi hz0 hz1 hz2 rfl (by decide) _ k (bcs (byP s) k) rfl (HB.out.2.1.alloc _) ⟨w1.heap.size, 0, none⟩ 1 1 [.int .u8 V] rfl rfl (cell_one_new _ _ _) ?c2 (by decide) ?c3 ?c4 ?c5 _ rfl ?_)
          case c2 => intro u hu; simp at hu; subst hu; rfl
          case c3 => unfold maxLen; omega
          case c4 => omega
          case c5 => have := HB.out.2.2.size; simp; omega
          intro g' cap' w2 hown' hgrow hat hlt'
          have HF : Hid (allP s (k + 1) = true ∧ w2.ownsRow w.heap.size 5 1 (.slice (some ⟨g', 0, none⟩) (k + 1) cap') (k + 1) (bcs (byP s) (k + 1)) ∧ Below w.heap.size w w2) := by
            refine ⟨by unfold allP; rw [HB.out.1, HG.out]; rfl, ?_, ?_⟩
            · have e : bcs (byP s) (k + 1) = bcs (byP s) k ++ [.int .u8 V] := by rw [HV.out]; rfl
              rw [e]
              exact hown'
            · have hz := HB.out.2.2.size
              exact (HB.out.2.2.alloc hz _).grown hgrow (by simp; omega) (fun j hj => (HB.out.2.1.lt j hj).1)
          clear hown' hgrow hat hlt' HB
          go_wp2
          go_roundw
          case rel => exact ⟨k + 1, by omega, by go_num, HF⟩
          case measure => simp [intOf]; omega
    · have hkn : k = m := by omega
      subst hkn
      obtain ⟨a, c, rfl, ho⟩ := ob_of HB.out.2.1
      have HN : Hid (PbR s k w (.returned (.tuple #[.slice a k c, .bool true])) wr) := ⟨a, c, by rw [HB.out.1]; rfl, by rw [HB.out.1]; exact ho, HB.out.2.2⟩
      clear HB ho
      go_wp2
      go_ret2
      exact HN.out
end Go.Proofs.Ytjogmhicehlboaa
/- PicBytes of the specification. -/
namespace Go.Proofs.Ytjogmhicehlboaa
open Go.RowKit Go.Shelf
set_option linter.unusedVariables false

set_option maxHeartbeats 400000 in
theorem digit_s (c : UInt8) (w : World) :
    Calls Try.prog 31 #[.int .u8 c.toNat] w fun e w' => e = .returned (.int .i64 (dv c)) ∧ w = w' := by
  have hc := c.toNat_lt
  obtain ⟨n, hn⟩ : ∃ n, c.toNat = n := ⟨_, rfl⟩
  have hd : dv c = if 48 ≤ n ∧ n ≤ 57 then (n : Int) - 48 else if 97 ≤ n ∧ n ≤ 102 then (n : Int) - 87 else -1 := by unfold dv; rw [hn]
  rw [hd]
  rw [hn] at hc ⊢
  clear hd hn
  by_cases h1 : 48 ≤ n ∧ n ≤ 57
  · rw [if_pos h1]
    obtain ⟨h1, h2⟩ := h1
    have HV : Hid ((n : Int) - 48 = (n : Int) - 48) := rfl
    go_enter Try.func31, Try.ntmps31
    go_wp2
    go_ret
    exact ⟨rfl, rfl⟩
  · rw [if_neg h1]
    by_cases h2 : 97 ≤ n ∧ n ≤ 102
    · rw [if_pos h2]
      obtain ⟨h2, h3⟩ := h2
      have k1 : ¬ ((n : Int) ≤ 57) := by omega
      have k2 : (48 : Int) ≤ n := by omega
      have k3 : (97 : Int) ≤ n := by omega
      have k4 : (n : Int) ≤ 102 := by omega
      clear h1
      go_enter Try.func31, Try.ntmps31
      go_wp2
      go_ret
      refine ⟨?_, rfl⟩
      have e : (n : Int) - 97 + 10 = (n : Int) - 87 := by omega
      rw [e]; rfl
    · rw [if_neg h2]
      have h3 : (n : Int) < 48 ∨ (57 < (n : Int) ∧ (n : Int) < 97) ∨ 102 < (n : Int) := by omega
      clear h1 h2
      rcases h3 with h3 | ⟨h3, h4⟩ | h3
      all_goals
        go_enter Try.func31, Try.ntmps31
        go_wp2
        go_ret
        exact ⟨rfl, rfl⟩

set_option maxRecDepth 10000 in
set_option maxHeartbeats 2000000 in
theorem bytes_s (s : ByteArray) (m : Nat) (w : World) (hs : s.size = 2 * m) (hm : m ≤ 20008) :
    Calls Try.prog 16 #[.string s] w fun e w' => PbR s m w e w' := by
  obtain ⟨i0, hi, hz0, hz1, hz2⟩ := info_parts infoU8
  have o1 : (w.alloc (.cells #[] 5)).ownsRow w.heap.size 5 1 (.slice (some ⟨w.heap.size, 0, none⟩) 0 0) 0 (bcs (byP s) 0) := by
    have h := World.ownsRow_made (base := w.heap.size) (e := 5) (size := 1) w #[] 0 (by simp) (by unfold maxLen; omega) (by simp)
    simpa [bcs] using h
  have b0 : Below w.heap.size w (w.alloc (.cells #[] 5)) := (Below.refl _ _).alloc (Nat.le_refl _) _
  have e0 : ((s.size : Int)).tmod 2 = 0 := by rw [hs, Int.tmod_eq_emod_of_nonneg (by omega)]; omega
  have e1 : ¬ ((40016 : Int) < (s.size : Int)) := by omega
  go_enter Try.func16, Try.ntmps16
  go_wp2
  generalize (w.alloc (.cells #[] 5)) = W0 at o1 b0 ⊢
  go_loopw [4, 5, 6, 7] (fun v i _ _ wr => ∃ k : Nat, k ≤ m ∧ i = .int .i64 ((2 * k : Nat) : Int) ∧ Hid (allP s k = true ∧ wr.ownsRow w.heap.size 5 1 v k (bcs (byP s) k) ∧ Below w.heap.size w wr)) (fun _ i _ _ _ => 2 * m - (intOf i).toNat)
  case atStart => exact ⟨0, Nat.zero_le _, rfl, rfl, o1, b0⟩
  case round =>
    obtain ⟨k, hk, rfl, HB⟩ := hrel
    by_cases hlt : k < m
    · have ik : ((2 * k : Nat) : Int) < (s.size : Int) := by omega
      have ik1 : ((2 * k : Nat) : Int) + 1 < (s.size : Int) := by omega
      obtain ⟨D0, hD0, HD0⟩ : ∃ D, dv (s[2 * k]'(by omega)) = D ∧ Hid (D = dn s (2 * k)) := ⟨_, rfl, by show _ = _; unfold dn; rw [at_s]⟩
      obtain ⟨D1, hD1, HD1⟩ : ∃ D, dv (s[2 * k + 1]'(by omega)) = D ∧ Hid (D = dn s (2 * k + 1)) := ⟨_, rfl, by show _ = _; unfold dn; rw [at_s]⟩
      have bd0 : -1 ≤ D0 ∧ D0 ≤ 15 := by rw [← hD0]; exact dv_bd _
      have bd1 : -1 ≤ D1 ∧ D1 ≤ 15 := by rw [← hD1]; exact dv_bd _
      have HI0 : Hid (∀ W h, Calls Try.prog 31 #[.int .u8 (s[2 * k]'h).toNat] W fun e w' => e = .returned (.int .i64 D0) ∧ W = w') := fun W h => by rw [← hD0]; exact digit_s _ W
      have HI1 : Hid (∀ W h, Calls Try.prog 31 #[.int .u8 (s[2 * k + 1]'h).toNat] W fun e w' => e = .returned (.int .i64 D1) ∧ W = w') := fun W h => by rw [← hD1]; exact digit_s _ W
      clear hD0 hD1
      go_wp2_with fail
      refine (HI0.out _ _).mono ?_
      rintro e w1 ⟨rfl, rfl⟩
      go_wp2_with fail
      refine (HI1.out _ _).mono ?_
      rintro e w1 ⟨rfl, rfl⟩
      by_cases n0 : D0 < 0
      · have HN : Hid (PbR s m w (.returned (.tuple #[.slice none 0 0, .bool false])) wr) := pbR_no (allP_no (k := k) (by unfold gdP; rw [← HD0.out, ← HD1.out]; simp; omega) m hlt) HB.out.2.2
        clear HI0 HI1 HB HD0 HD1
        go_wp2
        go_ret2
        exact HN.out
      · by_cases n1 : D1 < 0
        · have HN : Hid (PbR s m w (.returned (.tuple #[.slice none 0 0, .bool false])) wr) := pbR_no (allP_no (k := k) (by unfold gdP; rw [← HD0.out, ← HD1.out]; simp [n1]) m hlt) HB.out.2.2
          clear HI0 HI1 HB HD0 HD1
          go_wp2
          go_ret2
          exact HN.out
        · clear HI0 HI1
          obtain ⟨V, hV, HV⟩ : ∃ V : Int, D0 * 16 + D1 = V ∧ Hid (V = (byP s k : Nat)) := ⟨_, rfl, by
            show _ = _
            unfold byP
            rw [← HD0.out, ← HD1.out]
            omega⟩
          have HG : Hid (gdP s k = true) := (by unfold gdP; rw [← HD0.out, ← HD1.out]; simp; omega : gdP s k = true)
          have j0 : 0 ≤ D0 := by omega
          have j1 : 0 ≤ D1 := by omega
          clear HD0 HD1
          go_wp2_with (at_builtin; refine wpList_append_lies _ rfl _ _ 22 rfl w.heap.size 5 i0 (.int .u8 0) 1 1 Try.underlying22 hi hz0 hz1 hz2 rfl (by decide) _ k (bcs (byP s) k) rfl (HB.out.2.1.alloc _) ⟨wr.heap.size, 0, none⟩ 1 1 [.int .u8 V] rfl rfl (cell_one_new _ _ _) ?c2 (by decide) ?c3 ?c4 ?c5 _ rfl ?_)
          case c2 => intro u hu; simp at hu; subst hu; rfl
          case c3 => unfold maxLen; omega
          case c4 => omega
          case c5 => have := HB.out.2.2.size; simp; omega
          intro g' cap' w2 hown' hgrow hat hlt'
          have HF : Hid (allP s (k + 1) = true ∧ w2.ownsRow w.heap.size 5 1 (.slice (some ⟨g', 0, none⟩) (k + 1) cap') (k + 1) (bcs (byP s) (k + 1)) ∧ Below w.heap.size w w2) := by
            refine ⟨by unfold allP; rw [HB.out.1, HG.out]; rfl, ?_, ?_⟩
            · have e : bcs (byP s) (k + 1) = bcs (byP s) k ++ [.int .u8 V] := by rw [HV.out]; rfl
              rw [e]
              exact hown'
            · have hz := HB.out.2.2.size
              exact (HB.out.2.2.alloc hz _).grown hgrow (by simp; omega) (fun j hj => (HB.out.2.1.lt j hj).1)
          clear hown' hgrow hat hlt' HB
          go_wp2
          go_roundw
          case rel => exact ⟨k + 1, by omega, by go_num, HF⟩
          case measure => simp [intOf]; omega
    · have hkn : k = m := by omega
      subst hkn
      obtain ⟨a, c, rfl, ho⟩ := ob_of HB.out.2.1
      have HN : Hid (PbR s k w (.returned (.tuple #[.slice a k c, .bool true])) wr) := ⟨a, c, by rw [HB.out.1]; rfl, by rw [HB.out.1]; exact ho, HB.out.2.2⟩
      clear HB ho
      go_wp2
      go_ret2
      exact HN.out
end Go.Proofs.Ytjogmhicehlboaa
/- The law FnExactPicBytes. -/
namespace Go.Proofs.Ytjogmhicehlboaa
open Go.RowKit Go.Shelf
set_option linter.unusedVariables false

/-- What PicBytes answers at any text. -/
def okT (s : ByteArray) : Bool := decide (s.size % 2 = 0) && decide (s.size ≤ 40016) && allP s (s.size / 2)
def lnT (s : ByteArray) : Nat := if okT s then s.size / 2 else 0
def PtR (s : ByteArray) (w : World) (e : Ending) (w' : World) : Prop :=
  ∃ (a : Option Addr) (c : Nat), e = .returned (.tuple #[.slice a (lnT s) c, .bool (okT s)]) ∧ Ob w' w.heap.size a (lnT s) (byP s) ∧ Below w.heap.size w w'
theorem ptR_no {s : ByteArray} {w w' : World} (h : okT s = false) (b : Below w.heap.size w w') : PtR s w (.returned (.tuple #[.slice none 0 0, .bool false])) w' := by
  refine ⟨none, 0, ?_, ?_, b⟩
  · unfold lnT; rw [h]; rfl
  · unfold lnT; rw [h]; exact .inl ⟨rfl, rfl⟩
theorem ptR_of {s : ByteArray} {m : Nat} {w : World} {e : Ending} {w' : World} (hs : s.size = 2 * m) (hm : m ≤ 20008) (h : PbR s m w e w') : PtR s w e w' := by
  have e1 : s.size / 2 = m := by omega
  have e2 : okT s = allP s m := by
    unfold okT
    rw [e1, show decide (s.size % 2 = 0) = true from decide_eq_true (by omega), show decide (s.size ≤ 40016) = true from decide_eq_true (by omega)]
    rfl
  have e3 : lnT s = if allP s m then m else 0 := by unfold lnT; rw [e2, e1]
  obtain ⟨a, c, h1, h2, h3⟩ := h
  exact ⟨a, c, by rw [e3, e2]; exact h1, by rw [e3]; exact h2, h3⟩
theorem lnT_le (s : ByteArray) : lnT s ≤ 20008 := by
  unfold lnT
  split
  · next h => unfold okT at h; simp at h; omega
  · omega

set_option maxHeartbeats 1000000 in
theorem pt_i (s : ByteArray) (w : World) (hs : s.size ≤ 1048576) : Calls Try.prog 13 #[.string s] w fun e w' => PtR s w e w' := by
  by_cases h1 : s.size % 2 = 0
  · by_cases h2 : s.size ≤ 40016
    · exact (bytes_i s (s.size / 2) w (by omega) (by omega)).mono fun e w' h => ptR_of (by omega) (by omega) h
    · have HN : Hid (PtR s w (.returned (.tuple #[.slice none 0 0, .bool false])) w) := ptR_no (by unfold okT; simp; omega) (Below.refl _ _)
      have e0 : ((s.size : Int)).tmod 2 = 0 := by rw [Int.tmod_eq_emod_of_nonneg (by omega)]; omega
      have e1 : (40016 : Int) < (s.size : Int) := by omega
      go_enter Try.func13, Try.ntmps13
      go_wp2
      go_ret2
      exact HN.out
  · have HN : Hid (PtR s w (.returned (.tuple #[.slice none 0 0, .bool false])) w) := ptR_no (by unfold okT; simp [h1]) (Below.refl _ _)
    have e0 : ((s.size : Int)).tmod 2 = 1 := by rw [Int.tmod_eq_emod_of_nonneg (by omega)]; omega
    go_enter Try.func13, Try.ntmps13
    go_wp2
    go_ret2
    exact HN.out

set_option maxHeartbeats 1000000 in
theorem pt_s (s : ByteArray) (w : World) (hs : s.size ≤ 1048576) : Calls Try.prog 16 #[.string s] w fun e w' => PtR s w e w' := by
  by_cases h1 : s.size % 2 = 0
  · by_cases h2 : s.size ≤ 40016
    · exact (bytes_s s (s.size / 2) w (by omega) (by omega)).mono fun e w' h => ptR_of (by omega) (by omega) h
    · have HN : Hid (PtR s w (.returned (.tuple #[.slice none 0 0, .bool false])) w) := ptR_no (by unfold okT; simp; omega) (Below.refl _ _)
      have e0 : ((s.size : Int)).tmod 2 = 0 := by rw [Int.tmod_eq_emod_of_nonneg (by omega)]; omega
      have e1 : (40016 : Int) < (s.size : Int) := by omega
      go_enter Try.func16, Try.ntmps16
      go_wp2
      go_ret2
      exact HN.out
  · have HN : Hid (PtR s w (.returned (.tuple #[.slice none 0 0, .bool false])) w) := ptR_no (by unfold okT; simp [h1]) (Below.refl _ _)
    have e0 : ((s.size : Int)).tmod 2 = 1 := by rw [Int.tmod_eq_emod_of_nonneg (by omega)]; omega
    go_enter Try.func16, Try.ntmps16
    go_wp2
    go_ret2
    exact HN.out

set_option maxHeartbeats 2000000 in
theorem law_pbytes (s : ByteArray) (w : World) (hs : s.size ≤ 1048576) :
    Calls Try.prog 7 #[.string s] w fun e w' => e = .returned (.bool true) ∧ Below w.heap.size w w' := by
  obtain ⟨n, Hn⟩ : ∃ n, Hid (n = lnT s) := ⟨_, rfl⟩
  obtain ⟨ok, Hok⟩ : ∃ b, Hid (b = okT s) := ⟨_, rfl⟩
  obtain ⟨f, Hf⟩ : ∃ f, Hid (f = byP s) := ⟨_, rfl⟩
  have hn : n ≤ 1048576 := by rw [Hn.out]; have := lnT_le s; omega
  have HS : Hid (∀ W, Calls Try.prog 16 #[.string s] W fun e w' => ∃ (a : Option Addr) (c : Nat), e = .returned (.tuple #[.slice a n c, .bool ok]) ∧ Ob w' W.heap.size a n f ∧ Below W.heap.size W w') := fun W => by
    rw [Hn.out, Hok.out, Hf.out]; exact pt_s s W hs
  have HI : Hid (∀ W, Calls Try.prog 13 #[.string s] W fun e w' => ∃ (a : Option Addr) (c : Nat), e = .returned (.tuple #[.slice a n c, .bool ok]) ∧ Ob w' W.heap.size a n f ∧ Below W.heap.size W w') := fun W => by
    rw [Hn.out, Hok.out, Hf.out]; exact pt_i s W hs
  have HE : Hid (∀ W a1 a2 c1 c2, Bt W a1 n f → Bt W a2 n f → Calls Try.prog 18 #[.slice a1 n c1, .slice a2 n c2] W fun e w' => e = .returned (.bool true) ∧ Below W.heap.size W w') := fun W a1 a2 c1 c2 h1 h2 => eq_bytes a1 a2 n c1 c2 f W h1 h2 hn
  have i1 : ¬ ((1048576 : Int) < (s.size : Int)) := by omega
  have Hn2 : Hid (n ≤ 1048576) := hn
  have ib : (ok != ok) = false := by cases ok <;> rfl
  clear hs hn
  go_enter Try.func7, Try.ntmps7
  go_wp2_with fail
  refine (HS.out _).mono ?_
  rintro e w1 ⟨a, c, rfl, r1, g1⟩
  have b1 : Hid (Below w.heap.size w w1) := g1
  have R1 : Hid (Ob w1 w.heap.size a n f) := r1
  have L1 : Hid (∀ g, a = some ⟨g, 0, none⟩ → g < w1.heap.size) := (fun g hg => by
    rcases r1 with ⟨h, _⟩ | ⟨g', h, _, h2⟩
    · rw [h] at hg; cases hg
    · rw [h] at hg; cases hg; exact h2.lt : ∀ g, a = some ⟨g, 0, none⟩ → g < w1.heap.size)
  clear g1 r1
  go_wp2_with fail
  refine (HI.out _).mono ?_
  rintro e w2 ⟨a', c', rfl, r2, g2⟩
  have b2 : Hid (Below w.heap.size w w2) := b1.out.trans (g2.mono b1.out.size)
  have R2 : Hid (Ob w2 w.heap.size a n f) := R1.out.later g2
  have Q2 : Hid (Ob w2 w1.heap.size a' n f) := r2
  have BL : Hid (∀ j, (Value.slice a' n c').ownBlock = some j → w1.heap.size ≤ j) := (fun j hj => by
    rcases r2 with ⟨h, _⟩ | ⟨g', h, h3, _⟩
    · rw [h] at hj; simp [Value.ownBlock] at hj
    · rw [h] at hj; simp [Value.ownBlock] at hj; omega : ∀ j, (Value.slice a' n c').ownBlock = some j → w1.heap.size ≤ j)
  clear g2 r2 R1
  go_wp2_with fail
  refine (HE.out _ _ _ _ _ Q2.out.bt R2.out.bt).mono ?_
  rintro e w3 ⟨rfl, g3⟩
  have b3 : Hid (Below w.heap.size w w3) := b2.out.trans (g3.mono b2.out.size)
  have R3 : Hid (Ob w3 w.heap.size a n f) := R2.out.later g3
  have Q3 : Hid (Ob w3 w1.heap.size a' n f) := Q2.out.later g3
  clear g3 R2 Q2 b2
  go_wp2_with fail
  refine (mark_ob w1.heap.size a' n c' f _ Q3.out Hn2.out).mono ?_
  rintro e w4 ⟨rfl, q4, g4⟩
  have b4 : Hid (Below w.heap.size w w4) := b3.out.grown g4 b3.out.size (fun j hj => by have := BL.out j hj; have := b1.out.size; omega)
  have R4 : Hid (Ob w4 w.heap.size a n f) := R3.out.grown L1.out g4 BL.out
  have Q4 : Hid (Ob w4 w1.heap.size a' n mk8) := q4
  have j1 : ¬ (1 + (n : Int) < 0) := by omega
  have j2 : (1 + (n : Int) != 1 + (n : Int)) = false := by simp
  clear g4 q4 R3 Q3 b3
  go_wp2_with fail
  refine (held_ob w1.heap.size a' n c' _ Q4.out Hn2.out).mono ?_
  rintro e w5 ⟨rfl, g5⟩
  have b5 : Hid (Below w.heap.size w w5) := b4.out.trans (g5.mono b4.out.size)
  have R5 : Hid (Ob w5 w.heap.size a n f) := R4.out.later g5
  have Q5 : Hid (Ob w5 w1.heap.size a' n mk8) := Q4.out.later g5
  clear g5 R4 Q4 b4
  go_wp2_with fail
  refine (HI.out _).mono ?_
  rintro e w6 ⟨a2, c2, rfl, r6, g6⟩
  have b6 : Hid (Below w.heap.size w w6) := b5.out.trans (g6.mono b5.out.size)
  have R6 : Hid (Ob w6 w.heap.size a n f) := R5.out.later g6
  have Q6 : Hid (Ob w6 w1.heap.size a' n mk8) := Q5.out.later g6
  have H6 : Hid (Bt w6 a2 n f) := r6.bt
  clear g6 R5 Q5 b5 r6
  go_wp2_with fail
  refine (HE.out _ _ _ _ _ H6.out R6.out.bt).mono ?_
  rintro e w7 ⟨rfl, g7⟩
  have b7 : Hid (Below w.heap.size w w7) := b6.out.trans (g7.mono b6.out.size)
  have Q7 : Hid (Ob w7 w1.heap.size a' n mk8) := Q6.out.later g7
  clear g7 R6 Q6 b6 H6
  go_wp2_with fail
  refine (held_ob w1.heap.size a' n c' _ Q7.out Hn2.out).mono ?_
  rintro e w8 ⟨rfl, g8⟩
  have b8 := b7.out.trans (g8.mono b7.out.size)
  clear g8 Q7 b7
  go_wp2
  go_ret
  exact ⟨rfl, b8⟩

set_option maxHeartbeats 400000 in
theorem walk_pbytes (s : ByteArray) (w : World) (hs : s.size ≤ maxLen) :
    Calls Try.prog 7 #[.string s] w fun e w' => e = .returned (.bool true) ∧ Below w.heap.size w w' := by
  by_cases hl : s.size ≤ 1048576
  · exact law_pbytes s w hl
  · unfold maxLen at hs
    have i1 : (1048576 : Int) < (s.size : Int) := by omega
    go_enter Try.func7, Try.ntmps7
    go_wp2
    go_ret
    exact ⟨rfl, Below.refl _ _⟩
end Go.Proofs.Ytjogmhicehlboaa
