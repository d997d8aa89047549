/- PicBytes of the program. -/
import Derived.Test.YtjogmhicehlboaaPch
import Derived.Test.YtjogmhicehlboaaPcj
import Derived.Test.YtjogmhicehlboaaLz
namespace Go.Proofs.Ytjogmhicehlboaa
open Go.RowKit Go.Shelf
set_option linter.unusedVariables false

/-- The value of a digit, or -1. -/
def dv (c : UInt8) : Int := if 48 ≤ c.toNat ∧ c.toNat ≤ 57 then c.toNat - 48 else if 97 ≤ c.toNat ∧ c.toNat ≤ 102 then c.toNat - 87 else -1
theorem dv_bd (c : UInt8) : -1 ≤ dv c ∧ dv c ≤ 15 := by
  unfold dv
  split
  · omega
  · split <;> omega
theorem dv_index : ∀ c : Fin 256, Lib.indexByte [48, 49, 50, 51, 52, 53, 54, 55, 56, 57, 97, 98, 99, 100, 101, 102] (UInt8.ofNat c.val) = dv (UInt8.ofNat c.val) := by decide +kernel
theorem dv_index' (c : UInt8) : Lib.indexByte [48, 49, 50, 51, 52, 53, 54, 55, 56, 57, 97, 98, 99, 100, 101, 102] c = dv c := by
  have := dv_index ⟨c.toNat, c.toNat_lt⟩
  simpa using this
/-- The digit at a place of a text. -/
def dn (s : ByteArray) (j : Nat) : Int := dv (s.data.toList.getD j 0)
def gdP (s : ByteArray) (k : Nat) : Bool := decide (0 ≤ dn s (2 * k)) && decide (0 ≤ dn s (2 * k + 1))
/-- The first so many pairs are digits. -/
def allP (s : ByteArray) : Nat → Bool
  | 0 => true
  | n + 1 => allP s n && gdP s n
def byP (s : ByteArray) (k : Nat) : Nat := (dn s (2 * k)).toNat * 16 + (dn s (2 * k + 1)).toNat
theorem allP_no {s : ByteArray} {k : Nat} (h : gdP s k = false) : ∀ n, k < n → allP s n = false
  | 0, h0 => by omega
  | n + 1, h1 => by
    unfold allP
    by_cases e : k = n
    · subst e; rw [h]; simp
    · rw [allP_no h n (by omega)]; rfl
/-- The cells of bytes. -/
def bcs (f : Nat → Nat) : Nat → List Value
  | 0 => []
  | n + 1 => bcs f n ++ [.int .u8 (f n : Nat)]
theorem bcs_len (f : Nat → Nat) : ∀ n, (bcs f n).length = n
  | 0 => rfl
  | n + 1 => by simp [bcs, bcs_len f n]
theorem bcs_get (f : Nat → Nat) : ∀ n j, j < n → (bcs f n)[j]? = some (.int .u8 (f j : Nat))
  | 0, j, h => by omega
  | n + 1, j, h => by
    unfold bcs
    by_cases e : j = n
    · subst e; rw [List.getElem?_append_right (by rw [bcs_len]; omega), bcs_len]; simp
    · rw [List.getElem?_append_left (by rw [bcs_len]; omega)]; exact bcs_get f n j (by omega)
theorem ob_of {w : World} {base n : Nat} {v : Value} {f : Nat → Nat} (h : w.ownsRow base 5 1 v n (bcs f n)) : ∃ a c, v = .slice a n c ∧ Ob w base a n f := by
  have h' := h
  rcases h'.2 with ⟨hv, hx⟩ | ⟨g, cap, cur, hv, _, hg, _⟩
  · have hn : n = 0 := by rw [← bcs_len f n, hx]; rfl
    exact ⟨none, 0, by rw [hv, hn], .inl ⟨rfl, hn⟩⟩
  · refine ⟨some ⟨g, 0, none⟩, cap, hv, .inr ⟨g, rfl, (h.lt g (by rw [hv]; rfl)).1, ⟨fun j hj => ?_, fun o => ?_, (h.lt g (by rw [hv]; rfl)).2⟩⟩⟩
    · have := h.cells (by rw [hv]; rfl) j _ (bcs_get f n j hj)
      by_cases h0 : j = 0
      · subst h0; simpa [Addr.add] using this
      · simpa [Addr.add, h0] using this
    · simp [World.frozen?, hg]

/-- What PicBytes answers. -/
def PbR (s : ByteArray) (m : Nat) (w : World) (e : Ending) (w' : World) : Prop :=
  ∃ (a : Option Addr) (c : Nat), e = .returned (.tuple #[.slice a (if allP s m then m else 0) c, .bool (allP s m)]) ∧ Ob w' w.heap.size a (if allP s m then m else 0) (byP s) ∧ Below w.heap.size w w'
theorem pbR_no {s : ByteArray} {m : Nat} {w w' : World} (h : allP s m = false) (b : Below w.heap.size w w') : PbR s m w (.returned (.tuple #[.slice none 0 0, .bool false])) w' := by
  refine ⟨none, 0, ?_, ?_, b⟩
  · rw [h]; rfl
  · rw [h]; exact .inl ⟨rfl, rfl⟩

theorem or16F : ∀ a b : Fin 16, bits .or .i64 (((a.val : Nat) : Int) * 16) ((b.val : Nat) : Int) % 256 = ((a.val * 16 + b.val : Nat) : Int) := by decide +kernel
theorem or16 (a b : Int) (h0 : 0 ≤ a) (h1 : a ≤ 15) (h2 : 0 ≤ b) (h3 : b ≤ 15) : bits .or .i64 (a * 16) b % 256 = a * 16 + b := by
  have := or16F ⟨a.toNat, by omega⟩ ⟨b.toNat, by omega⟩
  simp only [Int.toNat_of_nonneg h0, Int.toNat_of_nonneg h2] at this
  omega
theorem ix_i (s : UInt8) (w : World) :
    Calls Try.prog 28 #[.string ⟨#[48, 49, 50, 51, 52, 53, 54, 55, 56, 57, 97, 98, 99, 100, 101, 102]⟩, .int .u8 s.toNat] w fun e w' => e = .returned (.int .i64 (dv s)) ∧ w' = w := by
  refine (Any.strings_IndexByte Go.Proofs.Try.layX ⟨#[48, 49, 50, 51, 52, 53, 54, 55, 56, 57, 97, 98, 99, 100, 101, 102]⟩ s.toNat w).mono ?_
  rintro e w' ⟨rfl, rfl⟩
  refine ⟨?_, rfl⟩
  have e1 : ((s.toNat : Int)).toNat.toUInt8 = s := by simp
  rw [e1]
  show Ending.returned (.int .i64 (Lib.indexByte [48, 49, 50, 51, 52, 53, 54, 55, 56, 57, 97, 98, 99, 100, 101, 102] s)) = _
  rw [dv_index']
theorem at_s (s : ByteArray) (j : Nat) (h : j < s.size) : s[j] = s.data.toList.getD j 0 := by
  have : j < s.data.toList.length := by simpa using h
  rw [List.getD_eq_getElem?_getD, List.getElem?_eq_getElem this]
  rfl

set_option maxRecDepth 10000 in
set_option maxHeartbeats 2000000 in
theorem bytes_i (s : ByteArray) (m : Nat) (w : World) (hs : s.size = 2 * m) (hm : m ≤ 20008) :
    Calls Try.prog 13 #[.string s] w fun e w' => PbR s m w e w' := by
  obtain ⟨i0, hi, hz0, hz1, hz2⟩ := info_parts infoU8
  have o1 : w.ownsRow w.heap.size 5 1 (.slice none 0 0) 0 (bcs (byP s) 0) := World.ownsRow_nil _ _ _ _
  have e0 : ((s.size : Int)).tmod 2 = 0 := by rw [hs, Int.tmod_eq_emod_of_nonneg (by omega)]; omega
  have e1 : ¬ ((40016 : Int) < (s.size : Int)) := by omega
  go_enter Try.func13, Try.ntmps13
  go_wp2
  go_loopw [4, 5, 6, 7] (fun v i _ _ wr => ∃ k : Nat, k ≤ m ∧ i = .int .i64 ((2 * k : Nat) : Int) ∧ Hid (allP s k = true ∧ wr.ownsRow w.heap.size 5 1 v k (bcs (byP s) k) ∧ Below w.heap.size w wr)) (fun _ i _ _ _ => 2 * m - (intOf i).toNat)
  case atStart => exact ⟨0, Nat.zero_le _, rfl, rfl, o1, Below.refl _ _⟩
  case round =>
    obtain ⟨k, hk, rfl, HB⟩ := hrel
    by_cases hlt : k < m
    · have ik : ((2 * k : Nat) : Int) < (s.size : Int) := by omega
      have ik1 : ((2 * k : Nat) : Int) + 1 < (s.size : Int) := by omega
      obtain ⟨D0, hD0, HD0⟩ : ∃ D, dv (s[2 * k]'(by omega)) = D ∧ Hid (D = dn s (2 * k)) := ⟨_, rfl, by show _ = _; unfold dn; rw [at_s]⟩
      obtain ⟨D1, hD1, HD1⟩ : ∃ D, dv (s[2 * k + 1]'(by omega)) = D ∧ Hid (D = dn s (2 * k + 1)) := ⟨_, rfl, by show _ = _; unfold dn; rw [at_s]⟩
      have bd0 : -1 ≤ D0 ∧ D0 ≤ 15 := by rw [← hD0]; exact dv_bd _
      have bd1 : -1 ≤ D1 ∧ D1 ≤ 15 := by rw [← hD1]; exact dv_bd _
      have HI0 : Hid (∀ W h, Calls Try.prog 28 #[.string ⟨#[48, 49, 50, 51, 52, 53, 54, 55, 56, 57, 97, 98, 99, 100, 101, 102]⟩, .int .u8 (s[2 * k]'h).toNat] W fun e w' => e = .returned (.int .i64 D0) ∧ w' = W) := fun W h => by rw [← hD0]; exact ix_i _ W
      have HI1 : Hid (∀ W h, Calls Try.prog 28 #[.string ⟨#[48, 49, 50, 51, 52, 53, 54, 55, 56, 57, 97, 98, 99, 100, 101, 102]⟩, .int .u8 (s[2 * k + 1]'h).toNat] W fun e w' => e = .returned (.int .i64 D1) ∧ w' = W) := fun W h => by rw [← hD1]; exact ix_i _ W
      clear hD0 hD1
      go_wp2_with fail
      refine (HI0.out _ _).mono ?_
      rintro e w1 ⟨rfl, rfl⟩
      go_wp2_with fail
      refine (HI1.out _ _).mono ?_
      rintro e w1 ⟨rfl, rfl⟩
      by_cases n0 : D0 < 0
      · have HN : Hid (PbR s m w (.returned (.tuple #[.slice none 0 0, .bool false])) w1) := pbR_no (allP_no (k := k) (by unfold gdP; rw [← HD0.out, ← HD1.out]; simp; omega) m hlt) HB.out.2.2
        clear HI0 HI1 HB HD0 HD1
        go_wp2
        go_ret2
        exact HN.out
      · by_cases n1 : D1 < 0
        · have HN : Hid (PbR s m w (.returned (.tuple #[.slice none 0 0, .bool false])) w1) := pbR_no (allP_no (k := k) (by unfold gdP; rw [← HD0.out, ← HD1.out]; simp [n1]) m hlt) HB.out.2.2
          clear HI0 HI1 HB HD0 HD1
          go_wp2
          go_ret2
          exact HN.out
        · clear HI0 HI1
          obtain ⟨V, hV, HV⟩ : ∃ V : Int, bits .or .i64 (D0 * 16) D1 % 256 = V ∧ Hid (V = (byP s k : Nat)) := ⟨_, rfl, by
            show _ = _
            unfold byP
            rw [← HD0.out, ← HD1.out, or16 D0 D1 (by omega) (by omega) (by omega) (by omega)]
            omega⟩
          have HG : Hid (gdP s k = true) := (by unfold gdP; rw [← HD0.out, ← HD1.out]; simp; omega : gdP s k = true)
          have j0 : 0 ≤ D0 := by omega
          have j1 : 0 ≤ D1 := by omega
          clear HD0 HD1
          go_wp2_with (at_builtin; refine wpList_append_lies _ rfl _ _ 22 rfl w.heap.size 5 i0 (.int .u8 0) 1 1 Try.underlying22 hi hz0 hz1 hz2 rfl (by decide) _ k (bcs (byP s) k) rfl (HB.out.2.1.alloc _) ⟨w1.heap.size, 0, none⟩ 1 1 [.int .u8 V] rfl rfl (cell_one_new _ _ _) ?c2 (by decide) ?c3 ?c4 ?c5 _ rfl ?_)
          case c2 => intro u hu; simp at hu; subst hu; rfl
          case c3 => unfold maxLen; omega
          case c4 => omega
          case c5 => have := HB.out.2.2.size; simp; omega
          intro g' cap' w2 hown' hgrow hat hlt'
          have HF : Hid (allP s (k + 1) = true ∧ w2.ownsRow w.heap.size 5 1 (.slice (some ⟨g', 0, none⟩) (k + 1) cap') (k + 1) (bcs (byP s) (k + 1)) ∧ Below w.heap.size w w2) := by
            refine ⟨by unfold allP; rw [HB.out.1, HG.out]; rfl, ?_, ?_⟩
            · have e : bcs (byP s) (k + 1) = bcs (byP s) k ++ [.int .u8 V] := by rw [HV.out]; rfl
              rw [e]
              exact hown'
            · have hz := HB.out.2.2.size
              exact (HB.out.2.2.alloc hz _).grown hgrow (by simp; omega) (fun j hj => (HB.out.2.1.lt j hj).1)
          clear hown' hgrow hat hlt' HB
          go_wp2
          go_roundw
          case rel => exact ⟨k + 1, by omega, by go_num, HF⟩
          case measure => simp [intOf]; omega
    · have hkn : k = m := by omega
      subst hkn
      obtain ⟨a, c, rfl, ho⟩ := ob_of HB.out.2.1
      have HN : Hid (PbR s k w (.returned (.tuple #[.slice a k c, .bool true])) wr) := ⟨a, c, by rw [HB.out.1]; rfl, by rw [HB.out.1]; exact ho, HB.out.2.2⟩
      clear HB ho
      go_wp2
      go_ret2
      exact HN.out
end Go.Proofs.Ytjogmhicehlboaa
