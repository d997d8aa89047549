/- Reading a stack: the program's BitRead. -/
import Derived.Test.YtlpeianinlnbeaaW
import Derived.Lib.Strings
namespace Go.Proofs.Ytlpeianinlnbeaa
open Go.RowKit
set_option linter.unusedVariables false

def gd (D : List UInt8) : Bool := D.all (fun c => c == 48 || c == 49)
def bs (D : List UInt8) : List Bool := D.map (· == 49)
theorem gd_snoc (D : List UInt8) (c : UInt8) : gd (D ++ [c]) = (gd D && (c == 48 || c == 49)) := by simp [gd]
theorem gd_take (D : List UInt8) (k : Nat) (h : gd D = true) : gd (D.take k) = true := by
  simp only [gd, List.all_eq_true] at h ⊢
  intro c hc
  exact h c (List.mem_of_mem_take hc)
theorem gd_bad (D : List UInt8) (k : Nat) (hk : k < D.length) (h1 : D[k] ≠ 48) (h2 : D[k] ≠ 49) : gd D = false := by
  rw [Bool.eq_false_iff]
  intro h
  have := List.all_eq_true.1 h (D[k]) (List.getElem_mem hk)
  simp [h1, h2] at this
theorem take_get (D : List UInt8) (k : Nat) (hk : k < D.length) : D.take (k + 1) = D.take k ++ [D[k]] := List.take_succ_eq_append_getElem hk
theorem val_rev_snoc (l : List Bool) (x : Bool) : val (l ++ [x]).reverse = 2 * val l.reverse + bit01 x := by
  simp [val]; omega
theorem val_small (l : List Bool) (h : l.length ≤ 15) : 0 ≤ val l ∧ val l < 32768 := by
  have h1 := val_bd l
  have h2 := pow_cap l.length 15 h
  have e : (2 : Int) ^ 15 = 32768 := by decide
  omega

theorem pre_yes (s : ByteArray) (D : List UInt8) (h : s.data.toList = 124 :: D) : ((s.extract 0 1).toList == [124]) = true := by
  rw [Lib.extract_toList, h]
  rfl
theorem pre_no (s : ByteArray) (h : ∀ D, s.data.toList ≠ 124 :: D) : ((s.extract 0 1).toList == [124]) = false := by
  rw [Lib.extract_toList, beq_eq_false_iff_ne]
  intro e
  cases hl : s.data.toList with
  | nil => rw [hl] at e; simp at e
  | cons c cs =>
    rw [hl] at e
    simp at e
    exact h cs (by rw [hl, e])
theorem tail_data (s : ByteArray) (D : List UInt8) (h : s.data.toList = 124 :: D) : (s.extract 1 s.size).data.toList = D := by
  rw [Lib.extract_data, Lib.size_eq, h]
  simp

set_option maxHeartbeats 400000 in
theorem cut_yes (s : ByteArray) (D : List UInt8) (w : World) (hs : s.size ≤ maxLen) (h : s.data.toList = 124 :: D) :
    Calls Try.prog 77 #[.string s, .string ⟨#[124]⟩] w fun e w' => (∃ d : ByteArray, d.data.toList = D ∧ e = .returned (.tuple #[.string d, .bool true])) ∧ w = w' := by
  unfold maxLen at hs
  have h1 := pre_yes s D h
  have h0 : 1 ≤ (s.size : Int) := by
    have e := Lib.size_eq s
    rw [h] at e
    simp at e
    omega
  have HT : Hid ((s.extract 1 s.size).data.toList = D) := tail_data s D h
  clear h
  go_enter Try.func77, Try.ntmps77
  go_wp2
  go_ret2
  exact ⟨⟨_, HT.out, rfl⟩, rfl⟩

set_option maxHeartbeats 400000 in
theorem cut_no (s : ByteArray) (w : World) (hs : s.size ≤ maxLen) (h : ∀ D, s.data.toList ≠ 124 :: D) :
    Calls Try.prog 77 #[.string s, .string ⟨#[124]⟩] w fun e w' => e = .returned (.tuple #[.string s, .bool false]) ∧ w = w' := by
  unfold maxLen at hs
  have h1 := pre_no s h
  clear h
  by_cases h0 : 1 ≤ (s.size : Int)
  · go_enter Try.func77, Try.ntmps77
    go_wp2
    go_ret2
    exact ⟨rfl, rfl⟩
  · have h2 : decide (1 ≤ (s.size : Int)) = false := by simp; omega
    go_enter Try.func77, Try.ntmps77
    go_wp2
    go_ret2
    exact ⟨rfl, rfl⟩

def readV (D : List UInt8) : Value := if gd D then .tuple #[.agg #[.int .u16 (val (bs D).reverse), .int .i64 D.length], .bool true] else .tuple #[.agg #[.int .u16 0, .int .i64 0], .bool false]
theorem readV_bad {D : List UInt8} (h : gd D = false) : readV D = .tuple #[.agg #[.int .u16 0, .int .i64 0], .bool false] := by simp [readV, h]
theorem readV_good {D : List UInt8} (h : gd D = true) : readV D = .tuple #[.agg #[.int .u16 (val (bs D).reverse), .int .i64 D.length], .bool true] := by simp [readV, h]

theorem u8_ne (c : UInt8) (n : UInt8) (h : c ≠ n) : ((c.toNat : Int) != (n.toNat : Int)) = true := by
  rw [bne_iff_ne]
  intro e
  exact h (UInt8.toNat_inj.1 (by omega))
theorem read_step {D : List UInt8} {k : Nat} {c : UInt8} {x : Bool} {hk : k < D.length} (hc : D[k] = c) (hg : gd (D.take k) = true) (hk' : k < D.length) (h15 : k ≤ 15) (hx : (c == 49) = x) (hcc : (c == 48 || c == 49) = true) :
    gd (D.take (k + 1)) = true ∧ val (bs (D.take (k + 1))).reverse = 2 * val (bs (D.take k)).reverse % 65536 + bit01 x := by
  rw [take_get D k hk, hc]
  constructor
  · rw [gd_snoc, hg, hcc]; rfl
  · have e : bs (D.take k ++ [c]) = bs (D.take k) ++ [x] := by simp [bs, hx]
    have hV := val_small (bs (D.take k)).reverse (by simp [bs]; omega)
    rw [e, val_rev_snoc]
    omega

theorem of16_zero (w : World) :
    Calls Try.prog 60 #[.agg #[.int .u16 0, .int .i64 0]] w fun e w' => e = .returned (.agg #[.int .u16 0, .int .i64 0, .int .i64 16]) ∧ Below w.heap.size w w' :=
  of16_ok 0 0 w (by omega) (by omega) (by decide)

set_option maxHeartbeats 1000000 in
theorem impl_read_in (s : ByteArray) (D : List UInt8) (w : World) (hs : s.size ≤ maxLen) (h : s.data.toList = 124 :: D) (hD : D.length ≤ 16) :
    Calls Try.prog 35 #[.string s] w fun e w' => e = .returned (readV D) ∧ Below w.heap.size w w' := by
  go_enter Try.func35, Try.ntmps35
  go_wp2_with fail
  refine (cut_yes s D _ hs h).mono ?_
  rintro e w1 ⟨⟨d, hd, rfl⟩, rfl⟩
  have hsz : d.size = D.length := by rw [Lib.size_eq, hd]
  have hsz16 : d.size ≤ 16 := by omega
  have HSZ : Hid (d.size = D.length) := hsz
  have HDD : Hid (d.data.toList = D) := hd
  clear hsz hd
  go_wp2_with fail
  refine (of16_zero _).mono ?_
  rintro e w1 ⟨rfl, g1⟩
  have s1 : Sk .u16 w1 w.heap.size 0 0 := (Sk.fresh .u16 w 0 0 25).later g1 (by simp)
  have b1 : Below w.heap.size w w1 := ((Below.refl _ _).alloc (Nat.le_refl _) _).trans (g1.mono (by simp))
  have z1 : w.heap.size + 1 ≤ w1.heap.size := by have := g1.size; simpa using this
  clear g1
  go_wp2
  go_loopw [25] (fun i wr => ∃ k : Nat, k ≤ d.size ∧ i = .int .i64 k ∧ gd (D.take k) = true ∧ Pk .u16 wr w1.heap.size 0 (val (bs (D.take k)).reverse) k 16 ∧ Sk .u16 wr w.heap.size 0 0 ∧ Below w.heap.size w wr ∧ w1.heap.size < wr.heap.size)
    (fun i _ => d.size - (intOf i).toNat)
  case atStart => exact ⟨0, Nat.zero_le _, rfl, rfl, Pk.fresh _ _ _ _ _ _, s1.alloc _, b1.alloc (by omega) _, by simp⟩
  case round =>
    clear s1 b1
    obtain ⟨k, hk, rfl, hg, hP, hS, hb, hz⟩ := hrel
    have HG : Hid (gd (D.take k) = true) := hg
    clear hg
    by_cases hlt : k < d.size
    · obtain ⟨c, hc⟩ : ∃ c : UInt8, d[k] = c := ⟨_, rfl⟩
      have hkD : k < D.length := by rw [← HSZ.out]; exact hlt
      have HC : Hid (D[k] = c) := by
        show D[k] = c
        rw [← hc]
        have : d[k] = d.data.toList[k]'(by rw [HDD.out]; exact hkD) := rfl
        rw [this]
        simp only [HDD.out]
      have i1 : (k : Int) < (d.size : Int) := by omega
      by_cases c48 : c = 48
      · subst c48
        have R := read_step (x := false) HC.out HG.out hkD (by omega) rfl (by decide)
        have hV := val_small (bs (D.take k)).reverse (by simp [bs]; omega)
        obtain ⟨V, HV⟩ : ∃ V, Hid (V = val (bs (D.take k)).reverse) := ⟨_, rfl⟩
        rw [← HV.out] at hP hV
        have HRR : Hid (gd (D.take (k + 1)) = true ∧ val (bs (D.take (k + 1))).reverse = 2 * V % 65536 + bit01 false) := ⟨R.1, by rw [R.2, HV.out]⟩
        clear R HG
        go_wp2_with fail
        refine (push16 w1.heap.size 0 V k false _ hV.1 (by omega) (by omega) hP).mono ?_
        rintro e w2 ⟨rfl, hP2, g2⟩
        have hP3 : Pk .u16 w2 w1.heap.size 0 (val (bs (D.take (k + 1))).reverse) (k + 1 : Nat) 16 := hP2.eq HRR.out.2.symm (by omega)
        have S2 : Sk .u16 w2 w.heap.size 0 0 := hS.grown g2 hS.lt (by simp; omega)
        have B2 : Below w.heap.size w w2 := hb.grown g2 hb.size (fun j hj => by simp at hj; omega)
        have Z2 : w1.heap.size < w2.heap.size := by have := g2.size; omega
        clear g2 hP hP2 hS hb hz
        go_wp2
        go_roundw
        case rel => exact ⟨k + 1, by omega, by go_num, HRR.out.1, hP3, S2, B2, Z2⟩
        case measure => simp [intOf]; omega
      · by_cases c49 : c = 49
        · subst c49
          have R := read_step (x := true) HC.out HG.out hkD (by omega) rfl (by decide)
          have hV := val_small (bs (D.take k)).reverse (by simp [bs]; omega)
          obtain ⟨V, HV⟩ : ∃ V, Hid (V = val (bs (D.take k)).reverse) := ⟨_, rfl⟩
          rw [← HV.out] at hP hV
          have HRR : Hid (gd (D.take (k + 1)) = true ∧ val (bs (D.take (k + 1))).reverse = 2 * V % 65536 + bit01 true) := ⟨R.1, by rw [R.2, HV.out]⟩
          clear R HG
          go_wp2_with fail
          refine (push16 w1.heap.size 0 V k true _ hV.1 (by omega) (by omega) hP).mono ?_
          rintro e w2 ⟨rfl, hP2, g2⟩
          have hP3 : Pk .u16 w2 w1.heap.size 0 (val (bs (D.take (k + 1))).reverse) (k + 1 : Nat) 16 := hP2.eq HRR.out.2.symm (by omega)
          have S2 : Sk .u16 w2 w.heap.size 0 0 := hS.grown g2 hS.lt (by simp; omega)
          have B2 : Below w.heap.size w w2 := hb.grown g2 hb.size (fun j hj => by simp at hj; omega)
          have Z2 : w1.heap.size < w2.heap.size := by have := g2.size; omega
          clear g2 hP hP2 hS hb hz
          go_wp2
          go_roundw
          case rel => exact ⟨k + 1, by omega, by go_num, HRR.out.1, hP3, S2, B2, Z2⟩
          case measure => simp [intOf]; omega
        · have t1 : ((c.toNat : Int) != 48) = true := u8_ne c 48 c48
          have t2 : ((c.toNat : Int) != 49) = true := u8_ne c 49 c49
          have HB : Hid (gd D = false) := gd_bad D k hkD (by rw [HC.out]; exact c48) (by rw [HC.out]; exact c49)
          obtain ⟨q0, q1, _, _⟩ := hS.set 0 0
          obtain ⟨c0, c1, f0, f1⟩ := hS
          go_wp2
          exact bodyPost_ret (v := .tuple #[.agg #[.int .u16 0, .int .i64 0], .bool false]) (by simp [results, Try.results35, go_sem, q0, q1]) rfl ⟨by rw [readV_bad HB.out], by go_grown⟩
    · have hkD : k = D.length := by rw [← HSZ.out]; omega
      have HF : Hid (gd D = true ∧ D.take k = D) := by
        have e : D.take k = D := by rw [hkD, List.take_length]
        have := HG.out
        rw [e] at this
        exact ⟨this, e⟩
      rw [HF.out.2] at hP
      have HK : Hid ((k : Int) = (D.length : Int)) := by show (k : Int) = _; omega
      clear hkD HG
      obtain ⟨V, HV⟩ : ∃ V, Hid (V = val (bs D).reverse) := ⟨_, rfl⟩
      rw [← HV.out] at hP
      go_wp2_with fail
      refine (out16 w1.heap.size 0 _ _ _ _ hP).mono ?_
      rintro e w3 ⟨rfl, g3⟩
      have s3 : Sk .u16 w3 w.heap.size 0 0 := hS.later g3 hS.lt
      have b3 : Below w.heap.size w w3 := hb.trans (g3.mono hb.size)
      clear g3 hb hS hP
      obtain ⟨q0, q1, _, _⟩ := s3.set V k
      obtain ⟨c0, c1, f0, f1⟩ := s3
      go_wp2
      exact bodyPost_ret (v := .tuple #[.agg #[.int .u16 V, .int .i64 k], .bool true]) (by simp [results, Try.results35, go_sem, q0, q1]) rfl ⟨by rw [readV_good HF.out.1, HV.out, HK.out], by go_grown⟩
end Go.Proofs.Ytlpeianinlnbeaa
