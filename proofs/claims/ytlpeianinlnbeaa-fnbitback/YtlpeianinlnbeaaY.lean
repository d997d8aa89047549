/- Reading a stack: the specification's BitRead; the law FnExactBitRead. -/
import Derived.Test.YtlpeianinlnbeaaR
import Derived.Test.YtlpeianinlnbeaaL
import Derived.Test.YtlpeianinlnbeaaE
namespace Go.Proofs.Ytlpeianinlnbeaa
open Go.RowKit
set_option linter.unusedVariables false

def noV : Value := .tuple #[.agg #[.int .u16 0, .int .i64 0], .bool false]

set_option maxHeartbeats 1000000 in
theorem impl_read_other (s : ByteArray) (w : World) (hs : s.size ≤ maxLen) (h : ∀ D, s.data.toList ≠ 124 :: D) :
    Calls Try.prog 35 #[.string s] w fun e w' => e = .returned noV ∧ Below w.heap.size w w' := by
  go_enter Try.func35, Try.ntmps35
  go_wp2_with fail
  refine (cut_no s _ hs h).mono ?_
  rintro e w1 ⟨rfl, rfl⟩
  go_wp2
  go_returns
  exact ⟨rfl, by go_grown⟩

set_option maxHeartbeats 1000000 in
theorem impl_read_long (s : ByteArray) (D : List UInt8) (w : World) (hs : s.size ≤ 1048576) (h : s.data.toList = 124 :: D) (hD : 16 < D.length) :
    Calls Try.prog 35 #[.string s] w fun e w' => e = .returned noV ∧ Below w.heap.size w w' := by
  go_enter Try.func35, Try.ntmps35
  go_wp2_with fail
  refine (cut_yes s D _ (by unfold maxLen; omega) h).mono ?_
  rintro e w1 ⟨⟨d, hd, rfl⟩, rfl⟩
  have hsz : 16 < d.size := by rw [Lib.size_eq, hd]; exact hD
  have hsz2 : d.size ≤ 1048576 := by
    have e1 := Lib.size_eq s
    have e2 := Lib.size_eq d
    rw [h] at e1
    rw [hd] at e2
    simp at e1
    omega
  have i1 : (16 : Int) < (d.size : Int) := by omega
  clear hd h
  go_wp2
  go_returns
  exact ⟨rfl, by go_grown⟩

set_option maxHeartbeats 1000000 in
theorem spec_read_empty (s : ByteArray) (w : World) (h : s.size = 0) :
    Calls Try.prog 38 #[.string s] w fun e w' => e = .returned noV ∧ Below w.heap.size w w' := by
  have h1 : s.toList.isEmpty = true := by
    rw [Lib.toList_data, List.isEmpty_iff_length_eq_zero, ← Lib.size_eq]; exact h
  go_enter Try.func38, Try.ntmps38
  go_wp2
  go_returns
  exact ⟨rfl, by go_grown⟩

set_option maxHeartbeats 1000000 in
theorem spec_read_other (s : ByteArray) (w : World) (hs : s.size ≤ 1048576) (h0 : 0 < s.size) (h : s[0] ≠ 124 ∨ 17 < s.size) :
    Calls Try.prog 38 #[.string s] w fun e w' => e = .returned noV ∧ Below w.heap.size w w' := by
  have h1 : s.toList.isEmpty = false := by
    rw [Lib.toList_data, Bool.eq_false_iff]
    intro e
    rw [List.isEmpty_iff_length_eq_zero, ← Lib.size_eq] at e
    omega
  have i0 : (0 : Int) < (s.size : Int) := by omega
  obtain ⟨c, hc⟩ : ∃ c : UInt8, s[0] = c := ⟨_, rfl⟩
  by_cases hcc : c = 124
  · have h17 : (17 : Int) < (s.size : Int) := by
      rcases h with h | h
      · exact absurd (hc.trans hcc) h
      · omega
    subst hcc
    clear h
    go_enter Try.func38, Try.ntmps38
    go_wp2
    go_returns
    exact ⟨rfl, by go_grown⟩
  · have t1 : ((c.toNat : Int) != 124) = true := u8_ne c 124 hcc
    clear h
    go_enter Try.func38, Try.ntmps38
    go_wp2
    go_returns
    exact ⟨rfl, by go_grown⟩

theorem readV_take {D : List UInt8} (hg : gd D = true) (hD : D.length ≤ 16) : readV D = .tuple #[.agg #[.int .u16 (val ((bs D).reverse.take 16)), .int .i64 (min (bs D).length 16 : Nat)], .bool true] := by
  have e : (bs D).length = D.length := by simp [bs]
  have e2 : min D.length 16 = D.length := by omega
  rw [readV_good hg, List.take_of_length_le (by rw [List.length_reverse, e]; exact hD), e, e2]
theorem read_app {k : Nat} {w wr w5 : World} {v v' : Value} {l l' : List Bool} {y : Bool} {o : Obj} (hl : l' = l ++ [y]) (hown : wr.ownsRow (w.heap.size + 1) 4 1 v k (Bs l)) (own5 : w5.ownsRow (w.heap.size + 1) 4 1 v' (k + 1) (Bs l ++ [.bool y]))
    (hS : Sk .u16 wr w.heap.size 0 0) (hz : w.heap.size + 1 ≤ wr.heap.size) (hb : Below w.heap.size w wr) (g5 : (wr.alloc o).grownBy w5 v.ownBlock) :
    w5.ownsRow (w.heap.size + 1) 4 1 v' (k + 1) (Bs l') ∧ Sk .u16 w5 w.heap.size 0 0 ∧ w.heap.size + 1 ≤ w5.heap.size ∧ Below w.heap.size w w5 := by
  have hrow : ∀ j, v.ownBlock = some j → w.heap.size + 1 ≤ j := fun j hj => (hown.lt j hj).1
  refine ⟨by rw [hl]; simpa [Bs] using own5, ?_, ?_, ?_⟩
  · exact (hS.alloc o).grown g5 (by simp; omega) (fun e => by have := hrow _ e.symm; omega)
  · have := g5.size; simp at this; omega
  · exact (hb.alloc hb.size o).grown g5 (by have := hb.size; simp; omega) (fun j hj => by have := hrow j hj; omega)

set_option maxHeartbeats 1000000 in
theorem law15 (s : ByteArray) (V M : Int) (r : Bool) (w : World) (hl : s.size ≤ 1048576)
    (hs : Hid (∀ W : World, Calls Try.prog 38 #[.string s] W fun e w' => e = .returned (.tuple #[.agg #[.int .u16 V, .int .i64 M], .bool r]) ∧ Below W.heap.size W w'))
    (hi : Hid (∀ W : World, Calls Try.prog 35 #[.string s] W fun e w' => e = .returned (.tuple #[.agg #[.int .u16 V, .int .i64 M], .bool r]) ∧ Below W.heap.size W w')) :
    Calls Try.prog 15 #[.string s] w fun e w' => e = .returned (.bool true) ∧ Below w.heap.size w w' := by
  go_enter Try.func15, Try.ntmps15
  go_wp2_with fail
  refine (hs.out _).mono ?_
  rintro e w2 ⟨rfl, b2⟩
  have z2 := b2.size
  go_wp2_with fail
  refine (hi.out _).mono ?_
  rintro e w4 ⟨rfl, g4⟩
  have e0 : w4.cell? ⟨w2.heap.size, 0, none⟩ = some (.int .u16 V) := cell_later g4 (by simp)
  have e1 : w4.cell? ⟨w2.heap.size, 1, none⟩ = some (.int .i64 M) := cell_later g4 (by simp)
  have b4 : Below w.heap.size w w4 := (b2.alloc z2 _).trans (g4.mono (by simp; omega))
  have z4 := b4.size
  have n4 : w2.heap.size < w4.heap.size := World.block_lt_of_cell? _ _ e0
  have h0 : ∀ o : Obj, (w4.alloc o).cell? ⟨w2.heap.size, 0, none⟩ = some (.int .u16 V) := fun o => (World.cell?_alloc_past _ _ _ n4).trans e0
  have h1 : ∀ o : Obj, (w4.alloc o).cell? ⟨w2.heap.size, 1, none⟩ = some (.int .i64 M) := fun o => (World.cell?_alloc_past _ _ _ n4).trans e1
  clear g4 b2
  go_wp2_with fail
  refine (eq_16 V M _).mono ?_
  rintro e w5 ⟨rfl, g5⟩
  have b5 : Below w.heap.size w w5 := (b4.alloc (by omega) _).trans (g5.mono (by simp; omega))
  clear g5 b4
  go_wp2
  go_ret
  exact ⟨rfl, b5⟩

set_option maxHeartbeats 400000 in
theorem law15_long (s : ByteArray) (w : World) (hs : s.size ≤ maxLen) (h : 1048576 < s.size) :
    Calls Try.prog 15 #[.string s] w fun e w' => e = .returned (.bool true) ∧ Below w.heap.size w w' := by
  unfold maxLen at hs
  have i1 : (1048576 : Int) < (s.size : Int) := by omega
  go_enter Try.func15, Try.ntmps15
  go_wp2
  go_ret
  exact ⟨rfl, Below.refl _ _⟩

set_option maxHeartbeats 1000000 in
set_option maxRecDepth 100000 in
theorem spec_read_in (s : ByteArray) (D : List UInt8) (w : World) (h : s.data.toList = 124 :: D) (hD : D.length ≤ 16) :
    Calls Try.prog 38 #[.string s] w fun e w' => e = .returned (readV D) ∧ Below w.heap.size w w' := by
  obtain ⟨i0, hi, hz0, hz1, hz2⟩ := info_parts Try.info4
  have hsz : s.size = D.length + 1 := by rw [Lib.size_eq, h]; simp
  have hs17 : s.size ≤ 17 := by omega
  have h0 : 0 < s.size := by omega
  have h1 : s.toList.isEmpty = false := by rw [Lib.toList_data, h]; rfl
  have hc : s[0] = 124 := by
    have : s[0] = s.data.toList[0]'(by rw [h]; simp) := rfl
    rw [this]; simp only [h]; rfl
  have HG : Hid (∀ k (hk : k < D.length) (hk2 : k + 1 < s.size), s[k + 1] = D[k]) := by
    intro k hk hk2
    have : s[k + 1] = s.data.toList[k + 1]'(by rw [h]; simp; exact hk) := rfl
    rw [this]; simp only [h]; rfl
  have HSZ : Hid (s.size = D.length + 1) := hsz
  have j0 : (0 : Int) < (s.size : Int) := by omega
  clear hsz h
  go_enter Try.func38, Try.ntmps38
  go_wp2
  go_loopw [4, 5] (fun v i wr => ∃ k : Nat, k + 1 ≤ s.size ∧ i = .int .i64 ((k : Int) + 1) ∧ gd (D.take k) = true ∧ wr.ownsRow (w.heap.size + 1) 4 1 v k (Bs (bs (D.take k))) ∧ Sk .u16 wr w.heap.size 0 0 ∧ w.heap.size + 1 ≤ wr.heap.size ∧ Below w.heap.size w wr)
    (fun _ i _ => s.size - (intOf i).toNat)
  case atStart =>
    refine ⟨0, by omega, by go_num, rfl, ?_, (Sk.fresh .u16 w 0 0 25).alloc _, by simp, by go_grown⟩
    have h := World.ownsRow_made (base := w.heap.size + 1) (e := 4) (size := 1) (w.alloc (.cells #[.int .u16 0, .int .i64 0] 25)) #[] 0 (by simp) (by unfold maxLen; omega) (by simp)
    simpa [Bs, bs] using h
  case round =>
    obtain ⟨k, hk, rfl, hg, hown, hS, hz, hb⟩ := hrel
    have HGD : Hid (gd (D.take k) = true) := hg
    clear hg
    by_cases hlt : k + 1 < s.size
    · have hkD : k < D.length := by have := HSZ.out; omega
      obtain ⟨c, hcc⟩ : ∃ c : UInt8, s[k + 1] = c := ⟨_, rfl⟩
      have HC : Hid (D[k] = c) := by show D[k] = c; rw [← hcc]; exact (HG.out k hkD hlt).symm
      have i1 : (k : Int) + 1 < (s.size : Int) := by omega
      have i2 : ((k : Int) + 1).toNat = k + 1 := by omega
      by_cases c48 : c = 48
      · have t1 : ((c.toNat : Int) != 48) = false := by rw [c48]; rfl
        have t3 : ((c.toNat : Int) == 49) = false := by rw [c48]; rfl
        have R1 := read_step (x := false) HC.out HGD.out hkD (by omega) (by rw [c48]; rfl) (by rw [c48]; decide)
        have R2 : bs (D.take (k + 1)) = bs (D.take k) ++ [false] := by rw [take_get D k hkD, HC.out]; rw [c48]; simp [bs]
        have HR1 : Hid (gd (D.take (k + 1)) = true) := R1.1
        have HR2 : Hid (bs (D.take (k + 1)) = bs (D.take k) ++ [false]) := R2
        clear R1 R2 c48
        go_wp2_with (at_builtin; refine wpList_append_lies _ rfl _ _ 28 rfl (w.heap.size + 1) 4 i0 (.bool false) 1 1 Try.underlying28 hi hz0 hz1 hz2 rfl (by decide) _ _ _ rfl (hown.alloc _) ⟨wr.heap.size, 0, none⟩ 1 1 [.bool false] rfl rfl (cell_one_new _ _ _) ?c2 (by decide) ?c3 ?c4 ?c5 _ rfl ?_)
        case c2 => intro u hu; simp at hu; subst hu; rfl
        case c3 => unfold maxLen; omega
        case c4 => omega
        case c5 => simp; omega
        intro g cap w5 own5 g5 _ _
        have F := read_app (l' := bs (D.take (k + 1))) HR2.out hown own5 hS hz hb g5
        clear own5 g5 hown hS hz hb
        go_wp2
        go_roundw
        case rel => exact ⟨k + 1, by omega, by go_num, HR1.out, F.1, F.2.1, F.2.2.1, F.2.2.2⟩
        case measure => simp [intOf]; omega
      · by_cases c49 : c = 49
        · have t1 : ((c.toNat : Int) != 48) = true := by rw [c49]; rfl
          have t2 : ((c.toNat : Int) != 49) = false := by rw [c49]; rfl
          have t3 : ((c.toNat : Int) == 49) = true := by rw [c49]; rfl
          have R1 := read_step (x := true) HC.out HGD.out hkD (by omega) (by rw [c49]; rfl) (by rw [c49]; decide)
          have R2 : bs (D.take (k + 1)) = bs (D.take k) ++ [true] := by rw [take_get D k hkD, HC.out]; rw [c49]; simp [bs]
          have HR1 : Hid (gd (D.take (k + 1)) = true) := R1.1
          have HR2 : Hid (bs (D.take (k + 1)) = bs (D.take k) ++ [true]) := R2
          clear R1 R2 c48 c49
          go_wp2_with (at_builtin; refine wpList_append_lies _ rfl _ _ 28 rfl (w.heap.size + 1) 4 i0 (.bool false) 1 1 Try.underlying28 hi hz0 hz1 hz2 rfl (by decide) _ _ _ rfl (hown.alloc _) ⟨wr.heap.size, 0, none⟩ 1 1 [.bool true] rfl rfl (cell_one_new _ _ _) ?c2 (by decide) ?c3 ?c4 ?c5 _ rfl ?_)
          case c2 => intro u hu; simp at hu; subst hu; rfl
          case c3 => unfold maxLen; omega
          case c4 => omega
          case c5 => simp; omega
          intro g cap w5 own5 g5 _ _
          have F := read_app (l' := bs (D.take (k + 1))) HR2.out hown own5 hS hz hb g5
          clear own5 g5 hown hS hz hb
          go_wp2
          go_roundw
          case rel => exact ⟨k + 1, by omega, by go_num, HR1.out, F.1, F.2.1, F.2.2.1, F.2.2.2⟩
          case measure => simp [intOf]; omega
        · have t1 : ((c.toNat : Int) != 48) = true := u8_ne c 48 c48
          have t2 : ((c.toNat : Int) != 49) = true := u8_ne c 49 c49
          have HB : Hid (gd D = false) := gd_bad D k hkD (by rw [HC.out]; exact c48) (by rw [HC.out]; exact c49)
          obtain ⟨q0, q1, _, _⟩ := hS.set 0 0
          obtain ⟨c0, c1, f0, f1⟩ := hS
          go_wp2
          exact bodyPost_ret (v := .tuple #[.agg #[.int .u16 0, .int .i64 0], .bool false]) (by simp [results, Try.results38, go_sem, q0, q1]) rfl ⟨by rw [readV_bad HB.out], by go_grown⟩
    · have hkD : k = D.length := by have := HSZ.out; omega
      have HF : Hid (gd D = true) := by
        have e : D.take k = D := by rw [hkD, List.take_length]
        have := HGD.out
        rw [e] at this
        exact this
      have eT : D.take k = D := by rw [hkD, List.take_length]
      rw [eT] at hown
      have HLEN : Hid (k = (bs D).length) := by show k = _; rw [hkD]; simp [bs]
      clear eT hkD HGD
      go_wp2_with fail
      refine (stack_any (bs D) _ _ _ (by rw [← HLEN.out]; omega) (by rw [← HLEN.out]; exact hown)).mono ?_
      rintro e w6 ⟨rfl, g6⟩
      have S6 : Sk .u16 w6 w.heap.size 0 0 := hS.later g6 hS.lt
      have b6 : Below w.heap.size w w6 := hb.trans (g6.mono hb.size)
      clear g6 hS hb hown
      obtain ⟨V, HV⟩ : ∃ V, Hid (V = val ((bs D).reverse.take 16)) := ⟨_, rfl⟩
      obtain ⟨M, HM⟩ : ∃ M : Int, Hid (M = (min (bs D).length 16 : Nat)) := ⟨_, rfl⟩
      rw [← HV.out, ← HM.out]
      obtain ⟨q0, q1, _, _⟩ := S6.set V M
      obtain ⟨c0, c1, f0, f1⟩ := S6
      go_wp2
      exact bodyPost_ret (v := .tuple #[.agg #[.int .u16 V, .int .i64 M], .bool true]) (by simp [results, Try.results38, go_sem, q0, q1]) rfl ⟨by rw [HV.out, HM.out, readV_take HF.out hD], by go_grown⟩

theorem walk15 (s : ByteArray) (w : World) (hs : s.size ≤ maxLen) :
    Calls Try.prog 15 #[.string s] w fun e w' => e = .returned (.bool true) ∧ Below w.heap.size w w' := by
  by_cases hl : s.size ≤ 1048576
  · cases hd : s.data.toList with
    | nil =>
      have h0 : s.size = 0 := by rw [Lib.size_eq, hd]; rfl
      exact law15 s 0 0 false w hl (fun W => spec_read_empty s W h0) (fun W => impl_read_other s W hs (fun D h => by rw [hd] at h; cases h))
    | cons c D =>
      have hsz : s.size = D.length + 1 := by rw [Lib.size_eq, hd]; simp
      have hc : s[0] = c := by
        have : s[0] = s.data.toList[0]'(by rw [hd]; simp) := rfl
        rw [this]; simp only [hd]; rfl
      by_cases h124 : c = 124
      · subst h124
        by_cases h16 : D.length ≤ 16
        · cases hg : gd D with
          | true =>
            refine law15 s (val (bs D).reverse) D.length true w hl (fun W => ?_) (fun W => ?_)
            · rw [← readV_good hg]; exact spec_read_in s D W hd h16
            · rw [← readV_good hg]; exact impl_read_in s D W hs hd h16
          | false =>
            refine law15 s 0 0 false w hl (fun W => ?_) (fun W => ?_)
            · rw [← readV_bad hg]; exact spec_read_in s D W hd h16
            · rw [← readV_bad hg]; exact impl_read_in s D W hs hd h16
        · exact law15 s 0 0 false w hl (fun W => spec_read_other s W hl (by omega) (.inr (by omega))) (fun W => impl_read_long s D W hl hd (by omega))
      · exact law15 s 0 0 false w hl (fun W => spec_read_other s W hl (by omega) (.inl (by rw [hc]; exact h124))) (fun W => impl_read_other s W hs (fun D' h => by rw [hd] at h; simp at h; exact h124 h.1))
  · exact law15_long s w hs (by omega)
end Go.Proofs.Ytlpeianinlnbeaa
