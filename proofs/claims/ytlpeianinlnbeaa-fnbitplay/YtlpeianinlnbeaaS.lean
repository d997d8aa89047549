/- Walks of the specification's stacks: lists of bits, and stacks out of lists. -/
import Derived.Test.YtlpeianinlnbeaaA
import Derived.Test.YtlpeianinlnbeaaM
import Derived.WalkSpells
import Derived.Deep.AppendLies
import Derived.Deep.RegionLaw
namespace Go.Proofs.Ytlpeianinlnbeaa
open Go.RowKit
set_option linter.unusedVariables false

set_option maxHeartbeats 400000 in
theorem power (K : Nat) (w : World) (hK : K ≤ 15) :
    Calls Try.prog 62 #[.int .i64 K] w fun e w' => e = .returned (.int .u16 (2 ^ K)) ∧ w = w' := by
  go_enter Try.func62, Try.ntmps62
  go_wp2
  go_loop [3, 4] (fun p i => ∃ k : Nat, k ≤ K ∧ i = .int .i64 k ∧ p = .int .u16 (2 ^ k)) (fun _ i => K - (intOf i).toNat)
  case atStart => exact ⟨0, Nat.zero_le _, rfl, rfl⟩
  case round =>
    obtain ⟨k, hk, rfl, rfl⟩ := hrel
    have hp := pow_bd k (by omega)
    by_cases hlt : k < K
    · have hp2 := pow_bd (k + 1) (by omega)
      have hp3 : (2 : Int) ^ k * 2 < 65536 := by
        rw [Int.pow_succ] at hp2
        have h15 : ∀ j : Fin 15, (2 : Int) ^ j.val * 2 < 65536 := by decide
        exact h15 ⟨k, by omega⟩
      clear hp2
      go_wp2
      go_round
      case rel => exact ⟨k + 1, by omega, by go_num, by rw [Int.pow_succ]⟩
      case measure => simp [intOf]; omega
    · have hkN : k = K := by omega
      subst hkN
      go_wp2
      go_ret
      exact ⟨rfl, rfl⟩

theorem quo16 (b p : Int) (h0 : 0 ≤ b) (h1 : b ≤ 65535) (hp : 1 ≤ p) : ∃ q, IntKind.u16.wrap (b.tdiv p) = q ∧ 0 ≤ q ∧ q ≤ 65535 ∧ Hid (q = b / p) := by
  have e : b.tdiv p = b / p := Int.tdiv_eq_ediv_of_nonneg h0
  have a0 : 0 ≤ b / p := Int.ediv_nonneg h0 (by omega)
  have a1 : b / p ≤ b := Int.ediv_le_self _ h0
  refine ⟨b / p, ?_, a0, by omega, rfl⟩
  rw [e, IntKind.wrap_u16]; omega
theorem rem16 (q : Int) (h0 : 0 ≤ q) (h1 : q ≤ 65535) : ∃ r, IntKind.u16.wrap (q.tmod 2) = r ∧ Hid (r = q % 2) := by
  have e : q.tmod 2 = q % 2 := Int.tmod_eq_emod_of_nonneg h0
  refine ⟨q % 2, ?_, rfl⟩
  rw [e, IntKind.wrap_u16]; omega

theorem Try.info4 : (Try.prog.info? 4).map (fun i => (i.zero, i.size, i.bytes)) = some (some (.bool false), 1, 1) := by kernel_rfl

def Bs (l : List Bool) : List Value := l.map Value.bool

theorem gb_below {w w' : World} (h : Below w.heap.size w w') : w.grownBy w' none := ⟨h.os, h.tape, h.output, h.size, fun k hk _ => h.block k hk⟩
theorem take_rb (b : Int) (N k K : Nat) (h : K + k + 1 = N) : (rb N b).reverse.take (k + 1) = (rb N b).reverse.take k ++ [b / 2 ^ K % 2 == 1] := by
  have hl : k < (rb N b).reverse.length := by simp [rb_length]; omega
  rw [List.take_succ_eq_append_getElem hl]
  congr 2
  have hg := rb_get N b K (by omega)
  have hKl : K < (rb N b).length := by rw [rb_length]; omega
  rw [List.getElem?_eq_getElem hKl] at hg
  rw [List.getElem_reverse]
  have e : (rb N b).length - 1 - k = K := by rw [rb_length]; omega
  simp only [e]
  exact Option.some.inj hg

theorem list_step {b : Int} {N k K : Nat} {w wr w2 : World} {v v' : Value} {q : Int} {o : Obj} (hk : k ≤ N) (hlt : k < N) (hK : K + k + 1 = N)
    (hown : wr.ownsRow (w.heap.size + 1) 4 1 v k (Bs ((rb N b).reverse.take k))) (hc0 : wr.cell? ⟨w.heap.size, 0, none⟩ = some (.int .u16 b)) (hsz : w.heap.size + 1 ≤ wr.heap.size) (hbel : Below w.heap.size w wr)
    (hq0 : 0 ≤ q) (HQ : Hid (q = b / 2 ^ K)) (hown' : w2.ownsRow (w.heap.size + 1) 4 1 v' (k + 1) (Bs ((rb N b).reverse.take k) ++ [.bool (q.tmod 2 == 1)])) (hgrow : (wr.alloc o).drew.grownBy w2 v.ownBlock) :
    w2.ownsRow (w.heap.size + 1) 4 1 v' (k + 1) (Bs ((rb N b).reverse.take (k + 1))) ∧ w2.cell? ⟨w.heap.size, 0, none⟩ = some (.int .u16 b) ∧ w.heap.size + 1 ≤ w2.heap.size ∧ Below w.heap.size w w2 := by
  have hrow : ∀ j, v.ownBlock = some j → w.heap.size + 1 ≤ j := fun j hj => (hown.lt j hj).1
  have hne : some w.heap.size ≠ v.ownBlock := fun e => by have := hrow _ e.symm; omega
  have hs := hgrow.size
  simp at hs
  refine ⟨?_, ?_, by omega, ?_⟩
  · rw [take_rb b N k K hK]
    have e : q.tmod 2 = b / 2 ^ K % 2 := by rw [Int.tmod_eq_emod_of_nonneg hq0, HQ.out]
    rw [e] at hown'
    simpa [Bs] using hown'
  · exact hgrow.cell (a := ⟨w.heap.size, 0, none⟩) (by rw [World.cell?_drew, World.cell?_alloc_past _ _ _ (by show w.heap.size < wr.heap.size; omega)]; exact hc0) hne
  · exact ((hbel.alloc (by omega) o).drew).grown hgrow (by simp; omega) (fun j hj => by have := hrow j hj; omega)

set_option maxHeartbeats 1000000 in
theorem list_ok (b : Int) (N : Nat) (w : World) (hb0 : 0 ≤ b) (hb1 : b ≤ 65535) (hN : N ≤ 16) (hok : okS 16 b N = true) :
    Calls Try.prog 23 #[.agg #[.int .u16 b, .int .i64 N]] w fun e w' => ∃ v, e = .returned v ∧ w'.ownsRow (w.heap.size + 1) 4 1 v N (Bs (rb N b).reverse) ∧ Below w.heap.size w w' := by
  obtain ⟨i0, hi, hz0, hz1, hz2⟩ := info_parts Try.info4
  go_enter Try.func23, Try.ntmps23
  go_wp2_with fail
  refine (spec_ok b N _ hb0 hb1).mono ?_
  rintro e w1 ⟨rfl, g1⟩
  have a0 : w1.cell? ⟨w.heap.size, 0, none⟩ = some (.int .u16 b) := cell_later g1 (by simp)
  have a1 : w1.cell? ⟨w.heap.size, 1, none⟩ = some (.int .i64 N) := cell_later g1 (by simp)
  have o1 : w1.ownsRow (w.heap.size + 1) 4 1 (.slice (some ⟨w.heap.size + 1, 0, none⟩) 0 0) 0 (Bs ((rb N b).reverse.take 0)) := by
    have h := (World.ownsRow_made (base := w.heap.size + 1) (e := 4) (size := 1) (w.alloc (.cells #[.int .u16 b, .int .i64 N] 25)) #[] 0 (by simp) (by unfold maxLen; omega) (by simp)).kept (gb_below g1) (.inr (by simp [Value.ownBlock]))
    simpa [Bs] using h
  have b1 : Below w.heap.size w w1 := (((Below.refl _ _).alloc (Nat.le_refl _) _).alloc (by simp) _).trans (g1.mono (by simp; omega))
  have z1 : w.heap.size + 1 ≤ w1.heap.size := by have := g1.size; simp at this; omega
  clear g1
  go_wp2
  go_loopw [3, 4] (fun v i wr => ∃ k : Nat, k ≤ N ∧ i = .int .i64 ((N : Int) - 1 - k) ∧ wr.ownsRow (w.heap.size + 1) 4 1 v k (Bs ((rb N b).reverse.take k)) ∧ wr.cell? ⟨w.heap.size, 0, none⟩ = some (.int .u16 b) ∧ w.heap.size + 1 ≤ wr.heap.size ∧ Below w.heap.size w wr)
    (fun _ i _ => (intOf i + 1).toNat)
  case atStart => exact ⟨0, Nat.zero_le _, by go_num, o1, a0, z1, b1⟩
  case round =>
    obtain ⟨k, hk, rfl, hown, hc0, hsz, hbel⟩ := hrel
    by_cases hlt : k < N
    · obtain ⟨K, hK⟩ : ∃ K : Nat, K + k + 1 = N := ⟨N - 1 - k, by omega⟩
      have eK : (N : Int) - 1 - k = (K : Int) := by omega
      rw [eK]
      clear eK
      have hP := pow_bd K (by omega)
      have hne : ¬ (2 : Int) ^ K = 0 := by omega
      obtain ⟨q, e1, hq0, hq1, HQ⟩ : ∃ q, IntKind.u16.wrap (b.tdiv (2 ^ K)) = q ∧ 0 ≤ q ∧ q ≤ 65535 ∧ Hid (q = b / 2 ^ K) := quo16 b _ hb0 hb1 (by omega)
      clear hP
      go_wp2_with fail
      go_region_law (first | (refine step_append_lies _ rfl (.tmp 17) (.tmp 25) 28 rfl (w.heap.size + 1) 4 i0 (.bool false) 1 1 Try.underlying28 hi hz0 hz1 hz2 rfl (by decide) _ k (Bs ((rb N b).reverse.take k)) rfl (by exact (hown.alloc _).drew) ⟨wr.heap.size, 0, none⟩ 1 1 [.bool (q.tmod 2 == 1)] rfl rfl (by exact cell_one_new _ _ _) (by intro u hu; simp at hu; subst hu; rfl) (by decide) (by unfold maxLen; omega) (by omega) (by simp; omega) _ rfl ?_; intro g cap w2 hown' hgrow hat hlt') | (go_simp; go_at_call 62; refine (power K _ (by omega)).mono ?_; rintro e w' ⟨rfl, rfl⟩; simp only []))
      all_goals
        have R := list_step hk hlt hK hown hc0 hsz hbel hq0 HQ hown' hgrow
        clear hown' hgrow hown hc0 hbel hat hlt'
        go_wp2
        go_roundw
        case rel => exact ⟨k + 1, by omega, by go_num, R.1, R.2.1, R.2.2.1, R.2.2.2⟩
        case measure => simp [intOf]
    · have eK : (N : Int) - 1 - k = -1 := by omega
      rw [eK]
      have HK : Hid (k = N) := by show k = N; omega
      clear eK
      go_wp2
      go_ret
      refine ⟨_, rfl, ?_, hbel⟩
      rw [HK.out, List.take_of_length_le (by simp [rb_length])] at hown
      exact hown

set_option maxHeartbeats 400000 in
theorem list_no (b n : Int) (w : World) (hb0 : 0 ≤ b) (hb1 : b ≤ 65535) (hok : okS 16 b n = false) :
    Calls Try.prog 23 #[.agg #[.int .u16 b, .int .i64 n]] w fun e w' => ∃ v, e = .returned v ∧ w'.ownsRow (w.heap.size + 1) 4 1 v 0 (Bs []) ∧ Below w.heap.size w w' := by
  go_enter Try.func23, Try.ntmps23
  go_wp2_with fail
  refine (spec_ok b n _ hb0 hb1).mono ?_
  rintro e w1 ⟨rfl, g1⟩
  have o1 : w1.ownsRow (w.heap.size + 1) 4 1 (.slice (some ⟨w.heap.size + 1, 0, none⟩) 0 0) 0 (Bs []) := by
    have h := (World.ownsRow_made (base := w.heap.size + 1) (e := 4) (size := 1) (w.alloc (.cells #[.int .u16 b, .int .i64 n] 25)) #[] 0 (by simp) (by unfold maxLen; omega) (by simp)).kept (gb_below g1) (.inr (by simp [Value.ownBlock]))
    simpa [Bs] using h
  have b1 : Below w.heap.size w w1 := (((Below.refl _ _).alloc (Nat.le_refl _) _).alloc (by simp) _).trans (g1.mono (by simp; omega))
  clear g1
  go_wp2
  go_ret
  exact ⟨_, rfl, o1, b1⟩

def Ls (b n : Int) : List Bool := if okS 16 b n then (rb n.toNat b).reverse else []
theorem okS_nat {m b n : Int} (h : okS m b n = true) : ∃ N : Nat, n = N ∧ (N : Int) ≤ m ∧ b < 2 ^ N := by
  simp [okS] at h
  exact ⟨n.toNat, by omega, by omega, h.2.2⟩
theorem Ls_len (b n : Int) : (Ls b n).length ≤ 16 := by
  unfold Ls
  split
  · rename_i h
    obtain ⟨N, rfl, h1, h2⟩ := okS_nat h
    simp [rb_length]; omega
  · simp

theorem list_any (b n : Int) (w : World) (hb0 : 0 ≤ b) (hb1 : b ≤ 65535) :
    Calls Try.prog 23 #[.agg #[.int .u16 b, .int .i64 n]] w fun e w' => ∃ v, e = .returned v ∧ w'.ownsRow (w.heap.size + 1) 4 1 v (Ls b n).length (Bs (Ls b n)) ∧ Below w.heap.size w w' := by
  cases hok : okS 16 b n with
  | true =>
    obtain ⟨N, rfl, h1, h2⟩ := okS_nat hok
    have e : Ls b N = (rb N b).reverse := by simp [Ls, hok]
    rw [e]
    simpa [rb_length] using list_ok b N w hb0 hb1 (by omega) hok
  | false =>
    have e : Ls b n = [] := by simp [Ls, hok]
    rw [e]
    exact list_no b n w hb0 hb1 hok

theorem pw15 (k : Nat) (h : k < 16) : ∃ P : Int, Hid (P = 2 ^ k) ∧ 1 ≤ P ∧ P ≤ 32768 ∧ Hid ((2 : Int) ^ k % 65536 = P) := by
  have hk : ∀ j : Fin 16, 1 ≤ (2 : Int) ^ j.val ∧ (2 : Int) ^ j.val ≤ 32768 := by decide
  have h1 : 1 ≤ (2 : Int) ^ k ∧ (2 : Int) ^ k ≤ 32768 := hk ⟨k, h⟩
  exact ⟨_, rfl, h1.1, h1.2, by show _ = _; exact Int.emod_eq_of_lt (by omega) (by omega)⟩

theorem pnext {P : Int} {k : Nat} (h : P = 2 ^ k) : Value.int .u16 (IntKind.u16.wrap (P * 2)) = .int .u16 (2 ^ (k + 1) % 65536) := by
  rw [IntKind.wrap_u16, h, Int.pow_succ]

structure St (w : World) (bl : Nat) (b n : Int) : Prop where
  c0 : w.cell? ⟨bl, 0, none⟩ = some (.int .u16 b)
  c1 : w.cell? ⟨bl, 1, none⟩ = some (.int .i64 n)
  f0 : w.frozen? ⟨bl, 0, none⟩ = false
  f1 : w.frozen? ⟨bl, 1, none⟩ = false
theorem St.set0 {w : World} {bl : Nat} {b n : Int} (h : St w bl b n) (b' : Int) : St (w.setCell ⟨bl, 0, none⟩ (.int .u16 b')) bl b' n :=
  ⟨World.cell?_setCell_same _ _ _ h.c0, (World.cell?_setCell_other _ _ _ _ (by simp)).trans h.c1, by simpa using h.f0, by simpa using h.f1⟩
theorem St.set1 {w : World} {bl : Nat} {b n : Int} (h : St w bl b n) (n' : Int) : St (w.setCell ⟨bl, 1, none⟩ (.int .i64 n')) bl b n' :=
  ⟨(World.cell?_setCell_other _ _ _ _ (by simp)).trans h.c0, World.cell?_setCell_same _ _ _ h.c1, by simpa using h.f0, by simpa using h.f1⟩
theorem St.other {w : World} {bl : Nat} {b n : Int} (h : St w bl b n) (bl' o : Nat) (hne : bl' ≠ bl) (u : Value) : St (w.setCell ⟨bl', o, none⟩ u) bl b n :=
  ⟨(World.cell?_setCell_other _ _ _ _ (by simp)).trans h.c0, (World.cell?_setCell_other _ _ _ _ (by simp)).trans h.c1, by simpa using h.f0, by simpa using h.f1⟩
theorem St.eq {w : World} {bl : Nat} {b n b' n' : Int} (h : St w bl b n) (hb : b = b') (hn : n = n') : St w bl b' n' := by subst hb; subst hn; exact h

set_option maxHeartbeats 1000000 in
theorem stack_of (l : List Bool) (g cap : Nat) (w : World) (hl : l.length ≤ 1000) (hc : ∀ j x, l[j]? = some x → w.cell? ⟨g, j, none⟩ = some (.bool x)) (hg : g < w.heap.size) :
    Calls Try.prog 79 #[.slice (some ⟨g, 0, none⟩) l.length cap] w fun e w' => e = .returned (.agg #[.int .u16 (val (l.reverse.take 16)), .int .i64 (min l.length 16 : Nat)]) ∧ Below w.heap.size w w' := by
  obtain ⟨L, HL⟩ : ∃ L, Hid (L = l.length) := ⟨_, rfl⟩
  have hL : L ≤ 1000 := by rw [HL.out]; exact hl
  rw [← HL.out]
  go_enter Try.func79, Try.ntmps79
  go_wp2
  go_loopw [4, 5] (fun p i wr => ∃ k : Nat, k ≤ L ∧ k ≤ 16 ∧ i = .int .i64 ((L : Int) - 1 - k) ∧ p = .int .u16 (2 ^ k % 65536) ∧ St wr (w.heap.size + 1) (val (l.reverse.take k)) k ∧ St wr w.heap.size 0 0 ∧ Below w.heap.size w wr)
    (fun _ i _ => (intOf i + 1).toNat)
  case atStart =>
    refine ⟨0, Nat.zero_le _, Nat.zero_le _, by go_num, by simp, ⟨?_, ?_, ?_, ?_⟩, ⟨?_, ?_, ?_, ?_⟩, by go_grown⟩
    all_goals simp [val]
  case round =>
    obtain ⟨k, hk, hk16, rfl, rfl, hs, hs2, hbel⟩ := hrel
    have hs' := hs
    obtain ⟨c0, c1, f0, f1⟩ := hs
    have hs2' := hs2
    obtain ⟨d0, d1, g0, g1⟩ := hs2
    have hz : w.heap.size ≤ wr.heap.size := hbel.size
    by_cases hlt : k < L ∧ k < 16
    · obtain ⟨hlt1, hlt2⟩ := hlt
      obtain ⟨J, hJ⟩ : ∃ J : Nat, J + k + 1 = L := ⟨L - 1 - k, by omega⟩
      have eJ : (L : Int) - 1 - k = (J : Int) := by omega
      rw [eJ]
      clear eJ
      have hJl : J < l.length := by rw [← HL.out]; omega
      obtain ⟨x, hx⟩ : ∃ x, l[J]? = some x := ⟨_, List.getElem?_eq_getElem hJl⟩
      have hcx : wr.cell? ⟨g, J, none⟩ = some (.bool x) := (hbel.cell hg).trans (hc J x hx)
      have HV : Hid (val (l.reverse.take (k + 1)) = val (l.reverse.take k) + bit01 x * 2 ^ k) := by
        refine val_take_succ _ _ _ ?_
        rw [List.getElem?_reverse (by rw [← HL.out]; omega)]
        rw [show l.length - 1 - k = J by rw [← HL.out]; omega]
        exact hx
      obtain ⟨P, HP, hP1, hP2, HPm⟩ : ∃ P : Int, Hid (P = 2 ^ k) ∧ 1 ≤ P ∧ P ≤ 32768 ∧ Hid ((2 : Int) ^ k % 65536 = P) := pw15 k (by omega)
      obtain ⟨V, HVV, hV0, hV1⟩ : ∃ V : Int, Hid (V = val (l.reverse.take k)) ∧ 0 ≤ V ∧ V < P := by
        refine ⟨_, rfl, (val_bd _).1, ?_⟩
        rw [HP.out]
        refine Int.lt_of_lt_of_le (val_bd _).2 ?_
        rw [List.length_take, List.length_reverse, ← HL.out, Nat.min_eq_left (by omega)]
        exact Int.le_refl _
      rw [HPm.out]
      rw [← HVV.out] at c0 hs'
      clear hx
      cases x
      · go_wp2
        go_roundw
        case rel => exact ⟨k + 1, by omega, by omega, by go_num, pnext HP.out, (hs'.set1 _).eq (by rw [HV.out, ← HVV.out]; simp [bit01]) (by omega), (hs2'.other _ _ (by omega) _), by go_grown⟩
        case measure => simp [intOf]
      · go_wp2
        go_roundw
        case rel => exact ⟨k + 1, by omega, by omega, by go_num, pnext HP.out, ((hs'.set0 _).set1 _).eq (by rw [HV.out, ← HVV.out, HP.out]; simp [bit01]) (by omega), ((hs2'.other _ _ (by omega) _).other _ _ (by omega) _), by go_grown⟩
        case measure => simp [intOf]
    · by_cases hkL : k = L
      · have eJ : (L : Int) - 1 - k = -1 := by omega
        rw [eJ]
        have HKL : Hid (k = l.length) := by show k = _; rw [← HL.out]; exact hkL
        clear eJ hkL
        obtain ⟨q0, q1, _, _⟩ := (hs2'.set0 (val (List.take k l.reverse))).set1 (k : Int)
        have HF : Hid (Ending.returned (.agg #[.int .u16 (val (List.take k l.reverse)), .int .i64 (k : Int)]) = .returned (.agg #[.int .u16 (val (l.reverse.take 16)), .int .i64 (min L 16 : Nat)])) := by
          show _ = _
          have e1 : l.reverse.take k = l.reverse.take 16 := by rw [List.take_of_length_le (by rw [List.length_reverse, ← HKL.out]; omega), List.take_of_length_le (by rw [List.length_reverse, ← HKL.out]; omega)]
          have e2 : min L 16 = k := by have := HKL.out; have := HL.out; omega
          rw [e1, e2]
        go_wp2
        exact bodyPost_ret (v := .agg #[.int .u16 (val (List.take k l.reverse)), .int .i64 (k : Int)]) (by simp [results, Try.results79, go_sem, q0, q1]) rfl ⟨HF.out, by go_grown⟩
      · obtain rfl : k = 16 := by omega
        obtain ⟨J, hJ⟩ : ∃ J : Nat, J + 16 + 1 = L := ⟨L - 1 - 16, by omega⟩
        have eJ : (L : Int) - 1 - (16 : Nat) = (J : Int) := by omega
        rw [eJ]
        clear eJ
        obtain ⟨q0, q1, _, _⟩ := (hs2'.set0 (val (List.take 16 l.reverse))).set1 16
        have HF : Hid (Ending.returned (.agg #[.int .u16 (val (List.take 16 l.reverse)), .int .i64 16]) = .returned (.agg #[.int .u16 (val (l.reverse.take 16)), .int .i64 (min L 16 : Nat)])) := by
          show _ = _
          have e2 : min L 16 = 16 := by omega
          rw [e2]; rfl
        go_wp2
        exact bodyPost_ret (v := .agg #[.int .u16 (val (List.take 16 l.reverse)), .int .i64 16]) (by simp [results, Try.results79, go_sem, q0, q1]) rfl ⟨HF.out, by go_grown⟩
end Go.Proofs.Ytlpeianinlnbeaa
