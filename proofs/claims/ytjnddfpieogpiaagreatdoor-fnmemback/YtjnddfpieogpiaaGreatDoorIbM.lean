/- What the words of a memory's text put, on both sides. -/
import Derived.Test.YtjnddfpieogpiaaGreatDoorIa
import Derived.Test.YtjnddfpieogpiaaGreatDoorHr
import Derived.Lib.SlTrimSet
namespace Go.Proofs.YtjnddfpieogpiaaGreatDoor.Rr
open Go.RowKit
open Go.Lib (decDigits itoa)
set_option linter.unusedVariables false

theorem bt_bitI (x p : Nat) : btest x p = x.testBit p := by
  rw [btest_nat, Nat.testBit_eq_decide_div_mod_eq]
theorem bput_yes (x p i : Int) (h0 : 0 ≤ x) (hx : x < 18446744073709551616) (p0 : 0 ≤ p) (hp : p < 64) (i0 : 0 ≤ i) (hi : i < 64) : btest (bput x p true) i = if p = i then true else btest x i := by
  obtain ⟨x, rfl⟩ := Int.eq_ofNat_of_zero_le h0
  obtain ⟨p, rfl⟩ := Int.eq_ofNat_of_zero_le p0
  obtain ⟨i, rfl⟩ := Int.eq_ofNat_of_zero_le i0
  rw [bput_nat x p true (by omega) (by omega), if_pos rfl, bt_bitI, bt_bitI, Nat.testBit_or, Nat.testBit_two_pow]
  by_cases h : p = i
  · simp [h]
  · rw [if_neg (by omega)]; simp [h]
theorem word_setI {c : Array Value} {i : Nat} (h : i < c.size) (k : IntKind) (n : Int) : word (c.setIfInBounds i (.int k n)) i = n :=
  word_of (Array.getElem?_setIfInBounds_self_of_lt h)
theorem get_ne {d : Array Value} {i j : Nat} (h : i ≠ j) (v : Value) : (d.setIfInBounds i v)[j]? = d[j]? := Array.getElem?_setIfInBounds_ne h
theorem get_self {d : Array Value} {i : Nat} (h : i < d.size) (v : Value) : (d.setIfInBounds i v)[i]? = some v := Array.getElem?_setIfInBounds_self_of_lt h

theorem eff_bit {c d : Array Value} (hd : MemOk d) {k n : Nat} (hp : OkP k n) (h5 : k ≤ 5) (hm : btest (word c (k - 1)) (n : Int) = true) {kk kk' : IntKind} {x : Int} (hx : d[k - 1]? = some (.int kk x)) (x0 : 0 ≤ x) (x1 : x < 18446744073709551616) :
    Eff c d (d.setIfInBounds (k - 1) (.int kk' (bput (word d (k - 1)) (n : Int) true))) k n := by
  have hs := hd.size
  have hn : n < 64 := by rcases hp with ⟨_, hn⟩ | ⟨_, hn⟩ | ⟨_, hn⟩ | ⟨_, hn⟩ | ⟨_, hn⟩ | ⟨_, hn⟩ | ⟨_, hn⟩ | ⟨_, hn⟩ | ⟨_, hn⟩ | ⟨_, hn⟩ | ⟨_, hn⟩ | ⟨_, hn⟩ <;> omega
  refine ⟨fun i hi => get_ne (fun e => hi ((at_low (by omega)).2 e.symm)) _, ?_, fun _ m hm2 h64 => ?_⟩
  · rw [ag_low _ _ _ (by omega), word_setI (by omega), word_of hx, bput_yes x n n x0 x1 (by omega) (by omega) (by omega) (by omega), if_pos rfl, hm]
  · rw [word_setI (by omega), word_of hx, bput_yes x n m x0 x1 (by omega) (by omega) (by omega) (by omega), if_neg (by omega)]
theorem eff_7 {c d : Array Value} (hd : MemOk d) {n : Nat} (hn : n < 16) {v1 v2 : Value} (h1 : c[5 + 2 * n]? = some v1) (h2 : c[5 + 2 * n + 1]? = some v2) : Eff c d ((d.setIfInBounds (5 + n * 2) v1).setIfInBounds (5 + n * 2 + 1) v2) 7 n := by
  have hs := hd.size
  rw [show 5 + n * 2 = 5 + 2 * n by omega]
  refine ⟨fun i hi => ?_, ?_, fun h => by omega⟩
  · have hi : ¬ (i = 5 + 2 * n ∨ i = 5 + 2 * n + 1) := hi
    rw [get_ne (by omega), get_ne (by omega)]
  · refine (ag_7 _ _ _).2 ⟨?_, ?_⟩
    · rw [get_ne (by omega), get_self (by omega), h1]
    · rw [get_self (by simp; omega), h2]
theorem eff_8 {c d : Array Value} (hd : MemOk d) {n : Nat} (hn : n < 16) {v1 v2 v3 : Value} (h1 : c[37 + 3 * n]? = some v1) (h2 : c[37 + 3 * n + 1]? = some v2) (h3 : c[37 + 3 * n + 2]? = some v3) : Eff c d (((d.setIfInBounds (37 + n * 3) v1).setIfInBounds (37 + n * 3 + 1) v2).setIfInBounds (37 + n * 3 + 2) v3) 8 n := by
  have hs := hd.size
  rw [show 37 + n * 3 = 37 + 3 * n by omega]
  refine ⟨fun i hi => ?_, ?_, fun h => by omega⟩
  · have hi : ¬ (i = 37 + 3 * n ∨ i = 37 + 3 * n + 1 ∨ i = 37 + 3 * n + 2) := hi
    rw [get_ne (by omega), get_ne (by omega), get_ne (by omega)]
  · refine (ag_8 _ _ _).2 ⟨?_, ?_, ?_⟩
    · rw [get_ne (by omega), get_ne (by omega), get_self (by omega), h1]
    · rw [get_ne (by omega), get_self (by simp; omega), h2]
    · rw [get_self (by simp; omega), h3]
theorem eff_9 {c d : Array Value} (hd : MemOk d) {n : Nat} (hn : n < 32) {v1 : Value} (h1 : c[85 + n]? = some v1) : Eff c d (d.setIfInBounds (85 + n) v1) 9 n := by
  have hs := hd.size
  refine ⟨fun i hi => ?_, ?_, fun h => by omega⟩
  · have hi : ¬ (i = 85 + n) := hi
    rw [get_ne (by omega)]
  · exact (ag_9 _ _ _).2 (by rw [get_self (by omega), h1])
theorem eff_10 {c d : Array Value} (hd : MemOk d) {n : Nat} (hn : n < 16) {x y : Nat} (h1 : c[117 + n]? = some (.float .f64 x)) (hs : Same y x) : Eff c d (d.setIfInBounds (117 + n) (.float .f64 y)) 10 n := by
  have hz := hd.size
  refine ⟨fun i hi => ?_, ?_, fun h => by omega⟩
  · have hi : ¬ (i = 117 + n) := hi
    rw [get_ne (by omega)]
  · refine (ag_10 _ _ _).2 ?_
    rw [get_self (by omega), h1]
    exact congrArg some (same_exact.1 hs)
theorem eff_11 {c d : Array Value} (hd : MemOk d) {v : Value} (h1 : c[133]? = some v) : Eff c d (d.setIfInBounds 133 v) 11 0 := by
  have hz := hd.size
  refine ⟨fun i hi => ?_, (ag_11 _ _ _).2 (by rw [get_self (by omega), h1]), fun h => by omega⟩
  have hi : ¬ (i = 133) := hi
  rw [get_ne (by omega)]
theorem eff_12 {c d : Array Value} (hd : MemOk d) {v : Value} (h1 : c[134]? = some v) : Eff c d (d.setIfInBounds 134 v) 12 0 := by
  have hz := hd.size
  refine ⟨fun i hi => ?_, (ag_12 _ _ _).2 (by rw [get_self (by omega), h1]), fun h => by omega⟩
  have hi : ¬ (i = 134) := hi
  rw [get_ne (by omega)]
theorem eff_13 {c d : Array Value} (hd : MemOk d) {v : Value} (h1 : c[135]? = some v) : Eff c d (d.setIfInBounds 135 v) 13 0 := by
  have hz := hd.size
  refine ⟨fun i hi => ?_, (ag_13 _ _ _).2 (by rw [get_self (by omega), h1]), fun h => by omega⟩
  have hi : ¬ (i = 135) := hi
  rw [get_ne (by omega)]

/- Names of devices, read. -/
theorem okP_size {k n : Nat} (h : OkP k n) (hk : k ≤ 10) : 1 ≤ k ∧ k ≤ 10 ∧ n < (kS (k : Int)).toNat := by
  rcases h with ⟨rfl, hn⟩ | ⟨rfl, hn⟩ | ⟨rfl, hn⟩ | ⟨rfl, hn⟩ | ⟨rfl, hn⟩ | ⟨rfl, hn⟩ | ⟨rfl, hn⟩ | ⟨rfl, hn⟩ | ⟨rfl, hn⟩ | ⟨rfl, hn⟩ | ⟨rfl, hn⟩ | ⟨rfl, hn⟩
  all_goals (first | omega | exact ⟨by omega, by omega, hn⟩)
theorem shape_word13 {k n p : Int} {s : ByteArray} (h : Shape k n p s) (hk : k = 13) : ∃ i : Nat, i < 4 ∧ s = wd i := by
  cases h with
  | word i h => exact ⟨i, h, rfl⟩
  | dev k u h1 h2 h3 => omega
  | pos u h => omega
  | neg u h0 h => omega
  | dpos u p h hp => omega
  | dneg u p h0 h hp => omega
theorem shape_head {k n p : Int} {s : ByteArray} (h : Shape k n p s) : ∃ b r, s.data.toList = b :: r ∧ b.toNat ≠ 116 ∧ b.toNat ≠ 114 ∧ b.toNat ≠ 102 := by
  cases h with
  | word i h =>
    rcases c4 i h with rfl | rfl | rfl | rfl
    · exact ⟨110, [97, 110], rfl, by decide, by decide, by decide⟩
    · exact ⟨105, [110, 102], rfl, by decide, by decide, by decide⟩
    · exact ⟨45, [105, 110, 102], rfl, by decide, by decide, by decide⟩
    · exact ⟨45, [48, 46, 48], rfl, by decide, by decide, by decide⟩
  | dev k u h1 h2 h3 =>
    refine ⟨lc k, decDigits u, tx_list _, ?_⟩
    rcases c10 k h1 h2 with rfl | rfl | rfl | rfl | rfl | rfl | rfl | rfl | rfl | rfl <;> decide
  | pos u h =>
    obtain ⟨b, r, e, hb⟩ := dec_cons u
    have hb : 48 ≤ b.toNat ∧ b.toNat ≤ 57 := hb
    exact ⟨b, r, by rw [tx_list, e], by omega, by omega, by omega⟩
  | neg u h0 h => exact ⟨45, _, tx_list _, by decide, by decide, by decide⟩
  | dpos u p h hp =>
    obtain ⟨b, r, e, hb⟩ := cut_cons u p
    have hb : 48 ≤ b.toNat ∧ b.toNat ≤ 57 := hb
    exact ⟨b, r, by rw [tx_list, e], by omega, by omega, by omega⟩
  | dneg u p h0 h hp => exact ⟨45, _, tx_list _, by decide, by decide, by decide⟩
theorem rd_none (s : ByteArray) (h : ∀ b r, s.data.toList = b :: r → b.toNat = 116 ∨ b.toNat = 114 ∨ b.toNat = 102) : rdH s = (0, 0, 0) := by
  cases hb : rbH s with
  | false => exact (rdH_no hb).1
  | true =>
    exfalso
    obtain ⟨g1, g2⟩ := rdH_yes hb
    obtain ⟨b, r, e, h1, h2, h3⟩ := shape_head (shape_of g1)
    rw [g2] at e
    have := h b r e
    omega
theorem nmT_txt (k n : Nat) (h1 : 1 ≤ k) (h2 : k ≤ 10) (hn : n < (kS (k : Int)).toNat) : txt k n 0 = nmT k n := by
  unfold txt nmT
  rw [okA_dev k n h1 h2 hn, if_pos rfl, if_neg (by omega), if_neg (by omega)]
theorem rd_dev (k n : Nat) (h1 : 1 ≤ k) (h2 : k ≤ 10) (hn : n < (kS (k : Int)).toNat) : rbH (nmT k n) = true ∧ rdH (nmT k n) = ((k : Int), (n : Int), 0) := by
  have ho := okA_dev k n h1 h2 hn
  have he := nmT_txt k n h1 h2 hn
  have hp : IsOpH (nmT k n) := ⟨((k : Int), (n : Int), 0), ho, he⟩
  have hb : rbH (nmT k n) = true := by unfold rbH; exact @decide_eq_true _ (Classical.propDecidable _) hp
  refine ⟨hb, ?_⟩
  obtain ⟨g1, g2⟩ := rdH_yes hb
  have s1 := shape_of ho
  have s2 := shape_of g1
  rw [he] at s1
  rw [g2] at s2
  have q1 := s1.gI (by omega)
  by_cases h13 : (rdH (nmT k n)).1 = 13
  · exfalso
    obtain ⟨i, hi, e⟩ := shape_word13 s2 h13
    exact s1.nw (by omega) i hi e
  · have q2 := s2.gI h13
    rw [q1] at q2
    exact q2.symm

/- The parts of a word. -/
theorem ext_list (s : ByteArray) (a b : Nat) : (s.extract a b).data.toList = (s.data.toList.drop a).take (b - a) := by
  rw [ByteArray.data_extract, Array.toList_extract, List.extract_eq_take_drop]
theorem ba_eq {a b : ByteArray} (h : a.data.toList = b.data.toList) : a = b := by
  apply ByteArray.ext; apply Array.ext'; exact h
theorem nm_list (k n : Nat) (h1 : 1 ≤ k) (h2 : k ≤ 10) : (nmT k n).data.toList = lt k :: itoa n := by
  unfold nmT
  rw [ByteArray.data_append, Array.toList_append, (lt_one k h1 h2).1, tx_list]; rfl
theorem lt_sign {k : Nat} (h1 : 1 ≤ k) (h2 : k ≤ 10) (g : UInt8) (hg : g.toNat < 65 ∨ 90 < g.toNat) : lt k ≠ g := by
  intro e
  have := (lt_one k h1 h2).2
  rw [e] at this
  omega
theorem name_sign {k : Nat} (h1 : 1 ≤ k) (h2 : k ≤ 10) (n : Nat) : ∀ b ∈ lt k :: itoa n, b ≠ 61 := fun b hb => by
  rcases List.mem_cons.1 hb with rfl | hb
  · exact lt_sign h1 h2 61 (by decide)
  · exact (itoa_signs n b hb).2.1
theorem cut_none {l : List UInt8} (h : ∀ b ∈ l, b ≠ 61) : Lib.cut l [61] = (l, [], false) := by
  unfold Lib.cut; rw [index_none 61 l h, if_neg (by decide)]
theorem index_mid {x y : List UInt8} (h : ∀ b ∈ x, b ≠ 61) : Lib.index (x ++ 61 :: y) [61] = (x.length : Int) :=
  index_at 61 _ x.length (by rw [List.take_left' rfl]; exact h) (by simp)
theorem cut_mid {x y : List UInt8} (h : ∀ b ∈ x, b ≠ 61) : Lib.cut (x ++ 61 :: y) [61] = (x, y, true) := by
  unfold Lib.cut
  rw [index_mid h, if_pos (by omega)]
  simp
theorem low_word (rt : Nat → List UInt8) (c : Array Value) {k : Nat} (n : Nat) (h : k ≤ 6) : wdT rt c k n = nmT k n := by
  unfold wdT; rw [vT_low h]; exact ba_nil _
theorem high_list (rt : Nat → List UInt8) (c : Array Value) {k n : Nat} (h1 : 7 ≤ k) (h2 : k ≤ 10) : (wdT rt c k n).data.toList = (lt k :: itoa n) ++ 61 :: tail7 rt c k n := by
  rw [wd_list rt c k n (by omega) h2, vT_high rt c k n h1 h2]; rfl
theorem high_name (rt : Nat → List UInt8) (c : Array Value) {k n : Nat} (h1 : 7 ≤ k) (h2 : k ≤ 10) : (wdT rt c k n).extract 0 (lt k :: itoa n).length = nmT k n := by
  apply ba_eq
  rw [ext_list, high_list rt c h1 h2, nm_list k n (by omega) h2, List.drop_zero, Nat.sub_zero, List.take_left' rfl]
theorem high_tail (rt : Nat → List UInt8) (c : Array Value) {k n : Nat} (h1 : 7 ≤ k) (h2 : k ≤ 10) : (wdT rt c k n).extract ((lt k :: itoa n).length + 1) (wdT rt c k n).size = tx (tail7 rt c k n) := by
  apply ba_eq
  have hsz : (wdT rt c k n).size = (wdT rt c k n).data.toList.length := by simp
  rw [ext_list, hsz, high_list rt c h1 h2, tx_list]
  have e : ((lt k :: itoa n) ++ 61 :: tail7 rt c k n) = ((lt k :: itoa n) ++ [61]) ++ tail7 rt c k n := by simp
  have hl : (lt k :: itoa n).length + 1 = ((lt k :: itoa n) ++ [61]).length := by simp
  rw [e, hl, List.drop_left' rfl, List.length_append, Nat.add_sub_cancel_left, List.take_length]

/- Numbers with marks behind them. -/
def mk (b : Bool) (g : UInt8) : List UInt8 := if b then [g] else []
theorem tail7_7 (rt : Nat → List UInt8) (c : Array Value) (n : Nat) : tail7 rt c 7 n = itoa (word c (5 + 2 * n + 1)) ++ mk (flag c (5 + 2 * n)) 33 ++ mk false 43 := by
  unfold tail7 mk; simp
theorem tail7_8 (rt : Nat → List UInt8) (c : Array Value) (n : Nat) : tail7 rt c 8 n = itoa (word c (37 + 3 * n + 2)) ++ mk (flag c (37 + 3 * n)) 33 ++ mk (flag c (37 + 3 * n + 1)) 43 := by
  unfold tail7 mk; simp
theorem tail7_9 (rt : Nat → List UInt8) (c : Array Value) (n : Nat) : tail7 rt c 9 n = itoa (word c (85 + n)) ++ mk false 33 ++ mk false 43 := by
  unfold tail7 mk; simp
theorem tail7_10 (rt : Nat → List UInt8) (c : Array Value) (n : Nat) : tail7 rt c 10 n = rt (rbits c (117 + n)) := by
  unfold tail7; simp
theorem tail_yes (l : List UInt8) (g : UInt8) : tailB (tx (l ++ [g])) g = (tx l, true) := by
  unfold tailB
  rw [tx_list, if_pos (by simp)]
  have : (tx (l ++ [g])).extract 0 ((tx (l ++ [g])).size - 1) = tx l := by
    apply ba_eq
    rw [ext_list, tx_list, tx_list, tx_size]
    simp
  rw [this]
theorem tail_no (l : List UInt8) (g : UInt8) (h : ∀ b, l.getLast? = some b → b ≠ g) : tailB (tx l) g = (tx l, false) := by
  unfold tailB
  rw [tx_list, if_neg (fun e => h g e rfl)]
theorem last_itoa (m : Int) (b : UInt8) (h : (itoa m).getLast? = some b) : b ≠ 33 ∧ b ≠ 43 :=
  (itoa_signs m b (List.mem_of_getLast? h)).2.2
theorem tails (m : Int) (f g : Bool) : tailB (tx (itoa m ++ mk f 33 ++ mk g 43)) 43 = (tx (itoa m ++ mk f 33), g) ∧ tailB (tx (itoa m ++ mk f 33)) 33 = (tx (itoa m), f) := by
  constructor
  · cases g with
    | true => exact tail_yes _ _
    | false =>
      have e : itoa m ++ mk f 33 ++ mk false 43 = itoa m ++ mk f 33 := by simp [mk]
      rw [e]
      refine tail_no _ _ fun b hb => ?_
      cases f with
      | true =>
        have : (itoa m ++ mk true 33).getLast? = some 33 := by simp [mk]
        rw [this] at hb
        obtain rfl := Option.some.inj hb
        decide
      | false =>
        have e : itoa m ++ mk false 33 = itoa m := by simp [mk]
        rw [e] at hb
        exact (last_itoa m b hb).2
  · cases f with
    | true => exact tail_yes _ _
    | false =>
      have e : itoa m ++ mk false 33 = itoa m := by simp [mk]
      rw [e]
      exact tail_no _ _ fun b hb => (last_itoa m b hb).1
theorem nm_itoa {m : Int} (h : m.natAbs < 100000000000000000) : nmH (tx (itoa m)) = (m, true) := nmH_yes h (tx_list _)
theorem wrap16 {m : Int} (h0 : 0 ≤ m) (h1 : m < 65536) : IntKind.u16.wrap m = m := by
  have : IntKind.u16.wrap m = m % 65536 := by simp [IntKind.wrap, IntKind.bits, IntKind.signed]
  rw [this]; omega
theorem wrapI16 {m : Int} (h0 : -32768 ≤ m) (h1 : m < 32768) : IntKind.i16.wrap m = m := by
  have e : IntKind.i16.wrap m = if m % 65536 ≥ 32768 then m % 65536 - 65536 else m % 65536 := by simp [IntKind.wrap, IntKind.bits, IntKind.signed]
  rw [e]; split <;> omega
theorem wrap32 {m : Int} (h0 : 0 ≤ m) (h1 : m < 4294967296) : IntKind.u32.wrap m = m := by
  have : IntKind.u32.wrap m = m % 4294967296 := by simp [IntKind.wrap, IntKind.bits, IntKind.signed]
  rw [this]; omega
end Go.Proofs.YtjnddfpieogpiaaGreatDoor.Rr
/- Each word of a memory's text puts its own place alone: the specification's reading and the program's. -/
namespace Go.Proofs.YtjnddfpieogpiaaGreatDoor.Rr
open Go.RowKit
open Go.Lib (decDigits itoa)
set_option linter.unusedVariables false

theorem pl_in {k : Int} {W : Int} {n : Nat} (hW : kZ k = W) (hn : (n : Int) < W) : pl k (n : Int) = n := by
  unfold pl; rw [hW, if_neg (by omega)]; exact Int.emod_eq_of_lt (by omega) hn
/-- A bit that is told, as it is put. -/
theorem bit_put {rt : Nat → List UInt8} {c d : Array Value} (hd : MemOk d) {k n : Nat} (hp : OkP k n) (h5 : k ≤ 5) (hv : vP rt c k n = true) : Eff c d (putx d (k : Int) (n : Int)) k n ∧ MemOk (putx d (k : Int) (n : Int)) := by
  refine ⟨?_, memOk_putx hd _ _⟩
  rw [vP_low (by omega)] at hv
  have hp0 := hp
  rcases hp with ⟨rfl, hn⟩ | ⟨rfl, hn⟩ | ⟨rfl, hn⟩ | ⟨rfl, hn⟩ | ⟨rfl, hn⟩ | ⟨rfl, hn⟩ | ⟨rfl, hn⟩ | ⟨rfl, hn⟩ | ⟨rfl, hn⟩ | ⟨rfl, hn⟩ | ⟨rfl, hn⟩ | ⟨rfl, hn⟩
  · have ep : pl 1 (n : Int) = n := pl_in (W := 32) rfl (by omega)
    obtain ⟨x, hx, x0, x1⟩ := hd.u32 (i := 0) (by omega) rfl
    have hv : btest (word c 0) (pl 1 (n : Int)) = true := hv
    have e : putx d ((1 : Nat) : Int) (n : Int) = d.setIfInBounds 0 (.int .u32 (bput (word d 0) (pl 1 (n : Int)) true)) := rfl
    rw [e]; rw [ep] at hv ⊢
    exact eff_bit hd hp0 h5 hv hx x0 (by omega)
  · have ep : pl 2 (n : Int) = n := pl_in (W := 32) rfl (by omega)
    obtain ⟨x, hx, x0, x1⟩ := hd.u32 (i := 1) (by omega) rfl
    have hv : btest (word c 1) (pl 2 (n : Int)) = true := hv
    have e : putx d ((2 : Nat) : Int) (n : Int) = d.setIfInBounds 1 (.int .u32 (bput (word d 1) (pl 2 (n : Int)) true)) := rfl
    rw [e]; rw [ep] at hv ⊢
    exact eff_bit hd hp0 h5 hv hx x0 (by omega)
  · have ep : pl 3 (n : Int) = n := pl_in (W := 64) rfl (by omega)
    obtain ⟨x, hx, x0, x1⟩ := hd.u64 (i := 2) (by omega) rfl
    have hv : btest (word c 2) (pl 3 (n : Int)) = true := hv
    have e : putx d ((3 : Nat) : Int) (n : Int) = d.setIfInBounds 2 (.int .u64 (bput (word d 2) (pl 3 (n : Int)) true)) := rfl
    rw [e]; rw [ep] at hv ⊢
    exact eff_bit hd hp0 h5 hv hx x0 (by omega)
  · have ep : pl 4 (n : Int) = n := pl_in (W := 16) rfl (by omega)
    obtain ⟨x, hx, x0, x1⟩ := hd.u16 (i := 3) (by omega) rfl
    have hv : btest (word c 3) (pl 4 (n : Int)) = true := hv
    have e : putx d ((4 : Nat) : Int) (n : Int) = d.setIfInBounds 3 (.int .u16 (bput (word d 3) (pl 4 (n : Int)) true)) := rfl
    rw [e]; rw [ep] at hv ⊢
    exact eff_bit hd hp0 h5 hv hx x0 (by omega)
  · have ep : pl 5 (n : Int) = n := pl_in (W := 32) rfl (by omega)
    obtain ⟨x, hx, x0, x1⟩ := hd.u32 (i := 4) (by omega) rfl
    have hv : btest (word c 4) (pl 5 (n : Int)) = true := hv
    have e : putx d ((5 : Nat) : Int) (n : Int) = d.setIfInBounds 4 (.int .u32 (bput (word d 4) (pl 5 (n : Int)) true)) := rfl
    rw [e]; rw [ep] at hv ⊢
    exact eff_bit hd hp0 h5 hv hx x0 (by omega)
  all_goals omega

/-- What the value of a device puts: cells as c has them (a real number up to Same). -/
def Val (c d e : Array Value) (k n : Nat) : Prop :=
  (k = 7 ∧ e = (d.setIfInBounds (5 + n * 2) (.bool (flag c (5 + 2 * n)))).setIfInBounds (5 + n * 2 + 1) (.int .u16 (IntKind.u16.wrap (word c (5 + 2 * n + 1))))) ∨
  (k = 8 ∧ e = ((d.setIfInBounds (37 + n * 3) (.bool (flag c (37 + 3 * n)))).setIfInBounds (37 + n * 3 + 1) (.bool (flag c (37 + 3 * n + 1)))).setIfInBounds (37 + n * 3 + 2) (.int .u16 (IntKind.u16.wrap (word c (37 + 3 * n + 2))))) ∨
  (k = 9 ∧ e = d.setIfInBounds (85 + n) (.int .i16 (IntKind.i16.wrap (word c (85 + n))))) ∨
  (k = 10 ∧ ∃ x, Same x (rbits c (117 + n)) ∧ x < 18446744073709551616 ∧ e = d.setIfInBounds (117 + n) (.float .f64 x))
theorem Val.eff {c d e : Array Value} (hc : MemOk c) (hd : MemOk d) {k n : Nat} (hp : OkP k n) (h : Val c d e k n) : Eff c d e k n ∧ MemOk e := by
  rcases h with ⟨rfl, rfl⟩ | ⟨rfl, rfl⟩ | ⟨rfl, rfl⟩ | ⟨rfl, x, hs, hx, rfl⟩
  · have hn : n < 16 := by unfold OkP at hp; omega
    obtain ⟨b, m, hb, hm, hmr, -, -⟩ := timer_at hc hn
    rw [show 5 + n * 2 = 5 + 2 * n by omega] at hb hm
    obtain ⟨k1, k2⟩ := kd_t hn
    constructor
    · refine eff_7 hd hn ?_ ?_
      · rw [flag_of hb]; exact hb
      · rw [word_of hm, wrap16 hmr.1 hmr.2]; exact hm
    · rw [show 5 + n * 2 = 5 + 2 * n by omega]
      exact hh_set (hh_set hd _ (hh_bool _ k1)) _ (hh_u16 _ k2)
  · have hn : n < 16 := by unfold OkP at hp; omega
    obtain ⟨b, l, m, hb, hl, hm, hmr, -, -⟩ := counter_at hc hn
    rw [show 37 + n * 3 = 37 + 3 * n by omega] at hb hl hm
    obtain ⟨k1, k2, k3⟩ := kd_c hn
    constructor
    · refine eff_8 hd hn ?_ ?_ ?_
      · rw [flag_of hb]; exact hb
      · rw [flag_of hl]; exact hl
      · rw [word_of hm, wrap16 hmr.1 hmr.2]; exact hm
    · rw [show 37 + n * 3 = 37 + 3 * n by omega]
      exact hh_set (hh_set (hh_set hd _ (hh_bool _ k1)) _ (hh_bool _ k2)) _ (hh_u16 _ k3)
  · have hn : n < 32 := by unfold OkP at hp; omega
    obtain ⟨m, hm, hmr, -, -⟩ := data_at hc hn
    constructor
    · refine eff_9 hd hn ?_
      rw [word_of hm, wrapI16 hmr.1 hmr.2]; exact hm
    · exact hh_set hd _ (hh_i16 _ (kd_d hn))
  · have hn : n < 16 := by unfold OkP at hp; omega
    obtain ⟨y, hy, hyb, -, -⟩ := real_at (fun _ => []) hc hn
    rw [rbits_of hy] at hs
    constructor
    · exact eff_10 hd hn hy hs
    · refine hh_set hd _ ?_
      rw [kd_r hn]
      simp [CellIs, Value.oneCell', FloatKind.has]
      exact hx

/-- The specification: a word of a device. -/
theorem wto_dev {rt : Nat → List UInt8} (hrt : RtOk rt) {c d e : Array Value} (hc : MemOk c) (hd : MemOk d) {k n : Nat} (hk : k ≤ 10) (hp : OkP k n) (hv : vP rt c k n = true) (h : WTo rdsH d (wdT rt c k n) e) : Eff c d e k n ∧ MemOk e := by
  obtain ⟨h1, h2, hn⟩ := okP_size hp hk
  obtain ⟨rb, rd⟩ := rd_dev k n h1 h2 hn
  have rb' : rdsH.rb (nmT k n) = true := rb
  have rd' : rdsH.rd (nmT k n) = ((k : Int), (n : Int), 0) := rd
  have nm' : ∀ m : Int, m.natAbs < 100000000000000000 → rdsH.nm (tx (itoa m)) = (m, true) := fun m hm => nm_itoa hm
  have hd0 : ∀ (g : UInt8) (r : List UInt8), 97 ≤ g.toNat → (wdT rt c k n).data.toList ≠ g :: r := fun g r hg e => by
    rw [wd_list rt c k n h1 h2] at e
    injection e with e1 e2
    exact lt_ne h1 h2 g hg e1
  unfold WTo at h
  rw [if_neg (hd0 _ _ (by decide)), if_neg (hd0 _ _ (by decide))] at h
  by_cases h6 : k ≤ 6
  · have h5 : k ≤ 5 := by unfold OkP at hp; omega
    have hw := low_word rt c n h6
    have hi : Lib.index (wdT rt c k n).data.toList [61] = -1 := by
      rw [hw, nm_list k n h1 h2]
      exact index_none 61 _ (name_sign h1 h2 n)
    rw [if_neg (by rw [hi]; omega), if_neg (by rw [hi]; omega)] at h
    rw [hw, if_pos rb', rd'] at h
    have hb := bit_put (rt := rt) hd hp h5 hv
    by_cases k1 : k = 1
    · subst k1
      rw [if_pos (by rfl)] at h
      have e2 : putx d ((1 : Nat) : Int) (n : Int) = e := by
        rw [h]
        show d.setIfInBounds 0 (.int .u32 (bput (word d 0) (pl 1 (n : Int)) true)) = _
        rw [pl_in (W := 32) rfl (by have : n < 32 := hn; omega)]
      rw [e2] at hb
      exact hb
    · rw [if_neg (by simp; omega)] at h
      have e2 : putx d (k : Int) (n : Int) = e := by
        rw [h]; unfold putx; rw [if_neg (by omega)]
      rw [e2] at hb
      exact hb
  · have h7 : 7 ≤ k := by omega
    have hi : Lib.index (wdT rt c k n).data.toList [61] = ((lt k :: itoa n).length : Int) := by
      rw [high_list rt c h7 h2]
      exact index_mid (name_sign h1 h2 n)
    have hpos : 0 < (lt k :: itoa (n : Int)).length := by simp
    have hnt : ¬ (Lib.index (wdT rt c k n).data.toList [61] = 4 ∧ ((wdT rt c k n).extract 0 4).data.toList = [116, 105, 109, 101]) := by
      rintro ⟨-, e⟩
      rw [ext_list, wd_list rt c k n h1 h2, List.drop_zero] at e
      simp only [Nat.sub_zero, List.take_succ_cons] at e
      injection e with e1 e2
      exact lt_ne h1 h2 116 (by decide) e1
    rw [if_neg hnt, if_pos (by rw [hi]; omega), hi, Int.toNat_natCast, high_name rt c h7 h2, high_tail rt c h7 h2] at h
    rw [if_pos rb', rd'] at h
    simp only [Int.toNat_natCast] at h
    refine Val.eff hc hd hp ?_
    unfold VTo at h
    rcases (by omega : k = 7 ∨ k = 8 ∨ k = 9 ∨ k = 10) with rfl | rfl | rfl | rfl
    · have hn16 : n < 16 := hn
      obtain ⟨b, m, hb, hm, hmr, -, -⟩ := timer_at hc hn16
      rw [show 5 + n * 2 = 5 + 2 * n by omega] at hb hm
      rw [if_neg (by decide), tail7_7, flag_of hb, word_of hm] at h
      obtain ⟨t1, t2⟩ := tails m b false
      rw [t1] at h
      simp only [t2] at h
      rw [nm' m (by omega), vput_7 _ _ _ _ _ _ _ (by simp; omega) (by rfl)] at h
      exact .inl ⟨rfl, by rw [h, flag_of hb, word_of hm]⟩
    · have hn16 : n < 16 := hn
      obtain ⟨b, l, m, hb, hl, hm, hmr, -, -⟩ := counter_at hc hn16
      rw [show 37 + n * 3 = 37 + 3 * n by omega] at hb hl hm
      rw [if_neg (by decide), tail7_8, flag_of hb, flag_of hl, word_of hm] at h
      obtain ⟨t1, t2⟩ := tails m b l
      rw [t1] at h
      simp only [t2] at h
      rw [nm' m (by omega), vput_8 _ _ _ _ _ _ _ (by simp; omega) (by rfl)] at h
      exact .inr (.inl ⟨rfl, by rw [h, flag_of hb, flag_of hl, word_of hm]⟩)
    · have hn32 : n < 32 := hn
      obtain ⟨m, hm, hmr, -, -⟩ := data_at hc hn32
      rw [if_neg (by decide), tail7_9, word_of hm] at h
      obtain ⟨t1, t2⟩ := tails m false false
      rw [t1] at h
      simp only [t2] at h
      rw [nm' m (by omega), vput_9 _ _ _ _ _ _ _ (by simp; omega) (by rfl)] at h
      exact .inr (.inr (.inl ⟨rfl, by rw [h, word_of hm]⟩))
    · have hn16 : n < 16 := hn
      obtain ⟨y, hy, hyb, -, -⟩ := real_at rt hc hn16
      rw [if_pos (by rfl), tail7_10, rbits_of hy] at h
      obtain ⟨x, b, hRP, he⟩ := h
      have hRP : Rd2 (tx (rt y)).data.toList x b := hRP
      rw [tx_list] at hRP
      obtain ⟨hx, hR⟩ := hRP
      have hT := rt_txt hrt y
      rcases hR with ⟨-, hT2⟩ | ⟨-, -, hno⟩
      · refine .inr (.inr (.inr ⟨rfl, x, by rw [rbits_of hy]; exact Txt.inj hx hyb hT2 hT, hx, ?_⟩))
        rw [he]
        unfold putk
        rw [if_pos rfl, pl_in (W := 16) rfl (by omega), Int.toNat_natCast]
      · exact absurd hT (hno y)
theorem ti_list (m : Int) : (⟨#[116, 105, 109, 101, 61]⟩ ++ tx (itoa m) : ByteArray).data.toList = [116, 105, 109, 101] ++ 61 :: itoa m := by
  rw [time_list]; rfl
theorem wto_time {c d e : Array Value} (hc : MemOk c) (hd : MemOk d) (h : WTo rdsH d (⟨#[116, 105, 109, 101, 61]⟩ ++ tx (itoa (word c 133))) e) : Eff c d e 11 0 ∧ MemOk e := by
  obtain ⟨m, hm, m0, m1⟩ := hc.u32 (i := 133) (by omega) rfl
  rw [word_of hm] at h
  generalize hs : (⟨#[116, 105, 109, 101, 61]⟩ ++ tx (itoa m) : ByteArray) = s at h
  have hl : s.data.toList = [116, 105, 109, 101] ++ 61 :: itoa m := by rw [← hs]; exact ti_list m
  have hi : Lib.index s.data.toList [61] = 4 := by rw [hl]; exact index_mid (by decide)
  have h4 : (s.extract 0 4).data.toList = [116, 105, 109, 101] := by rw [ext_list, hl]; rfl
  have h5 : s.extract 5 s.size = tx (itoa m) := by
    apply ba_eq
    have hz : s.size = s.data.toList.length := by simp
    rw [ext_list, hz, hl, tx_list]
    simp
  unfold WTo at h
  rw [if_neg (by rw [hl]; simp), if_neg (by rw [hl]; simp), if_pos ⟨hi, h4⟩, h5] at h
  have nm' : rdsH.nm (tx (itoa m)) = (m, true) := nm_itoa (by omega)
  rw [nm', if_pos ⟨rfl, m0, by omega⟩] at h
  rw [h]
  refine ⟨eff_11 hd hm, hh_set hd _ ?_⟩
  rw [show kd 133 = 32 from rfl]
  simp [CellIs, Value.oneCell']
  omega
theorem wto_ran {c d e : Array Value} (hc : MemOk c) (hd : MemOk d) (hf : flag c 134 = true) (h : WTo rdsH d ⟨#[114, 97, 110]⟩ e) : Eff c d e 12 0 ∧ MemOk e := by
  obtain ⟨b, hb⟩ := hc.bool (i := 134) (by omega) rfl
  rw [flag_of hb] at hf
  subst hf
  unfold WTo at h
  rw [if_pos rfl] at h
  rw [h]
  exact ⟨eff_12 hd hb, hh_set hd _ (hh_bool _ rfl)⟩
theorem wto_fault {c d e : Array Value} (hc : MemOk c) (hd : MemOk d) (hf : flag c 135 = true) (h : WTo rdsH d ⟨#[102, 97, 117, 108, 116]⟩ e) : Eff c d e 13 0 ∧ MemOk e := by
  obtain ⟨b, hb⟩ := hc.bool (i := 135) (by omega) rfl
  rw [flag_of hb] at hf
  subst hf
  unfold WTo at h
  rw [if_neg (by decide), if_pos rfl] at h
  rw [h]
  exact ⟨eff_13 hd hb, hh_set hd _ (hh_bool _ rfl)⟩

/- The program. -/
noncomputable def numP (s : ByteArray) : Int := match Lib.parseIntB 64 s.data.toList with | .ok v => v | _ => 0
def hasP (g : UInt8) (s : ByteArray) : Bool := decide (0 ≤ Lib.indexByte s.data.toList g)
def cutP (s : ByteArray) : ByteArray × ByteArray × Bool := (tx (Lib.cut s.data.toList [61]).1, tx (Lib.cut s.data.toList [61]).2.1, (Lib.cut s.data.toList [61]).2.2)
def trimP (s : ByteArray) : ByteArray := ⟨(Lib.trimRightS s.data.toList [33, 43]).toArray⟩
noncomputable def prdsH : Prds := { cut := cutP, num := numP, rd := rdH, rb := rbH, has33 := hasP 33, has43 := hasP 43, trim := trimP, RP := fun s x b => Rd2 s.data.toList x b }
theorem ib_mem (g : UInt8) : ∀ l : List UInt8, decide (0 ≤ Lib.indexByte l g) = decide (g ∈ l)
  | [] => by simp [Lib.indexByte]
  | b :: l => by
    have ih := ib_mem g l
    have hge := Lib.indexByte_ge l g
    unfold Lib.indexByte
    by_cases hb : b = g
    · subst hb; simp
    · rw [if_neg (by simpa using hb)]
      by_cases h1 : Lib.indexByte l g = -1
      · rw [if_pos (by simp [h1])]
        have : g ∉ l := by
          rw [h1] at ih
          simpa using ih
        simp [this, Ne.symm hb]
      · rw [if_neg (by simp [h1])]
        have h0 : 0 ≤ Lib.indexByte l g := by omega
        have : g ∈ l := by
          simp only [h0, decide_true] at ih
          simpa using ih.symm
        simp [this]
        omega
theorem num_itoa {m : Int} (h : m.natAbs < 9223372036854775808) : numP (tx (itoa m)) = m := by
  unfold numP; rw [tx_list, parseInt_itoa m h]
theorem itoa_no (m : Int) : (33 : UInt8) ∉ itoa m ∧ (43 : UInt8) ∉ itoa m := ⟨fun h => (itoa_signs m _ h).2.2.1 rfl, fun h => (itoa_signs m _ h).2.2.2 rfl⟩
theorem marks_has (m : Int) (f g : Bool) : hasP 33 (tx (itoa m ++ mk f 33 ++ mk g 43)) = f ∧ hasP 43 (tx (itoa m ++ mk f 33 ++ mk g 43)) = g := by
  obtain ⟨h1, h2⟩ := itoa_no m
  unfold hasP
  rw [tx_list, ib_mem, ib_mem]
  cases f <;> cases g <;> simp [mk, h1, h2]
theorem marks_trim (m : Int) (f g : Bool) : trimP (tx (itoa m ++ mk f 33 ++ mk g 43)) = tx (itoa m) := by
  unfold trimP
  rw [tx_list]
  have : Lib.trimRightS (itoa m ++ mk f 33 ++ mk g 43) [33, 43] = itoa m := by
    rw [Lib.trimRightS_take _ _ (itoa m).length (by simp) (fun j b hj hb => ?_) (fun b h0 hb => ?_)]
    · rw [List.append_assoc, List.take_left' rfl]
    · rw [List.append_assoc, List.getElem?_append_right hj] at hb
      have : b ∈ mk f 33 ++ mk g 43 := List.mem_of_getElem? hb
      cases f <;> cases g <;> simp [mk] at this <;> simp [this]
    · rw [List.append_assoc, List.getElem?_append_left (by omega)] at hb
      have := itoa_signs m b (List.mem_of_getElem? hb)
      simp [this.2.2.1, this.2.2.2]
  rw [this]; rfl
theorem pre_none (r : Prds) (d : Array Value) (nm v : ByteArray) (h : ∀ (g : UInt8) (l : List UInt8), 97 ≤ g.toNat → nm.data.toList ≠ g :: l) : pre1 r d nm v = d := by
  unfold pre1
  rw [if_neg (h _ _ (by decide)), if_neg (h _ _ (by decide)), if_neg (h _ _ (by decide))]
theorem pw_dev {rt : Nat → List UInt8} (hrt : RtOk rt) {c d e : Array Value} (hc : MemOk c) (hd : MemOk d) {k n : Nat} (hk : k ≤ 10) (hp : OkP k n) (hv : vP rt c k n = true) (h : PWTo prdsH d (wdT rt c k n) e) : Eff c d e k n ∧ MemOk e := by
  obtain ⟨h1, h2, hn⟩ := okP_size hp hk
  obtain ⟨rb, rd⟩ := rd_dev k n h1 h2 hn
  have rd' : prdsH.rd (nmT k n) = ((k : Int), (n : Int), 0) := rd
  have p33 : prdsH.has33 = hasP 33 := rfl
  have p43 : prdsH.has43 = hasP 43 := rfl
  have ptr : prdsH.trim = trimP := rfl
  have pnm : prdsH.num = numP := rfl
  have hnm : tx (lt k :: itoa (n : Int)) = nmT k n := ba_eq (by rw [tx_list, nm_list k n h1 h2])
  have hpre : ∀ v, pre1 prdsH d (nmT k n) v = d := fun v => pre_none _ _ _ _ fun g l hg e => by
    rw [nm_list k n h1 h2] at e
    injection e with e1 e2
    exact lt_ne h1 h2 g hg e1
  unfold PWTo at h
  by_cases h6 : k ≤ 6
  · have h5 : k ≤ 5 := by unfold OkP at hp; omega
    have hw := low_word rt c n h6
    have hcut : prdsH.cut (wdT rt c k n) = (nmT k n, tx [], false) := by
      show cutP _ = _
      unfold cutP
      rw [hw, nm_list k n h1 h2, cut_none (name_sign h1 h2 n), hnm]
    rw [hcut] at h
    simp only [hpre] at h
    unfold PTo at h
    rw [rd'] at h
    simp only at h
    rw [if_neg (by omega), if_neg (by omega), if_neg (by omega), if_neg (by omega)] at h
    rw [h]
    exact bit_put (rt := rt) hd hp h5 hv
  · have h7 : 7 ≤ k := by omega
    have hcut : prdsH.cut (wdT rt c k n) = (nmT k n, tx (tail7 rt c k n), true) := by
      show cutP _ = _
      unfold cutP
      rw [high_list rt c h7 h2, cut_mid (name_sign h1 h2 n), hnm]
    rw [hcut] at h
    simp only [hpre] at h
    refine Val.eff hc hd hp ?_
    unfold PTo at h
    rw [rd'] at h
    simp only [Int.toNat_natCast] at h
    rcases (by omega : k = 7 ∨ k = 8 ∨ k = 9 ∨ k = 10) with rfl | rfl | rfl | rfl
    · have hn16 : n < 16 := hn
      obtain ⟨b, m, hb, hm, hmr, -, -⟩ := timer_at hc hn16
      rw [show 5 + n * 2 = 5 + 2 * n by omega] at hb hm
      rw [if_pos (by rfl), p33, ptr, pnm, tail7_7, flag_of hb, word_of hm, (marks_has m b false).1, marks_trim, num_itoa (by omega)] at h
      exact .inl ⟨rfl, by rw [h, flag_of hb, word_of hm]⟩
    · have hn16 : n < 16 := hn
      obtain ⟨b, l, m, hb, hl, hm, hmr, -, -⟩ := counter_at hc hn16
      rw [show 37 + n * 3 = 37 + 3 * n by omega] at hb hl hm
      rw [if_neg (by decide), if_pos (by rfl), p33, p43, ptr, pnm, tail7_8, flag_of hb, flag_of hl, word_of hm, (marks_has m b l).1, (marks_has m b l).2, marks_trim, num_itoa (by omega)] at h
      exact .inr (.inl ⟨rfl, by rw [h, flag_of hb, flag_of hl, word_of hm]⟩)
    · have hn32 : n < 32 := hn
      obtain ⟨m, hm, hmr, -, -⟩ := data_at hc hn32
      rw [if_neg (by decide), if_neg (by decide), if_pos (by rfl), pnm, tail7_9, word_of hm] at h
      have e0 : itoa m ++ mk false 33 ++ mk false 43 = itoa m := by simp [mk]
      rw [e0, num_itoa (by omega)] at h
      exact .inr (.inr (.inl ⟨rfl, by rw [h, word_of hm]⟩))
    · have hn16 : n < 16 := hn
      obtain ⟨y, hy, hyb, -, -⟩ := real_at rt hc hn16
      rw [if_neg (by decide), if_neg (by decide), if_neg (by decide), if_pos (by rfl), tail7_10, rbits_of hy] at h
      obtain ⟨x, b, hRP, he⟩ := h
      have hRP : Rd2 (tx (rt y)).data.toList x b := hRP
      rw [tx_list] at hRP
      obtain ⟨hx, hR⟩ := hRP
      have hT := rt_txt hrt y
      rcases hR with ⟨-, hT2⟩ | ⟨-, -, hno⟩
      · exact .inr (.inr (.inr ⟨rfl, x, by rw [rbits_of hy]; exact Txt.inj hx hyb hT2 hT, hx, he⟩))
      · exact absurd hT (hno y)
theorem pto_none {P e : Array Value} {nm v : ByteArray} (hr : rdH nm = (0, 0, 0)) (h : PTo prdsH P nm v e) : e = P := by
  have hr : prdsH.rd nm = (0, 0, 0) := hr
  unfold PTo at h
  rw [hr] at h
  simp only at h
  rw [if_neg (by decide), if_neg (by decide), if_neg (by decide), if_neg (by decide)] at h
  rw [h]; rfl
theorem pw_time {c d e : Array Value} (hc : MemOk c) (hd : MemOk d) (h : PWTo prdsH d (⟨#[116, 105, 109, 101, 61]⟩ ++ tx (itoa (word c 133))) e) : Eff c d e 11 0 ∧ MemOk e := by
  obtain ⟨m, hm, m0, m1⟩ := hc.u32 (i := 133) (by omega) rfl
  rw [word_of hm] at h
  have hcut : prdsH.cut (⟨#[116, 105, 109, 101, 61]⟩ ++ tx (itoa m)) = (tx [116, 105, 109, 101], tx (itoa m), true) := by
    show cutP _ = _
    unfold cutP
    rw [ti_list, cut_mid (by decide)]
  unfold PWTo at h
  rw [hcut] at h
  simp only at h
  have h := pto_none (rd_none _ fun b r e => by rw [tx_list] at e; injection e with e1 e2; rw [← e1]; decide) h
  have e2 : e = d.setIfInBounds 133 (.int .u32 m) := by
    rw [h]
    unfold pre1
    rw [tx_list, if_pos rfl]
    show d.setIfInBounds 133 (.int .u32 (IntKind.u32.wrap (numP (tx (itoa m))))) = _
    rw [num_itoa (by omega), wrap32 m0 m1]
  rw [e2]
  refine ⟨eff_11 hd hm, hh_set hd _ ?_⟩
  rw [show kd 133 = 32 from rfl]
  simp [CellIs, Value.oneCell']
  omega
theorem pw_ran {c d e : Array Value} (hc : MemOk c) (hd : MemOk d) (hf : flag c 134 = true) (h : PWTo prdsH d ⟨#[114, 97, 110]⟩ e) : Eff c d e 12 0 ∧ MemOk e := by
  obtain ⟨b, hb⟩ := hc.bool (i := 134) (by omega) rfl
  rw [flag_of hb] at hf
  subst hf
  have hcut : prdsH.cut ⟨#[114, 97, 110]⟩ = (tx [114, 97, 110], tx [], false) := by
    show cutP _ = _
    unfold cutP
    rw [cut_none (by decide)]
  unfold PWTo at h
  rw [hcut] at h
  simp only at h
  have h := pto_none (rd_none _ fun b r e => by rw [tx_list] at e; injection e with e1 e2; rw [← e1]; decide) h
  have e2 : e = d.setIfInBounds 134 (.bool true) := by
    rw [h]
    unfold pre1
    rw [tx_list, if_neg (by decide), if_pos rfl]
  rw [e2]
  exact ⟨eff_12 hd hb, hh_set hd _ (hh_bool _ rfl)⟩
theorem pw_fault {c d e : Array Value} (hc : MemOk c) (hd : MemOk d) (hf : flag c 135 = true) (h : PWTo prdsH d ⟨#[102, 97, 117, 108, 116]⟩ e) : Eff c d e 13 0 ∧ MemOk e := by
  obtain ⟨b, hb⟩ := hc.bool (i := 135) (by omega) rfl
  rw [flag_of hb] at hf
  subst hf
  have hcut : prdsH.cut ⟨#[102, 97, 117, 108, 116]⟩ = (tx [102, 97, 117, 108, 116], tx [], false) := by
    show cutP _ = _
    unfold cutP
    rw [cut_none (by decide)]
  unfold PWTo at h
  rw [hcut] at h
  simp only at h
  have h := pto_none (rd_none _ fun b r e => by rw [tx_list] at e; injection e with e1 e2; rw [← e1]; decide) h
  have e2 : e = d.setIfInBounds 135 (.bool true) := by
    rw [h]
    unfold pre1
    rw [tx_list, if_neg (by decide), if_neg (by decide), if_pos rfl]
  rw [e2]
  exact ⟨eff_13 hd hb, hh_set hd _ (hh_bool _ rfl)⟩
theorem pw_empty {d e : Array Value} (h : PWTo prdsH d ⟨#[]⟩ e) : e = d := by
  have hcut : prdsH.cut ⟨#[]⟩ = (tx [], tx [], false) := by
    show cutP _ = _
    unfold cutP
    rw [cut_none (by simp)]
  unfold PWTo at h
  rw [hcut] at h
  simp only at h
  have h := pto_none (rd_none _ fun b r e => by rw [tx_list] at e; cases e) h
  rw [h, pre_none _ _ _ _ (fun g l hg e => by rw [tx_list] at e; cases e)]
end Go.Proofs.YtjnddfpieogpiaaGreatDoor.Rr
/- A memory's text, read back: both guesses are the memory; both MemReads answer alike. -/
namespace Go.Proofs.YtjnddfpieogpiaaGreatDoor.Rr
open Go.RowKit
open Go.Lib (decDigits itoa)
set_option linter.unusedVariables false

theorem foldsP_snoc {PW : Array Value → ByteArray → Array Value → Prop} {Z e : Array Value} {M : List ByteArray} (h : FoldsP PW Z M e) : ∀ L x, M = L ++ [x] → ∃ d, FoldsP PW Z L d ∧ PW d x e := by
  cases h with
  | nil => intro L x e; exact absurd e (by simp)
  | snoc h1 h2 =>
    intro L x e
    obtain ⟨rfl, e2⟩ := List.append_inj' e rfl
    obtain rfl := (List.cons.inj e2).1
    exact ⟨_, h1, h2⟩
theorem foldsP_nil {PW : Array Value → ByteArray → Array Value → Prop} {Z e : Array Value} {M : List ByteArray} (h : FoldsP PW Z M e) (hM : M = []) : e = Z := by
  cases h with
  | nil => rfl
  | snoc h1 h2 => exact absurd hM (by simp)
theorem folds_p {r : Rds} {Z e : Array Value} {M : List ByteArray} (h : Folds r Z M e) : FoldsP (WTo r) Z M e := by
  induction h with
  | nil => exact .nil _
  | snoc h1 h2 ih => exact .snoc ih h2
/-- Each word puts its place. -/
structure Steps (rt : Nat → List UInt8) (c : Array Value) (S : Array Value → ByteArray → Array Value → Prop) : Prop where
  dev : ∀ (d e : Array Value) (k n : Nat), MemOk d → k ≤ 10 → OkP k n → vP rt c k n = true → S d (wdT rt c k n) e → Eff c d e k n ∧ MemOk e
  time : ∀ (d e : Array Value), MemOk d → S d (⟨#[116, 105, 109, 101, 61]⟩ ++ tx (itoa (word c 133))) e → Eff c d e 11 0 ∧ MemOk e
  ran : ∀ (d e : Array Value), MemOk d → flag c 134 = true → S d ⟨#[114, 97, 110]⟩ e → Eff c d e 12 0 ∧ MemOk e
  fault : ∀ (d e : Array Value), MemOk d → flag c 135 = true → S d ⟨#[102, 97, 117, 108, 116]⟩ e → Eff c d e 13 0 ∧ MemOk e
theorem steps_s {rt : Nat → List UInt8} (hrt : RtOk rt) {c : Array Value} (hc : MemOk c) : Steps rt c (WTo rdsH) :=
  ⟨fun d e k n hd hk hp hv h => wto_dev hrt hc hd hk hp hv h, fun d e hd h => wto_time hc hd h, fun d e hd hf h => wto_ran hc hd hf h, fun d e hd hf h => wto_fault hc hd hf h⟩
theorem steps_p {rt : Nat → List UInt8} (hrt : RtOk rt) {c : Array Value} (hc : MemOk c) : Steps rt c (PWTo prdsH) :=
  ⟨fun d e k n hd hk hp hv h => pw_dev hrt hc hd hk hp hv h, fun d e hd h => pw_time hc hd h, fun d e hd hf h => pw_ran hc hd hf h, fun d e hd hf h => pw_fault hc hd hf h⟩
theorem fold_acc {S : Array Value → ByteArray → Array Value → Prop} {c Z : Array Value} {L : List ByteArray} {p : Nat → Bool} {t : Nat → ByteArray} {j N : Nat} (h0 : ∀ D, FoldsP S Z L D → Inv c j 0 D)
    (hs : ∀ n d e, n < N → p n = true → Inv c j n d → S d (t n) e → Inv c j (n + 1) e) (hk : ∀ n d, n < N → p n = false → Inv c j n d → Inv c j (n + 1) d) : ∀ n, n ≤ N → ∀ D, FoldsP S Z (accL L p t n) D → Inv c j n D
  | 0, _, D, h => h0 D h
  | n + 1, hn, D, h => by
    cases hp : p n with
    | true =>
      rw [accL_yes hp] at h
      obtain ⟨d, h1, h2⟩ := foldsP_snoc h _ _ rfl
      exact hs n d D (by omega) hp (fold_acc h0 hs hk n (by omega) d h1) h2
    | false =>
      rw [accL_no hp] at h
      exact hk n D (by omega) hp (fold_acc h0 hs hk n (by omega) D h)
theorem okP_of {k n : Nat} (h1 : 1 ≤ k) (h2 : k ≤ 10) (h6 : k ≠ 6) (hn : n < (kS (k : Int)).toNat) : OkP k n := by
  rcases c10 k h1 h2 with rfl | rfl | rfl | rfl | rfl | rfl | rfl | rfl | rfl | rfl
  · exact .inl ⟨rfl, hn⟩
  · exact .inr (.inl ⟨rfl, hn⟩)
  · exact .inr (.inr (.inl ⟨rfl, hn⟩))
  · exact .inr (.inr (.inr (.inl ⟨rfl, hn⟩)))
  · exact .inr (.inr (.inr (.inr (.inl ⟨rfl, hn⟩))))
  · exact absurd rfl h6
  · exact .inr (.inr (.inr (.inr (.inr (.inl ⟨rfl, hn⟩)))))
  · exact .inr (.inr (.inr (.inr (.inr (.inr (.inl ⟨rfl, hn⟩))))))
  · exact .inr (.inr (.inr (.inr (.inr (.inr (.inr (.inl ⟨rfl, hn⟩)))))))
  · exact .inr (.inr (.inr (.inr (.inr (.inr (.inr (.inr (.inl ⟨rfl, hn⟩))))))))
theorem fold_kinds {rt : Nat → List UInt8} (hrt : RtOk rt) {c : Array Value} (hc : MemOk c) {S : Array Value → ByteArray → Array Value → Prop} (hS : Steps rt c S) : ∀ j, j ≤ 10 → ∀ D, FoldsP S memZero (wordsK rt c j) D → Inv c (j + 1) 0 D
  | 0, _, D, h => by
    rw [foldsP_nil h rfl]
    exact inv_start c
  | j + 1, hj, D, h => by
    have eN : (kS ((j : Int) + 1)).toNat = (kS ((j + 1 : Nat) : Int)).toNat := rfl
    have h : FoldsP S memZero (accL (wordsK rt c j) (vP rt c (j + 1)) (wdT rt c (j + 1)) (kS ((j : Int) + 1)).toNat) D := h
    rw [eN] at h
    have hI := fold_acc (c := c) (j := j + 1) (N := (kS ((j + 1 : Nat) : Int)).toNat) (fold_kinds hrt hc hS j (by omega)) (fun n d e hn hp hi hs => by
        have h6 : j + 1 ≠ 6 := fun e6 => by rw [e6, vP_six] at hp; cases hp
        have ho := okP_of (by omega) hj h6 hn
        obtain ⟨g1, g2⟩ := hS.dev d e (j + 1) n hi.ok hj ho hp hs
        exact hi.step ho g1 g2) (fun n d hn hp hi => hi.skip fun ho g => skip_zero hrt hc hj ho hp g) _ (Nat.le_refl _) D h
    exact hI.next fun m ho => (okP_size ho hj).2.2
theorem fold_opt {S : Array Value → ByteArray → Array Value → Prop} {c Z : Array Value} {L : List ByteArray} {b : Bool} {s : ByteArray} {j : Nat} (h0 : ∀ D, FoldsP S Z L D → Inv c j 0 D) (ho : OkP j 0) (h1 : ∀ m, OkP j m → m < 1)
    (hs : b = true → ∀ d e, MemOk d → S d s e → Eff c d e j 0 ∧ MemOk e) (hz : b = false → ∀ D, Ag memZero D j 0 → Ag c D j 0) (D : Array Value) (h : FoldsP S Z (L ++ optW b s) D) : Inv c (j + 1) 0 D := by
  refine Inv.next (n := 1) ?_ h1
  cases b with
  | true =>
    obtain ⟨d, g1, g2⟩ := foldsP_snoc h L s rfl
    have hi := h0 d g1
    obtain ⟨e1, e2⟩ := hs rfl d D hi.ok g2
    exact hi.step ho e1 e2
  | false =>
    have h : FoldsP S Z (L ++ []) D := h
    rw [List.append_nil] at h
    exact (h0 D h).skip fun _ g => hz rfl D g
theorem fold_all {rt : Nat → List UInt8} (hrt : RtOk rt) {c : Array Value} (hc : MemOk c) {S : Array Value → ByteArray → Array Value → Prop} (hS : Steps rt c S) (D : Array Value) (h : FoldsP S memZero (wordsAll rt c) D) : MS c D := by
  obtain ⟨m, hm, m0, m1⟩ := hc.u32 (i := 133) (by omega) rfl
  obtain ⟨ran, hran⟩ := hc.bool (i := 134) (by omega) rfl
  obtain ⟨fault, hfault⟩ := hc.bool (i := 135) (by omega) rfl
  refine Inv.last hc (fold_opt (j := 13) (fun D h => fold_opt (j := 12) (fun D h => fold_opt (j := 11) (fold_kinds hrt hc hS 10 (Nat.le_refl _)) ?_ ?_ ?_ ?_ D h) ?_ ?_ ?_ ?_ D h) ?_ ?_ ?_ ?_ D h)
  · unfold OkP; omega
  · intro m ho; unfold OkP at ho; omega
  · intro _ d e hd hs; exact hS.time d e hd hs
  · intro hb D g
    have hb : ¬ 0 < word c 133 := of_decide_eq_false hb
    rw [word_of hm] at hb
    rw [ag_11] at g ⊢
    rw [g, memZero_get (by omega), hm, show m = 0 by omega]; rfl
  · unfold OkP; omega
  · intro m ho; unfold OkP at ho; omega
  · intro hb d e hd hs; exact hS.ran d e hd hb hs
  · intro hb D g
    rw [flag_of hran] at hb
    rw [ag_12] at g ⊢
    rw [g, memZero_get (by omega), hran, hb]; rfl
  · unfold OkP; omega
  · intro m ho; unfold OkP at ho; omega
  · intro hb d e hd hs; exact hS.fault d e hd hb hs
  · intro hb D g
    rw [flag_of hfault] at hb
    rw [ag_13] at g ⊢
    rw [g, memZero_get (by omega), hfault, hb]; rfl

/- The text cut at its spaces. -/
theorem map_inj : ∀ {L M : List ByteArray}, L.map (·.data.toList) = M.map (·.data.toList) → L = M
  | [], [], _ => rfl
  | [], y :: M, h => by simp at h
  | x :: L, [], h => by simp at h
  | x :: L, y :: M, h => by
    simp only [List.map_cons, List.cons.injEq] at h
    rw [ba_eq h.1, map_inj h.2]
theorem text_list (rt : Nat → List UInt8) (c : Array Value) : (memT rt c).data.toList = Lib.join ((wordsAll rt c).map fun x => x.data.toList) [32] := by
  rw [memT_join]
theorem text_pieces {rt : Nat → List UInt8} (hrt : RtOk rt) (c : Array Value) : (wordsAll rt c = [] ∧ pieces 32 (memT rt c).data.toList = [[]]) ∨ (wordsAll rt c ≠ [] ∧ pieces 32 (memT rt c).data.toList = (wordsAll rt c).map fun x => x.data.toList) := by
  have hp := words_plain hrt c
  have ht := text_list rt c
  rw [ht]
  cases hw : wordsAll rt c with
  | nil => left; exact ⟨rfl, rfl⟩
  | cons x L =>
    right
    refine ⟨by simp, ?_⟩
    rw [hw] at hp
    exact pieces_join 32 _ _ fun y hy b hb => (hp y hy).2 b hb
theorem guess_s {rt : Nat → List UInt8} (hrt : RtOk rt) {c : Array Value} (hc : MemOk c) {s : ByteArray} (hs : memT rt c = s) {L : List ByteArray} {C : Array Value} (hL : L.map (·.data.toList) = (pieces 32 s.data.toList).filter (fun x => !x.isEmpty)) (h : Folds rdsH memZero L C) : MS c C := by
  have e : L = wordsAll rt c := by
    apply map_inj
    rw [hL, ← hs]
    rcases text_pieces hrt c with ⟨h1, h2⟩ | ⟨h1, h2⟩
    · rw [h2, h1]; rfl
    · rw [h2]
      refine List.filter_eq_self.2 fun x hx => ?_
      have := (words_plain hrt c x hx).1
      cases x with
      | nil => exact absurd rfl this
      | cons a l => rfl
  rw [e] at h
  exact fold_all hrt hc (steps_s hrt hc) C (folds_p h)
theorem guess_p {rt : Nat → List UInt8} (hrt : RtOk rt) {c : Array Value} (hc : MemOk c) {s : ByteArray} (hs : memT rt c = s) {L : List ByteArray} {C : Array Value} (hL : L.map (·.data.toList) = pieces 32 s.data.toList) (h : FoldsP (PWTo prdsH) memZero L C) : MS c C := by
  rcases text_pieces hrt c with ⟨h1, h2⟩ | ⟨h1, h2⟩
  · have e : L = [] ++ [⟨#[]⟩] := by
      apply map_inj
      rw [hL, ← hs, h2]; rfl
    obtain ⟨d, g1, g2⟩ := foldsP_snoc h _ _ e
    rw [pw_empty g2]
    exact fold_all hrt hc (steps_p hrt hc) d (by rw [h1]; exact g1)
  · have e : L = wordsAll rt c := by
      apply map_inj
      rw [hL, ← hs, h2]
    rw [e] at h
    exact fold_all hrt hc (steps_p hrt hc) C h
/-- Both sides answer alike: a memory each, the same one, and whether it was a text. -/
theorem reads_alike {rt : Nat → List UInt8} (hrt : RtOk rt) {s : ByteArray} {e1 e2 : Ending} (h1 : IsMRead rdsH (fun C t => t = memT rt C) s e1) (h2 : IsMReadP (PWTo prdsH) (fun C t => t = memT rt C) s e2) :
    ∃ (C D : Array Value) (b : Bool), e1 = .returned (.tuple #[.agg C, .bool b]) ∧ e2 = .returned (.tuple #[.agg D, .bool b]) ∧ MemOk C ∧ MemOk D ∧ MS C D ∧ (b = true → memT rt C = s ∧ memT rt D = s ∧ s.size ≤ 6000) ∧ (b = false → C = memZero ∧ D = memZero ∧ ∀ c, MemOk c → memT rt c = s → 6000 < s.size) := by
  rcases h1 with ⟨l1, rfl⟩ | ⟨l1, C, t, L, hL, hF, hC, ht, h1⟩
  · rcases h2 with ⟨l2, rfl⟩ | ⟨l2, -⟩
    · exact ⟨_, _, _, rfl, rfl, memOk_zeroH, memOk_zeroH, ms_refl _, fun h => (by cases h), fun _ => ⟨rfl, rfl, fun _ _ _ => l1⟩⟩
    · omega
  · rcases h2 with ⟨l2, -⟩ | ⟨l2, D, t', L', hL', hF', hD, ht', h2⟩
    · omega
    subst ht ht'
    have k1 : ∀ c, MemOk c → memT rt c = s → memT rt C = s := fun c hc e => by
      rw [← (text_iff hrt hc hC).2 (guess_s hrt hc e hL hF)]; exact e
    have k2 : ∀ c, MemOk c → memT rt c = s → memT rt D = s := fun c hc e => by
      rw [← (text_iff hrt hc hD).2 (guess_p hrt hc e hL' hF')]; exact e
    rcases h1 with ⟨a1, rfl⟩ | ⟨a1, rfl⟩
    · rcases h2 with ⟨a2, rfl⟩ | ⟨a2, rfl⟩
      · exact ⟨_, _, _, rfl, rfl, hC, hD, (text_iff hrt hC hD).1 (a1.trans a2.symm), fun _ => ⟨a1, a2, l1⟩, fun h => (by cases h)⟩
      · exact absurd (k2 C hC a1) a2
    · rcases h2 with ⟨a2, rfl⟩ | ⟨a2, rfl⟩
      · exact absurd (k1 D hD a2) a1
      · exact ⟨_, _, _, rfl, rfl, memOk_zeroH, memOk_zeroH, ms_refl _, fun h => (by cases h), fun _ => ⟨rfl, rfl, fun c hc e => absurd (k1 c hc e) a1⟩⟩
end Go.Proofs.YtjnddfpieogpiaaGreatDoor.Rr
