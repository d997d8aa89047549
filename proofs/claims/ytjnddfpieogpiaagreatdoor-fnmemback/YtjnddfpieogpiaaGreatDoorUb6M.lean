/- Texts of memories, the specification's MemText. -/
import Derived.Test.YtjnddfpieogpiaaGreatDoorUa6
import Derived.Test.YtjnddfpieogpiaaGreatDoorTt6M
import Derived.Test.YtjnddfpieogpiaaGreatDoorMmM
namespace Go.Proofs.YtjnddfpieogpiaaGreatDoor.Rr
open Go.RowKit
open Go.Lib (decDigits itoa)
set_option linter.unusedVariables false

theorem infoT : (Tryz.prog.info? 27).map (·.size) = some 2 := by kernel_rfl
theorem infoC : (Tryz.prog.info? 30).map (·.size) = some 3 := by kernel_rfl
theorem ext_two {c : Array Value} {o : Nat} {a b : Value} (h0 : c[o]? = some a) (h1 : c[o + 1]? = some b) : c.extract o (o + 2) = #[a, b] := by
  apply Array.ext_getElem?
  intro i
  by_cases hi : i < 2
  · rw [ext_get c o (o + 2) i (by omega)]
    rcases (by omega : i = 0 ∨ i = 1) with rfl | rfl
    · exact h0
    · exact h1
  · rw [Array.getElem?_eq_none (by simp; omega), Array.getElem?_eq_none (by simp; omega)]
theorem ext_three {c : Array Value} {o : Nat} {a b d : Value} (h0 : c[o]? = some a) (h1 : c[o + 1]? = some b) (h2 : c[o + 2]? = some d) : c.extract o (o + 3) = #[a, b, d] := by
  apply Array.ext_getElem?
  intro i
  by_cases hi : i < 3
  · rw [ext_get c o (o + 3) i (by omega)]
    rcases (by omega : i = 0 ∨ i = 1 ∨ i = 2) with rfl | rfl | rfl
    · exact h0
    · exact h1
    · exact h2
  · rw [Array.getElem?_eq_none (by simp; omega), Array.getElem?_eq_none (by simp; omega)]

/-- The words of the bits, kind by kind. -/
def kindsT (c : Array Value) : Nat → ByteArray
  | 0 => ⟨#[]⟩
  | j + 1 => kindsT c j ++ bitsT c ((j : Int) + 1)
theorem bitsT_size (c : Array Value) (k : Int) : (bitsT c k).size ≤ 2000 := by
  unfold bitsT
  have hb := kS_bd k
  have : ∀ m, m ≤ 64 → (acc ⟨#[]⟩ (fun n => mbit c k n) (fun n => dvT k n ⟨#[]⟩) m).size ≤ 30 * m := by
    intro m
    induction m with
    | zero => intro _; exact Nat.le_refl 0
    | succ m ih =>
      intro hm
      have h1 := ih (by omega)
      have h2 := dvT_size k m ⟨#[]⟩ (by omega)
      have e0 : (⟨#[]⟩ : ByteArray).size = 0 := rfl
      rw [e0] at h2
      unfold acc
      split
      · rw [ByteArray.size_append]; omega
      · omega
  have := this (kS k).toNat (by omega)
  omega
theorem kindsT_size (c : Array Value) : ∀ j, (kindsT c j).size ≤ 2000 * j
  | 0 => Nat.le_refl 0
  | j + 1 => by
    have h1 := kindsT_size c j
    have h2 := bitsT_size c ((j : Int) + 1)
    unfold kindsT
    rw [ByteArray.size_append]; omega

def markT (b : Bool) (s : ByteArray) : ByteArray := if b then s else ⟨#[]⟩
theorem markT_size (b : Bool) (s : ByteArray) : (markT b s).size ≤ s.size := by
  cases b
  · exact Nat.zero_le _
  · exact Nat.le_refl _
/-- A timer's word. -/
def timT (c : Array Value) (n : Nat) : ByteArray := dvT 7 n (⟨#[61]⟩ ++ tx (itoa (word c (5 + 2 * n + 1))) ++ markT (flag c (5 + 2 * n)) ⟨#[33]⟩)
def timP (c : Array Value) (n : Nat) : Bool := flag c (5 + 2 * n) || decide (0 < word c (5 + 2 * n + 1))
theorem u16_text {m : Int} (h : 0 ≤ m ∧ m < 65536) : (tx (itoa m)).size ≤ 21 := by
  obtain ⟨u, rfl⟩ := Int.eq_ofNat_of_zero_le h.1
  exact itoa_small6 u (by omega)
theorem eq_text (S MK : ByteArray) (h1 : S.size ≤ 60) (h2 : MK.size ≤ 2) : ((⟨#[61]⟩ : ByteArray) ++ S ++ MK).size ≤ 70 := by
  have e0 : (⟨#[61]⟩ : ByteArray).size = 1 := rfl
  rw [ByteArray.size_append, ByteArray.size_append, e0]; omega
theorem timer_at {c : Array Value} (hc : MemOk c) {n : Nat} (hn : n < 16) : ∃ (b : Bool) (m : Int), c[5 + n * 2]? = some (.bool b) ∧ c[5 + n * 2 + 1]? = some (.int .u16 m) ∧ (0 ≤ m ∧ m < 65536) ∧ timP c n = (b || decide (0 < m)) ∧ timT c n = dvT 7 n (⟨#[61]⟩ ++ tx (itoa m) ++ markT b ⟨#[33]⟩) := by
  obtain ⟨b, hb⟩ := hc.bool (i := 5 + 2 * n) (by omega) (kd_t hn).1
  obtain ⟨m, hm, hr⟩ := hc.u16 (i := 5 + 2 * n + 1) (by omega) (kd_t hn).2
  refine ⟨b, m, by rw [show 5 + n * 2 = 5 + 2 * n by omega]; exact hb, by rw [show 5 + n * 2 + 1 = 5 + 2 * n + 1 by omega]; exact hm, hr, ?_, ?_⟩
  · unfold timP; rw [flag_of hb, word_of hm]
  · unfold timT; rw [flag_of hb, word_of hm]
/-- A counter's word. -/
def cntT (c : Array Value) (n : Nat) : ByteArray := dvT 8 n (⟨#[61]⟩ ++ tx (itoa (word c (37 + 3 * n + 2))) ++ markT (flag c (37 + 3 * n)) ⟨#[33]⟩ ++ markT (flag c (37 + 3 * n + 1)) ⟨#[43]⟩)
def cntP (c : Array Value) (n : Nat) : Bool := flag c (37 + 3 * n) || flag c (37 + 3 * n + 1) || decide (0 < word c (37 + 3 * n + 2))
theorem eq_text2 (S MK ML : ByteArray) (h1 : S.size ≤ 60) (h2 : MK.size ≤ 2) (h3 : ML.size ≤ 2) : ((⟨#[61]⟩ : ByteArray) ++ S ++ MK ++ ML).size ≤ 72 := by
  have e0 := eq_text S MK h1 h2
  rw [ByteArray.size_append]; omega
theorem counter_at {c : Array Value} (hc : MemOk c) {n : Nat} (hn : n < 16) : ∃ (b l : Bool) (m : Int), c[37 + n * 3]? = some (.bool b) ∧ c[37 + n * 3 + 1]? = some (.bool l) ∧ c[37 + n * 3 + 2]? = some (.int .u16 m) ∧ (0 ≤ m ∧ m < 65536) ∧ cntP c n = (b || l || decide (0 < m)) ∧ cntT c n = dvT 8 n (⟨#[61]⟩ ++ tx (itoa m) ++ markT b ⟨#[33]⟩ ++ markT l ⟨#[43]⟩) := by
  obtain ⟨b, hb⟩ := hc.bool (i := 37 + 3 * n) (by omega) (kd_c hn).1
  obtain ⟨l, hl⟩ := hc.bool (i := 37 + 3 * n + 1) (by omega) (kd_c hn).2.1
  obtain ⟨m, hm, hr⟩ := hc.u16 (i := 37 + 3 * n + 2) (by omega) (kd_c hn).2.2
  refine ⟨b, l, m, by rw [show 37 + n * 3 = 37 + 3 * n by omega]; exact hb, by rw [show 37 + n * 3 + 1 = 37 + 3 * n + 1 by omega]; exact hl, by rw [show 37 + n * 3 + 2 = 37 + 3 * n + 2 by omega]; exact hm, hr, ?_, ?_⟩
  · unfold cntP; rw [flag_of hb, flag_of hl, word_of hm]
  · unfold cntT; rw [flag_of hb, flag_of hl, word_of hm]
/-- A register's word. -/
def datT (c : Array Value) (n : Nat) : ByteArray := dvT 9 n (⟨#[61]⟩ ++ tx (itoa (word c (85 + n))))
def datP (c : Array Value) (n : Nat) : Bool := word c (85 + n) != 0
theorem eq_text1 (S : ByteArray) (h1 : S.size ≤ 60) : ((⟨#[61]⟩ : ByteArray) ++ S).size ≤ 70 := by
  have e0 : (⟨#[61]⟩ : ByteArray).size = 1 := rfl
  rw [ByteArray.size_append, e0]; omega
theorem i16_text {m : Int} (h : -32768 ≤ m ∧ m < 32768) : (tx (itoa m)).size ≤ 22 := by
  by_cases h0 : 0 ≤ m
  · obtain ⟨u, rfl⟩ := Int.eq_ofNat_of_zero_le h0
    have := itoa_small6 u (by omega)
    omega
  · obtain ⟨u, hu⟩ := Int.eq_ofNat_of_zero_le (by omega : 0 ≤ -m)
    obtain rfl : m = -(u : Int) := by omega
    have g := (digits_size u (by omega)).1
    have e0 : (⟨#[45]⟩ : ByteArray).size = 1 := rfl
    rw [tx_neg u (by omega), ByteArray.size_append, e0]
    omega
theorem data_at {c : Array Value} (hc : MemOk c) {n : Nat} (hn : n < 32) : ∃ m : Int, c[85 + n]? = some (.int .i16 m) ∧ (-32768 ≤ m ∧ m < 32768) ∧ datP c n = (m != 0) ∧ datT c n = dvT 9 n (⟨#[61]⟩ ++ tx (itoa m)) := by
  obtain ⟨m, hm, hr⟩ := hc.i16 (i := 85 + n) (by omega) (kd_d hn)
  refine ⟨m, hm, hr, ?_, ?_⟩
  · unfold datP; rw [word_of hm]
  · unfold datT; rw [word_of hm]
/-- The texts of real numbers, as a function. -/
def RtOk (rt : Nat → List UInt8) : Prop := (∀ x t, Txt x t → t = rt x) ∧ ∀ x, (rt x).length ≤ 51
theorem rt_ok : ∃ rt, RtOk rt := by
  have h : ∀ x : Nat, ∃ l : List UInt8, (∀ t, Txt x t → t = l) ∧ l.length ≤ 51 := fun x => by
    by_cases he : ∃ t, Txt x t
    · obtain ⟨t, h⟩ := he
      exact ⟨t, fun s hs => hs.unique h, h.len⟩
    · exact ⟨[], fun t h => absurd ⟨t, h⟩ he, Nat.zero_le _⟩
  exact ⟨fun x => Classical.choose (h x), fun x t ht => (Classical.choose_spec (h x)).1 t ht, fun x => (Classical.choose_spec (h x)).2⟩
theorem real_s {rt : Nat → List UInt8} (hr : RtOk rt) (x : Nat) (hx : x < 18446744073709551616) (w : World) :
    Calls Tryz.prog 88 #[.float .f64 x] w fun e w' => e = .returned (.string (tx (rt x))) ∧ Below w.heap.size w w' :=
  (spec_rtext x w hx).mono fun e w' ⟨t, h1, h2, h3⟩ => ⟨by rw [h1, hr.1 x t h2], h3⟩
def rbits (c : Array Value) (i : Nat) : Nat := match c[i]? with | some (.float _ n) => n | _ => 0
theorem rbits_of {c : Array Value} {i : Nat} {k : FloatKind} {n : Nat} (h : c[i]? = some (.float k n)) : rbits c i = n := by simp [rbits, h]
def reaT (rt : Nat → List UInt8) (c : Array Value) (n : Nat) : ByteArray := dvT 10 n (⟨#[61]⟩ ++ tx (rt (rbits c (117 + n))))
def reaP (rt : Nat → List UInt8) (c : Array Value) (n : Nat) : Bool := !((tx (rt (rbits c (117 + n)))).toList == [48])
theorem real_at (rt : Nat → List UInt8) {c : Array Value} (hc : MemOk c) {n : Nat} (hn : n < 16) : ∃ x : Nat, c[117 + n]? = some (.float .f64 x) ∧ x < 18446744073709551616 ∧ reaP rt c n = !((tx (rt x)).toList == [48]) ∧ reaT rt c n = dvT 10 n (⟨#[61]⟩ ++ tx (rt x)) := by
  obtain ⟨x, hx, hr⟩ := hc.f64 (i := 117 + n) (by omega) (kd_r hn)
  refine ⟨x, hx, hr, ?_, ?_⟩
  · unfold reaP; rw [rbits_of hx]
  · unfold reaT; rw [rbits_of hx]
theorem rt_size {rt : Nat → List UInt8} (h : RtOk rt) (x : Nat) : (tx (rt x)).size ≤ 51 := by rw [tx_size]; exact h.2 x

/-- The words, each with a space behind it. -/
def spaced (rt : Nat → List UInt8) (c : Array Value) : ByteArray :=
  acc (acc (acc (acc (kindsT c 5) (timP c) (timT c) 16) (cntP c) (cntT c) 16) (datP c) (datT c) 32) (reaP rt c) (reaT rt c) 16 ++ markT (decide (0 < word c 133)) (⟨#[116, 105, 109, 101, 61]⟩ ++ tx (itoa (word c 133)) ++ ⟨#[32]⟩) ++ markT (flag c 134) ⟨#[114, 97, 110, 32]⟩ ++ markT (flag c 135) ⟨#[102, 97, 117, 108, 116, 32]⟩
/-- A memory's text. -/
def memT (rt : Nat → List UInt8) (c : Array Value) : ByteArray := if (spaced rt c).toList == [] then ⟨#[]⟩ else (spaced rt c).extract 0 ((spaced rt c).size - 1)

set_option maxRecDepth 10000 in
set_option maxHeartbeats 4000000 in
theorem text_s {rt : Nat → List UInt8} (hrt : RtOk rt) (c : Array Value) (hc : MemOk c) (w : World) :
    Calls Tryz.prog 31 #[.agg c] w fun e w' => e = .returned (.string (memT rt c)) ∧ Below w.heap.size w w' := by
  have HRT : Hid (RtOk rt) := hrt
  obtain ⟨RES, HRES⟩ : ∃ s, Hid (s = memT rt c) := ⟨_, rfl⟩
  rw [← HRES.out]
  clear hrt
  have HC : Hid (MemOk c) := hc
  have HI : Hid ((Tryz.prog.info? 37).map (·.size) = some c.size) := by rw [HC.out.size]; exact zero_mem.2
  have HBT : Hid (∀ (n : Nat) W, Calls Tryz.prog 89 #[.agg c, .int .i64 ((n : Int) + 1)] W fun e w' => e = .returned (.string (bitsT c ((n : Int) + 1))) ∧ Below W.heap.size W w') := fun n W => bits_s c HC.out _ W
  obtain ⟨KT, HKT⟩ : ∃ f : Nat → ByteArray, Hid (f = kindsT c) := ⟨_, rfl⟩
  obtain ⟨BT, HB0⟩ : ∃ f : Nat → ByteArray, Hid (f = fun n : Nat => bitsT c ((n : Int) + 1)) := ⟨_, rfl⟩
  have HBits : Hid (∀ (n : Nat) W, Calls Tryz.prog 89 #[.agg c, .int .i64 ((n : Int) + 1)] W fun e w' => e = .returned (.string (BT n)) ∧ Below W.heap.size W w') := fun n W => by rw [HB0.out]; exact HBT.out n W
  have HK0 : Hid (KT 0 = ⟨#[]⟩) := (by rw [HKT.out]; rfl : KT 0 = ⟨#[]⟩)
  have HKs : Hid (∀ n, KT (n + 1) = KT n ++ BT n) := fun n => by rw [HKT.out, HB0.out]; rfl
  have HKz : Hid (∀ n, (KT n).size ≤ 2000 * n) := fun n => by rw [HKT.out]; exact kindsT_size c n
  have HBz : Hid (∀ n, (BT n).size ≤ 2000) := fun n => by rw [HB0.out]; exact bitsT_size c _
  clear HBT HB0 hc
  go_enter Tryz.func31, Tryz.ntmps31
  go_wp2_with fail
  go_loopg [3, 4] 5 (fun g s i wr => ∃ n : Nat, n + g = 5 ∧ i = .int .i64 ((n : Int) + 1) ∧ s = .string (KT n) ∧ Below w.heap.size w wr ∧ wr.heap[w.heap.size]? = some (.cells c 37 (0, 0)))
  case atStart => exact ⟨0, by omega, rfl, by rw [HK0.out], (Below.refl _ _).alloc (Nat.le_refl _) _, heap_alloc_new w _⟩
  case round =>
    obtain ⟨n, hn, rfl, rfl, hb, h1⟩ := hrel
    have HL : Hid ((loadVar 37 ⟨w.heap.size, 0, none⟩).run Tryz.prog wr = .ok (.agg c) wr) := load_all h1 _ _ Tryz.underlying37 rfl HI.out
    have H1 : Hid (wr.heap[w.heap.size]? = some (.cells c 37 (0, 0))) := h1
    have HB : Hid (Below w.heap.size w wr) := hb
    by_cases hlt : n < 5
    · have i1 : (n : Int) + 1 ≤ 5 := by omega
      have y1 := HKz.out n
      have y2 := HBz.out n
      have z1 : ¬ 9223372036854775807 < (KT n).size + (BT n).size := by omega
      clear h1 hb y1 y2
      go_wp2_with (first | (refine wpL_load rfl 37 _ rfl _ _ rfl _ HL.out ?_) | fail)
      refine (HBits.out n _).mono ?_
      rintro e w2 ⟨rfl, g2⟩
      have H2 : Hid (w2.heap[w.heap.size]? = some (.cells c 37 (0, 0))) := (g2.block _ (Array.getElem?_eq_some_iff.1 H1.out).1).trans H1.out
      have B2 : Hid (Below w.heap.size w w2) := HB.out.trans (g2.mono HB.out.size)
      clear g2 HL
      go_wp2
      go_roundg (gk - 1)
      case measure => omega
      case rel =>
        exact ⟨n + 1, by omega, by simp, by rw [HKs.out], B2.out, H2.out⟩
    · have hn5 : n = 5 := by omega
      subst hn5
      have i1 : ¬ (((5 : Nat) : Int) + 1 ≤ 5) := by omega
      clear HL HKs HBits HBz hn hlt
      obtain ⟨P2, HP2⟩ : ∃ f : Nat → Bool, Hid (f = timP c) := ⟨_, rfl⟩
      obtain ⟨T2, HT2⟩ : ∃ f : Nat → ByteArray, Hid (f = timT c) := ⟨_, rfl⟩
      have hk5 := HKz.out 5
      obtain ⟨K5, HK5⟩ : ∃ s, Hid (s = KT 5) := ⟨_, rfl⟩
      rw [← HK5.out] at hk5 ⊢
      clear HKz HK0
      go_wp2_with fail
      go_loopg [3, 5] 16 (fun g s i wr => ∃ n : Nat, n + g = 16 ∧ i = .int .i64 (n : Int) ∧ s = .string (acc K5 P2 T2 n) ∧ (acc K5 P2 T2 n).size ≤ 10000 + 100 * n ∧ Below w.heap.size w wr ∧ wr.heap[w.heap.size]? = some (.cells c 37 (0, 0)))
      case atStart => exact ⟨0, by omega, rfl, rfl, hk5, hb, h1⟩
      clear hb h1 HB H1
      case round =>
        obtain ⟨n, hn, rfl, rfl, hs, hb, h1⟩ := hrel
        have H1 : Hid (wr.heap[w.heap.size]? = some (.cells c 37 (0, 0))) := h1
        have HB : Hid (Below w.heap.size w wr) := hb
        clear h1 hb
        by_cases hlt : n < 16
        · have i1 : (n : Int) < 16 := by omega
          have i3 : (0 : Int) ≤ (n : Int) := by omega
          obtain ⟨b, m, hb0, hm0, hmr, hpn, htn⟩ := timer_at HC.out hlt
          have HL : Hid ((loadVar 27 ⟨w.heap.size, 5 + n * 2, none⟩).run Tryz.prog wr = .ok (.agg #[.bool b, .int .u16 m]) wr) := by
            rw [← ext_two hb0 hm0]
            exact load_sub H1.out _ _ (5 + n * 2) 2 (by rw [HC.out.size]; omega) Tryz.underlying27 rfl infoT
          rw [← HP2.out] at hpn
          rw [← HT2.out] at htn
          have z0 := u16_text hmr
          have HI2 : Hid (∀ W, Calls Tryz.prog 91 #[.int .i64 m] W fun e w' => e = .returned (.string (tx (itoa m))) ∧ Below W.heap.size W w') := fun W => dec_any m (by omega) (by omega) W
          have HM2 : Hid (∀ W, Calls Tryz.prog 92 #[.bool b, .string ⟨#[33]⟩] W fun e w' => e = .returned (.string (markT b ⟨#[33]⟩)) ∧ Below W.heap.size W w') := fun W => mark_s b _ W
          obtain ⟨S, HS⟩ : ∃ S, Hid (S = tx (itoa m)) := ⟨_, Eq.refl (tx (itoa m))⟩
          obtain ⟨MK, HMK⟩ : ∃ S, Hid (S = markT b ⟨#[33]⟩) := ⟨_, rfl⟩
          have z9 : MK.size ≤ 1 := by rw [HMK.out]; exact markT_size _ _
          rw [← HS.out, ← HMK.out] at htn
          rw [← HS.out] at HI2 z0
          rw [← HMK.out] at HM2
          have HD2 : Hid (∀ W, Calls Tryz.prog 90 #[.int .i64 7, .int .i64 n, .string (⟨#[61]⟩ ++ S ++ MK)] W fun e w' => e = .returned (.string (T2 n)) ∧ Below W.heap.size W w') := fun W => by
            rw [htn]; exact dev_s 7 n (by omega) _ (Nat.le_trans (eq_text S MK (by omega) (by omega)) (by omega)) W
          have z8 : (T2 n).size ≤ 100 := by
            rw [htn]
            have g1 := dvT_size 7 n (⟨#[61]⟩ ++ S ++ MK) (by omega)
            have g2 := eq_text S MK (by omega) (by omega)
            omega
          obtain ⟨A, HA⟩ : ∃ A, Hid (A = acc K5 P2 T2 n) := ⟨_, rfl⟩
          have HY : Hid (P2 n = true → acc K5 P2 T2 (n + 1) = A ++ T2 n) := fun h => by rw [HA.out]; exact acc_yes h
          have HNo : Hid (P2 n = false → acc K5 P2 T2 (n + 1) = A) := fun h => by rw [HA.out]; exact acc_no h
          rw [← HA.out] at hs ⊢
          have z1 : ¬ 9223372036854775807 < 1 + S.size := by omega
          have z2 : ¬ 9223372036854775807 < 1 + S.size + MK.size := by omega
          have z3 : ¬ 9223372036854775807 < A.size + (T2 n).size := by omega
          have HZS : Hid ((A ++ T2 n).size ≤ 10000 + 100 * (n + 1) ∧ A.size ≤ 10000 + 100 * (n + 1)) := (by rw [ByteArray.size_append]; constructor <;> omega : (A ++ T2 n).size ≤ 10000 + 100 * (n + 1) ∧ A.size ≤ 10000 + 100 * (n + 1))
          have HPn : Hid (P2 n = (b || decide (0 < m))) := hpn
          have m0 : (0 : Int) ≤ m := hmr.1
          have m1 : m < 65536 := hmr.2
          clear hb0 hm0 hmr hpn htn z0 z8 z9 HS HMK HA hs
          cases b with
          | true =>
            have HT : Hid (P2 n = true) := (by rw [HPn.out]; rfl : P2 n = true)
            go_upto_region 11 with (first | (refine wpL_load rfl 27 _ rfl _ _ rfl _ HL.out ?_) | fail)
            have c0 : (wr.alloc (.cells #[.bool true, .int .u16 m] 27)).cell? ⟨wr.heap.size, 0, none⟩ = some (.bool true) := by simp
            have c1 : (wr.alloc (.cells #[.bool true, .int .u16 m] 27)).cell? ⟨wr.heap.size, 1, none⟩ = some (.int .u16 m) := by simp
            have B1 : Below w.heap.size w (wr.alloc (.cells #[.bool true, .int .u16 m] 27)) := HB.out.alloc HB.out.size _
            have K1 : (wr.alloc (.cells #[.bool true, .int .u16 m] 27)).heap[w.heap.size]? = some (.cells c 37 (0, 0)) := (((Below.refl wr.heap.size wr).alloc (Nat.le_refl _) _).block _ (Array.getElem?_eq_some_iff.1 H1.out).1).trans H1.out
            generalize (wr.alloc (.cells #[.bool true, .int .u16 m] 27)) = w1 at c0 c1 B1 K1 ⊢
            have q0 := cell_regrown c0
            have q1 := cell_regrown c1
            have HB1 : Hid (Below w.heap.size w w1) := B1
            have HK1 : Hid (w1.heap[w.heap.size]? = some (.cells c 37 (0, 0))) := K1
            clear B1 K1 HL
            have cI : ∀ dd os, Calls Tryz.prog 91 #[.int .i64 m] (Sort.grow (redrawn w1 dd) os) fun e w'' => e = .returned (.string S) ∧ ∃ p : Regrown, w'' = Sort.grow (redrawn w1 p.d) p.os := fun dd os => Calls.regrown_of (HI2.out _)
            have cM : ∀ dd os, Calls Tryz.prog 92 #[.bool true, .string ⟨#[33]⟩] (Sort.grow (redrawn w1 dd) os) fun e w'' => e = .returned (.string MK) ∧ ∃ p : Regrown, w'' = Sort.grow (redrawn w1 p.d) p.os := fun dd os => Calls.regrown_of (HM2.out _)
            have cD : ∀ dd os, Calls Tryz.prog 90 #[.int .i64 7, .int .i64 n, .string (⟨#[61]⟩ ++ S ++ MK)] (Sort.grow (redrawn w1 dd) os) fun e w'' => e = .returned (.string (T2 n)) ∧ ∃ p : Regrown, w'' = Sort.grow (redrawn w1 p.d) p.os := fun dd os => Calls.regrown_of (HD2.out _)
            refine wp_region_quiet_below (by kernel_rfl) (by kernel_rfl) ?_
            go_big_quiet_step (first | with_reducible exact cI _ _ | with_reducible exact cM _ _ | with_reducible exact cD _ _)
            go_big_quiet_step (first | with_reducible exact cI _ _ | with_reducible exact cM _ _ | with_reducible exact cD _ _)
            go_big_quiet_step (first | with_reducible exact cI _ _ | with_reducible exact cM _ _ | with_reducible exact cD _ _)
            go_big_quiet_step (first | with_reducible exact cI _ _ | with_reducible exact cM _ _ | with_reducible exact cD _ _)
            go_big_quiet_step (first | with_reducible exact cI _ _ | with_reducible exact cM _ _ | with_reducible exact cD _ _)
            go_big_quiet_step (first | with_reducible exact cI _ _ | with_reducible exact cM _ _ | with_reducible exact cD _ _)
            go_big_quiet_step (first | with_reducible exact cI _ _ | with_reducible exact cM _ _ | with_reducible exact cD _ _)
            go_big_quiet_step (first | with_reducible exact cI _ _ | with_reducible exact cM _ _ | with_reducible exact cD _ _)
            go_big_quiet_step (first | with_reducible exact cI _ _ | with_reducible exact cM _ _ | with_reducible exact cD _ _)
            go_big_quiet_step (first | with_reducible exact cI _ _ | with_reducible exact cM _ _ | with_reducible exact cD _ _)
            go_big_quiet_step (first | with_reducible exact cI _ _ | with_reducible exact cM _ _ | with_reducible exact cD _ _)
            go_big_quiet_step (first | with_reducible exact cI _ _ | with_reducible exact cM _ _ | with_reducible exact cD _ _)
            go_big_quiet_step (first | with_reducible exact cI _ _ | with_reducible exact cM _ _ | with_reducible exact cD _ _)
            go_big_quiet_step (first | with_reducible exact cI _ _ | with_reducible exact cM _ _ | with_reducible exact cD _ _)
            refine wpQuiet_nil ?_
            intro w7 hw'
            have HK7 : Hid (w7.heap[w.heap.size]? = some (.cells c 37 (0, 0))) := row_regrown HK1.out hw'
            have HB7 : Hid (Below w.heap.size w w7) := (by
              obtain ⟨⟨dq, osq⟩, rfl⟩ := hw'
              exact HB1.out.trans ((below_regrown w1 dq osq).mono HB1.out.size) : Below w.heap.size w w7)
            clear hw' cI cM cD q0 c0 q1 c1
            go_wp2
            go_roundg (gk - 1)
            case measure => omega
            case rel =>
              exact ⟨n + 1, by omega, by simp, by rw [HY.out HT.out], by rw [HY.out HT.out]; exact HZS.out.1, HB7.out, HK7.out⟩
          | false =>
            by_cases hm : 0 < m
            · have HT : Hid (P2 n = true) := (by rw [HPn.out, decide_eq_true hm]; rfl : P2 n = true)
              go_upto_region 11 with (first | (refine wpL_load rfl 27 _ rfl _ _ rfl _ HL.out ?_) | fail)
              have c0 : (wr.alloc (.cells #[.bool false, .int .u16 m] 27)).cell? ⟨wr.heap.size, 0, none⟩ = some (.bool false) := by simp
              have c1 : (wr.alloc (.cells #[.bool false, .int .u16 m] 27)).cell? ⟨wr.heap.size, 1, none⟩ = some (.int .u16 m) := by simp
              have B1 : Below w.heap.size w (wr.alloc (.cells #[.bool false, .int .u16 m] 27)) := HB.out.alloc HB.out.size _
              have K1 : (wr.alloc (.cells #[.bool false, .int .u16 m] 27)).heap[w.heap.size]? = some (.cells c 37 (0, 0)) := (((Below.refl wr.heap.size wr).alloc (Nat.le_refl _) _).block _ (Array.getElem?_eq_some_iff.1 H1.out).1).trans H1.out
              generalize (wr.alloc (.cells #[.bool false, .int .u16 m] 27)) = w1 at c0 c1 B1 K1 ⊢
              have q0 := cell_regrown c0
              have q1 := cell_regrown c1
              have HB1 : Hid (Below w.heap.size w w1) := B1
              have HK1 : Hid (w1.heap[w.heap.size]? = some (.cells c 37 (0, 0))) := K1
              clear B1 K1 HL
              have cI : ∀ dd os, Calls Tryz.prog 91 #[.int .i64 m] (Sort.grow (redrawn w1 dd) os) fun e w'' => e = .returned (.string S) ∧ ∃ p : Regrown, w'' = Sort.grow (redrawn w1 p.d) p.os := fun dd os => Calls.regrown_of (HI2.out _)
              have cM : ∀ dd os, Calls Tryz.prog 92 #[.bool false, .string ⟨#[33]⟩] (Sort.grow (redrawn w1 dd) os) fun e w'' => e = .returned (.string MK) ∧ ∃ p : Regrown, w'' = Sort.grow (redrawn w1 p.d) p.os := fun dd os => Calls.regrown_of (HM2.out _)
              have cD : ∀ dd os, Calls Tryz.prog 90 #[.int .i64 7, .int .i64 n, .string (⟨#[61]⟩ ++ S ++ MK)] (Sort.grow (redrawn w1 dd) os) fun e w'' => e = .returned (.string (T2 n)) ∧ ∃ p : Regrown, w'' = Sort.grow (redrawn w1 p.d) p.os := fun dd os => Calls.regrown_of (HD2.out _)
              refine wp_region_quiet_below (by kernel_rfl) (by kernel_rfl) ?_
              go_big_quiet_step (first | with_reducible exact cI _ _ | with_reducible exact cM _ _ | with_reducible exact cD _ _)
              go_big_quiet_step (first | with_reducible exact cI _ _ | with_reducible exact cM _ _ | with_reducible exact cD _ _)
              go_big_quiet_step (first | with_reducible exact cI _ _ | with_reducible exact cM _ _ | with_reducible exact cD _ _)
              go_big_quiet_step (first | with_reducible exact cI _ _ | with_reducible exact cM _ _ | with_reducible exact cD _ _)
              go_big_quiet_step (first | with_reducible exact cI _ _ | with_reducible exact cM _ _ | with_reducible exact cD _ _)
              go_big_quiet_step (first | with_reducible exact cI _ _ | with_reducible exact cM _ _ | with_reducible exact cD _ _)
              go_big_quiet_step (first | with_reducible exact cI _ _ | with_reducible exact cM _ _ | with_reducible exact cD _ _)
              go_big_quiet_step (first | with_reducible exact cI _ _ | with_reducible exact cM _ _ | with_reducible exact cD _ _)
              go_big_quiet_step (first | with_reducible exact cI _ _ | with_reducible exact cM _ _ | with_reducible exact cD _ _)
              go_big_quiet_step (first | with_reducible exact cI _ _ | with_reducible exact cM _ _ | with_reducible exact cD _ _)
              go_big_quiet_step (first | with_reducible exact cI _ _ | with_reducible exact cM _ _ | with_reducible exact cD _ _)
              go_big_quiet_step (first | with_reducible exact cI _ _ | with_reducible exact cM _ _ | with_reducible exact cD _ _)
              go_big_quiet_step (first | with_reducible exact cI _ _ | with_reducible exact cM _ _ | with_reducible exact cD _ _)
              go_big_quiet_step (first | with_reducible exact cI _ _ | with_reducible exact cM _ _ | with_reducible exact cD _ _)
              refine wpQuiet_nil ?_
              intro w7 hw'
              have HK7 : Hid (w7.heap[w.heap.size]? = some (.cells c 37 (0, 0))) := row_regrown HK1.out hw'
              have HB7 : Hid (Below w.heap.size w w7) := (by
                obtain ⟨⟨dq, osq⟩, rfl⟩ := hw'
                exact HB1.out.trans ((below_regrown w1 dq osq).mono HB1.out.size) : Below w.heap.size w w7)
              clear hw' cI cM cD q0 c0 q1 c1
              go_wp2
              go_roundg (gk - 1)
              case measure => omega
              case rel =>
                exact ⟨n + 1, by omega, by simp, by rw [HY.out HT.out], by rw [HY.out HT.out]; exact HZS.out.1, HB7.out, HK7.out⟩
            · have HT : Hid (P2 n = false) := (by rw [HPn.out, decide_eq_false hm]; rfl : P2 n = false)
              go_wp2_with (first | (refine wpL_load rfl 27 _ rfl _ _ rfl _ HL.out ?_) | fail)
              go_roundg (gk - 1)
              case measure => omega
              case rel =>
                exact ⟨n + 1, by omega, by simp, by rw [HNo.out HT.out], by rw [HNo.out HT.out]; exact HZS.out.2, HB.out.alloc HB.out.size _, (((Below.refl wr.heap.size wr).alloc (Nat.le_refl _) _).block _ (Array.getElem?_eq_some_iff.1 H1.out).1).trans H1.out⟩
        · have hn16 : n = 16 := by omega
          subst hn16
          have i1 : ¬ (((16 : Nat) : Int) < 16) := by omega
          clear hn hlt
          obtain ⟨P3, HP3⟩ : ∃ f : Nat → Bool, Hid (f = cntP c) := ⟨_, rfl⟩
          obtain ⟨T3, HT3⟩ : ∃ f : Nat → ByteArray, Hid (f = cntT c) := ⟨_, rfl⟩
          obtain ⟨A2, HA2⟩ : ∃ s, Hid (s = acc K5 P2 T2 16) := ⟨_, rfl⟩
          rw [← HA2.out] at hs ⊢
          have hb := HB.out
          have h1 := H1.out
          clear HB H1
          go_wp2_with fail
          go_loopg [3, 7] 16 (fun g s i wr => ∃ n : Nat, n + g = 16 ∧ i = .int .i64 (n : Int) ∧ s = .string (acc A2 P3 T3 n) ∧ (acc A2 P3 T3 n).size ≤ 12000 + 100 * n ∧ Below w.heap.size w wr ∧ wr.heap[w.heap.size]? = some (.cells c 37 (0, 0)))
          case atStart => exact ⟨0, by omega, rfl, rfl, Nat.le_trans hs (by omega), hb, h1⟩
          clear hb h1 hs
          case round =>
            obtain ⟨n, hn, rfl, rfl, hs, hb, h1⟩ := hrel
            have H1 : Hid (wr.heap[w.heap.size]? = some (.cells c 37 (0, 0))) := h1
            have HB : Hid (Below w.heap.size w wr) := hb
            clear h1 hb
            by_cases hlt : n < 16
            · have i1 : (n : Int) < 16 := by omega
              have i3 : (0 : Int) ≤ (n : Int) := by omega
              obtain ⟨b, l, m, hb0, hl0, hm0, hmr, hpn, htn⟩ := counter_at HC.out hlt
              have HL : Hid ((loadVar 30 ⟨w.heap.size, 37 + n * 3, none⟩).run Tryz.prog wr = .ok (.agg #[.bool b, .bool l, .int .u16 m]) wr) := by
                rw [← ext_three hb0 hl0 hm0]
                exact load_sub H1.out _ _ (37 + n * 3) 3 (by rw [HC.out.size]; omega) Tryz.underlying30 rfl infoC
              rw [← HP3.out] at hpn
              rw [← HT3.out] at htn
              have z0 := u16_text hmr
              have HI2 : Hid (∀ W, Calls Tryz.prog 91 #[.int .i64 m] W fun e w' => e = .returned (.string (tx (itoa m))) ∧ Below W.heap.size W w') := fun W => dec_any m (by omega) (by omega) W
              have HM2 : Hid (∀ W, Calls Tryz.prog 92 #[.bool b, .string ⟨#[33]⟩] W fun e w' => e = .returned (.string (markT b ⟨#[33]⟩)) ∧ Below W.heap.size W w') := fun W => mark_s b _ W
              have HM3 : Hid (∀ W, Calls Tryz.prog 92 #[.bool l, .string ⟨#[43]⟩] W fun e w' => e = .returned (.string (markT l ⟨#[43]⟩)) ∧ Below W.heap.size W w') := fun W => mark_s l _ W
              obtain ⟨S, HS⟩ : ∃ S, Hid (S = tx (itoa m)) := ⟨_, Eq.refl (tx (itoa m))⟩
              obtain ⟨MK, HMK⟩ : ∃ S, Hid (S = markT b ⟨#[33]⟩) := ⟨_, rfl⟩
              obtain ⟨ML, HML⟩ : ∃ S, Hid (S = markT l ⟨#[43]⟩) := ⟨_, rfl⟩
              have z9 : MK.size ≤ 1 := by rw [HMK.out]; exact markT_size _ _
              have z7 : ML.size ≤ 1 := by rw [HML.out]; exact markT_size _ _
              rw [← HS.out, ← HMK.out, ← HML.out] at htn
              rw [← HS.out] at HI2 z0
              rw [← HMK.out] at HM2
              rw [← HML.out] at HM3
              have HD2 : Hid (∀ W, Calls Tryz.prog 90 #[.int .i64 8, .int .i64 n, .string (⟨#[61]⟩ ++ S ++ MK ++ ML)] W fun e w' => e = .returned (.string (T3 n)) ∧ Below W.heap.size W w') := fun W => by
                rw [htn]; exact dev_s 8 n (by omega) _ (Nat.le_trans (eq_text2 S MK ML (by omega) (by omega) (by omega)) (by omega)) W
              have z8 : (T3 n).size ≤ 100 := by
                rw [htn]
                have g1 := dvT_size 8 n (⟨#[61]⟩ ++ S ++ MK ++ ML) (by omega)
                have g2 := eq_text2 S MK ML (by omega) (by omega) (by omega)
                omega
              obtain ⟨A, HA⟩ : ∃ A, Hid (A = acc A2 P3 T3 n) := ⟨_, rfl⟩
              have HY : Hid (P3 n = true → acc A2 P3 T3 (n + 1) = A ++ T3 n) := fun h => by rw [HA.out]; exact acc_yes h
              have HNo : Hid (P3 n = false → acc A2 P3 T3 (n + 1) = A) := fun h => by rw [HA.out]; exact acc_no h
              rw [← HA.out] at hs ⊢
              have z3 : ¬ 9223372036854775807 < A.size + (T3 n).size := by omega
              have HZS : Hid ((A ++ T3 n).size ≤ 12000 + 100 * (n + 1) ∧ A.size ≤ 12000 + 100 * (n + 1)) := (by rw [ByteArray.size_append]; constructor <;> omega : (A ++ T3 n).size ≤ 12000 + 100 * (n + 1) ∧ A.size ≤ 12000 + 100 * (n + 1))
              have z1 : ¬ 9223372036854775807 < 1 + S.size := by omega
              have z2 : ¬ 9223372036854775807 < 1 + S.size + MK.size := by omega
              have z4 : ¬ 9223372036854775807 < 1 + S.size + MK.size + ML.size := by omega
              have HPn : Hid (P3 n = (b || l || decide (0 < m))) := hpn
              have m0 : (0 : Int) ≤ m := hmr.1
              have m1 : m < 65536 := hmr.2
              clear hb0 hl0 hm0 hmr hpn htn z0 z8 z9 z7 HS HMK HML HA hs
              cases b with
              | true =>
                have HT : Hid (P3 n = true) := (by rw [HPn.out]; rfl : P3 n = true)
                cases l with
                | true =>
                  go_upto_region 17 with (first | (refine wpL_load rfl 30 _ rfl _ _ rfl _ HL.out ?_) | fail)
                  have c0 : (wr.alloc (.cells #[.bool true, .bool true, .int .u16 m] 30)).cell? ⟨wr.heap.size, 0, none⟩ = some (.bool true) := by simp
                  have c1 : (wr.alloc (.cells #[.bool true, .bool true, .int .u16 m] 30)).cell? ⟨wr.heap.size, 1, none⟩ = some (.bool true) := by simp
                  have c2 : (wr.alloc (.cells #[.bool true, .bool true, .int .u16 m] 30)).cell? ⟨wr.heap.size, 2, none⟩ = some (.int .u16 m) := by simp
                  have B1 : Below w.heap.size w (wr.alloc (.cells #[.bool true, .bool true, .int .u16 m] 30)) := HB.out.alloc HB.out.size _
                  have K1 : (wr.alloc (.cells #[.bool true, .bool true, .int .u16 m] 30)).heap[w.heap.size]? = some (.cells c 37 (0, 0)) := (((Below.refl wr.heap.size wr).alloc (Nat.le_refl _) _).block _ (Array.getElem?_eq_some_iff.1 H1.out).1).trans H1.out
                  generalize (wr.alloc (.cells #[.bool true, .bool true, .int .u16 m] 30)) = w1 at c0 c1 c2 B1 K1 ⊢
                  have q0 := cell_regrown c0
                  have q1 := cell_regrown c1
                  have q2 := cell_regrown c2
                  have HB1 : Hid (Below w.heap.size w w1) := B1
                  have HK1 : Hid (w1.heap[w.heap.size]? = some (.cells c 37 (0, 0))) := K1
                  clear B1 K1 HL
                  have cI : ∀ dd os, Calls Tryz.prog 91 #[.int .i64 m] (Sort.grow (redrawn w1 dd) os) fun e w'' => e = .returned (.string S) ∧ ∃ p : Regrown, w'' = Sort.grow (redrawn w1 p.d) p.os := fun dd os => Calls.regrown_of (HI2.out _)
                  have cM : ∀ dd os, Calls Tryz.prog 92 #[.bool true, .string ⟨#[33]⟩] (Sort.grow (redrawn w1 dd) os) fun e w'' => e = .returned (.string MK) ∧ ∃ p : Regrown, w'' = Sort.grow (redrawn w1 p.d) p.os := fun dd os => Calls.regrown_of (HM2.out _)
                  have cN : ∀ dd os, Calls Tryz.prog 92 #[.bool true, .string ⟨#[43]⟩] (Sort.grow (redrawn w1 dd) os) fun e w'' => e = .returned (.string ML) ∧ ∃ p : Regrown, w'' = Sort.grow (redrawn w1 p.d) p.os := fun dd os => Calls.regrown_of (HM3.out _)
                  have cD : ∀ dd os, Calls Tryz.prog 90 #[.int .i64 8, .int .i64 n, .string (⟨#[61]⟩ ++ S ++ MK ++ ML)] (Sort.grow (redrawn w1 dd) os) fun e w'' => e = .returned (.string (T3 n)) ∧ ∃ p : Regrown, w'' = Sort.grow (redrawn w1 p.d) p.os := fun dd os => Calls.regrown_of (HD2.out _)
                  refine wp_region_quiet_below (by kernel_rfl) (by kernel_rfl) ?_
                  go_big_quiet_step (first | with_reducible exact cI _ _ | with_reducible exact cM _ _ | with_reducible exact cN _ _ | with_reducible exact cD _ _)
                  go_big_quiet_step (first | with_reducible exact cI _ _ | with_reducible exact cM _ _ | with_reducible exact cN _ _ | with_reducible exact cD _ _)
                  go_big_quiet_step (first | with_reducible exact cI _ _ | with_reducible exact cM _ _ | with_reducible exact cN _ _ | with_reducible exact cD _ _)
                  go_big_quiet_step (first | with_reducible exact cI _ _ | with_reducible exact cM _ _ | with_reducible exact cN _ _ | with_reducible exact cD _ _)
                  go_big_quiet_step (first | with_reducible exact cI _ _ | with_reducible exact cM _ _ | with_reducible exact cN _ _ | with_reducible exact cD _ _)
                  go_big_quiet_step (first | with_reducible exact cI _ _ | with_reducible exact cM _ _ | with_reducible exact cN _ _ | with_reducible exact cD _ _)
                  go_big_quiet_step (first | with_reducible exact cI _ _ | with_reducible exact cM _ _ | with_reducible exact cN _ _ | with_reducible exact cD _ _)
                  go_big_quiet_step (first | with_reducible exact cI _ _ | with_reducible exact cM _ _ | with_reducible exact cN _ _ | with_reducible exact cD _ _)
                  go_big_quiet_step (first | with_reducible exact cI _ _ | with_reducible exact cM _ _ | with_reducible exact cN _ _ | with_reducible exact cD _ _)
                  go_big_quiet_step (first | with_reducible exact cI _ _ | with_reducible exact cM _ _ | with_reducible exact cN _ _ | with_reducible exact cD _ _)
                  go_big_quiet_step (first | with_reducible exact cI _ _ | with_reducible exact cM _ _ | with_reducible exact cN _ _ | with_reducible exact cD _ _)
                  go_big_quiet_step (first | with_reducible exact cI _ _ | with_reducible exact cM _ _ | with_reducible exact cN _ _ | with_reducible exact cD _ _)
                  go_big_quiet_step (first | with_reducible exact cI _ _ | with_reducible exact cM _ _ | with_reducible exact cN _ _ | with_reducible exact cD _ _)
                  go_big_quiet_step (first | with_reducible exact cI _ _ | with_reducible exact cM _ _ | with_reducible exact cN _ _ | with_reducible exact cD _ _)
                  go_big_quiet_step (first | with_reducible exact cI _ _ | with_reducible exact cM _ _ | with_reducible exact cN _ _ | with_reducible exact cD _ _)
                  go_big_quiet_step (first | with_reducible exact cI _ _ | with_reducible exact cM _ _ | with_reducible exact cN _ _ | with_reducible exact cD _ _)
                  go_big_quiet_step (first | with_reducible exact cI _ _ | with_reducible exact cM _ _ | with_reducible exact cN _ _ | with_reducible exact cD _ _)
                  go_big_quiet_step (first | with_reducible exact cI _ _ | with_reducible exact cM _ _ | with_reducible exact cN _ _ | with_reducible exact cD _ _)
                  refine wpQuiet_nil ?_
                  intro w7 hw'
                  have HK7 : Hid (w7.heap[w.heap.size]? = some (.cells c 37 (0, 0))) := row_regrown HK1.out hw'
                  have HB7 : Hid (Below w.heap.size w w7) := (by
                    obtain ⟨⟨dq, osq⟩, rfl⟩ := hw'
                    exact HB1.out.trans ((below_regrown w1 dq osq).mono HB1.out.size) : Below w.heap.size w w7)
                  clear hw' cI cM cN cD q0 c0 q1 c1 q2 c2
                  go_wp2
                  go_roundg (gk - 1)
                  case measure => omega
                  case rel =>
                    exact ⟨n + 1, by omega, by simp, by rw [HY.out HT.out], by rw [HY.out HT.out]; exact HZS.out.1, HB7.out, HK7.out⟩
                | false =>
                  go_upto_region 17 with (first | (refine wpL_load rfl 30 _ rfl _ _ rfl _ HL.out ?_) | fail)
                  have c0 : (wr.alloc (.cells #[.bool true, .bool false, .int .u16 m] 30)).cell? ⟨wr.heap.size, 0, none⟩ = some (.bool true) := by simp
                  have c1 : (wr.alloc (.cells #[.bool true, .bool false, .int .u16 m] 30)).cell? ⟨wr.heap.size, 1, none⟩ = some (.bool false) := by simp
                  have c2 : (wr.alloc (.cells #[.bool true, .bool false, .int .u16 m] 30)).cell? ⟨wr.heap.size, 2, none⟩ = some (.int .u16 m) := by simp
                  have B1 : Below w.heap.size w (wr.alloc (.cells #[.bool true, .bool false, .int .u16 m] 30)) := HB.out.alloc HB.out.size _
                  have K1 : (wr.alloc (.cells #[.bool true, .bool false, .int .u16 m] 30)).heap[w.heap.size]? = some (.cells c 37 (0, 0)) := (((Below.refl wr.heap.size wr).alloc (Nat.le_refl _) _).block _ (Array.getElem?_eq_some_iff.1 H1.out).1).trans H1.out
                  generalize (wr.alloc (.cells #[.bool true, .bool false, .int .u16 m] 30)) = w1 at c0 c1 c2 B1 K1 ⊢
                  have q0 := cell_regrown c0
                  have q1 := cell_regrown c1
                  have q2 := cell_regrown c2
                  have HB1 : Hid (Below w.heap.size w w1) := B1
                  have HK1 : Hid (w1.heap[w.heap.size]? = some (.cells c 37 (0, 0))) := K1
                  clear B1 K1 HL
                  have cI : ∀ dd os, Calls Tryz.prog 91 #[.int .i64 m] (Sort.grow (redrawn w1 dd) os) fun e w'' => e = .returned (.string S) ∧ ∃ p : Regrown, w'' = Sort.grow (redrawn w1 p.d) p.os := fun dd os => Calls.regrown_of (HI2.out _)
                  have cM : ∀ dd os, Calls Tryz.prog 92 #[.bool true, .string ⟨#[33]⟩] (Sort.grow (redrawn w1 dd) os) fun e w'' => e = .returned (.string MK) ∧ ∃ p : Regrown, w'' = Sort.grow (redrawn w1 p.d) p.os := fun dd os => Calls.regrown_of (HM2.out _)
                  have cN : ∀ dd os, Calls Tryz.prog 92 #[.bool false, .string ⟨#[43]⟩] (Sort.grow (redrawn w1 dd) os) fun e w'' => e = .returned (.string ML) ∧ ∃ p : Regrown, w'' = Sort.grow (redrawn w1 p.d) p.os := fun dd os => Calls.regrown_of (HM3.out _)
                  have cD : ∀ dd os, Calls Tryz.prog 90 #[.int .i64 8, .int .i64 n, .string (⟨#[61]⟩ ++ S ++ MK ++ ML)] (Sort.grow (redrawn w1 dd) os) fun e w'' => e = .returned (.string (T3 n)) ∧ ∃ p : Regrown, w'' = Sort.grow (redrawn w1 p.d) p.os := fun dd os => Calls.regrown_of (HD2.out _)
                  refine wp_region_quiet_below (by kernel_rfl) (by kernel_rfl) ?_
                  go_big_quiet_step (first | with_reducible exact cI _ _ | with_reducible exact cM _ _ | with_reducible exact cN _ _ | with_reducible exact cD _ _)
                  go_big_quiet_step (first | with_reducible exact cI _ _ | with_reducible exact cM _ _ | with_reducible exact cN _ _ | with_reducible exact cD _ _)
                  go_big_quiet_step (first | with_reducible exact cI _ _ | with_reducible exact cM _ _ | with_reducible exact cN _ _ | with_reducible exact cD _ _)
                  go_big_quiet_step (first | with_reducible exact cI _ _ | with_reducible exact cM _ _ | with_reducible exact cN _ _ | with_reducible exact cD _ _)
                  go_big_quiet_step (first | with_reducible exact cI _ _ | with_reducible exact cM _ _ | with_reducible exact cN _ _ | with_reducible exact cD _ _)
                  go_big_quiet_step (first | with_reducible exact cI _ _ | with_reducible exact cM _ _ | with_reducible exact cN _ _ | with_reducible exact cD _ _)
                  go_big_quiet_step (first | with_reducible exact cI _ _ | with_reducible exact cM _ _ | with_reducible exact cN _ _ | with_reducible exact cD _ _)
                  go_big_quiet_step (first | with_reducible exact cI _ _ | with_reducible exact cM _ _ | with_reducible exact cN _ _ | with_reducible exact cD _ _)
                  go_big_quiet_step (first | with_reducible exact cI _ _ | with_reducible exact cM _ _ | with_reducible exact cN _ _ | with_reducible exact cD _ _)
                  go_big_quiet_step (first | with_reducible exact cI _ _ | with_reducible exact cM _ _ | with_reducible exact cN _ _ | with_reducible exact cD _ _)
                  go_big_quiet_step (first | with_reducible exact cI _ _ | with_reducible exact cM _ _ | with_reducible exact cN _ _ | with_reducible exact cD _ _)
                  go_big_quiet_step (first | with_reducible exact cI _ _ | with_reducible exact cM _ _ | with_reducible exact cN _ _ | with_reducible exact cD _ _)
                  go_big_quiet_step (first | with_reducible exact cI _ _ | with_reducible exact cM _ _ | with_reducible exact cN _ _ | with_reducible exact cD _ _)
                  go_big_quiet_step (first | with_reducible exact cI _ _ | with_reducible exact cM _ _ | with_reducible exact cN _ _ | with_reducible exact cD _ _)
                  go_big_quiet_step (first | with_reducible exact cI _ _ | with_reducible exact cM _ _ | with_reducible exact cN _ _ | with_reducible exact cD _ _)
                  go_big_quiet_step (first | with_reducible exact cI _ _ | with_reducible exact cM _ _ | with_reducible exact cN _ _ | with_reducible exact cD _ _)
                  go_big_quiet_step (first | with_reducible exact cI _ _ | with_reducible exact cM _ _ | with_reducible exact cN _ _ | with_reducible exact cD _ _)
                  go_big_quiet_step (first | with_reducible exact cI _ _ | with_reducible exact cM _ _ | with_reducible exact cN _ _ | with_reducible exact cD _ _)
                  refine wpQuiet_nil ?_
                  intro w7 hw'
                  have HK7 : Hid (w7.heap[w.heap.size]? = some (.cells c 37 (0, 0))) := row_regrown HK1.out hw'
                  have HB7 : Hid (Below w.heap.size w w7) := (by
                    obtain ⟨⟨dq, osq⟩, rfl⟩ := hw'
                    exact HB1.out.trans ((below_regrown w1 dq osq).mono HB1.out.size) : Below w.heap.size w w7)
                  clear hw' cI cM cN cD q0 c0 q1 c1 q2 c2
                  go_wp2
                  go_roundg (gk - 1)
                  case measure => omega
                  case rel =>
                    exact ⟨n + 1, by omega, by simp, by rw [HY.out HT.out], by rw [HY.out HT.out]; exact HZS.out.1, HB7.out, HK7.out⟩
              | false =>
                cases l with
                | true =>
                  have HT : Hid (P3 n = true) := (by rw [HPn.out]; rfl : P3 n = true)
                  go_upto_region 17 with (first | (refine wpL_load rfl 30 _ rfl _ _ rfl _ HL.out ?_) | fail)
                  have c0 : (wr.alloc (.cells #[.bool false, .bool true, .int .u16 m] 30)).cell? ⟨wr.heap.size, 0, none⟩ = some (.bool false) := by simp
                  have c1 : (wr.alloc (.cells #[.bool false, .bool true, .int .u16 m] 30)).cell? ⟨wr.heap.size, 1, none⟩ = some (.bool true) := by simp
                  have c2 : (wr.alloc (.cells #[.bool false, .bool true, .int .u16 m] 30)).cell? ⟨wr.heap.size, 2, none⟩ = some (.int .u16 m) := by simp
                  have B1 : Below w.heap.size w (wr.alloc (.cells #[.bool false, .bool true, .int .u16 m] 30)) := HB.out.alloc HB.out.size _
                  have K1 : (wr.alloc (.cells #[.bool false, .bool true, .int .u16 m] 30)).heap[w.heap.size]? = some (.cells c 37 (0, 0)) := (((Below.refl wr.heap.size wr).alloc (Nat.le_refl _) _).block _ (Array.getElem?_eq_some_iff.1 H1.out).1).trans H1.out
                  generalize (wr.alloc (.cells #[.bool false, .bool true, .int .u16 m] 30)) = w1 at c0 c1 c2 B1 K1 ⊢
                  have q0 := cell_regrown c0
                  have q1 := cell_regrown c1
                  have q2 := cell_regrown c2
                  have HB1 : Hid (Below w.heap.size w w1) := B1
                  have HK1 : Hid (w1.heap[w.heap.size]? = some (.cells c 37 (0, 0))) := K1
                  clear B1 K1 HL
                  have cI : ∀ dd os, Calls Tryz.prog 91 #[.int .i64 m] (Sort.grow (redrawn w1 dd) os) fun e w'' => e = .returned (.string S) ∧ ∃ p : Regrown, w'' = Sort.grow (redrawn w1 p.d) p.os := fun dd os => Calls.regrown_of (HI2.out _)
                  have cM : ∀ dd os, Calls Tryz.prog 92 #[.bool false, .string ⟨#[33]⟩] (Sort.grow (redrawn w1 dd) os) fun e w'' => e = .returned (.string MK) ∧ ∃ p : Regrown, w'' = Sort.grow (redrawn w1 p.d) p.os := fun dd os => Calls.regrown_of (HM2.out _)
                  have cN : ∀ dd os, Calls Tryz.prog 92 #[.bool true, .string ⟨#[43]⟩] (Sort.grow (redrawn w1 dd) os) fun e w'' => e = .returned (.string ML) ∧ ∃ p : Regrown, w'' = Sort.grow (redrawn w1 p.d) p.os := fun dd os => Calls.regrown_of (HM3.out _)
                  have cD : ∀ dd os, Calls Tryz.prog 90 #[.int .i64 8, .int .i64 n, .string (⟨#[61]⟩ ++ S ++ MK ++ ML)] (Sort.grow (redrawn w1 dd) os) fun e w'' => e = .returned (.string (T3 n)) ∧ ∃ p : Regrown, w'' = Sort.grow (redrawn w1 p.d) p.os := fun dd os => Calls.regrown_of (HD2.out _)
                  refine wp_region_quiet_below (by kernel_rfl) (by kernel_rfl) ?_
                  go_big_quiet_step (first | with_reducible exact cI _ _ | with_reducible exact cM _ _ | with_reducible exact cN _ _ | with_reducible exact cD _ _)
                  go_big_quiet_step (first | with_reducible exact cI _ _ | with_reducible exact cM _ _ | with_reducible exact cN _ _ | with_reducible exact cD _ _)
                  go_big_quiet_step (first | with_reducible exact cI _ _ | with_reducible exact cM _ _ | with_reducible exact cN _ _ | with_reducible exact cD _ _)
                  go_big_quiet_step (first | with_reducible exact cI _ _ | with_reducible exact cM _ _ | with_reducible exact cN _ _ | with_reducible exact cD _ _)
                  go_big_quiet_step (first | with_reducible exact cI _ _ | with_reducible exact cM _ _ | with_reducible exact cN _ _ | with_reducible exact cD _ _)
                  go_big_quiet_step (first | with_reducible exact cI _ _ | with_reducible exact cM _ _ | with_reducible exact cN _ _ | with_reducible exact cD _ _)
                  go_big_quiet_step (first | with_reducible exact cI _ _ | with_reducible exact cM _ _ | with_reducible exact cN _ _ | with_reducible exact cD _ _)
                  go_big_quiet_step (first | with_reducible exact cI _ _ | with_reducible exact cM _ _ | with_reducible exact cN _ _ | with_reducible exact cD _ _)
                  go_big_quiet_step (first | with_reducible exact cI _ _ | with_reducible exact cM _ _ | with_reducible exact cN _ _ | with_reducible exact cD _ _)
                  go_big_quiet_step (first | with_reducible exact cI _ _ | with_reducible exact cM _ _ | with_reducible exact cN _ _ | with_reducible exact cD _ _)
                  go_big_quiet_step (first | with_reducible exact cI _ _ | with_reducible exact cM _ _ | with_reducible exact cN _ _ | with_reducible exact cD _ _)
                  go_big_quiet_step (first | with_reducible exact cI _ _ | with_reducible exact cM _ _ | with_reducible exact cN _ _ | with_reducible exact cD _ _)
                  go_big_quiet_step (first | with_reducible exact cI _ _ | with_reducible exact cM _ _ | with_reducible exact cN _ _ | with_reducible exact cD _ _)
                  go_big_quiet_step (first | with_reducible exact cI _ _ | with_reducible exact cM _ _ | with_reducible exact cN _ _ | with_reducible exact cD _ _)
                  go_big_quiet_step (first | with_reducible exact cI _ _ | with_reducible exact cM _ _ | with_reducible exact cN _ _ | with_reducible exact cD _ _)
                  go_big_quiet_step (first | with_reducible exact cI _ _ | with_reducible exact cM _ _ | with_reducible exact cN _ _ | with_reducible exact cD _ _)
                  go_big_quiet_step (first | with_reducible exact cI _ _ | with_reducible exact cM _ _ | with_reducible exact cN _ _ | with_reducible exact cD _ _)
                  go_big_quiet_step (first | with_reducible exact cI _ _ | with_reducible exact cM _ _ | with_reducible exact cN _ _ | with_reducible exact cD _ _)
                  refine wpQuiet_nil ?_
                  intro w7 hw'
                  have HK7 : Hid (w7.heap[w.heap.size]? = some (.cells c 37 (0, 0))) := row_regrown HK1.out hw'
                  have HB7 : Hid (Below w.heap.size w w7) := (by
                    obtain ⟨⟨dq, osq⟩, rfl⟩ := hw'
                    exact HB1.out.trans ((below_regrown w1 dq osq).mono HB1.out.size) : Below w.heap.size w w7)
                  clear hw' cI cM cN cD q0 c0 q1 c1 q2 c2
                  go_wp2
                  go_roundg (gk - 1)
                  case measure => omega
                  case rel =>
                    exact ⟨n + 1, by omega, by simp, by rw [HY.out HT.out], by rw [HY.out HT.out]; exact HZS.out.1, HB7.out, HK7.out⟩
                | false =>
                  by_cases hm : 0 < m
                  · have HT : Hid (P3 n = true) := (by rw [HPn.out, decide_eq_true hm]; rfl : P3 n = true)
                    go_upto_region 17 with (first | (refine wpL_load rfl 30 _ rfl _ _ rfl _ HL.out ?_) | fail)
                    have c0 : (wr.alloc (.cells #[.bool false, .bool false, .int .u16 m] 30)).cell? ⟨wr.heap.size, 0, none⟩ = some (.bool false) := by simp
                    have c1 : (wr.alloc (.cells #[.bool false, .bool false, .int .u16 m] 30)).cell? ⟨wr.heap.size, 1, none⟩ = some (.bool false) := by simp
                    have c2 : (wr.alloc (.cells #[.bool false, .bool false, .int .u16 m] 30)).cell? ⟨wr.heap.size, 2, none⟩ = some (.int .u16 m) := by simp
                    have B1 : Below w.heap.size w (wr.alloc (.cells #[.bool false, .bool false, .int .u16 m] 30)) := HB.out.alloc HB.out.size _
                    have K1 : (wr.alloc (.cells #[.bool false, .bool false, .int .u16 m] 30)).heap[w.heap.size]? = some (.cells c 37 (0, 0)) := (((Below.refl wr.heap.size wr).alloc (Nat.le_refl _) _).block _ (Array.getElem?_eq_some_iff.1 H1.out).1).trans H1.out
                    generalize (wr.alloc (.cells #[.bool false, .bool false, .int .u16 m] 30)) = w1 at c0 c1 c2 B1 K1 ⊢
                    have q0 := cell_regrown c0
                    have q1 := cell_regrown c1
                    have q2 := cell_regrown c2
                    have HB1 : Hid (Below w.heap.size w w1) := B1
                    have HK1 : Hid (w1.heap[w.heap.size]? = some (.cells c 37 (0, 0))) := K1
                    clear B1 K1 HL
                    have cI : ∀ dd os, Calls Tryz.prog 91 #[.int .i64 m] (Sort.grow (redrawn w1 dd) os) fun e w'' => e = .returned (.string S) ∧ ∃ p : Regrown, w'' = Sort.grow (redrawn w1 p.d) p.os := fun dd os => Calls.regrown_of (HI2.out _)
                    have cM : ∀ dd os, Calls Tryz.prog 92 #[.bool false, .string ⟨#[33]⟩] (Sort.grow (redrawn w1 dd) os) fun e w'' => e = .returned (.string MK) ∧ ∃ p : Regrown, w'' = Sort.grow (redrawn w1 p.d) p.os := fun dd os => Calls.regrown_of (HM2.out _)
                    have cN : ∀ dd os, Calls Tryz.prog 92 #[.bool false, .string ⟨#[43]⟩] (Sort.grow (redrawn w1 dd) os) fun e w'' => e = .returned (.string ML) ∧ ∃ p : Regrown, w'' = Sort.grow (redrawn w1 p.d) p.os := fun dd os => Calls.regrown_of (HM3.out _)
                    have cD : ∀ dd os, Calls Tryz.prog 90 #[.int .i64 8, .int .i64 n, .string (⟨#[61]⟩ ++ S ++ MK ++ ML)] (Sort.grow (redrawn w1 dd) os) fun e w'' => e = .returned (.string (T3 n)) ∧ ∃ p : Regrown, w'' = Sort.grow (redrawn w1 p.d) p.os := fun dd os => Calls.regrown_of (HD2.out _)
                    refine wp_region_quiet_below (by kernel_rfl) (by kernel_rfl) ?_
                    go_big_quiet_step (first | with_reducible exact cI _ _ | with_reducible exact cM _ _ | with_reducible exact cN _ _ | with_reducible exact cD _ _)
                    go_big_quiet_step (first | with_reducible exact cI _ _ | with_reducible exact cM _ _ | with_reducible exact cN _ _ | with_reducible exact cD _ _)
                    go_big_quiet_step (first | with_reducible exact cI _ _ | with_reducible exact cM _ _ | with_reducible exact cN _ _ | with_reducible exact cD _ _)
                    go_big_quiet_step (first | with_reducible exact cI _ _ | with_reducible exact cM _ _ | with_reducible exact cN _ _ | with_reducible exact cD _ _)
                    go_big_quiet_step (first | with_reducible exact cI _ _ | with_reducible exact cM _ _ | with_reducible exact cN _ _ | with_reducible exact cD _ _)
                    go_big_quiet_step (first | with_reducible exact cI _ _ | with_reducible exact cM _ _ | with_reducible exact cN _ _ | with_reducible exact cD _ _)
                    go_big_quiet_step (first | with_reducible exact cI _ _ | with_reducible exact cM _ _ | with_reducible exact cN _ _ | with_reducible exact cD _ _)
                    go_big_quiet_step (first | with_reducible exact cI _ _ | with_reducible exact cM _ _ | with_reducible exact cN _ _ | with_reducible exact cD _ _)
                    go_big_quiet_step (first | with_reducible exact cI _ _ | with_reducible exact cM _ _ | with_reducible exact cN _ _ | with_reducible exact cD _ _)
                    go_big_quiet_step (first | with_reducible exact cI _ _ | with_reducible exact cM _ _ | with_reducible exact cN _ _ | with_reducible exact cD _ _)
                    go_big_quiet_step (first | with_reducible exact cI _ _ | with_reducible exact cM _ _ | with_reducible exact cN _ _ | with_reducible exact cD _ _)
                    go_big_quiet_step (first | with_reducible exact cI _ _ | with_reducible exact cM _ _ | with_reducible exact cN _ _ | with_reducible exact cD _ _)
                    go_big_quiet_step (first | with_reducible exact cI _ _ | with_reducible exact cM _ _ | with_reducible exact cN _ _ | with_reducible exact cD _ _)
                    go_big_quiet_step (first | with_reducible exact cI _ _ | with_reducible exact cM _ _ | with_reducible exact cN _ _ | with_reducible exact cD _ _)
                    go_big_quiet_step (first | with_reducible exact cI _ _ | with_reducible exact cM _ _ | with_reducible exact cN _ _ | with_reducible exact cD _ _)
                    go_big_quiet_step (first | with_reducible exact cI _ _ | with_reducible exact cM _ _ | with_reducible exact cN _ _ | with_reducible exact cD _ _)
                    go_big_quiet_step (first | with_reducible exact cI _ _ | with_reducible exact cM _ _ | with_reducible exact cN _ _ | with_reducible exact cD _ _)
                    go_big_quiet_step (first | with_reducible exact cI _ _ | with_reducible exact cM _ _ | with_reducible exact cN _ _ | with_reducible exact cD _ _)
                    refine wpQuiet_nil ?_
                    intro w7 hw'
                    have HK7 : Hid (w7.heap[w.heap.size]? = some (.cells c 37 (0, 0))) := row_regrown HK1.out hw'
                    have HB7 : Hid (Below w.heap.size w w7) := (by
                      obtain ⟨⟨dq, osq⟩, rfl⟩ := hw'
                      exact HB1.out.trans ((below_regrown w1 dq osq).mono HB1.out.size) : Below w.heap.size w w7)
                    clear hw' cI cM cN cD q0 c0 q1 c1 q2 c2
                    go_wp2
                    go_roundg (gk - 1)
                    case measure => omega
                    case rel =>
                      exact ⟨n + 1, by omega, by simp, by rw [HY.out HT.out], by rw [HY.out HT.out]; exact HZS.out.1, HB7.out, HK7.out⟩
                  · have HT : Hid (P3 n = false) := (by rw [HPn.out, decide_eq_false hm]; rfl : P3 n = false)
                    go_wp2_with (first | (refine wpL_load rfl 30 _ rfl _ _ rfl _ HL.out ?_) | fail)
                    go_roundg (gk - 1)
                    case measure => omega
                    case rel =>
                      exact ⟨n + 1, by omega, by simp, by rw [HNo.out HT.out], by rw [HNo.out HT.out]; exact HZS.out.2, HB.out.alloc HB.out.size _, (((Below.refl wr.heap.size wr).alloc (Nat.le_refl _) _).block _ (Array.getElem?_eq_some_iff.1 H1.out).1).trans H1.out⟩
            · have hn16 : n = 16 := by omega
              subst hn16
              have i1 : ¬ (((16 : Nat) : Int) < 16) := by omega
              clear hn hlt
              obtain ⟨P4, HP4⟩ : ∃ f : Nat → Bool, Hid (f = datP c) := ⟨_, rfl⟩
              obtain ⟨T4, HT4⟩ : ∃ f : Nat → ByteArray, Hid (f = datT c) := ⟨_, rfl⟩
              obtain ⟨A3, HA3⟩ : ∃ s, Hid (s = acc A2 P3 T3 16) := ⟨_, rfl⟩
              rw [← HA3.out] at hs ⊢
              have hb := HB.out
              have h1 := H1.out
              clear HB H1
              go_wp2_with fail
              go_loopg [3, 9] 32 (fun g s i wr => ∃ n : Nat, n + g = 32 ∧ i = .int .i64 (n : Int) ∧ s = .string (acc A3 P4 T4 n) ∧ (acc A3 P4 T4 n).size ≤ 14000 + 100 * n ∧ Below w.heap.size w wr ∧ wr.heap[w.heap.size]? = some (.cells c 37 (0, 0)))
              case atStart => exact ⟨0, by omega, rfl, rfl, Nat.le_trans hs (by omega), hb, h1⟩
              clear hb h1 hs
              case round =>
                obtain ⟨n, hn, rfl, rfl, hs, hb, h1⟩ := hrel
                have H1 : Hid (wr.heap[w.heap.size]? = some (.cells c 37 (0, 0))) := h1
                have HB : Hid (Below w.heap.size w wr) := hb
                clear h1 hb
                by_cases hlt : n < 32
                · have i1 : (n : Int) < 32 := by omega
                  have i3 : (0 : Int) ≤ (n : Int) := by omega
                  obtain ⟨m, hm0, hmr, hpn, htn⟩ := data_at HC.out hlt
                  have cx : wr.cell? ⟨w.heap.size, 85 + n, none⟩ = some (.int .i16 m) := (cell_of_row _ _ _ _ _ _ H1.out).trans hm0
                  rw [← HP4.out] at hpn
                  rw [← HT4.out] at htn
                  have z0 := i16_text hmr
                  have HI2 : Hid (∀ W, Calls Tryz.prog 91 #[.int .i64 m] W fun e w' => e = .returned (.string (tx (itoa m))) ∧ Below W.heap.size W w') := fun W => dec_any m (by omega) (by omega) W
                  obtain ⟨S, HS⟩ : ∃ S, Hid (S = tx (itoa m)) := ⟨_, Eq.refl (tx (itoa m))⟩
                  rw [← HS.out] at HI2 z0 htn
                  have HD2 : Hid (∀ W, Calls Tryz.prog 90 #[.int .i64 9, .int .i64 n, .string (⟨#[61]⟩ ++ S)] W fun e w' => e = .returned (.string (T4 n)) ∧ Below W.heap.size W w') := fun W => by
                    rw [htn]; exact dev_s 9 n (by omega) _ (Nat.le_trans (eq_text1 S (by omega)) (by omega)) W
                  have z8 : (T4 n).size ≤ 100 := by
                    rw [htn]
                    have g1 := dvT_size 9 n (⟨#[61]⟩ ++ S) (by omega)
                    have g2 := eq_text1 S (by omega)
                    omega
                  obtain ⟨A, HA⟩ : ∃ A, Hid (A = acc A3 P4 T4 n) := ⟨_, rfl⟩
                  have HY : Hid (P4 n = true → acc A3 P4 T4 (n + 1) = A ++ T4 n) := fun h => by rw [HA.out]; exact acc_yes h
                  have HNo : Hid (P4 n = false → acc A3 P4 T4 (n + 1) = A) := fun h => by rw [HA.out]; exact acc_no h
                  rw [← HA.out] at hs ⊢
                  have z3 : ¬ 9223372036854775807 < A.size + (T4 n).size := by omega
                  have HZS : Hid ((A ++ T4 n).size ≤ 14000 + 100 * (n + 1) ∧ A.size ≤ 14000 + 100 * (n + 1)) := (by rw [ByteArray.size_append]; constructor <;> omega : (A ++ T4 n).size ≤ 14000 + 100 * (n + 1) ∧ A.size ≤ 14000 + 100 * (n + 1))
                  have z1 : ¬ 9223372036854775807 < 1 + S.size := by omega
                  have HPn : Hid (P4 n = (m != 0)) := hpn
                  have m0 : -32768 ≤ m := hmr.1
                  have m1 : m < 32768 := hmr.2
                  clear hm0 hmr hpn htn z0 z8 HS HA hs
                  by_cases hm : m = 0
                  · have e1 : (m == 0) = true := by rw [hm]; rfl
                    have e2 : (m != 0) = false := by rw [hm]; rfl
                    have HT : Hid (P4 n = false) := (by rw [HPn.out, e2] : P4 n = false)
                    clear hm
                    go_wp2
                    go_roundg (gk - 1)
                    case measure => omega
                    case rel =>
                      exact ⟨n + 1, by omega, by simp, by rw [HNo.out HT.out], by rw [HNo.out HT.out]; exact HZS.out.2, HB.out, H1.out⟩
                  · have e1 : (m == 0) = false := beq_eq_false_iff_ne.2 hm
                    have e2 : (m != 0) = true := by rw [bne, e1]; rfl
                    have HT : Hid (P4 n = true) := (by rw [HPn.out, e2] : P4 n = true)
                    clear hm
                    go_wp2_with fail
                    refine (HI2.out _).mono ?_
                    rintro e w1 ⟨rfl, g1⟩
                    go_wp2_with fail
                    refine (HD2.out _).mono ?_
                    rintro e w2 ⟨rfl, g2⟩
                    have G : Below wr.heap.size wr w2 := g1.trans (g2.mono g1.size)
                    have HB7 : Hid (Below w.heap.size w w2) := HB.out.trans (G.mono HB.out.size)
                    have HK7 : Hid (w2.heap[w.heap.size]? = some (.cells c 37 (0, 0))) := (G.block _ (Array.getElem?_eq_some_iff.1 H1.out).1).trans H1.out
                    clear g1 g2 G
                    go_wp2
                    go_roundg (gk - 1)
                    case measure => omega
                    case rel =>
                      exact ⟨n + 1, by omega, by simp, by rw [HY.out HT.out], by rw [HY.out HT.out]; exact HZS.out.1, HB7.out, HK7.out⟩
                · have hn16 : n = 32 := by omega
                  subst hn16
                  have i1 : ¬ (((32 : Nat) : Int) < 32) := by omega
                  clear hn hlt
                  obtain ⟨P5, HP5⟩ : ∃ f : Nat → Bool, Hid (f = reaP rt c) := ⟨_, rfl⟩
                  obtain ⟨T5, HT5⟩ : ∃ f : Nat → ByteArray, Hid (f = reaT rt c) := ⟨_, rfl⟩
                  obtain ⟨A4, HA4⟩ : ∃ s, Hid (s = acc A3 P4 T4 32) := ⟨_, rfl⟩
                  rw [← HA4.out] at hs ⊢
                  have hb := HB.out
                  have h1 := H1.out
                  clear HB H1
                  go_wp2_with fail
                  go_loopg [3, 10] 16 (fun g s i wr => ∃ n : Nat, n + g = 16 ∧ i = .int .i64 (n : Int) ∧ s = .string (acc A4 P5 T5 n) ∧ (acc A4 P5 T5 n).size ≤ 18000 + 100 * n ∧ Below w.heap.size w wr ∧ wr.heap[w.heap.size]? = some (.cells c 37 (0, 0)))
                  case atStart => exact ⟨0, by omega, rfl, rfl, Nat.le_trans hs (by omega), hb, h1⟩
                  clear hb h1 hs
                  case round =>
                    obtain ⟨n, hn, rfl, rfl, hs, hb, h1⟩ := hrel
                    have H1 : Hid (wr.heap[w.heap.size]? = some (.cells c 37 (0, 0))) := h1
                    have HB : Hid (Below w.heap.size w wr) := hb
                    clear h1 hb
                    by_cases hlt : n < 16
                    · have i1 : (n : Int) < 16 := by omega
                      have i3 : (0 : Int) ≤ (n : Int) := by omega
                      obtain ⟨x, hx0, hxr, hpn, htn⟩ := real_at rt HC.out hlt
                      have cx : wr.cell? ⟨w.heap.size, 117 + n, none⟩ = some (.float .f64 x) := (cell_of_row _ _ _ _ _ _ H1.out).trans hx0
                      rw [← HP5.out] at hpn
                      rw [← HT5.out] at htn
                      have z0 := rt_size HRT.out x
                      have HI2 : Hid (∀ W, Calls Tryz.prog 88 #[.float .f64 x] W fun e w' => e = .returned (.string (tx (rt x))) ∧ Below W.heap.size W w') := fun W => real_s HRT.out x hxr W
                      obtain ⟨S, HS⟩ : ∃ S, Hid (S = tx (rt x)) := ⟨_, rfl⟩
                      rw [← HS.out] at HI2 z0 htn hpn
                      have HD2 : Hid (∀ W, Calls Tryz.prog 90 #[.int .i64 10, .int .i64 n, .string (⟨#[61]⟩ ++ S)] W fun e w' => e = .returned (.string (T5 n)) ∧ Below W.heap.size W w') := fun W => by
                        rw [htn]; exact dev_s 10 n (by omega) _ (Nat.le_trans (eq_text1 S (by omega)) (by omega)) W
                      have z8 : (T5 n).size ≤ 100 := by
                        rw [htn]
                        have g1 := dvT_size 10 n (⟨#[61]⟩ ++ S) (by omega)
                        have g2 := eq_text1 S (by omega)
                        omega
                      obtain ⟨A, HA⟩ : ∃ A, Hid (A = acc A4 P5 T5 n) := ⟨_, rfl⟩
                      have HY : Hid (P5 n = true → acc A4 P5 T5 (n + 1) = A ++ T5 n) := fun h => by rw [HA.out]; exact acc_yes h
                      have HNo : Hid (P5 n = false → acc A4 P5 T5 (n + 1) = A) := fun h => by rw [HA.out]; exact acc_no h
                      rw [← HA.out] at hs ⊢
                      have z3 : ¬ 9223372036854775807 < A.size + (T5 n).size := by omega
                      have HZS : Hid ((A ++ T5 n).size ≤ 18000 + 100 * (n + 1) ∧ A.size ≤ 18000 + 100 * (n + 1)) := (by rw [ByteArray.size_append]; constructor <;> omega : (A ++ T5 n).size ≤ 18000 + 100 * (n + 1) ∧ A.size ≤ 18000 + 100 * (n + 1))
                      have z1 : ¬ 9223372036854775807 < 1 + S.size := by omega
                      have HPn : Hid (P5 n = !(S.toList == [48])) := hpn
                      have HX0 : Hid (c[117 + n]? = some (.float .f64 x)) := hx0
                      clear hx0 hxr hpn htn z0 z8 HS HA hs
                      go_wp2_with fail
                      refine (HI2.out _).mono ?_
                      rintro e w1 ⟨rfl, g1⟩
                      have HK1 : Hid (w1.heap[w.heap.size]? = some (.cells c 37 (0, 0))) := (g1.block _ (Array.getElem?_eq_some_iff.1 H1.out).1).trans H1.out
                      have HB1 : Hid (Below w.heap.size w w1) := HB.out.trans (g1.mono HB.out.size)
                      have cx1 : w1.cell? ⟨w.heap.size, 117 + n, none⟩ = some (.float .f64 x) := (cell_of_row _ _ _ _ _ _ HK1.out).trans HX0.out
                      clear g1 cx
                      cases e1 : (S.toList == [48]) with
                      | true =>
                        have HT : Hid (P5 n = false) := (by rw [HPn.out, e1]; rfl : P5 n = false)
                        have e2 : (S.toList != [48]) = false := by rw [bne, e1]; rfl
                        go_wp2
                        go_roundg (gk - 1)
                        case measure => omega
                        case rel =>
                          exact ⟨n + 1, by omega, by simp, by rw [HNo.out HT.out], by rw [HNo.out HT.out]; exact HZS.out.2, HB1.out, HK1.out⟩
                      | false =>
                        have HT : Hid (P5 n = true) := (by rw [HPn.out, e1]; rfl : P5 n = true)
                        have e2 : (S.toList != [48]) = true := by rw [bne, e1]; rfl
                        go_wp2_with fail
                        refine (HI2.out _).mono ?_
                        rintro e w2 ⟨rfl, g1⟩
                        go_wp2_with fail
                        refine (HD2.out _).mono ?_
                        rintro e w3 ⟨rfl, g2⟩
                        have G : Below w1.heap.size w1 w3 := g1.trans (g2.mono g1.size)
                        have HB7 : Hid (Below w.heap.size w w3) := HB1.out.trans (G.mono HB1.out.size)
                        have HK7 : Hid (w3.heap[w.heap.size]? = some (.cells c 37 (0, 0))) := (G.block _ (Array.getElem?_eq_some_iff.1 HK1.out).1).trans HK1.out
                        clear g1 g2 G
                        go_wp2
                        go_roundg (gk - 1)
                        case measure => omega
                        case rel =>
                          exact ⟨n + 1, by omega, by simp, by rw [HY.out HT.out], by rw [HY.out HT.out]; exact HZS.out.1, HB7.out, HK7.out⟩
                    · have hn16 : n = 16 := by omega
                      subst hn16
                      have i1 : ¬ (((16 : Nat) : Int) < 16) := by omega
                      clear hn hlt
                      obtain ⟨t, ht, htr⟩ := HC.out.u32 (i := 133) (by omega) rfl
                      obtain ⟨r, hr⟩ := HC.out.bool (i := 134) (by omega) rfl
                      obtain ⟨f, hf⟩ := HC.out.bool (i := 135) (by omega) rfl
                      have c0 : wr.cell? ⟨w.heap.size, 133, none⟩ = some (.int .u32 t) := (cell_of_row _ _ _ _ _ _ H1.out).trans ht
                      have c1 : wr.cell? ⟨w.heap.size, 134, none⟩ = some (.bool r) := (cell_of_row _ _ _ _ _ _ H1.out).trans hr
                      have c2 : wr.cell? ⟨w.heap.size, 135, none⟩ = some (.bool f) := (cell_of_row _ _ _ _ _ _ H1.out).trans hf
                      obtain ⟨A5, HA5⟩ : ∃ s, Hid (s = acc A4 P5 T5 16) := ⟨_, rfl⟩
                      obtain ⟨S, HS⟩ : ∃ S, Hid (S = tx (itoa t)) := ⟨_, Eq.refl (tx (itoa t))⟩
                      obtain ⟨M1, HM1⟩ : ∃ Y, Hid (Y = markT (decide (0 < t)) (⟨#[116, 105, 109, 101, 61]⟩ ++ S ++ ⟨#[32]⟩)) := ⟨_, rfl⟩
                      obtain ⟨M2, HM2⟩ : ∃ S, Hid (S = markT r ⟨#[114, 97, 110, 32]⟩) := ⟨_, rfl⟩
                      obtain ⟨M3, HM3⟩ : ∃ S, Hid (S = markT f ⟨#[102, 97, 117, 108, 116, 32]⟩) := ⟨_, rfl⟩
                      rw [← HA5.out] at hs ⊢
                      have HSP : spaced rt c = A5 ++ M1 ++ M2 ++ M3 := by
                        unfold spaced
                        rw [word_of ht, flag_of hr, flag_of hf, ← HS.out, ← HM1.out, ← HM2.out, ← HM3.out, HA5.out, HA4.out, HA3.out, HA2.out, HK5.out, HKT.out, HP2.out, HT2.out, HP3.out, HT3.out, HP4.out, HT4.out, HP5.out, HT5.out]
                      have HRS : Hid (RES = if (A5 ++ M1 ++ M2 ++ M3).toList == [] then ⟨#[]⟩ else (A5 ++ M1 ++ M2 ++ M3).extract 0 ((A5 ++ M1 ++ M2 ++ M3).size - 1)) := (by rw [HRES.out, ← HSP]; rfl : RES = if (A5 ++ M1 ++ M2 ++ M3).toList == [] then ⟨#[]⟩ else (A5 ++ M1 ++ M2 ++ M3).extract 0 ((A5 ++ M1 ++ M2 ++ M3).size - 1))
                      have y0 : S.size ≤ 21 := by
                        rw [HS.out]
                        obtain ⟨u, rfl⟩ := Int.eq_ofNat_of_zero_le htr.1
                        exact itoa_small6 u (by omega)
                      have y1 : M1.size ≤ 40 := by
                        rw [HM1.out]
                        refine Nat.le_trans (markT_size _ _) ?_
                        have e5 : (⟨#[116, 105, 109, 101, 61]⟩ : ByteArray).size = 5 := rfl
                        have e6 : (⟨#[32]⟩ : ByteArray).size = 1 := rfl
                        rw [ByteArray.size_append, ByteArray.size_append, e5, e6]; omega
                      have y2 : M2.size ≤ 4 := by rw [HM2.out]; exact markT_size _ _
                      have y3 : M3.size ≤ 6 := by rw [HM3.out]; exact markT_size _ _
                      have hsz : (A5 ++ M1 ++ M2 ++ M3).size ≤ 30000 := by
                        rw [ByteArray.size_append, ByteArray.size_append, ByteArray.size_append]; omega
                      have z1 : ¬ 9223372036854775807 < 5 + S.size := by omega
                      have z2 : ¬ 9223372036854775807 < 5 + S.size + 1 := by omega
                      have z3 : ¬ 9223372036854775807 < A5.size + M1.size := by omega
                      have z4 : ¬ 9223372036854775807 < A5.size + M1.size + M2.size := by omega
                      have z5 : ¬ 9223372036854775807 < A5.size + M1.size + M2.size + M3.size := by omega
                      have HI2 : Hid (∀ W, Calls Tryz.prog 91 #[.int .i64 t] W fun e w' => e = .returned (.string S) ∧ Below W.heap.size W w') := fun W => by rw [HS.out]; exact dec_any t (by omega) (by omega) W
                      have HM1c : Hid (∀ W, Calls Tryz.prog 92 #[.bool (decide (0 < t)), .string (⟨#[116, 105, 109, 101, 61]⟩ ++ S ++ ⟨#[32]⟩)] W fun e w' => e = .returned (.string M1) ∧ Below W.heap.size W w') := fun W => by rw [HM1.out]; exact mark_s _ _ W
                      have HM2c : Hid (∀ W, Calls Tryz.prog 92 #[.bool r, .string ⟨#[114, 97, 110, 32]⟩] W fun e w' => e = .returned (.string M2) ∧ Below W.heap.size W w') := fun W => by rw [HM2.out]; exact mark_s _ _ W
                      have HM3c : Hid (∀ W, Calls Tryz.prog 92 #[.bool f, .string ⟨#[102, 97, 117, 108, 116, 32]⟩] W fun e w' => e = .returned (.string M3) ∧ Below W.heap.size W w') := fun W => by rw [HM3.out]; exact mark_s _ _ W
                      have t0 : (0 : Int) ≤ t := htr.1
                      have t1 : t < 4294967296 := htr.2
                      clear HSP HM1 HM2 HM3 HS HA5 ht hr hf htr y0 y1 y2 y3 hs
                      by_cases hm : 0 < t
                      · rw [decide_eq_true hm] at HM1c
                        go_upto_region 28 with fail
                        have q0 := cell_regrown c0
                        have q1 := cell_regrown c1
                        have q2 := cell_regrown c2
                        have cI : ∀ dd os, Calls Tryz.prog 91 #[.int .i64 t] (Sort.grow (redrawn wr dd) os) fun e w'' => e = .returned (.string S) ∧ ∃ p : Regrown, w'' = Sort.grow (redrawn wr p.d) p.os := fun dd os => Calls.regrown_of (HI2.out _)
                        have cM : ∀ dd os, Calls Tryz.prog 92 #[.bool true, .string (⟨#[116, 105, 109, 101, 61]⟩ ++ S ++ ⟨#[32]⟩)] (Sort.grow (redrawn wr dd) os) fun e w'' => e = .returned (.string M1) ∧ ∃ p : Regrown, w'' = Sort.grow (redrawn wr p.d) p.os := fun dd os => Calls.regrown_of (HM1c.out _)
                        have cN : ∀ dd os, Calls Tryz.prog 92 #[.bool r, .string ⟨#[114, 97, 110, 32]⟩] (Sort.grow (redrawn wr dd) os) fun e w'' => e = .returned (.string M2) ∧ ∃ p : Regrown, w'' = Sort.grow (redrawn wr p.d) p.os := fun dd os => Calls.regrown_of (HM2c.out _)
                        have cO : ∀ dd os, Calls Tryz.prog 92 #[.bool f, .string ⟨#[102, 97, 117, 108, 116, 32]⟩] (Sort.grow (redrawn wr dd) os) fun e w'' => e = .returned (.string M3) ∧ ∃ p : Regrown, w'' = Sort.grow (redrawn wr p.d) p.os := fun dd os => Calls.regrown_of (HM3c.out _)
                        refine wp_region_quiet_below (by kernel_rfl) (by kernel_rfl) ?_
                        go_big_quiet_step (first | with_reducible exact cI _ _ | with_reducible exact cM _ _ | with_reducible exact cN _ _ | with_reducible exact cO _ _)
                        go_big_quiet_step (first | with_reducible exact cI _ _ | with_reducible exact cM _ _ | with_reducible exact cN _ _ | with_reducible exact cO _ _)
                        go_big_quiet_step (first | with_reducible exact cI _ _ | with_reducible exact cM _ _ | with_reducible exact cN _ _ | with_reducible exact cO _ _)
                        go_big_quiet_step (first | with_reducible exact cI _ _ | with_reducible exact cM _ _ | with_reducible exact cN _ _ | with_reducible exact cO _ _)
                        go_big_quiet_step (first | with_reducible exact cI _ _ | with_reducible exact cM _ _ | with_reducible exact cN _ _ | with_reducible exact cO _ _)
                        go_big_quiet_step (first | with_reducible exact cI _ _ | with_reducible exact cM _ _ | with_reducible exact cN _ _ | with_reducible exact cO _ _)
                        go_big_quiet_step (first | with_reducible exact cI _ _ | with_reducible exact cM _ _ | with_reducible exact cN _ _ | with_reducible exact cO _ _)
                        go_big_quiet_step (first | with_reducible exact cI _ _ | with_reducible exact cM _ _ | with_reducible exact cN _ _ | with_reducible exact cO _ _)
                        go_big_quiet_step (first | with_reducible exact cI _ _ | with_reducible exact cM _ _ | with_reducible exact cN _ _ | with_reducible exact cO _ _)
                        go_big_quiet_step (first | with_reducible exact cI _ _ | with_reducible exact cM _ _ | with_reducible exact cN _ _ | with_reducible exact cO _ _)
                        go_big_quiet_step (first | with_reducible exact cI _ _ | with_reducible exact cM _ _ | with_reducible exact cN _ _ | with_reducible exact cO _ _)
                        go_big_quiet_step (first | with_reducible exact cI _ _ | with_reducible exact cM _ _ | with_reducible exact cN _ _ | with_reducible exact cO _ _)
                        go_big_quiet_step (first | with_reducible exact cI _ _ | with_reducible exact cM _ _ | with_reducible exact cN _ _ | with_reducible exact cO _ _)
                        go_big_quiet_step (first | with_reducible exact cI _ _ | with_reducible exact cM _ _ | with_reducible exact cN _ _ | with_reducible exact cO _ _)
                        go_big_quiet_step (first | with_reducible exact cI _ _ | with_reducible exact cM _ _ | with_reducible exact cN _ _ | with_reducible exact cO _ _)
                        go_big_quiet_step (first | with_reducible exact cI _ _ | with_reducible exact cM _ _ | with_reducible exact cN _ _ | with_reducible exact cO _ _)
                        go_big_quiet_step (first | with_reducible exact cI _ _ | with_reducible exact cM _ _ | with_reducible exact cN _ _ | with_reducible exact cO _ _)
                        go_big_quiet_step (first | with_reducible exact cI _ _ | with_reducible exact cM _ _ | with_reducible exact cN _ _ | with_reducible exact cO _ _)
                        go_big_quiet_step (first | with_reducible exact cI _ _ | with_reducible exact cM _ _ | with_reducible exact cN _ _ | with_reducible exact cO _ _)
                        go_big_quiet_step (first | with_reducible exact cI _ _ | with_reducible exact cM _ _ | with_reducible exact cN _ _ | with_reducible exact cO _ _)
                        go_big_quiet_step (first | with_reducible exact cI _ _ | with_reducible exact cM _ _ | with_reducible exact cN _ _ | with_reducible exact cO _ _)
                        refine wpQuiet_nil ?_
                        intro w7 hw'
                        have HB7 : Hid (Below w.heap.size w w7) := (by
                          obtain ⟨⟨dq, osq⟩, rfl⟩ := hw'
                          exact HB.out.trans ((below_regrown wr dq osq).mono HB.out.size) : Below w.heap.size w w7)
                        clear hw' cI cM cN cO q0 q1 q2 c0 c1 c2 z1 z2 z3 z4 z5
                        obtain ⟨OUT, HOUT⟩ : ∃ s, Hid (s = A5 ++ M1 ++ M2 ++ M3) := ⟨_, rfl⟩
                        rw [← HOUT.out] at hsz HRS ⊢
                        clear HOUT
                        cases e1 : (OUT.toList == []) with
                        | true =>
                          have HR1 : Hid (RES = ⟨#[]⟩) := (by rw [HRS.out, if_pos e1] : RES = ⟨#[]⟩)
                          go_wp2
                          go_ret
                          exact ⟨by rw [HR1.out]; rfl, HB7.out⟩
                        | false =>
                          have HR1 : Hid (RES = OUT.extract 0 (OUT.size - 1)) := (by rw [HRS.out, if_neg (by rw [e1]; decide)] : RES = OUT.extract 0 (OUT.size - 1))
                          have hpos : 1 ≤ OUT.size := by
                            rcases Nat.eq_zero_or_pos OUT.size with h0 | h0
                            · exfalso
                              have : OUT.toList = [] := by
                                rw [Lib.toList_data]
                                exact List.eq_nil_of_length_eq_zero (by rw [Array.length_toList]; exact h0)
                              rw [this] at e1
                              exact absurd e1 (by decide)
                            · exact h0
                          have v1 : (0 : Int) ≤ (OUT.size : Int) - 1 := by omega
                          have v2 : (OUT.size : Int) - 1 ≤ (OUT.size : Int) := by omega
                          have v3 : (OUT.size : Int) - 1 < 9223372036854775808 := by omega
                          have v4 : -9223372036854775808 ≤ (OUT.size : Int) - 1 := by omega
                          have v5 : ((OUT.size : Int) - 1).toNat = OUT.size - 1 := by omega
                          go_wp2
                          go_ret
                          exact ⟨by rw [HR1.out]; rfl, HB7.out⟩
                      · rw [decide_eq_false hm] at HM1c
                        go_upto_region 28 with fail
                        have q0 := cell_regrown c0
                        have q1 := cell_regrown c1
                        have q2 := cell_regrown c2
                        have cI : ∀ dd os, Calls Tryz.prog 91 #[.int .i64 t] (Sort.grow (redrawn wr dd) os) fun e w'' => e = .returned (.string S) ∧ ∃ p : Regrown, w'' = Sort.grow (redrawn wr p.d) p.os := fun dd os => Calls.regrown_of (HI2.out _)
                        have cM : ∀ dd os, Calls Tryz.prog 92 #[.bool false, .string (⟨#[116, 105, 109, 101, 61]⟩ ++ S ++ ⟨#[32]⟩)] (Sort.grow (redrawn wr dd) os) fun e w'' => e = .returned (.string M1) ∧ ∃ p : Regrown, w'' = Sort.grow (redrawn wr p.d) p.os := fun dd os => Calls.regrown_of (HM1c.out _)
                        have cN : ∀ dd os, Calls Tryz.prog 92 #[.bool r, .string ⟨#[114, 97, 110, 32]⟩] (Sort.grow (redrawn wr dd) os) fun e w'' => e = .returned (.string M2) ∧ ∃ p : Regrown, w'' = Sort.grow (redrawn wr p.d) p.os := fun dd os => Calls.regrown_of (HM2c.out _)
                        have cO : ∀ dd os, Calls Tryz.prog 92 #[.bool f, .string ⟨#[102, 97, 117, 108, 116, 32]⟩] (Sort.grow (redrawn wr dd) os) fun e w'' => e = .returned (.string M3) ∧ ∃ p : Regrown, w'' = Sort.grow (redrawn wr p.d) p.os := fun dd os => Calls.regrown_of (HM3c.out _)
                        refine wp_region_quiet_below (by kernel_rfl) (by kernel_rfl) ?_
                        go_big_quiet_step (first | with_reducible exact cI _ _ | with_reducible exact cM _ _ | with_reducible exact cN _ _ | with_reducible exact cO _ _)
                        go_big_quiet_step (first | with_reducible exact cI _ _ | with_reducible exact cM _ _ | with_reducible exact cN _ _ | with_reducible exact cO _ _)
                        go_big_quiet_step (first | with_reducible exact cI _ _ | with_reducible exact cM _ _ | with_reducible exact cN _ _ | with_reducible exact cO _ _)
                        go_big_quiet_step (first | with_reducible exact cI _ _ | with_reducible exact cM _ _ | with_reducible exact cN _ _ | with_reducible exact cO _ _)
                        go_big_quiet_step (first | with_reducible exact cI _ _ | with_reducible exact cM _ _ | with_reducible exact cN _ _ | with_reducible exact cO _ _)
                        go_big_quiet_step (first | with_reducible exact cI _ _ | with_reducible exact cM _ _ | with_reducible exact cN _ _ | with_reducible exact cO _ _)
                        go_big_quiet_step (first | with_reducible exact cI _ _ | with_reducible exact cM _ _ | with_reducible exact cN _ _ | with_reducible exact cO _ _)
                        go_big_quiet_step (first | with_reducible exact cI _ _ | with_reducible exact cM _ _ | with_reducible exact cN _ _ | with_reducible exact cO _ _)
                        go_big_quiet_step (first | with_reducible exact cI _ _ | with_reducible exact cM _ _ | with_reducible exact cN _ _ | with_reducible exact cO _ _)
                        go_big_quiet_step (first | with_reducible exact cI _ _ | with_reducible exact cM _ _ | with_reducible exact cN _ _ | with_reducible exact cO _ _)
                        go_big_quiet_step (first | with_reducible exact cI _ _ | with_reducible exact cM _ _ | with_reducible exact cN _ _ | with_reducible exact cO _ _)
                        go_big_quiet_step (first | with_reducible exact cI _ _ | with_reducible exact cM _ _ | with_reducible exact cN _ _ | with_reducible exact cO _ _)
                        go_big_quiet_step (first | with_reducible exact cI _ _ | with_reducible exact cM _ _ | with_reducible exact cN _ _ | with_reducible exact cO _ _)
                        go_big_quiet_step (first | with_reducible exact cI _ _ | with_reducible exact cM _ _ | with_reducible exact cN _ _ | with_reducible exact cO _ _)
                        go_big_quiet_step (first | with_reducible exact cI _ _ | with_reducible exact cM _ _ | with_reducible exact cN _ _ | with_reducible exact cO _ _)
                        go_big_quiet_step (first | with_reducible exact cI _ _ | with_reducible exact cM _ _ | with_reducible exact cN _ _ | with_reducible exact cO _ _)
                        go_big_quiet_step (first | with_reducible exact cI _ _ | with_reducible exact cM _ _ | with_reducible exact cN _ _ | with_reducible exact cO _ _)
                        go_big_quiet_step (first | with_reducible exact cI _ _ | with_reducible exact cM _ _ | with_reducible exact cN _ _ | with_reducible exact cO _ _)
                        go_big_quiet_step (first | with_reducible exact cI _ _ | with_reducible exact cM _ _ | with_reducible exact cN _ _ | with_reducible exact cO _ _)
                        go_big_quiet_step (first | with_reducible exact cI _ _ | with_reducible exact cM _ _ | with_reducible exact cN _ _ | with_reducible exact cO _ _)
                        go_big_quiet_step (first | with_reducible exact cI _ _ | with_reducible exact cM _ _ | with_reducible exact cN _ _ | with_reducible exact cO _ _)
                        refine wpQuiet_nil ?_
                        intro w7 hw'
                        have HB7 : Hid (Below w.heap.size w w7) := (by
                          obtain ⟨⟨dq, osq⟩, rfl⟩ := hw'
                          exact HB.out.trans ((below_regrown wr dq osq).mono HB.out.size) : Below w.heap.size w w7)
                        clear hw' cI cM cN cO q0 q1 q2 c0 c1 c2 z1 z2 z3 z4 z5
                        obtain ⟨OUT, HOUT⟩ : ∃ s, Hid (s = A5 ++ M1 ++ M2 ++ M3) := ⟨_, rfl⟩
                        rw [← HOUT.out] at hsz HRS ⊢
                        clear HOUT
                        cases e1 : (OUT.toList == []) with
                        | true =>
                          have HR1 : Hid (RES = ⟨#[]⟩) := (by rw [HRS.out, if_pos e1] : RES = ⟨#[]⟩)
                          go_wp2
                          go_ret
                          exact ⟨by rw [HR1.out]; rfl, HB7.out⟩
                        | false =>
                          have HR1 : Hid (RES = OUT.extract 0 (OUT.size - 1)) := (by rw [HRS.out, if_neg (by rw [e1]; decide)] : RES = OUT.extract 0 (OUT.size - 1))
                          have hpos : 1 ≤ OUT.size := by
                            rcases Nat.eq_zero_or_pos OUT.size with h0 | h0
                            · exfalso
                              have : OUT.toList = [] := by
                                rw [Lib.toList_data]
                                exact List.eq_nil_of_length_eq_zero (by rw [Array.length_toList]; exact h0)
                              rw [this] at e1
                              exact absurd e1 (by decide)
                            · exact h0
                          have v1 : (0 : Int) ≤ (OUT.size : Int) - 1 := by omega
                          have v2 : (OUT.size : Int) - 1 ≤ (OUT.size : Int) := by omega
                          have v3 : (OUT.size : Int) - 1 < 9223372036854775808 := by omega
                          have v4 : -9223372036854775808 ≤ (OUT.size : Int) - 1 := by omega
                          have v5 : ((OUT.size : Int) - 1).toNat = OUT.size - 1 := by omega
                          go_wp2
                          go_ret
                          exact ⟨by rw [HR1.out]; rfl, HB7.out⟩
end Go.Proofs.YtjnddfpieogpiaaGreatDoor.Rr
/- Texts of memories, the program's parts: memMark, memValue. -/
namespace Go.Proofs.YtjnddfpieogpiaaGreatDoor.Rr
open Go.RowKit
open Go.Lib (decDigits itoa)
set_option linter.unusedVariables false

theorem mark_i (b : Bool) (s : ByteArray) (w : World) :
    Calls Tryz.prog 71 #[.bool b, .string s] w fun e w' => e = .returned (.string (markT b s)) ∧ Below w.heap.size w w' := by
  cases b with
  | true =>
    go_enter Tryz.func71, Tryz.ntmps71
    go_wp2
    go_ret
    exact ⟨rfl, Below.refl _ _⟩
  | false =>
    go_enter Tryz.func71, Tryz.ntmps71
    go_wp2
    go_ret
    exact ⟨rfl, Below.refl _ _⟩

set_option maxRecDepth 10000 in
set_option maxHeartbeats 1000000 in
theorem mval_1 (c : Array Value) (hc : MemOk c) (n : Int) (w : World) (hT : KT w) :
    Calls Tryz.prog 24 #[.agg c, .agg #[.int .i64 1, .int .i64 n, .int .i64 0]] w fun e w' => e = .returned (.tuple #[.string ⟨#[]⟩, .bool (mbit c 1 n)]) ∧ Below w.heap.size w w' := by
  have HC : Hid (MemOk c) := hc
  have HT : Hid (KT w) := hT
  have HI : Hid ((Tryz.prog.info? 37).map (·.size) = some c.size) := by rw [HC.out.size]; exact zero_mem.2
  have HM : Hid (∀ W, KT W → Calls Tryz.prog 17 #[.agg c, .agg #[.int .i64 1, .int .i64 n, .int .i64 0]] W fun e w' => e = .returned (.bool (mbit c 1 n)) ∧ Below W.heap.size W w') := fun W h => mbit_i c HC.out 1 n 0 W h
  obtain ⟨b, Hb⟩ : ∃ b, Hid (b = mbit c 1 n) := ⟨_, rfl⟩
  rw [← Hb.out] at HM ⊢
  clear hc hT Hb
  go_enter Tryz.func24, Tryz.ntmps24
  go_wp2_with (first | (refine wpL_load rfl 37 _ rfl _ _ rfl _ (load_all (rows2 w _ _).1 _ _ Tryz.underlying37 rfl HI.out) ?_) | fail)
  refine (HM.out _ ((HT.out.alloc _).alloc _)).mono ?_
  rintro e w1 ⟨rfl, g1⟩
  have b1 : Below w.heap.size w w1 := (((Below.refl _ _).alloc (Nat.le_refl _) _).alloc (by simp) _).trans (g1.mono (by simp <;> omega))
  clear g1
  go_wp2
  refine bodyPost_ret (v := .tuple #[.string ⟨#[]⟩, .bool b]) (by simp [results, Tryz.results24, go_sem]) rfl ⟨rfl, b1⟩

set_option maxRecDepth 10000 in
set_option maxHeartbeats 1000000 in
theorem mval_2 (c : Array Value) (hc : MemOk c) (n : Int) (w : World) (hT : KT w) :
    Calls Tryz.prog 24 #[.agg c, .agg #[.int .i64 2, .int .i64 n, .int .i64 0]] w fun e w' => e = .returned (.tuple #[.string ⟨#[]⟩, .bool (mbit c 2 n)]) ∧ Below w.heap.size w w' := by
  have HC : Hid (MemOk c) := hc
  have HT : Hid (KT w) := hT
  have HI : Hid ((Tryz.prog.info? 37).map (·.size) = some c.size) := by rw [HC.out.size]; exact zero_mem.2
  have HM : Hid (∀ W, KT W → Calls Tryz.prog 17 #[.agg c, .agg #[.int .i64 2, .int .i64 n, .int .i64 0]] W fun e w' => e = .returned (.bool (mbit c 2 n)) ∧ Below W.heap.size W w') := fun W h => mbit_i c HC.out 2 n 0 W h
  obtain ⟨b, Hb⟩ : ∃ b, Hid (b = mbit c 2 n) := ⟨_, rfl⟩
  rw [← Hb.out] at HM ⊢
  clear hc hT Hb
  go_enter Tryz.func24, Tryz.ntmps24
  go_wp2_with (first | (refine wpL_load rfl 37 _ rfl _ _ rfl _ (load_all (rows2 w _ _).1 _ _ Tryz.underlying37 rfl HI.out) ?_) | fail)
  refine (HM.out _ ((HT.out.alloc _).alloc _)).mono ?_
  rintro e w1 ⟨rfl, g1⟩
  have b1 : Below w.heap.size w w1 := (((Below.refl _ _).alloc (Nat.le_refl _) _).alloc (by simp) _).trans (g1.mono (by simp <;> omega))
  clear g1
  go_wp2
  refine bodyPost_ret (v := .tuple #[.string ⟨#[]⟩, .bool b]) (by simp [results, Tryz.results24, go_sem]) rfl ⟨rfl, b1⟩

set_option maxRecDepth 10000 in
set_option maxHeartbeats 1000000 in
theorem mval_3 (c : Array Value) (hc : MemOk c) (n : Int) (w : World) (hT : KT w) :
    Calls Tryz.prog 24 #[.agg c, .agg #[.int .i64 3, .int .i64 n, .int .i64 0]] w fun e w' => e = .returned (.tuple #[.string ⟨#[]⟩, .bool (mbit c 3 n)]) ∧ Below w.heap.size w w' := by
  have HC : Hid (MemOk c) := hc
  have HT : Hid (KT w) := hT
  have HI : Hid ((Tryz.prog.info? 37).map (·.size) = some c.size) := by rw [HC.out.size]; exact zero_mem.2
  have HM : Hid (∀ W, KT W → Calls Tryz.prog 17 #[.agg c, .agg #[.int .i64 3, .int .i64 n, .int .i64 0]] W fun e w' => e = .returned (.bool (mbit c 3 n)) ∧ Below W.heap.size W w') := fun W h => mbit_i c HC.out 3 n 0 W h
  obtain ⟨b, Hb⟩ : ∃ b, Hid (b = mbit c 3 n) := ⟨_, rfl⟩
  rw [← Hb.out] at HM ⊢
  clear hc hT Hb
  go_enter Tryz.func24, Tryz.ntmps24
  go_wp2_with (first | (refine wpL_load rfl 37 _ rfl _ _ rfl _ (load_all (rows2 w _ _).1 _ _ Tryz.underlying37 rfl HI.out) ?_) | fail)
  refine (HM.out _ ((HT.out.alloc _).alloc _)).mono ?_
  rintro e w1 ⟨rfl, g1⟩
  have b1 : Below w.heap.size w w1 := (((Below.refl _ _).alloc (Nat.le_refl _) _).alloc (by simp) _).trans (g1.mono (by simp <;> omega))
  clear g1
  go_wp2
  refine bodyPost_ret (v := .tuple #[.string ⟨#[]⟩, .bool b]) (by simp [results, Tryz.results24, go_sem]) rfl ⟨rfl, b1⟩

set_option maxRecDepth 10000 in
set_option maxHeartbeats 1000000 in
theorem mval_4 (c : Array Value) (hc : MemOk c) (n : Int) (w : World) (hT : KT w) :
    Calls Tryz.prog 24 #[.agg c, .agg #[.int .i64 4, .int .i64 n, .int .i64 0]] w fun e w' => e = .returned (.tuple #[.string ⟨#[]⟩, .bool (mbit c 4 n)]) ∧ Below w.heap.size w w' := by
  have HC : Hid (MemOk c) := hc
  have HT : Hid (KT w) := hT
  have HI : Hid ((Tryz.prog.info? 37).map (·.size) = some c.size) := by rw [HC.out.size]; exact zero_mem.2
  have HM : Hid (∀ W, KT W → Calls Tryz.prog 17 #[.agg c, .agg #[.int .i64 4, .int .i64 n, .int .i64 0]] W fun e w' => e = .returned (.bool (mbit c 4 n)) ∧ Below W.heap.size W w') := fun W h => mbit_i c HC.out 4 n 0 W h
  obtain ⟨b, Hb⟩ : ∃ b, Hid (b = mbit c 4 n) := ⟨_, rfl⟩
  rw [← Hb.out] at HM ⊢
  clear hc hT Hb
  go_enter Tryz.func24, Tryz.ntmps24
  go_wp2_with (first | (refine wpL_load rfl 37 _ rfl _ _ rfl _ (load_all (rows2 w _ _).1 _ _ Tryz.underlying37 rfl HI.out) ?_) | fail)
  refine (HM.out _ ((HT.out.alloc _).alloc _)).mono ?_
  rintro e w1 ⟨rfl, g1⟩
  have b1 : Below w.heap.size w w1 := (((Below.refl _ _).alloc (Nat.le_refl _) _).alloc (by simp) _).trans (g1.mono (by simp <;> omega))
  clear g1
  go_wp2
  refine bodyPost_ret (v := .tuple #[.string ⟨#[]⟩, .bool b]) (by simp [results, Tryz.results24, go_sem]) rfl ⟨rfl, b1⟩

set_option maxRecDepth 10000 in
set_option maxHeartbeats 1000000 in
theorem mval_5 (c : Array Value) (hc : MemOk c) (n : Int) (w : World) (hT : KT w) :
    Calls Tryz.prog 24 #[.agg c, .agg #[.int .i64 5, .int .i64 n, .int .i64 0]] w fun e w' => e = .returned (.tuple #[.string ⟨#[]⟩, .bool (mbit c 5 n)]) ∧ Below w.heap.size w w' := by
  have HC : Hid (MemOk c) := hc
  have HT : Hid (KT w) := hT
  have HI : Hid ((Tryz.prog.info? 37).map (·.size) = some c.size) := by rw [HC.out.size]; exact zero_mem.2
  have HM : Hid (∀ W, KT W → Calls Tryz.prog 17 #[.agg c, .agg #[.int .i64 5, .int .i64 n, .int .i64 0]] W fun e w' => e = .returned (.bool (mbit c 5 n)) ∧ Below W.heap.size W w') := fun W h => mbit_i c HC.out 5 n 0 W h
  obtain ⟨b, Hb⟩ : ∃ b, Hid (b = mbit c 5 n) := ⟨_, rfl⟩
  rw [← Hb.out] at HM ⊢
  clear hc hT Hb
  go_enter Tryz.func24, Tryz.ntmps24
  go_wp2_with (first | (refine wpL_load rfl 37 _ rfl _ _ rfl _ (load_all (rows2 w _ _).1 _ _ Tryz.underlying37 rfl HI.out) ?_) | fail)
  refine (HM.out _ ((HT.out.alloc _).alloc _)).mono ?_
  rintro e w1 ⟨rfl, g1⟩
  have b1 : Below w.heap.size w w1 := (((Below.refl _ _).alloc (Nat.le_refl _) _).alloc (by simp) _).trans (g1.mono (by simp <;> omega))
  clear g1
  go_wp2
  refine bodyPost_ret (v := .tuple #[.string ⟨#[]⟩, .bool b]) (by simp [results, Tryz.results24, go_sem]) rfl ⟨rfl, b1⟩

set_option maxRecDepth 10000 in
set_option maxHeartbeats 1000000 in
theorem mval_6 (c : Array Value) (n : Int) (w : World) :
    Calls Tryz.prog 24 #[.agg c, .agg #[.int .i64 6, .int .i64 n, .int .i64 0]] w fun e w' => e = .returned (.tuple #[.string ⟨#[]⟩, .bool false]) ∧ Below w.heap.size w w' := by
  go_enter Tryz.func24, Tryz.ntmps24
  go_wp2
  refine bodyPost_ret (v := .tuple #[.string ⟨#[]⟩, .bool false]) (by simp [results, Tryz.results24, go_sem]) rfl ⟨rfl, ((Below.refl _ _).alloc (Nat.le_refl _) _).alloc (by simp) _⟩

set_option maxRecDepth 10000 in
set_option maxHeartbeats 1000000 in
theorem mval_10 {G : World → Prop} (hG : ∀ W W' : World, G W → Below W.heap.size W W' → G W') (c : Array Value) (hc : MemOk c) (n x : Nat) (hn : n < 16) (hx : c[117 + n]? = some (.float .f64 x)) (S : ByteArray) (hS : S.size ≤ 60)
    (HR : Hid (∀ W, G W → Calls Tryz.prog 73 #[.float .f64 x] W fun e w' => e = .returned (.string S) ∧ Below W.heap.size W w')) (w : World) (hw : G w) :
    Calls Tryz.prog 24 #[.agg c, .agg #[.int .i64 10, .int .i64 n, .int .i64 0]] w fun e w' => e = .returned (.tuple #[.string (⟨#[61]⟩ ++ S), .bool (!(S.toList == [48]))]) ∧ Below w.heap.size w w' := by
  have HG : Hid (∀ W W' : World, G W → Below W.heap.size W W' → G W') := hG
  have HW : Hid (G w) := hw
  have HX : Hid (c[117 + n]? = some (.float .f64 x)) := hx
  have i1 : (n : Int) < 16 := by omega
  have i3 : (0 : Int) ≤ (n : Int) := by omega
  have z1 : ¬ 9223372036854775807 < 1 + S.size := by omega
  have c0 : ((w.alloc (.cells c 37)).alloc (.cells #[.int .i64 10, .int .i64 (n : Int), .int .i64 0] 54)).cell? ⟨w.heap.size, 117 + n, none⟩ = some (.float .f64 x) := (cell_of_row _ _ _ _ _ _ (rows2 w _ _).1).trans hx
  clear hG hw hx hc hS hn
  go_enter Tryz.func24, Tryz.ntmps24
  go_wp2_with fail
  refine (HR.out _ (HG.out _ _ HW.out (((Below.refl _ _).alloc (Nat.le_refl _) _).alloc (by simp) _))).mono ?_
  rintro e w1 ⟨rfl, g1⟩
  have b1 : Below w.heap.size w w1 := (((Below.refl _ _).alloc (Nat.le_refl _) _).alloc (by simp) _).trans (g1.mono (by simp <;> omega))
  clear g1
  go_wp2
  refine bodyPost_ret (v := .tuple #[.string (⟨#[61]⟩ ++ S), .bool (!(S.toList == [48]))]) (by simp [results, Tryz.results24, go_sem]) rfl ⟨rfl, b1⟩
end Go.Proofs.YtjnddfpieogpiaaGreatDoor.Rr
