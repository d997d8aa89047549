/- Reading real numbers: the specification's l26Find and l26Num. -/
import Derived.Test.YtjnddfpieogpiaaGreatDoorRiM
import Derived.Lib.IndexBytes
namespace Go.Proofs.YtjnddfpieogpiaaGreatDoor.Rr
open Go.RowKit
open Go.Lib (decDigits itoa)
set_option linter.unusedVariables false

theorem drop_at (s : ByteArray) (i : Nat) (hi : i < s.size) : s.data.toList.drop i = (s[i]'hi) :: s.data.toList.drop (i + 1) := by
  have h : i < s.data.toList.length := by rw [← Lib.size_eq]; exact hi
  rw [List.drop_eq_getElem_cons h]
  rfl
theorem take_at (s : ByteArray) (i : Nat) (hi : i < s.size) : s.data.toList.take (i + 1) = s.data.toList.take i ++ [s[i]'hi] := by
  have h : i < s.data.toList.length := by rw [← Lib.size_eq]; exact hi
  rw [List.take_add_one, List.getElem?_eq_getElem h]
  rfl
theorem mem_at (s : ByteArray) (i : Nat) (hi : i < s.size) : (s[i]'hi) ∈ s.data.toList := by
  have := drop_at s i hi
  exact List.mem_of_mem_drop (by rw [this]; simp)

set_option maxRecDepth 100000 in
set_option maxHeartbeats 1000000 in
theorem find_r (s : ByteArray) (w : World) (d : Nat) (hs : s.size ≤ 1048576) (hd : d ≤ s.size) (hno : ∀ j, j < d → ∀ h : j < s.size, (s[j]'h).toNat ≠ 42) (hat : ∀ h : d < s.size, (s[d]'h).toNat = 42) :
    Calls Tryz.prog 94 #[.string s, .int .u8 42] w fun e w' => e = .returned (.int .i64 (if d < s.size then (d : Int) else -1)) ∧ w' = w := by
  obtain ⟨G, HG⟩ : ∃ G : Int, Hid (G = if d < s.size then (d : Int) else -1) := ⟨_, Eq.refl (if d < s.size then (d : Int) else -1)⟩
  rw [← HG.out]
  have Hno : Hid (∀ j, j < d → ∀ h : j < s.size, (s[j]'h).toNat ≠ 42) := hno
  have Hat : Hid (∀ h : d < s.size, (s[d]'h).toNat = 42) := hat
  clear hno hat
  go_enter Tryz.func94, Tryz.ntmps94
  go_wp2
  go_loopg [5] s.size (fun g i wr => ∃ (j : Nat), j + g = s.size ∧ i = .int .i64 j ∧ j ≤ d ∧ wr = w)
  case atStart => exact ⟨0, by omega, rfl, by omega, rfl⟩
  case round =>
    obtain ⟨j, hj, rfl, hjd, rfl⟩ := hrel
    by_cases hlt : j < s.size
    · by_cases hj2 : j < d
      · have hne : ((((s[j]'hlt).toNat : Nat) : Int) == 42) = false := by
          rw [beq_eq_false_iff_ne]
          have := Hno.out j hj2 hlt
          omega
        go_wp2
        go_roundg (gk - 1)
        case measure => omega
        case rel => exact ⟨j + 1, by omega, by go_num, by omega, rfl⟩
      · obtain rfl : j = d := by omega
        have hne : ((((s[j]'hlt).toNat : Nat) : Int) == 42) = true := by
          rw [beq_iff_eq]
          have := Hat.out hlt
          omega
        go_wp2
        go_ret
        exact ⟨by rw [HG.out, if_pos hlt]; rfl, rfl⟩
    · go_wp2
      go_ret
      exact ⟨by rw [HG.out, if_neg (by omega)]; rfl, rfl⟩

/-- Digits of a number, at most 17, as they are written. -/
def Good (neg : Bool) (l : List UInt8) : Prop := l ≠ [] ∧ l.length ≤ 17 ∧ (∀ b ∈ l, isD b) ∧ (∀ r, l = 48 :: r → r = [] ∧ neg = false)

theorem len17 (u : Nat) (h : u < 100000000000000000) : (decDigits u).length ≤ 17 := by
  rw [Lib.decDigits_length u]
  by_cases h0 : Lib.nDigits u ≤ 17
  · exact h0
  · exfalso
    have key : ∀ k u, k < Lib.nDigits u → 1 ≤ k → 10 ^ k ≤ u := by
      intro k
      induction k with
      | zero => intro u _ h; omega
      | succ k ih =>
        intro u hk _
        by_cases hu : u < 10
        · rw [Lib.nDigits_small hu] at hk; omega
        · rw [Lib.nDigits_big hu] at hk
          by_cases hk0 : k = 0
          · subst hk0; simp; omega
          · have := ih (u / 10) (by omega) (by omega)
            rw [Nat.pow_succ]
            omega
    have := key 17 u (by omega) (by omega)
    have e : (10 : Nat) ^ 17 = 100000000000000000 := by decide
    omega

theorem val_lt (l : List UInt8) (A : Nat) (h : ∀ b ∈ l, isD b) : valN l A < (A + 1) * 10 ^ l.length := by
  induction l generalizing A with
  | nil => simp [valN]
  | cons b l ih =>
    have hb := (h b (by simp)).2
    have := ih (A * 10 + (b.toNat - 48)) (fun x hx => h x (by simp [hx]))
    simp only [valN, List.length_cons]
    refine Nat.lt_of_lt_of_le this ?_
    rw [Nat.pow_succ, Nat.mul_comm (10 ^ l.length) 10, ← Nat.mul_assoc]
    exact Nat.mul_le_mul_right _ (by omega)

theorem zero_dec : decDigits 0 = [48] := by rw [Lib.decDigits_one (by decide)]; rfl

theorem good_of_itoa {neg : Bool} {l : List UInt8} {v : Int} (hv : v.natAbs < 100000000000000000) (h : (if neg then 45 :: l else l) = itoa v) (h45 : neg = false → ∀ r, l ≠ 45 :: r) : Good neg l := by
  have d45 : ¬ isD 45 := by unfold isD; decide
  have body : ∀ u : Nat, u < 100000000000000000 → l = decDigits u → (neg = true → 1 ≤ u) → Good neg l := by
    intro u hu e hn
    subst e
    refine ⟨dec_ne u, len17 u hu, dec_isD u, fun r er => ?_⟩
    by_cases h0 : u = 0
    · subst h0
      rw [zero_dec] at er
      injection er with _ er
      refine ⟨er.symm, ?_⟩
      cases neg
      · rfl
      · have := hn rfl; omega
    · exfalso
      obtain ⟨b, r', e2, h1, -⟩ := dec_head u (by omega)
      rw [e2] at er
      injection er with er _
      rw [er] at h1
      exact absurd h1 (by decide)
  rcases itoa_cases v with ⟨u, rfl, e⟩ | ⟨u, hu, rfl, e⟩
  · cases neg
    · simp only [Bool.false_eq_true, if_false] at h
      exact body u (by omega) (h.trans e) (fun h => by cases h)
    · simp only [if_true] at h
      exfalso
      have := dec_isD u 45 (by rw [← e, ← h]; simp)
      exact d45 this
  · cases neg
    · simp only [Bool.false_eq_true, if_false] at h
      exact absurd (h.trans e) (h45 rfl _)
    · simp only [if_true] at h
      rw [e] at h
      injection h with _ h
      exact body u (by omega) h (fun _ => hu)

theorem itoa_of_good {neg : Bool} {l : List UInt8} (h : Good neg l) : (if neg then 45 :: l else l) = itoa (if neg then -((valN l 0 : Nat) : Int) else ((valN l 0 : Nat) : Int)) ∧ valN l 0 < 100000000000000000 := by
  obtain ⟨h1, h2, h3, h4⟩ := h
  have hlt : valN l 0 < 100000000000000000 := by
    have a := val_lt l 0 h3
    rw [Nat.zero_add, Nat.one_mul] at a
    have b : 10 ^ l.length ≤ 10 ^ 17 := Nat.pow_le_pow_right (by decide) h2
    have e : (10 : Nat) ^ 17 = 100000000000000000 := by decide
    omega
  refine ⟨?_, hlt⟩
  by_cases h0 : ∃ r, l = 48 :: r
  · obtain ⟨r, e⟩ := h0
    obtain ⟨rfl, rfl⟩ := h4 r e
    subst e
    simp only [Bool.false_eq_true, if_false]
    have : valN [48] 0 = 0 := by decide
    rw [this]
    have : itoa ((0 : Nat) : Int) = decDigits 0 := Lib.itoa_nonneg 0
    rw [this, zero_dec]
  · obtain ⟨c1, c2⟩ := canon l h3 (fun b r e => by
      have hb := h3 b (by rw [e]; simp)
      have := hb.1
      by_cases h48 : b.toNat = 48
      · exfalso
        apply h0
        have : b = 48 := by
          have := UInt8.ofNat_toNat (x := b)
          rw [h48] at this
          exact this.symm
        exact ⟨r, by rw [e, this]⟩
      · omega) h1
    cases neg
    · simp only [Bool.false_eq_true, if_false]
      rw [Lib.itoa_nonneg, c1]
    · simp only [if_true]
      rw [Lib.itoa_neg _ c2, c1]

/-- How a number is read. -/
def NumS (l : List UInt8) (v : Int) (ok : Bool) : Prop := (ok = true ∧ l = itoa v ∧ v.natAbs < 100000000000000000) ∨ (ok = false ∧ v = 0 ∧ ∀ u : Int, u.natAbs < 100000000000000000 → l ≠ itoa u)
def NumE (l : List UInt8) (e : Ending) : Prop := ∃ v ok, e = .returned (.tuple #[.int .i64 v, .bool ok]) ∧ NumS l v ok ∧ v.natAbs < 100000000000000000
theorem nums_no {neg : Bool} {l : List UInt8} (h : ¬ Good neg l) (h45 : neg = false → ∀ r, l ≠ 45 :: r) : NumS (if neg then 45 :: l else l) 0 false :=
  .inr ⟨rfl, rfl, fun u hu e => h (good_of_itoa hu e h45)⟩
theorem nums_yes {neg : Bool} {l : List UInt8} (h : Good neg l) : NumS (if neg then 45 :: l else l) (if neg then -((valN l 0 : Nat) : Int) else ((valN l 0 : Nat) : Int)) true := by
  obtain ⟨a, b⟩ := itoa_of_good h
  refine .inl ⟨rfl, a, ?_⟩
  cases neg
  · simp only [Bool.false_eq_true, if_false]; omega
  · simp only [if_true]; omega
theorem pow17 (i : Nat) (h : i ≤ 16) : 10 ^ i ≤ 10000000000000000 := by
  have : ∀ j : Fin 17, 10 ^ j.val ≤ 10000000000000000 := by decide
  exact this ⟨i, by omega⟩

set_option maxRecDepth 100000 in
set_option maxHeartbeats 4000000 in
theorem num_neg (s t : ByteArray) (w : World) (hs : s.size ≤ 1048576) (h1 : 0 < s.size) (h45 : (s[0]'h1).toNat = 45) (ht : s.extract 1 s.size = t) (hL : s.data.toList = 45 :: t.data.toList) :
    Calls Tryz.prog 95 #[.string s] w fun e w' => NumE s.data.toList e ∧ w' = w := by
  obtain ⟨L, HL⟩ : ∃ L, Hid (L = s.data.toList) := ⟨_, rfl⟩
  rw [← HL.out]
  have HNO : Hid (¬ Good true t.data.toList → NumS L 0 false) := fun h => by rw [HL.out, hL]; exact nums_no (neg := true) h (fun h => by cases h)
  have HYES : Hid (Good true t.data.toList → NumS L (-((valN t.data.toList 0 : Nat) : Int)) true) := fun h => by rw [HL.out, hL]; exact nums_yes (neg := true) h
  have hts : t.size + 1 = s.size := by
    have := congrArg List.length hL
    rw [← Lib.size_eq, List.length_cons, ← Lib.size_eq] at this
    omega
  have hs0 : s[0]? = some (s[0]'h1) := by simp [h1]
  have j1 : (0 : Int) < (s.size : Int) := by omega
  have j2 : ((((s[0]'h1).toNat : Nat) : Int) == 45) = true := by rw [beq_iff_eq]; omega
  clear HL hL h45
  go_enter Tryz.func95, Tryz.ntmps95
  by_cases z0 : t.size = 0
  · have i1 : ((t.size : Int) == 0) = true := by rw [beq_iff_eq]; omega
    have HR := HNO.out (fun h => h.1 (List.length_eq_zero_iff.1 (by rw [← Lib.size_eq]; exact z0)))
    have HR : Hid (NumS L 0 false) := HR
    clear HNO HYES z0
    go_wp2
    go_ret2
    exact ⟨⟨0, false, rfl, HR.out, by decide⟩, rfl⟩
  · have i1 : ((t.size : Int) == 0) = false := by rw [beq_eq_false_iff_ne]; omega
    by_cases z1 : 17 < t.size
    · have i2 : (17 : Int) < (t.size : Int) := by omega
      have HR : Hid (NumS L 0 false) := HNO.out (fun h => by have := h.2.1; rw [← Lib.size_eq] at this; omega)
      clear HNO HYES z0 z1
      go_wp2
      go_ret2
      exact ⟨⟨0, false, rfl, HR.out, by decide⟩, rfl⟩
    · have i2 : ¬ (17 : Int) < (t.size : Int) := by omega
      have h0 : 0 < t.size := by omega
      have hd0 := drop_at t 0 h0
      rw [List.drop_zero] at hd0
      have ht0 : t[0]? = some (t[0]'h0) := by simp [h0]
      by_cases z2 : (t[0]'h0).toNat = 48
      · have i3 : ((((t[0]'h0).toNat : Nat) : Int) == 48) = true := by rw [beq_iff_eq]; omega
        have hb48 : (t[0]'h0) = 48 := by
          have := UInt8.ofNat_toNat (x := (t[0]'h0))
          rw [z2] at this
          exact this.symm
        have HR : Hid (NumS L 0 false) := HNO.out (fun h => by
          have := (h.2.2.2 _ (by rw [hd0, hb48])).2
          cases this)
        clear HNO HYES hd0 z2 hb48
        by_cases z3 : (1 : Int) < (t.size : Int)
        · go_wp2
          go_ret2
          exact ⟨⟨0, false, rfl, HR.out, by decide⟩, rfl⟩
        · go_wp2
          go_ret2
          exact ⟨⟨0, false, rfl, HR.out, by decide⟩, rfl⟩
      · have i3 : ((((t[0]'h0).toNat : Nat) : Int) == 48) = false := by rw [beq_eq_false_iff_ne]; omega
        have HG : Hid ((∀ b ∈ t.data.toList, isD b) → Good true t.data.toList) := fun hd => ⟨by rw [hd0]; simp, by rw [← Lib.size_eq]; omega, hd, fun r er => by
          exfalso
          rw [hd0] at er
          injection er with er _
          apply z2
          rw [er]
          rfl⟩
        clear z2 hd0
        go_wp2
        go_loopg [5, 6] t.size (fun g x i wr => ∃ (j A : Nat), j + g = t.size ∧ i = .int .i64 j ∧ x = .int .i64 A ∧ A < 10 ^ j ∧ Hid ((∀ b ∈ t.data.toList.take j, isD b) ∧ valN (t.data.toList.take j) 0 = A) ∧ wr = w)
        case atStart => exact ⟨0, 0, by omega, rfl, rfl, by decide, ⟨by simp, by simp [valN]⟩, rfl⟩
        case round =>
          obtain ⟨j, A, hj, rfl, rfl, hA, HA, rfl⟩ := hrel
          by_cases hlt : j < t.size
          · have hp := pow17 j (by omega)
            have hA2 : A < 10000000000000000 := Nat.lt_of_lt_of_le hA hp
            have hsj : t[j]? = some (t[j]'hlt) := by simp [hlt]
            have hmem := mem_at t j hlt
            by_cases d1 : (t[j]'hlt).toNat < 48
            · have d1' : (((t[j]'hlt).toNat : Nat) : Int) < 48 := by omega
              have HR : Hid (NumS L 0 false) := HNO.out (fun h => by have := (h.2.2.1 _ hmem).1; omega)
              clear HA HNO HYES HG hp hmem hA
              go_wp2
              go_ret2
              exact ⟨⟨0, false, rfl, HR.out, by decide⟩, rfl⟩
            · have d1' : ¬ (((t[j]'hlt).toNat : Nat) : Int) < 48 := by omega
              by_cases d2 : 57 < (t[j]'hlt).toNat
              · have d2' : 57 < (((t[j]'hlt).toNat : Nat) : Int) := by omega
                have HR : Hid (NumS L 0 false) := HNO.out (fun h => by have := (h.2.2.1 _ hmem).2; omega)
                clear HA HNO HYES HG hp hmem hA
                go_wp2
                go_ret2
                exact ⟨⟨0, false, rfl, HR.out, by decide⟩, rfl⟩
              · have d2' : ¬ 57 < (((t[j]'hlt).toNat : Nat) : Int) := by omega
                have HA2 : Hid ((∀ b ∈ t.data.toList.take (j + 1), isD b) ∧ valN (t.data.toList.take (j + 1)) 0 = A * 10 + ((t[j]'hlt).toNat - 48)) := by
                  have e := take_at t j hlt
                  refine ⟨fun b hb => ?_, ?_⟩
                  · rw [e] at hb
                    rcases List.mem_append.1 hb with hb | hb
                    · exact HA.out.1 b hb
                    · rw [List.mem_singleton.1 hb]; exact ⟨by omega, by omega⟩
                  · rw [e, valN_append, HA.out.2]; rfl
                have hB : A * 10 + ((t[j]'hlt).toNat - 48) < 10 ^ (j + 1) := by rw [Nat.pow_succ]; omega
                have HB : Hid (A * 10 + ((t[j]'hlt).toNat - 48) < 10 ^ (j + 1)) := hB
                clear HA hp hmem hA hB
                go_wp2
                go_roundg (gk - 1)
                case measure => omega
                case rel => exact ⟨j + 1, _, by omega, by go_num, by go_num, HB.out, HA2, rfl⟩
          · have hall : t.data.toList.take j = t.data.toList := List.take_of_length_le (by rw [← Lib.size_eq]; omega)
            have HA2 := HA.out
            rw [hall] at HA2
            have HR : Hid (NumS L (-(A : Int)) true) := by
              have := HYES.out (HG.out HA2.1)
              rw [HA2.2] at this
              exact this
            have hA3 : A < 100000000000000000 := by
              have := (itoa_of_good (HG.out HA2.1)).2
              rw [HA2.2] at this
              exact this
            clear HA HA2 HNO HYES HG hall hA
            go_wp2
            go_ret2
            exact ⟨⟨_, true, rfl, HR.out, by omega⟩, rfl⟩

set_option maxRecDepth 100000 in
set_option maxHeartbeats 4000000 in
theorem num_pos (t : ByteArray) (w : World) (hs : t.size ≤ 1048576) (h45 : ∀ h : 0 < t.size, (t[0]'h).toNat ≠ 45) :
    Calls Tryz.prog 95 #[.string t] w fun e w' => NumE t.data.toList e ∧ w' = w := by
  obtain ⟨L, HL⟩ : ∃ L, Hid (L = t.data.toList) := ⟨_, rfl⟩
  have hno : ∀ r, t.data.toList ≠ 45 :: r := fun r e => by
    have h1 : 0 < t.size := by rw [Lib.size_eq, e]; simp
    have hd := drop_at t 0 h1
    rw [List.drop_zero, e] at hd
    injection hd with hd _
    apply h45 h1
    rw [← hd]
    rfl
  rw [← HL.out]
  have HNO : Hid (¬ Good false t.data.toList → NumS L 0 false) := fun h => by rw [HL.out]; exact nums_no (neg := false) h (fun _ => hno)
  have HYES : Hid (Good false t.data.toList → NumS L ((valN t.data.toList 0 : Nat) : Int) true) := fun h => by rw [HL.out]; exact nums_yes (neg := false) h
  clear HL hno
  by_cases h1 : 0 < t.size
  · have hs0 : t[0]? = some (t[0]'h1) := by simp [h1]
    have j1 : (0 : Int) < (t.size : Int) := by omega
    have j2 : ((((t[0]'h1).toNat : Nat) : Int) == 45) = false := by rw [beq_eq_false_iff_ne]; have := h45 h1; omega
    clear h45
    go_enter Tryz.func95, Tryz.ntmps95
    by_cases z0 : t.size = 0
    · have i1 : ((t.size : Int) == 0) = true := by rw [beq_iff_eq]; omega
      have HR := HNO.out (fun h => h.1 (List.length_eq_zero_iff.1 (by rw [← Lib.size_eq]; exact z0)))
      have HR : Hid (NumS L 0 false) := HR
      clear HNO HYES z0
      go_wp2
      go_ret2
      exact ⟨⟨0, false, rfl, HR.out, by decide⟩, rfl⟩
    · have i1 : ((t.size : Int) == 0) = false := by rw [beq_eq_false_iff_ne]; omega
      by_cases z1 : 17 < t.size
      · have i2 : (17 : Int) < (t.size : Int) := by omega
        have HR : Hid (NumS L 0 false) := HNO.out (fun h => by have := h.2.1; rw [← Lib.size_eq] at this; omega)
        clear HNO HYES z0 z1
        go_wp2
        go_ret2
        exact ⟨⟨0, false, rfl, HR.out, by decide⟩, rfl⟩
      · have i2 : ¬ (17 : Int) < (t.size : Int) := by omega
        have h0 : 0 < t.size := by omega
        have hd0 := drop_at t 0 h0
        rw [List.drop_zero] at hd0
        have ht0 : t[0]? = some (t[0]'h0) := by simp [h0]
        by_cases z2 : (t[0]'h0).toNat = 48
        · have i3 : ((((t[0]'h0).toNat : Nat) : Int) == 48) = true := by rw [beq_iff_eq]; omega
          have hb48 : (t[0]'h0) = 48 := by
            have := UInt8.ofNat_toNat (x := (t[0]'h0))
            rw [z2] at this
            exact this.symm
          by_cases z3 : (1 : Int) < (t.size : Int)
          · have HR : Hid (NumS L 0 false) := HNO.out (fun h => by
              have := (h.2.2.2 _ (by rw [hd0, hb48])).1
              have hl := congrArg List.length this
              rw [List.length_drop, ← Lib.size_eq] at hl
              simp at hl
              omega)
            clear HNO HYES hd0 z2 hb48
            go_wp2
            go_ret2
            exact ⟨⟨0, false, rfl, HR.out, by decide⟩, rfl⟩
          · have HG : Hid ((∀ b ∈ t.data.toList, isD b) → Good false t.data.toList) := fun hd => ⟨by rw [hd0]; simp, by rw [← Lib.size_eq]; omega, hd, fun r er => ⟨by
              have hl := congrArg List.length er
              rw [← Lib.size_eq] at hl
              cases r with
              | nil => rfl
              | cons a b => simp at hl; omega, rfl⟩⟩
            clear hd0 z2 hb48
            go_wp2
            go_loopg [5, 6] t.size (fun g x i wr => ∃ (j A : Nat), j + g = t.size ∧ i = .int .i64 j ∧ x = .int .i64 A ∧ A < 10 ^ j ∧ Hid ((∀ b ∈ t.data.toList.take j, isD b) ∧ valN (t.data.toList.take j) 0 = A) ∧ wr = w)
            case atStart => exact ⟨0, 0, by omega, rfl, rfl, by decide, ⟨by simp, by simp [valN]⟩, rfl⟩
            case round =>
              obtain ⟨j, A, hj, rfl, rfl, hA, HA, rfl⟩ := hrel
              by_cases hlt : j < t.size
              · have hp := pow17 j (by omega)
                have hA2 : A < 10000000000000000 := Nat.lt_of_lt_of_le hA hp
                have hsj : t[j]? = some (t[j]'hlt) := by simp [hlt]
                have hmem := mem_at t j hlt
                by_cases d1 : (t[j]'hlt).toNat < 48
                · have d1' : (((t[j]'hlt).toNat : Nat) : Int) < 48 := by omega
                  have HR : Hid (NumS L 0 false) := HNO.out (fun h => by have := (h.2.2.1 _ hmem).1; omega)
                  clear HA HNO HYES HG hp hmem hA
                  go_wp2
                  go_ret2
                  exact ⟨⟨0, false, rfl, HR.out, by decide⟩, rfl⟩
                · have d1' : ¬ (((t[j]'hlt).toNat : Nat) : Int) < 48 := by omega
                  by_cases d2 : 57 < (t[j]'hlt).toNat
                  · have d2' : 57 < (((t[j]'hlt).toNat : Nat) : Int) := by omega
                    have HR : Hid (NumS L 0 false) := HNO.out (fun h => by have := (h.2.2.1 _ hmem).2; omega)
                    clear HA HNO HYES HG hp hmem hA
                    go_wp2
                    go_ret2
                    exact ⟨⟨0, false, rfl, HR.out, by decide⟩, rfl⟩
                  · have d2' : ¬ 57 < (((t[j]'hlt).toNat : Nat) : Int) := by omega
                    have HA2 : Hid ((∀ b ∈ t.data.toList.take (j + 1), isD b) ∧ valN (t.data.toList.take (j + 1)) 0 = A * 10 + ((t[j]'hlt).toNat - 48)) := by
                      have e := take_at t j hlt
                      refine ⟨fun b hb => ?_, ?_⟩
                      · rw [e] at hb
                        rcases List.mem_append.1 hb with hb | hb
                        · exact HA.out.1 b hb
                        · rw [List.mem_singleton.1 hb]; exact ⟨by omega, by omega⟩
                      · rw [e, valN_append, HA.out.2]; rfl
                    have hB : A * 10 + ((t[j]'hlt).toNat - 48) < 10 ^ (j + 1) := by rw [Nat.pow_succ]; omega
                    have HB : Hid (A * 10 + ((t[j]'hlt).toNat - 48) < 10 ^ (j + 1)) := hB
                    clear HA hp hmem hA hB
                    go_wp2
                    go_roundg (gk - 1)
                    case measure => omega
                    case rel => exact ⟨j + 1, _, by omega, by go_num, by go_num, HB.out, HA2, rfl⟩
              · have hall : t.data.toList.take j = t.data.toList := List.take_of_length_le (by rw [← Lib.size_eq]; omega)
                have HA2 := HA.out
                rw [hall] at HA2
                have HR : Hid (NumS L ((A : Int)) true) := by
                  have := HYES.out (HG.out HA2.1)
                  rw [HA2.2] at this
                  exact this
                have hA3 : A < 100000000000000000 := by
                  have := (itoa_of_good (HG.out HA2.1)).2
                  rw [HA2.2] at this
                  exact this
                clear HA HA2 HNO HYES HG hall hA
                go_wp2
                go_ret2
                exact ⟨⟨_, true, rfl, HR.out, by omega⟩, rfl⟩
        · have i3 : ((((t[0]'h0).toNat : Nat) : Int) == 48) = false := by rw [beq_eq_false_iff_ne]; omega
          have HG : Hid ((∀ b ∈ t.data.toList, isD b) → Good false t.data.toList) := fun hd => ⟨by rw [hd0]; simp, by rw [← Lib.size_eq]; omega, hd, fun r er => by
            exfalso
            rw [hd0] at er
            injection er with er _
            apply z2
            rw [er]
            rfl⟩
          clear z2 hd0
          go_wp2
          go_loopg [5, 6] t.size (fun g x i wr => ∃ (j A : Nat), j + g = t.size ∧ i = .int .i64 j ∧ x = .int .i64 A ∧ A < 10 ^ j ∧ Hid ((∀ b ∈ t.data.toList.take j, isD b) ∧ valN (t.data.toList.take j) 0 = A) ∧ wr = w)
          case atStart => exact ⟨0, 0, by omega, rfl, rfl, by decide, ⟨by simp, by simp [valN]⟩, rfl⟩
          case round =>
            obtain ⟨j, A, hj, rfl, rfl, hA, HA, rfl⟩ := hrel
            by_cases hlt : j < t.size
            · have hp := pow17 j (by omega)
              have hA2 : A < 10000000000000000 := Nat.lt_of_lt_of_le hA hp
              have hsj : t[j]? = some (t[j]'hlt) := by simp [hlt]
              have hmem := mem_at t j hlt
              by_cases d1 : (t[j]'hlt).toNat < 48
              · have d1' : (((t[j]'hlt).toNat : Nat) : Int) < 48 := by omega
                have HR : Hid (NumS L 0 false) := HNO.out (fun h => by have := (h.2.2.1 _ hmem).1; omega)
                clear HA HNO HYES HG hp hmem hA
                go_wp2
                go_ret2
                exact ⟨⟨0, false, rfl, HR.out, by decide⟩, rfl⟩
              · have d1' : ¬ (((t[j]'hlt).toNat : Nat) : Int) < 48 := by omega
                by_cases d2 : 57 < (t[j]'hlt).toNat
                · have d2' : 57 < (((t[j]'hlt).toNat : Nat) : Int) := by omega
                  have HR : Hid (NumS L 0 false) := HNO.out (fun h => by have := (h.2.2.1 _ hmem).2; omega)
                  clear HA HNO HYES HG hp hmem hA
                  go_wp2
                  go_ret2
                  exact ⟨⟨0, false, rfl, HR.out, by decide⟩, rfl⟩
                · have d2' : ¬ 57 < (((t[j]'hlt).toNat : Nat) : Int) := by omega
                  have HA2 : Hid ((∀ b ∈ t.data.toList.take (j + 1), isD b) ∧ valN (t.data.toList.take (j + 1)) 0 = A * 10 + ((t[j]'hlt).toNat - 48)) := by
                    have e := take_at t j hlt
                    refine ⟨fun b hb => ?_, ?_⟩
                    · rw [e] at hb
                      rcases List.mem_append.1 hb with hb | hb
                      · exact HA.out.1 b hb
                      · rw [List.mem_singleton.1 hb]; exact ⟨by omega, by omega⟩
                    · rw [e, valN_append, HA.out.2]; rfl
                  have hB : A * 10 + ((t[j]'hlt).toNat - 48) < 10 ^ (j + 1) := by rw [Nat.pow_succ]; omega
                  have HB : Hid (A * 10 + ((t[j]'hlt).toNat - 48) < 10 ^ (j + 1)) := hB
                  clear HA hp hmem hA hB
                  go_wp2
                  go_roundg (gk - 1)
                  case measure => omega
                  case rel => exact ⟨j + 1, _, by omega, by go_num, by go_num, HB.out, HA2, rfl⟩
            · have hall : t.data.toList.take j = t.data.toList := List.take_of_length_le (by rw [← Lib.size_eq]; omega)
              have HA2 := HA.out
              rw [hall] at HA2
              have HR : Hid (NumS L ((A : Int)) true) := by
                have := HYES.out (HG.out HA2.1)
                rw [HA2.2] at this
                exact this
              have hA3 : A < 100000000000000000 := by
                have := (itoa_of_good (HG.out HA2.1)).2
                rw [HA2.2] at this
                exact this
              clear HA HA2 HNO HYES HG hall hA
              go_wp2
              go_ret2
              exact ⟨⟨_, true, rfl, HR.out, by omega⟩, rfl⟩
  · have j1 : ¬ (0 : Int) < (t.size : Int) := by omega
    have i1 : ((t.size : Int) == 0) = true := by rw [beq_iff_eq]; omega
    have HR : Hid (NumS L 0 false) := HNO.out (fun h => h.1 (List.length_eq_zero_iff.1 (by rw [← Lib.size_eq]; omega)))
    clear h45 HNO HYES h1
    go_enter Tryz.func95, Tryz.ntmps95
    go_wp2
    go_ret2
    exact ⟨⟨0, false, rfl, HR.out, by decide⟩, rfl⟩

theorem num_s (s : ByteArray) (w : World) (hs : s.size ≤ 1048576) :
    Calls Tryz.prog 95 #[.string s] w fun e w' => NumE s.data.toList e ∧ w' = w := by
  by_cases h : ∃ h1 : 0 < s.size, (s[0]'h1).toNat = 45
  · obtain ⟨h1, h45⟩ := h
    have hd := drop_at s 0 h1
    rw [List.drop_zero] at hd
    have hb : (s[0]'h1) = 45 := by
      have := UInt8.ofNat_toNat (x := (s[0]'h1))
      rw [h45] at this
      exact this.symm
    rw [hb] at hd
    have ht : (s.extract 1 s.size).data.toList = s.data.toList.drop 1 := Lib.extract_to_end s 1
    refine num_neg s (s.extract 1 s.size) w hs h1 h45 rfl ?_
    rw [ht]
    exact hd
  · exact num_pos s w hs (fun h1 h45 => h ⟨h1, h45⟩)
end Go.Proofs.YtjnddfpieogpiaaGreatDoor.Rr
