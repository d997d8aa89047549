/- The text of a real number: the program's and the specification's. -/
import Derived.Test.YteekbhhlgicpeaaDoorTx6
import Derived.Test.YteekbhhlgicpeaaDoorTm6
namespace Go.Proofs.YteekbhhlgicpeaaDoor
open Go.RowKit
open Go.Lib (decDigits itoa)
set_option linter.unusedVariables false

def posT (n : Nat) (e : Int) : List UInt8 := decDigits n ++ (42 :: 50 :: 94 :: itoa e)
/-- The text of a magnitude. -/
def PosT (r : Nat) (t : List UInt8) : Prop := (r = Fm.infR ∧ t = [105, 110, 102]) ∨ (r < Fm.infR ∧ ∃ n e, Fm.Parts (Fm.R r) n e ∧ t = posT n e)
/-- The text of a real number. -/
def Txt (x : Nat) (t : List UInt8) : Prop :=
  (Fm.isN x ∧ t = [110, 97, 110]) ∨ (¬ Fm.isN x ∧ Fm.R (Fm.rg x) = 0 ∧ t = if Fm.sg x then [45, 48] else [48]) ∨ (¬ Fm.isN x ∧ 0 < Fm.R (Fm.rg x) ∧ ∃ p, PosT (Fm.rg x) p ∧ t = if Fm.sg x then 45 :: p else p)

theorem PosT.unique {r : Nat} {t s : List UInt8} (h : PosT r t) (k : PosT r s) : t = s := by
  rcases h with ⟨h1, rfl⟩ | ⟨h1, n, e, h2, rfl⟩
  · rcases k with ⟨k1, rfl⟩ | ⟨k1, m, f, k2, rfl⟩
    · rfl
    · omega
  · rcases k with ⟨k1, rfl⟩ | ⟨k1, m, f, k2, rfl⟩
    · omega
    · obtain ⟨rfl, rfl⟩ := h2.unique k2
      rfl
theorem Txt.unique {x : Nat} {t s : List UInt8} (h : Txt x t) (k : Txt x s) : t = s := by
  rcases h with ⟨h1, rfl⟩ | ⟨h1, h2, rfl⟩ | ⟨h1, h2, p, h3, rfl⟩
  · rcases k with ⟨k1, rfl⟩ | ⟨k1, k2, rfl⟩ | ⟨k1, k2, q, k3, rfl⟩
    · rfl
    · exact absurd h1 k1
    · exact absurd h1 k1
  · rcases k with ⟨k1, rfl⟩ | ⟨k1, k2, rfl⟩ | ⟨k1, k2, q, k3, rfl⟩
    · exact absurd k1 h1
    · rfl
    · omega
  · rcases k with ⟨k1, rfl⟩ | ⟨k1, k2, rfl⟩ | ⟨k1, k2, q, k3, rfl⟩
    · exact absurd k1 h1
    · omega
    · rw [h3.unique k3]

def kmax : Nat := 2045
theorem R_le_max {r : Nat} (h : r < Fm.infR) : Fm.R r ≤ 9007199254740991 * 2 ^ kmax := by
  obtain ⟨m, k, hm, -, hm2, hk, -⟩ := Fm.R_form h
  rw [hm]
  exact Nat.le_trans (Nat.mul_le_mul_right _ (Nat.le_of_lt_succ hm2)) (Nat.mul_le_mul_left _ (Nat.pow_le_pow_right (by decide) (Nat.le_of_lt_succ hk)))
theorem R_max : Fm.R 9218868437227405311 = 9007199254740991 * 2 ^ kmax := by decide +kernel
theorem sv_max : Fm.sv 9218868437227405311 = (Fm.R 9218868437227405311 : Int) := by decide +kernel
theorem gt_max {x : Nat} (hs : Fm.sg x = false) (hr : Fm.rg x ≤ Fm.infR) : (Fm.F.order x 9218868437227405311 == some .gt) = decide (Fm.rg x = Fm.infR) := by
  have hn : ¬ Fm.isN x := by unfold Fm.isN; omega
  have hx : Fm.sv x = (Fm.R (Fm.rg x) : Int) := by unfold Fm.sv; rw [hs]; rfl
  rw [Fm.gt_b hn (by decide), sv_max, hx]
  by_cases h : Fm.rg x = Fm.infR
  · rw [decide_eq_true h, h, Fm.R_inf]
    have : Fm.R 9218868437227405311 < Fm.Kinf := Fm.R_fin_lt (by decide)
    exact decide_eq_true (Int.ofNat_lt.2 this)
  · rw [decide_eq_false h]
    have h1 := R_le_max (r := Fm.rg x) (by omega)
    rw [← R_max] at h1
    exact decide_eq_false (by omega)

theorem posT_len (n : Nat) (e : Int) (hn : n < 9007199254740992) (he : -1074 ≤ e) (he2 : e ≤ 1023) : (posT n e).length ≤ 50 := by
  have h1 := Lib.itoa_length_le (n : Int) (by omega) (by omega)
  rw [Lib.itoa_nonneg] at h1
  have h2 := Lib.itoa_length_le e (by omega) (by omega)
  unfold posT
  simp only [List.length_append, List.length_cons]
  omega
theorem posT_tx (n : Nat) (e : Int) : tx (decDigits n) ++ ⟨#[42, 50, 94]⟩ ++ tx (itoa e) = tx (posT n e) := by
  have e1 : (⟨#[42, 50, 94]⟩ : ByteArray) = tx [42, 50, 94] := rfl
  rw [e1, tx_append, tx_append]
  unfold posT
  rw [List.append_assoc]
  rfl
theorem dec_sz (n : Nat) (hn : n < 9007199254740992) : (tx (decDigits n)).size ≤ 21 := (digits_size n (by omega)).1
theorem itoa_sz (e : Int) (he : -1074 ≤ e) (he2 : e ≤ 1023) : (tx (itoa e)).size ≤ 21 := by
  rw [tx_size]; exact Lib.itoa_length_le e (by omega) (by omega)

theorem PosT.len {r : Nat} {t : List UInt8} (h : PosT r t) (h0 : 0 < Fm.R r) : t.length ≤ 50 := by
  rcases h with ⟨h1, rfl⟩ | ⟨h1, n, e, h2, rfl⟩
  · decide
  · obtain ⟨a, b, c, d⟩ := h2.bd h1 h0
    exact posT_len n e a c b
theorem Txt.len {x : Nat} {t : List UInt8} (h : Txt x t) : t.length ≤ 51 := by
  rcases h with ⟨h1, rfl⟩ | ⟨h1, h2, rfl⟩ | ⟨h1, h2, p, h3, rfl⟩
  · decide
  · split <;> decide
  · have := h3.len h2
    split
    · simp only [List.length_cons]; omega
    · omega

set_option maxHeartbeats 4000000 in
theorem spec_pos (b : Nat) (w : World) (h1 : Fm.rg b ≤ Fm.infR) (h2 : Fm.sg b = false) (h3 : 0 < Fm.R (Fm.rg b)) :
    Calls Tryd.prog 58 #[.float .f64 b] w fun e w' => ∃ t, e = .returned (.string (tx t)) ∧ PosT (Fm.rg b) t ∧ Below w.heap.size w w' := by
  have e4 := gt_max h2 h1
  by_cases hi : Fm.rg b = Fm.infR
  · rw [decide_eq_true hi] at e4
    have HP : Hid (PosT (Fm.rg b) [105, 110, 102]) := .inl ⟨hi, rfl⟩
    clear hi h1 h2 h3
    go_enter Tryd.func58, Tryd.ntmps58
    go_wp2
    go_ret
    exact ⟨[105, 110, 102], rfl, HP.out, Below.refl _ _⟩
  · rw [decide_eq_false hi] at e4
    have hf : Fm.rg b < Fm.infR := by omega
    obtain ⟨V, HV⟩ : ∃ V, Hid (V = Fm.R (Fm.rg b)) := ⟨_, rfl⟩
    have hm : Fm.Mid V b 0 := by rw [HV.out]; exact Fm.mid_start hf h2 h3
    have HK : Hid (V < Fm.Kinf ∧ 0 < V) := by
      rw [HV.out]
      exact ⟨Fm.R_fin_lt hf, h3⟩
    have HB : Hid (∀ n e, Fm.Parts V n e → (n < 9007199254740992 ∧ e ≤ 1023 ∧ -1074 ≤ e ∧ 1 ≤ n)) := fun n e h => by rw [HV.out] at h; exact h.bd hf h3
    have HT : Hid (∀ n e, Fm.Parts V n e → PosT (Fm.rg b) (posT n e)) := fun n e h => by rw [HV.out] at h; exact .inr ⟨hf, n, e, h, rfl⟩
    have HM : Hid (Fm.Mid V b 0) := hm
    obtain ⟨rb, HR⟩ : ∃ r, Hid (r = Fm.rg b) := ⟨_, rfl⟩
    rw [← HR.out] at HT ⊢
    clear hm h1 h2 h3 HV hf hi HR
    go_enter Tryd.func58, Tryd.ntmps58
    go_wp2
    go_loopg [0, 3] 971 (fun g x e wr => ∃ (c : Nat) (j : Nat), j + g = 971 ∧ x = .float .f64 c ∧ e = .int .i64 j ∧ Hid (Fm.Mid V c j) ∧ wr = w)
    case atStart => exact ⟨b, 0, by omega, rfl, rfl, HM, rfl⟩
    case round =>
      clear HM e4
      obtain ⟨c, j, hj, rfl, rfl, HM, rfl⟩ := hrel
      have hge := ge_53 HM.out
      by_cases hb : 9007199254740992 * Fm.U ≤ Fm.R (Fm.rg c)
      · rw [decide_eq_true hb] at hge
        have hmost := Fm.mid_most HM.out HK.out.1 hb
        obtain ⟨c', q1, q2, q3⟩ := Fm.mid_half HM.out hb
        have hq := fun (t : TypeId) (w : World) => run_float_arith (P := Tryd.prog) w .quo t .f64 c _ c' q1
        have HM2 : Hid (Fm.Mid V c' ((j : Int) + 1)) := q2
        clear hb q1 q2 q3
        go_wp2
        go_roundg (gk - 1)
        case measure => omega
        case rel => exact ⟨c', j + 1, by omega, rfl, by go_num, HM2, rfl⟩
      · rw [decide_eq_false hb] at hge
        have hsm : Fm.R (Fm.rg c) < 9007199254740992 * Fm.U := by omega
        have HS : Hid (Fm.R (Fm.rg c) < 9007199254740992 * Fm.U) := hsm
        clear hb hsm
        go_wp2
        go_loopg [0, 3] (j + 1126) (fun g x e wx => ∃ (c : Nat) (y : Int), y + 1126 = g ∧ y ≤ 971 ∧ x = .float .f64 c ∧ e = .int .i64 y ∧ Hid (Fm.Mid V c y ∧ Fm.R (Fm.rg c) < 9007199254740992 * Fm.U) ∧ wx = wr)
        case atStart => exact ⟨c, j, by omega, by omega, rfl, rfl, ⟨HM.out, HS.out⟩, rfl⟩
        case round =>
          clear HM HS hge hj
          obtain ⟨c, y, hy, hy2, rfl, rfl, HM, rfl⟩ := hrel
          have hlt := lt_52 HM.out.1
          by_cases hf : Fm.R (Fm.rg c) < 4503599627370496 * Fm.U
          · rw [decide_eq_true hf] at hlt
            have hlo := Fm.mid_least HM.out.1 HK.out.2 hf
            obtain ⟨c', q1, q2, q3⟩ := Fm.mid_dbl HM.out.1 hlo hf
            have hq := fun (t : TypeId) (w : World) => run_float_arith (P := Tryd.prog) w .mul t .f64 c _ c' q1
            have HM2 : Hid (Fm.Mid V c' (y - 1) ∧ Fm.R (Fm.rg c') < 9007199254740992 * Fm.U) := ⟨q2, by rw [q3]; omega⟩
            clear hf q1 q2 q3 HM
            go_wp2
            go_roundg (gk - 1)
            case measure => omega
            case rel => exact ⟨c', y - 1, by omega, by omega, rfl, by go_num, HM2, rfl⟩
          · rw [decide_eq_false hf] at hlt
            have hw := Fm.whole_big HM.out.1.1 (by omega)
            have hcv := mid_int HM.out.1 HM.out.2
            obtain ⟨n1, n2⟩ := Fm.mid_whole HM.out.1 hw
            have n3 : Fm.R (Fm.rg c) / Fm.U < 9007199254740992 := (Nat.div_lt_iff_lt_mul Fm.U_pos).2 HM.out.2
            obtain ⟨Z, HZ⟩ : ∃ Z : Nat, Hid (Z = Fm.R (Fm.rg c) / Fm.U) := ⟨_, rfl⟩
            rw [← HZ.out] at hcv n1 n2 n3
            have HN : Hid (V * 4503599627370496 = Z * 2 ^ (y + 1126).toNat) := n2
            clear hf n2 HM HZ hw
            go_wp2
            go_loopg [4, 3] Z (fun g x e wx => ∃ (n : Nat) (y : Int), n = g ∧ 1 ≤ n ∧ n < 9007199254740992 ∧ -1126 ≤ y ∧ x = .int .i64 n ∧ e = .int .i64 y ∧ Hid (V * 4503599627370496 = n * 2 ^ (y + 1126).toNat) ∧ wx = wr)
            case atStart => exact ⟨Z, y, rfl, n1, n3, by omega, rfl, rfl, HN, rfl⟩
            case round =>
              clear HN n1 n3 hy hy2 hcv hlt
              obtain ⟨n, y, rfl, n1, n3, y0, rfl, rfl, HN, rfl⟩ := hrel
              have y1 := parts_most HK.out.1 n1 HN.out
              by_cases he : n % 2 = 0
              · have he2 : ((n : Int) % 2 == 0) = true := by simp; omega
                have hpos : (0 : Int) < n := by omega
                have HN2 : Hid (V * 4503599627370496 = n / 2 * 2 ^ (y + 1 + 1126).toNat) := by
                  show V * 4503599627370496 = n / 2 * 2 ^ (y + 1 + 1126).toNat
                  rw [HN.out, Fm.toNat_succ y 1126 (by omega), Nat.pow_succ, Nat.mul_comm _ 2, ← Nat.mul_assoc]
                  have : n / 2 * 2 = n := by omega
                  rw [this]
                clear HN
                go_wp2
                go_roundg (n / 2)
                case measure => omega
                case rel => exact ⟨n / 2, y + 1, rfl, by omega, by omega, by omega, by go_num, by go_num, HN2, rfl⟩
              · have he2 : ((n : Int) % 2 == 0) = false := by simp; omega
                have hq : Fm.Parts V n y := ⟨by omega, y0, HN.out⟩
                obtain ⟨b1, b2, b3, b4⟩ := HB.out n y hq
                have HQ : Hid (PosT rb (posT n y)) := HT.out n y hq
                clear HN hq HT HB HK y1 n1 n3
                have c1 := fun w => dec_pos n (by omega) w
                have c2 := fun w => dec_any y (by omega) (by omega) w
                have s1 := dec_sz n b1
                have s2 := itoa_sz y b3 b2
                have HE : Hid (tx (decDigits n) ++ ⟨#[42, 50, 94]⟩ ++ tx (itoa y) = tx (posT n y)) := posT_tx n y
                obtain ⟨D1, H1⟩ : ∃ D, Hid (D = tx (decDigits n)) := ⟨_, rfl⟩
                obtain ⟨D2, H2⟩ : ∃ D, Hid (D = tx (itoa y)) := ⟨_, rfl⟩
                rw [← H1.out] at s1 HE c1
                rw [← H2.out] at s2 HE c2
                clear H1 H2
                go_wp2_with fail
                refine (c1 _).mono ?_
                rintro e w2 ⟨rfl, g2⟩
                go_wp2_with fail
                refine (c2 _).mono ?_
                rintro e w3 ⟨rfl, g3⟩
                have B3 := g2.trans (g3.mono g2.size)
                clear c1 c2 g2 g3
                go_wp2
                go_ret
                exact ⟨posT n y, congrArg (fun s => Ending.returned (Value.string s)) HE.out, HQ.out, B3⟩
end Go.Proofs.YteekbhhlgicpeaaDoor
