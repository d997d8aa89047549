/- Unlike real numbers have unlike texts. -/
import Derived.Test.YteekbhhlgicpeaaDoorRm6
namespace Go.Proofs.YteekbhhlgicpeaaDoor
open Go.RowKit Go.Lib
set_option linter.unusedVariables false

instance (x y : Nat) : Decidable (Same x y) := inferInstanceAs (Decidable (_ ∨ _))

theorem PosT.head {r : Nat} {p : List UInt8} (h : PosT r p) (h0 : 0 < Fm.R r) : 3 ≤ p.length ∧ ∃ b l, p = b :: l ∧ (b.toNat = 105 ∨ (49 ≤ b.toNat ∧ b.toNat ≤ 57)) := by
  rcases h with ⟨_, rfl⟩ | ⟨h1, n, e, h2, rfl⟩
  · exact ⟨by decide, _, _, rfl, .inl (by decide)⟩
  · have hb := h2.bd h1 h0
    obtain ⟨b, r', hd, d1, d2⟩ := dec_head n (by omega)
    unfold posT
    rw [hd]
    exact ⟨by simp; omega, b, _, rfl, .inr ⟨d1, d2⟩⟩
theorem PosT.inj {r s : Nat} {p : List UInt8} (h : PosT r p) (k : PosT s p) (h0 : 0 < Fm.R r) (k0 : 0 < Fm.R s) : r = s := by
  rcases h with ⟨h1, rfl⟩ | ⟨h1, n, e, h2, rfl⟩
  · rcases k with ⟨k1, _⟩ | ⟨k1, m, f, k2, hk⟩
    · rw [h1, k1]
    · exfalso
      have hb := k2.bd k1 k0
      obtain ⟨b, r', hd, d1, d2⟩ := dec_head m (by omega)
      unfold posT at hk
      rw [hd] at hk
      injection hk with a _
      rw [← a] at d2
      exact absurd d2 (by decide)
  · rcases k with ⟨k1, hk⟩ | ⟨k1, m, f, k2, hk⟩
    · exfalso
      have hb := h2.bd h1 h0
      obtain ⟨b, r', hd, d1, d2⟩ := dec_head n (by omega)
      unfold posT at hk
      rw [hd] at hk
      injection hk with a _
      rw [a] at d2
      exact absurd d2 (by decide)
    · have hb := h2.bd h1 h0
      have kb := k2.bd k1 k0
      obtain ⟨rfl, rfl⟩ := posT_inj hb.1 ⟨hb.2.2.1, hb.2.1⟩ ⟨kb.2.2.1, kb.2.1⟩ hk
      exact R_inj h1 k1 ((h2.val h0).trans (k2.val k0).symm)
theorem eq_of_parts {x y : Nat} (hx : x < 18446744073709551616) (hy : y < 18446744073709551616) (hs : Fm.sg x = Fm.sg y) (hr : Fm.rg x = Fm.rg y) : x = y := by
  rw [Fm.word_of hx, Fm.word_of hy, hs, hr]
theorem fin_of_zero {x : Nat} (h : ¬ Fm.isN x) (h0 : Fm.R (Fm.rg x) = 0) : Fm.rg x < Fm.infR := by
  rcases Nat.lt_or_ge (Fm.rg x) Fm.infR with h1 | h1
  · exact h1
  · exfalso
    have : Fm.rg x = Fm.infR := by unfold Fm.isN at h; omega
    rw [this] at h0
    exact absurd h0 (by decide +kernel)

theorem Txt.inj {x y : Nat} (hx : x < 18446744073709551616) (hy : y < 18446744073709551616) {t : List UInt8} (h : Txt x t) (k : Txt y t) : Same x y := by
  rcases h with ⟨h1, rfl⟩ | ⟨h1, h2, rfl⟩ | ⟨h1, h2, p, h3, rfl⟩
  · rcases k with ⟨k1, _⟩ | ⟨k1, k2, hk⟩ | ⟨k1, k2, q, k3, hk⟩
    · exact .inr ⟨h1, k1⟩
    · exfalso; revert hk; cases Fm.sg y <;> decide
    · exfalso
      obtain ⟨_, b, l, rfl, hb⟩ := k3.head k2
      cases hs : Fm.sg y with
      | true => rw [hs, if_pos rfl] at hk; injection hk with a _; exact absurd a (by decide)
      | false =>
        rw [hs, if_neg (by decide)] at hk
        injection hk with a _
        rw [← a] at hb
        exact absurd hb (by decide)
  · rcases k with ⟨k1, hk⟩ | ⟨k1, k2, hk⟩ | ⟨k1, k2, q, k3, hk⟩
    · exfalso; revert hk; cases Fm.sg x <;> decide
    · refine .inl (eq_of_parts hx hy ?_ (R_inj (fin_of_zero h1 h2) (fin_of_zero k1 k2) (h2.trans k2.symm)))
      revert hk
      cases Fm.sg x <;> cases Fm.sg y <;> simp
    · exfalso
      obtain ⟨hl, _⟩ := k3.head k2
      have := congrArg List.length hk
      revert this
      cases Fm.sg x <;> cases Fm.sg y <;> simp only [if_true, if_false, Bool.false_eq_true, List.length_cons, List.length_nil] <;> omega
  · obtain ⟨hl, b, l, hp, hb⟩ := h3.head h2
    rcases k with ⟨k1, hk⟩ | ⟨k1, k2, hk⟩ | ⟨k1, k2, q, k3, hk⟩
    · exfalso
      subst hp
      cases hs : Fm.sg x with
      | true => rw [hs, if_pos rfl] at hk; injection hk with a _; exact absurd a (by decide)
      | false =>
        rw [hs, if_neg (by decide)] at hk
        injection hk with a _
        rw [a] at hb
        exact absurd hb (by decide)
    · exfalso
      have := congrArg List.length hk
      revert this
      cases Fm.sg x <;> cases Fm.sg y <;> simp only [if_true, if_false, Bool.false_eq_true, List.length_cons, List.length_nil] <;> omega
    · obtain ⟨_, b', l', hq, hb'⟩ := k3.head k2
      cases hs : Fm.sg x with
      | true =>
        cases ht : Fm.sg y with
        | true =>
          rw [hs, ht, if_pos rfl, if_pos rfl] at hk
          injection hk with _ hpq
          subst hpq
          exact .inl (eq_of_parts hx hy (hs.trans ht.symm) (h3.inj k3 h2 k2))
        | false =>
          exfalso
          rw [hs, ht, if_pos rfl, if_neg (by decide), hq] at hk
          injection hk with a _
          rw [← a] at hb'
          exact absurd hb' (by decide)
      | false =>
        cases ht : Fm.sg y with
        | true =>
          exfalso
          rw [hs, ht, if_pos rfl, if_neg (by decide), hp] at hk
          injection hk with a _
          rw [a] at hb
          exact absurd hb (by decide)
        | false =>
          rw [hs, ht, if_neg (by decide), if_neg (by decide)] at hk
          subst hk
          exact .inl (eq_of_parts hx hy (hs.trans ht.symm) (h3.inj k3 h2 k2))
theorem Txt.same {x y : Nat} {t s : List UInt8} (h : Txt x t) (k : Txt y s) (e : Same x y) : t = s := by
  rcases e with rfl | ⟨e1, e2⟩
  · exact h.unique k
  · rcases h with ⟨_, rfl⟩ | ⟨h1, _⟩ | ⟨h1, _⟩
    · rcases k with ⟨_, rfl⟩ | ⟨k1, _⟩ | ⟨k1, _⟩
      · rfl
      · exact absurd e2 k1
      · exact absurd e2 k1
    · exact absurd e1 h1
    · exact absurd e1 h1
end Go.Proofs.YteekbhhlgicpeaaDoor
