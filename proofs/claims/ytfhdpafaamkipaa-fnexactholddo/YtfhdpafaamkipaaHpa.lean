/- A store that is written: its rows owned, its cells. -/
import Derived.Test.YtfhdpafaamkipaaHwa
import Derived.Test.YtfhdpafaamkipaaLk
import Derived.Defers
namespace Go.Proofs.Ytfhdpafaamkipaa
open Go.RowKit
set_option linter.unusedVariables false
set_option linter.unusedSimpArgs false

theorem owb_keep {w w' : World} {base : Nat} {a : Option Addr} {n c : Nat} {l : List Nat} (h : OwB w base (.slice a n c) l) (e : ∀ k, atB a k → w'.heap[k]? = w.heap[k]?) : OwB w' base (.slice a n c) l := by
  obtain ⟨q1, q2⟩ := h
  refine ⟨q1, ?_⟩
  rcases q2 with h | ⟨g, cp, cur, hv, hb, hg, hrest⟩
  · exact .inl h
  · refine .inr ⟨g, cp, cur, hv, hb, ?_, hrest⟩
    rw [e g (by unfold atB; simp only [Value.slice.injEq] at hv; exact hv.1)]
    exact hg
theorem owb_lt {w : World} {base : Nat} {a : Option Addr} {n c : Nat} {l : List Nat} (h : OwB w base (.slice a n c) l) (k : Nat) (e : atB a k) : base ≤ k ∧ k < w.heap.size := (owb_ob h).lt k e
theorem owb_later {w w' : World} {base : Nat} {a : Option Addr} {n c : Nat} {l : List Nat} (h : OwB w base (.slice a n c) l) (b : Below w.heap.size w w') : OwB w' base (.slice a n c) l := owb_keep h fun k e => b.block k (owb_lt h k e).2
theorem owb_outs {S : Nat → Prop} {w w' : World} {base : Nat} {a : Option Addr} {n c : Nat} {l : List Nat} (h : OwB w base (.slice a n c) l) (b : Outs S w w') (hs : ∀ k, atB a k → ¬ S k) : OwB w' base (.slice a n c) l := owb_keep h fun k e => b.block k (owb_lt h k e).2 (hs k e)
theorem owb_cap {w : World} {base : Nat} {a : Option Addr} {n c : Nat} {l : List Nat} (h : OwB w base (.slice a n c) l) : n ≤ c := by
  rcases h.2 with ⟨hv, _⟩ | ⟨g, cp, cur, hv, hb, hg, hn, _⟩
  · simp only [Value.slice.injEq] at hv; omega
  · simp only [Value.slice.injEq] at hv
    obtain ⟨_, rfl, rfl⟩ := hv
    exact hn
/-- A store's bytes, both rows one's own, apart from each other. -/
structure RoO (w : World) (base : Nat) (r : RomT) (xa : Option Addr) (na ca : Nat) (xb : Option Addr) (nb cb : Nat) : Prop where
  a : OwB w base (.slice xa na ca) r.a.data
  b : OwB w base (.slice xb nb cb) r.b.data
  d : ∀ k, atB xa k → ¬ atB xb k
/-- What gives a store back. -/
def RomR (r : RomT) (w : World) (e : Ending) (w' : World) : Prop :=
  ∃ (xa : Option Addr) (na ca : Nat) (xb : Option Addr) (nb cb : Nat), e = .returned (romV r xa xb na ca nb cb) ∧ RoO w' w.heap.size r xa na ca xb nb cb ∧ Below w.heap.size w w'

/-- Bytes, one or more, behind a row of one's own, or behind none. -/
theorem appBx (W : World) (H : Nat) (a : Option Addr) (n cap b m c : Nat) (l k : List Nat) (own0 : OwB W H (.slice a n cap) l) (hm : m = k.length) (h0 : 0 < m) (hbig : n + m ≤ 2000000) (hH : H ≤ W.heap.size)
    (hsrc : ∀ j x, k[j]? = some x → W.cell? ⟨b, 0 + j, none⟩ = some (.int .u8 (x : Nat))) :
    ∃ (g cap' : Nat) (w' : World), (∀ ty, (Builtin.append_ #[22, 22] ty #[.slice a n cap, .slice (some ⟨b, 0, none⟩) m c]).run Try.prog W = .ok (.slice (some ⟨g, 0, none⟩) (n + m) cap') w') ∧ OwB w' H (.slice (some ⟨g, 0, none⟩) (n + m) cap') (l ++ k) ∧ Outs (atB a) W w' ∧ (atB a g ∨ g = W.heap.size) := by
  obtain ⟨ti, hi, hz0, hz1, hz2⟩ := info_parts infoU8
  have hn := owb_len own0
  have hat' : ∀ x, (Value.slice a n cap).ownBlock = some x → atB a x := fun x hx => by
    rcases own0.2 with ⟨hv, _⟩ | ⟨g, cp, cur, hv, _⟩
    · simp only [Value.slice.injEq] at hv
      rw [hv.1] at hx
      simp [Value.ownBlock] at hx
    · simp only [Value.slice.injEq] at hv
      rw [hv.1] at hx ⊢
      simp [Value.ownBlock] at hx
      unfold atB
      rw [hx]
  have hrun := fun ty => run_append_lies (P := Try.prog) W 22 ty H 5 ti (.int .u8 0) 1 1 Try.underlying22 hi hz0 hz1 hz2 rfl (by decide) (.slice a n cap) n (clB l) (by unfold OwB at own0; rw [← hn] at own0; exact own0) ⟨b, 0, none⟩ m c (clB k) (by rw [clB_len, hm]; omega) (fun j u hu => by
    rw [show (⟨b, 0, none⟩ : Addr).add j = ⟨b, 0 + j, none⟩ from Addr.add_mid b 0 j]
    obtain ⟨x, hx, rfl⟩ := clB_get hu
    exact hsrc j x hx) (clB_one k) h0 (by unfold maxLen; omega) (by omega) hH _ rfl
  obtain ⟨g, cap', w', hr, own, gg, hat, hlt⟩ := hrun 22
  refine ⟨g, cap', w', fun ty => ?_, ?_, .of_grown gg hat', ?_⟩
  · have : (Builtin.append_ #[22, 22] ty #[.slice a n cap, .slice (some ⟨b, 0, none⟩) m c]).run Try.prog W = (Builtin.append_ #[22, 22] 22 #[.slice a n cap, .slice (some ⟨b, 0, none⟩) m c]).run Try.prog W := by simp only [Builtin.append_]
    rw [this, hr]
  · unfold OwB
    rw [clB_app, List.length_append, ← hn, ← hm]
    exact own
  · rcases hat with h | h
    · exact .inl (hat' g h)
    · exact .inr h
/-- One byte, just laid, behind a row of one's own, or behind none. -/
theorem appB1 (W : World) (H : Nat) (a : Option Addr) (n cap x : Nat) (l : List Nat) (own0 : OwB W H (.slice a n cap) l) (hbig : n ≤ 1900000) (hH : H ≤ W.heap.size) :
    ∃ (g cap' : Nat) (w' : World), (∀ ty, (Builtin.append_ #[22, 22] ty #[.slice a n cap, .slice (some ⟨W.heap.size, 0, none⟩) 1 1]).run Try.prog (W.alloc (.cells #[.int .u8 (x : Nat)] 5)) = .ok (.slice (some ⟨g, 0, none⟩) (n + 1) cap') w') ∧ OwB w' H (.slice (some ⟨g, 0, none⟩) (n + 1) cap') (l ++ [x]) ∧ Outs (atB a) W w' ∧ (atB a g ∨ W.heap.size ≤ g) := by
  have gA : Below W.heap.size W (W.alloc (.cells #[.int .u8 (x : Nat)] 5)) := (Below.refl _ _).alloc (Nat.le_refl _) _
  obtain ⟨g, cap', w', hr, ho, hg, hat⟩ := appBx _ H a n cap W.heap.size 1 1 l [x] (owb_later own0 gA) rfl (by omega) (by omega) (Nat.le_trans hH gA.size) (fun j y hy => by
    match j with
    | 0 =>
      simp at hy
      subst hy
      rw [cell_of_row _ _ _ _ _ _ (heap_alloc_last W _)]
      rfl
    | j + 1 => simp at hy)
  refine ⟨g, cap', w', hr, ho, (Outs.of_below gA).trans hg, ?_⟩
  rcases hat with h | h
  · exact .inl h
  · exact .inr (by rw [h]; exact gA.size)

/-- Where a half begins. -/
def ho : Bool → Nat
  | false => 2
  | true => 5
theorem hfP_sl (g : Nat) (t : Bool) : hfP g (sl t) = some ⟨g, ho t, none⟩ := by cases t <;> rfl
theorem cs_eq {W : World} {g p q : Nat} {v u : Value} (h : W.cell? ⟨g, q, none⟩ = some u) : (W.setCell ⟨g, p, none⟩ v).cell? ⟨g, q, none⟩ = some (if p = q then v else u) := by
  by_cases e : p = q
  · subst e
    rw [if_pos rfl]
    exact World.cell?_setCell_same _ _ _ h
  · rw [if_neg e]
    exact (World.cell?_setCell_other _ _ _ _ (by simp [e])).trans h
theorem StA.setM {W : World} {g : Nat} {gd : Int} {r : RomT} {va vb : Value} (h : StA W g gd r va vb) (t : Bool) (x : Nat) : StA (W.setCell ⟨g, ho t, none⟩ (.int .u8 (x : Nat))) g gd (upd r t ⟨x, (sel r t).turn, (sel r t).data⟩) va vb := by
  cases t
  all_goals exact ⟨(cs_eq h.c0).trans rfl, (cs_eq h.c1).trans rfl, (cs_eq h.c2).trans rfl, (cs_eq h.c3).trans rfl, (cs_eq h.c4).trans rfl, (cs_eq h.c5).trans rfl, (cs_eq h.c6).trans rfl, (cs_eq h.c7).trans rfl, fun o => by simpa using h.frz o, by simpa using h.lt⟩
theorem StA.setT {W : World} {g : Nat} {gd : Int} {r : RomT} {va vb : Value} (h : StA W g gd r va vb) (t : Bool) (x : Nat) : StA (W.setCell ⟨g, ho t + 1, none⟩ (.int .u8 (x : Nat))) g gd (upd r t ⟨(sel r t).mark, x, (sel r t).data⟩) va vb := by
  cases t
  all_goals exact ⟨(cs_eq h.c0).trans rfl, (cs_eq h.c1).trans rfl, (cs_eq h.c2).trans rfl, (cs_eq h.c3).trans rfl, (cs_eq h.c4).trans rfl, (cs_eq h.c5).trans rfl, (cs_eq h.c6).trans rfl, (cs_eq h.c7).trans rfl, fun o => by simpa using h.frz o, by simpa using h.lt⟩
/-- The rows of a store, one of them another. -/
def pickA (t : Bool) (va v : Value) : Value := match t with | false => v | true => va
def pickB (t : Bool) (vb v : Value) : Value := match t with | false => vb | true => v
theorem StA.setD {W : World} {g : Nat} {gd : Int} {r : RomT} {va vb : Value} (h : StA W g gd r va vb) (t : Bool) (d : List Nat) (v : Value) : StA (W.setCell ⟨g, ho t + 2, none⟩ v) g gd (upd r t ⟨(sel r t).mark, (sel r t).turn, d⟩) (pickA t va v) (pickB t vb v) := by
  cases t
  all_goals exact ⟨(cs_eq h.c0).trans rfl, (cs_eq h.c1).trans rfl, (cs_eq h.c2).trans rfl, (cs_eq h.c3).trans rfl, (cs_eq h.c4).trans rfl, (cs_eq h.c5).trans rfl, (cs_eq h.c6).trans rfl, (cs_eq h.c7).trans rfl, fun o => by simpa using h.frz o, by simpa using h.lt⟩
theorem StA.cM {W : World} {g : Nat} {gd : Int} {r : RomT} {va vb : Value} (h : StA W g gd r va vb) (t : Bool) : W.cell? ⟨g, ho t, none⟩ = some (.int .u8 (sel r t).mark) := by
  cases t
  · exact h.c2
  · exact h.c5
theorem StA.cT {W : World} {g : Nat} {gd : Int} {r : RomT} {va vb : Value} (h : StA W g gd r va vb) (t : Bool) : W.cell? ⟨g, ho t + 1, none⟩ = some (.int .u8 (sel r t).turn) := by
  cases t
  · exact h.c3
  · exact h.c6
theorem StA.cD {W : World} {g : Nat} {gd : Int} {r : RomT} {va vb : Value} (h : StA W g gd r va vb) (t : Bool) : W.cell? ⟨g, ho t + 2, none⟩ = some (match t with | false => va | true => vb) := by
  cases t
  · exact h.c4
  · exact h.c7
end Go.Proofs.Ytfhdpafaamkipaa
