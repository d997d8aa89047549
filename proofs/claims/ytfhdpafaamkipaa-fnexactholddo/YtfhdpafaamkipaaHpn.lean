/- What a law asks of a store that is an answer. Made by tools/gen19_hpn.py. -/
import Derived.Test.YtfhdpafaamkipaaHpm
import Derived.Test.YtfhdpafaamkipaaHwh
namespace Go.Proofs.Ytfhdpafaamkipaa
open Go.RowKit
set_option linter.unusedVariables false
set_option linter.unusedSimpArgs false

theorem into_len (s : SlotT) (x : WrT) : (intoT s x).data.length ≤ max s.data.length 20100 := by
  unfold intoT
  split
  · exact Nat.le_max_left _ _
  · split
    · exact Nat.le_max_left _ _
    · split
      · exact Nat.zero_le _
      · split
        · next h => simp only [List.length_append, List.length_singleton]; omega
        · exact Nat.le_max_left _ _
theorem do_len (r : RomT) (x : WrT) (N : Nat) (hN : 20100 ≤ N) (h : r.a.data.length ≤ N ∧ r.b.data.length ≤ N) : (doT r x).a.data.length ≤ N ∧ (doT r x).b.data.length ≤ N := by
  have h1 := into_len r.a x
  have h2 := into_len r.b x
  unfold doT
  split
  · exact ⟨by show (intoT r.a x).data.length ≤ N; omega, h.2⟩
  · split
    · exact ⟨h.1, by show (intoT r.b x).data.length ≤ N; omega⟩
    · exact h
theorem play_len (N : Nat) (hN : 20100 ≤ N) : ∀ (ws : List WrT) (r : RomT), r.a.data.length ≤ N ∧ r.b.data.length ≤ N → (playT r ws).a.data.length ≤ N ∧ (playT r ws).b.data.length ≤ N
  | [], r, h => h
  | x :: ws, r, h => by
    rw [play_cons]
    exact play_len N hN ws _ (do_len r x N hN h)
/-- An answer in its box, its rows owned. -/
def GR (Bx base : Nat) (R : RomT) (xa : Option Addr) (na ca : Nat) (xb : Option Addr) (nb cb : Nat) (f g : Nat → Nat) (W : World) : Prop :=
  W.heap[Bx]? = some (.cells #[.int .u8 R.a.mark, .int .u8 R.a.turn, .slice xa na ca, .int .u8 R.b.mark, .int .u8 R.b.turn, .slice xb nb cb] 26 (0, 0)) ∧ Ob W base xa na f ∧ Ob W base xb nb g
theorem GR.later {Bx base : Nat} {R : RomT} {xa xb : Option Addr} {na ca nb cb : Nat} {f g : Nat → Nat} {W W' : World} (h : GR Bx base R xa na ca xb nb cb f g W) (b : Below W.heap.size W W') : GR Bx base R xa na ca xb nb cb f g W' := ⟨row_later19 h.1 b, h.2.1.later b, h.2.2.later b⟩
theorem GR.outs {S : Nat → Prop} {Bx base : Nat} {R : RomT} {xa xb : Option Addr} {na ca nb cb : Nat} {f g : Nat → Nat} {W W' : World} (h : GR Bx base R xa na ca xb nb cb f g W) (b : Outs S W W') (hs : ∀ k, k = Bx ∨ atB xa k ∨ atB xb k → ¬ S k) : GR Bx base R xa na ca xb nb cb f g W' :=
  ⟨b.row h.1 (hs _ (.inl rfl)), h.2.1.outs b (fun k e => hs k (.inr (.inl e))), h.2.2.outs b (fun k e => hs k (.inr (.inr e)))⟩
theorem romR_u {R : RomT} {NA NB : Nat} {F G : Nat → Nat} {w : World} {e : Ending} {w' : World} (h1 : NA = R.a.data.length) (h2 : NB = R.b.data.length) (h3 : F = fL R.a.data) (h4 : G = fL R.b.data) (q : RomR R w e w') :
    ∃ (xa : Option Addr) (ca : Nat) (xb : Option Addr) (cb : Nat), e = .returned (romV R xa xb NA ca NB cb) ∧ Ob w' w.heap.size xa NA F ∧ Ob w' w.heap.size xb NB G ∧ (∀ k, atB xa k → ¬ atB xb k) ∧ Below w.heap.size w w' := by
  obtain ⟨xa, na, ca, xb, nb, cb, q1, q2, q3⟩ := q
  have e1 := owb_len q2.a
  have e2 := owb_len q2.b
  have o1 := owb_ob q2.a
  have o2 := owb_ob q2.b
  rw [← e1] at h1
  rw [← e2] at h2
  subst h1 h2 h3 h4
  exact ⟨xa, ca, xb, cb, q1, o1, o2, q2.d, q3⟩
end Go.Proofs.Ytfhdpafaamkipaa
