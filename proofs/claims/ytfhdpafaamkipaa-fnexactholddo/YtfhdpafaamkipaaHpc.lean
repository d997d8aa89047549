/- A byte put, once it is called. -/
import Derived.Test.YtfhdpafaamkipaaHpb
namespace Go.Proofs.Ytfhdpafaamkipaa
open Go.RowKit
set_option linter.unusedVariables false
set_option linter.unusedSimpArgs false

/-- One of two. -/
def pk {α : Type} (t : Bool) (a b : α) : α := match t with | false => a | true => b
theorem StA.block {w w' : World} {g : Nat} {gd : Int} {r : RomT} {va vb : Value} (h : StA w g gd r va vb) (e : w'.heap[g]? = w.heap[g]?) (hl : w.heap.size ≤ w'.heap.size) : StA w' g gd r va vb := by
  have c : ∀ o, w'.cell? ⟨g, o, none⟩ = w.cell? ⟨g, o, none⟩ := fun o => by simp only [World.cell?, e]
  exact ⟨(c _).trans h.c0, (c _).trans h.c1, (c _).trans h.c2, (c _).trans h.c3, (c _).trans h.c4, (c _).trans h.c5, (c _).trans h.c6, (c _).trans h.c7, fun o => by have := h.frz o; simp only [World.frozen?, e] at this ⊢; exact this, Nat.lt_of_lt_of_le h.lt hl⟩
theorem put_st (W : World) (g base Hs He : Nat) (r : RomT) (t : Bool) (x : WrT) (hk : x.kind = 4) (hx : x.slot = sl t) (hg : base ≤ g) (hgH : g < Hs) (hHe : Hs ≤ He) (hWe : He ≤ W.heap.size)
    {xa xb : Option Addr} {na ca nb cb : Nat} (hA : StA W g 1 r (.slice xa na ca) (.slice xb nb cb)) (hR : RoO W base r xa na ca xb nb cb) (hK : ∀ k, atB xa k ∨ atB xb k → k ≠ g ∧ (k < Hs ∨ He ≤ k)) {e : Ending} {w' : World}
    (h : PutR W base g (ho t) x.byte (pk t (xa) (xb)) (pk t (na) (nb)) (pk t (ca) (cb)) (sel r t).data e w') :
    e = .returned (.tuple #[]) ∧ StW w' g base Hs He 1 (doT r x) ∧ Outs (chS base Hs He) W w' := by
  obtain ⟨rfl, h⟩ := h
  refine ⟨rfl, ?_⟩
  rcases h with ⟨hd, a', c', W1, rfl, ho', hO, hat⟩ | ⟨hd, rfl⟩
  · rw [do_4 hk hx hd]
    have hch : ∀ k, atB (pk t (xa) (xb)) k → chS base Hs He k := fun k e => by
      cases t
      · exact ⟨(owb_lt hR.a k e).1, by have := (hK k (.inl e)).2; omega⟩
      · exact ⟨(owb_lt hR.b k e).1, by have := (hK k (.inr e)).2; omega⟩
    have hng : ¬ atB (pk t (xa) (xb)) g := fun e => by
      cases t
      · exact (hK g (.inl e)).1 rfl
      · exact (hK g (.inr e)).1 rfl
    have hA1 := hA.block (hO.block g hA.lt hng) hO.size
    have hq := hA1.setD t ((sel r t).data ++ [x.byte]) (.slice a' (pk t (na + 1) (nb + 1)) c')
    have hgW : g < W.heap.size := hA.lt
    have hK' : ∀ k, atB a' k → k ≠ g ∧ (k < Hs ∨ He ≤ k) := fun k e => by
      rcases hat k e with h | h
      · cases t
        · exact hK k (.inl h)
        · exact hK k (.inr h)
      · exact ⟨by omega, .inr (by omega)⟩
    refine ⟨?_, (hO.wide hch).trans (outs_set _ _ _ _ ⟨hg, by omega⟩)⟩
    cases t
    · have kB := owb_outs hR.b hO (fun k e e' => hR.d k e' e)
      refine ⟨a', na + 1, c', xb, nb, cb, hq, ⟨owb_keep ho' fun k e => heap_set19 W1 g _ k _ fun e' => (hK' k e).1 e'.symm, owb_keep kB fun k e => heap_set19 W1 g _ k _ fun e' => (hK k (.inr e)).1 e'.symm, fun k e e' => ?_⟩, fun k e => by
        rcases e with e | e
        · exact hK' k e
        · exact hK k (.inr e)⟩
      rcases hat k e with h | h
      · exact hR.d k h e'
      · have := (owb_lt hR.b k e').2; omega
    · have kA := owb_outs hR.a hO (fun k e e' => hR.d k e e')
      refine ⟨xa, na, ca, a', nb + 1, c', hq, ⟨owb_keep kA fun k e => heap_set19 W1 g _ k _ fun e' => (hK k (.inl e)).1 e'.symm, owb_keep ho' fun k e => heap_set19 W1 g _ k _ fun e' => (hK' k e).1 e'.symm, fun k e e' => ?_⟩, fun k e => by
        rcases e with e | e
        · exact hK k (.inl e)
        · exact hK' k e⟩
      rcases hat k e' with h | h
      · exact hR.d k e h
      · have := (owb_lt hR.a k e).2; omega
  · rw [do_5 hk hx hd]
    exact ⟨⟨xa, na, ca, xb, nb, cb, hA, hR, hK⟩, .of_below (Below.refl _ _)⟩
set_option maxHeartbeats 1000000 in
theorem run_4 (W : World) (g base Hs He : Nat) (r : RomT) (t : Bool) (x : WrT) (hk : x.kind = 4) (hx : x.slot = sl t) (ch cb : Nat) (hg : base ≤ g) (hgH : g < Hs) (hHe : Hs ≤ He) (hWe : He ≤ W.heap.size) (q1 : W.cell? ⟨ch, 0, none⟩ = some (.pointer (some ⟨g, ho t, none⟩))) (q2 : W.cell? ⟨cb, 0, none⟩ = some (.int .u8 x.byte)) (hs : StW W g base Hs He 1 r) (u : FrameMode) :
    CallsD Try.prog 75 #[.pointer (some ⟨ch, 0, none⟩), .pointer (some ⟨cb, 0, none⟩)] u W fun e u' w' => u' = u ∧ (e = .returned (.tuple #[]) ∧ StW w' g base Hs He 1 (doT r x) ∧ Outs (chS base Hs He) W w') := by
  obtain ⟨xa, na, ca, xb, nb, cb', hA, hR, hK⟩ := hs
  have HP : Hid (Calls Try.prog 76 #[.pointer (some ⟨g, ho t, none⟩), .int .u8 x.byte] W fun e w' => e = .returned (.tuple #[]) ∧ StW w' g base Hs He 1 (doT r x) ∧ Outs (chS base Hs He) W w') := by
    refine (put_i base g (ho t) x.byte (pk t (xa) (xb)) (pk t (na) (nb)) (pk t (ca) (cb')) (sel r t).data W ?_ hA.frz ?_ hA.lt ?_ (by have := hA.lt; omega)).mono fun e w' h => put_st W g base Hs He r t x hk hx hg hgH hHe hWe hA hR hK h
    · rw [hA.cD t]
      cases t <;> rfl
    · cases t
      · exact hR.a
      · exact hR.b
    · intro e
      cases t
      · exact (hK g (.inl e)).1 rfl
      · exact (hK g (.inr e)).1 rfl
  clear hA hR hK hk hx
  go_enter_d Try.func75, Try.ntmps75
  go_wp2_with fail
  refine HP.out.mono ?_
  rintro e w1 ⟨rfl, h1, h2⟩
  have HF : Hid (StW w1 g base Hs He 1 (doT r x) ∧ Outs (chS base Hs He) W w1) := ⟨h1, h2⟩
  clear h1 h2 HP
  go_wp2
  go_end0
  exact ⟨rfl, HF.out⟩
end Go.Proofs.Ytfhdpafaamkipaa
