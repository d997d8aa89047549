/- Lists that are drawn: of numbers within 3 000 000 000 all. -/
import Derived.Test.YtcihplachlokiaaGreatDoorYnM
import Derived.Test.YtcihplachlokiaaGreatDoorOnb
namespace Go.Proofs.YtcihplachlokiaaGreatDoor.Rr
open Go.RowKit
set_option linter.unusedVariables false

abbrev EG := EF 0
theorem EG.of {W : World} {H H' : Nat} {ok : Nat → Prop} {x : InstT} {a : Option Addr} {cap : Nat} (hcap : x.one.args.length ≤ cap) (hf : Fin1 0 x) (ho : Own W H' a x.one.args) (hH : H ≤ H') (hok : ∀ b, H' ≤ b → ok b) : EG W H ok x [.int .i64 x.code, .int .i64 x.one.op, .slice a x.one.args.length cap] := EF.of hcap hf ho hH hok
abbrev RG := RD 0
/-- One more instruction. -/
theorem RG.push {w4 w5 : World} {H pb : Nat} {v : Value} {xs : List InstT} {cs : List Value} {x : InstT} {c : List Value} {g1 cap1 : Nat} (h1 : v.ownBlock ≠ some pb) (h2 : Each (fun f x c => f = [] ∧ EG w4 H (fun b => b ≠ pb ∧ some b ≠ v.ownBlock) x c) 3 [] xs cs)
    (hN : EG w4 H (fun b => b ≠ pb ∧ some b ≠ v.ownBlock) x c) (hpb : pb < w4.heap.size)
    (own5 : w5.ownsRow H 44 3 (.slice (some ⟨g1, 0, none⟩) (xs.length + 1) cap1) (xs.length + 1) (cs ++ c)) (g5 : w4.grownBy w5 v.ownBlock) (hat : v.ownBlock = some g1 ∨ g1 = w4.heap.size) :
    RG w5 H pb (.slice (some ⟨g1, 0, none⟩) (xs.length + 1) cap1) (xs ++ [x]) := by
  have hc : c.length = 3 := by obtain ⟨a, cap, e, _⟩ := hN; rw [e]; rfl
  have key : ∀ x c, EG w4 H (fun b => b ≠ pb ∧ some b ≠ v.ownBlock) x c → EG w5 H (fun b => b ≠ pb ∧ some b ≠ some g1) x c := fun x c h => h.move g5 (fun b _ _ b3 => b3.2) (fun b b1 b2 b3 => ⟨b3.1, fun e => by
    rcases hat with h | h
    · exact b3.2 (by rw [h, ← e])
    · simp at e; omega⟩)
  refine ⟨?_, cs ++ c, ?_, ?_⟩
  · show some g1 ≠ some pb
    rcases hat with h | h
    · rw [← h]; exact h1
    · simp; omega
  · exact Each.add (h2.move fun f x c _ hh => ⟨hh.1, key x c hh.2⟩) hc ⟨rfl, key x c hN⟩
  · simpa using own5

abbrev EGs (W : World) (H : Nat) (ok : Nat → Prop) (xs : List InstT) (cs : List Value) : Prop := Each (fun f x c => f = [] ∧ EG W H ok x c) 3 [] xs cs
/-- Instructions by their places. -/
def EGi (W : World) (H : Nat) (ok : Nat → Prop) (xs : List InstT) (cs : List Value) : Prop := cs.length = xs.length * 3 ∧ ∀ j x, xs[j]? = some x → ∃ c, EG W H ok x c ∧ ∀ i, i < 3 → cs[j * 3 + i]? = c[i]?
theorem EGs.i {W : World} {H : Nat} {ok : Nat → Prop} {xs : List InstT} {cs : List Value} (h : EGs W H ok xs cs) : EGi W H ok xs cs := by
  refine ⟨h.len, fun j x hx => ?_⟩
  obtain ⟨f, c, F1, F2, cs1, cs2, _, e2, e3, e4, hr⟩ := h.at j x hx
  refine ⟨c, hr.2, fun i hi => ?_⟩
  rw [e2, List.append_assoc, List.getElem?_append_right (by omega), List.getElem?_append_left (by omega)]
  congr 1
  omega
theorem EG.len {W : World} {H : Nat} {ok : Nat → Prop} {x : InstT} {c : List Value} (h : EG W H ok x c) : c.length = 3 := by
  obtain ⟨a, cap, e, _⟩ := h
  rw [e]; rfl
theorem EGi.one {W : World} {H : Nat} {ok : Nat → Prop} {xs : List InstT} {cs : List Value} (h : EGi W H ok xs cs) : ∀ u ∈ cs, u.oneCell' = true := by
  intro u hu
  obtain ⟨i, hi⟩ := List.mem_iff_getElem?.1 hu
  have hl := (List.getElem?_eq_some_iff.1 hi).1
  rw [h.1] at hl
  obtain ⟨c, hc, hk⟩ := h.2 (i / 3) _ (List.getElem?_eq_getElem (by omega))
  have h1 := hk (i % 3) (by omega)
  rw [show i / 3 * 3 + i % 3 = i by omega, hi] at h1
  have hm : u ∈ c := List.mem_of_getElem? h1.symm
  obtain ⟨a, cap, e, _⟩ := hc
  rw [e] at hm
  simp at hm
  rcases hm with rfl | rfl | rfl <;> rfl
/-- A drawn list's cells. -/
theorem RG.cells {W : World} {H pb : Nat} {v : Value} {xs : List InstT} (h : RG W H pb v xs) : ∃ cs, cs.length = xs.length * 3 ∧ (∀ u ∈ cs, u.oneCell' = true) ∧ W.ownsRow H 44 3 v xs.length cs ∧ EGi W H (fun b => b ≠ pb ∧ some b ≠ v.ownBlock) xs cs := by
  obtain ⟨h1, cs, h2, h3⟩ := h
  exact ⟨cs, h2.len, (EGs.i h2).one, h3, EGs.i h2⟩
theorem EG.is {W : World} {H : Nat} {ok : Nat → Prop} {x : InstT} {c : List Value} (h : EG W H ok x c) : InstIs W 0 x c := by
  obtain ⟨a, cap, rfl, h1, h2, h3⟩ := h
  refine ⟨_, rfl, ?_⟩
  have hl : x.one.args.length ≤ 12 := Nat.le_trans h2.2.2.1 (by decide)
  rcases h3 with h3 | ⟨b, o, rfl, _, hO⟩
  · exact ⟨a, cap, rfl, by omega, fun j y hy => by rw [h3] at hy; simp at hy⟩
  · exact hO.is (by omega)
/-- A drawn list is a list. -/
theorem RG.is {W : World} {H pb : Nat} {v : Value} {xs : List InstT} (h : RG W H pb v xs) (hl : xs.length ≤ 1048576) : InstsIs W 0 v xs := by
  obtain ⟨cs, hcl, hone, hown, hefi⟩ := h.cells
  rcases hown.2 with ⟨e, e0⟩ | ⟨g, cap, cur, e, _⟩
  · have hx : xs = [] := List.length_eq_zero_iff.1 e0
    subst hx
    exact ⟨none, 0, e, by simp, fun j x hx => by simp at hx⟩
  · subst e
    refine ⟨_, cap, rfl, by omega, fun j x hx => ?_⟩
    obtain ⟨c, hc, hi⟩ := hefi.2 j x hx
    refine ⟨g, 0, c, rfl, Nat.zero_le _, hc.len, fun i u hu => ?_, hc.is⟩
    have hi3 : i < 3 := by have := (List.getElem?_eq_some_iff.1 hu).1; rw [hc.len] at this; exact this
    rw [Nat.zero_add]
    exact own_at hown _ _ ((hi i hi3).trans hu)
theorem EF.g {W : World} {H : Nat} {ok : Nat → Prop} {x : InstT} {c : List Value} (h : EF 0 W H ok x c) : EG W H ok x c := h
theorem RD.g {W : World} {H pb : Nat} {v : Value} {xs : List InstT} (h : RD 0 W H pb v xs) : RG W H pb v xs := h
theorem RD.up {W : World} {H pb : Nat} {v : Value} {xs : List InstT} (h : RD 0 W H pb v xs) : RD 1 W H pb v xs := by
  obtain ⟨h1, cs, h2, h3⟩ := h
  refine ⟨h1, cs, h2.move fun f x c _ hh => ⟨hh.1, ?_⟩, h3⟩
  obtain ⟨a, cap, e1, e2, ⟨f1, f2, f3, f4⟩, e4⟩ := hh.2
  exact ⟨a, cap, e1, e2, ⟨f1, f2, Nat.le_trans f3 (by decide), f4⟩, e4⟩
end Go.Proofs.YtcihplachlokiaaGreatDoor.Rr
/- Any list is drawn. -/
namespace Go.Proofs.YtcihplachlokiaaGreatDoor.Rr
open Go.RowKit Go.Shelf
set_option linter.unusedVariables false

set_option maxRecDepth 10000 in
set_option maxHeartbeats 8000000 in
/-- A list is drawn, one in sixteen spoilt. -/
theorem lany_r (w : World) (B R p : Nat) (h : Reader B w R p) (hp : p < 9200000) :
    Calls Tryz.prog 33 #[.pointer (some ⟨R, 0, none⟩)] w fun e w' => ListR 0 w B R p 4000 250000 e w' := by
  have hRB := h.1
  have hBw := h.2.1
  have HR : Hid (Reader B w R p) := h
  clear h
  go_enter Tryz.func33, Tryz.ntmps33
  go_wp2_with fail
  refine (sure_r (LB := 0) w B R p HR.out (by omega)).mono ?_
  rintro e w3 ⟨b, n, cp, q, xs, rfl, hn, hn2, hq, hx, h3, g3, h8⟩
  have hs3 := g3.size
  have HX : Hid (RD 0 w3 w.heap.size R (.slice b n cp) xs) := hx
  have HR3 : Hid (Reader B w3 R q) := h3
  have HG3 : Hid (w.grownBy w3 (some R)) := g3
  have H8 : Hid (∀ x ∈ xs, x.one.args.length ≤ 8) := h8
  clear hx h3 g3 h8
  go_wp2_with fail
  refine (pick_r B R q 16 w3 HR3.out (by omega) (by omega) (by omega)).mono ?_
  rintro e w4 ⟨t, t1, rfl, h4, g4⟩
  have hs4 := g4.size
  have HX4 : Hid (RD 0 w4 w.heap.size R (.slice b n cp) xs) := HX.out.move g4 (fun j hj => by cases hj; omega)
  have HR4 : Hid (Reader B w4 R (q + 1)) := h4
  have HG4 : Hid (w.grownBy w4 (some R)) := gb_pick HG3.out g4
  clear h4 g4 HX HR3 HG3
  by_cases ht : t = 0
  · subst ht
    have HS : Hid (Calls Tryz.prog 14 #[.pointer (some ⟨R, 0, none⟩), .slice b n cp] w4 fun e w' => ListH 0 w.heap.size w4 B R (q + 1) (2800 + 1) 1500 e w') := lspoil_r (LB := 0) (by omega) 2800 (by omega) (by omega) w4 B R (q + 1) w.heap.size HR4.out (by omega) (by omega) b n cp xs hn hn2 HX4.out (fun x hx => (H8.out x hx)) (by omega)
    go_wp2_with fail
    refine HS.out.mono ?_
    rintro e w5 ⟨b5, n5, cp5, q5, xs5, rfl, hn5, hn52, hq5, hx5, h5, g5⟩
    have HF : Hid (ListR 0 w B R p 4000 250000 (.returned (.slice b5 n5 cp5)) w5) := ⟨b5, n5, cp5, q5, xs5, rfl, hn5, by omega, by omega, hx5, h5, gb_pick HG4.out g5⟩
    clear hn5 hx5 h5 g5 HS
    go_wp2
    go_ret
    exact HF.out
  · have i1 : ((t : Int) == 0) = false := by simp; omega
    have HF : Hid (ListR 0 w B R p 4000 250000 (.returned (.slice b n cp)) w4) := ⟨b, n, cp, q + 1, xs, rfl, hn, by omega, by omega, HX4.out, HR4.out, HG4.out⟩
    clear hn
    go_wp2
    go_ret
    exact HF.out
end Go.Proofs.YtcihplachlokiaaGreatDoor.Rr
