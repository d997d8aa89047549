/- What a write does, once it is called. -/
import Derived.Test.YtfhdpafaamkipaaHpa
namespace Go.Proofs.Ytfhdpafaamkipaa
open Go.RowKit
set_option linter.unusedVariables false
set_option linter.unusedSimpArgs false

theorem heap_set19 (W : World) (b f k : Nat) (v : Value) (hne : b ≠ k) : (W.setCell ⟨b, f, none⟩ v).heap[k]? = W.heap[k]? := by
  simp only [World.setCell]
  rw [Array.getElem?_modify]
  simp [hne]
theorem outs_set {S : Nat → Prop} (W : World) (b f : Nat) (v : Value) (hb : S b) : Outs S W (W.setCell ⟨b, f, none⟩ v) :=
  ⟨rfl, rfl, rfl, by simp, fun k hk hs => heap_set19 W b f k v fun e => hs (e ▸ hb)⟩
/-- Which slot is put to, and what with. -/
def PutR (W : World) (base g o x : Nat) (a : Option Addr) (n c : Nat) (d : List Nat) (e : Ending) (w' : World) : Prop :=
  e = .returned (.tuple #[]) ∧ ((d.length < 20100 ∧ ∃ a' c' W1, w' = W1.setCell ⟨g, o + 2, none⟩ (.slice a' (n + 1) c') ∧ OwB W1 base (.slice a' (n + 1) c') (d ++ [x]) ∧ Outs (atB a) W W1 ∧ ∀ k, atB a' k → atB a k ∨ W.heap.size ≤ k) ∨ (¬ d.length < 20100 ∧ w' = W))
set_option maxRecDepth 10000 in
set_option maxHeartbeats 2000000 in
theorem put_i (base g o x : Nat) (a : Option Addr) (n c : Nat) (d : List Nat) (W : World) (c2 : W.cell? ⟨g, o + 2, none⟩ = some (.slice a n c)) (hz : ∀ o, W.frozen? ⟨g, o, none⟩ = false) (own : OwB W base (.slice a n c) d) (hg : g < W.heap.size) (hga : ¬ atB a g) (hB : base ≤ W.heap.size) :
    Calls Try.prog 76 #[.pointer (some ⟨g, o, none⟩), .int .u8 (x : Nat)] W fun e w' => PutR W base g o x a n c d e w' := by
  have hn := owb_len own
  by_cases hd : d.length < 20100
  · obtain ⟨g1, c1, W1, hr, ho, hO, hat⟩ := appB1 W base a n c x d own (by omega) hB
    have HR : Hid (∀ ty, (Builtin.append_ #[22, 22] ty #[.slice a n c, .slice (some ⟨W.heap.size, 0, none⟩) 1 1]).run Try.prog (W.alloc (.cells #[.int .u8 (x : Nat)] 5)) = .ok (.slice (some ⟨g1, 0, none⟩) (n + 1) c1) W1) := hr
    have e1 := hO.block g hg hga
    have d2 : W1.cell? ⟨g, o + 2, none⟩ = some (.slice a n c) := by
      rw [← c2]
      simp only [World.cell?, e1]
    have z2 : W1.frozen? ⟨g, o + 2, none⟩ = false := by
      rw [← hz (o + 2)]
      simp only [World.frozen?, e1]
    have HF : Hid (PutR W base g o x a n c d (.returned (.tuple #[])) (W1.setCell ⟨g, o + 2, none⟩ (.slice (some ⟨g1, 0, none⟩) (n + 1) c1))) := ⟨rfl, .inl ⟨hd, _, c1, W1, rfl, ho, hO, fun k e => by
      unfold atB at e
      cases e
      exact hat⟩⟩
    have i1 : (n : Int) < 20100 := by omega
    clear hr ho hO hat e1 own hn hd
    go_enter Try.func76, Try.ntmps76
    go_wp2_with (at_builtin; refine wpList_appB rfl _ _ 22 rfl _ _ rfl rfl _ _ HR.out ?_)
    go_end0
    exact HF.out
  · have HF : Hid (PutR W base g o x a n c d (.returned (.tuple #[])) W) := ⟨rfl, .inr ⟨hd, rfl⟩⟩
    have i1 : ¬ (n : Int) < 20100 := by omega
    clear own hn hd
    go_enter Try.func76, Try.ntmps76
    go_wp2
    go_end0
    exact HF.out
/-- A store under its guard while it is written: its rows lie before or behind what the writes hold. -/
def StW (W : World) (g base Hs He : Nat) (gd : Int) (r : RomT) : Prop :=
  ∃ (xa : Option Addr) (na ca : Nat) (xb : Option Addr) (nb cb : Nat), StA W g gd r (.slice xa na ca) (.slice xb nb cb) ∧ RoO W base r xa na ca xb nb cb ∧ (∀ k, atB xa k ∨ atB xb k → k ≠ g ∧ (k < Hs ∨ He ≤ k))
/-- What writes may change. -/
def chS (base Hs He : Nat) (k : Nat) : Prop := base ≤ k ∧ ¬ (Hs ≤ k ∧ k < He)
theorem RoO.set {W : World} {base g f : Nat} {v : Value} {r r' : RomT} {xa xb : Option Addr} {na ca nb cb : Nat} (h : RoO W base r xa na ca xb nb cb) (hk : ∀ k, atB xa k ∨ atB xb k → k ≠ g) (ea : r'.a.data = r.a.data) (eb : r'.b.data = r.b.data) : RoO (W.setCell ⟨g, f, none⟩ v) base r' xa na ca xb nb cb :=
  ⟨by rw [ea]; exact owb_keep h.a fun k e => heap_set19 W g f k v fun e' => hk k (.inl e) e'.symm, by rw [eb]; exact owb_keep h.b fun k e => heap_set19 W g f k v fun e' => hk k (.inr e) e'.symm, h.d⟩
theorem upd_da {r : RomT} {t : Bool} {m u : Nat} : (upd r t ⟨m, u, (sel r t).data⟩).a.data = r.a.data := by cases t <;> rfl
theorem upd_db {r : RomT} {t : Bool} {m u : Nat} : (upd r t ⟨m, u, (sel r t).data⟩).b.data = r.b.data := by cases t <;> rfl
theorem do_1 {r : RomT} {t : Bool} {x : WrT} (hk : x.kind = 1) (hs : x.slot = sl t) : doT r x = upd r t ⟨x.byte, (sel r t).turn, (sel r t).data⟩ := by
  obtain ⟨k, s, y⟩ := x
  simp only at hk hs
  subst hk hs
  rw [do_upd]
  rfl
theorem do_2 {r : RomT} {t : Bool} {x : WrT} (hk : x.kind = 2) (hs : x.slot = sl t) : doT r x = upd r t ⟨(sel r t).mark, x.byte, (sel r t).data⟩ := by
  obtain ⟨k, s, y⟩ := x
  simp only at hk hs
  subst hk hs
  rw [do_upd]
  rfl
theorem do_3 {r : RomT} {t : Bool} {x : WrT} (hk : x.kind = 3) (hs : x.slot = sl t) : doT r x = upd r t ⟨(sel r t).mark, (sel r t).turn, []⟩ := by
  obtain ⟨k, s, y⟩ := x
  simp only at hk hs
  subst hk hs
  rw [do_upd]
  rfl
theorem do_4 {r : RomT} {t : Bool} {x : WrT} (hk : x.kind = 4) (hs : x.slot = sl t) (hd : (sel r t).data.length < 20100) : doT r x = upd r t ⟨(sel r t).mark, (sel r t).turn, (sel r t).data ++ [x.byte]⟩ := by
  obtain ⟨k, s, y⟩ := x
  simp only at hk hs
  subst hk hs
  rw [do_upd]
  unfold intoT
  simp [hd]
theorem do_5 {r : RomT} {t : Bool} {x : WrT} (hk : x.kind = 4) (hs : x.slot = sl t) (hd : ¬ (sel r t).data.length < 20100) : doT r x = r := by
  obtain ⟨k, s, y⟩ := x
  simp only at hk hs
  subst hk hs
  rw [do_upd]
  have e : intoT (sel r t) ⟨4, sl t, y⟩ = sel r t := by
    unfold intoT
    simp [hd]
  rw [e, upd_sel]
theorem do_none {r : RomT} {x : WrT} (h : x.slot ≠ 0 ∧ x.slot ≠ 1 ∨ x.kind ≠ 1 ∧ x.kind ≠ 2 ∧ x.kind ≠ 3 ∧ x.kind ≠ 4) : doT r x = r := by
  obtain ⟨k, s, y⟩ := x
  simp only at h
  unfold doT
  rcases h with ⟨h1, h2⟩ | ⟨h1, h2, h3, h4⟩
  · simp [h1, h2]
  · have e : ∀ q : SlotT, intoT q ⟨k, s, y⟩ = q := fun q => by unfold intoT; simp [h1, h2, h3, h4]
    rw [e, e]
    simp only
    split
    · rfl
    · split <;> rfl
set_option maxHeartbeats 1000000 in
theorem run_1 (W : World) (g base Hs He : Nat) (r : RomT) (t : Bool) (x : WrT) (hk : x.kind = 1) (hx : x.slot = sl t) (ch cb : Nat) (hg : base ≤ g) (hgH : g < Hs) (q1 : W.cell? ⟨ch, 0, none⟩ = some (.pointer (some ⟨g, ho t, none⟩))) (q2 : W.cell? ⟨cb, 0, none⟩ = some (.int .u8 x.byte)) (hs : StW W g base Hs He 1 r) (u : FrameMode) :
    CallsD Try.prog 72 #[.pointer (some ⟨cb, 0, none⟩), .pointer (some ⟨ch, 0, none⟩)] u W fun e u' w' => u' = u ∧ (e = .returned (.tuple #[]) ∧ StW w' g base Hs He 1 (doT r x) ∧ Outs (chS base Hs He) W w') := by
  obtain ⟨xa, na, ca, xb, nb, cb', hA, hR, hK⟩ := hs
  rw [do_1 hk hx]
  have HF : Hid (StW (W.setCell ⟨g, ho t, none⟩ (.int .u8 x.byte)) g base Hs He 1 (upd r t ⟨x.byte, (sel r t).turn, (sel r t).data⟩) ∧ Outs (chS base Hs He) W (W.setCell ⟨g, ho t, none⟩ (.int .u8 x.byte))) :=
    ⟨⟨xa, na, ca, xb, nb, cb', hA.setM t x.byte, hR.set (fun k e => (hK k e).1) upd_da upd_db, hK⟩, outs_set _ _ _ _ ⟨hg, by omega⟩⟩
  have cM := hA.cM t
  have fz := hA.frz (ho t)
  clear hA hR hK
  go_enter_d Try.func72, Try.ntmps72
  go_wp2
  go_end0
  exact ⟨rfl, HF.out⟩
set_option maxHeartbeats 1000000 in
theorem run_2 (W : World) (g base Hs He : Nat) (r : RomT) (t : Bool) (x : WrT) (hk : x.kind = 2) (hx : x.slot = sl t) (ch cb : Nat) (hg : base ≤ g) (hgH : g < Hs) (q1 : W.cell? ⟨ch, 0, none⟩ = some (.pointer (some ⟨g, ho t, none⟩))) (q2 : W.cell? ⟨cb, 0, none⟩ = some (.int .u8 x.byte)) (hs : StW W g base Hs He 1 r) (u : FrameMode) :
    CallsD Try.prog 73 #[.pointer (some ⟨cb, 0, none⟩), .pointer (some ⟨ch, 0, none⟩)] u W fun e u' w' => u' = u ∧ (e = .returned (.tuple #[]) ∧ StW w' g base Hs He 1 (doT r x) ∧ Outs (chS base Hs He) W w') := by
  obtain ⟨xa, na, ca, xb, nb, cb', hA, hR, hK⟩ := hs
  rw [do_2 hk hx]
  have HF : Hid (StW (W.setCell ⟨g, ho t + 1, none⟩ (.int .u8 x.byte)) g base Hs He 1 (upd r t ⟨(sel r t).mark, x.byte, (sel r t).data⟩) ∧ Outs (chS base Hs He) W (W.setCell ⟨g, ho t + 1, none⟩ (.int .u8 x.byte))) :=
    ⟨⟨xa, na, ca, xb, nb, cb', hA.setT t x.byte, hR.set (fun k e => (hK k e).1) upd_da upd_db, hK⟩, outs_set _ _ _ _ ⟨hg, by omega⟩⟩
  have cM := hA.cT t
  have fz := hA.frz (ho t + 1)
  clear hA hR hK
  go_enter_d Try.func73, Try.ntmps73
  go_wp2
  go_end0
  exact ⟨rfl, HF.out⟩
set_option maxHeartbeats 1000000 in
theorem run_3 (W : World) (g base Hs He : Nat) (r : RomT) (t : Bool) (x : WrT) (hk : x.kind = 3) (hx : x.slot = sl t) (ch : Nat) (hg : base ≤ g) (hgH : g < Hs) (q1 : W.cell? ⟨ch, 0, none⟩ = some (.pointer (some ⟨g, ho t, none⟩))) (hs : StW W g base Hs He 1 r) (u : FrameMode) :
    CallsD Try.prog 74 #[.pointer (some ⟨ch, 0, none⟩)] u W fun e u' w' => u' = u ∧ (e = .returned (.tuple #[]) ∧ StW w' g base Hs He 1 (doT r x) ∧ Outs (chS base Hs He) W w') := by
  obtain ⟨xa, na, ca, xb, nb, cb', hA, hR, hK⟩ := hs
  rw [do_3 hk hx]
  have HF : Hid (StW (W.setCell ⟨g, ho t + 2, none⟩ (.slice none 0 0)) g base Hs He 1 (upd r t ⟨(sel r t).mark, (sel r t).turn, []⟩) ∧ Outs (chS base Hs He) W (W.setCell ⟨g, ho t + 2, none⟩ (.slice none 0 0))) := by
    refine ⟨?_, outs_set _ _ _ _ ⟨hg, by omega⟩⟩
    have q := hA.setD t [] (.slice none 0 0)
    have kA := owb_keep (w' := W.setCell ⟨g, ho t + 2, none⟩ (.slice none 0 0)) hR.a fun k e => heap_set19 W g _ k _ fun e' => (hK k (.inl e)).1 e'.symm
    have kB := owb_keep (w' := W.setCell ⟨g, ho t + 2, none⟩ (.slice none 0 0)) hR.b fun k e => heap_set19 W g _ k _ fun e' => (hK k (.inr e)).1 e'.symm
    cases t
    · exact ⟨none, 0, 0, xb, nb, cb', q, ⟨World.ownsRow_nil _ _ _ _, kB, fun k e => by cases e⟩, fun k e => hK k (by rcases e with e | e; cases e; exact .inr e)⟩
    · exact ⟨xa, na, ca, none, 0, 0, q, ⟨kA, World.ownsRow_nil _ _ _ _, fun k _ e => by cases e⟩, fun k e => hK k (by rcases e with e | e; exact .inl e; cases e)⟩
  have cM := hA.cD t
  have fz := hA.frz (ho t + 2)
  clear hA hR hK
  go_enter_d Try.func74, Try.ntmps74
  go_wp2
  go_end0
  exact ⟨rfl, HF.out⟩
end Go.Proofs.Ytfhdpafaamkipaa
