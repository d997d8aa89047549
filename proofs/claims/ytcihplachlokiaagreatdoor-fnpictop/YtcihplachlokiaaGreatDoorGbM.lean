/- How much there is in a ladder: the laws' sz.. functions. -/
import Derived.Test.YtcihplachlokiaaGreatDoorGa
import Derived.Test.YtcihplachlokiaaGreatDoorMa
import Derived.Deep.LoopGhost
import Derived.Laws.MakeOwn
import Derived.Laws.AppendOwn
import Derived.Laws.OwnMore
namespace Go.Proofs.YtcihplachlokiaaGreatDoor
open Go.RowKit
set_option linter.unusedVariables false

def szR (left : Int) (w : Nat) : Int := if (w : Int) ≤ left then left - w else -1
theorem szR_yes {left : Int} {w : Nat} (h : (w : Int) ≤ left) : szR left w = left - w := if_pos h
theorem szR_no {left : Int} {w : Nat} (h : ¬ (w : Int) ≤ left) : szR left w = -1 := if_neg h

theorem szR_two {l : Int} (p q : Nat) (hp : (p : Int) ≤ l) : szR (l - p) q = szR l (p + q) := by
  unfold szR
  by_cases h : (q : Int) ≤ l - p
  · rw [if_pos h, if_pos (by omega)]; omega
  · rw [if_neg h, if_neg (by omega)]
theorem szR_cases (l : Int) (p : Nat) : (0 ≤ szR l p ∨ szR l p = -1) := by
  by_cases h : (p : Int) ≤ l
  · left; rw [szR_yes h]; omega
  · right; exact szR_no h

theorem RowIs.one {α : Type} {W : World} {lo z : Nat} {R : α → List Value → Prop} {v : Value} {xs : List α} (h : RowIs W lo z R v xs) : v.oneCell' = true := by
  obtain ⟨a, cap, rfl, _⟩ := h; rfl

theorem NetIs.cells {W : World} {lo : Nat} : ∀ {m : Nat} {t : NetT} {cs : List Value}, NetIs W lo m t cs → ∃ n0 n1 n2 n3, cs = [n0, n1, n2, n3] ∧ n0.oneCell' = true ∧ n1.oneCell' = true ∧ n2.oneCell' = true ∧ n3.oneCell' = true
  | 0, _, _, h => h.elim
  | m + 1, .mk k e kids, cs, h => by
    obtain ⟨v, v', rfl, ha, hk⟩ := h
    exact ⟨_, _, _, _, rfl, rfl, rfl, ha.one, hk.one⟩

end Go.Proofs.YtcihplachlokiaaGreatDoor
/- Ladders copied: the laws' to.. functions. -/
namespace Go.Proofs.YtcihplachlokiaaGreatDoor
open Go.RowKit
set_option linter.unusedVariables false

section
variable {P : Program}
theorem store_one {w : World} {g : Nat} {t : TypeId} {C : Array Value} (h : w.heap[g]? = some (.cells C t (0, 0))) (ty : TypeId) (o : Nat) (v : Value) (hn : o < C.size)
    (hi : (P.info? ty).map (·.size) = some 1) (hv : v.cells = #[v]) (h1 : v.oneCell' = true) :
    (storeVar ty ⟨g, o, none⟩ v).run P w = .ok () (w.setRow g (putAt C o [v])) := by
  rw [← setCells_row g t [v] o C w h]
  have ht := there_row h o 1 (by omega)
  have := run_storeCells_cells (P := P) g o [v] 0 w (fun j hj => by simpa using (ht j (by simpa using hj)).1) (fun j hj => by simpa using (ht j (by simpa using hj)).2)
    (fun x hx => by simp at hx; rw [hx]; exact h1)
  cases hq : P.info? ty with
  | none => simp [hq] at hi
  | some i =>
    have hs : 1 = i.size := by simp [hq] at hi; omega
    simp only [Nat.add_zero] at this
    simp [storeVar, sizeOf, typeInfo, hq, hv, ← hs, this]
end

theorem keeps_row {lo : Nat} {W : World} {g : Nat} {D : Array Value} (hg : g < lo) : Keeps lo W (W.setRow g D) := Keeps.setRow W g D hg
theorem below_row {w W : World} (b : Below w.heap.size w W) {g : Nat} (hg : w.heap.size ≤ g) {C : Array Value} {t : TypeId} (h : W.heap[g]? = some (.cells C t (0, 0))) (D : Array Value) : Below w.heap.size w (W.setRow g D) := below_setRow b hg D

theorem make_DevArg (n : Nat) (hn : n ≤ 1048576) (w : World) :
    (Instr.makeSlice 40 (.int .i64 (n : Int)) (.int .i64 (n : Int))).run Tryz.prog w = .ok (.slice (some ⟨w.heap.size, 0, none⟩) n n) (w.alloc (.cells (madeCells #[.int .i64 0, .int .i64 0, .int .i64 0] (n * 3)) 72)) := by
  have hinfo : (Tryz.prog.info? 72).map (fun i => (i.zero, i.size, i.bytes)) = some (some (.agg #[.int .i64 0, .int .i64 0, .int .i64 0]), 3, 24) := by kernel_rfl
  obtain ⟨i, hi, hzz⟩ := Option.map_eq_some_iff.1 hinfo
  simp only [Prod.mk.injEq] at hzz
  obtain ⟨hz, hs, hb⟩ := hzz
  have hr := run_make (P := Tryz.prog) w 40 72 i _ Tryz.underlying40 hi hz .i64 .i64 n n (by omega) (Int.le_refl _) (by rw [hb]; omega) (by omega)
  simp only [Int.toNat_natCast, hs] at hr
  exact hr

theorem all_one (ds : List Value) (h : ∀ d ∈ ds, d.oneCell' = true) : ds.toArray.all (·.oneCell') = true := by simp; exact h
theorem slice_one {α : Type} {W : World} {lo z : Nat} {R : α → List Value → Prop} {v : Value} {xs : List α} (h : RowIs W lo z R v xs) : v.cells = #[v] := by
  obtain ⟨a, cap, rfl, _⟩ := h; rfl

end Go.Proofs.YtcihplachlokiaaGreatDoor
/- Ladders copied: toArm, toArmS. -/
namespace Go.Proofs.YtcihplachlokiaaGreatDoor
open Go.RowKit
set_option linter.unusedVariables false

theorem mem6 {a b c d e f : Value} (ha : a.oneCell' = true) (hb : b.oneCell' = true) (hc : c.oneCell' = true) (hd : d.oneCell' = true) (he : e.oneCell' = true) (hf : f.oneCell' = true) : ∀ x ∈ [a, b, c, d, e, f], x.oneCell' = true := by
  intro x hx
  simp at hx
  rcases hx with rfl | rfl | rfl | rfl | rfl | rfl <;> assumption
theorem mem4 {a b c d : Value} (ha : a.oneCell' = true) (hb : b.oneCell' = true) (hc : c.oneCell' = true) (hd : d.oneCell' = true) : ∀ x ∈ [a, b, c, d], x.oneCell' = true := by
  intro x hx
  simp at hx
  rcases hx with rfl | rfl | rfl | rfl <;> assumption

end Go.Proofs.YtcihplachlokiaaGreatDoor
/- Copies of ladders, with their room. -/
namespace Go.Proofs.YtcihplachlokiaaGreatDoor
open Go.RowKit
set_option linter.unusedVariables false

end Go.Proofs.YtcihplachlokiaaGreatDoor
/- Ladders that are owned: each row lies in a block of its own; the footprint is the list of these blocks. -/
namespace Go.Proofs.YtcihplachlokiaaGreatDoor
open Go.RowKit
set_option linter.unusedVariables false

/-- Elements one behind the other, of so many cells each, with the blocks that each of them owns. -/
inductive Each {α : Type} (R : List Nat → α → List Value → Prop) (z : Nat) : List Nat → List α → List Value → Prop
  | nil : Each R z [] [] []
  | add {F : List Nat} {xs : List α} {cs : List Value} {f : List Nat} {x : α} {c : List Value} (h : Each R z F xs cs) (hc : c.length = z) (hr : R f x c) : Each R z (F ++ f) (xs ++ [x]) (cs ++ c)
theorem Each.len {α : Type} {R : List Nat → α → List Value → Prop} {z : Nat} {F : List Nat} {xs : List α} {cs : List Value} (h : Each R z F xs cs) : cs.length = xs.length * z := by
  induction h with
  | nil => simp
  | add h hc hr ih => simp [ih, hc, Nat.add_mul]
theorem Each.move {α : Type} {R R' : List Nat → α → List Value → Prop} {z : Nat} {F : List Nat} {xs : List α} {cs : List Value} (h : Each R z F xs cs) (hR : ∀ f x c, f ⊆ F → R f x c → R' f x c) : Each R' z F xs cs := by
  induction h with
  | nil => exact .nil
  | add h hc hr ih => exact .add (ih fun f x c hf => hR f x c (fun b hb => List.mem_append_left _ (hf hb))) hc (hR _ _ _ (fun b hb => List.mem_append_right _ hb) hr)
theorem Each.at {α : Type} {R : List Nat → α → List Value → Prop} {z : Nat} {F : List Nat} {xs : List α} {cs : List Value} (h : Each R z F xs cs) : ∀ j x, xs[j]? = some x → ∃ f c F1 F2 cs1 cs2, F = F1 ++ f ++ F2 ∧ cs = cs1 ++ c ++ cs2 ∧ cs1.length = j * z ∧ c.length = z ∧ R f x c := by
  induction h with
  | nil => intro j x hx; simp at hx
  | @add F xs cs f y c h hc hr ih =>
    intro j x hx
    rcases Nat.lt_or_ge j xs.length with hj | hj
    · rw [List.getElem?_append_left hj] at hx
      obtain ⟨f', c', F1, F2, cs1, cs2, h1, h2, h3, h4, h5⟩ := ih j x hx
      exact ⟨f', c', F1, F2 ++ f, cs1, cs2 ++ c, by rw [h1]; simp, by rw [h2]; simp, h3, h4, h5⟩
    · rw [List.getElem?_append_right hj] at hx
      have hj0 : j = xs.length := by
        have := (List.getElem?_eq_some_iff.1 hx).1
        simp at this
        omega
      subst hj0
      simp at hx
      subst hx
      exact ⟨f, c, F, [], cs, [], by simp, by simp, h.len, hc, hr⟩
/-- A row of one's own whose elements own what they lead to. -/
def RowOwn {α : Type} (W : World) (base e z : Nat) (R : List Nat → α → List Value → Prop) (F : List Nat) (v : Value) (xs : List α) : Prop :=
  ∃ cs F', Each R z F' xs cs ∧ W.ownsRow base e z v xs.length cs ∧ F = v.ownBlock.toList ++ F'
theorem RowOwn.nil {α : Type} (W : World) (base e z : Nat) (R : List Nat → α → List Value → Prop) : RowOwn W base e z R [] (.slice none 0 0) ([] : List α) :=
  ⟨[], [], .nil, ⟨by simp, .inl ⟨rfl, rfl⟩⟩, rfl⟩
theorem RowOwn.move {α : Type} {W W' : World} {base e z : Nat} {R R' : List Nat → α → List Value → Prop} {F : List Nat} {v : Value} {xs : List α} {row : Option Nat} (h : RowOwn W base e z R F v xs) (hg : W.grownBy W' row) (hr : ∀ b ∈ F, some b ≠ row)
    (hR : ∀ f x c, (∀ b ∈ f, some b ≠ row) → R f x c → R' f x c) : RowOwn W' base e z R' F v xs := by
  obtain ⟨cs, F', h1, h2, rfl⟩ := h
  refine ⟨cs, F', h1.move fun f x c hf => hR f x c fun b hb => hr b (List.mem_append_right _ (hf hb)), h2.kept hg ?_, rfl⟩
  cases hv : v.ownBlock with
  | none => exact .inl rfl
  | some b => exact .inr (hr b (by rw [hv]; simp))
theorem RowOwn.lt {α : Type} {W : World} {base e z : Nat} {R : List Nat → α → List Value → Prop} {F : List Nat} {v : Value} {xs : List α} (h : RowOwn W base e z R F v xs)
    (hR : ∀ f x c, R f x c → ∀ b ∈ f, base ≤ b ∧ b < W.heap.size) : ∀ b ∈ F, base ≤ b ∧ b < W.heap.size := by
  obtain ⟨cs, F', h1, h2, rfl⟩ := h
  intro b hb
  rcases List.mem_append.1 hb with hb | hb
  · exact h2.lt b (by simpa using hb)
  · clear h2
    induction h1 with
    | nil => simp at hb
    | add h hc hr ih =>
      rcases List.mem_append.1 hb with hb | hb
      · exact ih (List.mem_append_right _ hb) hb
      · exact hR _ _ _ hr b hb
def ArgO (f : List Nat) (x : ArgT) (c : List Value) : Prop := f = [] ∧ ArgIs x c
abbrev ArgsOwn (W : World) (base : Nat) (F : List Nat) (v : Value) (xs : List ArgT) : Prop := RowOwn W base 72 3 ArgO F v xs
def ElemOwn (W : World) (base : Nat) (F : List Nat) (e : ElemT) (c : List Value) : Prop := ∃ v, c = [.int .i64 e.op, v] ∧ ArgsOwn W base F v e.args
end Go.Proofs.YtcihplachlokiaaGreatDoor
/- Owned ladders: what stays, what they are, and how a row grows. -/
namespace Go.Proofs.YtcihplachlokiaaGreatDoor
open Go.RowKit
set_option linter.unusedVariables false

theorem ArgsOwn.move {W W' : World} {base : Nat} {F : List Nat} {v : Value} {xs : List ArgT} {row : Option Nat} (h : ArgsOwn W base F v xs) (hg : W.grownBy W' row) (hr : ∀ b ∈ F, some b ≠ row) : ArgsOwn W' base F v xs := RowOwn.move h hg hr fun _ _ _ _ h => h
theorem ElemOwn.move {W W' : World} {base : Nat} {F : List Nat} {e : ElemT} {c : List Value} {row : Option Nat} (h : ElemOwn W base F e c) (hg : W.grownBy W' row) (hr : ∀ b ∈ F, some b ≠ row) : ElemOwn W' base F e c := by
  obtain ⟨v, hc, h1⟩ := h
  exact ⟨v, hc, ArgsOwn.move h1 hg hr⟩
theorem ArgsOwn.lt {W : World} {base : Nat} {F : List Nat} {v : Value} {xs : List ArgT} (h : ArgsOwn W base F v xs) : ∀ b ∈ F, base ≤ b ∧ b < W.heap.size := RowOwn.lt h fun f x c hf b hb => by rw [hf.1] at hb; simp at hb
theorem ElemOwn.lt {W : World} {base : Nat} {F : List Nat} {e : ElemT} {c : List Value} (h : ElemOwn W base F e c) : ∀ b ∈ F, base ≤ b ∧ b < W.heap.size := by
  obtain ⟨v, _, h1⟩ := h
  exact ArgsOwn.lt h1
/-- An owned row is a row. -/
theorem RowOwn.is {α : Type} {W : World} {base e z lo : Nat} {R : List Nat → α → List Value → Prop} {R' : α → List Value → Prop} {F : List Nat} {v : Value} {xs : List α} (h : RowOwn W base e z R F v xs) (hl : lo ≤ base) (hR : ∀ f x c, R f x c → R' x c) : RowIs W lo z R' v xs := by
  obtain ⟨cs, F', h1, h2, rfl⟩ := h
  rcases h2.2 with ⟨rfl, hn⟩ | ⟨g, cap, cur, rfl, hb, hg, hnc, hcm, hsz, hcur⟩
  · have : xs = [] := List.length_eq_zero_iff.1 hn
    subst this
    exact ⟨none, 0, rfl, by simp, fun j x hj => by simp at hj⟩
  · refine ⟨some ⟨g, 0, none⟩, cap, rfl, by unfold maxLen at hcm; omega, fun j x hj => ?_⟩
    obtain ⟨f, c, F1, F2, cs1, cs2, _, e2, e3, e4, hr⟩ := h1.at j x hj
    refine ⟨g, 0, c, rfl, by omega, e4, fun i u hi => ?_, hR f x c hr⟩
    have hc := h2.cells (g := g) rfl (j * z + i) u (by
      rw [e2, List.append_assoc, List.getElem?_append_right (by omega), e3, List.getElem?_append_left (by have := (List.getElem?_eq_some_iff.1 hi).1; omega)]
      rw [show j * z + i - j * z = i by omega]
      exact hi)
    have : (⟨g, 0, none⟩ : Addr).add (j * z + i) = ⟨g, 0 + j * z + i, none⟩ := by simp [Addr.add]; omega
    rw [this] at hc
    exact hc
theorem ArgsOwn.is {W : World} {base lo : Nat} {F : List Nat} {v : Value} {xs : List ArgT} (h : ArgsOwn W base F v xs) (hl : lo ≤ base) : ArgsIs W lo v xs := RowOwn.is h hl fun _ _ _ h => h.2
theorem ElemOwn.is {W : World} {base lo : Nat} {F : List Nat} {e : ElemT} {c : List Value} (h : ElemOwn W base F e c) (hl : lo ≤ base) : ElemIs W lo e c := by
  obtain ⟨v, hc, h1⟩ := h
  exact ⟨v, hc, ArgsOwn.is h1 hl⟩
/-- A row that has grown by one. -/
theorem RowOwn.push {α : Type} {W : World} {base e z g cap : Nat} {R : List Nat → α → List Value → Prop} {F f : List Nat} {xs : List α} {cs c : List Value} {x : α} (h1 : Each R z F xs cs) (hc : c.length = z) (hr : R f x c)
    (ho : W.ownsRow base e z (.slice (some ⟨g, 0, none⟩) (xs.length + 1) cap) (xs.length + 1) (cs ++ c)) : RowOwn W base e z R (g :: (F ++ f)) (.slice (some ⟨g, 0, none⟩) (xs.length + 1) cap) (xs ++ [x]) :=
  ⟨cs ++ c, F ++ f, .add h1 hc hr, by simpa using ho, rfl⟩
end Go.Proofs.YtcihplachlokiaaGreatDoor
