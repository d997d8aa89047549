/- Ladders in the memory: trees beside what the cells hold. -/
import Derived.Test.YtndfmgbdfcggmaaGreatDoorChecked
import Derived.Deep.MidRow
import Derived.Below
import Derived.WalkKit
import Derived.Test.YtndfmgbdfcggmaaGreatDoorMaM
import Derived.Deep.LoopGhost
import Derived.Laws.MakeOwn
import Derived.Laws.AppendOwn
import Derived.Laws.OwnMore
namespace Go.Proofs.YtndfmgbdfcggmaaGreatDoor
open Go.RowKit
set_option linter.unusedVariables false

abbrev ArgT := Int × Int × Int
structure ElemT where
  op : Int
  args : List ArgT
inductive NetT where
  | mk (kind : Int) (one : ElemT) (kids : List NetT)
inductive ArmT where
  | mk (net : NetT) (coils : List ElemT) (kids : List ArmT)

/-- A slice whose elements, of so many cells each, lie in the memory one behind the other, in a block from 'lo' on. -/
def RowIs {α : Type} (W : World) (lo z : Nat) (R : α → List Value → Prop) (v : Value) (xs : List α) : Prop :=
  ∃ (a : Option Addr) (cap : Nat), v = .slice a xs.length cap ∧ xs.length ≤ 9223372036854775807 ∧ ∀ j x, xs[j]? = some x → ∃ b o cs, a = some ⟨b, o, none⟩ ∧ lo ≤ b ∧ cs.length = z ∧ W.rangeAt b (o + j * z) cs ∧ R x cs
def ArgIs (x : ArgT) (cs : List Value) : Prop := cs = [.int .i64 x.1, .int .i64 x.2.1, .int .i64 x.2.2]
def ElemIs (W : World) (lo : Nat) (e : ElemT) (cs : List Value) : Prop := ∃ v, cs = [.int .i64 e.op, v] ∧ RowIs W lo 3 ArgIs v e.args
def NetIs (W : World) (lo : Nat) : Nat → NetT → List Value → Prop
  | 0, _, _ => False
  | n + 1, .mk k e kids, cs => ∃ v v', cs = [.int .i64 k, .int .i64 e.op, v, v'] ∧ RowIs W lo 3 ArgIs v e.args ∧ RowIs W lo 4 (NetIs W lo n) v' kids
def ArmIs (W : World) (lo : Nat) : Nat → ArmT → List Value → Prop
  | 0, _, _ => False
  | n + 1, .mk net coils kids, cs => ∃ ns v v', cs = ns ++ [v, v'] ∧ NetIs W lo n net ns ∧ RowIs W lo 2 (ElemIs W lo) v coils ∧ RowIs W lo 6 (ArmIs W lo n) v' kids

/-- What is read from 'lo' on is read as it was. -/
def Keeps (lo : Nat) (W W' : World) : Prop := ∀ b o v, lo ≤ b → W.cell? ⟨b, o, none⟩ = some v → W'.cell? ⟨b, o, none⟩ = some v
theorem Keeps.trans {lo : Nat} {W W' W'' : World} (h : Keeps lo W W') (h' : Keeps lo W' W'') : Keeps lo W W'' := fun b o v hb hc => h' b o v hb (h b o v hb hc)
theorem Keeps.of_below {W W' : World} (g : Below W.heap.size W W') (lo : Nat) : Keeps lo W W' := fun b o v _ h => (g.cell (p := ⟨b, o, none⟩) (World.block_lt_of_cell? _ _ h)).trans h
theorem Keeps.alloc {lo : Nat} (W : World) (o : Obj) : Keeps lo W (W.alloc o) := Keeps.of_below ((Below.refl _ _).alloc (Nat.le_refl _) _) lo

theorem RowIs.move {α : Type} {W W' : World} {lo lo' z : Nat} {R R' : α → List Value → Prop} {v : Value} {xs : List α} (k : Keeps lo W W') (hl : lo' ≤ lo) (hR : ∀ x cs, x ∈ xs → R x cs → R' x cs) (h : RowIs W lo z R v xs) : RowIs W' lo' z R' v xs := by
  obtain ⟨a, cap, hv, hlen, hx⟩ := h
  refine ⟨a, cap, hv, hlen, fun j x hj => ?_⟩
  obtain ⟨b, o, cs, ha, hb, hc, hr, hRx⟩ := hx j x hj
  exact ⟨b, o, cs, ha, by omega, hc, fun i c hi => k _ _ _ hb (hr i c hi), hR x cs (List.mem_of_getElem? hj) hRx⟩
abbrev ArgsIs (W : World) (lo : Nat) (v : Value) (xs : List ArgT) : Prop := RowIs W lo 3 ArgIs v xs
abbrev ElemsIs (W : World) (lo : Nat) (v : Value) (xs : List ElemT) : Prop := RowIs W lo 2 (ElemIs W lo) v xs
abbrev NetsIs (W : World) (lo n : Nat) (v : Value) (xs : List NetT) : Prop := RowIs W lo 4 (NetIs W lo n) v xs
abbrev ArmsIs (W : World) (lo n : Nat) (v : Value) (xs : List ArmT) : Prop := RowIs W lo 6 (ArmIs W lo n) v xs
theorem argsIs_move {W W' : World} {lo lo' : Nat} (k : Keeps lo W W') (hl : lo' ≤ lo) {v : Value} {xs : List ArgT} (h : ArgsIs W lo v xs) : ArgsIs W' lo' v xs := h.move k hl fun _ _ _ h => h
end Go.Proofs.YtndfmgbdfcggmaaGreatDoor
/- How much there is in a ladder: the laws' sz.. functions. -/
namespace Go.Proofs.YtndfmgbdfcggmaaGreatDoor
open Go.RowKit
set_option linter.unusedVariables false

theorem RowIs.one {α : Type} {W : World} {lo z : Nat} {R : α → List Value → Prop} {v : Value} {xs : List α} (h : RowIs W lo z R v xs) : v.oneCell' = true := by
  obtain ⟨a, cap, rfl, _⟩ := h; rfl

end Go.Proofs.YtndfmgbdfcggmaaGreatDoor
/- Ladders copied: the laws' to.. functions. -/
namespace Go.Proofs.YtndfmgbdfcggmaaGreatDoor
open Go.RowKit
set_option linter.unusedVariables false

section
variable {P : Program}
theorem store_one {w : World} {g : Nat} {t : TypeId} {C : Array Value} (h : w.heap[g]? = some (.cells C t (0, 0))) (ty : TypeId) (o : Nat) (v : Value) (hn : o < C.size)
    (hi : (P.info? ty).map (·.size) = some 1) (hv : v.cells = #[v]) (h1 : v.oneCell' = true) :
    (storeVar ty ⟨g, o, none⟩ v).run P w = .ok () (w.setRow g (putAt C o [v])) := by
  rw [← setCells_row g t [v] o C w h]
  have ht := there_row h o 1 (by omega)
  have := run_storeCells_cells (P := P) g o [v] 0 w (fun j hj => by simpa using (ht j (by simpa using hj)).1) (fun j hj => by simpa using (ht j (by simpa using hj)).2)
    (fun x hx => by simp at hx; rw [hx]; exact h1)
  cases hq : P.info? ty with
  | none => simp [hq] at hi
  | some i =>
    have hs : 1 = i.size := by simp [hq] at hi; omega
    simp only [Nat.add_zero] at this
    simp [storeVar, sizeOf, typeInfo, hq, hv, ← hs, this]
end

theorem all_one (ds : List Value) (h : ∀ d ∈ ds, d.oneCell' = true) : ds.toArray.all (·.oneCell') = true := by simp; exact h
end Go.Proofs.YtndfmgbdfcggmaaGreatDoor
/- Ladders copied: toArm, toArmS. -/
namespace Go.Proofs.YtndfmgbdfcggmaaGreatDoor
open Go.RowKit
set_option linter.unusedVariables false

end Go.Proofs.YtndfmgbdfcggmaaGreatDoor
/- Copies of ladders, with their room. -/
namespace Go.Proofs.YtndfmgbdfcggmaaGreatDoor
open Go.RowKit
set_option linter.unusedVariables false

end Go.Proofs.YtndfmgbdfcggmaaGreatDoor
/- Ladders that are owned: each row lies in a block of its own; the footprint is the list of these blocks. -/
namespace Go.Proofs.YtndfmgbdfcggmaaGreatDoor
open Go.RowKit
set_option linter.unusedVariables false

/-- Elements one behind the other, of so many cells each, with the blocks that each of them owns. -/
inductive Each {α : Type} (R : List Nat → α → List Value → Prop) (z : Nat) : List Nat → List α → List Value → Prop
  | nil : Each R z [] [] []
  | add {F : List Nat} {xs : List α} {cs : List Value} {f : List Nat} {x : α} {c : List Value} (h : Each R z F xs cs) (hc : c.length = z) (hr : R f x c) : Each R z (F ++ f) (xs ++ [x]) (cs ++ c)
theorem Each.len {α : Type} {R : List Nat → α → List Value → Prop} {z : Nat} {F : List Nat} {xs : List α} {cs : List Value} (h : Each R z F xs cs) : cs.length = xs.length * z := by
  induction h with
  | nil => simp
  | add h hc hr ih => simp [ih, hc, Nat.add_mul]
theorem Each.move {α : Type} {R R' : List Nat → α → List Value → Prop} {z : Nat} {F : List Nat} {xs : List α} {cs : List Value} (h : Each R z F xs cs) (hR : ∀ f x c, f ⊆ F → R f x c → R' f x c) : Each R' z F xs cs := by
  induction h with
  | nil => exact .nil
  | add h hc hr ih => exact .add (ih fun f x c hf => hR f x c (fun b hb => List.mem_append_left _ (hf hb))) hc (hR _ _ _ (fun b hb => List.mem_append_right _ hb) hr)
theorem Each.at {α : Type} {R : List Nat → α → List Value → Prop} {z : Nat} {F : List Nat} {xs : List α} {cs : List Value} (h : Each R z F xs cs) : ∀ j x, xs[j]? = some x → ∃ f c F1 F2 cs1 cs2, F = F1 ++ f ++ F2 ∧ cs = cs1 ++ c ++ cs2 ∧ cs1.length = j * z ∧ c.length = z ∧ R f x c := by
  induction h with
  | nil => intro j x hx; simp at hx
  | @add F xs cs f y c h hc hr ih =>
    intro j x hx
    rcases Nat.lt_or_ge j xs.length with hj | hj
    · rw [List.getElem?_append_left hj] at hx
      obtain ⟨f', c', F1, F2, cs1, cs2, h1, h2, h3, h4, h5⟩ := ih j x hx
      exact ⟨f', c', F1, F2 ++ f, cs1, cs2 ++ c, by rw [h1]; simp, by rw [h2]; simp, h3, h4, h5⟩
    · rw [List.getElem?_append_right hj] at hx
      have hj0 : j = xs.length := by
        have := (List.getElem?_eq_some_iff.1 hx).1
        simp at this
        omega
      subst hj0
      simp at hx
      subst hx
      exact ⟨f, c, F, [], cs, [], by simp, by simp, h.len, hc, hr⟩
/-- A row of one's own whose elements own what they lead to. -/
def RowOwn {α : Type} (W : World) (base e z : Nat) (R : List Nat → α → List Value → Prop) (F : List Nat) (v : Value) (xs : List α) : Prop :=
  ∃ cs F', Each R z F' xs cs ∧ W.ownsRow base e z v xs.length cs ∧ F = v.ownBlock.toList ++ F'
theorem RowOwn.nil {α : Type} (W : World) (base e z : Nat) (R : List Nat → α → List Value → Prop) : RowOwn W base e z R [] (.slice none 0 0) ([] : List α) :=
  ⟨[], [], .nil, ⟨by simp, .inl ⟨rfl, rfl⟩⟩, rfl⟩
theorem RowOwn.move {α : Type} {W W' : World} {base e z : Nat} {R R' : List Nat → α → List Value → Prop} {F : List Nat} {v : Value} {xs : List α} {row : Option Nat} (h : RowOwn W base e z R F v xs) (hg : W.grownBy W' row) (hr : ∀ b ∈ F, some b ≠ row)
    (hR : ∀ f x c, (∀ b ∈ f, some b ≠ row) → R f x c → R' f x c) : RowOwn W' base e z R' F v xs := by
  obtain ⟨cs, F', h1, h2, rfl⟩ := h
  refine ⟨cs, F', h1.move fun f x c hf => hR f x c fun b hb => hr b (List.mem_append_right _ (hf hb)), h2.kept hg ?_, rfl⟩
  cases hv : v.ownBlock with
  | none => exact .inl rfl
  | some b => exact .inr (hr b (by rw [hv]; simp))
theorem RowOwn.lt {α : Type} {W : World} {base e z : Nat} {R : List Nat → α → List Value → Prop} {F : List Nat} {v : Value} {xs : List α} (h : RowOwn W base e z R F v xs)
    (hR : ∀ f x c, R f x c → ∀ b ∈ f, base ≤ b ∧ b < W.heap.size) : ∀ b ∈ F, base ≤ b ∧ b < W.heap.size := by
  obtain ⟨cs, F', h1, h2, rfl⟩ := h
  intro b hb
  rcases List.mem_append.1 hb with hb | hb
  · exact h2.lt b (by simpa using hb)
  · clear h2
    induction h1 with
    | nil => simp at hb
    | add h hc hr ih =>
      rcases List.mem_append.1 hb with hb | hb
      · exact ih (List.mem_append_right _ hb) hb
      · exact hR _ _ _ hr b hb
def ArgO (f : List Nat) (x : ArgT) (c : List Value) : Prop := f = [] ∧ ArgIs x c
abbrev ArgsOwn (W : World) (base : Nat) (F : List Nat) (v : Value) (xs : List ArgT) : Prop := RowOwn W base 76 3 ArgO F v xs
end Go.Proofs.YtndfmgbdfcggmaaGreatDoor
/- Owned ladders: what stays, what they are, and how a row grows. -/
namespace Go.Proofs.YtndfmgbdfcggmaaGreatDoor
open Go.RowKit
set_option linter.unusedVariables false

theorem ArgsOwn.move {W W' : World} {base : Nat} {F : List Nat} {v : Value} {xs : List ArgT} {row : Option Nat} (h : ArgsOwn W base F v xs) (hg : W.grownBy W' row) (hr : ∀ b ∈ F, some b ≠ row) : ArgsOwn W' base F v xs := RowOwn.move h hg hr fun _ _ _ _ h => h
theorem ArgsOwn.lt {W : World} {base : Nat} {F : List Nat} {v : Value} {xs : List ArgT} (h : ArgsOwn W base F v xs) : ∀ b ∈ F, base ≤ b ∧ b < W.heap.size := RowOwn.lt h fun f x c hf b hb => by rw [hf.1] at hb; simp at hb
/-- An owned row is a row. -/
theorem RowOwn.is {α : Type} {W : World} {base e z lo : Nat} {R : List Nat → α → List Value → Prop} {R' : α → List Value → Prop} {F : List Nat} {v : Value} {xs : List α} (h : RowOwn W base e z R F v xs) (hl : lo ≤ base) (hR : ∀ f x c, R f x c → R' x c) : RowIs W lo z R' v xs := by
  obtain ⟨cs, F', h1, h2, rfl⟩ := h
  rcases h2.2 with ⟨rfl, hn⟩ | ⟨g, cap, cur, rfl, hb, hg, hnc, hcm, hsz, hcur⟩
  · have : xs = [] := List.length_eq_zero_iff.1 hn
    subst this
    exact ⟨none, 0, rfl, by simp, fun j x hj => by simp at hj⟩
  · refine ⟨some ⟨g, 0, none⟩, cap, rfl, by unfold maxLen at hcm; omega, fun j x hj => ?_⟩
    obtain ⟨f, c, F1, F2, cs1, cs2, _, e2, e3, e4, hr⟩ := h1.at j x hj
    refine ⟨g, 0, c, rfl, by omega, e4, fun i u hi => ?_, hR f x c hr⟩
    have hc := h2.cells (g := g) rfl (j * z + i) u (by
      rw [e2, List.append_assoc, List.getElem?_append_right (by omega), e3, List.getElem?_append_left (by have := (List.getElem?_eq_some_iff.1 hi).1; omega)]
      rw [show j * z + i - j * z = i by omega]
      exact hi)
    have : (⟨g, 0, none⟩ : Addr).add (j * z + i) = ⟨g, 0 + j * z + i, none⟩ := by simp [Addr.add]; omega
    rw [this] at hc
    exact hc
theorem ArgsOwn.is {W : World} {base lo : Nat} {F : List Nat} {v : Value} {xs : List ArgT} (h : ArgsOwn W base F v xs) (hl : lo ≤ base) : ArgsIs W lo v xs := RowOwn.is h hl fun _ _ _ h => h.2
/-- A row that has grown by one. -/
theorem RowOwn.push {α : Type} {W : World} {base e z g cap : Nat} {R : List Nat → α → List Value → Prop} {F f : List Nat} {xs : List α} {cs c : List Value} {x : α} (h1 : Each R z F xs cs) (hc : c.length = z) (hr : R f x c)
    (ho : W.ownsRow base e z (.slice (some ⟨g, 0, none⟩) (xs.length + 1) cap) (xs.length + 1) (cs ++ c)) : RowOwn W base e z R (g :: (F ++ f)) (.slice (some ⟨g, 0, none⟩) (xs.length + 1) cap) (xs ++ [x]) :=
  ⟨cs ++ c, F ++ f, .add h1 hc hr, by simpa using ho, rfl⟩
end Go.Proofs.YtndfmgbdfcggmaaGreatDoor
