/- Ladders in the memory: trees beside what the cells hold. -/
import Derived.Test.YtcihplachlokiaaGreatDoorChecked
import Derived.Deep.MidRow
import Derived.Below
import Derived.WalkKit
namespace Go.Proofs.YtcihplachlokiaaGreatDoor
open Go.RowKit
set_option linter.unusedVariables false

abbrev ArgT := Int × Int × Int
structure ElemT where
  op : Int
  args : List ArgT
inductive NetT where
  | mk (kind : Int) (one : ElemT) (kids : List NetT)
inductive ArmT where
  | mk (net : NetT) (coils : List ElemT) (kids : List ArmT)

/-- A slice whose elements, of so many cells each, lie in the memory one behind the other, in a block from 'lo' on. -/
def RowIs {α : Type} (W : World) (lo z : Nat) (R : α → List Value → Prop) (v : Value) (xs : List α) : Prop :=
  ∃ (a : Option Addr) (cap : Nat), v = .slice a xs.length cap ∧ xs.length ≤ 9223372036854775807 ∧ ∀ j x, xs[j]? = some x → ∃ b o cs, a = some ⟨b, o, none⟩ ∧ lo ≤ b ∧ cs.length = z ∧ W.rangeAt b (o + j * z) cs ∧ R x cs
def ArgIs (x : ArgT) (cs : List Value) : Prop := cs = [.int .i64 x.1, .int .i64 x.2.1, .int .i64 x.2.2]
def ElemIs (W : World) (lo : Nat) (e : ElemT) (cs : List Value) : Prop := ∃ v, cs = [.int .i64 e.op, v] ∧ RowIs W lo 3 ArgIs v e.args
def NetIs (W : World) (lo : Nat) : Nat → NetT → List Value → Prop
  | 0, _, _ => False
  | n + 1, .mk k e kids, cs => ∃ v v', cs = [.int .i64 k, .int .i64 e.op, v, v'] ∧ RowIs W lo 3 ArgIs v e.args ∧ RowIs W lo 4 (NetIs W lo n) v' kids
def ArmIs (W : World) (lo : Nat) : Nat → ArmT → List Value → Prop
  | 0, _, _ => False
  | n + 1, .mk net coils kids, cs => ∃ ns v v', cs = ns ++ [v, v'] ∧ NetIs W lo n net ns ∧ RowIs W lo 2 (ElemIs W lo) v coils ∧ RowIs W lo 6 (ArmIs W lo n) v' kids

/-- What is read from 'lo' on is read as it was. -/
def Keeps (lo : Nat) (W W' : World) : Prop := ∀ b o v, lo ≤ b → W.cell? ⟨b, o, none⟩ = some v → W'.cell? ⟨b, o, none⟩ = some v
theorem Keeps.refl (lo : Nat) (W : World) : Keeps lo W W := fun _ _ _ _ h => h
theorem Keeps.trans {lo : Nat} {W W' W'' : World} (h : Keeps lo W W') (h' : Keeps lo W' W'') : Keeps lo W W'' := fun b o v hb hc => h' b o v hb (h b o v hb hc)
theorem Keeps.of_below {W W' : World} (g : Below W.heap.size W W') (lo : Nat) : Keeps lo W W' := fun b o v _ h => (g.cell (p := ⟨b, o, none⟩) (World.block_lt_of_cell? _ _ h)).trans h
theorem Keeps.mono {lo lo' : Nat} {W W' : World} (h : Keeps lo W W') (hl : lo ≤ lo') : Keeps lo' W W' := fun b o v hb => h b o v (by omega)
theorem Keeps.setRow {lo : Nat} (W : World) (g : Nat) (D : Array Value) (hg : g < lo) : Keeps lo W (W.setRow g D) := fun b o v hb h => by
  rw [← h]
  unfold World.cell?
  rw [setRow_other _ _ _ _ (by show _ ≠ _; simp; omega)]
theorem Keeps.setCell {lo : Nat} (W : World) (g f : Nat) (x : Value) (hg : g < lo) : Keeps lo W (W.setCell ⟨g, f, none⟩ x) := fun b o v hb h => by
  rw [← h]
  exact World.cell?_setCell_other _ _ _ _ (by simp <;> omega)
theorem Keeps.alloc {lo : Nat} (W : World) (o : Obj) : Keeps lo W (W.alloc o) := Keeps.of_below ((Below.refl _ _).alloc (Nat.le_refl _) _) lo

theorem RowIs.move {α : Type} {W W' : World} {lo lo' z : Nat} {R R' : α → List Value → Prop} {v : Value} {xs : List α} (k : Keeps lo W W') (hl : lo' ≤ lo) (hR : ∀ x cs, x ∈ xs → R x cs → R' x cs) (h : RowIs W lo z R v xs) : RowIs W' lo' z R' v xs := by
  obtain ⟨a, cap, hv, hlen, hx⟩ := h
  refine ⟨a, cap, hv, hlen, fun j x hj => ?_⟩
  obtain ⟨b, o, cs, ha, hb, hc, hr, hRx⟩ := hx j x hj
  exact ⟨b, o, cs, ha, by omega, hc, fun i c hi => k _ _ _ hb (hr i c hi), hR x cs (List.mem_of_getElem? hj) hRx⟩
theorem ElemIs.move {W W' : World} {lo lo' : Nat} (k : Keeps lo W W') (hl : lo' ≤ lo) {e : ElemT} {cs : List Value} (h : ElemIs W lo e cs) : ElemIs W' lo' e cs := by
  obtain ⟨v, hc, hr⟩ := h
  exact ⟨v, hc, hr.move k hl fun _ _ _ h => h⟩
theorem NetIs.move {W W' : World} {lo lo' : Nat} (k : Keeps lo W W') (hl : lo' ≤ lo) : ∀ (n m : Nat), n ≤ m → ∀ (t : NetT) (cs : List Value), NetIs W lo n t cs → NetIs W' lo' m t cs
  | 0, _, _, _, _, h => h.elim
  | n + 1, m + 1, hm, .mk k' e kids, cs, h => by
    obtain ⟨v, v', hc, h1, h2⟩ := h
    exact ⟨v, v', hc, h1.move k hl fun _ _ _ h => h, h2.move k hl fun x cs _ h => NetIs.move k hl n m (by omega) x cs h⟩
  | n + 1, 0, hm, _, _, _ => by omega
theorem ArmIs.move {W W' : World} {lo lo' : Nat} (k : Keeps lo W W') (hl : lo' ≤ lo) : ∀ (n m : Nat), n ≤ m → ∀ (t : ArmT) (cs : List Value), ArmIs W lo n t cs → ArmIs W' lo' m t cs
  | 0, _, _, _, _, h => h.elim
  | n + 1, m + 1, hm, .mk net coils kids, cs, h => by
    obtain ⟨ns, v, v', hc, h1, h2, h3⟩ := h
    exact ⟨ns, v, v', hc, NetIs.move k hl n m (by omega) _ _ h1, h2.move k hl fun _ _ _ h => h.move k hl, h3.move k hl fun x cs _ h => ArmIs.move k hl n m (by omega) x cs h⟩
  | n + 1, 0, hm, _, _, _ => by omega

abbrev ArgsIs (W : World) (lo : Nat) (v : Value) (xs : List ArgT) : Prop := RowIs W lo 3 ArgIs v xs
abbrev ElemsIs (W : World) (lo : Nat) (v : Value) (xs : List ElemT) : Prop := RowIs W lo 2 (ElemIs W lo) v xs
abbrev NetsIs (W : World) (lo n : Nat) (v : Value) (xs : List NetT) : Prop := RowIs W lo 4 (NetIs W lo n) v xs
abbrev ArmsIs (W : World) (lo n : Nat) (v : Value) (xs : List ArmT) : Prop := RowIs W lo 6 (ArmIs W lo n) v xs
theorem argsIs_move {W W' : World} {lo lo' : Nat} (k : Keeps lo W W') (hl : lo' ≤ lo) {v : Value} {xs : List ArgT} (h : ArgsIs W lo v xs) : ArgsIs W' lo' v xs := h.move k hl fun _ _ _ h => h
theorem elemsIs_move {W W' : World} {lo lo' : Nat} (k : Keeps lo W W') (hl : lo' ≤ lo) {v : Value} {xs : List ElemT} (h : ElemsIs W lo v xs) : ElemsIs W' lo' v xs := h.move k hl fun _ _ _ h => h.move k hl
theorem netsIs_move {W W' : World} {lo lo' n m : Nat} (k : Keeps lo W W') (hl : lo' ≤ lo) (hn : n ≤ m) {v : Value} {xs : List NetT} (h : NetsIs W lo n v xs) : NetsIs W' lo' m v xs := h.move k hl fun x cs _ h => NetIs.move k hl n m hn x cs h
theorem armsIs_move {W W' : World} {lo lo' n m : Nat} (k : Keeps lo W W') (hl : lo' ≤ lo) (hn : n ≤ m) {v : Value} {xs : List ArmT} (h : ArmsIs W lo n v xs) : ArmsIs W' lo' m v xs := h.move k hl fun x cs _ h => ArmIs.move k hl n m hn x cs h

/-- How many operands, elements, nets and arms there are in all. -/
def wE (e : ElemT) : Nat := e.args.length
def wN : Nat → NetT → Nat
  | 0, _ => 0
  | n + 1, .mk _ e kids => wE e + (kids.length + (kids.map (wN n)).sum)
def wA : Nat → ArmT → Nat
  | 0, _ => 0
  | n + 1, .mk net coils kids => wN n net + (coils.length + (coils.map wE).sum) + (kids.length + (kids.map (wA n)).sum)
theorem sum_mem {α : Type} (f : α → Nat) : ∀ (xs : List α) (x : α), x ∈ xs → f x ≤ (xs.map f).sum
  | y :: ys, x, h => by
    simp only [List.map_cons, List.sum_cons]
    rcases List.mem_cons.1 h with rfl | h
    · omega
    · have := sum_mem f ys x h; omega
theorem sum_take {α : Type} (f : α → Nat) (xs : List α) (i : Nat) (x : α) (h : xs[i]? = some x) : ((xs.take (i + 1)).map f).sum = ((xs.take i).map f).sum + f x := by
  rw [List.take_add_one, h]
  simp
theorem sum_take_le {α : Type} (f : α → Nat) : ∀ (xs : List α) (i : Nat), ((xs.take i).map f).sum ≤ (xs.map f).sum
  | [], i => by simp
  | y :: ys, 0 => by simp
  | y :: ys, i + 1 => by
    have := sum_take_le f ys i
    simp only [List.take_succ_cons, List.map_cons, List.sum_cons]; omega
end Go.Proofs.YtcihplachlokiaaGreatDoor
