/- Walks of DevIsBit, DevIsWhole and DevIsReal, and the laws FnExactDevOk, FnExactDevIsBit, FnExactDevIsWhole, FnExactDevIsReal. -/
import Derived.Test.YtjogmhicehlboaaDaM
import Derived.Deep.WholeRow
import Derived.Great.Walk
import Derived.Laws.CopyOwn
import Derived.Laws.EntriesVeiled
namespace Go.Proofs.Ytjogmhicehlboaa
open Go.RowKit
set_option linter.unusedVariables false

theorem ok_cases {k n p : Int} (h : okA k n p = true) : k = 1 ∨ k = 2 ∨ k = 3 ∨ k = 4 ∨ k = 5 ∨ k = 6 ∨ k = 7 ∨ k = 8 ∨ k = 9 ∨ k = 10 ∨ k = 11 ∨ k = 12 ∨ k = 13 := by
  by_cases h0 : k ≤ 0 ∨ 14 ≤ k
  · have e : okA k n p = decide (0 ≤ n ∧ n < kS k ∧ p = 0) := by
      unfold okA
      rw [if_neg (by omega), if_neg (by omega), if_neg (by omega)]
    rw [e, kS_out k (by omega)] at h
    simp at h
    omega
  · omega

end Go.Proofs.Ytjogmhicehlboaa
/- Contacts and coils: the table of rules. -/
namespace Go.Proofs.Ytjogmhicehlboaa
open Go.RowKit
set_option linter.unusedVariables false

/-- What stands ahead of the operands. -/
def ahd (op : Int) : ByteArray := if op = 1 then ⟨#[]⟩ else if op = 2 then ⟨#[47]⟩ else if op = 3 then ⟨#[43]⟩ else if op = 4 then ⟨#[45]⟩ else if op = 5 then ⟨#[]⟩ else if op = 6 then ⟨#[]⟩ else if op = 7 then ⟨#[]⟩ else if op = 8 then ⟨#[]⟩ else if op = 9 then ⟨#[]⟩ else if op = 10 then ⟨#[]⟩ else if op = 21 then ⟨#[111, 117, 116, 58]⟩ else if op = 22 then ⟨#[115, 101, 116, 58]⟩ else if op = 23 then ⟨#[114, 101, 115, 101, 116, 58]⟩ else if op = 24 then ⟨#[112, 117, 108, 115, 101, 58]⟩ else if op = 25 then ⟨#[115, 116, 101, 112, 58]⟩ else if op = 26 then ⟨#[116, 105, 109, 101, 114, 58]⟩ else if op = 27 then ⟨#[104, 111, 108, 100, 58]⟩ else if op = 28 then ⟨#[108, 97, 116, 101, 58]⟩ else if op = 29 then ⟨#[99, 111, 117, 110, 116, 58]⟩ else if op = 30 then ⟨#[109, 111, 118, 101, 58]⟩ else if op = 31 then ⟨#[97, 100, 100, 58]⟩ else if op = 32 then ⟨#[115, 117, 98, 58]⟩ else if op = 33 then ⟨#[109, 117, 108, 58]⟩ else if op = 34 then ⟨#[100, 105, 118, 58]⟩ else if op = 35 then ⟨#[114, 101, 109, 58]⟩ else if op = 36 then ⟨#[114, 101, 97, 108, 58]⟩ else if op = 37 then ⟨#[119, 104, 111, 108, 101, 58]⟩ else ⟨#[]⟩
/-- What stands between them. -/
def btw (op : Int) : ByteArray := if op = 1 then ⟨#[]⟩ else if op = 2 then ⟨#[]⟩ else if op = 3 then ⟨#[58]⟩ else if op = 4 then ⟨#[58]⟩ else if op = 5 then ⟨#[60]⟩ else if op = 6 then ⟨#[60, 61]⟩ else if op = 7 then ⟨#[61]⟩ else if op = 8 then ⟨#[60, 62]⟩ else if op = 9 then ⟨#[62, 61]⟩ else if op = 10 then ⟨#[62]⟩ else if op = 21 then ⟨#[]⟩ else if op = 22 then ⟨#[]⟩ else if op = 23 then ⟨#[]⟩ else if op = 24 then ⟨#[44]⟩ else if op = 25 then ⟨#[]⟩ else if op = 26 then ⟨#[44]⟩ else if op = 27 then ⟨#[44]⟩ else if op = 28 then ⟨#[44]⟩ else if op = 29 then ⟨#[44]⟩ else if op = 30 then ⟨#[44]⟩ else if op = 31 then ⟨#[44]⟩ else if op = 32 then ⟨#[44]⟩ else if op = 33 then ⟨#[44]⟩ else if op = 34 then ⟨#[44]⟩ else if op = 35 then ⟨#[44]⟩ else if op = 36 then ⟨#[44]⟩ else if op = 37 then ⟨#[44]⟩ else ⟨#[]⟩
/-- The places that are asked for. -/
def ndP (op : Int) : List Nat := if op = 1 then [1] else if op = 2 then [1] else if op = 3 then [1, 2] else if op = 4 then [1, 2] else if op = 5 then [3, 3] else if op = 6 then [3, 3] else if op = 7 then [3, 3] else if op = 8 then [3, 3] else if op = 9 then [3, 3] else if op = 10 then [3, 3] else if op = 21 then [5] else if op = 22 then [6] else if op = 23 then [7] else if op = 24 then [5, 2] else if op = 25 then [8] else if op = 26 then [9, 10] else if op = 27 then [9, 10] else if op = 28 then [9, 10] else if op = 29 then [11, 10] else if op = 30 then [12, 3] else if op = 31 then [12, 3, 3] else if op = 32 then [12, 3, 3] else if op = 33 then [12, 3, 3] else if op = 34 then [12, 3, 3] else if op = 35 then [12, 3, 3] else if op = 36 then [13, 3] else if op = 37 then [12, 4] else []
def orP (op : Int) : List Nat := if op = 1 then [] else if op = 2 then [] else if op = 3 then [] else if op = 4 then [] else if op = 5 then [4, 4] else if op = 6 then [4, 4] else if op = 7 then [4, 4] else if op = 8 then [4, 4] else if op = 9 then [4, 4] else if op = 10 then [4, 4] else if op = 21 then [] else if op = 22 then [] else if op = 23 then [] else if op = 24 then [] else if op = 25 then [] else if op = 26 then [] else if op = 27 then [] else if op = 28 then [] else if op = 29 then [] else if op = 30 then [13, 4] else if op = 31 then [13, 4, 4] else if op = 32 then [13, 4, 4] else if op = 33 then [13, 4, 4] else if op = 34 then [13, 4, 4] else if op = 35 then [] else if op = 36 then [] else if op = 37 then [] else []
/-- Operations that only build values, run one behind the other. -/
def runB (P : Program) : List Oper → Act → Option Act
  | [], a => some a
  | o :: r, a =>
    match o.op with
    | .build t parts =>
      match o.guard with
      | none => (P.built t (parts.map fun (i, x) => (i, a.eval x)).toList).bind fun c => runB P r (a.put o.dst (.agg c))
      | some _ => none
    | _ => none

theorem wpList_runB {P : Program} {ops : Array Oper} {Q : Exit → Act → World → Prop} (rest : List Oper) (w : World) : ∀ (l : List Oper) (a a' : Act), runB P l a = some a' → wpList P ops Q rest a' w → wpList P ops Q (l ++ rest) a w
  | [], a, a', h, hw => by
    obtain rfl := Option.some.inj h
    exact hw
  | o :: r, a, a', h, hw => by
    unfold runB at h
    split at h
    · rename_i t parts ho
      split at h
      · rename_i hg
        obtain ⟨c, hc, hr⟩ := Option.bind_eq_some_iff.1 h
        exact wpList_buildTo hg t parts ho o.dst rfl c hc (wpList_runB rest w r _ a' hr hw)
      · cases h
    · cases h

theorem wpList_takeB {P : Program} {ops : Array Oper} {Q : Exit → Act → World → Prop} (n : Nat) (L : List Oper) (w : World) (a a' : Act) (h : runB P (L.take n) a = some a') (hw : wpList P ops Q (L.drop n) a' w) : wpList P ops Q L a w := by
  have := wpList_runB (L.drop n) w (L.take n) a a' h hw
  rwa [List.take_append_drop] at this

theorem wpList_takeK {P : Program} {ops : Array Oper} {Q : Exit → Act → World → Prop} (n : Nat) (L : List Oper) (w : World) (a : Act) (p v : Value) (x y : Operand)
    (h : ((runB P (L.take n) a).map fun a' => (a'.eval x, a'.eval y, a'.defers)) = some (p, v, []))
    (hw : ∀ a' : Act, a'.eval x = p → a'.eval y = v → a'.defers = [] → wpList P ops Q (L.drop n) a' w) : wpList P ops Q L a w := by
  obtain ⟨a', ha, he⟩ := Option.map_eq_some_iff.1 h
  simp only [Prod.mk.injEq] at he
  exact wpList_takeB n L w a a' ha (hw a' he.1 he.2.1 he.2.2)

end Go.Proofs.Ytjogmhicehlboaa

/- The rule of an Op; how many places it has. -/
namespace Go.Proofs.Ytjogmhicehlboaa
open Go.RowKit
set_option linter.unusedVariables false

theorem c38 (i : Nat) (h : i < 38) : i = 0 ∨ i = 1 ∨ i = 2 ∨ i = 3 ∨ i = 4 ∨ i = 5 ∨ i = 6 ∨ i = 7 ∨ i = 8 ∨ i = 9 ∨ i = 10 ∨ i = 11 ∨ i = 12 ∨ i = 13 ∨ i = 14 ∨ i = 15 ∨ i = 16 ∨ i = 17 ∨ i = 18 ∨ i = 19 ∨ i = 20 ∨ i = 21 ∨ i = 22 ∨ i = 23 ∨ i = 24 ∨ i = 25 ∨ i = 26 ∨ i = 27 ∨ i = 28 ∨ i = 29 ∨ i = 30 ∨ i = 31 ∨ i = 32 ∨ i = 33 ∨ i = 34 ∨ i = 35 ∨ i = 36 ∨ i = 37 := by omega
theorem pc (c : Nat) : (c = 0 ∨ 14 ≤ c) ∨ c = 1 ∨ c = 2 ∨ c = 3 ∨ c = 4 ∨ c = 5 ∨ c = 6 ∨ c = 7 ∨ c = 8 ∨ c = 9 ∨ c = 10 ∨ c = 11 ∨ c = 12 ∨ c = 13 := by omega
theorem out_all (op : Int) (h : op < 0 ∨ 38 ≤ op) : ahd op = ⟨#[]⟩ ∧ btw op = ⟨#[]⟩ ∧ ndP op = [] ∧ orP op = [] := by
  refine ⟨?_, ?_, ?_, ?_⟩
  · unfold ahd; repeat rw [if_neg (by omega)]
  · unfold btw; repeat rw [if_neg (by omega)]
  · unfold ndP; repeat rw [if_neg (by omega)]
  · unfold orP; repeat rw [if_neg (by omega)]

end Go.Proofs.Ytjogmhicehlboaa
