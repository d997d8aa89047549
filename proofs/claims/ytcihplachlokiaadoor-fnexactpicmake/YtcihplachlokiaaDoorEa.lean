/- Contacts and coils: the table of rules. -/
import Derived.Test.YtcihplachlokiaaDoorDg
import Derived.Deep.WholeRow
import Derived.Great.Walk
namespace Go.Proofs.YtcihplachlokiaaDoor
open Go.RowKit
set_option linter.unusedVariables false

/-- What stands ahead of the operands. -/
def ahd (op : Int) : ByteArray := if op = 1 then ⟨#[]⟩ else if op = 2 then ⟨#[47]⟩ else if op = 3 then ⟨#[43]⟩ else if op = 4 then ⟨#[45]⟩ else if op = 5 then ⟨#[]⟩ else if op = 6 then ⟨#[]⟩ else if op = 7 then ⟨#[]⟩ else if op = 8 then ⟨#[]⟩ else if op = 9 then ⟨#[]⟩ else if op = 10 then ⟨#[]⟩ else if op = 21 then ⟨#[111, 117, 116, 58]⟩ else if op = 22 then ⟨#[115, 101, 116, 58]⟩ else if op = 23 then ⟨#[114, 101, 115, 101, 116, 58]⟩ else if op = 24 then ⟨#[112, 117, 108, 115, 101, 58]⟩ else if op = 25 then ⟨#[115, 116, 101, 112, 58]⟩ else if op = 26 then ⟨#[116, 105, 109, 101, 114, 58]⟩ else if op = 27 then ⟨#[104, 111, 108, 100, 58]⟩ else if op = 28 then ⟨#[108, 97, 116, 101, 58]⟩ else if op = 29 then ⟨#[99, 111, 117, 110, 116, 58]⟩ else if op = 30 then ⟨#[109, 111, 118, 101, 58]⟩ else if op = 31 then ⟨#[97, 100, 100, 58]⟩ else if op = 32 then ⟨#[115, 117, 98, 58]⟩ else if op = 33 then ⟨#[109, 117, 108, 58]⟩ else if op = 34 then ⟨#[100, 105, 118, 58]⟩ else if op = 35 then ⟨#[114, 101, 109, 58]⟩ else if op = 36 then ⟨#[114, 101, 97, 108, 58]⟩ else if op = 37 then ⟨#[119, 104, 111, 108, 101, 58]⟩ else ⟨#[]⟩
/-- What stands between them. -/
def btw (op : Int) : ByteArray := if op = 1 then ⟨#[]⟩ else if op = 2 then ⟨#[]⟩ else if op = 3 then ⟨#[58]⟩ else if op = 4 then ⟨#[58]⟩ else if op = 5 then ⟨#[60]⟩ else if op = 6 then ⟨#[60, 61]⟩ else if op = 7 then ⟨#[61]⟩ else if op = 8 then ⟨#[60, 62]⟩ else if op = 9 then ⟨#[62, 61]⟩ else if op = 10 then ⟨#[62]⟩ else if op = 21 then ⟨#[]⟩ else if op = 22 then ⟨#[]⟩ else if op = 23 then ⟨#[]⟩ else if op = 24 then ⟨#[44]⟩ else if op = 25 then ⟨#[]⟩ else if op = 26 then ⟨#[44]⟩ else if op = 27 then ⟨#[44]⟩ else if op = 28 then ⟨#[44]⟩ else if op = 29 then ⟨#[44]⟩ else if op = 30 then ⟨#[44]⟩ else if op = 31 then ⟨#[44]⟩ else if op = 32 then ⟨#[44]⟩ else if op = 33 then ⟨#[44]⟩ else if op = 34 then ⟨#[44]⟩ else if op = 35 then ⟨#[44]⟩ else if op = 36 then ⟨#[44]⟩ else if op = 37 then ⟨#[44]⟩ else ⟨#[]⟩
/-- The places that are asked for. -/
def ndP (op : Int) : List Nat := if op = 1 then [1] else if op = 2 then [1] else if op = 3 then [1, 2] else if op = 4 then [1, 2] else if op = 5 then [3, 3] else if op = 6 then [3, 3] else if op = 7 then [3, 3] else if op = 8 then [3, 3] else if op = 9 then [3, 3] else if op = 10 then [3, 3] else if op = 21 then [5] else if op = 22 then [6] else if op = 23 then [7] else if op = 24 then [5, 2] else if op = 25 then [8] else if op = 26 then [9, 10] else if op = 27 then [9, 10] else if op = 28 then [9, 10] else if op = 29 then [11, 10] else if op = 30 then [12, 3] else if op = 31 then [12, 3, 3] else if op = 32 then [12, 3, 3] else if op = 33 then [12, 3, 3] else if op = 34 then [12, 3, 3] else if op = 35 then [12, 3, 3] else if op = 36 then [13, 3] else if op = 37 then [12, 4] else []
def orP (op : Int) : List Nat := if op = 1 then [] else if op = 2 then [] else if op = 3 then [] else if op = 4 then [] else if op = 5 then [4, 4] else if op = 6 then [4, 4] else if op = 7 then [4, 4] else if op = 8 then [4, 4] else if op = 9 then [4, 4] else if op = 10 then [4, 4] else if op = 21 then [] else if op = 22 then [] else if op = 23 then [] else if op = 24 then [] else if op = 25 then [] else if op = 26 then [] else if op = 27 then [] else if op = 28 then [] else if op = 29 then [] else if op = 30 then [13, 4] else if op = 31 then [13, 4, 4] else if op = 32 then [13, 4, 4] else if op = 33 then [13, 4, 4] else if op = 34 then [13, 4, 4] else if op = 35 then [] else if op = 36 then [] else if op = 37 then [] else []
def pv (c : Nat) : Value := if c = 1 then Value.func (Fn.func 102) #[] #[] else if c = 2 then Value.func (Fn.func 103) #[] #[] else if c = 3 then Value.func (Fn.func 104) #[] #[] else if c = 4 then Value.func (Fn.func 105) #[] #[] else if c = 5 then Value.func (Fn.func 106) #[] #[] else if c = 6 then Value.func (Fn.func 107) #[] #[] else if c = 7 then Value.func (Fn.func 108) #[] #[] else if c = 8 then Value.func (Fn.func 109) #[] #[] else if c = 9 then Value.func (Fn.func 110) #[] #[] else if c = 10 then Value.func (Fn.func 111) #[] #[] else if c = 11 then Value.func (Fn.func 112) #[] #[] else if c = 12 then Value.func (Fn.func 113) #[] #[] else if c = 13 then Value.func (Fn.func 114) #[] #[] else Value.nilFunc
def p3 (l : List Nat) : List Value := [pv (l.getD 0 0), pv (l.getD 1 0), pv (l.getD 2 0)]
def rowV (op : Int) : List Value := [.string (ahd op), .string (btw op)] ++ p3 (ndP op) ++ p3 (orP op)
def RV : Array Value := ((List.range 38).flatMap fun n : Nat => rowV (n : Int)).toArray
theorem RV_size : RV.size = 304 := by kernel_rfl
theorem RV_one : RV.all (·.oneCell') = true := by kernel_rfl
theorem RV_info : (Tryd.prog.info? 126).map (·.size) = some RV.size := by kernel_rfl
theorem zero_size : Tryd.zeroCells126.size = RV.size := by kernel_rfl
theorem build_rules (w : World) : (Instr.build 126 #[(1, Value.agg #[Value.string ⟨#[]⟩, Value.string ⟨#[]⟩, Value.func (Fn.func 102) #[] #[], Value.nilFunc, Value.nilFunc, Value.nilFunc, Value.nilFunc, Value.nilFunc]), (2, Value.agg #[Value.string ⟨#[47]⟩, Value.string ⟨#[]⟩, Value.func (Fn.func 102) #[] #[], Value.nilFunc, Value.nilFunc, Value.nilFunc, Value.nilFunc, Value.nilFunc]), (3, Value.agg #[Value.string ⟨#[43]⟩, Value.string ⟨#[58]⟩, Value.func (Fn.func 102) #[] #[], Value.func (Fn.func 103) #[] #[], Value.nilFunc, Value.nilFunc, Value.nilFunc, Value.nilFunc]), (4, Value.agg #[Value.string ⟨#[45]⟩, Value.string ⟨#[58]⟩, Value.func (Fn.func 102) #[] #[], Value.func (Fn.func 103) #[] #[], Value.nilFunc, Value.nilFunc, Value.nilFunc, Value.nilFunc]), (5, Value.agg #[Value.string ⟨#[]⟩, Value.string ⟨#[60]⟩, Value.func (Fn.func 104) #[] #[], Value.func (Fn.func 104) #[] #[], Value.nilFunc, Value.func (Fn.func 105) #[] #[], Value.func (Fn.func 105) #[] #[], Value.nilFunc]), (6, Value.agg #[Value.string ⟨#[]⟩, Value.string ⟨#[60, 61]⟩, Value.func (Fn.func 104) #[] #[], Value.func (Fn.func 104) #[] #[], Value.nilFunc, Value.func (Fn.func 105) #[] #[], Value.func (Fn.func 105) #[] #[], Value.nilFunc]), (7, Value.agg #[Value.string ⟨#[]⟩, Value.string ⟨#[61]⟩, Value.func (Fn.func 104) #[] #[], Value.func (Fn.func 104) #[] #[], Value.nilFunc, Value.func (Fn.func 105) #[] #[], Value.func (Fn.func 105) #[] #[], Value.nilFunc]), (8, Value.agg #[Value.string ⟨#[]⟩, Value.string ⟨#[60, 62]⟩, Value.func (Fn.func 104) #[] #[], Value.func (Fn.func 104) #[] #[], Value.nilFunc, Value.func (Fn.func 105) #[] #[], Value.func (Fn.func 105) #[] #[], Value.nilFunc]), (9, Value.agg #[Value.string ⟨#[]⟩, Value.string ⟨#[62, 61]⟩, Value.func (Fn.func 104) #[] #[], Value.func (Fn.func 104) #[] #[], Value.nilFunc, Value.func (Fn.func 105) #[] #[], Value.func (Fn.func 105) #[] #[], Value.nilFunc]), (10, Value.agg #[Value.string ⟨#[]⟩, Value.string ⟨#[62]⟩, Value.func (Fn.func 104) #[] #[], Value.func (Fn.func 104) #[] #[], Value.nilFunc, Value.func (Fn.func 105) #[] #[], Value.func (Fn.func 105) #[] #[], Value.nilFunc]), (21, Value.agg #[Value.string ⟨#[111, 117, 116, 58]⟩, Value.string ⟨#[]⟩, Value.func (Fn.func 106) #[] #[], Value.nilFunc, Value.nilFunc, Value.nilFunc, Value.nilFunc, Value.nilFunc]), (22, Value.agg #[Value.string ⟨#[115, 101, 116, 58]⟩, Value.string ⟨#[]⟩, Value.func (Fn.func 107) #[] #[], Value.nilFunc, Value.nilFunc, Value.nilFunc, Value.nilFunc, Value.nilFunc]), (23, Value.agg #[Value.string ⟨#[114, 101, 115, 101, 116, 58]⟩, Value.string ⟨#[]⟩, Value.func (Fn.func 108) #[] #[], Value.nilFunc, Value.nilFunc, Value.nilFunc, Value.nilFunc, Value.nilFunc]), (24, Value.agg #[Value.string ⟨#[112, 117, 108, 115, 101, 58]⟩, Value.string ⟨#[44]⟩, Value.func (Fn.func 106) #[] #[], Value.func (Fn.func 103) #[] #[], Value.nilFunc, Value.nilFunc, Value.nilFunc, Value.nilFunc]), (25, Value.agg #[Value.string ⟨#[115, 116, 101, 112, 58]⟩, Value.string ⟨#[]⟩, Value.func (Fn.func 109) #[] #[], Value.nilFunc, Value.nilFunc, Value.nilFunc, Value.nilFunc, Value.nilFunc]), (26, Value.agg #[Value.string ⟨#[116, 105, 109, 101, 114, 58]⟩, Value.string ⟨#[44]⟩, Value.func (Fn.func 110) #[] #[], Value.func (Fn.func 111) #[] #[], Value.nilFunc, Value.nilFunc, Value.nilFunc, Value.nilFunc]), (27, Value.agg #[Value.string ⟨#[104, 111, 108, 100, 58]⟩, Value.string ⟨#[44]⟩, Value.func (Fn.func 110) #[] #[], Value.func (Fn.func 111) #[] #[], Value.nilFunc, Value.nilFunc, Value.nilFunc, Value.nilFunc]), (28, Value.agg #[Value.string ⟨#[108, 97, 116, 101, 58]⟩, Value.string ⟨#[44]⟩, Value.func (Fn.func 110) #[] #[], Value.func (Fn.func 111) #[] #[], Value.nilFunc, Value.nilFunc, Value.nilFunc, Value.nilFunc]), (29, Value.agg #[Value.string ⟨#[99, 111, 117, 110, 116, 58]⟩, Value.string ⟨#[44]⟩, Value.func (Fn.func 112) #[] #[], Value.func (Fn.func 111) #[] #[], Value.nilFunc, Value.nilFunc, Value.nilFunc, Value.nilFunc]), (30, Value.agg #[Value.string ⟨#[109, 111, 118, 101, 58]⟩, Value.string ⟨#[44]⟩, Value.func (Fn.func 113) #[] #[], Value.func (Fn.func 104) #[] #[], Value.nilFunc, Value.func (Fn.func 114) #[] #[], Value.func (Fn.func 105) #[] #[], Value.nilFunc]), (31, Value.agg #[Value.string ⟨#[97, 100, 100, 58]⟩, Value.string ⟨#[44]⟩, Value.func (Fn.func 113) #[] #[], Value.func (Fn.func 104) #[] #[], Value.func (Fn.func 104) #[] #[], Value.func (Fn.func 114) #[] #[], Value.func (Fn.func 105) #[] #[], Value.func (Fn.func 105) #[] #[]]), (32, Value.agg #[Value.string ⟨#[115, 117, 98, 58]⟩, Value.string ⟨#[44]⟩, Value.func (Fn.func 113) #[] #[], Value.func (Fn.func 104) #[] #[], Value.func (Fn.func 104) #[] #[], Value.func (Fn.func 114) #[] #[], Value.func (Fn.func 105) #[] #[], Value.func (Fn.func 105) #[] #[]]), (33, Value.agg #[Value.string ⟨#[109, 117, 108, 58]⟩, Value.string ⟨#[44]⟩, Value.func (Fn.func 113) #[] #[], Value.func (Fn.func 104) #[] #[], Value.func (Fn.func 104) #[] #[], Value.func (Fn.func 114) #[] #[], Value.func (Fn.func 105) #[] #[], Value.func (Fn.func 105) #[] #[]]), (34, Value.agg #[Value.string ⟨#[100, 105, 118, 58]⟩, Value.string ⟨#[44]⟩, Value.func (Fn.func 113) #[] #[], Value.func (Fn.func 104) #[] #[], Value.func (Fn.func 104) #[] #[], Value.func (Fn.func 114) #[] #[], Value.func (Fn.func 105) #[] #[], Value.func (Fn.func 105) #[] #[]]), (35, Value.agg #[Value.string ⟨#[114, 101, 109, 58]⟩, Value.string ⟨#[44]⟩, Value.func (Fn.func 113) #[] #[], Value.func (Fn.func 104) #[] #[], Value.func (Fn.func 104) #[] #[], Value.nilFunc, Value.nilFunc, Value.nilFunc]), (36, Value.agg #[Value.string ⟨#[114, 101, 97, 108, 58]⟩, Value.string ⟨#[44]⟩, Value.func (Fn.func 114) #[] #[], Value.func (Fn.func 104) #[] #[], Value.nilFunc, Value.nilFunc, Value.nilFunc, Value.nilFunc]), (37, Value.agg #[Value.string ⟨#[119, 104, 111, 108, 101, 58]⟩, Value.string ⟨#[44]⟩, Value.func (Fn.func 113) #[] #[], Value.func (Fn.func 105) #[] #[], Value.nilFunc, Value.nilFunc, Value.nilFunc, Value.nilFunc])]).run Tryd.prog w = .ok (.agg RV) w := by kernel_rfl

/-- Operations that only build values, run one behind the other. -/
def runB (P : Program) : List Oper → Act → Option Act
  | [], a => some a
  | o :: r, a =>
    match o.op with
    | .build t parts =>
      match o.guard with
      | none => (P.built t (parts.map fun (i, x) => (i, a.eval x)).toList).bind fun c => runB P r (a.put o.dst (.agg c))
      | some _ => none
    | _ => none

theorem wpList_runB {P : Program} {ops : Array Oper} {Q : Exit → Act → World → Prop} (rest : List Oper) (w : World) : ∀ (l : List Oper) (a a' : Act), runB P l a = some a' → wpList P ops Q rest a' w → wpList P ops Q (l ++ rest) a w
  | [], a, a', h, hw => by
    obtain rfl := Option.some.inj h
    exact hw
  | o :: r, a, a', h, hw => by
    unfold runB at h
    split at h
    · rename_i t parts ho
      split at h
      · rename_i hg
        obtain ⟨c, hc, hr⟩ := Option.bind_eq_some_iff.1 h
        exact wpList_buildTo hg t parts ho o.dst rfl c hc (wpList_runB rest w r _ a' hr hw)
      · cases h
    · cases h

theorem wpList_takeB {P : Program} {ops : Array Oper} {Q : Exit → Act → World → Prop} (n : Nat) (L : List Oper) (w : World) (a a' : Act) (h : runB P (L.take n) a = some a') (hw : wpList P ops Q (L.drop n) a' w) : wpList P ops Q L a w := by
  have := wpList_runB (L.drop n) w (L.take n) a a' h hw
  rwa [List.take_append_drop] at this

theorem wpList_takeK {P : Program} {ops : Array Oper} {Q : Exit → Act → World → Prop} (n : Nat) (L : List Oper) (w : World) (a : Act) (p v : Value) (x y : Operand)
    (h : ((runB P (L.take n) a).map fun a' => (a'.eval x, a'.eval y, a'.defers)) = some (p, v, []))
    (hw : ∀ a' : Act, a'.eval x = p → a'.eval y = v → a'.defers = [] → wpList P ops Q (L.drop n) a' w) : wpList P ops Q L a w := by
  obtain ⟨a', ha, he⟩ := Option.map_eq_some_iff.1 h
  simp only [Prod.mk.injEq] at he
  exact wpList_takeB n L w a a' ha (hw a' he.1 he.2.1 he.2.2)

set_option maxHeartbeats 4000000 in
set_option maxRecDepth 100000 in
theorem rules_r (w : World) :
    Calls Tryd.prog 95 #[] w fun e w' => e = .returned (.agg RV) ∧ Below w.heap.size w w' := by
  refine calls_of_wp Tryd.func95 rfl ?_
  apply wp_seq_k; intro K0 hK0
  apply wp_region_lit
  refine Go.Great.wpList_allocTo rfl (some 0) rfl (.pointer (some ⟨w.heap.size, 0, none⟩)) (.cells Tryd.zeroCells126 126) (by kernel_rfl) ?_
  apply wpList_nil
  refine hK0 _ _ ?_
  clear hK0 K0
  apply wp_seq_k; intro K1 hK1
  apply wp_region_lit
  refine wpList_takeK 66 _ _ _ (.pointer (some ⟨w.heap.size, 0, none⟩)) (.agg RV) (.tmp 0) (.tmp 66) (by kernel_rfl) ?_
  intro a' h0 h66 hd
  refine wpList_store_row (rest := []) rfl _ _ _ rfl w.heap.size RV h0 h66 126 Tryd.zeroCells126 (heap_alloc_last w _) RV_info zero_size RV_one ?_
  rw [World.setRow_alloc_new]
  apply wpList_nil
  refine hK1 _ _ ?_
  have h0' : a'.tmps[0]?.getD undef = .pointer (some ⟨w.heap.size, 0, none⟩) := by simpa [Act.eval] using h0
  refine wp_ret ⟨hd, .agg RV, ?_, rfl, ?_⟩
  · have hl := run_loadVar_new (P := Tryd.prog) w 126 RV _ _ Tryd.underlying126 RV_info
    show (results Tryd.f95 a'.tmps).run Tryd.prog _ = _
    simp [results, Tryd.results95, h0', asAddr, hl]
  · exact (Below.refl _ _).alloc (Nat.le_refl _) _
end Go.Proofs.YtcihplachlokiaaDoor

