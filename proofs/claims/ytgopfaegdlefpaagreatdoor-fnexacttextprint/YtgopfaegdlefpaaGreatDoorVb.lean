/- The writer of a rung: its words are a row of its own. -/
import Derived.Test.YtgopfaegdlefpaaGreatDoorGfM
import Derived.Test.YtgopfaegdlefpaaGreatDoorMr
import Derived.Deep.AppendLies
import Derived.Laws.OwnMore
import Derived.Laws.AppendOwn
import Derived.Lib.Join
import Derived.Deep.RegionHeld3
import Derived.Below
namespace Go.Proofs.YtgopfaegdlefpaaGreatDoor
open Go.RowKit
set_option linter.unusedVariables false

theorem owns_later {W W' : World} {base : Nat} {e : TypeId} {size : Nat} {v : Value} {n : Nat} {xs : List Value} (h : W.ownsRow base e size v n xs) (g : Below W.heap.size W W') : W'.ownsRow base e size v n xs := by
  obtain ⟨h1, h2 | ⟨g', cap, cur, hv, hb, hh, h3, h4, h5, h6⟩⟩ := h
  · exact ⟨h1, .inl h2⟩
  · exact ⟨h1, .inr ⟨g', cap, cur, hv, hb, (g.block _ (Array.getElem?_eq_some_iff.1 hh).1).trans hh, h3, h4, h5, h6⟩⟩
theorem new_one (W : World) (v : Value) : ∀ (q : Nat) (u : Value), [v][q]? = some u → (W.alloc (.cells #[v] 9)).cell? ((⟨W.heap.size, 0, none⟩ : Addr).add q) = some u := by
  intro q u h
  have hq : q = 0 := by have := (List.getElem?_eq_some_iff.1 h).1; simpa using this
  subst hq
  simp at h
  subst h
  simp [Addr.add]
def strs (L : List ByteArray) : List Value := L.map Value.string
def wrA (A : List ByteArray) (v : Value) : Array Value := (A.map Value.string ++ [v]).toArray
/-- The writer, its signs and its words. -/
def WrS (A : List ByteArray) (W : World) (B : Nat) (v : Value) (L : List ByteArray) : Prop :=
  A.length = 10 ∧ W.heap[B]? = some (.cells (wrA A v) 64 (0, 0)) ∧ W.ownsRow (B + 1) 9 1 v L.length (strs L)
/-- What a call of the writer keeps. -/
structure WK (B : Nat) (v v' : Value) (W W' : World) : Prop where
  below : Below B W W'
  keep : ∀ b, b < W.heap.size → b ≠ B → v.ownBlock ≠ some b → W'.heap[b]? = W.heap[b]?
  new : ∀ g, v'.ownBlock = some g → v.ownBlock = some g ∨ W.heap.size ≤ g
theorem WK.refl (B : Nat) (v : Value) (W : World) : WK B v v W W := ⟨Below.refl _ _, fun _ _ _ _ => rfl, fun _ h => .inl h⟩
theorem WK.trans {B : Nat} {v v' v'' : Value} {W W' W'' : World} (h : WK B v v' W W') (h' : WK B v' v'' W' W'') : WK B v v'' W W'' :=
  ⟨h.below.trans h'.below, fun b hb hB ho => (h'.keep b (Nat.lt_of_lt_of_le hb h.below.size) hB (fun e => (h.new b e).elim (fun h1 => ho h1) (fun h1 => absurd h1 (by omega)))).trans (h.keep b hb hB ho),
   fun g e => by
    rcases h'.new g e with h1 | h1
    · exact h.new g h1
    · exact .inr (Nat.le_trans h.below.size h1)⟩
theorem WK.of_below {B : Nat} {v : Value} {W W' : World} (g : Below W.heap.size W W') (hB : B ≤ W.heap.size) : WK B v v W W' := ⟨g.mono hB, fun b hb _ _ => g.block b hb, fun _ h => .inl h⟩
theorem WK.row {B : Nat} {v v' : Value} {W W' : World} (h : WK B v v' W W') {b : Nat} (hB : b ≠ B) (ho : v.ownBlock ≠ some b) {C : Array Value} {t : TypeId} (hr : W.heap[b]? = some (.cells C t (0, 0))) : W'.heap[b]? = some (.cells C t (0, 0)) :=
  (h.keep b (Array.getElem?_eq_some_iff.1 hr).1 hB ho).trans hr
theorem WrS.later {A : List ByteArray} {W W' : World} {B : Nat} {v : Value} {L : List ByteArray} (h : WrS A W B v L) (g : Below W.heap.size W W') : WrS A W' B v L :=
  ⟨h.1, (g.block _ (Array.getElem?_eq_some_iff.1 h.2.1).1).trans h.2.1, owns_later h.2.2 g⟩
theorem WrS.lt {A : List ByteArray} {W : World} {B : Nat} {v : Value} {L : List ByteArray} (h : WrS A W B v L) : B < W.heap.size := (Array.getElem?_eq_some_iff.1 h.2.1).1
theorem WrS.own {A : List ByteArray} {W : World} {B : Nat} {v : Value} {L : List ByteArray} (h : WrS A W B v L) : ∀ g, v.ownBlock = some g → B + 1 ≤ g ∧ g < W.heap.size := by
  intro g hg
  obtain ⟨_, ⟨rfl, _⟩ | ⟨g', cap, cur, rfl, hb, hh, _⟩⟩ := h.2.2
  · simp [Value.ownBlock] at hg
  · simp [Value.ownBlock] at hg
    subst hg
    exact ⟨hb, (Array.getElem?_eq_some_iff.1 hh).1⟩
theorem wrA_last (A : List ByteArray) (v : Value) (h : A.length = 10) : (wrA A v)[10]? = some v := by
  unfold wrA
  simp [h]
theorem wrA_at (A : List ByteArray) (v : Value) (k : Nat) (s : ByteArray) (h : A[k]? = some s) : (wrA A v)[k]? = some (.string s) := by
  unfold wrA
  have hk : k < A.length := (List.getElem?_eq_some_iff.1 h).1
  simp [List.getElem?_append_left, hk]
  exact (List.getElem?_eq_some_iff.1 h).2
theorem wrA_set (A : List ByteArray) (v v' : Value) (h : A.length = 10) : (wrA A v).setIfInBounds 10 v' = wrA A v' := by
  unfold wrA
  simp [h]
theorem info_str0 : ∃ i, Tryz.prog.info? 9 = some i ∧ i.zero = some (.string ⟨#[]⟩) ∧ i.size = 1 ∧ i.bytes = 16 := by
  have h : (Tryz.prog.info? 9).map (fun i => (i.zero, i.size, i.bytes)) = some (some (.string ⟨#[]⟩), 1, 16) := by kernel_rfl
  cases hi : Tryz.prog.info? 9 with
  | none => rw [hi] at h; cases h
  | some i => rw [hi] at h; simp at h; exact ⟨i, rfl, h.1, h.2.1, h.2.2⟩

/-- A word is appended to the writer's words: at a step of a region that draws its order. -/
theorem app_any {A : List ByteArray} {B : Nat} {s : ByteArray} {L : List ByteArray} {v : Value} {W : World} (h : WrS A W B v L) (hL : L.length ≤ 1000000) (W1 : World) (g1 : Below W.heap.size W W1) (b1 : Nat) (c1 : W1.cell? ⟨b1, 0, none⟩ = some (.string s))
    {ops : Array Oper} {o : Oper} {a : Act} {K : Act → World → Prop} {Q : Exit → Act → World → Prop} {E : Prop} (hgd : o.guard = none) (x y : Operand)
    (ho : o.op = .call { callee := .builtin .append, args := #[x, y], argTypes := #[62, 62] }) (hx : a.eval x = v) (hy : a.eval y = .slice (some ⟨b1, 0, none⟩) 1 1)
    (hK : ∀ g cap w', w'.cell? ⟨B, 10, none⟩ = some v ∧ w'.frozen? ⟨B, 10, none⟩ = false ∧ w'.heap[B]? = some (.cells (wrA A v) 64 (0, 0)) ∧ WrS A (w'.setCell ⟨B, 10, none⟩ (.slice (some ⟨g, 0, none⟩) (L.length + 1) cap)) B (.slice (some ⟨g, 0, none⟩) (L.length + 1) cap) (L ++ [s]) ∧ WK B v (.slice (some ⟨g, 0, none⟩) (L.length + 1) cap) W (w'.setCell ⟨B, 10, none⟩ (.slice (some ⟨g, 0, none⟩) (L.length + 1) cap)) ∧ (∀ b, b < W1.heap.size → b ≠ B → v.ownBlock ≠ some b → w'.heap[b]? = W1.heap[b]?) → K (a.put o.dst (.slice (some ⟨g, 0, none⟩) (L.length + 1) cap)) w') :
    if Region.wanted o (yielded ops a.tmps) = true then Oper.wp Tryz.prog o a W1 K Q else E := by
  obtain ⟨i0, hi, hz0, hz1, hz2⟩ := info_str0
  have hown := h.own
  have hlt := h.lt
  obtain ⟨hA, hr, hw⟩ := h
  have hs1 := g1.size
  refine step_append_lies W1 hgd x y 62 ho (B + 1) 9 i0 (.string ⟨#[]⟩) 1 16 Tryz.underlying62 hi hz0 hz1 hz2 rfl (by decide) v L.length (strs L) hx (owns_later hw g1) ⟨b1, 0, none⟩ 1 1 [.string s] hy rfl ?news (by intro u hu; simp at hu; rw [hu]; rfl) (by omega) (by unfold maxLen; omega) (by omega) (by omega) _ rfl ?go
  case news =>
    intro q u hq
    have hq0 : q = 0 := by have := (List.getElem?_eq_some_iff.1 hq).1; simpa using this
    subst hq0
    simp at hq
    subst hq
    simpa [Addr.add] using c1
  case go =>
    intro g cap w4 own4 gg4 hat4 hlt4
    have rB : W1.heap[B]? = some (.cells (wrA A v) 64 (0, 0)) := (g1.block _ hlt).trans hr
    have r4 : w4.heap[B]? = some (.cells (wrA A v) 64 (0, 0)) := (gg4.block B (by omega) (fun e => by have := (hown B e.symm).1; omega)).trans rB
    have c10 : w4.cell? ⟨B, 10, none⟩ = some v := (cell_of_row _ _ _ _ _ _ r4).trans (wrA_last A v hA)
    have r5 : (w4.setCell ⟨B, 10, none⟩ (.slice (some ⟨g, 0, none⟩) (L.length + 1) cap)).heap[B]? = some (.cells (wrA A (.slice (some ⟨g, 0, none⟩) (L.length + 1) cap)) 64 (0, 0)) := by
      have := row_put r4 10 (.slice (some ⟨g, 0, none⟩) (L.length + 1) cap)
      rw [wrA_set A v _ hA] at this; exact this
    have hgB : B + 1 ≤ g := by
      rcases hat4 with e | e
      · exact (hown g e).1
      · omega
    refine hK g cap w4 ⟨c10, by simp [World.frozen?, r4], r4, ⟨hA, r5, ?_⟩, ?_, fun b hb _ ho' => gg4.block b hb (fun e => ho' e.symm)⟩
    · have e1 : strs (L ++ [s]) = strs L ++ [.string s] := by simp [strs]
      rw [e1, List.length_append, List.length_singleton]
      obtain ⟨q1, q2 | ⟨g', cap', cur, hv, hb, hh, h3, h4, h5, h6⟩⟩ := own4
      · exact ⟨q1, .inl q2⟩
      · refine ⟨q1, .inr ⟨g', cap', cur, hv, hb, ?_, h3, h4, h5, h6⟩⟩
        exact row_other hh _ _ (by omega) _
    · refine ⟨?_, fun b hb hB ho' => ?_, fun g' hg' => ?_⟩
      · have gB : Below B W w4 := (g1.mono (Nat.le_of_lt hlt)).grown gg4 (by omega) (fun k e => by have := (hown k e).1; omega)
        exact gB.setCell (p := ⟨B, 10, none⟩) (Nat.le_refl _) _
      · rw [heap_setCell_other _ ⟨B, 10, none⟩ b _ hB]
        exact (gg4.block b (by omega) (fun e => ho' e.symm)).trans (g1.block b hb)
      · simp [Value.ownBlock] at hg'
        subst hg'
        rcases hat4 with e | e
        · exact .inl e
        · exact .inr (by omega)

theorem st_one (w : World) (a : Addr) (v old : Value) (ho : w.cell? a = some old) (hf : w.frozen? a = false) (h1 : (match v with | .slice _ _ _ => true | _ => false) = true) : (storeVar 62 a v).run Tryz.prog w = .ok () (w.setCell a v) := by
  cases v <;> simp at h1
  simp [storeVar, Value.cells, storeCells, Addr.add]
  rw [run_store Tryz.prog w a _ _ (by rfl)]
  simp [ho, hf]
section
variable {P : Program} {ops : Array Oper} {Q : Exit → Act → World → Prop} {S : World → Prop} {md : Region.Mode}
theorem tk_val' {i : Nat} {oi : Oper} {fuel : Nat} {listed : Array Bool} {a : Act} {w : World} (hi : ops[i]? = some oi)
    (hs : Region.noSelect ops = true) (hf : Region.free md ops listed i = true) (hr : (Region.ready md ops listed).contains i = true)
    (hQ : ∀ (v : Value) c a w, Q (.panic c) (a.put oi.dst v) w → Q (.panic c) a w) (hw : Region.wanted oi (yielded ops a.tmps) = true) (v : Value) (hrun : ∀ w, S w → (execOp a.eval oi).run P w = .ok (.value v) w) (hS : S w)
    (l' : Array Bool) (hl : listed.setIfInBounds i true = l') (a' : Act) (ha : a.put oi.dst v = a')
    (h : wpAnyH P md ops Q S fuel l' a' w) : wpAnyH P md ops Q S (fuel + 1) listed a w := by
  subst hl ha
  exact wpAnyH_take hi hs hf hr (hQ v) (.inl ⟨hw, hrun⟩) hS h
theorem up_val' {i : Nat} {o : Oper} {fuel : Nat} {listed : Array Bool} {a : Act} {w : World} (ho : ops[i]? = some o) (hw : Region.wanted o (yielded ops a.tmps) = true) (v : Value) (w' : World)
    (hrun : (execOp a.eval o).run P w = .ok (.value v) w') (hS : S w') (l' : Array Bool) (hl : listed.setIfInBounds i true = l') (a' : Act) (ha : a.put o.dst v = a') (h : wpAnyH P md ops Q S fuel l' a' w') :
    wpOp P ops Q i (fun a' w' => S w' ∧ wpAnyH P md ops Q S fuel (listed.setIfInBounds i true) a' w') a w := by
  subst hl ha
  exact up_value ho hw v w' hrun hS h
end

set_option maxRecDepth 10000 in
set_option maxHeartbeats 4000000 in
theorem sign_w (A : List ByteArray) (B k : Nat) (s : ByteArray) (hk : k < 10) (hs : A[k]? = some s) (L : List ByteArray) (v : Value) (W : World) (h : WrS A W B v L) (hL : L.length ≤ 1000000) :
    Calls Tryz.prog 68 #[.pointer (some ⟨B, 0, none⟩), .int .i64 k] W fun e W' => e = .returned (.tuple #[]) ∧ ∃ v', WrS A W' B v' (L ++ [s]) ∧ WK B v v' W W' := by
  have HW : Hid (WrS A W B v L ∧ L.length ≤ 1000000) := ⟨h, hL⟩
  have hlt := h.lt
  obtain ⟨hA, hr, ho⟩ := h
  have c10 : W.cell? ⟨B, 10, none⟩ = some v := (cell_of_row _ _ _ _ _ _ hr).trans (wrA_last A v hA)
  have k0 : (0 : Int) ≤ (k : Int) := by omega
  have k1 : (k : Int) < 10 := by omega
  obtain ⟨S, hS⟩ : ∃ S : World → Prop, S = fun W' => ∃ x, W'.heap[B]? = some (.cells (wrA A x) 64 (0, 0)) := ⟨_, rfl⟩
  have gX : Below W.heap.size W (W.drew.alloc (.cells #[.string s] 9)) := ((Below.refl _ _).drew).alloc (Nat.le_refl _) _
  have cX : (W.drew.alloc (.cells #[.string s] 9)).cell? ⟨W.heap.size, 0, none⟩ = some (.string s) := by
    have := heap_alloc_last W.drew (.cells #[.string s] 9)
    exact (cell_of_row _ _ _ _ _ _ this).trans rfl
  have rX : (W.drew.alloc (.cells #[.string s] 9)).heap[B]? = some (.cells (wrA A v) 64 (0, 0)) := (gX.block _ hlt).trans hr
  have S0 : S W.drew := by rw [hS]; exact ⟨v, hr⟩
  have SX : S (W.drew.alloc (.cells #[.string s] 9)) := by rw [hS]; exact ⟨v, rX⟩
  subst hS
  clear ho hL
  go_enter Tryz.func68, Tryz.ntmps68
  go_upto_region 0 with fail
  refine region_cut (R := fun a' W' => ∃ g4 cap4, a' = ⟨#[.pointer (some ⟨B, 0, none⟩), .int .i64 k, undef, undef, .pointer (some ⟨B, 0, none⟩), .pointer (some ⟨B, 0, none⟩), .pointer (some ⟨B, 0, none⟩), .pointer (some ⟨B, 10, none⟩), v, .pointer (some ⟨B, 0, none⟩), .int .i64 k, .pointer (some ⟨B, 0, none⟩), .pointer (some ⟨B, 0, none⟩), .pointer (some ⟨B, k, none⟩), .string s, .slice (some ⟨W.heap.size, 0, none⟩) 1 1, .slice (some ⟨g4, 0, none⟩) (L.length + 1) cap4, .pointer (some ⟨B, 0, none⟩), .pointer (some ⟨B, 10, none⟩)], []⟩ ∧ WrS A W' B (.slice (some ⟨g4, 0, none⟩) (L.length + 1) cap4) (L ++ [s]) ∧ WK B v (.slice (some ⟨g4, 0, none⟩) (L.length + 1) cap4) W W') ?_ ?_
  · refine wp_region_held_drew (S := fun W' => ∃ x, W'.heap[B]? = some (.cells (wrA A x) 64 (0, 0))) (by kernel_rfl) S0 (fun S0 => ?_)
    show wpAnyH _ _ _ _ _ 16 #[false, false, false, false, false, false, false, false, false, false, false, false, false, false, false, false] _ _
    refine tk_val' (i := 0) rfl (by kernel_rfl) (by kernel_rfl) (by kernel_rfl) (fun _ _ _ _ h => nomatch h.1) rfl (.pointer (some ⟨B, 0, none⟩)) (fun W _ => by go_simp) S0 #[true, false, false, false, false, false, false, false, false, false, false, false, false, false, false, false] rfl ⟨#[.pointer (some ⟨B, 0, none⟩), .int .i64 k, undef, undef, .pointer (some ⟨B, 0, none⟩), undef, undef, undef, undef, undef, undef, undef, undef, undef, undef, undef, undef, undef, undef], []⟩ rfl ?_
    refine tk_val' (i := 1) rfl (by kernel_rfl) (by kernel_rfl) (by kernel_rfl) (fun _ _ _ _ h => nomatch h.1) rfl (.pointer (some ⟨B, 0, none⟩)) (fun W _ => by go_simp) S0 #[true, true, false, false, false, false, false, false, false, false, false, false, false, false, false, false] rfl ⟨#[.pointer (some ⟨B, 0, none⟩), .int .i64 k, undef, undef, .pointer (some ⟨B, 0, none⟩), .pointer (some ⟨B, 0, none⟩), undef, undef, undef, undef, undef, undef, undef, undef, undef, undef, undef, undef, undef], []⟩ rfl ?_
    refine tk_val' (i := 2) rfl (by kernel_rfl) (by kernel_rfl) (by kernel_rfl) (fun _ _ _ _ h => nomatch h.1) rfl (.pointer (some ⟨B, 0, none⟩)) (fun W _ => by go_simp) S0 #[true, true, true, false, false, false, false, false, false, false, false, false, false, false, false, false] rfl ⟨#[.pointer (some ⟨B, 0, none⟩), .int .i64 k, undef, undef, .pointer (some ⟨B, 0, none⟩), .pointer (some ⟨B, 0, none⟩), .pointer (some ⟨B, 0, none⟩), undef, undef, undef, undef, undef, undef, undef, undef, undef, undef, undef, undef], []⟩ rfl ?_
    refine tk_val' (i := 3) rfl (by kernel_rfl) (by kernel_rfl) (by kernel_rfl) (fun _ _ _ _ h => nomatch h.1) rfl (.pointer (some ⟨B, 10, none⟩)) (fun W _ => by go_simp) S0 #[true, true, true, true, false, false, false, false, false, false, false, false, false, false, false, false] rfl ⟨#[.pointer (some ⟨B, 0, none⟩), .int .i64 k, undef, undef, .pointer (some ⟨B, 0, none⟩), .pointer (some ⟨B, 0, none⟩), .pointer (some ⟨B, 0, none⟩), .pointer (some ⟨B, 10, none⟩), undef, undef, undef, undef, undef, undef, undef, undef, undef, undef, undef], []⟩ rfl ?_
    refine tk_val' (i := 5) rfl (by kernel_rfl) (by kernel_rfl) (by kernel_rfl) (fun _ _ _ _ h => nomatch h.1) rfl (.pointer (some ⟨B, 0, none⟩)) (fun W _ => by go_simp) S0 #[true, true, true, true, false, true, false, false, false, false, false, false, false, false, false, false] rfl ⟨#[.pointer (some ⟨B, 0, none⟩), .int .i64 k, undef, undef, .pointer (some ⟨B, 0, none⟩), .pointer (some ⟨B, 0, none⟩), .pointer (some ⟨B, 0, none⟩), .pointer (some ⟨B, 10, none⟩), undef, .pointer (some ⟨B, 0, none⟩), undef, undef, undef, undef, undef, undef, undef, undef, undef], []⟩ rfl ?_
    refine tk_val' (i := 6) rfl (by kernel_rfl) (by kernel_rfl) (by kernel_rfl) (fun _ _ _ _ h => nomatch h.1) rfl (.int .i64 k) (fun W _ => by go_simp) S0 #[true, true, true, true, false, true, true, false, false, false, false, false, false, false, false, false] rfl ⟨#[.pointer (some ⟨B, 0, none⟩), .int .i64 k, undef, undef, .pointer (some ⟨B, 0, none⟩), .pointer (some ⟨B, 0, none⟩), .pointer (some ⟨B, 0, none⟩), .pointer (some ⟨B, 10, none⟩), undef, .pointer (some ⟨B, 0, none⟩), .int .i64 k, undef, undef, undef, undef, undef, undef, undef, undef], []⟩ rfl ?_
    refine tk_val' (i := 7) rfl (by kernel_rfl) (by kernel_rfl) (by kernel_rfl) (fun _ _ _ _ h => nomatch h.1) rfl (.pointer (some ⟨B, 0, none⟩)) (fun W _ => by go_simp) S0 #[true, true, true, true, false, true, true, true, false, false, false, false, false, false, false, false] rfl ⟨#[.pointer (some ⟨B, 0, none⟩), .int .i64 k, undef, undef, .pointer (some ⟨B, 0, none⟩), .pointer (some ⟨B, 0, none⟩), .pointer (some ⟨B, 0, none⟩), .pointer (some ⟨B, 10, none⟩), undef, .pointer (some ⟨B, 0, none⟩), .int .i64 k, .pointer (some ⟨B, 0, none⟩), undef, undef, undef, undef, undef, undef, undef], []⟩ rfl ?_
    refine tk_val' (i := 8) rfl (by kernel_rfl) (by kernel_rfl) (by kernel_rfl) (fun _ _ _ _ h => nomatch h.1) rfl (.pointer (some ⟨B, 0, none⟩)) (fun W _ => by go_simp) S0 #[true, true, true, true, false, true, true, true, true, false, false, false, false, false, false, false] rfl ⟨#[.pointer (some ⟨B, 0, none⟩), .int .i64 k, undef, undef, .pointer (some ⟨B, 0, none⟩), .pointer (some ⟨B, 0, none⟩), .pointer (some ⟨B, 0, none⟩), .pointer (some ⟨B, 10, none⟩), undef, .pointer (some ⟨B, 0, none⟩), .int .i64 k, .pointer (some ⟨B, 0, none⟩), .pointer (some ⟨B, 0, none⟩), undef, undef, undef, undef, undef, undef], []⟩ rfl ?_
    refine tk_val' (i := 9) rfl (by kernel_rfl) (by kernel_rfl) (by kernel_rfl) (fun _ _ _ _ h => nomatch h.1) rfl (.pointer (some ⟨B, k, none⟩)) (fun W _ => by go_simp) S0 #[true, true, true, true, false, true, true, true, true, true, false, false, false, false, false, false] rfl ⟨#[.pointer (some ⟨B, 0, none⟩), .int .i64 k, undef, undef, .pointer (some ⟨B, 0, none⟩), .pointer (some ⟨B, 0, none⟩), .pointer (some ⟨B, 0, none⟩), .pointer (some ⟨B, 10, none⟩), undef, .pointer (some ⟨B, 0, none⟩), .int .i64 k, .pointer (some ⟨B, 0, none⟩), .pointer (some ⟨B, 0, none⟩), .pointer (some ⟨B, k, none⟩), undef, undef, undef, undef, undef], []⟩ rfl ?_
    refine tk_val' (i := 10) rfl (by kernel_rfl) (by kernel_rfl) (by kernel_rfl) (fun _ _ _ _ h => nomatch h.1) rfl (.string s) (fun W hW => by obtain ⟨x, hx⟩ := hW; have hc : W.cell? ⟨B, k, none⟩ = some (.string s) := (cell_of_row _ _ _ _ _ _ hx).trans (wrA_at A x k s hs); go_simp) S0 #[true, true, true, true, false, true, true, true, true, true, true, false, false, false, false, false] rfl ⟨#[.pointer (some ⟨B, 0, none⟩), .int .i64 k, undef, undef, .pointer (some ⟨B, 0, none⟩), .pointer (some ⟨B, 0, none⟩), .pointer (some ⟨B, 0, none⟩), .pointer (some ⟨B, 10, none⟩), undef, .pointer (some ⟨B, 0, none⟩), .int .i64 k, .pointer (some ⟨B, 0, none⟩), .pointer (some ⟨B, 0, none⟩), .pointer (some ⟨B, k, none⟩), .string s, undef, undef, undef, undef], []⟩ rfl ?_
    refine wpAnyH_all (rs := [4, 11]) (by kernel_rfl) (by simp) (fun i hi => ?_)
    simp only [List.mem_cons, List.not_mem_nil, or_false] at hi
    rcases hi with rfl | rfl
    · skip
      refine up_val' rfl rfl (v) (W.drew) (by have hc : W.drew.cell? ⟨B, 10, none⟩ = some v := c10; go_simp) S0 #[true, true, true, true, true, true, true, true, true, true, true, false, false, false, false, false] rfl ⟨#[.pointer (some ⟨B, 0, none⟩), .int .i64 k, undef, undef, .pointer (some ⟨B, 0, none⟩), .pointer (some ⟨B, 0, none⟩), .pointer (some ⟨B, 0, none⟩), .pointer (some ⟨B, 10, none⟩), v, .pointer (some ⟨B, 0, none⟩), .int .i64 k, .pointer (some ⟨B, 0, none⟩), .pointer (some ⟨B, 0, none⟩), .pointer (some ⟨B, k, none⟩), .string s, undef, undef, undef, undef], []⟩ rfl ?_
      refine wpAnyH_all (rs := [11]) (by kernel_rfl) (by simp) (fun i hi => ?_)
      obtain rfl := List.mem_singleton.1 hi
      refine up_val' rfl rfl (.slice (some ⟨W.heap.size, 0, none⟩) 1 1) (W.drew.alloc (.cells #[.string s] 9)) (by go_simp) SX #[true, true, true, true, true, true, true, true, true, true, true, true, false, false, false, false] rfl ⟨#[.pointer (some ⟨B, 0, none⟩), .int .i64 k, undef, undef, .pointer (some ⟨B, 0, none⟩), .pointer (some ⟨B, 0, none⟩), .pointer (some ⟨B, 0, none⟩), .pointer (some ⟨B, 10, none⟩), v, .pointer (some ⟨B, 0, none⟩), .int .i64 k, .pointer (some ⟨B, 0, none⟩), .pointer (some ⟨B, 0, none⟩), .pointer (some ⟨B, k, none⟩), .string s, .slice (some ⟨W.heap.size, 0, none⟩) 1 1, undef, undef, undef], []⟩ rfl ?_
      refine wpAnyH_all (rs := [12]) (by kernel_rfl) (by simp) (fun i hi => ?_)
      obtain rfl := List.mem_singleton.1 hi
      refine wpOp_step rfl fun K' hK => ?_
      refine app_any (s := s) HW.out.1 HW.out.2 _ gX W.heap.size cX (by rfl) (.tmp 8) (.tmp 15) (by rfl) (by rfl) (by rfl) ?_
      rintro g4 cap4 w4 ⟨d10, f10, r4, S4, K4, _⟩
      have S5 : ∃ x, w4.heap[B]? = some (.cells (wrA A x) 64 (0, 0)) := ⟨v, r4⟩
      refine hK _ _ ⟨S5, ?_⟩
      show wpAnyH _ _ _ _ _ _ #[true, true, true, true, true, true, true, true, true, true, true, true, true, false, false, false] ⟨#[.pointer (some ⟨B, 0, none⟩), .int .i64 k, undef, undef, .pointer (some ⟨B, 0, none⟩), .pointer (some ⟨B, 0, none⟩), .pointer (some ⟨B, 0, none⟩), .pointer (some ⟨B, 10, none⟩), v, .pointer (some ⟨B, 0, none⟩), .int .i64 k, .pointer (some ⟨B, 0, none⟩), .pointer (some ⟨B, 0, none⟩), .pointer (some ⟨B, k, none⟩), .string s, .slice (some ⟨W.heap.size, 0, none⟩) 1 1, .slice (some ⟨g4, 0, none⟩) (L.length + 1) cap4, undef, undef], []⟩ _
      refine tk_val' (i := 13) rfl (by kernel_rfl) (by kernel_rfl) (by kernel_rfl) (fun _ _ _ _ h => nomatch h.1) rfl (.pointer (some ⟨B, 0, none⟩)) (fun W _ => by go_simp) S5 #[true, true, true, true, true, true, true, true, true, true, true, true, true, true, false, false] rfl ⟨#[.pointer (some ⟨B, 0, none⟩), .int .i64 k, undef, undef, .pointer (some ⟨B, 0, none⟩), .pointer (some ⟨B, 0, none⟩), .pointer (some ⟨B, 0, none⟩), .pointer (some ⟨B, 10, none⟩), v, .pointer (some ⟨B, 0, none⟩), .int .i64 k, .pointer (some ⟨B, 0, none⟩), .pointer (some ⟨B, 0, none⟩), .pointer (some ⟨B, k, none⟩), .string s, .slice (some ⟨W.heap.size, 0, none⟩) 1 1, .slice (some ⟨g4, 0, none⟩) (L.length + 1) cap4, .pointer (some ⟨B, 0, none⟩), undef], []⟩ rfl ?_
      refine tk_val' (i := 14) rfl (by kernel_rfl) (by kernel_rfl) (by kernel_rfl) (fun _ _ _ _ h => nomatch h.1) rfl (.pointer (some ⟨B, 10, none⟩)) (fun W _ => by go_simp) S5 #[true, true, true, true, true, true, true, true, true, true, true, true, true, true, true, false] rfl ⟨#[.pointer (some ⟨B, 0, none⟩), .int .i64 k, undef, undef, .pointer (some ⟨B, 0, none⟩), .pointer (some ⟨B, 0, none⟩), .pointer (some ⟨B, 0, none⟩), .pointer (some ⟨B, 10, none⟩), v, .pointer (some ⟨B, 0, none⟩), .int .i64 k, .pointer (some ⟨B, 0, none⟩), .pointer (some ⟨B, 0, none⟩), .pointer (some ⟨B, k, none⟩), .string s, .slice (some ⟨W.heap.size, 0, none⟩) 1 1, .slice (some ⟨g4, 0, none⟩) (L.length + 1) cap4, .pointer (some ⟨B, 0, none⟩), .pointer (some ⟨B, 10, none⟩)], []⟩ rfl ?_
      refine wpAnyH_all (rs := [15]) (by kernel_rfl) (by simp) (fun i hi => ?_)
      obtain rfl := List.mem_singleton.1 hi
      refine up_store' rfl rfl 62 _ _ rfl B 10 rfl (.slice (some ⟨g4, 0, none⟩) (L.length + 1) cap4) rfl _ (st_one _ _ _ _ d10 f10 rfl) ⟨_, S4.2.1⟩ #[true, true, true, true, true, true, true, true, true, true, true, true, true, true, true, true] rfl ⟨#[.pointer (some ⟨B, 0, none⟩), .int .i64 k, undef, undef, .pointer (some ⟨B, 0, none⟩), .pointer (some ⟨B, 0, none⟩), .pointer (some ⟨B, 0, none⟩), .pointer (some ⟨B, 10, none⟩), v, .pointer (some ⟨B, 0, none⟩), .int .i64 k, .pointer (some ⟨B, 0, none⟩), .pointer (some ⟨B, 0, none⟩), .pointer (some ⟨B, k, none⟩), .string s, .slice (some ⟨W.heap.size, 0, none⟩) 1 1, .slice (some ⟨g4, 0, none⟩) (L.length + 1) cap4, .pointer (some ⟨B, 0, none⟩), .pointer (some ⟨B, 10, none⟩)], []⟩ rfl ?_
      exact wpAnyH_done (by kernel_rfl) ⟨rfl, g4, cap4, rfl, S4, K4⟩ _
    · skip
      refine up_val' rfl rfl (.slice (some ⟨W.heap.size, 0, none⟩) 1 1) (W.drew.alloc (.cells #[.string s] 9)) (by go_simp) SX #[true, true, true, true, false, true, true, true, true, true, true, true, false, false, false, false] rfl ⟨#[.pointer (some ⟨B, 0, none⟩), .int .i64 k, undef, undef, .pointer (some ⟨B, 0, none⟩), .pointer (some ⟨B, 0, none⟩), .pointer (some ⟨B, 0, none⟩), .pointer (some ⟨B, 10, none⟩), undef, .pointer (some ⟨B, 0, none⟩), .int .i64 k, .pointer (some ⟨B, 0, none⟩), .pointer (some ⟨B, 0, none⟩), .pointer (some ⟨B, k, none⟩), .string s, .slice (some ⟨W.heap.size, 0, none⟩) 1 1, undef, undef, undef], []⟩ rfl ?_
      refine wpAnyH_all (rs := [4]) (by kernel_rfl) (by simp) (fun i hi => ?_)
      obtain rfl := List.mem_singleton.1 hi
      refine up_val' rfl rfl (v) (W.drew.alloc (.cells #[.string s] 9)) (by have hc : (W.drew.alloc (.cells #[.string s] 9)).cell? ⟨B, 10, none⟩ = some v := (cell_of_row _ _ _ _ _ _ rX).trans (wrA_last A v hA); go_simp) SX #[true, true, true, true, true, true, true, true, true, true, true, true, false, false, false, false] rfl ⟨#[.pointer (some ⟨B, 0, none⟩), .int .i64 k, undef, undef, .pointer (some ⟨B, 0, none⟩), .pointer (some ⟨B, 0, none⟩), .pointer (some ⟨B, 0, none⟩), .pointer (some ⟨B, 10, none⟩), v, .pointer (some ⟨B, 0, none⟩), .int .i64 k, .pointer (some ⟨B, 0, none⟩), .pointer (some ⟨B, 0, none⟩), .pointer (some ⟨B, k, none⟩), .string s, .slice (some ⟨W.heap.size, 0, none⟩) 1 1, undef, undef, undef], []⟩ rfl ?_
      refine wpAnyH_all (rs := [12]) (by kernel_rfl) (by simp) (fun i hi => ?_)
      obtain rfl := List.mem_singleton.1 hi
      refine wpOp_step rfl fun K' hK => ?_
      refine app_any (s := s) HW.out.1 HW.out.2 _ gX W.heap.size cX (by rfl) (.tmp 8) (.tmp 15) (by rfl) (by rfl) (by rfl) ?_
      rintro g4 cap4 w4 ⟨d10, f10, r4, S4, K4, _⟩
      have S5 : ∃ x, w4.heap[B]? = some (.cells (wrA A x) 64 (0, 0)) := ⟨v, r4⟩
      refine hK _ _ ⟨S5, ?_⟩
      show wpAnyH _ _ _ _ _ _ #[true, true, true, true, true, true, true, true, true, true, true, true, true, false, false, false] ⟨#[.pointer (some ⟨B, 0, none⟩), .int .i64 k, undef, undef, .pointer (some ⟨B, 0, none⟩), .pointer (some ⟨B, 0, none⟩), .pointer (some ⟨B, 0, none⟩), .pointer (some ⟨B, 10, none⟩), v, .pointer (some ⟨B, 0, none⟩), .int .i64 k, .pointer (some ⟨B, 0, none⟩), .pointer (some ⟨B, 0, none⟩), .pointer (some ⟨B, k, none⟩), .string s, .slice (some ⟨W.heap.size, 0, none⟩) 1 1, .slice (some ⟨g4, 0, none⟩) (L.length + 1) cap4, undef, undef], []⟩ _
      refine tk_val' (i := 13) rfl (by kernel_rfl) (by kernel_rfl) (by kernel_rfl) (fun _ _ _ _ h => nomatch h.1) rfl (.pointer (some ⟨B, 0, none⟩)) (fun W _ => by go_simp) S5 #[true, true, true, true, true, true, true, true, true, true, true, true, true, true, false, false] rfl ⟨#[.pointer (some ⟨B, 0, none⟩), .int .i64 k, undef, undef, .pointer (some ⟨B, 0, none⟩), .pointer (some ⟨B, 0, none⟩), .pointer (some ⟨B, 0, none⟩), .pointer (some ⟨B, 10, none⟩), v, .pointer (some ⟨B, 0, none⟩), .int .i64 k, .pointer (some ⟨B, 0, none⟩), .pointer (some ⟨B, 0, none⟩), .pointer (some ⟨B, k, none⟩), .string s, .slice (some ⟨W.heap.size, 0, none⟩) 1 1, .slice (some ⟨g4, 0, none⟩) (L.length + 1) cap4, .pointer (some ⟨B, 0, none⟩), undef], []⟩ rfl ?_
      refine tk_val' (i := 14) rfl (by kernel_rfl) (by kernel_rfl) (by kernel_rfl) (fun _ _ _ _ h => nomatch h.1) rfl (.pointer (some ⟨B, 10, none⟩)) (fun W _ => by go_simp) S5 #[true, true, true, true, true, true, true, true, true, true, true, true, true, true, true, false] rfl ⟨#[.pointer (some ⟨B, 0, none⟩), .int .i64 k, undef, undef, .pointer (some ⟨B, 0, none⟩), .pointer (some ⟨B, 0, none⟩), .pointer (some ⟨B, 0, none⟩), .pointer (some ⟨B, 10, none⟩), v, .pointer (some ⟨B, 0, none⟩), .int .i64 k, .pointer (some ⟨B, 0, none⟩), .pointer (some ⟨B, 0, none⟩), .pointer (some ⟨B, k, none⟩), .string s, .slice (some ⟨W.heap.size, 0, none⟩) 1 1, .slice (some ⟨g4, 0, none⟩) (L.length + 1) cap4, .pointer (some ⟨B, 0, none⟩), .pointer (some ⟨B, 10, none⟩)], []⟩ rfl ?_
      refine wpAnyH_all (rs := [15]) (by kernel_rfl) (by simp) (fun i hi => ?_)
      obtain rfl := List.mem_singleton.1 hi
      refine up_store' rfl rfl 62 _ _ rfl B 10 rfl (.slice (some ⟨g4, 0, none⟩) (L.length + 1) cap4) rfl _ (st_one _ _ _ _ d10 f10 rfl) ⟨_, S4.2.1⟩ #[true, true, true, true, true, true, true, true, true, true, true, true, true, true, true, true] rfl ⟨#[.pointer (some ⟨B, 0, none⟩), .int .i64 k, undef, undef, .pointer (some ⟨B, 0, none⟩), .pointer (some ⟨B, 0, none⟩), .pointer (some ⟨B, 0, none⟩), .pointer (some ⟨B, 10, none⟩), v, .pointer (some ⟨B, 0, none⟩), .int .i64 k, .pointer (some ⟨B, 0, none⟩), .pointer (some ⟨B, 0, none⟩), .pointer (some ⟨B, k, none⟩), .string s, .slice (some ⟨W.heap.size, 0, none⟩) 1 1, .slice (some ⟨g4, 0, none⟩) (L.length + 1) cap4, .pointer (some ⟨B, 0, none⟩), .pointer (some ⟨B, 10, none⟩)], []⟩ rfl ?_
      exact wpAnyH_done (by kernel_rfl) ⟨rfl, g4, cap4, rfl, S4, K4⟩ _
  · rintro _ W' ⟨g4, cap4, rfl, q1, q2⟩
    go_wp2
    go_end0
    exact ⟨rfl, _, q1, q2⟩
end Go.Proofs.YtgopfaegdlefpaaGreatDoor
