/- Numbers as bytes: the program's picNumber. -/
import Derived.Test.YtjogmhicehlboaaQkaM
import Derived.Test.YtjogmhicehlboaaPcbM
namespace Go.Proofs.Ytjogmhicehlboaa
open Go.RowKit Go.Shelf
set_option linter.unusedVariables false
set_option linter.unusedSimpArgs false

/-- The cells of bytes. -/
def cl (l : List Nat) : List Value := l.map fun b => .int .u8 (b : Nat)
theorem cl_app (l m : List Nat) : cl (l ++ m) = cl l ++ cl m := by simp [cl]
theorem cl_len (l : List Nat) : (cl l).length = l.length := by simp [cl]
/-- Bytes at a slice of one's own. -/
def OwL (w : World) (base : Nat) (v : Value) (l : List Nat) : Prop := w.ownsRow base 5 1 v l.length (cl l)
/-- The bytes of a number, the highest first. -/
def nbL (v : Int) : Nat → List Nat
  | 0 => []
  | n + 1 => nbL (v / 256) n ++ [(v % 256).toNat]
theorem nbL_len (v : Int) (n : Nat) : (nbL v n).length = n := by
  induction n generalizing v with
  | zero => rfl
  | succ n ih => simp [nbL, ih]
theorem nbL_lt (v : Int) (n : Nat) : ∀ b ∈ nbL v n, b < 256 := by
  induction n generalizing v with
  | zero => intro b h; simp [nbL] at h
  | succ n ih =>
    intro b h
    simp only [nbL, List.mem_append, List.mem_singleton] at h
    rcases h with h | rfl
    · exact ih _ b h
    · omega
theorem nbL_4 (v : Int) : nbL v 4 = [(v / 16777216 % 256).toNat, (v / 65536 % 256).toNat, (v / 256 % 256).toNat, (v % 256).toNat] := by
  simp only [nbL, List.nil_append, List.cons_append]
  rw [show v / 256 / 256 / 256 = v / 16777216 by omega, show v / 256 / 256 = v / 65536 by omega]
theorem nbL_2 (v : Int) : nbL v 2 = [(v / 256 % 256).toNat, (v % 256).toNat] := rfl
theorem nbL_1 (v : Int) : nbL v 1 = [(v % 256).toNat] := rfl

/-- From one world to another a row of one's own grew: all other blocks stand. -/
def Gr (w : World) (v : Value) (w' : World) (v' : Value) : Prop := w.grownBy w' v.ownBlock ∧ ∀ g, v'.ownBlock = some g → v.ownBlock = some g ∨ w.heap.size ≤ g
theorem Gr.refl (w : World) (v : Value) : Gr w v w v := ⟨gb_refl18 _ _, fun g h => .inl h⟩
theorem Gr.trans {w w1 w2 : World} {v v1 v2 : Value} (h : Gr w v w1 v1) (k : Gr w1 v1 w2 v2) : Gr w v w2 v2 := by
  refine ⟨⟨k.1.os.trans h.1.os, k.1.tape.trans h.1.tape, k.1.output.trans h.1.output, Nat.le_trans h.1.size k.1.size, fun b hb hne => ?_⟩, fun g hg => ?_⟩
  · refine (k.1.block b (Nat.lt_of_lt_of_le hb h.1.size) fun e => ?_).trans (h.1.block b hb hne)
    rcases h.2 b e.symm with h' | h'
    · exact hne h'.symm
    · omega
  · rcases k.2 g hg with h' | h'
    · exact h.2 g h'
    · exact .inr (Nat.le_trans h.1.size h')
theorem Gr.below {w w' : World} {v v' : Value} {base : Nat} (h : Gr w v w' v') (hb : base ≤ w.heap.size) (hr : ∀ g, v.ownBlock = some g → base ≤ g) : Below base w w' := (Below.refl _ _).grown h.1 hb hr
/-- A call that keeps all older blocks, ahead of the growth. -/
theorem Gr.pre {w w1 w2 : World} {v v2 : Value} (h : Below w.heap.size w w1) (k : Gr w1 v w2 v2) : Gr w v w2 v2 :=
  ⟨⟨k.1.os.trans h.os, k.1.tape.trans h.tape, k.1.output.trans h.output, Nat.le_trans h.size k.1.size, fun b hb hne => (k.1.block b (Nat.lt_of_lt_of_le hb h.size) hne).trans (h.block b hb)⟩,
    fun g hg => (k.2 g hg).imp id (fun h' => Nat.le_trans h.size h')⟩
theorem Gr.post {w w1 w2 : World} {v v1 : Value} (h : Gr w v w1 v1) (k : Below w1.heap.size w1 w2) : Gr w v w2 v1 :=
  ⟨⟨k.os.trans h.1.os, k.tape.trans h.1.tape, k.output.trans h.1.output, Nat.le_trans h.1.size k.size, fun b hb hne => (k.block b (Nat.lt_of_lt_of_le hb h.1.size)).trans (h.1.block b hb hne)⟩, h.2⟩
theorem OwL.later {w w' : World} {base : Nat} {v : Value} {l : List Nat} (h : OwL w base v l) (g : Below w.heap.size w w') : OwL w' base v l :=
  World.ownsRow.kept (row := none) h ⟨g.os, g.tape, g.output, g.size, fun k hk _ => g.block k hk⟩ (by cases hv : v.ownBlock <;> simp)
theorem OwL.own {w : World} {base : Nat} {v : Value} {l : List Nat} (h : OwL w base v l) : ∀ g, v.ownBlock = some g → base ≤ g ∧ g < w.heap.size := fun g hg => World.ownsRow.lt h g hg

theorem own_step {w w2 : World} {base g' cap' : Nat} {v : Value} {l m : List Nat} {o : Obj} (hb : base ≤ w.heap.size) (ho : OwL w base v l)
    (hown' : w2.ownsRow base 5 1 (.slice (some ⟨g', 0, none⟩) (l.length + m.length) cap') (l.length + m.length) (cl l ++ cl m)) (hgrow : (w.alloc o).grownBy w2 v.ownBlock)
    (hat : v.ownBlock = some g' ∨ g' = w.heap.size + 1) :
    OwL w2 base (.slice (some ⟨g', 0, none⟩) (l ++ m).length cap') (l ++ m) ∧ Gr w v w2 (.slice (some ⟨g', 0, none⟩) (l ++ m).length cap') ∧ base ≤ w2.heap.size := by
  have hz := hgrow.size
  simp at hz
  refine ⟨?_, ⟨⟨hgrow.os, hgrow.tape, hgrow.output, by omega, fun b hb hne => ?_⟩, fun g hg => ?_⟩, by omega⟩
  · unfold OwL
    rw [cl_app, List.length_append]
    exact hown'
  · rw [hgrow.block b (by simp; omega) hne, Below.heap_alloc w o b hb]
  · simp [Value.ownBlock] at hg
    subst hg
    rcases hat with h | h
    · exact .inl h
    · exact .inr (by omega)
theorem cell_two18 (w : World) (x y : Value) (t : TypeId) : ∀ j u, [x, y][j]? = some u → (w.alloc (.cells #[x, y] t)).cell? ((⟨w.heap.size, 0, none⟩ : Addr).add j) = some u := by
  intro j u hj
  match j, hj with
  | 0, hj => simp at hj; subst hj; simp [Addr.add]
  | 1, hj => simp at hj; subst hj; simp [Addr.add]
  | j + 2, hj => simp at hj

end Go.Proofs.Ytjogmhicehlboaa
/- Operands as bytes: the program. -/
namespace Go.Proofs.Ytjogmhicehlboaa
open Go.RowKit Go.Shelf
set_option linter.unusedVariables false
set_option linter.unusedSimpArgs false

/-- The bytes of an operand. -/
def opdL (x : ArgT) : List Nat := nbL x.1 1 ++ nbL x.2.1 (wdT x.1) ++ (if x.1 = 12 then nbL x.2.2 1 else [])
theorem wd_fit {x : ArgT} (h : fitA x = true) : wdT x.1 = 1 ∨ wdT x.1 = 2 ∨ wdT x.1 = 4 := by
  unfold fitA fitB at h
  unfold wdT
  by_cases h1 : x.1 < 1 ∨ 13 < x.1
  · rw [if_pos h1] at h; cases h
  · rw [if_neg h1]
    by_cases h2 : x.1 = 12
    · rw [if_pos h2]; omega
    · rw [if_neg h2]
      by_cases h3 : x.1 = 11
      · rw [if_pos h3]; omega
      · rw [if_neg h3]; omega
/-- A box beside the row that grows. -/
def BoxR (B : Nat) (o : Obj) (v : Value) (W : World) : Prop := W.heap[B]? = some o ∧ v.ownBlock ≠ some B
theorem BoxR.lt {B : Nat} {o : Obj} {v : Value} {W : World} (h : BoxR B o v W) : B < W.heap.size := (Array.getElem?_eq_some_iff.1 h.1).1
theorem BoxR.gr {B : Nat} {o : Obj} {v v' : Value} {W W' : World} (h : BoxR B o v W) (g : Gr W v W' v') : BoxR B o v' W' := by
  have hl := h.lt
  refine ⟨(g.1.block B hl (fun e => h.2 e.symm)).trans h.1, fun e => ?_⟩
  rcases g.2 B e with h' | h'
  · exact h.2 h'
  · omega
theorem BoxR.later {B : Nat} {o : Obj} {v : Value} {W W' : World} (h : BoxR B o v W) (g : Below W.heap.size W W') : BoxR B o v W' := ⟨(g.block B h.lt).trans h.1, h.2⟩
theorem BoxR.new (w : World) (o : Obj) {base : Nat} {v : Value} {l : List Nat} (h : OwL w base v l) : BoxR w.heap.size (match o with | .cells c t f => .cells c t f | x => x) v (w.alloc o) := by
  refine ⟨?_, fun e => ?_⟩
  · rw [heap_alloc_last]; cases o <;> rfl
  · have := (h.own _ e).2; omega
theorem cellsQ3 {W : World} {B : Nat} {x y z : Value} {t : TypeId} (h : W.heap[B]? = some (.cells #[x, y, z] t (0, 0))) : W.cell? ⟨B, 0, none⟩ = some x ∧ W.cell? ⟨B, 1, none⟩ = some y ∧ W.cell? ⟨B, 2, none⟩ = some z :=
  ⟨(cell_of_row _ _ _ _ _ _ h).trans rfl, (cell_of_row _ _ _ _ _ _ h).trans rfl, (cell_of_row _ _ _ _ _ _ h).trans rfl⟩

end Go.Proofs.Ytjogmhicehlboaa
/- Instructions as bytes: the program. -/
namespace Go.Proofs.Ytjogmhicehlboaa
open Go.RowKit Go.Shelf
set_option linter.unusedVariables false
set_option linter.unusedSimpArgs false

def opdsL (xs : List ArgT) : List Nat := (xs.map opdL).flatten
/-- The bytes of an instruction. -/
def insL (i : InstT) : List Nat := nbL i.code 1 ++ (if hasB i.code then nbL i.one.op 1 ++ opdsL i.one.args else [])
theorem opdL_len (x : ArgT) : (opdL x).length ≤ 6 := by
  have hw : wdT x.1 ≤ 4 := by unfold wdT; split <;> (try omega); split <;> (try omega); split <;> omega
  unfold opdL
  rw [List.length_append, List.length_append, nbL_len, nbL_len]
  by_cases h : x.1 = 12
  · rw [if_pos h, nbL_len]; omega
  · rw [if_neg h]; simp; omega
theorem opdsL_len (xs : List ArgT) : (opdsL xs).length ≤ 6 * xs.length := by
  induction xs with
  | nil => simp [opdsL]
  | cons x xs ih =>
    have := opdL_len x
    simp only [opdsL, List.map_cons, List.flatten_cons, List.length_append, List.length_cons] at ih ⊢
    omega
theorem opdsL_snoc (xs : List ArgT) (k : Nat) (x : ArgT) (h : xs[k]? = some x) : opdsL (xs.take (k + 1)) = opdsL (xs.take k) ++ opdL x := by
  have hk : k < xs.length := (List.getElem?_eq_some_iff.1 h).1
  rw [List.take_succ_eq_append_getElem hk, show xs[k] = x from Option.some.inj ((List.getElem?_eq_getElem hk).symm.trans h)]
  simp [opdsL]

end Go.Proofs.Ytjogmhicehlboaa
/- The first fault of a list: the program's picWrong. -/
namespace Go.Proofs.Ytjogmhicehlboaa
open Go.RowKit Go.Shelf
set_option linter.unusedVariables false
set_option linter.unusedSimpArgs false

/-- The first instruction that cannot be written, counted from j. -/
def fwA : List InstT → Nat → Int × Nat
  | [], _ => (0, 0)
  | x :: xs, j => if wrT x = 0 then fwA xs (j + 1) else (wrT x, j)
theorem fw_step {xs : List InstT} {k : Nat} {x : InstT} (h : xs[k]? = some x) : fwA (xs.drop k) k = if wrT x = 0 then fwA (xs.drop (k + 1)) (k + 1) else (wrT x, k) := by
  have hk := (List.getElem?_eq_some_iff.1 h).1
  rw [List.drop_eq_getElem_cons hk, show xs[k] = x from Option.some.inj ((List.getElem?_eq_getElem hk).symm.trans h)]
  rfl
theorem fw_end (xs : List InstT) (k : Nat) (h : xs.length ≤ k) : fwA (xs.drop k) k = (0, 0) := by rw [List.drop_eq_nil_of_le h]; rfl
theorem fw_zero : ∀ (xs : List InstT) (j : Nat), (fwA xs j).1 = 0 → ∀ x ∈ xs, wrT x = 0
  | [], _, _, x, hx => by cases hx
  | y :: ys, j, h, x, hx => by
    unfold fwA at h
    by_cases hy : wrT y = 0
    · rw [if_pos hy] at h
      rcases List.mem_cons.1 hx with rfl | hx
      · exact hy
      · exact fw_zero ys (j + 1) h x hx
    · rw [if_neg hy] at h
      exact absurd h hy
theorem fw_at : ∀ (xs : List InstT) (j : Nat), (fwA xs j).1 = 0 → fwA xs j = (0, 0)
  | [], _, _ => rfl
  | y :: ys, j, h => by
    unfold fwA at h ⊢
    by_cases hy : wrT y = 0
    · rw [if_pos hy] at h ⊢; exact fw_at ys (j + 1) h
    · rw [if_neg hy] at h; exact absurd h hy
/-- What is wrong with a list. -/
def pfT (xs : List InstT) : Int × Nat := if 1000 < xs.length then (1, 0) else fwA xs 0

/-- Instructions at a slice. -/
def SlI (W : World) (a : Option Addr) (xs : List InstT) : Prop := ∀ j x, xs[j]? = some x → ∃ b o a' c', a = some ⟨b, o, none⟩ ∧ b < W.heap.size ∧ W.cell? ⟨b, o + j * 3, none⟩ = some (.int .i64 x.code) ∧ W.cell? ⟨b, o + j * 3 + 1, none⟩ = some (.int .i64 x.one.op) ∧ W.cell? ⟨b, o + j * 3 + 2, none⟩ = some (.slice a' x.one.args.length c') ∧ x.one.args.length ≤ 9223372036854775807 ∧ SlA W a' x.one.args
theorem SlI.later {W W' : World} {B : Nat} {a : Option Addr} {xs : List InstT} (h : SlI W a xs) (g : Below B W W') (hB : W.heap.size ≤ B) : SlI W' a xs := fun j x hx => by
  obtain ⟨b, o, a', c', h1, h2, h3, h4, h5, h6, h7⟩ := h j x hx
  exact ⟨b, o, a', c', h1, Nat.lt_of_lt_of_le h2 g.size, (g.cell (p := ⟨b, _, none⟩) (by show b < B; omega)).trans h3, (g.cell (p := ⟨b, _, none⟩) (by show b < B; omega)).trans h4, (g.cell (p := ⟨b, _, none⟩) (by show b < B; omega)).trans h5, h6, h7.later g hB⟩
theorem slI_of {W : World} {lo : Nat} {v : Value} {xs : List InstT} (h : InstsIs W lo v xs) : ∃ a c, v = .slice a xs.length c ∧ xs.length ≤ 9223372036854775807 ∧ SlI W a xs := by
  obtain ⟨a, c, h1, h2, h3⟩ := h
  refine ⟨a, c, h1, h2, fun j x hx => ?_⟩
  obtain ⟨b, o, cs, e1, _, _, hr, v', hc, hv'⟩ := h3 j x hx
  obtain ⟨a', c', rfl, hm', hs'⟩ := slA_of hv'
  subst hc
  have c0 := hr 0 _ rfl
  exact ⟨b, o, a', c', e1, World.block_lt_of_cell? _ _ c0, c0, hr 1 _ rfl, hr 2 _ rfl, hm', hs'⟩
/-- A box of two numbers that may be written. -/
theorem box2 {W : World} {B : Nat} {x y : Value} {t : TypeId} (h : W.heap[B]? = some (.cells #[x, y] t (0, 0))) : W.cell? ⟨B, 0, none⟩ = some x ∧ W.cell? ⟨B, 1, none⟩ = some y ∧ W.frozen? ⟨B, 0, none⟩ = false ∧ W.frozen? ⟨B, 1, none⟩ = false :=
  ⟨(cell_of_row _ _ _ _ _ _ h).trans rfl, (cell_of_row _ _ _ _ _ _ h).trans rfl, by simp [World.frozen?, h], by simp [World.frozen?, h]⟩
theorem infoPF : (Try.prog.info? 54).map (·.size) = some 2 := by kernel_rfl

end Go.Proofs.Ytjogmhicehlboaa
/- Numbers as bytes: the specification's l17Num. -/
namespace Go.Proofs.Ytjogmhicehlboaa
open Go.RowKit Go.Shelf
set_option linter.unusedVariables false
set_option linter.unusedSimpArgs false

/-- The byte of a number at a place. -/
def nbF (v : Int) (n j : Nat) : Nat := (v / 256 ^ (n - 1 - j) % 256).toNat
theorem nbF_lt (v : Int) (n j : Nat) : nbF v n j < 256 := by unfold nbF; omega
theorem nbL_get (n : Nat) : ∀ (v : Int) (j : Nat), j < n → (nbL v n)[j]? = some (nbF v n j) := by
  induction n with
  | zero => intro v j h; omega
  | succ n ih =>
    intro v j h
    unfold nbL
    by_cases e : j = n
    · subst e
      rw [List.getElem?_append_right (by rw [nbL_len]; omega), nbL_len]
      simp [nbF]
    · rw [List.getElem?_append_left (by rw [nbL_len]; omega), ih (v / 256) j (by omega)]
      unfold nbF
      rw [show n + 1 - 1 - j = (n - 1 - j) + 1 by omega, Int.pow_succ, Int.mul_comm ((256 : Int) ^ (n - 1 - j)) 256, ← Int.ediv_ediv_of_nonneg (by decide)]
theorem tm256 (V : Int) : (0 ≤ V.tmod 256 ∧ V.tmod 256 = V % 256) ∨ (V.tmod 256 < 0 ∧ V.tmod 256 + 256 = V % 256) := by
  rw [Int.tmod_eq_emod]
  by_cases h : 0 ≤ V ∨ (256 : Int) ∣ V
  · rw [if_pos h]; left; omega
  · rw [if_neg h]
    have : ¬ (256 : Int) ∣ V := fun h' => h (.inr h')
    right
    have e : (((256 : Int).natAbs : Nat) : Int) = 256 := rfl
    omega
theorem td256 (V : Int) : (V - V % 256).tdiv 256 = V / 256 := by
  rw [show V - V % 256 = 256 * (V / 256) by omega]
  exact Int.mul_tdiv_cancel_left _ (by decide)
theorem ed_bd (v : Int) (k : Nat) (h : -1099511627776 ≤ v ∧ v ≤ 1099511627776) : -1099511627776 ≤ v / 256 ^ k ∧ v / 256 ^ k ≤ 1099511627776 := by
  have hp : (0 : Int) < 256 ^ k := Int.pow_pos (by decide)
  refine ⟨?_, ?_⟩
  · refine Int.le_ediv_of_mul_le hp ?_
    have : (-1099511627776 : Int) * 256 ^ k ≤ -1099511627776 * 1 := by omega
    omega
  · by_cases h0 : 0 ≤ v
    · have := Int.ediv_le_self ((256 : Int) ^ k) h0; omega
    · have := Int.ediv_neg_of_neg_of_pos (by omega : v < 0) hp; omega

set_option maxRecDepth 10000 in
set_option maxHeartbeats 4000000 in
theorem num_s (v : Int) (n : Nat) (w : World) (hv : -1099511627776 ≤ v ∧ v ≤ 1099511627776) (hn : n ≤ 4) :
    Calls Try.prog 38 #[.int .i64 v, .int .i64 (n : Nat)] w fun e w' => e = .returned (.slice (some ⟨w.heap.size, 0, none⟩) n n) ∧ By w' w.heap.size n (nbF v n) ∧ Below w.heap.size w w' := by
  have hmk := run_make_row' (P := Try.prog) 22 5 (.int .u8 0) 1 Try.underlying22 infoU8 rfl .i64 .i64 n (by omega) (by omega)
  have r1 := By.made w n
  have b1 : Below w.heap.size w (w.alloc (.cells (madeCells #[.int .u8 0] n) 5)) := (Below.refl _ _).alloc (Nat.le_refl _) _
  go_enter Try.func38, Try.ntmps38
  go_wp2
  generalize (w.alloc (.cells (madeCells #[.int .u8 0] n) 5)) = W1 at r1 b1 ⊢
  clear hmk
  go_loopw [0, 6, 7] (fun vv i _ wr => ∃ (k : Nat) (V : Int), k ≤ n ∧ i = .int .i64 ((n : Int) - 1 - k) ∧ vv = .int .i64 V ∧ Hid (V = v / 256 ^ k) ∧ By wr w.heap.size n (fun j => if n ≤ j + k then nbF v n j else 0) ∧ Below w.heap.size w wr)
    (fun _ i _ _ => (intOf i + 1).toNat)
  case atStart => exact ⟨0, v, Nat.zero_le _, by go_num, rfl, by show v = v / 256 ^ 0; simp, r1.congr (fun j hj => by rw [if_neg (by omega)]), b1⟩
  case round =>
    clear r1 b1
    obtain ⟨k, V, hk, rfl, rfl, HV, hR, hb⟩ := hrel
    by_cases hlt : k < n
    · obtain ⟨K, hK⟩ : ∃ K : Nat, K + k + 1 = n := ⟨n - 1 - k, by omega⟩
      have eK : (n : Int) - 1 - k = (K : Int) := by omega
      rw [eK]
      clear eK
      have bV : -1099511627776 ≤ V ∧ V ≤ 1099511627776 := by rw [HV.out]; exact ed_bd v k hv
      have hT := tm256 V
      have hQ := td256 V
      have HQ2 : Hid (V / 256 = v / 256 ^ (k + 1)) := (by rw [HV.out, Int.pow_succ, Int.ediv_ediv_of_nonneg (Int.le_of_lt (Int.pow_pos (by decide)))] : V / 256 = v / 256 ^ (k + 1))
      have HD2 : Hid ((nbF v n K : Int) = V % 256) := (by unfold nbF; rw [HV.out, show n - 1 - K = k by omega]; omega : (nbF v n K : Int) = V % 256)
      have hf := hR.frz K
      have hc := hR.cell K (by omega)
      rw [if_neg (by omega)] at hc
      obtain ⟨D, hD⟩ : ∃ D, nbF v n K = D := ⟨_, rfl⟩
      obtain ⟨Q, hQd⟩ : ∃ Q, V / 256 = Q := ⟨_, rfl⟩
      have bQ : -1099511627776 ≤ Q ∧ Q ≤ 1099511627776 := by omega
      have bD : D < 256 := by rw [← hD]; exact nbF_lt v n K
      have HNew : Hid (∀ W, W = wr.setCell ⟨w.heap.size, K, none⟩ (.int .u8 (D : Nat)) → By W w.heap.size n (fun j => if n ≤ j + (k + 1) then nbF v n j else 0) ∧ Below w.heap.size w W) := (fun W hW => by
        subst hW
        refine ⟨(hR.set K (by omega) D).congr fun j hj => ?_, bel_set hb (Nat.le_refl _) _ _⟩
        by_cases h1 : j = K
        · subst h1; rw [if_pos rfl, if_pos (by omega), hD]
        · rw [if_neg h1]
          by_cases h2 : n ≤ j + k
          · rw [if_pos h2, if_pos (by omega)]
          · rw [if_neg h2, if_neg (by omega)] : ∀ W, W = wr.setCell ⟨w.heap.size, K, none⟩ (.int .u8 (D : Nat)) → By W w.heap.size n (fun j => if n ≤ j + (k + 1) then nbF v n j else 0) ∧ Below w.heap.size w W)
      rw [hD] at HD2
      rw [hQd] at hQ HQ2
      rw [← HD2.out] at hT hQ
      clear hD hQd HD2 hR hb HV
      rcases hT with ⟨h1, h2⟩ | ⟨h1, h2⟩
      · rw [h2] at h1
        have e1 : ¬ ((D : Int) < 0) := by omega
        have e2 : (D : Int) % 256 = (D : Int) := by omega
        clear h1
        go_wp2
        go_roundw
        case rel => exact ⟨k + 1, Q, by omega, by go_num, rfl, HQ2, (HNew.out _ rfl).1, (HNew.out _ rfl).2⟩
        case measure => simp [intOf]
      · have h3 : V.tmod 256 + 256 = (D : Int) := h2
        obtain ⟨T, hT⟩ : ∃ T, V.tmod 256 = T := ⟨_, rfl⟩
        rw [hT] at h1 h3
        have h4 : T + 256 = (D : Int) := h3
        have e2 : (D : Int) % 256 = (D : Int) := by omega
        clear h2 h3
        go_wp2
        go_roundw
        case rel => exact ⟨k + 1, Q, by omega, by go_num, rfl, HQ2, (HNew.out _ rfl).1, (HNew.out _ rfl).2⟩
        case measure => simp [intOf]
    · have hkn : k = n := by omega
      subst hkn
      have eK : (k : Int) - 1 - k = -1 := by omega
      rw [eK]
      have HR : Hid (By wr w.heap.size k (nbF v k) ∧ Below w.heap.size w wr) := ⟨hR.congr fun j hj => by rw [if_pos (by omega)], hb⟩
      clear hR hb eK HV
      go_wp2
      go_ret
      exact ⟨rfl, HR.out⟩
end Go.Proofs.Ytjogmhicehlboaa
/- Instructions as bytes: the specification's l17Inst. -/
namespace Go.Proofs.Ytjogmhicehlboaa
open Go.RowKit Go.Shelf
set_option linter.unusedVariables false
set_option linter.unusedSimpArgs false

theorem cl_get {l : List Nat} {j : Nat} {u : Value} (h : (cl l)[j]? = some u) : ∃ b, l[j]? = some b ∧ u = .int .u8 (b : Nat) := by
  unfold cl at h
  rw [List.getElem?_map] at h
  cases hb : l[j]? with
  | none => rw [hb] at h; cases h
  | some b => rw [hb] at h; exact ⟨b, rfl, (Option.some.inj h).symm⟩
theorem cl_one (l : List Nat) : ∀ u ∈ cl l, u.oneCell' = true := by
  intro u hu
  simp [cl] at hu
  obtain ⟨b, _, rfl⟩ := hu
  rfl
theorem by_cl {w : World} {g n : Nat} {f : Nat → Nat} {l : List Nat} (h : By w g n f) (hl : ∀ j b, l[j]? = some b → j < n ∧ b = f j) : ∀ j u, (cl l)[j]? = some u → w.cell? ((⟨g, 0, none⟩ : Addr).add j) = some u := by
  intro j u hu
  obtain ⟨b, hb, rfl⟩ := cl_get hu
  obtain ⟨h1, rfl⟩ := hl j b hb
  have := h.cell j h1
  by_cases h0 : j = 0
  · subst h0; simpa [Addr.add] using this
  · simpa [Addr.add, h0] using this
theorem own_made (w : World) (base : Nat) (hb : base ≤ w.heap.size) (l : List Nat) (hl : l.length ≤ 1000000) : OwL (w.alloc (.cells (cl l).toArray 5)) base (.slice (some ⟨w.heap.size, 0, none⟩) l.length l.length) l := by
  refine ⟨by rw [cl_len]; omega, .inr ⟨w.heap.size, l.length, (cl l).toArray, rfl, hb, heap_alloc_last _ _, Nat.le_refl _, by unfold maxLen; omega, by simp [cl_len], ?_⟩⟩
  rw [List.take_of_length_le (by simp [cl_len])]
theorem two_below18 {w : World} (o1 o2 : Obj) : Below w.heap.size w ((w.alloc o1).alloc o2) := ((Below.refl _ _).alloc (Nat.le_refl _) _).alloc (by simp) _
theorem fit_bd {x : ArgT} (h : fitA x = true) : (1 ≤ x.1 ∧ x.1 ≤ 13) ∧ (-1099511627776 ≤ x.2.1 ∧ x.2.1 ≤ 1099511627776) := by
  unfold fitA fitB at h
  by_cases h1 : x.1 < 1 ∨ 13 < x.1
  · rw [if_pos h1] at h; cases h
  · rw [if_neg h1] at h
    refine ⟨by omega, ?_⟩
    by_cases h2 : x.1 = 12
    · rw [if_pos h2] at h; have := of_decide_eq_true h; omega
    · rw [if_neg h2] at h
      by_cases h3 : x.1 = 11
      · rw [if_pos h3] at h; have := of_decide_eq_true h; omega
      · rw [if_neg h3] at h; have := of_decide_eq_true h; omega

/-- A row that grows beside two boxes. -/
def St2 (w : World) (o1 : Obj) (B2 : Nat) (o2 : Obj) (v : Value) (l : List Nat) (W : World) : Prop :=
  OwL W w.heap.size v l ∧ BoxR w.heap.size o1 v W ∧ BoxR B2 o2 v W ∧ Below w.heap.size w W ∧ w.heap.size ≤ W.heap.size
theorem St2.gr {w W W' : World} {o1 o2 : Obj} {B2 : Nat} {v v' : Value} {l l' : List Nat} (h : St2 w o1 B2 o2 v l W) (g : Gr W v W' v') (ho : OwL W' w.heap.size v' l') : St2 w o1 B2 o2 v' l' W' :=
  ⟨ho, h.2.1.gr g, h.2.2.1.gr g, h.2.2.2.1.trans (g.below h.2.2.2.2 (fun x hx => (h.1.own x hx).1)), Nat.le_trans h.2.2.2.2 g.1.size⟩
theorem St2.later {w W W' : World} {o1 o2 : Obj} {B2 : Nat} {v : Value} {l : List Nat} (h : St2 w o1 B2 o2 v l W) (g : Below W.heap.size W W') : St2 w o1 B2 o2 v l W' :=
  ⟨h.1.later g, h.2.1.later g, h.2.2.1.later g, h.2.2.2.1.trans (g.mono h.2.2.2.2), Nat.le_trans h.2.2.2.2 g.size⟩
theorem St2.step {w W w2 : World} {o1 o2 : Obj} {B2 g' cap' : Nat} {v : Value} {l m : List Nat} {o : Obj} (h : St2 w o1 B2 o2 v l W)
    (hown' : w2.ownsRow w.heap.size 5 1 (.slice (some ⟨g', 0, none⟩) (l.length + m.length) cap') (l.length + m.length) (cl l ++ cl m)) (hgrow : (W.alloc o).grownBy w2 v.ownBlock)
    (hat : v.ownBlock = some g' ∨ g' = W.heap.size + 1) : St2 w o1 B2 o2 (.slice (some ⟨g', 0, none⟩) (l ++ m).length cap') (l ++ m) w2 := by
  have h2 := own_step h.2.2.2.2 h.1 hown' hgrow hat
  exact h.gr h2.2.1 h2.1
/-- An append without a row of its own ahead. -/
theorem St2.step0 {w W w2 : World} {o1 o2 : Obj} {B2 g' cap' : Nat} {v : Value} {l m : List Nat} (h : St2 w o1 B2 o2 v l W)
    (hown' : w2.ownsRow w.heap.size 5 1 (.slice (some ⟨g', 0, none⟩) (l.length + m.length) cap') (l.length + m.length) (cl l ++ cl m)) (hgrow : W.grownBy w2 v.ownBlock)
    (hat : v.ownBlock = some g' ∨ g' = W.heap.size) : St2 w o1 B2 o2 (.slice (some ⟨g', 0, none⟩) (l ++ m).length cap') (l ++ m) w2 := by
  refine h.gr ⟨hgrow, fun g hg => ?_⟩ ?_
  · simp [Value.ownBlock] at hg
    subst hg
    rcases hat with h | h
    · exact .inl h
    · exact .inr (by omega)
  · unfold OwL
    rw [cl_app, List.length_append]
    exact hown'

set_option maxRecDepth 10000 in
set_option maxHeartbeats 8000000 in
theorem inst_s (c op : Int) (a : Option Addr) (len cap : Nat) (xs : List ArgT) (w : World)
    (hlen : len = xs.length) (hm : len ≤ 3) (hx : SlA w a xs) (hf : hasB c = true → xs.all fitA = true) :
    Calls Try.prog 37 #[.agg #[.int .i64 c, .int .i64 op, .slice a len cap]] w fun e w' => ∃ v', e = .returned v' ∧ OwL w' w.heap.size v' (insL ⟨c, ⟨op, xs⟩⟩) ∧ Below w.heap.size w w' := by
  obtain ⟨i0, hi, hz0, hz1, hz2⟩ := info_parts infoU8
  have HB : Hid (∀ W, Calls Try.prog 41 #[.int .i64 c] W fun e w' => e = .returned (.bool (hasB c)) ∧ W = w') := fun W => has_s c W
  have HX : Hid (SlA w a xs ∧ len = xs.length ∧ len ≤ 3) := ⟨hx, hlen, hm⟩
  obtain ⟨LL, HLL⟩ : ∃ LL, Hid (LL = insL ⟨c, ⟨op, xs⟩⟩) := ⟨_, rfl⟩
  rw [← HLL.out]
  obtain ⟨C, hC, HC⟩ : ∃ C : Nat, c % 256 = (C : Int) ∧ Hid ([C] = nbL c 1) := ⟨(c % 256).toNat, by omega, rfl⟩
  obtain ⟨O, hO, HO⟩ : ∃ C : Nat, op % 256 = (C : Int) ∧ Hid ([C] = nbL op 1) := ⟨(op % 256).toNat, by omega, rfl⟩
  have wC : IntKind.u8.wrap c = (C : Int) := by rw [IntKind.wrap_u8']; exact hC
  have wO : IntKind.u8.wrap op = (O : Int) := by rw [IntKind.wrap_u8']; exact hO
  have HW1 : Hid (∀ W0, W0 = w.alloc (.cells #[.int .i64 c, .int .i64 op, .slice a len cap] 65) → OwL (W0.alloc (.cells #[.int .u8 (C : Nat)] 5)) w.heap.size (.slice (some ⟨w.heap.size + 1, 0, none⟩) 1 1) [C] ∧ BoxR w.heap.size (.cells #[.int .i64 c, .int .i64 op, .slice a len cap] 65 (0, 0)) (.slice (some ⟨w.heap.size + 1, 0, none⟩) 1 1) (W0.alloc (.cells #[.int .u8 (C : Nat)] 5)) ∧ Below w.heap.size w (W0.alloc (.cells #[.int .u8 (C : Nat)] 5))) := by
    intro W0 hW
    subst hW
    have hz : (w.alloc (.cells #[.int .i64 c, .int .i64 op, .slice a len cap] 65)).heap.size = w.heap.size + 1 := by simp
    have h := own_made (w.alloc (.cells #[.int .i64 c, .int .i64 op, .slice a len cap] 65)) w.heap.size (by omega) [C] (by simp)
    rw [hz] at h
    refine ⟨h, ⟨?_, ?_⟩, two_below18 _ _⟩
    · rw [Below.heap_alloc _ _ _ (by simp), heap_alloc_last]
    · simp [Value.ownBlock]
  clear hlen hm hx
  cases hh : hasB c with
  | false =>
    rw [hh] at HB
    have HE : Hid (LL = [C]) := (by rw [HLL.out, HC.out]; unfold insL; simp only [hh]; simp : LL = [C])
    clear hf hh HLL
    go_enter Try.func37, Try.ntmps37
    go_upto_region 2 with fail
    have HW2 := HW1.out _ rfl
    have hzz : (w.alloc (.cells #[.int .i64 c, .int .i64 op, .slice a len cap] 65)).heap.size = w.heap.size + 1 := by simp
    generalize ((w.alloc (.cells #[.int .i64 c, .int .i64 op, .slice a len cap] 65)).alloc (.cells #[.int .u8 (C : Nat)] 5)) = W1 at HW2 ⊢
    have R1 : Hid (OwL W1 w.heap.size (.slice (some ⟨w.heap.size + 1, 0, none⟩) 1 1) [C] ∧ BoxR w.heap.size (.cells #[.int .i64 c, .int .i64 op, .slice a len cap] 65 (0, 0)) (.slice (some ⟨w.heap.size + 1, 0, none⟩) 1 1) W1 ∧ Below w.heap.size w W1) := HW2
    clear HW2 HW1 hzz
    obtain ⟨p0, p1, p2⟩ := cellsQ3 R1.out.2.1.1
    go_wp2_with fail
    refine (HB.out _).mono ?_
    rintro e w1 ⟨rfl, rfl⟩
    have HFin : Hid (OwL W1 w.heap.size (.slice (some ⟨w.heap.size + 1, 0, none⟩) 1 1) LL ∧ Below w.heap.size w W1) := ⟨by rw [HE.out]; exact R1.out.1, R1.out.2.2⟩
    clear R1
    go_wp2
    go_ret
    exact ⟨_, rfl, HFin.out⟩
  | true =>
    rw [hh] at HB
    have hf' := hf hh
    have HE : Hid (LL = [C] ++ [O] ++ opdsL xs) := (by rw [HLL.out, HC.out, HO.out]; unfold insL; simp only [hh]; simp : LL = [C] ++ [O] ++ opdsL xs)
    have HF : Hid (∀ j x, xs[j]? = some x → fitA x = true) := (fun j x hx => List.all_eq_true.1 hf' x (List.mem_of_getElem? hx) : ∀ j x, xs[j]? = some x → fitA x = true)
    clear hf hf' hh HLL
    go_enter Try.func37, Try.ntmps37
    go_upto_region 2 with fail
    have HW2 := HW1.out _ rfl
    have hzz : (w.alloc (.cells #[.int .i64 c, .int .i64 op, .slice a len cap] 65)).heap.size = w.heap.size + 1 := by simp
    generalize ((w.alloc (.cells #[.int .i64 c, .int .i64 op, .slice a len cap] 65)).alloc (.cells #[.int .u8 (C : Nat)] 5)) = W1 at HW2 ⊢
    have R1 : Hid (OwL W1 w.heap.size (.slice (some ⟨w.heap.size + 1, 0, none⟩) 1 1) [C] ∧ BoxR w.heap.size (.cells #[.int .i64 c, .int .i64 op, .slice a len cap] 65 (0, 0)) (.slice (some ⟨w.heap.size + 1, 0, none⟩) 1 1) W1 ∧ Below w.heap.size w W1) := HW2
    clear HW2 HW1 hzz
    obtain ⟨p0, p1, p2⟩ := cellsQ3 R1.out.2.1.1
    go_wp2_with fail
    refine (HB.out _).mono ?_
    rintro e w1 ⟨rfl, rfl⟩
    go_wp2_with (at_builtin; refine wpList_append_lies _ rfl _ _ 22 rfl w.heap.size 5 i0 (.int .u8 0) 1 1 Try.underlying22 hi hz0 hz1 hz2 rfl (by decide) _ 1 (cl [C]) rfl (R1.out.1.alloc _) ⟨W1.heap.size, 0, none⟩ 1 1 [.int .u8 (O : Nat)] rfl rfl (cell_one_new _ _ _) ?c2 (by decide) ?c3 ?c4 ?c5 _ rfl ?_)
    case c2 => first | rfl | (intro u hu; simp at hu; subst hu; rfl)
    case c3 => unfold maxLen; omega
    case c4 => omega
    case c5 => have := R1.out.2.2.size; simp; omega
    intro g' cap' w2 hown' hgrow hat hlt'
    have h2 := own_step (m := [O]) R1.out.2.2.size R1.out.1 hown' hgrow hat
    have R2 : Hid (OwL w2 w.heap.size (.slice (some ⟨g', 0, none⟩) (1 + 1) cap') ([C] ++ [O] ++ opdsL (xs.take 0)) ∧ BoxR w.heap.size (.cells #[.int .i64 c, .int .i64 op, .slice a len cap] 65 (0, 0)) (.slice (some ⟨g', 0, none⟩) (1 + 1) cap') w2 ∧ Below w.heap.size w w2 ∧ w.heap.size ≤ w2.heap.size) :=
      ⟨by rw [List.take_zero]; simpa [opdsL] using h2.1, R1.out.2.1.gr h2.2.1, R1.out.2.2.trans (h2.2.1.below R1.out.2.2.size (fun g hg => (R1.out.1.own g hg).1)), h2.2.2⟩
    clear hown' hgrow hat hlt' h2 R1 p0 p1 p2
    obtain ⟨p0, p1, p2⟩ := cellsQ3 R2.out.2.1.1
    go_wp2
    clear p0 p1 p2
    go_loopw [3, 4, 5] (fun vv i _ wr => ∃ k : Nat, k ≤ len ∧ i = .int .i64 k ∧ Hid (OwL wr w.heap.size vv ([C] ++ [O] ++ opdsL (xs.take k)) ∧ BoxR w.heap.size (.cells #[.int .i64 c, .int .i64 op, .slice a len cap] 65 (0, 0)) vv wr ∧ Below w.heap.size w wr ∧ w.heap.size ≤ wr.heap.size)) (fun _ i _ _ => len - (intOf i).toNat)
    case atStart => exact ⟨0, Nat.zero_le _, rfl, R2.out⟩
    case round =>
      clear R2
      obtain ⟨k, hk, rfl, HR⟩ := hrel
      have ik3 : len ≤ 3 := HX.out.2.2
      obtain ⟨p0, p1, p2⟩ := cellsQ3 HR.out.2.1.1
      by_cases hlt : k < len
      · have ik : (k : Int) < (len : Int) := by omega
        obtain ⟨x, hxk⟩ : ∃ x, xs[k]? = some x := ⟨_, List.getElem?_eq_getElem (by have := HX.out.2.1; omega)⟩
        obtain ⟨b, o, rfl, hb, c0, c1, c2⟩ := (HX.out.1.later HR.out.2.2.1 (Nat.le_refl _)) k x hxk
        have HS : Hid (opdsL (xs.take (k + 1)) = opdsL (xs.take k) ++ opdL x) := opdsL_snoc xs k x hxk
        have hfx := HF.out k x hxk
        obtain ⟨xk, xn, xp⟩ := x
        simp only [] at c0 c1 c2
        clear hxk hb
        have hbd := fit_bd hfx
        have hwd := wd_fit hfx
        simp only [] at hbd hwd
        obtain ⟨l0, Hl0⟩ : ∃ l0, Hid (l0 = [C] ++ [O] ++ opdsL (xs.take k)) := ⟨_, rfl⟩
        have Hlen : Hid (l0.length ≤ 100) := (by
          have h1 := opdsL_len (xs.take k)
          rw [Hl0.out, List.length_append, List.length_append]
          rw [List.length_take] at h1
          simp only [List.length_singleton]
          omega : l0.length ≤ 100)
        obtain ⟨K1, hK1, HK1⟩ : ∃ C : Nat, xk % 256 = (C : Int) ∧ Hid ([C] = nbL xk 1) := ⟨(xk % 256).toNat, by omega, rfl⟩
        have wK1 : IntKind.u8.wrap xk = (K1 : Int) := by rw [IntKind.wrap_u8']; exact hK1
        obtain ⟨P1, hP1, HP1⟩ : ∃ C : Nat, xp % 256 = (C : Int) ∧ Hid ([C] = nbL xp 1) := ⟨(xp % 256).toNat, by omega, rfl⟩
        have wP1 : IntKind.u8.wrap xp = (P1 : Int) := by rw [IntKind.wrap_u8']; exact hP1
        obtain ⟨m, Hm⟩ : ∃ m, Hid (m = wdT xk) := ⟨_, rfl⟩
        have hm4 : 0 < m ∧ m ≤ 4 := by rw [Hm.out]; omega
        have HWd : Hid (∀ W, Calls Try.prog 48 #[.int .i64 xk] W fun e w' => e = .returned (.int .i64 (m : Nat)) ∧ W = w') := fun W => by rw [Hm.out]; exact wd_s xk W hbd.1.1 hbd.1.2
        have HNum : Hid (∀ W, Calls Try.prog 38 #[.int .i64 xn, .int .i64 (m : Nat)] W fun e w' => e = .returned (.slice (some ⟨W.heap.size, 0, none⟩) m m) ∧ By w' W.heap.size m (nbF xn m) ∧ Below W.heap.size W w') := fun W => num_s xn m W hbd.2 (by omega)
        have R8 : Hid (St2 w (.cells #[.int .i64 c, .int .i64 op, .slice (some ⟨b, o, none⟩) len cap] 65 (0, 0)) wr.heap.size (.cells #[.int .i64 xk, .int .i64 xn, .int .i64 xp] 71 (0, 0)) u3 l0 (wr.alloc (.cells #[.int .i64 xk, .int .i64 xn, .int .i64 xp] 71))) := by
          have gA : Below wr.heap.size wr (wr.alloc (.cells #[.int .i64 xk, .int .i64 xn, .int .i64 xp] 71)) := (Below.refl _ _).alloc (Nat.le_refl _) _
          refine ⟨by rw [Hl0.out]; exact HR.out.1.later gA, HR.out.2.1.later gA, BoxR.new wr _ HR.out.1, HR.out.2.2.1.trans (gA.mono HR.out.2.2.2), Nat.le_trans HR.out.2.2.2 gA.size⟩
        obtain ⟨B2, hB2⟩ : ∃ B2, wr.heap.size = B2 := ⟨_, rfl⟩
        have HFin1 : Hid (opdL (xk, xn, xp) = [K1] ++ nbL xn m ++ (if xk = 12 then [P1] else [])) := (by unfold opdL; rw [HK1.out, HP1.out, Hm.out] : opdL (xk, xn, xp) = [K1] ++ nbL xn m ++ (if xk = 12 then [P1] else []))
        clear hbd hwd hfx HR
        go_upto_region 9 with fail
        generalize (wr.alloc (.cells #[.int .i64 xk, .int .i64 xn, .int .i64 xp] 71)) = W8 at R8 ⊢
        rw [hB2] at R8
        clear hB2 c0 c1 c2 p0 p1 p2
        obtain ⟨p0, p1, p2⟩ := cellsQ3 R8.out.2.2.1.1
        go_wp2_with (at_builtin; refine wpList_append_lies _ rfl _ _ 22 rfl w.heap.size 5 i0 (.int .u8 0) 1 1 Try.underlying22 hi hz0 hz1 hz2 rfl (by decide) _ l0.length (cl l0) rfl (R8.out.1.alloc _) ⟨W8.heap.size, 0, none⟩ 1 1 [.int .u8 (K1 : Nat)] rfl rfl (cell_one_new _ _ _) ?c2 (by decide) ?c3 ?c4 ?c5 _ rfl ?_)
        case c2 => first | rfl | (intro u hu; simp at hu; subst hu; rfl)
        case c3 => have := Hlen.out; unfold maxLen; omega
        case c4 => have := Hlen.out; omega
        case c5 => have := R8.out.2.2.2.2; simp; omega
        intro g9 cap9 w9 hown' hgrow hat hlt'
        have h9 := R8.out.step (m := [K1]) hown' hgrow hat
        obtain ⟨l1, hl1, Hl1⟩ : ∃ l1, l0.length + 1 = l1.length ∧ Hid (l1 = l0 ++ [K1]) := ⟨_, by simp, rfl⟩
        rw [← Hl1.out] at h9
        have R9 : Hid (St2 w (.cells #[.int .i64 c, .int .i64 op, .slice (some ⟨b, o, none⟩) len cap] 65 (0, 0)) B2 (.cells #[.int .i64 xk, .int .i64 xn, .int .i64 xp] 71 (0, 0)) (.slice (some ⟨g9, 0, none⟩) l1.length cap9) l1 w9) := h9
        have Hlen1 : Hid (l1.length ≤ 101) := (by have := Hlen.out; omega : l1.length ≤ 101)
        rw [hl1]
        clear hown' hgrow hat hlt' h9 R8 hl1 p0 p1 p2
        obtain ⟨p0, p1, p2⟩ := cellsQ3 R9.out.2.2.1.1
        have HNumR : Hid (∀ W, Below w9.heap.size w9 W → Calls Try.prog 38 #[.int .i64 xn, .int .i64 (m : Nat)] W fun e w' => ∃ g, e = .returned (.slice (some ⟨g, 0, none⟩) m m) ∧ St2 w (.cells #[.int .i64 c, .int .i64 op, .slice (some ⟨b, o, none⟩) len cap] 65 (0, 0)) B2 (.cells #[.int .i64 xk, .int .i64 xn, .int .i64 xp] 71 (0, 0)) (.slice (some ⟨g9, 0, none⟩) l1.length cap9) l1 w' ∧ (∀ j u, (cl (nbL xn m))[j]? = some u → w'.cell? ((⟨g, 0, none⟩ : Addr).add j) = some u)) := fun W g => (HNum.out W).mono fun e w' ⟨h1, h2, h3⟩ => ⟨_, h1, (R9.out.later g).later h3, by_cl h2 fun j b hb => by
          have hj : j < m := by have := (List.getElem?_eq_some_iff.1 hb).1; rwa [nbL_len] at this
          exact ⟨hj, Option.some.inj (hb.symm.trans (nbL_get m xn j hj))⟩⟩
        clear HNum
        go_upto_region 10 with fail
        go_region_law (first
          | (go_simp; go_at_call 48; refine (HWd.out _).mono ?_; rintro e w10 ⟨rfl, rfl⟩; simp only [])
          | (go_simp; go_at_call 38; refine (HNumR.out _ (by first | exact Below.refl _ _ | exact (Below.refl _ _).drew)).mono ?_; rintro e w10 ⟨g10, rfl, h10, n10⟩; simp only [])
          | (refine step_append_lies _ rfl (.tmp 42) (.tmp 48) 22 rfl w.heap.size 5 i0 (.int .u8 0) 1 1 Try.underlying22 hi hz0 hz1 hz2 rfl (by decide) _ l1.length (cl l1) rfl (by exact h10.1) ⟨g10, 0, none⟩ m m (cl (nbL xn m)) rfl (by rw [cl_len, nbL_len]; omega) (by exact n10) (by exact cl_one _) (by omega) (by have := Hlen1.out; unfold maxLen; omega) (by have := Hlen1.out; omega) (by exact h10.2.2.2.2) _ rfl ?_; intro g11 cap11 w11 hown' hgrow hat hlt'))
        all_goals
          obtain ⟨l2, hl2, Hl2⟩ : ∃ l2, l1.length + m = l2.length ∧ Hid (l2 = l1 ++ nbL xn m) := ⟨_, by rw [List.length_append, nbL_len], rfl⟩
          have h11 := h10.step0 (m := nbL xn m) (by rw [nbL_len]; exact hown') hgrow hat
          rw [← Hl2.out] at h11
          have R11 : Hid (St2 w (.cells #[.int .i64 c, .int .i64 op, .slice (some ⟨b, o, none⟩) len cap] 65 (0, 0)) B2 (.cells #[.int .i64 xk, .int .i64 xn, .int .i64 xp] 71 (0, 0)) (.slice (some ⟨g11, 0, none⟩) l2.length cap11) l2 w11) := h11
          have Hlen2 : Hid (l2.length ≤ 110) := (by have := Hlen1.out; omega : l2.length ≤ 110)
          rw [hl2]
          clear hown' hgrow hat hlt' h10 n10 h11 R9 hl2 p0 p1 p2 HNumR HWd
          obtain ⟨p0, p1, p2⟩ := cellsQ3 R11.out.2.2.1.1
          by_cases h12 : xk = 12
          · subst h12
            go_wp2_with (at_builtin; refine wpList_append_lies _ rfl _ _ 22 rfl w.heap.size 5 i0 (.int .u8 0) 1 1 Try.underlying22 hi hz0 hz1 hz2 rfl (by decide) _ l2.length (cl l2) rfl (R11.out.1.alloc _) ⟨w11.heap.size, 0, none⟩ 1 1 [.int .u8 (P1 : Nat)] rfl rfl (cell_one_new _ _ _) ?c2 (by decide) ?c3 ?c4 ?c5 _ rfl ?_)
            case c2 => first | rfl | (intro u hu; simp at hu; subst hu; rfl)
            case c3 => have := Hlen2.out; unfold maxLen; omega
            case c4 => have := Hlen2.out; omega
            case c5 => have := R11.out.2.2.2.2; simp; omega
            intro g13 cap13 w13 hown' hgrow hat hlt'
            have h13 := R11.out.step (m := [P1]) hown' hgrow hat
            have RF : Hid (OwL w13 w.heap.size (.slice (some ⟨g13, 0, none⟩) (l2.length + 1) cap13) ([C] ++ [O] ++ opdsL (xs.take (k + 1))) ∧ BoxR w.heap.size (.cells #[.int .i64 c, .int .i64 op, .slice (some ⟨b, o, none⟩) len cap] 65 (0, 0)) (.slice (some ⟨g13, 0, none⟩) (l2.length + 1) cap13) w13 ∧ Below w.heap.size w w13 ∧ w.heap.size ≤ w13.heap.size) := by
              have e : [C] ++ [O] ++ opdsL (xs.take (k + 1)) = l2 ++ [P1] := by
                rw [HS.out, HFin1.out, Hl2.out, Hl1.out, Hl0.out]
                first
                  | (rw [if_pos rfl]; simp only [List.append_assoc])
                  | (rw [if_pos trivial]; simp only [List.append_assoc])
              rw [e]
              have hq : (l2 ++ [P1]).length = l2.length + 1 := by simp
              rw [hq] at h13
              exact ⟨h13.1, h13.2.1, h13.2.2.2⟩
            clear hown' hgrow hat hlt' h13 R11 p0 p1 p2
            go_wp2
            go_roundw
            case rel => exact ⟨k + 1, by omega, by go_num, RF⟩
            case measure => simp [intOf]; omega
          · have e1 : (xk == 12) = false := by simpa using h12
            have RF : Hid (OwL w11 w.heap.size (.slice (some ⟨g11, 0, none⟩) l2.length cap11) ([C] ++ [O] ++ opdsL (xs.take (k + 1))) ∧ BoxR w.heap.size (.cells #[.int .i64 c, .int .i64 op, .slice (some ⟨b, o, none⟩) len cap] 65 (0, 0)) (.slice (some ⟨g11, 0, none⟩) l2.length cap11) w11 ∧ Below w.heap.size w w11 ∧ w.heap.size ≤ w11.heap.size) := by
              have e : [C] ++ [O] ++ opdsL (xs.take (k + 1)) = l2 := by
                rw [HS.out, HFin1.out, Hl2.out, Hl1.out, Hl0.out, if_neg h12]
                simp only [List.append_assoc, List.append_nil]
              rw [e]
              exact ⟨R11.out.1, R11.out.2.1, R11.out.2.2.2⟩
            clear R11 h12
            go_wp2
            go_roundw
            case rel => exact ⟨k + 1, by omega, by go_num, RF⟩
            case measure => simp [intOf]; omega
      · have hkn : k = xs.length := by have := HX.out.2.1; omega
        have HFin : Hid (OwL wr w.heap.size u3 LL ∧ Below w.heap.size w wr) := ⟨by rw [HE.out]; have := HR.out.1; rwa [hkn, List.take_length] at this, HR.out.2.2.1⟩
        have ik : ¬ ((k : Int) < (len : Int)) := by omega
        clear HR hkn
        go_wp2
        go_ret
        exact ⟨_, rfl, HFin.out⟩
end Go.Proofs.Ytjogmhicehlboaa
