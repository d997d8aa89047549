/- Numbers as bytes: the program's picNumber. -/
import Derived.Test.YtcihplachlokiaaDoorQkd
import Derived.Test.YtcihplachlokiaaDoorPcj
namespace Go.Proofs.YtcihplachlokiaaDoor
open Go.RowKit Go.Shelf
set_option linter.unusedVariables false
set_option linter.unusedSimpArgs false

/-- The cells of bytes. -/
def cl (l : List Nat) : List Value := l.map fun b => .int .u8 (b : Nat)
theorem cl_app (l m : List Nat) : cl (l ++ m) = cl l ++ cl m := by simp [cl]
theorem cl_len (l : List Nat) : (cl l).length = l.length := by simp [cl]
/-- Bytes at a slice of one's own. -/
def OwL (w : World) (base : Nat) (v : Value) (l : List Nat) : Prop := w.ownsRow base 5 1 v l.length (cl l)
/-- The bytes of a number, the highest first. -/
def nbL (v : Int) : Nat → List Nat
  | 0 => []
  | n + 1 => nbL (v / 256) n ++ [(v % 256).toNat]
theorem nbL_len (v : Int) (n : Nat) : (nbL v n).length = n := by
  induction n generalizing v with
  | zero => rfl
  | succ n ih => simp [nbL, ih]
theorem nbL_lt (v : Int) (n : Nat) : ∀ b ∈ nbL v n, b < 256 := by
  induction n generalizing v with
  | zero => intro b h; simp [nbL] at h
  | succ n ih =>
    intro b h
    simp only [nbL, List.mem_append, List.mem_singleton] at h
    rcases h with h | rfl
    · exact ih _ b h
    · omega
theorem nbL_4 (v : Int) : nbL v 4 = [(v / 16777216 % 256).toNat, (v / 65536 % 256).toNat, (v / 256 % 256).toNat, (v % 256).toNat] := by
  simp only [nbL, List.nil_append, List.cons_append]
  rw [show v / 256 / 256 / 256 = v / 16777216 by omega, show v / 256 / 256 = v / 65536 by omega]
theorem nbL_2 (v : Int) : nbL v 2 = [(v / 256 % 256).toNat, (v % 256).toNat] := rfl
theorem nbL_1 (v : Int) : nbL v 1 = [(v % 256).toNat] := rfl

/-- From one world to another a row of one's own grew: all other blocks stand. -/
def Gr (w : World) (v : Value) (w' : World) (v' : Value) : Prop := w.grownBy w' v.ownBlock ∧ ∀ g, v'.ownBlock = some g → v.ownBlock = some g ∨ w.heap.size ≤ g
theorem Gr.refl (w : World) (v : Value) : Gr w v w v := ⟨gb_refl18 _ _, fun g h => .inl h⟩
theorem Gr.trans {w w1 w2 : World} {v v1 v2 : Value} (h : Gr w v w1 v1) (k : Gr w1 v1 w2 v2) : Gr w v w2 v2 := by
  refine ⟨⟨k.1.os.trans h.1.os, k.1.tape.trans h.1.tape, k.1.output.trans h.1.output, Nat.le_trans h.1.size k.1.size, fun b hb hne => ?_⟩, fun g hg => ?_⟩
  · refine (k.1.block b (Nat.lt_of_lt_of_le hb h.1.size) fun e => ?_).trans (h.1.block b hb hne)
    rcases h.2 b e.symm with h' | h'
    · exact hne h'.symm
    · omega
  · rcases k.2 g hg with h' | h'
    · exact h.2 g h'
    · exact .inr (Nat.le_trans h.1.size h')
theorem Gr.below {w w' : World} {v v' : Value} {base : Nat} (h : Gr w v w' v') (hb : base ≤ w.heap.size) (hr : ∀ g, v.ownBlock = some g → base ≤ g) : Below base w w' := (Below.refl _ _).grown h.1 hb hr
/-- A call that keeps all older blocks, ahead of the growth. -/
theorem Gr.pre {w w1 w2 : World} {v v2 : Value} (h : Below w.heap.size w w1) (k : Gr w1 v w2 v2) : Gr w v w2 v2 :=
  ⟨⟨k.1.os.trans h.os, k.1.tape.trans h.tape, k.1.output.trans h.output, Nat.le_trans h.size k.1.size, fun b hb hne => (k.1.block b (Nat.lt_of_lt_of_le hb h.size) hne).trans (h.block b hb)⟩,
    fun g hg => (k.2 g hg).imp id (fun h' => Nat.le_trans h.size h')⟩
theorem Gr.post {w w1 w2 : World} {v v1 : Value} (h : Gr w v w1 v1) (k : Below w1.heap.size w1 w2) : Gr w v w2 v1 :=
  ⟨⟨k.os.trans h.1.os, k.tape.trans h.1.tape, k.output.trans h.1.output, Nat.le_trans h.1.size k.size, fun b hb hne => (k.block b (Nat.lt_of_lt_of_le hb h.1.size)).trans (h.1.block b hb hne)⟩, h.2⟩
theorem OwL.later {w w' : World} {base : Nat} {v : Value} {l : List Nat} (h : OwL w base v l) (g : Below w.heap.size w w') : OwL w' base v l :=
  World.ownsRow.kept (row := none) h ⟨g.os, g.tape, g.output, g.size, fun k hk _ => g.block k hk⟩ (by cases hv : v.ownBlock <;> simp)
theorem OwL.own {w : World} {base : Nat} {v : Value} {l : List Nat} (h : OwL w base v l) : ∀ g, v.ownBlock = some g → base ≤ g ∧ g < w.heap.size := fun g hg => World.ownsRow.lt h g hg

theorem own_step {w w2 : World} {base g' cap' : Nat} {v : Value} {l m : List Nat} {o : Obj} (hb : base ≤ w.heap.size) (ho : OwL w base v l)
    (hown' : w2.ownsRow base 5 1 (.slice (some ⟨g', 0, none⟩) (l.length + m.length) cap') (l.length + m.length) (cl l ++ cl m)) (hgrow : (w.alloc o).grownBy w2 v.ownBlock)
    (hat : v.ownBlock = some g' ∨ g' = w.heap.size + 1) :
    OwL w2 base (.slice (some ⟨g', 0, none⟩) (l ++ m).length cap') (l ++ m) ∧ Gr w v w2 (.slice (some ⟨g', 0, none⟩) (l ++ m).length cap') ∧ base ≤ w2.heap.size := by
  have hz := hgrow.size
  simp at hz
  refine ⟨?_, ⟨⟨hgrow.os, hgrow.tape, hgrow.output, by omega, fun b hb hne => ?_⟩, fun g hg => ?_⟩, by omega⟩
  · unfold OwL
    rw [cl_app, List.length_append]
    exact hown'
  · rw [hgrow.block b (by simp; omega) hne, Below.heap_alloc w o b hb]
  · simp [Value.ownBlock] at hg
    subst hg
    rcases hat with h | h
    · exact .inl h
    · exact .inr (by omega)
theorem cell_two18 (w : World) (x y : Value) (t : TypeId) : ∀ j u, [x, y][j]? = some u → (w.alloc (.cells #[x, y] t)).cell? ((⟨w.heap.size, 0, none⟩ : Addr).add j) = some u := by
  intro j u hj
  match j, hj with
  | 0, hj => simp at hj; subst hj; simp [Addr.add]
  | 1, hj => simp at hj; subst hj; simp [Addr.add]
  | j + 2, hj => simp at hj

set_option maxRecDepth 10000 in
set_option maxHeartbeats 4000000 in
theorem num1_i (base : Nat) (v : Value) (l : List Nat) (n : Int) (w : World) (hb : base ≤ w.heap.size) (hl : l.length ≤ 1000000) (ho : OwL w base v l) :
    Calls Tryd.prog 39 #[v, .int .i64 n, .int .i64 1] w fun e w' => ∃ v', e = .returned v' ∧ OwL w' base v' (l ++ nbL n 1) ∧ Gr w v w' v' := by
  obtain ⟨i0, hi, hz0, hz1, hz2⟩ := info_parts infoU8
  obtain ⟨L, hL, HL⟩ : ∃ L, IntKind.u16.wrap n = L ∧ Hid (L = n % 65536) := ⟨_, rfl, IntKind.wrap_u16 n⟩
  have bL : 0 ≤ L ∧ L < 65536 := by rw [HL.out]; omega
  obtain ⟨D1, hD1, eD1, HD1⟩ : ∃ D : Nat, L / 256 = (D : Int) ∧ (D : Int) % 256 = (D : Int) ∧ Hid (D = (n / 256 % 256).toNat) := ⟨(n / 256 % 256).toNat, by rw [HL.out]; omega, by omega, rfl⟩
  obtain ⟨D0, hD0, HD0⟩ : ∃ D : Nat, L % 256 = (D : Int) ∧ Hid (D = (n % 256).toNat) := ⟨(n % 256).toNat, by rw [HL.out]; omega, rfl⟩
  have HO0 : Hid (OwL w base v l ∧ Gr w v w v ∧ base ≤ w.heap.size) := ⟨ho, Gr.refl _ _, hb⟩
  clear ho hb
  go_enter Tryd.func39, Tryd.ntmps39
  go_wp2_with (at_builtin; refine wpList_append_lies _ rfl _ _ 22 rfl base 5 i0 (.int .u8 0) 1 1 Tryd.underlying22 hi hz0 hz1 hz2 rfl (by decide) _ l.length (cl l) rfl (HO0.out.1.alloc _) ⟨w.heap.size, 0, none⟩ 1 1 [.int .u8 D0] rfl rfl (cell_one_new _ _ _) ?c2 (by decide) ?c3 ?c4 ?c5 _ rfl ?_)
  case c2 => intro u hu; simp at hu; subst hu; rfl
  case c3 => unfold maxLen; omega
  case c4 => omega
  case c5 => have := HO0.out.2.2; simp; omega
  intro g1 cap1 w1 hown' hgrow hat hlt'
  obtain ⟨l1, hl1, Hl1⟩ : ∃ l1, l.length + 1 = l1.length ∧ Hid (l1 = l ++ [D0]) := ⟨_, by simp, rfl⟩
  have HO1 : Hid (OwL w1 base (.slice (some ⟨g1, 0, none⟩) l1.length cap1) l1 ∧ Gr w v w1 (.slice (some ⟨g1, 0, none⟩) l1.length cap1) ∧ base ≤ w1.heap.size) := by
    have h := own_step (m := [D0]) HO0.out.2.2 HO0.out.1 hown' hgrow hat
    rw [← Hl1.out] at h
    exact ⟨h.1, HO0.out.2.1.trans h.2.1, h.2.2⟩
  have hb1 : l1.length ≤ 1000000 + 2 := by omega
  rw [hl1]
  clear hown' hgrow hat hlt' HO0 hl1 hl
  have HFin : Hid (l1 = l ++ nbL n 1) := (by rw [Hl1.out, nbL_1, HD0.out]; try simp : l1 = l ++ nbL n 1)
  have HF : Hid (OwL w1 base (.slice (some ⟨g1, 0, none⟩) l1.length cap1) (l ++ nbL n 1) ∧ Gr w v w1 (.slice (some ⟨g1, 0, none⟩) l1.length cap1)) := ⟨by rw [← HFin.out]; exact HO1.out.1, HO1.out.2.1⟩
  generalize l1.length = N at HF ⊢
  clear HO1 HFin
  go_wp2
  go_ret
  exact ⟨_, rfl, HF.out⟩

set_option maxRecDepth 10000 in
set_option maxHeartbeats 4000000 in
theorem num2_i (base : Nat) (v : Value) (l : List Nat) (n : Int) (w : World) (hb : base ≤ w.heap.size) (hl : l.length ≤ 1000000) (ho : OwL w base v l) :
    Calls Tryd.prog 39 #[v, .int .i64 n, .int .i64 2] w fun e w' => ∃ v', e = .returned v' ∧ OwL w' base v' (l ++ nbL n 2) ∧ Gr w v w' v' := by
  obtain ⟨i0, hi, hz0, hz1, hz2⟩ := info_parts infoU8
  obtain ⟨L, hL, HL⟩ : ∃ L, IntKind.u16.wrap n = L ∧ Hid (L = n % 65536) := ⟨_, rfl, IntKind.wrap_u16 n⟩
  have bL : 0 ≤ L ∧ L < 65536 := by rw [HL.out]; omega
  obtain ⟨D1, hD1, eD1, HD1⟩ : ∃ D : Nat, L / 256 = (D : Int) ∧ (D : Int) % 256 = (D : Int) ∧ Hid (D = (n / 256 % 256).toNat) := ⟨(n / 256 % 256).toNat, by rw [HL.out]; omega, by omega, rfl⟩
  obtain ⟨D0, hD0, HD0⟩ : ∃ D : Nat, L % 256 = (D : Int) ∧ Hid (D = (n % 256).toNat) := ⟨(n % 256).toNat, by rw [HL.out]; omega, rfl⟩
  have HO0 : Hid (OwL w base v l ∧ Gr w v w v ∧ base ≤ w.heap.size) := ⟨ho, Gr.refl _ _, hb⟩
  clear ho hb
  go_enter Tryd.func39, Tryd.ntmps39
  go_wp2_with (at_builtin; refine wpList_append_lies _ rfl _ _ 22 rfl base 5 i0 (.int .u8 0) 1 1 Tryd.underlying22 hi hz0 hz1 hz2 rfl (by decide) _ l.length (cl l) rfl (HO0.out.1.alloc _) ⟨w.heap.size, 0, none⟩ 1 1 [.int .u8 D1] rfl rfl (cell_one_new _ _ _) ?c2 (by decide) ?c3 ?c4 ?c5 _ rfl ?_)
  case c2 => intro u hu; simp at hu; subst hu; rfl
  case c3 => unfold maxLen; omega
  case c4 => omega
  case c5 => have := HO0.out.2.2; simp; omega
  intro g1 cap1 w1 hown' hgrow hat hlt'
  obtain ⟨l1, hl1, Hl1⟩ : ∃ l1, l.length + 1 = l1.length ∧ Hid (l1 = l ++ [D1]) := ⟨_, by simp, rfl⟩
  have HO1 : Hid (OwL w1 base (.slice (some ⟨g1, 0, none⟩) l1.length cap1) l1 ∧ Gr w v w1 (.slice (some ⟨g1, 0, none⟩) l1.length cap1) ∧ base ≤ w1.heap.size) := by
    have h := own_step (m := [D1]) HO0.out.2.2 HO0.out.1 hown' hgrow hat
    rw [← Hl1.out] at h
    exact ⟨h.1, HO0.out.2.1.trans h.2.1, h.2.2⟩
  have hb1 : l1.length ≤ 1000000 + 2 := by omega
  rw [hl1]
  clear hown' hgrow hat hlt' HO0 hl1 hl
  go_wp2_with (at_builtin; refine wpList_append_lies _ rfl _ _ 22 rfl base 5 i0 (.int .u8 0) 1 1 Tryd.underlying22 hi hz0 hz1 hz2 rfl (by decide) _ l1.length (cl l1) rfl (HO1.out.1.alloc _) ⟨w1.heap.size, 0, none⟩ 1 1 [.int .u8 D0] rfl rfl (cell_one_new _ _ _) ?c2 (by decide) ?c3 ?c4 ?c5 _ rfl ?_)
  case c2 => intro u hu; simp at hu; subst hu; rfl
  case c3 => unfold maxLen; omega
  case c4 => omega
  case c5 => have := HO1.out.2.2; simp; omega
  intro g2 cap2 w2 hown' hgrow hat hlt'
  obtain ⟨l2, hl2, Hl2⟩ : ∃ l2, l1.length + 1 = l2.length ∧ Hid (l2 = l1 ++ [D0]) := ⟨_, by simp, rfl⟩
  have HO2 : Hid (OwL w2 base (.slice (some ⟨g2, 0, none⟩) l2.length cap2) l2 ∧ Gr w v w2 (.slice (some ⟨g2, 0, none⟩) l2.length cap2) ∧ base ≤ w2.heap.size) := by
    have h := own_step (m := [D0]) HO1.out.2.2 HO1.out.1 hown' hgrow hat
    rw [← Hl2.out] at h
    exact ⟨h.1, HO1.out.2.1.trans h.2.1, h.2.2⟩
  have hb2 : l2.length ≤ 1000000 + 4 := by omega
  rw [hl2]
  clear hown' hgrow hat hlt' HO1 hl2 hb1
  have HFin : Hid (l2 = l ++ nbL n 2) := (by rw [Hl2.out, Hl1.out, nbL_2, HD1.out, HD0.out]; try simp : l2 = l ++ nbL n 2)
  have HF : Hid (OwL w2 base (.slice (some ⟨g2, 0, none⟩) l2.length cap2) (l ++ nbL n 2) ∧ Gr w v w2 (.slice (some ⟨g2, 0, none⟩) l2.length cap2)) := ⟨by rw [← HFin.out]; exact HO2.out.1, HO2.out.2.1⟩
  generalize l2.length = N at HF ⊢
  clear HO2 HFin
  go_wp2
  go_ret
  exact ⟨_, rfl, HF.out⟩

set_option maxRecDepth 10000 in
set_option maxHeartbeats 4000000 in
theorem num4_i (base : Nat) (v : Value) (l : List Nat) (n : Int) (w : World) (hb : base ≤ w.heap.size) (hl : l.length ≤ 1000000) (ho : OwL w base v l) :
    Calls Tryd.prog 39 #[v, .int .i64 n, .int .i64 4] w fun e w' => ∃ v', e = .returned v' ∧ OwL w' base v' (l ++ nbL n 4) ∧ Gr w v w' v' := by
  obtain ⟨i0, hi, hz0, hz1, hz2⟩ := info_parts infoU8
  obtain ⟨L, hL, HL⟩ : ∃ L, IntKind.u16.wrap n = L ∧ Hid (L = n % 65536) := ⟨_, rfl, IntKind.wrap_u16 n⟩
  have bL : 0 ≤ L ∧ L < 65536 := by rw [HL.out]; omega
  obtain ⟨D1, hD1, eD1, HD1⟩ : ∃ D : Nat, L / 256 = (D : Int) ∧ (D : Int) % 256 = (D : Int) ∧ Hid (D = (n / 256 % 256).toNat) := ⟨(n / 256 % 256).toNat, by rw [HL.out]; omega, by omega, rfl⟩
  obtain ⟨D0, hD0, HD0⟩ : ∃ D : Nat, L % 256 = (D : Int) ∧ Hid (D = (n % 256).toNat) := ⟨(n % 256).toNat, by rw [HL.out]; omega, rfl⟩
  obtain ⟨H, hH, HH⟩ : ∃ L, IntKind.u16.wrap (n / 65536) = L ∧ Hid (L = n / 65536 % 65536) := ⟨_, rfl, IntKind.wrap_u16 _⟩
  have bH : 0 ≤ H ∧ H < 65536 := by rw [HH.out]; omega
  obtain ⟨D3, hD3, eD3, HD3⟩ : ∃ D : Nat, H / 256 = (D : Int) ∧ (D : Int) % 256 = (D : Int) ∧ Hid (D = (n / 16777216 % 256).toNat) := ⟨(n / 16777216 % 256).toNat, by rw [HH.out]; omega, by omega, rfl⟩
  obtain ⟨D2, hD2, HD2⟩ : ∃ D : Nat, H % 256 = (D : Int) ∧ Hid (D = (n / 65536 % 256).toNat) := ⟨(n / 65536 % 256).toNat, by rw [HH.out]; omega, rfl⟩
  have HO0 : Hid (OwL w base v l ∧ Gr w v w v ∧ base ≤ w.heap.size) := ⟨ho, Gr.refl _ _, hb⟩
  clear ho hb
  go_enter Tryd.func39, Tryd.ntmps39
  go_wp2_with (at_builtin; refine wpList_append_lies _ rfl _ _ 22 rfl base 5 i0 (.int .u8 0) 1 1 Tryd.underlying22 hi hz0 hz1 hz2 rfl (by decide) _ l.length (cl l) rfl (HO0.out.1.alloc _) ⟨w.heap.size, 0, none⟩ 2 2 [.int .u8 D3, .int .u8 D2] rfl rfl (cell_two18 _ _ _ _) ?c2 (by decide) ?c3 ?c4 ?c5 _ rfl ?_)
  case c2 => intro u hu; simp at hu; rcases hu with rfl | rfl <;> rfl
  case c3 => unfold maxLen; omega
  case c4 => omega
  case c5 => have := HO0.out.2.2; simp; omega
  intro g1 cap1 w1 hown' hgrow hat hlt'
  obtain ⟨l1, hl1, Hl1⟩ : ∃ l1, l.length + 2 = l1.length ∧ Hid (l1 = l ++ [D3, D2]) := ⟨_, by simp, rfl⟩
  have HO1 : Hid (OwL w1 base (.slice (some ⟨g1, 0, none⟩) l1.length cap1) l1 ∧ Gr w v w1 (.slice (some ⟨g1, 0, none⟩) l1.length cap1) ∧ base ≤ w1.heap.size) := by
    have h := own_step (m := [D3, D2]) HO0.out.2.2 HO0.out.1 hown' hgrow hat
    rw [← Hl1.out] at h
    exact ⟨h.1, HO0.out.2.1.trans h.2.1, h.2.2⟩
  have hb1 : l1.length ≤ 1000000 + 2 := by omega
  rw [hl1]
  clear hown' hgrow hat hlt' HO0 hl1 hl
  go_wp2_with (at_builtin; refine wpList_append_lies _ rfl _ _ 22 rfl base 5 i0 (.int .u8 0) 1 1 Tryd.underlying22 hi hz0 hz1 hz2 rfl (by decide) _ l1.length (cl l1) rfl (HO1.out.1.alloc _) ⟨w1.heap.size, 0, none⟩ 1 1 [.int .u8 D1] rfl rfl (cell_one_new _ _ _) ?c2 (by decide) ?c3 ?c4 ?c5 _ rfl ?_)
  case c2 => intro u hu; simp at hu; subst hu; rfl
  case c3 => unfold maxLen; omega
  case c4 => omega
  case c5 => have := HO1.out.2.2; simp; omega
  intro g2 cap2 w2 hown' hgrow hat hlt'
  obtain ⟨l2, hl2, Hl2⟩ : ∃ l2, l1.length + 1 = l2.length ∧ Hid (l2 = l1 ++ [D1]) := ⟨_, by simp, rfl⟩
  have HO2 : Hid (OwL w2 base (.slice (some ⟨g2, 0, none⟩) l2.length cap2) l2 ∧ Gr w v w2 (.slice (some ⟨g2, 0, none⟩) l2.length cap2) ∧ base ≤ w2.heap.size) := by
    have h := own_step (m := [D1]) HO1.out.2.2 HO1.out.1 hown' hgrow hat
    rw [← Hl2.out] at h
    exact ⟨h.1, HO1.out.2.1.trans h.2.1, h.2.2⟩
  have hb2 : l2.length ≤ 1000000 + 4 := by omega
  rw [hl2]
  clear hown' hgrow hat hlt' HO1 hl2 hb1
  go_wp2_with (at_builtin; refine wpList_append_lies _ rfl _ _ 22 rfl base 5 i0 (.int .u8 0) 1 1 Tryd.underlying22 hi hz0 hz1 hz2 rfl (by decide) _ l2.length (cl l2) rfl (HO2.out.1.alloc _) ⟨w2.heap.size, 0, none⟩ 1 1 [.int .u8 D0] rfl rfl (cell_one_new _ _ _) ?c2 (by decide) ?c3 ?c4 ?c5 _ rfl ?_)
  case c2 => intro u hu; simp at hu; subst hu; rfl
  case c3 => unfold maxLen; omega
  case c4 => omega
  case c5 => have := HO2.out.2.2; simp; omega
  intro g3 cap3 w3 hown' hgrow hat hlt'
  obtain ⟨l3, hl3, Hl3⟩ : ∃ l3, l2.length + 1 = l3.length ∧ Hid (l3 = l2 ++ [D0]) := ⟨_, by simp, rfl⟩
  have HO3 : Hid (OwL w3 base (.slice (some ⟨g3, 0, none⟩) l3.length cap3) l3 ∧ Gr w v w3 (.slice (some ⟨g3, 0, none⟩) l3.length cap3) ∧ base ≤ w3.heap.size) := by
    have h := own_step (m := [D0]) HO2.out.2.2 HO2.out.1 hown' hgrow hat
    rw [← Hl3.out] at h
    exact ⟨h.1, HO2.out.2.1.trans h.2.1, h.2.2⟩
  have hb3 : l3.length ≤ 1000000 + 6 := by omega
  rw [hl3]
  clear hown' hgrow hat hlt' HO2 hl3 hb2
  have HFin : Hid (l3 = l ++ nbL n 4) := (by rw [Hl3.out, Hl2.out, Hl1.out, nbL_4, HD3.out, HD2.out, HD1.out, HD0.out]; try simp : l3 = l ++ nbL n 4)
  have HF : Hid (OwL w3 base (.slice (some ⟨g3, 0, none⟩) l3.length cap3) (l ++ nbL n 4) ∧ Gr w v w3 (.slice (some ⟨g3, 0, none⟩) l3.length cap3)) := ⟨by rw [← HFin.out]; exact HO3.out.1, HO3.out.2.1⟩
  generalize l3.length = N at HF ⊢
  clear HO3 HFin
  go_wp2
  go_ret
  exact ⟨_, rfl, HF.out⟩

end Go.Proofs.YtcihplachlokiaaDoor
