/- Numbers as bytes: the program's picNumber. -/
import Derived.Test.YtcihplachlokiaaGreatDoorQkaM
import Derived.Test.YtcihplachlokiaaGreatDoorPcbM
namespace Go.Proofs.YtcihplachlokiaaGreatDoor
open Go.RowKit Go.Shelf
set_option linter.unusedVariables false
set_option linter.unusedSimpArgs false

/-- The cells of bytes. -/
def cl (l : List Nat) : List Value := l.map fun b => .int .u8 (b : Nat)
theorem cl_app (l m : List Nat) : cl (l ++ m) = cl l ++ cl m := by simp [cl]
theorem cl_len (l : List Nat) : (cl l).length = l.length := by simp [cl]
/-- Bytes at a slice of one's own. -/
def OwL (w : World) (base : Nat) (v : Value) (l : List Nat) : Prop := w.ownsRow base 5 1 v l.length (cl l)
/-- The bytes of a number, the highest first. -/
def nbL (v : Int) : Nat → List Nat
  | 0 => []
  | n + 1 => nbL (v / 256) n ++ [(v % 256).toNat]
theorem nbL_len (v : Int) (n : Nat) : (nbL v n).length = n := by
  induction n generalizing v with
  | zero => rfl
  | succ n ih => simp [nbL, ih]
theorem nbL_lt (v : Int) (n : Nat) : ∀ b ∈ nbL v n, b < 256 := by
  induction n generalizing v with
  | zero => intro b h; simp [nbL] at h
  | succ n ih =>
    intro b h
    simp only [nbL, List.mem_append, List.mem_singleton] at h
    rcases h with h | rfl
    · exact ih _ b h
    · omega
theorem nbL_4 (v : Int) : nbL v 4 = [(v / 16777216 % 256).toNat, (v / 65536 % 256).toNat, (v / 256 % 256).toNat, (v % 256).toNat] := by
  simp only [nbL, List.nil_append, List.cons_append]
  rw [show v / 256 / 256 / 256 = v / 16777216 by omega, show v / 256 / 256 = v / 65536 by omega]
theorem nbL_2 (v : Int) : nbL v 2 = [(v / 256 % 256).toNat, (v % 256).toNat] := rfl
theorem nbL_1 (v : Int) : nbL v 1 = [(v % 256).toNat] := rfl

/-- From one world to another a row of one's own grew: all other blocks stand. -/
def Gr (w : World) (v : Value) (w' : World) (v' : Value) : Prop := w.grownBy w' v.ownBlock ∧ ∀ g, v'.ownBlock = some g → v.ownBlock = some g ∨ w.heap.size ≤ g
theorem Gr.refl (w : World) (v : Value) : Gr w v w v := ⟨gb_refl18 _ _, fun g h => .inl h⟩
theorem Gr.trans {w w1 w2 : World} {v v1 v2 : Value} (h : Gr w v w1 v1) (k : Gr w1 v1 w2 v2) : Gr w v w2 v2 := by
  refine ⟨⟨k.1.os.trans h.1.os, k.1.tape.trans h.1.tape, k.1.output.trans h.1.output, Nat.le_trans h.1.size k.1.size, fun b hb hne => ?_⟩, fun g hg => ?_⟩
  · refine (k.1.block b (Nat.lt_of_lt_of_le hb h.1.size) fun e => ?_).trans (h.1.block b hb hne)
    rcases h.2 b e.symm with h' | h'
    · exact hne h'.symm
    · omega
  · rcases k.2 g hg with h' | h'
    · exact h.2 g h'
    · exact .inr (Nat.le_trans h.1.size h')
theorem Gr.below {w w' : World} {v v' : Value} {base : Nat} (h : Gr w v w' v') (hb : base ≤ w.heap.size) (hr : ∀ g, v.ownBlock = some g → base ≤ g) : Below base w w' := (Below.refl _ _).grown h.1 hb hr
/-- A call that keeps all older blocks, ahead of the growth. -/
theorem Gr.pre {w w1 w2 : World} {v v2 : Value} (h : Below w.heap.size w w1) (k : Gr w1 v w2 v2) : Gr w v w2 v2 :=
  ⟨⟨k.1.os.trans h.os, k.1.tape.trans h.tape, k.1.output.trans h.output, Nat.le_trans h.size k.1.size, fun b hb hne => (k.1.block b (Nat.lt_of_lt_of_le hb h.size) hne).trans (h.block b hb)⟩,
    fun g hg => (k.2 g hg).imp id (fun h' => Nat.le_trans h.size h')⟩
theorem Gr.post {w w1 w2 : World} {v v1 : Value} (h : Gr w v w1 v1) (k : Below w1.heap.size w1 w2) : Gr w v w2 v1 :=
  ⟨⟨k.os.trans h.1.os, k.tape.trans h.1.tape, k.output.trans h.1.output, Nat.le_trans h.1.size k.size, fun b hb hne => (k.block b (Nat.lt_of_lt_of_le hb h.1.size)).trans (h.1.block b hb hne)⟩, h.2⟩
theorem OwL.later {w w' : World} {base : Nat} {v : Value} {l : List Nat} (h : OwL w base v l) (g : Below w.heap.size w w') : OwL w' base v l :=
  World.ownsRow.kept (row := none) h ⟨g.os, g.tape, g.output, g.size, fun k hk _ => g.block k hk⟩ (by cases hv : v.ownBlock <;> simp)
theorem OwL.own {w : World} {base : Nat} {v : Value} {l : List Nat} (h : OwL w base v l) : ∀ g, v.ownBlock = some g → base ≤ g ∧ g < w.heap.size := fun g hg => World.ownsRow.lt h g hg

theorem own_step {w w2 : World} {base g' cap' : Nat} {v : Value} {l m : List Nat} {o : Obj} (hb : base ≤ w.heap.size) (ho : OwL w base v l)
    (hown' : w2.ownsRow base 5 1 (.slice (some ⟨g', 0, none⟩) (l.length + m.length) cap') (l.length + m.length) (cl l ++ cl m)) (hgrow : (w.alloc o).grownBy w2 v.ownBlock)
    (hat : v.ownBlock = some g' ∨ g' = w.heap.size + 1) :
    OwL w2 base (.slice (some ⟨g', 0, none⟩) (l ++ m).length cap') (l ++ m) ∧ Gr w v w2 (.slice (some ⟨g', 0, none⟩) (l ++ m).length cap') ∧ base ≤ w2.heap.size := by
  have hz := hgrow.size
  simp at hz
  refine ⟨?_, ⟨⟨hgrow.os, hgrow.tape, hgrow.output, by omega, fun b hb hne => ?_⟩, fun g hg => ?_⟩, by omega⟩
  · unfold OwL
    rw [cl_app, List.length_append]
    exact hown'
  · rw [hgrow.block b (by simp; omega) hne, Below.heap_alloc w o b hb]
  · simp [Value.ownBlock] at hg
    subst hg
    rcases hat with h | h
    · exact .inl h
    · exact .inr (by omega)
theorem cell_two18 (w : World) (x y : Value) (t : TypeId) : ∀ j u, [x, y][j]? = some u → (w.alloc (.cells #[x, y] t)).cell? ((⟨w.heap.size, 0, none⟩ : Addr).add j) = some u := by
  intro j u hj
  match j, hj with
  | 0, hj => simp at hj; subst hj; simp [Addr.add]
  | 1, hj => simp at hj; subst hj; simp [Addr.add]
  | j + 2, hj => simp at hj

set_option maxRecDepth 10000 in
set_option maxHeartbeats 4000000 in
theorem num1_i (base : Nat) (v : Value) (l : List Nat) (n : Int) (w : World) (hb : base ≤ w.heap.size) (hl : l.length ≤ 1000000) (ho : OwL w base v l) :
    Calls Tryz.prog 17 #[v, .int .i64 n, .int .i64 1] w fun e w' => ∃ v', e = .returned v' ∧ OwL w' base v' (l ++ nbL n 1) ∧ Gr w v w' v' := by
  obtain ⟨i0, hi, hz0, hz1, hz2⟩ := info_parts infoU8
  obtain ⟨L, hL, HL⟩ : ∃ L, IntKind.u16.wrap n = L ∧ Hid (L = n % 65536) := ⟨_, rfl, IntKind.wrap_u16 n⟩
  have bL : 0 ≤ L ∧ L < 65536 := by rw [HL.out]; omega
  obtain ⟨D1, hD1, eD1, HD1⟩ : ∃ D : Nat, L / 256 = (D : Int) ∧ (D : Int) % 256 = (D : Int) ∧ Hid (D = (n / 256 % 256).toNat) := ⟨(n / 256 % 256).toNat, by rw [HL.out]; omega, by omega, rfl⟩
  obtain ⟨D0, hD0, HD0⟩ : ∃ D : Nat, L % 256 = (D : Int) ∧ Hid (D = (n % 256).toNat) := ⟨(n % 256).toNat, by rw [HL.out]; omega, rfl⟩
  have HO0 : Hid (OwL w base v l ∧ Gr w v w v ∧ base ≤ w.heap.size) := ⟨ho, Gr.refl _ _, hb⟩
  clear ho hb
  go_enter Tryz.func17, Tryz.ntmps17
  go_wp2_with (at_builtin; refine wpList_append_lies _ rfl _ _ 22 rfl base 5 i0 (.int .u8 0) 1 1 Tryz.underlying22 hi hz0 hz1 hz2 rfl (by decide) _ l.length (cl l) rfl (HO0.out.1.alloc _) ⟨w.heap.size, 0, none⟩ 1 1 [.int .u8 D0] rfl rfl (cell_one_new _ _ _) ?c2 (by decide) ?c3 ?c4 ?c5 _ rfl ?_)
  case c2 => intro u hu; simp at hu; subst hu; rfl
  case c3 => unfold maxLen; omega
  case c4 => omega
  case c5 => have := HO0.out.2.2; simp; omega
  intro g1 cap1 w1 hown' hgrow hat hlt'
  obtain ⟨l1, hl1, Hl1⟩ : ∃ l1, l.length + 1 = l1.length ∧ Hid (l1 = l ++ [D0]) := ⟨_, by simp, rfl⟩
  have HO1 : Hid (OwL w1 base (.slice (some ⟨g1, 0, none⟩) l1.length cap1) l1 ∧ Gr w v w1 (.slice (some ⟨g1, 0, none⟩) l1.length cap1) ∧ base ≤ w1.heap.size) := by
    have h := own_step (m := [D0]) HO0.out.2.2 HO0.out.1 hown' hgrow hat
    rw [← Hl1.out] at h
    exact ⟨h.1, HO0.out.2.1.trans h.2.1, h.2.2⟩
  have hb1 : l1.length ≤ 1000000 + 2 := by omega
  rw [hl1]
  clear hown' hgrow hat hlt' HO0 hl1 hl
  have HFin : Hid (l1 = l ++ nbL n 1) := (by rw [Hl1.out, nbL_1, HD0.out]; try simp : l1 = l ++ nbL n 1)
  have HF : Hid (OwL w1 base (.slice (some ⟨g1, 0, none⟩) l1.length cap1) (l ++ nbL n 1) ∧ Gr w v w1 (.slice (some ⟨g1, 0, none⟩) l1.length cap1)) := ⟨by rw [← HFin.out]; exact HO1.out.1, HO1.out.2.1⟩
  generalize l1.length = N at HF ⊢
  clear HO1 HFin
  go_wp2
  go_ret
  exact ⟨_, rfl, HF.out⟩

set_option maxRecDepth 10000 in
set_option maxHeartbeats 4000000 in
theorem num2_i (base : Nat) (v : Value) (l : List Nat) (n : Int) (w : World) (hb : base ≤ w.heap.size) (hl : l.length ≤ 1000000) (ho : OwL w base v l) :
    Calls Tryz.prog 17 #[v, .int .i64 n, .int .i64 2] w fun e w' => ∃ v', e = .returned v' ∧ OwL w' base v' (l ++ nbL n 2) ∧ Gr w v w' v' := by
  obtain ⟨i0, hi, hz0, hz1, hz2⟩ := info_parts infoU8
  obtain ⟨L, hL, HL⟩ : ∃ L, IntKind.u16.wrap n = L ∧ Hid (L = n % 65536) := ⟨_, rfl, IntKind.wrap_u16 n⟩
  have bL : 0 ≤ L ∧ L < 65536 := by rw [HL.out]; omega
  obtain ⟨D1, hD1, eD1, HD1⟩ : ∃ D : Nat, L / 256 = (D : Int) ∧ (D : Int) % 256 = (D : Int) ∧ Hid (D = (n / 256 % 256).toNat) := ⟨(n / 256 % 256).toNat, by rw [HL.out]; omega, by omega, rfl⟩
  obtain ⟨D0, hD0, HD0⟩ : ∃ D : Nat, L % 256 = (D : Int) ∧ Hid (D = (n % 256).toNat) := ⟨(n % 256).toNat, by rw [HL.out]; omega, rfl⟩
  have HO0 : Hid (OwL w base v l ∧ Gr w v w v ∧ base ≤ w.heap.size) := ⟨ho, Gr.refl _ _, hb⟩
  clear ho hb
  go_enter Tryz.func17, Tryz.ntmps17
  go_wp2_with (at_builtin; refine wpList_append_lies _ rfl _ _ 22 rfl base 5 i0 (.int .u8 0) 1 1 Tryz.underlying22 hi hz0 hz1 hz2 rfl (by decide) _ l.length (cl l) rfl (HO0.out.1.alloc _) ⟨w.heap.size, 0, none⟩ 1 1 [.int .u8 D1] rfl rfl (cell_one_new _ _ _) ?c2 (by decide) ?c3 ?c4 ?c5 _ rfl ?_)
  case c2 => intro u hu; simp at hu; subst hu; rfl
  case c3 => unfold maxLen; omega
  case c4 => omega
  case c5 => have := HO0.out.2.2; simp; omega
  intro g1 cap1 w1 hown' hgrow hat hlt'
  obtain ⟨l1, hl1, Hl1⟩ : ∃ l1, l.length + 1 = l1.length ∧ Hid (l1 = l ++ [D1]) := ⟨_, by simp, rfl⟩
  have HO1 : Hid (OwL w1 base (.slice (some ⟨g1, 0, none⟩) l1.length cap1) l1 ∧ Gr w v w1 (.slice (some ⟨g1, 0, none⟩) l1.length cap1) ∧ base ≤ w1.heap.size) := by
    have h := own_step (m := [D1]) HO0.out.2.2 HO0.out.1 hown' hgrow hat
    rw [← Hl1.out] at h
    exact ⟨h.1, HO0.out.2.1.trans h.2.1, h.2.2⟩
  have hb1 : l1.length ≤ 1000000 + 2 := by omega
  rw [hl1]
  clear hown' hgrow hat hlt' HO0 hl1 hl
  go_wp2_with (at_builtin; refine wpList_append_lies _ rfl _ _ 22 rfl base 5 i0 (.int .u8 0) 1 1 Tryz.underlying22 hi hz0 hz1 hz2 rfl (by decide) _ l1.length (cl l1) rfl (HO1.out.1.alloc _) ⟨w1.heap.size, 0, none⟩ 1 1 [.int .u8 D0] rfl rfl (cell_one_new _ _ _) ?c2 (by decide) ?c3 ?c4 ?c5 _ rfl ?_)
  case c2 => intro u hu; simp at hu; subst hu; rfl
  case c3 => unfold maxLen; omega
  case c4 => omega
  case c5 => have := HO1.out.2.2; simp; omega
  intro g2 cap2 w2 hown' hgrow hat hlt'
  obtain ⟨l2, hl2, Hl2⟩ : ∃ l2, l1.length + 1 = l2.length ∧ Hid (l2 = l1 ++ [D0]) := ⟨_, by simp, rfl⟩
  have HO2 : Hid (OwL w2 base (.slice (some ⟨g2, 0, none⟩) l2.length cap2) l2 ∧ Gr w v w2 (.slice (some ⟨g2, 0, none⟩) l2.length cap2) ∧ base ≤ w2.heap.size) := by
    have h := own_step (m := [D0]) HO1.out.2.2 HO1.out.1 hown' hgrow hat
    rw [← Hl2.out] at h
    exact ⟨h.1, HO1.out.2.1.trans h.2.1, h.2.2⟩
  have hb2 : l2.length ≤ 1000000 + 4 := by omega
  rw [hl2]
  clear hown' hgrow hat hlt' HO1 hl2 hb1
  have HFin : Hid (l2 = l ++ nbL n 2) := (by rw [Hl2.out, Hl1.out, nbL_2, HD1.out, HD0.out]; try simp : l2 = l ++ nbL n 2)
  have HF : Hid (OwL w2 base (.slice (some ⟨g2, 0, none⟩) l2.length cap2) (l ++ nbL n 2) ∧ Gr w v w2 (.slice (some ⟨g2, 0, none⟩) l2.length cap2)) := ⟨by rw [← HFin.out]; exact HO2.out.1, HO2.out.2.1⟩
  generalize l2.length = N at HF ⊢
  clear HO2 HFin
  go_wp2
  go_ret
  exact ⟨_, rfl, HF.out⟩

set_option maxRecDepth 10000 in
set_option maxHeartbeats 4000000 in
theorem num4_i (base : Nat) (v : Value) (l : List Nat) (n : Int) (w : World) (hb : base ≤ w.heap.size) (hl : l.length ≤ 1000000) (ho : OwL w base v l) :
    Calls Tryz.prog 17 #[v, .int .i64 n, .int .i64 4] w fun e w' => ∃ v', e = .returned v' ∧ OwL w' base v' (l ++ nbL n 4) ∧ Gr w v w' v' := by
  obtain ⟨i0, hi, hz0, hz1, hz2⟩ := info_parts infoU8
  obtain ⟨L, hL, HL⟩ : ∃ L, IntKind.u16.wrap n = L ∧ Hid (L = n % 65536) := ⟨_, rfl, IntKind.wrap_u16 n⟩
  have bL : 0 ≤ L ∧ L < 65536 := by rw [HL.out]; omega
  obtain ⟨D1, hD1, eD1, HD1⟩ : ∃ D : Nat, L / 256 = (D : Int) ∧ (D : Int) % 256 = (D : Int) ∧ Hid (D = (n / 256 % 256).toNat) := ⟨(n / 256 % 256).toNat, by rw [HL.out]; omega, by omega, rfl⟩
  obtain ⟨D0, hD0, HD0⟩ : ∃ D : Nat, L % 256 = (D : Int) ∧ Hid (D = (n % 256).toNat) := ⟨(n % 256).toNat, by rw [HL.out]; omega, rfl⟩
  obtain ⟨H, hH, HH⟩ : ∃ L, IntKind.u16.wrap (n / 65536) = L ∧ Hid (L = n / 65536 % 65536) := ⟨_, rfl, IntKind.wrap_u16 _⟩
  have bH : 0 ≤ H ∧ H < 65536 := by rw [HH.out]; omega
  obtain ⟨D3, hD3, eD3, HD3⟩ : ∃ D : Nat, H / 256 = (D : Int) ∧ (D : Int) % 256 = (D : Int) ∧ Hid (D = (n / 16777216 % 256).toNat) := ⟨(n / 16777216 % 256).toNat, by rw [HH.out]; omega, by omega, rfl⟩
  obtain ⟨D2, hD2, HD2⟩ : ∃ D : Nat, H % 256 = (D : Int) ∧ Hid (D = (n / 65536 % 256).toNat) := ⟨(n / 65536 % 256).toNat, by rw [HH.out]; omega, rfl⟩
  have HO0 : Hid (OwL w base v l ∧ Gr w v w v ∧ base ≤ w.heap.size) := ⟨ho, Gr.refl _ _, hb⟩
  clear ho hb
  go_enter Tryz.func17, Tryz.ntmps17
  go_wp2_with (at_builtin; refine wpList_append_lies _ rfl _ _ 22 rfl base 5 i0 (.int .u8 0) 1 1 Tryz.underlying22 hi hz0 hz1 hz2 rfl (by decide) _ l.length (cl l) rfl (HO0.out.1.alloc _) ⟨w.heap.size, 0, none⟩ 2 2 [.int .u8 D3, .int .u8 D2] rfl rfl (cell_two18 _ _ _ _) ?c2 (by decide) ?c3 ?c4 ?c5 _ rfl ?_)
  case c2 => intro u hu; simp at hu; rcases hu with rfl | rfl <;> rfl
  case c3 => unfold maxLen; omega
  case c4 => omega
  case c5 => have := HO0.out.2.2; simp; omega
  intro g1 cap1 w1 hown' hgrow hat hlt'
  obtain ⟨l1, hl1, Hl1⟩ : ∃ l1, l.length + 2 = l1.length ∧ Hid (l1 = l ++ [D3, D2]) := ⟨_, by simp, rfl⟩
  have HO1 : Hid (OwL w1 base (.slice (some ⟨g1, 0, none⟩) l1.length cap1) l1 ∧ Gr w v w1 (.slice (some ⟨g1, 0, none⟩) l1.length cap1) ∧ base ≤ w1.heap.size) := by
    have h := own_step (m := [D3, D2]) HO0.out.2.2 HO0.out.1 hown' hgrow hat
    rw [← Hl1.out] at h
    exact ⟨h.1, HO0.out.2.1.trans h.2.1, h.2.2⟩
  have hb1 : l1.length ≤ 1000000 + 2 := by omega
  rw [hl1]
  clear hown' hgrow hat hlt' HO0 hl1 hl
  go_wp2_with (at_builtin; refine wpList_append_lies _ rfl _ _ 22 rfl base 5 i0 (.int .u8 0) 1 1 Tryz.underlying22 hi hz0 hz1 hz2 rfl (by decide) _ l1.length (cl l1) rfl (HO1.out.1.alloc _) ⟨w1.heap.size, 0, none⟩ 1 1 [.int .u8 D1] rfl rfl (cell_one_new _ _ _) ?c2 (by decide) ?c3 ?c4 ?c5 _ rfl ?_)
  case c2 => intro u hu; simp at hu; subst hu; rfl
  case c3 => unfold maxLen; omega
  case c4 => omega
  case c5 => have := HO1.out.2.2; simp; omega
  intro g2 cap2 w2 hown' hgrow hat hlt'
  obtain ⟨l2, hl2, Hl2⟩ : ∃ l2, l1.length + 1 = l2.length ∧ Hid (l2 = l1 ++ [D1]) := ⟨_, by simp, rfl⟩
  have HO2 : Hid (OwL w2 base (.slice (some ⟨g2, 0, none⟩) l2.length cap2) l2 ∧ Gr w v w2 (.slice (some ⟨g2, 0, none⟩) l2.length cap2) ∧ base ≤ w2.heap.size) := by
    have h := own_step (m := [D1]) HO1.out.2.2 HO1.out.1 hown' hgrow hat
    rw [← Hl2.out] at h
    exact ⟨h.1, HO1.out.2.1.trans h.2.1, h.2.2⟩
  have hb2 : l2.length ≤ 1000000 + 4 := by omega
  rw [hl2]
  clear hown' hgrow hat hlt' HO1 hl2 hb1
  go_wp2_with (at_builtin; refine wpList_append_lies _ rfl _ _ 22 rfl base 5 i0 (.int .u8 0) 1 1 Tryz.underlying22 hi hz0 hz1 hz2 rfl (by decide) _ l2.length (cl l2) rfl (HO2.out.1.alloc _) ⟨w2.heap.size, 0, none⟩ 1 1 [.int .u8 D0] rfl rfl (cell_one_new _ _ _) ?c2 (by decide) ?c3 ?c4 ?c5 _ rfl ?_)
  case c2 => intro u hu; simp at hu; subst hu; rfl
  case c3 => unfold maxLen; omega
  case c4 => omega
  case c5 => have := HO2.out.2.2; simp; omega
  intro g3 cap3 w3 hown' hgrow hat hlt'
  obtain ⟨l3, hl3, Hl3⟩ : ∃ l3, l2.length + 1 = l3.length ∧ Hid (l3 = l2 ++ [D0]) := ⟨_, by simp, rfl⟩
  have HO3 : Hid (OwL w3 base (.slice (some ⟨g3, 0, none⟩) l3.length cap3) l3 ∧ Gr w v w3 (.slice (some ⟨g3, 0, none⟩) l3.length cap3) ∧ base ≤ w3.heap.size) := by
    have h := own_step (m := [D0]) HO2.out.2.2 HO2.out.1 hown' hgrow hat
    rw [← Hl3.out] at h
    exact ⟨h.1, HO2.out.2.1.trans h.2.1, h.2.2⟩
  have hb3 : l3.length ≤ 1000000 + 6 := by omega
  rw [hl3]
  clear hown' hgrow hat hlt' HO2 hl3 hb2
  have HFin : Hid (l3 = l ++ nbL n 4) := (by rw [Hl3.out, Hl2.out, Hl1.out, nbL_4, HD3.out, HD2.out, HD1.out, HD0.out]; try simp : l3 = l ++ nbL n 4)
  have HF : Hid (OwL w3 base (.slice (some ⟨g3, 0, none⟩) l3.length cap3) (l ++ nbL n 4) ∧ Gr w v w3 (.slice (some ⟨g3, 0, none⟩) l3.length cap3)) := ⟨by rw [← HFin.out]; exact HO3.out.1, HO3.out.2.1⟩
  generalize l3.length = N at HF ⊢
  clear HO3 HFin
  go_wp2
  go_ret
  exact ⟨_, rfl, HF.out⟩

end Go.Proofs.YtcihplachlokiaaGreatDoor
/- Operands as bytes: the program. -/
namespace Go.Proofs.YtcihplachlokiaaGreatDoor
open Go.RowKit Go.Shelf
set_option linter.unusedVariables false
set_option linter.unusedSimpArgs false

/-- The bytes of an operand. -/
def opdL (x : ArgT) : List Nat := nbL x.1 1 ++ nbL x.2.1 (wdT x.1) ++ (if x.1 = 12 then nbL x.2.2 1 else [])
theorem wd_fit {x : ArgT} (h : fitA x = true) : wdT x.1 = 1 ∨ wdT x.1 = 2 ∨ wdT x.1 = 4 := by
  unfold fitA fitB at h
  unfold wdT
  by_cases h1 : x.1 < 1 ∨ 13 < x.1
  · rw [if_pos h1] at h; cases h
  · rw [if_neg h1]
    by_cases h2 : x.1 = 12
    · rw [if_pos h2]; omega
    · rw [if_neg h2]
      by_cases h3 : x.1 = 11
      · rw [if_pos h3]; omega
      · rw [if_neg h3]; omega
theorem num_i (m : Nat) (hm : m = 1 ∨ m = 2 ∨ m = 4) (base : Nat) (v : Value) (l : List Nat) (n : Int) (w : World) (hb : base ≤ w.heap.size) (hl : l.length ≤ 1000000) (ho : OwL w base v l) :
    Calls Tryz.prog 17 #[v, .int .i64 n, .int .i64 (m : Nat)] w fun e w' => ∃ v', e = .returned v' ∧ OwL w' base v' (l ++ nbL n m) ∧ Gr w v w' v' := by
  rcases hm with rfl | rfl | rfl
  · exact num1_i base v l n w hb hl ho
  · exact num2_i base v l n w hb hl ho
  · exact num4_i base v l n w hb hl ho

/-- A box beside the row that grows. -/
def BoxR (B : Nat) (o : Obj) (v : Value) (W : World) : Prop := W.heap[B]? = some o ∧ v.ownBlock ≠ some B
theorem BoxR.lt {B : Nat} {o : Obj} {v : Value} {W : World} (h : BoxR B o v W) : B < W.heap.size := (Array.getElem?_eq_some_iff.1 h.1).1
theorem BoxR.gr {B : Nat} {o : Obj} {v v' : Value} {W W' : World} (h : BoxR B o v W) (g : Gr W v W' v') : BoxR B o v' W' := by
  have hl := h.lt
  refine ⟨(g.1.block B hl (fun e => h.2 e.symm)).trans h.1, fun e => ?_⟩
  rcases g.2 B e with h' | h'
  · exact h.2 h'
  · omega
theorem BoxR.later {B : Nat} {o : Obj} {v : Value} {W W' : World} (h : BoxR B o v W) (g : Below W.heap.size W W') : BoxR B o v W' := ⟨(g.block B h.lt).trans h.1, h.2⟩
theorem BoxR.new (w : World) (o : Obj) {base : Nat} {v : Value} {l : List Nat} (h : OwL w base v l) : BoxR w.heap.size (match o with | .cells c t f => .cells c t f | x => x) v (w.alloc o) := by
  refine ⟨?_, fun e => ?_⟩
  · rw [heap_alloc_last]; cases o <;> rfl
  · have := (h.own _ e).2; omega
theorem cellsQ3 {W : World} {B : Nat} {x y z : Value} {t : TypeId} (h : W.heap[B]? = some (.cells #[x, y, z] t (0, 0))) : W.cell? ⟨B, 0, none⟩ = some x ∧ W.cell? ⟨B, 1, none⟩ = some y ∧ W.cell? ⟨B, 2, none⟩ = some z :=
  ⟨(cell_of_row _ _ _ _ _ _ h).trans rfl, (cell_of_row _ _ _ _ _ _ h).trans rfl, (cell_of_row _ _ _ _ _ _ h).trans rfl⟩

set_option maxRecDepth 10000 in
set_option maxHeartbeats 4000000 in
theorem opd_i (base : Nat) (v : Value) (l : List Nat) (k n p : Int) (w : World) (hb : base ≤ w.heap.size) (hl : l.length ≤ 900000) (ho : OwL w base v l) (hf : fitA (k, n, p) = true) :
    Calls Tryz.prog 41 #[v, .agg #[.int .i64 k, .int .i64 n, .int .i64 p]] w fun e w' => ∃ v', e = .returned v' ∧ OwL w' base v' (l ++ opdL (k, n, p)) ∧ Gr w v w' v' := by
  have hwd := wd_fit hf
  have HW : Hid (∀ W, Calls Tryz.prog 65 #[.int .i64 k] W fun e w' => e = .returned (.int .i64 (wdT k : Nat)) ∧ W = w') := fun W => wd_i k W
  have HN1 : Hid (∀ (v : Value) (l : List Nat) (n : Int) W, base ≤ W.heap.size → l.length ≤ 1000000 → OwL W base v l → Calls Tryz.prog 17 #[v, .int .i64 n, .int .i64 1] W fun e w' => ∃ v', e = .returned v' ∧ OwL w' base v' (l ++ nbL n 1) ∧ Gr W v w' v') := fun v l n W h1 h2 h3 => num1_i base v l n W h1 h2 h3
  have HNm : Hid (∀ (v : Value) (l : List Nat) (n : Int) W, base ≤ W.heap.size → l.length ≤ 1000000 → OwL W base v l → Calls Tryz.prog 17 #[v, .int .i64 n, .int .i64 (wdT k : Nat)] W fun e w' => ∃ v', e = .returned v' ∧ OwL w' base v' (l ++ nbL n (wdT k)) ∧ Gr W v w' v') := fun v l n W h1 h2 h3 => num_i (wdT k) hwd base v l n W h1 h2 h3
  have HO0 : Hid (OwL w base v l ∧ base ≤ w.heap.size ∧ l.length ≤ 900000) := ⟨ho, hb, hl⟩
  have B0 : Hid (BoxR w.heap.size (.cells #[.int .i64 k, .int .i64 n, .int .i64 p] 72 (0, 0)) v (w.alloc (.cells #[.int .i64 k, .int .i64 n, .int .i64 p] 72))) := BoxR.new w _ ho
  have bA : Hid (Below w.heap.size w (w.alloc (.cells #[.int .i64 k, .int .i64 n, .int .i64 p] 72))) := (Below.refl _ _).alloc (Nat.le_refl _) _
  have HL : Hid (l ++ opdL (k, n, p) = (l ++ nbL k 1) ++ nbL n (wdT k) ++ (if k = 12 then nbL p 1 else [])) := (by unfold opdL; simp only [List.append_assoc] : l ++ opdL (k, n, p) = (l ++ nbL k 1) ++ nbL n (wdT k) ++ (if k = 12 then nbL p 1 else []))
  have HLen : Hid ((l ++ nbL k 1).length = l.length + 1 ∧ ((l ++ nbL k 1) ++ nbL n (wdT k)).length ≤ l.length + 5) := ⟨by rw [List.length_append, nbL_len], by rw [List.length_append, List.length_append, nbL_len, nbL_len]; rcases hwd with h | h | h <;> simp only [] at h <;> rw [h] <;> omega⟩
  obtain ⟨LL, HLL⟩ : ∃ LL, Hid (LL = l ++ opdL (k, n, p)) := ⟨_, rfl⟩
  rw [← HLL.out]
  obtain ⟨M, HM⟩ : ∃ M : Int, Hid (M = (wdT k : Nat)) := ⟨_, rfl⟩
  rw [← HM.out] at HW HNm
  clear ho hb hl hf hwd
  go_enter Tryz.func41, Tryz.ntmps41
  go_upto_region 1 with fail
  generalize (w.alloc (.cells #[.int .i64 k, .int .i64 n, .int .i64 p] 72)) = W0 at B0 bA ⊢
  obtain ⟨p0, p1, p2⟩ := cellsQ3 B0.out.1
  go_wp2_with fail
  refine (HN1.out v l k W0 (Nat.le_trans HO0.out.2.1 bA.out.size) (by have := HO0.out.2.2; omega) (HO0.out.1.later bA.out)).mono ?_
  rintro e w1 ⟨v1, rfl, h1, g1⟩
  have B1 : Hid (BoxR w.heap.size (.cells #[.int .i64 k, .int .i64 n, .int .i64 p] 72 (0, 0)) v1 w1) := B0.out.gr g1
  have G1 : Hid (Gr w v w1 v1 ∧ base ≤ w1.heap.size ∧ OwL w1 base v1 (l ++ nbL k 1)) := ⟨Gr.pre bA.out g1, Nat.le_trans (Nat.le_trans HO0.out.2.1 bA.out.size) g1.1.size, h1⟩
  clear g1 h1 p0 p1 p2 B0 bA
  have HNx : Hid (∀ W, Below w1.heap.size w1 W → Calls Tryz.prog 17 #[v1, .int .i64 n, .int .i64 M] W fun e w' => ∃ v', e = .returned v' ∧ OwL w' base v' (l ++ nbL k 1 ++ nbL n (wdT k)) ∧ Gr w1 v1 w' v') := fun W g => (HNm.out v1 _ n W (Nat.le_trans G1.out.2.1 g.size) (by have := HLen.out.1; have := HO0.out.2.2; omega) (G1.out.2.2.later g)).mono fun e w' ⟨v', a, b, c⟩ => ⟨v', a, b, Gr.pre g c⟩
  obtain ⟨p0, p1, p2⟩ := cellsQ3 B1.out.1
  clear HNm
  go_upto_region 2 with fail
  go_region_with (first
    | (go_at_call 65; refine (HW.out _).mono ?_; rintro e w2 ⟨rfl, rfl⟩)
    | (go_at_call 17; refine (HNx.out _ (by first | exact Below.refl _ _ | exact (Below.refl _ _).drew)).mono ?_; rintro e w2 ⟨v2, rfl, h2, g2⟩))
  all_goals
    have B2 : Hid (BoxR w.heap.size (.cells #[.int .i64 k, .int .i64 n, .int .i64 p] 72 (0, 0)) v2 w2) := B1.out.gr g2
    have G2 : Hid (Gr w v w2 v2 ∧ base ≤ w2.heap.size ∧ OwL w2 base v2 (l ++ nbL k 1 ++ nbL n (wdT k))) := ⟨G1.out.1.trans g2, Nat.le_trans G1.out.2.1 g2.1.size, h2⟩
    obtain ⟨p0, p1, p2⟩ := cellsQ3 B2.out.1
    clear g2 h2 G1 B1 HNx HW
    by_cases h12 : k = 12
    · subst h12
      go_wp2_with fail
      refine (HN1.out v2 _ p w2 G2.out.2.1 (by have := HLen.out.2; have := HO0.out.2.2; omega) G2.out.2.2).mono ?_
      rintro e w3 ⟨v3, rfl, h3, g3⟩
      have G3 : Hid (OwL w3 base v3 LL ∧ Gr w v w3 v3) := ⟨by rw [HLL.out, HL.out]; first | (rw [if_pos rfl]; exact h3) | (rw [if_pos trivial]; exact h3), G2.out.1.trans g3⟩
      clear g3 h3 p0 p1 p2 B2 G2 HN1
      go_wp2
      go_ret
      exact ⟨_, rfl, G3.out⟩
    · have e1 : (k == 12) = false := by simpa using h12
      have G3 : Hid (OwL w2 base v2 LL ∧ Gr w v w2 v2) := ⟨by rw [HLL.out, HL.out, if_neg h12, List.append_nil]; exact G2.out.2.2, G2.out.1⟩
      clear h12
      go_wp2
      go_ret
      exact ⟨_, rfl, G3.out⟩
end Go.Proofs.YtcihplachlokiaaGreatDoor
/- Instructions as bytes: the program. -/
namespace Go.Proofs.YtcihplachlokiaaGreatDoor
open Go.RowKit Go.Shelf
set_option linter.unusedVariables false
set_option linter.unusedSimpArgs false

def opdsL (xs : List ArgT) : List Nat := (xs.map opdL).flatten
/-- The bytes of an instruction. -/
def insL (i : InstT) : List Nat := nbL i.code 1 ++ (if hasB i.code then nbL i.one.op 1 ++ opdsL i.one.args else [])
theorem opdL_len (x : ArgT) : (opdL x).length ≤ 6 := by
  have hw : wdT x.1 ≤ 4 := by unfold wdT; split <;> (try omega); split <;> (try omega); split <;> omega
  unfold opdL
  rw [List.length_append, List.length_append, nbL_len, nbL_len]
  by_cases h : x.1 = 12
  · rw [if_pos h, nbL_len]; omega
  · rw [if_neg h]; simp; omega
theorem opdsL_len (xs : List ArgT) : (opdsL xs).length ≤ 6 * xs.length := by
  induction xs with
  | nil => simp [opdsL]
  | cons x xs ih =>
    have := opdL_len x
    simp only [opdsL, List.map_cons, List.flatten_cons, List.length_append, List.length_cons] at ih ⊢
    omega
theorem opdsL_snoc (xs : List ArgT) (k : Nat) (x : ArgT) (h : xs[k]? = some x) : opdsL (xs.take (k + 1)) = opdsL (xs.take k) ++ opdL x := by
  have hk : k < xs.length := (List.getElem?_eq_some_iff.1 h).1
  rw [List.take_succ_eq_append_getElem hk, show xs[k] = x from Option.some.inj ((List.getElem?_eq_getElem hk).symm.trans h)]
  simp [opdsL]

set_option maxRecDepth 10000 in
set_option maxHeartbeats 4000000 in
theorem inst_i (base : Nat) (v : Value) (l : List Nat) (c op : Int) (a : Option Addr) (len cap : Nat) (xs : List ArgT) (w : World) (hb : base ≤ w.heap.size) (hl : l.length ≤ 500000) (ho : OwL w base v l)
    (hlen : len = xs.length) (hm : len ≤ 3) (hx : SlA w a xs) (hr : ∀ g s, xs ≠ [] → a = some ⟨g, s, none⟩ → v.ownBlock ≠ some g) (hf : hasB c = true → xs.all fitA = true) :
    Calls Tryz.prog 16 #[v, .agg #[.int .i64 c, .int .i64 op, .slice a len cap]] w fun e w' => ∃ v', e = .returned v' ∧ OwL w' base v' (l ++ insL ⟨c, ⟨op, xs⟩⟩) ∧ Gr w v w' v' := by
  have HN1 : Hid (∀ (v : Value) (l : List Nat) (n : Int) W, base ≤ W.heap.size → l.length ≤ 1000000 → OwL W base v l → Calls Tryz.prog 17 #[v, .int .i64 n, .int .i64 1] W fun e w' => ∃ v', e = .returned v' ∧ OwL w' base v' (l ++ nbL n 1) ∧ Gr W v w' v') := fun v l n W h1 h2 h3 => num1_i base v l n W h1 h2 h3
  have HB : Hid (∀ W, Calls Tryz.prog 40 #[.int .i64 c] W fun e w' => e = .returned (.bool (hasB c)) ∧ W = w') := fun W => has_i c W
  have HOp : Hid (∀ (v : Value) (l : List Nat) (k n p : Int) W, base ≤ W.heap.size → l.length ≤ 900000 → OwL W base v l → fitA (k, n, p) = true → Calls Tryz.prog 41 #[v, .agg #[.int .i64 k, .int .i64 n, .int .i64 p]] W fun e w' => ∃ v', e = .returned v' ∧ OwL w' base v' (l ++ opdL (k, n, p)) ∧ Gr W v w' v') := fun v l k n p W h1 h2 h3 h4 => opd_i base v l k n p W h1 h2 h3 h4
  have HO0 : Hid (OwL w base v l ∧ base ≤ w.heap.size ∧ l.length ≤ 500000) := ⟨ho, hb, hl⟩
  have B0 : Hid (BoxR w.heap.size (.cells #[.int .i64 c, .int .i64 op, .slice a len cap] 44 (0, 0)) v (w.alloc (.cells #[.int .i64 c, .int .i64 op, .slice a len cap] 44))) := BoxR.new w _ ho
  have bA : Hid (Below w.heap.size w (w.alloc (.cells #[.int .i64 c, .int .i64 op, .slice a len cap] 44))) := (Below.refl _ _).alloc (Nat.le_refl _) _
  have HX : Hid (SlA w a xs ∧ (∀ g s, xs ≠ [] → a = some ⟨g, s, none⟩ → v.ownBlock ≠ some g) ∧ len = xs.length ∧ len ≤ 3) := ⟨hx, hr, hlen, hm⟩
  obtain ⟨LL, HLL⟩ : ∃ LL, Hid (LL = l ++ insL ⟨c, ⟨op, xs⟩⟩) := ⟨_, rfl⟩
  rw [← HLL.out]
  have HLen1 : Hid ((l ++ nbL c 1).length = l.length + 1) := (by rw [List.length_append, nbL_len] : (l ++ nbL c 1).length = l.length + 1)
  clear ho hb hl hlen hm hx hr
  cases hh : hasB c with
  | false =>
    rw [hh] at HB
    have HE : Hid (LL = l ++ nbL c 1) := (by rw [HLL.out]; unfold insL; simp only [hh]; simp : LL = l ++ nbL c 1)
    clear hf hh HLL
    go_enter Tryz.func16, Tryz.ntmps16
    go_upto_region 1 with fail
    generalize (w.alloc (.cells #[.int .i64 c, .int .i64 op, .slice a len cap] 44)) = W0 at B0 bA ⊢
    obtain ⟨p0, p1, p2⟩ := cellsQ3 B0.out.1
    go_wp2_with fail
    refine (HN1.out v l c W0 (Nat.le_trans HO0.out.2.1 bA.out.size) (by have := HO0.out.2.2; omega) (HO0.out.1.later bA.out)).mono ?_
    rintro e w1 ⟨v1, rfl, h1, g1⟩
    have B1 : Hid (BoxR w.heap.size (.cells #[.int .i64 c, .int .i64 op, .slice a len cap] 44 (0, 0)) v1 w1) := B0.out.gr g1
    have G1 : Hid (OwL w1 base v1 LL ∧ Gr w v w1 v1) := ⟨by rw [HE.out]; exact h1, Gr.pre bA.out g1⟩
    clear g1 h1 p0 p1 p2 B0 bA
    obtain ⟨p0, p1, p2⟩ := cellsQ3 B1.out.1
    go_wp2_with fail
    refine (HB.out _).mono ?_
    rintro e w2 ⟨rfl, rfl⟩
    go_wp2
    go_ret
    exact ⟨_, rfl, G1.out⟩
  | true =>
    rw [hh] at HB
    have hf' := hf hh
    have HE : Hid (LL = (l ++ nbL c 1) ++ nbL op 1 ++ opdsL xs) := (by rw [HLL.out]; unfold insL; simp only [hh]; simp : LL = (l ++ nbL c 1) ++ nbL op 1 ++ opdsL xs)
    have HF : Hid (∀ j x, xs[j]? = some x → fitA x = true) := (fun j x hx => List.all_eq_true.1 hf' x (List.mem_of_getElem? hx) : ∀ j x, xs[j]? = some x → fitA x = true)
    clear hf hf' hh HLL
    go_enter Tryz.func16, Tryz.ntmps16
    go_upto_region 1 with fail
    generalize (w.alloc (.cells #[.int .i64 c, .int .i64 op, .slice a len cap] 44)) = W0 at B0 bA ⊢
    obtain ⟨p0, p1, p2⟩ := cellsQ3 B0.out.1
    go_wp2_with fail
    refine (HN1.out v l c W0 (Nat.le_trans HO0.out.2.1 bA.out.size) (by have := HO0.out.2.2; omega) (HO0.out.1.later bA.out)).mono ?_
    rintro e w1 ⟨v1, rfl, h1, g1⟩
    have B1 : Hid (BoxR w.heap.size (.cells #[.int .i64 c, .int .i64 op, .slice a len cap] 44 (0, 0)) v1 w1) := B0.out.gr g1
    have G1 : Hid (OwL w1 base v1 (l ++ nbL c 1) ∧ Gr w v w1 v1 ∧ base ≤ w1.heap.size) := ⟨h1, Gr.pre bA.out g1, Nat.le_trans (Nat.le_trans HO0.out.2.1 bA.out.size) g1.1.size⟩
    clear g1 h1 p0 p1 p2 B0 bA
    obtain ⟨p0, p1, p2⟩ := cellsQ3 B1.out.1
    go_wp2_with fail
    refine (HB.out _).mono ?_
    rintro e w2 ⟨rfl, rfl⟩
    go_wp2_with fail
    refine (HN1.out v1 _ op w1 G1.out.2.2 (by have := HLen1.out; have := HO0.out.2.2; omega) G1.out.1).mono ?_
    rintro e w2 ⟨v2, rfl, h2, g2⟩
    have B2 : Hid (BoxR w.heap.size (.cells #[.int .i64 c, .int .i64 op, .slice a len cap] 44 (0, 0)) v2 w2) := B1.out.gr g2
    have G2 : Hid (OwL w2 base v2 (l ++ nbL c 1 ++ nbL op 1 ++ opdsL (xs.take 0)) ∧ Gr w v w2 v2 ∧ base ≤ w2.heap.size) := ⟨by rw [List.take_zero]; simpa [opdsL] using h2, G1.out.2.1.trans g2, Nat.le_trans G1.out.2.2 g2.1.size⟩
    clear g2 h2 p0 p1 p2 B1 G1
    obtain ⟨p0, p1, p2⟩ := cellsQ3 B2.out.1
    go_wp2
    clear p0 p1 p2
    go_loopw [0, 6, 25] (fun vv _ i wr => ∃ k : Nat, k ≤ len ∧ i = .int .i64 k ∧ Hid (OwL wr base vv (l ++ nbL c 1 ++ nbL op 1 ++ opdsL (xs.take k)) ∧ Gr w v wr vv ∧ base ≤ wr.heap.size)) (fun _ _ i _ => len - (intOf i).toNat)
    case atStart => exact ⟨0, Nat.zero_le _, rfl, G2.out⟩
    case round =>
      clear G2 B2
      obtain ⟨k, hk, rfl, HR⟩ := hrel
      by_cases hlt : k < len
      · have ik : (k : Int) < (len : Int) := by omega
        have ik3 : len ≤ 3 := HX.out.2.2.2
        obtain ⟨x, hxk⟩ : ∃ x, xs[k]? = some x := ⟨_, List.getElem?_eq_getElem (by have := HX.out.2.2.1; omega)⟩
        obtain ⟨b, o, rfl, hb, c0', c1', c2'⟩ := HX.out.1 k x hxk
        have hgr : ∀ s, wr.cell? ⟨b, s, none⟩ = w.cell? ⟨b, s, none⟩ := fun s => HR.out.2.1.1.cell_far (a := ⟨b, s, none⟩) hb (fun e => HX.out.2.1 b o (fun h => by rw [h] at hxk; cases hxk) rfl e.symm)
        have c0 := (hgr _).trans c0'
        have c1 := (hgr _).trans c1'
        have c2 := (hgr _).trans c2'
        have HS : Hid (opdsL (xs.take (k + 1)) = opdsL (xs.take k) ++ opdL x) := opdsL_snoc xs k x hxk
        have hfx : Hid (fitA x = true) := HF.out k x hxk
        have hln : Hid ((l ++ nbL c 1 ++ nbL op 1 ++ opdsL (xs.take k)).length ≤ 900000) := (by
          have h1 := opdsL_len (xs.take k)
          have h2 := HO0.out.2.2
          have h3 := HX.out.2.2.2
          rw [List.length_append, List.length_append, List.length_append, nbL_len, nbL_len]
          rw [List.length_take] at h1
          omega : (l ++ nbL c 1 ++ nbL op 1 ++ opdsL (xs.take k)).length ≤ 900000)
        obtain ⟨xk, xn, xp⟩ := x
        simp only [] at c0 c1 c2
        clear c0' c1' c2' hgr hxk hb
        have bz : Hid (Below wr.heap.size wr (wr.alloc (.cells #[.int .i64 xk, .int .i64 xn, .int .i64 xp] 72))) := (Below.refl _ _).alloc (Nat.le_refl _) _
        go_wp2_with fail
        refine (HOp.out u0 _ xk xn xp _ (Nat.le_trans HR.out.2.2 bz.out.size) hln.out (HR.out.1.later bz.out) hfx.out).mono ?_
        rintro e w8 ⟨v8, rfl, h8, g8⟩
        have R8 : Hid (OwL w8 base v8 (l ++ nbL c 1 ++ nbL op 1 ++ opdsL (xs.take (k + 1))) ∧ Gr w v w8 v8 ∧ base ≤ w8.heap.size) := ⟨by rw [HS.out, ← List.append_assoc]; exact h8, HR.out.2.1.trans (Gr.pre bz.out g8), Nat.le_trans (Nat.le_trans HR.out.2.2 bz.out.size) g8.1.size⟩
        clear g8 h8 HR bz c0 c1 c2 HS hfx hln
        go_wp2
        go_roundw
        case rel => exact ⟨k + 1, by omega, by go_num, R8⟩
        case measure => simp [intOf]; omega
      · have hkn : k = xs.length := by have := HX.out.2.2.1; omega
        have HFin : Hid (OwL wr base u0 LL ∧ Gr w v wr u0) := ⟨by rw [HE.out]; have := HR.out.1; rwa [hkn, List.take_length] at this, HR.out.2.1⟩
        have ik : ¬ ((k : Int) < (len : Int)) := by omega
        clear HR hkn
        go_wp2
        go_ret
        exact ⟨_, rfl, HFin.out⟩
end Go.Proofs.YtcihplachlokiaaGreatDoor
/- The first fault of a list: the program's picWrong. -/
namespace Go.Proofs.YtcihplachlokiaaGreatDoor
open Go.RowKit Go.Shelf
set_option linter.unusedVariables false
set_option linter.unusedSimpArgs false

/-- The first instruction that cannot be written, counted from j. -/
def fwA : List InstT → Nat → Int × Nat
  | [], _ => (0, 0)
  | x :: xs, j => if wrT x = 0 then fwA xs (j + 1) else (wrT x, j)
theorem fw_step {xs : List InstT} {k : Nat} {x : InstT} (h : xs[k]? = some x) : fwA (xs.drop k) k = if wrT x = 0 then fwA (xs.drop (k + 1)) (k + 1) else (wrT x, k) := by
  have hk := (List.getElem?_eq_some_iff.1 h).1
  rw [List.drop_eq_getElem_cons hk, show xs[k] = x from Option.some.inj ((List.getElem?_eq_getElem hk).symm.trans h)]
  rfl
theorem fw_end (xs : List InstT) (k : Nat) (h : xs.length ≤ k) : fwA (xs.drop k) k = (0, 0) := by rw [List.drop_eq_nil_of_le h]; rfl
theorem fw_zero : ∀ (xs : List InstT) (j : Nat), (fwA xs j).1 = 0 → ∀ x ∈ xs, wrT x = 0
  | [], _, _, x, hx => by cases hx
  | y :: ys, j, h, x, hx => by
    unfold fwA at h
    by_cases hy : wrT y = 0
    · rw [if_pos hy] at h
      rcases List.mem_cons.1 hx with rfl | hx
      · exact hy
      · exact fw_zero ys (j + 1) h x hx
    · rw [if_neg hy] at h
      exact absurd h hy
theorem fw_at : ∀ (xs : List InstT) (j : Nat), (fwA xs j).1 = 0 → fwA xs j = (0, 0)
  | [], _, _ => rfl
  | y :: ys, j, h => by
    unfold fwA at h ⊢
    by_cases hy : wrT y = 0
    · rw [if_pos hy] at h ⊢; exact fw_at ys (j + 1) h
    · rw [if_neg hy] at h; exact absurd h hy
/-- What is wrong with a list. -/
def pfT (xs : List InstT) : Int × Nat := if 1000 < xs.length then (1, 0) else fwA xs 0

/-- Instructions at a slice. -/
def SlI (W : World) (a : Option Addr) (xs : List InstT) : Prop := ∀ j x, xs[j]? = some x → ∃ b o a' c', a = some ⟨b, o, none⟩ ∧ b < W.heap.size ∧ W.cell? ⟨b, o + j * 3, none⟩ = some (.int .i64 x.code) ∧ W.cell? ⟨b, o + j * 3 + 1, none⟩ = some (.int .i64 x.one.op) ∧ W.cell? ⟨b, o + j * 3 + 2, none⟩ = some (.slice a' x.one.args.length c') ∧ x.one.args.length ≤ 9223372036854775807 ∧ SlA W a' x.one.args
theorem SlI.later {W W' : World} {B : Nat} {a : Option Addr} {xs : List InstT} (h : SlI W a xs) (g : Below B W W') (hB : W.heap.size ≤ B) : SlI W' a xs := fun j x hx => by
  obtain ⟨b, o, a', c', h1, h2, h3, h4, h5, h6, h7⟩ := h j x hx
  exact ⟨b, o, a', c', h1, Nat.lt_of_lt_of_le h2 g.size, (g.cell (p := ⟨b, _, none⟩) (by show b < B; omega)).trans h3, (g.cell (p := ⟨b, _, none⟩) (by show b < B; omega)).trans h4, (g.cell (p := ⟨b, _, none⟩) (by show b < B; omega)).trans h5, h6, h7.later g hB⟩
theorem slI_of {W : World} {lo : Nat} {v : Value} {xs : List InstT} (h : InstsIs W lo v xs) : ∃ a c, v = .slice a xs.length c ∧ xs.length ≤ 9223372036854775807 ∧ SlI W a xs := by
  obtain ⟨a, c, h1, h2, h3⟩ := h
  refine ⟨a, c, h1, h2, fun j x hx => ?_⟩
  obtain ⟨b, o, cs, e1, _, _, hr, v', hc, hv'⟩ := h3 j x hx
  obtain ⟨a', c', rfl, hm', hs'⟩ := slA_of hv'
  subst hc
  have c0 := hr 0 _ rfl
  exact ⟨b, o, a', c', e1, World.block_lt_of_cell? _ _ c0, c0, hr 1 _ rfl, hr 2 _ rfl, hm', hs'⟩
/-- A box of two numbers that may be written. -/
theorem box2 {W : World} {B : Nat} {x y : Value} {t : TypeId} (h : W.heap[B]? = some (.cells #[x, y] t (0, 0))) : W.cell? ⟨B, 0, none⟩ = some x ∧ W.cell? ⟨B, 1, none⟩ = some y ∧ W.frozen? ⟨B, 0, none⟩ = false ∧ W.frozen? ⟨B, 1, none⟩ = false :=
  ⟨(cell_of_row _ _ _ _ _ _ h).trans rfl, (cell_of_row _ _ _ _ _ _ h).trans rfl, by simp [World.frozen?, h], by simp [World.frozen?, h]⟩
theorem infoPF : (Tryz.prog.info? 26).map (·.size) = some 2 := by kernel_rfl

set_option maxRecDepth 10000 in
set_option maxHeartbeats 4000000 in
theorem flt_i (a : Option Addr) (cap : Nat) (n : Nat) (xs : List InstT) (w : World) (hl : n = xs.length) (hm : n ≤ 1048576) (hx : SlI w a xs) :
    Calls Tryz.prog 15 #[.slice a n cap] w fun e w' => e = .returned (.agg #[.int .i64 (pfT xs).1, .int .i64 (pfT xs).2]) ∧ Below w.heap.size w w' := by
  have HW : Hid (∀ (c op : Int) (a : Option Addr) (len cap : Nat) (ys : List ArgT) W, len = ys.length → len ≤ 9223372036854775807 → SlA W a ys → Calls Tryz.prog 39 #[.agg #[.int .i64 c, .int .i64 op, .slice a len cap]] W fun e w' => e = .returned (.int .i64 (wrT ⟨c, ⟨op, ys⟩⟩)) ∧ Below W.heap.size W w') := fun c op a len cap ys W h1 h2 h3 => wrong_i c op a len cap ys W h1 h2 h3
  have HX : Hid (SlI w a xs ∧ n = xs.length) := ⟨hx, hl⟩
  have K0 : Hid ((w.alloc (.cells #[.int .i64 0, .int .i64 0] 26)).heap[w.heap.size]? = some (.cells #[.int .i64 0, .int .i64 0] 26 (0, 0)) ∧ Below w.heap.size w (w.alloc (.cells #[.int .i64 0, .int .i64 0] 26))) := ⟨heap_alloc_last _ _, (Below.refl _ _).alloc (Nat.le_refl _) _⟩
  obtain ⟨F1, HF1⟩ : ∃ F, Hid (F = (pfT xs).1) := ⟨_, rfl⟩
  obtain ⟨F2, HF2⟩ : ∃ F : Int, Hid (F = ((pfT xs).2 : Nat)) := ⟨_, rfl⟩
  rw [← HF1.out, ← HF2.out]
  by_cases hbig : 1000 < n
  · have i1 : (1000 : Int) < (n : Int) := by omega
    have HE : Hid (F1 = 1 ∧ F2 = 0) := (by rw [HF1.out, HF2.out]; unfold pfT; rw [if_pos (by omega)]; exact ⟨rfl, rfl⟩ : F1 = 1 ∧ F2 = 0)
    clear hbig hx hl
    go_enter Tryz.func15, Tryz.ntmps15
    go_upto_region 1 with fail
    generalize (w.alloc (.cells #[.int .i64 0, .int .i64 0] 26)) = W0 at K0 ⊢
    obtain ⟨p0, p1, q0, q1⟩ := box2 K0.out.1
    have HR := row_put (row_put K0.out.1 0 (.int .i64 1)) 1 (.int .i64 0)
    have HBl : Below w.heap.size w ((W0.setCell ⟨w.heap.size, 0, none⟩ (.int .i64 1)).setCell ⟨w.heap.size, 1, none⟩ (.int .i64 0)) := bel_set (bel_set K0.out.2 (Nat.le_refl _) _ _) (Nat.le_refl _) _ _
    go_wp2
    refine ret_row rfl rfl HR Tryz.underlying26 rfl infoPF rfl ?_
    exact ⟨by rw [HE.out.1, HE.out.2]; rfl, HBl⟩
  · have i1 : ¬ ((1000 : Int) < (n : Int)) := by omega
    have HP : Hid (pfT xs = fwA xs 0) := (by unfold pfT; rw [if_neg (by omega)] : pfT xs = fwA xs 0)
    have hn : n ≤ 1000 := by omega
    clear hbig hx hl hm
    go_enter Tryz.func15, Tryz.ntmps15
    go_upto_region 1 with fail
    generalize (w.alloc (.cells #[.int .i64 0, .int .i64 0] 26)) = W0 at K0 ⊢
    go_wp2
    go_loopw [3, 4, 5, 12] (fun _ _ _ i wr => ∃ k : Nat, k ≤ n ∧ i = .int .i64 k ∧ Hid (fwA xs 0 = fwA (xs.drop k) k ∧ wr.heap[w.heap.size]? = some (.cells #[.int .i64 0, .int .i64 0] 26 (0, 0)) ∧ Below w.heap.size w wr)) (fun _ _ _ i _ => n - (intOf i).toNat)
    case atStart => exact ⟨0, Nat.zero_le _, rfl, rfl, K0.out⟩
    case round =>
      clear K0
      obtain ⟨k, hk, rfl, HR0⟩ := hrel
      by_cases hlt : k < n
      · have ik : (k : Int) < (n : Int) := by omega
        obtain ⟨x, hxk⟩ : ∃ x, xs[k]? = some x := ⟨_, List.getElem?_eq_getElem (by have := HX.out.2; omega)⟩
        obtain ⟨b, o, a', c', rfl, hb, c0, c1, c2, hal, hsl⟩ := (HX.out.1.later HR0.out.2.2 (Nat.le_refl _)) k x hxk
        have HSt := fw_step hxk
        obtain ⟨⟨xc, ⟨xo, xa⟩⟩, hx2⟩ : ∃ y : InstT, x = y := ⟨x, rfl⟩
        subst hx2
        simp only [] at c0 c1 c2 hal hsl
        have HSt' : Hid (fwA (xs.drop k) k = if wrT ⟨xc, ⟨xo, xa⟩⟩ = 0 then fwA (xs.drop (k + 1)) (k + 1) else (wrT ⟨xc, ⟨xo, xa⟩⟩, k)) := HSt
        obtain ⟨m, hm⟩ : ∃ m, xa.length = m := ⟨_, rfl⟩
        have HM : Hid (m = xa.length) := hm.symm
        rw [hm] at c2 hal
        have HC : Hid (Calls Tryz.prog 39 #[.agg #[.int .i64 xc, .int .i64 xo, .slice a' m c']] (wr.alloc (.cells #[.int .i64 xc, .int .i64 xo, .slice a' m c'] 44)) fun e w' => e = .returned (.int .i64 (wrT ⟨xc, ⟨xo, xa⟩⟩)) ∧ Below (wr.alloc (.cells #[.int .i64 xc, .int .i64 xo, .slice a' m c'] 44)).heap.size (wr.alloc (.cells #[.int .i64 xc, .int .i64 xo, .slice a' m c'] 44)) w') := HW.out xc xo a' m c' xa _ HM.out hal (hsl.later ((Below.refl _ _).alloc (Nat.le_refl _) _) (Nat.le_refl _))
        obtain ⟨V, HV⟩ : ∃ V, Hid (V = wrT ⟨xc, ⟨xo, xa⟩⟩) := ⟨_, rfl⟩
        rw [← HV.out] at HC HSt'
        have bz : Hid (Below wr.heap.size wr (wr.alloc (.cells #[.int .i64 xc, .int .i64 xo, .slice a' m c'] 44))) := (Below.refl _ _).alloc (Nat.le_refl _) _
        clear hxk hb HSt hsl hal hm
        go_wp2_with fail
        refine HC.out.mono ?_
        rintro e w8 ⟨rfl, g8⟩
        have q8 : Below wr.heap.size wr w8 := bz.out.trans (g8.mono bz.out.size)
        have K8 : Hid (w8.heap[w.heap.size]? = some (.cells #[.int .i64 0, .int .i64 0] 26 (0, 0)) ∧ Below w.heap.size w w8) := ⟨(q8.block _ (Array.getElem?_eq_some_iff.1 HR0.out.2.1).1).trans HR0.out.2.1, HR0.out.2.2.trans (q8.mono HR0.out.2.2.size)⟩
        clear g8 q8 bz HC c0 c1 c2
        by_cases hV : V = 0
        · have HNx : Hid (fwA xs 0 = fwA (xs.drop (k + 1)) (k + 1) ∧ w8.heap[w.heap.size]? = some (.cells #[.int .i64 0, .int .i64 0] 26 (0, 0)) ∧ Below w.heap.size w w8) := ⟨by rw [HR0.out.1, HSt'.out, if_pos hV], K8.out⟩
          have eV : (V != 0) = false := by simp [hV]
          clear HR0 HSt' K8 HV hV
          go_wp2
          go_roundw
          case rel => exact ⟨k + 1, by omega, by go_num, HNx⟩
          case measure => simp [intOf]; omega
        · have HE : Hid (F1 = V ∧ F2 = k) := (by rw [HF1.out, HF2.out, HP.out, HR0.out.1, HSt'.out, if_neg hV]; exact ⟨rfl, rfl⟩ : F1 = V ∧ F2 = k)
          have eV : (V != 0) = true := by simp [hV]
          clear HR0 HSt' HV hV
          obtain ⟨p0, p1, q0, q1⟩ := box2 K8.out.1
          have HR := row_put (row_put K8.out.1 0 (.int .i64 V)) 1 (.int .i64 k)
          have HBl : Below w.heap.size w ((w8.setCell ⟨w.heap.size, 0, none⟩ (.int .i64 V)).setCell ⟨w.heap.size, 1, none⟩ (.int .i64 k)) := bel_set (bel_set K8.out.2 (Nat.le_refl _) _ _) (Nat.le_refl _) _ _
          go_wp2
          refine ret_row rfl rfl HR Tryz.underlying26 rfl infoPF rfl ?_
          exact ⟨by rw [HE.out.1, HE.out.2]; rfl, HBl⟩
      · have hkn : xs.length ≤ k := by have := HX.out.2; omega
        have HE : Hid (F1 = 0 ∧ F2 = 0) := (by rw [HF1.out, HF2.out, HP.out, HR0.out.1, fw_end xs k hkn]; exact ⟨rfl, rfl⟩ : F1 = 0 ∧ F2 = 0)
        have ik : ¬ ((k : Int) < (n : Int)) := by omega
        have K8 : Hid (wr.heap[w.heap.size]? = some (.cells #[.int .i64 0, .int .i64 0] 26 (0, 0)) ∧ Below w.heap.size w wr) := HR0.out.2
        clear HR0 hkn
        obtain ⟨p0, p1, q0, q1⟩ := box2 K8.out.1
        have HR := row_put (row_put K8.out.1 0 (.int .i64 0)) 1 (.int .i64 0)
        have HBl : Below w.heap.size w ((wr.setCell ⟨w.heap.size, 0, none⟩ (.int .i64 0)).setCell ⟨w.heap.size, 1, none⟩ (.int .i64 0)) := bel_set (bel_set K8.out.2 (Nat.le_refl _) _ _) (Nat.le_refl _) _ _
        go_wp2
        refine ret_row rfl rfl HR Tryz.underlying26 rfl infoPF rfl ?_
        exact ⟨by rw [HE.out.1, HE.out.2]; rfl, HBl⟩
end Go.Proofs.YtcihplachlokiaaGreatDoor
/- Numbers as bytes: the specification's l17Num. -/
namespace Go.Proofs.YtcihplachlokiaaGreatDoor
open Go.RowKit Go.Shelf
set_option linter.unusedVariables false
set_option linter.unusedSimpArgs false

/-- The byte of a number at a place. -/
def nbF (v : Int) (n j : Nat) : Nat := (v / 256 ^ (n - 1 - j) % 256).toNat
theorem nbF_lt (v : Int) (n j : Nat) : nbF v n j < 256 := by unfold nbF; omega
theorem nbL_get (n : Nat) : ∀ (v : Int) (j : Nat), j < n → (nbL v n)[j]? = some (nbF v n j) := by
  induction n with
  | zero => intro v j h; omega
  | succ n ih =>
    intro v j h
    unfold nbL
    by_cases e : j = n
    · subst e
      rw [List.getElem?_append_right (by rw [nbL_len]; omega), nbL_len]
      simp [nbF]
    · rw [List.getElem?_append_left (by rw [nbL_len]; omega), ih (v / 256) j (by omega)]
      unfold nbF
      rw [show n + 1 - 1 - j = (n - 1 - j) + 1 by omega, Int.pow_succ, Int.mul_comm ((256 : Int) ^ (n - 1 - j)) 256, ← Int.ediv_ediv_of_nonneg (by decide)]
theorem tm256 (V : Int) : (0 ≤ V.tmod 256 ∧ V.tmod 256 = V % 256) ∨ (V.tmod 256 < 0 ∧ V.tmod 256 + 256 = V % 256) := by
  rw [Int.tmod_eq_emod]
  by_cases h : 0 ≤ V ∨ (256 : Int) ∣ V
  · rw [if_pos h]; left; omega
  · rw [if_neg h]
    have : ¬ (256 : Int) ∣ V := fun h' => h (.inr h')
    right
    have e : (((256 : Int).natAbs : Nat) : Int) = 256 := rfl
    omega
theorem td256 (V : Int) : (V - V % 256).tdiv 256 = V / 256 := by
  rw [show V - V % 256 = 256 * (V / 256) by omega]
  exact Int.mul_tdiv_cancel_left _ (by decide)
theorem ed_bd (v : Int) (k : Nat) (h : -1099511627776 ≤ v ∧ v ≤ 1099511627776) : -1099511627776 ≤ v / 256 ^ k ∧ v / 256 ^ k ≤ 1099511627776 := by
  have hp : (0 : Int) < 256 ^ k := Int.pow_pos (by decide)
  refine ⟨?_, ?_⟩
  · refine Int.le_ediv_of_mul_le hp ?_
    have : (-1099511627776 : Int) * 256 ^ k ≤ -1099511627776 * 1 := by omega
    omega
  · by_cases h0 : 0 ≤ v
    · have := Int.ediv_le_self ((256 : Int) ^ k) h0; omega
    · have := Int.ediv_neg_of_neg_of_pos (by omega : v < 0) hp; omega

set_option maxRecDepth 10000 in
set_option maxHeartbeats 4000000 in
theorem num_s (v : Int) (n : Nat) (w : World) (hv : -1099511627776 ≤ v ∧ v ≤ 1099511627776) (hn : n ≤ 4) :
    Calls Tryz.prog 21 #[.int .i64 v, .int .i64 (n : Nat)] w fun e w' => e = .returned (.slice (some ⟨w.heap.size, 0, none⟩) n n) ∧ By w' w.heap.size n (nbF v n) ∧ Below w.heap.size w w' := by
  have hmk := run_make_row' (P := Tryz.prog) 22 5 (.int .u8 0) 1 Tryz.underlying22 infoU8 rfl .i64 .i64 n (by omega) (by omega)
  have r1 := By.made w n
  have b1 : Below w.heap.size w (w.alloc (.cells (madeCells #[.int .u8 0] n) 5)) := (Below.refl _ _).alloc (Nat.le_refl _) _
  go_enter Tryz.func21, Tryz.ntmps21
  go_wp2
  generalize (w.alloc (.cells (madeCells #[.int .u8 0] n) 5)) = W1 at r1 b1 ⊢
  clear hmk
  go_loopw [0, 6, 7] (fun vv i _ wr => ∃ (k : Nat) (V : Int), k ≤ n ∧ i = .int .i64 ((n : Int) - 1 - k) ∧ vv = .int .i64 V ∧ Hid (V = v / 256 ^ k) ∧ By wr w.heap.size n (fun j => if n ≤ j + k then nbF v n j else 0) ∧ Below w.heap.size w wr)
    (fun _ i _ _ => (intOf i + 1).toNat)
  case atStart => exact ⟨0, v, Nat.zero_le _, by go_num, rfl, by show v = v / 256 ^ 0; simp, r1.congr (fun j hj => by rw [if_neg (by omega)]), b1⟩
  case round =>
    clear r1 b1
    obtain ⟨k, V, hk, rfl, rfl, HV, hR, hb⟩ := hrel
    by_cases hlt : k < n
    · obtain ⟨K, hK⟩ : ∃ K : Nat, K + k + 1 = n := ⟨n - 1 - k, by omega⟩
      have eK : (n : Int) - 1 - k = (K : Int) := by omega
      rw [eK]
      clear eK
      have bV : -1099511627776 ≤ V ∧ V ≤ 1099511627776 := by rw [HV.out]; exact ed_bd v k hv
      have hT := tm256 V
      have hQ := td256 V
      have HQ2 : Hid (V / 256 = v / 256 ^ (k + 1)) := (by rw [HV.out, Int.pow_succ, Int.ediv_ediv_of_nonneg (Int.le_of_lt (Int.pow_pos (by decide)))] : V / 256 = v / 256 ^ (k + 1))
      have HD2 : Hid ((nbF v n K : Int) = V % 256) := (by unfold nbF; rw [HV.out, show n - 1 - K = k by omega]; omega : (nbF v n K : Int) = V % 256)
      have hf := hR.frz K
      have hc := hR.cell K (by omega)
      rw [if_neg (by omega)] at hc
      obtain ⟨D, hD⟩ : ∃ D, nbF v n K = D := ⟨_, rfl⟩
      obtain ⟨Q, hQd⟩ : ∃ Q, V / 256 = Q := ⟨_, rfl⟩
      have bQ : -1099511627776 ≤ Q ∧ Q ≤ 1099511627776 := by omega
      have bD : D < 256 := by rw [← hD]; exact nbF_lt v n K
      have HNew : Hid (∀ W, W = wr.setCell ⟨w.heap.size, K, none⟩ (.int .u8 (D : Nat)) → By W w.heap.size n (fun j => if n ≤ j + (k + 1) then nbF v n j else 0) ∧ Below w.heap.size w W) := (fun W hW => by
        subst hW
        refine ⟨(hR.set K (by omega) D).congr fun j hj => ?_, bel_set hb (Nat.le_refl _) _ _⟩
        by_cases h1 : j = K
        · subst h1; rw [if_pos rfl, if_pos (by omega), hD]
        · rw [if_neg h1]
          by_cases h2 : n ≤ j + k
          · rw [if_pos h2, if_pos (by omega)]
          · rw [if_neg h2, if_neg (by omega)] : ∀ W, W = wr.setCell ⟨w.heap.size, K, none⟩ (.int .u8 (D : Nat)) → By W w.heap.size n (fun j => if n ≤ j + (k + 1) then nbF v n j else 0) ∧ Below w.heap.size w W)
      rw [hD] at HD2
      rw [hQd] at hQ HQ2
      rw [← HD2.out] at hT hQ
      clear hD hQd HD2 hR hb HV
      rcases hT with ⟨h1, h2⟩ | ⟨h1, h2⟩
      · rw [h2] at h1
        have e1 : ¬ ((D : Int) < 0) := by omega
        have e2 : (D : Int) % 256 = (D : Int) := by omega
        clear h1
        go_wp2
        go_roundw
        case rel => exact ⟨k + 1, Q, by omega, by go_num, rfl, HQ2, (HNew.out _ rfl).1, (HNew.out _ rfl).2⟩
        case measure => simp [intOf]
      · have h3 : V.tmod 256 + 256 = (D : Int) := h2
        obtain ⟨T, hT⟩ : ∃ T, V.tmod 256 = T := ⟨_, rfl⟩
        rw [hT] at h1 h3
        have h4 : T + 256 = (D : Int) := h3
        have e2 : (D : Int) % 256 = (D : Int) := by omega
        clear h2 h3
        go_wp2
        go_roundw
        case rel => exact ⟨k + 1, Q, by omega, by go_num, rfl, HQ2, (HNew.out _ rfl).1, (HNew.out _ rfl).2⟩
        case measure => simp [intOf]
    · have hkn : k = n := by omega
      subst hkn
      have eK : (k : Int) - 1 - k = -1 := by omega
      rw [eK]
      have HR : Hid (By wr w.heap.size k (nbF v k) ∧ Below w.heap.size w wr) := ⟨hR.congr fun j hj => by rw [if_pos (by omega)], hb⟩
      clear hR hb eK HV
      go_wp2
      go_ret
      exact ⟨rfl, HR.out⟩
end Go.Proofs.YtcihplachlokiaaGreatDoor
