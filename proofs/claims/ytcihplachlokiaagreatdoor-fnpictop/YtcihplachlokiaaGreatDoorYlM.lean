/- A list is spoilt: the empty one. -/
import Derived.Test.YtcihplachlokiaaGreatDoorYgM
import Derived.Test.YtcihplachlokiaaGreatDoorCfM
import Derived.Deep.MidRow
namespace Go.Proofs.YtcihplachlokiaaGreatDoor.Rr
open Go.RowKit
set_option linter.unusedVariables false
variable {LB : Nat}

section
variable {P : Program} {w : World}
theorem wpList_app_run {ops : Array Oper} {rest : List Oper} {o : Oper} {a : Act} {Q : Exit → Act → World → Prop} (hgd : o.guard = none) (s x : Operand) (t : TypeId)
    (ho : o.op = .call { callee := .builtin .append, args := #[s, x], argTypes := #[t, t] }) (v y : Value) (hs : a.eval s = v) (hx : a.eval x = y) (v' : Value) (w' : World)
    (hr : ∀ ty, (Builtin.append_ #[t, t] ty #[v, y]).run P w = .ok v' w') (h : wpList P ops Q rest (a.put o.dst v') w') : wpList P ops Q (o :: rest) a w :=
  wpList_plain hgd fun K hK => by
    unfold Oper.wp execOp
    simp only [ho, resolve, invoke, builtin, Sem.run_bind, Sem.run_pure, Result.andThen_ok, List.map_toArray, List.map_cons, List.map_nil, hs, hx, hr]
    exact hK _ _ h
end
/-- Instructions, none or some, behind a row of one's own. -/
theorem app_list (W : World) (H g0 n cap m c : Nat) (cs news : List Value) (sa : Option Addr) (own0 : W.ownsRow H 44 3 (.slice (some ⟨g0, 0, none⟩) n cap) n cs) (hl : news.length = m * 3) (h1 : ∀ u ∈ news, u.oneCell' = true) (hbig : n + m ≤ 1048576) (hH : H ≤ W.heap.size)
    (hsrc : 0 < m → ∃ b o, sa = some ⟨b, o, none⟩ ∧ ∀ j u, news[j]? = some u → W.cell? ⟨b, o + j, none⟩ = some u) :
    ∃ (g cap' : Nat) (w' : World), (∀ ty, (Builtin.append_ #[23, 23] ty #[.slice (some ⟨g0, 0, none⟩) n cap, .slice sa m c]).run Tryz.prog W = .ok (.slice (some ⟨g, 0, none⟩) (n + m) cap') w') ∧ w'.ownsRow H 44 3 (.slice (some ⟨g, 0, none⟩) (n + m) cap') (n + m) (cs ++ news) ∧ W.grownBy w' (some g0) ∧ (g = g0 ∨ g = W.heap.size) := by
  have hinfo : (Tryz.prog.info? 44).map (fun i => (i.zero, i.size, i.bytes)) = some (some (.agg #[.int .i64 0, .int .i64 0, .slice none 0 0]), 3, 40) := by kernel_rfl
  obtain ⟨ti, hi, hzz⟩ := Option.map_eq_some_iff.1 hinfo
  simp only [Prod.mk.injEq] at hzz
  obtain ⟨hz0, hz1, hz2⟩ := hzz
  by_cases h0 : 0 < m
  · obtain ⟨b, o, rfl, hc⟩ := hsrc h0
    have hrun := fun ty => run_append_lies (P := Tryz.prog) W 23 ty H 44 ti (.agg #[.int .i64 0, .int .i64 0, .slice none 0 0]) 3 40 Tryz.underlying23 hi hz0 hz1 hz2 rfl (by decide) (.slice (some ⟨g0, 0, none⟩) n cap) n cs own0 ⟨b, o, none⟩ m c news hl (fun j u hu => by
      rw [show (⟨b, o, none⟩ : Addr).add j = ⟨b, o + j, none⟩ from Addr.add_mid b o j]
      exact hc j u hu) h1 h0 (by unfold maxLen; omega) (by omega) hH _ rfl
    obtain ⟨g, cap', w', hr, own, gg, hat, hlt⟩ := hrun 23
    refine ⟨g, cap', w', fun ty => ?_, own, gg, ?_⟩
    · have : (Builtin.append_ #[23, 23] ty #[.slice (some ⟨g0, 0, none⟩) n cap, .slice (some ⟨b, o, none⟩) m c]).run Tryz.prog W = (Builtin.append_ #[23, 23] 23 #[.slice (some ⟨g0, 0, none⟩) n cap, .slice (some ⟨b, o, none⟩) m c]).run Tryz.prog W := by simp only [Builtin.append_]
      rw [this, hr]
    · rcases hat with h | h
      · exact .inl (by simpa [Value.ownBlock] using h.symm)
      · exact .inr h
  · have hm : m = 0 := by omega
    subst hm
    have hx : news = [] := List.length_eq_zero_iff.1 (by simpa using hl)
    subst hx
    have hcap : n ≤ cap := by
      rcases own0.2 with ⟨h', _⟩ | ⟨g', cap', cur, h', hb, hg, hnc, _⟩
      · simp at h'
      · simp only [Value.slice.injEq, Option.some.injEq, Addr.mk.injEq, and_true, true_and] at h'
        omega
    refine ⟨g0, cap, W, fun ty => ?_, by simpa using own0, gb_refl _ _, .inl rfl⟩
    cases sa with
    | none => simp [Builtin.append_, run_underlying Tryz.underlying23, sizeOf, typeInfo, hi, Builtin.lenOf, Builtin.firstCells, storeCells, hcap]
    | some ad => simp [Builtin.append_, run_underlying Tryz.underlying23, sizeOf, typeInfo, hi, Builtin.lenOf, Builtin.firstCells, loadCells, loadCellsFrom, storeCells, hcap]
/-- What spoiling a list leaves. -/
def ListH (LB : Nat) (H : Nat) (w : World) (B R p L d : Nat) (e : Ending) (w' : World) : Prop :=
  ∃ (a : Option Addr) (n cap q : Nat) (xs : List InstT), e = .returned (.slice a n cap) ∧ Hid (n = xs.length) ∧ n ≤ L ∧ q ≤ p + d ∧ RD LB w' H R (.slice a n cap) xs ∧ Reader B w' R q ∧ w.grownBy w' (some R)
/-- One drawn instruction behind a drawn list. -/
theorem RD.inst {w W W' w5 : World} {H R B q g1 cap1 n cap : Nat} {a sa : Option Addr} {len cp : Nat} {c op : Int} {xs : List InstT} {ys : List Arg} {cs : List Value} (hRB : R < B) (hBH : B ≤ H) (hHW : H ≤ W.heap.size)
    (h1 : (Value.slice sa n cap).ownBlock ≠ some R) (h2 : EFi LB W' H (fun b => b ≠ R ∧ some b ≠ (Value.slice sa n cap).ownBlock) xs cs) (hb : ∀ k, (Value.slice sa n cap).ownBlock = some k → H ≤ k ∧ k < W.heap.size)
    (hl : len = ys.length) (hcp : len ≤ cp) (hf : Fin1 LB ⟨c, ⟨op, ys⟩⟩) (O : Own W' W.heap.size a ys) (hR' : Reader B W' R q) (gW : w.grownBy W' (some R)) (hw : w.heap.size ≤ W.heap.size) (hwn : ∀ k, (Value.slice sa n cap).ownBlock = some k → w.heap.size ≤ k)
    (own5 : w5.ownsRow H 44 3 (.slice (some ⟨g1, 0, none⟩) (xs.length + 1) cap1) (xs.length + 1) (cs ++ [.int .i64 c, .int .i64 op, .slice a len cp])) (g5 : (W'.alloc (.cells #[.int .i64 c, .int .i64 op, .slice a len cp] 44)).grownBy w5 (Value.slice sa n cap).ownBlock) (hat : (Value.slice sa n cap).ownBlock = some g1 ∨ g1 = W'.heap.size + 1) (hWW : W.heap.size ≤ W'.heap.size) :
    RD LB w5 H R (.slice (some ⟨g1, 0, none⟩) (xs.length + 1) cap1) (xs ++ [⟨c, ⟨op, ys⟩⟩]) ∧ Reader B w5 R q ∧ w.grownBy w5 (some R) := by
  have hE : EF LB W' H (fun b => b ≠ R ∧ some b ≠ (Value.slice sa n cap).ownBlock) ⟨c, ⟨op, ys⟩⟩ [.int .i64 c, .int .i64 op, .slice a len cp] := by
    rw [hl]
    exact EF.of (x := ⟨c, ⟨op, ys⟩⟩) (by show ys.length ≤ cp; omega) hf O hHW (fun b hb' => ⟨by omega, fun e => by have := hb b e.symm; omega⟩)
  have ga : W'.grownBy (W'.alloc (.cells #[.int .i64 c, .int .i64 op, .slice a len cp] 44)) none := World.grownBy_alloc _ _ none
  have mv : ∀ x d, EF LB W' H (fun b => b ≠ R ∧ some b ≠ (Value.slice sa n cap).ownBlock) x d → EF LB (W'.alloc (.cells #[.int .i64 c, .int .i64 op, .slice a len cp] 44)) H (fun b => b ≠ R ∧ some b ≠ (Value.slice sa n cap).ownBlock) x d := fun x d h => h.move ga (fun _ _ _ _ => by simp) (fun _ _ _ b3 => b3)
  refine ⟨(RD.pushes (ys := [⟨c, ⟨op, ys⟩⟩]) h1 ((EFi.s _ xs cs rfl h2).move fun f x d _ hh => ⟨hh.1, mv x d hh.2⟩) (EFs.one (mv _ _ hE)) (by simp; omega) own5 g5 (by simpa using hat)).2, (hR'.alloc _).kept g5 (fun k hk => by have := hb k hk; omega), gb_then (gb_alloc gW _) g5 (fun k hk => .inl (hwn k hk))⟩

end Go.Proofs.YtcihplachlokiaaGreatDoor.Rr
/- A list is spoilt: where the copy stands, and what is written into it. -/
namespace Go.Proofs.YtcihplachlokiaaGreatDoor.Rr
open Go.RowKit
set_option linter.unusedVariables false
variable {LB : Nat}

/-- The copy that is spoilt: in the block g, from the call's own memory. -/
def OS (LB : Nat) (w : World) (B R H : Nat) (W : World) (q g n cp : Nat) (xs : List InstT) : Prop :=
  Reader B W R q ∧ w.grownBy W (some R) ∧ n = xs.length ∧ (w.heap.size ≤ g ∧ B ≤ g) ∧ RD LB W H R (.slice (some ⟨g, 0, none⟩) n cp) xs
variable {w W W' : World} {B R H q g n cp : Nat} {xs : List InstT}
theorem OS.move (h : OS LB w B R H W q g n cp xs) {q' : Nat} (gr : W.grownBy W' (some R)) (hr : Reader B W' R q') : OS LB w B R H W' q' g n cp xs :=
  ⟨hr, gb_pick h.2.1 gr, h.2.2.1, h.2.2.2.1, h.2.2.2.2.move gr (fun j hj => .inr (.inl (by cases hj; rfl)))⟩
theorem OS.alloc (h : OS LB w B R H W q g n cp xs) (o : Obj) : OS LB w B R H (W.alloc o) q g n cp xs := h.move (gb_alloc (gb_refl _ _) o) (h.1.alloc o)
theorem OS.lt (h : OS LB w B R H W q g n cp xs) : H ≤ g ∧ g < W.heap.size := h.2.2.2.2.lt g rfl
theorem OS.ret (h : OS LB w B R H W q g n cp xs) {p L d : Nat} (hn : n ≤ L) (hq : q ≤ p + d) : ListH LB H w B R p L d (.returned (.slice (some ⟨g, 0, none⟩) n cp)) W := ⟨_, n, cp, q, xs, rfl, h.2.2.1, hn, hq, h.2.2.2.2, h.1, h.2.1⟩
theorem OS.take (h : OS LB w B R H W q g n cp xs) (k : Nat) (hk : k ≤ n) : OS LB w B R H W q g k cp (xs.take k) :=
  ⟨h.1, h.2.1, by rw [List.length_take]; have := h.2.2.1; omega, h.2.2.2.1, h.2.2.2.2.take k (by have := h.2.2.1; omega)⟩
/-- The element at a place, in its cells. -/
theorem OS.at (h : OS LB w B R H W q g n cp xs) (k : Nat) (hk : k < n) : ∃ (c op : Int) (a : Option Addr) (len cap : Nat) (ys : List Arg), len = ys.length ∧ len ≤ cap ∧ Fin1 LB ⟨c, ⟨op, ys⟩⟩ ∧ EF LB W H (fun b => b ≠ R ∧ some b ≠ some g) ⟨c, ⟨op, ys⟩⟩ [.int .i64 c, .int .i64 op, .slice a len cap] ∧ Own W H a ys ∧
    (W.cell? ⟨g, k * 3, none⟩ = some (.int .i64 c) ∧ W.cell? ⟨g, k * 3 + 1, none⟩ = some (.int .i64 op) ∧ W.cell? ⟨g, k * 3 + 2, none⟩ = some (.slice a len cap)) ∧ (∀ o, W.frozen? ⟨g, o, none⟩ = false) ∧ (⟨c, ⟨op, ys⟩⟩ : InstT) ∈ xs := by
  have hn := h.2.2.1
  obtain ⟨g', cap', c, e, _, _, hE, hc, hf⟩ := h.2.2.2.2.cell k _ (List.getElem?_eq_getElem (by omega))
  simp only [Value.slice.injEq, Option.some.injEq, Addr.mk.injEq, and_true] at e
  obtain ⟨rfl, _, _⟩ := e
  obtain ⟨a, cap, rfl, h1, h2, h3⟩ := id hE
  refine ⟨_, _, a, _, cap, _, rfl, h1, h2, hE, ?_, ⟨hc 0 _ rfl, hc 1 _ rfl, hc 2 _ rfl⟩, hf, List.getElem_mem _⟩
  rcases h3 with h3 | ⟨b, o, e, hb, hO⟩
  · exact .inl h3
  · exact .inr ⟨b, o, e, hb.1, hO⟩
/-- The element at a place written over. -/
theorem OS.put3 (h : OS LB w B R H W q g n cp xs) (k : Nat) (hk : k < n) (y : InstT) (u0 u1 u2 : Value) (hE : EF LB W H (fun b => b ≠ R ∧ some b ≠ some g) y [u0, u1, u2]) :
    OS LB w B R H (((W.setCell ⟨g, k * 3, none⟩ u0).setCell ⟨g, k * 3 + 1, none⟩ u1).setCell ⟨g, k * 3 + 2, none⟩ u2) q g n cp (xs.set k y) := by
  obtain ⟨h1, h2, h3, h4, h5⟩ := h
  obtain ⟨cs, hl, _, own, hi⟩ := h5.cells
  have o0 := own
  rw [← h3] at o0
  obtain ⟨o1, g1⟩ := o0.stored (k * 3) u0
  obtain ⟨o2, g2⟩ := o1.stored (k * 3 + 1) u1
  obtain ⟨o3, g3⟩ := o2.stored (k * 3 + 2) u2
  have G := (g1.trans g2).trans g3
  rw [h3] at o3
  refine ⟨h1.kept G (fun j hj => by cases hj; exact h4.2), gb_then h2 G (fun j hj => .inl (by cases hj; exact h4.1)), by rw [List.length_set]; exact h3, h4, ?_⟩
  rw [h3]
  refine RD.put (k := k) (c := [u0, u1, u2]) h5.1 hi G o3 hE (by simp) (fun i hi' => ?_) (fun i hi' => ?_)
  · rw [List.getElem?_set_ne (by omega), List.getElem?_set_ne (by omega), List.getElem?_set_ne (by omega)]
  · have hl' : k * 3 + 2 < cs.length := by omega
    match i, hi' with
    | 0, _ => show (((cs.set (k * 3) u0).set (k * 3 + 1) u1).set (k * 3 + 2) u2)[k * 3]? = some u0; rw [List.getElem?_set_ne (by omega), List.getElem?_set_ne (by omega), List.getElem?_set_self (by omega)]
    | 1, _ => rw [List.getElem?_set_ne (by omega), List.getElem?_set_self (by simp; omega)]; rfl
    | 2, _ => rw [List.getElem?_set_self (by simp; omega)]; rfl
/-- Its code alone. -/
theorem OS.put1 (h : OS LB w B R H W q g n cp xs) (k : Nat) (hk : k < n) (c : Int) (h1 : -100 ≤ c) (h2 : c ≤ 100) : ∃ ys, OS LB w B R H (W.setCell ⟨g, k * 3, none⟩ (.int .i64 c)) q g n cp ys := by
  obtain ⟨r1, r2, h3, h4, h5⟩ := h
  obtain ⟨cs, hl, _, own, hi⟩ := h5.cells
  obtain ⟨X, hX⟩ : ∃ X, xs[k]? = some X := ⟨_, List.getElem?_eq_getElem (by omega)⟩
  obtain ⟨d, hd, hdi⟩ := hi.2 k X hX
  have o0 := own
  rw [← h3] at o0
  obtain ⟨o1, g1⟩ := o0.stored (k * 3) (.int .i64 c)
  rw [h3] at o1
  obtain ⟨a, cap, rfl, e1, e2, e3⟩ := hd
  refine ⟨xs.set k ⟨c, X.one⟩, r1.kept g1 (fun j hj => by cases hj; exact h4.2), gb_then r2 g1 (fun j hj => .inl (by cases hj; exact h4.1)), by rw [List.length_set]; exact h3, h4, ?_⟩
  rw [h3]
  refine RD.put (k := k) (y := ⟨c, X.one⟩) (c := [.int .i64 c, .int .i64 X.one.op, .slice a X.one.args.length cap]) h5.1 hi g1 o1 ⟨a, cap, rfl, e1, ⟨⟨h1, h2⟩, e2.2⟩, e3⟩ (by simp) (fun i hi' => ?_) (fun i hi' => ?_)
  · rw [List.getElem?_set_ne (by omega)]
  · match i, hi' with
    | 0, _ => show (cs.set (k * 3) (.int .i64 c))[k * 3]? = some (.int .i64 c); rw [List.getElem?_set_self (by omega)]
    | 1, _ => rw [List.getElem?_set_ne (by omega)]; exact hdi 1 (by omega)
    | 2, _ => rw [List.getElem?_set_ne (by omega)]; exact hdi 2 (by omega)
/-- Its contact or coil alone. -/
theorem OS.put2 (h : OS LB w B R H W q g n cp xs) (k : Nat) (hk : k < n) (op : Int) (a : Option Addr) (cap : Nat) (zs : List Arg) (ho1 : -100 ≤ op) (ho2 : op ≤ 100) (hz : zs.length ≤ LB + 9) (hbd : Bd zs) (hcap : zs.length ≤ cap) (M : Nat) (hM : H ≤ M ∧ R < M ∧ g < M) (O : Own W M a zs) : ∃ ys, OS LB w B R H ((W.setCell ⟨g, k * 3 + 1, none⟩ (.int .i64 op)).setCell ⟨g, k * 3 + 2, none⟩ (.slice a zs.length cap)) q g n cp ys := by
  obtain ⟨r1, r2, h3, h4, h5⟩ := h
  obtain ⟨cs, hl, _, own, hi⟩ := h5.cells
  obtain ⟨X, hX⟩ : ∃ X, xs[k]? = some X := ⟨_, List.getElem?_eq_getElem (by omega)⟩
  obtain ⟨d, hd, hdi⟩ := hi.2 k X hX
  have o0 := own
  rw [← h3] at o0
  obtain ⟨o1, g1⟩ := o0.stored (k * 3 + 1) (.int .i64 op)
  obtain ⟨o2, g2⟩ := o1.stored (k * 3 + 2) (.slice a zs.length cap)
  have G := g1.trans g2
  rw [h3] at o2
  obtain ⟨a0, cap0, rfl, e1, e2, e3⟩ := hd
  refine ⟨xs.set k ⟨X.code, ⟨op, zs⟩⟩, r1.kept G (fun j hj => by cases hj; exact h4.2), gb_then r2 G (fun j hj => .inl (by cases hj; exact h4.1)), by rw [List.length_set]; exact h3, h4, ?_⟩
  rw [h3]
  refine RD.put (k := k) (y := ⟨X.code, ⟨op, zs⟩⟩) (c := [.int .i64 X.code, .int .i64 op, .slice a zs.length cap]) h5.1 hi G o2 (EF.of (x := ⟨X.code, ⟨op, zs⟩⟩) hcap ⟨e2.1, ⟨ho1, ho2⟩, hz, hbd⟩ O hM.1 (fun b hb => ⟨by omega, by show some b ≠ some g; simp; omega⟩)) (by simp) (fun i hi' => ?_) (fun i hi' => ?_)
  · rw [List.getElem?_set_ne (by omega), List.getElem?_set_ne (by omega)]
  · match i, hi' with
    | 0, _ => rw [List.getElem?_set_ne (by omega), List.getElem?_set_ne (by omega)]; exact hdi 0 (by omega)
    | 1, _ => rw [List.getElem?_set_ne (by omega), List.getElem?_set_self (by omega)]; rfl
    | 2, _ => rw [List.getElem?_set_self (by simp; omega)]; rfl
/-- One more element. -/
theorem OS.more (h : OS LB w B R H W q g n cp xs) (y : InstT) (c : List Value) (hE : EF LB W H (fun b => b ≠ R ∧ some b ≠ some g) y c) (o : Obj) :
    ∃ cs, (W.alloc o).ownsRow H 44 3 (.slice (some ⟨g, 0, none⟩) n cp) n cs ∧
      ∀ (w5 : World) (g1 cap1 : Nat), w5.ownsRow H 44 3 (.slice (some ⟨g1, 0, none⟩) (n + 1) cap1) (n + 1) (cs ++ c) → (W.alloc o).grownBy w5 (Value.slice (some ⟨g, 0, none⟩) n cp).ownBlock → ((Value.slice (some ⟨g, 0, none⟩) n cp).ownBlock = some g1 ∨ g1 = W.heap.size + 1) →
        OS LB w B R H w5 q g1 (n + 1) cap1 (xs ++ [y]) ∧ EF LB w5 H (fun b => b ≠ R ∧ some b ≠ some g1) y c ∧ ∀ i, i < W.heap.size → i ≠ g → w5.heap[i]? = W.heap[i]? ∧ i ≠ g1 := by
  have hlt := h.lt
  obtain ⟨r1, r2, h3, h4, h5⟩ := h.alloc o
  obtain ⟨cs, hl, _, own, hi⟩ := h5.cells
  have hs := r2.size
  refine ⟨cs, by rw [h3]; rw [h3] at own; exact own, fun w5 g1 cap1 o5 g5 hat => ?_⟩
  have hat' : (Value.slice (some ⟨g, 0, none⟩) n cp).ownBlock = some g1 ∨ g1 = (W.alloc o).heap.size := by simpa using hat
  have hg1 : g1 = g ∨ g1 = W.heap.size + 1 := by
    rcases hat with h | h
    · exact .inl (by simpa [Value.ownBlock] using h.symm)
    · exact .inr h
  have hWs : w.heap.size ≤ W.heap.size := h.2.1.size
  have hBW : B ≤ W.heap.size := h.1.2.1
  have o6 := o5
  rw [h3] at o6
  have ga : W.grownBy (W.alloc o) none := World.grownBy_alloc _ _ none
  obtain ⟨key, hR⟩ := RD.pushes (ys := [y]) h5.1 (EFi.s _ xs cs rfl hi) (EFs.one (hE.move ga (fun _ _ _ _ => by simp) (fun _ _ _ b3 => b3))) (by have := r1.1; have := r1.2.1; omega) o6 g5 hat'
  refine ⟨⟨r1.kept g5 (fun j hj => by simp [Value.ownBlock] at hj; omega), gb_then r2 g5 (fun j hj => .inl (by simp [Value.ownBlock] at hj; omega)), by rw [h3]; simp, ⟨by omega, by omega⟩, by rw [h3]; exact hR⟩, key _ _ (hE.move ga (fun _ _ _ _ => by simp) (fun _ _ _ b3 => b3)), fun i hi1 hi2 => ⟨?_, by omega⟩⟩
  exact (g5.block i (by simp; omega) (by simp [Value.ownBlock]; exact hi2)).trans (ga.block i hi1 (by simp))
end Go.Proofs.YtcihplachlokiaaGreatDoor.Rr
/- A list is spoilt: an element stored, a list put behind another one. -/
namespace Go.Proofs.YtcihplachlokiaaGreatDoor.Rr
open Go.RowKit
set_option linter.unusedVariables false
variable {LB : Nat}

theorem EF.ones {W : World} {H : Nat} {ok : Nat → Prop} {x : InstT} {u0 u1 u2 : Value} (h : EF LB W H ok x [u0, u1, u2]) : (#[u0, u1, u2] : Array Value).all (·.oneCell') = true := by
  obtain ⟨a, cap, e, _⟩ := h
  simp only [List.cons.injEq, and_true] at e
  obtain ⟨rfl, rfl, rfl⟩ := e
  simp [Value.oneCell']
theorem OS.store3 {w W : World} {B R H q g n cp : Nat} {xs : List InstT} (h : OS LB w B R H W q g n cp xs) (k : Nat) (hk : k < n) (y : InstT) (u0 u1 u2 : Value) (hE : EF LB W H (fun b => b ≠ R ∧ some b ≠ some g) y [u0, u1, u2]) :
    ∃ W', (storeVar 44 ⟨g, k * 3, none⟩ (.agg #[u0, u1, u2])).run Tryz.prog W = .ok () W' ∧ OS LB w B R H W' q g n cp (xs.set k y) ∧ W.grownBy W' (some g) := by
  obtain ⟨_, _, _, _, _, _, _, _, _, _, _, ⟨k0, k1, k2⟩, fz, _⟩ := h.at k hk
  refine ⟨_, run_storeVar_mid W g (k * 3) 44 #[u0, u1, u2] (fun j hj => ?_) (by kernel_rfl) hE.ones, h.put3 k hk y u0 u1 u2 hE, gb_set (gb_set (gb_set (gb_refl _ (some g)) _ _) _ _) _ _⟩
  match j, hj with
  | 0, _ => exact ⟨by rw [show k * 3 + 0 = k * 3 from rfl, k0]; rfl, fz _⟩
  | 1, _ => exact ⟨by rw [k1]; rfl, fz _⟩
  | 2, _ => exact ⟨by rw [k2]; rfl, fz _⟩
theorem EFi.move {W W' : World} {H : Nat} {ok ok' : Nat → Prop} {xs : List InstT} {cs : List Value} {row : Option Nat} (h : EFi LB W H ok xs cs) (g : W.grownBy W' row) (hr : ∀ b, H ≤ b → b < W.heap.size → ok b → some b ≠ row) (ho : ∀ b, H ≤ b → b < W.heap.size → ok b → ok' b) : EFi LB W' H ok' xs cs :=
  ⟨h.1, fun j x hx => by obtain ⟨c, hc, hi⟩ := h.2 j x hx; exact ⟨c, hc.move g hr ho, hi⟩⟩
theorem EFi.base {W : World} {H H' : Nat} {ok : Nat → Prop} {xs : List InstT} {cs : List Value} (h : EFi LB W H ok xs cs) (hH : H' ≤ H) : EFi LB W H' (fun b => H ≤ b ∧ ok b) xs cs :=
  ⟨h.1, fun j x hx => by
    obtain ⟨c, ⟨a, cap, h1, h2, h3, h4⟩, hi⟩ := h.2 j x hx
    refine ⟨c, ⟨a, cap, h1, h2, h3, ?_⟩, hi⟩
    rcases h4 with h4 | ⟨b, o, e, ⟨b1, b2, b3⟩, h5⟩
    · exact .inl h4
    · exact .inr ⟨b, o, e, ⟨by omega, b2, b1, b3⟩, h5⟩⟩
theorem EFi.drop {W : World} {H : Nat} {ok : Nat → Prop} {xs : List InstT} {cs : List Value} (h : EFi LB W H ok xs cs) (k : Nat) : EFi LB W H ok (xs.drop k) (cs.drop (k * 3)) :=
  ⟨by rw [List.length_drop, List.length_drop, h.1]; omega, fun j x hx => by
    rw [List.getElem?_drop] at hx
    obtain ⟨c, hc, hi⟩ := h.2 (k + j) x hx
    refine ⟨c, hc, fun i hi' => ?_⟩
    rw [List.getElem?_drop, ← hi i hi']
    congr 1; omega⟩
theorem EFi.take {W : World} {H : Nat} {ok : Nat → Prop} {xs : List InstT} {cs : List Value} (h : EFi LB W H ok xs cs) (k : Nat) : EFi LB W H ok (xs.take k) (cs.take (k * 3)) :=
  ⟨by rw [List.length_take, List.length_take, h.1]; omega, fun j x hx => by
    have hj : j < k := by have := (List.getElem?_eq_some_iff.1 hx).1; rw [List.length_take] at this; omega
    rw [List.getElem?_take_of_lt hj] at hx
    obtain ⟨c, hc, hi⟩ := h.2 j x hx
    exact ⟨c, hc, fun i hi' => by rw [List.getElem?_take_of_lt (by omega)]; exact hi i hi'⟩⟩
theorem EFi.single {W : World} {H : Nat} {ok : Nat → Prop} {x : InstT} {c : List Value} (h : EF LB W H ok x c) : EFi LB W H ok [x] c := (EFs.one h).i
/-- The cells of a drawn list in memory. -/
theorem own_at {W : World} {H n m cap g : Nat} {cs : List Value} (h : W.ownsRow H 44 3 (.slice (some ⟨g, 0, none⟩) m cap) n cs) : ∀ j u, cs[j]? = some u → W.cell? ⟨g, j, none⟩ = some u := fun j u hu => by
  have := h.cells (g := g) rfl j u hu
  rwa [show (⟨g, 0, none⟩ : Addr).add j = ⟨g, 0 + j, none⟩ from Addr.add_mid g 0 j, Nat.zero_add] at this
/-- Instructions, none or some, behind a drawn list. -/
theorem RD.cat {W : World} {H R g n cp m : Nat} {xs ys : List InstT} (c : Nat) (sa : Option Addr) (hd : RD LB W H R (.slice (some ⟨g, 0, none⟩) n cp) xs) (hn : n = xs.length) (hm : m = ys.length) (news : List Value) (hE : EFi LB W H (fun b => b ≠ R ∧ some b ≠ some g) ys news) (hbig : n + m ≤ 1048576) (hH : H ≤ W.heap.size) (hR : R < W.heap.size)
    (hsrc : 0 < m → ∃ b o, sa = some ⟨b, o, none⟩ ∧ ∀ j u, news[j]? = some u → W.cell? ⟨b, o + j, none⟩ = some u) :
    ∃ (g1 cap1 : Nat) (W' : World), (∀ ty, (Builtin.append_ #[23, 23] ty #[.slice (some ⟨g, 0, none⟩) n cp, .slice sa m c]).run Tryz.prog W = .ok (.slice (some ⟨g1, 0, none⟩) (n + m) cap1) W') ∧ RD LB W' H R (.slice (some ⟨g1, 0, none⟩) (n + m) cap1) (xs ++ ys) ∧ W.grownBy W' (some g) ∧ (g1 = g ∨ g1 = W.heap.size) := by
  have h1 := hd.1
  obtain ⟨cs, hcl, hone, hown, hefi⟩ := hd.cells
  rw [← hn] at hown
  obtain ⟨g1, cap1, W', hr, own, gg, hat⟩ := app_list W H g n cp m c cs news sa hown (by rw [hE.1, hm]) hE.one hbig hH hsrc
  refine ⟨g1, cap1, W', hr, ?_, gg, hat⟩
  rw [hn, hm] at own ⊢
  refine (RD.pushes (v := .slice (some ⟨g, 0, none⟩) n cp) h1 (EFi.s _ xs cs rfl hefi) (EFi.s _ ys news rfl hE) hR own gg ?_).2
  rcases hat with h | h
  · exact .inl (by rw [h]; rfl)
  · exact .inr h
/-- An element is cut out. -/
theorem OS.cut {w W : World} {B R H q g n cp : Nat} {xs : List InstT} (h : OS LB w B R H W q g n cp xs) (k : Nat) (hk : k < n) (hn : n ≤ 9000) (c : Nat) (sa : Option Addr) (hsa : 0 < n - (k + 1) → sa = some ⟨g, (k + 1) * 3, none⟩) :
    ∃ (g1 cap1 : Nat) (W' : World), (∀ ty, (Builtin.append_ #[23, 23] ty #[.slice (some ⟨g, 0, none⟩) k cp, .slice sa (n - (k + 1)) c]).run Tryz.prog W = .ok (.slice (some ⟨g1, 0, none⟩) (k + (n - (k + 1))) cap1) W') ∧ OS LB w B R H W' q g1 (k + (n - (k + 1))) cap1 (xs.take k ++ xs.drop (k + 1)) := by
  have hl := h.lt
  have hnx := h.2.2.1
  have hT := h.take k (by omega)
  obtain ⟨cs, hcl, hone, hown, hefi⟩ := h.2.2.2.2.cells
  have hBW := h.1.2.1
  have hRB := h.1.1
  obtain ⟨g1, cap1, W', hr, hRD, gg, hat⟩ := RD.cat (m := n - (k + 1)) c sa hT.2.2.2.2 hT.2.2.1 (by rw [List.length_drop]; omega) _ (hefi.drop (k + 1)) (by omega) (by omega) (by omega) (fun h0 => ⟨g, (k + 1) * 3, hsa h0, fun j u hu => by
    rw [List.getElem?_drop] at hu
    exact own_at hown _ _ hu⟩)
  have hs := h.2.1.size
  refine ⟨g1, cap1, W', hr, h.1.kept gg (fun j hj => by cases hj; exact h.2.2.2.1.2), gb_then h.2.1 gg (fun j hj => .inl (by cases hj; exact h.2.2.2.1.1)), ?_, ?_, hRD⟩
  · rw [List.length_append, List.length_take, List.length_drop]; omega
  · have := h.2.2.2.1
    rcases hat with e | e <;> omega
/-- The beginning copied. -/
theorem OS.split {w W : World} {B R H q g n cp : Nat} {xs : List InstT} (h : OS LB w B R H W q g n cp xs) (k : Nat) (hk : k ≤ n) (hn : n ≤ 9000) :
    ∃ (g1 cap1 : Nat) (W' : World), (∀ ty, (Builtin.append_ #[23, 23] ty #[.slice (some ⟨W.heap.size, 0, none⟩) 0 0, .slice (some ⟨g, 0, none⟩) k cp]).run Tryz.prog (W.alloc (.cells #[] 44)) = .ok (.slice (some ⟨g1, 0, none⟩) k cap1) W') ∧ OS LB w B R H W' q g1 k cap1 (xs.take k) ∧ Below W.heap.size W W' ∧ W.heap.size ≤ g1 := by
  have hl := h.lt
  have hnx := h.2.2.1
  obtain ⟨cs, hcl, hone, hown, hefi⟩ := h.2.2.2.2.cells
  have hBW := h.1.2.1
  have hRB := h.1.1
  have hs := h.2.1.size
  have hM : RD LB (W.alloc (.cells #[] 44)) H R (.slice (some ⟨W.heap.size, 0, none⟩) 0 0) [] := ⟨by show some W.heap.size ≠ some R; simp; omega, [], .nil, by have := World.ownsRow_made (base := H) (e := 44) (size := 3) W #[] 0 (by omega) (by unfold maxLen; omega) rfl; simpa using this⟩
  have ga : W.grownBy (W.alloc (.cells #[] 44)) none := World.grownBy_alloc _ _ none
  obtain ⟨g1, cap1, W', hr, hRD, gg, hat⟩ := RD.cat (m := k) cp (some ⟨g, 0, none⟩) hM rfl (by rw [List.length_take]; omega) _ ((hefi.move (ok' := fun b => b ≠ R ∧ some b ≠ some W.heap.size) ga (fun _ _ _ _ => by simp) (fun b _ b2 b3 => ⟨b3.1, by simp; omega⟩)).take k) (by omega) (by simp; omega) (by simp; omega) (fun h0 => ⟨g, 0, rfl, fun j u hu => by
    have hj : j < k * 3 := by have := (List.getElem?_eq_some_iff.1 hu).1; rw [List.length_take] at this; omega
    rw [List.getElem?_take_of_lt hj] at hu
    rw [Nat.zero_add]
    exact ga.cell (own_at hown _ _ hu) (by simp)⟩)
  simp only [Nat.zero_add, List.nil_append] at hr hRD
  have hat' : W.heap.size ≤ g1 := by
    rcases hat with e | e
    · omega
    · rw [e]; simp
  have hB : Below W.heap.size W W' := ((Below.refl _ _).alloc (Nat.le_refl _) _).grown gg (by simp) (fun j hj => by cases hj; omega)
  refine ⟨g1, cap1, W', hr, ⟨h.1.later hB, gb_below' h.2.1 hB, ?_, ?_, hRD⟩, hB, hat'⟩
  · rw [List.length_take]; omega
  · omega
/-- One more element and what follows. -/
theorem OS.joined {w W W4 W5 : World} {B R H q q5 g n cp k g4 cap4 : Nat} {xs : List InstT} (h : OS LB w B R H W q g n cp xs) (hk : k < n) (hn : n ≤ 9000) (h4 : OS LB w B R H W4 q g4 k cap4 (xs.take k)) (hB4 : Below W.heap.size W W4) (hg4 : W.heap.size ≤ g4) (g5 : W4.grownBy W5 (some R)) (hR5 : Reader B W5 R q5) (y : InstT) (u0 u1 u2 : Value) (hE : EF LB W5 H (fun b => b ≠ R ∧ some b ≠ some g4) y [u0, u1, u2]) :
    ∃ (g6 cap6 : Nat) (W6 : World), (∀ ty, (Builtin.append_ #[23, 23] ty #[.slice (some ⟨g4, 0, none⟩) k cap4, .slice (some ⟨W5.heap.size, 0, none⟩) 1 1]).run Tryz.prog (W5.alloc (.cells #[u0, u1, u2] 44)) = .ok (.slice (some ⟨g6, 0, none⟩) (k + 1) cap6) W6) ∧
      ∃ (g7 cap7 : Nat) (W7 : World), (∀ ty, (Builtin.append_ #[23, 23] ty #[.slice (some ⟨g6, 0, none⟩) (k + 1) cap6, .slice (some ⟨g, k * 3, none⟩) (n - k) (cp - k)]).run Tryz.prog W6 = .ok (.slice (some ⟨g7, 0, none⟩) (k + 1 + (n - k)) cap7) W7) ∧ ∃ zs, OS LB w B R H W7 q5 g7 (k + 1 + (n - k)) cap7 zs := by
  have hl := h.lt
  have hl4 := h4.lt
  have hnx := h.2.2.1
  obtain ⟨cs, hcl, hone, hown, hefi⟩ := h.2.2.2.2.cells
  have hBW := h.1.2.1
  have hRB := h.1.1
  have hs := h.2.1.size
  have hs4 := hB4.size
  have hs5 := g5.size
  have h5 := (h4.move g5 hR5).alloc (.cells #[u0, u1, u2] 44)
  have ga : W5.grownBy (W5.alloc (.cells #[u0, u1, u2] 44)) none := World.grownBy_alloc _ _ none
  have hn5 := news_of W5 [u0, u1, u2] 44
  obtain ⟨g6, cap6, W6, hr6, hRD6, gg6, hat6⟩ := RD.cat (m := 1) 1 (some ⟨W5.heap.size, 0, none⟩) h5.2.2.2.2 h5.2.2.1 (ys := [y]) rfl _ (EFi.single (hE.move ga (fun _ _ _ _ => by simp) (fun _ _ _ b3 => b3))) (by omega) (by simp; omega) (by simp; omega) (fun h0 => ⟨W5.heap.size, 0, rfl, fun j u hu => by
    have := hn5 j u hu
    rwa [show (⟨W5.heap.size, 0, none⟩ : Addr).add j = ⟨W5.heap.size, 0 + j, none⟩ from Addr.add_mid _ 0 j] at this⟩)
  have hRnot : g ≠ R := fun e => h.2.2.2.2.1 (by rw [← e]; rfl)
  have G5 : W.grownBy (W5.alloc (.cells #[u0, u1, u2] 44)) (some R) := gb_alloc (gb_pick (gb_below' (gb_refl _ _) hB4) g5) _
  have G6 : W.grownBy W6 (some R) := gb_then G5 gg6 (fun j hj => .inl (by cases hj; exact hg4))
  have hg6 : W.heap.size ≤ g6 := by
    rcases hat6 with e | e
    · omega
    · rw [e]; simp; omega
  have hs6 := G6.size
  have hlen6 : k + 1 = (xs.take k ++ [y]).length := by rw [List.length_append, List.length_take]; simp; omega
  obtain ⟨g7, cap7, W7, hr7, hRD7, gg7, hat7⟩ := RD.cat (m := n - k) (cp - k) (some ⟨g, k * 3, none⟩) hRD6 hlen6 (ys := xs.drop k) (by rw [List.length_drop]; omega) _ ((hefi.move (ok' := fun b => b ≠ R ∧ some b ≠ some g6) G6 (fun b _ _ b3 e => b3.1 (by simpa using e)) (fun b _ b2 b3 => ⟨b3.1, by simp; omega⟩)).drop k) (by omega) (by omega) (by omega) (fun h0 => ⟨g, k * 3, rfl, fun j u hu => by
    rw [List.getElem?_drop] at hu
    exact G6.cell (own_at hown _ _ hu) (by simpa using hRnot)⟩)
  refine ⟨g6, cap6, W6, hr6, g7, cap7, W7, hr7, _, ?_, ?_, ?_, ?_, hRD7⟩
  · exact (h5.1.kept gg6 (fun j hj => by cases hj; omega)).kept gg7 (fun j hj => by cases hj; omega)
  · exact gb_then (gb_then h5.2.1 gg6 (fun j hj => .inl (by cases hj; omega))) gg7 (fun j hj => .inl (by cases hj; omega))
  · rw [List.length_append, ← hlen6, List.length_drop]; omega
  · have hx : W.heap.size ≤ g7 := by
      rcases hat7 with e | e <;> omega
    omega
/-- One more element. -/
theorem OS.push {w W : World} {B R H q g n cp : Nat} {xs : List InstT} (h : OS LB w B R H W q g n cp xs) (hn : n ≤ 100000) (y : InstT) (u0 u1 u2 : Value) (hE : EF LB W H (fun b => b ≠ R ∧ some b ≠ some g) y [u0, u1, u2]) :
    ∃ (g6 cap6 : Nat) (W6 : World), (∀ ty, (Builtin.append_ #[23, 23] ty #[.slice (some ⟨g, 0, none⟩) n cp, .slice (some ⟨W.heap.size, 0, none⟩) 1 1]).run Tryz.prog (W.alloc (.cells #[u0, u1, u2] 44)) = .ok (.slice (some ⟨g6, 0, none⟩) (n + 1) cap6) W6) ∧ OS LB w B R H W6 q g6 (n + 1) cap6 (xs ++ [y]) := by
  have hl := h.lt
  have hBW := h.1.2.1
  have hRB := h.1.1
  have hs := h.2.1.size
  have h5 := h.alloc (.cells #[u0, u1, u2] 44)
  have ga : W.grownBy (W.alloc (.cells #[u0, u1, u2] 44)) none := World.grownBy_alloc _ _ none
  have hn5 := news_of W [u0, u1, u2] 44
  obtain ⟨g6, cap6, W6, hr6, hRD6, gg6, hat6⟩ := RD.cat (m := 1) 1 (some ⟨W.heap.size, 0, none⟩) h5.2.2.2.2 h5.2.2.1 (ys := [y]) rfl _ (EFi.single (hE.move ga (fun _ _ _ _ => by simp) (fun _ _ _ b3 => b3))) (by omega) (by simp; omega) (by simp; omega) (fun h0 => ⟨W.heap.size, 0, rfl, fun j u hu => by
    have := hn5 j u hu
    rwa [show (⟨W.heap.size, 0, none⟩ : Addr).add j = ⟨W.heap.size, 0 + j, none⟩ from Addr.add_mid _ 0 j] at this⟩)
  have hgg := h.2.2.2.1
  refine ⟨g6, cap6, W6, hr6, h5.1.kept gg6 (fun j hj => by cases hj; exact hgg.2), gb_then h5.2.1 gg6 (fun j hj => .inl (by cases hj; exact hgg.1)), ?_, ?_, hRD6⟩
  · rw [List.length_append, ← h.2.2.1]; rfl
  · rcases hat6 with e | e
    · omega
    · rw [e]; simp; omega
end Go.Proofs.YtcihplachlokiaaGreatDoor.Rr
