/- Nets put together by the specification: l15Put, l15Add. -/
import Derived.Test.YtkppcmpdghnmgaaDoorBkdM
import Derived.Test.YtkppcmpdghnmgaaDoorXaM
import Derived.Deep.Upon
import Derived.Deep.RegionHeld3
namespace Go.Proofs.YtkppcmpdghnmgaaDoor
open Go.RowKit
set_option linter.unusedVariables false

section
variable {P : Program} {w : World}
theorem wpList_app_run {ops : Array Oper} {rest : List Oper} {o : Oper} {a : Act} {Q : Exit → Act → World → Prop} (hgd : o.guard = none) (s x : Operand) (t : TypeId)
    (ho : o.op = .call { callee := .builtin .append, args := #[s, x], argTypes := #[t, t] }) (v y : Value) (hs : a.eval s = v) (hx : a.eval x = y) (v' : Value) (w' : World)
    (hr : ∀ ty, (Builtin.append_ #[t, t] ty #[v, y]).run P w = .ok v' w') (h : wpList P ops Q rest (a.put o.dst v') w') : wpList P ops Q (o :: rest) a w :=
  wpList_plain hgd fun K hK => by
    unfold Oper.wp execOp
    simp only [ho, resolve, invoke, builtin, Sem.run_bind, Sem.run_pure, Result.andThen_ok, List.map_toArray, List.map_cons, List.map_nil, hs, hx, hr]
    exact hK _ _ h
end
/-- Nets behind nets, as a run. -/
theorem app_nets (W : World) (base n : Nat) (F : List Nat) (a : Option Addr) (m cp : Nat) (ts : List NetT) (hR : RowOwn W base 29 4 (NetOwn W base n) F (.slice a m cp) ts) (hm : m = ts.length) (hnd : F.Nodup) (G : List Nat) (ys : List NetT) (ds : List Value) (hY : Each (NetOwn W base n) 4 G ys ds) (b o : Nat) (sm sc : Nat) (hsm : sm = ys.length) (hsrc : ∀ j u, ds[j]? = some u → W.cell? ⟨b, o + j, none⟩ = some u) (h0 : 0 < sm)
    (hGl : ∀ x ∈ G, x < W.heap.size) (hGn : G.Nodup) (hdis : ∀ x ∈ G, x ∉ F) (hbig : m + sm ≤ 1048576) (hb : base ≤ W.heap.size) :
    ∃ (g cap' : Nat) (w' : World) (F' : List Nat), (∀ ty, (Builtin.append_ #[27, 27] ty #[.slice a m cp, .slice (some ⟨b, o, none⟩) sm sc]).run Tryd.prog W = .ok (.slice (some ⟨g, 0, none⟩) (m + sm) cap') w') ∧ RowOwn w' base 29 4 (NetOwn w' base n) F' (.slice (some ⟨g, 0, none⟩) (m + sm) cap') (ts ++ ys) ∧ F'.Nodup ∧ (∀ x ∈ F', x ∈ F ∨ x ∈ G ∨ W.heap.size ≤ x) ∧ W.grownBy w' (Value.slice a m cp).ownBlock ∧ ((Value.slice a m cp).ownBlock = some g ∨ W.heap.size ≤ g) := by
  have hinfo : (Tryd.prog.info? 29).map (fun i => (i.zero, i.size, i.bytes)) = some (some (.agg #[.int .i64 0, .int .i64 0, .slice none 0 0, .slice none 0 0]), 4, 64) := by kernel_rfl
  obtain ⟨ti, hi, hzz⟩ := Option.map_eq_some_iff.1 hinfo
  simp only [Prod.mk.injEq] at hzz
  obtain ⟨hz0, hz1, hz2⟩ := hzz
  have hRl := hR.ltN
  obtain ⟨cs, F1, hE, hO, hF⟩ := hR
  rw [← hm] at hO
  have hrun := fun ty => run_append_lies (P := Tryd.prog) W 27 ty base 29 ti (.agg #[.int .i64 0, .int .i64 0, .slice none 0 0, .slice none 0 0]) 4 64 Tryd.underlying27 hi hz0 hz1 hz2 rfl (by decide) (.slice a m cp) m cs hO ⟨b, o, none⟩ sm sc ds (by rw [hsm]; exact hY.len) (fun j u hu => by
      rw [show (⟨b, o, none⟩ : Addr).add j = ⟨b, o + j, none⟩ from Addr.add_mid b o j]
      exact hsrc j u hu) (nets_one hY) h0 (by unfold maxLen; omega) (by omega) hb _ rfl
  obtain ⟨g, cap', w', hr, own, gg, hat, hlt⟩ := hrun 27
  have hat' : (Value.slice a m cp).ownBlock = some g ∨ W.heap.size ≤ g := by
    rcases hat with h | h
    · exact .inl h
    · exact .inr (by omega)
  obtain ⟨r1, r2, r3⟩ := row_app (R := fun W => NetOwn W base n) (netOwn_rm base n) hE hF (fun x hx => (hRl x hx).2) hnd hY hGl hGn hdis (by rw [hm, hsm]) own gg hat'
  refine ⟨g, cap', w', _, fun ty => ?_, r1, r2, r3, gg, hat'⟩
  have : (Builtin.append_ #[27, 27] ty #[.slice a m cp, .slice (some ⟨b, o, none⟩) sm sc]).run Tryd.prog W = (Builtin.append_ #[27, 27] 27 #[.slice a m cp, .slice (some ⟨b, o, none⟩) sm sc]).run Tryd.prog W := by simp only [Builtin.append_]
  rw [this, hr]
/-- The kids of a net of this kind, or the net alone: where they lie. -/
theorem open_net {W : World} {base n : Nat} {f : List Nat} {t : NetT} {k op : Int} {a1 : Option Addr} {l1 c1 : Nat} {a2 : Option Addr} {l2 c2 : Nat} {kind : Int} (hN : NetOwn W base (n + 1) f t [.int .i64 k, .int .i64 op, .slice a1 l1 c1, .slice a2 l2 c2]) (hfn : f.Nodup) (hk : kind = 2 ∨ kind = 3) (hok : OkN t) (hkd : k = kind) :
    opn kind t = nks t ∧ 0 < l2 ∧ l2 = (nks t).length ∧ ∃ g G ds, a2 = some ⟨g, 0, none⟩ ∧ Each (NetOwn W base (n + 1)) 4 G (nks t) ds ∧ (∀ j u, ds[j]? = some u → W.cell? ⟨g, 0 + j, none⟩ = some u) ∧ G.Nodup ∧ ∀ x ∈ G, x ∈ f := by
  have hkk : k = nkd t := by
    obtain ⟨_, _, _, _, _, _, _, e, _⟩ := hN.cells
    simp at e
    exact e.1
  have hkd' : nkd t = kind := by rw [← hkk]; exact hkd
  have h2 := hok.2 (by rw [hkd']; exact hk)
  refine ⟨by unfold opn; rw [if_pos hkd'], ?_⟩
  obtain ⟨k', e', kids⟩ := t
  have h2' : 2 ≤ kids.length := h2
  obtain ⟨v, v', F1, F2, ec, rfl, hA, hK⟩ := hN
  simp only [List.cons.injEq, and_true] at ec
  obtain ⟨-, -, rfl, rfl⟩ := ec
  obtain ⟨ds, G, hEd, hOd, rfl⟩ := hK
  rcases id hOd.2 with ⟨_, h0⟩ | ⟨g2, cap2, cur2, ev, hbg, hgg, hnc, hcm, hsz, hcur⟩
  · exact absurd h0 (by omega)
  simp only [Value.slice.injEq] at ev
  obtain ⟨rfl, rfl, rfl⟩ := ev
  refine ⟨by omega, rfl, g2, G, ds, rfl, hEd.move fun f1 x1 c1 _ h2 => NetOwn.move (World.grownBy.refl W none) n (n + 1) (Nat.le_succ _) _ _ _ (fun _ _ => by simp) h2, fun j u hu => ?_, (List.nodup_append.1 (List.nodup_append.1 hfn).2.1).2.1, fun x hx => List.mem_append_right _ (List.mem_append_right _ hx)⟩
  have := hOd.cells (g := g2) rfl j u hu
  rwa [show (⟨g2, 0, none⟩ : Addr).add j = ⟨g2, 0 + j, none⟩ from Addr.add_mid g2 0 j] at this
theorem gb_cel (W : World) (b f : Nat) (v : Value) : W.grownBy (W.setCell ⟨b, f, none⟩ v) (some b) :=
  ⟨rfl, rfl, rfl, by simp, fun k _ hk => Below.heap_setCell _ _ _ k (fun e => hk (by rw [e]))⟩
/-- Where l15Put stands between its two halves. -/
def PutAt (w : World) (base n : Nat) (kind : Int) (a : NetT) (f1 : List Nat) (cb : Array Value) (wc : World) : Prop :=
  ∃ (g cap m : Nat) (F : List Nat), m = (opn kind a).length ∧ RowOwn wc base 29 4 (NetOwn wc base n) F (.slice (some ⟨g, 0, none⟩) m cap) (opn kind a) ∧ F.Nodup ∧ (∀ x ∈ F, x ∈ f1 ∨ w.heap.size + 4 ≤ x) ∧ w.heap.size + 4 ≤ g ∧ Below w.heap.size w wc ∧
    wc.heap[w.heap.size + 1]? = some (.cells cb 29 (0, 0)) ∧ wc.heap[w.heap.size + 1 + 1]? = some (.cells #[.int .i64 0, .int .i64 0, .slice none 0 0, .slice none 0 0] 29 (0, 0)) ∧ wc.heap[w.heap.size + 1 + 1 + 1]? = some (.cells #[.int .i64 kind, .int .i64 0, .slice none 0 0, .slice (some ⟨g, 0, none⟩) m cap] 29 (0, 0))
/-- The cell of the kids is put. -/
theorem putAt_of {w W3 w5 : World} {base n : Nat} {kind : Int} {a : NetT} {f1 : List Nat} {cb : Array Value} {g cap m : Nat} {F : List Nat} {v : Value} {vo : Option Nat} (hs : w.heap.size + 4 ≤ W3.heap.size) (hm : m = (opn kind a).length) (hR : RowOwn w5 base 29 4 (NetOwn w5 base n) F (.slice (some ⟨g, 0, none⟩) m cap) (opn kind a)) (hn : F.Nodup) (hF : ∀ x ∈ F, x ∈ f1 ∨ w.heap.size + 4 ≤ x) (hf1 : ∀ x ∈ f1, x < w.heap.size) (hg : w.heap.size + 4 ≤ g) (g0 : Below w.heap.size w W3) (g5 : W3.grownBy w5 vo) (hvo : ∀ j, vo = some j → w.heap.size + 4 ≤ j)
    (r1 : W3.heap[w.heap.size + 1]? = some (.cells cb 29 (0, 0))) (r2 : W3.heap[w.heap.size + 1 + 1]? = some (.cells #[.int .i64 0, .int .i64 0, .slice none 0 0, .slice none 0 0] 29 (0, 0))) (r3 : W3.heap[w.heap.size + 1 + 1 + 1]? = some (.cells #[.int .i64 kind, .int .i64 0, .slice none 0 0, v] 29 (0, 0))) :
    PutAt w base n kind a f1 cb (w5.setCell ⟨w.heap.size + 1 + 1 + 1, 3, none⟩ (.slice (some ⟨g, 0, none⟩) m cap)) := by
  have kk : ∀ q, q < w.heap.size + 4 → w5.heap[q]? = W3.heap[q]? := fun q hq => g5.block q (by omega) (fun e => by have := hvo q e.symm; omega)
  have gs : w5.grownBy (w5.setCell ⟨w.heap.size + 1 + 1 + 1, 3, none⟩ (.slice (some ⟨g, 0, none⟩) m cap)) (some (w.heap.size + 1 + 1 + 1)) := gb_cel w5 _ 3 _
  have hne : ∀ x ∈ F, some x ≠ some (w.heap.size + 1 + 1 + 1) := fun x hx e => by
    simp at e
    rcases hF x hx with h | h
    · have := hf1 x h; omega
    · omega
  refine ⟨g, cap, m, F, hm, RowOwn.move hR gs hne (fun f x c hf h => NetOwn.move gs n n (Nat.le_refl _) f x c hf h), hn, hF, hg, ?_, ?_, ?_, ?_⟩
  · exact ((g0.grown g5 (by omega) (fun j hj => by have := hvo j hj; omega)).setCell (p := ⟨w.heap.size + 1 + 1 + 1, 3, none⟩) (by simp; omega) _)
  · exact row_other ((kk _ (by omega)).trans r1) _ _ (by omega) _
  · exact row_other ((kk _ (by omega)).trans r2) _ _ (by omega) _
  · exact row_put ((kk _ (by omega)).trans r3) 3 _
/-- Where l15Put stands ahead of its end. -/
def FinAt (w : World) (base n : Nat) (kind : Int) (t : NetT) (f1 f2 : List Nat) (wc : World) (g m cap : Nat) : Prop :=
  (∃ F', NetOwn wc base n F' t [.int .i64 kind, .int .i64 0, .slice none 0 0, .slice (some ⟨g, 0, none⟩) m cap] ∧ F'.Nodup ∧ ∀ x ∈ F', x ∈ f1 ∨ x ∈ f2 ∨ w.heap.size + 4 ≤ x) ∧ Below w.heap.size w wc ∧
    wc.heap[w.heap.size + 1 + 1]? = some (.cells #[.int .i64 0, .int .i64 0, .slice none 0 0, .slice none 0 0] 29 (0, 0)) ∧ wc.heap[w.heap.size + 1 + 1 + 1]? = some (.cells #[.int .i64 kind, .int .i64 0, .slice none 0 0, .slice (some ⟨g, 0, none⟩) m cap] 29 (0, 0))
theorem finAt_of {w wc w5 : World} {base n : Nat} {kind : Int} {a b : NetT} {f1 f2 : List Nat} {g cap m : Nat} {F : List Nat} {v : Value} {vo : Option Nat} (hR : RowOwn w5 base 29 4 (NetOwn w5 base (n + 1)) F (.slice (some ⟨g, 0, none⟩) m cap) (opn kind a ++ opn kind b)) (hn : F.Nodup) (hF : ∀ x ∈ F, x ∈ f1 ∨ x ∈ f2 ∨ w.heap.size + 4 ≤ x) (hf1 : ∀ x ∈ f1, x < w.heap.size) (hf2 : ∀ x ∈ f2, x < w.heap.size) (hg : w.heap.size + 4 ≤ g) (g0 : Below w.heap.size w wc) (g5 : wc.grownBy w5 vo) (hvo : ∀ j, vo = some j → w.heap.size + 4 ≤ j) (hs : w.heap.size + 4 ≤ wc.heap.size)
    (r2 : wc.heap[w.heap.size + 1 + 1]? = some (.cells #[.int .i64 0, .int .i64 0, .slice none 0 0, .slice none 0 0] 29 (0, 0))) (r3 : w5.heap[w.heap.size + 1 + 1 + 1]? = some (.cells #[.int .i64 kind, .int .i64 0, .slice none 0 0, v] 29 (0, 0))) :
    FinAt w base (n + 2) kind (jnT kind a b) f1 f2 (w5.setCell ⟨w.heap.size + 1 + 1 + 1, 3, none⟩ (.slice (some ⟨g, 0, none⟩) m cap)) g m cap := by
  have gs : w5.grownBy (w5.setCell ⟨w.heap.size + 1 + 1 + 1, 3, none⟩ (.slice (some ⟨g, 0, none⟩) m cap)) (some (w.heap.size + 1 + 1 + 1)) := gb_cel w5 _ 3 _
  have hne : ∀ x ∈ F, some x ≠ some (w.heap.size + 1 + 1 + 1) := fun x hx e => by
    simp at e
    rcases hF x hx with h | h | h
    · have := hf1 x h; omega
    · have := hf2 x h; omega
    · omega
  refine ⟨⟨F, ⟨.slice none 0 0, _, [], F, rfl, rfl, RowOwn.nil _ _ _ _ _, RowOwn.move hR gs hne (fun f x c hf h => NetOwn.move gs (n + 1) (n + 1) (Nat.le_refl _) f x c hf h)⟩, hn, hF⟩, ?_, ?_, ?_⟩
  · exact ((g0.grown g5 (by omega) (fun j hj => by have := hvo j hj; omega)).setCell (p := ⟨w.heap.size + 1 + 1 + 1, 3, none⟩) (by simp; omega) _)
  · exact row_other ((g5.block _ (by omega) (fun e => by have := hvo _ e.symm; omega)).trans r2) _ _ (by omega) _
  · exact row_put r3 3 _
end Go.Proofs.YtkppcmpdghnmgaaDoor
/- Nets put together by the specification: the walks of l15Put, l15Add. -/
namespace Go.Proofs.YtkppcmpdghnmgaaDoor
open Go.RowKit
set_option linter.unusedVariables false

set_option maxRecDepth 10000 in
set_option maxHeartbeats 4000000 in
theorem sput_s (base n : Nat) (kind : Int) (k1 o1 : Int) (p1 : Option Addr) (pl1 pc1 : Nat) (q1 : Option Addr) (ql1 qc1 : Nat) (k2 o2 : Int) (p2 : Option Addr) (pl2 pc2 : Nat) (q2 : Option Addr) (ql2 qc2 : Nat) (a b : NetT) (f1 f2 : List Nat) (w : World) (hk : kind = 2 ∨ kind = 3)
    (hA : NetOwn w base (n + 1) f1 a [.int .i64 k1, .int .i64 o1, .slice p1 pl1 pc1, .slice q1 ql1 qc1]) (hB : NetOwn w base (n + 1) f2 b [.int .i64 k2, .int .i64 o2, .slice p2 pl2 pc2, .slice q2 ql2 qc2]) (hOa : OkN a) (hOb : OkN b) (hd : (f1 ++ f2).Nodup) (hbig : (opn kind a).length ≤ 400000 ∧ (opn kind b).length ≤ 400000) (hb : base ≤ w.heap.size) :
    Calls Tryd.prog 56 #[.int .i64 kind, .agg #[.int .i64 k1, .int .i64 o1, .slice p1 pl1 pc1, .slice q1 ql1 qc1], .agg #[.int .i64 k2, .int .i64 o2, .slice p2 pl2 pc2, .slice q2 ql2 qc2]] w fun e w' => PutR w base (n + 2) f1 f2 (jnT kind a b) e w' := by
  have hn := List.nodup_append.1 hd
  have hl1 : ∀ x ∈ f1, x < w.heap.size := fun x hx => (NetOwn.lt _ _ _ _ hA x hx).2
  have hl2 : ∀ x ∈ f2, x < w.heap.size := fun x hx => (NetOwn.lt _ _ _ _ hB x hx).2
  obtain ⟨r0, r1, r2, r3⟩ := rows4 w (.cells #[.int .i64 k1, .int .i64 o1, .slice p1 pl1 pc1, .slice q1 ql1 qc1] 29) (.cells #[.int .i64 k2, .int .i64 o2, .slice p2 pl2 pc2, .slice q2 ql2 qc2] 29) (.cells #[.int .i64 0, .int .i64 0, .slice none 0 0, .slice none 0 0] 29) (.cells #[.int .i64 kind, .int .i64 0, .slice none 0 0, .slice none 0 0] 29)
  have b3 : Below w.heap.size w ((((w.alloc (.cells #[.int .i64 k1, .int .i64 o1, .slice p1 pl1 pc1, .slice q1 ql1 qc1] 29)).alloc (.cells #[.int .i64 k2, .int .i64 o2, .slice p2 pl2 pc2, .slice q2 ql2 qc2] 29)).alloc (.cells #[.int .i64 0, .int .i64 0, .slice none 0 0, .slice none 0 0] 29)).alloc (.cells #[.int .i64 kind, .int .i64 0, .slice none 0 0, .slice none 0 0] 29)) := (((Below.refl _ _).alloc (Nat.le_refl _) _).alloc (by simp) _).alloc (by simp; omega) _ |>.alloc (by simp; omega) _
  have s3 : ((((w.alloc (.cells #[.int .i64 k1, .int .i64 o1, .slice p1 pl1 pc1, .slice q1 ql1 qc1] 29)).alloc (.cells #[.int .i64 k2, .int .i64 o2, .slice p2 pl2 pc2, .slice q2 ql2 qc2] 29)).alloc (.cells #[.int .i64 0, .int .i64 0, .slice none 0 0, .slice none 0 0] 29)).alloc (.cells #[.int .i64 kind, .int .i64 0, .slice none 0 0, .slice none 0 0] 29)).heap.size = w.heap.size + 4 := by simp
  have ck1 : k1 = nkd a := by obtain ⟨_, _, _, _, _, _, _, e, _⟩ := hA.cells; simp at e; exact e.1
  have ck2 : k2 = nkd b := by obtain ⟨_, _, _, _, _, _, _, e, _⟩ := hB.cells; simp at e; exact e.1
  -- the first half
  have H1 : Hid (∀ W3, W3 = ((((w.alloc (.cells #[.int .i64 k1, .int .i64 o1, .slice p1 pl1 pc1, .slice q1 ql1 qc1] 29)).alloc (.cells #[.int .i64 k2, .int .i64 o2, .slice p2 pl2 pc2, .slice q2 ql2 qc2] 29)).alloc (.cells #[.int .i64 0, .int .i64 0, .slice none 0 0, .slice none 0 0] 29)).alloc (.cells #[.int .i64 kind, .int .i64 0, .slice none 0 0, .slice none 0 0] 29)) → (k1 = kind → ∃ g cap w5, (∀ ty, (Builtin.append_ #[27, 27] ty #[.slice none 0 0, .slice q1 ql1 qc1]).run Tryd.prog W3 = .ok (.slice (some ⟨g, 0, none⟩) ql1 cap) w5) ∧ PutAt w base (n + 1) kind a f1 #[.int .i64 k2, .int .i64 o2, .slice p2 pl2 pc2, .slice q2 ql2 qc2] (w5.setCell ⟨w.heap.size + 1 + 1 + 1, 3, none⟩ (.slice (some ⟨g, 0, none⟩) ql1 cap)) ∧ (∃ x, w5.cell? ⟨w.heap.size + 1 + 1 + 1, 3, none⟩ = some x) ∧ w5.frozen? ⟨w.heap.size + 1 + 1 + 1, 3, none⟩ = false) ∧
      (k1 ≠ kind → ∃ g cap w5, (∀ ty, (Builtin.append_ #[27, 27] ty #[.slice none 0 0, .slice (some ⟨w.heap.size + 4, 0, none⟩) 1 1]).run Tryd.prog (W3.alloc (.cells #[.int .i64 k1, .int .i64 o1, .slice p1 pl1 pc1, .slice q1 ql1 qc1] 29)) = .ok (.slice (some ⟨g, 0, none⟩) 1 cap) w5) ∧ PutAt w base (n + 1) kind a f1 #[.int .i64 k2, .int .i64 o2, .slice p2 pl2 pc2, .slice q2 ql2 qc2] (w5.setCell ⟨w.heap.size + 1 + 1 + 1, 3, none⟩ (.slice (some ⟨g, 0, none⟩) 1 cap)) ∧ (∃ x, w5.cell? ⟨w.heap.size + 1 + 1 + 1, 3, none⟩ = some x) ∧ w5.frozen? ⟨w.heap.size + 1 + 1 + 1, 3, none⟩ = false)) := by
    rintro W3 rfl
    have hA3 := hA.later (Nat.le_refl _) b3
    refine ⟨fun e => ?_, fun e => ?_⟩
    · obtain ⟨ho, h0, hq, g, G, ds, hqe, hE, hc, hGn, hGf⟩ := open_net hA3 hn.1 hk hOa e
      obtain ⟨g5, cap, w5, F', hr, hR, hF, hF', hg5, hat⟩ := app_nets ((((w.alloc (.cells #[.int .i64 k1, .int .i64 o1, .slice p1 pl1 pc1, .slice q1 ql1 qc1] 29)).alloc (.cells #[.int .i64 k2, .int .i64 o2, .slice p2 pl2 pc2, .slice q2 ql2 qc2] 29)).alloc (.cells #[.int .i64 0, .int .i64 0, .slice none 0 0, .slice none 0 0] 29)).alloc (.cells #[.int .i64 kind, .int .i64 0, .slice none 0 0, .slice none 0 0] 29)) base (n + 1) [] none 0 0 [] (RowOwn.nil _ _ _ _ _) rfl List.nodup_nil G (nks a) ds hE g 0 ql1 qc1 hq hc h0 (fun x hx => by have := hl1 x (hGf x hx); omega) hGn (fun x hx h => by simp at h) (by rw [ho] at hbig; omega) (by omega)
      rw [← hqe] at hr
      have hat' : w.heap.size + 4 ≤ g5 := by
        rcases hat with h | h
        · simp [Value.ownBlock] at h
        · omega
      have kr : w5.heap[w.heap.size + 1 + 1 + 1]? = some (.cells #[.int .i64 kind, .int .i64 0, .slice none 0 0, .slice none 0 0] 29 (0, 0)) := (hg5.block _ (by omega) (by simp [Value.ownBlock])).trans r3
      refine ⟨g5, cap, w5, fun ty => by have := hr ty; rwa [Nat.zero_add] at this, putAt_of (W3 := ((((w.alloc (.cells #[.int .i64 k1, .int .i64 o1, .slice p1 pl1 pc1, .slice q1 ql1 qc1] 29)).alloc (.cells #[.int .i64 k2, .int .i64 o2, .slice p2 pl2 pc2, .slice q2 ql2 qc2] 29)).alloc (.cells #[.int .i64 0, .int .i64 0, .slice none 0 0, .slice none 0 0] 29)).alloc (.cells #[.int .i64 kind, .int .i64 0, .slice none 0 0, .slice none 0 0] 29))) (vo := none) (by omega) (by rw [ho, hq]) (by rw [ho]; rw [Nat.zero_add] at hR; exact hR) hF (fun x hx => ?_) hl1 hat' b3 (by simpa [Value.ownBlock] using hg5) (fun j hj => by simp at hj) r1 r2 r3, ⟨_, (cell_of_row _ _ _ _ _ _ kr).trans rfl⟩, by simp [World.frozen?, kr]⟩
      rcases hF' x hx with h | h | h
      · simp at h
      · exact .inl (hGf x h)
      · exact .inr (by omega)
    · have ho : opn kind a = [a] := by unfold opn; rw [if_neg (by rw [← ck1]; exact e)]
      have ga : Below ((((w.alloc (.cells #[.int .i64 k1, .int .i64 o1, .slice p1 pl1 pc1, .slice q1 ql1 qc1] 29)).alloc (.cells #[.int .i64 k2, .int .i64 o2, .slice p2 pl2 pc2, .slice q2 ql2 qc2] 29)).alloc (.cells #[.int .i64 0, .int .i64 0, .slice none 0 0, .slice none 0 0] 29)).alloc (.cells #[.int .i64 kind, .int .i64 0, .slice none 0 0, .slice none 0 0] 29)).heap.size ((((w.alloc (.cells #[.int .i64 k1, .int .i64 o1, .slice p1 pl1 pc1, .slice q1 ql1 qc1] 29)).alloc (.cells #[.int .i64 k2, .int .i64 o2, .slice p2 pl2 pc2, .slice q2 ql2 qc2] 29)).alloc (.cells #[.int .i64 0, .int .i64 0, .slice none 0 0, .slice none 0 0] 29)).alloc (.cells #[.int .i64 kind, .int .i64 0, .slice none 0 0, .slice none 0 0] 29)) (((((w.alloc (.cells #[.int .i64 k1, .int .i64 o1, .slice p1 pl1 pc1, .slice q1 ql1 qc1] 29)).alloc (.cells #[.int .i64 k2, .int .i64 o2, .slice p2 pl2 pc2, .slice q2 ql2 qc2] 29)).alloc (.cells #[.int .i64 0, .int .i64 0, .slice none 0 0, .slice none 0 0] 29)).alloc (.cells #[.int .i64 kind, .int .i64 0, .slice none 0 0, .slice none 0 0] 29)).alloc (.cells #[.int .i64 k1, .int .i64 o1, .slice p1 pl1 pc1, .slice q1 ql1 qc1] 29)) := (Below.refl _ _).alloc (Nat.le_refl _) _
      have sa : (((((w.alloc (.cells #[.int .i64 k1, .int .i64 o1, .slice p1 pl1 pc1, .slice q1 ql1 qc1] 29)).alloc (.cells #[.int .i64 k2, .int .i64 o2, .slice p2 pl2 pc2, .slice q2 ql2 qc2] 29)).alloc (.cells #[.int .i64 0, .int .i64 0, .slice none 0 0, .slice none 0 0] 29)).alloc (.cells #[.int .i64 kind, .int .i64 0, .slice none 0 0, .slice none 0 0] 29)).alloc (.cells #[.int .i64 k1, .int .i64 o1, .slice p1 pl1 pc1, .slice q1 ql1 qc1] 29)).heap.size = w.heap.size + 5 := by simp
      obtain ⟨g5, cap, w5, F', hr, hR, hF, hF', hg5, hat⟩ := app_nets (((((w.alloc (.cells #[.int .i64 k1, .int .i64 o1, .slice p1 pl1 pc1, .slice q1 ql1 qc1] 29)).alloc (.cells #[.int .i64 k2, .int .i64 o2, .slice p2 pl2 pc2, .slice q2 ql2 qc2] 29)).alloc (.cells #[.int .i64 0, .int .i64 0, .slice none 0 0, .slice none 0 0] 29)).alloc (.cells #[.int .i64 kind, .int .i64 0, .slice none 0 0, .slice none 0 0] 29)).alloc (.cells #[.int .i64 k1, .int .i64 o1, .slice p1 pl1 pc1, .slice q1 ql1 qc1] 29)) base (n + 1) [] none 0 0 [] (RowOwn.nil _ _ _ _ _) rfl List.nodup_nil f1 [a] [.int .i64 k1, .int .i64 o1, .slice p1 pl1 pc1, .slice q1 ql1 qc1] (Each.one rfl (hA3.later (Nat.le_refl _) ga)) (w.heap.size + 4) 0 1 1 rfl (fun j u hu => by
        have := news4 ((((w.alloc (.cells #[.int .i64 k1, .int .i64 o1, .slice p1 pl1 pc1, .slice q1 ql1 qc1] 29)).alloc (.cells #[.int .i64 k2, .int .i64 o2, .slice p2 pl2 pc2, .slice q2 ql2 qc2] 29)).alloc (.cells #[.int .i64 0, .int .i64 0, .slice none 0 0, .slice none 0 0] 29)).alloc (.cells #[.int .i64 kind, .int .i64 0, .slice none 0 0, .slice none 0 0] 29)) _ _ _ _ 29 j u hu
        rw [s3, show (⟨w.heap.size + 4, 0, none⟩ : Addr).add j = ⟨w.heap.size + 4, 0 + j, none⟩ from Addr.add_mid _ 0 j] at this
        exact this) (by omega) (fun x hx => by have := hl1 x hx; omega) hn.1 (fun x hx h => by simp at h) (by omega) (by omega)
      have hat' : w.heap.size + 4 ≤ g5 := by
        rcases hat with h | h
        · simp [Value.ownBlock] at h
        · omega
      have g35 : ((((w.alloc (.cells #[.int .i64 k1, .int .i64 o1, .slice p1 pl1 pc1, .slice q1 ql1 qc1] 29)).alloc (.cells #[.int .i64 k2, .int .i64 o2, .slice p2 pl2 pc2, .slice q2 ql2 qc2] 29)).alloc (.cells #[.int .i64 0, .int .i64 0, .slice none 0 0, .slice none 0 0] 29)).alloc (.cells #[.int .i64 kind, .int .i64 0, .slice none 0 0, .slice none 0 0] 29)).grownBy w5 none := (World.grownBy_alloc _ _ none).trans (by simpa [Value.ownBlock] using hg5)
      have kr : w5.heap[w.heap.size + 1 + 1 + 1]? = some (.cells #[.int .i64 kind, .int .i64 0, .slice none 0 0, .slice none 0 0] 29 (0, 0)) := (g35.block _ (by omega) (by simp)).trans r3
      refine ⟨g5, cap, w5, fun ty => by have := hr ty; rwa [Nat.zero_add] at this, putAt_of (W3 := ((((w.alloc (.cells #[.int .i64 k1, .int .i64 o1, .slice p1 pl1 pc1, .slice q1 ql1 qc1] 29)).alloc (.cells #[.int .i64 k2, .int .i64 o2, .slice p2 pl2 pc2, .slice q2 ql2 qc2] 29)).alloc (.cells #[.int .i64 0, .int .i64 0, .slice none 0 0, .slice none 0 0] 29)).alloc (.cells #[.int .i64 kind, .int .i64 0, .slice none 0 0, .slice none 0 0] 29))) (vo := none) (by omega) (by rw [ho]; rfl) (by rw [ho]; rw [Nat.zero_add] at hR; exact hR) hF (fun x hx => ?_) hl1 hat' b3 g35 (fun j hj => by simp at hj) r1 r2 r3, ⟨_, (cell_of_row _ _ _ _ _ _ kr).trans rfl⟩, by simp [World.frozen?, kr]⟩
      rcases hF' x hx with h | h | h
      · simp at h
      · exact .inl h
      · exact .inr (by omega)
  -- the second half
  have H2 : Hid (∀ wc (g cap m : Nat) (F : List Nat), m = (opn kind a).length → RowOwn wc base 29 4 (NetOwn wc base (n + 1)) F (.slice (some ⟨g, 0, none⟩) m cap) (opn kind a) → F.Nodup → (∀ x ∈ F, x ∈ f1 ∨ w.heap.size + 4 ≤ x) → w.heap.size + 4 ≤ g → Below w.heap.size w wc → wc.heap[w.heap.size + 1 + 1]? = some (.cells #[.int .i64 0, .int .i64 0, .slice none 0 0, .slice none 0 0] 29 (0, 0)) → wc.heap[w.heap.size + 1 + 1 + 1]? = some (.cells #[.int .i64 kind, .int .i64 0, .slice none 0 0, .slice (some ⟨g, 0, none⟩) m cap] 29 (0, 0)) →
      (k2 = kind → ∃ g' cap' w5, (∀ ty, (Builtin.append_ #[27, 27] ty #[.slice (some ⟨g, 0, none⟩) m cap, .slice q2 ql2 qc2]).run Tryd.prog wc = .ok (.slice (some ⟨g', 0, none⟩) (m + ql2) cap') w5) ∧ FinAt w base (n + 2) kind (jnT kind a b) f1 f2 (w5.setCell ⟨w.heap.size + 1 + 1 + 1, 3, none⟩ (.slice (some ⟨g', 0, none⟩) (m + ql2) cap')) g' (m + ql2) cap' ∧ (∃ x, w5.cell? ⟨w.heap.size + 1 + 1 + 1, 3, none⟩ = some x) ∧ w5.frozen? ⟨w.heap.size + 1 + 1 + 1, 3, none⟩ = false) ∧
      (k2 ≠ kind → ∃ g' cap' w5, (∀ ty, (Builtin.append_ #[27, 27] ty #[.slice (some ⟨g, 0, none⟩) m cap, .slice (some ⟨wc.heap.size, 0, none⟩) 1 1]).run Tryd.prog (wc.alloc (.cells #[.int .i64 k2, .int .i64 o2, .slice p2 pl2 pc2, .slice q2 ql2 qc2] 29)) = .ok (.slice (some ⟨g', 0, none⟩) (m + 1) cap') w5) ∧ FinAt w base (n + 2) kind (jnT kind a b) f1 f2 (w5.setCell ⟨w.heap.size + 1 + 1 + 1, 3, none⟩ (.slice (some ⟨g', 0, none⟩) (m + 1) cap')) g' (m + 1) cap' ∧ (∃ x, w5.cell? ⟨w.heap.size + 1 + 1 + 1, 3, none⟩ = some x) ∧ w5.frozen? ⟨w.heap.size + 1 + 1 + 1, 3, none⟩ = false)) := by
    intro wc g cap m F hm hR hF hFm hg gc r2c r3c
    have hBc := hB.later (Nat.le_refl _) gc
    have hsc : w.heap.size + 4 ≤ wc.heap.size := by
      have := hR.ltN g
      have h3 := (hR.ltN g (by obtain ⟨_, _, _, _, e⟩ := hR; rw [e]; simp [Value.ownBlock])).2
      omega
    have hdF : ∀ x ∈ f2, x ∉ F := fun x hx h => by
      rcases hFm x h with h | h
      · exact hn.2.2 x h x hx rfl
      · have := hl2 x hx; omega
    have hvo : ∀ j, (Value.slice (some ⟨g, 0, none⟩) m cap).ownBlock = some j → w.heap.size + 4 ≤ j := fun j hj => by simp [Value.ownBlock] at hj; omega
    refine ⟨fun e => ?_, fun e => ?_⟩
    · obtain ⟨ho, h0, hq, g2, G, ds, hqe, hE, hc, hGn, hGf⟩ := open_net hBc hn.2.1 hk hOb e
      obtain ⟨g5, cap5, w5, F', hr, hR5, hF5, hF', hg5, hat⟩ := app_nets wc base (n + 1) F (some ⟨g, 0, none⟩) m cap (opn kind a) hR hm hF G (nks b) ds hE g2 0 ql2 qc2 hq hc h0 (fun x hx => by have := hl2 x (hGf x hx); omega) hGn (fun x hx => hdF x (hGf x hx)) (by rw [← ho] at hq; omega) (by omega)
      rw [← hqe] at hr
      have kr : w5.heap[w.heap.size + 1 + 1 + 1]? = some (.cells #[.int .i64 kind, .int .i64 0, .slice none 0 0, .slice (some ⟨g, 0, none⟩) m cap] 29 (0, 0)) := (hg5.block _ (by omega) (fun e => by have := hvo _ e.symm; omega)).trans r3c
      have hF2 : ∀ x ∈ F', x ∈ f1 ∨ x ∈ f2 ∨ w.heap.size + 4 ≤ x := fun x hx => by
        rcases hF' x hx with h | h | h
        · rcases hFm x h with h | h
          · exact .inl h
          · exact .inr (.inr h)
        · exact .inr (.inl (hGf x h))
        · exact .inr (.inr (by omega))
      rw [← ho] at hR5
      exact ⟨g5, cap5, w5, hr, finAt_of hR5 hF5 hF2 hl1 hl2 (by rcases hat with h | h; exact hvo _ h; omega) gc hg5 hvo (by omega) r2c kr, ⟨_, (cell_of_row _ _ _ _ _ _ kr).trans rfl⟩, by simp [World.frozen?, kr]⟩
    · have ho : opn kind b = [b] := by unfold opn; rw [if_neg (by rw [← ck2]; exact e)]
      have ga : Below wc.heap.size wc (wc.alloc (.cells #[.int .i64 k2, .int .i64 o2, .slice p2 pl2 pc2, .slice q2 ql2 qc2] 29)) := (Below.refl _ _).alloc (Nat.le_refl _) _
      have sa : (wc.alloc (.cells #[.int .i64 k2, .int .i64 o2, .slice p2 pl2 pc2, .slice q2 ql2 qc2] 29)).heap.size = wc.heap.size + 1 := by simp
      obtain ⟨g5, cap5, w5, F', hr, hR5, hF5, hF', hg5, hat⟩ := app_nets (wc.alloc (.cells #[.int .i64 k2, .int .i64 o2, .slice p2 pl2 pc2, .slice q2 ql2 qc2] 29)) base (n + 1) F (some ⟨g, 0, none⟩) m cap (opn kind a) (RowOwn.move (row := none) hR (gbb ga) (fun _ _ => by simp) (fun f x c _ h => NetOwn.later (Nat.le_refl _) h ga)) hm hF f2 [b] [.int .i64 k2, .int .i64 o2, .slice p2 pl2 pc2, .slice q2 ql2 qc2] (Each.one rfl (hBc.later (Nat.le_refl _) ga)) wc.heap.size 0 1 1 rfl (fun j u hu => by
        have := news4 wc _ _ _ _ 29 j u hu
        rw [show (⟨wc.heap.size, 0, none⟩ : Addr).add j = ⟨wc.heap.size, 0 + j, none⟩ from Addr.add_mid _ 0 j] at this
        exact this) (by omega) (fun x hx => by have := hl2 x hx; omega) hn.2.1 hdF (by omega) (by omega)
      have g35 : wc.grownBy w5 (Value.slice (some ⟨g, 0, none⟩) m cap).ownBlock := (World.grownBy_alloc _ _ _).trans hg5
      have kr : w5.heap[w.heap.size + 1 + 1 + 1]? = some (.cells #[.int .i64 kind, .int .i64 0, .slice none 0 0, .slice (some ⟨g, 0, none⟩) m cap] 29 (0, 0)) := (g35.block _ (by omega) (fun e => by have := hvo _ e.symm; omega)).trans r3c
      have hF2 : ∀ x ∈ F', x ∈ f1 ∨ x ∈ f2 ∨ w.heap.size + 4 ≤ x := fun x hx => by
        rcases hF' x hx with h | h | h
        · rcases hFm x h with h | h
          · exact .inl h
          · exact .inr (.inr h)
        · exact .inr (.inl h)
        · exact .inr (.inr (by omega))
      rw [← ho] at hR5
      exact ⟨g5, cap5, w5, hr, finAt_of hR5 hF5 hF2 hl1 hl2 (by rcases hat with h | h; exact hvo _ h; omega) gc g35 hvo (by omega) r2c kr, ⟨_, (cell_of_row _ _ _ _ _ _ kr).trans rfl⟩, by simp [World.frozen?, kr]⟩
  have HL0 : Hid ((loadVar 29 ⟨w.heap.size, 0, none⟩).run Tryd.prog ((((w.alloc (.cells #[.int .i64 k1, .int .i64 o1, .slice p1 pl1 pc1, .slice q1 ql1 qc1] 29)).alloc (.cells #[.int .i64 k2, .int .i64 o2, .slice p2 pl2 pc2, .slice q2 ql2 qc2] 29)).alloc (.cells #[.int .i64 0, .int .i64 0, .slice none 0 0, .slice none 0 0] 29)).alloc (.cells #[.int .i64 kind, .int .i64 0, .slice none 0 0, .slice none 0 0] 29)) = .ok (.agg #[.int .i64 k1, .int .i64 o1, .slice p1 pl1 pc1, .slice q1 ql1 qc1]) ((((w.alloc (.cells #[.int .i64 k1, .int .i64 o1, .slice p1 pl1 pc1, .slice q1 ql1 qc1] 29)).alloc (.cells #[.int .i64 k2, .int .i64 o2, .slice p2 pl2 pc2, .slice q2 ql2 qc2] 29)).alloc (.cells #[.int .i64 0, .int .i64 0, .slice none 0 0, .slice none 0 0] 29)).alloc (.cells #[.int .i64 kind, .int .i64 0, .slice none 0 0, .slice none 0 0] 29))) := load_all r0 _ _ Tryd.underlying29 rfl (by kernel_rfl)
  have HLt : Hid ((∀ x ∈ f1, x < w.heap.size) ∧ ∀ x ∈ f2, x < w.heap.size) := ⟨hl1, hl2⟩
  clear hn hl1 hl2 hA hB hOa hOb hd hbig hb hk s3 b3 ck1 ck2 r0 r1 r2 r3
  go_enter Tryd.func56, Tryd.ntmps56
  go_upto_if 13 with fail
  go_cut [] from 13 (fun wc => Hid (PutAt w base (n + 1) kind a f1 #[.int .i64 k2, .int .i64 o2, .slice p2 pl2 pc2, .slice q2 ql2 qc2] wc))
  case first =>
    by_cases e : k1 = kind
    · have i1 : (k1 == kind) = true := by rw [e]; simp
      obtain ⟨g, cap, w5, hr, hP, ⟨x5, c5⟩, fz⟩ := (H1.out _ rfl).1 e
      have HP : Hid (PutAt w base (n + 1) kind a f1 #[.int .i64 k2, .int .i64 o2, .slice p2 pl2 pc2, .slice q2 ql2 qc2] (w5.setCell ⟨w.heap.size + 1 + 1 + 1, 3, none⟩ (.slice (some ⟨g, 0, none⟩) ql1 cap))) := hP
      have HR : Hid (∀ ty, (Builtin.append_ #[27, 27] ty #[.slice none 0 0, .slice q1 ql1 qc1]).run Tryd.prog ((((w.alloc (.cells #[.int .i64 k1, .int .i64 o1, .slice p1 pl1 pc1, .slice q1 ql1 qc1] 29)).alloc (.cells #[.int .i64 k2, .int .i64 o2, .slice p2 pl2 pc2, .slice q2 ql2 qc2] 29)).alloc (.cells #[.int .i64 0, .int .i64 0, .slice none 0 0, .slice none 0 0] 29)).alloc (.cells #[.int .i64 kind, .int .i64 0, .slice none 0 0, .slice none 0 0] 29)) = .ok (.slice (some ⟨g, 0, none⟩) ql1 cap) w5) := hr
      clear hr hP H1 H2 e
      go_wp2_with (at_builtin; refine wpList_app_run rfl _ _ 27 rfl _ _ rfl rfl _ _ HR.out ?_)
      go_meet
      case rel => exact HP
    · have i1 : (k1 == kind) = false := by simpa using e
      obtain ⟨g, cap, w5, hr, hP, ⟨x5, c5⟩, fz⟩ := (H1.out _ rfl).2 e
      have HP : Hid (PutAt w base (n + 1) kind a f1 #[.int .i64 k2, .int .i64 o2, .slice p2 pl2 pc2, .slice q2 ql2 qc2] (w5.setCell ⟨w.heap.size + 1 + 1 + 1, 3, none⟩ (.slice (some ⟨g, 0, none⟩) 1 cap))) := hP
      have HR : Hid (∀ ty, (Builtin.append_ #[27, 27] ty #[.slice none 0 0, .slice (some ⟨w.heap.size + 4, 0, none⟩) 1 1]).run Tryd.prog (((((w.alloc (.cells #[.int .i64 k1, .int .i64 o1, .slice p1 pl1 pc1, .slice q1 ql1 qc1] 29)).alloc (.cells #[.int .i64 k2, .int .i64 o2, .slice p2 pl2 pc2, .slice q2 ql2 qc2] 29)).alloc (.cells #[.int .i64 0, .int .i64 0, .slice none 0 0, .slice none 0 0] 29)).alloc (.cells #[.int .i64 kind, .int .i64 0, .slice none 0 0, .slice none 0 0] 29)).alloc (.cells #[.int .i64 k1, .int .i64 o1, .slice p1 pl1 pc1, .slice q1 ql1 qc1] 29)) = .ok (.slice (some ⟨g, 0, none⟩) 1 cap) w5) := hr
      clear hr hP H1 H2 e
      go_wp2_with (first | (refine wpL_load rfl 29 _ rfl _ _ rfl _ HL0.out ?_) | (at_builtin; refine wpList_app_run rfl _ _ 27 rfl _ _ rfl rfl _ _ HR.out ?_))
      go_meet
      case rel => exact HP
  case rest =>
    clear H1 HL0
    obtain ⟨g, cap, m, F, hm, hR, hF, hFm, hg, gc, r1c, r2c, r3c⟩ := hcut.out
    have HH := H2.out wc g cap m F hm hR hF hFm hg gc r2c r3c
    have c0 : wc.cell? ⟨w.heap.size + 1, 0, none⟩ = some (.int .i64 k2) := (cell_of_row _ _ _ _ _ _ r1c).trans rfl
    have c3 : wc.cell? ⟨w.heap.size + 1, 3, none⟩ = some (.slice q2 ql2 qc2) := (cell_of_row _ _ _ _ _ _ r1c).trans rfl
    have d3 : wc.cell? ⟨w.heap.size + 1 + 1 + 1, 3, none⟩ = some (.slice (some ⟨g, 0, none⟩) m cap) := (cell_of_row _ _ _ _ _ _ r3c).trans rfl
    have HLb : Hid ((loadVar 29 ⟨w.heap.size + 1, 0, none⟩).run Tryd.prog wc = .ok (.agg #[.int .i64 k2, .int .i64 o2, .slice p2 pl2 pc2, .slice q2 ql2 qc2]) wc) := load_all r1c _ _ Tryd.underlying29 rfl (by kernel_rfl)
    have HM : Hid (∀ (g' m' cap' : Nat) (w6 : World), FinAt w base (n + 2) kind (jnT kind a b) f1 f2 w6 g' m' cap' → ∃ w7, (loadVar 29 ⟨w.heap.size + 1 + 1 + 1, 0, none⟩).run Tryd.prog w6 = .ok (.agg #[.int .i64 kind, .int .i64 0, .slice none 0 0, .slice (some ⟨g', 0, none⟩) m' cap']) w6 ∧ (storeVar 29 ⟨w.heap.size + 1 + 1, 0, none⟩ (.agg #[.int .i64 kind, .int .i64 0, .slice none 0 0, .slice (some ⟨g', 0, none⟩) m' cap'])).run Tryd.prog w6 = .ok () w7 ∧ w7.heap[w.heap.size + 1 + 1]? = some (.cells #[.int .i64 kind, .int .i64 0, .slice none 0 0, .slice (some ⟨g', 0, none⟩) m' cap'] 29 (0, 0)) ∧ PutR w base (n + 2) f1 f2 (jnT kind a b) (.returned (.agg #[.int .i64 kind, .int .i64 0, .slice none 0 0, .slice (some ⟨g', 0, none⟩) m' cap'])) w7) := by
      rintro g' m' cap' w6 ⟨⟨F', hN, hn', hF'⟩, gb, k2', k3'⟩
      have gs := gb_row w6 (w.heap.size + 1 + 1) #[.int .i64 kind, .int .i64 0, .slice none 0 0, .slice (some ⟨g', 0, none⟩) m' cap']
      refine ⟨_, load_all k3' _ _ Tryd.underlying29 rfl (by kernel_rfl), store_all k2' _ _ rfl (by kernel_rfl) (by simp [Value.oneCell']), row_set k2' _, kind, 0, none, 0, 0, some ⟨g', 0, none⟩, m', cap', F', rfl, NetOwn.move gs (n + 2) (n + 2) (Nat.le_refl _) F' _ _ (fun x hx e => ?_) hN, hn', fun x hx => ?_, below_setRow gb (by omega) _⟩
      · simp at e
        rcases hF' x hx with h | h | h
        · have := HLt.out.1 x h; omega
        · have := HLt.out.2 x h; omega
        · omega
      · rcases hF' x hx with h | h | h
        · exact .inl h
        · exact .inr (.inl h)
        · exact .inr (.inr (by omega))
    clear hm hR hF hFm hg gc r1c r2c r3c hcut H2
    by_cases e : k2 = kind
    · have i1 : (k2 == kind) = true := by rw [e]; simp
      obtain ⟨g', cap', w5, hr, hP, ⟨x5, c5⟩, fz⟩ := HH.1 e
      obtain ⟨w7, l7, s7, k7, hP7⟩ := HM.out _ _ _ _ hP
      have HP : Hid (PutR w base (n + 2) f1 f2 (jnT kind a b) (.returned (.agg #[.int .i64 kind, .int .i64 0, .slice none 0 0, .slice (some ⟨g', 0, none⟩) (m + ql2) cap'])) w7) := hP7
      have HR : Hid (∀ ty, (Builtin.append_ #[27, 27] ty #[.slice (some ⟨g, 0, none⟩) m cap, .slice q2 ql2 qc2]).run Tryd.prog wc = .ok (.slice (some ⟨g', 0, none⟩) (m + ql2) cap') w5) := hr
      have HL7 : Hid ((loadVar 29 ⟨w.heap.size + 1 + 1 + 1, 0, none⟩).run Tryd.prog (w5.setCell ⟨w.heap.size + 1 + 1 + 1, 3, none⟩ (.slice (some ⟨g', 0, none⟩) (m + ql2) cap')) = .ok (.agg #[.int .i64 kind, .int .i64 0, .slice none 0 0, .slice (some ⟨g', 0, none⟩) (m + ql2) cap']) (w5.setCell ⟨w.heap.size + 1 + 1 + 1, 3, none⟩ (.slice (some ⟨g', 0, none⟩) (m + ql2) cap'))) := l7
      have HS7 : Hid ((storeVar 29 ⟨w.heap.size + 1 + 1, 0, none⟩ (.agg #[.int .i64 kind, .int .i64 0, .slice none 0 0, .slice (some ⟨g', 0, none⟩) (m + ql2) cap'])).run Tryd.prog (w5.setCell ⟨w.heap.size + 1 + 1 + 1, 3, none⟩ (.slice (some ⟨g', 0, none⟩) (m + ql2) cap')) = .ok () w7) := s7
      have HK7 : Hid (w7.heap[w.heap.size + 1 + 1]? = some (.cells #[.int .i64 kind, .int .i64 0, .slice none 0 0, .slice (some ⟨g', 0, none⟩) (m + ql2) cap'] 29 (0, 0))) := k7
      clear hr hP hP7 l7 s7 k7 HH HM e
      go_wp2_with (first | (refine wpL_load rfl 29 _ rfl _ _ rfl _ HL7.out ?_) | (refine wpL_store rfl 29 _ _ rfl _ _ rfl _ rfl _ HS7.out ?_) | (refine ret_row rfl rfl HK7.out Tryd.underlying29 rfl (by kernel_rfl) rfl ?_) | (at_builtin; refine wpList_app_run rfl _ _ 27 rfl _ _ rfl rfl _ _ HR.out ?_))
      exact HP.out
    · have i1 : (k2 == kind) = false := by simpa using e
      obtain ⟨g', cap', w5, hr, hP, ⟨x5, c5⟩, fz⟩ := HH.2 e
      obtain ⟨w7, l7, s7, k7, hP7⟩ := HM.out _ _ _ _ hP
      have HP : Hid (PutR w base (n + 2) f1 f2 (jnT kind a b) (.returned (.agg #[.int .i64 kind, .int .i64 0, .slice none 0 0, .slice (some ⟨g', 0, none⟩) (m + 1) cap'])) w7) := hP7
      have HR : Hid (∀ ty, (Builtin.append_ #[27, 27] ty #[.slice (some ⟨g, 0, none⟩) m cap, .slice (some ⟨wc.heap.size, 0, none⟩) 1 1]).run Tryd.prog (wc.alloc (.cells #[.int .i64 k2, .int .i64 o2, .slice p2 pl2 pc2, .slice q2 ql2 qc2] 29)) = .ok (.slice (some ⟨g', 0, none⟩) (m + 1) cap') w5) := hr
      have HL7 : Hid ((loadVar 29 ⟨w.heap.size + 1 + 1 + 1, 0, none⟩).run Tryd.prog (w5.setCell ⟨w.heap.size + 1 + 1 + 1, 3, none⟩ (.slice (some ⟨g', 0, none⟩) (m + 1) cap')) = .ok (.agg #[.int .i64 kind, .int .i64 0, .slice none 0 0, .slice (some ⟨g', 0, none⟩) (m + 1) cap']) (w5.setCell ⟨w.heap.size + 1 + 1 + 1, 3, none⟩ (.slice (some ⟨g', 0, none⟩) (m + 1) cap'))) := l7
      have HS7 : Hid ((storeVar 29 ⟨w.heap.size + 1 + 1, 0, none⟩ (.agg #[.int .i64 kind, .int .i64 0, .slice none 0 0, .slice (some ⟨g', 0, none⟩) (m + 1) cap'])).run Tryd.prog (w5.setCell ⟨w.heap.size + 1 + 1 + 1, 3, none⟩ (.slice (some ⟨g', 0, none⟩) (m + 1) cap')) = .ok () w7) := s7
      have HK7 : Hid (w7.heap[w.heap.size + 1 + 1]? = some (.cells #[.int .i64 kind, .int .i64 0, .slice none 0 0, .slice (some ⟨g', 0, none⟩) (m + 1) cap'] 29 (0, 0))) := k7
      clear hr hP hP7 l7 s7 k7 HH HM e
      go_wp2_with (first | (refine wpL_load rfl 29 _ rfl _ _ rfl _ HLb.out ?_) | (refine wpL_load rfl 29 _ rfl _ _ rfl _ HL7.out ?_) | (refine wpL_store rfl 29 _ _ rfl _ _ rfl _ rfl _ HS7.out ?_) | (refine ret_row rfl rfl HK7.out Tryd.underlying29 rfl (by kernel_rfl) rfl ?_) | (at_builtin; refine wpList_app_run rfl _ _ 27 rfl _ _ rfl rfl _ _ HR.out ?_))
      exact HP.out
end Go.Proofs.YtkppcmpdghnmgaaDoor
/- The specification's copies and l15Add; a stack that is a row. -/
namespace Go.Proofs.YtkppcmpdghnmgaaDoor
open Go.RowKit
set_option linter.unusedVariables false

section
variable {P : Program} {w : World}
/-- An append whose run is known, at a step of a region that draws. -/
theorem step_app_run {ops : Array Oper} {o : Oper} {a : Act} {K : Act → World → Prop} {Q : Exit → Act → World → Prop} {E : Prop} (hgd : o.guard = none) (s x : Operand) (t : TypeId)
    (ho : o.op = .call { callee := .builtin .append, args := #[s, x], argTypes := #[t, t] }) (v y : Value) (hs : a.eval s = v) (hx : a.eval x = y) (v' : Value) (w' : World)
    (hr : ∀ ty, (Builtin.append_ #[t, t] ty #[v, y]).run P w = .ok v' w') (h : K (a.put o.dst v') w') :
    if Region.wanted o (yielded ops a.tmps) = true then Oper.wp P o a w K Q else E := by
  have hw : Region.wanted o (yielded ops a.tmps) = true := by simp [Region.wanted, hgd]
  rw [if_pos hw]
  unfold Oper.wp execOp
  simp only [ho, resolve, invoke, builtin, Sem.run_bind, Sem.run_pure, Result.andThen_ok, List.map_toArray, List.map_cons, List.map_nil, hs, hx, hr]
  exact h
end

theorem avs_at {w : World} {lo : Nat} {a : Option Addr} {n cp : Nat} {xs : List ArgT} (h : RowIs w lo 3 ArgIs (.slice a n cp) xs) (h0 : 0 < xs.length) : ∃ b o, a = some ⟨b, o, none⟩ ∧ b < w.heap.size ∧ ∀ (j : Nat) (u : Value), (avs xs)[j]? = some u → w.cell? ⟨b, o + j, none⟩ = some u := by
  obtain ⟨a', cp', e, _, hx⟩ := h
  cases e
  obtain ⟨b, o, cs, rfl, _, _, hr, hR⟩ := hx 0 _ (List.getElem?_eq_getElem h0)
  have hR : cs = _ := hR
  refine ⟨b, o, rfl, World.block_lt_of_cell? _ _ (hr 0 _ (by rw [hR]; rfl)), ?_⟩
  have key : ∀ (ys : List ArgT) (k : Nat), (∀ i y, ys[i]? = some y → w.rangeAt b (o + (k + i) * 3) [.int .i64 y.1, .int .i64 y.2.1, .int .i64 y.2.2]) → ∀ (j : Nat) (u : Value), (avs ys)[j]? = some u → w.cell? ⟨b, o + k * 3 + j, none⟩ = some u := by
    intro ys
    induction ys with
    | nil => intro k _ j u hu; simp [avs] at hu
    | cons y ys ih =>
      intro k hk j u hu
      have hav : avs (y :: ys) = [.int .i64 y.1, .int .i64 y.2.1, .int .i64 y.2.2] ++ avs ys := rfl
      rw [hav] at hu
      by_cases hj : j < 3
      · rw [List.getElem?_append_left (by simpa using hj)] at hu
        have := hk 0 y rfl j u hu
        simpa using this
      · rw [List.getElem?_append_right (by simp; omega)] at hu
        have := ih (k + 1) (fun i y' hy => by have := hk (i + 1) y' hy; rwa [show k + (i + 1) = k + 1 + i by omega] at this) (j - 3) u (by simpa using hu)
        rwa [show o + (k + 1) * 3 + (j - 3) = o + k * 3 + j by omega] at this
  intro j u hu
  have := key xs 0 (fun i y hy => by
    obtain ⟨b', o', cs', e, _, _, hr', hR'⟩ := hx i y hy
    simp only [Option.some.injEq, Addr.mk.injEq] at e
    obtain ⟨rfl, rfl, _⟩ := e
    have hR' : cs' = _ := hR'
    rw [hR'] at hr'
    simpa using hr') j u hu
  simpa using this

/-- The operands behind an empty row of one's own. -/
theorem app_args (W : World) (base lo : Nat) (ua : Option Addr) (ul uc : Nat) (xs : List ArgT) (hul : ul = xs.length) (hbig : ul ≤ 1048576) (hb : base ≤ W.heap.size) (hv : ArgsIs W lo (.slice ua ul uc) xs) :
    ∃ (g cap : Nat) (w' : World), (∀ ty, (Builtin.append_ #[24, 24] ty #[.slice (some ⟨W.heap.size, 0, none⟩) 0 0, .slice ua ul uc]).run Tryd.prog (W.alloc (.cells #[] 83)) = .ok (.slice (some ⟨g, 0, none⟩) ul cap) w') ∧ w'.ownsRow base 83 3 (.slice (some ⟨g, 0, none⟩) ul cap) ul (avs xs) ∧ (W.alloc (.cells #[] 83)).grownBy w' (some W.heap.size) ∧ W.heap.size ≤ g := by
  have hinfo : (Tryd.prog.info? 83).map (fun i => (i.zero, i.size, i.bytes)) = some (some (.agg #[.int .i64 0, .int .i64 0, .int .i64 0]), 3, 24) := by kernel_rfl
  obtain ⟨ti, hi, hzz⟩ := Option.map_eq_some_iff.1 hinfo
  simp only [Prod.mk.injEq] at hzz
  obtain ⟨hz0, hz1, hz2⟩ := hzz
  have own0 : (W.alloc (.cells #[] 83)).ownsRow base 83 3 (.slice (some ⟨W.heap.size, 0, none⟩) 0 0) 0 [] := World.ownsRow_made (base := base) (e := 83) (size := 3) W #[] 0 hb (by unfold maxLen; omega) rfl
  by_cases h0 : 0 < xs.length
  · obtain ⟨b, o, rfl, hbl, hc⟩ := avs_at hv h0
    have hav := avs_len xs
    have hrun := fun ty => run_append_lies (P := Tryd.prog) (W.alloc (.cells #[] 83)) 24 ty base 83 ti (.agg #[.int .i64 0, .int .i64 0, .int .i64 0]) 3 24 Tryd.underlying24 hi hz0 hz1 hz2 rfl (by decide) (.slice (some ⟨W.heap.size, 0, none⟩) 0 0) 0 [] own0 ⟨b, o, none⟩ ul uc (avs xs) (by rw [hav, hul]) (fun j u hu => by
      rw [show (⟨b, o, none⟩ : Addr).add j = ⟨b, o + j, none⟩ from Addr.add_mid b o j]
      exact (Keeps.of_below ((Below.refl _ _).alloc (Nat.le_refl _) _) 0) _ _ _ (Nat.zero_le _) (hc j u hu)) (avs_one xs) (by omega) (by unfold maxLen; omega) (by omega) (by simp; omega) _ rfl
    obtain ⟨g, cap, w', hr, own, gg, hat, hlt⟩ := hrun 24
    refine ⟨g, cap, w', fun ty => ?_, by simpa using own, gg, ?_⟩
    · have : (Builtin.append_ #[24, 24] ty #[.slice (some ⟨W.heap.size, 0, none⟩) 0 0, .slice (some ⟨b, o, none⟩) ul uc]).run Tryd.prog (W.alloc (.cells #[] 83)) = (Builtin.append_ #[24, 24] 24 #[.slice (some ⟨W.heap.size, 0, none⟩) 0 0, .slice (some ⟨b, o, none⟩) ul uc]).run Tryd.prog (W.alloc (.cells #[] 83)) := by simp only [Builtin.append_]
      rw [this, hr]
      simp
    · rcases hat with h | h
      · simp [Value.ownBlock] at h; omega
      · simp at h; omega
  · have hx0 : xs = [] := List.length_eq_zero_iff.1 (by omega)
    subst hx0
    have hul0 : ul = 0 := by simpa using hul
    subst hul0
    refine ⟨W.heap.size, 0, W.alloc (.cells #[] 83), fun ty => ?_, by simpa [avs] using own0, ⟨rfl, rfl, rfl, Nat.le_refl _, fun _ _ _ => rfl⟩, Nat.le_refl _⟩
    cases ua with
    | none => simp [Builtin.append_, run_underlying Tryd.underlying24, sizeOf, typeInfo, hi, Builtin.lenOf, Builtin.firstCells, storeCells]
    | some ad => simp [Builtin.append_, run_underlying Tryd.underlying24, sizeOf, typeInfo, hi, Builtin.lenOf, Builtin.firstCells, loadCells, loadCellsFrom, storeCells]

set_option maxRecDepth 10000 in
set_option maxHeartbeats 4000000 in
theorem scopy_s (op : Int) (ua : Option Addr) (ul uc lo : Nat) (xs : List ArgT) (hul : ul = xs.length) (w : World) (hv : ArgsIs w lo (.slice ua ul uc) xs) (hbig : xs.length ≤ 1048576) :
    Calls Tryd.prog 34 #[.agg #[.int .i64 op, .slice ua ul uc]] w fun e w' => ∃ (a : Option Addr) (cp : Nat), e = .returned (.agg #[.int .i64 op, .slice a ul cp]) ∧ ArgsOwn w' w.heap.size (Value.slice a ul cp).ownBlock.toList (.slice a ul cp) xs ∧ Below w.heap.size w w' := by
  have Hul : Hid (ul = xs.length) := hul
  have Hbg : Hid (xs.length ≤ 1048576) := hbig
  clear hul hbig
  have b0 : Below w.heap.size w ((w.alloc (.cells #[.int .i64 op, .slice ua ul uc] 26)).alloc (.cells #[.int .i64 0, .slice none 0 0] 26)) := two_below' _ _
  obtain ⟨r1, r2⟩ := rows2 w (.cells #[.int .i64 op, .slice ua ul uc] 26) (.cells #[.int .i64 0, .slice none 0 0] 26)
  have hz : ((w.alloc (.cells #[.int .i64 op, .slice ua ul uc] 26)).alloc (.cells #[.int .i64 0, .slice none 0 0] 26)).heap.size = w.heap.size + 2 := by simp
  go_enter Tryd.func34, Tryd.ntmps34
  go_wp2
  generalize ((w.alloc (.cells #[.int .i64 op, .slice ua ul uc] 26)).alloc (.cells #[.int .i64 0, .slice none 0 0] 26)) = W0 at b0 r1 r2 hz ⊢
  have c0 : W0.cell? ⟨w.heap.size, 0, none⟩ = some (.int .i64 op) := (cell_of_row _ _ _ _ _ _ r1).trans rfl
  have c1 : W0.cell? ⟨w.heap.size, 1, none⟩ = some (.slice ua ul uc) := (cell_of_row _ _ _ _ _ _ r1).trans rfl
  have hgd : Below W0.heap.size W0 W0.drew := (Below.refl _ _).drew
  obtain ⟨g3, cap3, w3, hr3, own3, gg3, hg3⟩ := app_args W0.drew W0.heap.size lo ua ul uc xs Hul.out (by have := Hul.out; have := Hbg.out; omega) (Nat.le_refl _) (argsIs_move (Keeps.of_below (b0.trans (hgd.mono b0.size)) lo) (Nat.le_refl _) hv)
  have hsd : W0.drew.heap.size = W0.heap.size := rfl
  rw [hsd] at hr3 gg3 hg3
  have G3 : Below W0.heap.size W0 w3 := (hgd.alloc (Nat.le_refl _) (.cells #[] 83)).grown gg3 (by simp [hsd]) (fun j hj => by simp at hj; omega)
  obtain ⟨kr, d0, d1, f0, f1⟩ := two_free G3 r2
  obtain ⟨_, e0, e1, _, _⟩ := two_free G3 r1
  have HR : Hid (((w3.setCell ⟨w.heap.size + 1, 0, none⟩ (.int .i64 op)).setCell ⟨w.heap.size + 1, 1, none⟩ (.slice (some ⟨g3, 0, none⟩) ul cap3)).heap[w.heap.size + 1]? = some (.cells #[.int .i64 op, .slice (some ⟨g3, 0, none⟩) ul cap3] 26 (0, 0))) := row_put (row_put kr 0 _) 1 _
  have HF : Hid (ArgsOwn ((w3.setCell ⟨w.heap.size + 1, 0, none⟩ (.int .i64 op)).setCell ⟨w.heap.size + 1, 1, none⟩ (.slice (some ⟨g3, 0, none⟩) ul cap3)) w.heap.size (Value.slice (some ⟨g3, 0, none⟩) ul cap3).ownBlock.toList (.slice (some ⟨g3, 0, none⟩) ul cap3) xs ∧ Below w.heap.size w ((w3.setCell ⟨w.heap.size + 1, 0, none⟩ (.int .i64 op)).setCell ⟨w.heap.size + 1, 1, none⟩ (.slice (some ⟨g3, 0, none⟩) ul cap3))) := by
    have hlt : w.heap.size + 1 < W0.heap.size := by omega
    refine ⟨args_of (by rw [← Hul.out]; exact own_base (ownsRow_setCell_below (a := ⟨w.heap.size + 1, 1, none⟩) (ownsRow_setCell_below (a := ⟨w.heap.size + 1, 0, none⟩) own3 hlt _) hlt _) (by omega)), ?_⟩
    exact ((b0.trans (G3.mono b0.size)).setCell (p := ⟨w.heap.size + 1, 0, none⟩) (Nat.le_succ _) _).setCell (p := ⟨w.heap.size + 1, 1, none⟩) (Nat.le_succ _) _
  clear own3 gg3 hg3 G3 hgd hsd hv b0 r1 r2 kr hz
  go_region_held3 (fun w' => w'.cell? ⟨w.heap.size, 0, none⟩ = some (.int .i64 op) ∧ w'.cell? ⟨w.heap.size, 1, none⟩ = some (.slice ua ul uc))
    (first | go_keep | exact ⟨c0, c1⟩ | exact ⟨e0, e1⟩ | (simpa using ⟨e0, e1⟩))
    (first
      | (refine step_app_run (by rfl) (.tmp 5) (.tmp 7) 24 (by rfl) _ _ (by rfl) (by rfl) _ w3 hr3 ?_)
      | fail)
  obtain ⟨WF, HWF⟩ : ∃ W, Hid (W = (w3.setCell ⟨w.heap.size + 1, 0, none⟩ (.int .i64 op)).setCell ⟨w.heap.size + 1, 1, none⟩ (.slice (some ⟨g3, 0, none⟩) ul cap3)) := ⟨_, rfl⟩
  rw [← HWF.out] at HR HF ⊢
  clear HWF d0 d1 f0 f1 e0 e1 c0 c1 hr3
  go_wp2_with (first | (refine ret_row rfl rfl HR.out Tryd.underlying26 rfl (by kernel_rfl) rfl ?_) | fail)
  exact ⟨_, cap3, rfl, HF.out.1, HF.out.2⟩

set_option maxRecDepth 10000 in
set_option maxHeartbeats 4000000 in
theorem sadd_s (base n : Nat) (kind : Int) (k1 o1 : Int) (p1 : Option Addr) (pl1 pc1 : Nat) (q1 : Option Addr) (ql1 qc1 : Nat) (k2 o2 : Int) (p2 : Option Addr) (pl2 pc2 : Nat) (q2 : Option Addr) (ql2 qc2 : Nat) (a b : NetT) (f1 f2 : List Nat) (w : World) (hk : kind = 2 ∨ kind = 3)
    (hA : NetOwn w base (n + 1) f1 a [.int .i64 k1, .int .i64 o1, .slice p1 pl1 pc1, .slice q1 ql1 qc1]) (hB : NetOwn w base (n + 1) f2 b [.int .i64 k2, .int .i64 o2, .slice p2 pl2 pc2, .slice q2 ql2 qc2]) (hOa : OkN a) (hOb : OkN b) (hd : (f1 ++ f2).Nodup) (hbig : (opn kind a).length ≤ 400000 ∧ (opn kind b).length ≤ 400000) (hb : base ≤ w.heap.size) :
    Calls Tryd.prog 35 #[.int .i64 kind, .agg #[.int .i64 k1, .int .i64 o1, .slice p1 pl1 pc1, .slice q1 ql1 qc1], .agg #[.int .i64 k2, .int .i64 o2, .slice p2 pl2 pc2, .slice q2 ql2 qc2]] w fun e w' => PutR w base (n + 2) f1 f2 (adT kind a b) e w' := by
  have hl1 : ∀ x ∈ f1, x < w.heap.size := fun x hx => (NetOwn.lt _ _ _ _ hA x hx).2
  have hl2 : ∀ x ∈ f2, x < w.heap.size := fun x hx => (NetOwn.lt _ _ _ _ hB x hx).2
  obtain ⟨r0, r1, r2⟩ := rows3 w (.cells #[.int .i64 k1, .int .i64 o1, .slice p1 pl1 pc1, .slice q1 ql1 qc1] 29) (.cells #[.int .i64 k2, .int .i64 o2, .slice p2 pl2 pc2, .slice q2 ql2 qc2] 29) (.cells #[.int .i64 0, .int .i64 0, .slice none 0 0, .slice none 0 0] 29)
  have b3 : Below w.heap.size w (((w.alloc (.cells #[.int .i64 k1, .int .i64 o1, .slice p1 pl1 pc1, .slice q1 ql1 qc1] 29)).alloc (.cells #[.int .i64 k2, .int .i64 o2, .slice p2 pl2 pc2, .slice q2 ql2 qc2] 29)).alloc (.cells #[.int .i64 0, .int .i64 0, .slice none 0 0, .slice none 0 0] 29)) := ((Below.refl _ _).alloc (Nat.le_refl _) _).alloc (by simp) _ |>.alloc (by simp; omega) _
  have s3 : (((w.alloc (.cells #[.int .i64 k1, .int .i64 o1, .slice p1 pl1 pc1, .slice q1 ql1 qc1] 29)).alloc (.cells #[.int .i64 k2, .int .i64 o2, .slice p2 pl2 pc2, .slice q2 ql2 qc2] 29)).alloc (.cells #[.int .i64 0, .int .i64 0, .slice none 0 0, .slice none 0 0] 29)).heap.size = w.heap.size + 3 := by simp
  have ck1 : k1 = nkd a := by obtain ⟨_, _, _, _, _, _, _, e, _⟩ := hA.cells; simp at e; exact e.1
  have HL0 : Hid ((loadVar 29 ⟨w.heap.size, 0, none⟩).run Tryd.prog (((w.alloc (.cells #[.int .i64 k1, .int .i64 o1, .slice p1 pl1 pc1, .slice q1 ql1 qc1] 29)).alloc (.cells #[.int .i64 k2, .int .i64 o2, .slice p2 pl2 pc2, .slice q2 ql2 qc2] 29)).alloc (.cells #[.int .i64 0, .int .i64 0, .slice none 0 0, .slice none 0 0] 29)) = .ok (.agg #[.int .i64 k1, .int .i64 o1, .slice p1 pl1 pc1, .slice q1 ql1 qc1]) (((w.alloc (.cells #[.int .i64 k1, .int .i64 o1, .slice p1 pl1 pc1, .slice q1 ql1 qc1] 29)).alloc (.cells #[.int .i64 k2, .int .i64 o2, .slice p2 pl2 pc2, .slice q2 ql2 qc2] 29)).alloc (.cells #[.int .i64 0, .int .i64 0, .slice none 0 0, .slice none 0 0] 29))) := load_all r0 _ _ Tryd.underlying29 rfl (by kernel_rfl)
  have HL1 : Hid ((loadVar 29 ⟨w.heap.size + 1, 0, none⟩).run Tryd.prog (((w.alloc (.cells #[.int .i64 k1, .int .i64 o1, .slice p1 pl1 pc1, .slice q1 ql1 qc1] 29)).alloc (.cells #[.int .i64 k2, .int .i64 o2, .slice p2 pl2 pc2, .slice q2 ql2 qc2] 29)).alloc (.cells #[.int .i64 0, .int .i64 0, .slice none 0 0, .slice none 0 0] 29)) = .ok (.agg #[.int .i64 k2, .int .i64 o2, .slice p2 pl2 pc2, .slice q2 ql2 qc2]) (((w.alloc (.cells #[.int .i64 k1, .int .i64 o1, .slice p1 pl1 pc1, .slice q1 ql1 qc1] 29)).alloc (.cells #[.int .i64 k2, .int .i64 o2, .slice p2 pl2 pc2, .slice q2 ql2 qc2] 29)).alloc (.cells #[.int .i64 0, .int .i64 0, .slice none 0 0, .slice none 0 0] 29))) := load_all r1 _ _ Tryd.underlying29 rfl (by kernel_rfl)
  by_cases e : k1 = 0
  · have i1 : (k1 == 0) = true := by rw [e]; rfl
    obtain ⟨W4, HW4⟩ : ∃ W, Hid (W = (((w.alloc (.cells #[.int .i64 k1, .int .i64 o1, .slice p1 pl1 pc1, .slice q1 ql1 qc1] 29)).alloc (.cells #[.int .i64 k2, .int .i64 o2, .slice p2 pl2 pc2, .slice q2 ql2 qc2] 29)).alloc (.cells #[.int .i64 0, .int .i64 0, .slice none 0 0, .slice none 0 0] 29)).setRow (w.heap.size + 1 + 1) #[.int .i64 k2, .int .i64 o2, .slice p2 pl2 pc2, .slice q2 ql2 qc2]) := ⟨_, rfl⟩
    have HS4 : Hid ((storeVar 29 ⟨w.heap.size + 1 + 1, 0, none⟩ (.agg #[.int .i64 k2, .int .i64 o2, .slice p2 pl2 pc2, .slice q2 ql2 qc2])).run Tryd.prog (((w.alloc (.cells #[.int .i64 k1, .int .i64 o1, .slice p1 pl1 pc1, .slice q1 ql1 qc1] 29)).alloc (.cells #[.int .i64 k2, .int .i64 o2, .slice p2 pl2 pc2, .slice q2 ql2 qc2] 29)).alloc (.cells #[.int .i64 0, .int .i64 0, .slice none 0 0, .slice none 0 0] 29)) = .ok () W4) := by
      show (storeVar 29 ⟨w.heap.size + 1 + 1, 0, none⟩ (.agg #[.int .i64 k2, .int .i64 o2, .slice p2 pl2 pc2, .slice q2 ql2 qc2])).run Tryd.prog (((w.alloc (.cells #[.int .i64 k1, .int .i64 o1, .slice p1 pl1 pc1, .slice q1 ql1 qc1] 29)).alloc (.cells #[.int .i64 k2, .int .i64 o2, .slice p2 pl2 pc2, .slice q2 ql2 qc2] 29)).alloc (.cells #[.int .i64 0, .int .i64 0, .slice none 0 0, .slice none 0 0] 29)) = .ok () W4
      rw [HW4.out]; exact store_all r2 _ _ rfl (by kernel_rfl) (by simp [Value.oneCell'])
    have HK4 : Hid (W4.heap[w.heap.size + 1 + 1]? = some (.cells #[.int .i64 k2, .int .i64 o2, .slice p2 pl2 pc2, .slice q2 ql2 qc2] 29 (0, 0))) := by
      show W4.heap[w.heap.size + 1 + 1]? = _
      rw [HW4.out]; exact row_set r2 _
    have HF : Hid (PutR w base (n + 2) f1 f2 (adT kind a b) (.returned (.agg #[.int .i64 k2, .int .i64 o2, .slice p2 pl2 pc2, .slice q2 ql2 qc2])) W4) := by
      have ha : adT kind a b = b := by unfold adT; rw [if_pos (by rw [← ck1]; exact e)]
      show PutR w base (n + 2) f1 f2 (adT kind a b) (.returned (.agg #[.int .i64 k2, .int .i64 o2, .slice p2 pl2 pc2, .slice q2 ql2 qc2])) W4
      rw [ha, HW4.out]
      have g4 : Below w.heap.size w ((((w.alloc (.cells #[.int .i64 k1, .int .i64 o1, .slice p1 pl1 pc1, .slice q1 ql1 qc1] 29)).alloc (.cells #[.int .i64 k2, .int .i64 o2, .slice p2 pl2 pc2, .slice q2 ql2 qc2] 29)).alloc (.cells #[.int .i64 0, .int .i64 0, .slice none 0 0, .slice none 0 0] 29)).setRow (w.heap.size + 1 + 1) #[.int .i64 k2, .int .i64 o2, .slice p2 pl2 pc2, .slice q2 ql2 qc2]) := below_setRow b3 (by omega) _
      exact ⟨k2, o2, p2, pl2, pc2, q2, ql2, qc2, f2, rfl, hB.later (Nat.le_succ _) g4, (List.nodup_append.1 hd).2.1, fun x hx => .inr (.inl hx), g4⟩
    clear e hA hB hOa hOb hd hbig hb hk hl1 hl2 r0 r1 r2 b3 s3 ck1 HW4 HL0
    go_enter Tryd.func35, Tryd.ntmps35
    go_wp2_with (first | (refine wpL_load rfl 29 _ rfl _ _ rfl _ HL1.out ?_) | (refine wpL_store rfl 29 _ _ rfl _ _ rfl _ rfl _ HS4.out ?_) | (refine ret_row rfl rfl HK4.out Tryd.underlying29 rfl (by kernel_rfl) rfl ?_) | fail)
    exact HF.out
  · have i1 : (k1 == 0) = false := by simpa using e
    have ha : adT kind a b = jnT kind a b := by unfold adT; rw [if_neg (by rw [← ck1]; exact e)]
    have HC : Hid (Calls Tryd.prog 56 #[.int .i64 kind, .agg #[.int .i64 k1, .int .i64 o1, .slice p1 pl1 pc1, .slice q1 ql1 qc1], .agg #[.int .i64 k2, .int .i64 o2, .slice p2 pl2 pc2, .slice q2 ql2 qc2]] (((w.alloc (.cells #[.int .i64 k1, .int .i64 o1, .slice p1 pl1 pc1, .slice q1 ql1 qc1] 29)).alloc (.cells #[.int .i64 k2, .int .i64 o2, .slice p2 pl2 pc2, .slice q2 ql2 qc2] 29)).alloc (.cells #[.int .i64 0, .int .i64 0, .slice none 0 0, .slice none 0 0] 29)) fun e w' => ∃ (k op : Int) (a1 : Option Addr) (l1 c1 : Nat) (a2 : Option Addr) (l2 c2 : Nat) (w7 : World), e = .returned (.agg #[.int .i64 k, .int .i64 op, .slice a1 l1 c1, .slice a2 l2 c2]) ∧ (storeVar 29 ⟨w.heap.size + 1 + 1, 0, none⟩ (.agg #[.int .i64 k, .int .i64 op, .slice a1 l1 c1, .slice a2 l2 c2])).run Tryd.prog w' = .ok () w7 ∧ w7.heap[w.heap.size + 1 + 1]? = some (.cells #[.int .i64 k, .int .i64 op, .slice a1 l1 c1, .slice a2 l2 c2] 29 (0, 0)) ∧ PutR w base (n + 2) f1 f2 (adT kind a b) (.returned (.agg #[.int .i64 k, .int .i64 op, .slice a1 l1 c1, .slice a2 l2 c2])) w7) := by
      refine (sput_s base n kind k1 o1 p1 pl1 pc1 q1 ql1 qc1 k2 o2 p2 pl2 pc2 q2 ql2 qc2 a b f1 f2 _ hk (hA.later (Nat.le_refl _) b3) (hB.later (Nat.le_refl _) b3) hOa hOb hd hbig (by omega)).mono ?_
      rintro e w' ⟨k, op, a1, l1, c1, a2, l2, c2, F', rfl, hN, hn', hF', g'⟩
      have kr : w'.heap[w.heap.size + 1 + 1]? = some (.cells #[.int .i64 0, .int .i64 0, .slice none 0 0, .slice none 0 0] 29 (0, 0)) := (g'.block _ (by omega)).trans r2
      have gs := gb_row w' (w.heap.size + 1 + 1) #[.int .i64 k, .int .i64 op, .slice a1 l1 c1, .slice a2 l2 c2]
      refine ⟨k, op, a1, l1, c1, a2, l2, c2, _, rfl, store_all kr _ _ rfl (by kernel_rfl) (by simp [Value.oneCell']), row_set kr _, k, op, a1, l1, c1, a2, l2, c2, F', rfl, ?_, hn', fun x hx => ?_, below_setRow (b3.trans (g'.mono (by omega))) (by omega) _⟩
      · rw [ha]
        exact NetOwn.move gs (n + 2) (n + 2) (Nat.le_refl _) F' _ _ (fun x hx e => by
          simp at e
          rcases hF' x hx with h | h | h
          · have := hl1 x h; omega
          · have := hl2 x h; omega
          · omega) hN
      · rcases hF' x hx with h | h | h
        · exact .inl h
        · exact .inr (.inl h)
        · exact .inr (.inr (by omega))
    clear e hA hB hOa hOb hd hbig hb hk hl1 hl2 r0 r1 r2 b3 s3 ck1 ha
    go_enter Tryd.func35, Tryd.ntmps35
    go_wp2_with (first | (refine wpL_load rfl 29 _ rfl _ _ rfl _ HL0.out ?_) | (refine wpL_load rfl 29 _ rfl _ _ rfl _ HL1.out ?_) | fail)
    refine HC.out.mono ?_
    rintro e w' ⟨k, op, a1, l1, c1, a2, l2, c2, w7, rfl, hs7, hk7, hP7⟩
    have HS7 : Hid ((storeVar 29 ⟨w.heap.size + 1 + 1, 0, none⟩ (.agg #[.int .i64 k, .int .i64 op, .slice a1 l1 c1, .slice a2 l2 c2])).run Tryd.prog w' = .ok () w7) := hs7
    have HK7 : Hid (w7.heap[w.heap.size + 1 + 1]? = some (.cells #[.int .i64 k, .int .i64 op, .slice a1 l1 c1, .slice a2 l2 c2] 29 (0, 0))) := hk7
    have HP7 : Hid (PutR w base (n + 2) f1 f2 (adT kind a b) (.returned (.agg #[.int .i64 k, .int .i64 op, .slice a1 l1 c1, .slice a2 l2 c2])) w7) := hP7
    clear hs7 hk7 hP7 HC
    go_wp2_with (first | (refine wpL_store rfl 29 _ _ rfl _ _ rfl _ rfl _ HS7.out ?_) | (refine ret_row rfl rfl HK7.out Tryd.underlying29 rfl (by kernel_rfl) rfl ?_) | fail)
    exact HP7.out

theorem Each.last {α : Type} {R : List Nat → α → List Value → Prop} {z : Nat} {F : List Nat} {zs : List α} {cs : List Value} (h : Each R z F zs cs) {xs : List α} {y : α} (e : zs = xs ++ [y]) : ∃ F1 f c1 c, F = F1 ++ f ∧ cs = c1 ++ c ∧ Each R z F1 xs c1 ∧ c.length = z ∧ R f y c := by
  cases h with
  | nil => simp at e
  | @add F xs' cs f x c h hc hr =>
    have := List.append_inj' e rfl
    obtain ⟨rfl, e2⟩ := this
    simp at e2
    subst e2
    exact ⟨F, f, cs, c, rfl, rfl, h, hc, hr⟩
end Go.Proofs.YtkppcmpdghnmgaaDoor
