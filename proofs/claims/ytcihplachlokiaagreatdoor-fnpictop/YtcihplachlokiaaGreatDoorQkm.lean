/- PicMake of the program. -/
import Derived.Test.YtcihplachlokiaaGreatDoorQkkM
import Derived.Laws.CopyOwn
namespace Go.Proofs.YtcihplachlokiaaGreatDoor
open Go.RowKit Go.Shelf
set_option linter.unusedVariables false
set_option linter.unusedSimpArgs false

/-- The head of a row written over. -/
theorem own_over {W : World} {base g n c : Nat} {l m : List Nat} (h : OwL W base (.slice (some ⟨g, 0, none⟩) n c) l) (hn : n = l.length) (hm : m.length ≤ l.length) :
    ∃ cur : Array Value, W.heap[g]? = some (.cells cur 5 (0, 0)) ∧ m.length ≤ cur.size ∧ OwL (W.setRow g (cur.toList.take 0 ++ (cl m ++ cur.toList.drop (0 + (cl m).length))).toArray) base (.slice (some ⟨g, 0, none⟩) n c) (m ++ l.drop m.length) := by
  rcases h.2 with ⟨hv, _⟩ | ⟨g', cp, cur, hv, hb, hg, h1, h2, h3, h4⟩
  · cases hv
  · simp only [Value.slice.injEq, Option.some.injEq, Addr.mk.injEq] at hv
    obtain ⟨⟨rfl, _, _⟩, h5, rfl⟩ := hv
    have hlen : (m ++ l.drop m.length).length = l.length := by rw [List.length_append, List.length_drop]; omega
    refine ⟨cur, hg, by omega, ?_⟩
    unfold OwL
    rw [hlen]
    refine ⟨by rw [cl_len, hlen]; omega, .inr ⟨g, c, _, by rw [← hn], hb, setRow_heap W g _ _ _ _ hg, by omega, h2, ?_, ?_⟩⟩
    · simp only [List.size_toArray, List.length_append, List.length_take, List.length_drop, Array.length_toList, cl_len]
      omega
    · have e : cl l = cur.toList.take (l.length * 1) := h4.symm
      have e2 : cl (m ++ l.drop m.length) = cl m ++ (cl l).drop m.length := by rw [cl_app]; simp [cl, List.map_drop]
      rw [e2, e]
      simp only [List.take_zero, List.nil_append, Nat.zero_add, cl_len, List.toList_toArray]
      rw [List.take_append, cl_len, List.drop_take, List.take_of_length_le (by rw [cl_len]; omega)]

/-- The image beside the head that is being written. -/
def Tw (w : World) (hv : Value) (hl : List Nat) (iv : Value) (il : List Nat) (W : World) : Prop :=
  St1 w iv il W ∧ OwL W w.heap.size hv hl ∧ hv.ownBlock ≠ some w.heap.size ∧ ∃ gi, iv.ownBlock = some gi ∧ hv.ownBlock ≠ some gi
theorem Tw.gr {w W W' : World} {hv hv' iv : Value} {hl hl' il : List Nat} (h : Tw w hv hl iv il W) (g : Gr W hv W' hv') (ho : OwL W' w.heap.size hv' hl') : Tw w hv' hl' iv il W' := by
  obtain ⟨h1, h2, h3, gi, h4, h5⟩ := h
  have hlt := (h1.1.own gi h4).2
  have hB := h1.2.1.lt
  refine ⟨⟨World.ownsRow.kept (row := hv.ownBlock) h1.1 g.1 (.inr (by rw [h4]; exact fun e => h5 e.symm)), ⟨(g.1.block _ hB (fun e => h3 e.symm)).trans h1.2.1.1, h1.2.1.2⟩, h1.2.2.1.trans (g.below h1.2.2.2 (fun x hx => (h2.own x hx).1)), Nat.le_trans h1.2.2.2 g.1.size⟩, ho, fun e => ?_, gi, h4, fun e => ?_⟩
  · rcases g.2 _ e with h | h
    · exact h3 h
    · omega
  · rcases g.2 _ e with h | h
    · exact h5 h
    · omega
theorem infoU8s : (Tryz.prog.info? 5).map (·.size) = some 1 := by kernel_rfl
theorem St1.over {w W : World} {g n c : Nat} {il : List Nat} {D : Array Value} {l : List Nat} (h : St1 w (.slice (some ⟨g, 0, none⟩) n c) il W) (ho : OwL (W.setRow g D) w.heap.size (.slice (some ⟨g, 0, none⟩) n c) l) : St1 w (.slice (some ⟨g, 0, none⟩) n c) l (W.setRow g D) := by
  have hg := h.1.own g rfl
  have hne : w.heap.size ≠ g := fun e => h.2.1.2 (by rw [e]; rfl)
  refine ⟨ho, ⟨(setRow_other W g _ D (by omega)).trans h.2.1.1, h.2.1.2⟩, below_setRow h.2.2.1 hg.1 D, by simpa [World.setRow] using h.2.2.2⟩
theorem nw_of {W : World} {b n c g : Nat} {l : List Nat} (h : OwL W b (.slice (some ⟨g, 0, none⟩) n c) l) : Nw W g l := fun j u hu => World.ownsRow.cells h rfl j u hu

set_option maxRecDepth 10000 in
set_option maxHeartbeats 8000000 in
theorem mk_i (a : Option Addr) (cap n : Nat) (xs : List InstT) (w : World) (hl : n = xs.length) (hm : n ≤ 1048576) (hx : SlI w a xs) :
    Calls Tryz.prog 5 #[.slice a n cap] w fun e w' => MkR xs w e w' := by
  obtain ⟨i0, hi, hz0, hz1, hz2⟩ := info_parts infoU8
  have HFl : Hid (∀ W, Below w.heap.size w W → Calls Tryz.prog 15 #[.slice a n cap] W fun e w' => e = .returned (.agg #[.int .i64 (pfT xs).1, .int .i64 ((pfT xs).2 : Nat)]) ∧ Below W.heap.size W w') := fun W g => flt_i a cap n xs W hl hm (hx.later g (Nat.le_refl _))
  have HX : Hid (SlI w a xs ∧ n = xs.length) := ⟨hx, hl⟩
  have K0 : Hid ((w.alloc (.cells #[.int .i64 0, .int .i64 0] 26)).heap[w.heap.size]? = some (.cells #[.int .i64 0, .int .i64 0] 26 (0, 0)) ∧ Below w.heap.size w (w.alloc (.cells #[.int .i64 0, .int .i64 0] 26)) ∧ (w.alloc (.cells #[.int .i64 0, .int .i64 0] 26)).heap.size = w.heap.size + 1) := ⟨heap_alloc_last _ _, (Below.refl _ _).alloc (Nat.le_refl _) _, by simp⟩
  obtain ⟨F1, HF1⟩ : ∃ F, Hid (F = (pfT xs).1) := ⟨_, rfl⟩
  obtain ⟨F2, HF2⟩ : ∃ F : Int, Hid (F = ((pfT xs).2 : Nat)) := ⟨_, rfl⟩
  obtain ⟨LL, HLL⟩ : ∃ LL, Hid (LL = if (pfT xs).1 = 0 then imgL xs else []) := ⟨_, rfl⟩
  unfold MkR
  rw [← HF1.out, ← HF2.out, show (if F1 = 0 then imgL xs else []) = LL by rw [HLL.out, HF1.out]]
  rw [← HF1.out, ← HF2.out] at HFl
  clear hl hm hx
  by_cases hF : F1 = 0
  · have HIn : Hid (∀ (v : Value) (l : List Nat) (c op : Int) (a : Option Addr) (len cap : Nat) (ys : List ArgT) W, w.heap.size ≤ W.heap.size → l.length ≤ 500000 → OwL W w.heap.size v l → len = ys.length → SlA W a ys → (∀ g s, ys ≠ [] → a = some ⟨g, s, none⟩ → v.ownBlock ≠ some g) → wrT ⟨c, ⟨op, ys⟩⟩ = 0 → Calls Tryz.prog 16 #[v, .agg #[.int .i64 c, .int .i64 op, .slice a len cap]] W fun e w' => ∃ v', e = .returned v' ∧ OwL w' w.heap.size v' (l ++ insL ⟨c, ⟨op, ys⟩⟩) ∧ Gr W v w' v') := fun v l c op a len cap ys W h1 h2 h3 h4 h5 h6 h7 => inst_i w.heap.size v l c op a len cap ys W h1 h2 h3 h4 (by have := (wr_zero h7).1; simp only [] at this; omega) h5 h6 (wr_zero h7).2
    have HN : Hid (∀ (v : Value) (l : List Nat) (n : Int) W, w.heap.size ≤ W.heap.size → l.length ≤ 1000000 → OwL W w.heap.size v l → Calls Tryz.prog 17 #[v, .int .i64 n, .int .i64 2] W fun e w' => ∃ v', e = .returned v' ∧ OwL w' w.heap.size v' (l ++ nbL n 2) ∧ Gr W v w' v') := fun v l n W h1 h2 h3 => num2_i w.heap.size v l n W h1 h2 h3
    have hmk : ∀ W : World, (Instr.makeSlice 22 (.int .i64 6) (.int .i64 6)).run Tryz.prog W = .ok (.slice (some ⟨W.heap.size, 0, none⟩) 6 6) (W.alloc (.cells (cl [0, 0, 0, 0, 0, 0]).toArray 5)) := fun W => by
      have := run_make_row' (P := Tryz.prog) 22 5 (.int .u8 0) 1 Tryz.underlying22 infoU8 rfl .i64 .i64 6 (by omega) (by omega) W
      rw [show madeCells #[Value.int .u8 0] 6 = (cl [0, 0, 0, 0, 0, 0]).toArray by first | kernel_rfl | (simp [madeCells, cl]; done) | (apply Array.ext_getElem?; intro j; rcases j with _ | _ | _ | _ | _ | _ | j <;> simp [madeCells, cl])] at this
      exact this
    have e0 : pfT xs = (0, 0) ∧ xs.length ≤ 1000 ∧ ∀ x ∈ xs, wrT x = 0 := by
      have h := HF1.out
      rw [hF] at h
      unfold pfT at h ⊢
      by_cases hb : 1000 < xs.length
      · rw [if_pos hb] at h; simp at h
      · rw [if_neg hb] at h ⊢
        exact ⟨fw_at xs 0 h.symm, by omega, fw_zero xs 0 h.symm⟩
    have HE : Hid (F2 = 0 ∧ LL = imgL xs) := (by
      rw [HF2.out, HLL.out, e0.1, if_pos rfl]; exact ⟨rfl, rfl⟩ : F2 = 0 ∧ LL = imgL xs)
    have HAll : Hid (∀ x ∈ xs, wrT x = 0) := e0.2.2
    have hn : n ≤ 1000 := by rw [HX.out.2]; exact e0.2.1
    clear e0 HF1 HF2 HLL
    subst hF
    go_enter Tryz.func5, Tryz.ntmps5
    go_upto_region 1 with fail
    generalize (w.alloc (.cells #[.int .i64 0, .int .i64 0] 26)) = W0 at K0 ⊢
    go_wp2_with fail
    refine (HFl.out _ K0.out.2.1).mono ?_
    rintro e w1 ⟨rfl, g1⟩
    have K1 : Hid (w1.heap[w.heap.size]? = some (.cells #[.int .i64 0, .int .i64 0] 26 (0, 0)) ∧ Below w.heap.size w w1 ∧ w.heap.size < w1.heap.size) := ⟨(g1.block _ (by have := K0.out.2.2; omega)).trans K0.out.1, K0.out.2.1.trans (g1.mono K0.out.2.1.size), by have := K0.out.2.2; have := g1.size; omega⟩
    clear g1 K0 HFl
    have gA : Below w1.heap.size w1 (w1.alloc (.cells #[.int .i64 0, .int .i64 F2] 26)) := (Below.refl _ _).alloc (Nat.le_refl _) _
    have K2 : Hid ((w1.alloc (.cells #[.int .i64 0, .int .i64 F2] 26)).heap[w.heap.size]? = some (.cells #[.int .i64 0, .int .i64 0] 26 (0, 0)) ∧ Below w.heap.size w (w1.alloc (.cells #[.int .i64 0, .int .i64 F2] 26)) ∧ w.heap.size < (w1.alloc (.cells #[.int .i64 0, .int .i64 F2] 26)).heap.size) := ⟨(gA.block _ K1.out.2.2).trans K1.out.1, K1.out.2.1.trans (gA.mono K1.out.2.1.size), by have := gA.size; have := K1.out.2.2; omega⟩
    clear gA K1
    go_upto_region 4 with fail
    generalize (w1.alloc (.cells #[.int .i64 0, .int .i64 F2] 26)) = W2 at K2 ⊢
    have S0 : Hid (St1 w (.slice (some ⟨W2.heap.size, 0, none⟩) 6 6) [0, 0, 0, 0, 0, 0] (W2.alloc (.cells (cl [0, 0, 0, 0, 0, 0]).toArray 5))) := by
      have hK := K2.out
      have gB : Below W2.heap.size W2 (W2.alloc (.cells (cl [0, 0, 0, 0, 0, 0]).toArray 5)) := (Below.refl _ _).alloc (Nat.le_refl _) _
      refine ⟨own_made W2 w.heap.size (by omega) [0, 0, 0, 0, 0, 0] (by simp), ⟨(gB.block _ (by omega)).trans hK.1, ?_⟩, hK.2.1.trans (gB.mono (by omega)), Nat.le_trans (by omega : w.heap.size ≤ W2.heap.size) gB.size⟩
      simp [Value.ownBlock]; omega
    obtain ⟨Z0, hZ0⟩ : ∃ Z, W2.heap.size = Z := ⟨_, rfl⟩
    rw [hZ0] at S0
    clear K2
    go_wp2
    generalize (W2.alloc (.cells (cl [0, 0, 0, 0, 0, 0]).toArray 5)) = W3 at S0 ⊢
    clear hZ0 hmk
    go_loopw [5, 7, 18] (fun vv _ i wr => ∃ k m : Nat, k ≤ n ∧ i = .int .i64 k ∧ Hid (m = 6 + (bodL (xs.take k)).length ∧ ∃ g cp : Nat, vv = .slice (some ⟨g, 0, none⟩) m cp ∧ St1 w (.slice (some ⟨g, 0, none⟩) m cp) ([0, 0, 0, 0, 0, 0] ++ bodL (xs.take k)) wr)) (fun _ _ i _ => n - (intOf i).toNat)
    case atStart => exact ⟨0, 6, Nat.zero_le _, rfl, rfl, Z0, 6, rfl, S0.out⟩
    case round =>
      clear S0
      obtain ⟨k, m, hk, rfl, HR0⟩ := hrel
      by_cases hlt : k < n
      · have ik : (k : Int) < (n : Int) := by omega
        obtain ⟨x, hxk⟩ : ∃ x, xs[k]? = some x := ⟨_, List.getElem?_eq_getElem (by have := HX.out.2; omega)⟩
        obtain ⟨g, cp, hu5, hS⟩ := HR0.out.2
        have hwz : wrT x = 0 := HAll.out x (List.mem_of_getElem? hxk)
        obtain ⟨b, o, a', c', rfl, hb, c0, c1, c2, hal, hsl⟩ := (HX.out.1.later hS.2.2.1 (Nat.le_refl _)) k x hxk
        obtain ⟨_, _, a2, c2', e1, hb2, _, _, c22, _, hsl2⟩ := HX.out.1 k x hxk
        have HBd : Hid (bodL (xs.take (k + 1)) = bodL (xs.take k) ++ insL x) := bodL_snoc xs k x hxk
        have HBl : Hid ((bodL (xs.take k)).length ≤ 20000) := (by
          have h1 := bodL_len (xs.take k) (fun y hy => HAll.out y (List.mem_of_mem_take hy))
          rw [List.length_take] at h1
          omega : (bodL (xs.take k)).length ≤ 20000)
        have ea : a' = a2 := by
          simp only [Option.some.injEq, Addr.mk.injEq] at e1
          obtain ⟨rfl, rfl, _⟩ := e1
          have h := (hS.2.2.1.cell (p := ⟨_, _, none⟩) hb2).trans c22
          rw [c2] at h
          simp only [Option.some.injEq, Value.slice.injEq] at h
          exact h.1
        have hdis : Hid (∀ gg s, x.one.args ≠ [] → a' = some ⟨gg, s, none⟩ → (Value.slice (some ⟨g, 0, none⟩) m cp).ownBlock ≠ some gg) := (fun gg s hne h e => by
          have hg := (hS.1.own gg e).1
          cases hxa : x.one.args with
          | nil => exact hne hxa
          | cons y ys =>
            obtain ⟨b3, o3, h3, h4, _⟩ := hsl2 0 y (by rw [hxa]; rfl)
            rw [← ea, h] at h3
            simp only [Option.some.injEq, Addr.mk.injEq] at h3
            omega : ∀ gg s, x.one.args ≠ [] → a' = some ⟨gg, s, none⟩ → (Value.slice (some ⟨g, 0, none⟩) m cp).ownBlock ≠ some gg)
        clear e1 hb2 c22 hsl2 ea
        obtain ⟨⟨xc, ⟨xo, xa⟩⟩, hx2⟩ : ∃ y : InstT, x = y := ⟨x, rfl⟩
        subst hx2
        simp only [] at c0 c1 c2 hal hsl
        obtain ⟨q, hq⟩ : ∃ m, xa.length = m := ⟨_, rfl⟩
        have HM : Hid (q = xa.length) := hq.symm
        rw [hq] at c2 hal
        have gB : Below wr.heap.size wr (wr.alloc (.cells #[.int .i64 xc, .int .i64 xo, .slice a' q c'] 44)) := (Below.refl _ _).alloc (Nat.le_refl _) _
        have S8 : Hid (St1 w (.slice (some ⟨g, 0, none⟩) m cp) ([0, 0, 0, 0, 0, 0] ++ bodL (xs.take k)) (wr.alloc (.cells #[.int .i64 xc, .int .i64 xo, .slice a' q c'] 44))) := hS.later gB
        have HC : Hid (Calls Tryz.prog 16 #[.slice (some ⟨g, 0, none⟩) m cp, .agg #[.int .i64 xc, .int .i64 xo, .slice a' q c']] (wr.alloc (.cells #[.int .i64 xc, .int .i64 xo, .slice a' q c'] 44)) fun e w' => ∃ v', e = .returned v' ∧ OwL w' w.heap.size v' (([0, 0, 0, 0, 0, 0] ++ bodL (xs.take k)) ++ insL ⟨xc, ⟨xo, xa⟩⟩) ∧ Gr (wr.alloc (.cells #[.int .i64 xc, .int .i64 xo, .slice a' q c'] 44)) (.slice (some ⟨g, 0, none⟩) m cp) w' v') :=
          HIn.out _ _ xc xo a' q c' xa _ S8.out.2.2.2 (by rw [List.length_append]; have := HBl.out; simp; omega) S8.out.1 HM.out (hsl.later gB (Nat.le_refl _)) hdis.out hwz
        have hz : 0 < (([0, 0, 0, 0, 0, 0] ++ bodL (xs.take k)) ++ insL ⟨xc, ⟨xo, xa⟩⟩).length := by simp
        clear hxk hsl hal hq hS gB hwz hb hdis
        subst hu5
        go_wp2_with fail
        refine HC.out.mono ?_
        rintro e w9 ⟨v9, rfl, o9, g9⟩
        obtain ⟨gn, cn, rfl, _, _, _⟩ := owL_news o9 hz
        have HNx : Hid ((([0, 0, 0, 0, 0, 0] ++ bodL (xs.take k)) ++ insL ⟨xc, ⟨xo, xa⟩⟩).length = 6 + (bodL (xs.take (k + 1))).length ∧ ∃ g2 cp2 : Nat, Value.slice (some ⟨gn, 0, none⟩) (([0, 0, 0, 0, 0, 0] ++ bodL (xs.take k)) ++ insL ⟨xc, ⟨xo, xa⟩⟩).length cn = .slice (some ⟨g2, 0, none⟩) (([0, 0, 0, 0, 0, 0] ++ bodL (xs.take k)) ++ insL ⟨xc, ⟨xo, xa⟩⟩).length cp2 ∧ St1 w (.slice (some ⟨g2, 0, none⟩) (([0, 0, 0, 0, 0, 0] ++ bodL (xs.take k)) ++ insL ⟨xc, ⟨xo, xa⟩⟩).length cp2) ([0, 0, 0, 0, 0, 0] ++ bodL (xs.take (k + 1))) w9) :=
          ⟨by rw [HBd.out, List.append_assoc, List.length_append]; rfl, gn, cn, rfl, by rw [HBd.out, ← List.append_assoc]; exact S8.out.gr g9 o9⟩
        generalize (([0, 0, 0, 0, 0, 0] ++ bodL (xs.take k)) ++ insL ⟨xc, ⟨xo, xa⟩⟩).length = m2 at HNx ⊢
        clear o9 g9 HC S8 HR0 HBd c0 c1 c2 hz
        go_wp2
        go_roundw
        case rel => exact ⟨k + 1, m2, by omega, by go_num, HNx⟩
        case measure => simp [intOf]; omega
      · have hkn : k = xs.length := by have := HX.out.2; omega
        obtain ⟨bd, Hbd⟩ : ∃ bd, Hid (bd = bodL xs) := ⟨_, rfl⟩
        obtain ⟨g, cp, hu5, hS⟩ := HR0.out.2
        have HS : Hid (m = 6 + bd.length ∧ m ≤ 20006 ∧ St1 w (.slice (some ⟨g, 0, none⟩) m cp) ([0, 0, 0, 0, 0, 0] ++ bd) wr) := by
          have h1 := HR0.out.1
          have h3 := bodL_len xs HAll.out
          rw [hkn, List.take_length] at h1 hS
          have := HX.out.2
          exact ⟨by rw [Hbd.out]; exact h1, by omega, by rw [Hbd.out]; exact hS⟩
        have ik : ¬ ((k : Int) < (n : Int)) := by omega
        clear HR0 hkn hS HIn
        subst hu5
        have T0 : Hid (Tw w (.slice (some ⟨wr.heap.size, 0, none⟩) 2 2) [83, 116] (.slice (some ⟨g, 0, none⟩) m cp) ([0, 0, 0, 0, 0, 0] ++ bd) (wr.alloc (.cells #[.int .u8 83, .int .u8 116] 5))) := by
          have hs := HS.out.2.2
          have gA : Below wr.heap.size wr (wr.alloc (.cells #[.int .u8 83, .int .u8 116] 5)) := (Below.refl _ _).alloc (Nat.le_refl _) _
          have hlt := hs.2.1.lt
          have hg := (hs.1.own g rfl).2
          refine ⟨hs.later gA, own_made wr w.heap.size hs.2.2.2 [83, 116] (by simp), ?_, g, rfl, ?_⟩
          · simp [Value.ownBlock]; omega
          · simp [Value.ownBlock]; omega
        obtain ⟨Zh, hZh⟩ : ∃ Z, wr.heap.size = Z := ⟨_, rfl⟩
        rw [hZh] at T0
        have hmb : m ≤ 20006 := HS.out.2.1
        have Hmb : Hid (m = 6 + bd.length) := HS.out.1
        clear HS
        go_wp2_with fail
        generalize (wr.alloc (.cells #[.int .u8 83, .int .u8 116] 5)) = V0 at T0 ⊢
        refine (HN.out _ [83, 116] ((m : Int) + 2) V0 T0.out.1.2.2.2 (by simp) T0.out.2.1).mono ?_
        rintro e v1 ⟨h1v, rfl, o1, g1⟩
        have T1 : Hid (Tw w h1v ([83, 116] ++ nbL ((m : Int) + 2) 2) (.slice (some ⟨g, 0, none⟩) m cp) ([0, 0, 0, 0, 0, 0] ++ bd) v1) := T0.out.gr g1 o1
        clear o1 g1 T0 hZh
        go_wp2_with fail
        refine (HN.out h1v _ (n : Int) v1 T1.out.1.2.2.2 (by rw [List.length_append, nbL_len]; simp) T1.out.2.1).mono ?_
        rintro e v2 ⟨h2v, rfl, o2, g2⟩
        have T2' := T1.out.gr g2 o2
        obtain ⟨hd, Hhd⟩ : ∃ hd : List Nat, Hid (hd = ([83, 116] ++ nbL ((m : Int) + 2) 2) ++ nbL (n : Int) 2) := ⟨([83, 116] ++ nbL ((m : Int) + 2) 2) ++ nbL (n : Int) 2, by show _ = _; rfl⟩
        rw [← Hhd.out] at T2' o2
        have hd6 : hd.length = 6 := by rw [Hhd.out, List.length_append, List.length_append, nbL_len, nbL_len]; rfl
        obtain ⟨gh, ch, rfl, nwh, _, _⟩ := owL_news o2 (by omega)
        have T2 : Hid (Tw w (.slice (some ⟨gh, 0, none⟩) hd.length ch) hd (.slice (some ⟨g, 0, none⟩) m cp) ([0, 0, 0, 0, 0, 0] ++ bd) v2) := T2'
        have NH : Hid (Nw v2 gh hd) := nwh
        obtain ⟨cur, hcur, hfit, hov⟩ := own_over (m := hd) T2.out.1.1 (by rw [List.length_append]; have := Hmb.out; simpa using this) (by rw [List.length_append, hd6]; simp)
        have e6 : hd ++ List.drop hd.length ([0, 0, 0, 0, 0, 0] ++ bd) = hd ++ bd := by rw [hd6]; rfl
        rw [e6] at hov
        have HCu : Hid (v2.heap[g]? = some (.cells cur 5 (0, 0)) ∧ hd.length ≤ cur.size ∧ St1 w (.slice (some ⟨g, 0, none⟩) m cp) (hd ++ bd) (v2.setRow g (cur.toList.take 0 ++ (cl hd ++ cur.toList.drop (0 + (cl hd).length))).toArray)) := ⟨hcur, hfit, T2.out.1.over hov⟩
        have Hd6 : Hid (hd.length = 6) := hd6
        rw [hd6]
        clear o2 g2 T1 T2' T2 nwh hcur hfit hov hd6
        go_wp2_with (refine wpList_copy_own rfl (.tmp 31) (.tmp 35) 22 22 rfl 5 Tryz.underlying22 infoU8s g 0 m cp ⟨gh, 0, none⟩ 6 ch rfl rfl cur 5 HCu.out.1 (cl hd) ?c1 NH.out ?c2 (cl_one _) ?_)
        case c1 => rw [cl_len, Hd6.out]; exact (Nat.min_eq_left (by have := Hmb.out; omega)).symm
        case c2 => rw [cl_len]; have := HCu.out.2.1; omega
        have S3 : Hid (St1 w (.slice (some ⟨g, 0, none⟩) m cp) (hd ++ bd) (v2.setRow g (cur.toList.take 0 ++ (cl hd ++ cur.toList.drop (0 + (cl hd).length))).toArray)) := HCu.out.2.2
        have eW : (cur.toList.take 0 ++ (cl hd ++ cur.toList.drop (0 + (cl hd).length))) = cl hd ++ cur.toList.drop (cl hd).length := by rw [List.take_zero, List.nil_append, Nat.zero_add]
        rw [eW] at S3
        try rw [eW]
        generalize (v2.setRow g (cl hd ++ cur.toList.drop (cl hd).length).toArray) = v3 at S3 ⊢
        clear HCu NH
        have HImg : Hid (hd ++ bd = hdL xs ++ bodL xs) := (by
          unfold hdL
          rw [Hhd.out, ← Hbd.out, ← HX.out.2, show ((bd.length : Nat) : Int) + 8 = (m : Int) + 2 by have := Hmb.out; omega] : hd ++ bd = hdL xs ++ bodL xs)
        obtain ⟨l3, Hl3⟩ : ∃ l3 : List Nat, Hid (l3 = hd ++ bd) := ⟨hd ++ bd, by show _ = _; rfl⟩
        rw [← Hl3.out] at S3 HImg
        have Hml : Hid (m = l3.length) := (by rw [Hl3.out, List.length_append, Hd6.out]; exact Hmb.out : m = l3.length)
        have hlt3 : ∀ j, atL l3 j < 256 := by rw [HImg.out]; exact atL_lt (hdL_lt xs)
        have HPs : Hid (Calls Tryz.prog 18 #[.slice (some ⟨g, 0, none⟩) m cp] v3 fun e w' => e = .returned (.int .u16 (smL l3 : Nat)) ∧ v3 = w') := by
          have h1 := S3.out.1
          rw [Hml.out] at h1
          have h2 := psum_i (some ⟨g, 0, none⟩) l3.length cp (atL l3) hlt3 v3 (by have := Hml.out; omega) (owL_bt h1)
          rw [← Hml.out] at h2
          exact (by unfold smL; rw [← Hml.out]; exact h2 : Calls Tryz.prog 18 #[.slice (some ⟨g, 0, none⟩) m cp] v3 fun e w' => e = .returned (.int .u16 (smL l3 : Nat)) ∧ v3 = w')
        obtain ⟨SM, hSM, HSM⟩ : ∃ SM, SM < 65536 ∧ Hid (SM = smL l3) := ⟨_, sumF_lt _ hlt3 _, rfl⟩
        rw [← HSM.out] at HPs
        clear hlt3 Hhd Hl3
        go_wp2_with fail
        refine HPs.out.mono ?_
        rintro e wz ⟨rfl, rfl⟩
        clear HPs
        go_wp2_with fail
        refine (HN.out _ l3 (SM : Int) v3 S3.out.2.2.2 (by have := Hml.out; omega) S3.out.1).mono ?_
        rintro e v5 ⟨v6, rfl, o5, g5⟩
        have S5 : Hid (St1 w v6 (l3 ++ nbL (SM : Int) 2) v5) := S3.out.gr g5 o5
        clear o5 g5 S3
        have K8 : Hid (v5.heap[w.heap.size]? = some (.cells #[.int .i64 0, .int .i64 0] 26 (0, 0)) ∧ Below w.heap.size w v5) := ⟨S5.out.2.1.1, S5.out.2.2.1⟩
        obtain ⟨p0, p1, q0, q1⟩ := box2 K8.out.1
        have HR := row_put (row_put K8.out.1 0 (.int .i64 0)) 1 (.int .i64 0)
        have HBl : Below w.heap.size w ((v5.setCell ⟨w.heap.size, 0, none⟩ (.int .i64 0)).setCell ⟨w.heap.size, 1, none⟩ (.int .i64 0)) := bel_set (bel_set K8.out.2 (Nat.le_refl _) _ _) (Nat.le_refl _) _ _
        have HFin : Hid (OwL ((v5.setCell ⟨w.heap.size, 0, none⟩ (.int .i64 0)).setCell ⟨w.heap.size, 1, none⟩ (.int .i64 0)) w.heap.size v6 LL) := by
          have e : LL = l3 ++ nbL (SM : Int) 2 := by rw [HE.out.2]; unfold imgL; rw [← HImg.out, ← HSM.out]
          rw [e]
          have h1 := S5.out.1
          have hne := S5.out.2.1.2
          exact (World.ownsRow.kept (row := some w.heap.size) (World.ownsRow.kept (row := some w.heap.size) h1 (gb_set18 (gb_refl18 _ _) _ _) (.inr hne)) (gb_set18 (gb_refl18 _ _) _ _) (.inr hne) : OwL _ _ _ _)
        clear K8 S5
        go_wp2
        refine ret_tc rfl rfl rfl (load_all HR _ _ Tryz.underlying26 rfl infoPF) rfl ?_
        exact ⟨_, by rw [HE.out.1]; rfl, HFin.out, HBl⟩
  · have HE : Hid (LL = []) := (by rw [HLL.out, ← HF1.out, if_neg hF] : LL = [])
    have e1 : (F1 != 0) = true := by simpa using hF
    clear hF HF1 HF2 HLL HX
    go_enter Tryz.func5, Tryz.ntmps5
    go_upto_region 1 with fail
    generalize (w.alloc (.cells #[.int .i64 0, .int .i64 0] 26)) = W0 at K0 ⊢
    go_wp2_with fail
    refine (HFl.out _ K0.out.2.1).mono ?_
    rintro e w1 ⟨rfl, g1⟩
    have K1 : Hid (w1.heap[w.heap.size]? = some (.cells #[.int .i64 0, .int .i64 0] 26 (0, 0)) ∧ Below w.heap.size w w1 ∧ w.heap.size < w1.heap.size) := ⟨(g1.block _ (by have := K0.out.2.2; omega)).trans K0.out.1, K0.out.2.1.trans (g1.mono K0.out.2.1.size), by have := K0.out.2.2; have := g1.size; omega⟩
    clear g1 K0
    have gA : Below w1.heap.size w1 (w1.alloc (.cells #[.int .i64 F1, .int .i64 F2] 26)) := (Below.refl _ _).alloc (Nat.le_refl _) _
    have K2 : Hid ((w1.alloc (.cells #[.int .i64 F1, .int .i64 F2] 26)).heap[w.heap.size]? = some (.cells #[.int .i64 0, .int .i64 0] 26 (0, 0)) ∧ Below w.heap.size w (w1.alloc (.cells #[.int .i64 F1, .int .i64 F2] 26))) := ⟨(gA.block _ K1.out.2.2).trans K1.out.1, K1.out.2.1.trans (gA.mono K1.out.2.1.size)⟩
    have J2 : (w1.alloc (.cells #[.int .i64 F1, .int .i64 F2] 26)).heap[w1.heap.size]? = some (.cells #[.int .i64 F1, .int .i64 F2] 26 (0, 0)) := heap_alloc_last _ _
    clear gA K1
    go_upto_region 3 with fail
    generalize (w1.alloc (.cells #[.int .i64 F1, .int .i64 F2] 26)) = W2 at K2 J2 ⊢
    generalize w1.heap.size = B1 at J2 ⊢
    obtain ⟨p0, p1, q0, q1⟩ := box2 K2.out.1
    obtain ⟨x0, x1, _, _⟩ := box2 J2
    have HR := row_put (row_put K2.out.1 0 (.int .i64 F1)) 1 (.int .i64 F2)
    have HBl : Below w.heap.size w ((W2.setCell ⟨w.heap.size, 0, none⟩ (.int .i64 F1)).setCell ⟨w.heap.size, 1, none⟩ (.int .i64 F2)) := bel_set (bel_set K2.out.2 (Nat.le_refl _) _ _) (Nat.le_refl _) _ _
    have HRd := row_put (row_put (W := W2.drew) K2.out.1 0 (.int .i64 F1)) 1 (.int .i64 F2)
    have HBd : Below w.heap.size w ((W2.drew.setCell ⟨w.heap.size, 0, none⟩ (.int .i64 F1)).setCell ⟨w.heap.size, 1, none⟩ (.int .i64 F2)) := bel_set (bel_set K2.out.2.drew (Nat.le_refl _) _ _) (Nat.le_refl _) _ _
    clear J2
    go_region_law (fail)
    all_goals
      go_wp2
      first
        | (refine ret_tc rfl rfl rfl (load_all HR _ _ Tryz.underlying26 rfl infoPF) rfl ?_; exact ⟨_, rfl, by rw [HE.out]; exact owL_nil _ _, HBl⟩)
        | (refine ret_tc rfl rfl rfl (load_all HRd _ _ Tryz.underlying26 rfl infoPF) rfl ?_; exact ⟨_, rfl, by rw [HE.out]; exact owL_nil _ _, HBd⟩)
end Go.Proofs.YtcihplachlokiaaGreatDoor
