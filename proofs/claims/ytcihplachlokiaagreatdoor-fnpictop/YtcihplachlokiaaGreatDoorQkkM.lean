/- Images: mathematics; what both sides keep while they build one. -/
import Derived.Test.YtcihplachlokiaaGreatDoorQkj
import Derived.Test.YtcihplachlokiaaGreatDoorPccM
import Derived.Deep.Upon
import Derived.WalkLawsBesides
namespace Go.Proofs.YtcihplachlokiaaGreatDoor
open Go.RowKit Go.Shelf
set_option linter.unusedVariables false
set_option linter.unusedSimpArgs false

theorem arN_le (op : Int) : arN op ≤ 3 := by
  rcases op_cases op with h | ⟨n, hn, rfl⟩
  · have e : ndP op = [] := by unfold ndP; repeat rw [if_neg (by omega)]
    unfold arN
    rw [e]
    decide
  · have : ∀ j : Fin 38, arN ((j.val : Nat) : Int) ≤ 3 := by decide +kernel
    exact this ⟨n, hn⟩
theorem wr_zero {i : InstT} (h : wrT i = 0) : i.one.args.length ≤ 3 ∧ (hasB i.code = true → i.one.args.all fitA = true) := by
  unfold wrT at h
  by_cases h1 : knB i.code = false
  · rw [if_pos h1] at h; omega
  · rw [if_neg h1] at h
    by_cases h2 : hasB i.code = false
    · rw [if_pos h2] at h
      by_cases h3 : i.one.op = 0 ∧ i.one.args.length = 0
      · exact ⟨by omega, fun h4 => by rw [h4] at h2; cases h2⟩
      · rw [if_neg h3] at h; omega
    · rw [if_neg h2] at h
      by_cases h3 : opB i.code i.one.op = false
      · rw [if_pos h3] at h; omega
      · rw [if_neg h3] at h
        by_cases h4 : (i.one.args.length : Int) ≠ arN i.one.op
        · rw [if_pos h4] at h; omega
        · rw [if_neg h4] at h
          have h5 := arN_le i.one.op
          have h6 : (i.one.args.length : Int) = arN i.one.op := by omega
          by_cases h7 : i.one.args.all fitA = true
          · exact ⟨by omega, fun _ => h7⟩
          · rw [if_neg h7] at h; omega
theorem wr_cases (i : InstT) : wrT i = 0 ∨ 0 < wrT i := by
  unfold wrT
  repeat' split
  all_goals omega
theorem insL_len {i : InstT} (h : wrT i = 0) : (insL i).length ≤ 20 := by
  have h1 := (wr_zero h).1
  have h2 := opdsL_len i.one.args
  unfold insL
  rw [List.length_append, nbL_len]
  split
  · rw [List.length_append, nbL_len]; omega
  · simp
def bodL (xs : List InstT) : List Nat := (xs.map insL).flatten
theorem bodL_snoc (xs : List InstT) (k : Nat) (x : InstT) (h : xs[k]? = some x) : bodL (xs.take (k + 1)) = bodL (xs.take k) ++ insL x := by
  have hk : k < xs.length := (List.getElem?_eq_some_iff.1 h).1
  rw [List.take_succ_eq_append_getElem hk, show xs[k] = x from Option.some.inj ((List.getElem?_eq_getElem hk).symm.trans h)]
  simp [bodL]
theorem bodL_len : ∀ (xs : List InstT), (∀ x ∈ xs, wrT x = 0) → (bodL xs).length ≤ 20 * xs.length
  | [], _ => by simp [bodL]
  | x :: xs, h => by
    have h1 := insL_len (h x (List.mem_cons_self ..))
    have h2 := bodL_len xs fun y hy => h y (List.mem_cons_of_mem _ hy)
    simp only [bodL, List.map_cons, List.flatten_cons, List.length_append, List.length_cons] at h2 ⊢
    omega
def hdL (xs : List InstT) : List Nat := [83, 116] ++ nbL (((bodL xs).length : Int) + 8) 2 ++ nbL (xs.length : Int) 2
/-- The list as a function of its places. -/
def atL (l : List Nat) (j : Nat) : Nat := l.getD j 0
def smL (l : List Nat) : Nat := sumF (atL l) l.length
def imgL (xs : List InstT) : List Nat := (hdL xs ++ bodL xs) ++ nbL (smL (hdL xs ++ bodL xs) : Int) 2
theorem insL_lt (i : InstT) : ∀ b ∈ insL i, b < 256 := by
  intro b hb
  unfold insL at hb
  rcases List.mem_append.1 hb with h | h
  · exact nbL_lt _ _ _ h
  · by_cases h1 : hasB i.code = true
    · rw [if_pos h1] at h
      rcases List.mem_append.1 h with h | h
      · exact nbL_lt _ _ _ h
      · simp only [opdsL, List.mem_flatten, List.mem_map] at h
        obtain ⟨l, ⟨x, _, rfl⟩, h⟩ := h
        unfold opdL at h
        rcases List.mem_append.1 h with h | h
        · rcases List.mem_append.1 h with h | h
          · exact nbL_lt _ _ _ h
          · exact nbL_lt _ _ _ h
        · by_cases h2 : x.1 = 12
          · rw [if_pos h2] at h; exact nbL_lt _ _ _ h
          · rw [if_neg h2] at h; cases h
    · rw [if_neg h1] at h; cases h
theorem hdL_lt (xs : List InstT) : ∀ b ∈ hdL xs ++ bodL xs, b < 256 := by
  intro b hb
  rcases List.mem_append.1 hb with h | h
  · unfold hdL at h
    rcases List.mem_append.1 h with h | h
    · rcases List.mem_append.1 h with h | h
      · simp at h; omega
      · exact nbL_lt _ _ _ h
    · exact nbL_lt _ _ _ h
  · simp only [bodL, List.mem_flatten, List.mem_map] at h
    obtain ⟨l, ⟨x, _, rfl⟩, h⟩ := h
    exact insL_lt x b h
theorem atL_lt {l : List Nat} (h : ∀ b ∈ l, b < 256) (j : Nat) : atL l j < 256 := by
  unfold atL
  rw [List.getD_eq_getElem?_getD]
  cases hj : l[j]? with
  | none => simp
  | some b => exact h b (List.mem_of_getElem? hj)
theorem owL_bt {w : World} {base : Nat} {a : Option Addr} {cap : Nat} {l : List Nat} (h : OwL w base (.slice a l.length cap) l) : Bt w a l.length (atL l) := by
  have h' := h
  rcases h'.2 with ⟨_, h0⟩ | ⟨g, cp, cur, hv, _, hg, _⟩
  · exact .inl h0
  · simp only [Value.slice.injEq] at hv
    obtain ⟨rfl, _, _⟩ := hv
    refine .inr ⟨g, 0, rfl, (Array.getElem?_eq_some_iff.1 hg).1, fun j hj => ?_⟩
    have hc : (cl l)[j]? = some (.int .u8 (atL l j : Nat)) := by
      unfold cl atL
      rw [List.getElem?_map, List.getElem?_eq_getElem hj, List.getD_eq_getElem?_getD, List.getElem?_eq_getElem hj]
      rfl
    have := World.ownsRow.cells h rfl j _ hc
    rw [Nat.zero_add]
    by_cases h0 : j = 0
    · subst h0; simpa [Addr.add] using this
    · simpa [Addr.add, h0] using this
theorem owL_ob {w : World} {base : Nat} {v : Value} {l : List Nat} (h : OwL w base v l) : ∃ a c, v = .slice a l.length c ∧ Ob w base a l.length (atL l) := by
  have h' := h
  rcases h'.2 with ⟨hv, h0⟩ | ⟨g, cp, cur, hv, hb, hg, _⟩
  · exact ⟨none, 0, by rw [hv, h0], .inl ⟨rfl, h0⟩⟩
  · subst hv
    refine ⟨some ⟨g, 0, none⟩, cp, rfl, .inr ⟨g, rfl, hb, ⟨fun j hj => ?_, fun o => by simp [World.frozen?, hg], (Array.getElem?_eq_some_iff.1 hg).1⟩⟩⟩
    have hc : (cl l)[j]? = some (.int .u8 (atL l j : Nat)) := by
      unfold cl atL
      rw [List.getElem?_map, List.getElem?_eq_getElem hj, List.getD_eq_getElem?_getD, List.getElem?_eq_getElem hj]
      rfl
    have := World.ownsRow.cells h rfl j _ hc
    by_cases h0 : j = 0
    · subst h0; simpa [Addr.add] using this
    · simpa [Addr.add, h0] using this

/-- A value and a box handed back. -/
theorem ret_tc {P : Program} {fn : Func} {Q : Ending → World → Prop} {a : Act} {w : World} {p p2 : Tmp} {ty : TypeId} (hf : fn.results = #[.tmp p2, .cell p ty]) {g : Nat} (hp : a.tmps.getD p undef = .pointer (some ⟨g, 0, none⟩)) {v2 : Value} (hp2 : a.tmps.getD p2 undef = v2)
    {v : Value} (h1 : (loadVar ty ⟨g, 0, none⟩).run P w = .ok v w) (hdf : a.defers = []) (hR : Q (.returned (.tuple #[v2, v])) w) : bodyPost P fn Q .ret a w := by
  refine bodyPost_ret (v := .tuple #[v2, v]) ?_ hdf hR
  have hp' : a.tmps[p]?.getD undef = .pointer (some ⟨g, 0, none⟩) := by simpa using hp
  have hp2' : a.tmps[p2]?.getD undef = v2 := by simpa using hp2
  simp [results, hf, hp', hp2', asAddr, h1]

/-- What PicMake answers. -/
def MkR (xs : List InstT) (w : World) (e : Ending) (w' : World) : Prop :=
  ∃ v, e = .returned (.tuple #[v, .agg #[.int .i64 (pfT xs).1, .int .i64 ((pfT xs).2 : Nat)]]) ∧ OwL w' w.heap.size v (if (pfT xs).1 = 0 then imgL xs else []) ∧ Below w.heap.size w w'
theorem owL_nil (w : World) (base : Nat) : OwL w base (.slice none 0 0) [] := World.ownsRow_nil _ _ _ _
end Go.Proofs.YtcihplachlokiaaGreatDoor
/- PicMake of the specification. -/
namespace Go.Proofs.YtcihplachlokiaaGreatDoor
open Go.RowKit Go.Shelf
set_option linter.unusedVariables false
set_option linter.unusedSimpArgs false

/-- A row that grows beside the fault's box. -/
def St1 (w : World) (v : Value) (l : List Nat) (W : World) : Prop :=
  OwL W w.heap.size v l ∧ BoxR w.heap.size (.cells #[.int .i64 0, .int .i64 0] 26 (0, 0)) v W ∧ Below w.heap.size w W ∧ w.heap.size ≤ W.heap.size
theorem St1.gr {w W W' : World} {v v' : Value} {l l' : List Nat} (h : St1 w v l W) (g : Gr W v W' v') (ho : OwL W' w.heap.size v' l') : St1 w v' l' W' :=
  ⟨ho, h.2.1.gr g, h.2.2.1.trans (g.below h.2.2.2 (fun x hx => (h.1.own x hx).1)), Nat.le_trans h.2.2.2 g.1.size⟩
theorem St1.later {w W W' : World} {v : Value} {l : List Nat} (h : St1 w v l W) (g : Below W.heap.size W W') : St1 w v l W' :=
  ⟨h.1.later g, h.2.1.later g, h.2.2.1.trans (g.mono h.2.2.2), Nat.le_trans h.2.2.2 g.size⟩
theorem gr_step0 {W w2 : World} {g' cap' n' : Nat} {v : Value} (hgrow : W.grownBy w2 v.ownBlock) (hat : v.ownBlock = some g' ∨ g' = W.heap.size) : Gr W v w2 (.slice (some ⟨g', 0, none⟩) n' cap') := by
  refine ⟨hgrow, fun g hg => ?_⟩
  simp [Value.ownBlock] at hg
  subst hg
  rcases hat with h | h
  · exact .inl h
  · exact .inr (by omega)
theorem own_app {w2 : World} {base g' cap' : Nat} {l m : List Nat} (hown' : w2.ownsRow base 5 1 (.slice (some ⟨g', 0, none⟩) (l.length + m.length) cap') (l.length + m.length) (cl l ++ cl m)) :
    OwL w2 base (.slice (some ⟨g', 0, none⟩) (l ++ m).length cap') (l ++ m) := by
  unfold OwL
  rw [cl_app, List.length_append]
  exact hown'
/-- Bytes that an append reads. -/
def Nw (W : World) (g : Nat) (l : List Nat) : Prop := ∀ j u, (cl l)[j]? = some u → W.cell? ((⟨g, 0, none⟩ : Addr).add j) = some u
theorem owL_news {W : World} {b : Nat} {v : Value} {l : List Nat} (h : OwL W b v l) (hl : 0 < l.length) : ∃ g c, v = .slice (some ⟨g, 0, none⟩) l.length c ∧ Nw W g l ∧ b ≤ g ∧ g < W.heap.size := by
  have h' := h
  rcases h'.2 with ⟨_, h0⟩ | ⟨g, cp, cur, hv, hb, hg, _⟩
  · omega
  · subst hv
    exact ⟨g, cp, rfl, fun j u hu => World.ownsRow.cells h rfl j u hu, hb, (Array.getElem?_eq_some_iff.1 hg).1⟩
theorem owL_cap {W : World} {b n c : Nat} {a : Option Addr} {l : List Nat} (h : OwL W b (.slice a n c) l) : n ≤ c := by
  rcases h.2 with ⟨hv, _⟩ | ⟨g, cp, cur, hv, _, _, h1, _⟩
  · simp only [Value.slice.injEq] at hv
    omega
  · simp only [Value.slice.injEq] at hv
    omega
/-- A row that stands while another one grows. -/
def Kp (g : Nat) (l : List Nat) (v : Value) (W : World) : Prop := Nw W g l ∧ g < W.heap.size ∧ v.ownBlock ≠ some g
theorem nw_far {W W' : World} {g : Nat} {l : List Nat} (h : Nw W g l) (hc : ∀ o, W'.cell? ⟨g, o, none⟩ = W.cell? ⟨g, o, none⟩) : Nw W' g l := fun j u hu => by
  have := h j u hu
  by_cases h0 : j = 0
  · subst h0; simp [Addr.add] at this ⊢; rw [hc]; exact this
  · simp [Addr.add, h0] at this ⊢; rw [hc]; exact this
theorem Kp.gr {g : Nat} {l : List Nat} {v v' : Value} {W W' : World} (h : Kp g l v W) (k : Gr W v W' v') : Kp g l v' W' := by
  refine ⟨nw_far h.1 fun o => k.1.cell_far (a := ⟨g, o, none⟩) h.2.1 (fun e => h.2.2 e.symm), Nat.lt_of_lt_of_le h.2.1 k.1.size, fun e => ?_⟩
  rcases k.2 g e with h' | h'
  · exact h.2.2 h'
  · have := h.2.1; omega
theorem Kp.later {g : Nat} {l : List Nat} {v : Value} {W W' : World} (h : Kp g l v W) (k : Below W.heap.size W W') : Kp g l v W' :=
  ⟨nw_far h.1 fun o => k.cell (p := ⟨g, o, none⟩) h.2.1, Nat.lt_of_lt_of_le h.2.1 k.size, h.2.2⟩
theorem num_nw {W : World} {g m : Nat} {x : Int} (h : By W g m (nbF x m)) : Nw W g (nbL x m) := by_cl h fun j b hb => by
  have hj : j < m := by have := (List.getElem?_eq_some_iff.1 hb).1; rwa [nbL_len] at this
  exact ⟨hj, Option.some.inj (hb.symm.trans (nbL_get m x j hj))⟩

set_option maxRecDepth 10000 in
set_option maxHeartbeats 8000000 in
/-- The end of PicMake: the rows put together. -/
theorem mk_s (a : Option Addr) (cap n : Nat) (xs : List InstT) (w : World) (hl : n = xs.length) (hm : n ≤ 1048576) (hx : SlI w a xs) :
    Calls Tryz.prog 6 #[.slice a n cap] w fun e w' => MkR xs w e w' := by
  obtain ⟨i0, hi, hz0, hz1, hz2⟩ := info_parts infoU8
  have HW : Hid (∀ (c op : Int) (a : Option Addr) (len cap : Nat) (ys : List ArgT) W, len = ys.length → len ≤ 9223372036854775807 → SlA W a ys → Calls Tryz.prog 19 #[.agg #[.int .i64 c, .int .i64 op, .slice a len cap]] W fun e w' => e = .returned (.int .i64 (wrT ⟨c, ⟨op, ys⟩⟩)) ∧ Below W.heap.size W w') := fun c op a len cap ys W h1 h2 h3 => wrong_s c op a len cap ys W h1 h2 h3
  have HI : Hid (∀ (c op : Int) (a : Option Addr) (len cap : Nat) (ys : List ArgT) W, len = ys.length → SlA W a ys → wrT ⟨c, ⟨op, ys⟩⟩ = 0 → Calls Tryz.prog 20 #[.agg #[.int .i64 c, .int .i64 op, .slice a len cap]] W fun e w' => ∃ v', e = .returned v' ∧ OwL w' W.heap.size v' (insL ⟨c, ⟨op, ys⟩⟩) ∧ Below W.heap.size W w') := fun c op a len cap ys W h1 h2 h3 => inst_s c op a len cap ys W h1 (by have := (wr_zero h3).1; simp only [] at this; omega) h2 (wr_zero h3).2
  have HN : Hid (∀ (v : Int) W, (-1099511627776 ≤ v ∧ v ≤ 1099511627776) → Calls Tryz.prog 21 #[.int .i64 v, .int .i64 2] W fun e w' => ∃ g, e = .returned (.slice (some ⟨g, 0, none⟩) 2 2) ∧ Nw w' g (nbL v 2) ∧ Below W.heap.size W w') := fun v W h => (num_s v 2 W h (by omega)).mono fun e w' ⟨h1, h2, h3⟩ => ⟨_, h1, num_nw h2, h3⟩
  have HX : Hid (SlI w a xs ∧ n = xs.length) := ⟨hx, hl⟩
  have K0 : Hid ((w.alloc (.cells #[.int .i64 0, .int .i64 0] 26)).heap[w.heap.size]? = some (.cells #[.int .i64 0, .int .i64 0] 26 (0, 0)) ∧ Below w.heap.size w (w.alloc (.cells #[.int .i64 0, .int .i64 0] 26)) ∧ (w.alloc (.cells #[.int .i64 0, .int .i64 0] 26)).heap.size = w.heap.size + 1) := ⟨heap_alloc_last _ _, (Below.refl _ _).alloc (Nat.le_refl _) _, by simp⟩
  obtain ⟨F1, HF1⟩ : ∃ F, Hid (F = (pfT xs).1) := ⟨_, rfl⟩
  obtain ⟨F2, HF2⟩ : ∃ F : Int, Hid (F = ((pfT xs).2 : Nat)) := ⟨_, rfl⟩
  obtain ⟨LL, HLL⟩ : ∃ LL, Hid (LL = if (pfT xs).1 = 0 then imgL xs else []) := ⟨_, rfl⟩
  unfold MkR
  rw [← HF1.out, ← HF2.out, show (if F1 = 0 then imgL xs else []) = LL by rw [HLL.out, HF1.out]]
  by_cases hbig : 1000 < n
  · have i1 : (1000 : Int) < (n : Int) := by omega
    have HE : Hid (F1 = 1 ∧ F2 = 0 ∧ LL = []) := (by
      have e : pfT xs = (1, 0) := by unfold pfT; rw [if_pos (by omega)]
      rw [HF1.out, HF2.out, HLL.out, e]; exact ⟨rfl, rfl, rfl⟩ : F1 = 1 ∧ F2 = 0 ∧ LL = [])
    clear hbig hx hl
    go_enter Tryz.func6, Tryz.ntmps6
    go_upto_region 1 with fail
    generalize (w.alloc (.cells #[.int .i64 0, .int .i64 0] 26)) = W0 at K0 ⊢
    obtain ⟨p0, p1, q0, q1⟩ := box2 K0.out.1
    have HR := row_put (row_put K0.out.1 0 (.int .i64 1)) 1 (.int .i64 0)
    have HBl : Below w.heap.size w ((W0.setCell ⟨w.heap.size, 0, none⟩ (.int .i64 1)).setCell ⟨w.heap.size, 1, none⟩ (.int .i64 0)) := bel_set (bel_set K0.out.2.1 (Nat.le_refl _) _ _) (Nat.le_refl _) _ _
    go_wp2
    refine ret_tc rfl rfl rfl (load_all HR _ _ Tryz.underlying26 rfl infoPF) rfl ?_
    exact ⟨_, by rw [HE.out.1, HE.out.2.1]; rfl, by rw [HE.out.2.2]; exact owL_nil _ _, HBl⟩
  · have i1 : ¬ ((1000 : Int) < (n : Int)) := by omega
    have hn : n ≤ 1000 := by omega
    have HP : Hid (pfT xs = fwA xs 0) := (by unfold pfT; rw [if_neg (by omega)] : pfT xs = fwA xs 0)
    clear hbig hx hl hm
    go_enter Tryz.func6, Tryz.ntmps6
    go_upto_region 3 with fail
    have K0' := K0.out
    clear K0
    generalize (w.alloc (.cells #[.int .i64 0, .int .i64 0] 26)) = W0 at K0' ⊢
    have S0 : Hid (St1 w (.slice (some ⟨W0.heap.size, 0, none⟩) 0 0) [] (W0.alloc (.cells #[] 5))) := by
      have h := own_made W0 w.heap.size (by omega) [] (by simp)
      have gA : Below W0.heap.size W0 (W0.alloc (.cells #[] 5)) := (Below.refl _ _).alloc (Nat.le_refl _) _
      refine ⟨h, ⟨(gA.block _ (by omega)).trans K0'.1, ?_⟩, K0'.2.1.trans (gA.mono (by omega)), Nat.le_trans (by omega : w.heap.size ≤ W0.heap.size) gA.size⟩
      simp [Value.ownBlock]; omega
    obtain ⟨Z0, hZ0⟩ : ∃ Z, W0.heap.size = Z := ⟨_, rfl⟩
    rw [hZ0] at S0
    clear K0'
    go_wp2
    generalize (W0.alloc (.cells #[] 5)) = W1 at S0 ⊢
    clear hZ0
    go_loopw [4, 5, 6] (fun vv i _ wr => ∃ k g cp m : Nat, k ≤ n ∧ i = .int .i64 k ∧ vv = .slice (some ⟨g, 0, none⟩) m cp ∧ Hid (fwA xs 0 = fwA (xs.drop k) k ∧ (∀ x ∈ xs.take k, wrT x = 0) ∧ m = (bodL (xs.take k)).length ∧ St1 w (.slice (some ⟨g, 0, none⟩) m cp) (bodL (xs.take k)) wr)) (fun _ i _ _ => n - (intOf i).toNat)
    case atStart => exact ⟨0, Z0, 0, 0, Nat.zero_le _, rfl, rfl, rfl, (fun x hx => by cases hx), rfl, S0.out⟩
    case round =>
      clear S0
      obtain ⟨k, g, cp, m, hk, rfl, rfl, HR0⟩ := hrel
      by_cases hlt : k < n
      · have ik : (k : Int) < (n : Int) := by omega
        obtain ⟨x, hxk⟩ : ∃ x, xs[k]? = some x := ⟨_, List.getElem?_eq_getElem (by have := HX.out.2; omega)⟩
        obtain ⟨b, o, a', c', rfl, hb, c0, c1, c2, hal, hsl⟩ := (HX.out.1.later HR0.out.2.2.2.2.2.1 (Nat.le_refl _)) k x hxk
        have HSt := fw_step hxk
        have HBd : Hid (bodL (xs.take (k + 1)) = bodL (xs.take k) ++ insL x) := bodL_snoc xs k x hxk
        have HTk : Hid (∀ y ∈ xs.take (k + 1), y ∈ xs.take k ∨ y = x) := (fun y hy => by
          have hk' := (List.getElem?_eq_some_iff.1 hxk).1
          rw [List.take_succ_eq_append_getElem hk'] at hy
          rcases List.mem_append.1 hy with h | h
          · exact .inl h
          · right; rw [List.mem_singleton.1 h]; exact Option.some.inj ((List.getElem?_eq_getElem hk').symm.trans hxk) : ∀ y ∈ xs.take (k + 1), y ∈ xs.take k ∨ y = x)
        obtain ⟨⟨xc, ⟨xo, xa⟩⟩, hx2⟩ : ∃ y : InstT, x = y := ⟨x, rfl⟩
        subst hx2
        simp only [] at c0 c1 c2 hal hsl
        have HSt' : Hid (fwA (xs.drop k) k = if wrT ⟨xc, ⟨xo, xa⟩⟩ = 0 then fwA (xs.drop (k + 1)) (k + 1) else (wrT ⟨xc, ⟨xo, xa⟩⟩, k)) := HSt
        obtain ⟨q, hq⟩ : ∃ m, xa.length = m := ⟨_, rfl⟩
        have HM : Hid (q = xa.length) := hq.symm
        rw [hq] at c2 hal
        have HC : Hid (Calls Tryz.prog 19 #[.agg #[.int .i64 xc, .int .i64 xo, .slice a' q c']] wr fun e w' => e = .returned (.int .i64 (wrT ⟨xc, ⟨xo, xa⟩⟩)) ∧ Below wr.heap.size wr w') := HW.out xc xo a' q c' xa _ HM.out hal hsl
        have HSl : Hid (SlA wr a' xa) := hsl
        obtain ⟨V, HV⟩ : ∃ V, Hid (V = wrT ⟨xc, ⟨xo, xa⟩⟩) := ⟨_, rfl⟩
        have HVc : V = 0 ∨ 0 < V := by rw [HV.out]; exact wr_cases _
        rw [← HV.out] at HC HSt'
        clear hxk HSt hsl hal hq
        go_wp2_with fail
        refine HC.out.mono ?_
        rintro e w8 ⟨rfl, g8⟩
        have q8 : Hid (Below wr.heap.size wr w8) := g8
        have d0 := (g8.cell (p := ⟨b, o + k * 3, none⟩) hb).trans c0
        have d1 := (g8.cell (p := ⟨b, o + k * 3 + 1, none⟩) hb).trans c1
        have d2 := (g8.cell (p := ⟨b, o + k * 3 + 2, none⟩) hb).trans c2
        have S8 : Hid (St1 w (.slice (some ⟨g, 0, none⟩) m cp) (bodL (xs.take k)) w8) := HR0.out.2.2.2.later g8
        clear g8 HC c0 c1 c2 hb
        rcases HVc with hV | hV
        · have HV0 : Hid (V = 0) := hV
          have eV : ¬ (0 < V) := by omega
          have HC2 : Hid (Calls Tryz.prog 20 #[.agg #[.int .i64 xc, .int .i64 xo, .slice a' q c']] w8 fun e w' => ∃ v', e = .returned v' ∧ OwL w' w8.heap.size v' (insL ⟨xc, ⟨xo, xa⟩⟩) ∧ Below w8.heap.size w8 w') := HI.out xc xo a' q c' xa _ HM.out (HSl.out.later q8.out (Nat.le_refl _)) (by rw [← HV.out]; exact hV)
          have HLi : Hid (0 < (insL ⟨xc, ⟨xo, xa⟩⟩).length ∧ (insL ⟨xc, ⟨xo, xa⟩⟩).length ≤ 20) := ⟨by unfold insL; rw [List.length_append, nbL_len]; omega, insL_len (by rw [← HV.out]; exact hV)⟩
          have HBl : Hid ((bodL (xs.take k)).length ≤ 20000) := (by
            have h1 := bodL_len (xs.take k) HR0.out.2.1
            rw [List.length_take] at h1
            omega : (bodL (xs.take k)).length ≤ 20000)
          obtain ⟨li, Hli⟩ : ∃ li, Hid (li = insL ⟨xc, ⟨xo, xa⟩⟩) := ⟨_, rfl⟩
          obtain ⟨lb, Hlb⟩ : ∃ lb, Hid (lb = bodL (xs.take k)) := ⟨_, rfl⟩
          rw [← Hli.out] at HC2 HLi HBd
          rw [← Hlb.out] at S8 HBl HBd
          have Hm : Hid (m = lb.length) := (by rw [HR0.out.2.2.1, Hlb.out] : m = lb.length)
          clear hV
          go_wp2_with fail
          refine HC2.out.mono ?_
          rintro e w9 ⟨v9, rfl, o9, g9⟩
          obtain ⟨gn, cn, rfl, nw9, _, _⟩ := owL_news o9 HLi.out.1
          have S9 : Hid (St1 w (.slice (some ⟨g, 0, none⟩) m cp) lb w9 ∧ Nw w9 gn li) := ⟨S8.out.later g9, nw9⟩
          clear g9 o9 nw9 S8 HC2 d0 d1 d2
          obtain ⟨p, hp⟩ : ∃ p, li.length = p := ⟨_, rfl⟩
          have Hp : Hid (p = li.length) := hp.symm
          have hp20 : 0 < p ∧ p ≤ 20 := by rw [← hp]; exact HLi.out
          rw [hp]
          clear hp
          go_wp2_with (at_builtin; refine wpList_append_lies _ rfl _ _ 22 rfl w.heap.size 5 i0 (.int .u8 0) 1 1 Tryz.underlying22 hi hz0 hz1 hz2 rfl (by decide) _ m (cl lb) rfl (by have := S9.out.1.1; unfold OwL at this; rw [← Hm.out] at this; exact this) ⟨gn, 0, none⟩ p cn (cl li) rfl (by rw [cl_len, Hp.out]; omega) S9.out.2 ?c2 ?c1 ?c3 ?c4 ?c5 _ rfl ?_)
          case c2 => exact cl_one _
          case c1 => omega
          case c3 => have := HBl.out; have := Hm.out; unfold maxLen; omega
          case c4 => have := HBl.out; have := Hm.out; omega
          case c5 => exact S9.out.1.2.2.2
          intro gx capx wx hown' hgrow hat hlt'
          have HNx : Hid (fwA xs 0 = fwA (xs.drop (k + 1)) (k + 1) ∧ (∀ x ∈ xs.take (k + 1), wrT x = 0) ∧ m + p = (bodL (xs.take (k + 1))).length ∧ St1 w (.slice (some ⟨gx, 0, none⟩) (m + p) capx) (bodL (xs.take (k + 1))) wx) := by
            have e1 : m + p = (lb ++ li).length := by rw [List.length_append, ← Hm.out, ← Hp.out]
            refine ⟨by rw [HR0.out.1, HSt'.out, if_pos HV0.out], fun y hy => ?_, by rw [HBd.out]; exact e1, ?_⟩
            · rcases HTk.out y hy with h | h
              · exact HR0.out.2.1 y h
              · rw [h, ← HV.out]; exact HV0.out
            · rw [HBd.out]
              have h1 : OwL wx w.heap.size (.slice (some ⟨gx, 0, none⟩) (lb ++ li).length capx) (lb ++ li) := own_app (by rw [← Hm.out, ← Hp.out]; exact hown')
              rw [← e1] at h1
              exact S9.out.1.gr (gr_step0 hgrow hat) h1
          clear hown' hgrow hat hlt' S9 HR0 HSt' HV HV0 HBd HTk
          go_wp2
          go_roundw
          case rel => exact ⟨k + 1, gx, capx, m + p, by omega, by go_num, rfl, HNx⟩
          case measure => simp [intOf]; omega
        · have HE : Hid (F1 = V ∧ F2 = k ∧ LL = []) := (by
            have e : pfT xs = (V, k) := by rw [HP.out, HR0.out.1, HSt'.out, if_neg (by omega)]
            rw [HF1.out, HF2.out, HLL.out, e, if_neg (by show ¬ V = 0; omega)]
            exact ⟨rfl, rfl, rfl⟩ : F1 = V ∧ F2 = k ∧ LL = [])
          have K8 : Hid (w8.heap[w.heap.size]? = some (.cells #[.int .i64 0, .int .i64 0] 26 (0, 0)) ∧ Below w.heap.size w w8) := ⟨S8.out.2.1.1, S8.out.2.2.1⟩
          clear HR0 HSt' HV S8
          obtain ⟨p0, p1, q0, q1⟩ := box2 K8.out.1
          have HR := row_put (row_put K8.out.1 0 (.int .i64 V)) 1 (.int .i64 k)
          have HBl : Below w.heap.size w ((w8.setCell ⟨w.heap.size, 0, none⟩ (.int .i64 V)).setCell ⟨w.heap.size, 1, none⟩ (.int .i64 k)) := bel_set (bel_set K8.out.2 (Nat.le_refl _) _ _) (Nat.le_refl _) _ _
          go_wp2
          refine ret_tc rfl rfl rfl (load_all HR _ _ Tryz.underlying26 rfl infoPF) rfl ?_
          exact ⟨_, by rw [HE.out.1, HE.out.2.1]; rfl, by rw [HE.out.2.2]; exact owL_nil _ _, HBl⟩
      · -- the end
        have hkn : k = xs.length := by have := HX.out.2; omega
        have HE : Hid (F1 = 0 ∧ F2 = 0 ∧ LL = imgL xs) := (by
          have e : pfT xs = (0, 0) := by rw [HP.out, HR0.out.1, fw_end xs k (by omega)]
          rw [HF1.out, HF2.out, HLL.out, e, if_pos rfl]
          exact ⟨rfl, rfl, rfl⟩ : F1 = 0 ∧ F2 = 0 ∧ LL = imgL xs)
        have Hall : ∀ x ∈ xs, wrT x = 0 := fun x hx => HR0.out.2.1 x (by rw [hkn, List.take_length]; exact hx)
        obtain ⟨bd, Hbd⟩ : ∃ bd, Hid (bd = bodL xs) := ⟨_, rfl⟩
        have HS : Hid (m = bd.length ∧ m ≤ 20000 ∧ St1 w (.slice (some ⟨g, 0, none⟩) m cp) bd wr) := by
          have h1 := HR0.out.2.2.1
          have h2 := HR0.out.2.2.2
          have h3 := bodL_len xs Hall
          rw [hkn, List.take_length] at h1 h2
          exact ⟨by rw [Hbd.out]; exact h1, by omega, by rw [Hbd.out]; exact h2⟩
        have ik : ¬ ((k : Int) < (n : Int)) := by omega
        clear HR0 hkn Hall
        have H0 : Hid (St1 w (.slice (some ⟨wr.heap.size, 0, none⟩) 2 2) [83, 116] (wr.alloc (.cells #[.int .u8 83, .int .u8 116] 5)) ∧ Kp g bd (.slice (some ⟨wr.heap.size, 0, none⟩) 2 2) (wr.alloc (.cells #[.int .u8 83, .int .u8 116] 5)) ∧ 2 = ([83, 116] : List Nat).length ∧ 2 ≤ 30000) := by
          have hs := HS.out.2.2
          have gA : Below wr.heap.size wr (wr.alloc (.cells #[.int .u8 83, .int .u8 116] 5)) := (Below.refl _ _).alloc (Nat.le_refl _) _
          have hlt := hs.2.1.lt
          have hg := (hs.1.own g rfl).2
          refine ⟨⟨own_made wr w.heap.size hs.2.2.2 [83, 116] (by simp), ⟨(gA.block _ hlt).trans hs.2.1.1, ?_⟩, hs.2.2.1.trans (gA.mono hs.2.2.2), Nat.le_trans hs.2.2.2 gA.size⟩, ⟨?_, Nat.lt_of_lt_of_le hg gA.size, ?_⟩, rfl, by omega⟩
          · simp [Value.ownBlock]; omega
          · exact nw_far (W := wr) (fun j u hu => World.ownsRow.cells hs.1 rfl j u hu) fun o => gA.cell (p := ⟨g, o, none⟩) hg
          · simp [Value.ownBlock]; omega
        obtain ⟨Zh, hZh⟩ : ∃ Z, wr.heap.size = Z := ⟨_, rfl⟩
        have hmb : m ≤ 20000 := HS.out.2.1
        have Hmb : Hid (m = bd.length) := HS.out.1
        clear HS
        by_cases hm0 : m = 0
        · subst hm0
          rw [hZh] at H0
          go_wp2_with fail
          generalize (wr.alloc (.cells #[.int .u8 83, .int .u8 116] 5)) = V0 at H0 ⊢
          have eM : ((0 : Nat) : Int) + 8 = 8 := rfl
          refine (HN.out 8 _ (by omega)).mono ?_
          rintro e n1 ⟨gn1, rfl, nw1, gb1⟩
          have H0' : Hid (St1 w (.slice (some ⟨Zh, 0, none⟩) 2 2) [83, 116] n1 ∧ Kp g bd (.slice (some ⟨Zh, 0, none⟩) 2 2) n1 ∧ 2 = ([83, 116] : List Nat).length ∧ 2 ≤ 30000) := ⟨H0.out.1.later gb1, H0.out.2.1.later gb1, rfl, by omega⟩
          have N1 : Hid (Nw n1 gn1 (nbL 8 2)) := nw1
          clear gb1 nw1 H0 eM
          go_wp2_with (at_builtin; refine wpList_append_lies _ rfl _ _ 22 rfl w.heap.size 5 i0 (.int .u8 0) 1 1 Tryz.underlying22 hi hz0 hz1 hz2 rfl (by decide) _ 2 (cl [83, 116]) rfl (by have := H0'.out.1.1; unfold OwL at this; rw [← H0'.out.2.2.1] at this; exact this) ⟨gn1, 0, none⟩ 2 2 (cl (nbL 8 2)) rfl ?c6 N1.out ?c2 ?c1 ?c3 ?c4 ?c5 _ rfl ?_)
          case c6 => rw [cl_len, nbL_len]
          case c2 => exact cl_one _
          case c1 => omega
          case c3 => have := H0'.out.2.2.2; unfold maxLen; omega
          case c4 => have := H0'.out.2.2.2; omega
          case c5 => exact H0'.out.1.2.2.2
          intro g1 cap1 v1 hown' hgrow hat hlt'
          obtain ⟨l1, Hl1⟩ : ∃ l : List Nat, Hid (l = [83, 116] ++ (nbL 8 2)) := ⟨[83, 116] ++ (nbL 8 2), by show _ = _; rfl⟩
          have H1 : Hid (St1 w (.slice (some ⟨g1, 0, none⟩) (2 + 2) cap1) l1 v1 ∧ Kp g bd (.slice (some ⟨g1, 0, none⟩) (2 + 2) cap1) v1 ∧ 2 + 2 = l1.length ∧ 2 + 2 ≤ 30000) := by
            have e1 : 2 + 2 = ([83, 116] ++ (nbL 8 2)).length := by rw [List.length_append, ← H0'.out.2.2.1, nbL_len]
            have h1 : OwL v1 w.heap.size (.slice (some ⟨g1, 0, none⟩) ([83, 116] ++ (nbL 8 2)).length cap1) ([83, 116] ++ (nbL 8 2)) := own_app (by rw [← H0'.out.2.2.1, nbL_len]; exact hown')
            rw [← e1, ← Hl1.out] at h1
            exact ⟨H0'.out.1.gr (gr_step0 hgrow hat) h1, H0'.out.2.1.gr (gr_step0 hgrow hat), by rw [Hl1.out]; exact e1, by have := H0'.out.2.2.2; omega⟩
          clear hown' hgrow hat hlt' H0'
          go_wp2_with fail
          refine (HN.out (n : Int) _ (by omega)).mono ?_
          rintro e n2 ⟨gn2, rfl, nw2, gb2⟩
          have H1' : Hid (St1 w (.slice (some ⟨g1, 0, none⟩) (2 + 2) cap1) l1 n2 ∧ Kp g bd (.slice (some ⟨g1, 0, none⟩) (2 + 2) cap1) n2 ∧ (2 + 2) = l1.length ∧ (2 + 2) ≤ 30000) := ⟨H1.out.1.later gb2, H1.out.2.1.later gb2, H1.out.2.2.1, by have := H1.out.2.2.2; omega⟩
          have N2 : Hid (Nw n2 gn2 (nbL (n : Int) 2)) := nw2
          clear gb2 nw2 H1
          go_wp2_with (at_builtin; refine wpList_append_lies _ rfl _ _ 22 rfl w.heap.size 5 i0 (.int .u8 0) 1 1 Tryz.underlying22 hi hz0 hz1 hz2 rfl (by decide) _ (2 + 2) (cl l1) rfl (by have := H1'.out.1.1; unfold OwL at this; rw [← H1'.out.2.2.1] at this; exact this) ⟨gn2, 0, none⟩ 2 2 (cl (nbL (n : Int) 2)) rfl ?c6 N2.out ?c2 ?c1 ?c3 ?c4 ?c5 _ rfl ?_)
          case c6 => rw [cl_len, nbL_len]
          case c2 => exact cl_one _
          case c1 => omega
          case c3 => have := H1'.out.2.2.2; unfold maxLen; omega
          case c4 => have := H1'.out.2.2.2; omega
          case c5 => exact H1'.out.1.2.2.2
          intro g2 cap2 v2 hown' hgrow hat hlt'
          obtain ⟨l2, Hl2⟩ : ∃ l : List Nat, Hid (l = l1 ++ (nbL (n : Int) 2)) := ⟨l1 ++ (nbL (n : Int) 2), by show _ = _; rfl⟩
          have H2 : Hid (St1 w (.slice (some ⟨g2, 0, none⟩) ((2 + 2) + 2) cap2) l2 v2 ∧ Kp g bd (.slice (some ⟨g2, 0, none⟩) ((2 + 2) + 2) cap2) v2 ∧ (2 + 2) + 2 = l2.length ∧ (2 + 2) + 2 ≤ 30000) := by
            have e1 : (2 + 2) + 2 = (l1 ++ (nbL (n : Int) 2)).length := by rw [List.length_append, ← H1'.out.2.2.1, nbL_len]
            have h1 : OwL v2 w.heap.size (.slice (some ⟨g2, 0, none⟩) (l1 ++ (nbL (n : Int) 2)).length cap2) (l1 ++ (nbL (n : Int) 2)) := own_app (by rw [← H1'.out.2.2.1, nbL_len]; exact hown')
            rw [← e1, ← Hl2.out] at h1
            exact ⟨H1'.out.1.gr (gr_step0 hgrow hat) h1, H1'.out.2.1.gr (gr_step0 hgrow hat), by rw [Hl2.out]; exact e1, by have := H1'.out.2.2.2; omega⟩
          clear hown' hgrow hat hlt' H1'
          have hcap : 6 ≤ cap2 := owL_cap H2.out.1.1
          have hap : (Builtin.append_ #[22, 22] 22 #[.slice (some ⟨g2, 0, none⟩) 6 cap2, .slice (some ⟨g, 0, none⟩) 0 cp]).run Tryz.prog v2 = .ok (.slice (some ⟨g2, 0, none⟩) 6 cap2) v2 := run_append_nothing v2 22 22 22 5 i0 Tryz.underlying22 hi (some ⟨g2, 0, none⟩) 6 cap2 hcap _ (Src.ofSlice v2 Tryz.underlying22 ⟨g, 0, none⟩ 0 cp [] (by simp) (by simp) (by simp))
          have HImg : Hid (l2 = hdL xs ++ bodL xs) := (by
            have e : bodL xs = [] := by rw [← Hbd.out]; exact List.eq_nil_of_length_eq_zero Hmb.out.symm
            unfold hdL
            rw [Hl2.out, Hl1.out, e, List.append_nil, ← HX.out.2]
            rfl : l2 = hdL xs ++ bodL xs)
          have hlt3 : ∀ j, atL l2 j < 256 := by rw [HImg.out]; exact atL_lt (hdL_lt xs)
          have HPs : Hid (Calls Tryz.prog 22 #[.slice (some ⟨g2, 0, none⟩) (2 + 2 + 2) cap2] v2 fun e w' => e = .returned (.int .u16 (smL l2 : Nat)) ∧ v2 = w') := by
            have h1 := H2.out.1.1
            rw [H2.out.2.2.1] at h1
            have h2 := psum_s (some ⟨g2, 0, none⟩) l2.length cap2 (atL l2) hlt3 v2 (by have := H2.out.2.2; omega) (owL_bt h1)
            rw [← H2.out.2.2.1] at h2
            exact (by unfold smL; rw [← H2.out.2.2.1]; exact h2 : Calls Tryz.prog 22 #[.slice (some ⟨g2, 0, none⟩) (2 + 2 + 2) cap2] v2 fun e w' => e = .returned (.int .u16 (smL l2 : Nat)) ∧ v2 = w')
          obtain ⟨SM, hSM, HSM⟩ : ∃ SM, SM < 65536 ∧ Hid (SM = smL l2) := ⟨_, sumF_lt _ hlt3 _, rfl⟩
          rw [← HSM.out] at HPs
          clear hlt3
          go_wp2_with fail
          refine HPs.out.mono ?_
          rintro e wz ⟨rfl, rfl⟩
          clear HPs
          go_wp2_with fail
          refine (HN.out (SM : Int) _ (by omega)).mono ?_
          rintro e n4 ⟨gn4, rfl, nw4, gb4⟩
          have H2' : Hid (St1 w (.slice (some ⟨g2, 0, none⟩) (2 + 2 + 2) cap2) l2 n4 ∧ Kp g bd (.slice (some ⟨g2, 0, none⟩) (2 + 2 + 2) cap2) n4 ∧ (2 + 2 + 2) = l2.length ∧ (2 + 2 + 2) ≤ 30000) := ⟨H2.out.1.later gb4, H2.out.2.1.later gb4, H2.out.2.2.1, by have := H2.out.2.2.2; omega⟩
          have N4 : Hid (Nw n4 gn4 (nbL (SM : Int) 2)) := nw4
          clear gb4 nw4 H2
          go_wp2_with (at_builtin; refine wpList_append_lies _ rfl _ _ 22 rfl w.heap.size 5 i0 (.int .u8 0) 1 1 Tryz.underlying22 hi hz0 hz1 hz2 rfl (by decide) _ (2 + 2 + 2) (cl l2) rfl (by have := H2'.out.1.1; unfold OwL at this; rw [← H2'.out.2.2.1] at this; exact this) ⟨gn4, 0, none⟩ 2 2 (cl (nbL (SM : Int) 2)) rfl ?c6 N4.out ?c2 ?c1 ?c3 ?c4 ?c5 _ rfl ?_)
          case c6 => rw [cl_len, nbL_len]
          case c2 => exact cl_one _
          case c1 => omega
          case c3 => have := H2'.out.2.2.2; unfold maxLen; omega
          case c4 => have := H2'.out.2.2.2; omega
          case c5 => exact H2'.out.1.2.2.2
          intro g5 cap5 v5 hown' hgrow hat hlt'
          obtain ⟨l5, Hl5⟩ : ∃ l : List Nat, Hid (l = l2 ++ (nbL (SM : Int) 2)) := ⟨l2 ++ (nbL (SM : Int) 2), by show _ = _; rfl⟩
          have H5 : Hid (St1 w (.slice (some ⟨g5, 0, none⟩) ((2 + 2 + 2) + 2) cap5) l5 v5 ∧ Kp g bd (.slice (some ⟨g5, 0, none⟩) ((2 + 2 + 2) + 2) cap5) v5 ∧ (2 + 2 + 2) + 2 = l5.length ∧ (2 + 2 + 2) + 2 ≤ 30002) := by
            have e1 : (2 + 2 + 2) + 2 = (l2 ++ (nbL (SM : Int) 2)).length := by rw [List.length_append, ← H2'.out.2.2.1, nbL_len]
            have h1 : OwL v5 w.heap.size (.slice (some ⟨g5, 0, none⟩) (l2 ++ (nbL (SM : Int) 2)).length cap5) (l2 ++ (nbL (SM : Int) 2)) := own_app (by rw [← H2'.out.2.2.1, nbL_len]; exact hown')
            rw [← e1, ← Hl5.out] at h1
            exact ⟨H2'.out.1.gr (gr_step0 hgrow hat) h1, H2'.out.2.1.gr (gr_step0 hgrow hat), by rw [Hl5.out]; exact e1, by have := H2'.out.2.2.2; omega⟩
          clear hown' hgrow hat hlt' H2'
          have K8 : Hid (v5.heap[w.heap.size]? = some (.cells #[.int .i64 0, .int .i64 0] 26 (0, 0)) ∧ Below w.heap.size w v5) := ⟨H5.out.1.2.1.1, H5.out.1.2.2.1⟩
          obtain ⟨p0, p1, q0, q1⟩ := box2 K8.out.1
          have HR := row_put (row_put K8.out.1 0 (.int .i64 0)) 1 (.int .i64 0)
          have HBl : Below w.heap.size w ((v5.setCell ⟨w.heap.size, 0, none⟩ (.int .i64 0)).setCell ⟨w.heap.size, 1, none⟩ (.int .i64 0)) := bel_set (bel_set K8.out.2 (Nat.le_refl _) _ _) (Nat.le_refl _) _ _
          have HFin : Hid (OwL ((v5.setCell ⟨w.heap.size, 0, none⟩ (.int .i64 0)).setCell ⟨w.heap.size, 1, none⟩ (.int .i64 0)) w.heap.size (.slice (some ⟨g5, 0, none⟩) ((2 + 2 + 2) + 2) cap5) LL) := by
            have e : LL = l5 := by rw [HE.out.2.2, Hl5.out]; unfold imgL; rw [← HImg.out, ← HSM.out]
            rw [e]
            have h1 := H5.out.1.1
            have hne := H5.out.1.2.1.2
            exact (World.ownsRow.kept (row := some w.heap.size) (World.ownsRow.kept (row := some w.heap.size) h1 (gb_set18 (gb_refl18 _ _) _ _) (.inr hne)) (gb_set18 (gb_refl18 _ _) _ _) (.inr hne) : OwL _ _ _ _)
          clear K8 H5
          go_wp2
          refine ret_tc rfl rfl rfl (load_all HR _ _ Tryz.underlying26 rfl infoPF) rfl ?_
          exact ⟨_, by rw [HE.out.1, HE.out.2.1]; rfl, HFin.out, HBl⟩
        · have hmp : 0 < m := by omega
          clear hm0
          rw [hZh] at H0
          go_wp2_with fail
          generalize (wr.alloc (.cells #[.int .u8 83, .int .u8 116] 5)) = V0 at H0 ⊢
          have eM : (m : Int) + 8 = (m : Int) + 8 := rfl
          refine (HN.out ((m : Int) + 8) _ (by omega)).mono ?_
          rintro e n1 ⟨gn1, rfl, nw1, gb1⟩
          have H0' : Hid (St1 w (.slice (some ⟨Zh, 0, none⟩) 2 2) [83, 116] n1 ∧ Kp g bd (.slice (some ⟨Zh, 0, none⟩) 2 2) n1 ∧ 2 = ([83, 116] : List Nat).length ∧ 2 ≤ 30000) := ⟨H0.out.1.later gb1, H0.out.2.1.later gb1, rfl, by omega⟩
          have N1 : Hid (Nw n1 gn1 (nbL ((m : Int) + 8) 2)) := nw1
          clear gb1 nw1 H0 eM
          go_wp2_with (at_builtin; refine wpList_append_lies _ rfl _ _ 22 rfl w.heap.size 5 i0 (.int .u8 0) 1 1 Tryz.underlying22 hi hz0 hz1 hz2 rfl (by decide) _ 2 (cl [83, 116]) rfl (by have := H0'.out.1.1; unfold OwL at this; rw [← H0'.out.2.2.1] at this; exact this) ⟨gn1, 0, none⟩ 2 2 (cl (nbL ((m : Int) + 8) 2)) rfl ?c6 N1.out ?c2 ?c1 ?c3 ?c4 ?c5 _ rfl ?_)
          case c6 => rw [cl_len, nbL_len]
          case c2 => exact cl_one _
          case c1 => omega
          case c3 => have := H0'.out.2.2.2; unfold maxLen; omega
          case c4 => have := H0'.out.2.2.2; omega
          case c5 => exact H0'.out.1.2.2.2
          intro g1 cap1 v1 hown' hgrow hat hlt'
          obtain ⟨l1, Hl1⟩ : ∃ l : List Nat, Hid (l = [83, 116] ++ (nbL ((m : Int) + 8) 2)) := ⟨[83, 116] ++ (nbL ((m : Int) + 8) 2), by show _ = _; rfl⟩
          have H1 : Hid (St1 w (.slice (some ⟨g1, 0, none⟩) (2 + 2) cap1) l1 v1 ∧ Kp g bd (.slice (some ⟨g1, 0, none⟩) (2 + 2) cap1) v1 ∧ 2 + 2 = l1.length ∧ 2 + 2 ≤ 30000) := by
            have e1 : 2 + 2 = ([83, 116] ++ (nbL ((m : Int) + 8) 2)).length := by rw [List.length_append, ← H0'.out.2.2.1, nbL_len]
            have h1 : OwL v1 w.heap.size (.slice (some ⟨g1, 0, none⟩) ([83, 116] ++ (nbL ((m : Int) + 8) 2)).length cap1) ([83, 116] ++ (nbL ((m : Int) + 8) 2)) := own_app (by rw [← H0'.out.2.2.1, nbL_len]; exact hown')
            rw [← e1, ← Hl1.out] at h1
            exact ⟨H0'.out.1.gr (gr_step0 hgrow hat) h1, H0'.out.2.1.gr (gr_step0 hgrow hat), by rw [Hl1.out]; exact e1, by have := H0'.out.2.2.2; omega⟩
          clear hown' hgrow hat hlt' H0'
          go_wp2_with fail
          refine (HN.out (n : Int) _ (by omega)).mono ?_
          rintro e n2 ⟨gn2, rfl, nw2, gb2⟩
          have H1' : Hid (St1 w (.slice (some ⟨g1, 0, none⟩) (2 + 2) cap1) l1 n2 ∧ Kp g bd (.slice (some ⟨g1, 0, none⟩) (2 + 2) cap1) n2 ∧ (2 + 2) = l1.length ∧ (2 + 2) ≤ 30000) := ⟨H1.out.1.later gb2, H1.out.2.1.later gb2, H1.out.2.2.1, by have := H1.out.2.2.2; omega⟩
          have N2 : Hid (Nw n2 gn2 (nbL (n : Int) 2)) := nw2
          clear gb2 nw2 H1
          go_wp2_with (at_builtin; refine wpList_append_lies _ rfl _ _ 22 rfl w.heap.size 5 i0 (.int .u8 0) 1 1 Tryz.underlying22 hi hz0 hz1 hz2 rfl (by decide) _ (2 + 2) (cl l1) rfl (by have := H1'.out.1.1; unfold OwL at this; rw [← H1'.out.2.2.1] at this; exact this) ⟨gn2, 0, none⟩ 2 2 (cl (nbL (n : Int) 2)) rfl ?c6 N2.out ?c2 ?c1 ?c3 ?c4 ?c5 _ rfl ?_)
          case c6 => rw [cl_len, nbL_len]
          case c2 => exact cl_one _
          case c1 => omega
          case c3 => have := H1'.out.2.2.2; unfold maxLen; omega
          case c4 => have := H1'.out.2.2.2; omega
          case c5 => exact H1'.out.1.2.2.2
          intro g2 cap2 v2 hown' hgrow hat hlt'
          obtain ⟨l2, Hl2⟩ : ∃ l : List Nat, Hid (l = l1 ++ (nbL (n : Int) 2)) := ⟨l1 ++ (nbL (n : Int) 2), by show _ = _; rfl⟩
          have H2 : Hid (St1 w (.slice (some ⟨g2, 0, none⟩) ((2 + 2) + 2) cap2) l2 v2 ∧ Kp g bd (.slice (some ⟨g2, 0, none⟩) ((2 + 2) + 2) cap2) v2 ∧ (2 + 2) + 2 = l2.length ∧ (2 + 2) + 2 ≤ 30000) := by
            have e1 : (2 + 2) + 2 = (l1 ++ (nbL (n : Int) 2)).length := by rw [List.length_append, ← H1'.out.2.2.1, nbL_len]
            have h1 : OwL v2 w.heap.size (.slice (some ⟨g2, 0, none⟩) (l1 ++ (nbL (n : Int) 2)).length cap2) (l1 ++ (nbL (n : Int) 2)) := own_app (by rw [← H1'.out.2.2.1, nbL_len]; exact hown')
            rw [← e1, ← Hl2.out] at h1
            exact ⟨H1'.out.1.gr (gr_step0 hgrow hat) h1, H1'.out.2.1.gr (gr_step0 hgrow hat), by rw [Hl2.out]; exact e1, by have := H1'.out.2.2.2; omega⟩
          clear hown' hgrow hat hlt' H1'
          go_wp2_with (at_builtin; refine wpList_append_lies _ rfl _ _ 22 rfl w.heap.size 5 i0 (.int .u8 0) 1 1 Tryz.underlying22 hi hz0 hz1 hz2 rfl (by decide) _ (2 + 2 + 2) (cl l2) rfl (by have := H2.out.1.1; unfold OwL at this; rw [← H2.out.2.2.1] at this; exact this) ⟨g, 0, none⟩ m cp (cl bd) rfl ?c6 H2.out.2.1.1 ?c2 ?c1 ?c3 ?c4 ?c5 _ rfl ?_)
          case c6 => rw [cl_len, Hmb.out]; omega
          case c2 => exact cl_one _
          case c1 => omega
          case c3 => have := H2.out.2.2.2; unfold maxLen; omega
          case c4 => have := H2.out.2.2.2; omega
          case c5 => exact H2.out.1.2.2.2
          intro g3 cap3 v3 hown' hgrow hat hlt'
          obtain ⟨l3, Hl3⟩ : ∃ l : List Nat, Hid (l = l2 ++ bd) := ⟨l2 ++ bd, by show _ = _; rfl⟩
          have H3 : Hid (St1 w (.slice (some ⟨g3, 0, none⟩) ((2 + 2 + 2) + m) cap3) l3 v3 ∧ Kp g bd (.slice (some ⟨g3, 0, none⟩) ((2 + 2 + 2) + m) cap3) v3 ∧ (2 + 2 + 2) + m = l3.length ∧ (2 + 2 + 2) + m ≤ 30000) := by
            have e1 : (2 + 2 + 2) + m = (l2 ++ bd).length := by rw [List.length_append, ← H2.out.2.2.1, ← Hmb.out]
            have h1 : OwL v3 w.heap.size (.slice (some ⟨g3, 0, none⟩) (l2 ++ bd).length cap3) (l2 ++ bd) := own_app (by rw [← H2.out.2.2.1, ← Hmb.out]; exact hown')
            rw [← e1, ← Hl3.out] at h1
            exact ⟨H2.out.1.gr (gr_step0 hgrow hat) h1, H2.out.2.1.gr (gr_step0 hgrow hat), by rw [Hl3.out]; exact e1, by have := H2.out.2.2.2; omega⟩
          clear hown' hgrow hat hlt' H2
          have HImg : Hid (l3 = hdL xs ++ bodL xs) := (by
            unfold hdL
            rw [Hl3.out, Hl2.out, Hl1.out, ← Hbd.out, ← Hmb.out, ← HX.out.2] : l3 = hdL xs ++ bodL xs)
          have hlt3 : ∀ j, atL l3 j < 256 := by rw [HImg.out]; exact atL_lt (hdL_lt xs)
          have HPs : Hid (Calls Tryz.prog 22 #[.slice (some ⟨g3, 0, none⟩) (2 + 2 + 2 + m) cap3] v3 fun e w' => e = .returned (.int .u16 (smL l3 : Nat)) ∧ v3 = w') := by
            have h1 := H3.out.1.1
            rw [H3.out.2.2.1] at h1
            have h2 := psum_s (some ⟨g3, 0, none⟩) l3.length cap3 (atL l3) hlt3 v3 (by have := H3.out.2.2; omega) (owL_bt h1)
            rw [← H3.out.2.2.1] at h2
            exact (by unfold smL; rw [← H3.out.2.2.1]; exact h2 : Calls Tryz.prog 22 #[.slice (some ⟨g3, 0, none⟩) (2 + 2 + 2 + m) cap3] v3 fun e w' => e = .returned (.int .u16 (smL l3 : Nat)) ∧ v3 = w')
          obtain ⟨SM, hSM, HSM⟩ : ∃ SM, SM < 65536 ∧ Hid (SM = smL l3) := ⟨_, sumF_lt _ hlt3 _, rfl⟩
          rw [← HSM.out] at HPs
          clear hlt3
          go_wp2_with fail
          refine HPs.out.mono ?_
          rintro e wz ⟨rfl, rfl⟩
          clear HPs
          go_wp2_with fail
          refine (HN.out (SM : Int) _ (by omega)).mono ?_
          rintro e n4 ⟨gn4, rfl, nw4, gb4⟩
          have H3' : Hid (St1 w (.slice (some ⟨g3, 0, none⟩) (2 + 2 + 2 + m) cap3) l3 n4 ∧ Kp g bd (.slice (some ⟨g3, 0, none⟩) (2 + 2 + 2 + m) cap3) n4 ∧ (2 + 2 + 2 + m) = l3.length ∧ (2 + 2 + 2 + m) ≤ 30000) := ⟨H3.out.1.later gb4, H3.out.2.1.later gb4, H3.out.2.2.1, by have := H3.out.2.2.2; omega⟩
          have N4 : Hid (Nw n4 gn4 (nbL (SM : Int) 2)) := nw4
          clear gb4 nw4 H3
          go_wp2_with (at_builtin; refine wpList_append_lies _ rfl _ _ 22 rfl w.heap.size 5 i0 (.int .u8 0) 1 1 Tryz.underlying22 hi hz0 hz1 hz2 rfl (by decide) _ (2 + 2 + 2 + m) (cl l3) rfl (by have := H3'.out.1.1; unfold OwL at this; rw [← H3'.out.2.2.1] at this; exact this) ⟨gn4, 0, none⟩ 2 2 (cl (nbL (SM : Int) 2)) rfl ?c6 N4.out ?c2 ?c1 ?c3 ?c4 ?c5 _ rfl ?_)
          case c6 => rw [cl_len, nbL_len]
          case c2 => exact cl_one _
          case c1 => omega
          case c3 => have := H3'.out.2.2.2; unfold maxLen; omega
          case c4 => have := H3'.out.2.2.2; omega
          case c5 => exact H3'.out.1.2.2.2
          intro g5 cap5 v5 hown' hgrow hat hlt'
          obtain ⟨l5, Hl5⟩ : ∃ l : List Nat, Hid (l = l3 ++ (nbL (SM : Int) 2)) := ⟨l3 ++ (nbL (SM : Int) 2), by show _ = _; rfl⟩
          have H5 : Hid (St1 w (.slice (some ⟨g5, 0, none⟩) ((2 + 2 + 2 + m) + 2) cap5) l5 v5 ∧ Kp g bd (.slice (some ⟨g5, 0, none⟩) ((2 + 2 + 2 + m) + 2) cap5) v5 ∧ (2 + 2 + 2 + m) + 2 = l5.length ∧ (2 + 2 + 2 + m) + 2 ≤ 30002) := by
            have e1 : (2 + 2 + 2 + m) + 2 = (l3 ++ (nbL (SM : Int) 2)).length := by rw [List.length_append, ← H3'.out.2.2.1, nbL_len]
            have h1 : OwL v5 w.heap.size (.slice (some ⟨g5, 0, none⟩) (l3 ++ (nbL (SM : Int) 2)).length cap5) (l3 ++ (nbL (SM : Int) 2)) := own_app (by rw [← H3'.out.2.2.1, nbL_len]; exact hown')
            rw [← e1, ← Hl5.out] at h1
            exact ⟨H3'.out.1.gr (gr_step0 hgrow hat) h1, H3'.out.2.1.gr (gr_step0 hgrow hat), by rw [Hl5.out]; exact e1, by have := H3'.out.2.2.2; omega⟩
          clear hown' hgrow hat hlt' H3'
          have K8 : Hid (v5.heap[w.heap.size]? = some (.cells #[.int .i64 0, .int .i64 0] 26 (0, 0)) ∧ Below w.heap.size w v5) := ⟨H5.out.1.2.1.1, H5.out.1.2.2.1⟩
          obtain ⟨p0, p1, q0, q1⟩ := box2 K8.out.1
          have HR := row_put (row_put K8.out.1 0 (.int .i64 0)) 1 (.int .i64 0)
          have HBl : Below w.heap.size w ((v5.setCell ⟨w.heap.size, 0, none⟩ (.int .i64 0)).setCell ⟨w.heap.size, 1, none⟩ (.int .i64 0)) := bel_set (bel_set K8.out.2 (Nat.le_refl _) _ _) (Nat.le_refl _) _ _
          have HFin : Hid (OwL ((v5.setCell ⟨w.heap.size, 0, none⟩ (.int .i64 0)).setCell ⟨w.heap.size, 1, none⟩ (.int .i64 0)) w.heap.size (.slice (some ⟨g5, 0, none⟩) ((2 + 2 + 2 + m) + 2) cap5) LL) := by
            have e : LL = l5 := by rw [HE.out.2.2, Hl5.out]; unfold imgL; rw [← HImg.out, ← HSM.out]
            rw [e]
            have h1 := H5.out.1.1
            have hne := H5.out.1.2.1.2
            exact (World.ownsRow.kept (row := some w.heap.size) (World.ownsRow.kept (row := some w.heap.size) h1 (gb_set18 (gb_refl18 _ _) _ _) (.inr hne)) (gb_set18 (gb_refl18 _ _) _ _) (.inr hne) : OwL _ _ _ _)
          clear K8 H5
          go_wp2
          refine ret_tc rfl rfl rfl (load_all HR _ _ Tryz.underlying26 rfl infoPF) rfl ?_
          exact ⟨_, by rw [HE.out.1, HE.out.2.1]; rfl, HFin.out, HBl⟩
end Go.Proofs.YtcihplachlokiaaGreatDoor
/- The reader of images: the program's take and tell. -/
namespace Go.Proofs.YtcihplachlokiaaGreatDoor
open Go.RowKit Go.Shelf
set_option linter.unusedVariables false
set_option linter.unusedSimpArgs false

/-- What is still to be read, and which instruction that is. -/
def Rd (R : Nat) (r : List Nat) (at' : Int) (W : World) : Prop :=
  ∃ (a : Option Addr) (cap : Nat), W.heap[R]? = some (.cells #[.slice a r.length cap, .int .i64 at'] 55 (0, 0)) ∧ Bt W a r.length (atL r) ∧ r.length < cap ∧ (∀ g o, a = some ⟨g, o, none⟩ → g < R)
/-- What is told by a panic. -/
def tld (c : Int) (at' : Int) : Ending := .panicked [{ v := .iface 26 (.agg #[.int .i64 c, .int .i64 at']), recovered := false }]
theorem Rd.lt {R : Nat} {r : List Nat} {at' : Int} {W : World} (h : Rd R r at' W) : R < W.heap.size := by
  obtain ⟨a, cap, h1, _⟩ := h
  exact (Array.getElem?_eq_some_iff.1 h1).1
theorem Rd.later {R : Nat} {r : List Nat} {at' : Int} {W W' : World} (h : Rd R r at' W) (g : Below W.heap.size W W') : Rd R r at' W' := by
  obtain ⟨a, cap, h1, h2, h3, h4⟩ := h
  exact ⟨a, cap, (g.block _ (Array.getElem?_eq_some_iff.1 h1).1).trans h1, h2.later g (Nat.le_refl _), h3, h4⟩
/-- Blocks behind the reader may grow and change. -/
theorem Rd.gr {R : Nat} {r : List Nat} {at' : Int} {W W' : World} {row : Option Nat} (h : Rd R r at' W) (g : W.grownBy W' row) (hR : ∀ b, row = some b → R < b) : Rd R r at' W' := by
  obtain ⟨a, cap, h1, h2, h3, h4⟩ := h
  refine ⟨a, cap, (g.block _ (Array.getElem?_eq_some_iff.1 h1).1 (fun e => by have := hR R e.symm; omega)).trans h1, ?_, h3, h4⟩
  rcases h2 with h2 | ⟨b, o, e1, e2, e3⟩
  · exact .inl h2
  · exact .inr ⟨b, o, e1, Nat.lt_of_lt_of_le e2 g.size, fun j hj => (g.cell_far (a := ⟨b, o + j, none⟩) e2 (fun e => by have := hR b e.symm; have := h4 b o e1; omega)).trans (e3 j hj)⟩
theorem Rd.set {R : Nat} {r : List Nat} {at' : Int} {W : World} (h : Rd R r at' W) (b o : Nat) (v : Value) (hb : R < b) : Rd R r at' (W.setCell ⟨b, o, none⟩ v) :=
  h.gr (row := some b) (gb_set18 (gb_refl18 W (some b)) o v) (fun x hx => by cases hx; exact hb)
theorem gb_setR {w : World} {R : Nat} (o : Nat) (v : Value) : w.grownBy (w.setCell ⟨R, o, none⟩ v) (some R) := gb_set18 (gb_refl18 w (some R)) o v
theorem gb_step18 {w a b : World} {g : Nat} (h : w.grownBy a (some g)) (k : a.grownBy b (some g)) : w.grownBy b (some g) :=
  ⟨k.os.trans h.os, k.tape.trans h.tape, k.output.trans h.output, Nat.le_trans h.size k.size, fun i hi hne => (k.block i (Nat.lt_of_lt_of_le hi h.size) hne).trans (h.block i hi hne)⟩

set_option maxHeartbeats 400000 in
theorem tell_i (R : Nat) (r : List Nat) (at' c : Int) (w : World) (h : Rd R r at' w) :
    Calls Tryz.prog 48 #[.pointer (some ⟨R, 0, none⟩), .int .i64 c] w fun e w' => e = tld c at' ∧ w = w' := by
  obtain ⟨a, cap, h1, _⟩ := h
  have p1 : w.cell? ⟨R, 1, none⟩ = some (.int .i64 at') := (cell_of_row _ _ _ _ _ _ h1).trans rfl
  have HQ : Hid (tld c at' = .panicked [{ v := .iface 26 (.agg #[.int .i64 c, .int .i64 at']), recovered := false }]) := rfl
  clear h1
  go_enter Tryz.func48, Tryz.ntmps48
  go_wp2
  exact ⟨rfl, HQ.out.symm, rfl⟩

set_option maxHeartbeats 400000 in
theorem take_no (R : Nat) (at' : Int) (w : World) (h : Rd R [] at' w) :
    Calls Tryz.prog 78 #[.pointer (some ⟨R, 0, none⟩)] w fun e w' => e = tld 6 at' ∧ w = w' := by
  have HT : Hid (Calls Tryz.prog 48 #[.pointer (some ⟨R, 0, none⟩), .int .i64 6] w fun e w' => e = tld 6 at' ∧ w = w') := tell_i R [] at' 6 w h
  obtain ⟨a, cap, h1, _⟩ := h
  have p0 : w.cell? ⟨R, 0, none⟩ = some (.slice a 0 cap) := (cell_of_row _ _ _ _ _ _ h1).trans rfl
  have HQ : Hid (tld 6 at' = .panicked [{ v := .iface 26 (.agg #[.int .i64 6, .int .i64 at']), recovered := false }]) := rfl
  clear h1
  go_enter Tryz.func78, Tryz.ntmps78
  go_wp2_with fail
  refine HT.out.mono ?_
  rintro e w1 ⟨rfl, rfl⟩
  unfold tld
  go_wp2
  exact ⟨rfl, rfl, rfl⟩

set_option maxHeartbeats 1000000 in
theorem take_ok (R : Nat) (b : Nat) (r : List Nat) (at' : Int) (w : World) (hb : b < 256) (h : Rd R (b :: r) at' w) :
    Calls Tryz.prog 78 #[.pointer (some ⟨R, 0, none⟩)] w fun e w' => e = .returned (.int .u16 (b : Nat)) ∧ Rd R r at' w' ∧ w.grownBy w' (some R) := by
  obtain ⟨a, cap, h1, h2, h3, h4⟩ := h
  obtain ⟨g, o, rfl, hg, hc⟩ : ∃ g o, a = some ⟨g, o, none⟩ ∧ g < w.heap.size ∧ ∀ j, j < (b :: r).length → w.cell? ⟨g, o + j, none⟩ = some (.int .u8 (atL (b :: r) j : Nat)) := by
    rcases h2 with h2 | h2
    · simp at h2
    · exact h2
  have p0 : w.cell? ⟨R, 0, none⟩ = some (.slice (some ⟨g, o, none⟩) (b :: r).length cap) := (cell_of_row _ _ _ _ _ _ h1).trans rfl
  have q0 : w.frozen? ⟨R, 0, none⟩ = false := by simp [World.frozen?, h1]
  have c0 : w.cell? ⟨g, o, none⟩ = some (.int .u8 (b : Nat)) := hc 0 (by simp)
  have hne := h4 g o rfl
  have hne' : g ≠ R := by omega
  obtain ⟨n, hn⟩ : ∃ n, r.length = n := ⟨_, rfl⟩
  have hl : (b :: r).length = n + 1 := by rw [List.length_cons, hn]
  rw [hl] at p0 h3
  have HF : Hid (∀ x, x = Value.slice (some ⟨g, o + 1, none⟩) n (cap - 1) → Rd R r at' (w.setCell ⟨R, 0, none⟩ x) ∧ w.grownBy (w.setCell ⟨R, 0, none⟩ x) (some R)) := (fun x hx => by
    subst hx
    refine ⟨⟨some ⟨g, o + 1, none⟩, cap - 1, ?_, ?_, by omega, fun g' o' e => ?_⟩, gb_setR _ _⟩
    · have := row_put h1 0 (.slice (some ⟨g, o + 1, none⟩) n (cap - 1))
      rw [hn]
      exact this
    · refine .inr ⟨g, o + 1, rfl, by simpa using hg, fun j hj => ?_⟩
      rw [World.cell?_setCell_other _ _ _ _ (by simp [hne'])]
      have := hc (j + 1) (by rw [hl]; omega)
      rw [show o + 1 + j = o + (j + 1) by omega, this]
      rfl
    · simp only [Option.some.injEq, Addr.mk.injEq] at e; rw [← e.1]; exact hne : ∀ x, x = Value.slice (some ⟨g, o + 1, none⟩) n (cap - 1) → Rd R r at' (w.setCell ⟨R, 0, none⟩ x) ∧ w.grownBy (w.setCell ⟨R, 0, none⟩ x) (some R))
  have e1 : ¬ ((n : Int) + 1 = 0) := by omega
  have e2 : ((n : Int) + 1 == 0) = false := by simp; omega
  have e3 : ¬ cap = 1 := by omega
  have e4 : ¬ (cap - 1 = 0) := by omega
  clear hc hn hl h1 h2
  go_enter Tryz.func78, Tryz.ntmps78
  go_wp2
  go_ret
  exact ⟨rfl, HF.out _ rfl⟩
end Go.Proofs.YtcihplachlokiaaGreatDoor
