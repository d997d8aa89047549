/- Nets put together by the program: normFold over two nets, normJoin. -/
import Derived.Test.YtkppcmpdghnmgaaDoorCfM
import Derived.Laws.CopyOwn
namespace Go.Proofs.YtkppcmpdghnmgaaDoor
open Go.RowKit
set_option linter.unusedVariables false

/-- Which blocks may belong to the first so many of two nets put together. -/
def Fp (H : Nat) (f1 f2 : List Nat) (i b : Nat) : Prop := (1 ≤ i ∧ b ∈ f1) ∨ (2 ≤ i ∧ b ∈ f2) ∨ H ≤ b
def tsO (kind : Int) (t1 t2 : NetT) (i : Nat) : List NetT := if i = 0 then [] else if i = 1 then opn kind t1 else opn kind t1 ++ opn kind t2
/-- Where the fold stands. -/
def FoldAt (w : World) (base n : Nat) (kind : Int) (t1 t2 : NetT) (f1 f2 : List Nat) (i : Nat) (a : Option Addr) (m cp : Nat) (wr : World) : Prop :=
  ∃ F, m = (tsO kind t1 t2 i).length ∧ RowOwn wr base 29 4 (NetOwn wr base n) F (.slice a m cp) (tsO kind t1 t2 i) ∧ F.Nodup ∧ (∀ b ∈ F, Fp w.heap.size f1 f2 i b) ∧ (∀ j, (Value.slice a m cp).ownBlock = some j → w.heap.size ≤ j) ∧ Below w.heap.size w wr
/-- What the fold asks of one of the two. -/
def OneAt (w : World) (base n : Nat) (kind : Int) (t1 t2 : NetT) (f1 f2 : List Nat) (sb i : Nat) : Prop :=
  ∃ (t : NetT) (f : List Nat) (k op : Int) (a1 : Option Addr) (l1 c1 : Nat) (a2 : Option Addr) (l2 c2 : Nat), (∀ W, Below w.heap.size w W → (loadVar 29 ⟨sb, i * 4, none⟩).run Tryd.prog W = .ok (.agg #[.int .i64 k, .int .i64 op, .slice a1 l1 c1, .slice a2 l2 c2]) W) ∧ NetOwn w base n f t [.int .i64 k, .int .i64 op, .slice a1 l1 c1, .slice a2 l2 c2] ∧ OkN t ∧ f.Nodup ∧ tsO kind t1 t2 (i + 1) = tsO kind t1 t2 i ++ opn kind t ∧ (∀ b ∈ f, ¬ Fp w.heap.size f1 f2 i b) ∧ (∀ b ∈ f, Fp w.heap.size f1 f2 (i + 1) b)
theorem Fp.succ {H : Nat} {f1 f2 : List Nat} {i b : Nat} (h : Fp H f1 f2 i b) : Fp H f1 f2 (i + 1) b := by
  rcases h with ⟨h1, h2⟩ | ⟨h1, h2⟩ | h
  · exact .inl ⟨by omega, h2⟩
  · exact .inr (.inl ⟨by omega, h2⟩)
  · exact .inr (.inr h)
def JoinR (w : World) (base n : Nat) (f1 f2 : List Nat) (ts : List NetT) (e : Ending) (w' : World) : Prop :=
  ∃ (a : Option Addr) (cap1 m : Nat) (F' : List Nat), e = .returned (.slice a m cap1) ∧ m = ts.length ∧ RowOwn w' base 29 4 (NetOwn w' base n) F' (.slice a m cap1) ts ∧ F'.Nodup ∧ (∀ b ∈ F', b ∈ f1 ∨ b ∈ f2 ∨ w.heap.size ≤ b) ∧ Below w.heap.size w w'

set_option maxRecDepth 10000 in
set_option maxHeartbeats 4000000 in
theorem jfold_i (base n fb sb : Nat) (kind : Int) (t1 t2 : NetT) (f1 f2 : List Nat) (w : World) (hk : kind = 2 ∨ kind = 3) (hf : w.cell? ⟨fb, 0, none⟩ = some (.int .i64 kind)) (h0 : OneAt w base n kind t1 t2 f1 f2 sb 0) (h1 : OneAt w base n kind t1 t2 f1 f2 sb 1) (hbig : (tsO kind t1 t2 1).length ≤ 1048576 ∧ (tsO kind t1 t2 2).length ≤ 1048576) (hb : base ≤ w.heap.size) :
    Calls Tryd.prog 72 #[.slice (some ⟨sb, 0, none⟩) 2 2, .slice none 0 0, .func (.func 73) #[] #[.pointer (some ⟨fb, 0, none⟩)]] w fun e w' => JoinR w base n f1 f2 (opn kind t1 ++ opn kind t2) e w' := by
  have HX : Hid (∀ i, i < 2 → OneAt w base n kind t1 t2 f1 f2 sb i ∧ (tsO kind t1 t2 (i + 1)).length ≤ 1048576) := fun i hi => by
    rcases (by omega : i = 0 ∨ i = 1) with rfl | rfl
    · exact ⟨h0, hbig.1⟩
    · exact ⟨h1, hbig.2⟩
  have HFn : Hid (w.cell? ⟨fb, 0, none⟩ = some (.int .i64 kind) ∧ fb < w.heap.size) := ⟨hf, World.block_lt_of_cell? _ _ hf⟩
  have HST : Hid (FoldAt w base n kind t1 t2 f1 f2 0 none 0 0 w) := ⟨[], rfl, RowOwn.nil _ _ _ _ _, List.nodup_nil, fun b hb => by simp at hb, fun j hj => by simp [Value.ownBlock] at hj, Below.refl _ _⟩
  clear h0 h1 hbig hf
  go_enter Tryd.func72, Tryd.ntmps72
  go_wp2
  go_loopg [1, 11] 2 (fun gg into i wr => ∃ (n1 m cp : Nat) (ia : Option Addr), n1 + gg = 2 ∧ i = .int .i64 n1 ∧ into = .slice ia m cp ∧ Hid (FoldAt w base n kind t1 t2 f1 f2 n1 ia m cp wr))
  case atStart => exact ⟨0, 0, 0, none, by omega, rfl, rfl, HST⟩
  case round =>
    obtain ⟨i, m, cp, ia, hn, rfl, rfl, HS⟩ := hrel
    by_cases hlt : i < 2
    · have i1 : (i : Int) < 2 := by omega
      have i3 : (0 : Int) ≤ (i : Int) := by omega
      obtain ⟨⟨t, f, k, op, a1, l1, c1, a2, l2, c2, hL, hN, hok, hfn, hts, hnf, hsf⟩, hlen⟩ := HX.out i hlt
      obtain ⟨F, hm, hR, hnd, hFp, hob, hB⟩ := HS.out
      have HLd : Hid ((loadVar 29 ⟨sb, i * 4, none⟩).run Tryd.prog wr = .ok (.agg #[.int .i64 k, .int .i64 op, .slice a1 l1 c1, .slice a2 l2 c2]) wr) := hL wr hB
      have gA : Below wr.heap.size wr (wr.alloc (.cells #[.int .i64 k, .int .i64 op, .slice a1 l1 c1, .slice a2 l2 c2] 29)) := (Below.refl _ _).alloc (Nat.le_refl _) _
      have BA : Below w.heap.size w (wr.alloc (.cells #[.int .i64 k, .int .i64 op, .slice a1 l1 c1, .slice a2 l2 c2] 29)) := hB.alloc hB.size _
      have HCl : Hid (Calls Tryd.prog 73 #[.slice ia m cp, .agg #[.int .i64 k, .int .i64 op, .slice a1 l1 c1, .slice a2 l2 c2], .pointer (some ⟨fb, 0, none⟩)] (wr.alloc (.cells #[.int .i64 k, .int .i64 op, .slice a1 l1 c1, .slice a2 l2 c2] 29)) fun e w' => TakeR (wr.alloc (.cells #[.int .i64 k, .int .i64 op, .slice a1 l1 c1, .slice a2 l2 c2] 29)) base n (Value.slice ia m cp).ownBlock F f (tsO kind t1 t2 i ++ opn kind t) e w') :=
        jtake_i base n fb kind ia m cp (tsO kind t1 t2 i) F k op a1 l1 c1 a2 l2 c2 t f _ hk ((Keeps.of_below BA 0) _ _ _ (Nat.zero_le _) HFn.out.1) hm (RowOwn.move (row := none) hR (gbb gA) (fun _ _ => by simp) (fun f x c _ h => NetOwn.later (Nat.le_refl _) h gA)) hnd (hN.later (Nat.le_refl _) BA) hfn (fun b hb hF => hnf b hb (hFp b hF)) hok (by rw [hts, List.length_append] at hlen; exact hlen) (by have := BA.size; omega)
      have HLA : Hid ((loadVar 29 ⟨wr.heap.size, 0, none⟩).run Tryd.prog (wr.alloc (.cells #[.int .i64 k, .int .i64 op, .slice a1 l1 c1, .slice a2 l2 c2] 29)) = .ok (.agg #[.int .i64 k, .int .i64 op, .slice a1 l1 c1, .slice a2 l2 c2]) (wr.alloc (.cells #[.int .i64 k, .int .i64 op, .slice a1 l1 c1, .slice a2 l2 c2] 29))) := load_all (heap_alloc_last wr _) _ _ Tryd.underlying29 rfl (by kernel_rfl)
      have HFin : Hid (∀ e w5, TakeR (wr.alloc (.cells #[.int .i64 k, .int .i64 op, .slice a1 l1 c1, .slice a2 l2 c2] 29)) base n (Value.slice ia m cp).ownBlock F f (tsO kind t1 t2 i ++ opn kind t) e w5 → ∃ g1 cap1 m1, e = .returned (.slice (some ⟨g1, 0, none⟩) m1 cap1) ∧ FoldAt w base n kind t1 t2 f1 f2 (i + 1) (some ⟨g1, 0, none⟩) m1 cap1 w5) := by
        rintro e w5 ⟨g1, cap1, m1, F', rfl, hm1, hR1, hn1, hF1, hg1, hat1⟩
        have hs0 : w.heap.size ≤ (wr.alloc (.cells #[.int .i64 k, .int .i64 op, .slice a1 l1 c1, .slice a2 l2 c2] 29)).heap.size := BA.size
        refine ⟨g1, cap1, m1, rfl, F', by rw [hts]; exact hm1, by rw [hts]; exact hR1, hn1, fun b hb => ?_, fun j hj => ?_, BA.grown hg1 BA.size (fun j hj => hob j hj)⟩
        · rcases hF1 b hb with h | h | h
          · exact (hFp b h).succ
          · exact hsf b h
          · exact .inr (.inr (by omega))
        · simp [Value.ownBlock] at hj
          subst hj
          rcases hat1 with h | h
          · exact hob _ h
          · omega
      clear hL hN hok hfn hts hnf hsf hlen hm hR hnd hFp hob hB gA BA HS
      go_wp2_with (first | (refine wpL_load rfl 29 _ rfl _ _ rfl _ HLd.out ?_) | (refine wpL_load rfl 29 _ rfl _ _ rfl _ HLA.out ?_) | fail)
      refine HCl.out.mono ?_
      intro e w5 hT
      obtain ⟨g1, cap1, m1, rfl, hA⟩ := HFin.out e w5 hT
      have HA : Hid (FoldAt w base n kind t1 t2 f1 f2 (i + 1) (some ⟨g1, 0, none⟩) m1 cap1 w5) := hA
      clear hA hT HFin HCl HLA HLd
      go_wp2
      go_roundg (gk - 1)
      case measure => omega
      case rel => exact ⟨i + 1, m1, cap1, some ⟨g1, 0, none⟩, by omega, by simp, rfl, HA⟩
    · have i1 : ¬ ((i : Int) < 2) := by omega
      have hi2 : i = 2 := by omega
      subst hi2
      have HF : Hid (JoinR w base n f1 f2 (opn kind t1 ++ opn kind t2) (.returned (.slice ia m cp)) wr) := by
        obtain ⟨F, hm, hR, hnd, hFp, hob, hB⟩ := HS.out
        refine ⟨ia, cp, m, F, rfl, hm, hR, hnd, fun b hb => ?_, hB⟩
        rcases hFp b hb with h | h | h
        · exact .inl h.2
        · exact .inr (.inl h.2)
        · exact .inr (.inr h)
      clear HS
      go_wp2
      go_ret
      exact HF.out

/-- What putting two nets together leaves. -/
def PutR (w : World) (base n : Nat) (f1 f2 : List Nat) (t : NetT) (e : Ending) (w' : World) : Prop :=
  ∃ (k op : Int) (a1 : Option Addr) (l1 c1 : Nat) (a2 : Option Addr) (l2 c2 : Nat) (F' : List Nat), e = .returned (.agg #[.int .i64 k, .int .i64 op, .slice a1 l1 c1, .slice a2 l2 c2]) ∧ NetOwn w' base n F' t [.int .i64 k, .int .i64 op, .slice a1 l1 c1, .slice a2 l2 c2] ∧ F'.Nodup ∧ (∀ b ∈ F', b ∈ f1 ∨ b ∈ f2 ∨ w.heap.size ≤ b) ∧ Below w.heap.size w w'

set_option maxRecDepth 10000 in
set_option maxHeartbeats 4000000 in
theorem join_i (base n sb : Nat) (kind : Int) (t1 t2 : NetT) (f1 f2 : List Nat) (w : World) (hk : kind = 2 ∨ kind = 3) (h0 : OneAt w base n kind t1 t2 f1 f2 sb 0) (h1 : OneAt w base n kind t1 t2 f1 f2 sb 1) (hO1 : OkN t1) (hO2 : OkN t2) (hfl : (∀ b ∈ f1, b < w.heap.size) ∧ ∀ b ∈ f2, b < w.heap.size) (hbig : (opn kind t1).length + (opn kind t2).length ≤ 1048576) (hb : base ≤ w.heap.size) :
    Calls Tryd.prog 62 #[.int .i64 kind, .slice (some ⟨sb, 0, none⟩) 2 2] w fun e w' => PutR w base (n + 1) f1 f2 (jnT kind t1 t2) e w' := by
  have hmv : ∀ W i, Below w.heap.size w W → OneAt w base n kind t1 t2 f1 f2 sb i → OneAt W base n kind t1 t2 f1 f2 sb i := fun W i g h => by
    obtain ⟨t, f, k, op, a1, l1, c1, a2, l2, c2, hL, hN, hok, hfn, hts, hnf, hsf⟩ := h
    have hfl := NetOwn.lt n f t _ hN
    have hs := g.size
    refine ⟨t, f, k, op, a1, l1, c1, a2, l2, c2, fun W' g' => hL W' (g.trans (g'.mono hs)), hN.later (Nat.le_refl _) g, hok, hfn, hts, fun b hb hp => ?_, fun b hb => ?_⟩
    · rcases hp with hp | hp | hp
      · exact hnf b hb (.inl hp)
      · exact hnf b hb (.inr (.inl hp))
      · have := hfl b hb; omega
    · rcases hsf b hb with hp | hp | hp
      · exact .inl hp
      · exact .inr (.inl hp)
      · have := hfl b hb; omega
  obtain ⟨W0, HW0⟩ : ∃ W, W = (w.alloc (.cells #[.int .i64 kind] 3)).alloc (.cells #[.int .i64 0, .int .i64 0, .slice none 0 0, .slice none 0 0] 29) := ⟨_, rfl⟩
  have b0 : Below w.heap.size w W0 := by rw [HW0]; exact two_below' _ _
  have s0 : W0.heap.size = w.heap.size + 2 := by rw [HW0]; simp
  obtain ⟨r1, r2⟩ := rows2 w (.cells #[.int .i64 kind] 3) (.cells #[.int .i64 0, .int .i64 0, .slice none 0 0, .slice none 0 0] 29)
  rw [← HW0] at r1 r2
  have HCl : Hid (Calls Tryd.prog 72 #[.slice (some ⟨sb, 0, none⟩) 2 2, .slice none 0 0, .func (.func 73) #[] #[.pointer (some ⟨w.heap.size, 0, none⟩)]] W0 fun e w' => JoinR W0 base n f1 f2 (opn kind t1 ++ opn kind t2) e w') :=
    jfold_i base n w.heap.size sb kind t1 t2 f1 f2 W0 hk ((cell_of_row _ _ _ _ _ _ r1).trans rfl) (hmv W0 0 b0 h0) (hmv W0 1 b0 h1) ⟨by show (opn kind t1).length ≤ _; omega, by show (opn kind t1 ++ opn kind t2).length ≤ _; rw [List.length_append]; omega⟩ (by omega)
  have hl2 : 2 ≤ (opn kind t1 ++ opn kind t2).length := by have := opn_pos hk hO1; have := opn_pos hk hO2; rw [List.length_append]; omega
  clear h0 h1 hmv hO1 hO2 hbig
  have HB : Hid (Below w.heap.size w W0 ∧ W0.heap.size = w.heap.size + 2 ∧ W0.heap[w.heap.size]? = some (.cells #[.int .i64 kind] 3 (0, 0)) ∧ W0.heap[w.heap.size + 1]? = some (.cells #[.int .i64 0, .int .i64 0, .slice none 0 0, .slice none 0 0] 29 (0, 0))) := ⟨b0, s0, r1, r2⟩
  clear b0 s0 r1 r2
  subst HW0
  go_enter Tryd.func62, Tryd.ntmps62
  go_wp2_with fail
  refine HCl.out.mono ?_
  rintro e w2 ⟨a, cap1, m, F', rfl, hm, hR, hnd, hF, g2⟩
  have i1 : ((m : Int) == 1) = false := by simp; omega
  obtain ⟨b0, s0, r1, r2⟩ := HB.out
  have k1 : w2.heap[w.heap.size]? = some (.cells #[.int .i64 kind] 3 (0, 0)) := (g2.block _ (by omega)).trans r1
  have k2 : w2.heap[w.heap.size + 1]? = some (.cells #[.int .i64 0, .int .i64 0, .slice none 0 0, .slice none 0 0] 29 (0, 0)) := (g2.block _ (by omega)).trans r2
  have c1 : w2.cell? ⟨w.heap.size, 0, none⟩ = some (.int .i64 kind) := (cell_of_row _ _ _ _ _ _ k1).trans rfl
  have hml : m ≤ 9223372036854775807 := by
    obtain ⟨_, _, e, hl, _⟩ := RowOwn.is (lo := 0) hR (Nat.zero_le _) (R' := fun _ _ => True) (fun _ _ _ _ => trivial)
    rw [hm]; exact hl
  obtain ⟨W3, HW3⟩ : ∃ W, Hid (W = w2.setRow (w.heap.size + 1) #[.int .i64 kind, .int .i64 0, .slice none 0 0, .slice a m cap1]) := ⟨_, rfl⟩
  have HSt : Hid ((storeVar 29 ⟨w.heap.size + 1, 0, none⟩ (.agg #[.int .i64 kind, .int .i64 0, .slice none 0 0, .slice a m cap1])).run Tryd.prog w2 = .ok () W3) := by
    show (storeVar 29 ⟨w.heap.size + 1, 0, none⟩ (.agg #[.int .i64 kind, .int .i64 0, .slice none 0 0, .slice a m cap1])).run Tryd.prog w2 = .ok () W3
    rw [HW3.out]
    exact store_all k2 _ _ rfl (by kernel_rfl) (by simp [Value.oneCell'])
  have HR3 : Hid (W3.heap[w.heap.size + 1]? = some (.cells #[.int .i64 kind, .int .i64 0, .slice none 0 0, .slice a m cap1] 29 (0, 0))) := by
    show W3.heap[w.heap.size + 1]? = _
    rw [HW3.out]; exact row_set k2 _
  have HF : Hid (PutR w base (n + 1) f1 f2 (jnT kind t1 t2) (.returned (.agg #[.int .i64 kind, .int .i64 0, .slice none 0 0, .slice a m cap1])) W3) := by
    have hRl := hR.ltN
    have hgr : w2.grownBy W3 (some (w.heap.size + 1)) := by rw [HW3.out]; exact gb_row w2 (w.heap.size + 1) _
    have hne : ∀ b ∈ F', some b ≠ some (w.heap.size + 1) := fun b hb e => by
      simp at e
      subst e
      rcases hF _ hb with h | h | h
      · have := hfl.1 _ h; omega
      · have := hfl.2 _ h; omega
      · omega
    refine ⟨kind, 0, none, 0, 0, a, m, cap1, F', rfl, ⟨.slice none 0 0, .slice a m cap1, [], F', rfl, rfl, RowOwn.nil _ _ _ _ _, ?_⟩, hnd, fun b hb => ?_, ?_⟩
    · exact RowOwn.move hR hgr hne (fun f x c hf h => NetOwn.move hgr n n (Nat.le_refl _) f x c hf h)
    · rcases hF b hb with h | h | h
      · exact .inl h
      · exact .inr (.inl h)
      · exact .inr (.inr (by omega))
    · rw [HW3.out]; exact below_setRow (b0.trans (g2.mono (by omega))) (by omega) _
  clear HCl hR hF hnd g2 k1 k2 HW3 hm hl2
  go_wp2_with (first | (refine wpL_store rfl 29 _ _ rfl _ _ rfl _ rfl _ HSt.out ?_) | fail)
  go_wp2_with (first | (refine ret_row rfl rfl HR3.out Tryd.underlying29 rfl (by kernel_rfl) rfl ?_) | fail)
  exact HF.out
end Go.Proofs.YtkppcmpdghnmgaaDoor
