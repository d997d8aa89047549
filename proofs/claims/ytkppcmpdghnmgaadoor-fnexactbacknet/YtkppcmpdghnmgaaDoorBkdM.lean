/- The stack of nets of the program: has, load, join. -/
import Derived.Test.YtkppcmpdghnmgaaDoorBkc
import Derived.Test.YtkppcmpdghnmgaaDoorXaM
namespace Go.Proofs.YtkppcmpdghnmgaaDoor
open Go.RowKit
set_option linter.unusedVariables false

theorem StkR.from {w w3 : World} {base n : Nat} {F F3 : List Nat} {s : List NetT} {e : Ending} {w' : World} (h : StkR w3 base n F3 s e w') (hF : ∀ x ∈ F3, x ∈ F ∨ w.heap.size ≤ x) (g : Below w.heap.size w w3) : StkR w base n F s e w' := by
  obtain ⟨F', b, h1, h2, h3, h4, h5⟩ := h
  refine ⟨F', b, h1, h2, h3, fun x hx => ?_, g.trans (h5.mono g.size)⟩
  rcases h4 x hx with h | h
  · exact hF x h
  · exact .inr (by have := g.size; omega)

set_option maxRecDepth 10000 in
set_option maxHeartbeats 2000000 in
theorem has_i (base n c : Nat) (v : Value) (ts : List NetT) (F : List Nat) (w : World) (hS : StkIs w base n F v ts) (hc : c ≤ 1000) :
    Calls Tryd.prog 21 #[v, .int .i64 c] w fun e w' => e = .returned (.bool (decide (c ≤ ts.length))) ∧ w' = w := by
  have HST : Hid (∃ F', StkIs w base n F' v (ts.drop 0)) := ⟨F, hS⟩
  obtain ⟨L, HL⟩ : ∃ L, Hid (L = ts.length) := ⟨_, rfl⟩
  rw [← HL.out]
  clear hS
  go_enter Tryd.func21, Tryd.ntmps21
  go_wp2
  go_loopg [0, 6] c (fun gg s i wr => ∃ (j : Nat), j + gg = c ∧ i = .int .i64 j ∧ wr = w ∧ j ≤ L ∧ Hid (∃ F', StkIs w base n F' s (ts.drop j)))
  case atStart => exact ⟨0, by omega, rfl, rfl, by omega, HST⟩
  case round =>
    obtain ⟨j, hj, rfl, rfl, hjL, HS⟩ := hrel
    by_cases hlt : j < c
    · have i1 : (j : Int) < (c : Int) := by omega
      obtain ⟨F', hS⟩ := HS.out
      by_cases hl : j < L
      · obtain ⟨t, ht⟩ : ∃ t, ts[j]? = some t := ⟨_, List.getElem?_eq_getElem (by have := HL.out; omega)⟩
        have hd : ts.drop j = t :: ts.drop (j + 1) := by
          have := List.getElem?_eq_some_iff.1 ht
          obtain ⟨h1, h2⟩ := this
          rw [List.drop_eq_getElem_cons h1, h2]
        rw [hd] at hS
        obtain ⟨b, k, op, a1, l1, c1, a2, l2, c2, u, F1, F2, rfl, e2, h1, h2, h3⟩ := hS
        have c4 : wr.cell? ⟨b, 4, none⟩ = some (.pointer u) := (cell_of_row _ _ _ _ _ _ h1).trans rfl
        have HN : Hid (∃ F', StkIs wr base n F' (.pointer u) (ts.drop (j + 1))) := ⟨F2, h3⟩
        clear h1 h2 h3 e2 HS hd
        go_wp2
        go_roundg (gk - 1)
        case measure => omega
        case rel => exact ⟨j + 1, by omega, by simp, rfl, by omega, HN⟩
      · have hd : ts.drop j = [] := List.drop_eq_nil_of_le (by have := HL.out; omega)
        rw [hd] at hS
        obtain ⟨-, rfl⟩ := hS
        have hr : decide (c ≤ L) = false := by simp; omega
        go_wp2
        go_ret
        exact ⟨by first | rfl | (simp; omega) | (simp [hr]) | omega, rfl⟩
    · have i1 : ¬ ((j : Int) < (c : Int)) := by omega
      have hr : decide (c ≤ L) = true := by simp; omega
      go_wp2
      go_ret
      exact ⟨by first | rfl | (simp; omega) | (simp [hr]) | omega, rfl⟩

set_option maxRecDepth 10000 in
set_option maxHeartbeats 2000000 in
theorem load_i (base n lo : Nat) (op : Int) (ua : Option Addr) (ul uc : Nat) (xs : List ArgT) (u : Option Addr) (ts : List NetT) (F : List Nat) (w : World) (hul : ul = xs.length) (hv : ArgsIs w lo (.slice ua ul uc) xs) (hbig : xs.length ≤ 1048576) (hS : StkIs w base (n + 1) F (.pointer u) ts) (hn : F.Nodup) (hb : base ≤ w.heap.size) :
    Calls Tryd.prog 42 #[.pointer u, .agg #[.int .i64 op, .slice ua ul uc]] w fun e w' => StkR w base (n + 1) F (ctT ⟨op, xs⟩ :: ts) e w' := by
  have gA : Below w.heap.size w (w.alloc (.cells #[.int .i64 op, .slice ua ul uc] 26)) := (Below.refl _ _).alloc (Nat.le_refl _) _
  have HE : Hid (Calls Tryd.prog 60 #[.agg #[.int .i64 op, .slice ua ul uc]] (w.alloc (.cells #[.int .i64 op, .slice ua ul uc] 26)) fun e w' => ∃ (a : Option Addr) (cp : Nat), e = .returned (.agg #[.int .i64 op, .slice a ul cp]) ∧ ArgsOwn w' (w.alloc (.cells #[.int .i64 op, .slice ua ul uc] 26)).heap.size (Value.slice a ul cp).ownBlock.toList (.slice a ul cp) xs ∧ Below (w.alloc (.cells #[.int .i64 op, .slice ua ul uc] 26)).heap.size (w.alloc (.cells #[.int .i64 op, .slice ua ul uc] 26)) w') :=
    nelem_i op ua ul uc lo xs hul _ (argsIs_move (Keeps.of_below gA lo) (Nat.le_refl _) hv) hbig
  have HP : Hid (∀ a cp w1, ArgsOwn w1 (w.alloc (.cells #[.int .i64 op, .slice ua ul uc] 26)).heap.size (Value.slice a ul cp).ownBlock.toList (.slice a ul cp) xs → Below (w.alloc (.cells #[.int .i64 op, .slice ua ul uc] 26)).heap.size (w.alloc (.cells #[.int .i64 op, .slice ua ul uc] 26)) w1 → Calls Tryd.prog 44 #[.pointer u, .agg #[.int .i64 1, .int .i64 op, .slice a ul cp, .slice none 0 0]] w1 fun e w' => StkR w base (n + 1) F (ctT ⟨op, xs⟩ :: ts) e w') := by
    intro a cp w1 hA g1
    have hAl := ArgsOwn.lt hA
    have G1 : Below w.heap.size w w1 := gA.trans (g1.mono gA.size)
    have hs1 : w.heap.size ≤ (w.alloc (.cells #[.int .i64 op, .slice ua ul uc] 26)).heap.size := gA.size
    have hFl := StkIs.lt ts F _ hS
    have hon : ((Value.slice a ul cp).ownBlock.toList).Nodup := by cases (Value.slice a ul cp).ownBlock <;> simp
    refine (push_i base (n + 1) 1 op a ul cp none 0 0 u (ctT ⟨op, xs⟩) ts ((Value.slice a ul cp).ownBlock.toList ++ []) F w1 ⟨_, _, _, [], rfl, rfl, args_base hA (by omega), RowOwn.nil _ _ _ _ _⟩ (StkIs.later (Nat.le_refl _) G1 ts F _ hS) (List.nodup_append.2 ⟨by simpa using hon, hn, fun x hx y hy e => by rw [List.append_nil] at hx; have := hAl x hx; have := hFl y hy; omega⟩)).mono fun e w' h => h.from (fun x hx => ?_) G1
    rcases List.mem_append.1 hx with hx | hx
    · rw [List.append_nil] at hx
      exact .inr (by have := hAl x hx; omega)
    · exact .inl hx
  clear gA hv hbig hS hn hb hul
  go_enter Tryd.func42, Tryd.ntmps42
  go_wp2_with fail
  refine HE.out.mono ?_
  rintro e w1 ⟨a, cp, rfl, hA, g1⟩
  have HC := HP.out a cp w1 hA g1
  have HC' : Hid (Calls Tryd.prog 44 #[.pointer u, .agg #[.int .i64 1, .int .i64 op, .slice a ul cp, .slice none 0 0]] w1 fun e w' => StkR w base (n + 1) F (ctT ⟨op, xs⟩ :: ts) e w') := HC
  clear HC HP HE hA g1
  go_wp2_with fail
  refine HC'.out.mono ?_
  rintro e w2 ⟨F', b, rfl, h2, h3, h4, h5⟩
  have HF : Hid (StkR w base (n + 1) F (ctT ⟨op, xs⟩ :: ts) (.returned (.pointer (some ⟨b, 0, none⟩))) w2) := ⟨F', b, rfl, h2, h3, h4, h5⟩
  clear h2 h3 h4 h5 HC'
  go_wp2
  go_ret
  exact HF.out
end Go.Proofs.YtkppcmpdghnmgaaDoor
/- The stack of nets of the program: join. -/
namespace Go.Proofs.YtkppcmpdghnmgaaDoor
open Go.RowKit
set_option linter.unusedVariables false

/-- The row of two nets that are put together. -/
theorem one_at {W : World} {base n sb : Nat} {kind : Int} {t1 t2 : NetT} {f1 f2 : List Nat} {k op : Int} {a1 : Option Addr} {l1 c1 : Nat} {a2 : Option Addr} {l2 c2 : Nat} {k' op' : Int} {a1' : Option Addr} {l1' c1' : Nat} {a2' : Option Addr} {l2' c2' : Nat}
    (hr : W.heap[sb]? = some (.cells #[.int .i64 k, .int .i64 op, .slice a1 l1 c1, .slice a2 l2 c2, .int .i64 k', .int .i64 op', .slice a1' l1' c1', .slice a2' l2' c2'] 29 (0, 0)))
    (h1 : NetOwn W base n f1 t1 [.int .i64 k, .int .i64 op, .slice a1 l1 c1, .slice a2 l2 c2]) (h2 : NetOwn W base n f2 t2 [.int .i64 k', .int .i64 op', .slice a1' l1' c1', .slice a2' l2' c2']) (hO1 : OkN t1) (hO2 : OkN t2) (hd : (f1 ++ f2).Nodup) :
    OneAt W base n kind t1 t2 f1 f2 sb 0 ∧ OneAt W base n kind t1 t2 f1 f2 sb 1 := by
  have hl := (Array.getElem?_eq_some_iff.1 hr).1
  have hn := List.nodup_append.1 hd
  have hb1 := NetOwn.lt n f1 t1 _ h1
  have hb2 := NetOwn.lt n f2 t2 _ h2
  refine ⟨⟨t1, f1, k, op, a1, l1, c1, a2, l2, c2, fun W' g => ?_, h1, hO1, hn.1, rfl, fun b hb hp => ?_, fun b hb => .inl ⟨by omega, hb⟩⟩, ⟨t2, f2, k', op', a1', l1', c1', a2', l2', c2', fun W' g => ?_, h2, hO2, hn.2.1, rfl, fun b hb hp => ?_, fun b hb => .inr (.inl ⟨by omega, hb⟩)⟩⟩
  · exact load_sub ((g.block _ hl).trans hr) _ _ 0 4 (by simp) Tryd.underlying29 rfl (by kernel_rfl)
  · have := hb1 b hb
    rcases hp with hp | hp | hp <;> omega
  · exact load_sub ((g.block _ hl).trans hr) _ _ 4 4 (by simp) Tryd.underlying29 rfl (by kernel_rfl)
  · have := hb2 b hb
    rcases hp with hp | hp | hp
    · exact hn.2.2 b hp.2 b hb rfl
    · omega
    · omega

set_option maxRecDepth 10000 in
set_option maxHeartbeats 4000000 in
theorem sjoin_i (base n : Nat) (kind : Int) (v : Value) (a b : NetT) (r : List NetT) (F : List Nat) (w : World) (hk : kind = 2 ∨ kind = 3) (hS : StkIs w base (n + 1) F v (a :: b :: r)) (hn : F.Nodup) (hOa : OkN a) (hOb : OkN b) (hbig : (opn kind b).length + (opn kind a).length ≤ 1048576) (hb : base ≤ w.heap.size) :
    Calls Tryd.prog 43 #[v, .int .i64 kind] w fun e w' => StkR w base (n + 2) F (adT kind b a :: r) e w' := by
  have hFl := StkIs.lt _ F _ hS
  obtain ⟨x1, k1, o1, p1, pl1, pc1, q1, ql1, qc1, u1, Fa, F2, rfl, e2, h1, hNa, hS2⟩ := hS
  obtain ⟨x2, k2, o2, p2, pl2, pc2, q2, ql2, qc2, u2, Fb, Fr, eu, e3, h2, hNb, hSr⟩ := hS2
  obtain rfl : u1 = some ⟨x2, 0, none⟩ := by simpa using eu
  clear eu
  have hx1 : x1 < w.heap.size := (Array.getElem?_eq_some_iff.1 h1).1
  have hx2 : x2 < w.heap.size := (Array.getElem?_eq_some_iff.1 h2).1
  obtain ⟨op', s1, sl1, sc1, s2, sl2, sc2, ec, hl1, hl2, hl3, hz⟩ := hNb.cells
  simp only [List.cons.injEq, Value.int.injEq, Value.slice.injEq, true_and, and_true] at ec
  obtain ⟨hk2, rfl, ⟨rfl, rfl, rfl⟩, rfl, rfl, rfl⟩ := ec
  have hnn : (decide (k2 = 0) && decide (o2 = 0) && decide (pl2 = 0) && decide (ql2 = 0)) = decide (nkd b = 0) := by
    by_cases h0 : nkd b = 0
    · have hb0 := hOb.1 h0
      obtain ⟨z1, z2⟩ := hz h0 hb0
      have z3 : ql2 = 0 := by rw [hl2, hb0]; rfl
      simp [hk2, h0, z1, z2, z3]
    · simp [hk2, h0]
  have hno : ∀ W, Calls Tryd.prog 61 #[.agg #[.int .i64 k2, .int .i64 o2, .slice p2 pl2 pc2, .slice q2 ql2 qc2]] W fun e w' => e = .returned (.bool (decide (nkd b = 0))) ∧ Below W.heap.size W w' := fun W => by
    have := none_i k2 o2 p2 pl2 pc2 q2 ql2 qc2 W hl1 hl3
    rw [hnn] at this
    exact this
  have HNo : Hid (∀ W, Calls Tryd.prog 61 #[.agg #[.int .i64 k2, .int .i64 o2, .slice p2 pl2 pc2, .slice q2 ql2 qc2]] W fun e w' => e = .returned (.bool (decide (nkd b = 0))) ∧ Below W.heap.size W w') := hno
  have hn' := hn
  rw [e2, e3] at hn'
  have hna := List.nodup_append.1 hn'
  have hnb := List.nodup_append.1 hna.2.1
  have hFm : ∀ x ∈ Fa ++ Fr, x ∈ F ∨ w.heap.size ≤ x := fun x hx => .inl (by rw [e2, e3]; rcases List.mem_append.1 hx with h | h; exact List.mem_append_left _ h; exact List.mem_append_right _ (List.mem_append_right _ h))
  have har : (Fa ++ Fr).Nodup := List.nodup_append.2 ⟨hna.1, hnb.2.1, fun x hx y hy => hna.2.2 x hx y (List.mem_append_right _ hy)⟩
  have HPa : Hid (∀ W, Below w.heap.size w W → Calls Tryd.prog 44 #[.pointer u2, .agg #[.int .i64 k1, .int .i64 o1, .slice p1 pl1 pc1, .slice q1 ql1 qc1]] W fun e w' => StkR w base (n + 2) F (a :: r) e w') := fun W g => (push_i base (n + 2) k1 o1 p1 pl1 pc1 q1 ql1 qc1 u2 a r Fa Fr W (hNa.later (Nat.le_succ _) g) (StkIs.later (Nat.le_succ _) g r Fr _ hSr) har).mono fun e w' h => h.from hFm g
  have hba : (Fb ++ Fa).Nodup := List.nodup_append.2 ⟨hnb.1, hna.1, fun x hx y hy e => hna.2.2 y hy x (List.mem_append_left _ hx) e.symm⟩
  have hlt3 : (∀ x ∈ Fb, x < w.heap.size) ∧ (∀ x ∈ Fa, x < w.heap.size) ∧ ∀ x ∈ Fr, x < w.heap.size := ⟨fun x hx => (hFl x (by rw [e2, e3]; exact List.mem_append_right _ (List.mem_append_left _ hx))).2, fun x hx => (hFl x (by rw [e2]; exact List.mem_append_left _ hx)).2, fun x hx => (hFl x (by rw [e2, e3]; exact List.mem_append_right _ (List.mem_append_right _ hx))).2⟩
  have HJ : Hid (∀ W sb, Below w.heap.size w W → W.heap[sb]? = some (.cells #[.int .i64 k2, .int .i64 o2, .slice p2 pl2 pc2, .slice q2 ql2 qc2, .int .i64 k1, .int .i64 o1, .slice p1 pl1 pc1, .slice q1 ql1 qc1] 29 (0, 0)) → Calls Tryd.prog 62 #[.int .i64 kind, .slice (some ⟨sb, 0, none⟩) 2 2] W fun e w' => PutR W base (n + 2) Fb Fa (jnT kind b a) e w') := fun W sb g hr => by
    obtain ⟨q0, q1⟩ := one_at (kind := kind) hr (hNb.later (Nat.le_refl _) g) (hNa.later (Nat.le_refl _) g) hOb hOa hba
    exact join_i base (n + 1) sb kind b a Fb Fa W hk q0 q1 hOb hOa ⟨fun x hx => by have := hlt3.1 x hx; have := g.size; omega, fun x hx => by have := hlt3.2.1 x hx; have := g.size; omega⟩ hbig (by have := g.size; omega)
  have HPj : Hid (∀ W e w3, Below w.heap.size w W → PutR W base (n + 2) Fb Fa (jnT kind b a) e w3 → ∃ (k op : Int) (a1 : Option Addr) (l1 c1 : Nat) (a2 : Option Addr) (l2 c2 : Nat), e = .returned (.agg #[.int .i64 k, .int .i64 op, .slice a1 l1 c1, .slice a2 l2 c2]) ∧ Below W.heap.size W w3 ∧ Calls Tryd.prog 44 #[.pointer u2, .agg #[.int .i64 k, .int .i64 op, .slice a1 l1 c1, .slice a2 l2 c2]] w3 fun e w' => StkR w base (n + 2) F (jnT kind b a :: r) e w') := by
    rintro W e w3 g ⟨k, op, a1, l1, c1, a2, l2, c2, F', rfl, hN, hnd, hF', g3⟩
    have G3 := g.trans (g3.mono g.size)
    have hs := g.size
    refine ⟨k, op, a1, l1, c1, a2, l2, c2, rfl, g3, (push_i base (n + 2) k op a1 l1 c1 a2 l2 c2 u2 (jnT kind b a) r F' Fr w3 hN (StkIs.later (Nat.le_succ _) G3 r Fr _ hSr) (List.nodup_append.2 ⟨hnd, hnb.2.1, fun x hx y hy e => ?_⟩)).mono fun e w' h => h.from (fun x hx => ?_) G3⟩
    · subst e
      rcases hF' x hx with h | h | h
      · exact hnb.2.2 x h x hy rfl
      · exact hna.2.2 x h x (List.mem_append_right _ hy) rfl
      · have := hlt3.2.2 x hy; omega
    · rcases List.mem_append.1 hx with hx | hx
      · rcases hF' x hx with h | h | h
        · exact .inl (by rw [e2, e3]; exact List.mem_append_right _ (List.mem_append_left _ h))
        · exact .inl (by rw [e2]; exact List.mem_append_left _ h)
        · exact .inr (by omega)
      · exact .inl (by rw [e2, e3]; exact List.mem_append_right _ (List.mem_append_right _ hx))
  have c10 : w.cell? ⟨x1, 0, none⟩ = some (.int .i64 k1) := (cell_of_row _ _ _ _ _ _ h1).trans rfl
  have c11 : w.cell? ⟨x1, 1, none⟩ = some (.int .i64 o1) := (cell_of_row _ _ _ _ _ _ h1).trans rfl
  have c12 : w.cell? ⟨x1, 2, none⟩ = some (.slice p1 pl1 pc1) := (cell_of_row _ _ _ _ _ _ h1).trans rfl
  have c13 : w.cell? ⟨x1, 3, none⟩ = some (.slice q1 ql1 qc1) := (cell_of_row _ _ _ _ _ _ h1).trans rfl
  have c14 : w.cell? ⟨x1, 4, none⟩ = some (.pointer (some ⟨x2, 0, none⟩)) := (cell_of_row _ _ _ _ _ _ h1).trans rfl
  have c20 : w.cell? ⟨x2, 0, none⟩ = some (.int .i64 k2) := (cell_of_row _ _ _ _ _ _ h2).trans rfl
  have c21 : w.cell? ⟨x2, 1, none⟩ = some (.int .i64 o2) := (cell_of_row _ _ _ _ _ _ h2).trans rfl
  have c22 : w.cell? ⟨x2, 2, none⟩ = some (.slice p2 pl2 pc2) := (cell_of_row _ _ _ _ _ _ h2).trans rfl
  have c23 : w.cell? ⟨x2, 3, none⟩ = some (.slice q2 ql2 qc2) := (cell_of_row _ _ _ _ _ _ h2).trans rfl
  have c24 : w.cell? ⟨x2, 4, none⟩ = some (.pointer u2) := (cell_of_row _ _ _ _ _ _ h2).trans rfl
  have HC1 : Hid (∀ W, Below w.heap.size w W → (W.cell? ⟨x1, 0, none⟩ = some (.int .i64 k1) ∧ W.cell? ⟨x1, 1, none⟩ = some (.int .i64 o1) ∧ W.cell? ⟨x1, 2, none⟩ = some (.slice p1 pl1 pc1) ∧ W.cell? ⟨x1, 3, none⟩ = some (.slice q1 ql1 qc1))) := fun W g => ⟨(Keeps.of_below g 0) _ _ _ (Nat.zero_le _) c10, (Keeps.of_below g 0) _ _ _ (Nat.zero_le _) c11, (Keeps.of_below g 0) _ _ _ (Nat.zero_le _) c12, (Keeps.of_below g 0) _ _ _ (Nat.zero_le _) c13⟩
  clear hno hnn hk2 hl1 hl2 hl3 hz h1 h2 hNa hNb hSr hFl e2 e3 hn' hna hnb hFm har hba hlt3 hn hOa hOb hbig hk
  go_enter Tryd.func43, Tryd.ntmps43
  have b1 : Below w.heap.size w (w.alloc (.cells #[.int .i64 k2, .int .i64 o2, .slice p2 pl2 pc2, .slice q2 ql2 qc2] 29)).drew := ((Below.refl _ _).alloc (Nat.le_refl _) _).drew
  have r1 : (w.alloc (.cells #[.int .i64 k2, .int .i64 o2, .slice p2 pl2 pc2, .slice q2 ql2 qc2] 29)).drew.heap[w.heap.size]? = some (.cells #[.int .i64 k2, .int .i64 o2, .slice p2 pl2 pc2, .slice q2 ql2 qc2] 29 (0, 0)) := heap_alloc_last w _
  go_wp2
  go_region
  generalize (w.alloc (.cells #[.int .i64 k2, .int .i64 o2, .slice p2 pl2 pc2, .slice q2 ql2 qc2] 29)).drew = W1 at b1 r1 ⊢
  have HL1 : Hid ((loadVar 29 ⟨w.heap.size, 0, none⟩).run Tryd.prog W1 = .ok (.agg #[.int .i64 k2, .int .i64 o2, .slice p2 pl2 pc2, .slice q2 ql2 qc2]) W1) := load_all r1 _ _ Tryd.underlying29 rfl (by kernel_rfl)
  clear c10 c11 c12 c13 c14 c20 c21 c22 c23 c24
  go_wp2_with (first | (refine wpL_load rfl 29 _ rfl _ _ rfl _ HL1.out ?_) | fail)
  refine (HNo.out _).mono ?_
  rintro e w2 ⟨rfl, g2⟩
  have G2 : Below w.heap.size w w2 := b1.trans (g2.mono b1.size)
  have r2 : w2.heap[w.heap.size]? = some (.cells #[.int .i64 k2, .int .i64 o2, .slice p2 pl2 pc2, .slice q2 ql2 qc2] 29 (0, 0)) := (g2.block _ (Array.getElem?_eq_some_iff.1 r1).1).trans r1
  obtain ⟨c10, c11, c12, c13⟩ := HC1.out w2 G2
  have hx0 : w.heap.size < w2.heap.size := (Array.getElem?_eq_some_iff.1 r2).1
  have hx12 : x1 < w2.heap.size := by omega
  have hx10 : x1 ≠ w.heap.size := by omega
  clear g2 b1 r1 HL1
  by_cases h0 : nkd b = 0
  · rw [decide_eq_true h0]
    have HF : Hid (adT kind b a = a) := by show adT kind b a = a; unfold adT; rw [if_pos h0]
    clear h0 HJ HPj HNo
    have HCp : Hid (Calls Tryd.prog 44 #[.pointer u2, .agg #[.int .i64 k1, .int .i64 o1, .slice p1 pl1 pc1, .slice q1 ql1 qc1]] w2 fun e w' => StkR w base (n + 2) F (a :: r) e w') := HPa.out w2 G2
    clear HPa
    go_wp2_with fail
    refine HCp.out.mono ?_
    rintro e w3 ⟨F', b', rfl, h2, h3, h4, h5⟩
    have HFF : Hid (StkR w base (n + 2) F (a :: r) (.returned (.pointer (some ⟨b', 0, none⟩))) w3) := ⟨F', b', rfl, h2, h3, h4, h5⟩
    clear h2 h3 h4 h5 HCp
    go_wp2
    go_ret
    rw [HF.out]
    exact HFF.out
  · rw [decide_eq_false h0]
    have HF : Hid (adT kind b a = jnT kind b a) := by show adT kind b a = jnT kind b a; unfold adT; rw [if_neg h0]
    clear h0 HNo HPa
    have c20 : w2.cell? ⟨w.heap.size, 0, none⟩ = some (.int .i64 k2) := (cell_of_row _ _ _ _ _ _ r2).trans rfl
    have c21 : w2.cell? ⟨w.heap.size, 1, none⟩ = some (.int .i64 o2) := (cell_of_row _ _ _ _ _ _ r2).trans rfl
    have c22 : w2.cell? ⟨w.heap.size, 2, none⟩ = some (.slice p2 pl2 pc2) := (cell_of_row _ _ _ _ _ _ r2).trans rfl
    have c23 : w2.cell? ⟨w.heap.size, 3, none⟩ = some (.slice q2 ql2 qc2) := (cell_of_row _ _ _ _ _ _ r2).trans rfl
    have b3 : Below w.heap.size w (w2.alloc (.cells #[.int .i64 k2, .int .i64 o2, .slice p2 pl2 pc2, .slice q2 ql2 qc2, .int .i64 k1, .int .i64 o1, .slice p1 pl1 pc1, .slice q1 ql1 qc1] 29)) := G2.alloc G2.size _
    have r3 : (w2.alloc (.cells #[.int .i64 k2, .int .i64 o2, .slice p2 pl2 pc2, .slice q2 ql2 qc2, .int .i64 k1, .int .i64 o1, .slice p1 pl1 pc1, .slice q1 ql1 qc1] 29)).heap[w2.heap.size]? = some (.cells #[.int .i64 k2, .int .i64 o2, .slice p2 pl2 pc2, .slice q2 ql2 qc2, .int .i64 k1, .int .i64 o1, .slice p1 pl1 pc1, .slice q1 ql1 qc1] 29 (0, 0)) := heap_alloc_last w2 _
    have r3d : (w2.alloc (.cells #[.int .i64 k2, .int .i64 o2, .slice p2 pl2 pc2, .slice q2 ql2 qc2, .int .i64 k1, .int .i64 o1, .slice p1 pl1 pc1, .slice q1 ql1 qc1] 29)).drew.heap[w2.heap.size]? = some (.cells #[.int .i64 k2, .int .i64 o2, .slice p2 pl2 pc2, .slice q2 ql2 qc2, .int .i64 k1, .int .i64 o1, .slice p1 pl1 pc1, .slice q1 ql1 qc1] 29 (0, 0)) := r3
    have HJ1 : Hid (∀ W, (W = w2.alloc (.cells #[.int .i64 k2, .int .i64 o2, .slice p2 pl2 pc2, .slice q2 ql2 qc2, .int .i64 k1, .int .i64 o1, .slice p1 pl1 pc1, .slice q1 ql1 qc1] 29) ∨ W = (w2.alloc (.cells #[.int .i64 k2, .int .i64 o2, .slice p2 pl2 pc2, .slice q2 ql2 qc2, .int .i64 k1, .int .i64 o1, .slice p1 pl1 pc1, .slice q1 ql1 qc1] 29)).drew) → Calls Tryd.prog 62 #[.int .i64 kind, .slice (some ⟨w2.heap.size, 0, none⟩) 2 2] W fun e w' => ∃ (k op : Int) (a1 : Option Addr) (l1 c1 : Nat) (a2 : Option Addr) (l2 c2 : Nat), e = .returned (.agg #[.int .i64 k, .int .i64 op, .slice a1 l1 c1, .slice a2 l2 c2]) ∧ Calls Tryd.prog 44 #[.pointer u2, .agg #[.int .i64 k, .int .i64 op, .slice a1 l1 c1, .slice a2 l2 c2]] w' fun e w' => StkR w base (n + 2) F (jnT kind b a :: r) e w') := by
      intro W hW
      have gW : Below w.heap.size w W := by rcases hW with rfl | rfl; exact b3; exact b3.drew
      have rW : W.heap[w2.heap.size]? = some (.cells #[.int .i64 k2, .int .i64 o2, .slice p2 pl2 pc2, .slice q2 ql2 qc2, .int .i64 k1, .int .i64 o1, .slice p1 pl1 pc1, .slice q1 ql1 qc1] 29 (0, 0)) := by rcases hW with rfl | rfl; exact r3; exact r3d
      refine (HJ.out W _ gW rW).mono ?_
      intro e w3 hP
      obtain ⟨k, op, a1, l1, c1, a2, l2, c2, rfl, -, hC⟩ := HPj.out W e w3 gW hP
      exact ⟨k, op, a1, l1, c1, a2, l2, c2, rfl, hC⟩
    clear HJ HPj b3 r3 r3d r2
    go_wp2
    go_region_with (first | (go_at_call 62; refine (HJ1.out _ (by first | exact .inl rfl | exact .inr rfl)).mono ?_; rintro e w3 ⟨k, op, a1, l1, c1, a2, l2, c2, rfl, hC⟩) | (go_at_call 44; refine hC.mono ?_; rintro e w4 ⟨F', b', rfl, h2, h3, h4, h5⟩))
    all_goals
      have HFF : Hid (StkR w base (n + 2) F (jnT kind b a :: r) (.returned (.pointer (some ⟨b', 0, none⟩))) w4) := ⟨F', b', rfl, h2, h3, h4, h5⟩
      clear h2 h3 h4 h5 HJ1 hC
      go_wp2
      go_ret
      rw [HF.out]
      exact HFF.out
end Go.Proofs.YtkppcmpdghnmgaaDoor
/- The stack of nets of the program: behind an instruction. -/
namespace Go.Proofs.YtkppcmpdghnmgaaDoor
open Go.RowKit
set_option linter.unusedVariables false

def ndT (c : Int) : Nat := if c = 1 then 0 else if c = 4 ∨ c = 5 then 2 else 1
def doT (c : Int) (e : ElemT) (s : List NetT) : List NetT :=
  if c = 1 then ctT e :: s else
  match s with
  | [] => []
  | a :: r =>
    if c = 2 then adT 2 a (ctT e) :: r else if c = 3 then adT 3 a (ctT e) :: r else if c = 6 then ntT a :: r else
    match r with
    | [] => a :: r
    | b :: q => if c = 4 then adT 2 b a :: q else if c = 5 then adT 3 b a :: q else a :: b :: q
def stp (c : Int) (e : ElemT) (s : List NetT) : Option (List NetT) := if ndT c ≤ s.length ∧ 1 ≤ c ∧ c ≤ 6 then some (doT c e s) else none
def BhR (w : World) (base n : Nat) (F : List Nat) (o : Option (List NetT)) (e : Ending) (w' : World) : Prop :=
  match o with
  | some s => StkR w base n F s e w'
  | none => e = .returned (.pointer none) ∧ Below w.heap.size w w'
/-- Nets as they stand on a stack. -/
def OkS (s : List NetT) : Prop := ∀ t ∈ s, OkN t ∧ (nks t).length ≤ 400000
theorem opn_le {t : NetT} (h : (nks t).length ≤ 400000) (k : Int) : (opn k t).length ≤ 400000 := by
  unfold opn
  split
  · exact h
  · simp
theorem ndT_le (c : Int) : ndT c ≤ 1000 := by unfold ndT; split <;> (try split) <;> omega

set_option maxHeartbeats 1000000 in
theorem needs_i (c : Int) (w : World) : Calls Tryd.prog 41 #[.int .i64 c] w fun e w' => e = .returned (.int .i64 ((ndT c : Nat) : Int)) ∧ w' = w := by
  by_cases h1 : c = 1
  · subst h1
    go_enter Tryd.func41, Tryd.ntmps41
    go_wp2
    go_ret
    exact ⟨rfl, rfl⟩
  by_cases h4 : c = 4
  · subst h4
    go_enter Tryd.func41, Tryd.ntmps41
    go_wp2
    go_ret
    exact ⟨rfl, rfl⟩
  by_cases h5 : c = 5
  · subst h5
    go_enter Tryd.func41, Tryd.ntmps41
    go_wp2
    go_ret
    exact ⟨rfl, rfl⟩
  have i1 : (c == 1) = false := by simpa using h1
  have i4 : (c == 4) = false := by simpa using h4
  have i5 : (c == 5) = false := by simpa using h5
  have HN : Hid (ndT c = 1) := by show ndT c = 1; unfold ndT; rw [if_neg h1, if_neg (by omega)]
  clear h1 h4 h5
  go_enter Tryd.func41, Tryd.ntmps41
  go_wp2
  go_ret
  exact ⟨by rw [HN.out]; rfl, rfl⟩

set_option maxRecDepth 10000 in
set_option maxHeartbeats 4000000 in
theorem bh_few (base n lo : Nat) (op : Int) (ua : Option Addr) (ul uc : Nat) (xs : List ArgT) (u : Option Addr) (c : Int) (s : List NetT) (hf : s.length < ndT c) (F : List Nat) (w : World) (hul : ul = xs.length) (hv : ArgsIs w lo (.slice ua ul uc) xs) (hbig : xs.length ≤ 1048576) (hn : F.Nodup) (hb : base ≤ w.heap.size) (hS : StkIs w base (n + 1) F (.pointer u) s) (hO : OkS s) :
    Calls Tryd.prog 20 #[.pointer u, .agg #[.int .i64 c, .int .i64 op, .slice ua ul uc]] w fun e w' => e = .returned (.pointer none) ∧ Below w.heap.size w w' := by
  have gA : Below w.heap.size w (w.alloc (.cells #[.int .i64 c, .int .i64 op, .slice ua ul uc] 46)) := (Below.refl _ _).alloc (Nat.le_refl _) _
  have hS0 : StkIs (w.alloc (.cells #[.int .i64 c, .int .i64 op, .slice ua ul uc] 46)) base (n + 1) F (.pointer u) s := StkIs.later (Nat.le_refl _) gA _ F _ hS
  have hv0 : ArgsIs (w.alloc (.cells #[.int .i64 c, .int .i64 op, .slice ua ul uc] 46)) lo (.slice ua ul uc) xs := argsIs_move (Keeps.of_below gA lo) (Nat.le_refl _) hv
  have hb0 : base ≤ (w.alloc (.cells #[.int .i64 c, .int .i64 op, .slice ua ul uc] 46)).heap.size := by have := gA.size; omega
  have HHs : Hid (Calls Tryd.prog 21 #[.pointer u, .int .i64 ((ndT c : Nat) : Int)] (w.alloc (.cells #[.int .i64 c, .int .i64 op, .slice ua ul uc] 46)) fun e w' => e = .returned (.bool (decide (ndT c ≤ (s).length))) ∧ w' = (w.alloc (.cells #[.int .i64 c, .int .i64 op, .slice ua ul uc] 46))) := has_i base (n + 1) (ndT c) _ _ F _ hS0 (ndT_le _)
  have hd : decide (ndT c ≤ s.length) = false := by simp; omega
  rw [hd] at HHs
  have HB := gA
  have HB' : Hid (Below w.heap.size w (w.alloc (.cells #[.int .i64 c, .int .i64 op, .slice ua ul uc] 46))) := HB
  clear hS0 hv0 hb0 gA hS hv hbig hn hb hul hO hd hf HB
  go_enter Tryd.func20, Tryd.ntmps20
  go_wp2_with fail
  refine (needs_i _ _).mono ?_
  rintro e w1 ⟨rfl, rfl⟩
  go_wp2_with fail
  refine HHs.out.mono ?_
  rintro e w1 ⟨rfl, rfl⟩
  go_wp2
  go_ret
  exact ⟨rfl, HB'.out⟩

set_option maxRecDepth 10000 in
set_option maxHeartbeats 4000000 in
theorem bh_other (base n lo : Nat) (op : Int) (ua : Option Addr) (ul uc : Nat) (xs : List ArgT) (u : Option Addr) (c : Int) (s : List NetT) (hf : ndT c ≤ s.length) (hc : ¬ (1 ≤ c ∧ c ≤ 6)) (F : List Nat) (w : World) (hul : ul = xs.length) (hv : ArgsIs w lo (.slice ua ul uc) xs) (hbig : xs.length ≤ 1048576) (hn : F.Nodup) (hb : base ≤ w.heap.size) (hS : StkIs w base (n + 1) F (.pointer u) s) (hO : OkS s) :
    Calls Tryd.prog 20 #[.pointer u, .agg #[.int .i64 c, .int .i64 op, .slice ua ul uc]] w fun e w' => e = .returned (.pointer none) ∧ Below w.heap.size w w' := by
  have gA : Below w.heap.size w (w.alloc (.cells #[.int .i64 c, .int .i64 op, .slice ua ul uc] 46)) := (Below.refl _ _).alloc (Nat.le_refl _) _
  have hS0 : StkIs (w.alloc (.cells #[.int .i64 c, .int .i64 op, .slice ua ul uc] 46)) base (n + 1) F (.pointer u) s := StkIs.later (Nat.le_refl _) gA _ F _ hS
  have hv0 : ArgsIs (w.alloc (.cells #[.int .i64 c, .int .i64 op, .slice ua ul uc] 46)) lo (.slice ua ul uc) xs := argsIs_move (Keeps.of_below gA lo) (Nat.le_refl _) hv
  have hb0 : base ≤ (w.alloc (.cells #[.int .i64 c, .int .i64 op, .slice ua ul uc] 46)).heap.size := by have := gA.size; omega
  have HHs : Hid (Calls Tryd.prog 21 #[.pointer u, .int .i64 ((ndT c : Nat) : Int)] (w.alloc (.cells #[.int .i64 c, .int .i64 op, .slice ua ul uc] 46)) fun e w' => e = .returned (.bool (decide (ndT c ≤ (s).length))) ∧ w' = (w.alloc (.cells #[.int .i64 c, .int .i64 op, .slice ua ul uc] 46))) := has_i base (n + 1) (ndT c) _ _ F _ hS0 (ndT_le _)
  have hd : decide (ndT c ≤ s.length) = true := by simp; omega
  rw [hd] at HHs
  have i1 : (c == 1) = false := by simp; omega
  have i2 : (c == 2) = false := by simp; omega
  have i3 : (c == 3) = false := by simp; omega
  have i4 : (c == 4) = false := by simp; omega
  have i5 : (c == 5) = false := by simp; omega
  have i6 : (c == 6) = false := by simp; omega
  have HB' : Hid (Below w.heap.size w (w.alloc (.cells #[.int .i64 c, .int .i64 op, .slice ua ul uc] 46))) := gA
  clear hS0 hv0 hb0 gA hS hv hbig hn hb hul hO hd hf hc
  go_enter Tryd.func20, Tryd.ntmps20
  go_wp2_with fail
  refine (needs_i _ _).mono ?_
  rintro e w1 ⟨rfl, rfl⟩
  go_wp2_with fail
  refine HHs.out.mono ?_
  rintro e w1 ⟨rfl, rfl⟩
  go_wp2
  go_ret
  exact ⟨rfl, HB'.out⟩

set_option maxRecDepth 10000 in
set_option maxHeartbeats 4000000 in
theorem bh_1 (base n lo : Nat) (op : Int) (ua : Option Addr) (ul uc : Nat) (xs : List ArgT) (u : Option Addr) (s : List NetT) (F : List Nat) (w : World) (hul : ul = xs.length) (hv : ArgsIs w lo (.slice ua ul uc) xs) (hbig : xs.length ≤ 1048576) (hn : F.Nodup) (hb : base ≤ w.heap.size) (hS : StkIs w base (n + 1) F (.pointer u) s) (hO : OkS s) :
    Calls Tryd.prog 20 #[.pointer u, .agg #[.int .i64 1, .int .i64 op, .slice ua ul uc]] w fun e w' => StkR w base (n + 2) F (ctT ⟨op, xs⟩ :: s) e w' := by
  have gA : Below w.heap.size w (w.alloc (.cells #[.int .i64 1, .int .i64 op, .slice ua ul uc] 46)) := (Below.refl _ _).alloc (Nat.le_refl _) _
  have hS0 : StkIs (w.alloc (.cells #[.int .i64 1, .int .i64 op, .slice ua ul uc] 46)) base (n + 1) F (.pointer u) s := StkIs.later (Nat.le_refl _) gA _ F _ hS
  have hv0 : ArgsIs (w.alloc (.cells #[.int .i64 1, .int .i64 op, .slice ua ul uc] 46)) lo (.slice ua ul uc) xs := argsIs_move (Keeps.of_below gA lo) (Nat.le_refl _) hv
  have hb0 : base ≤ (w.alloc (.cells #[.int .i64 1, .int .i64 op, .slice ua ul uc] 46)).heap.size := by have := gA.size; omega
  have HHs : Hid (Calls Tryd.prog 21 #[.pointer u, .int .i64 ((ndT 1 : Nat) : Int)] (w.alloc (.cells #[.int .i64 1, .int .i64 op, .slice ua ul uc] 46)) fun e w' => e = .returned (.bool (decide (ndT 1 ≤ (s).length))) ∧ w' = (w.alloc (.cells #[.int .i64 1, .int .i64 op, .slice ua ul uc] 46))) := has_i base (n + 1) (ndT 1) _ _ F _ hS0 (ndT_le _)
  have hd : decide (ndT 1 ≤ s.length) = true := by simp [ndT]
  rw [hd] at HHs
  have HL : Hid (Calls Tryd.prog 42 #[.pointer u, .agg #[.int .i64 op, .slice ua ul uc]] (w.alloc (.cells #[.int .i64 1, .int .i64 op, .slice ua ul uc] 46)) fun e w' => StkR w base (n + 2) F (ctT ⟨op, xs⟩ :: s) e w') := (load_i base (n + 1) lo op ua ul uc xs u s F _ hul hv0 hbig (StkIs.later (Nat.le_succ _) (Below.refl _ _) _ F _ hS0) hn hb0).mono fun e w' h => h.from (fun x hx => .inl hx) gA
  clear hS0 hv0 hb0 gA hS hv hbig hn hb hul hO hd
  go_enter Tryd.func20, Tryd.ntmps20
  go_wp2_with fail
  refine (needs_i _ _).mono ?_
  rintro e w1 ⟨rfl, rfl⟩
  go_wp2_with fail
  refine HHs.out.mono ?_
  rintro e w1 ⟨rfl, rfl⟩
  go_wp2_with fail
  refine HL.out.mono ?_
  rintro e w2 ⟨F', b', rfl, h2, h3, h4, h5⟩
  have HFF : Hid (StkR w base (n + 2) F (ctT ⟨op, xs⟩ :: s) (.returned (.pointer (some ⟨b', 0, none⟩))) w2) := ⟨F', b', rfl, h2, h3, h4, h5⟩
  clear h2 h3 h4 h5 HL HHs
  go_wp2
  go_ret
  exact HFF.out

set_option maxRecDepth 10000 in
set_option maxHeartbeats 4000000 in
theorem bh_2 (base n lo : Nat) (op : Int) (ua : Option Addr) (ul uc : Nat) (xs : List ArgT) (u : Option Addr) (a : NetT) (r : List NetT) (F : List Nat) (w : World) (hul : ul = xs.length) (hv : ArgsIs w lo (.slice ua ul uc) xs) (hbig : xs.length ≤ 1048576) (hn : F.Nodup) (hb : base ≤ w.heap.size) (hS : StkIs w base (n + 1) F (.pointer u) (a :: r)) (hO : OkS (a :: r)) :
    Calls Tryd.prog 20 #[.pointer u, .agg #[.int .i64 2, .int .i64 op, .slice ua ul uc]] w fun e w' => StkR w base (n + 2) F (adT 2 a (ctT ⟨op, xs⟩) :: r) e w' := by
  have gA : Below w.heap.size w (w.alloc (.cells #[.int .i64 2, .int .i64 op, .slice ua ul uc] 46)) := (Below.refl _ _).alloc (Nat.le_refl _) _
  have hS0 : StkIs (w.alloc (.cells #[.int .i64 2, .int .i64 op, .slice ua ul uc] 46)) base (n + 1) F (.pointer u) (a :: r) := StkIs.later (Nat.le_refl _) gA _ F _ hS
  have hv0 : ArgsIs (w.alloc (.cells #[.int .i64 2, .int .i64 op, .slice ua ul uc] 46)) lo (.slice ua ul uc) xs := argsIs_move (Keeps.of_below gA lo) (Nat.le_refl _) hv
  have hb0 : base ≤ (w.alloc (.cells #[.int .i64 2, .int .i64 op, .slice ua ul uc] 46)).heap.size := by have := gA.size; omega
  have HHs : Hid (Calls Tryd.prog 21 #[.pointer u, .int .i64 ((ndT 2 : Nat) : Int)] (w.alloc (.cells #[.int .i64 2, .int .i64 op, .slice ua ul uc] 46)) fun e w' => e = .returned (.bool (decide (ndT 2 ≤ ((a :: r)).length))) ∧ w' = (w.alloc (.cells #[.int .i64 2, .int .i64 op, .slice ua ul uc] 46))) := has_i base (n + 1) (ndT 2) _ _ F _ hS0 (ndT_le _)
  have hd : decide (ndT 2 ≤ (a :: r).length) = true := by simp [ndT]
  rw [hd] at HHs
  have HL : Hid (Calls Tryd.prog 42 #[.pointer u, .agg #[.int .i64 op, .slice ua ul uc]] (w.alloc (.cells #[.int .i64 2, .int .i64 op, .slice ua ul uc] 46)) fun e w' => ∃ b, e = .returned (.pointer (some ⟨b, 0, none⟩)) ∧ Calls Tryd.prog 43 #[.pointer (some ⟨b, 0, none⟩), .int .i64 2] w' fun e w2 => StkR w base (n + 2) F (adT 2 a (ctT ⟨op, xs⟩) :: r) e w2) := (load_i base n lo op ua ul uc xs u (a :: r) F _ hul hv0 hbig hS0 hn hb0).mono fun e w' h => by
    obtain ⟨F', b, rfl, q1, q2, q3, q4⟩ := h
    have G := gA.trans (q4.mono gA.size)
    exact ⟨b, rfl, (sjoin_i base n 2 _ (ctT ⟨op, xs⟩) a r F' w' (by omega) q1 q2 (okN_ct _) (hO a (List.mem_cons_self ..)).1 (by have := opn_le (hO a (List.mem_cons_self ..)).2 2; have : (opn 2 (ctT ⟨op, xs⟩)).length ≤ 400000 := opn_le (by simp [ctT, nks]) 2; omega) (by have := G.size; omega)).mono fun e w2 h2 => (h2.from (fun x hx => (q3 x hx).imp id (fun h => h)) q4).from (fun x hx => .inl hx) gA⟩
  clear hS0 hv0 hb0 gA hS hv hbig hn hb hul hO hd
  go_enter Tryd.func20, Tryd.ntmps20
  go_wp2_with fail
  refine (needs_i _ _).mono ?_
  rintro e w1 ⟨rfl, rfl⟩
  go_wp2_with fail
  refine HHs.out.mono ?_
  rintro e w1 ⟨rfl, rfl⟩
  go_wp2_with fail
  refine HL.out.mono ?_
  rintro e w1 ⟨b1, rfl, hC⟩
  have HC : Hid (Calls Tryd.prog 43 #[.pointer (some ⟨b1, 0, none⟩), .int .i64 2] w1 fun e w2 => StkR w base (n + 2) F (adT 2 a (ctT ⟨op, xs⟩) :: r) e w2) := hC
  clear hC HL
  go_wp2_with fail
  refine HC.out.mono ?_
  rintro e w2 ⟨F', b', rfl, h2, h3, h4, h5⟩
  have HFF : Hid (StkR w base (n + 2) F (adT 2 a (ctT ⟨op, xs⟩) :: r) (.returned (.pointer (some ⟨b', 0, none⟩))) w2) := ⟨F', b', rfl, h2, h3, h4, h5⟩
  clear h2 h3 h4 h5 HC HHs
  go_wp2
  go_ret
  exact HFF.out

set_option maxRecDepth 10000 in
set_option maxHeartbeats 4000000 in
theorem bh_3 (base n lo : Nat) (op : Int) (ua : Option Addr) (ul uc : Nat) (xs : List ArgT) (u : Option Addr) (a : NetT) (r : List NetT) (F : List Nat) (w : World) (hul : ul = xs.length) (hv : ArgsIs w lo (.slice ua ul uc) xs) (hbig : xs.length ≤ 1048576) (hn : F.Nodup) (hb : base ≤ w.heap.size) (hS : StkIs w base (n + 1) F (.pointer u) (a :: r)) (hO : OkS (a :: r)) :
    Calls Tryd.prog 20 #[.pointer u, .agg #[.int .i64 3, .int .i64 op, .slice ua ul uc]] w fun e w' => StkR w base (n + 2) F (adT 3 a (ctT ⟨op, xs⟩) :: r) e w' := by
  have gA : Below w.heap.size w (w.alloc (.cells #[.int .i64 3, .int .i64 op, .slice ua ul uc] 46)) := (Below.refl _ _).alloc (Nat.le_refl _) _
  have hS0 : StkIs (w.alloc (.cells #[.int .i64 3, .int .i64 op, .slice ua ul uc] 46)) base (n + 1) F (.pointer u) (a :: r) := StkIs.later (Nat.le_refl _) gA _ F _ hS
  have hv0 : ArgsIs (w.alloc (.cells #[.int .i64 3, .int .i64 op, .slice ua ul uc] 46)) lo (.slice ua ul uc) xs := argsIs_move (Keeps.of_below gA lo) (Nat.le_refl _) hv
  have hb0 : base ≤ (w.alloc (.cells #[.int .i64 3, .int .i64 op, .slice ua ul uc] 46)).heap.size := by have := gA.size; omega
  have HHs : Hid (Calls Tryd.prog 21 #[.pointer u, .int .i64 ((ndT 3 : Nat) : Int)] (w.alloc (.cells #[.int .i64 3, .int .i64 op, .slice ua ul uc] 46)) fun e w' => e = .returned (.bool (decide (ndT 3 ≤ ((a :: r)).length))) ∧ w' = (w.alloc (.cells #[.int .i64 3, .int .i64 op, .slice ua ul uc] 46))) := has_i base (n + 1) (ndT 3) _ _ F _ hS0 (ndT_le _)
  have hd : decide (ndT 3 ≤ (a :: r).length) = true := by simp [ndT]
  rw [hd] at HHs
  have HL : Hid (Calls Tryd.prog 42 #[.pointer u, .agg #[.int .i64 op, .slice ua ul uc]] (w.alloc (.cells #[.int .i64 3, .int .i64 op, .slice ua ul uc] 46)) fun e w' => ∃ b, e = .returned (.pointer (some ⟨b, 0, none⟩)) ∧ Calls Tryd.prog 43 #[.pointer (some ⟨b, 0, none⟩), .int .i64 3] w' fun e w2 => StkR w base (n + 2) F (adT 3 a (ctT ⟨op, xs⟩) :: r) e w2) := (load_i base n lo op ua ul uc xs u (a :: r) F _ hul hv0 hbig hS0 hn hb0).mono fun e w' h => by
    obtain ⟨F', b, rfl, q1, q2, q3, q4⟩ := h
    have G := gA.trans (q4.mono gA.size)
    exact ⟨b, rfl, (sjoin_i base n 3 _ (ctT ⟨op, xs⟩) a r F' w' (by omega) q1 q2 (okN_ct _) (hO a (List.mem_cons_self ..)).1 (by have := opn_le (hO a (List.mem_cons_self ..)).2 3; have : (opn 3 (ctT ⟨op, xs⟩)).length ≤ 400000 := opn_le (by simp [ctT, nks]) 3; omega) (by have := G.size; omega)).mono fun e w2 h2 => (h2.from (fun x hx => (q3 x hx).imp id (fun h => h)) q4).from (fun x hx => .inl hx) gA⟩
  clear hS0 hv0 hb0 gA hS hv hbig hn hb hul hO hd
  go_enter Tryd.func20, Tryd.ntmps20
  go_wp2_with fail
  refine (needs_i _ _).mono ?_
  rintro e w1 ⟨rfl, rfl⟩
  go_wp2_with fail
  refine HHs.out.mono ?_
  rintro e w1 ⟨rfl, rfl⟩
  go_wp2_with fail
  refine HL.out.mono ?_
  rintro e w1 ⟨b1, rfl, hC⟩
  have HC : Hid (Calls Tryd.prog 43 #[.pointer (some ⟨b1, 0, none⟩), .int .i64 3] w1 fun e w2 => StkR w base (n + 2) F (adT 3 a (ctT ⟨op, xs⟩) :: r) e w2) := hC
  clear hC HL
  go_wp2_with fail
  refine HC.out.mono ?_
  rintro e w2 ⟨F', b', rfl, h2, h3, h4, h5⟩
  have HFF : Hid (StkR w base (n + 2) F (adT 3 a (ctT ⟨op, xs⟩) :: r) (.returned (.pointer (some ⟨b', 0, none⟩))) w2) := ⟨F', b', rfl, h2, h3, h4, h5⟩
  clear h2 h3 h4 h5 HC HHs
  go_wp2
  go_ret
  exact HFF.out

set_option maxRecDepth 10000 in
set_option maxHeartbeats 4000000 in
theorem bh_4 (base n lo : Nat) (op : Int) (ua : Option Addr) (ul uc : Nat) (xs : List ArgT) (u : Option Addr) (a b : NetT) (r : List NetT) (F : List Nat) (w : World) (hul : ul = xs.length) (hv : ArgsIs w lo (.slice ua ul uc) xs) (hbig : xs.length ≤ 1048576) (hn : F.Nodup) (hb : base ≤ w.heap.size) (hS : StkIs w base (n + 1) F (.pointer u) (a :: b :: r)) (hO : OkS (a :: b :: r)) :
    Calls Tryd.prog 20 #[.pointer u, .agg #[.int .i64 4, .int .i64 op, .slice ua ul uc]] w fun e w' => StkR w base (n + 2) F (adT 2 b a :: r) e w' := by
  have gA : Below w.heap.size w (w.alloc (.cells #[.int .i64 4, .int .i64 op, .slice ua ul uc] 46)) := (Below.refl _ _).alloc (Nat.le_refl _) _
  have hS0 : StkIs (w.alloc (.cells #[.int .i64 4, .int .i64 op, .slice ua ul uc] 46)) base (n + 1) F (.pointer u) (a :: b :: r) := StkIs.later (Nat.le_refl _) gA _ F _ hS
  have hv0 : ArgsIs (w.alloc (.cells #[.int .i64 4, .int .i64 op, .slice ua ul uc] 46)) lo (.slice ua ul uc) xs := argsIs_move (Keeps.of_below gA lo) (Nat.le_refl _) hv
  have hb0 : base ≤ (w.alloc (.cells #[.int .i64 4, .int .i64 op, .slice ua ul uc] 46)).heap.size := by have := gA.size; omega
  have HHs : Hid (Calls Tryd.prog 21 #[.pointer u, .int .i64 ((ndT 4 : Nat) : Int)] (w.alloc (.cells #[.int .i64 4, .int .i64 op, .slice ua ul uc] 46)) fun e w' => e = .returned (.bool (decide (ndT 4 ≤ ((a :: b :: r)).length))) ∧ w' = (w.alloc (.cells #[.int .i64 4, .int .i64 op, .slice ua ul uc] 46))) := has_i base (n + 1) (ndT 4) _ _ F _ hS0 (ndT_le _)
  have hd : decide (ndT 4 ≤ (a :: b :: r).length) = true := by simp [ndT]
  rw [hd] at HHs
  have HL : Hid (Calls Tryd.prog 43 #[.pointer u, .int .i64 2] (w.alloc (.cells #[.int .i64 4, .int .i64 op, .slice ua ul uc] 46)) fun e w2 => StkR w base (n + 2) F (adT 2 b a :: r) e w2) :=
    (sjoin_i base n 2 _ a b r F _ (by omega) hS0 hn (hO a (by simp)).1 (hO b (by simp)).1 (by have := opn_le (hO a (by simp)).2 2; have := opn_le (hO b (by simp)).2 2; omega) hb0).mono fun e w2 h2 => h2.from (fun x hx => .inl hx) gA
  clear hS0 hv0 hb0 gA hS hv hbig hn hb hul hO hd
  go_enter Tryd.func20, Tryd.ntmps20
  go_wp2_with fail
  refine (needs_i _ _).mono ?_
  rintro e w1 ⟨rfl, rfl⟩
  go_wp2_with fail
  refine HHs.out.mono ?_
  rintro e w1 ⟨rfl, rfl⟩
  go_wp2_with fail
  refine HL.out.mono ?_
  rintro e w2 ⟨F', b', rfl, h2, h3, h4, h5⟩
  have HFF : Hid (StkR w base (n + 2) F (adT 2 b a :: r) (.returned (.pointer (some ⟨b', 0, none⟩))) w2) := ⟨F', b', rfl, h2, h3, h4, h5⟩
  clear h2 h3 h4 h5 HL HHs
  go_wp2
  go_ret
  exact HFF.out

set_option maxRecDepth 10000 in
set_option maxHeartbeats 4000000 in
theorem bh_5 (base n lo : Nat) (op : Int) (ua : Option Addr) (ul uc : Nat) (xs : List ArgT) (u : Option Addr) (a b : NetT) (r : List NetT) (F : List Nat) (w : World) (hul : ul = xs.length) (hv : ArgsIs w lo (.slice ua ul uc) xs) (hbig : xs.length ≤ 1048576) (hn : F.Nodup) (hb : base ≤ w.heap.size) (hS : StkIs w base (n + 1) F (.pointer u) (a :: b :: r)) (hO : OkS (a :: b :: r)) :
    Calls Tryd.prog 20 #[.pointer u, .agg #[.int .i64 5, .int .i64 op, .slice ua ul uc]] w fun e w' => StkR w base (n + 2) F (adT 3 b a :: r) e w' := by
  have gA : Below w.heap.size w (w.alloc (.cells #[.int .i64 5, .int .i64 op, .slice ua ul uc] 46)) := (Below.refl _ _).alloc (Nat.le_refl _) _
  have hS0 : StkIs (w.alloc (.cells #[.int .i64 5, .int .i64 op, .slice ua ul uc] 46)) base (n + 1) F (.pointer u) (a :: b :: r) := StkIs.later (Nat.le_refl _) gA _ F _ hS
  have hv0 : ArgsIs (w.alloc (.cells #[.int .i64 5, .int .i64 op, .slice ua ul uc] 46)) lo (.slice ua ul uc) xs := argsIs_move (Keeps.of_below gA lo) (Nat.le_refl _) hv
  have hb0 : base ≤ (w.alloc (.cells #[.int .i64 5, .int .i64 op, .slice ua ul uc] 46)).heap.size := by have := gA.size; omega
  have HHs : Hid (Calls Tryd.prog 21 #[.pointer u, .int .i64 ((ndT 5 : Nat) : Int)] (w.alloc (.cells #[.int .i64 5, .int .i64 op, .slice ua ul uc] 46)) fun e w' => e = .returned (.bool (decide (ndT 5 ≤ ((a :: b :: r)).length))) ∧ w' = (w.alloc (.cells #[.int .i64 5, .int .i64 op, .slice ua ul uc] 46))) := has_i base (n + 1) (ndT 5) _ _ F _ hS0 (ndT_le _)
  have hd : decide (ndT 5 ≤ (a :: b :: r).length) = true := by simp [ndT]
  rw [hd] at HHs
  have HL : Hid (Calls Tryd.prog 43 #[.pointer u, .int .i64 3] (w.alloc (.cells #[.int .i64 5, .int .i64 op, .slice ua ul uc] 46)) fun e w2 => StkR w base (n + 2) F (adT 3 b a :: r) e w2) :=
    (sjoin_i base n 3 _ a b r F _ (by omega) hS0 hn (hO a (by simp)).1 (hO b (by simp)).1 (by have := opn_le (hO a (by simp)).2 3; have := opn_le (hO b (by simp)).2 3; omega) hb0).mono fun e w2 h2 => h2.from (fun x hx => .inl hx) gA
  clear hS0 hv0 hb0 gA hS hv hbig hn hb hul hO hd
  go_enter Tryd.func20, Tryd.ntmps20
  go_wp2_with fail
  refine (needs_i _ _).mono ?_
  rintro e w1 ⟨rfl, rfl⟩
  go_wp2_with fail
  refine HHs.out.mono ?_
  rintro e w1 ⟨rfl, rfl⟩
  go_wp2_with fail
  refine HL.out.mono ?_
  rintro e w2 ⟨F', b', rfl, h2, h3, h4, h5⟩
  have HFF : Hid (StkR w base (n + 2) F (adT 3 b a :: r) (.returned (.pointer (some ⟨b', 0, none⟩))) w2) := ⟨F', b', rfl, h2, h3, h4, h5⟩
  clear h2 h3 h4 h5 HL HHs
  go_wp2
  go_ret
  exact HFF.out

set_option maxRecDepth 10000 in
set_option maxHeartbeats 4000000 in
theorem bh_6 (base n lo : Nat) (op : Int) (ua : Option Addr) (ul uc : Nat) (xs : List ArgT) (u : Option Addr) (a : NetT) (r : List NetT) (F : List Nat) (w : World) (hul : ul = xs.length) (hv : ArgsIs w lo (.slice ua ul uc) xs) (hbig : xs.length ≤ 1048576) (hn : F.Nodup) (hb : base ≤ w.heap.size) (hS : StkIs w base (n + 1) F (.pointer u) (a :: r)) (hO : OkS (a :: r)) :
    Calls Tryd.prog 20 #[.pointer u, .agg #[.int .i64 6, .int .i64 op, .slice ua ul uc]] w fun e w' => StkR w base (n + 2) F (ntT a :: r) e w' := by
  have gA : Below w.heap.size w (w.alloc (.cells #[.int .i64 6, .int .i64 op, .slice ua ul uc] 46)) := (Below.refl _ _).alloc (Nat.le_refl _) _
  have hS0 : StkIs (w.alloc (.cells #[.int .i64 6, .int .i64 op, .slice ua ul uc] 46)) base (n + 1) F (.pointer u) (a :: r) := StkIs.later (Nat.le_refl _) gA _ F _ hS
  have hv0 : ArgsIs (w.alloc (.cells #[.int .i64 6, .int .i64 op, .slice ua ul uc] 46)) lo (.slice ua ul uc) xs := argsIs_move (Keeps.of_below gA lo) (Nat.le_refl _) hv
  have hb0 : base ≤ (w.alloc (.cells #[.int .i64 6, .int .i64 op, .slice ua ul uc] 46)).heap.size := by have := gA.size; omega
  have HHs : Hid (Calls Tryd.prog 21 #[.pointer u, .int .i64 ((ndT 6 : Nat) : Int)] (w.alloc (.cells #[.int .i64 6, .int .i64 op, .slice ua ul uc] 46)) fun e w' => e = .returned (.bool (decide (ndT 6 ≤ ((a :: r)).length))) ∧ w' = (w.alloc (.cells #[.int .i64 6, .int .i64 op, .slice ua ul uc] 46))) := has_i base (n + 1) (ndT 6) _ _ F _ hS0 (ndT_le _)
  have hd : decide (ndT 6 ≤ (a :: r).length) = true := by simp [ndT]
  rw [hd] at HHs
  have hFl := StkIs.lt _ F _ hS0
  obtain ⟨x1, k1, o1, p1, pl1, pc1, q1, ql1, qc1, u1, Fa, F2, eu, e2, h1, hNa, hS2⟩ := hS0
  obtain rfl : u = some ⟨x1, 0, none⟩ := by simpa using eu
  clear eu
  have hx1 : x1 < (w.alloc (.cells #[.int .i64 6, .int .i64 op, .slice ua ul uc] 46)).heap.size := (Array.getElem?_eq_some_iff.1 h1).1
  have HP : Hid (∀ W, (W = (w.alloc (.cells #[.int .i64 6, .int .i64 op, .slice ua ul uc] 46)).alloc (.cells #[.int .i64 k1, .int .i64 o1, .slice p1 pl1 pc1, .slice q1 ql1 qc1] 29) ∨ W = ((w.alloc (.cells #[.int .i64 6, .int .i64 op, .slice ua ul uc] 46)).alloc (.cells #[.int .i64 k1, .int .i64 o1, .slice p1 pl1 pc1, .slice q1 ql1 qc1] 29)).drew) → Calls Tryd.prog 44 #[.pointer u1, .agg #[.int .i64 4, .int .i64 0, .slice none 0 0, .slice (some ⟨w.heap.size + 1, 0, none⟩) 1 1]] W fun e w' => StkR w base (n + 2) F (ntT a :: r) e w') := by
    intro W hW
    have sz : (w.alloc (.cells #[.int .i64 6, .int .i64 op, .slice ua ul uc] 46)).heap.size = w.heap.size + 1 := by simp
    have g0 : Below (w.alloc (.cells #[.int .i64 6, .int .i64 op, .slice ua ul uc] 46)).heap.size (w.alloc (.cells #[.int .i64 6, .int .i64 op, .slice ua ul uc] 46)) W := by
      rcases hW with rfl | rfl
      · exact (Below.refl _ _).alloc (Nat.le_refl _) _
      · exact ((Below.refl _ _).alloc (Nat.le_refl _) _).drew
    have rW : W.heap[w.heap.size + 1]? = some (.cells #[.int .i64 k1, .int .i64 o1, .slice p1 pl1 pc1, .slice q1 ql1 qc1] 29 (0, 0)) := by
      rcases hW with rfl | rfl
      · have := heap_alloc_last (w.alloc (.cells #[.int .i64 6, .int .i64 op, .slice ua ul uc] 46)) (.cells #[.int .i64 k1, .int .i64 o1, .slice p1 pl1 pc1, .slice q1 ql1 qc1] 29)
        rw [sz] at this; exact this
      · have := heap_alloc_last (w.alloc (.cells #[.int .i64 6, .int .i64 op, .slice ua ul uc] 46)) (.cells #[.int .i64 k1, .int .i64 o1, .slice p1 pl1 pc1, .slice q1 ql1 qc1] 29)
        rw [sz] at this; exact this
    have hn' := hn
    rw [e2] at hn'
    have hna := List.nodup_append.1 hn'
    have hlt : ∀ x ∈ F, x < w.heap.size + 1 := fun x hx => by have := hFl x hx; omega
    have hK : RowOwn W base 29 4 (NetOwn W base (n + 1)) ((w.heap.size + 1) :: Fa) (.slice (some ⟨w.heap.size + 1, 0, none⟩) 1 1) [a] := ⟨_, Fa, Each.one rfl (hNa.later (Nat.le_refl _) g0), ⟨rfl, .inr ⟨w.heap.size + 1, 1, _, rfl, by omega, rW, by simp, by unfold maxLen; omega, rfl, rfl⟩⟩, rfl⟩
    refine (push_i base (n + 2) 4 0 none 0 0 (some ⟨w.heap.size + 1, 0, none⟩) 1 1 u1 (ntT a) r ([] ++ ((w.heap.size + 1) :: Fa)) F2 W ⟨_, _, [], (w.heap.size + 1) :: Fa, rfl, rfl, RowOwn.nil _ _ _ _ _, hK⟩ (StkIs.later (Nat.le_succ _) g0 r F2 _ hS2) ?_).mono fun e w' h => h.from (fun x hx => ?_) (gA.trans (g0.mono gA.size))
    · rw [List.nil_append]
      refine List.nodup_append.2 ⟨List.nodup_cons.2 ⟨fun hm => ?_, hna.1⟩, hna.2.1, fun x hx y hy e => ?_⟩
      · have := hlt _ (by rw [e2]; exact List.mem_append_left _ hm); omega
      · rcases List.mem_cons.1 hx with rfl | hx
        · have := hlt y (by rw [e2]; exact List.mem_append_right _ hy); omega
        · exact hna.2.2 x hx y hy e
    · rcases List.mem_append.1 hx with hx | hx
      · rcases List.mem_cons.1 (by simpa using hx) with rfl | hx
        · exact .inr (by omega)
        · exact .inl (by rw [e2]; exact List.mem_append_left _ hx)
      · exact .inl (by rw [e2]; exact List.mem_append_right _ hx)
  have h1w : w.heap[x1]? = some (.cells #[.int .i64 k1, .int .i64 o1, .slice p1 pl1 pc1, .slice q1 ql1 qc1, .pointer u1] 57 (0, 0)) := by
    obtain ⟨y1, k1', o1', p1', pl1', pc1', q1', ql1', qc1', u1', Fa', F2', eu', e2', h1', _, _⟩ := hS
    obtain ⟨rfl, _⟩ : x1 = y1 ∧ True := ⟨by simpa using eu', trivial⟩
    have := (gA.block _ (Array.getElem?_eq_some_iff.1 h1').1).symm.trans h1
    exact this
  have hxw : x1 < w.heap.size := (Array.getElem?_eq_some_iff.1 h1w).1
  have c10 : w.cell? ⟨x1, 0, none⟩ = some (.int .i64 k1) := (cell_of_row _ _ _ _ _ _ h1w).trans rfl
  have c11 : w.cell? ⟨x1, 1, none⟩ = some (.int .i64 o1) := (cell_of_row _ _ _ _ _ _ h1w).trans rfl
  have c12 : w.cell? ⟨x1, 2, none⟩ = some (.slice p1 pl1 pc1) := (cell_of_row _ _ _ _ _ _ h1w).trans rfl
  have c13 : w.cell? ⟨x1, 3, none⟩ = some (.slice q1 ql1 qc1) := (cell_of_row _ _ _ _ _ _ h1w).trans rfl
  have c14 : w.cell? ⟨x1, 4, none⟩ = some (.pointer u1) := (cell_of_row _ _ _ _ _ _ h1w).trans rfl
  clear hv0 hb0 gA hS hv hbig hn hb hul hO hd hFl e2 h1 hNa hS2 h1w hx1
  go_enter Tryd.func20, Tryd.ntmps20
  go_wp2_with fail
  refine (needs_i _ _).mono ?_
  rintro e w1 ⟨rfl, rfl⟩
  go_wp2_with fail
  refine HHs.out.mono ?_
  rintro e w1 ⟨rfl, rfl⟩
  go_wp2
  go_region_with (go_at_call 44; refine (HP.out _ (by first | exact .inl rfl | exact .inr rfl)).mono ?_; rintro e w4 ⟨F', b', rfl, h2, h3, h4, h5⟩)
  all_goals
    have HFF : Hid (StkR w base (n + 2) F (ntT a :: r) (.returned (.pointer (some ⟨b', 0, none⟩))) w4) := ⟨F', b', rfl, h2, h3, h4, h5⟩
    clear h2 h3 h4 h5 HP HHs
    go_wp2
    go_ret
    exact HFF.out

set_option maxRecDepth 10000 in
set_option maxHeartbeats 4000000 in
theorem bh_i (base n lo : Nat) (op : Int) (ua : Option Addr) (ul uc : Nat) (xs : List ArgT) (u : Option Addr) (c : Int) (s : List NetT) (F : List Nat) (w : World) (hul : ul = xs.length) (hv : ArgsIs w lo (.slice ua ul uc) xs) (hbig : xs.length ≤ 1048576) (hn : F.Nodup) (hb : base ≤ w.heap.size) (hS : StkIs w base (n + 1) F (.pointer u) s) (hO : OkS s) :
    Calls Tryd.prog 20 #[.pointer u, .agg #[.int .i64 c, .int .i64 op, .slice ua ul uc]] w fun e w' => BhR w base (n + 2) F (stp c ⟨op, xs⟩ s) e w' := by
  by_cases hf : s.length < ndT c
  · have : stp c ⟨op, xs⟩ s = none := by unfold stp; rw [if_neg (by omega)]
    rw [this]
    exact bh_few base n lo op ua ul uc xs u c s hf F w hul hv hbig hn hb hS hO
  by_cases hc : 1 ≤ c ∧ c ≤ 6
  case neg =>
    have : stp c ⟨op, xs⟩ s = none := by unfold stp; rw [if_neg (by omega)]
    rw [this]
    exact bh_other base n lo op ua ul uc xs u c s (by omega) hc F w hul hv hbig hn hb hS hO
  have hst : stp c ⟨op, xs⟩ s = some (doT c ⟨op, xs⟩ s) := by unfold stp; rw [if_pos ⟨by omega, hc⟩]
  rw [hst]
  show Calls _ _ _ _ fun e w' => StkR w base (n + 2) F (doT c ⟨op, xs⟩ s) e w'
  rcases (by omega : c = 1 ∨ c = 2 ∨ c = 3 ∨ c = 4 ∨ c = 5 ∨ c = 6) with rfl | rfl | rfl | rfl | rfl | rfl
  · exact bh_1 base n lo op ua ul uc xs u s F w hul hv hbig hn hb hS hO
  · match s, hf, hS, hO with
    | [], hf, _, _ => simp [ndT] at hf
    | a :: r, _, hS, hO => exact bh_2 base n lo op ua ul uc xs u a r F w hul hv hbig hn hb hS hO
  · match s, hf, hS, hO with
    | [], hf, _, _ => simp [ndT] at hf
    | a :: r, _, hS, hO => exact bh_3 base n lo op ua ul uc xs u a r F w hul hv hbig hn hb hS hO
  · match s, hf, hS, hO with
    | [], hf, _, _ => simp [ndT] at hf
    | [a], hf, _, _ => simp [ndT] at hf
    | a :: b :: r, _, hS, hO => exact bh_4 base n lo op ua ul uc xs u a b r F w hul hv hbig hn hb hS hO
  · match s, hf, hS, hO with
    | [], hf, _, _ => simp [ndT] at hf
    | [a], hf, _, _ => simp [ndT] at hf
    | a :: b :: r, _, hS, hO => exact bh_5 base n lo op ua ul uc xs u a b r F w hul hv hbig hn hb hS hO
  · match s, hf, hS, hO with
    | [], hf, _, _ => simp [ndT] at hf
    | a :: r, _, hS, hO => exact bh_6 base n lo op ua ul uc xs u a r F w hul hv hbig hn hb hS hO
end Go.Proofs.YtkppcmpdghnmgaaDoor
