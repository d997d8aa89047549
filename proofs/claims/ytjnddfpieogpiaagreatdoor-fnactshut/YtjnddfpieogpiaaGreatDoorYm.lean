/- The draw of a memory and of a contact. -/
import Derived.Test.YtjnddfpieogpiaaGreatDoorEv
import Derived.Test.YtjnddfpieogpiaaGreatDoorEw
import Derived.Test.YtjnddfpieogpiaaGreatDoorEy
import Derived.Test.YtjnddfpieogpiaaGreatDoorOa
import Derived.Test.YtjnddfpieogpiaaGreatDoorYa
import Derived.Deep.Cut
namespace Go.Proofs.YtjnddfpieogpiaaGreatDoor
open Go.RowKit Rr Ee
set_option linter.unusedVariables false

theorem spoil_e (B R p : Nat) (op : Int) (a : Option Addr) (len cap L H : Nat) (xs : List Arg) (w : World) (h : Reader B w R p) (hp : p < 700000) (hlen : Hid (len = xs.length)) (hL : len ≤ L) (hL9 : L ≤ 9) (hcap : len ≤ cap) (ho1 : -100 ≤ op) (ho2 : op ≤ 100) (hbd : Bd xs) (hO : Own w H a xs) :
    Calls Tryz.prog 38 #[.pointer (some ⟨R, 0, none⟩), .agg #[.int .i64 op, .slice a len cap]] w fun e w' => ElemL w.heap.size (L + 1) e w' ∧ (∃ q, q ≤ p + 30 ∧ Reader B w' R q) ∧ w.grownBy w' (some R) := by
  have hl : len = xs.length := hlen
  by_cases h0 : xs = []
  · subst h0
    simp at hl
    subst hl
    exact spoil_r0 B R p op a cap L w h hp ho1 ho2
  · rcases hO with e | ⟨b, o, rfl, _, hx⟩
    · exact absurd e h0
    · have : 1 ≤ xs.length := by cases xs with
        | nil => exact absurd rfl h0
        | cons => simp
      exact spoil_r B R p op b o len cap L xs w h hp hl (by omega) hL hL9 hcap ho1 ho2 hbd hx
theorem own_put2 {w : World} {b H H' : Nat} {a : Option Addr} {xs : List Arg} (u v : Value) (h : Own w H a xs) (hb : b < H) (hH : H' ≤ H) : Own ((w.setCell ⟨b, 0, none⟩ u).setCell ⟨b, 1, none⟩ v) H' a xs := by
  rcases h with h | ⟨c, o, h1, h2, h3⟩
  · exact .inl h
  · exact .inr ⟨c, o, h1, by omega, (h3.other b 0 (by omega) u).other b 1 (by omega) v⟩
/-- Two rows handed back through cells. -/
theorem ret_row2 {P : Program} {fn : Func} {Q : Ending → World → Prop} {a : Act} {w : World} {p p2 : Tmp} {ty ty2 : TypeId} (hf : fn.results = #[.cell p ty, .cell p2 ty2]) {g g2 : Nat} (hp : a.tmps.getD p undef = .pointer (some ⟨g, 0, none⟩)) (hp2 : a.tmps.getD p2 undef = .pointer (some ⟨g2, 0, none⟩))
    {v v2 : Value} (h1 : (loadVar ty ⟨g, 0, none⟩).run P w = .ok v w) (h2 : (loadVar ty2 ⟨g2, 0, none⟩).run P w = .ok v2 w) (hdf : a.defers = []) (hR : Q (.returned (.tuple #[v, v2])) w) : bodyPost P fn Q .ret a w := by
  refine bodyPost_ret (v := .tuple #[v, v2]) ?_ hdf hR
  have hp' : a.tmps[p]?.getD undef = .pointer (some ⟨g, 0, none⟩) := by simpa using hp
  have hp2' : a.tmps[p2]?.getD undef = .pointer (some ⟨g2, 0, none⟩) := by simpa using hp2
  simp [results, hf, hp', hp2', asAddr, h1, h2]


/-- What the draw gives. -/
def IsMemElem (e : Ending) (w : World) : Prop := ∃ c, ∃ (op : Int) (a : Option Addr) (len cap : Nat) (xs : List Arg), MemOk c ∧ e = .returned (.tuple #[.agg c, .agg #[.int .i64 op, .slice a len cap]]) ∧ len = xs.length ∧ len ≤ 9 ∧ Sl w a xs
theorem own_heap {w w' : World} {H : Nat} {a : Option Addr} {xs : List Arg} (h : Own w H a xs) (he : ∀ b, H ≤ b → w'.heap[b]? = w.heap[b]?) : Own w' H a xs := by
  rcases h with h | ⟨b, o, h1, h2, h3⟩
  · exact .inl h
  · refine .inr ⟨b, o, h1, h2, fun j x hx => ?_⟩
    have e := he b h2
    obtain ⟨q0, q1, q2⟩ := h3 j x hx
    unfold World.cell? at q0 q1 q2 ⊢
    rw [e]; exact ⟨q0, q1, q2⟩
theorem e2_row {W : World} {b : Nat} {u v : Value} {t : TypeId} (h : W.heap[b]? = some (.cells #[u, v] t (0, 0))) : E2 W b u v := ⟨(cell_of_row _ _ _ _ _ _ h).trans rfl, (cell_of_row _ _ _ _ _ _ h).trans rfl, by simp [World.frozen?, h], by simp [World.frozen?, h]⟩
theorem e2_put {W : World} {b : Nat} {u v u' v' : Value} {t : TypeId} (h : W.heap[b]? = some (.cells #[u, v] t (0, 0))) : ((W.setCell ⟨b, 0, none⟩ u').setCell ⟨b, 1, none⟩ v').heap[b]? = some (.cells #[u', v'] t (0, 0)) := by
  have h1 := row_put h 0 u'
  have h2 := row_put h1 1 v'
  exact h2
theorem put_other {W : World} {b k : Nat} {u v : Value} {o : Obj} (h : W.heap[k]? = some o) (hne : b ≠ k) : ((W.setCell ⟨b, 0, none⟩ u).setCell ⟨b, 1, none⟩ v).heap[k]? = some o := row_other (row_other h b 0 hne u) b 1 hne v


set_option maxRecDepth 10000 in
set_option maxHeartbeats 8000000 in
theorem drawtest_r {a : Option Addr} {len cap blk off : Nat} {z : Nat → Int} (w : World) (h : Code0 w a len cap blk off z) :
    Calls Tryz.prog 12 #[.slice a len cap] w fun e w' => IsMemElem e w' ∧ Below w.heap.size w w' := by
  have hz := zero_mem.1
  obtain ⟨Z, HZ⟩ : ∃ Z, Hid (Z = memZero) := ⟨_, rfl⟩
  rw [← HZ.out] at hz
  have HZs : Hid (Z.size = 136) := (by rw [HZ.out, memZero_size] : Z.size = 136)
  have b0 : Below w.heap.size w ((w.alloc (.cells Z 37)).alloc (.cells #[.int .i64 0, .slice none 0 0] 47)) := ((Below.refl _ _).alloc (Nat.le_refl _) _).alloc (by simp) _
  have r0 := rows2 w (.cells Z 37) (.cells #[.int .i64 0, .slice none 0 0] 47)
  go_enter Tryz.func12, Tryz.ntmps12
  go_wp2_with fail
  refine ((h.later b0).open).mono ?_
  rintro e w1 ⟨rfl, hR, g1⟩
  have h1 : Reader (w.heap.size + 1 + 1 + 1) w1 (w.heap.size + 1 + 1) 0 := by simpa using hR
  have b1 : Below w.heap.size w w1 := b0.trans (g1.mono b0.size)
  have k1 : w1.heap[w.heap.size]? = some (.cells Z 37 (0, 0)) := (g1.block _ (by simp <;> omega)).trans r0.1
  have j1 : w1.heap[w.heap.size + 1]? = some (.cells #[.int .i64 0, .slice none 0 0] 47 (0, 0)) := (g1.block _ (by simp <;> omega)).trans r0.2
  have l1 : w.heap.size + 1 + 1 + 1 ≤ w1.heap.size := h1.2.1
  clear g1 hR hz b0 r0 h
  simp only [World.size_alloc]
  go_wp2_with fail
  refine (contact_r _ _ 0 _ h1 (by omega)).mono ?_
  rintro e w2 ⟨⟨op1, a1, len1, cap1, xs1, rfl, o11, o12, e1, c1, L1, bd1, O1⟩, ⟨q2, hq2, h2⟩, g2⟩
  have b2 : Below w.heap.size w w2 := b1.grown g2 b1.size (fun j hj => by cases hj; omega)
  have k2 : w2.heap[w.heap.size]? = some (.cells Z 37 (0, 0)) := (g2.block _ (by omega) (by simp <;> omega)).trans k1
  have j2 : w2.heap[w.heap.size + 1]? = some (.cells #[.int .i64 0, .slice none 0 0] 47 (0, 0)) := (g2.block _ (by omega) (by simp <;> omega)).trans j1
  have l2 : w.heap.size + 1 + 1 + 1 ≤ w2.heap.size := h2.2.1
  have O2 : Own w2 (w.heap.size + 1 + 1 + 1) a1 xs1 := O1.mono (by omega)
  have HX1 : Hid (len1 = xs1.length ∧ len1 ≤ 9) := ⟨e1, by omega⟩
  have HE1 : Hid (len1 = xs1.length) := e1
  clear g2 k1 j1 b1 h1 O1 l1 e1
  obtain ⟨gE, HgE⟩ : ∃ gE, Hid (gE = w2.heap.size) := ⟨_, rfl⟩
  have b3 : Below w.heap.size w (w2.alloc (.cells #[.int .i64 op1, .slice a1 len1 cap1] 47)) := b2.alloc (by omega) _
  have k3 : (w2.alloc (.cells #[.int .i64 op1, .slice a1 len1 cap1] 47)).heap[w.heap.size]? = some (.cells Z 37 (0, 0)) := (heap_alloc_old w2 _ (by omega)).trans k2
  have j3 : (w2.alloc (.cells #[.int .i64 op1, .slice a1 len1 cap1] 47)).heap[w.heap.size + 1]? = some (.cells #[.int .i64 0, .slice none 0 0] 47 (0, 0)) := (heap_alloc_old w2 _ (by omega)).trans j2
  have i3 : (w2.alloc (.cells #[.int .i64 op1, .slice a1 len1 cap1] 47)).heap[gE]? = some (.cells #[.int .i64 op1, .slice a1 len1 cap1] 47 (0, 0)) := by rw [HgE.out]; exact heap_alloc_last w2 _
  have h3 := h2.alloc (.cells #[.int .i64 op1, .slice a1 len1 cap1] 47)
  have O3 : Own (w2.alloc (.cells #[.int .i64 op1, .slice a1 len1 cap1] 47)) (w.heap.size + 1 + 1 + 1) a1 xs1 := O2.later ((Below.refl _ _).alloc (Nat.le_refl _) _)
  have lE : w.heap.size + 1 + 1 + 1 ≤ gE := by rw [HgE.out]; exact l2
  go_wp2_with fail
  rw [← HgE.out]
  refine (pick_r _ _ q2 16 _ h3 (by omega) (by omega) (by omega)).mono ?_
  rintro e w6 ⟨r, r1, rfl, h6, g6⟩
  have lw : gE < (w2.alloc (.cells #[.int .i64 op1, .slice a1 len1 cap1] 47)).heap.size := (Array.getElem?_eq_some_iff.1 i3).1
  have b6 : Below w.heap.size w w6 := b3.grown g6 b3.size (fun j hj => by cases hj; omega)
  have k6 : w6.heap[w.heap.size]? = some (.cells Z 37 (0, 0)) := (g6.block _ (by omega) (by simp <;> omega)).trans k3
  have j6 : w6.heap[w.heap.size + 1]? = some (.cells #[.int .i64 0, .slice none 0 0] 47 (0, 0)) := (g6.block _ (by omega) (by simp <;> omega)).trans j3
  have i6 : w6.heap[gE]? = some (.cells #[.int .i64 op1, .slice a1 len1 cap1] 47 (0, 0)) := (g6.block _ (by omega) (by simp; omega)).trans i3
  have l6 : gE < w6.heap.size := (Array.getElem?_eq_some_iff.1 i6).1
  have O6 : Own w6 (w.heap.size + 1 + 1 + 1) a1 xs1 := O3.grown g6 (by omega)
  clear b2 k2 j2 h2 l2 O2 b3 k3 j3 i3 h3 O3 g6 lw HgE
  have hr : r = 0 ∨ r = 1 ∨ r = 2 ∨ 3 ≤ r := by omega
  rcases hr with rfl | rfl | rfl | hr
  · go_wp2_with fail
    refine (coil_r _ _ (q2 + 1) _ h6 (by omega)).mono ?_
    rintro e w7 ⟨⟨op2, a2, len2, cap2, xs2, rfl, o21, o22, e2, c2, L2, bd2, O2⟩, ⟨q7, hq7, h7⟩, g7⟩
    have b7 : Below w.heap.size w w7 := b6.grown g7 b6.size (fun j hj => by cases hj; omega)
    have k7 : w7.heap[w.heap.size]? = some (.cells Z 37 (0, 0)) := (g7.block _ (by omega) (by simp <;> omega)).trans k6
    have j7 : w7.heap[w.heap.size + 1]? = some (.cells #[.int .i64 0, .slice none 0 0] 47 (0, 0)) := (g7.block _ (by omega) (by simp <;> omega)).trans j6
    have i7 : w7.heap[gE]? = some (.cells #[.int .i64 op1, .slice a1 len1 cap1] 47 (0, 0)) := (g7.block _ (by omega) (by simp; omega)).trans i6
    have HX2 : Hid (len2 = xs2.length ∧ len2 ≤ 9) := ⟨e2, by omega⟩
    have k8 : ((w7.setCell ⟨gE, 0, none⟩ (.int .i64 op2)).setCell ⟨gE, 1, none⟩ (.slice a2 len2 cap2)).heap[w.heap.size]? = some (.cells Z 37 (0, 0)) := put_other k7 (by omega)
    have j8 : ((w7.setCell ⟨gE, 0, none⟩ (.int .i64 op2)).setCell ⟨gE, 1, none⟩ (.slice a2 len2 cap2)).heap[w.heap.size + 1]? = some (.cells #[.int .i64 0, .slice none 0 0] 47 (0, 0)) := put_other j7 (by omega)
    have i8 : ((w7.setCell ⟨gE, 0, none⟩ (.int .i64 op2)).setCell ⟨gE, 1, none⟩ (.slice a2 len2 cap2)).heap[gE]? = some (.cells #[.int .i64 op2, .slice a2 len2 cap2] 47 (0, 0)) := e2_put i7
    have h8 : Reader (w.heap.size + 1 + 1 + 1) ((w7.setCell ⟨gE, 0, none⟩ (.int .i64 op2)).setCell ⟨gE, 1, none⟩ (.slice a2 len2 cap2)) (w.heap.size + 1 + 1) q7 := (h7.set _ _ _ lE).set _ _ _ lE
    have b8 : Below w.heap.size w ((w7.setCell ⟨gE, 0, none⟩ (.int .i64 op2)).setCell ⟨gE, 1, none⟩ (.slice a2 len2 cap2)) := (b7.setCell (p := ⟨gE, 0, none⟩) (by show _ ≤ gE; omega) _).setCell (p := ⟨gE, 1, none⟩) (by show _ ≤ gE; omega) _
    have O8 : Own ((w7.setCell ⟨gE, 0, none⟩ (.int .i64 op2)).setCell ⟨gE, 1, none⟩ (.slice a2 len2 cap2)) (w.heap.size + 1 + 1 + 1) a2 xs2 := own_put2 (H := w6.heap.size) _ _ O2 (by omega) (by omega)
    have l8 : gE < ((w7.setCell ⟨gE, 0, none⟩ (.int .i64 op2)).setCell ⟨gE, 1, none⟩ (.slice a2 len2 cap2)).heap.size := (Array.getElem?_eq_some_iff.1 i8).1
    have hq8 : q7 < 700000 := by omega
    obtain ⟨s0, s1, s2, s3⟩ := e2_row i7
    clear g7 b7 k7 j7 i7 h7 O2 e2 b6 k6 j6 i6 h6 O6
    go_upto_region 9 with fail
    obtain ⟨w8, H8⟩ : ∃ w8, Hid (w8 = ((w7.setCell ⟨gE, 0, none⟩ (.int .i64 op2)).setCell ⟨gE, 1, none⟩ (.slice a2 len2 cap2))) := ⟨_, rfl⟩
    rw [← H8.out] at k8 j8 i8 h8 b8 l8 O8 ⊢
    clear H8
    obtain ⟨S, HS⟩ : ∃ S : World → Prop, Hid (∀ W, S W ↔ W.heap[gE]? = some (.cells #[.int .i64 op2, .slice a2 len2 cap2] 47 (0, 0))) := ⟨_, fun W => Iff.rfl⟩
    refine region_cut (R := fun a' W => ∃ c, MemOk c ∧ W.heap[w.heap.size]? = some (.cells c 37 (0, 0)) ∧ W.heap[w.heap.size + 1]? = some (.cells #[.int .i64 op2, .slice a2 len2 cap2] 47 (0, 0)) ∧ Below w.heap.size w W ∧ Own W (w.heap.size + 1 + 1 + 1) a2 xs2 ∧ a' = ⟨#[.slice a len cap, undef, .pointer (some ⟨w.heap.size, 0, none⟩), .pointer (some ⟨w.heap.size + 1, 0, none⟩), .pointer (some ⟨w.heap.size + 1 + 1, 0, none⟩), .pointer (some ⟨gE, 0, none⟩), .slice a len cap, .pointer (some ⟨w.heap.size + 1 + 1, 0, none⟩), .pointer (some ⟨w.heap.size + 1 + 1, 0, none⟩), .agg #[.int .i64 op1, .slice a1 len1 cap1], .pointer (some ⟨w.heap.size + 1 + 1, 0, none⟩), .int .i64 0, .bool true, .bool true, .pointer (some ⟨w.heap.size + 1 + 1, 0, none⟩), .agg #[.int .i64 op2, .slice a2 len2 cap2], undef, undef, undef, undef, undef, undef, .pointer (some ⟨w.heap.size + 1 + 1, 0, none⟩), .agg c, .agg #[.int .i64 op2, .slice a2 len2 cap2]], []⟩) ?_ ?_
    · refine wp_region_held_drew (S := S) (by kernel_rfl) ((HS.out _).2 i8) (fun S0 => ?_)
      show wpAnyH _ _ _ _ _ 5 #[false, false, false, false, false] _ _
      refine tk_val' (i := 0) rfl (by kernel_rfl) (by kernel_rfl) (by kernel_rfl) (fun _ _ _ _ h => nomatch h.1) rfl (.pointer (some ⟨w.heap.size + 1 + 1, 0, none⟩)) (fun W _ => by go_simp) S0 #[true, false, false, false, false] rfl ⟨#[.slice a len cap, undef, .pointer (some ⟨w.heap.size, 0, none⟩), .pointer (some ⟨w.heap.size + 1, 0, none⟩), .pointer (some ⟨w.heap.size + 1 + 1, 0, none⟩), .pointer (some ⟨gE, 0, none⟩), .slice a len cap, .pointer (some ⟨w.heap.size + 1 + 1, 0, none⟩), .pointer (some ⟨w.heap.size + 1 + 1, 0, none⟩), .agg #[.int .i64 op1, .slice a1 len1 cap1], .pointer (some ⟨w.heap.size + 1 + 1, 0, none⟩), .int .i64 0, .bool true, .bool true, .pointer (some ⟨w.heap.size + 1 + 1, 0, none⟩), .agg #[.int .i64 op2, .slice a2 len2 cap2], undef, undef, undef, undef, undef, undef, .pointer (some ⟨w.heap.size + 1 + 1, 0, none⟩), undef, undef], []⟩ rfl ?_
      refine tk_load' (i := 2) rfl (by kernel_rfl) (by kernel_rfl) (by kernel_rfl) (fun _ _ _ _ h => nomatch h.1) rfl 47 _ rfl _ _ rfl (.agg #[.int .i64 op2, .slice a2 len2 cap2]) (fun W hW => load_all ((HS.out W).1 hW) _ _ Tryz.underlying47 rfl info_elem) S0 #[true, false, true, false, false] rfl ⟨#[.slice a len cap, undef, .pointer (some ⟨w.heap.size, 0, none⟩), .pointer (some ⟨w.heap.size + 1, 0, none⟩), .pointer (some ⟨w.heap.size + 1 + 1, 0, none⟩), .pointer (some ⟨gE, 0, none⟩), .slice a len cap, .pointer (some ⟨w.heap.size + 1 + 1, 0, none⟩), .pointer (some ⟨w.heap.size + 1 + 1, 0, none⟩), .agg #[.int .i64 op1, .slice a1 len1 cap1], .pointer (some ⟨w.heap.size + 1 + 1, 0, none⟩), .int .i64 0, .bool true, .bool true, .pointer (some ⟨w.heap.size + 1 + 1, 0, none⟩), .agg #[.int .i64 op2, .slice a2 len2 cap2], undef, undef, undef, undef, undef, undef, .pointer (some ⟨w.heap.size + 1 + 1, 0, none⟩), undef, .agg #[.int .i64 op2, .slice a2 len2 cap2]], []⟩ rfl ?_
      refine wpAnyH_all (rs := [1]) (by kernel_rfl) (by simp) (fun i hi => ?_)
      obtain rfl := List.mem_singleton.1 hi
      refine up_fcallV rfl rfl Tryz.func21 (by kernel_rfl) (by kernel_rfl) rfl [.pointer (some ⟨w.heap.size + 1 + 1, 0, none⟩)] rfl #[true, true, true, false, false] rfl (fun v => ⟨#[.slice a len cap, undef, .pointer (some ⟨w.heap.size, 0, none⟩), .pointer (some ⟨w.heap.size + 1, 0, none⟩), .pointer (some ⟨w.heap.size + 1 + 1, 0, none⟩), .pointer (some ⟨gE, 0, none⟩), .slice a len cap, .pointer (some ⟨w.heap.size + 1 + 1, 0, none⟩), .pointer (some ⟨w.heap.size + 1 + 1, 0, none⟩), .agg #[.int .i64 op1, .slice a1 len1 cap1], .pointer (some ⟨w.heap.size + 1 + 1, 0, none⟩), .int .i64 0, .bool true, .bool true, .pointer (some ⟨w.heap.size + 1 + 1, 0, none⟩), .agg #[.int .i64 op2, .slice a2 len2 cap2], undef, undef, undef, undef, undef, undef, .pointer (some ⟨w.heap.size + 1 + 1, 0, none⟩), v, .agg #[.int .i64 op2, .slice a2 len2 cap2]], []⟩) (fun _ => rfl) (fun v W => ∃ c, v = .agg c ∧ MemOk c ∧ w8.drew.grownBy W (some (w.heap.size + 1 + 1))) ((draw5_r _ _ _ _ h8.drew (by omega)).mono fun e W hh => ?_) ?_
      · obtain ⟨⟨c, hc, he⟩, _, hg⟩ := hh
        exact ⟨_, he, c, rfl, hc, hg⟩
      rintro _ w4 ⟨c, rfl, hc, g4⟩
      have b4 : Below w.heap.size w w4 := b8.drew.grown g4 b8.drew.size (fun j hj => by cases hj; omega)
      have k4 : w4.heap[w.heap.size]? = some (.cells Z 37 (0, 0)) := (g4.block _ (by show _ < w8.heap.size; omega) (by simp <;> omega)).trans k8
      have j4 : w4.heap[w.heap.size + 1]? = some (.cells #[.int .i64 0, .slice none 0 0] 47 (0, 0)) := (g4.block _ (by show _ < w8.heap.size; omega) (by simp <;> omega)).trans j8
      have i4 : w4.heap[gE]? = some (.cells #[.int .i64 op2, .slice a2 len2 cap2] 47 (0, 0)) := (g4.block _ (by show _ < w8.heap.size; omega) (by simp; omega)).trans i8
      have O4 : Own w4 (w.heap.size + 1 + 1 + 1) a2 xs2 := Own.grown (own_heap O8 (fun _ _ => rfl) : Own w8.drew (w.heap.size + 1 + 1 + 1) a2 xs2) g4 (by omega)
      refine ⟨(HS.out _).2 i4, ?_⟩
      have HI : Hid ((Tryz.prog.info? 37).map (·.size) = some c.size) := by rw [hc.size]; exact zero_mem.2
      refine wpAnyH_all (rs := [3]) (by kernel_rfl) (by simp) (fun i hi => ?_)
      obtain rfl := List.mem_singleton.1 hi
      refine up_store' rfl rfl 37 _ _ rfl _ _ rfl _ rfl _ (store_all k4 _ _ (HZs.out.trans hc.size.symm) HI.out hc.one) ((HS.out _).2 (row_beside i4 _ (by omega) _)) #[true, true, true, true, false] rfl ⟨#[.slice a len cap, undef, .pointer (some ⟨w.heap.size, 0, none⟩), .pointer (some ⟨w.heap.size + 1, 0, none⟩), .pointer (some ⟨w.heap.size + 1 + 1, 0, none⟩), .pointer (some ⟨gE, 0, none⟩), .slice a len cap, .pointer (some ⟨w.heap.size + 1 + 1, 0, none⟩), .pointer (some ⟨w.heap.size + 1 + 1, 0, none⟩), .agg #[.int .i64 op1, .slice a1 len1 cap1], .pointer (some ⟨w.heap.size + 1 + 1, 0, none⟩), .int .i64 0, .bool true, .bool true, .pointer (some ⟨w.heap.size + 1 + 1, 0, none⟩), .agg #[.int .i64 op2, .slice a2 len2 cap2], undef, undef, undef, undef, undef, undef, .pointer (some ⟨w.heap.size + 1 + 1, 0, none⟩), .agg c, .agg #[.int .i64 op2, .slice a2 len2 cap2]], []⟩ rfl ?_
      refine wpAnyH_all (rs := [4]) (by kernel_rfl) (by simp) (fun i hi => ?_)
      obtain rfl := List.mem_singleton.1 hi
      have j5 := row_beside j4 w.heap.size (by omega) c
      have O5 : Own ((w4.setRow w.heap.size c).setRow (w.heap.size + 1) #[.int .i64 op2, .slice a2 len2 cap2]) (w.heap.size + 1 + 1 + 1) a2 xs2 := own_heap O4 (fun b hb => (setRow_other _ _ _ _ (by omega)).trans (setRow_other _ _ _ _ (by omega)))
      exact up_store' rfl rfl 47 _ _ rfl _ _ rfl _ rfl _ (store_all j5 _ _ rfl info_elem (by simp [Value.oneCell'])) ((HS.out _).2 (row_beside (row_beside i4 _ (by omega) _) _ (by omega) _)) #[true, true, true, true, true] rfl ⟨#[.slice a len cap, undef, .pointer (some ⟨w.heap.size, 0, none⟩), .pointer (some ⟨w.heap.size + 1, 0, none⟩), .pointer (some ⟨w.heap.size + 1 + 1, 0, none⟩), .pointer (some ⟨gE, 0, none⟩), .slice a len cap, .pointer (some ⟨w.heap.size + 1 + 1, 0, none⟩), .pointer (some ⟨w.heap.size + 1 + 1, 0, none⟩), .agg #[.int .i64 op1, .slice a1 len1 cap1], .pointer (some ⟨w.heap.size + 1 + 1, 0, none⟩), .int .i64 0, .bool true, .bool true, .pointer (some ⟨w.heap.size + 1 + 1, 0, none⟩), .agg #[.int .i64 op2, .slice a2 len2 cap2], undef, undef, undef, undef, undef, undef, .pointer (some ⟨w.heap.size + 1 + 1, 0, none⟩), .agg c, .agg #[.int .i64 op2, .slice a2 len2 cap2]], []⟩ rfl (wpAnyH_done (by kernel_rfl) ⟨rfl, c, hc, row_beside (row_set k4 _) _ (by omega) _, row_set j5 _, below_setRow (below_setRow b4 (Nat.le_refl _) _) (by omega) _, O5, rfl⟩ _)
    rintro _ w5 ⟨c, hc, k5, j5, b5, O5, rfl⟩
    have HC : Hid (MemOk c) := hc
    have HLa : Hid ((loadVar 37 ⟨w.heap.size, 0, none⟩).run Tryz.prog w5 = .ok (.agg c) w5) := load_all k5 _ _ Tryz.underlying37 rfl (by rw [hc.size]; exact zero_mem.2)
    have HLb : Hid ((loadVar 47 ⟨w.heap.size + 1, 0, none⟩).run Tryz.prog w5 = .ok (.agg #[.int .i64 op2, .slice a2 len2 cap2]) w5) := load_all j5 _ _ Tryz.underlying47 rfl info_elem
    have HB : Hid (Below w.heap.size w w5) := b5
    have HO : Hid (Own w5 (w.heap.size + 1 + 1 + 1) a2 xs2) := O5
    clear k8 j8 i8 h8 b8 O8 k5 j5 b5 hc HS O5
    go_wp2_with (first | exact ret_row2 rfl rfl rfl HLa.out HLb.out rfl ⟨⟨c, op2, a2, len2, cap2, xs2, HC.out, rfl, HX2.out.1, HX2.out.2, HO.out.sl⟩, HB.out⟩ | fail)
  · obtain ⟨z0, z1, z2, z3⟩ := e2_row i6
    go_wp2_with fail
    clear z0 z1 z2 z3
    refine (spoil_e _ _ (q2 + 1) op1 a1 len1 cap1 4 (w.heap.size + 1 + 1 + 1) xs1 _ h6 (by omega) HE1 (by omega) (by omega) c1 o11 o12 bd1 O6).mono ?_
    rintro e w7 ⟨⟨op3, a3, len3, cap3, xs3, rfl, o31, o32, e3, c3, L3, bd3, O3⟩, ⟨q7, hq7, h7⟩, g7⟩
    have b7 : Below w.heap.size w w7 := b6.grown g7 b6.size (fun j hj => by cases hj; omega)
    have k7 : w7.heap[w.heap.size]? = some (.cells Z 37 (0, 0)) := (g7.block _ (by omega) (by simp <;> omega)).trans k6
    have j7 : w7.heap[w.heap.size + 1]? = some (.cells #[.int .i64 0, .slice none 0 0] 47 (0, 0)) := (g7.block _ (by omega) (by simp <;> omega)).trans j6
    have i7 : w7.heap[gE]? = some (.cells #[.int .i64 op1, .slice a1 len1 cap1] 47 (0, 0)) := (g7.block _ (by omega) (by simp; omega)).trans i6
    have HX3 : Hid (len3 = xs3.length ∧ len3 ≤ 9) := ⟨e3, by omega⟩
    have k8 : ((w7.setCell ⟨gE, 0, none⟩ (.int .i64 op3)).setCell ⟨gE, 1, none⟩ (.slice a3 len3 cap3)).heap[w.heap.size]? = some (.cells Z 37 (0, 0)) := put_other k7 (by omega)
    have j8 : ((w7.setCell ⟨gE, 0, none⟩ (.int .i64 op3)).setCell ⟨gE, 1, none⟩ (.slice a3 len3 cap3)).heap[w.heap.size + 1]? = some (.cells #[.int .i64 0, .slice none 0 0] 47 (0, 0)) := put_other j7 (by omega)
    have i8 : ((w7.setCell ⟨gE, 0, none⟩ (.int .i64 op3)).setCell ⟨gE, 1, none⟩ (.slice a3 len3 cap3)).heap[gE]? = some (.cells #[.int .i64 op3, .slice a3 len3 cap3] 47 (0, 0)) := e2_put i7
    have h8 : Reader (w.heap.size + 1 + 1 + 1) ((w7.setCell ⟨gE, 0, none⟩ (.int .i64 op3)).setCell ⟨gE, 1, none⟩ (.slice a3 len3 cap3)) (w.heap.size + 1 + 1) q7 := (h7.set _ _ _ lE).set _ _ _ lE
    have b8 : Below w.heap.size w ((w7.setCell ⟨gE, 0, none⟩ (.int .i64 op3)).setCell ⟨gE, 1, none⟩ (.slice a3 len3 cap3)) := (b7.setCell (p := ⟨gE, 0, none⟩) (by show _ ≤ gE; omega) _).setCell (p := ⟨gE, 1, none⟩) (by show _ ≤ gE; omega) _
    have O8 : Own ((w7.setCell ⟨gE, 0, none⟩ (.int .i64 op3)).setCell ⟨gE, 1, none⟩ (.slice a3 len3 cap3)) (w.heap.size + 1 + 1 + 1) a3 xs3 := own_put2 (H := w6.heap.size) _ _ O3 (by omega) (by omega)
    have l8 : gE < ((w7.setCell ⟨gE, 0, none⟩ (.int .i64 op3)).setCell ⟨gE, 1, none⟩ (.slice a3 len3 cap3)).heap.size := (Array.getElem?_eq_some_iff.1 i8).1
    have hq8 : q7 < 700000 := by omega
    obtain ⟨s0, s1, s2, s3⟩ := e2_row i7
    clear g7 b7 k7 j7 i7 h7 O3 e3 b6 k6 j6 i6 h6 O6
    go_upto_region 9 with fail
    obtain ⟨w8, H8⟩ : ∃ w8, Hid (w8 = ((w7.setCell ⟨gE, 0, none⟩ (.int .i64 op3)).setCell ⟨gE, 1, none⟩ (.slice a3 len3 cap3))) := ⟨_, rfl⟩
    rw [← H8.out] at k8 j8 i8 h8 b8 l8 O8 ⊢
    clear H8
    obtain ⟨S, HS⟩ : ∃ S : World → Prop, Hid (∀ W, S W ↔ W.heap[gE]? = some (.cells #[.int .i64 op3, .slice a3 len3 cap3] 47 (0, 0))) := ⟨_, fun W => Iff.rfl⟩
    refine region_cut (R := fun a' W => ∃ c, MemOk c ∧ W.heap[w.heap.size]? = some (.cells c 37 (0, 0)) ∧ W.heap[w.heap.size + 1]? = some (.cells #[.int .i64 op3, .slice a3 len3 cap3] 47 (0, 0)) ∧ Below w.heap.size w W ∧ Own W (w.heap.size + 1 + 1 + 1) a3 xs3 ∧ a' = ⟨#[.slice a len cap, undef, .pointer (some ⟨w.heap.size, 0, none⟩), .pointer (some ⟨w.heap.size + 1, 0, none⟩), .pointer (some ⟨w.heap.size + 1 + 1, 0, none⟩), .pointer (some ⟨gE, 0, none⟩), .slice a len cap, .pointer (some ⟨w.heap.size + 1 + 1, 0, none⟩), .pointer (some ⟨w.heap.size + 1 + 1, 0, none⟩), .agg #[.int .i64 op1, .slice a1 len1 cap1], .pointer (some ⟨w.heap.size + 1 + 1, 0, none⟩), .int .i64 1, .bool false, .bool false, undef, undef, .bool true, .bool true, undef, .pointer (some ⟨w.heap.size + 1 + 1, 0, none⟩), .agg #[.int .i64 op1, .slice a1 len1 cap1], .agg #[.int .i64 op3, .slice a3 len3 cap3], .pointer (some ⟨w.heap.size + 1 + 1, 0, none⟩), .agg c, .agg #[.int .i64 op3, .slice a3 len3 cap3]], []⟩) ?_ ?_
    · refine wp_region_held_drew (S := S) (by kernel_rfl) ((HS.out _).2 i8) (fun S0 => ?_)
      show wpAnyH _ _ _ _ _ 5 #[false, false, false, false, false] _ _
      refine tk_val' (i := 0) rfl (by kernel_rfl) (by kernel_rfl) (by kernel_rfl) (fun _ _ _ _ h => nomatch h.1) rfl (.pointer (some ⟨w.heap.size + 1 + 1, 0, none⟩)) (fun W _ => by go_simp) S0 #[true, false, false, false, false] rfl ⟨#[.slice a len cap, undef, .pointer (some ⟨w.heap.size, 0, none⟩), .pointer (some ⟨w.heap.size + 1, 0, none⟩), .pointer (some ⟨w.heap.size + 1 + 1, 0, none⟩), .pointer (some ⟨gE, 0, none⟩), .slice a len cap, .pointer (some ⟨w.heap.size + 1 + 1, 0, none⟩), .pointer (some ⟨w.heap.size + 1 + 1, 0, none⟩), .agg #[.int .i64 op1, .slice a1 len1 cap1], .pointer (some ⟨w.heap.size + 1 + 1, 0, none⟩), .int .i64 1, .bool false, .bool false, undef, undef, .bool true, .bool true, undef, .pointer (some ⟨w.heap.size + 1 + 1, 0, none⟩), .agg #[.int .i64 op1, .slice a1 len1 cap1], .agg #[.int .i64 op3, .slice a3 len3 cap3], .pointer (some ⟨w.heap.size + 1 + 1, 0, none⟩), undef, undef], []⟩ rfl ?_
      refine tk_load' (i := 2) rfl (by kernel_rfl) (by kernel_rfl) (by kernel_rfl) (fun _ _ _ _ h => nomatch h.1) rfl 47 _ rfl _ _ rfl (.agg #[.int .i64 op3, .slice a3 len3 cap3]) (fun W hW => load_all ((HS.out W).1 hW) _ _ Tryz.underlying47 rfl info_elem) S0 #[true, false, true, false, false] rfl ⟨#[.slice a len cap, undef, .pointer (some ⟨w.heap.size, 0, none⟩), .pointer (some ⟨w.heap.size + 1, 0, none⟩), .pointer (some ⟨w.heap.size + 1 + 1, 0, none⟩), .pointer (some ⟨gE, 0, none⟩), .slice a len cap, .pointer (some ⟨w.heap.size + 1 + 1, 0, none⟩), .pointer (some ⟨w.heap.size + 1 + 1, 0, none⟩), .agg #[.int .i64 op1, .slice a1 len1 cap1], .pointer (some ⟨w.heap.size + 1 + 1, 0, none⟩), .int .i64 1, .bool false, .bool false, undef, undef, .bool true, .bool true, undef, .pointer (some ⟨w.heap.size + 1 + 1, 0, none⟩), .agg #[.int .i64 op1, .slice a1 len1 cap1], .agg #[.int .i64 op3, .slice a3 len3 cap3], .pointer (some ⟨w.heap.size + 1 + 1, 0, none⟩), undef, .agg #[.int .i64 op3, .slice a3 len3 cap3]], []⟩ rfl ?_
      refine wpAnyH_all (rs := [1]) (by kernel_rfl) (by simp) (fun i hi => ?_)
      obtain rfl := List.mem_singleton.1 hi
      refine up_fcallV rfl rfl Tryz.func21 (by kernel_rfl) (by kernel_rfl) rfl [.pointer (some ⟨w.heap.size + 1 + 1, 0, none⟩)] rfl #[true, true, true, false, false] rfl (fun v => ⟨#[.slice a len cap, undef, .pointer (some ⟨w.heap.size, 0, none⟩), .pointer (some ⟨w.heap.size + 1, 0, none⟩), .pointer (some ⟨w.heap.size + 1 + 1, 0, none⟩), .pointer (some ⟨gE, 0, none⟩), .slice a len cap, .pointer (some ⟨w.heap.size + 1 + 1, 0, none⟩), .pointer (some ⟨w.heap.size + 1 + 1, 0, none⟩), .agg #[.int .i64 op1, .slice a1 len1 cap1], .pointer (some ⟨w.heap.size + 1 + 1, 0, none⟩), .int .i64 1, .bool false, .bool false, undef, undef, .bool true, .bool true, undef, .pointer (some ⟨w.heap.size + 1 + 1, 0, none⟩), .agg #[.int .i64 op1, .slice a1 len1 cap1], .agg #[.int .i64 op3, .slice a3 len3 cap3], .pointer (some ⟨w.heap.size + 1 + 1, 0, none⟩), v, .agg #[.int .i64 op3, .slice a3 len3 cap3]], []⟩) (fun _ => rfl) (fun v W => ∃ c, v = .agg c ∧ MemOk c ∧ w8.drew.grownBy W (some (w.heap.size + 1 + 1))) ((draw5_r _ _ _ _ h8.drew (by omega)).mono fun e W hh => ?_) ?_
      · obtain ⟨⟨c, hc, he⟩, _, hg⟩ := hh
        exact ⟨_, he, c, rfl, hc, hg⟩
      rintro _ w4 ⟨c, rfl, hc, g4⟩
      have b4 : Below w.heap.size w w4 := b8.drew.grown g4 b8.drew.size (fun j hj => by cases hj; omega)
      have k4 : w4.heap[w.heap.size]? = some (.cells Z 37 (0, 0)) := (g4.block _ (by show _ < w8.heap.size; omega) (by simp <;> omega)).trans k8
      have j4 : w4.heap[w.heap.size + 1]? = some (.cells #[.int .i64 0, .slice none 0 0] 47 (0, 0)) := (g4.block _ (by show _ < w8.heap.size; omega) (by simp <;> omega)).trans j8
      have i4 : w4.heap[gE]? = some (.cells #[.int .i64 op3, .slice a3 len3 cap3] 47 (0, 0)) := (g4.block _ (by show _ < w8.heap.size; omega) (by simp; omega)).trans i8
      have O4 : Own w4 (w.heap.size + 1 + 1 + 1) a3 xs3 := Own.grown (own_heap O8 (fun _ _ => rfl) : Own w8.drew (w.heap.size + 1 + 1 + 1) a3 xs3) g4 (by omega)
      refine ⟨(HS.out _).2 i4, ?_⟩
      have HI : Hid ((Tryz.prog.info? 37).map (·.size) = some c.size) := by rw [hc.size]; exact zero_mem.2
      refine wpAnyH_all (rs := [3]) (by kernel_rfl) (by simp) (fun i hi => ?_)
      obtain rfl := List.mem_singleton.1 hi
      refine up_store' rfl rfl 37 _ _ rfl _ _ rfl _ rfl _ (store_all k4 _ _ (HZs.out.trans hc.size.symm) HI.out hc.one) ((HS.out _).2 (row_beside i4 _ (by omega) _)) #[true, true, true, true, false] rfl ⟨#[.slice a len cap, undef, .pointer (some ⟨w.heap.size, 0, none⟩), .pointer (some ⟨w.heap.size + 1, 0, none⟩), .pointer (some ⟨w.heap.size + 1 + 1, 0, none⟩), .pointer (some ⟨gE, 0, none⟩), .slice a len cap, .pointer (some ⟨w.heap.size + 1 + 1, 0, none⟩), .pointer (some ⟨w.heap.size + 1 + 1, 0, none⟩), .agg #[.int .i64 op1, .slice a1 len1 cap1], .pointer (some ⟨w.heap.size + 1 + 1, 0, none⟩), .int .i64 1, .bool false, .bool false, undef, undef, .bool true, .bool true, undef, .pointer (some ⟨w.heap.size + 1 + 1, 0, none⟩), .agg #[.int .i64 op1, .slice a1 len1 cap1], .agg #[.int .i64 op3, .slice a3 len3 cap3], .pointer (some ⟨w.heap.size + 1 + 1, 0, none⟩), .agg c, .agg #[.int .i64 op3, .slice a3 len3 cap3]], []⟩ rfl ?_
      refine wpAnyH_all (rs := [4]) (by kernel_rfl) (by simp) (fun i hi => ?_)
      obtain rfl := List.mem_singleton.1 hi
      have j5 := row_beside j4 w.heap.size (by omega) c
      have O5 : Own ((w4.setRow w.heap.size c).setRow (w.heap.size + 1) #[.int .i64 op3, .slice a3 len3 cap3]) (w.heap.size + 1 + 1 + 1) a3 xs3 := own_heap O4 (fun b hb => (setRow_other _ _ _ _ (by omega)).trans (setRow_other _ _ _ _ (by omega)))
      exact up_store' rfl rfl 47 _ _ rfl _ _ rfl _ rfl _ (store_all j5 _ _ rfl info_elem (by simp [Value.oneCell'])) ((HS.out _).2 (row_beside (row_beside i4 _ (by omega) _) _ (by omega) _)) #[true, true, true, true, true] rfl ⟨#[.slice a len cap, undef, .pointer (some ⟨w.heap.size, 0, none⟩), .pointer (some ⟨w.heap.size + 1, 0, none⟩), .pointer (some ⟨w.heap.size + 1 + 1, 0, none⟩), .pointer (some ⟨gE, 0, none⟩), .slice a len cap, .pointer (some ⟨w.heap.size + 1 + 1, 0, none⟩), .pointer (some ⟨w.heap.size + 1 + 1, 0, none⟩), .agg #[.int .i64 op1, .slice a1 len1 cap1], .pointer (some ⟨w.heap.size + 1 + 1, 0, none⟩), .int .i64 1, .bool false, .bool false, undef, undef, .bool true, .bool true, undef, .pointer (some ⟨w.heap.size + 1 + 1, 0, none⟩), .agg #[.int .i64 op1, .slice a1 len1 cap1], .agg #[.int .i64 op3, .slice a3 len3 cap3], .pointer (some ⟨w.heap.size + 1 + 1, 0, none⟩), .agg c, .agg #[.int .i64 op3, .slice a3 len3 cap3]], []⟩ rfl (wpAnyH_done (by kernel_rfl) ⟨rfl, c, hc, row_beside (row_set k4 _) _ (by omega) _, row_set j5 _, below_setRow (below_setRow b4 (Nat.le_refl _) _) (by omega) _, O5, rfl⟩ _)
    rintro _ w5 ⟨c, hc, k5, j5, b5, O5, rfl⟩
    have HC : Hid (MemOk c) := hc
    have HLa : Hid ((loadVar 37 ⟨w.heap.size, 0, none⟩).run Tryz.prog w5 = .ok (.agg c) w5) := load_all k5 _ _ Tryz.underlying37 rfl (by rw [hc.size]; exact zero_mem.2)
    have HLb : Hid ((loadVar 47 ⟨w.heap.size + 1, 0, none⟩).run Tryz.prog w5 = .ok (.agg #[.int .i64 op3, .slice a3 len3 cap3]) w5) := load_all j5 _ _ Tryz.underlying47 rfl info_elem
    have HB : Hid (Below w.heap.size w w5) := b5
    have HO : Hid (Own w5 (w.heap.size + 1 + 1 + 1) a3 xs3) := O5
    clear k8 j8 i8 h8 b8 O8 k5 j5 b5 hc HS O5
    go_wp2_with (first | exact ret_row2 rfl rfl rfl HLa.out HLb.out rfl ⟨⟨c, op3, a3, len3, cap3, xs3, HC.out, rfl, HX3.out.1, HX3.out.2, HO.out.sl⟩, HB.out⟩ | fail)
  · obtain ⟨z0, z1, z2, z3⟩ := e2_row i6
    go_wp2_with fail
    clear z0 z1 z2 z3
    refine (spoil_e _ _ (q2 + 1) op1 a1 len1 cap1 4 (w.heap.size + 1 + 1 + 1) xs1 _ h6 (by omega) HE1 (by omega) (by omega) c1 o11 o12 bd1 O6).mono ?_
    rintro e w7 ⟨⟨op3, a3, len3, cap3, xs3, rfl, o31, o32, e3, c3, L3, bd3, O3⟩, ⟨q7, hq7, h7⟩, g7⟩
    have b7 : Below w.heap.size w w7 := b6.grown g7 b6.size (fun j hj => by cases hj; omega)
    have k7 : w7.heap[w.heap.size]? = some (.cells Z 37 (0, 0)) := (g7.block _ (by omega) (by simp <;> omega)).trans k6
    have j7 : w7.heap[w.heap.size + 1]? = some (.cells #[.int .i64 0, .slice none 0 0] 47 (0, 0)) := (g7.block _ (by omega) (by simp <;> omega)).trans j6
    have i7 : w7.heap[gE]? = some (.cells #[.int .i64 op1, .slice a1 len1 cap1] 47 (0, 0)) := (g7.block _ (by omega) (by simp; omega)).trans i6
    have HX3 : Hid (len3 = xs3.length ∧ len3 ≤ 9) := ⟨e3, by omega⟩
    have k8 : ((w7.setCell ⟨gE, 0, none⟩ (.int .i64 op3)).setCell ⟨gE, 1, none⟩ (.slice a3 len3 cap3)).heap[w.heap.size]? = some (.cells Z 37 (0, 0)) := put_other k7 (by omega)
    have j8 : ((w7.setCell ⟨gE, 0, none⟩ (.int .i64 op3)).setCell ⟨gE, 1, none⟩ (.slice a3 len3 cap3)).heap[w.heap.size + 1]? = some (.cells #[.int .i64 0, .slice none 0 0] 47 (0, 0)) := put_other j7 (by omega)
    have i8 : ((w7.setCell ⟨gE, 0, none⟩ (.int .i64 op3)).setCell ⟨gE, 1, none⟩ (.slice a3 len3 cap3)).heap[gE]? = some (.cells #[.int .i64 op3, .slice a3 len3 cap3] 47 (0, 0)) := e2_put i7
    have h8 : Reader (w.heap.size + 1 + 1 + 1) ((w7.setCell ⟨gE, 0, none⟩ (.int .i64 op3)).setCell ⟨gE, 1, none⟩ (.slice a3 len3 cap3)) (w.heap.size + 1 + 1) q7 := (h7.set _ _ _ lE).set _ _ _ lE
    have b8 : Below w.heap.size w ((w7.setCell ⟨gE, 0, none⟩ (.int .i64 op3)).setCell ⟨gE, 1, none⟩ (.slice a3 len3 cap3)) := (b7.setCell (p := ⟨gE, 0, none⟩) (by show _ ≤ gE; omega) _).setCell (p := ⟨gE, 1, none⟩) (by show _ ≤ gE; omega) _
    have O8 : Own ((w7.setCell ⟨gE, 0, none⟩ (.int .i64 op3)).setCell ⟨gE, 1, none⟩ (.slice a3 len3 cap3)) (w.heap.size + 1 + 1 + 1) a3 xs3 := own_put2 (H := w6.heap.size) _ _ O3 (by omega) (by omega)
    have l8 : gE < ((w7.setCell ⟨gE, 0, none⟩ (.int .i64 op3)).setCell ⟨gE, 1, none⟩ (.slice a3 len3 cap3)).heap.size := (Array.getElem?_eq_some_iff.1 i8).1
    have hq8 : q7 < 700000 := by omega
    obtain ⟨s0, s1, s2, s3⟩ := e2_row i7
    clear g7 b7 k7 j7 i7 h7 O3 e3 b6 k6 j6 i6 h6 O6
    go_upto_region 9 with fail
    obtain ⟨w8, H8⟩ : ∃ w8, Hid (w8 = ((w7.setCell ⟨gE, 0, none⟩ (.int .i64 op3)).setCell ⟨gE, 1, none⟩ (.slice a3 len3 cap3))) := ⟨_, rfl⟩
    rw [← H8.out] at k8 j8 i8 h8 b8 l8 O8 ⊢
    clear H8
    obtain ⟨S, HS⟩ : ∃ S : World → Prop, Hid (∀ W, S W ↔ W.heap[gE]? = some (.cells #[.int .i64 op3, .slice a3 len3 cap3] 47 (0, 0))) := ⟨_, fun W => Iff.rfl⟩
    refine region_cut (R := fun a' W => ∃ c, MemOk c ∧ W.heap[w.heap.size]? = some (.cells c 37 (0, 0)) ∧ W.heap[w.heap.size + 1]? = some (.cells #[.int .i64 op3, .slice a3 len3 cap3] 47 (0, 0)) ∧ Below w.heap.size w W ∧ Own W (w.heap.size + 1 + 1 + 1) a3 xs3 ∧ a' = ⟨#[.slice a len cap, undef, .pointer (some ⟨w.heap.size, 0, none⟩), .pointer (some ⟨w.heap.size + 1, 0, none⟩), .pointer (some ⟨w.heap.size + 1 + 1, 0, none⟩), .pointer (some ⟨gE, 0, none⟩), .slice a len cap, .pointer (some ⟨w.heap.size + 1 + 1, 0, none⟩), .pointer (some ⟨w.heap.size + 1 + 1, 0, none⟩), .agg #[.int .i64 op1, .slice a1 len1 cap1], .pointer (some ⟨w.heap.size + 1 + 1, 0, none⟩), .int .i64 2, .bool false, .bool false, undef, undef, .bool true, .bool false, .bool true, .pointer (some ⟨w.heap.size + 1 + 1, 0, none⟩), .agg #[.int .i64 op1, .slice a1 len1 cap1], .agg #[.int .i64 op3, .slice a3 len3 cap3], .pointer (some ⟨w.heap.size + 1 + 1, 0, none⟩), .agg c, .agg #[.int .i64 op3, .slice a3 len3 cap3]], []⟩) ?_ ?_
    · refine wp_region_held_drew (S := S) (by kernel_rfl) ((HS.out _).2 i8) (fun S0 => ?_)
      show wpAnyH _ _ _ _ _ 5 #[false, false, false, false, false] _ _
      refine tk_val' (i := 0) rfl (by kernel_rfl) (by kernel_rfl) (by kernel_rfl) (fun _ _ _ _ h => nomatch h.1) rfl (.pointer (some ⟨w.heap.size + 1 + 1, 0, none⟩)) (fun W _ => by go_simp) S0 #[true, false, false, false, false] rfl ⟨#[.slice a len cap, undef, .pointer (some ⟨w.heap.size, 0, none⟩), .pointer (some ⟨w.heap.size + 1, 0, none⟩), .pointer (some ⟨w.heap.size + 1 + 1, 0, none⟩), .pointer (some ⟨gE, 0, none⟩), .slice a len cap, .pointer (some ⟨w.heap.size + 1 + 1, 0, none⟩), .pointer (some ⟨w.heap.size + 1 + 1, 0, none⟩), .agg #[.int .i64 op1, .slice a1 len1 cap1], .pointer (some ⟨w.heap.size + 1 + 1, 0, none⟩), .int .i64 2, .bool false, .bool false, undef, undef, .bool true, .bool false, .bool true, .pointer (some ⟨w.heap.size + 1 + 1, 0, none⟩), .agg #[.int .i64 op1, .slice a1 len1 cap1], .agg #[.int .i64 op3, .slice a3 len3 cap3], .pointer (some ⟨w.heap.size + 1 + 1, 0, none⟩), undef, undef], []⟩ rfl ?_
      refine tk_load' (i := 2) rfl (by kernel_rfl) (by kernel_rfl) (by kernel_rfl) (fun _ _ _ _ h => nomatch h.1) rfl 47 _ rfl _ _ rfl (.agg #[.int .i64 op3, .slice a3 len3 cap3]) (fun W hW => load_all ((HS.out W).1 hW) _ _ Tryz.underlying47 rfl info_elem) S0 #[true, false, true, false, false] rfl ⟨#[.slice a len cap, undef, .pointer (some ⟨w.heap.size, 0, none⟩), .pointer (some ⟨w.heap.size + 1, 0, none⟩), .pointer (some ⟨w.heap.size + 1 + 1, 0, none⟩), .pointer (some ⟨gE, 0, none⟩), .slice a len cap, .pointer (some ⟨w.heap.size + 1 + 1, 0, none⟩), .pointer (some ⟨w.heap.size + 1 + 1, 0, none⟩), .agg #[.int .i64 op1, .slice a1 len1 cap1], .pointer (some ⟨w.heap.size + 1 + 1, 0, none⟩), .int .i64 2, .bool false, .bool false, undef, undef, .bool true, .bool false, .bool true, .pointer (some ⟨w.heap.size + 1 + 1, 0, none⟩), .agg #[.int .i64 op1, .slice a1 len1 cap1], .agg #[.int .i64 op3, .slice a3 len3 cap3], .pointer (some ⟨w.heap.size + 1 + 1, 0, none⟩), undef, .agg #[.int .i64 op3, .slice a3 len3 cap3]], []⟩ rfl ?_
      refine wpAnyH_all (rs := [1]) (by kernel_rfl) (by simp) (fun i hi => ?_)
      obtain rfl := List.mem_singleton.1 hi
      refine up_fcallV rfl rfl Tryz.func21 (by kernel_rfl) (by kernel_rfl) rfl [.pointer (some ⟨w.heap.size + 1 + 1, 0, none⟩)] rfl #[true, true, true, false, false] rfl (fun v => ⟨#[.slice a len cap, undef, .pointer (some ⟨w.heap.size, 0, none⟩), .pointer (some ⟨w.heap.size + 1, 0, none⟩), .pointer (some ⟨w.heap.size + 1 + 1, 0, none⟩), .pointer (some ⟨gE, 0, none⟩), .slice a len cap, .pointer (some ⟨w.heap.size + 1 + 1, 0, none⟩), .pointer (some ⟨w.heap.size + 1 + 1, 0, none⟩), .agg #[.int .i64 op1, .slice a1 len1 cap1], .pointer (some ⟨w.heap.size + 1 + 1, 0, none⟩), .int .i64 2, .bool false, .bool false, undef, undef, .bool true, .bool false, .bool true, .pointer (some ⟨w.heap.size + 1 + 1, 0, none⟩), .agg #[.int .i64 op1, .slice a1 len1 cap1], .agg #[.int .i64 op3, .slice a3 len3 cap3], .pointer (some ⟨w.heap.size + 1 + 1, 0, none⟩), v, .agg #[.int .i64 op3, .slice a3 len3 cap3]], []⟩) (fun _ => rfl) (fun v W => ∃ c, v = .agg c ∧ MemOk c ∧ w8.drew.grownBy W (some (w.heap.size + 1 + 1))) ((draw5_r _ _ _ _ h8.drew (by omega)).mono fun e W hh => ?_) ?_
      · obtain ⟨⟨c, hc, he⟩, _, hg⟩ := hh
        exact ⟨_, he, c, rfl, hc, hg⟩
      rintro _ w4 ⟨c, rfl, hc, g4⟩
      have b4 : Below w.heap.size w w4 := b8.drew.grown g4 b8.drew.size (fun j hj => by cases hj; omega)
      have k4 : w4.heap[w.heap.size]? = some (.cells Z 37 (0, 0)) := (g4.block _ (by show _ < w8.heap.size; omega) (by simp <;> omega)).trans k8
      have j4 : w4.heap[w.heap.size + 1]? = some (.cells #[.int .i64 0, .slice none 0 0] 47 (0, 0)) := (g4.block _ (by show _ < w8.heap.size; omega) (by simp <;> omega)).trans j8
      have i4 : w4.heap[gE]? = some (.cells #[.int .i64 op3, .slice a3 len3 cap3] 47 (0, 0)) := (g4.block _ (by show _ < w8.heap.size; omega) (by simp; omega)).trans i8
      have O4 : Own w4 (w.heap.size + 1 + 1 + 1) a3 xs3 := Own.grown (own_heap O8 (fun _ _ => rfl) : Own w8.drew (w.heap.size + 1 + 1 + 1) a3 xs3) g4 (by omega)
      refine ⟨(HS.out _).2 i4, ?_⟩
      have HI : Hid ((Tryz.prog.info? 37).map (·.size) = some c.size) := by rw [hc.size]; exact zero_mem.2
      refine wpAnyH_all (rs := [3]) (by kernel_rfl) (by simp) (fun i hi => ?_)
      obtain rfl := List.mem_singleton.1 hi
      refine up_store' rfl rfl 37 _ _ rfl _ _ rfl _ rfl _ (store_all k4 _ _ (HZs.out.trans hc.size.symm) HI.out hc.one) ((HS.out _).2 (row_beside i4 _ (by omega) _)) #[true, true, true, true, false] rfl ⟨#[.slice a len cap, undef, .pointer (some ⟨w.heap.size, 0, none⟩), .pointer (some ⟨w.heap.size + 1, 0, none⟩), .pointer (some ⟨w.heap.size + 1 + 1, 0, none⟩), .pointer (some ⟨gE, 0, none⟩), .slice a len cap, .pointer (some ⟨w.heap.size + 1 + 1, 0, none⟩), .pointer (some ⟨w.heap.size + 1 + 1, 0, none⟩), .agg #[.int .i64 op1, .slice a1 len1 cap1], .pointer (some ⟨w.heap.size + 1 + 1, 0, none⟩), .int .i64 2, .bool false, .bool false, undef, undef, .bool true, .bool false, .bool true, .pointer (some ⟨w.heap.size + 1 + 1, 0, none⟩), .agg #[.int .i64 op1, .slice a1 len1 cap1], .agg #[.int .i64 op3, .slice a3 len3 cap3], .pointer (some ⟨w.heap.size + 1 + 1, 0, none⟩), .agg c, .agg #[.int .i64 op3, .slice a3 len3 cap3]], []⟩ rfl ?_
      refine wpAnyH_all (rs := [4]) (by kernel_rfl) (by simp) (fun i hi => ?_)
      obtain rfl := List.mem_singleton.1 hi
      have j5 := row_beside j4 w.heap.size (by omega) c
      have O5 : Own ((w4.setRow w.heap.size c).setRow (w.heap.size + 1) #[.int .i64 op3, .slice a3 len3 cap3]) (w.heap.size + 1 + 1 + 1) a3 xs3 := own_heap O4 (fun b hb => (setRow_other _ _ _ _ (by omega)).trans (setRow_other _ _ _ _ (by omega)))
      exact up_store' rfl rfl 47 _ _ rfl _ _ rfl _ rfl _ (store_all j5 _ _ rfl info_elem (by simp [Value.oneCell'])) ((HS.out _).2 (row_beside (row_beside i4 _ (by omega) _) _ (by omega) _)) #[true, true, true, true, true] rfl ⟨#[.slice a len cap, undef, .pointer (some ⟨w.heap.size, 0, none⟩), .pointer (some ⟨w.heap.size + 1, 0, none⟩), .pointer (some ⟨w.heap.size + 1 + 1, 0, none⟩), .pointer (some ⟨gE, 0, none⟩), .slice a len cap, .pointer (some ⟨w.heap.size + 1 + 1, 0, none⟩), .pointer (some ⟨w.heap.size + 1 + 1, 0, none⟩), .agg #[.int .i64 op1, .slice a1 len1 cap1], .pointer (some ⟨w.heap.size + 1 + 1, 0, none⟩), .int .i64 2, .bool false, .bool false, undef, undef, .bool true, .bool false, .bool true, .pointer (some ⟨w.heap.size + 1 + 1, 0, none⟩), .agg #[.int .i64 op1, .slice a1 len1 cap1], .agg #[.int .i64 op3, .slice a3 len3 cap3], .pointer (some ⟨w.heap.size + 1 + 1, 0, none⟩), .agg c, .agg #[.int .i64 op3, .slice a3 len3 cap3]], []⟩ rfl (wpAnyH_done (by kernel_rfl) ⟨rfl, c, hc, row_beside (row_set k4 _) _ (by omega) _, row_set j5 _, below_setRow (below_setRow b4 (Nat.le_refl _) _) (by omega) _, O5, rfl⟩ _)
    rintro _ w5 ⟨c, hc, k5, j5, b5, O5, rfl⟩
    have HC : Hid (MemOk c) := hc
    have HLa : Hid ((loadVar 37 ⟨w.heap.size, 0, none⟩).run Tryz.prog w5 = .ok (.agg c) w5) := load_all k5 _ _ Tryz.underlying37 rfl (by rw [hc.size]; exact zero_mem.2)
    have HLb : Hid ((loadVar 47 ⟨w.heap.size + 1, 0, none⟩).run Tryz.prog w5 = .ok (.agg #[.int .i64 op3, .slice a3 len3 cap3]) w5) := load_all j5 _ _ Tryz.underlying47 rfl info_elem
    have HB : Hid (Below w.heap.size w w5) := b5
    have HO : Hid (Own w5 (w.heap.size + 1 + 1 + 1) a3 xs3) := O5
    clear k8 j8 i8 h8 b8 O8 k5 j5 b5 hc HS O5
    go_wp2_with (first | exact ret_row2 rfl rfl rfl HLa.out HLb.out rfl ⟨⟨c, op3, a3, len3, cap3, xs3, HC.out, rfl, HX3.out.1, HX3.out.2, HO.out.sl⟩, HB.out⟩ | fail)
  · have n0 : ((r : Int) == 0) = false := by simp; omega
    have n1 : ((r : Int) == 1) = false := by simp; omega
    have n2 : ((r : Int) == 2) = false := by simp; omega
    have k8 := k6
    have j8 := j6
    have i8 := i6
    have h8 := h6
    have b8 := b6
    have O8 := O6
    have l8 := l6
    clear b6 k6 j6 i6 h6 O6
    go_upto_region 9 with fail
    obtain ⟨w8, H8⟩ : ∃ w8, Hid (w8 = w6) := ⟨_, rfl⟩
    rw [← H8.out] at k8 j8 i8 h8 b8 l8 O8 ⊢
    clear H8
    obtain ⟨S, HS⟩ : ∃ S : World → Prop, Hid (∀ W, S W ↔ W.heap[gE]? = some (.cells #[.int .i64 op1, .slice a1 len1 cap1] 47 (0, 0))) := ⟨_, fun W => Iff.rfl⟩
    refine region_cut (R := fun a' W => ∃ c, MemOk c ∧ W.heap[w.heap.size]? = some (.cells c 37 (0, 0)) ∧ W.heap[w.heap.size + 1]? = some (.cells #[.int .i64 op1, .slice a1 len1 cap1] 47 (0, 0)) ∧ Below w.heap.size w W ∧ Own W (w.heap.size + 1 + 1 + 1) a1 xs1 ∧ a' = ⟨#[.slice a len cap, undef, .pointer (some ⟨w.heap.size, 0, none⟩), .pointer (some ⟨w.heap.size + 1, 0, none⟩), .pointer (some ⟨w.heap.size + 1 + 1, 0, none⟩), .pointer (some ⟨gE, 0, none⟩), .slice a len cap, .pointer (some ⟨w.heap.size + 1 + 1, 0, none⟩), .pointer (some ⟨w.heap.size + 1 + 1, 0, none⟩), .agg #[.int .i64 op1, .slice a1 len1 cap1], .pointer (some ⟨w.heap.size + 1 + 1, 0, none⟩), .int .i64 (r : Int), .bool false, .bool false, undef, undef, .bool false, .bool false, .bool false, undef, undef, undef, .pointer (some ⟨w.heap.size + 1 + 1, 0, none⟩), .agg c, .agg #[.int .i64 op1, .slice a1 len1 cap1]], []⟩) ?_ ?_
    · refine wp_region_held_drew (S := S) (by kernel_rfl) ((HS.out _).2 i8) (fun S0 => ?_)
      show wpAnyH _ _ _ _ _ 5 #[false, false, false, false, false] _ _
      refine tk_val' (i := 0) rfl (by kernel_rfl) (by kernel_rfl) (by kernel_rfl) (fun _ _ _ _ h => nomatch h.1) rfl (.pointer (some ⟨w.heap.size + 1 + 1, 0, none⟩)) (fun W _ => by go_simp) S0 #[true, false, false, false, false] rfl ⟨#[.slice a len cap, undef, .pointer (some ⟨w.heap.size, 0, none⟩), .pointer (some ⟨w.heap.size + 1, 0, none⟩), .pointer (some ⟨w.heap.size + 1 + 1, 0, none⟩), .pointer (some ⟨gE, 0, none⟩), .slice a len cap, .pointer (some ⟨w.heap.size + 1 + 1, 0, none⟩), .pointer (some ⟨w.heap.size + 1 + 1, 0, none⟩), .agg #[.int .i64 op1, .slice a1 len1 cap1], .pointer (some ⟨w.heap.size + 1 + 1, 0, none⟩), .int .i64 (r : Int), .bool false, .bool false, undef, undef, .bool false, .bool false, .bool false, undef, undef, undef, .pointer (some ⟨w.heap.size + 1 + 1, 0, none⟩), undef, undef], []⟩ rfl ?_
      refine tk_load' (i := 2) rfl (by kernel_rfl) (by kernel_rfl) (by kernel_rfl) (fun _ _ _ _ h => nomatch h.1) rfl 47 _ rfl _ _ rfl (.agg #[.int .i64 op1, .slice a1 len1 cap1]) (fun W hW => load_all ((HS.out W).1 hW) _ _ Tryz.underlying47 rfl info_elem) S0 #[true, false, true, false, false] rfl ⟨#[.slice a len cap, undef, .pointer (some ⟨w.heap.size, 0, none⟩), .pointer (some ⟨w.heap.size + 1, 0, none⟩), .pointer (some ⟨w.heap.size + 1 + 1, 0, none⟩), .pointer (some ⟨gE, 0, none⟩), .slice a len cap, .pointer (some ⟨w.heap.size + 1 + 1, 0, none⟩), .pointer (some ⟨w.heap.size + 1 + 1, 0, none⟩), .agg #[.int .i64 op1, .slice a1 len1 cap1], .pointer (some ⟨w.heap.size + 1 + 1, 0, none⟩), .int .i64 (r : Int), .bool false, .bool false, undef, undef, .bool false, .bool false, .bool false, undef, undef, undef, .pointer (some ⟨w.heap.size + 1 + 1, 0, none⟩), undef, .agg #[.int .i64 op1, .slice a1 len1 cap1]], []⟩ rfl ?_
      refine wpAnyH_all (rs := [1]) (by kernel_rfl) (by simp) (fun i hi => ?_)
      obtain rfl := List.mem_singleton.1 hi
      refine up_fcallV rfl rfl Tryz.func21 (by kernel_rfl) (by kernel_rfl) rfl [.pointer (some ⟨w.heap.size + 1 + 1, 0, none⟩)] rfl #[true, true, true, false, false] rfl (fun v => ⟨#[.slice a len cap, undef, .pointer (some ⟨w.heap.size, 0, none⟩), .pointer (some ⟨w.heap.size + 1, 0, none⟩), .pointer (some ⟨w.heap.size + 1 + 1, 0, none⟩), .pointer (some ⟨gE, 0, none⟩), .slice a len cap, .pointer (some ⟨w.heap.size + 1 + 1, 0, none⟩), .pointer (some ⟨w.heap.size + 1 + 1, 0, none⟩), .agg #[.int .i64 op1, .slice a1 len1 cap1], .pointer (some ⟨w.heap.size + 1 + 1, 0, none⟩), .int .i64 (r : Int), .bool false, .bool false, undef, undef, .bool false, .bool false, .bool false, undef, undef, undef, .pointer (some ⟨w.heap.size + 1 + 1, 0, none⟩), v, .agg #[.int .i64 op1, .slice a1 len1 cap1]], []⟩) (fun _ => rfl) (fun v W => ∃ c, v = .agg c ∧ MemOk c ∧ w8.drew.grownBy W (some (w.heap.size + 1 + 1))) ((draw5_r _ _ _ _ h8.drew (by omega)).mono fun e W hh => ?_) ?_
      · obtain ⟨⟨c, hc, he⟩, _, hg⟩ := hh
        exact ⟨_, he, c, rfl, hc, hg⟩
      rintro _ w4 ⟨c, rfl, hc, g4⟩
      have b4 : Below w.heap.size w w4 := b8.drew.grown g4 b8.drew.size (fun j hj => by cases hj; omega)
      have k4 : w4.heap[w.heap.size]? = some (.cells Z 37 (0, 0)) := (g4.block _ (by show _ < w8.heap.size; omega) (by simp <;> omega)).trans k8
      have j4 : w4.heap[w.heap.size + 1]? = some (.cells #[.int .i64 0, .slice none 0 0] 47 (0, 0)) := (g4.block _ (by show _ < w8.heap.size; omega) (by simp <;> omega)).trans j8
      have i4 : w4.heap[gE]? = some (.cells #[.int .i64 op1, .slice a1 len1 cap1] 47 (0, 0)) := (g4.block _ (by show _ < w8.heap.size; omega) (by simp; omega)).trans i8
      have O4 : Own w4 (w.heap.size + 1 + 1 + 1) a1 xs1 := Own.grown (own_heap O8 (fun _ _ => rfl) : Own w8.drew (w.heap.size + 1 + 1 + 1) a1 xs1) g4 (by omega)
      refine ⟨(HS.out _).2 i4, ?_⟩
      have HI : Hid ((Tryz.prog.info? 37).map (·.size) = some c.size) := by rw [hc.size]; exact zero_mem.2
      refine wpAnyH_all (rs := [3]) (by kernel_rfl) (by simp) (fun i hi => ?_)
      obtain rfl := List.mem_singleton.1 hi
      refine up_store' rfl rfl 37 _ _ rfl _ _ rfl _ rfl _ (store_all k4 _ _ (HZs.out.trans hc.size.symm) HI.out hc.one) ((HS.out _).2 (row_beside i4 _ (by omega) _)) #[true, true, true, true, false] rfl ⟨#[.slice a len cap, undef, .pointer (some ⟨w.heap.size, 0, none⟩), .pointer (some ⟨w.heap.size + 1, 0, none⟩), .pointer (some ⟨w.heap.size + 1 + 1, 0, none⟩), .pointer (some ⟨gE, 0, none⟩), .slice a len cap, .pointer (some ⟨w.heap.size + 1 + 1, 0, none⟩), .pointer (some ⟨w.heap.size + 1 + 1, 0, none⟩), .agg #[.int .i64 op1, .slice a1 len1 cap1], .pointer (some ⟨w.heap.size + 1 + 1, 0, none⟩), .int .i64 (r : Int), .bool false, .bool false, undef, undef, .bool false, .bool false, .bool false, undef, undef, undef, .pointer (some ⟨w.heap.size + 1 + 1, 0, none⟩), .agg c, .agg #[.int .i64 op1, .slice a1 len1 cap1]], []⟩ rfl ?_
      refine wpAnyH_all (rs := [4]) (by kernel_rfl) (by simp) (fun i hi => ?_)
      obtain rfl := List.mem_singleton.1 hi
      have j5 := row_beside j4 w.heap.size (by omega) c
      have O5 : Own ((w4.setRow w.heap.size c).setRow (w.heap.size + 1) #[.int .i64 op1, .slice a1 len1 cap1]) (w.heap.size + 1 + 1 + 1) a1 xs1 := own_heap O4 (fun b hb => (setRow_other _ _ _ _ (by omega)).trans (setRow_other _ _ _ _ (by omega)))
      exact up_store' rfl rfl 47 _ _ rfl _ _ rfl _ rfl _ (store_all j5 _ _ rfl info_elem (by simp [Value.oneCell'])) ((HS.out _).2 (row_beside (row_beside i4 _ (by omega) _) _ (by omega) _)) #[true, true, true, true, true] rfl ⟨#[.slice a len cap, undef, .pointer (some ⟨w.heap.size, 0, none⟩), .pointer (some ⟨w.heap.size + 1, 0, none⟩), .pointer (some ⟨w.heap.size + 1 + 1, 0, none⟩), .pointer (some ⟨gE, 0, none⟩), .slice a len cap, .pointer (some ⟨w.heap.size + 1 + 1, 0, none⟩), .pointer (some ⟨w.heap.size + 1 + 1, 0, none⟩), .agg #[.int .i64 op1, .slice a1 len1 cap1], .pointer (some ⟨w.heap.size + 1 + 1, 0, none⟩), .int .i64 (r : Int), .bool false, .bool false, undef, undef, .bool false, .bool false, .bool false, undef, undef, undef, .pointer (some ⟨w.heap.size + 1 + 1, 0, none⟩), .agg c, .agg #[.int .i64 op1, .slice a1 len1 cap1]], []⟩ rfl (wpAnyH_done (by kernel_rfl) ⟨rfl, c, hc, row_beside (row_set k4 _) _ (by omega) _, row_set j5 _, below_setRow (below_setRow b4 (Nat.le_refl _) _) (by omega) _, O5, rfl⟩ _)
    rintro _ w5 ⟨c, hc, k5, j5, b5, O5, rfl⟩
    have HC : Hid (MemOk c) := hc
    have HLa : Hid ((loadVar 37 ⟨w.heap.size, 0, none⟩).run Tryz.prog w5 = .ok (.agg c) w5) := load_all k5 _ _ Tryz.underlying37 rfl (by rw [hc.size]; exact zero_mem.2)
    have HLb : Hid ((loadVar 47 ⟨w.heap.size + 1, 0, none⟩).run Tryz.prog w5 = .ok (.agg #[.int .i64 op1, .slice a1 len1 cap1]) w5) := load_all j5 _ _ Tryz.underlying47 rfl info_elem
    have HB : Hid (Below w.heap.size w w5) := b5
    have HO : Hid (Own w5 (w.heap.size + 1 + 1 + 1) a1 xs1) := O5
    clear k8 j8 i8 h8 b8 O8 k5 j5 b5 hc HS O5
    go_wp2_with (first | exact ret_row2 rfl rfl rfl HLa.out HLb.out rfl ⟨⟨c, op1, a1, len1, cap1, xs1, HC.out, rfl, HX1.out.1, HX1.out.2, HO.out.sl⟩, HB.out⟩ | fail)
end Go.Proofs.YtjnddfpieogpiaaGreatDoor
