/- The law FnExactMemRead: its walk. -/
import Derived.Test.YtjnddfpieogpiaaGreatDoorIe
import Derived.Test.YtjnddfpieogpiaaGreatDoorMq
import Derived.Lib.QuietBelow
import Derived.LaidLaws
import Derived.Handed
import Derived.Shelf.Vars
import Derived.Lib.LaidU8
namespace Go.Proofs.YtjnddfpieogpiaaGreatDoor.Rr
open Go.RowKit Go.Shelf
set_option linter.unusedVariables false

theorem msame_of {c d : Array Value} (hc : MemOk c) (hd : MemOk d) (h : MS c d) : MSame c d := by
  obtain ⟨h1, h2, h3, h4, h5, h6, h7, h8, h9, h10⟩ := (ms_iff hc hd).1 h
  refine ⟨hc, hd.size, fun i hi => ?_, fun k hk => ?_⟩
  · by_cases hl : i < 136
    · by_cases a1 : i < 5
      · rcases (by omega : i = 0 ∨ i = 1 ∨ i = 2 ∨ i = 3 ∨ i = 4) with rfl | rfl | rfl | rfl | rfl
        · exact h3.symm
        · exact h4.symm
        · exact h5.symm
        · exact h6.symm
        · exact h7.symm
      · by_cases a2 : i < 37
        · exact ((h1 ((i - 5) / 2) (by omega)).2.1 i (by omega) (by omega)).symm
        · by_cases a3 : i < 85
          · exact ((h1 ((i - 37) / 3) (by omega)).2.2 i (by omega) (by omega)).symm
          · by_cases a4 : i < 117
            · have := h2 (i - 85) (by omega)
              rw [show 85 + (i - 85) = i by omega] at this
              exact this.symm
            · by_cases a5 : i < 133
              · exfalso
                apply hi
                rw [show i = 117 + (i - 117) by omega]
                exact kd_r (by omega)
              · rcases (by omega : i = 133 ∨ i = 134 ∨ i = 135) with rfl | rfl | rfl
                · exact h8.symm
                · exact h9.symm
                · exact h10.symm
    · rw [Array.getElem?_eq_none (by have := hd.size; omega), Array.getElem?_eq_none (by have := hc.size; omega)]
  · obtain ⟨x, hx, hh⟩ := hc.f64 (i := 117 + k) (by omega) (kd_r hk)
    obtain ⟨y, hy, _⟩ := hd.f64 (i := 117 + k) (by omega) (kd_r hk)
    refine ⟨x, y, hx, hy, wf_of_has hh, ?_⟩
    have := (h1 k hk).1
    rw [hx, hy] at this
    exact same_exact.2 (Option.some.inj this)
theorem isMRead_form {MT : Array Value → ByteArray → Prop} {s : ByteArray} {e : Ending} (h : IsMRead rdsH MT s e) : ∃ (C : Array Value) (b : Bool), e = .returned (.tuple #[.agg C, .bool b]) ∧ MemOk C := by
  rcases h with ⟨_, rfl⟩ | ⟨_, C, t, L, _, _, hC, _, ⟨_, rfl⟩ | ⟨_, rfl⟩⟩
  · exact ⟨_, _, rfl, memOk_zeroH⟩
  · exact ⟨_, _, rfl, hC⟩
  · exact ⟨_, _, rfl, memOk_zeroH⟩

set_option maxRecDepth 10000 in
set_option maxHeartbeats 4000000 in
theorem law_mread (s : ByteArray) (w : World) (hw : TR w) :
    Calls Tryz.prog 5 #[.string s] w fun e w' => e = .returned (.bool true) ∧ Below w.heap.size w w' := by
  by_cases hs : 1048576 < s.size
  · have i1 : (1048576 : Int) < (s.size : Int) := by omega
    clear hs hw
    go_enter Tryz.func5, Tryz.ntmps5
    go_wp2
    go_ret
    exact ⟨rfl, Below.refl _ _⟩
  · have HS : Hid (s.size ≤ 1048576) := (by omega : s.size ≤ 1048576)
    have i1 : ¬ ((1048576 : Int) < (s.size : Int)) := by omega
    have HW : Hid (TR w) := hw
    obtain ⟨rt, hrt⟩ := rt_ok
    have HRT : Hid (RtOk rt) := hrt
    have hz := zero_mem.1
    obtain ⟨Z, HZ⟩ : ∃ Z, Hid (Z = memZero) := ⟨_, rfl⟩
    rw [← HZ.out] at hz
    have HZs : Hid (Z.size = 136) := (by rw [HZ.out, memZero_size] : Z.size = 136)
    clear hs hw hrt
    go_enter Tryz.func5, Tryz.ntmps5
    go_wp2_with fail
    refine (mread_sH HRT.out s HS.out _).mono ?_
    rintro e w1 ⟨h1, b1⟩
    have H1 : Hid (IsMRead rdsH (fun C t => t = memT rt C) s e) := h1
    obtain ⟨C, b, rfl, hC⟩ := isMRead_form h1
    have HC : Hid (MemOk C) := hC
    have HI : Hid ((Tryz.prog.info? 37).map (·.size) = some C.size) := (by rw [HC.out.size]; exact zero_mem.2 : (Tryz.prog.info? 37).map (·.size) = some C.size)
    obtain ⟨u1, HU1⟩ : ∃ u, Hid (u = (w1.alloc (.cells Z 37)).setRow w1.heap.size C) := ⟨_, rfl⟩
    have HS1 : Hid ((storeVar 37 ⟨w1.heap.size, 0, none⟩ (.agg C)).run Tryz.prog (w1.alloc (.cells Z 37)) = .ok () u1) := by
      rw [HU1.out]; exact store_all (heap_alloc_last _ _) _ _ (HZs.out.trans hC.size.symm) HI.out hC.one
    have HK1 : Hid (u1.heap[w1.heap.size]? = some (.cells C 37 (0, 0))) := (by rw [HU1.out]; exact row_set (heap_alloc_last _ _) C : u1.heap[w1.heap.size]? = some (.cells C 37 (0, 0)))
    have HB1 : Hid (Below w.heap.size w u1) := (by rw [HU1.out]; exact below_setRow (b1.alloc b1.size _) b1.size _ : Below w.heap.size w u1)
    clear h1 hC b1 HU1
    go_wp2_with (first | (refine wpL_store rfl 37 _ _ rfl _ _ rfl _ rfl _ HS1.out ?_) | fail)
    refine (mread_iH HRT.out s HS.out u1 (HW.out.later HB1.out)).mono ?_
    rintro e w2 ⟨h2, b2⟩
    obtain ⟨C', D, b', g1, rfl, hC', hD, hms, -, -⟩ := reads_alike HRT.out H1.out h2
    injection g1 with g1
    injection g1 with g1
    have g1 := congrArg Array.toList g1
    simp only [List.cons.injEq, Value.agg.injEq, Value.bool.injEq, and_true] at g1
    obtain ⟨rfl, rfl⟩ := g1
    have HD : Hid (MemOk D) := hD
    have HE : Hid (∀ W, Calls Tryz.prog 20 #[.agg D, .agg C] W fun e w' => e = .returned (.bool true) ∧ Below W.heap.size W w') := fun W => eq_mem D C (msame_of hD hC' (ms_symm hms)) W
    have HJ : Hid ((Tryz.prog.info? 37).map (·.size) = some D.size) := (by rw [HD.out.size]; exact zero_mem.2 : (Tryz.prog.info? 37).map (·.size) = some D.size)
    have l1 := (Array.getElem?_eq_some_iff.1 HK1.out).1
    have hk2 : w2.heap[w1.heap.size]? = some (.cells C 37 (0, 0)) := (b2.block _ l1).trans HK1.out
    have l2 := (Array.getElem?_eq_some_iff.1 hk2).1
    have hb2 := HB1.out.trans (b2.mono HB1.out.size)
    obtain ⟨u2, HU2⟩ : ∃ u, Hid (u = (w2.alloc (.cells Z 37)).setRow w2.heap.size D) := ⟨_, rfl⟩
    have HS2 : Hid ((storeVar 37 ⟨w2.heap.size, 0, none⟩ (.agg D)).run Tryz.prog (w2.alloc (.cells Z 37)) = .ok () u2) := by
      rw [HU2.out]; exact store_all (heap_alloc_last _ _) _ _ (HZs.out.trans hD.size.symm) HJ.out hD.one
    have K1 : Hid (u2.heap[w1.heap.size]? = some (.cells C 37 (0, 0))) := (by rw [HU2.out]; exact row_beside (((Below.refl w2.heap.size w2).alloc (Nat.le_refl _) _).block _ l2 |>.trans hk2) _ (by omega) _ : u2.heap[w1.heap.size]? = some (.cells C 37 (0, 0)))
    have K2 : Hid (u2.heap[w2.heap.size]? = some (.cells D 37 (0, 0))) := (by rw [HU2.out]; exact row_set (heap_alloc_last _ _) D : u2.heap[w2.heap.size]? = some (.cells D 37 (0, 0)))
    have B3 : Hid (Below w.heap.size w u2) := (by rw [HU2.out]; exact below_setRow (hb2.alloc hb2.size _) hb2.size _ : Below w.heap.size w u2)
    clear h2 b2 hC' hD hms l1 l2 hk2 hb2 HU2 H1 HK1 HS1
    have hbb : (b == b) = true := by simp
    have HL1 : Hid ((loadVar 37 ⟨w1.heap.size, 0, none⟩).run Tryz.prog u2 = .ok (.agg C) u2) := load_all K1.out _ _ Tryz.underlying37 rfl HI.out
    have HL2 : Hid ((loadVar 37 ⟨w2.heap.size, 0, none⟩).run Tryz.prog u2 = .ok (.agg D) u2) := load_all K2.out _ _ Tryz.underlying37 rfl HJ.out
    go_wp2_with (first | (refine wpL_store rfl 37 _ _ rfl _ _ rfl _ rfl _ HS2.out ?_) | (refine wpL_load rfl 37 _ rfl _ _ rfl _ HL1.out ?_) | (refine wpL_load rfl 37 _ rfl _ _ rfl _ HL2.out ?_) | fail)
    refine (HE.out _).mono ?_
    rintro e w4 ⟨rfl, g4⟩
    have HB4 : Hid (Below w.heap.size w w4) := B3.out.trans (g4.mono B3.out.size)
    clear g4 HS2 HL1 HL2 hz K1 K2 B3 HE
    go_wp2
    go_ret
    exact ⟨rfl, HB4.out⟩
end Go.Proofs.YtjnddfpieogpiaaGreatDoor.Rr
/- What the listed variables and the world's shape give the walks that read memories; the wrap of a law whose walk asks for the shape too. -/
namespace Go.Proofs.YtjnddfpieogpiaaGreatDoor
open Go.RowKit Go.Lib
set_option linter.unusedVariables false

theorem gs_named : Tryz.prog.globalNamed "strconv.ErrSyntax" = some 7 := by kernel_rfl
theorem gr_named : Tryz.prog.globalNamed "strconv.ErrRange" = some 8 := by kernel_rfl
theorem gs_type : (Tryz.prog.globals[7]?).map (·.type) = some 116 := by kernel_rfl
theorem gr_type : (Tryz.prog.globals[8]?).map (·.type) = some 116 := by kernel_rfl
theorem es_of_reads {W : World} (h : VarReads Tryz.prog W "strconv.ErrSyntax" Rows.laid_strconv_ErrSyntax) : ∃ t p, W.cell? ⟨7, 0, none⟩ = some (.iface t p) := by
  obtain ⟨g, t, cs, fuel, p, hg, ht, hv, hd⟩ := h
  obtain rfl := Option.some.inj (gs_named.symm.trans hg)
  obtain rfl := Option.some.inj (gs_type.symm.trans ht)
  unfold Rows.laid_strconv_ErrSyntax at hd
  obtain ⟨f', u, v, hc, -, -⟩ := iface_of_trod Tryz.underlying116 hd
  have h0 := World.var?_cell hg hv 0
  rw [← Array.getElem?_toList, hc] at h0
  exact ⟨u, v, h0⟩
theorem er_of_reads {W : World} (h : VarReads Tryz.prog W "strconv.ErrRange" Rows.laid_strconv_ErrRange) : ∃ t p, W.cell? ⟨8, 0, none⟩ = some (.iface t p) := by
  obtain ⟨g, t, cs, fuel, p, hg, ht, hv, hd⟩ := h
  obtain rfl := Option.some.inj (gr_named.symm.trans hg)
  obtain rfl := Option.some.inj (gr_type.symm.trans ht)
  unfold Rows.laid_strconv_ErrRange at hd
  obtain ⟨f', u, v, hc, -, -⟩ := iface_of_trod Tryz.underlying116 hd
  have h0 := World.var?_cell hg hv 0
  rw [← Array.getElem?_toList, hc] at h0
  exact ⟨u, v, h0⟩
theorem ml_of_shape {W : World} (h : W.ShapedOpen Tryz.prog) : ∃ m, W.cell? ⟨4, 0, none⟩ = some (.int .i64 m) :=
  cell_of_shapedOpen_int (t := 3) (zero := #[.int .i64 0]) h (of_decide_eq_true (by kernel_rfl)) (by kernel_rfl) rfl (by kernel_rfl) (by kernel_rfl) Tryz.underlying3
theorem ev_of {W : World} (h : W.ShapedOpen Tryz.prog) (a : VarReads Tryz.prog W "internal/strconv.uint64pow10" Rows.laid_internal_strconv_uint64pow10) (b : VarReads Tryz.prog W "strconv.ErrRange" Rows.laid_strconv_ErrRange) (c : VarReads Tryz.prog W "strconv.ErrSyntax" Rows.laid_strconv_ErrSyntax) : Rr.EV W :=
  ⟨pt_of_reads a, ml_of_shape h, es_of_reads c, er_of_reads b⟩

/-- A law's lifted form out of a walk that is handed the world's shape beside what is laid. -/
theorem lift_shaped {H : Type} {enc : TypeId × Value → H} {asm0 : Assume} {C : Checked} {os : Os} {f : FuncId} {fn : Func} {s : ChangeSpec} {cs : List PathCond} {b1 b2 b3 b4 : Bool} {X : World → Array Value → Prop}
    (keep : ∀ (w w' : World) (args : Array Value), w.heap = w'.heap → X w args → X w' args) (own : ownKnob C.prog.godebug = none) (st : os.Started) (ni : C.prog.inits.idxOf? f = none) (hfn : C.prog.funcs[f]? = some fn)
    (wit : ∃ (w : World) (tape : Tape) (i : Input), w.os = os ∧ (w.forCall tape i).Shaped C.prog ∧ i.vars = [] ∧ Input.okWide C.prog (w.forCall tape i) .any w.heap.size f i ∧
      ((s.pre enc C.prog fn cs b1 (w.forCall tape i).memory i.args ∧ X (w.forCall tape i).memory i.args) ∧ sizedMet enc C.prog fn (OpenSpec.ofChange s) b1 (w.forCall tape i).memory i.args) ∧ asm0.holds C.prog (lone (Frame.enter C.prog f i.args .normal) [] (w.forCall tape i)))
    (walk : ∀ (W : World) (base : Nat) (args : Array Value) (ds gs : List (DataW H)) (before : List MemPlace),
      (∀ (j : Nat) t v, fn.params[j]? = some t → args[j]? = some v → Value.okWide C.prog W .any base t v) →
      DataW.Whole enc C.prog fn.params.toList s.vars b1 W args.toList ds gs before → W.ShapedOpen C.prog → X W args →
      Calls C.prog f args W fun e W' => ∃ v, e = .returned v ∧ s.post enc C.prog fn b1 b2 b3 b4 W args v W') :
    ReturnsInHanded asm0 C os f .any (fun w args => (s.pre enc C.prog fn cs b1 w args ∧ X w args) ∧ sizedMet enc C.prog fn (OpenSpec.ofChange s) b1 w args) (s.post enc C.prog fn b1 b2 b3 b4) := by
  refine returnsInHanded_of_calls own st ni wit (fun w tape i _ shape _ ok pre _ => ?_)
  obtain ⟨-, -, -, fn', hfn', -, -, -, -, vals⟩ := ok
  obtain rfl := Option.some.inj (hfn'.symm.trans hfn)
  obtain ⟨⟨⟨ds, gs, before, whole, -⟩, x⟩, -⟩ := pre
  refine (walk (w.forCall tape i) w.heap.size i.args ds gs before vals (DataW.Whole.of_heap (w' := w.forCall tape i) (by rfl) whole) shape (keep _ _ _ (by rfl) x)).mono ?_
  rintro e W' ⟨v, rfl, hp⟩
  exact ChangeSpec.post_blind hp

/-- The law's walk, as the frame calls it. -/
theorem walk_mread (s : ByteArray) (W : World) {X : Prop} (_ : X) (k : KT W) (p : PT W) (t : WT W) (v : Rr.EV W) :
    Calls Tryz.prog 5 #[.string s] W fun e w' => e = .returned (.bool true) ∧ Below W.heap.size W w' := Rr.law_mread s W ⟨⟨k, p, t⟩, v⟩
end Go.Proofs.YtjnddfpieogpiaaGreatDoor
