/- What the program's readings of a word's parts say, on the seat; both MemReads whole. -/
import Derived.Test.YtjnddfpieogpiaaGreatDoorIbM
import Derived.Test.YtjnddfpieogpiaaGreatDoorSyM
import Derived.Test.YtjnddfpieogpiaaGreatDoorVa6M
import Derived.LaidLaws
import Derived.Handed
import Derived.Shelf.Vars
import Derived.Lib.LaidU8
namespace Go.Proofs.YtjnddfpieogpiaaGreatDoor.Rr
open Go.RowKit Go.Shelf
open Go.Lib (decDigits itoa)
set_option linter.unusedVariables false

/-- What the program's reading wants of the world. -/
structure TR (w : World) : Prop where
  tabs : Tabs w
  ev : EV w
theorem TR.later {w w' : World} (h : TR w) (g : Below w.heap.size w w') : TR w' := ⟨h.tabs.later g, h.ev.later g⟩

theorem number_j (s : ByteArray) (w : World) (R : Int → Prop) (HP : Hid (Calls Tryz.prog 134 #[.string s, .int .i64 10, .int .i64 64] w fun e w' => (∃ (n : Int) (err : Value), e = .returned (.tuple #[.int .i64 n, err]) ∧ ((err = .nilIface ∧ R n) ∨ ((∃ t p, err = .iface t p) ∧ R 0))) ∧ Below w.heap.size w w')) :
    Calls Tryz.prog 83 #[.string s] w fun e w' => ∃ n, e = .returned (.int .i64 n) ∧ R n ∧ Below w.heap.size w w' := by
  go_enter Tryz.func83, Tryz.ntmps83
  go_wp2_with fail
  refine HP.out.mono ?_
  rintro e w1 ⟨⟨n, err, rfl, h | ⟨⟨t, p, rfl⟩, h0⟩⟩, g1⟩
  · obtain ⟨rfl, hR⟩ := h
    have HR : Hid (R n) := hR
    have HG : Hid (Below w.heap.size w w1) := g1
    clear hR g1 HP
    go_wp2
    go_ret
    exact ⟨n, rfl, HR.out, HG.out⟩
  · have HG : Hid (Below w.heap.size w w1) := g1
    have H0 : Hid (R 0) := h0
    clear g1 HP h0
    go_wp2
    go_ret
    exact ⟨0, rfl, H0.out, HG.out⟩
theorem num_iH (s : ByteArray) (hs : s.size ≤ 1048576) (w : World) (hw : TR w) :
    Calls Tryz.prog 83 #[.string s] w fun e w' => e = .returned (.int .i64 (numP s)) ∧ Below w.heap.size w w' := by
  refine (number_j s w (fun n => n = numP s) ?_).mono ?_
  · refine (parse_r s w hw.ev hs).mono ?_
    rintro e w' ⟨⟨n, err, h1, h2, h3⟩, h4⟩
    refine ⟨⟨n, err, h1, ?_⟩, h4⟩
    rcases h3 with ⟨a, b⟩ | ⟨a, b⟩
    · exact .inl ⟨a, by unfold numP; rw [b]⟩
    · refine .inr ⟨a, ?_⟩
      unfold numP
      cases hq : Lib.parseIntB 64 s.data.toList with
      | ok v => exact absurd hq (b v)
      | «syntax» => rfl
      | range => rfl
  · rintro e w' ⟨n, rfl, rfl, g⟩
    exact ⟨rfl, g⟩
theorem info_as : (Tryz.prog.info? (Tryz.layTr_ren.t 116)).map (fun i => (i.zero, i.size)) = some (some (.agg (Array.replicate 256 (.bool false))), 256) := by kernel_rfl
theorem info_s16 : (Tryz.prog.info? (Tryz.laySp_ren.t 9)).map (fun i => (i.zero, i.size, i.bytes)) = some (some (.string ByteArray.empty), 1, 16) := by kernel_rfl
theorem trim_len (l cs : List UInt8) : (Lib.trimRightS l cs).length ≤ l.length := by
  unfold Lib.trimRightS
  rw [List.length_reverse]
  have := (List.dropWhile_sublist (l := l.reverse) (fun x => cs.contains x)).length_le
  simpa using this
theorem prdsH_ok : PrdsOk prdsH TR where
  later := fun W W' h g => h.later g
  kt := fun W h => h.tabs.k
  cut := fun s hs W hW => cut_r s ⟨#[61]⟩ W hW.ev hs
  cutz := fun s => by
    have := cut_len s.data.toList [61]
    show (tx (Lib.cut s.data.toList [61]).1).size ≤ s.size ∧ (tx (Lib.cut s.data.toList [61]).2.1).size ≤ s.size
    rw [tx_size, tx_size, ← size_len s]
    exact this
  num := num_iH
  dev := fun s hs W hW => dev_iH s hs W hW.tabs
  bd := fun s => (rdH_bd s).2
  h33 := fun s hs W hW => (Any.strings_Contains_one Tryz.layCt s 33 W).mono fun e w' h => ⟨h.1, h.2 ▸ Below.refl _ _⟩
  h43 := fun s hs W hW => (Any.strings_Contains_one Tryz.layCt s 43 W).mono fun e w' h => ⟨h.1, h.2 ▸ Below.refl _ _⟩
  trim := fun s hs W hW => Any.strings_TrimRight_laid Tryz.layTr info_as s ⟨#[33, 43]⟩ W (by omega) (by decide) (ascii_of_all (by decide))
  trimz := fun s => by
    have := trim_len s.data.toList [33, 43]
    rw [size_len] at this
    show (tx (Lib.trimRightS s.data.toList [33, 43])).size ≤ s.size
    rw [tx_size]
    exact this
  real := fun s hs W hW => (impl_read s W hW.ev hs).mono fun e w' h => by
    obtain ⟨v, ok, h1, h2, h3⟩ := h
    exact ⟨v, ok, h1, h2, h3⟩
  has := fun s x b h => by
    have := h.1
    simpa [FloatKind.has] using this
theorem split_iH (s : ByteArray) (hs : s.size ≤ 1048576) (W : World) (hW : TR W) : Calls Tryz.prog 28 #[.string s, .string ⟨#[32]⟩] W fun e w' => ∃ (g cap : Nat) (L : List ByteArray), e = .returned (.slice (some ⟨g, 0, none⟩) L.length cap) ∧ (∀ n x, L[n]? = some x → w'.cell? ⟨g, n, none⟩ = some (.string x)) ∧ (W.heap.size ≤ g ∧ g < w'.heap.size) ∧ Below W.heap.size W w' ∧ L.map (·.data.toList) = pieces 32 s.data.toList := by
  obtain ⟨m, hm⟩ := hW.ev.ml
  refine (Any.strings_Split Tryz.laySp info_s16 s ⟨#[32]⟩ m W (by omega) hm (by decide)).mono ?_
  rintro e w' ⟨rfl, rfl⟩
  have hl := Lib.splitB_all ⟨#[32]⟩ (by decide) 0 _ s rfl
  refine ⟨W.heap.size, Lib.countB s ⟨#[32]⟩ + 1, Lib.splitB ⟨#[32]⟩ 0 (Lib.countB s ⟨#[32]⟩) s, by rw [hl], ?_, ⟨Nat.le_refl _, by simp⟩, (Below.refl _ _).alloc (Nat.le_refl _) _, split_pieces 32 _ s rfl⟩
  intro n x hx
  rw [cell_of_row _ _ _ _ _ _ (heap_alloc_last _ _), List.getElem?_toArray, List.getElem?_map, hx]
  rfl
theorem mread_iH {rt : Nat → List UInt8} (hrt : RtOk rt) (s : ByteArray) (hs : s.size ≤ 1048576) (w : World) (hw : TR w) :
    Calls Tryz.prog 8 #[.string s] w fun e w' => IsMReadP (PWTo prdsH) (fun C t => t = memT rt C) s e ∧ Below w.heap.size w w' :=
  mread_i (PWTo prdsH) (fun C t => t = memT rt C) TR (fun W W' h g => h.later g) (fun C hC x hx W hW => withword_i prdsH_ok C hC x hx W hW)
    (fun C hC W hW => (text_i hrt C hC W hW.tabs).mono fun e w' h => ⟨_, h.1, rfl, h.2⟩) s hs (fun W hW => split_iH s hs W hW) w hw
theorem mread_sH {rt : Nat → List UInt8} (hrt : RtOk rt) (s : ByteArray) (hs : s.size ≤ 1048576) (w : World) :
    Calls Tryz.prog 11 #[.string s] w fun e w' => IsMRead rdsH (fun C t => t = memT rt C) s e ∧ Below w.heap.size w w' :=
  mread_s rdsH_ok (fun C t => t = memT rt C) (fun C hC W => (text_s hrt C hC W).mono fun e w' h => ⟨_, h.1, rfl, h.2⟩) s hs w
end Go.Proofs.YtjnddfpieogpiaaGreatDoor.Rr
/- What the listed variables and the world's shape give the walks that read memories; the wrap of a law whose walk asks for the shape too. -/
namespace Go.Proofs.YtjnddfpieogpiaaGreatDoor
open Go.RowKit Go.Lib
set_option linter.unusedVariables false

theorem gs_named : Tryz.prog.globalNamed "strconv.ErrSyntax" = some 7 := by kernel_rfl
theorem gr_named : Tryz.prog.globalNamed "strconv.ErrRange" = some 8 := by kernel_rfl
theorem gs_type : (Tryz.prog.globals[7]?).map (·.type) = some 116 := by kernel_rfl
theorem gr_type : (Tryz.prog.globals[8]?).map (·.type) = some 116 := by kernel_rfl
theorem es_of_reads {W : World} (h : VarReads Tryz.prog W "strconv.ErrSyntax" Rows.laid_strconv_ErrSyntax) : ∃ t p, W.cell? ⟨7, 0, none⟩ = some (.iface t p) := by
  obtain ⟨g, t, cs, fuel, p, hg, ht, hv, hd⟩ := h
  obtain rfl := Option.some.inj (gs_named.symm.trans hg)
  obtain rfl := Option.some.inj (gs_type.symm.trans ht)
  unfold Rows.laid_strconv_ErrSyntax at hd
  obtain ⟨f', u, v, hc, -, -⟩ := iface_of_trod Tryz.underlying116 hd
  have h0 := World.var?_cell hg hv 0
  rw [← Array.getElem?_toList, hc] at h0
  exact ⟨u, v, h0⟩
theorem er_of_reads {W : World} (h : VarReads Tryz.prog W "strconv.ErrRange" Rows.laid_strconv_ErrRange) : ∃ t p, W.cell? ⟨8, 0, none⟩ = some (.iface t p) := by
  obtain ⟨g, t, cs, fuel, p, hg, ht, hv, hd⟩ := h
  obtain rfl := Option.some.inj (gr_named.symm.trans hg)
  obtain rfl := Option.some.inj (gr_type.symm.trans ht)
  unfold Rows.laid_strconv_ErrRange at hd
  obtain ⟨f', u, v, hc, -, -⟩ := iface_of_trod Tryz.underlying116 hd
  have h0 := World.var?_cell hg hv 0
  rw [← Array.getElem?_toList, hc] at h0
  exact ⟨u, v, h0⟩
theorem ml_of_shape {W : World} (h : W.ShapedOpen Tryz.prog) : ∃ m, W.cell? ⟨4, 0, none⟩ = some (.int .i64 m) :=
  cell_of_shapedOpen_int (t := 3) (zero := #[.int .i64 0]) h (of_decide_eq_true (by kernel_rfl)) (by kernel_rfl) rfl (by kernel_rfl) (by kernel_rfl) Tryz.underlying3
theorem ev_of {W : World} (h : W.ShapedOpen Tryz.prog) (a : VarReads Tryz.prog W "internal/strconv.uint64pow10" Rows.laid_internal_strconv_uint64pow10) (b : VarReads Tryz.prog W "strconv.ErrRange" Rows.laid_strconv_ErrRange) (c : VarReads Tryz.prog W "strconv.ErrSyntax" Rows.laid_strconv_ErrSyntax) : Rr.EV W :=
  ⟨pt_of_reads a, ml_of_shape h, es_of_reads c, er_of_reads b⟩

/-- A law's lifted form out of a walk that is handed the world's shape beside what is laid. -/
theorem lift_shaped {H : Type} {enc : TypeId × Value → H} {asm0 : Assume} {C : Checked} {os : Os} {f : FuncId} {fn : Func} {s : ChangeSpec} {cs : List PathCond} {b1 b2 b3 b4 : Bool} {X : World → Array Value → Prop}
    (keep : ∀ (w w' : World) (args : Array Value), w.heap = w'.heap → X w args → X w' args) (own : ownKnob C.prog.godebug = none) (st : os.Started) (ni : C.prog.inits.idxOf? f = none) (hfn : C.prog.funcs[f]? = some fn)
    (wit : ∃ (w : World) (tape : Tape) (i : Input), w.os = os ∧ (w.forCall tape i).Shaped C.prog ∧ i.vars = [] ∧ Input.okWide C.prog (w.forCall tape i) .any w.heap.size f i ∧
      ((s.pre enc C.prog fn cs b1 (w.forCall tape i).memory i.args ∧ X (w.forCall tape i).memory i.args) ∧ sizedMet enc C.prog fn (OpenSpec.ofChange s) b1 (w.forCall tape i).memory i.args) ∧ asm0.holds C.prog (lone (Frame.enter C.prog f i.args .normal) [] (w.forCall tape i)))
    (walk : ∀ (W : World) (base : Nat) (args : Array Value) (ds gs : List (DataW H)) (before : List MemPlace),
      (∀ (j : Nat) t v, fn.params[j]? = some t → args[j]? = some v → Value.okWide C.prog W .any base t v) →
      DataW.Whole enc C.prog fn.params.toList s.vars b1 W args.toList ds gs before → W.ShapedOpen C.prog → X W args →
      Calls C.prog f args W fun e W' => ∃ v, e = .returned v ∧ s.post enc C.prog fn b1 b2 b3 b4 W args v W') :
    ReturnsInHanded asm0 C os f .any (fun w args => (s.pre enc C.prog fn cs b1 w args ∧ X w args) ∧ sizedMet enc C.prog fn (OpenSpec.ofChange s) b1 w args) (s.post enc C.prog fn b1 b2 b3 b4) := by
  refine returnsInHanded_of_calls own st ni wit (fun w tape i _ shape _ ok pre _ => ?_)
  obtain ⟨-, -, -, fn', hfn', -, -, -, -, vals⟩ := ok
  obtain rfl := Option.some.inj (hfn'.symm.trans hfn)
  obtain ⟨⟨⟨ds, gs, before, whole, -⟩, x⟩, -⟩ := pre
  refine (walk (w.forCall tape i) w.heap.size i.args ds gs before vals (DataW.Whole.of_heap (w' := w.forCall tape i) (by rfl) whole) shape (keep _ _ _ (by rfl) x)).mono ?_
  rintro e W' ⟨v, rfl, hp⟩
  exact ChangeSpec.post_blind hp
end Go.Proofs.YtjnddfpieogpiaaGreatDoor
