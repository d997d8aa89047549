/- Values held against each other by ==: operands of contacts and coils. -/
import Derived.Test.YtcihplachlokiaaGreatDoorGeM
import Derived.ChangeKeysEq
import Derived.Laws.StructEq
namespace Go.Proofs.YtcihplachlokiaaGreatDoor
open Go.RowKit
set_option linter.unusedVariables false

section
variable {P : Program}
/-- The value is the same as itself. -/
def EqR (P : Program) (d : Nat) (t : TypeId) (v : Value) : Prop := ∀ w, (Op.equalIn d t v v).run P w = .ok true w
/-- A part of a row. -/
def PartIs (P : Program) (t : TypeId) (cs : Array Value) (off : Nat) (v : Value) : Prop := ∀ w, (part t cs off).run P w = .ok v w

theorem eqItems_refl (d : Nat) (e : TypeId) (c : Nat) (xs : Array Value) : ∀ is : List Nat, (∀ i ∈ is, ∃ v, PartIs P e xs (i * c) v ∧ EqR P d e v) → ∀ w, (Op.eqItems d e c xs xs is).run P w = .ok true w
  | [], _, w => by simp [Op.eqItems]
  | i :: is, h, w => by
    obtain ⟨v, hp, he⟩ := h i (by simp)
    have ih := eqItems_refl d e c xs is (fun j hj => h j (by simp [hj])) w
    simp only [Op.eqItems, Sem.run_bind, hp w, he w, Result.andThen_ok]
    simpa using ih
theorem eqFields_refl (d : Nat) (xs : Array Value) : ∀ fs : List Field, (∀ f ∈ fs, ∃ v, PartIs P f.type xs f.offset v ∧ EqR P d f.type v) → ∀ w, (Op.eqFields d xs xs fs).run P w = .ok true w
  | [], _, w => by simp [Op.eqFields]
  | f :: fs, h, w => by
    obtain ⟨v, hp, he⟩ := h f (by simp)
    have ih := eqFields_refl d xs fs (fun j hj => h j (by simp [hj])) w
    simp only [Op.eqFields, Sem.run_bind, Sem.run_ite, hp w, he w, Result.andThen_ok]
    split
    · simpa using ih
    · exact ih
theorem eqR_array {d : Nat} {t e : TypeId} {n : Nat} {i : TypeInfo} {xs : Array Value} (hu : P.underlying t = some (.array n e)) (hi : P.info? e = some i) (h : ∀ j, j < n → ∃ v, PartIs P e xs (j * P.cellsOf e) v ∧ EqR P d e v) : EqR P (d + 1) t (.agg xs) := fun w =>
  (run_equalIn_array w d xs xs hu hi).trans (eqItems_refl d e _ xs _ (fun j hj => h j (by simpa using hj)) w)
theorem eqR_struct {d : Nat} {t : TypeId} {xs : Array Value} (ht : P.underlying t = some (.struct (P.fieldsOf t))) (hp : P.stoodInHeld t = false) (h : ∀ f ∈ (P.fieldsOf t).toList, ∃ v, PartIs P f.type xs f.offset v ∧ EqR P d f.type v) : EqR P (d + 1) t (.agg xs) := fun w =>
  (run_equalIn_struct w d t xs xs ht hp).trans (eqFields_refl d xs _ h w)
theorem eqR_int {d : Nat} {t : TypeId} {k k' : IntKind} {a : Int} (h : P.underlying t = some (.int k')) : EqR P (d + 1) t (.int k a) := fun w => by
  rw [run_equalIn_int w d t k k' a a h]; simp
theorem eqR_bool {d : Nat} {t : TypeId} {a : Bool} (h : P.underlying t = some .bool) : EqR P (d + 1) t (.bool a) := fun w => by
  rw [run_equalIn_bool w d t a a h]; simp
theorem eqR_zero {d : Nat} {t : TypeId} (h : P.underlying t = some (.float .f64)) : EqR P (d + 1) t (.float .f64 0) := fun w => by
  have h0 : Op.floatEq .f64 0 0 = true := by decide +kernel
  simp [Op.equalIn, run_underlying h, h0]
theorem part_cell {t : TypeId} {d : TypeDesc} {cs : Array Value} {off : Nat} {v : Value} (hu : P.underlying t = some d) (hd : d.isRow = false) (hx : cs[off]? = some v) : PartIs P t cs off v := fun w => by
  unfold part isAgg
  simp only [Sem.run_bind, run_underlying hu, Result.andThen_ok]
  cases d <;> simp [TypeDesc.isRow] at hd <;> simp [hx]
theorem part_row {t : TypeId} {d : TypeDesc} {cs : Array Value} {off n : Nat} {i : TypeInfo} (hu : P.underlying t = some d) (hd : d.isRow = true) (hi : P.info? t = some i) (hn : i.size = n) : PartIs P t cs off (.agg (cs.extract off (off + n))) := fun w => by
  unfold part isAgg
  simp only [Sem.run_bind, run_underlying hu, Result.andThen_ok]
  cases d <;> simp [TypeDesc.isRow] at hd <;> simp [sizeOf, typeInfo, hi, hn]
/-- The two values are the same just if R. -/
def EqD (P : Program) (d : Nat) (t : TypeId) (v u : Value) (R : Prop) : Prop := ∃ r : Bool, (∀ w, (Op.equalIn d t v u).run P w = .ok r w) ∧ (r = true ↔ R)
theorem EqD.iff {d : Nat} {t : TypeId} {v u : Value} {R R' : Prop} (h : EqD P d t v u R) (e : R ↔ R') : EqD P d t v u R' := by
  obtain ⟨r, h1, h2⟩ := h
  exact ⟨r, h1, h2.trans e⟩

theorem eqItemsD (d : Nat) (e : TypeId) (c : Nat) (xs ys : Array Value) (Q : Nat → Prop) : ∀ is : List Nat, (∀ i ∈ is, ∃ v u, PartIs P e xs (i * c) v ∧ PartIs P e ys (i * c) u ∧ EqD P d e v u (Q i)) → ∃ r : Bool, (∀ w, (Op.eqItems d e c xs ys is).run P w = .ok r w) ∧ (r = true ↔ ∀ i ∈ is, Q i)
  | [], _ => ⟨true, fun w => by simp [Op.eqItems], by simp⟩
  | i :: is, h => by
    obtain ⟨v, u, hp, hq, r1, h1, h1'⟩ := h i (by simp)
    obtain ⟨r2, h2, h2'⟩ := eqItemsD d e c xs ys Q is (fun j hj => h j (by simp [hj]))
    cases r1 with
    | false =>
      refine ⟨false, fun w => by simp only [Op.eqItems, Sem.run_bind, hp w, hq w, h1 w, Result.andThen_ok]; simp, ?_⟩
      constructor
      · intro h; cases h
      · intro h; exact absurd (h1'.2 (h i (by simp))) (by simp)
    | true =>
      refine ⟨r2, fun w => ?_, ?_⟩
      · have := h2 w
        simp only [Op.eqItems, Sem.run_bind, hp w, hq w, h1 w, Result.andThen_ok]
        simpa using this
      · rw [h2']
        constructor
        · intro hh j hj
          rcases List.mem_cons.1 hj with rfl | hj
          · exact h1'.1 rfl
          · exact hh j hj
        · intro hh j hj; exact hh j (by simp [hj])
theorem eqFieldsD (d : Nat) (xs ys : Array Value) (Q : Field → Prop) : ∀ fs : List Field, (∀ f ∈ fs, f.name ≠ "_") → (∀ f ∈ fs, ∃ v u, PartIs P f.type xs f.offset v ∧ PartIs P f.type ys f.offset u ∧ EqD P d f.type v u (Q f)) → ∃ r : Bool, (∀ w, (Op.eqFields d xs ys fs).run P w = .ok r w) ∧ (r = true ↔ ∀ f ∈ fs, Q f)
  | [], _, _ => ⟨true, fun w => by simp [Op.eqFields], by simp⟩
  | i :: is, hn, h => by
    obtain ⟨v, u, hp, hq, r1, h1, h1'⟩ := h i (by simp)
    obtain ⟨r2, h2, h2'⟩ := eqFieldsD d xs ys Q is (fun j hj => hn j (by simp [hj])) (fun j hj => h j (by simp [hj]))
    have hni := hn i (by simp)
    cases r1 with
    | false =>
      refine ⟨false, fun w => by simp only [Op.eqFields, Sem.run_bind, Sem.run_ite, if_pos hni, hp w, hq w, h1 w, Result.andThen_ok]; simp, ?_⟩
      constructor
      · intro h; cases h
      · intro h; exact absurd (h1'.2 (h i (by simp))) (by simp)
    | true =>
      refine ⟨r2, fun w => ?_, ?_⟩
      · have := h2 w
        simp only [Op.eqFields, Sem.run_bind, Sem.run_ite, if_pos hni, hp w, hq w, h1 w, Result.andThen_ok]
        simpa using this
      · rw [h2']
        constructor
        · intro hh j hj
          rcases List.mem_cons.1 hj with rfl | hj
          · exact h1'.1 rfl
          · exact hh j hj
        · intro hh j hj; exact hh j (by simp [hj])
theorem eqD_array {d : Nat} {t e : TypeId} {n : Nat} {i : TypeInfo} {xs ys : Array Value} {Q : Nat → Prop} (hu : P.underlying t = some (.array n e)) (hi : P.info? e = some i) (h : ∀ j, j < n → ∃ v u, PartIs P e xs (j * P.cellsOf e) v ∧ PartIs P e ys (j * P.cellsOf e) u ∧ EqD P d e v u (Q j)) : EqD P (d + 1) t (.agg xs) (.agg ys) (∀ j, j < n → Q j) := by
  obtain ⟨r, h1, h2⟩ := eqItemsD (P := P) d e (P.cellsOf e) xs ys Q (List.range n) (fun j hj => h j (by simpa using hj))
  exact ⟨r, fun w => (run_equalIn_array w d xs ys hu hi).trans (h1 w), by rw [h2]; simp⟩
theorem eqD_struct {d : Nat} {t : TypeId} {xs ys : Array Value} {Q : Field → Prop} (ht : P.underlying t = some (.struct (P.fieldsOf t))) (hp : P.stoodInHeld t = false) (hn : ∀ f ∈ (P.fieldsOf t).toList, f.name ≠ "_") (h : ∀ f ∈ (P.fieldsOf t).toList, ∃ v u, PartIs P f.type xs f.offset v ∧ PartIs P f.type ys f.offset u ∧ EqD P d f.type v u (Q f)) : EqD P (d + 1) t (.agg xs) (.agg ys) (∀ f ∈ (P.fieldsOf t).toList, Q f) := by
  obtain ⟨r, h1, h2⟩ := eqFieldsD (P := P) d xs ys Q _ hn h
  exact ⟨r, fun w => (run_equalIn_struct w d t xs ys ht hp).trans (h1 w), h2⟩
theorem eqD_int {d : Nat} {t : TypeId} {k k' : IntKind} {a b : Int} (h : P.underlying t = some (.int k')) : EqD P (d + 1) t (.int k a) (.int k b) ((Value.int k a) = .int k b) :=
  ⟨a == b, fun w => run_equalIn_int w d t k k' a b h, by simp⟩
theorem eqD_bool {d : Nat} {t : TypeId} {a b : Bool} (h : P.underlying t = some .bool) : EqD P (d + 1) t (.bool a) (.bool b) ((Value.bool a) = .bool b) :=
  ⟨a == b, fun w => run_equalIn_bool w d t a b h, by simp⟩
theorem eqD_zero {d : Nat} {t : TypeId} (h : P.underlying t = some (.float .f64)) : EqD P (d + 1) t (.float .f64 0) (.float .f64 0) True := ⟨true, eqR_zero h, by simp⟩

/-- Two rows agree from a place on, so many cells. -/
def AgreeOn (x y : Array Value) (o n : Nat) : Prop := ∀ i, o ≤ i → i < o + n → x[i]? = y[i]?
theorem agree_one {x y : Array Value} {o : Nat} {v u : Value} (hx : x[o]? = some v) (hy : y[o]? = some u) : (v = u) ↔ AgreeOn x y o 1 := by
  constructor
  · intro h i h1 h2
    obtain rfl : i = o := by omega
    rw [hx, hy, h]
  · intro h
    have := h o (by omega) (by omega)
    rw [hx, hy] at this
    exact Option.some.inj this
theorem agree_parts {x y : Array Value} {o n z : Nat} (hz : 0 < z) : (∀ j, j < n → AgreeOn x y (o + j * z) z) ↔ AgreeOn x y o (n * z) := by
  constructor
  · intro h i h1 h2
    have hd := Nat.div_add_mod (i - o) z
    have hm := Nat.mod_lt (i - o) hz
    have hlt : (i - o) / z < n := Nat.div_lt_of_lt_mul (by rw [Nat.mul_comm]; omega)
    have hc : (i - o) / z * z = z * ((i - o) / z) := Nat.mul_comm _ _
    exact h _ hlt i (by omega) (by omega)
  · intro h j hj i h1 h2
    have : j * z + z ≤ n * z := by
      have := Nat.mul_le_mul_right z (show j + 1 ≤ n by omega)
      rw [Nat.add_mul, Nat.one_mul] at this
      exact this
    exact h i (by omega) (by omega)
theorem names_ne {fs : List Field} (h : fs.all (fun f => f.name != "_") = true) : ∀ f ∈ fs, f.name ≠ "_" := fun f hf => by
  have := List.all_eq_true.1 h f hf
  simpa using this
end

theorem arg_names : (Tryz.prog.fieldsOf 72).toList.all (fun f => f.name != "_") = true := by kernel_rfl
theorem arg_fields : (Tryz.prog.fieldsOf 72).toList.map (fun f => (f.type, f.offset)) = [(3, 0), (3, 1), (3, 2)] := by kernel_rfl
theorem eqD_arg (d : Nat) (k n p k' n' p' : Int) : EqD Tryz.prog (d + 1 + 1) 72 (.agg #[.int .i64 k, .int .i64 n, .int .i64 p]) (.agg #[.int .i64 k', .int .i64 n', .int .i64 p']) (((k, n, p) : ArgT) = (k', n', p')) := by
  refine (eqD_struct (d := d + 1) (Q := fun f => AgreeOn #[.int .i64 k, .int .i64 n, .int .i64 p] #[.int .i64 k', .int .i64 n', .int .i64 p'] f.offset 1) (by kernel_rfl) (by kernel_rfl) (names_ne arg_names) fun f hf => ?_).iff ?_
  · have hm : (f.type, f.offset) ∈ (Tryz.prog.fieldsOf 72).toList.map (fun f => (f.type, f.offset)) := List.mem_map.2 ⟨f, hf, rfl⟩
    rw [arg_fields] at hm
    simp only [List.mem_cons, Prod.mk.injEq, List.not_mem_nil, or_false] at hm
    rcases hm with ⟨e1, e2⟩ | ⟨e1, e2⟩ | ⟨e1, e2⟩
    all_goals (rw [e1, e2]; exact ⟨_, _, part_cell Tryz.underlying3 rfl rfl, part_cell Tryz.underlying3 rfl rfl, (eqD_int Tryz.underlying3).iff (agree_one rfl rfl)⟩)
  · have hm : ∀ o, o < 3 → ∃ f ∈ (Tryz.prog.fieldsOf 72).toList, f.offset = o := fun o ho => by
      have : o ∈ ((Tryz.prog.fieldsOf 72).toList.map (fun f => (f.type, f.offset))).map Prod.snd := by
        rw [arg_fields]; simp; omega
      simp only [List.map_map, List.mem_map, Function.comp] at this
      obtain ⟨f, hf, e⟩ := this
      exact ⟨f, hf, e⟩
    constructor
    · intro h
      have g : ∀ o, o < 3 → AgreeOn #[.int .i64 k, .int .i64 n, .int .i64 p] #[.int .i64 k', .int .i64 n', .int .i64 p'] o 1 := fun o ho => by
        obtain ⟨f, hf, e⟩ := hm o ho
        have := h f hf
        rwa [e] at this
      have g0 := g 0 (by omega) 0 (by omega) (by omega)
      have g1 := g 1 (by omega) 1 (by omega) (by omega)
      have g2 := g 2 (by omega) 2 (by omega) (by omega)
      simp at g0 g1 g2
      rw [g0, g1, g2]
    · intro h f hf i h1 h2
      simp only [Prod.mk.injEq] at h
      obtain ⟨rfl, rfl, rfl⟩ := h
      rfl
end Go.Proofs.YtcihplachlokiaaGreatDoor
/- The specification's TreeSame. -/
namespace Go.Proofs.YtcihplachlokiaaGreatDoor
open Go.RowKit
set_option linter.unusedVariables false


end Go.Proofs.YtcihplachlokiaaGreatDoor
/- The program's TreeSame. -/
namespace Go.Proofs.YtcihplachlokiaaGreatDoor
open Go.RowKit
set_option linter.unusedVariables false

theorem ArmIs.cells {W : World} {lo : Nat} : ∀ {m : Nat} {t : ArmT} {cs : List Value}, ArmIs W lo m t cs → ∃ n0 n1 n2 n3 n4 n5, cs = [n0, n1, n2, n3, n4, n5] ∧ n0.oneCell' = true ∧ n1.oneCell' = true ∧ n2.oneCell' = true ∧ n3.oneCell' = true ∧ n4.oneCell' = true ∧ n5.oneCell' = true
  | 0, _, _, h => h.elim
  | m + 1, .mk net coils kids, cs, h => by
    obtain ⟨ns, v, v', rfl, hn, hc, hk⟩ := h
    obtain ⟨n0, n1, n2, n3, rfl, o0, o1, o2, o3⟩ := hn.cells
    exact ⟨_, _, _, _, _, _, rfl, o0, o1, o2, o3, hc.one, hk.one⟩
theorem mem2 {a b : Value} (ha : a.oneCell' = true) (hb : b.oneCell' = true) : ∀ x ∈ [a, b], x.oneCell' = true := by
  intro x hx
  simp at hx
  rcases hx with rfl | rfl <;> assumption
theorem ElemIs.cells {W : World} {lo : Nat} {t : ElemT} {cs : List Value} (h : ElemIs W lo t cs) : ∃ n0 n1, cs = [n0, n1] ∧ n0.oneCell' = true ∧ n1.oneCell' = true := by
  obtain ⟨v, rfl, hr⟩ := h
  exact ⟨_, _, rfl, rfl, hr.one⟩

set_option maxRecDepth 10000 in
set_option maxHeartbeats 2000000 in
theorem i_args (v v' : Value) (xs ys : List ArgT) (w : World) (lo lo' : Nat) (hv : ArgsIs w lo v xs) (hv' : ArgsIs w lo' v' ys) :
    Calls Tryz.prog 68 #[v, v'] w fun r w' => r = .returned (.bool (eqB xs ys)) ∧ Below w.heap.size w w' := by
  obtain ⟨a, cap, rfl, hl, hx⟩ := hv
  obtain ⟨a', cap', rfl, hl', hx'⟩ := hv'
  have HX : Hid (∀ j x, xs[j]? = some x → ∃ b o cs, a = some ⟨b, o, none⟩ ∧ lo ≤ b ∧ cs.length = 3 ∧ w.rangeAt b (o + j * 3) cs ∧ ArgIs x cs) := hx
  have HX' : Hid (∀ j x, ys[j]? = some x → ∃ b o cs, a' = some ⟨b, o, none⟩ ∧ lo' ≤ b ∧ cs.length = 3 ∧ w.rangeAt b (o + j * 3) cs ∧ ArgIs x cs) := hx'
  clear hx hx'
  by_cases hlen : xs.length = ys.length
  · rw [← hlen] at hl' ⊢
    have HLY : Hid (xs.length = ys.length) := hlen
    obtain ⟨len, HL⟩ : ∃ len, Hid (len = xs.length) := ⟨_, rfl⟩
    obtain ⟨RES, HR⟩ : ∃ r, Hid (r = eqB xs ys) := ⟨_, rfl⟩
    rw [← HL.out] at hl hl' ⊢
    rw [← HR.out]
    clear hl' hlen
    go_enter Tryz.func68, Tryz.ntmps68
    go_wp2
    go_loopg [13] len (fun g i wr => ∃ n : Nat, n + g = len ∧ i = .int .i64 n ∧ Below w.heap.size w wr ∧ Hid (∀ j, j < n → xs[j]? = ys[j]?))
    case atStart => exact ⟨0, by omega, rfl, Below.refl _ _, fun j hj => by omega⟩
    case round =>
      obtain ⟨n, hn, rfl, hb, HS⟩ := hrel
      by_cases hlt : n < len
      · have i1 : (n : Int) < (len : Int) := by omega
        have i3 : (0 : Int) ≤ (n : Int) := by omega
        obtain ⟨x, hxn⟩ : ∃ x, xs[n]? = some x := ⟨_, List.getElem?_eq_getElem (by have := HL.out; omega)⟩
        obtain ⟨y, hyn⟩ : ∃ y, ys[n]? = some y := ⟨_, List.getElem?_eq_getElem (by have := HL.out; have := HLY.out; omega)⟩
        obtain ⟨b, o, cs, rfl, _, hcs, hrg, hR⟩ := HX.out n x hxn
        obtain ⟨b', o', ds, rfl, _, hds, hrg', hR'⟩ := HX'.out n y hyn
        have HB : Hid (Below w.heap.size w wr) := hb
        have H1 : Hid (wr.rangeAt b (o + n * 3) cs ∧ cs.length = 3) := ⟨fun i c hi => (Keeps.of_below hb 0) _ _ _ (Nat.zero_le _) (hrg i c hi), hcs⟩
        have H2 : Hid (wr.rangeAt b' (o' + n * 3) ds ∧ ds.length = 3) := ⟨fun i c hi => (Keeps.of_below hb 0) _ _ _ (Nat.zero_le _) (hrg' i c hi), hds⟩
        obtain ⟨q, Hq⟩ : ∃ q, Hid (q = eqB x y) := ⟨_, rfl⟩
        obtain rfl : cs = _ := hR
        obtain rfl : ds = _ := hR'
        obtain ⟨r, hr, hr'⟩ := eqD_arg 9998 x.1 x.2.1 x.2.2 y.1 y.2.1 y.2.2
        have hrq : r = q := by rw [Hq.out]; exact (eqB_iff hr').symm
        subst hrq
        clear hr' hb hrg hrg' hcs hds
        go_upto_region 6 with fail
        refine wp_region_quiet_below (by kernel_rfl) (by kernel_rfl) ?_
        go_big_quiet_step (fail)
        go_big_quiet_step (fail)
        go_big_quiet_step (fail)
        refine wpQ_load rfl 72 _ rfl _ _ rfl (.agg #[.int .i64 x.1, .int .i64 x.2.1, .int .i64 x.2.2]) (fun W hW => run_loadVar_mid W b (o + n * 3) 72 [.int .i64 x.1, .int .i64 x.2.1, .int .i64 x.2.2] _ (range_regrown H1.out.1 hW) Tryz.underlying72 rfl (by rw [H1.out.2]; kernel_rfl)) ?_
        simp only [Act.put, List.setIfInBounds_toArray, List.set_cons_succ, List.set_cons_zero]
        go_big_quiet_step (fail)
        go_big_quiet_step (fail)
        go_big_quiet_step (fail)
        refine wpQ_load rfl 72 _ rfl _ _ rfl (.agg #[.int .i64 y.1, .int .i64 y.2.1, .int .i64 y.2.2]) (fun W hW => run_loadVar_mid W b' (o' + n * 3) 72 [.int .i64 y.1, .int .i64 y.2.1, .int .i64 y.2.2] _ (range_regrown H2.out.1 hW) Tryz.underlying72 rfl (by rw [H2.out.2]; kernel_rfl)) ?_
        simp only [Act.put, List.setIfInBounds_toArray, List.set_cons_succ, List.set_cons_zero]
        go_big_quiet_step (fail)
        refine wpQuiet_nil ?_
        intro w7 hw'
        have b7 : Below w.heap.size w w7 := by
          obtain ⟨⟨dq, osq⟩, rfl⟩ := hw'
          exact HB.out.trans ((below_regrown wr dq osq).mono HB.out.size)
        clear hw' hr
        cases r with
        | true =>
          go_wp2
          go_roundg (gk - 1)
          case measure => omega
          case rel =>
            refine ⟨n + 1, by omega, by simp, b7, ?_⟩
            intro j hj
            by_cases hjn : j = n
            · rw [hjn, hxn, hyn, eqB_true.1 Hq.out.symm]
            · exact HS.out j (by omega)
        | false =>
          go_wp2
          go_ret
          refine ⟨?_, b7⟩
          rw [HR.out, eqB_false (a := xs) (b := ys) (fun e => by
            rw [e] at hxn
            have hxy := Option.some.inj (hxn.symm.trans hyn)
            have := Hq.out
            rw [hxy, eqB_refl] at this
            cases this)]
          rfl
      · have i1 : ¬ ((n : Int) < (len : Int)) := by omega
        have hE : xs = ys := by
          apply List.ext_getElem?
          intro j
          by_cases hj : j < n
          · exact HS.out j hj
          · have := HL.out; have := HLY.out
            rw [List.getElem?_eq_none (by omega), List.getElem?_eq_none (by omega)]
        have HE : Hid (xs = ys) := hE
        clear hE
        go_wp2
        go_ret
        exact ⟨by rw [HR.out, HE.out, eqB_refl]; rfl, hb⟩
  · have i1 : ((xs.length : Nat) : Int) ≠ ((ys.length : Nat) : Int) := by omega
    rw [eqB_false (fun e => hlen (by rw [e]))]
    generalize xs.length = l1 at hl i1 hlen ⊢
    generalize ys.length = l2 at hl' i1 hlen ⊢
    go_enter Tryz.func68, Tryz.ntmps68
    go_wp2
    go_ret
    exact ⟨rfl, Below.refl _ _⟩

set_option maxRecDepth 10000 in
set_option maxHeartbeats 2000000 in
theorem i_elem (e e' : ElemT) (cs ds : List Value) (w : World) (lo lo' : Nat) (hv : ElemIs w lo e cs) (hv' : ElemIs w lo' e' ds) :
    Calls Tryz.prog 50 #[.agg cs.toArray, .agg ds.toArray] w fun r w' => r = .returned (.bool (eqB e e')) ∧ Below w.heap.size w w' := by
  obtain ⟨v, rfl, h⟩ := hv
  obtain ⟨v', rfl, h'⟩ := hv'
  rw [eqB_iff (elemT_eq e e')]
  have s1 := h.one
  have s2 := h'.one
  have b0 : ∀ A B, Below w.heap.size w ((w.alloc A).alloc B) := fun A B => ((Below.refl _ _).alloc (Nat.le_refl _) _).alloc (by simp) _
  have HA : Hid (∀ W, Below w.heap.size w W → Calls Tryz.prog 68 #[v, v'] W fun r w' => r = .returned (.bool (eqB e.args e'.args)) ∧ Below W.heap.size W w') := fun W g => i_args v v' _ _ W lo lo' (argsIs_move (Keeps.of_below g lo) (Nat.le_refl _) h) (argsIs_move (Keeps.of_below g lo') (Nat.le_refl _) h')
  generalize eqB e.args e'.args = r at HA ⊢
  generalize e.op = op
  generalize e'.op = op'
  clear h h'
  by_cases hop : op = op'
  · subst hop
    go_enter Tryz.func50, Tryz.ntmps50
    go_wp2_with fail
    refine (HA.out _ (b0 _ _)).mono ?_
    rintro e w1 ⟨rfl, g1⟩
    have b1 := (b0 (.cells #[.int .i64 op, v] 42) (.cells #[.int .i64 op, v'] 42)).trans (g1.mono (by simp; omega))
    clear g1 b0
    go_wp2
    go_ret
    exact ⟨by simp, b1⟩
  · rw [show decide (op = op') = false by simp [hop]]
    go_enter Tryz.func50, Tryz.ntmps50
    go_wp2
    go_ret
    exact ⟨by simp, b0 _ _⟩


end Go.Proofs.YtcihplachlokiaaGreatDoor
