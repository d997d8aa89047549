/- Images: mathematics; what both sides keep while they build one. -/
import Derived.Test.YtcihplachlokiaaDoorQkhM
import Derived.Test.YtcihplachlokiaaDoorPccM
namespace Go.Proofs.YtcihplachlokiaaDoor
open Go.RowKit Go.Shelf
set_option linter.unusedVariables false
set_option linter.unusedSimpArgs false

theorem arN_le (op : Int) : arN op ≤ 3 := by
  rcases op_cases op with h | ⟨n, hn, rfl⟩
  · have e : ndP op = [] := by unfold ndP; repeat rw [if_neg (by omega)]
    unfold arN
    rw [e]
    decide
  · have : ∀ j : Fin 38, arN ((j.val : Nat) : Int) ≤ 3 := by decide +kernel
    exact this ⟨n, hn⟩
theorem wr_zero {i : InstT} (h : wrT i = 0) : i.one.args.length ≤ 3 ∧ (hasB i.code = true → i.one.args.all fitA = true) := by
  unfold wrT at h
  by_cases h1 : knB i.code = false
  · rw [if_pos h1] at h; omega
  · rw [if_neg h1] at h
    by_cases h2 : hasB i.code = false
    · rw [if_pos h2] at h
      by_cases h3 : i.one.op = 0 ∧ i.one.args.length = 0
      · exact ⟨by omega, fun h4 => by rw [h4] at h2; cases h2⟩
      · rw [if_neg h3] at h; omega
    · rw [if_neg h2] at h
      by_cases h3 : opB i.code i.one.op = false
      · rw [if_pos h3] at h; omega
      · rw [if_neg h3] at h
        by_cases h4 : (i.one.args.length : Int) ≠ arN i.one.op
        · rw [if_pos h4] at h; omega
        · rw [if_neg h4] at h
          have h5 := arN_le i.one.op
          have h6 : (i.one.args.length : Int) = arN i.one.op := by omega
          by_cases h7 : i.one.args.all fitA = true
          · exact ⟨by omega, fun _ => h7⟩
          · rw [if_neg h7] at h; omega
theorem wr_cases (i : InstT) : wrT i = 0 ∨ 0 < wrT i := by
  unfold wrT
  repeat' split
  all_goals omega
theorem insL_len {i : InstT} (h : wrT i = 0) : (insL i).length ≤ 20 := by
  have h1 := (wr_zero h).1
  have h2 := opdsL_len i.one.args
  unfold insL
  rw [List.length_append, nbL_len]
  split
  · rw [List.length_append, nbL_len]; omega
  · simp
def bodL (xs : List InstT) : List Nat := (xs.map insL).flatten
theorem bodL_snoc (xs : List InstT) (k : Nat) (x : InstT) (h : xs[k]? = some x) : bodL (xs.take (k + 1)) = bodL (xs.take k) ++ insL x := by
  have hk : k < xs.length := (List.getElem?_eq_some_iff.1 h).1
  rw [List.take_succ_eq_append_getElem hk, show xs[k] = x from Option.some.inj ((List.getElem?_eq_getElem hk).symm.trans h)]
  simp [bodL]
theorem bodL_len : ∀ (xs : List InstT), (∀ x ∈ xs, wrT x = 0) → (bodL xs).length ≤ 20 * xs.length
  | [], _ => by simp [bodL]
  | x :: xs, h => by
    have h1 := insL_len (h x (List.mem_cons_self ..))
    have h2 := bodL_len xs fun y hy => h y (List.mem_cons_of_mem _ hy)
    simp only [bodL, List.map_cons, List.flatten_cons, List.length_append, List.length_cons] at h2 ⊢
    omega
def hdL (xs : List InstT) : List Nat := [83, 116] ++ nbL (((bodL xs).length : Int) + 8) 2 ++ nbL (xs.length : Int) 2
/-- The list as a function of its places. -/
def atL (l : List Nat) (j : Nat) : Nat := l.getD j 0
def smL (l : List Nat) : Nat := sumF (atL l) l.length
def imgL (xs : List InstT) : List Nat := (hdL xs ++ bodL xs) ++ nbL (smL (hdL xs ++ bodL xs) : Int) 2
theorem insL_lt (i : InstT) : ∀ b ∈ insL i, b < 256 := by
  intro b hb
  unfold insL at hb
  rcases List.mem_append.1 hb with h | h
  · exact nbL_lt _ _ _ h
  · by_cases h1 : hasB i.code = true
    · rw [if_pos h1] at h
      rcases List.mem_append.1 h with h | h
      · exact nbL_lt _ _ _ h
      · simp only [opdsL, List.mem_flatten, List.mem_map] at h
        obtain ⟨l, ⟨x, _, rfl⟩, h⟩ := h
        unfold opdL at h
        rcases List.mem_append.1 h with h | h
        · rcases List.mem_append.1 h with h | h
          · exact nbL_lt _ _ _ h
          · exact nbL_lt _ _ _ h
        · by_cases h2 : x.1 = 12
          · rw [if_pos h2] at h; exact nbL_lt _ _ _ h
          · rw [if_neg h2] at h; cases h
    · rw [if_neg h1] at h; cases h
theorem hdL_lt (xs : List InstT) : ∀ b ∈ hdL xs ++ bodL xs, b < 256 := by
  intro b hb
  rcases List.mem_append.1 hb with h | h
  · unfold hdL at h
    rcases List.mem_append.1 h with h | h
    · rcases List.mem_append.1 h with h | h
      · simp at h; omega
      · exact nbL_lt _ _ _ h
    · exact nbL_lt _ _ _ h
  · simp only [bodL, List.mem_flatten, List.mem_map] at h
    obtain ⟨l, ⟨x, _, rfl⟩, h⟩ := h
    exact insL_lt x b h
theorem atL_lt {l : List Nat} (h : ∀ b ∈ l, b < 256) (j : Nat) : atL l j < 256 := by
  unfold atL
  rw [List.getD_eq_getElem?_getD]
  cases hj : l[j]? with
  | none => simp
  | some b => exact h b (List.mem_of_getElem? hj)
theorem owL_bt {w : World} {base : Nat} {a : Option Addr} {cap : Nat} {l : List Nat} (h : OwL w base (.slice a l.length cap) l) : Bt w a l.length (atL l) := by
  have h' := h
  rcases h'.2 with ⟨_, h0⟩ | ⟨g, cp, cur, hv, _, hg, _⟩
  · exact .inl h0
  · simp only [Value.slice.injEq] at hv
    obtain ⟨rfl, _, _⟩ := hv
    refine .inr ⟨g, 0, rfl, (Array.getElem?_eq_some_iff.1 hg).1, fun j hj => ?_⟩
    have hc : (cl l)[j]? = some (.int .u8 (atL l j : Nat)) := by
      unfold cl atL
      rw [List.getElem?_map, List.getElem?_eq_getElem hj, List.getD_eq_getElem?_getD, List.getElem?_eq_getElem hj]
      rfl
    have := World.ownsRow.cells h rfl j _ hc
    rw [Nat.zero_add]
    by_cases h0 : j = 0
    · subst h0; simpa [Addr.add] using this
    · simpa [Addr.add, h0] using this
theorem owL_ob {w : World} {base : Nat} {v : Value} {l : List Nat} (h : OwL w base v l) : ∃ a c, v = .slice a l.length c ∧ Ob w base a l.length (atL l) := by
  have h' := h
  rcases h'.2 with ⟨hv, h0⟩ | ⟨g, cp, cur, hv, hb, hg, _⟩
  · exact ⟨none, 0, by rw [hv, h0], .inl ⟨rfl, h0⟩⟩
  · subst hv
    refine ⟨some ⟨g, 0, none⟩, cp, rfl, .inr ⟨g, rfl, hb, ⟨fun j hj => ?_, fun o => by simp [World.frozen?, hg], (Array.getElem?_eq_some_iff.1 hg).1⟩⟩⟩
    have hc : (cl l)[j]? = some (.int .u8 (atL l j : Nat)) := by
      unfold cl atL
      rw [List.getElem?_map, List.getElem?_eq_getElem hj, List.getD_eq_getElem?_getD, List.getElem?_eq_getElem hj]
      rfl
    have := World.ownsRow.cells h rfl j _ hc
    by_cases h0 : j = 0
    · subst h0; simpa [Addr.add] using this
    · simpa [Addr.add, h0] using this

/-- A value and a box handed back. -/
theorem ret_tc {P : Program} {fn : Func} {Q : Ending → World → Prop} {a : Act} {w : World} {p p2 : Tmp} {ty : TypeId} (hf : fn.results = #[.tmp p2, .cell p ty]) {g : Nat} (hp : a.tmps.getD p undef = .pointer (some ⟨g, 0, none⟩)) {v2 : Value} (hp2 : a.tmps.getD p2 undef = v2)
    {v : Value} (h1 : (loadVar ty ⟨g, 0, none⟩).run P w = .ok v w) (hdf : a.defers = []) (hR : Q (.returned (.tuple #[v2, v])) w) : bodyPost P fn Q .ret a w := by
  refine bodyPost_ret (v := .tuple #[v2, v]) ?_ hdf hR
  have hp' : a.tmps[p]?.getD undef = .pointer (some ⟨g, 0, none⟩) := by simpa using hp
  have hp2' : a.tmps[p2]?.getD undef = v2 := by simpa using hp2
  simp [results, hf, hp', hp2', asAddr, h1]

/-- What PicMake answers. -/
def MkR (xs : List InstT) (w : World) (e : Ending) (w' : World) : Prop :=
  ∃ v, e = .returned (.tuple #[v, .agg #[.int .i64 (pfT xs).1, .int .i64 ((pfT xs).2 : Nat)]]) ∧ OwL w' w.heap.size v (if (pfT xs).1 = 0 then imgL xs else []) ∧ Below w.heap.size w w'
theorem owL_nil (w : World) (base : Nat) : OwL w base (.slice none 0 0) [] := World.ownsRow_nil _ _ _ _
end Go.Proofs.YtcihplachlokiaaDoor
