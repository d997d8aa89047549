/- SureCheck as mathematics. -/
import Derived.Test.YthjbgjfihfkpcaaDoorZo
import Derived.Test.YthjbgjfihfkpcaaDoorZaM
import Derived.Deep.QuietTactic
import Derived.BigQuiet
import Derived.WalkLawsBesides
namespace Go.Proofs.YthjbgjfihfkpcaaDoor
open Go.RowKit
set_option linter.unusedVariables false

def okT' (i : InstT) : Bool := okI i.code i.one.op i.one.args
def needs (c : Int) : Int := if c = 1 then 0 else if c = 4 ∨ c = 5 then 2 else 1
/-- What is known ahead of an instruction. -/
structure Rn where
  b : Int
  f : Int
  s : Bool
  k : Bool
/-- The rules, in their order. -/
def brk (r : Rn) (ok : Bool) (c : Int) : Nat → Bool
  | 0 => !ok
  | 1 => decide (r.b < needs c)
  | 2 => decide (c = 1) && decide (16 ≤ r.b)
  | 3 => decide (c = 7 ∨ c = 8 ∨ c = 9 ∨ c = 10 ∨ c = 11) && decide (1 < r.b)
  | 4 => r.s && ((decide (c = 3 ∨ c = 6) && decide (r.b = 1)) || (decide (c = 5) && decide (r.b = 2)))
  | 5 => (decide (c = 7) && decide (8 ≤ r.f)) || (decide (c = 8 ∨ c = 9) && decide (r.f = 0)) || (decide (c = 11) && !decide (r.f = 0))
  | _ => decide (c = 8 ∨ c = 9 ∨ c = 11) && !r.k
def wrongC (r : Rn) (ok : Bool) (c : Int) : Int :=
  if brk r ok c 0 then 2 else if brk r ok c 1 then 3 else if brk r ok c 2 then 4 else if brk r ok c 3 then 5 else if brk r ok c 4 then 6 else if brk r ok c 5 then 7 else if brk r ok c 6 then 8 else 0
theorem wrong_at {r : Rn} {ok : Bool} {c : Int} {j : Nat} (hj : j < 7) (h : ∀ i, i < j → brk r ok c i = false) (hb : brk r ok c j = true) : wrongC r ok c = (j : Int) + 2 := by
  unfold wrongC
  match j with
  | 0 => rw [if_pos hb]; rfl
  | 1 => rw [h 0 (by omega), if_neg (by simp), if_pos hb]; rfl
  | 2 => rw [h 0 (by omega), h 1 (by omega), if_neg (by simp), if_neg (by simp), if_pos hb]; rfl
  | 3 => rw [h 0 (by omega), h 1 (by omega), h 2 (by omega), if_neg (by simp), if_neg (by simp), if_neg (by simp), if_pos hb]; rfl
  | 4 => rw [h 0 (by omega), h 1 (by omega), h 2 (by omega), h 3 (by omega), if_neg (by simp), if_neg (by simp), if_neg (by simp), if_neg (by simp), if_pos hb]; rfl
  | 5 => rw [h 0 (by omega), h 1 (by omega), h 2 (by omega), h 3 (by omega), h 4 (by omega), if_neg (by simp), if_neg (by simp), if_neg (by simp), if_neg (by simp), if_neg (by simp), if_pos hb]; rfl
  | 6 => rw [h 0 (by omega), h 1 (by omega), h 2 (by omega), h 3 (by omega), h 4 (by omega), h 5 (by omega), if_neg (by simp), if_neg (by simp), if_neg (by simp), if_neg (by simp), if_neg (by simp), if_neg (by simp), if_pos hb]; rfl
theorem wrong_none {r : Rn} {ok : Bool} {c : Int} (h : ∀ i, i < 7 → brk r ok c i = false) : wrongC r ok c = 0 := by
  unfold wrongC
  rw [h 0 (by omega), h 1 (by omega), h 2 (by omega), h 3 (by omega), h 4 (by omega), h 5 (by omega), h 6 (by omega)]
  simp
theorem wrong_zero {r : Rn} {ok : Bool} {c : Int} (h : wrongC r ok c = 0) : ∀ i, i < 7 → brk r ok c i = false := by
  unfold wrongC at h
  have e0 : brk r ok c 0 = false := by
    cases hq : brk r ok c 0 with
    | false => rfl
    | true => rw [hq, if_pos rfl] at h; omega
  rw [e0, if_neg (by simp)] at h
  have e1 : brk r ok c 1 = false := by
    cases hq : brk r ok c 1 with
    | false => rfl
    | true => rw [hq, if_pos rfl] at h; omega
  rw [e1, if_neg (by simp)] at h
  have e2 : brk r ok c 2 = false := by
    cases hq : brk r ok c 2 with
    | false => rfl
    | true => rw [hq, if_pos rfl] at h; omega
  rw [e2, if_neg (by simp)] at h
  have e3 : brk r ok c 3 = false := by
    cases hq : brk r ok c 3 with
    | false => rfl
    | true => rw [hq, if_pos rfl] at h; omega
  rw [e3, if_neg (by simp)] at h
  have e4 : brk r ok c 4 = false := by
    cases hq : brk r ok c 4 with
    | false => rfl
    | true => rw [hq, if_pos rfl] at h; omega
  rw [e4, if_neg (by simp)] at h
  have e5 : brk r ok c 5 = false := by
    cases hq : brk r ok c 5 with
    | false => rfl
    | true => rw [hq, if_pos rfl] at h; omega
  rw [e5, if_neg (by simp)] at h
  have e6 : brk r ok c 6 = false := by
    cases hq : brk r ok c 6 with
    | false => rfl
    | true => rw [hq, if_pos rfl] at h; omega
  rw [e6, if_neg (by simp)] at h
  intro i hi
  match i, hi with
  | 0, _ => exact e0
  | 1, _ => exact e1
  | 2, _ => exact e2
  | 3, _ => exact e3
  | 4, _ => exact e4
  | 5, _ => exact e5
  | 6, _ => exact e6
theorem wrong_in (r : Rn) (ok : Bool) (c : Int) : 0 ≤ wrongC r ok c ∧ wrongC r ok c ≤ 8 := by
  unfold wrongC
  repeat' split
  all_goals omega
/-- What is known behind it. -/
def nx (r : Rn) (c : Int) : Rn := if c = 11 then ⟨0, 0, false, false⟩ else ⟨bhB r.b c, bhF r.f c, r.s || decide (c = 10) || decide (c = 7), decide (c = 10)⟩
structure RnOk (r : Rn) : Prop where
  b0 : 0 ≤ r.b
  b1 : r.b ≤ 16
  f0 : 0 ≤ r.f
  f1 : r.f ≤ 8
  z : r.b = 0 → r.f = 0 ∧ r.s = false ∧ r.k = false
theorem okI_code {c op : Int} {xs : List Arg} (h : okI c op xs = true) : 1 ≤ c ∧ c ≤ 11 := by
  unfold okI at h
  split at h
  · cases h
  · omega
theorem rn_zero : RnOk ⟨0, 0, false, false⟩ := ⟨by simp, by simp, by simp, by simp, fun _ => ⟨rfl, rfl, rfl⟩⟩
theorem rn_next {r : Rn} {ok : Bool} {c : Int} (h : RnOk r) (hc : ok = true → 1 ≤ c ∧ c ≤ 11) (hw : wrongC r ok c = 0) : RnOk (nx r c) := by
  have hz := wrong_zero hw
  have z0 := hz 0 (by omega)
  have z1 := hz 1 (by omega)
  have z2 := hz 2 (by omega)
  have z3 := hz 3 (by omega)
  have z5 := hz 5 (by omega)
  simp only [brk, Bool.not_eq_false'] at z0
  have hcc := hc z0
  obtain ⟨h1, h2, h3, h4, h5⟩ := h
  simp only [brk, decide_eq_false_iff_not] at z1
  unfold needs at z1
  simp only [brk, Bool.and_eq_false_iff, decide_eq_false_iff_not] at z2
  simp only [brk, Bool.and_eq_false_iff, decide_eq_false_iff_not] at z3
  simp only [brk, Bool.or_eq_false_iff, Bool.and_eq_false_iff, decide_eq_false_iff_not, Bool.not_eq_false', decide_eq_true_iff] at z5
  unfold nx
  split
  · exact rn_zero
  · next hne =>
    by_cases c1 : c = 1
    · subst c1
      refine ⟨?_, ?_, ?_, ?_, ?_⟩ <;> simp [bhB, bhF] at * <;> omega
    · by_cases c4 : c = 4 ∨ c = 5
      · rw [if_neg c1, if_pos c4] at z1
        have e1 : bhB r.b c = r.b - 1 := by unfold bhB; rw [if_neg c1, if_pos (by omega)]
        have e2 : bhF r.f c = r.f := by unfold bhF; rw [if_neg (by omega), if_neg (by omega)]
        refine ⟨?_, ?_, ?_, ?_, ?_⟩
        · show 0 ≤ bhB r.b c; omega
        · show bhB r.b c ≤ 16; omega
        · show 0 ≤ bhF r.f c; omega
        · show bhF r.f c ≤ 8; omega
        · intro hb; have : bhB r.b c = 0 := hb; omega
      · rw [if_neg c1, if_neg c4] at z1
        have e1 : bhB r.b c = r.b := by unfold bhB; rw [if_neg c1, if_neg (by omega)]
        have e2 : 0 ≤ bhF r.f c ∧ bhF r.f c ≤ 8 := by
          unfold bhF
          split
          · omega
          · split <;> omega
        refine ⟨?_, ?_, ?_, ?_, ?_⟩
        · show 0 ≤ bhB r.b c; omega
        · show bhB r.b c ≤ 16; omega
        · exact e2.1
        · exact e2.2
        · intro hb; have : bhB r.b c = 0 := hb; omega
/-- Behind an instruction that is right, the program's way. -/
theorem nx_i {r : Rn} {ok : Bool} {c : Int} (h : RnOk r) (hw : wrongC r ok c = 0) : (nx r c).b = bhB r.b c ∧ (nx r c).f = bhF r.f c ∧ (nx r c).s = (!decide (c = 11) && (r.s || decide (c = 10) || decide (c = 7))) ∧ (nx r c).k = (!decide (c = 11) && decide (c = 10)) := by
  by_cases e : c = 11
  · subst e
    have hz := wrong_zero hw
    have z1 := hz 1 (by omega)
    have z3 := hz 3 (by omega)
    have z5 := hz 5 (by omega)
    simp [brk, needs] at z1 z3 z5
    have hb : r.b = 1 := by omega
    unfold nx
    simp [bhB, bhF, hb, z5]
  · unfold nx
    rw [if_neg e]
    simp [e]
/-- The specification's order. -/
def wrongS (r : Rn) (ok : Bool) (c : Int) : Int :=
  if ok = false then 2 else if r.b < needs c then 3 else if c = 1 ∧ r.b = 16 then 4 else if 7 ≤ c ∧ 1 < r.b then 5
  else if r.s = true ∧ r.b = (if c = 5 then 2 else 1) ∧ (c = 3 ∨ c = 6 ∨ c = 5) then 6 else if c = 7 ∧ r.f = 8 then 7 else if (c = 8 ∨ c = 9) ∧ r.f = 0 then 7 else if c = 11 ∧ 0 < r.f then 7
  else if (c = 8 ∨ c = 9 ∨ c = 11) ∧ r.k = false then 8 else 0
theorem wrong_same {r : Rn} {ok : Bool} {c : Int} (h : RnOk r) (hc : ok = true → 1 ≤ c ∧ c ≤ 11) : wrongS r ok c = wrongC r ok c := by
  obtain ⟨h1, h2, h3, h4, h5⟩ := h
  cases ok with
  | false => simp [wrongS, wrongC, brk]
  | true =>
    have hcc := hc rfl
    obtain ⟨b, f, s, k⟩ := r
    simp only at h1 h2 h3 h4 h5
    unfold wrongS wrongC
    simp only [brk, needs]
    have e1 : (f = 8) = (8 ≤ f) := by apply propext; omega
    have e2 : (0 < f) = ¬ (f = 0) := by apply propext; omega
    have e3 : (b = 16) = (16 ≤ b) := by apply propext; omega
    obtain rfl | rfl | rfl | rfl | rfl | rfl | rfl | rfl | rfl | rfl | rfl : c = 1 ∨ c = 2 ∨ c = 3 ∨ c = 4 ∨ c = 5 ∨ c = 6 ∨ c = 7 ∨ c = 8 ∨ c = 9 ∨ c = 10 ∨ c = 11 := by omega
    all_goals (simp [e1, e2, e3])
/-- What is wrong with what is left of a list. -/
def chk : List InstT → Nat → Rn → Int × Int
  | [], n, r => if r.b = 0 then (0, 0) else (9, n)
  | i :: is, n, r => if wrongC r (okT' i) i.code = 0 then chk is (n + 1) (nx r i.code) else (wrongC r (okT' i) i.code, n)
def checkT (xs : List InstT) : Int × Int := if 1000 < xs.length then (1, 0) else chk xs 0 ⟨0, 0, false, false⟩
theorem chk_go {xs : List InstT} {n : Nat} {x : InstT} {r : Rn} (h : xs[n]? = some x) (hw : wrongC r (okT' x) x.code = 0) : chk (xs.drop n) n r = chk (xs.drop (n + 1)) (n + 1) (nx r x.code) := by
  obtain ⟨hn, rfl⟩ := List.getElem?_eq_some_iff.1 h
  rw [List.drop_eq_getElem_cons hn, chk, if_pos hw]
theorem chk_bad {xs : List InstT} {n : Nat} {x : InstT} {r : Rn} (h : xs[n]? = some x) (hw : wrongC r (okT' x) x.code ≠ 0) : chk (xs.drop n) n r = (wrongC r (okT' x) x.code, (n : Int)) := by
  obtain ⟨hn, rfl⟩ := List.getElem?_eq_some_iff.1 h
  rw [List.drop_eq_getElem_cons hn, chk, if_neg hw]
theorem chk_end {xs : List InstT} {n : Nat} {r : Rn} (h : xs.length ≤ n) : chk (xs.drop n) n r = if r.b = 0 then (0, 0) else (9, (n : Int)) := by
  rw [List.drop_eq_nil_of_le h, chk]
end Go.Proofs.YthjbgjfihfkpcaaDoor
/- The rules of the program's SureCheck: what each says of an instruction. -/
namespace Go.Proofs.YthjbgjfihfkpcaaDoor
open Go.RowKit
set_option linter.unusedVariables false

theorem needs_i (c : Int) (w : World) : Calls Tryd.prog 66 #[.int .i64 c] w fun e w' => e = .returned (.int .i64 (needs c)) ∧ w' = w := by
  by_cases h1 : c = 1
  · subst h1
    rw [show needs 1 = 0 from rfl]
    go_enter Tryd.func66, Tryd.ntmps66
    go_wp2
    go_ret
    exact ⟨rfl, rfl⟩
  by_cases h4 : c = 4
  · subst h4
    rw [show needs 4 = 2 from rfl]
    go_enter Tryd.func66, Tryd.ntmps66
    go_wp2
    go_ret
    exact ⟨rfl, rfl⟩
  by_cases h5 : c = 5
  · subst h5
    rw [show needs 5 = 2 from rfl]
    go_enter Tryd.func66, Tryd.ntmps66
    go_wp2
    go_ret
    exact ⟨rfl, rfl⟩
  rw [show needs c = 1 by unfold needs; rw [if_neg h1, if_neg (by omega)]]
  go_enter Tryd.func66, Tryd.ntmps66
  go_wp2
  go_ret
  exact ⟨rfl, rfl⟩

theorem two_below {w : World} (o1 o2 : Obj) : Below w.heap.size w ((w.alloc o1).alloc o2) := ((Below.refl _ _).alloc (Nat.le_refl _) _).alloc (by simp) _

set_option maxRecDepth 10000 in
set_option maxHeartbeats 4000000 in
theorem rule0 (r : Rn) (c op : Int) (a : Option Addr) (xs : List Arg) (len cap : Nat) (hlen : len = xs.length) (w : World) (hT : KT w) (hL : LT w) (hx : Sl w a xs) :
    Calls Tryd.prog 40 #[.agg #[.int .i64 r.b, .int .i64 r.f, .bool r.s, .bool r.k], .agg #[.int .i64 c, .int .i64 op, .slice a len cap]] w fun e w' => e = .returned (.bool (brk r (okI c op xs) c 0)) ∧ Below w.heap.size w w' := by
  obtain ⟨b, f, s, k⟩ := r
  have HO : Hid (Calls Tryd.prog 65 #[.agg #[.int .i64 c, .int .i64 op, .slice a len cap]] ((w.alloc (.cells #[.int .i64 b, .int .i64 f, .bool s, .bool k] 59)).alloc (.cells #[.int .i64 c, .int .i64 op, .slice a len cap] 36)) fun e w' => e = .returned (.bool (okI c op xs)) ∧ Below ((w.alloc (.cells #[.int .i64 b, .int .i64 f, .bool s, .bool k] 59)).alloc (.cells #[.int .i64 c, .int .i64 op, .slice a len cap] 36)).heap.size ((w.alloc (.cells #[.int .i64 b, .int .i64 f, .bool s, .bool k] 59)).alloc (.cells #[.int .i64 c, .int .i64 op, .slice a len cap] 36)) w') := ok_i c op a xs len cap hlen _ (hT.later (two_below _ _)) (hL.later (two_below _ _)) (hx.later (two_below _ _))
  have hs : ((w.alloc (.cells #[.int .i64 b, .int .i64 f, .bool s, .bool k] 59)).alloc (.cells #[.int .i64 c, .int .i64 op, .slice a len cap] 36)).heap.size = w.heap.size + 1 + 1 := by simp
  have HB : Hid (Below w.heap.size w ((w.alloc (.cells #[.int .i64 b, .int .i64 f, .bool s, .bool k] 59)).alloc (.cells #[.int .i64 c, .int .i64 op, .slice a len cap] 36))) := two_below _ _
  simp only [brk]
  cases hb : okI c op xs with
  | true =>
    rw [hb] at HO
    clear hb hlen hT hL hx
    go_enter Tryd.func40, Tryd.ntmps40
    go_wp2_with fail
    refine HO.out.mono ?_
    rintro e w1 ⟨rfl, g1⟩
    have b1 : Below w.heap.size w w1 := HB.out.trans (g1.mono (by omega))
    go_wp2
    go_ret
    exact ⟨rfl, b1⟩
  | false =>
    rw [hb] at HO
    clear hb hlen hT hL hx
    go_enter Tryd.func40, Tryd.ntmps40
    go_wp2_with fail
    refine HO.out.mono ?_
    rintro e w1 ⟨rfl, g1⟩
    have b1 : Below w.heap.size w w1 := HB.out.trans (g1.mono (by omega))
    go_wp2
    go_ret
    exact ⟨rfl, b1⟩

set_option maxRecDepth 10000 in
set_option maxHeartbeats 4000000 in
theorem rule1 (r : Rn) (c op : Int) (a : Option Addr) (xs : List Arg) (len cap : Nat) (hlen : len = xs.length) (w : World) (hT : KT w) (hL : LT w) (hx : Sl w a xs) :
    Calls Tryd.prog 41 #[.agg #[.int .i64 r.b, .int .i64 r.f, .bool r.s, .bool r.k], .agg #[.int .i64 c, .int .i64 op, .slice a len cap]] w fun e w' => e = .returned (.bool (brk r (okI c op xs) c 1)) ∧ Below w.heap.size w w' := by
  obtain ⟨b, f, s, k⟩ := r
  have HN : Hid (∀ W, Calls Tryd.prog 66 #[.int .i64 c] W fun e w' => e = .returned (.int .i64 (needs c)) ∧ w' = W) := fun W => needs_i c W
  simp only [brk]
  clear hlen hT hL hx
  obtain ⟨q, Hq⟩ : ∃ q, Hid (q = needs c) := ⟨_, rfl⟩
  rw [← Hq.out] at HN ⊢
  go_enter Tryd.func41, Tryd.ntmps41
  go_wp2
  go_quiet (first | (go_at_call 66; refine Calls.quiet_of_same (HN.out _)))
  go_wp2
  go_ret
  exact ⟨rfl, (two_below _ _).trans ⟨rfl, rfl, rfl, Nat.le_refl _, fun _ _ => rfl⟩⟩

set_option maxRecDepth 10000 in
set_option maxHeartbeats 4000000 in
theorem rule2 (r : Rn) (c op : Int) (a : Option Addr) (xs : List Arg) (len cap : Nat) (hlen : len = xs.length) (w : World) (hT : KT w) (hL : LT w) (hx : Sl w a xs) :
    Calls Tryd.prog 42 #[.agg #[.int .i64 r.b, .int .i64 r.f, .bool r.s, .bool r.k], .agg #[.int .i64 c, .int .i64 op, .slice a len cap]] w fun e w' => e = .returned (.bool (brk r (okI c op xs) c 2)) ∧ Below w.heap.size w w' := by
  obtain ⟨b, f, s, k⟩ := r
  clear hlen hT hL hx
  generalize okI c op xs = ok
  by_cases h1 : c = 1
  · subst h1
    by_cases hb : 16 ≤ b
    · rw [show brk ⟨b, f, s, k⟩ ok 1 2 = true by simp [brk, hb]]
      go_enter Tryd.func42, Tryd.ntmps42
      go_wp2
      go_ret
      exact ⟨rfl, two_below _ _⟩
    · rw [show brk ⟨b, f, s, k⟩ ok 1 2 = false by simp [brk]; omega]
      have hd : decide (16 ≤ b) = false := by simp; omega
      go_enter Tryd.func42, Tryd.ntmps42
      go_wp2
      go_ret
      exact ⟨rfl, two_below _ _⟩
  · rw [show brk ⟨b, f, s, k⟩ ok c 2 = false by simp [brk, h1]]
    have hd : (c == 1) = false := by simp [h1]
    go_enter Tryd.func42, Tryd.ntmps42
    go_wp2
    go_ret
    exact ⟨rfl, two_below _ _⟩

set_option maxRecDepth 10000 in
set_option maxHeartbeats 4000000 in
theorem rule3 (r : Rn) (c op : Int) (a : Option Addr) (xs : List Arg) (len cap : Nat) (hlen : len = xs.length) (w : World) (hT : KT w) (hL : LT w) (hx : Sl w a xs) :
    Calls Tryd.prog 43 #[.agg #[.int .i64 r.b, .int .i64 r.f, .bool r.s, .bool r.k], .agg #[.int .i64 c, .int .i64 op, .slice a len cap]] w fun e w' => e = .returned (.bool (brk r (okI c op xs) c 3)) ∧ Below w.heap.size w w' := by
  obtain ⟨b, f, s, k⟩ := r
  clear hlen hT hL hx
  generalize okI c op xs = ok
  by_cases h7 : c = 7
  · subst h7
    by_cases hb : 1 < b
    · rw [show brk ⟨b, f, s, k⟩ ok 7 3 = true by simp [brk, hb]]
      go_enter Tryd.func43, Tryd.ntmps43
      go_wp2
      go_ret
      exact ⟨rfl, two_below _ _⟩
    · rw [show brk ⟨b, f, s, k⟩ ok 7 3 = false by simp [brk]; omega]
      have hd : decide (1 < b) = false := by simp; omega
      go_enter Tryd.func43, Tryd.ntmps43
      go_wp2
      go_ret
      exact ⟨rfl, two_below _ _⟩
  by_cases h8 : c = 8
  · subst h8
    by_cases hb : 1 < b
    · rw [show brk ⟨b, f, s, k⟩ ok 8 3 = true by simp [brk, hb]]
      go_enter Tryd.func43, Tryd.ntmps43
      go_wp2
      go_ret
      exact ⟨rfl, two_below _ _⟩
    · rw [show brk ⟨b, f, s, k⟩ ok 8 3 = false by simp [brk]; omega]
      have hd : decide (1 < b) = false := by simp; omega
      go_enter Tryd.func43, Tryd.ntmps43
      go_wp2
      go_ret
      exact ⟨rfl, two_below _ _⟩
  by_cases h9 : c = 9
  · subst h9
    by_cases hb : 1 < b
    · rw [show brk ⟨b, f, s, k⟩ ok 9 3 = true by simp [brk, hb]]
      go_enter Tryd.func43, Tryd.ntmps43
      go_wp2
      go_ret
      exact ⟨rfl, two_below _ _⟩
    · rw [show brk ⟨b, f, s, k⟩ ok 9 3 = false by simp [brk]; omega]
      have hd : decide (1 < b) = false := by simp; omega
      go_enter Tryd.func43, Tryd.ntmps43
      go_wp2
      go_ret
      exact ⟨rfl, two_below _ _⟩
  by_cases h10 : c = 10
  · subst h10
    by_cases hb : 1 < b
    · rw [show brk ⟨b, f, s, k⟩ ok 10 3 = true by simp [brk, hb]]
      go_enter Tryd.func43, Tryd.ntmps43
      go_wp2
      go_ret
      exact ⟨rfl, two_below _ _⟩
    · rw [show brk ⟨b, f, s, k⟩ ok 10 3 = false by simp [brk]; omega]
      have hd : decide (1 < b) = false := by simp; omega
      go_enter Tryd.func43, Tryd.ntmps43
      go_wp2
      go_ret
      exact ⟨rfl, two_below _ _⟩
  by_cases h11 : c = 11
  · subst h11
    by_cases hb : 1 < b
    · rw [show brk ⟨b, f, s, k⟩ ok 11 3 = true by simp [brk, hb]]
      go_enter Tryd.func43, Tryd.ntmps43
      go_wp2
      go_ret
      exact ⟨rfl, two_below _ _⟩
    · rw [show brk ⟨b, f, s, k⟩ ok 11 3 = false by simp [brk]; omega]
      have hd : decide (1 < b) = false := by simp; omega
      go_enter Tryd.func43, Tryd.ntmps43
      go_wp2
      go_ret
      exact ⟨rfl, two_below _ _⟩
  rw [show brk ⟨b, f, s, k⟩ ok c 3 = false by simp [brk, h7, h8, h9, h10, h11]]
  go_enter Tryd.func43, Tryd.ntmps43
  go_wp2
  go_ret
  exact ⟨rfl, two_below _ _⟩

set_option maxRecDepth 10000 in
set_option maxHeartbeats 4000000 in
theorem rule4 (r : Rn) (c op : Int) (a : Option Addr) (xs : List Arg) (len cap : Nat) (hlen : len = xs.length) (w : World) (hT : KT w) (hL : LT w) (hx : Sl w a xs) :
    Calls Tryd.prog 44 #[.agg #[.int .i64 r.b, .int .i64 r.f, .bool r.s, .bool r.k], .agg #[.int .i64 c, .int .i64 op, .slice a len cap]] w fun e w' => e = .returned (.bool (brk r (okI c op xs) c 4)) ∧ Below w.heap.size w w' := by
  obtain ⟨b, f, s, k⟩ := r
  clear hlen hT hL hx
  generalize okI c op xs = ok
  by_cases h3 : c = 3
  · subst h3
    cases s with
    | false =>
      rw [show brk ⟨b, f, false, k⟩ ok 3 4 = false by simp [brk]]
      go_enter Tryd.func44, Tryd.ntmps44
      go_wp2
      go_ret
      exact ⟨rfl, two_below _ _⟩
    | true =>
      by_cases hb : b = 1
      · rw [show brk ⟨b, f, true, k⟩ ok 3 4 = true by simp [brk, hb]]
        have hd : (b == 1) = true := by simp [hb]
        clear hb
        go_enter Tryd.func44, Tryd.ntmps44
        go_wp2
        go_ret
        exact ⟨rfl, two_below _ _⟩
      · rw [show brk ⟨b, f, true, k⟩ ok 3 4 = false by simp [brk, hb]]
        have hd : (b == 1) = false := by simp [hb]
        go_enter Tryd.func44, Tryd.ntmps44
        go_wp2
        go_ret
        exact ⟨rfl, two_below _ _⟩
  by_cases h6 : c = 6
  · subst h6
    cases s with
    | false =>
      rw [show brk ⟨b, f, false, k⟩ ok 6 4 = false by simp [brk]]
      go_enter Tryd.func44, Tryd.ntmps44
      go_wp2
      go_ret
      exact ⟨rfl, two_below _ _⟩
    | true =>
      by_cases hb : b = 1
      · rw [show brk ⟨b, f, true, k⟩ ok 6 4 = true by simp [brk, hb]]
        have hd : (b == 1) = true := by simp [hb]
        clear hb
        go_enter Tryd.func44, Tryd.ntmps44
        go_wp2
        go_ret
        exact ⟨rfl, two_below _ _⟩
      · rw [show brk ⟨b, f, true, k⟩ ok 6 4 = false by simp [brk, hb]]
        have hd : (b == 1) = false := by simp [hb]
        go_enter Tryd.func44, Tryd.ntmps44
        go_wp2
        go_ret
        exact ⟨rfl, two_below _ _⟩

  by_cases h5 : c = 5
  · subst h5
    cases s with
    | false =>
      rw [show brk ⟨b, f, false, k⟩ ok 5 4 = false by simp [brk]]
      go_enter Tryd.func44, Tryd.ntmps44
      go_wp2
      go_ret
      exact ⟨rfl, two_below _ _⟩
    | true =>
      by_cases hb : b = 2
      · rw [show brk ⟨b, f, true, k⟩ ok 5 4 = true by simp [brk, hb]]
        have hd : (b == 2) = true := by simp [hb]
        clear hb
        go_enter Tryd.func44, Tryd.ntmps44
        go_wp2
        go_ret
        exact ⟨rfl, two_below _ _⟩
      · rw [show brk ⟨b, f, true, k⟩ ok 5 4 = false by simp [brk, hb]]
        have hd : (b == 2) = false := by simp [hb]
        go_enter Tryd.func44, Tryd.ntmps44
        go_wp2
        go_ret
        exact ⟨rfl, two_below _ _⟩
  rw [show brk ⟨b, f, s, k⟩ ok c 4 = false by simp [brk, h3, h5, h6]]
  go_enter Tryd.func44, Tryd.ntmps44
  go_wp2
  go_ret
  exact ⟨rfl, two_below _ _⟩

set_option maxRecDepth 10000 in
set_option maxHeartbeats 4000000 in
theorem rule5 (r : Rn) (c op : Int) (a : Option Addr) (xs : List Arg) (len cap : Nat) (hlen : len = xs.length) (w : World) (hT : KT w) (hL : LT w) (hx : Sl w a xs) :
    Calls Tryd.prog 45 #[.agg #[.int .i64 r.b, .int .i64 r.f, .bool r.s, .bool r.k], .agg #[.int .i64 c, .int .i64 op, .slice a len cap]] w fun e w' => e = .returned (.bool (brk r (okI c op xs) c 5)) ∧ Below w.heap.size w w' := by
  obtain ⟨b, f, s, k⟩ := r
  clear hlen hT hL hx
  generalize okI c op xs = ok
  by_cases h7 : c = 7
  · subst h7
    by_cases hf : 8 ≤ f
    · rw [show brk ⟨b, f, s, k⟩ ok 7 5 = true by simp [brk, hf]]
      have hd : decide (8 ≤ f) = true := by simp [hf]
      go_enter Tryd.func45, Tryd.ntmps45
      go_wp2
      go_ret
      exact ⟨rfl, two_below _ _⟩
    · rw [show brk ⟨b, f, s, k⟩ ok 7 5 = false by simp [brk, hf] <;> omega]
      have hd : decide (8 ≤ f) = false := by simp [hf] <;> omega
      go_enter Tryd.func45, Tryd.ntmps45
      go_wp2
      go_ret
      exact ⟨rfl, two_below _ _⟩
  by_cases h8 : c = 8
  · subst h8
    by_cases hf : f = 0
    · rw [show brk ⟨b, f, s, k⟩ ok 8 5 = true by simp [brk, hf]]
      have hd : (f == 0) = true := by simp [hf]
      clear hf
      go_enter Tryd.func45, Tryd.ntmps45
      go_wp2
      go_ret
      exact ⟨rfl, two_below _ _⟩
    · rw [show brk ⟨b, f, s, k⟩ ok 8 5 = false by simp [brk, hf]]
      have hd : (f == 0) = false := by simp [hf]
      go_enter Tryd.func45, Tryd.ntmps45
      go_wp2
      go_ret
      exact ⟨rfl, two_below _ _⟩
  by_cases h9 : c = 9
  · subst h9
    by_cases hf : f = 0
    · rw [show brk ⟨b, f, s, k⟩ ok 9 5 = true by simp [brk, hf]]
      have hd : (f == 0) = true := by simp [hf]
      clear hf
      go_enter Tryd.func45, Tryd.ntmps45
      go_wp2
      go_ret
      exact ⟨rfl, two_below _ _⟩
    · rw [show brk ⟨b, f, s, k⟩ ok 9 5 = false by simp [brk, hf]]
      have hd : (f == 0) = false := by simp [hf]
      go_enter Tryd.func45, Tryd.ntmps45
      go_wp2
      go_ret
      exact ⟨rfl, two_below _ _⟩
  by_cases h11 : c = 11
  · subst h11
    by_cases hf : f = 0
    · rw [show brk ⟨b, f, s, k⟩ ok 11 5 = false by simp [brk, hf]]
      have hd : (f == 0) = true := by simp [hf]
      have hd2 : (f != 0) = false := by simp [hf]
      clear hf
      go_enter Tryd.func45, Tryd.ntmps45
      go_wp2
      go_ret
      exact ⟨rfl, two_below _ _⟩
    · rw [show brk ⟨b, f, s, k⟩ ok 11 5 = true by simp [brk, hf]]
      have hd : (f == 0) = false := by simp [hf]
      have hd2 : (f != 0) = true := by simp [hf]
      go_enter Tryd.func45, Tryd.ntmps45
      go_wp2
      go_ret
      exact ⟨rfl, two_below _ _⟩
  rw [show brk ⟨b, f, s, k⟩ ok c 5 = false by simp [brk, h7, h8, h9, h11]]
  go_enter Tryd.func45, Tryd.ntmps45
  go_wp2
  go_ret
  exact ⟨rfl, two_below _ _⟩

set_option maxRecDepth 10000 in
set_option maxHeartbeats 4000000 in
theorem rule6 (r : Rn) (c op : Int) (a : Option Addr) (xs : List Arg) (len cap : Nat) (hlen : len = xs.length) (w : World) (hT : KT w) (hL : LT w) (hx : Sl w a xs) :
    Calls Tryd.prog 46 #[.agg #[.int .i64 r.b, .int .i64 r.f, .bool r.s, .bool r.k], .agg #[.int .i64 c, .int .i64 op, .slice a len cap]] w fun e w' => e = .returned (.bool (brk r (okI c op xs) c 6)) ∧ Below w.heap.size w w' := by
  obtain ⟨b, f, s, k⟩ := r
  clear hlen hT hL hx
  generalize okI c op xs = ok
  by_cases h8 : c = 8
  · subst h8
    cases k with
    | false =>
      rw [show brk ⟨b, f, s, false⟩ ok 8 6 = true by simp [brk]]
      go_enter Tryd.func46, Tryd.ntmps46
      go_wp2
      go_ret
      exact ⟨rfl, two_below _ _⟩
    | true =>
      rw [show brk ⟨b, f, s, true⟩ ok 8 6 = false by simp [brk]]
      go_enter Tryd.func46, Tryd.ntmps46
      go_wp2
      go_ret
      exact ⟨rfl, two_below _ _⟩
  by_cases h9 : c = 9
  · subst h9
    cases k with
    | false =>
      rw [show brk ⟨b, f, s, false⟩ ok 9 6 = true by simp [brk]]
      go_enter Tryd.func46, Tryd.ntmps46
      go_wp2
      go_ret
      exact ⟨rfl, two_below _ _⟩
    | true =>
      rw [show brk ⟨b, f, s, true⟩ ok 9 6 = false by simp [brk]]
      go_enter Tryd.func46, Tryd.ntmps46
      go_wp2
      go_ret
      exact ⟨rfl, two_below _ _⟩
  by_cases h11 : c = 11
  · subst h11
    cases k with
    | false =>
      rw [show brk ⟨b, f, s, false⟩ ok 11 6 = true by simp [brk]]
      go_enter Tryd.func46, Tryd.ntmps46
      go_wp2
      go_ret
      exact ⟨rfl, two_below _ _⟩
    | true =>
      rw [show brk ⟨b, f, s, true⟩ ok 11 6 = false by simp [brk]]
      go_enter Tryd.func46, Tryd.ntmps46
      go_wp2
      go_ret
      exact ⟨rfl, two_below _ _⟩
  rw [show brk ⟨b, f, s, k⟩ ok c 6 = false by simp [brk, h8, h9, h11]]
  go_enter Tryd.func46, Tryd.ntmps46
  go_wp2
  go_ret
  exact ⟨rfl, two_below _ _⟩
end Go.Proofs.YthjbgjfihfkpcaaDoor
/- A run over a list: what is known behind an instruction (onward), the table of rules. -/
namespace Go.Proofs.YthjbgjfihfkpcaaDoor
open Go.RowKit
set_option linter.unusedVariables false

theorem one4 (b f : Int) (s k : Bool) : ∀ d ∈ ([.int .i64 b, .int .i64 f, .bool s, .bool k] : List Value), d.oneCell' = true := by
  intro d hd
  simp at hd
  rcases hd with rfl | rfl | rfl | rfl <;> rfl
set_option maxRecDepth 10000 in
set_option maxHeartbeats 4000000 in
theorem onward_i (b f : Int) (s k : Bool) (c : Int) (w : World) (hb0 : -2000 ≤ b) (hb1 : b ≤ 2000) (hf0 : -2000 ≤ f) (hf1 : f ≤ 2000) :
    Calls Tryd.prog 28 #[.agg #[.int .i64 b, .int .i64 f, .bool s, .bool k], .int .i64 c] w fun e w' => e = .returned (.agg #[.int .i64 (bhB b c), .int .i64 (bhF f c), .bool (!decide (c = 11) && (s || decide (c = 10) || decide (c = 7))), .bool (!decide (c = 11) && decide (c = 10))]) ∧ Below w.heap.size w w' := by
  have HBh : Hid (∀ W, Calls Tryd.prog 47 #[.agg #[.int .i64 b, .int .i64 f], .int .i64 c] W fun e w' => e = .returned (.agg #[.int .i64 (bhB b c), .int .i64 (bhF f c)]) ∧ Below W.heap.size W w') := fun W => behind_i b f c W hb0 hb1 hf0 hf1
  generalize bhB b c = nb at HBh ⊢
  generalize bhF f c = nf at HBh ⊢
  have HR := rows2 w (.cells #[.int .i64 b, .int .i64 f, .bool s, .bool k] 59) (.cells #[.int .i64 0, .int .i64 0, .bool false, .bool false] 59)
  have HRr : Hid (((w.alloc (.cells #[.int .i64 b, .int .i64 f, .bool s, .bool k] 59)).alloc (.cells #[.int .i64 0, .int .i64 0, .bool false, .bool false] 59)).heap[w.heap.size]? = some (.cells #[.int .i64 b, .int .i64 f, .bool s, .bool k] 59 (0, 0)) ∧ ((w.alloc (.cells #[.int .i64 b, .int .i64 f, .bool s, .bool k] 59)).alloc (.cells #[.int .i64 0, .int .i64 0, .bool false, .bool false] 59)).heap[w.heap.size + 1]? = some (.cells #[.int .i64 0, .int .i64 0, .bool false, .bool false] 59 (0, 0))) := HR
  have hz : ((w.alloc (.cells #[.int .i64 b, .int .i64 f, .bool s, .bool k] 59)).alloc (.cells #[.int .i64 0, .int .i64 0, .bool false, .bool false] 59)).heap.size = w.heap.size + 1 + 1 := by simp
  have HB : Hid (Below w.heap.size w ((w.alloc (.cells #[.int .i64 b, .int .i64 f, .bool s, .bool k] 59)).alloc (.cells #[.int .i64 0, .int .i64 0, .bool false, .bool false] 59))) := two_below _ _
  clear HR
  go_enter Tryd.func28, Tryd.ntmps28
  go_wp2_with fail
  refine (HBh.out _).mono ?_
  rintro e w1 ⟨rfl, g1⟩
  have h1 : w1.heap[w.heap.size]? = some (.cells #[.int .i64 b, .int .i64 f, .bool s, .bool k] 59 (0, 0)) := (g1.block _ (by omega)).trans HRr.out.1
  have h2 : w1.heap[w.heap.size + 1]? = some (.cells #[.int .i64 0, .int .i64 0, .bool false, .bool false] 59 (0, 0)) := (g1.block _ (by omega)).trans HRr.out.2
  have b1 : Below w.heap.size w w1 := HB.out.trans (g1.mono (by omega))
  have cs : w1.cell? ⟨w.heap.size, 2, none⟩ = some (.bool s) := (cell_of_row _ _ _ _ _ _ h1).trans rfl
  have l2 : w.heap.size + 1 < w1.heap.size := (Array.getElem?_eq_some_iff.1 h2).1
  have l1 : w.heap.size < w1.heap.size := by omega
  have HK : Hid (w1.heap[w.heap.size + 1]? = some (.cells #[.int .i64 0, .int .i64 0, .bool false, .bool false] 59 (0, 0)) ∧ Below w.heap.size w w1) := ⟨h2, b1⟩
  clear h1 h2 b1 g1 HRr HB HBh hz
  by_cases h11 : c = 11
  · subst h11
    have k2 : (w1.alloc (.cells #[.int .i64 nb, .int .i64 nf, .bool false, .bool false] 59)).heap[w.heap.size + 1]? = some (.cells #[.int .i64 0, .int .i64 0, .bool false, .bool false] 59 (0, 0)) := (heap_alloc_old _ _ (h := l2)).trans HK.out.1
    have HLD : Hid ((loadVar 59 ⟨w1.heap.size, 0, none⟩).run Tryd.prog (w1.alloc (.cells #[.int .i64 nb, .int .i64 nf, .bool false, .bool false] 59)) = .ok (.agg #[.int .i64 nb, .int .i64 nf, .bool false, .bool false]) (w1.alloc (.cells #[.int .i64 nb, .int .i64 nf, .bool false, .bool false] 59))) := load_all (heap_alloc_last w1 _) _ _ Tryd.underlying59 rfl (by kernel_rfl)
    have HST : Hid ((storeVar 59 ⟨w.heap.size + 1, 0, none⟩ (.agg #[.int .i64 nb, .int .i64 nf, .bool false, .bool false])).run Tryd.prog (w1.alloc (.cells #[.int .i64 nb, .int .i64 nf, .bool false, .bool false] 59)) = .ok () ((w1.alloc (.cells #[.int .i64 nb, .int .i64 nf, .bool false, .bool false] 59)).setRow (w.heap.size + 1) #[.int .i64 nb, .int .i64 nf, .bool false, .bool false])) := store_all k2 59 _ rfl (by kernel_rfl) (all_one [.int .i64 nb, .int .i64 nf, .bool false, .bool false] (one4 nb nf false false))
    have HRt : Hid (((w1.alloc (.cells #[.int .i64 nb, .int .i64 nf, .bool false, .bool false] 59)).setRow (w.heap.size + 1) #[.int .i64 nb, .int .i64 nf, .bool false, .bool false]).heap[w.heap.size + 1]? = some (.cells #[.int .i64 nb, .int .i64 nf, .bool false, .bool false] 59 (0, 0))) := row_set k2 _
    have HBf : Hid (Below w.heap.size w ((w1.alloc (.cells #[.int .i64 nb, .int .i64 nf, .bool false, .bool false] 59)).setRow (w.heap.size + 1) #[.int .i64 nb, .int .i64 nf, .bool false, .bool false])) := below_setRow (HK.out.2.alloc (by omega) _) (by omega) _
    clear k2 HK
    go_wp2_with (first | (refine wpL_load rfl 59 _ rfl _ _ rfl _ HLD.out ?_) | (refine wpL_store rfl 59 _ _ rfl _ _ rfl _ rfl _ HST.out ?_) | (refine ret_row rfl rfl HRt.out Tryd.underlying59 rfl (by kernel_rfl) rfl ?_) | fail)
    first | exact HBf.out | exact ⟨by simp, HBf.out⟩
  cases s with
  | true =>
    by_cases h10 : c = 10
    · subst h10
      have k2 : (w1.alloc (.cells #[.int .i64 nb, .int .i64 nf, .bool true, .bool true] 59)).heap[w.heap.size + 1]? = some (.cells #[.int .i64 0, .int .i64 0, .bool false, .bool false] 59 (0, 0)) := (heap_alloc_old _ _ (h := l2)).trans HK.out.1
      have HLD : Hid ((loadVar 59 ⟨w1.heap.size, 0, none⟩).run Tryd.prog (w1.alloc (.cells #[.int .i64 nb, .int .i64 nf, .bool true, .bool true] 59)) = .ok (.agg #[.int .i64 nb, .int .i64 nf, .bool true, .bool true]) (w1.alloc (.cells #[.int .i64 nb, .int .i64 nf, .bool true, .bool true] 59))) := load_all (heap_alloc_last w1 _) _ _ Tryd.underlying59 rfl (by kernel_rfl)
      have HST : Hid ((storeVar 59 ⟨w.heap.size + 1, 0, none⟩ (.agg #[.int .i64 nb, .int .i64 nf, .bool true, .bool true])).run Tryd.prog (w1.alloc (.cells #[.int .i64 nb, .int .i64 nf, .bool true, .bool true] 59)) = .ok () ((w1.alloc (.cells #[.int .i64 nb, .int .i64 nf, .bool true, .bool true] 59)).setRow (w.heap.size + 1) #[.int .i64 nb, .int .i64 nf, .bool true, .bool true])) := store_all k2 59 _ rfl (by kernel_rfl) (all_one [.int .i64 nb, .int .i64 nf, .bool true, .bool true] (one4 nb nf true true))
      have HRt : Hid (((w1.alloc (.cells #[.int .i64 nb, .int .i64 nf, .bool true, .bool true] 59)).setRow (w.heap.size + 1) #[.int .i64 nb, .int .i64 nf, .bool true, .bool true]).heap[w.heap.size + 1]? = some (.cells #[.int .i64 nb, .int .i64 nf, .bool true, .bool true] 59 (0, 0))) := row_set k2 _
      have HBf : Hid (Below w.heap.size w ((w1.alloc (.cells #[.int .i64 nb, .int .i64 nf, .bool true, .bool true] 59)).setRow (w.heap.size + 1) #[.int .i64 nb, .int .i64 nf, .bool true, .bool true])) := below_setRow (HK.out.2.alloc (by omega) _) (by omega) _
      clear k2 HK
      go_wp2_with (first | (refine wpL_load rfl 59 _ rfl _ _ rfl _ HLD.out ?_) | (refine wpL_store rfl 59 _ _ rfl _ _ rfl _ rfl _ HST.out ?_) | (refine ret_row rfl rfl HRt.out Tryd.underlying59 rfl (by kernel_rfl) rfl ?_) | fail)
      first | exact HBf.out | exact ⟨by simp, HBf.out⟩
    · have n10 : (c == 10) = false := by simp [h10]
      have n11 : (c != 11) = true := by simp [h11]
      have k2 : (w1.alloc (.cells #[.int .i64 nb, .int .i64 nf, .bool true, .bool false] 59)).heap[w.heap.size + 1]? = some (.cells #[.int .i64 0, .int .i64 0, .bool false, .bool false] 59 (0, 0)) := (heap_alloc_old _ _ (h := l2)).trans HK.out.1
      have HLD : Hid ((loadVar 59 ⟨w1.heap.size, 0, none⟩).run Tryd.prog (w1.alloc (.cells #[.int .i64 nb, .int .i64 nf, .bool true, .bool false] 59)) = .ok (.agg #[.int .i64 nb, .int .i64 nf, .bool true, .bool false]) (w1.alloc (.cells #[.int .i64 nb, .int .i64 nf, .bool true, .bool false] 59))) := load_all (heap_alloc_last w1 _) _ _ Tryd.underlying59 rfl (by kernel_rfl)
      have HST : Hid ((storeVar 59 ⟨w.heap.size + 1, 0, none⟩ (.agg #[.int .i64 nb, .int .i64 nf, .bool true, .bool false])).run Tryd.prog (w1.alloc (.cells #[.int .i64 nb, .int .i64 nf, .bool true, .bool false] 59)) = .ok () ((w1.alloc (.cells #[.int .i64 nb, .int .i64 nf, .bool true, .bool false] 59)).setRow (w.heap.size + 1) #[.int .i64 nb, .int .i64 nf, .bool true, .bool false])) := store_all k2 59 _ rfl (by kernel_rfl) (all_one [.int .i64 nb, .int .i64 nf, .bool true, .bool false] (one4 nb nf true false))
      have HRt : Hid (((w1.alloc (.cells #[.int .i64 nb, .int .i64 nf, .bool true, .bool false] 59)).setRow (w.heap.size + 1) #[.int .i64 nb, .int .i64 nf, .bool true, .bool false]).heap[w.heap.size + 1]? = some (.cells #[.int .i64 nb, .int .i64 nf, .bool true, .bool false] 59 (0, 0))) := row_set k2 _
      have HBf : Hid (Below w.heap.size w ((w1.alloc (.cells #[.int .i64 nb, .int .i64 nf, .bool true, .bool false] 59)).setRow (w.heap.size + 1) #[.int .i64 nb, .int .i64 nf, .bool true, .bool false])) := below_setRow (HK.out.2.alloc (by omega) _) (by omega) _
      clear k2 HK
      go_wp2_with (first | (refine wpL_load rfl 59 _ rfl _ _ rfl _ HLD.out ?_) | (refine wpL_store rfl 59 _ _ rfl _ _ rfl _ rfl _ HST.out ?_) | (refine ret_row rfl rfl HRt.out Tryd.underlying59 rfl (by kernel_rfl) rfl ?_) | fail)
      first | exact HBf.out | exact ⟨by simp [h10, h11], HBf.out⟩
  | false =>
    by_cases h10 : c = 10
    · subst h10
      have k2 : (w1.alloc (.cells #[.int .i64 nb, .int .i64 nf, .bool true, .bool true] 59)).heap[w.heap.size + 1]? = some (.cells #[.int .i64 0, .int .i64 0, .bool false, .bool false] 59 (0, 0)) := (heap_alloc_old _ _ (h := l2)).trans HK.out.1
      have HLD : Hid ((loadVar 59 ⟨w1.heap.size, 0, none⟩).run Tryd.prog (w1.alloc (.cells #[.int .i64 nb, .int .i64 nf, .bool true, .bool true] 59)) = .ok (.agg #[.int .i64 nb, .int .i64 nf, .bool true, .bool true]) (w1.alloc (.cells #[.int .i64 nb, .int .i64 nf, .bool true, .bool true] 59))) := load_all (heap_alloc_last w1 _) _ _ Tryd.underlying59 rfl (by kernel_rfl)
      have HST : Hid ((storeVar 59 ⟨w.heap.size + 1, 0, none⟩ (.agg #[.int .i64 nb, .int .i64 nf, .bool true, .bool true])).run Tryd.prog (w1.alloc (.cells #[.int .i64 nb, .int .i64 nf, .bool true, .bool true] 59)) = .ok () ((w1.alloc (.cells #[.int .i64 nb, .int .i64 nf, .bool true, .bool true] 59)).setRow (w.heap.size + 1) #[.int .i64 nb, .int .i64 nf, .bool true, .bool true])) := store_all k2 59 _ rfl (by kernel_rfl) (all_one [.int .i64 nb, .int .i64 nf, .bool true, .bool true] (one4 nb nf true true))
      have HRt : Hid (((w1.alloc (.cells #[.int .i64 nb, .int .i64 nf, .bool true, .bool true] 59)).setRow (w.heap.size + 1) #[.int .i64 nb, .int .i64 nf, .bool true, .bool true]).heap[w.heap.size + 1]? = some (.cells #[.int .i64 nb, .int .i64 nf, .bool true, .bool true] 59 (0, 0))) := row_set k2 _
      have HBf : Hid (Below w.heap.size w ((w1.alloc (.cells #[.int .i64 nb, .int .i64 nf, .bool true, .bool true] 59)).setRow (w.heap.size + 1) #[.int .i64 nb, .int .i64 nf, .bool true, .bool true])) := below_setRow (HK.out.2.alloc (by omega) _) (by omega) _
      clear k2 HK
      go_wp2_with (first | (refine wpL_load rfl 59 _ rfl _ _ rfl _ HLD.out ?_) | (refine wpL_store rfl 59 _ _ rfl _ _ rfl _ rfl _ HST.out ?_) | (refine ret_row rfl rfl HRt.out Tryd.underlying59 rfl (by kernel_rfl) rfl ?_) | fail)
      first | exact HBf.out | exact ⟨by simp, HBf.out⟩
    · have n10 : (c == 10) = false := by simp [h10]
      have n11 : (c != 11) = true := by simp [h11]
      by_cases h7 : c = 7
      · subst h7
        have k2 : (w1.alloc (.cells #[.int .i64 nb, .int .i64 nf, .bool true, .bool false] 59)).heap[w.heap.size + 1]? = some (.cells #[.int .i64 0, .int .i64 0, .bool false, .bool false] 59 (0, 0)) := (heap_alloc_old _ _ (h := l2)).trans HK.out.1
        have HLD : Hid ((loadVar 59 ⟨w1.heap.size, 0, none⟩).run Tryd.prog (w1.alloc (.cells #[.int .i64 nb, .int .i64 nf, .bool true, .bool false] 59)) = .ok (.agg #[.int .i64 nb, .int .i64 nf, .bool true, .bool false]) (w1.alloc (.cells #[.int .i64 nb, .int .i64 nf, .bool true, .bool false] 59))) := load_all (heap_alloc_last w1 _) _ _ Tryd.underlying59 rfl (by kernel_rfl)
        have HST : Hid ((storeVar 59 ⟨w.heap.size + 1, 0, none⟩ (.agg #[.int .i64 nb, .int .i64 nf, .bool true, .bool false])).run Tryd.prog (w1.alloc (.cells #[.int .i64 nb, .int .i64 nf, .bool true, .bool false] 59)) = .ok () ((w1.alloc (.cells #[.int .i64 nb, .int .i64 nf, .bool true, .bool false] 59)).setRow (w.heap.size + 1) #[.int .i64 nb, .int .i64 nf, .bool true, .bool false])) := store_all k2 59 _ rfl (by kernel_rfl) (all_one [.int .i64 nb, .int .i64 nf, .bool true, .bool false] (one4 nb nf true false))
        have HRt : Hid (((w1.alloc (.cells #[.int .i64 nb, .int .i64 nf, .bool true, .bool false] 59)).setRow (w.heap.size + 1) #[.int .i64 nb, .int .i64 nf, .bool true, .bool false]).heap[w.heap.size + 1]? = some (.cells #[.int .i64 nb, .int .i64 nf, .bool true, .bool false] 59 (0, 0))) := row_set k2 _
        have HBf : Hid (Below w.heap.size w ((w1.alloc (.cells #[.int .i64 nb, .int .i64 nf, .bool true, .bool false] 59)).setRow (w.heap.size + 1) #[.int .i64 nb, .int .i64 nf, .bool true, .bool false])) := below_setRow (HK.out.2.alloc (by omega) _) (by omega) _
        clear k2 HK
        go_wp2_with (first | (refine wpL_load rfl 59 _ rfl _ _ rfl _ HLD.out ?_) | (refine wpL_store rfl 59 _ _ rfl _ _ rfl _ rfl _ HST.out ?_) | (refine ret_row rfl rfl HRt.out Tryd.underlying59 rfl (by kernel_rfl) rfl ?_) | fail)
        first | exact HBf.out | exact ⟨by simp, HBf.out⟩
      · have n7 : (c == 7) = false := by simp [h7]
        have k2 : (w1.alloc (.cells #[.int .i64 nb, .int .i64 nf, .bool false, .bool false] 59)).heap[w.heap.size + 1]? = some (.cells #[.int .i64 0, .int .i64 0, .bool false, .bool false] 59 (0, 0)) := (heap_alloc_old _ _ (h := l2)).trans HK.out.1
        have HLD : Hid ((loadVar 59 ⟨w1.heap.size, 0, none⟩).run Tryd.prog (w1.alloc (.cells #[.int .i64 nb, .int .i64 nf, .bool false, .bool false] 59)) = .ok (.agg #[.int .i64 nb, .int .i64 nf, .bool false, .bool false]) (w1.alloc (.cells #[.int .i64 nb, .int .i64 nf, .bool false, .bool false] 59))) := load_all (heap_alloc_last w1 _) _ _ Tryd.underlying59 rfl (by kernel_rfl)
        have HST : Hid ((storeVar 59 ⟨w.heap.size + 1, 0, none⟩ (.agg #[.int .i64 nb, .int .i64 nf, .bool false, .bool false])).run Tryd.prog (w1.alloc (.cells #[.int .i64 nb, .int .i64 nf, .bool false, .bool false] 59)) = .ok () ((w1.alloc (.cells #[.int .i64 nb, .int .i64 nf, .bool false, .bool false] 59)).setRow (w.heap.size + 1) #[.int .i64 nb, .int .i64 nf, .bool false, .bool false])) := store_all k2 59 _ rfl (by kernel_rfl) (all_one [.int .i64 nb, .int .i64 nf, .bool false, .bool false] (one4 nb nf false false))
        have HRt : Hid (((w1.alloc (.cells #[.int .i64 nb, .int .i64 nf, .bool false, .bool false] 59)).setRow (w.heap.size + 1) #[.int .i64 nb, .int .i64 nf, .bool false, .bool false]).heap[w.heap.size + 1]? = some (.cells #[.int .i64 nb, .int .i64 nf, .bool false, .bool false] 59 (0, 0))) := row_set k2 _
        have HBf : Hid (Below w.heap.size w ((w1.alloc (.cells #[.int .i64 nb, .int .i64 nf, .bool false, .bool false] 59)).setRow (w.heap.size + 1) #[.int .i64 nb, .int .i64 nf, .bool false, .bool false])) := below_setRow (HK.out.2.alloc (by omega) _) (by omega) _
        clear k2 HK
        go_wp2_with (first | (refine wpL_load rfl 59 _ rfl _ _ rfl _ HLD.out ?_) | (refine wpL_store rfl 59 _ _ rfl _ _ rfl _ rfl _ HST.out ?_) | (refine ret_row rfl rfl HRt.out Tryd.underlying59 rfl (by kernel_rfl) rfl ?_) | fail)
        first | exact HBf.out | exact ⟨by simp [h7, h10], HBf.out⟩

/-- The cells of the table of rules. -/
def rulesV : Array Value := #[.int .i64 2, .func (.func 40) #[] #[], .int .i64 3, .func (.func 41) #[] #[], .int .i64 4, .func (.func 42) #[] #[], .int .i64 5, .func (.func 43) #[] #[], .int .i64 6, .func (.func 44) #[] #[], .int .i64 7, .func (.func 45) #[] #[], .int .i64 8, .func (.func 46) #[] #[]]
set_option maxHeartbeats 2000000 in
theorem rules_i (w : World) : Calls Tryd.prog 27 #[] w fun e w' => e = .returned (.slice (some ⟨w.heap.size, 0, none⟩) 7 7) ∧ w' = w.alloc (.cells rulesV 64) := by
  go_enter Tryd.func27, Tryd.ntmps27
  go_wp2
  go_ret
  exact ⟨rfl, rfl⟩
end Go.Proofs.YthjbgjfihfkpcaaDoor
