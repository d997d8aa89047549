/- SureCheck as mathematics. -/
import Derived.Test.YtlgacbjopobeoaaDoorZo
import Derived.Test.YtlgacbjopobeoaaDoorZaM
namespace Go.Proofs.YtlgacbjopobeoaaDoor
open Go.RowKit
set_option linter.unusedVariables false

def okT' (i : InstT) : Bool := okI i.code i.one.op i.one.args
def needs (c : Int) : Int := if c = 1 then 0 else if c = 4 ∨ c = 5 then 2 else 1
/-- What is known ahead of an instruction. -/
structure Rn where
  b : Int
  f : Int
  s : Bool
  k : Bool
/-- The rules, in their order. -/
def brk (r : Rn) (ok : Bool) (c : Int) : Nat → Bool
  | 0 => !ok
  | 1 => decide (r.b < needs c)
  | 2 => decide (c = 1) && decide (16 ≤ r.b)
  | 3 => decide (c = 7 ∨ c = 8 ∨ c = 9 ∨ c = 10 ∨ c = 11) && decide (1 < r.b)
  | 4 => r.s && ((decide (c = 3 ∨ c = 6) && decide (r.b = 1)) || (decide (c = 5) && decide (r.b = 2)))
  | 5 => (decide (c = 7) && decide (8 ≤ r.f)) || (decide (c = 8 ∨ c = 9) && decide (r.f = 0)) || (decide (c = 11) && !decide (r.f = 0))
  | _ => decide (c = 8 ∨ c = 9 ∨ c = 11) && !r.k
def wrongC (r : Rn) (ok : Bool) (c : Int) : Int :=
  if brk r ok c 0 then 2 else if brk r ok c 1 then 3 else if brk r ok c 2 then 4 else if brk r ok c 3 then 5 else if brk r ok c 4 then 6 else if brk r ok c 5 then 7 else if brk r ok c 6 then 8 else 0
theorem wrong_at {r : Rn} {ok : Bool} {c : Int} {j : Nat} (hj : j < 7) (h : ∀ i, i < j → brk r ok c i = false) (hb : brk r ok c j = true) : wrongC r ok c = (j : Int) + 2 := by
  unfold wrongC
  match j with
  | 0 => rw [if_pos hb]; rfl
  | 1 => rw [h 0 (by omega), if_neg (by simp), if_pos hb]; rfl
  | 2 => rw [h 0 (by omega), h 1 (by omega), if_neg (by simp), if_neg (by simp), if_pos hb]; rfl
  | 3 => rw [h 0 (by omega), h 1 (by omega), h 2 (by omega), if_neg (by simp), if_neg (by simp), if_neg (by simp), if_pos hb]; rfl
  | 4 => rw [h 0 (by omega), h 1 (by omega), h 2 (by omega), h 3 (by omega), if_neg (by simp), if_neg (by simp), if_neg (by simp), if_neg (by simp), if_pos hb]; rfl
  | 5 => rw [h 0 (by omega), h 1 (by omega), h 2 (by omega), h 3 (by omega), h 4 (by omega), if_neg (by simp), if_neg (by simp), if_neg (by simp), if_neg (by simp), if_neg (by simp), if_pos hb]; rfl
  | 6 => rw [h 0 (by omega), h 1 (by omega), h 2 (by omega), h 3 (by omega), h 4 (by omega), h 5 (by omega), if_neg (by simp), if_neg (by simp), if_neg (by simp), if_neg (by simp), if_neg (by simp), if_neg (by simp), if_pos hb]; rfl
theorem wrong_none {r : Rn} {ok : Bool} {c : Int} (h : ∀ i, i < 7 → brk r ok c i = false) : wrongC r ok c = 0 := by
  unfold wrongC
  rw [h 0 (by omega), h 1 (by omega), h 2 (by omega), h 3 (by omega), h 4 (by omega), h 5 (by omega), h 6 (by omega)]
  simp
theorem wrong_zero {r : Rn} {ok : Bool} {c : Int} (h : wrongC r ok c = 0) : ∀ i, i < 7 → brk r ok c i = false := by
  unfold wrongC at h
  have e0 : brk r ok c 0 = false := by
    cases hq : brk r ok c 0 with
    | false => rfl
    | true => rw [hq, if_pos rfl] at h; omega
  rw [e0, if_neg (by simp)] at h
  have e1 : brk r ok c 1 = false := by
    cases hq : brk r ok c 1 with
    | false => rfl
    | true => rw [hq, if_pos rfl] at h; omega
  rw [e1, if_neg (by simp)] at h
  have e2 : brk r ok c 2 = false := by
    cases hq : brk r ok c 2 with
    | false => rfl
    | true => rw [hq, if_pos rfl] at h; omega
  rw [e2, if_neg (by simp)] at h
  have e3 : brk r ok c 3 = false := by
    cases hq : brk r ok c 3 with
    | false => rfl
    | true => rw [hq, if_pos rfl] at h; omega
  rw [e3, if_neg (by simp)] at h
  have e4 : brk r ok c 4 = false := by
    cases hq : brk r ok c 4 with
    | false => rfl
    | true => rw [hq, if_pos rfl] at h; omega
  rw [e4, if_neg (by simp)] at h
  have e5 : brk r ok c 5 = false := by
    cases hq : brk r ok c 5 with
    | false => rfl
    | true => rw [hq, if_pos rfl] at h; omega
  rw [e5, if_neg (by simp)] at h
  have e6 : brk r ok c 6 = false := by
    cases hq : brk r ok c 6 with
    | false => rfl
    | true => rw [hq, if_pos rfl] at h; omega
  rw [e6, if_neg (by simp)] at h
  intro i hi
  match i, hi with
  | 0, _ => exact e0
  | 1, _ => exact e1
  | 2, _ => exact e2
  | 3, _ => exact e3
  | 4, _ => exact e4
  | 5, _ => exact e5
  | 6, _ => exact e6
theorem wrong_in (r : Rn) (ok : Bool) (c : Int) : 0 ≤ wrongC r ok c ∧ wrongC r ok c ≤ 8 := by
  unfold wrongC
  repeat' split
  all_goals omega
/-- What is known behind it. -/
def nx (r : Rn) (c : Int) : Rn := if c = 11 then ⟨0, 0, false, false⟩ else ⟨bhB r.b c, bhF r.f c, r.s || decide (c = 10) || decide (c = 7), decide (c = 10)⟩
structure RnOk (r : Rn) : Prop where
  b0 : 0 ≤ r.b
  b1 : r.b ≤ 16
  f0 : 0 ≤ r.f
  f1 : r.f ≤ 8
  z : r.b = 0 → r.f = 0 ∧ r.s = false ∧ r.k = false
theorem okI_code {c op : Int} {xs : List Arg} (h : okI c op xs = true) : 1 ≤ c ∧ c ≤ 11 := by
  unfold okI at h
  split at h
  · cases h
  · omega
theorem rn_zero : RnOk ⟨0, 0, false, false⟩ := ⟨by simp, by simp, by simp, by simp, fun _ => ⟨rfl, rfl, rfl⟩⟩
theorem rn_next {r : Rn} {ok : Bool} {c : Int} (h : RnOk r) (hc : ok = true → 1 ≤ c ∧ c ≤ 11) (hw : wrongC r ok c = 0) : RnOk (nx r c) := by
  have hz := wrong_zero hw
  have z0 := hz 0 (by omega)
  have z1 := hz 1 (by omega)
  have z2 := hz 2 (by omega)
  have z3 := hz 3 (by omega)
  have z5 := hz 5 (by omega)
  simp only [brk, Bool.not_eq_false'] at z0
  have hcc := hc z0
  obtain ⟨h1, h2, h3, h4, h5⟩ := h
  simp only [brk, decide_eq_false_iff_not] at z1
  unfold needs at z1
  simp only [brk, Bool.and_eq_false_iff, decide_eq_false_iff_not] at z2
  simp only [brk, Bool.and_eq_false_iff, decide_eq_false_iff_not] at z3
  simp only [brk, Bool.or_eq_false_iff, Bool.and_eq_false_iff, decide_eq_false_iff_not, Bool.not_eq_false', decide_eq_true_iff] at z5
  unfold nx
  split
  · exact rn_zero
  · next hne =>
    by_cases c1 : c = 1
    · subst c1
      refine ⟨?_, ?_, ?_, ?_, ?_⟩ <;> simp [bhB, bhF] at * <;> omega
    · by_cases c4 : c = 4 ∨ c = 5
      · rw [if_neg c1, if_pos c4] at z1
        have e1 : bhB r.b c = r.b - 1 := by unfold bhB; rw [if_neg c1, if_pos (by omega)]
        have e2 : bhF r.f c = r.f := by unfold bhF; rw [if_neg (by omega), if_neg (by omega)]
        refine ⟨?_, ?_, ?_, ?_, ?_⟩
        · show 0 ≤ bhB r.b c; omega
        · show bhB r.b c ≤ 16; omega
        · show 0 ≤ bhF r.f c; omega
        · show bhF r.f c ≤ 8; omega
        · intro hb; have : bhB r.b c = 0 := hb; omega
      · rw [if_neg c1, if_neg c4] at z1
        have e1 : bhB r.b c = r.b := by unfold bhB; rw [if_neg c1, if_neg (by omega)]
        have e2 : 0 ≤ bhF r.f c ∧ bhF r.f c ≤ 8 := by
          unfold bhF
          split
          · omega
          · split <;> omega
        refine ⟨?_, ?_, ?_, ?_, ?_⟩
        · show 0 ≤ bhB r.b c; omega
        · show bhB r.b c ≤ 16; omega
        · exact e2.1
        · exact e2.2
        · intro hb; have : bhB r.b c = 0 := hb; omega
/-- Behind an instruction that is right, the program's way. -/
theorem nx_i {r : Rn} {ok : Bool} {c : Int} (h : RnOk r) (hw : wrongC r ok c = 0) : (nx r c).b = bhB r.b c ∧ (nx r c).f = bhF r.f c ∧ (nx r c).s = (!decide (c = 11) && (r.s || decide (c = 10) || decide (c = 7))) ∧ (nx r c).k = (!decide (c = 11) && decide (c = 10)) := by
  by_cases e : c = 11
  · subst e
    have hz := wrong_zero hw
    have z1 := hz 1 (by omega)
    have z3 := hz 3 (by omega)
    have z5 := hz 5 (by omega)
    simp [brk, needs] at z1 z3 z5
    have hb : r.b = 1 := by omega
    unfold nx
    simp [bhB, bhF, hb, z5]
  · unfold nx
    rw [if_neg e]
    simp [e]
/-- The specification's order. -/
def wrongS (r : Rn) (ok : Bool) (c : Int) : Int :=
  if ok = false then 2 else if r.b < needs c then 3 else if c = 1 ∧ r.b = 16 then 4 else if 7 ≤ c ∧ 1 < r.b then 5
  else if r.s = true ∧ r.b = (if c = 5 then 2 else 1) ∧ (c = 3 ∨ c = 6 ∨ c = 5) then 6 else if c = 7 ∧ r.f = 8 then 7 else if (c = 8 ∨ c = 9) ∧ r.f = 0 then 7 else if c = 11 ∧ 0 < r.f then 7
  else if (c = 8 ∨ c = 9 ∨ c = 11) ∧ r.k = false then 8 else 0
theorem wrong_same {r : Rn} {ok : Bool} {c : Int} (h : RnOk r) (hc : ok = true → 1 ≤ c ∧ c ≤ 11) : wrongS r ok c = wrongC r ok c := by
  obtain ⟨h1, h2, h3, h4, h5⟩ := h
  cases ok with
  | false => simp [wrongS, wrongC, brk]
  | true =>
    have hcc := hc rfl
    obtain ⟨b, f, s, k⟩ := r
    simp only at h1 h2 h3 h4 h5
    unfold wrongS wrongC
    simp only [brk, needs]
    have e1 : (f = 8) = (8 ≤ f) := by apply propext; omega
    have e2 : (0 < f) = ¬ (f = 0) := by apply propext; omega
    have e3 : (b = 16) = (16 ≤ b) := by apply propext; omega
    obtain rfl | rfl | rfl | rfl | rfl | rfl | rfl | rfl | rfl | rfl | rfl : c = 1 ∨ c = 2 ∨ c = 3 ∨ c = 4 ∨ c = 5 ∨ c = 6 ∨ c = 7 ∨ c = 8 ∨ c = 9 ∨ c = 10 ∨ c = 11 := by omega
    all_goals (simp [e1, e2, e3])
/-- What is wrong with what is left of a list. -/
def chk : List InstT → Nat → Rn → Int × Int
  | [], n, r => if r.b = 0 then (0, 0) else (9, n)
  | i :: is, n, r => if wrongC r (okT' i) i.code = 0 then chk is (n + 1) (nx r i.code) else (wrongC r (okT' i) i.code, n)
def checkT (xs : List InstT) : Int × Int := if 1000 < xs.length then (1, 0) else chk xs 0 ⟨0, 0, false, false⟩
theorem chk_go {xs : List InstT} {n : Nat} {x : InstT} {r : Rn} (h : xs[n]? = some x) (hw : wrongC r (okT' x) x.code = 0) : chk (xs.drop n) n r = chk (xs.drop (n + 1)) (n + 1) (nx r x.code) := by
  obtain ⟨hn, rfl⟩ := List.getElem?_eq_some_iff.1 h
  rw [List.drop_eq_getElem_cons hn, chk, if_pos hw]
theorem chk_bad {xs : List InstT} {n : Nat} {x : InstT} {r : Rn} (h : xs[n]? = some x) (hw : wrongC r (okT' x) x.code ≠ 0) : chk (xs.drop n) n r = (wrongC r (okT' x) x.code, (n : Int)) := by
  obtain ⟨hn, rfl⟩ := List.getElem?_eq_some_iff.1 h
  rw [List.drop_eq_getElem_cons hn, chk, if_neg hw]
theorem chk_end {xs : List InstT} {n : Nat} {r : Rn} (h : xs.length ≤ n) : chk (xs.drop n) n r = if r.b = 0 then (0, 0) else (9, (n : Int)) := by
  rw [List.drop_eq_nil_of_le h, chk]
end Go.Proofs.YtlgacbjopobeoaaDoor
