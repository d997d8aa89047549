/- Lists that are verified, one behind the other; a list cut at its rungs: mathematics. -/
import Derived.Test.YthjbgjfihfkpcaaDoorYp
import Derived.Test.YthjbgjfihfkpcaaDoorCfM
namespace Go.Proofs.YthjbgjfihfkpcaaDoor
open Go.RowKit
set_option linter.unusedVariables false

/-- A run over a list without a fault. -/
def run : List InstT → Rn → Option Rn
  | [], r => some r
  | x :: xs, r => if wrongC r (okT' x) x.code = 0 then run xs (nx r x.code) else none
theorem run_app (xs ys : List InstT) : ∀ r, run (xs ++ ys) r = (run xs r).bind (run ys) := by
  induction xs with
  | nil => intro r; rfl
  | cons x xs ih =>
    intro r
    rw [List.cons_append, run, run]
    split
    · exact ih _
    · rfl
theorem chk_run (xs : List InstT) : ∀ (n : Nat) (r : Rn), (chk xs n r).1 = 0 ↔ ∃ r', run xs r = some r' ∧ r'.b = 0 := by
  induction xs with
  | nil =>
    intro n r
    rw [chk, run]
    constructor
    · intro h
      refine ⟨r, rfl, ?_⟩
      split at h
      · assumption
      · simp at h
    · rintro ⟨r', e, hb⟩
      cases e
      rw [if_pos hb]
  | cons x xs ih =>
    intro n r
    rw [chk, run]
    split
    · exact ih _ _
    · next hw =>
      constructor
      · intro h; exact absurd h hw
      · rintro ⟨r', e, _⟩; cases e
theorem run_ok (xs : List InstT) : ∀ (r r' : Rn), RnOk r → run xs r = some r' → RnOk r' := by
  induction xs with
  | nil => intro r r' h e; cases e; exact h
  | cons x xs ih =>
    intro r r' h e
    rw [run] at e
    split at e
    · next hw => exact ih _ _ (rn_next h (fun h => okI_code h) hw) e
    · cases e
abbrev r00 : Rn := ⟨0, 0, false, false⟩
theorem rn_zero_of {r : Rn} (h : RnOk r) (hb : r.b = 0) : r = r00 := by
  obtain ⟨b, f, s, k⟩ := r
  have := h.z hb
  simp only at hb this
  obtain ⟨rfl, rfl, rfl⟩ := this
  subst hb
  rfl
theorem check_iff (xs : List InstT) : (checkT xs).1 = 0 ↔ xs.length ≤ 1000 ∧ run xs r00 = some r00 := by
  unfold checkT
  split
  · next h => constructor
              · intro h2; simp at h2
              · intro h2; omega
  · next h =>
    rw [chk_run]
    constructor
    · rintro ⟨r', e, hb⟩
      rw [rn_zero_of (run_ok xs _ _ rn_zero e) hb] at e
      exact ⟨by omega, e⟩
    · rintro ⟨_, e⟩
      exact ⟨_, e, rfl⟩
theorem check_zero' {xs : List InstT} (h : (checkT xs).1 = 0) : checkT xs = (0, 0) := by
  have key : ∀ (xs : List InstT) (n : Nat) (r : Rn), (chk xs n r).1 = 0 → chk xs n r = (0, 0) := by
    intro xs
    induction xs with
    | nil =>
      intro n r h
      rw [chk] at h ⊢
      split
      · rfl
      · next hb => rw [if_neg hb] at h; simp at h
    | cons x xs ih =>
      intro n r h
      rw [chk] at h ⊢
      split
      · next h0 => rw [if_pos h0] at h; exact ih _ _ h
      · next h0 => rw [if_neg h0] at h; exact absurd h h0
  unfold checkT at h ⊢
  split
  · next hk => rw [if_pos hk] at h; simp at h
  · next hk => rw [if_neg hk] at h; exact key _ _ _ h
/-- What is left of a rung behind a list. -/
def left : List InstT → List InstT → List InstT
  | [], cur => cur
  | x :: xs, cur => if x.code = 11 then left xs [] else left xs (cur ++ [x])
theorem rg_app (xs ys : List InstT) : ∀ cur out, rg (xs ++ ys) cur out = rg ys (left xs cur) (rg xs cur out) := by
  induction xs with
  | nil => intro cur out; rfl
  | cons x xs ih =>
    intro cur out
    rw [List.cons_append, rg, rg, left]
    split
    · exact ih _ _
    · exact ih _ _
theorem rg_out (xs : List InstT) : ∀ cur out, rg xs cur out = out ++ rg xs cur [] := by
  induction xs with
  | nil => intro cur out; simp [rg]
  | cons x xs ih =>
    intro cur out
    rw [rg, rg]
    split
    · rw [ih [] (out ++ [cur ++ [x]]), ih [] ([] ++ [cur ++ [x]])]; simp
    · exact ih _ _
theorem rg_flat (xs : List InstT) : ∀ cur out, (rg xs cur out).flatten ++ left xs cur = out.flatten ++ cur ++ xs := by
  induction xs with
  | nil => intro cur out; simp [rg, left]
  | cons x xs ih =>
    intro cur out
    rw [rg, left]
    split
    · rw [ih]; simp
    · rw [ih]; simp
theorem next_pos {r : Rn} {ok : Bool} {c : Int} (h : RnOk r) (hc : ok = true → 1 ≤ c ∧ c ≤ 11) (hw : wrongC r ok c = 0) (hn : c ≠ 11) : (nx r c).b ≠ 0 := by
  have hz := wrong_zero hw
  have z1 : ¬ r.b < needs c := of_decide_eq_false (hz 1 (by omega))
  have hb0 := h.b0
  unfold needs at z1
  unfold nx bhB
  rw [if_neg hn]
  show (if c = 1 then r.b + 1 else if c = 4 ∨ c = 5 ∨ c = 11 then r.b - 1 else r.b) ≠ 0
  by_cases e1 : c = 1
  · rw [if_pos e1]; omega
  · rw [if_neg e1] at z1 ⊢
    by_cases e4 : c = 4 ∨ c = 5
    · rw [if_pos e4] at z1
      rw [if_pos (by omega)]
      omega
    · rw [if_neg e4] at z1
      rw [if_neg (by omega)]
      omega
theorem left_nil (xs : List InstT) : ∀ (r r' : Rn) (cur : List InstT), RnOk r → run xs r = some r' → (cur = [] ↔ r.b = 0) → (left xs cur = [] ↔ r'.b = 0) := by
  induction xs with
  | nil => intro r r' cur h e hc; cases e; exact hc
  | cons x xs ih =>
    intro r r' cur h e hc
    rw [run] at e
    split at e
    · next hw =>
      have hn := rn_next h (fun h => okI_code h) hw
      rw [left]
      split
      · next h11 =>
        refine ih _ _ _ hn e ⟨fun _ => ?_, fun _ => rfl⟩
        unfold nx
        rw [if_pos h11]
      · next h11 =>
        refine ih _ _ _ hn e ⟨fun h0 => ?_, fun h0 => ?_⟩
        · simp at h0
        · exact absurd h0 (next_pos h (fun h => okI_code h) hw h11)
    · cases e
/-- A rung that is verified, and is one. -/
def Rung1 (ρ : List InstT) : Prop := run ρ r00 = some r00 ∧ rg ρ [] [] = [ρ]
theorem rg_no (cur : List InstT) (x : InstT) : (∀ y ∈ cur, y.code ≠ 11) → x.code = 11 → ∀ pre, rg (cur ++ [x]) pre [] = [pre ++ cur ++ [x]] := by
  induction cur with
  | nil => intro _ hx pre; simp [rg, hx]
  | cons y cur ih =>
    intro hc hx pre
    rw [List.cons_append, rg, if_neg (hc y (by simp)), ih (fun z hz => hc z (by simp [hz])) hx]
    simp
theorem rg_good (xs : List InstT) : ∀ (r r' : Rn) (cur : List InstT) (out : List (List InstT)), RnOk r → run xs r = some r' → run cur r00 = some r → (∀ y ∈ cur, y.code ≠ 11) → (∀ ρ ∈ out, Rung1 ρ) → ∀ ρ ∈ rg xs cur out, Rung1 ρ := by
  induction xs with
  | nil => intro r r' cur out h e hc hn ho; exact ho
  | cons x xs ih =>
    intro r r' cur out h e hc hn ho
    rw [run] at e
    split at e
    · next hw =>
      have hk := rn_next h (fun h => okI_code h) hw
      rw [rg]
      split
      · next h11 =>
        have hz : nx r x.code = r00 := by unfold nx; rw [if_pos h11]
        refine ih _ _ [] _ hk e (by rw [hz]; rfl) (by simp) ?_
        intro ρ hρ
        rcases List.mem_append.1 hρ with hρ | hρ
        · exact ho ρ hρ
        · simp at hρ
          subst hρ
          refine ⟨?_, ?_⟩
          · rw [run_app, hc]
            show run [x] r = some r00
            rw [run, if_pos hw, run, hz]
          · have := rg_no cur x hn h11 []
            simpa using this
      · next h11 =>
        refine ih _ _ _ _ hk e ?_ ?_ ho
        · rw [run_app, hc]
          show run [x] r = some _
          rw [run, if_pos hw, run]
        · intro y hy
          rcases List.mem_append.1 hy with hy | hy
          · exact hn y hy
          · simp at hy; rw [hy]; exact h11
    · cases e
/-- The rungs of a verified list. -/
theorem rungs_of {xs : List InstT} (h : (checkT xs).1 = 0) : (rungsT xs).flatten = xs ∧ (∀ ρ ∈ rungsT xs, (checkT ρ).1 = 0 ∧ (rungsT ρ).length = 1) ∧ rungsT xs = rg xs [] [] := by
  have hz := check_zero' h
  have hr : rungsT xs = rg xs [] [] := if_pos hz
  obtain ⟨hl, hrun⟩ := (check_iff xs).1 h
  have h1 : left xs [] = [] := (left_nil xs r00 r00 [] rn_zero hrun ⟨fun _ => rfl, fun _ => rfl⟩).2 rfl
  have h2 := rg_flat xs [] []
  rw [h1] at h2
  have hfl : (rungsT xs).flatten = xs := by rw [hr]; simpa using h2
  refine ⟨hfl, fun ρ hρ => ?_, hr⟩
  have hg := rg_good xs r00 r00 [] [] rn_zero hrun rfl (by simp) (by simp) ρ (by rw [← hr]; exact hρ)
  have hlen : ρ.length ≤ xs.length := by
    have : ρ.length ≤ ((rungsT xs).flatten).length := List.Sublist.length_le (List.sublist_flatten_of_mem hρ)
    rwa [hfl] at this
  have hck : (checkT ρ).1 = 0 := (check_iff ρ).2 ⟨by omega, hg.1⟩
  refine ⟨hck, ?_⟩
  unfold rungsT
  rw [if_pos (check_zero' hck), hg.2]
  rfl
/-- Two verified lists, one behind the other. -/
theorem check_join {xs ys : List InstT} (hx : (checkT xs).1 = 0) (hy : (checkT ys).1 = 0) (hl : xs.length + ys.length ≤ 1000) : (checkT (xs ++ ys)).1 = 0 ∧ (rungsT (xs ++ ys)).length = (rungsT xs).length + (rungsT ys).length := by
  obtain ⟨h1, h2⟩ := (check_iff xs).1 hx
  obtain ⟨h3, h4⟩ := (check_iff ys).1 hy
  have hxy : (checkT (xs ++ ys)).1 = 0 := (check_iff _).2 ⟨by simp; omega, by rw [run_app, h2]; exact h4⟩
  refine ⟨hxy, ?_⟩
  rw [(rungs_of hxy).2.2, (rungs_of hx).2.2, (rungs_of hy).2.2, rg_app, (left_nil xs r00 r00 [] rn_zero h2 ⟨fun _ => rfl, fun _ => rfl⟩).2 rfl, rg_out]
  simp
end Go.Proofs.YthjbgjfihfkpcaaDoor
