/- Places of a memory: where two memories agree; what a word may turn. -/
import Derived.Test.YtjnddfpieogpiaaGreatDoorVe6
import Derived.Test.YtjnddfpieogpiaaGreatDoorHp
namespace Go.Proofs.YtjnddfpieogpiaaGreatDoor.Rr
open Go.RowKit
open Go.Lib (decDigits itoa)
set_option linter.unusedVariables false

/-- Two memories agree at a place: a bit, a timer, a counter, a number, a real number, the time, the two truths. -/
def Ag (c D : Array Value) (k n : Nat) : Prop :=
  if k = 7 then D[5 + 2 * n]? = c[5 + 2 * n]? ∧ D[5 + 2 * n + 1]? = c[5 + 2 * n + 1]?
  else if k = 8 then D[37 + 3 * n]? = c[37 + 3 * n]? ∧ D[37 + 3 * n + 1]? = c[37 + 3 * n + 1]? ∧ D[37 + 3 * n + 2]? = c[37 + 3 * n + 2]?
  else if k = 9 then D[85 + n]? = c[85 + n]?
  else if k = 10 then D[117 + n]?.map exactOf = c[117 + n]?.map exactOf
  else if k = 11 then D[133]? = c[133]?
  else if k = 12 then D[134]? = c[134]?
  else if k = 13 then D[135]? = c[135]?
  else btest (word D (k - 1)) (n : Int) = btest (word c (k - 1)) (n : Int)
/-- The cells of a place. -/
def At (k n i : Nat) : Prop :=
  if k = 7 then i = 5 + 2 * n ∨ i = 5 + 2 * n + 1
  else if k = 8 then i = 37 + 3 * n ∨ i = 37 + 3 * n + 1 ∨ i = 37 + 3 * n + 2
  else if k = 9 then i = 85 + n else if k = 10 then i = 117 + n else if k = 11 then i = 133 else if k = 12 then i = 134 else if k = 13 then i = 135 else i = k - 1
def OkP (k n : Nat) : Prop := (k = 1 ∧ n < 32) ∨ (k = 2 ∧ n < 32) ∨ (k = 3 ∧ n < 64) ∨ (k = 4 ∧ n < 16) ∨ (k = 5 ∧ n < 32) ∨ (k = 7 ∧ n < 16) ∨ (k = 8 ∧ n < 16) ∨ (k = 9 ∧ n < 32) ∨ (k = 10 ∧ n < 16) ∨ (k = 11 ∧ n = 0) ∨ (k = 12 ∧ n = 0) ∨ (k = 13 ∧ n = 0)
theorem ag_7 (c D : Array Value) (n : Nat) : Ag c D 7 n ↔ D[5 + 2 * n]? = c[5 + 2 * n]? ∧ D[5 + 2 * n + 1]? = c[5 + 2 * n + 1]? := Iff.rfl
theorem ag_8 (c D : Array Value) (n : Nat) : Ag c D 8 n ↔ D[37 + 3 * n]? = c[37 + 3 * n]? ∧ D[37 + 3 * n + 1]? = c[37 + 3 * n + 1]? ∧ D[37 + 3 * n + 2]? = c[37 + 3 * n + 2]? := Iff.rfl
theorem ag_9 (c D : Array Value) (n : Nat) : Ag c D 9 n ↔ D[85 + n]? = c[85 + n]? := Iff.rfl
theorem ag_10 (c D : Array Value) (n : Nat) : Ag c D 10 n ↔ D[117 + n]?.map exactOf = c[117 + n]?.map exactOf := Iff.rfl
theorem ag_11 (c D : Array Value) (n : Nat) : Ag c D 11 n ↔ D[133]? = c[133]? := Iff.rfl
theorem ag_12 (c D : Array Value) (n : Nat) : Ag c D 12 n ↔ D[134]? = c[134]? := Iff.rfl
theorem ag_13 (c D : Array Value) (n : Nat) : Ag c D 13 n ↔ D[135]? = c[135]? := Iff.rfl
theorem ag_low (c D : Array Value) {k : Nat} (n : Nat) (h : k ≤ 6) : Ag c D k n ↔ btest (word D (k - 1)) (n : Int) = btest (word c (k - 1)) (n : Int) := by
  unfold Ag
  repeat rw [if_neg (by omega)]
theorem at_low {k n i : Nat} (h : k ≤ 6) : At k n i ↔ i = k - 1 := by
  unfold At
  repeat rw [if_neg (by omega)]
theorem ag_keep {c d e : Array Value} {k n : Nat} (hp : OkP k n) (h : ∀ i, At k n i → e[i]? = d[i]?) (g : Ag c d k n) : Ag c e k n := by
  rcases hp with ⟨rfl, hn⟩ | ⟨rfl, hn⟩ | ⟨rfl, hn⟩ | ⟨rfl, hn⟩ | ⟨rfl, hn⟩ | ⟨rfl, hn⟩ | ⟨rfl, hn⟩ | ⟨rfl, hn⟩ | ⟨rfl, hn⟩ | ⟨rfl, hn⟩ | ⟨rfl, hn⟩ | ⟨rfl, hn⟩
  · rw [ag_low _ _ _ (by omega)] at g ⊢; rw [← g]; unfold word; rw [h _ ((at_low (by omega)).2 rfl)]
  · rw [ag_low _ _ _ (by omega)] at g ⊢; rw [← g]; unfold word; rw [h _ ((at_low (by omega)).2 rfl)]
  · rw [ag_low _ _ _ (by omega)] at g ⊢; rw [← g]; unfold word; rw [h _ ((at_low (by omega)).2 rfl)]
  · rw [ag_low _ _ _ (by omega)] at g ⊢; rw [← g]; unfold word; rw [h _ ((at_low (by omega)).2 rfl)]
  · rw [ag_low _ _ _ (by omega)] at g ⊢; rw [← g]; unfold word; rw [h _ ((at_low (by omega)).2 rfl)]
  · exact ⟨(h _ (.inl rfl)).trans g.1, (h _ (.inr rfl)).trans g.2⟩
  · exact ⟨(h _ (.inl rfl)).trans g.1, (h _ (.inr (.inl rfl))).trans g.2.1, (h _ (.inr (.inr rfl))).trans g.2.2⟩
  · exact (h (85 + n) rfl).trans g
  · have := h (117 + n) rfl
    rw [ag_10] at g ⊢
    rw [this]; exact g
  · exact (h 133 rfl).trans g
  · exact (h 134 rfl).trans g
  · exact (h 135 rfl).trans g
theorem ag_refl (c : Array Value) (k n : Nat) (hp : OkP k n) : Ag c c k n := by
  rcases hp with ⟨rfl, hn⟩ | ⟨rfl, hn⟩ | ⟨rfl, hn⟩ | ⟨rfl, hn⟩ | ⟨rfl, hn⟩ | ⟨rfl, hn⟩ | ⟨rfl, hn⟩ | ⟨rfl, hn⟩ | ⟨rfl, hn⟩ | ⟨rfl, hn⟩ | ⟨rfl, hn⟩ | ⟨rfl, hn⟩
  · exact rfl
  · exact rfl
  · exact rfl
  · exact rfl
  · exact rfl
  · exact ⟨rfl, rfl⟩
  · exact ⟨rfl, rfl, rfl⟩
  · exact rfl
  · exact rfl
  · exact rfl
  · exact rfl
  · exact rfl
/-- Which place a cell is of. -/
def ownP (i : Nat) : Nat × Nat := if i < 5 then (i + 1, 0) else if i < 37 then (7, (i - 5) / 2) else if i < 85 then (8, (i - 37) / 3) else if i < 117 then (9, i - 85) else if i < 133 then (10, i - 117) else (i - 122, 0)
theorem ownP_2 {i : Nat} (h : ¬ i < 5) (h2 : i < 37) : ownP i = (7, (i - 5) / 2) := by unfold ownP; rw [if_neg h, if_pos h2]
theorem ownP_3 {i : Nat} (h : ¬ i < 37) (h2 : i < 85) : ownP i = (8, (i - 37) / 3) := by unfold ownP; rw [if_neg (by omega), if_neg h, if_pos h2]
theorem ownP_4 {i : Nat} (h : ¬ i < 85) (h2 : i < 117) : ownP i = (9, i - 85) := by unfold ownP; rw [if_neg (by omega), if_neg (by omega), if_neg h, if_pos h2]
theorem ownP_5 {i : Nat} (h : ¬ i < 117) (h2 : i < 133) : ownP i = (10, i - 117) := by unfold ownP; rw [if_neg (by omega), if_neg (by omega), if_neg (by omega), if_neg h, if_pos h2]
theorem ownP_at {k n i : Nat} (hp : OkP k n) (h : At k n i) : ownP i = (k, if k ≤ 5 then 0 else n) := by
  rcases hp with ⟨rfl, hn⟩ | ⟨rfl, hn⟩ | ⟨rfl, hn⟩ | ⟨rfl, hn⟩ | ⟨rfl, hn⟩ | ⟨rfl, hn⟩ | ⟨rfl, hn⟩ | ⟨rfl, hn⟩ | ⟨rfl, hn⟩ | ⟨rfl, hn⟩ | ⟨rfl, hn⟩ | ⟨rfl, hn⟩
  · rw [(at_low (by omega)).1 h]; rfl
  · rw [(at_low (by omega)).1 h]; rfl
  · rw [(at_low (by omega)).1 h]; rfl
  · rw [(at_low (by omega)).1 h]; rfl
  · rw [(at_low (by omega)).1 h]; rfl
  · have h : i = 5 + 2 * n ∨ i = 5 + 2 * n + 1 := h
    rw [ownP_2 (by omega) (by omega), if_neg (by omega), show (i - 5) / 2 = n by omega]
  · have h : i = 37 + 3 * n ∨ i = 37 + 3 * n + 1 ∨ i = 37 + 3 * n + 2 := h
    rw [ownP_3 (by omega) (by omega), if_neg (by omega), show (i - 37) / 3 = n by omega]
  · have h : i = 85 + n := h
    rw [ownP_4 (by omega) (by omega), if_neg (by omega), show i - 85 = n by omega]
  · have h : i = 117 + n := h
    rw [ownP_5 (by omega) (by omega), if_neg (by omega), show i - 117 = n by omega]
  · have h : i = 133 := h
    rw [h, hn]; rfl
  · have h : i = 134 := h
    rw [h, hn]; rfl
  · have h : i = 135 := h
    rw [h, hn]; rfl
theorem at_apart {k n k' n' i : Nat} (hp : OkP k n) (hp' : OkP k' n') (hne : k ≠ k' ∨ n ≠ n') (hb : k = k' → ¬ k ≤ 5) (h : At k n i) : ¬ At k' n' i := fun h' => by
  have e := (ownP_at hp h).symm.trans (ownP_at hp' h')
  have e1 : k = k' := congrArg Prod.fst e
  have e2 : (if k ≤ 5 then 0 else n) = (if k' ≤ 5 then 0 else n') := congrArg Prod.snd e
  have := hb e1
  rw [if_neg this, if_neg (by omega)] at e2
  omega

/-- What a word of the place (k, n) may turn: that place alone, and there it is as c says. -/
structure Eff (c d e : Array Value) (k n : Nat) : Prop where
  only : ∀ i, ¬ At k n i → e[i]? = d[i]?
  here : Ag c e k n
  bits : k ≤ 5 → ∀ m : Nat, m ≠ n → m < 64 → btest (word e (k - 1)) (m : Int) = btest (word d (k - 1)) (m : Int)
theorem Eff.keep {c d e : Array Value} {k n : Nat} (h : Eff c d e k n) (hp : OkP k n) {c' : Array Value} {k' n' : Nat} (hp' : OkP k' n') (hne : k ≠ k' ∨ n ≠ n') (g : Ag c' d k' n') : Ag c' e k' n' := by
  by_cases hb : k = k' ∧ k ≤ 5
  · obtain ⟨rfl, h5⟩ := hb
    rw [ag_low _ _ _ (by omega)] at g ⊢
    rw [← g]
    refine h.bits h5 n' (by omega) ?_
    rcases hp' with ⟨_, hn⟩ | ⟨_, hn⟩ | ⟨_, hn⟩ | ⟨_, hn⟩ | ⟨_, hn⟩ | ⟨_, hn⟩ | ⟨_, hn⟩ | ⟨_, hn⟩ | ⟨_, hn⟩ | ⟨_, hn⟩ | ⟨_, hn⟩ | ⟨_, hn⟩ <;> omega
  · exact ag_keep hp' (fun i hi => h.only i (at_apart hp' hp (by omega) (fun e h5 => hb ⟨e.symm, by omega⟩) hi)) g

/-- As far as (j, n) the memory is c, behind it nothing is in it. -/
structure Inv (c : Array Value) (j n : Nat) (D : Array Value) : Prop where
  ok : MemOk D
  past : ∀ k' n', OkP k' n' → (k' < j ∨ (k' = j ∧ n' < n)) → Ag c D k' n'
  rest : ∀ k' n', OkP k' n' → ¬ (k' < j ∨ (k' = j ∧ n' < n)) → Ag memZero D k' n'
theorem inv_start (c : Array Value) : Inv c 1 0 memZero :=
  ⟨memOk_zeroH, fun k' n' hp h => by rcases hp with ⟨_, hn⟩ | ⟨_, hn⟩ | ⟨_, hn⟩ | ⟨_, hn⟩ | ⟨_, hn⟩ | ⟨_, hn⟩ | ⟨_, hn⟩ | ⟨_, hn⟩ | ⟨_, hn⟩ | ⟨_, hn⟩ | ⟨_, hn⟩ | ⟨_, hn⟩ <;> omega, fun k' n' hp _ => ag_refl _ _ _ hp⟩
theorem Inv.step {c D e : Array Value} {j n : Nat} (h : Inv c j n D) (hp : OkP j n) (g : Eff c D e j n) (ho : MemOk e) : Inv c j (n + 1) e := by
  refine ⟨ho, fun k' n' hp' hl => ?_, fun k' n' hp' hl => ?_⟩
  · by_cases he : j = k' ∧ n = n'
    · obtain ⟨rfl, rfl⟩ := he; exact g.here
    · exact g.keep hp hp' (by omega) (h.past k' n' hp' (by omega))
  · exact g.keep hp hp' (by omega) (h.rest k' n' hp' (by omega))
theorem Inv.skip {c D : Array Value} {j n : Nat} (h : Inv c j n D) (g : OkP j n → Ag memZero D j n → Ag c D j n) : Inv c j (n + 1) D := by
  refine ⟨h.ok, fun k' n' hp' hl => ?_, fun k' n' hp' hl => h.rest k' n' hp' (by omega)⟩
  by_cases he : j = k' ∧ n = n'
  · obtain ⟨rfl, rfl⟩ := he; exact g hp' (h.rest _ _ hp' (by omega))
  · exact h.past k' n' hp' (by omega)
theorem Inv.next {c D : Array Value} {j n : Nat} (h : Inv c j n D) (hn : ∀ m, OkP j m → m < n) : Inv c (j + 1) 0 D := by
  refine ⟨h.ok, fun k' n' hp' hl => ?_, fun k' n' hp' hl => ?_⟩
  · by_cases he : k' = j
    · subst he; exact h.past _ _ hp' (.inr ⟨rfl, hn _ hp'⟩)
    · exact h.past _ _ hp' (.inl (by omega))
  · exact h.rest k' n' hp' (by omega)

theorem u_same {c D : Array Value} (hc : MemOk c) (hD : MemOk D) {i W : Nat} {kk : IntKind} (hx : ∃ x, c[i]? = some (.int kk x) ∧ 0 ≤ x ∧ x < ((2 ^ W : Nat) : Int)) (hy : ∃ x, D[i]? = some (.int kk x) ∧ 0 ≤ x ∧ x < ((2 ^ W : Nat) : Int)) (h : ∀ n : Nat, n < W → btest (word D i) (n : Int) = btest (word c i) (n : Int)) : c[i]? = D[i]? := by
  obtain ⟨x, hx, x0, x1⟩ := hx
  obtain ⟨y, hy, y0, y1⟩ := hy
  have := bits_int W x y x0 y0 x1 y1 (fun n hn => by
    have := h n hn
    rw [word_of hx, word_of hy] at this
    exact this.symm)
  rw [hx, hy, this]
/-- At the end the two memories are one. -/
theorem Inv.last {c D : Array Value} (hc : MemOk c) (h : Inv c 14 0 D) : MS c D := by
  have hD := h.ok
  have g : ∀ k' n', OkP k' n' → Ag c D k' n' := fun k' n' hp => h.past k' n' hp (by
    left; rcases hp with ⟨_, hn⟩ | ⟨_, hn⟩ | ⟨_, hn⟩ | ⟨_, hn⟩ | ⟨_, hn⟩ | ⟨_, hn⟩ | ⟨_, hn⟩ | ⟨_, hn⟩ | ⟨_, hn⟩ | ⟨_, hn⟩ | ⟨_, hn⟩ | ⟨_, hn⟩ <;> omega)
  rw [ms_iff hc hD]
  refine ⟨fun j hj => ⟨?_, fun i i1 i2 => ?_, fun i i1 i2 => ?_⟩, fun j hj => ?_, ?_, ?_, ?_, ?_, ?_, ?_, ?_, ?_⟩
  · exact ((ag_10 c D j).1 (g 10 j (by unfold OkP; omega))).symm
  · have a := (ag_7 c D j).1 (g 7 j (by unfold OkP; omega))
    rcases (by omega : i = 5 + 2 * j ∨ i = 5 + 2 * j + 1) with rfl | rfl
    · exact a.1.symm
    · exact a.2.symm
  · have a := (ag_8 c D j).1 (g 8 j (by unfold OkP; omega))
    rcases (by omega : i = 37 + 3 * j ∨ i = 37 + 3 * j + 1 ∨ i = 37 + 3 * j + 2) with rfl | rfl | rfl
    · exact a.1.symm
    · exact a.2.1.symm
    · exact a.2.2.symm
  · exact ((ag_9 c D j).1 (g 9 j (by unfold OkP; omega))).symm
  · exact u_same (W := 32) hc hD (hc.u32 (i := 0) (by omega) rfl) (hD.u32 (i := 0) (by omega) rfl) fun n hn => (ag_low c D n (by omega)).1 (g 1 n (by unfold OkP; omega))
  · exact u_same (W := 32) hc hD (hc.u32 (i := 1) (by omega) rfl) (hD.u32 (i := 1) (by omega) rfl) fun n hn => (ag_low c D n (by omega)).1 (g 2 n (by unfold OkP; omega))
  · exact u_same (W := 64) hc hD (hc.u64 (i := 2) (by omega) rfl) (hD.u64 (i := 2) (by omega) rfl) fun n hn => (ag_low c D n (by omega)).1 (g 3 n (by unfold OkP; omega))
  · exact u_same (W := 16) hc hD (hc.u16 (i := 3) (by omega) rfl) (hD.u16 (i := 3) (by omega) rfl) fun n hn => (ag_low c D n (by omega)).1 (g 4 n (by unfold OkP; omega))
  · exact u_same (W := 32) hc hD (hc.u32 (i := 4) (by omega) rfl) (hD.u32 (i := 4) (by omega) rfl) fun n hn => (ag_low c D n (by omega)).1 (g 5 n (by unfold OkP; omega))
  · exact ((ag_11 c D 0).1 (g 11 0 (by unfold OkP; omega))).symm
  · exact ((ag_12 c D 0).1 (g 12 0 (by unfold OkP; omega))).symm
  · exact ((ag_13 c D 0).1 (g 13 0 (by unfold OkP; omega))).symm

/-- What has no word is nothing. -/
theorem skip_zero {rt : Nat → List UInt8} (hrt : RtOk rt) {c : Array Value} (hc : MemOk c) {D : Array Value} {k n : Nat} (hk : k ≤ 10) (hp : OkP k n) (hv : vP rt c k n = false) (g : Ag memZero D k n) : Ag c D k n := by
  have zb : ∀ i : Nat, i < 5 → ∀ m : Int, btest (word memZero i) m = false := fun i hi m => by
    have : word memZero i = 0 := by
      rcases (by omega : i = 0 ∨ i = 1 ∨ i = 2 ∨ i = 3 ∨ i = 4) with rfl | rfl | rfl | rfl | rfl <;> exact word_of (memZero_get (by omega))
    rw [this]; unfold btest; simp
  have low : ∀ k : Nat, 1 ≤ k → k ≤ 5 → ∀ W : Int, kZ (k : Int) = W → (n : Int) < W → mbit c (k : Int) (n : Int) = btest (word c (k - 1)) (pl (k : Int) (n : Int)) → vP rt c k n = false → Ag memZero D k n → Ag c D k n := fun k h1 h5 W hW hn hm hv g => by
    rw [ag_low _ _ _ (by omega)] at g ⊢
    rw [g, zb _ (by omega)]
    rw [vP_low (by omega), hm] at hv
    have : pl (k : Int) (n : Int) = n := by
      unfold pl; rw [hW, if_neg (by omega)]; exact Int.emod_eq_of_lt (by omega) hn
    rw [this] at hv
    exact hv.symm
  rcases hp with ⟨rfl, hn⟩ | ⟨rfl, hn⟩ | ⟨rfl, hn⟩ | ⟨rfl, hn⟩ | ⟨rfl, hn⟩ | ⟨rfl, hn⟩ | ⟨rfl, hn⟩ | ⟨rfl, hn⟩ | ⟨rfl, hn⟩ | ⟨rfl, hn⟩ | ⟨rfl, hn⟩ | ⟨rfl, hn⟩
  · exact low 1 (by omega) (by omega) 32 rfl (by omega) rfl hv g
  · exact low 2 (by omega) (by omega) 32 rfl (by omega) rfl hv g
  · exact low 3 (by omega) (by omega) 64 rfl (by omega) rfl hv g
  · exact low 4 (by omega) (by omega) 16 rfl (by omega) rfl hv g
  · exact low 5 (by omega) (by omega) 32 rfl (by omega) rfl hv g
  · obtain ⟨b, m, hb, hm, hmr, hP, -⟩ := timer_at hc hn
    have hv : timP c n = false := hv
    rw [hP] at hv
    have e1 : b = false := by cases b <;> simp_all
    have e2 : m = 0 := by rw [e1] at hv; simp at hv; omega
    obtain ⟨g1, g2⟩ := (ag_7 _ _ _).1 g
    obtain ⟨k1, k2⟩ := kd_t hn
    rw [show 5 + n * 2 = 5 + 2 * n by omega] at hb hm
    refine (ag_7 _ _ _).2 ⟨?_, ?_⟩
    · rw [g1, memZero_get (by omega), hb, k1, e1]; rfl
    · rw [g2, memZero_get (by omega), hm, k2, e2]; rfl
  · obtain ⟨b, l, m, hb, hl, hm, hmr, hP, -⟩ := counter_at hc hn
    have hv : cntP c n = false := hv
    rw [hP] at hv
    have e1 : b = false := by cases b <;> simp_all
    have e3 : l = false := by rw [e1] at hv; cases l <;> simp_all
    have e2 : m = 0 := by rw [e1, e3] at hv; simp at hv; omega
    obtain ⟨g1, g2, g3⟩ := (ag_8 _ _ _).1 g
    obtain ⟨k1, k2, k3⟩ := kd_c hn
    rw [show 37 + n * 3 = 37 + 3 * n by omega] at hb hl hm
    refine (ag_8 _ _ _).2 ⟨?_, ?_, ?_⟩
    · rw [g1, memZero_get (by omega), hb, k1, e1]; rfl
    · rw [g2, memZero_get (by omega), hl, k2, e3]; rfl
    · rw [g3, memZero_get (by omega), hm, k3, e2]; rfl
  · obtain ⟨m, hm, hmr, hP, -⟩ := data_at hc hn
    have hv : datP c n = false := hv
    rw [hP] at hv
    have e2 : m = 0 := by simpa using hv
    have g1 := (ag_9 _ _ _).1 g
    refine (ag_9 _ _ _).2 ?_
    rw [g1, memZero_get (by omega), hm, kd_d hn, e2]; rfl
  · obtain ⟨x, hx, hxb, hP, -⟩ := real_at rt hc hn
    have hv : reaP rt c n = false := hv
    rw [hP] at hv
    have ht : rt x = [48] := by
      have : (tx (rt x)).toList = [48] := by simpa using hv
      rwa [Lib.toList_data, tx_list] at this
    have hT : Txt x [48] := ht ▸ rt_txt hrt x
    have h0 : Txt 0 [48] := .inr (.inl ⟨by decide, by decide, rfl⟩)
    have hs := Txt.inj hxb (by decide) hT h0
    have g1 := (ag_10 _ _ _).1 g
    refine (ag_10 _ _ _).2 ?_
    rw [g1, memZero_get (by omega), hx, kd_r hn]
    exact congrArg some (same_exact.1 hs).symm
  · omega
  · omega
  · omega
end Go.Proofs.YtjnddfpieogpiaaGreatDoor.Rr
