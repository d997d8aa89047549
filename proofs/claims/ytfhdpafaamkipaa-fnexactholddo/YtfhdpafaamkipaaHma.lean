/- A store with two slots, as mathematics: what is written, what counts, what a plan does, wherever it is cut. -/
import Derived.Test.YtfhdpafaamkipaaChecked
import Derived.WalkKit
namespace Go.Proofs.Ytfhdpafaamkipaa
set_option linter.unusedVariables false
set_option linter.unusedSimpArgs false

structure SlotT where
  mark : Nat
  turn : Nat
  data : List Nat
structure RomT where
  a : SlotT
  b : SlotT
structure WrT where
  kind : Int
  slot : Int
  byte : Nat
/-- A write into a slot. -/
def intoT (s : SlotT) (w : WrT) : SlotT :=
  if w.kind = 1 then ⟨w.byte, s.turn, s.data⟩ else if w.kind = 2 then ⟨s.mark, w.byte, s.data⟩ else if w.kind = 3 then ⟨s.mark, s.turn, []⟩
  else if w.kind = 4 ∧ s.data.length < 20100 then ⟨s.mark, s.turn, s.data ++ [w.byte]⟩ else s
def doT (r : RomT) (w : WrT) : RomT := if w.slot = 0 then ⟨intoT r.a w, r.b⟩ else if w.slot = 1 then ⟨r.a, intoT r.b w⟩ else r
def playT (r : RomT) (ws : List WrT) : RomT := ws.foldl doT r
def goodT (s : SlotT) : Bool := decide (s.mark = 165 ∧ s.turn ≤ 2 ∧ s.data.length ≤ 20100)
def snowT (r : RomT) : Int := if goodT r.a = true ∧ goodT r.b = true ∧ r.b.turn = (r.a.turn + 1) % 3 then 1 else if goodT r.a = true then 0 else if goodT r.b = true then 1 else -1
/-- What the store keeps. -/
def nowT (r : RomT) : List Nat × Bool := if snowT r = 0 then (r.a.data, true) else if snowT r = 1 then (r.b.data, true) else ([], false)

def sel (r : RomT) : Bool → SlotT
  | false => r.a
  | true => r.b
def upd (r : RomT) (t : Bool) (s : SlotT) : RomT :=
  match t with
  | false => ⟨s, r.b⟩
  | true => ⟨r.a, s⟩
def sl : Bool → Int
  | false => 0
  | true => 1
theorem upd_upd (r : RomT) (t : Bool) (s s' : SlotT) : upd (upd r t s) t s' = upd r t s' := by cases t <;> rfl
theorem sel_upd (r : RomT) (t : Bool) (s : SlotT) : sel (upd r t s) t = s := by cases t <;> rfl
theorem upd_sel (r : RomT) (t : Bool) : upd r t (sel r t) = r := by cases t <;> rfl
theorem do_upd (r : RomT) (t : Bool) (k : Int) (x : Nat) : doT r ⟨k, sl t, x⟩ = upd r t (intoT (sel r t) ⟨k, sl t, x⟩) := by cases t <;> rfl
theorem play_app (r : RomT) (u v : List WrT) : playT r (u ++ v) = playT (playT r u) v := List.foldl_append ..
theorem play_cons (r : RomT) (w : WrT) (v : List WrT) : playT r (w :: v) = playT (doT r w) v := rfl

/-- The slot that is written, and the turn that it gets. -/
def toB (r : RomT) : Bool := decide (snowT r = 0)
def tnT (r : RomT) : Nat := if snowT r = 0 then (r.a.turn + 1) % 3 else if snowT r = 1 then (r.b.turn + 1) % 3 else 0
def coreP (t : Bool) (tn : Nat) (d : List Nat) : List WrT := [⟨1, sl t, 0⟩, ⟨3, sl t, 0⟩] ++ d.map (fun x => ⟨4, sl t, x⟩) ++ [⟨2, sl t, tn⟩, ⟨1, sl t, 165⟩]
def planL (r : RomT) (d : List Nat) : List WrT := coreP (toB r) (tnT r) d ++ (if 0 ≤ snowT r then [⟨1, snowT r, 0⟩] else [])
theorem core_len (t : Bool) (tn : Nat) (d : List Nat) : (coreP t tn d).length = d.length + 4 := by simp [coreP]
theorem plan_len (r : RomT) (d : List Nat) : (planL r d).length = d.length + 4 + (if 0 ≤ snowT r then 1 else 0) := by
  unfold planL
  rw [List.length_append, core_len]
  split <;> rfl
/-- Bytes put one behind the other. -/
theorem play_puts (r : RomT) (t : Bool) : ∀ (d : List Nat) (s : SlotT), s.data.length + d.length ≤ 20100 → playT (upd r t s) (d.map fun x => ⟨4, sl t, x⟩) = upd r t ⟨s.mark, s.turn, s.data ++ d⟩
  | [], s, h => by simp [playT]
  | x :: d, s, h => by
    simp only [List.length_cons] at h
    rw [List.map_cons, play_cons, do_upd, sel_upd, upd_upd]
    have e : intoT s ⟨4, sl t, x⟩ = ⟨s.mark, s.turn, s.data ++ [x]⟩ := by
      unfold intoT
      simp
      omega
    rw [e, play_puts r t d ⟨s.mark, s.turn, s.data ++ [x]⟩ (by simp; omega)]
    simp
/-- Carried out whole: the new slot. -/
theorem play_core (r : RomT) (t : Bool) (tn : Nat) (d : List Nat) (h : d.length ≤ 20100) : playT r (coreP t tn d) = upd r t ⟨165, tn, d⟩ := by
  unfold coreP
  rw [play_app, play_app]
  have e0 : playT r [⟨1, sl t, 0⟩, ⟨3, sl t, 0⟩] = upd r t ⟨0, (sel r t).turn, []⟩ := by
    rw [play_cons, do_upd, play_cons, do_upd, sel_upd, upd_upd]
    rfl
  rw [e0, play_puts r t d _ (by simpa using h), List.nil_append, play_cons, do_upd, sel_upd, upd_upd, play_cons, do_upd, sel_upd, upd_upd]
  rfl
/-- As long as no mark is written the mark stays. -/
theorem play_still (r : RomT) (t : Bool) : ∀ (ws : List WrT) (s : SlotT), (∀ w ∈ ws, w.slot = sl t ∧ w.kind ≠ 1) → s.mark = 0 → ∃ s' : SlotT, s'.mark = 0 ∧ playT (upd r t s) ws = upd r t s'
  | [], s, _, h => ⟨s, h, rfl⟩
  | ⟨k, x, y⟩ :: ws, s, hw, h => by
    obtain ⟨h1, h2⟩ := hw _ (List.mem_cons_self ..)
    simp only at h1 h2
    subst h1
    rw [play_cons, do_upd, sel_upd, upd_upd]
    refine play_still r t ws _ (fun w hw' => hw w (List.mem_cons_of_mem _ hw')) ?_
    unfold intoT
    simp only [if_neg h2]
    split
    · exact h
    · split
      · exact h
      · split
        · exact h
        · exact h
/-- A plan cut ahead of the new mark. -/
theorem play_cut (r : RomT) (t : Bool) (tn : Nat) (d : List Nat) (n : Nat) (h1 : 1 ≤ n) (h2 : n ≤ d.length + 3) (rest : List WrT) : ∃ s : SlotT, s.mark = 0 ∧ playT r ((coreP t tn d ++ rest).take n) = upd r t s := by
  obtain ⟨m, rfl⟩ : ∃ m, n = m + 1 := ⟨n - 1, by omega⟩
  have e : coreP t tn d ++ rest = ⟨1, sl t, 0⟩ :: ((⟨3, sl t, 0⟩ :: (d.map (fun x => ⟨4, sl t, x⟩) ++ [⟨2, sl t, tn⟩])) ++ (⟨1, sl t, 165⟩ :: rest)) := by simp [coreP]
  rw [e, List.take_succ_cons, List.take_append_of_le_length (by simp; omega), play_cons, do_upd]
  refine play_still r t _ _ (fun w hw => ?_) rfl
  have hw := List.mem_of_mem_take hw
  simp only [List.mem_cons, List.mem_append, List.mem_map, List.mem_singleton, List.not_mem_nil, or_false] at hw
  rcases hw with rfl | ⟨x, _, rfl⟩ | rfl
  · exact ⟨rfl, by show (3 : Int) ≠ 1; omega⟩
  · exact ⟨rfl, by show (4 : Int) ≠ 1; omega⟩
  · exact ⟨rfl, by show (2 : Int) ≠ 1; omega⟩
theorem bad_of {s : SlotT} (h : s.mark = 0) : goodT s = false := by
  unfold goodT
  exact decide_eq_false (fun e => by omega)
theorem good_of {s : SlotT} (h1 : s.mark = 165) (h2 : s.turn ≤ 2) (h3 : s.data.length ≤ 20100) : goodT s = true := decide_eq_true ⟨h1, h2, h3⟩
theorem good_turn {s : SlotT} (h : goodT s = true) : s.turn ≤ 2 := by
  unfold goodT at h
  exact (of_decide_eq_true h).2.1
/-- Which slot counts. -/
theorem snow_cases (r : RomT) : (snowT r = 0 ∧ goodT r.a = true) ∨ (snowT r = 1 ∧ goodT r.b = true) ∨ (snowT r = -1 ∧ goodT r.a = false ∧ goodT r.b = false) := by
  unfold snowT
  cases ha : goodT r.a <;> cases hb : goodT r.b <;> simp
  by_cases h : r.b.turn = (r.a.turn + 1) % 3
  · exact .inr h
  · exact .inl h
/-- Before the new mark: the store keeps what it kept. -/
theorem old_kept (r : RomT) (d : List Nat) (n : Nat) (h2 : n ≤ d.length + 3) : nowT (playT r ((planL r d).take n)) = nowT r := by
  by_cases h0 : n = 0
  · subst h0; rfl
  obtain ⟨s, hs, e⟩ := play_cut r (toB r) (tnT r) d n (by omega) h2 (if 0 ≤ snowT r then [⟨1, snowT r, 0⟩] else [])
  unfold planL
  rw [e]
  have hb := bad_of hs
  rcases snow_cases r with ⟨c, g⟩ | ⟨c, g⟩ | ⟨c, g, g'⟩
  · have ht : toB r = true := by unfold toB; rw [c]; rfl
    rw [ht]
    have e1 : snowT (upd r true s) = 0 := by unfold snowT upd; simp [g, hb]
    unfold nowT
    rw [e1, c]; rfl
  · have ht : toB r = false := by unfold toB; rw [c]; rfl
    rw [ht]
    have e1 : snowT (upd r false s) = 1 := by unfold snowT upd; simp [g, hb]
    unfold nowT
    rw [e1, c]; rfl
  · have ht : toB r = false := by unfold toB; rw [c]; rfl
    rw [ht]
    have e1 : snowT (upd r false s) = -1 := by unfold snowT upd; simp [g', hb]
    unfold nowT
    rw [e1, c]; rfl
/-- Behind the new mark: the new bytes; which slot counts, and the marks. -/
theorem new_kept (r : RomT) (d : List Nat) (n : Nat) (h : d.length ≤ 20100) (h2 : d.length + 4 ≤ n) : nowT (playT r ((planL r d).take n)) = (d, true) ∧ snowT (playT r ((planL r d).take n)) = sl (toB r) ∧ sel (playT r ((planL r d).take n)) (toB r) = ⟨165, tnT r, d⟩ := by
  have hc := core_len (toB r) (tnT r) d
  have e : playT r ((planL r d).take n) = upd r (toB r) ⟨165, tnT r, d⟩ ∨ (0 ≤ snowT r ∧ playT r ((planL r d).take n) = doT (upd r (toB r) ⟨165, tnT r, d⟩) ⟨1, snowT r, 0⟩) := by
    unfold planL
    by_cases hn : n = d.length + 4
    · left
      rw [List.take_append_of_le_length (by omega), List.take_of_length_le (by omega), play_core r _ _ d h]
    · by_cases h0 : 0 ≤ snowT r
      · right
        rw [if_pos h0, List.take_of_length_le (by rw [List.length_append, hc]; show d.length + 4 + 1 ≤ n; omega), play_app, play_core r _ _ d h]
        exact ⟨h0, rfl⟩
      · left
        rw [if_neg h0, List.append_nil, List.take_of_length_le (by omega), play_core r _ _ d h]
  have hg : ∀ tn, tn ≤ 2 → goodT ⟨165, tn, d⟩ = true := fun tn ht => good_of rfl ht h
  rcases snow_cases r with ⟨c, g⟩ | ⟨c, g⟩ | ⟨c, g, g'⟩
  · have ht : toB r = true := by unfold toB; rw [c]; rfl
    have hn : tnT r = (r.a.turn + 1) % 3 := by unfold tnT; rw [if_pos c]
    rw [ht, hn, c] at e
    rw [ht, hn]
    have g2 := hg ((r.a.turn + 1) % 3) (by omega)
    rcases e with e | ⟨_, e⟩
    · rw [e]
      have e1 : snowT (upd r true ⟨165, (r.a.turn + 1) % 3, d⟩) = 1 := by unfold snowT upd; simp [g, g2]
      exact ⟨by unfold nowT; rw [e1]; rfl, by rw [e1]; rfl, rfl⟩
    · rw [e]
      have e0 : doT (upd r true ⟨165, (r.a.turn + 1) % 3, d⟩) ⟨1, 0, 0⟩ = ⟨⟨0, r.a.turn, r.a.data⟩, ⟨165, (r.a.turn + 1) % 3, d⟩⟩ := rfl
      rw [e0]
      have g3 : goodT ⟨0, r.a.turn, r.a.data⟩ = false := bad_of rfl
      have e1 : snowT ⟨⟨0, r.a.turn, r.a.data⟩, ⟨165, (r.a.turn + 1) % 3, d⟩⟩ = 1 := by unfold snowT; simp [g2, g3]
      exact ⟨by unfold nowT; rw [e1]; rfl, by rw [e1]; rfl, rfl⟩
  · have ht : toB r = false := by unfold toB; rw [c]; rfl
    have hn : tnT r = (r.b.turn + 1) % 3 := by unfold tnT; rw [if_neg (by omega), if_pos c]
    rw [ht, hn, c] at e
    rw [ht, hn]
    have g2 := hg ((r.b.turn + 1) % 3) (by omega)
    have gt := good_turn g
    have hne : ¬ r.b.turn = ((r.b.turn + 1) % 3 + 1) % 3 := by omega
    rcases e with e | ⟨_, e⟩
    · rw [e]
      have e1 : snowT (upd r false ⟨165, (r.b.turn + 1) % 3, d⟩) = 0 := by
        unfold snowT upd
        rw [if_neg (fun x => hne x.2.2), if_pos g2]
      exact ⟨by unfold nowT; rw [e1]; rfl, by rw [e1]; rfl, rfl⟩
    · rw [e]
      have e0 : doT (upd r false ⟨165, (r.b.turn + 1) % 3, d⟩) ⟨1, 1, 0⟩ = ⟨⟨165, (r.b.turn + 1) % 3, d⟩, ⟨0, r.b.turn, r.b.data⟩⟩ := rfl
      rw [e0]
      have g3 : goodT ⟨0, r.b.turn, r.b.data⟩ = false := bad_of rfl
      have e1 : snowT ⟨⟨165, (r.b.turn + 1) % 3, d⟩, ⟨0, r.b.turn, r.b.data⟩⟩ = 0 := by unfold snowT; simp [g2, g3]
      exact ⟨by unfold nowT; rw [e1]; rfl, by rw [e1]; rfl, rfl⟩
  · have ht : toB r = false := by unfold toB; rw [c]; rfl
    have hn : tnT r = 0 := by unfold tnT; rw [if_neg (by omega), if_neg (by omega)]
    rw [ht, hn] at e
    rw [ht, hn]
    have g2 := hg 0 (by omega)
    rcases e with e | ⟨h9, _⟩
    · rw [e]
      have e1 : snowT (upd r false ⟨165, 0, d⟩) = 0 := by unfold snowT upd; simp [g2, g']
      exact ⟨by unfold nowT; rw [e1]; rfl, by rw [e1]; rfl, rfl⟩
    · omega
/-- The other slot behind a whole plan: unmarked, if it counted; as it was, if none did. -/
theorem other_kept (r : RomT) (d : List Nat) (h : d.length ≤ 20100) : (sel (playT r (planL r d)) (!toB r)).mark = if 0 ≤ snowT r then 0 else r.b.mark := by
  unfold planL
  rw [play_app, play_core r _ _ d h]
  rcases snow_cases r with ⟨c, g⟩ | ⟨c, g⟩ | ⟨c, g, g'⟩
  · have ht : toB r = true := by unfold toB; rw [c]; rfl
    rw [ht, c]; rfl
  · have ht : toB r = false := by unfold toB; rw [c]; rfl
    rw [ht, c]; rfl
  · have ht : toB r = false := by unfold toB; rw [c]; rfl
    rw [ht, c]; rfl
end Go.Proofs.Ytfhdpafaamkipaa
