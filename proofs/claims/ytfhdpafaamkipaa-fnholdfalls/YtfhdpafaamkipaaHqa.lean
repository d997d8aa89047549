/- Falls: bytes that stay bytes; what the law compares. -/
import Derived.Test.YtfhdpafaamkipaaHph
import Derived.Test.YtfhdpafaamkipaaHwc
import Derived.Lib.BufferRead
namespace Go.Proofs.Ytfhdpafaamkipaa
open Go.RowKit
set_option linter.unusedVariables false
set_option linter.unusedSimpArgs false

/-- All numbers of a store are bytes. -/
def Byt (r : RomT) : Prop := (r.a.mark < 256 ∧ r.a.turn < 256 ∧ ∀ x ∈ r.a.data, x < 256) ∧ (r.b.mark < 256 ∧ r.b.turn < 256 ∧ ∀ x ∈ r.b.data, x < 256)
theorem into_byt {s : SlotT} {x : WrT} (hx : x.byte < 256) (h : s.mark < 256 ∧ s.turn < 256 ∧ ∀ x ∈ s.data, x < 256) : (intoT s x).mark < 256 ∧ (intoT s x).turn < 256 ∧ ∀ y ∈ (intoT s x).data, y < 256 := by
  unfold intoT
  split
  · exact ⟨hx, h.2.1, h.2.2⟩
  · split
    · exact ⟨h.1, hx, h.2.2⟩
    · split
      · exact ⟨h.1, h.2.1, fun y hy => by cases hy⟩
      · split
        · refine ⟨h.1, h.2.1, fun y hy => ?_⟩
          rcases List.mem_append.1 hy with hy | hy
          · exact h.2.2 y hy
          · simp at hy; omega
        · exact h
theorem do_byt {r : RomT} {x : WrT} (hx : x.byte < 256) (h : Byt r) : Byt (doT r x) := by
  unfold doT
  split
  · exact ⟨into_byt hx h.1, h.2⟩
  · split
    · exact ⟨h.1, into_byt hx h.2⟩
    · exact h
theorem play_byt : ∀ (ws : List WrT) (r : RomT), (∀ x ∈ ws, x.byte < 256) → Byt r → Byt (playT r ws)
  | [], r, _, h => h
  | x :: ws, r, hw, h => by
    rw [play_cons]
    exact play_byt ws _ (fun y hy => hw y (List.mem_cons_of_mem _ hy)) (do_byt (hw x (List.mem_cons_self ..)) h)
theorem plan_byt (r : RomT) (d : List Nat) (hd : ∀ x ∈ d, x < 256) : ∀ x ∈ planL r d, x.byte < 256 := by
  intro x hx
  have ht : tnT r < 256 := by
    unfold tnT
    split
    · omega
    · split <;> omega
  unfold planL coreP at hx
  simp only [List.mem_append, List.mem_cons, List.mem_map, List.not_mem_nil, or_false] at hx
  rcases hx with (((rfl | rfl) | ⟨y, hy, rfl⟩) | (rfl | rfl)) | hx
  · show 0 < 256; omega
  · show 0 < 256; omega
  · exact hd y hy
  · exact ht
  · show 165 < 256; omega
  · split at hx
    · simp at hx
      subst hx
      show 0 < 256
      omega
    · cases hx
theorem now_byt {r : RomT} (h : Byt r) : ∀ x ∈ (nowT r).1, x < 256 := by
  unfold nowT
  split
  · exact h.1.2.2
  · split
    · exact h.2.2.2
    · intro x hx; cases hx
theorem fL_byt {l : List Nat} (h : ∀ x ∈ l, x < 256) (j : Nat) : fL l j < 256 := by
  unfold fL
  rw [List.getD_eq_getElem?_getD]
  cases e : l[j]? with
  | none => show 0 < 256; omega
  | some x => exact h x (List.mem_of_getElem? e)
def rowT19 (f : Nat → Nat) (n : Nat) : List UInt8 := (List.range n).map fun j => UInt8.ofNat (f j)
theorem rowT19_len (f : Nat → Nat) (n : Nat) : (rowT19 f n).length = n := by simp [rowT19]
/-- Bytes are converted to a text. -/
theorem conv19 {w : World} {a : Option Addr} {n c : Nat} {f : Nat → Nat} (hf : ∀ j, f j < 256) (h : Bt w a n f) :
    (convert 22 9 (.slice a n c)).run Try.prog w = .ok (.string ⟨(rowT19 f n).toArray⟩) w := by
  have key : ∀ g : Addr, (∀ j, j < n → w.cell? (g.add j) = some (.int .u8 (f j))) → (convert 22 9 (.slice (some g) n c)).run Try.prog w = .ok (.string ⟨(rowT19 f n).toArray⟩) w := fun g hg => by
    have := run_convert_bytes_back (P := Try.prog) w 22 9 5 g c (rowT19 f n) Try.underlying22 Try.underlying5 Try.underlying9 (fun j hj => by
      have hj' : j < n := by rwa [rowT19_len] at hj
      rw [hg j hj']
      have h1 := hf j
      simp [rowT19]
      omega)
    rwa [rowT19_len] at this
  rcases h with rfl | ⟨g, o, rfl, _, h3⟩
  · cases a with
    | none => exact Lib.run_convert_nil_bytes w 22 9 5 c Try.underlying22 Try.underlying5 Try.underlying9
    | some g => exact key g fun j hj => absurd hj (by omega)
  · exact key ⟨g, o, none⟩ fun j hj => by
      by_cases e : j = 0
      · subst e; simpa [Addr.add] using h3 0 hj
      · simpa [Addr.add, e] using h3 j hj
set_option maxHeartbeats 1000000 in
theorem wh_same (a1 a2 : Option Addr) (n c1 c2 : Nat) (b : Bool) (f : Nat → Nat) (w : World) (hf : ∀ j, f j < 256) (h1 : Bt w a1 n f) (h2 : Bt w a2 n f) :
    Calls Try.prog 18 #[.slice a1 n c1, .bool b, .slice a2 n c2, .bool b] w fun e w' => e = .returned (.bool true) ∧ Below w.heap.size w w' := by
  have k1 := conv19 (c := c1) hf h1
  have k2 := conv19 (c := c2) hf h2
  generalize (⟨(rowT19 f n).toArray⟩ : ByteArray) = T at k1 k2
  clear h1 h2 hf
  cases b
  all_goals
    go_enter Try.func18, Try.ntmps18
    go_wp2
    go_ret
    exact ⟨rfl, Below.refl _ _⟩
end Go.Proofs.Ytfhdpafaamkipaa
