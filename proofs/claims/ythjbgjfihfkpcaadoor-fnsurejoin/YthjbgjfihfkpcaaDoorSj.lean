/- The law FnSureJoin. -/
import Derived.Test.YthjbgjfihfkpcaaDoorYy
import Derived.Test.YthjbgjfihfkpcaaDoorBg
import Derived.Test.YthjbgjfihfkpcaaDoorChM
import Derived.Test.YthjbgjfihfkpcaaDoorZc
namespace Go.Proofs.YthjbgjfihfkpcaaDoor
open Go.RowKit
set_option linter.unusedVariables false

theorem rg_len (xs : List InstT) : ∀ cur out, (rg xs cur out).length ≤ out.length + xs.length := by
  induction xs with
  | nil => intro cur out; simp [rg]
  | cons x xs ih =>
    intro cur out
    rw [rg]
    split
    · have := ih [] (out ++ [cur ++ [x]]); simp at this ⊢; omega
    · have := ih (cur ++ [x]) out; simp at this ⊢; omega
theorem rungs_len (xs : List InstT) : (rungsT xs).length ≤ xs.length := by
  unfold rungsT
  split
  · have := rg_len xs [] []; simpa using this
  · simp
theorem rungs_none {xs : List InstT} (h : (checkT xs).1 ≠ 0) : rungsT xs = [] := if_neg fun e => h (by rw [e])
theorem rungs_some {xs : List InstT} {ρ : List InstT} (h : ρ ∈ rungsT xs) : (checkT xs).1 = 0 := by
  by_cases e : (checkT xs).1 = 0
  · exact e
  · rw [rungs_none e] at h; simp at h
theorem drawrungs_r {a : Option Addr} {len cap blk off : Nat} {z : Nat → Int} (w : World) (h : Code0 w a len cap blk off z) :
    Calls Tryd.prog 4 #[.slice a len cap] w fun e w' => HalfR w e w' := by
  have H := half_r w h
  go_enter Tryd.func4, Tryd.ntmps4
  go_wp2_with fail
  refine H.mono ?_
  rintro e w1 ⟨b, n, cp, xs, rfl, HX, hn, hs, g⟩
  have HF : Hid (HalfR w (.returned (.slice b n cp)) w1) := ⟨b, n, cp, xs, rfl, HX, hn, hs, g⟩
  clear HX g
  go_wp2
  go_ret
  exact HF.out
/-- What stands in the loop over the rungs. -/
structure JI (xs : List InstT) (w w2 w3 wr : World) (F : List Nat) (ra : Option Addr) (rm rc i g m cp : Nat) : Prop where
  rd : RD wr w2.heap.size w.heap.size (.slice (some ⟨g, 0, none⟩) m cp) ((rungsT xs).take i).flatten
  len : m = ((rungsT xs).take i).flatten.length
  ss : SSOwn wr w2.heap.size F (.slice ra rm rc) (rungsT xs)
  hg : w3.heap.size ≤ g
  bl : Below w2.heap.size w2 wr
theorem JI.later {xs : List InstT} {w w2 w3 wr w' : World} {F : List Nat} {ra : Option Addr} {rm rc i g m cp : Nat} (h : JI xs w w2 w3 wr F ra rm rc i g m cp) (hb : Below wr.heap.size wr w') : JI xs w w2 w3 w' F ra rm rc i g m cp :=
  ⟨h.rd.move (row := none) (gb_below hb) (fun j hj => by cases hj), h.len, h.ss.later hb, h.hg, h.bl.trans (hb.mono h.bl.size)⟩
theorem JI.push {xs : List InstT} {w w2 w3 wr : World} {F : List Nat} {ra : Option Addr} {rm rc i g m cp : Nat} (h : JI xs w w2 w3 wr F ra rm rc i g m cp) (hF : ∀ b ∈ F, b < w3.heap.size) (hfin : ∀ x ∈ xs, Fin1 x) (hw : w.heap.size < w2.heap.size) (h23 : w2.heap.size ≤ w3.heap.size) (h3r : w3.heap.size ≤ wr.heap.size) (hn : xs.length ≤ 4000) {ρ : List InstT} (hi : (rungsT xs)[i]? = some ρ) {f : List Nat} {v : Value} (hI : InstsOwn wr w2.heap.size f v ρ) (hf : f ⊆ F) :
    ∃ (a : Option Addr) (cap : Nat), v = .slice a ρ.length cap ∧ ∃ (g7 cap7 : Nat) (W7 : World), (∀ ty, (Builtin.append_ #[23, 23] ty #[.slice (some ⟨g, 0, none⟩) m cp, .slice a ρ.length cap]).run Tryd.prog wr = .ok (.slice (some ⟨g7, 0, none⟩) (m + ρ.length) cap7) W7) ∧ JI xs w w2 w3 W7 F ra rm rc (i + 1) g7 (m + ρ.length) cap7 ∧ m + ρ.length ≤ 4000 := by
  have hmem : ρ ∈ rungsT xs := List.mem_of_getElem? hi
  have hro := rungs_of (rungs_some hmem)
  have hin : ∀ x ∈ ρ, x ∈ xs := fun x hx => by rw [← hro.1]; exact List.mem_flatten.2 ⟨ρ, hmem, hx⟩
  obtain ⟨a, cap, cs, e, hsrc, hE⟩ := insts_efi (H := w2.heap.size) (R := w.heap.size) (g := g) hI (fun x hx => hfin x (hin x hx)) (Nat.le_refl _) hw (fun b hb e => by have := hF b (hf hb); have := h.hg; omega)
  have hil : i < (rungsT xs).length := (List.getElem?_eq_some_iff.1 hi).1
  have htk : (rungsT xs).take (i + 1) = (rungsT xs).take i ++ [ρ] := by rw [List.take_add_one, hi]; rfl
  have hfl : ((rungsT xs).take (i + 1)).flatten = ((rungsT xs).take i).flatten ++ ρ := by rw [htk]; simp
  have hlen : (((rungsT xs).take i).flatten ++ ρ).length ≤ xs.length := by
    rw [← hfl]
    have h2 : (rungsT xs).flatten = ((rungsT xs).take (i + 1)).flatten ++ ((rungsT xs).drop (i + 1)).flatten := by rw [← List.flatten_append, List.take_append_drop]
    have h3 : xs.length = (((rungsT xs).take (i + 1)).flatten ++ ((rungsT xs).drop (i + 1)).flatten).length := by rw [← h2, hro.1]
    rw [List.length_append] at h3
    omega
  rw [List.length_append, ← h.len] at hlen
  refine ⟨a, cap, e, ?_⟩
  obtain ⟨g7, cap7, W7, hr, hRD, gg, hat⟩ := RD.cat (m := ρ.length) cap a h.rd h.len rfl cs hE (by omega) (by have := h.bl.size; omega) (by have := h.bl.size; omega) hsrc
  refine ⟨g7, cap7, W7, hr, ⟨by rw [hfl]; exact hRD, by rw [hfl, List.length_append, ← h.len], SSOwn.move h.ss gg (fun b hb e => by have := hF b hb; have := h.hg; simp at e; omega), ?_, h.bl.grown gg h.bl.size (fun j hj => by cases hj; have := h.hg; omega)⟩, by omega⟩
  rcases hat with e | e
  · rw [e]; exact h.hg
  · omega
end Go.Proofs.YthjbgjfihfkpcaaDoor
