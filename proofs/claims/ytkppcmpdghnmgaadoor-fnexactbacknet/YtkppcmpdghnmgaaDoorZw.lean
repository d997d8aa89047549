/- The words of instructions: ListWord, both sides; the law FnExactListWord. -/
import Derived.Test.YtkppcmpdghnmgaaDoorChecked
import Derived.Test.YtkppcmpdghnmgaaDoorRows
import Derived.Lib.LaidU8
import Derived.OpenVars
import Derived.Below
import Derived.WalkKit
import Derived.Lib.QuietBelow
namespace Go.Proofs.YtkppcmpdghnmgaaDoor
open Go.RowKit
open Go.Lib (VarReads)
set_option linter.unusedVariables false

/-- The words. -/
def lwd (n : Int) : ByteArray := if n = 1 then ⟨#[108, 100]⟩ else if n = 2 then ⟨#[97, 110, 100]⟩ else if n = 3 then ⟨#[111, 114]⟩ else if n = 4 then ⟨#[97, 110, 98]⟩ else if n = 5 then ⟨#[111, 114, 98]⟩ else if n = 6 then ⟨#[105, 110, 118]⟩ else if n = 7 then ⟨#[109, 112, 115]⟩ else if n = 8 then ⟨#[109, 114, 100]⟩ else if n = 9 then ⟨#[109, 112, 112]⟩ else if n = 10 then ⟨#[99, 111, 105, 108]⟩ else if n = 11 then ⟨#[101, 110, 100]⟩ else ⟨#[]⟩
theorem lwd_out {n : Int} (h : n < 1 ∨ 11 < n) : lwd n = ⟨#[]⟩ := by
  unfold lwd
  rw [if_neg (by omega), if_neg (by omega), if_neg (by omega), if_neg (by omega), if_neg (by omega), if_neg (by omega), if_neg (by omega), if_neg (by omega), if_neg (by omega), if_neg (by omega), if_neg (by omega)]
theorem c12 (i : Nat) (h : i < 12) : i = 0 ∨ i = 1 ∨ i = 2 ∨ i = 3 ∨ i = 4 ∨ i = 5 ∨ i = 6 ∨ i = 7 ∨ i = 8 ∨ i = 9 ∨ i = 10 ∨ i = 11 := by omega

/-- The table of words stands in the memory. -/
def LT (w : World) : Prop := ∀ i : Nat, i < 12 → w.cell? ⟨0, i, none⟩ = some (.string (lwd i))
theorem LT.lt {w : World} (h : LT w) : 0 < w.heap.size := World.block_lt_of_cell? _ _ (h 0 (by omega))
theorem LT.later {w w' : World} (h : LT w) (g : Below w.heap.size w w') : LT w' := fun i hi => (g.cell (p := ⟨0, i, none⟩) h.lt).trans (h i hi)

theorem gl_named : Tryd.prog.globalNamed "loop.example/stile/impl.listWords" = some 0 := by kernel_rfl
theorem gl_type : (Tryd.prog.globals[0]?).map (·.type) = some 95 := by kernel_rfl
theorem cellsStr : Tryd.prog.cellsOf 9 = 1 := by kernel_rfl
theorem ba_listL {s : ByteArray} {l : List UInt8} (h : s.data.toList = l) : s = ⟨l.toArray⟩ := by rw [← h, Lib.mk_data]
theorem lt_of_reads {W : World} (h : VarReads Tryd.prog W "loop.example/stile/impl.listWords" Rows.laid_loop_example_stile_impl_listWords) : LT W := by
  obtain ⟨g, t, cs, fuel, p, hg, ht, hv, hd⟩ := h
  obtain rfl := Option.some.inj (gl_named.symm.trans hg)
  obtain rfl := Option.some.inj (gl_type.symm.trans ht)
  intro i hi
  unfold Rows.laid_loop_example_stile_impl_listWords at hd
  obtain ⟨f', d, q, hdi, hr⟩ := Lib.array_elem Tryd.underlying95 hd i hi
  rw [cellsStr] at hr
  obtain ⟨s, hc, hx, _⟩ := DataW.trod_string Tryd.underlying9 hr
  have hcell : W.cell? ⟨0, i, none⟩ = some (.string s) := by
    rw [World.var?_cell hg hv]
    have := congrArg (·[0]?) hc
    simpa [List.getElem?_take, List.getElem?_drop] using this
  rw [hcell]
  rcases c12 i hi with rfl | rfl | rfl | rfl | rfl | rfl | rfl | rfl | rfl | rfl | rfl | rfl
  all_goals
    obtain rfl := Option.some.inj hdi
    simp only [Prod.mk.injEq, DataW.lit.injEq, Lit.string.injEq] at hx
    rw [ba_listL hx.1.symm]
    rfl

set_option maxHeartbeats 1000000 in
theorem word_i (n : Int) (w : World) (hT : LT w) : Calls Tryd.prog 39 #[.int .i64 n] w fun e w' => e = .returned (.string (lwd n)) ∧ Below w.heap.size w w' := by
  by_cases h0 : n < 0
  · rw [lwd_out (by omega)]
    go_enter Tryd.func39, Tryd.ntmps39
    go_wp2
    go_ret
    exact ⟨rfl, Below.refl _ _⟩
  · by_cases h1 : 12 ≤ n
    · rw [lwd_out (by omega)]
      go_enter Tryd.func39, Tryd.ntmps39
      go_wp2
      go_ret
      exact ⟨rfl, Below.refl _ _⟩
    · obtain ⟨k, rfl⟩ : ∃ k : Nat, n = (k : Int) := ⟨n.toNat, by omega⟩
      have hc := hT k (by omega)
      generalize lwd (k : Int) = L at hc ⊢
      have i0 : ¬ ((k : Int) < 0) := by omega
      have i1 : ¬ ((12 : Int) ≤ (k : Int)) := by omega
      have i2 : (k : Int) < 12 := by omega
      have i3 : (0 : Int) ≤ (k : Int) := by omega
      clear h0 h1 hT
      go_enter Tryd.func39, Tryd.ntmps39
      go_wp2
      go_ret
      exact ⟨rfl, Below.refl _ _⟩

end Go.Proofs.YtkppcmpdghnmgaaDoor
