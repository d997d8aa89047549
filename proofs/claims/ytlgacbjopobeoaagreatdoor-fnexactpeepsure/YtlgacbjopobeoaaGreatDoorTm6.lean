/- Decimals: the specification's l26Dec (of a seat without strconv). -/
import Derived.Test.YtlgacbjopobeoaaGreatDoorAM
import Derived.Lib.ItoaMem
import Derived.Lib.ItoaLen
import Derived.Lib.QuietBelow
import Derived.Laws.IdiomStrings
import Derived.Deep.LoopGhost
import Derived.Deep.Light
namespace Go.Proofs.YtlgacbjopobeoaaGreatDoor
open Go.RowKit Go.Lib
set_option linter.unusedVariables false

open Go.Lib (decDigits itoa nDigits)

/-- A text out of its bytes. -/
def tx (l : List UInt8) : ByteArray := ⟨l.toArray⟩

theorem decDigits_step (u : Nat) (h : 10 ≤ u) : decDigits u = decDigits (u / 10) ++ [UInt8.ofNat (48 + u % 10)] := by
  rw [decDigits, dif_neg (by omega)]

theorem tx_size (l : List UInt8) : (tx l).size = l.length := by simp [tx, ByteArray.size]
theorem tx_append (a b : List UInt8) : tx a ++ tx b = tx (a ++ b) := by
  apply ByteArray.ext
  simp [tx]
theorem tx_nil : (⟨#[]⟩ : ByteArray) = tx [] := rfl

theorem conv1 (wr : World) (y : Int) (d : Nat) (hy : y = d) (hd : d < 256) :
    (convert 22 9 (.slice (some ⟨wr.heap.size, 0, none⟩) 1 1)).run Tryz.prog (wr.alloc (.cells #[.int .u8 y] 5)) = .ok (.string (tx [UInt8.ofNat d])) (wr.alloc (.cells #[.int .u8 y] 5)) := by
  refine run_convert_bytes_back (P := Tryz.prog) _ 22 9 5 ⟨wr.heap.size, 0, none⟩ 1 [UInt8.ofNat d] Tryz.underlying22 Tryz.underlying5 Tryz.underlying9 ?_
  intro j hj
  have e : j = 0 := by simp at hj; exact hj
  subst e
  have e2 : (UInt8.ofNat d).toNat = d := by simp; omega
  simp [Addr.add, e2, hy]

/-- The text of a number. -/
theorem tx_neg (u : Nat) (h : 1 ≤ u) : tx (itoa (-(u : Int))) = ⟨#[45]⟩ ++ tx (decDigits u) := by
  rw [Lib.itoa_neg u h]
  exact (tx_append [45] (decDigits u)).symm
theorem digits_size (u : Nat) (hu : u ≤ 10000000000000000) : (tx (decDigits u)).size ≤ 21 ∧ 1 ≤ (tx (decDigits u)).size := by
  rw [tx_size]
  have h1 := Lib.itoa_length_le (u : Int) (by omega) (by omega)
  rw [Lib.itoa_nonneg] at h1
  have h2 := Lib.nDigits_pos u
  rw [← Lib.decDigits_length] at h2
  exact ⟨h1, h2⟩

end Go.Proofs.YtlgacbjopobeoaaGreatDoor
