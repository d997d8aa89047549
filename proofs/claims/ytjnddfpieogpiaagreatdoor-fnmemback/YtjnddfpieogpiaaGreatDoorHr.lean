/- What the specification's readings say, on the seat (RdsOk). -/
import Derived.Test.YtjnddfpieogpiaaGreatDoorHjM
import Derived.Test.YtjnddfpieogpiaaGreatDoorDzM
import Derived.Test.YtjnddfpieogpiaaGreatDoorRiM
namespace Go.Proofs.YtjnddfpieogpiaaGreatDoor
open Go.RowKit
open Go.Lib (decDigits itoa)
set_option linter.unusedVariables false

def IsNumH (s : ByteArray) : Prop := ∃ v : Int, v.natAbs < 100000000000000000 ∧ s.data.toList = itoa v
noncomputable def nmH (s : ByteArray) : Int × Bool := @dite _ (IsNumH s) (Classical.propDecidable _) (fun h => (h.choose, true)) fun _ => (0, false)
theorem nmH_yes {s : ByteArray} {v : Int} (hv : v.natAbs < 100000000000000000) (h : s.data.toList = itoa v) : nmH s = (v, true) := by
  have hp : IsNumH s := ⟨v, hv, h⟩
  unfold nmH
  rw [dif_pos hp]
  have h2 := hp.choose_spec
  have : hp.choose = v := Rr.itoa_inj (by have := h2.1; omega) (by omega) (h2.2.symm.trans h)
  rw [this]
theorem nmH_no {s : ByteArray} (h : ∀ u : Int, u.natAbs < 100000000000000000 → s.data.toList ≠ itoa u) : nmH s = (0, false) := by
  have hp : ¬ IsNumH s := fun ⟨v, h1, h2⟩ => h v h1 h2
  unfold nmH
  rw [dif_neg hp]
theorem num_sH (s : ByteArray) (hs : s.size ≤ 1048576) (w : World) :
    Calls Tryz.prog 95 #[.string s] w fun e w' => e = .returned (.tuple #[.int .i64 (nmH s).1, .bool (nmH s).2]) ∧ w' = w := by
  refine (Rr.num_s s w hs).mono ?_
  rintro e w' ⟨⟨v, ok, h1, h2, h3⟩, h4⟩
  refine ⟨?_, h4⟩
  rcases h2 with ⟨g1, g2, g3⟩ | ⟨g1, g2, g3⟩
  · rw [nmH_yes g3 g2, h1, g1]
  · rw [nmH_no g3, h1, g1, g2]
/-- The readings of the specification. -/
noncomputable def rdsH : Rds := { rd := rdH, rb := rbH, nm := nmH, RP := fun s x b => Rr.Rd2 s.data.toList x b }
theorem rdsH_ok : RdsOk rdsH where
  dev := dev_sH
  bd := fun s hb => by
    obtain ⟨h1, h7, h8, h9, h10⟩ := rdH_bd s
    exact ⟨fun h => h1 h hb, h7, h8, h9, h10⟩
  num := num_sH
  real := fun s hs W => (Rr.spec_read s W hs).mono fun e w' h => by
    obtain ⟨⟨v, ok, h1, h2⟩, h3⟩ := h
    exact ⟨v, ok, h1, h2, h3⟩
  has := fun s x b h => by
    have := h.1
    simpa [FloatKind.has] using this
end Go.Proofs.YtjnddfpieogpiaaGreatDoor
