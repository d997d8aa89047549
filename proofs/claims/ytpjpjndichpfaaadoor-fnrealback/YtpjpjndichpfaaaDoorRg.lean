/- Reading real numbers: the library's part, the program's realGuess. -/
import Derived.Test.YtpjpjndichpfaaaDoorRi
import Derived.Lib.SmallJoins
namespace Go.Proofs.YtpjpjndichpfaaaDoor
open Go.RowKit
open Go.Lib (decDigits itoa)
set_option linter.unusedVariables false

/-- What the library reads of package-level variables. -/
structure EV (w : World) : Prop where
  pt : PT w
  ml : ∃ m, w.cell? ⟨4, 0, none⟩ = some (.int .i64 m)
  es : ∃ t p, w.cell? ⟨5, 0, none⟩ = some (.iface t p)
  er : ∃ t p, w.cell? ⟨6, 0, none⟩ = some (.iface t p)
theorem EV.later {w w' : World} (h : EV w) (g : Below w.heap.size w w') : EV w' := by
  obtain ⟨m, hm⟩ := h.ml
  obtain ⟨t, p, hs⟩ := h.es
  obtain ⟨t', p', hr⟩ := h.er
  exact ⟨h.pt.later g, ⟨m, cell_later g hm⟩, ⟨t, p, cell_later g hs⟩, ⟨t', p', cell_later g hr⟩⟩

theorem below_drewN (w : World) (n : Nat) : Below w.heap.size w (w.drewN n) := ⟨rfl, rfl, rfl, Nat.le_refl _, fun _ _ => rfl⟩

theorem cut_r (s sep : ByteArray) (w : World) (hw : EV w) (hs : s.size ≤ 1048576) :
    Calls Tryd.prog 77 #[.string s, .string sep] w fun e w' => e = .returned (.tuple #[.string (tx (Lib.cut s.data.toList sep.data.toList).1), .string (tx (Lib.cut s.data.toList sep.data.toList).2.1), .bool (Lib.cut s.data.toList sep.data.toList).2.2]) ∧ Below w.heap.size w w' := by
  obtain ⟨m, hm⟩ := hw.ml
  refine (Any.strings_Cut Tryd.layC s sep m w (by omega) hm).mono ?_
  rintro e w' ⟨rfl, n, rfl⟩
  exact ⟨rfl, below_drewN w n⟩

/-- How a number is read: with no error, or with one. -/
def NumR (r : Lib.NumEnd Int) (e : Ending) : Prop := ∃ (n : Int) (err : Value), e = .returned (.tuple #[.int .i64 n, err]) ∧ (-9223372036854775808 ≤ n ∧ n ≤ 9223372036854775807) ∧ ((err = .nilIface ∧ r = .ok n) ∨ ((∃ t p, err = .iface t p) ∧ ∀ v, r ≠ .ok v))

theorem ok_below {w w' : World} {t : TypeId} (h : w' = w ∨ ∃ s, w' = Lib.bytesWorld w t s) : Below w.heap.size w w' := by
  rcases h with rfl | ⟨s, rfl⟩
  · exact Below.refl _ _
  · exact Lib.bytesWorld_below w t s

theorem parse_bd {B : Nat} (hB : B = 64) {l : List UInt8} {v : Int} (h : Lib.parseIntB B l = .ok v) : -9223372036854775808 ≤ v ∧ v ≤ 9223372036854775807 := by
  subst hB
  have h63 : (2 : Nat) ^ (64 - 1) = 9223372036854775808 := by decide
  unfold Lib.parseIntB at h
  split at h
  · cases h
  · simp only [h63] at h
    split at h
    · cases h
    · cases h
    · split at h
      · cases h
      · split at h
        · cases h
        · injection h with h
          subst h
          split <;> omega
theorem atoi_bd {l : List UInt8} {v : Int} (h : Lib.atoiAll l = .ok v) : -9223372036854775808 ≤ v ∧ v ≤ 9223372036854775807 := by
  obtain ⟨a, b⟩ := Lib.atoiAll_bounds h
  exact ⟨a, b⟩

theorem parse_r (s : ByteArray) (w : World) (hw : EV w) (hs : s.size ≤ 1048576) :
    Calls Tryd.prog 78 #[.string s, .int .i64 10, .int .i64 64] w fun e w' => NumR (Lib.parseIntB 64 s.data.toList) e ∧ Below w.heap.size w w' := by
  cases h : Lib.parseIntB 64 s.data.toList with
  | ok v =>
    refine (Any.strconv_ParseInt_10_at64_ok Tryd.layP s (by omega) v h w).mono ?_
    rintro e w' ⟨rfl, hw'⟩
    exact ⟨⟨v, _, rfl, parse_bd rfl h, .inl ⟨rfl, rfl⟩⟩, ok_below hw'⟩
  | «syntax» =>
    obtain ⟨t, p, hc⟩ := hw.es
    refine (Any.strconv_ParseInt_10_at64_syntax Tryd.layP s (by omega) h _ w hc (.inr ⟨t, p, rfl⟩)).mono ?_
    rintro e w' ⟨N, rfl, -, -, hb⟩
    exact ⟨⟨0, _, rfl, by omega, .inr ⟨⟨_, _, rfl⟩, fun v h => by cases h⟩⟩, hb⟩
  | range =>
    obtain ⟨t, p, hc⟩ := hw.er
    refine (Any.strconv_ParseInt_10_at64_range Tryd.layP s (by omega) h _ w hc (.inr ⟨t, p, rfl⟩)).mono ?_
    rintro e w' ⟨N, rfl, -, -, hb⟩
    refine ⟨⟨_, _, rfl, ?_, .inr ⟨⟨_, _, rfl⟩, fun v h => by cases h⟩⟩, hb⟩
    unfold Lib.intSat
    split <;> decide

theorem atoi_r (s : ByteArray) (w : World) (hw : EV w) (hs : s.size ≤ 1048576) :
    Calls Tryd.prog 79 #[.string s] w fun e w' => NumR (Lib.atoiAll s.data.toList) e ∧ Below w.heap.size w w' := by
  cases h : Lib.atoiAll s.data.toList with
  | ok v =>
    refine (Any.strconv_Atoi_ok Tryd.layA s (by omega) v h w).mono ?_
    rintro e w' ⟨rfl, hw'⟩
    exact ⟨⟨v, _, rfl, atoi_bd h, .inl ⟨rfl, rfl⟩⟩, ok_below hw'⟩
  | «syntax» =>
    obtain ⟨t, p, hc⟩ := hw.es
    refine (Any.strconv_Atoi_syntax Tryd.layA s (by omega) h _ w hc (.inr ⟨t, p, rfl⟩)).mono ?_
    rintro e w' ⟨N, rfl, -, -, hb⟩
    exact ⟨⟨0, _, rfl, by omega, .inr ⟨⟨_, _, rfl⟩, fun v h => by cases h⟩⟩, hb⟩
  | range =>
    obtain ⟨t, p, hc⟩ := hw.er
    refine (Any.strconv_Atoi_range Tryd.layA s (by omega) h _ w hc (.inr ⟨t, p, rfl⟩)).mono ?_
    rintro e w' ⟨N, rfl, -, -, hb⟩
    refine ⟨⟨_, _, rfl, ?_, .inr ⟨⟨_, _, rfl⟩, fun v h => by cases h⟩⟩, hb⟩
    unfold Lib.atoiSat
    split <;> omega
end Go.Proofs.YtpjpjndichpfaaaDoor
