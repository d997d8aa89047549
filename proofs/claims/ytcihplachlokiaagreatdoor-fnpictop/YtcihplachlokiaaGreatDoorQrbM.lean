/- Numbers read: the program's number. -/
import Derived.Test.YtcihplachlokiaaGreatDoorQkkM
namespace Go.Proofs.YtcihplachlokiaaGreatDoor
open Go.RowKit Go.Shelf
set_option linter.unusedVariables false
set_option linter.unusedSimpArgs false

theorem or_i64 (Y : Int) (L : Nat) (h1 : -32768 ≤ Y) (h2 : Y < 32768) (hL : L < 65536) : bits .or .i64 (Y * 65536) (L : Int) = Y * 65536 + L := by
  show IntKind.i64.wrap ((BitVec.ofInt 64 (Y * 65536) ||| BitVec.ofInt 64 (L : Int)).toNat : Int) = _
  have e1 : (BitVec.ofInt 64 (Y * 65536)).toNat = ((Y * 65536) % 18446744073709551616).toNat := by simp [BitVec.toNat_ofInt]
  have e2 : (BitVec.ofInt 64 (L : Int)).toNat = L := ofInt_u64 L (by omega)
  rw [BitVec.toNat_or, e1, e2, nat_join 16 _ L (by omega) (by omega)]
  simp only [IntKind.wrap, IntKind.bits, IntKind.signed]
  simp
  omega
theorem or_u16 (a b : Nat) (ha : a < 256) (hb : b < 256) : bits .or .u16 ((a : Int) * 256) (b : Int) = ((a * 256 + b : Nat) : Int) := by
  have := u16_or_nat (a * 256) b (by omega) (by omega)
  rw [nat_join 8 (a * 256) b (by omega) (by omega)] at this
  rwa [Int.natCast_mul] at this
theorem or0_u16 (b : Nat) (hb : b < 256) : bits .or .u16 0 (b : Int) = (b : Int) := by
  have := u16_or_nat 0 b (by omega) (by omega)
  simpa using this
theorem sg16 (a : Nat) (ha : a < 65536) : IntKind.i16.wrap (a : Int) = if 32768 ≤ a then (a : Int) - 65536 else a := by
  simp only [IntKind.wrap, IntKind.bits, IntKind.signed]
  simp
  split <;> split <;> omega

/-- The number of bytes, highest first; of more than one, below 0 where its first bit is on. -/
def vl1 (b : Nat) : Int := b
def vl2 (a b : Nat) : Int := if 32768 ≤ a * 256 + b then ((a * 256 + b : Nat) : Int) - 65536 else (a * 256 + b : Nat)
def vl4 (a b c d : Nat) : Int := vl2 a b * 65536 + (c * 256 + d : Nat)

/-- What a read of a number leaves. -/
def RdN (R : Nat) (r : List Nat) (at' : Int) (v : Int) (w : World) (e : Ending) (w' : World) : Prop := e = .returned (.int .i64 v) ∧ Rd R r at' w' ∧ w.grownBy w' (some R)
def RdP (R : Nat) (c at' : Int) (w : World) (e : Ending) (w' : World) : Prop := e = tld c at' ∧ w.grownBy w' (some R)

set_option maxHeartbeats 1000000 in
theorem num1_ok (R b : Nat) (r : List Nat) (at' : Int) (w : World) (hb : b < 256) (h : Rd R (b :: r) at' w) :
    Calls Tryz.prog 66 #[.pointer (some ⟨R, 0, none⟩), .int .i64 1] w fun e w' => RdN R r at' (vl1 b) w e w' := by
  have H1 : Hid (Calls Tryz.prog 78 #[.pointer (some ⟨R, 0, none⟩)] w fun e w' => e = .returned (.int .u16 (b : Nat)) ∧ Rd R r at' w' ∧ w.grownBy w' (some R)) := take_ok R b r at' w hb h
  have o1 := or0_u16 b hb
  clear h
  go_enter Tryz.func66, Tryz.ntmps66
  go_wp2_with fail
  refine H1.out.mono ?_
  rintro e w1 ⟨rfl, r1, g1⟩
  have HF : Hid (Rd R r at' w1 ∧ w.grownBy w1 (some R)) := ⟨r1, g1⟩
  clear r1 g1
  go_wp2
  go_ret
  exact ⟨rfl, HF.out⟩
set_option maxHeartbeats 1000000 in
theorem num_no (R m : Nat) (hm : m = 1 ∨ m = 2 ∨ m = 4) (at' : Int) (w : World) (h : Rd R [] at' w) :
    Calls Tryz.prog 66 #[.pointer (some ⟨R, 0, none⟩), .int .i64 m] w fun e w' => RdP R 6 at' w e w' := by
  have H1 : Hid (Calls Tryz.prog 78 #[.pointer (some ⟨R, 0, none⟩)] w fun e w' => e = tld 6 at' ∧ w = w') := take_no R at' w h
  have HF : Hid (RdP R 6 at' w (tld 6 at') w) := ⟨rfl, gb_refl18 _ _⟩
  unfold tld at H1
  clear h
  rcases hm with rfl | rfl | rfl
  all_goals
    go_enter Tryz.func66, Tryz.ntmps66
    go_wp2_with fail
    refine H1.out.mono ?_
    rintro e w1 ⟨rfl, rfl⟩
    go_wp2
    exact ⟨rfl, HF.out⟩
set_option maxHeartbeats 1000000 in
theorem num2_ok (R a b : Nat) (r : List Nat) (at' : Int) (w : World) (ha : a < 256) (hb : b < 256) (h : Rd R (a :: b :: r) at' w) :
    Calls Tryz.prog 66 #[.pointer (some ⟨R, 0, none⟩), .int .i64 2] w fun e w' => RdN R r at' (vl2 a b) w e w' := by
  have H1 : Hid (Calls Tryz.prog 78 #[.pointer (some ⟨R, 0, none⟩)] w fun e w' => e = .returned (.int .u16 (a : Nat)) ∧ Rd R (b :: r) at' w' ∧ w.grownBy w' (some R)) := take_ok R a (b :: r) at' w ha h
  have o1 := or_u16 a b ha hb
  have Hb : Hid (b < 256) := hb
  obtain ⟨V, hV, HV⟩ : ∃ V, IntKind.i16.wrap ((a * 256 + b : Nat) : Int) = V ∧ Hid (V = vl2 a b) := ⟨_, rfl, by show _ = _; rw [sg16 _ (by omega)]; rfl⟩
  have bV : -32768 ≤ V ∧ V < 32768 := by rw [HV.out]; unfold vl2; split <;> omega
  obtain ⟨S, hS⟩ : ∃ S : Int, ((a * 256 + b : Nat) : Int) = S := ⟨_, rfl⟩
  rw [hS] at o1 hV
  clear h hS hb
  go_enter Tryz.func66, Tryz.ntmps66
  go_wp2_with fail
  refine H1.out.mono ?_
  rintro e w1 ⟨rfl, r1, g1⟩
  have HF : Hid (Rd R (b :: r) at' w1 ∧ w.grownBy w1 (some R)) := ⟨r1, g1⟩
  clear r1 g1 H1
  go_wp2_with fail
  refine (take_ok R b r at' w1 Hb.out HF.out.1).mono ?_
  rintro e w2 ⟨rfl, r2, g2⟩
  have HF2 : Hid (Rd R r at' w2 ∧ w.grownBy w2 (some R)) := ⟨r2, gb_step18 HF.out.2 g2⟩
  clear r2 g2 HF
  go_wp2
  go_ret
  exact ⟨by rw [← HV.out]; rfl, HF2.out⟩
set_option maxHeartbeats 1000000 in
theorem num2_no (R a m : Nat) (hm : m = 2 ∨ m = 4) (at' : Int) (w : World) (ha : a < 256) (h : Rd R [a] at' w) :
    Calls Tryz.prog 66 #[.pointer (some ⟨R, 0, none⟩), .int .i64 m] w fun e w' => RdP R 6 at' w e w' := by
  have H1 : Hid (Calls Tryz.prog 78 #[.pointer (some ⟨R, 0, none⟩)] w fun e w' => e = .returned (.int .u16 (a : Nat)) ∧ Rd R [] at' w' ∧ w.grownBy w' (some R)) := take_ok R a [] at' w ha h
  clear h
  rcases hm with rfl | rfl
  all_goals
    go_enter Tryz.func66, Tryz.ntmps66
    go_wp2_with fail
    refine H1.out.mono ?_
    rintro e w1 ⟨rfl, r1, g1⟩
    have H2 : Hid (Calls Tryz.prog 78 #[.pointer (some ⟨R, 0, none⟩)] w1 fun e w' => e = tld 6 at' ∧ w1 = w') := take_no R at' w1 r1
    have HF : Hid (RdP R 6 at' w (tld 6 at') w1) := ⟨rfl, g1⟩
    unfold tld at H2
    clear r1 g1 H1
    go_wp2_with fail
    refine H2.out.mono ?_
    rintro e w2 ⟨rfl, rfl⟩
    go_wp2
    exact ⟨rfl, HF.out⟩
set_option maxHeartbeats 2000000 in
theorem num4_ok (R a b c d : Nat) (r : List Nat) (at' : Int) (w : World) (ha : a < 256) (hb : b < 256) (hc : c < 256) (hd : d < 256) (h : Rd R (a :: b :: c :: d :: r) at' w) :
    Calls Tryz.prog 66 #[.pointer (some ⟨R, 0, none⟩), .int .i64 4] w fun e w' => RdN R r at' (vl4 a b c d) w e w' := by
  have o1 := or_u16 a b ha hb
  have o2 := or_u16 c d hc hd
  have Ha : Hid (a < 256) := ha
  have Hb : Hid (b < 256) := hb
  have Hc : Hid (c < 256) := hc
  have Hd : Hid (d < 256) := hd
  have H0 : Hid (Rd R (a :: b :: c :: d :: r) at' w) := h
  obtain ⟨V, hV, HV⟩ : ∃ V, IntKind.i16.wrap ((a * 256 + b : Nat) : Int) = V ∧ Hid (V = vl2 a b) := ⟨_, rfl, by show _ = _; rw [sg16 _ (by omega)]; rfl⟩
  have bV : -32768 ≤ V ∧ V < 32768 := by rw [HV.out]; unfold vl2; split <;> omega
  have o3 := or_i64 V (c * 256 + d) bV.1 bV.2 (by omega)
  have bT : ((c * 256 + d : Nat) : Int) < 65536 := by omega
  have bT0 : 0 ≤ ((c * 256 + d : Nat) : Int) := by omega
  obtain ⟨S, hS⟩ : ∃ S : Int, ((a * 256 + b : Nat) : Int) = S := ⟨_, rfl⟩
  obtain ⟨T, hT, HT⟩ : ∃ S : Int, ((c * 256 + d : Nat) : Int) = S ∧ Hid (S = ((c * 256 + d : Nat) : Int)) := ⟨_, rfl, rfl⟩
  rw [hS] at o1 hV
  rw [hT] at o2 o3 bT bT0
  obtain ⟨U, hU, HU⟩ : ∃ U : Int, V * 65536 + T = U ∧ Hid (U = vl4 a b c d) := ⟨_, rfl, by show _ = _; unfold vl4; rw [HV.out, HT.out]⟩
  rw [hU] at o3
  have bU : -2147483648 ≤ U ∧ U < 2147483648 := by omega
  clear h hS hT hb hd hU
  go_enter Tryz.func66, Tryz.ntmps66
  go_wp2_with fail
  refine (take_ok R a (b :: c :: d :: r) at' w Ha.out H0.out).mono ?_
  rintro e w1 ⟨rfl, r1, g1⟩
  have HF1 : Hid (Rd R (b :: c :: d :: r) at' w1 ∧ w.grownBy w1 (some R)) := ⟨r1, g1⟩
  clear r1 g1
  go_wp2_with fail
  refine (take_ok R b (c :: d :: r) at' w1 Hb.out HF1.out.1).mono ?_
  rintro e w2 ⟨rfl, r2, g2⟩
  have HF2 : Hid (Rd R (c :: d :: r) at' w2 ∧ w.grownBy w2 (some R)) := ⟨r2, gb_step18 HF1.out.2 g2⟩
  clear r2 g2
  go_wp2_with fail
  refine (take_ok R c (d :: r) at' w2 Hc.out HF2.out.1).mono ?_
  rintro e w3 ⟨rfl, r3, g3⟩
  have HF3 : Hid (Rd R (d :: r) at' w3 ∧ w.grownBy w3 (some R)) := ⟨r3, gb_step18 HF2.out.2 g3⟩
  clear r3 g3
  go_wp2_with fail
  refine (take_ok R d r at' w3 Hd.out HF3.out.1).mono ?_
  rintro e w4 ⟨rfl, r4, g4⟩
  have HF4 : Hid (Rd R r at' w4 ∧ w.grownBy w4 (some R)) := ⟨r4, gb_step18 HF3.out.2 g4⟩
  clear r4 g4
  clear HF1 HF2 HF3 H0
  go_wp2
  go_ret
  exact ⟨by rw [← HU.out]; rfl, HF4.out⟩
set_option maxHeartbeats 2000000 in
theorem num3_no (R a b : Nat) (at' : Int) (w : World) (ha : a < 256) (hb : b < 256) (h : Rd R [a, b] at' w) :
    Calls Tryz.prog 66 #[.pointer (some ⟨R, 0, none⟩), .int .i64 4] w fun e w' => RdP R 6 at' w e w' := by
  have Ha : Hid (a < 256) := ha
  have Hb : Hid (b < 256) := hb
  have H0 : Hid (Rd R [a, b] at' w) := h
  have o1 := or_u16 a b ha hb
  clear h ha hb
  go_enter Tryz.func66, Tryz.ntmps66
  go_wp2_with fail
  refine (take_ok R a [b] at' w Ha.out H0.out).mono ?_
  rintro e w1 ⟨rfl, r1, g1⟩
  have HF1 : Hid (Rd R [b] at' w1 ∧ w.grownBy w1 (some R)) := ⟨r1, g1⟩
  clear r1 g1
  go_wp2_with fail
  refine (take_ok R b [] at' w1 Hb.out HF1.out.1).mono ?_
  rintro e w2 ⟨rfl, r2, g2⟩
  have HF2 : Hid (Rd R [] at' w2 ∧ w.grownBy w2 (some R)) := ⟨r2, gb_step18 HF1.out.2 g2⟩
  clear r2 g2
  have H2 : Hid (Calls Tryz.prog 78 #[.pointer (some ⟨R, 0, none⟩)] w2 fun e w' => e = tld 6 at' ∧ w2 = w') := take_no R at' w2 HF2.out.1
  have HF : Hid (RdP R 6 at' w (tld 6 at') w2) := ⟨rfl, HF2.out.2⟩
  unfold tld at H2
  clear HF1 HF2 H0
  go_wp2_with fail
  refine H2.out.mono ?_
  rintro e w3 ⟨rfl, rfl⟩
  go_wp2
  exact ⟨rfl, HF.out⟩
set_option maxHeartbeats 2000000 in
theorem num4_no (R a b c : Nat) (at' : Int) (w : World) (ha : a < 256) (hb : b < 256) (hc : c < 256) (h : Rd R [a, b, c] at' w) :
    Calls Tryz.prog 66 #[.pointer (some ⟨R, 0, none⟩), .int .i64 4] w fun e w' => RdP R 6 at' w e w' := by
  have Ha : Hid (a < 256) := ha
  have Hb : Hid (b < 256) := hb
  have Hc : Hid (c < 256) := hc
  have H0 : Hid (Rd R [a, b, c] at' w) := h
  have o1 := or_u16 a b ha hb
  clear h ha hb hc
  go_enter Tryz.func66, Tryz.ntmps66
  go_wp2_with fail
  refine (take_ok R a [b, c] at' w Ha.out H0.out).mono ?_
  rintro e w1 ⟨rfl, r1, g1⟩
  have HF1 : Hid (Rd R [b, c] at' w1 ∧ w.grownBy w1 (some R)) := ⟨r1, g1⟩
  clear r1 g1
  go_wp2_with fail
  refine (take_ok R b [c] at' w1 Hb.out HF1.out.1).mono ?_
  rintro e w2 ⟨rfl, r2, g2⟩
  have HF2 : Hid (Rd R [c] at' w2 ∧ w.grownBy w2 (some R)) := ⟨r2, gb_step18 HF1.out.2 g2⟩
  clear r2 g2
  go_wp2_with fail
  refine (take_ok R c [] at' w2 Hc.out HF2.out.1).mono ?_
  rintro e w3 ⟨rfl, r3, g3⟩
  have HF3 : Hid (Rd R [] at' w3 ∧ w.grownBy w3 (some R)) := ⟨r3, gb_step18 HF2.out.2 g3⟩
  clear r3 g3
  have H2 : Hid (Calls Tryz.prog 78 #[.pointer (some ⟨R, 0, none⟩)] w3 fun e w' => e = tld 6 at' ∧ w3 = w') := take_no R at' w3 HF3.out.1
  have HF : Hid (RdP R 6 at' w (tld 6 at') w3) := ⟨rfl, HF3.out.2⟩
  unfold tld at H2
  clear HF1 HF2 HF3 H0
  go_wp2_with fail
  refine H2.out.mono ?_
  rintro e w4 ⟨rfl, rfl⟩
  go_wp2
  exact ⟨rfl, HF.out⟩

/-- A number of m bytes off the rest, or none. -/
def numM (m : Nat) (r : List Nat) : Option (Int × List Nat) :=
  match m, r with
  | 1, a :: r => some (vl1 a, r)
  | 2, a :: b :: r => some (vl2 a b, r)
  | 4, a :: b :: c :: d :: r => some (vl4 a b c d, r)
  | _, _ => none
theorem number_ok {R m : Nat} {r r' : List Nat} {at' v : Int} (w : World) (hr : ∀ b ∈ r, b < 256) (hn : numM m r = some (v, r')) (h : Rd R r at' w) :
    Calls Tryz.prog 66 #[.pointer (some ⟨R, 0, none⟩), .int .i64 m] w fun e w' => RdN R r' at' v w e w' := by
  unfold numM at hn
  split at hn
  · cases hn; exact num1_ok R _ _ at' w (hr _ (by simp)) h
  · cases hn; exact num2_ok R _ _ _ at' w (hr _ (by simp)) (hr _ (by simp)) h
  · cases hn; exact num4_ok R _ _ _ _ _ at' w (hr _ (by simp)) (hr _ (by simp)) (hr _ (by simp)) (hr _ (by simp)) h
  · cases hn
theorem number_no {R m : Nat} {r : List Nat} {at' : Int} (w : World) (hm : m = 1 ∨ m = 2 ∨ m = 4) (hr : ∀ b ∈ r, b < 256) (hn : numM m r = none) (h : Rd R r at' w) :
    Calls Tryz.prog 66 #[.pointer (some ⟨R, 0, none⟩), .int .i64 m] w fun e w' => RdP R 6 at' w e w' := by
  rcases r with _ | ⟨a, _ | ⟨b, _ | ⟨c, _ | ⟨d, r⟩⟩⟩⟩
  · exact num_no R m hm at' w h
  · rcases hm with rfl | rfl | rfl
    · simp [numM] at hn
    · exact num2_no R a 2 (.inl rfl) at' w (hr _ (by simp)) h
    · exact num2_no R a 4 (.inr rfl) at' w (hr _ (by simp)) h
  · rcases hm with rfl | rfl | rfl
    · simp [numM] at hn
    · simp [numM] at hn
    · exact num3_no R a b at' w (hr _ (by simp)) (hr _ (by simp)) h
  · rcases hm with rfl | rfl | rfl
    · simp [numM] at hn
    · simp [numM] at hn
    · exact num4_no R a b c at' w (hr _ (by simp)) (hr _ (by simp)) (hr _ (by simp)) h
  · rcases hm with rfl | rfl | rfl <;> simp [numM] at hn
end Go.Proofs.YtcihplachlokiaaGreatDoor
/- Operands read: the program's operand. -/
namespace Go.Proofs.YtcihplachlokiaaGreatDoor
open Go.RowKit Go.Shelf
set_option linter.unusedVariables false
set_option linter.unusedSimpArgs false

def argM (r : List Nat) : Int ⊕ (ArgT × List Nat) :=
  match numM 1 r with
  | none => .inl 6
  | some (k, r1) =>
    if wdT k = 0 then .inl 3 else
    match numM (wdT k) r1 with
    | none => .inl 6
    | some (n, r2) =>
      if k = 12 then
        match numM 1 r2 with
        | none => .inl 6
        | some (p, r3) => .inr ((k, n, p), r3)
      else .inr ((k, n, 0), r2)
theorem numM_sub {m : Nat} {r r' : List Nat} {v : Int} (h : numM m r = some (v, r')) : ∀ b ∈ r', b ∈ r := by
  unfold numM at h
  split at h
  · cases h; intro b hb; simp [hb]
  · cases h; intro b hb; simp [hb]
  · cases h; intro b hb; simp [hb]
  · cases h
theorem wd_124 {k : Int} (h : wdT k ≠ 0) : wdT k = 1 ∨ wdT k = 2 ∨ wdT k = 4 := by
  unfold wdT at h ⊢
  by_cases h1 : k < 1 ∨ 13 < k
  · rw [if_pos h1] at h; exact absurd rfl h
  · rw [if_neg h1]
    by_cases h2 : k = 12
    · rw [if_pos h2]; omega
    · rw [if_neg h2]
      by_cases h3 : k = 11
      · rw [if_pos h3]; omega
      · rw [if_neg h3]; omega
theorem box3 {W : World} {B : Nat} {x y z : Value} {t : TypeId} (h : W.heap[B]? = some (.cells #[x, y, z] t (0, 0))) : W.cell? ⟨B, 0, none⟩ = some x ∧ W.cell? ⟨B, 1, none⟩ = some y ∧ W.cell? ⟨B, 2, none⟩ = some z ∧ W.frozen? ⟨B, 0, none⟩ = false ∧ W.frozen? ⟨B, 1, none⟩ = false ∧ W.frozen? ⟨B, 2, none⟩ = false :=
  ⟨(cell_of_row _ _ _ _ _ _ h).trans rfl, (cell_of_row _ _ _ _ _ _ h).trans rfl, (cell_of_row _ _ _ _ _ _ h).trans rfl, by simp [World.frozen?, h], by simp [World.frozen?, h], by simp [World.frozen?, h]⟩
theorem gb_al (w : World) (o : Obj) (row : Option Nat) : w.grownBy (w.alloc o) row := ⟨rfl, rfl, rfl, by simp, fun k hk _ => Below.heap_alloc w o k hk⟩
/-- One's own new blocks may be written: for what stood before, nothing changes. -/
theorem gb_new {w a : World} {g : Nat} (h : w.grownBy a (some g)) (b : Nat) (hb : w.heap.size ≤ b) (o : Nat) (v : Value) : w.grownBy (a.setCell ⟨b, o, none⟩ v) (some g) :=
  ⟨h.os, h.tape, h.output, by simpa using h.size, fun k hk hne => (Below.heap_setCell _ _ _ k (by show k ≠ b; omega)).trans (h.block k hk hne)⟩
/-- A box that is not the reader's stands while numbers are read. -/
theorem gb_row {w w' : World} {R B : Nat} {o : Obj} (g : w.grownBy w' (some R)) (h : w.heap[B]? = some o) (hne : B ≠ R) : w'.heap[B]? = some o :=
  (g.block B (Array.getElem?_eq_some_iff.1 h).1 (by simpa using hne)).trans h

theorem infoDA : (Tryz.prog.info? 72).map (·.size) = some 3 := by kernel_rfl
theorem opr_fin {R : Nat} {r : List Nat} {at' k n p : Int} {w W : World} (h1 : Rd R r at' W ∧ R < w.heap.size) (h2 : W.heap[w.heap.size]? = some (.cells #[.int .i64 0, .int .i64 0, .int .i64 0] 72 (0, 0)) ∧ w.grownBy W (some R)) :
    (((W.setCell ⟨w.heap.size, 0, none⟩ (.int .i64 k)).setCell ⟨w.heap.size, 1, none⟩ (.int .i64 n)).setCell ⟨w.heap.size, 2, none⟩ (.int .i64 p)).heap[w.heap.size]? = some (.cells #[.int .i64 k, .int .i64 n, .int .i64 p] 72 (0, 0)) ∧
    Rd R r at' (((W.setCell ⟨w.heap.size, 0, none⟩ (.int .i64 k)).setCell ⟨w.heap.size, 1, none⟩ (.int .i64 n)).setCell ⟨w.heap.size, 2, none⟩ (.int .i64 p)) ∧
    w.grownBy (((W.setCell ⟨w.heap.size, 0, none⟩ (.int .i64 k)).setCell ⟨w.heap.size, 1, none⟩ (.int .i64 n)).setCell ⟨w.heap.size, 2, none⟩ (.int .i64 p)) (some R) :=
  ⟨row_put (row_put (row_put h2.1 0 _) 1 _) 2 _, ((h1.1.set _ 0 _ h1.2).set _ 1 _ h1.2).set _ 2 _ h1.2, gb_new (gb_new (gb_new h2.2 _ (Nat.le_refl _) _ _) _ (Nat.le_refl _) _ _) _ (Nat.le_refl _) _ _⟩

set_option maxRecDepth 10000 in
set_option maxHeartbeats 4000000 in
theorem opr_ok (R : Nat) (r r' : List Nat) (at' : Int) (x : ArgT) (w : World) (hr : ∀ b ∈ r, b < 256) (ha : argM r = .inr (x, r')) (h : Rd R r at' w) :
    Calls Tryz.prog 67 #[.pointer (some ⟨R, 0, none⟩)] w fun e w' => e = .returned (.agg #[.int .i64 x.1, .int .i64 x.2.1, .int .i64 x.2.2]) ∧ Rd R r' at' w' ∧ w.grownBy w' (some R) := by
  unfold argM at ha
  cases h1 : numM 1 r with
  | none => rw [h1] at ha; cases ha
  | some q1 =>
    obtain ⟨k, r1⟩ := q1
    rw [h1] at ha
    simp only [] at ha
    by_cases hw : wdT k = 0
    · rw [if_pos hw] at ha; cases ha
    · rw [if_neg hw] at ha
      cases h2 : numM (wdT k) r1 with
      | none => rw [h2] at ha; cases ha
      | some q2 =>
        obtain ⟨n, r2⟩ := q2
        rw [h2] at ha
        simp only [] at ha
        have hr1 : ∀ b ∈ r1, b < 256 := fun b hb => hr b (numM_sub h1 b hb)
        have hr2 : ∀ b ∈ r2, b < 256 := fun b hb => hr1 b (numM_sub h2 b hb)
        have HN1 : Hid (∀ W, Rd R r at' W → Calls Tryz.prog 66 #[.pointer (some ⟨R, 0, none⟩), .int .i64 1] W fun e w' => RdN R r1 at' k W e w') := fun W h => number_ok (m := 1) W hr h1 h
        have HW : Hid (∀ W, Calls Tryz.prog 65 #[.int .i64 k] W fun e w' => e = .returned (.int .i64 (wdT k : Nat)) ∧ W = w') := fun W => wd_i k W
        have HN2 : Hid (∀ W, Rd R r1 at' W → Calls Tryz.prog 66 #[.pointer (some ⟨R, 0, none⟩), .int .i64 (wdT k : Nat)] W fun e w' => RdN R r2 at' n W e w') := fun W h => number_ok (m := wdT k) W hr1 h2 h
        obtain ⟨M, HM⟩ : ∃ M : Int, Hid (M = (wdT k : Nat)) := ⟨_, rfl⟩
        have eM : (M == 0) = false := by rw [HM.out]; simp; omega
        rw [← HM.out] at HW HN2
        have hlt := h.lt
        have HR0 : Hid (Rd R r at' (w.alloc (.cells #[.int .i64 0, .int .i64 0, .int .i64 0] 72)) ∧ R < w.heap.size) := ⟨h.later ((Below.refl _ _).alloc (Nat.le_refl _) _), h.lt⟩
        have HB0 : Hid ((w.alloc (.cells #[.int .i64 0, .int .i64 0, .int .i64 0] 72)).heap[w.heap.size]? = some (.cells #[.int .i64 0, .int .i64 0, .int .i64 0] 72 (0, 0)) ∧ w.grownBy (w.alloc (.cells #[.int .i64 0, .int .i64 0, .int .i64 0] 72)) (some R) ∧ (w.alloc (.cells #[.int .i64 0, .int .i64 0, .int .i64 0] 72)).heap.size = w.heap.size + 1) := ⟨heap_alloc_last _ _, gb_al _ _ _, by simp⟩
        clear h hw hr hlt h1 h2
        go_enter Tryz.func67, Tryz.ntmps67
        go_upto_region 1 with fail
        generalize (w.alloc (.cells #[.int .i64 0, .int .i64 0, .int .i64 0] 72)) = W0 at HR0 HB0 ⊢
        go_wp2_with fail
        refine (HN1.out W0 HR0.out.1).mono ?_
        rintro e w1 ⟨rfl, d1, g1⟩
        have gA : Below w1.heap.size w1 (w1.alloc (.cells #[.int .i64 k, .int .i64 0, .int .i64 0] 72)) := (Below.refl _ _).alloc (Nat.le_refl _) _
        have HR1 : Hid (Rd R r1 at' (w1.alloc (.cells #[.int .i64 k, .int .i64 0, .int .i64 0] 72)) ∧ R < w.heap.size ∧ w.heap.size < w1.heap.size) := ⟨d1.later gA, HR0.out.2, by have := g1.size; have := HB0.out.2.2; omega⟩
        have HB1 : Hid ((w1.alloc (.cells #[.int .i64 k, .int .i64 0, .int .i64 0] 72)).heap[w.heap.size]? = some (.cells #[.int .i64 0, .int .i64 0, .int .i64 0] 72 (0, 0)) ∧ w.grownBy (w1.alloc (.cells #[.int .i64 k, .int .i64 0, .int .i64 0] 72)) (some R) ∧ (w1.alloc (.cells #[.int .i64 k, .int .i64 0, .int .i64 0] 72)).heap[w1.heap.size]? = some (.cells #[.int .i64 k, .int .i64 0, .int .i64 0] 72 (0, 0))) :=
          ⟨(gA.block _ (by have := HR1.out.2.2; omega)).trans (gb_row g1 HB0.out.1 (by have := HR0.out.2; omega)), gb_step18 (gb_step18 HB0.out.2.1 g1) (gb_al _ _ _), heap_alloc_last _ _⟩
        clear d1 g1 gA HR0 HB0 HN1
        obtain ⟨B3, hB3, HB3⟩ : ∃ B, w1.heap.size = B ∧ Hid (w.heap.size < B) := ⟨_, rfl, HR1.out.2.2⟩
        rw [hB3] at HB1
        go_upto_region 2 with fail
        generalize (w1.alloc (.cells #[.int .i64 k, .int .i64 0, .int .i64 0] 72)) = W1 at HR1 HB1 ⊢
        have HR2 : Hid (Rd R r1 at' W1 ∧ R < w.heap.size) := ⟨HR1.out.1, HR1.out.2.1⟩
        clear hB3 HR1
        obtain ⟨x0, x1, x2, y0, y1, y2⟩ := box3 HB1.out.2.2
        go_wp2_with fail
        refine (HW.out W1).mono ?_
        rintro e w2 ⟨rfl, rfl⟩
        go_wp2_with fail
        refine (HN2.out W1 HR2.out.1).mono ?_
        rintro e w2 ⟨rfl, d2, g2⟩
        have k3 := gb_row g2 HB1.out.2.2 (by have := HB3.out; have := HR2.out.2; omega)
        have HR3 : Hid (Rd R r2 at' (w2.setCell ⟨B3, 1, none⟩ (.int .i64 n)) ∧ R < w.heap.size) := ⟨d2.set B3 1 _ (by have := HB3.out; have := HR2.out.2; omega), HR2.out.2⟩
        have HB2 : Hid ((w2.setCell ⟨B3, 1, none⟩ (.int .i64 n)).heap[w.heap.size]? = some (.cells #[.int .i64 0, .int .i64 0, .int .i64 0] 72 (0, 0)) ∧ w.grownBy (w2.setCell ⟨B3, 1, none⟩ (.int .i64 n)) (some R) ∧ (w2.setCell ⟨B3, 1, none⟩ (.int .i64 n)).heap[B3]? = some (.cells #[.int .i64 k, .int .i64 n, .int .i64 0] 72 (0, 0))) :=
          ⟨row_other (gb_row g2 HB1.out.1 (by have := HR2.out.2; omega)) _ _ (by have := HB3.out; omega) _, gb_new (gb_step18 HB1.out.2.1 g2) B3 (by have := HB3.out; omega) _ _, row_put k3 1 (.int .i64 n)⟩
        obtain ⟨x0, x1, x2, y0, y1, y2⟩ := box3 k3
        clear d2 g2 HR2 HB1 HN2 HW k3
        by_cases h12 : k = 12
        · rw [if_pos h12] at ha
          cases h3 : numM 1 r2 with
          | none => rw [h3] at ha; cases ha
          | some q3 =>
            obtain ⟨p, r3⟩ := q3
            rw [h3] at ha
            cases ha
            have HN3 : Hid (∀ W, Rd R r2 at' W → Calls Tryz.prog 66 #[.pointer (some ⟨R, 0, none⟩), .int .i64 1] W fun e w' => RdN R r' at' p W e w') := fun W h => number_ok (m := 1) W hr2 h3 h
            have e1 : (k == 12) = true := by simpa using h12
            clear h3 h12
            go_upto_region 6 with fail
            generalize (w2.setCell ⟨B3, 1, none⟩ (.int .i64 n)) = W3 at HR3 HB2 ⊢
            clear x0 x1 x2 y0 y1 y2
            obtain ⟨x0, x1, x2, y0, y1, y2⟩ := box3 HB2.out.2.2
            go_wp2_with fail
            refine (HN3.out W3 HR3.out.1).mono ?_
            rintro e w4 ⟨rfl, d4, g4⟩
            have k4 := gb_row g4 HB2.out.2.2 (by have := HB3.out; have := HR3.out.2; omega)
            have HR4 : Hid (Rd R r' at' (w4.setCell ⟨B3, 2, none⟩ (.int .i64 p)) ∧ R < w.heap.size) := ⟨d4.set B3 2 _ (by have := HB3.out; have := HR3.out.2; omega), HR3.out.2⟩
            have HB4 : Hid ((w4.setCell ⟨B3, 2, none⟩ (.int .i64 p)).heap[w.heap.size]? = some (.cells #[.int .i64 0, .int .i64 0, .int .i64 0] 72 (0, 0)) ∧ w.grownBy (w4.setCell ⟨B3, 2, none⟩ (.int .i64 p)) (some R) ∧ (w4.setCell ⟨B3, 2, none⟩ (.int .i64 p)).heap[B3]? = some (.cells #[.int .i64 k, .int .i64 n, .int .i64 p] 72 (0, 0))) :=
              ⟨row_other (gb_row g4 HB2.out.1 (by have := HR3.out.2; omega)) _ _ (by have := HB3.out; omega) _, gb_new (gb_step18 HB2.out.2.1 g4) B3 (by have := HB3.out; omega) _ _, row_put k4 2 (.int .i64 p)⟩
            clear x0 x1 x2 y0 y1 y2
            obtain ⟨x0, x1, x2, y0, y1, y2⟩ := box3 k4
            clear d4 g4 HR3 HB2 HN3 k4
            go_upto_region 8 with fail
            generalize (w4.setCell ⟨B3, 2, none⟩ (.int .i64 p)) = W4 at HR4 HB4 ⊢
            clear x0 x1 x2 y0 y1 y2
            obtain ⟨z0, z1, z2, u0, u1, u2⟩ := box3 HB4.out.1
            obtain ⟨x0, x1, x2, _, _, _⟩ := box3 HB4.out.2.2
            have HFin := opr_fin (k := k) (n := n) (p := p) HR4.out ⟨HB4.out.1, HB4.out.2.1⟩
            have HFn : Hid (Rd R r' at' (((W4.setCell ⟨w.heap.size, 0, none⟩ (.int .i64 k)).setCell ⟨w.heap.size, 1, none⟩ (.int .i64 n)).setCell ⟨w.heap.size, 2, none⟩ (.int .i64 p)) ∧ w.grownBy (((W4.setCell ⟨w.heap.size, 0, none⟩ (.int .i64 k)).setCell ⟨w.heap.size, 1, none⟩ (.int .i64 n)).setCell ⟨w.heap.size, 2, none⟩ (.int .i64 p)) (some R)) := HFin.2
            have HRow := HFin.1
            clear HFin HB4 HR4
            go_wp2
            refine ret_row rfl rfl HRow Tryz.underlying72 rfl infoDA rfl ?_
            exact ⟨rfl, HFn.out⟩
        · have e1 : (k == 12) = false := by simpa using h12
          rw [if_neg h12] at ha
          cases ha
          clear h12
          go_upto_region 8 with fail
          generalize (w2.setCell ⟨B3, 1, none⟩ (.int .i64 n)) = W4 at HR3 HB2 ⊢
          have HR4 : Hid (Rd R r' at' W4 ∧ R < w.heap.size) := HR3
          have HB4 : Hid (W4.heap[w.heap.size]? = some (.cells #[.int .i64 0, .int .i64 0, .int .i64 0] 72 (0, 0)) ∧ w.grownBy W4 (some R) ∧ W4.heap[B3]? = some (.cells #[.int .i64 k, .int .i64 n, .int .i64 0] 72 (0, 0))) := HB2
          clear HR3 HB2 x0 x1 x2 y0 y1 y2
          obtain ⟨z0, z1, z2, u0, u1, u2⟩ := box3 HB4.out.1
          obtain ⟨x0, x1, x2, _, _, _⟩ := box3 HB4.out.2.2
          have HFin := opr_fin (k := k) (n := n) (p := 0) HR4.out ⟨HB4.out.1, HB4.out.2.1⟩
          have HFn : Hid (Rd R r' at' (((W4.setCell ⟨w.heap.size, 0, none⟩ (.int .i64 k)).setCell ⟨w.heap.size, 1, none⟩ (.int .i64 n)).setCell ⟨w.heap.size, 2, none⟩ (.int .i64 0)) ∧ w.grownBy (((W4.setCell ⟨w.heap.size, 0, none⟩ (.int .i64 k)).setCell ⟨w.heap.size, 1, none⟩ (.int .i64 n)).setCell ⟨w.heap.size, 2, none⟩ (.int .i64 0)) (some R)) := HFin.2
          have HRow := HFin.1
          clear HFin HB4 HR4
          go_wp2
          refine ret_row rfl rfl HRow Tryz.underlying72 rfl infoDA rfl ?_
          exact ⟨rfl, HFn.out⟩
end Go.Proofs.YtcihplachlokiaaGreatDoor
/- Operands that cannot be read. -/
namespace Go.Proofs.YtcihplachlokiaaGreatDoor
open Go.RowKit Go.Shelf
set_option linter.unusedVariables false
set_option linter.unusedSimpArgs false

set_option maxRecDepth 10000 in
set_option maxHeartbeats 4000000 in
theorem opr_no (R : Nat) (r : List Nat) (at' c : Int) (w : World) (hr : ∀ b ∈ r, b < 256) (ha : argM r = .inl c) (h : Rd R r at' w) :
    Calls Tryz.prog 67 #[.pointer (some ⟨R, 0, none⟩)] w fun e w' => RdP R c at' w e w' := by
  unfold argM at ha
  have HR0 : Hid (Rd R r at' (w.alloc (.cells #[.int .i64 0, .int .i64 0, .int .i64 0] 72)) ∧ R < w.heap.size) := ⟨h.later ((Below.refl _ _).alloc (Nat.le_refl _) _), h.lt⟩
  have HB0 : Hid ((w.alloc (.cells #[.int .i64 0, .int .i64 0, .int .i64 0] 72)).heap[w.heap.size]? = some (.cells #[.int .i64 0, .int .i64 0, .int .i64 0] 72 (0, 0)) ∧ w.grownBy (w.alloc (.cells #[.int .i64 0, .int .i64 0, .int .i64 0] 72)) (some R) ∧ (w.alloc (.cells #[.int .i64 0, .int .i64 0, .int .i64 0] 72)).heap.size = w.heap.size + 1) := ⟨heap_alloc_last _ _, gb_al _ _ _, by simp⟩
  clear h
  cases h1 : numM 1 r with
  | none =>
    rw [h1] at ha
    cases ha
    have HN1 : Hid (∀ W, Rd R r at' W → Calls Tryz.prog 66 #[.pointer (some ⟨R, 0, none⟩), .int .i64 1] W fun e w' => RdP R 6 at' W e w') := fun W h => number_no (m := 1) W (.inl rfl) hr h1 h
    clear h1 hr
    go_enter Tryz.func67, Tryz.ntmps67
    go_upto_region 1 with fail
    generalize (w.alloc (.cells #[.int .i64 0, .int .i64 0, .int .i64 0] 72)) = W0 at HR0 HB0 ⊢
    go_wp2_with fail
    refine (HN1.out W0 HR0.out.1).mono ?_
    rintro e w1 ⟨rfl, g1⟩
    have HF : Hid (RdP R 6 at' w (tld 6 at') w1) := ⟨rfl, gb_step18 HB0.out.2.1 g1⟩
    unfold tld at HF ⊢
    clear g1
    go_wp2
    exact ⟨rfl, HF.out⟩
  | some q1 =>
    obtain ⟨k, r1⟩ := q1
    rw [h1] at ha
    simp only [] at ha
    have hr1 : ∀ b ∈ r1, b < 256 := fun b hb => hr b (numM_sub h1 b hb)
    have HN1 : Hid (∀ W, Rd R r at' W → Calls Tryz.prog 66 #[.pointer (some ⟨R, 0, none⟩), .int .i64 1] W fun e w' => RdN R r1 at' k W e w') := fun W h => number_ok (m := 1) W hr h1 h
    have HW : Hid (∀ W, Calls Tryz.prog 65 #[.int .i64 k] W fun e w' => e = .returned (.int .i64 (wdT k : Nat)) ∧ W = w') := fun W => wd_i k W
    obtain ⟨M, HM⟩ : ∃ M : Int, Hid (M = (wdT k : Nat)) := ⟨_, rfl⟩
    rw [← HM.out] at HW
    clear h1
    go_enter Tryz.func67, Tryz.ntmps67
    go_upto_region 1 with fail
    generalize (w.alloc (.cells #[.int .i64 0, .int .i64 0, .int .i64 0] 72)) = W0 at HR0 HB0 ⊢
    go_wp2_with fail
    refine (HN1.out W0 HR0.out.1).mono ?_
    rintro e w1 ⟨rfl, d1, g1⟩
    have gA : Below w1.heap.size w1 (w1.alloc (.cells #[.int .i64 k, .int .i64 0, .int .i64 0] 72)) := (Below.refl _ _).alloc (Nat.le_refl _) _
    have HR1 : Hid (Rd R r1 at' (w1.alloc (.cells #[.int .i64 k, .int .i64 0, .int .i64 0] 72)) ∧ R < w.heap.size ∧ w.heap.size < w1.heap.size) := ⟨d1.later gA, HR0.out.2, by have := g1.size; have := HB0.out.2.2; omega⟩
    have HB1 : Hid (w.grownBy (w1.alloc (.cells #[.int .i64 k, .int .i64 0, .int .i64 0] 72)) (some R) ∧ (w1.alloc (.cells #[.int .i64 k, .int .i64 0, .int .i64 0] 72)).heap[w1.heap.size]? = some (.cells #[.int .i64 k, .int .i64 0, .int .i64 0] 72 (0, 0))) :=
      ⟨gb_step18 (gb_step18 HB0.out.2.1 g1) (gb_al _ _ _), heap_alloc_last _ _⟩
    clear d1 g1 gA HR0 HB0 HN1
    obtain ⟨B3, hB3, HB3⟩ : ∃ B, w1.heap.size = B ∧ Hid (w.heap.size < B) := ⟨_, rfl, HR1.out.2.2⟩
    rw [hB3] at HB1
    go_upto_region 2 with fail
    generalize (w1.alloc (.cells #[.int .i64 k, .int .i64 0, .int .i64 0] 72)) = W1 at HR1 HB1 ⊢
    have HR2 : Hid (Rd R r1 at' W1 ∧ R < w.heap.size) := ⟨HR1.out.1, HR1.out.2.1⟩
    clear hB3 HR1
    obtain ⟨x0, x1, x2, y0, y1, y2⟩ := box3 HB1.out.2
    go_wp2_with fail
    refine (HW.out W1).mono ?_
    rintro e w2 ⟨rfl, rfl⟩
    by_cases hw : wdT k = 0
    · rw [if_pos hw] at ha
      cases ha
      have eM : (M == 0) = true := by rw [HM.out, hw]; rfl
      have HT : Hid (Calls Tryz.prog 48 #[.pointer (some ⟨R, 0, none⟩), .int .i64 3] W1 fun e w' => e = tld 3 at' ∧ W1 = w') := tell_i R r1 at' 3 W1 HR2.out.1
      have HF : Hid (RdP R 3 at' w (tld 3 at') W1) := ⟨rfl, HB1.out.1⟩
      unfold tld at HT HF
      clear hw
      go_wp2_with fail
      refine HT.out.mono ?_
      rintro e w3 ⟨rfl, rfl⟩
      go_wp2
      exact ⟨rfl, HF.out⟩
    · rw [if_neg hw] at ha
      have eM : (M == 0) = false := by rw [HM.out]; simp; omega
      cases h2 : numM (wdT k) r1 with
      | none =>
        rw [h2] at ha
        cases ha
        have HN2 : Hid (Calls Tryz.prog 66 #[.pointer (some ⟨R, 0, none⟩), .int .i64 (wdT k : Nat)] W1 fun e w' => RdP R 6 at' W1 e w') := number_no (m := wdT k) W1 (wd_124 hw) hr1 h2 HR2.out.1
        rw [← HM.out] at HN2
        clear hw h2
        go_wp2_with fail
        refine HN2.out.mono ?_
        rintro e w2 ⟨rfl, g2⟩
        have HF : Hid (RdP R 6 at' w (tld 6 at') w2) := ⟨rfl, gb_step18 HB1.out.1 g2⟩
        unfold tld at HF ⊢
        clear g2
        go_wp2
        exact ⟨rfl, HF.out⟩
      | some q2 =>
        obtain ⟨n, r2⟩ := q2
        rw [h2] at ha
        simp only [] at ha
        by_cases h12 : k = 12
        · rw [if_pos h12] at ha
          cases h3 : numM 1 r2 with
          | some q3 => rw [h3] at ha; cases ha
          | none =>
            rw [h3] at ha
            cases ha
            have hr2 : ∀ b ∈ r2, b < 256 := fun b hb => hr1 b (numM_sub h2 b hb)
            have HN2 : Hid (Calls Tryz.prog 66 #[.pointer (some ⟨R, 0, none⟩), .int .i64 (wdT k : Nat)] W1 fun e w' => RdN R r2 at' n W1 e w') := number_ok (m := wdT k) W1 hr1 h2 HR2.out.1
            rw [← HM.out] at HN2
            have HN3 : Hid (∀ W, Rd R r2 at' W → Calls Tryz.prog 66 #[.pointer (some ⟨R, 0, none⟩), .int .i64 1] W fun e w' => RdP R 6 at' W e w') := fun W h => number_no (m := 1) W (.inl rfl) hr2 h3 h
            have e1 : (k == 12) = true := by simpa using h12
            clear hw h2 h3 h12 hr2
            go_wp2_with fail
            refine HN2.out.mono ?_
            rintro e w2 ⟨rfl, d2, g2⟩
            have k3 := gb_row g2 HB1.out.2 (by have := HB3.out; have := HR2.out.2; omega)
            have HR3 : Hid (Rd R r2 at' (w2.setCell ⟨B3, 1, none⟩ (.int .i64 n)) ∧ w.grownBy (w2.setCell ⟨B3, 1, none⟩ (.int .i64 n)) (some R) ∧ (w2.setCell ⟨B3, 1, none⟩ (.int .i64 n)).heap[B3]? = some (.cells #[.int .i64 k, .int .i64 n, .int .i64 0] 72 (0, 0))) := ⟨d2.set B3 1 _ (by have := HB3.out; have := HR2.out.2; omega), gb_new (gb_step18 HB1.out.1 g2) B3 (by have := HB3.out; omega) _ _, row_put k3 1 (.int .i64 n)⟩
            obtain ⟨x0, x1, x2, y0, y1, y2⟩ := box3 k3
            clear d2 g2 HR2 HB1 HN2 HW k3
            go_upto_region 6 with fail
            generalize (w2.setCell ⟨B3, 1, none⟩ (.int .i64 n)) = W3 at HR3 ⊢
            clear x0 x1 x2 y0 y1 y2
            obtain ⟨x0, x1, x2, y0, y1, y2⟩ := box3 HR3.out.2.2
            go_wp2_with fail
            refine (HN3.out W3 HR3.out.1).mono ?_
            rintro e w4 ⟨rfl, g4⟩
            have HF : Hid (RdP R 6 at' w (tld 6 at') w4) := ⟨rfl, gb_step18 HR3.out.2.1 g4⟩
            unfold tld at HF ⊢
            clear g4
            go_wp2
            exact ⟨rfl, HF.out⟩
        · rw [if_neg h12] at ha
          cases ha
end Go.Proofs.YtcihplachlokiaaGreatDoor
