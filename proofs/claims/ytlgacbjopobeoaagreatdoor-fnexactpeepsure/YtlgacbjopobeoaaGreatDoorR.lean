/- The specification's reader of codes: numbers and texts out of a code, whatever the code. Made by wip/tools/gen_reader.py. -/
import Derived.Test.YtlgacbjopobeoaaGreatDoorDaM
import Derived.Deep.Light
import Derived.Deep.AppendLies
import Derived.WalkSpells
import Derived.Maps.Range
import Derived.Maps.AppendAt
namespace Go.Proofs.YtlgacbjopobeoaaGreatDoor
open Go.RowKit
set_option linter.unusedVariables false

theorem gb_set {w w' : World} {b : Nat} (h : w.grownBy w' (some b)) (o : Nat) (v : Value) : w.grownBy (w'.setCell ⟨b, o, none⟩ v) (some b) :=
  ⟨h.os, h.tape, h.output, by simpa using h.size, fun k hk hne => (Below.heap_setCell w' ⟨b, o, none⟩ v k (fun e => hne (by simp [e]))).trans (h.block k hk hne)⟩
theorem gb_drew {w w' : World} {row : Option Nat} (h : w.grownBy w' row) : w.grownBy w'.drew row := ⟨h.os, h.tape, h.output, h.size, h.block⟩
theorem gb_drewN {w w' : World} {row : Option Nat} (h : w.grownBy w' row) (n : Nat) : w.grownBy (w'.drewN n) row := ⟨h.os, h.tape, h.output, h.size, h.block⟩
theorem gb_refl (w : World) (row : Option Nat) : w.grownBy w row := ⟨rfl, rfl, rfl, Nat.le_refl _, fun _ _ _ => rfl⟩
theorem gb_below {w w' : World} (h : Below w.heap.size w w') : w.grownBy w' none := ⟨h.os, h.tape, h.output, h.size, fun k hk _ => h.block k hk⟩
/-- The code that a reader reads: nothing, or a row of bytes. -/
structure Src (w : World) (a : Option Addr) (len blk off : Nat) (z : Nat → Int) : Prop where
  at_ : 0 < len → a = some ⟨blk, off, none⟩
  byte : ∀ j, j < len → w.cell? ⟨blk, off + j, none⟩ = some (.int .u8 (z j))
  fits : ∀ j, 0 ≤ z j ∧ z j ≤ 255
  short : len ≤ 2000
/-- A reader at R, so many numbers read. -/
structure Rd (w : World) (R : Nat) (a : Option Addr) (len cap : Nat) (p : Nat) : Prop where
  c0 : w.cell? ⟨R, 0, none⟩ = some (.slice a len cap)
  c1 : w.cell? ⟨R, 1, none⟩ = some (.int .i64 p)
  f1 : w.frozen? ⟨R, 1, none⟩ = false
theorem Rd.set {w : World} {R : Nat} {a : Option Addr} {len cap p : Nat} (h : Rd w R a len cap p) (q : Int) (p' : Nat) (e : q = p') : Rd (w.setCell ⟨R, 1, none⟩ (.int .i64 q)) R a len cap p' := by
  subst e
  exact ⟨(World.cell?_setCell_other _ _ _ _ (by simp)).trans h.c0, World.cell?_setCell_same _ _ _ h.c1, by simpa using h.f1⟩
theorem Rd.drewN {w : World} {R : Nat} {a : Option Addr} {len cap p : Nat} (h : Rd w R a len cap p) (k : Nat) : Rd (w.drewN k) R a len cap p := ⟨h.c0, h.c1, h.f1⟩
set_option maxHeartbeats 400000 in
theorem pick_none (R : Nat) (a : Option Addr) (cap p : Nat) (n : Int) (w : World) (h : Rd w R a 0 cap p) (hn : 1 ≤ n) (hp : p < 1000000) :
    Calls Tryz.prog 71 #[.pointer (some ⟨R, 0, none⟩), .int .i64 n] w fun e w' => e = .returned (.int .i64 0) ∧ Rd w' R a 0 cap (p + 1) ∧ w.grownBy w' (some R) := by
  have hr := h
  obtain ⟨c0, c1, f1⟩ := h
  go_enter Tryz.func71, Tryz.ntmps71
  go_wp2
  go_ret
  exact ⟨rfl, hr.set _ _ (by omega), gb_set (gb_refl _ _) _ _⟩
set_option maxHeartbeats 1000000 in
theorem pick_in (R : Nat) (a : Option Addr) (len cap p blk off : Nat) (z : Nat → Int) (n : Int) (w : World) (h : Rd w R a len cap p) (s : Src w a len blk off z) (hne : blk ≠ R) (hn : 1 ≤ n) (hn2 : n ≤ 1000000) (hp : p < len) :
    Calls Tryz.prog 71 #[.pointer (some ⟨R, 0, none⟩), .int .i64 n] w fun e w' => ∃ r, 0 ≤ r ∧ r < n ∧ e = .returned (.int .i64 r) ∧ Rd w' R a len cap (p + 1) ∧ w.grownBy w' (some R) := by
  have hr := h
  obtain ⟨c0, c1, f1⟩ := h
  have hs := s.short
  have hz := s.fits p
  have hc := s.byte p hp
  have ha := s.at_ (by omega)
  subst ha
  obtain ⟨Z, HZ⟩ : ∃ Z, Hid (Z = z p) := ⟨_, rfl⟩
  rw [← HZ.out] at hz hc
  clear s
  have hne' : R ≠ blk := fun e => hne e.symm
  have hl : ((len : Int) == 0) = false := by simp; omega
  go_enter Tryz.func71, Tryz.ntmps71
  go_wp2
  go_ret
  refine ⟨_, ?_, ?_, rfl, hr.set _ _ (by omega), gb_set (gb_refl _ _) _ _⟩
  · exact Int.emod_nonneg _ (by omega)
  · exact Int.emod_lt_of_pos _ (by omega)
theorem xor_pos (a b : Nat) (ha : a < 2 ^ 62) (hb : b < 2 ^ 62) : 0 ≤ bits .xor .i64 (a : Int) (b : Int) := by
  show 0 ≤ IntKind.i64.wrap ((BitVec.ofInt 64 (a : Int) ^^^ BitVec.ofInt 64 (b : Int)).toNat : Int)
  have h62 : (2 : Nat) ^ 62 < 2 ^ 64 := by decide
  rw [BitVec.toNat_xor, BitVec.ofInt_natCast, BitVec.ofInt_natCast, BitVec.toNat_ofNat, BitVec.toNat_ofNat, Nat.mod_eq_of_lt (Nat.lt_trans ha h62), Nat.mod_eq_of_lt (Nat.lt_trans hb h62)]
  have hx : a ^^^ b < 2 ^ 62 := Nat.xor_lt_two_pow ha hb
  have e : (2 : Nat) ^ 62 = 4611686018427387904 := by decide
  rw [e] at hx
  rw [IntKind.wrap_i64]
  omega
theorem xor_half (x : Int) (h0 : 0 ≤ x) (h1 : x < 1000000000000) : 0 ≤ bits .xor .i64 x (x / 64) := by
  obtain ⟨X, rfl⟩ := Int.eq_ofNat_of_zero_le h0
  have e : (2 : Nat) ^ 62 = 4611686018427387904 := by decide
  have h := xor_pos X (X / 64) (by rw [e]; omega) (by rw [e]; omega)
  simpa using h
set_option maxHeartbeats 2000000 in
theorem pick_far (R : Nat) (a : Option Addr) (len cap p blk off : Nat) (z : Nat → Int) (n : Int) (w : World) (h : Rd w R a len cap p) (s : Src w a len blk off z) (hne : blk ≠ R) (hn : 1 ≤ n) (hn2 : n ≤ 1000000) (hp : len ≤ p) (hp2 : p < 1000000) (hl0 : 0 < len) :
    Calls Tryz.prog 71 #[.pointer (some ⟨R, 0, none⟩), .int .i64 n] w fun e w' => ∃ r, 0 ≤ r ∧ r < n ∧ e = .returned (.int .i64 r) ∧ Rd w' R a len cap (p + 1) ∧ w.grownBy w' (some R) := by
  have hr := h
  obtain ⟨c0, c1, f1⟩ := h
  have hs := s.short
  have ha := s.at_ (by omega)
  subst ha
  obtain ⟨K, e1, hK⟩ : ∃ K : Nat, (p : Int) % (len : Int) = (K : Int) ∧ K < len := ⟨p % len, by omega, Nat.mod_lt _ hl0⟩
  obtain ⟨J, e2, hJ⟩ : ∃ J : Nat, ((p : Int) * 7 + 3) % (len : Int) = (J : Int) ∧ J < len := ⟨(p * 7 + 3) % len, by rw [Int.natCast_emod, show ((p * 7 + 3 : Nat) : Int) = (p : Int) * 7 + 3 by omega], Nat.mod_lt _ hl0⟩
  obtain ⟨Q, e3, hQ⟩ : ∃ Q : Nat, (p : Int) / (len : Int) = (Q : Int) ∧ Q ≤ 1000000 := ⟨p / len, by omega, by have := Nat.div_le_self p len; omega⟩
  have hzK := s.fits K
  have hcK := s.byte K hK
  have hzJ := s.fits J
  have hcJ := s.byte J hJ
  obtain ⟨A, HA⟩ : ∃ Z, Hid (Z = z K) := ⟨_, rfl⟩
  obtain ⟨B, HB⟩ : ∃ Z, Hid (Z = z J) := ⟨_, rfl⟩
  rw [← HA.out] at hzK hcK
  rw [← HB.out] at hzJ hcJ
  clear s
  have hne' : R ≠ blk := fun e => hne e.symm
  have hl : ((len : Int) == 0) = false := by simp; omega
  have hl2 : ¬ (len : Int) = 0 := by omega
  have i1 : (K : Int) < (len : Int) := by omega
  have i2 : (J : Int) < (len : Int) := by omega
  have i3 : (len : Int) ≤ (p : Int) := by omega
  go_enter Tryz.func71, Tryz.ntmps71
  go_wp2
  go_quiet (fail)
  go_wp2
  go_ret
  refine ⟨_, ?_, ?_, rfl, (hr.set _ (p + 1) (by omega)).drewN nq, gb_drewN (gb_set (gb_refl _ _) _ _) _⟩
  · exact Int.tmod_nonneg _ (xor_half _ (by omega) (by omega))
  · exact Int.tmod_lt_of_pos _ (by omega)
theorem pick_any (R : Nat) (a : Option Addr) (len cap p blk off : Nat) (z : Nat → Int) (n : Int) (w : World) (h : Rd w R a len cap p) (s : Src w a len blk off z) (hne : blk ≠ R) (hn : 1 ≤ n) (hn2 : n ≤ 1000000) (hp2 : p < 1000000) :
    Calls Tryz.prog 71 #[.pointer (some ⟨R, 0, none⟩), .int .i64 n] w fun e w' => ∃ r, 0 ≤ r ∧ r < n ∧ e = .returned (.int .i64 r) ∧ Rd w' R a len cap (p + 1) ∧ w.grownBy w' (some R) := by
  by_cases h0 : len = 0
  · subst h0
    refine (pick_none R a cap p n w h hn hp2).mono ?_
    rintro e w' ⟨rfl, h1, h2⟩
    exact ⟨0, by omega, by omega, rfl, h1, h2⟩
  · by_cases h1 : p < len
    · exact pick_in R a len cap p blk off z n w h s hne hn hn2 h1
    · exact pick_far R a len cap p blk off z n w h s hne hn hn2 (by omega) hp2 (by omega)
/-- A reader at R of a code, all of it below block B, p numbers read. -/
def Reader (B : Nat) (w : World) (R p : Nat) : Prop :=
  R < B ∧ B ≤ w.heap.size ∧ ∃ a len cap blk off z, Rd w R a len cap p ∧ Src w a len blk off z ∧ (0 < len → blk ≠ R ∧ blk < B)
theorem Reader.kept {B : Nat} {w w' : World} {R p : Nat} {row : Option Nat} (h : Reader B w R p) (g : w.grownBy w' row) (hr : ∀ j, row = some j → B ≤ j) : Reader B w' R p := by
  obtain ⟨h1, h2, a, len, cap, blk, off, z, hd, hs, hb⟩ := h
  have nR : some R ≠ row := fun e => by have := hr R e.symm; omega
  refine ⟨h1, Nat.le_trans h2 g.size, a, len, cap, blk, off, z, ⟨?_, ?_, ?_⟩, ⟨hs.at_, ?_, hs.fits, hs.short⟩, hb⟩
  · exact (g.cell_far _ (by show R < _; omega) nR).trans hd.c0
  · exact (g.cell_far _ (by show R < _; omega) nR).trans hd.c1
  · exact (g.frozen_far _ (by show R < _; omega) nR).trans hd.f1
  · intro j hj
    have hb' := hb (by omega)
    have nb : some blk ≠ row := fun e => by have := hr blk e.symm; omega
    exact (g.cell_far _ (by show blk < _; omega) nb).trans (hs.byte j hj)
theorem Reader.later {B : Nat} {w w' : World} {R p : Nat} (h : Reader B w R p) (g : Below w.heap.size w w') : Reader B w' R p :=
  h.kept (gb_below g) (fun j hj => by cases hj)
theorem Reader.alloc {B : Nat} {w : World} {R p : Nat} (h : Reader B w R p) (o : Obj) : Reader B (w.alloc o) R p :=
  h.kept (World.grownBy_alloc w o none) (fun j hj => by cases hj)
theorem Reader.set {B : Nat} {w : World} {R p : Nat} (h : Reader B w R p) (bl o : Nat) (u : Value) (hb : B ≤ bl) : Reader B (w.setCell ⟨bl, o, none⟩ u) R p :=
  h.kept (gb_set (gb_refl w (some bl)) o u) (fun j hj => by simp at hj; omega)
theorem Reader.drew {B : Nat} {w : World} {R p : Nat} (h : Reader B w R p) : Reader B w.drew R p := h.kept (gb_drew (gb_refl w none)) (fun j hj => by cases hj)
theorem pick_r (B R p : Nat) (n : Int) (w : World) (h : Reader B w R p) (hn : 1 ≤ n) (hn2 : n ≤ 1000000) (hp : p < 1000000) :
    Calls Tryz.prog 71 #[.pointer (some ⟨R, 0, none⟩), .int .i64 n] w fun e w' => ∃ r : Nat, (r : Int) < n ∧ e = .returned (.int .i64 r) ∧ Reader B w' R (p + 1) ∧ w.grownBy w' (some R) := by
  obtain ⟨h1, h2, a, len, cap, blk, off, z, hd, hs, hb⟩ := h
  by_cases h0 : len = 0
  · subst h0
    refine (pick_none R a cap p n w hd hn hp).mono ?_
    rintro e w' ⟨rfl, hd', g⟩
    exact ⟨0, by omega, rfl, ⟨h1, Nat.le_trans h2 g.size, a, 0, cap, blk, off, z, hd', ⟨hs.at_, fun j hj => by omega, hs.fits, hs.short⟩, hb⟩, g⟩
  · have hne := hb (by omega)
    refine (pick_any R a len cap p blk off z n w hd hs hne.1 hn hn2 hp).mono ?_
    rintro e w' ⟨r, r0, r1, rfl, hd', g⟩
    obtain ⟨k, rfl⟩ := Int.eq_ofNat_of_zero_le r0
    have nb : some blk ≠ some R := by simp [hne.1]
    refine ⟨k, r1, rfl, ⟨h1, Nat.le_trans h2 g.size, a, len, cap, blk, off, z, hd', ⟨hs.at_, ?_, hs.fits, hs.short⟩, hb⟩, g⟩
    intro j hj
    exact (g.cell_far _ (by show blk < _; omega) nb).trans (hs.byte j hj)
set_option maxHeartbeats 400000 in
theorem num_r (B R p g : Nat) (xs : List Int) (cap : Nat) (w : World) (h : Reader B w R p) (hL : 0 < xs.length) (hL2 : xs.length ≤ 1000) (hp : p < 1000000) (hg : B ≤ g)
    (hx : ∀ j x, xs[j]? = some x → w.cell? ⟨g, j, none⟩ = some (.int .i64 x)) :
    Calls Tryz.prog 114 #[.pointer (some ⟨R, 0, none⟩), .slice (some ⟨g, 0, none⟩) xs.length cap] w fun e w' => ∃ v, v ∈ xs ∧ e = .returned (.int .i64 v) ∧ Reader B w' R (p + 1) ∧ w.grownBy w' (some R) := by
  obtain ⟨L, HL⟩ : ∃ L, Hid (L = xs.length) := ⟨_, rfl⟩
  rw [← HL.out] at hL hL2 ⊢
  have hRB := h.1
  go_enter Tryz.func114, Tryz.ntmps114
  go_wp2_with fail
  refine (pick_r B R p L _ h (by omega) (by omega) hp).mono ?_
  rintro e w1 ⟨r, r1, rfl, h1, g1⟩
  have hrl : r < xs.length := by rw [← HL.out]; omega
  have hc : w1.cell? ⟨g, r, none⟩ = some (.int .i64 xs[r]) := g1.cell (hx r _ (List.getElem?_eq_getElem hrl)) (by simp; omega)
  obtain ⟨v, HV⟩ : ∃ v : Int, Hid (v = xs[r]) := ⟨xs[r], rfl⟩
  rw [← HV.out] at hc
  have HM : Hid (v ∈ xs) := by rw [HV.out]; exact List.getElem_mem hrl
  clear HV
  go_wp2
  go_ret
  exact ⟨v, HM.out, rfl, h1, g1⟩
set_option maxHeartbeats 400000 in
theorem open_r (a : Option Addr) (len cap blk off : Nat) (z : Nat → Int) (w : World) (hlen : len ≤ 1048576) (hcap : len ≤ cap) (ha : 0 < len → a = some ⟨blk, off, none⟩ ∧ blk < w.heap.size) (hb : ∀ j, j < len → w.cell? ⟨blk, off + j, none⟩ = some (.int .u8 (z j))) (hz : ∀ j, 0 ≤ z j ∧ z j ≤ 255) :
    Calls Tryz.prog 48 #[.slice a len cap] w fun e w' => e = .returned (.pointer (some ⟨w.heap.size, 0, none⟩)) ∧ Reader (w.heap.size + 1) w' w.heap.size 0 ∧ Below w.heap.size w w' := by
  by_cases h : len ≤ 2000
  · go_enter Tryz.func48, Tryz.ntmps48
    go_wp2
    go_ret
    refine ⟨rfl, ⟨by omega, by simp, a, len, cap, blk, off, z, ⟨by simp, by simp, by simp⟩, ⟨fun h0 => (ha h0).1, fun j hj => ?_, hz, h⟩, fun h0 => by have := (ha h0).2; omega⟩, by go_grown⟩
    rw [World.cell?_alloc_past _ _ _ (by have := (ha (by omega)).2; exact this)]
    exact hb j hj
  · obtain ⟨rfl, hblk⟩ := ha (by omega)
    have i1 : (2000 : Int) < (len : Int) := by omega
    have i2 : (2000 : Int) ≤ (cap : Int) := by omega
    go_enter Tryz.func48, Tryz.ntmps48
    go_wp2
    go_ret
    refine ⟨rfl, ⟨by omega, by simp, some ⟨blk, off, none⟩, 2000, cap, blk, off, z, ⟨by simp, by simp, by simp⟩, ⟨fun _ => rfl, fun j hj => ?_, hz, by omega⟩, fun _ => by omega⟩, by go_grown⟩
    rw [World.cell?_alloc_past _ _ _ hblk]
    exact hb j (by omega)
theorem gb_then {a b c : World} {R : Nat} {row : Option Nat} (h : a.grownBy b (some R)) (k : b.grownBy c row) (hr : ∀ j, row = some j → a.heap.size ≤ j ∨ j = R) : a.grownBy c (some R) :=
  h.andThen k (fun j hj => (hr j hj).imp_right (fun e => by rw [e]))
theorem gb_below' {a b c : World} {R : Nat} (h : a.grownBy b (some R)) (k : Below b.heap.size b c) : a.grownBy c (some R) := gb_then h (gb_below k) (fun j hj => by cases hj)
theorem gb_alloc {a b : World} {R : Nat} (h : a.grownBy b (some R)) (o : Obj) : a.grownBy (b.alloc o) (some R) := gb_then h (World.grownBy_alloc b o none) (fun j hj => by cases hj)
theorem gb_pick {a b c : World} {R : Nat} (h : a.grownBy b (some R)) (k : b.grownBy c (some R)) : a.grownBy c (some R) := gb_then h k (fun j hj => .inr (by cases hj; rfl))
theorem gb_put {a b : World} {R bl o : Nat} {u : Value} (h : a.grownBy b (some R)) (hb : a.heap.size ≤ bl) : a.grownBy (b.setCell ⟨bl, o, none⟩ u) (some R) := gb_then h (gb_set (gb_refl b (some bl)) o u) (fun j hj => .inl (by cases hj; exact hb))
theorem cells_row (w : World) (xs : List Int) (t : TypeId) : ∀ j x, xs[j]? = some x → (w.alloc (.cells (xs.map (Value.int .i64)).toArray t)).cell? ⟨w.heap.size, j, none⟩ = some (.int .i64 x) := by
  intro j x hj
  rw [World.cell?_alloc_at _ _ _ _ rfl]
  simp [hj]
/-- A code of bytes that came in. -/
structure Code0 (w : World) (a : Option Addr) (len cap blk off : Nat) (z : Nat → Int) : Prop where
  short : len ≤ 1048576
  cap : len ≤ cap
  at_ : 0 < len → a = some ⟨blk, off, none⟩ ∧ blk < w.heap.size
  byte : ∀ j, j < len → w.cell? ⟨blk, off + j, none⟩ = some (.int .u8 (z j))
  fits : ∀ j, 0 ≤ z j ∧ z j ≤ 255
theorem Code0.later {w w' : World} {a : Option Addr} {len cap blk off : Nat} {z : Nat → Int} (h : Code0 w a len cap blk off z) (g : Below w.heap.size w w') : Code0 w' a len cap blk off z :=
  ⟨h.short, h.cap, fun h0 => ⟨(h.at_ h0).1, Nat.lt_of_lt_of_le (h.at_ h0).2 g.size⟩, fun j hj => cell_later g (h.byte j hj), h.fits⟩
theorem Code0.open {w : World} {a : Option Addr} {len cap blk off : Nat} {z : Nat → Int} (h : Code0 w a len cap blk off z) :
    Calls Tryz.prog 48 #[.slice a len cap] w fun e w' => e = .returned (.pointer (some ⟨w.heap.size, 0, none⟩)) ∧ Reader (w.heap.size + 1) w' w.heap.size 0 ∧ Below w.heap.size w w' :=
  open_r a len cap blk off z w h.short h.cap h.at_ h.byte h.fits
/-- A slice of integers that came in: nil, or a row of its capacity's cells. -/
def IsRow (k : IntKind) (w : World) (a : Option Addr) (len cap : Nat) (zs : List Int) : Prop :=
  (a = none ∧ len = 0 ∧ cap = 0 ∧ zs = []) ∨
  ∃ x, a = some x ∧ len ≤ cap ∧ cap ≤ maxLen ∧ zs.length = cap ∧ (∀ i, i < zs.length → w.cell? (x.add i) = some (.int k (zs.getD i 0))) ∧ ∀ n ∈ zs, (Lit.int k n).wf = true
theorem IsRow.code {w : World} {a : Option Addr} {len cap : Nat} {zs : List Int} (h : IsRow .u8 w a len cap zs) (hl : len ≤ 1048576) : ∃ blk off z, Code0 w a len cap blk off z := by
  rcases h with ⟨rfl, rfl, rfl, rfl⟩ | ⟨x, rfl, h1, h2, h3, hc, hw⟩
  · exact ⟨0, 0, fun _ => 0, ⟨by omega, by omega, fun h => by omega, fun j hj => by omega, fun _ => by omega⟩⟩
  · by_cases h0 : len = 0
    · subst h0
      exact ⟨0, 0, fun _ => 0, ⟨by omega, by omega, fun h => by omega, fun j hj => by omega, fun _ => by omega⟩⟩
    · obtain ⟨b, off, spot⟩ := x
      have hc0 := hc 0 (by omega)
      have hspot : spot = none := by simpa [Addr.add] using World.cell?_spot hc0
      subst hspot
      have hlt := World.block_lt_of_cell? _ _ hc0
      refine ⟨b, off, fun j => zs.getD j 0, ⟨hl, h1, fun _ => ⟨rfl, by simpa [Addr.add] using hlt⟩, fun j hj => ?_, fun j => ?_⟩⟩
      · have h := hc j (by omega)
        by_cases e : j = 0
        · subst e; simpa [Addr.add] using h
        · simpa [Addr.add, e] using h
      · by_cases hj : j < zs.length
        · have hm : zs.getD j 0 ∈ zs := by
            rw [List.getD_eq_getElem?_getD, List.getElem?_eq_getElem hj]
            exact List.getElem_mem hj
          have := bounds_u8 (hw _ hm)
          omega
        · have e : zs.getD j 0 = 0 := by rw [List.getD_eq_getElem?_getD, List.getElem?_eq_none (by omega)]; rfl
          rw [e]; omega
end Go.Proofs.YtlgacbjopobeoaaGreatDoor
