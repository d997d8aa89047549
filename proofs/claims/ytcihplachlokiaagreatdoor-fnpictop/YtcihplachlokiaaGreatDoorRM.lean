/- The specification's reader of codes: numbers and texts out of a code, whatever the code. Made by wip/tools/gen_reader.py. -/
import Derived.Test.YtcihplachlokiaaGreatDoorDaM
import Derived.Deep.Light
import Derived.Deep.AppendLies
import Derived.WalkSpells
import Derived.Maps.Range
import Derived.Maps.AppendAt
import Derived.Deep.RegionWith
import Derived.Lib.QuietBelow
import Derived.Deep.Cut
namespace Go.Proofs.YtcihplachlokiaaGreatDoor.Rr
open Go.RowKit
set_option linter.unusedVariables false

theorem gb_set {w w' : World} {b : Nat} (h : w.grownBy w' (some b)) (o : Nat) (v : Value) : w.grownBy (w'.setCell ⟨b, o, none⟩ v) (some b) :=
  ⟨h.os, h.tape, h.output, by simpa using h.size, fun k hk hne => (Below.heap_setCell w' ⟨b, o, none⟩ v k (fun e => hne (by simp [e]))).trans (h.block k hk hne)⟩
theorem gb_drew {w w' : World} {row : Option Nat} (h : w.grownBy w' row) : w.grownBy w'.drew row := ⟨h.os, h.tape, h.output, h.size, h.block⟩
theorem gb_drewN {w w' : World} {row : Option Nat} (h : w.grownBy w' row) (n : Nat) : w.grownBy (w'.drewN n) row := ⟨h.os, h.tape, h.output, h.size, h.block⟩
theorem gb_refl (w : World) (row : Option Nat) : w.grownBy w row := ⟨rfl, rfl, rfl, Nat.le_refl _, fun _ _ _ => rfl⟩
theorem gb_below {w w' : World} (h : Below w.heap.size w w') : w.grownBy w' none := ⟨h.os, h.tape, h.output, h.size, fun k hk _ => h.block k hk⟩
/-- The code that a reader reads: nothing, or a row of bytes. -/
structure Src (w : World) (a : Option Addr) (len blk off : Nat) (z : Nat → Int) : Prop where
  at_ : 0 < len → a = some ⟨blk, off, none⟩
  byte : ∀ j, j < len → w.cell? ⟨blk, off + j, none⟩ = some (.int .u8 (z j))
  fits : ∀ j, 0 ≤ z j ∧ z j ≤ 255
  short : len ≤ 2000
/-- A reader at R, so many numbers read. -/
structure Rd (w : World) (R : Nat) (a : Option Addr) (len cap : Nat) (p : Nat) : Prop where
  c0 : w.cell? ⟨R, 0, none⟩ = some (.slice a len cap)
  c1 : w.cell? ⟨R, 1, none⟩ = some (.int .i64 p)
  f1 : w.frozen? ⟨R, 1, none⟩ = false
theorem Rd.set {w : World} {R : Nat} {a : Option Addr} {len cap p : Nat} (h : Rd w R a len cap p) (q : Int) (p' : Nat) (e : q = p') : Rd (w.setCell ⟨R, 1, none⟩ (.int .i64 q)) R a len cap p' := by
  subst e
  exact ⟨(World.cell?_setCell_other _ _ _ _ (by simp)).trans h.c0, World.cell?_setCell_same _ _ _ h.c1, by simpa using h.f1⟩
theorem Rd.drewN {w : World} {R : Nat} {a : Option Addr} {len cap p : Nat} (h : Rd w R a len cap p) (k : Nat) : Rd (w.drewN k) R a len cap p := ⟨h.c0, h.c1, h.f1⟩
set_option maxHeartbeats 400000 in
theorem pick_none (R : Nat) (a : Option Addr) (cap p : Nat) (n : Int) (w : World) (h : Rd w R a 0 cap p) (hn : 1 ≤ n) (hp : p < 10000000) :
    Calls Tryz.prog 13 #[.pointer (some ⟨R, 0, none⟩), .int .i64 n] w fun e w' => e = .returned (.int .i64 0) ∧ Rd w' R a 0 cap (p + 1) ∧ w.grownBy w' (some R) := by
  have hr := h
  obtain ⟨c0, c1, f1⟩ := h
  go_enter Tryz.func13, Tryz.ntmps13
  go_wp2
  go_ret
  exact ⟨rfl, hr.set _ _ (by omega), gb_set (gb_refl _ _) _ _⟩
set_option maxHeartbeats 1000000 in
theorem pick_in (R : Nat) (a : Option Addr) (len cap p blk off : Nat) (z : Nat → Int) (n : Int) (w : World) (h : Rd w R a len cap p) (s : Src w a len blk off z) (hne : blk ≠ R) (hn : 1 ≤ n) (hn2 : n ≤ 10000000) (hp : p < len) :
    Calls Tryz.prog 13 #[.pointer (some ⟨R, 0, none⟩), .int .i64 n] w fun e w' => ∃ r, 0 ≤ r ∧ r < n ∧ e = .returned (.int .i64 r) ∧ Rd w' R a len cap (p + 1) ∧ w.grownBy w' (some R) := by
  have hr := h
  obtain ⟨c0, c1, f1⟩ := h
  have hs := s.short
  have hz := s.fits p
  have hc := s.byte p hp
  have ha := s.at_ (by omega)
  subst ha
  obtain ⟨Z, HZ⟩ : ∃ Z, Hid (Z = z p) := ⟨_, rfl⟩
  rw [← HZ.out] at hz hc
  clear s
  have hne' : R ≠ blk := fun e => hne e.symm
  have hl : ((len : Int) == 0) = false := by simp; omega
  go_enter Tryz.func13, Tryz.ntmps13
  go_wp2
  go_ret
  refine ⟨_, ?_, ?_, rfl, hr.set _ _ (by omega), gb_set (gb_refl _ _) _ _⟩
  · exact Int.emod_nonneg _ (by omega)
  · exact Int.emod_lt_of_pos _ (by omega)
theorem xor_pos (a b : Nat) (ha : a < 2 ^ 62) (hb : b < 2 ^ 62) : 0 ≤ bits .xor .i64 (a : Int) (b : Int) := by
  show 0 ≤ IntKind.i64.wrap ((BitVec.ofInt 64 (a : Int) ^^^ BitVec.ofInt 64 (b : Int)).toNat : Int)
  have h62 : (2 : Nat) ^ 62 < 2 ^ 64 := by decide
  rw [BitVec.toNat_xor, BitVec.ofInt_natCast, BitVec.ofInt_natCast, BitVec.toNat_ofNat, BitVec.toNat_ofNat, Nat.mod_eq_of_lt (Nat.lt_trans ha h62), Nat.mod_eq_of_lt (Nat.lt_trans hb h62)]
  have hx : a ^^^ b < 2 ^ 62 := Nat.xor_lt_two_pow ha hb
  have e : (2 : Nat) ^ 62 = 4611686018427387904 := by decide
  rw [e] at hx
  rw [IntKind.wrap_i64]
  omega
theorem xor_half (x : Int) (h0 : 0 ≤ x) (h1 : x < 1000000000000) : 0 ≤ bits .xor .i64 x (x / 64) := by
  obtain ⟨X, rfl⟩ := Int.eq_ofNat_of_zero_le h0
  have e : (2 : Nat) ^ 62 = 4611686018427387904 := by decide
  have h := xor_pos X (X / 64) (by rw [e]; omega) (by rw [e]; omega)
  simpa using h
set_option maxHeartbeats 2000000 in
theorem pick_far (R : Nat) (a : Option Addr) (len cap p blk off : Nat) (z : Nat → Int) (n : Int) (w : World) (h : Rd w R a len cap p) (s : Src w a len blk off z) (hne : blk ≠ R) (hn : 1 ≤ n) (hn2 : n ≤ 10000000) (hp : len ≤ p) (hp2 : p < 10000000) (hl0 : 0 < len) :
    Calls Tryz.prog 13 #[.pointer (some ⟨R, 0, none⟩), .int .i64 n] w fun e w' => ∃ r, 0 ≤ r ∧ r < n ∧ e = .returned (.int .i64 r) ∧ Rd w' R a len cap (p + 1) ∧ w.grownBy w' (some R) := by
  have hr := h
  obtain ⟨c0, c1, f1⟩ := h
  have hs := s.short
  have ha := s.at_ (by omega)
  subst ha
  obtain ⟨K, e1, hK⟩ : ∃ K : Nat, (p : Int) % (len : Int) = (K : Int) ∧ K < len := ⟨p % len, by omega, Nat.mod_lt _ hl0⟩
  obtain ⟨J, e2, hJ⟩ : ∃ J : Nat, ((p : Int) * 7 + 3) % (len : Int) = (J : Int) ∧ J < len := ⟨(p * 7 + 3) % len, by rw [Int.natCast_emod, show ((p * 7 + 3 : Nat) : Int) = (p : Int) * 7 + 3 by omega], Nat.mod_lt _ hl0⟩
  obtain ⟨Q, e3, hQ⟩ : ∃ Q : Nat, (p : Int) / (len : Int) = (Q : Int) ∧ Q ≤ 10000000 := ⟨p / len, by omega, by have := Nat.div_le_self p len; omega⟩
  have hzK := s.fits K
  have hcK := s.byte K hK
  have hzJ := s.fits J
  have hcJ := s.byte J hJ
  obtain ⟨A, HA⟩ : ∃ Z, Hid (Z = z K) := ⟨_, rfl⟩
  obtain ⟨B, HB⟩ : ∃ Z, Hid (Z = z J) := ⟨_, rfl⟩
  rw [← HA.out] at hzK hcK
  rw [← HB.out] at hzJ hcJ
  clear s
  have hne' : R ≠ blk := fun e => hne e.symm
  have hl : ((len : Int) == 0) = false := by simp; omega
  have hl2 : ¬ (len : Int) = 0 := by omega
  have i1 : (K : Int) < (len : Int) := by omega
  have i2 : (J : Int) < (len : Int) := by omega
  have i3 : (len : Int) ≤ (p : Int) := by omega
  go_enter Tryz.func13, Tryz.ntmps13
  go_wp2
  go_quiet (fail)
  go_wp2
  go_ret
  refine ⟨_, ?_, ?_, rfl, (hr.set _ (p + 1) (by omega)).drewN nq, gb_drewN (gb_set (gb_refl _ _) _ _) _⟩
  · exact Int.tmod_nonneg _ (xor_half _ (by omega) (by omega))
  · exact Int.tmod_lt_of_pos _ (by omega)
theorem pick_any (R : Nat) (a : Option Addr) (len cap p blk off : Nat) (z : Nat → Int) (n : Int) (w : World) (h : Rd w R a len cap p) (s : Src w a len blk off z) (hne : blk ≠ R) (hn : 1 ≤ n) (hn2 : n ≤ 10000000) (hp2 : p < 10000000) :
    Calls Tryz.prog 13 #[.pointer (some ⟨R, 0, none⟩), .int .i64 n] w fun e w' => ∃ r, 0 ≤ r ∧ r < n ∧ e = .returned (.int .i64 r) ∧ Rd w' R a len cap (p + 1) ∧ w.grownBy w' (some R) := by
  by_cases h0 : len = 0
  · subst h0
    refine (pick_none R a cap p n w h hn hp2).mono ?_
    rintro e w' ⟨rfl, h1, h2⟩
    exact ⟨0, by omega, by omega, rfl, h1, h2⟩
  · by_cases h1 : p < len
    · exact pick_in R a len cap p blk off z n w h s hne hn hn2 h1
    · exact pick_far R a len cap p blk off z n w h s hne hn hn2 (by omega) hp2 (by omega)
/-- A reader at R of a code, all of it below block B, p numbers read. -/
def Reader (B : Nat) (w : World) (R p : Nat) : Prop :=
  R < B ∧ B ≤ w.heap.size ∧ ∃ a len cap blk off z, Rd w R a len cap p ∧ Src w a len blk off z ∧ (0 < len → blk ≠ R ∧ blk < B)
theorem Reader.kept {B : Nat} {w w' : World} {R p : Nat} {row : Option Nat} (h : Reader B w R p) (g : w.grownBy w' row) (hr : ∀ j, row = some j → B ≤ j) : Reader B w' R p := by
  obtain ⟨h1, h2, a, len, cap, blk, off, z, hd, hs, hb⟩ := h
  have nR : some R ≠ row := fun e => by have := hr R e.symm; omega
  refine ⟨h1, Nat.le_trans h2 g.size, a, len, cap, blk, off, z, ⟨?_, ?_, ?_⟩, ⟨hs.at_, ?_, hs.fits, hs.short⟩, hb⟩
  · exact (g.cell_far _ (by show R < _; omega) nR).trans hd.c0
  · exact (g.cell_far _ (by show R < _; omega) nR).trans hd.c1
  · exact (g.frozen_far _ (by show R < _; omega) nR).trans hd.f1
  · intro j hj
    have hb' := hb (by omega)
    have nb : some blk ≠ row := fun e => by have := hr blk e.symm; omega
    exact (g.cell_far _ (by show blk < _; omega) nb).trans (hs.byte j hj)
theorem Reader.later {B : Nat} {w w' : World} {R p : Nat} (h : Reader B w R p) (g : Below w.heap.size w w') : Reader B w' R p :=
  h.kept (gb_below g) (fun j hj => by cases hj)
theorem Reader.alloc {B : Nat} {w : World} {R p : Nat} (h : Reader B w R p) (o : Obj) : Reader B (w.alloc o) R p :=
  h.kept (World.grownBy_alloc w o none) (fun j hj => by cases hj)
theorem Reader.set {B : Nat} {w : World} {R p : Nat} (h : Reader B w R p) (bl o : Nat) (u : Value) (hb : B ≤ bl) : Reader B (w.setCell ⟨bl, o, none⟩ u) R p :=
  h.kept (gb_set (gb_refl w (some bl)) o u) (fun j hj => by simp at hj; omega)
theorem Reader.drew {B : Nat} {w : World} {R p : Nat} (h : Reader B w R p) : Reader B w.drew R p := h.kept (gb_drew (gb_refl w none)) (fun j hj => by cases hj)
theorem pick_r (B R p : Nat) (n : Int) (w : World) (h : Reader B w R p) (hn : 1 ≤ n) (hn2 : n ≤ 10000000) (hp : p < 10000000) :
    Calls Tryz.prog 13 #[.pointer (some ⟨R, 0, none⟩), .int .i64 n] w fun e w' => ∃ r : Nat, (r : Int) < n ∧ e = .returned (.int .i64 r) ∧ Reader B w' R (p + 1) ∧ w.grownBy w' (some R) := by
  obtain ⟨h1, h2, a, len, cap, blk, off, z, hd, hs, hb⟩ := h
  by_cases h0 : len = 0
  · subst h0
    refine (pick_none R a cap p n w hd hn hp).mono ?_
    rintro e w' ⟨rfl, hd', g⟩
    exact ⟨0, by omega, rfl, ⟨h1, Nat.le_trans h2 g.size, a, 0, cap, blk, off, z, hd', ⟨hs.at_, fun j hj => by omega, hs.fits, hs.short⟩, hb⟩, g⟩
  · have hne := hb (by omega)
    refine (pick_any R a len cap p blk off z n w hd hs hne.1 hn hn2 hp).mono ?_
    rintro e w' ⟨r, r0, r1, rfl, hd', g⟩
    obtain ⟨k, rfl⟩ := Int.eq_ofNat_of_zero_le r0
    have nb : some blk ≠ some R := by simp [hne.1]
    refine ⟨k, r1, rfl, ⟨h1, Nat.le_trans h2 g.size, a, len, cap, blk, off, z, hd', ⟨hs.at_, ?_, hs.fits, hs.short⟩, hb⟩, g⟩
    intro j hj
    exact (g.cell_far _ (by show blk < _; omega) nb).trans (hs.byte j hj)
set_option maxHeartbeats 400000 in
theorem num_r (B R p g : Nat) (xs : List Int) (cap : Nat) (w : World) (h : Reader B w R p) (hL : 0 < xs.length) (hL2 : xs.length ≤ 1000) (hp : p < 10000000) (hg : B ≤ g)
    (hx : ∀ j x, xs[j]? = some x → w.cell? ⟨g, j, none⟩ = some (.int .i64 x)) :
    Calls Tryz.prog 55 #[.pointer (some ⟨R, 0, none⟩), .slice (some ⟨g, 0, none⟩) xs.length cap] w fun e w' => ∃ v, v ∈ xs ∧ e = .returned (.int .i64 v) ∧ Reader B w' R (p + 1) ∧ w.grownBy w' (some R) := by
  obtain ⟨L, HL⟩ : ∃ L, Hid (L = xs.length) := ⟨_, rfl⟩
  rw [← HL.out] at hL hL2 ⊢
  have hRB := h.1
  go_enter Tryz.func55, Tryz.ntmps55
  go_wp2_with fail
  refine (pick_r B R p L _ h (by omega) (by omega) hp).mono ?_
  rintro e w1 ⟨r, r1, rfl, h1, g1⟩
  have hrl : r < xs.length := by rw [← HL.out]; omega
  have hc : w1.cell? ⟨g, r, none⟩ = some (.int .i64 xs[r]) := g1.cell (hx r _ (List.getElem?_eq_getElem hrl)) (by simp; omega)
  obtain ⟨v, HV⟩ : ∃ v : Int, Hid (v = xs[r]) := ⟨xs[r], rfl⟩
  rw [← HV.out] at hc
  have HM : Hid (v ∈ xs) := by rw [HV.out]; exact List.getElem_mem hrl
  clear HV
  go_wp2
  go_ret
  exact ⟨v, HM.out, rfl, h1, g1⟩
set_option maxHeartbeats 400000 in
theorem open_r (a : Option Addr) (len cap blk off : Nat) (z : Nat → Int) (w : World) (hlen : len ≤ 1048576) (hcap : len ≤ cap) (ha : 0 < len → a = some ⟨blk, off, none⟩ ∧ blk < w.heap.size) (hb : ∀ j, j < len → w.cell? ⟨blk, off + j, none⟩ = some (.int .u8 (z j))) (hz : ∀ j, 0 ≤ z j ∧ z j ≤ 255) :
    Calls Tryz.prog 11 #[.slice a len cap] w fun e w' => e = .returned (.pointer (some ⟨w.heap.size, 0, none⟩)) ∧ Reader (w.heap.size + 1) w' w.heap.size 0 ∧ Below w.heap.size w w' := by
  by_cases h : len ≤ 2000
  · go_enter Tryz.func11, Tryz.ntmps11
    go_wp2
    go_ret
    refine ⟨rfl, ⟨by omega, by simp, a, len, cap, blk, off, z, ⟨by simp, by simp, by simp⟩, ⟨fun h0 => (ha h0).1, fun j hj => ?_, hz, h⟩, fun h0 => by have := (ha h0).2; omega⟩, by go_grown⟩
    rw [World.cell?_alloc_past _ _ _ (by have := (ha (by omega)).2; exact this)]
    exact hb j hj
  · obtain ⟨rfl, hblk⟩ := ha (by omega)
    have i1 : (2000 : Int) < (len : Int) := by omega
    have i2 : (2000 : Int) ≤ (cap : Int) := by omega
    go_enter Tryz.func11, Tryz.ntmps11
    go_wp2
    go_ret
    refine ⟨rfl, ⟨by omega, by simp, some ⟨blk, off, none⟩, 2000, cap, blk, off, z, ⟨by simp, by simp, by simp⟩, ⟨fun _ => rfl, fun j hj => ?_, hz, by omega⟩, fun _ => by omega⟩, by go_grown⟩
    rw [World.cell?_alloc_past _ _ _ hblk]
    exact hb j (by omega)
theorem gb_then {a b c : World} {R : Nat} {row : Option Nat} (h : a.grownBy b (some R)) (k : b.grownBy c row) (hr : ∀ j, row = some j → a.heap.size ≤ j ∨ j = R) : a.grownBy c (some R) :=
  h.andThen k (fun j hj => (hr j hj).imp_right (fun e => by rw [e]))
theorem gb_below' {a b c : World} {R : Nat} (h : a.grownBy b (some R)) (k : Below b.heap.size b c) : a.grownBy c (some R) := gb_then h (gb_below k) (fun j hj => by cases hj)
theorem gb_alloc {a b : World} {R : Nat} (h : a.grownBy b (some R)) (o : Obj) : a.grownBy (b.alloc o) (some R) := gb_then h (World.grownBy_alloc b o none) (fun j hj => by cases hj)
theorem gb_pick {a b c : World} {R : Nat} (h : a.grownBy b (some R)) (k : b.grownBy c (some R)) : a.grownBy c (some R) := gb_then h k (fun j hj => .inr (by cases hj; rfl))
theorem gb_put {a b : World} {R bl o : Nat} {u : Value} (h : a.grownBy b (some R)) (hb : a.heap.size ≤ bl) : a.grownBy (b.setCell ⟨bl, o, none⟩ u) (some R) := gb_then h (gb_set (gb_refl b (some bl)) o u) (fun j hj => .inl (by cases hj; exact hb))
theorem cells_row (w : World) (xs : List Int) (t : TypeId) : ∀ j x, xs[j]? = some x → (w.alloc (.cells (xs.map (Value.int .i64)).toArray t)).cell? ⟨w.heap.size, j, none⟩ = some (.int .i64 x) := by
  intro j x hj
  rw [World.cell?_alloc_at _ _ _ _ rfl]
  simp [hj]
/-- A code of bytes that came in. -/
structure Code0 (w : World) (a : Option Addr) (len cap blk off : Nat) (z : Nat → Int) : Prop where
  short : len ≤ 1048576
  cap : len ≤ cap
  at_ : 0 < len → a = some ⟨blk, off, none⟩ ∧ blk < w.heap.size
  byte : ∀ j, j < len → w.cell? ⟨blk, off + j, none⟩ = some (.int .u8 (z j))
  fits : ∀ j, 0 ≤ z j ∧ z j ≤ 255
theorem Code0.later {w w' : World} {a : Option Addr} {len cap blk off : Nat} {z : Nat → Int} (h : Code0 w a len cap blk off z) (g : Below w.heap.size w w') : Code0 w' a len cap blk off z :=
  ⟨h.short, h.cap, fun h0 => ⟨(h.at_ h0).1, Nat.lt_of_lt_of_le (h.at_ h0).2 g.size⟩, fun j hj => cell_later g (h.byte j hj), h.fits⟩
theorem Code0.open {w : World} {a : Option Addr} {len cap blk off : Nat} {z : Nat → Int} (h : Code0 w a len cap blk off z) :
    Calls Tryz.prog 11 #[.slice a len cap] w fun e w' => e = .returned (.pointer (some ⟨w.heap.size, 0, none⟩)) ∧ Reader (w.heap.size + 1) w' w.heap.size 0 ∧ Below w.heap.size w w' :=
  open_r a len cap blk off z w h.short h.cap h.at_ h.byte h.fits
/-- A slice of integers that came in: nil, or a row of its capacity's cells. -/
def IsRow (k : IntKind) (w : World) (a : Option Addr) (len cap : Nat) (zs : List Int) : Prop :=
  (a = none ∧ len = 0 ∧ cap = 0 ∧ zs = []) ∨
  ∃ x, a = some x ∧ len ≤ cap ∧ cap ≤ maxLen ∧ zs.length = cap ∧ (∀ i, i < zs.length → w.cell? (x.add i) = some (.int k (zs.getD i 0))) ∧ ∀ n ∈ zs, (Lit.int k n).wf = true
theorem IsRow.code {w : World} {a : Option Addr} {len cap : Nat} {zs : List Int} (h : IsRow .u8 w a len cap zs) (hl : len ≤ 1048576) : ∃ blk off z, Code0 w a len cap blk off z := by
  rcases h with ⟨rfl, rfl, rfl, rfl⟩ | ⟨x, rfl, h1, h2, h3, hc, hw⟩
  · exact ⟨0, 0, fun _ => 0, ⟨by omega, by omega, fun h => by omega, fun j hj => by omega, fun _ => by omega⟩⟩
  · by_cases h0 : len = 0
    · subst h0
      exact ⟨0, 0, fun _ => 0, ⟨by omega, by omega, fun h => by omega, fun j hj => by omega, fun _ => by omega⟩⟩
    · obtain ⟨b, off, spot⟩ := x
      have hc0 := hc 0 (by omega)
      have hspot : spot = none := by simpa [Addr.add] using World.cell?_spot hc0
      subst hspot
      have hlt := World.block_lt_of_cell? _ _ hc0
      refine ⟨b, off, fun j => zs.getD j 0, ⟨hl, h1, fun _ => ⟨rfl, by simpa [Addr.add] using hlt⟩, fun j hj => ?_, fun j => ?_⟩⟩
      · have h := hc j (by omega)
        by_cases e : j = 0
        · subst e; simpa [Addr.add] using h
        · simpa [Addr.add, e] using h
      · by_cases hj : j < zs.length
        · have hm : zs.getD j 0 ∈ zs := by
            rw [List.getD_eq_getElem?_getD, List.getElem?_eq_getElem hj]
            exact List.getElem_mem hj
          have := bounds_u8 (hw _ hm)
          omega
        · have e : zs.getD j 0 = 0 := by rw [List.getD_eq_getElem?_getD, List.getElem?_eq_none (by omega)]; rfl
          rw [e]; omega
end Go.Proofs.YtcihplachlokiaaGreatDoor.Rr
/- The specification's draws of operands: some operand, whatever the code. -/
namespace Go.Proofs.YtcihplachlokiaaGreatDoor.Rr
open Go.RowKit
set_option linter.unusedVariables false

def IsArg (e : Ending) : Prop := ∃ k n p : Int, -3000000000 ≤ n ∧ n ≤ 3000000000 ∧ e = .returned (.agg #[.int .i64 k, .int .i64 n, .int .i64 p])

/-- An operand in a block of its own. -/
structure A3 (w : World) (bl : Nat) (k n p : Int) : Prop where
  c0 : w.cell? ⟨bl, 0, none⟩ = some (.int .i64 k)
  c1 : w.cell? ⟨bl, 1, none⟩ = some (.int .i64 n)
  c2 : w.cell? ⟨bl, 2, none⟩ = some (.int .i64 p)
  f0 : w.frozen? ⟨bl, 0, none⟩ = false
  f1 : w.frozen? ⟨bl, 1, none⟩ = false
  f2 : w.frozen? ⟨bl, 2, none⟩ = false

theorem A3.fresh (w : World) (k n p : Int) (t : TypeId) : A3 (w.alloc (.cells #[.int .i64 k, .int .i64 n, .int .i64 p] t)) w.heap.size k n p := ⟨by simp, by simp, by simp, by simp, by simp, by simp⟩
theorem A3.lt {w : World} {bl : Nat} {k n p : Int} (h : A3 w bl k n p) : bl < w.heap.size := World.block_lt_of_cell? _ _ h.c0
theorem A3.grown {w w' : World} {bl : Nat} {k n p : Int} {row : Option Nat} (h : A3 w bl k n p) (g : w.grownBy w' row) (hne : some bl ≠ row) : A3 w' bl k n p :=
  ⟨(g.cell_far _ h.lt hne).trans h.c0, (g.cell_far _ h.lt hne).trans h.c1, (g.cell_far _ h.lt hne).trans h.c2, (g.frozen_far _ h.lt hne).trans h.f0, (g.frozen_far _ h.lt hne).trans h.f1, (g.frozen_far _ h.lt hne).trans h.f2⟩
theorem A3.later {w w' : World} {bl : Nat} {k n p : Int} (h : A3 w bl k n p) (g : Below w.heap.size w w') : A3 w' bl k n p := h.grown (gb_below g) (by simp)
theorem A3.alloc {w : World} {bl : Nat} {k n p : Int} (h : A3 w bl k n p) (o : Obj) : A3 (w.alloc o) bl k n p := h.grown (World.grownBy_alloc w o none) (by simp)
theorem A3.put0 {w : World} {bl : Nat} {k n p : Int} (h : A3 w bl k n p) (k' : Int) : A3 (w.setCell ⟨bl, 0, none⟩ (.int .i64 k')) bl k' n p :=
  ⟨World.cell?_setCell_same _ _ _ h.c0, (World.cell?_setCell_other _ _ _ _ (by simp)).trans h.c1, (World.cell?_setCell_other _ _ _ _ (by simp)).trans h.c2, by simpa using h.f0, by simpa using h.f1, by simpa using h.f2⟩
theorem A3.put1 {w : World} {bl : Nat} {k n p : Int} (h : A3 w bl k n p) (n' : Int) : A3 (w.setCell ⟨bl, 1, none⟩ (.int .i64 n')) bl k n' p :=
  ⟨(World.cell?_setCell_other _ _ _ _ (by simp)).trans h.c0, World.cell?_setCell_same _ _ _ h.c1, (World.cell?_setCell_other _ _ _ _ (by simp)).trans h.c2, by simpa using h.f0, by simpa using h.f1, by simpa using h.f2⟩
theorem A3.put2 {w : World} {bl : Nat} {k n p : Int} (h : A3 w bl k n p) (p' : Int) : A3 (w.setCell ⟨bl, 2, none⟩ (.int .i64 p')) bl k n p' :=
  ⟨(World.cell?_setCell_other _ _ _ _ (by simp)).trans h.c0, (World.cell?_setCell_other _ _ _ _ (by simp)).trans h.c1, World.cell?_setCell_same _ _ _ h.c2, by simpa using h.f0, by simpa using h.f1, by simpa using h.f2⟩
theorem A3.set {w : World} {bl : Nat} {k n p : Int} (h : A3 w bl k n p) (k' n' p' : Int) : A3 (((w.setCell ⟨bl, 0, none⟩ (.int .i64 k')).setCell ⟨bl, 1, none⟩ (.int .i64 n')).setCell ⟨bl, 2, none⟩ (.int .i64 p')) bl k' n' p' := ((h.put0 k').put1 n').put2 p'
theorem A3.other {w : World} {bl : Nat} {k n p : Int} (h : A3 w bl k n p) (bl' o : Nat) (hne : bl' ≠ bl) (u : Value) : A3 (w.setCell ⟨bl', o, none⟩ u) bl k n p :=
  ⟨(World.cell?_setCell_other _ _ _ _ (by simp)).trans h.c0, (World.cell?_setCell_other _ _ _ _ (by simp)).trans h.c1, (World.cell?_setCell_other _ _ _ _ (by simp)).trans h.c2, by simpa using h.f0, by simpa using h.f1, by simpa using h.f2⟩

theorem cells_row2 (w : World) (o : Obj) (xs : List Int) (t : TypeId) : ∀ j x, xs[j]? = some x → ((w.alloc o).alloc (.cells (xs.map (Value.int .i64)).toArray t)).cell? ⟨w.heap.size + 1, j, none⟩ = some (.int .i64 x) := by
  have h := cells_row (w.alloc o) xs t
  rwa [World.size_alloc] at h

/-- The end of a draw: the answer stands in its block. -/
theorem put_end {B R q bl : Nat} {w W : World} {k0 n0 p0 : Int} (k n p : Int) (hS : A3 W bl k0 n0 p0) (hR : Reader B W R q) (hG : w.grownBy W (some R)) (hB : B ≤ bl) (hb : w.heap.size ≤ bl) :
    A3 (((W.setCell ⟨bl, 0, none⟩ (.int .i64 k)).setCell ⟨bl, 1, none⟩ (.int .i64 n)).setCell ⟨bl, 2, none⟩ (.int .i64 p)) bl k n p ∧
    Reader B (((W.setCell ⟨bl, 0, none⟩ (.int .i64 k)).setCell ⟨bl, 1, none⟩ (.int .i64 n)).setCell ⟨bl, 2, none⟩ (.int .i64 p)) R q ∧
    w.grownBy (((W.setCell ⟨bl, 0, none⟩ (.int .i64 k)).setCell ⟨bl, 1, none⟩ (.int .i64 n)).setCell ⟨bl, 2, none⟩ (.int .i64 p)) (some R) :=
  ⟨hS.set k n p, ((hR.set _ _ _ hB).set _ _ _ hB).set _ _ _ hB, gb_put (gb_put (gb_put hG hb) hb) hb⟩

set_option maxHeartbeats 1000000 in
theorem arg_int (B R p : Nat) (w : World) (h : Reader B w R p) (hp : p < 9900000) :
    Calls Tryz.prog 72 #[.pointer (some ⟨R, 0, none⟩), .int .i64 11] w fun e w' => IsArg e ∧ (∃ q, q ≤ p + 4 ∧ Reader B w' R q) ∧ w.grownBy w' (some R) := by
  have hRB := h.1
  have hBw := h.2.1
  go_enter Tryz.func72, Tryz.ntmps72
  go_wp2_with fail
  refine (num_r B R p (w.heap.size + 1) [0, 1, 2, 3, 5, -1, -7, 10, 100, 32767, -32768, 1000] 12 _ ((h.alloc _).alloc _) (by decide) (by decide) (by omega) (by omega) (by exact cells_row2 w _ [0, 1, 2, 3, 5, -1, -7, 10, 100, 32767, -32768, 1000] 3)).mono ?_
  rintro e w1 ⟨v, hv, rfl, h1, g1⟩
  have bv : -3000000000 ≤ v ∧ v ≤ 3000000000 := by simp at hv; omega
  have G1 : w.grownBy w1 (some R) := gb_pick (gb_alloc (gb_alloc (gb_refl _ _) _) _) g1
  have s1 : A3 w1 w.heap.size 0 0 0 := ((A3.fresh w 0 0 0 72).alloc _).grown g1 (by simp; omega)
  obtain ⟨t1, t2, t3⟩ := put_end 11 v 0 s1 h1 G1 hBw (Nat.le_refl _)
  clear g1 hv
  obtain ⟨c0, c1, c2, f0, f1, f2⟩ := s1
  obtain ⟨q0, q1, q2, _, _, _⟩ := t1
  go_wp2
  exact bodyPost_ret (v := .agg #[.int .i64 11, .int .i64 v, .int .i64 0]) (by simp [results, Tryz.results72, go_sem, q0, q1, q2]) rfl ⟨⟨_, _, _, by omega, by omega, rfl⟩, ⟨_, by omega, t2⟩, t3⟩

set_option maxHeartbeats 1000000 in
theorem arg_dec (B R p : Nat) (w : World) (h : Reader B w R p) (hp : p < 9900000) :
    Calls Tryz.prog 72 #[.pointer (some ⟨R, 0, none⟩), .int .i64 12] w fun e w' => IsArg e ∧ (∃ q, q ≤ p + 4 ∧ Reader B w' R q) ∧ w.grownBy w' (some R) := by
  have hRB := h.1
  have hBw := h.2.1
  go_enter Tryz.func72, Tryz.ntmps72
  go_wp2_with fail
  refine (num_r B R p (w.heap.size + 1) [0, 1, 5, -5, 25, -15, 999999999, -999999999, 3, 1001, 7] 11 _ ((h.alloc _).alloc _) (by decide) (by decide) (by omega) (by omega) (by exact cells_row2 w _ [0, 1, 5, -5, 25, -15, 999999999, -999999999, 3, 1001, 7] 3)).mono ?_
  rintro e w1 ⟨v, hv, rfl, h1, g1⟩
  have bv : -3000000000 ≤ v ∧ v ≤ 3000000000 := by simp at hv; omega
  have G1 : w.grownBy w1 (some R) := gb_pick (gb_alloc (gb_alloc (gb_refl _ _) _) _) g1
  have s1 : A3 w1 w.heap.size 0 0 0 := ((A3.fresh w 0 0 0 72).alloc _).grown g1 (by simp; omega)
  clear g1 hv
  go_wp2_with fail
  refine (pick_r B R (p + 1) 6 _ h1 (by omega) (by omega) (by omega)).mono ?_
  rintro e w2 ⟨r, r1, rfl, h2, g2⟩
  have G2 : w.grownBy w2 (some R) := gb_pick G1 g2
  have s2 : A3 w2 w.heap.size 0 0 0 := s1.grown g2 (by simp; omega)
  clear g2 G1 s1 h1
  obtain ⟨m, HM⟩ : ∃ m, Hid (m = v.tmod 10) := ⟨_, rfl⟩
  by_cases hm : m = 0
  · obtain ⟨t1, t2, t3⟩ := put_end 12 v 1 s2 h2 G2 hBw (Nat.le_refl _)
    obtain ⟨c0, c1, c2, f0, f1, f2⟩ := s2
    obtain ⟨q0, q1, q2, _, _, _⟩ := t1
    have hm' : v.tmod 10 = 0 := by rw [← HM.out]; exact hm
    have hm2 : (v.tmod 10 == 0) = true := by rw [hm']; rfl
    clear HM
    go_wp2
    exact bodyPost_ret (v := .agg #[.int .i64 12, .int .i64 v, .int .i64 1]) (by simp [results, Tryz.results72, go_sem, q0, q1, q2]) rfl ⟨⟨_, _, _, by omega, by omega, rfl⟩, ⟨_, by omega, t2⟩, t3⟩
  · obtain ⟨t1, t2, t3⟩ := put_end 12 v (1 + r) s2 h2 G2 hBw (Nat.le_refl _)
    obtain ⟨c0, c1, c2, f0, f1, f2⟩ := s2
    obtain ⟨q0, q1, q2, _, _, _⟩ := t1
    have hm2 : (v.tmod 10 == 0) = false := by rw [← HM.out]; simp [hm]
    clear HM
    go_wp2
    exact bodyPost_ret (v := .agg #[.int .i64 12, .int .i64 v, .int .i64 (1 + r)]) (by simp [results, Tryz.results72, go_sem, q0, q1, q2]) rfl ⟨⟨_, _, _, by omega, by omega, rfl⟩, ⟨_, by omega, t2⟩, t3⟩

set_option maxHeartbeats 1000000 in
theorem arg_word (B R p : Nat) (w : World) (h : Reader B w R p) (hp : p < 9900000) :
    Calls Tryz.prog 72 #[.pointer (some ⟨R, 0, none⟩), .int .i64 13] w fun e w' => IsArg e ∧ (∃ q, q ≤ p + 4 ∧ Reader B w' R q) ∧ w.grownBy w' (some R) := by
  have hRB := h.1
  have hBw := h.2.1
  go_enter Tryz.func72, Tryz.ntmps72
  go_wp2_with fail
  refine (pick_r B R p 4 _ (h.alloc _) (by omega) (by omega) (by omega)).mono ?_
  rintro e w1 ⟨v, hv, rfl, h1, g1⟩
  have G1 : w.grownBy w1 (some R) := gb_pick (gb_alloc (gb_refl _ _) _) g1
  have s1 : A3 w1 w.heap.size 0 0 0 := (A3.fresh w 0 0 0 72).grown g1 (by simp; omega)
  obtain ⟨t1, t2, t3⟩ := put_end 13 v 0 s1 h1 G1 hBw (Nat.le_refl _)
  clear g1
  obtain ⟨c0, c1, c2, f0, f1, f2⟩ := s1
  obtain ⟨q0, q1, q2, _, _, _⟩ := t1
  go_wp2
  exact bodyPost_ret (v := .agg #[.int .i64 13, .int .i64 v, .int .i64 0]) (by simp [results, Tryz.results72, go_sem, q0, q1, q2]) rfl ⟨⟨_, _, _, by omega, by omega, rfl⟩, ⟨_, by omega, t2⟩, t3⟩

theorem kS_in (k : Int) (k1 : 1 ≤ k) (k2 : k ≤ 10) : 5 ≤ kS k ∧ kS k ≤ 64 := by
  rcases k_cases k with h | rfl | rfl | rfl | rfl | rfl | rfl | rfl | rfl | rfl | rfl
  · omega
  all_goals decide

set_option maxHeartbeats 2000000 in
theorem arg_dev (B R p : Nat) (k : Int) (w : World) (h : Reader B w R p) (hp : p < 9900000) (k1 : 1 ≤ k) (k2 : k ≤ 10) :
    Calls Tryz.prog 72 #[.pointer (some ⟨R, 0, none⟩), .int .i64 k] w fun e w' => IsArg e ∧ (∃ q, q ≤ p + 4 ∧ Reader B w' R q) ∧ w.grownBy w' (some R) := by
  have hRB := h.1
  have hBw := h.2.1
  have hz := kS_in k k1 k2
  have HS : Hid (∀ W : World, Calls Tryz.prog 75 #[.int .i64 k] W fun e w' => e = .returned (.int .i64 (kS k)) ∧ w' = W) := fun W => spec_size k W
  obtain ⟨z, HZ⟩ : ∃ z, Hid (z = kS k) := ⟨_, rfl⟩
  rw [← HZ.out] at HS hz
  clear HZ
  have e1 : (k == 11) = false := by simp; omega
  have e2 : (k == 12) = false := by simp; omega
  have e3 : (k == 13) = false := by simp; omega
  go_enter Tryz.func72, Tryz.ntmps72
  go_wp2_with fail
  refine (pick_r B R p 4 _ (h.alloc _) (by omega) (by omega) (by omega)).mono ?_
  rintro e w1 ⟨v, hv, rfl, h1, g1⟩
  have G1 : w.grownBy w1 (some R) := gb_pick (gb_alloc (gb_refl _ _) _) g1
  have s1 : A3 w1 w.heap.size 0 0 0 := (A3.fresh w 0 0 0 72).grown g1 (by simp; omega)
  clear g1
  go_wp2_with fail
  refine (pick_r B R (p + 1) 6 _ h1 (by omega) (by omega) (by omega)).mono ?_
  rintro e w2 ⟨r, r1, rfl, h2, g2⟩
  have G2 : w.grownBy w2 (some R) := gb_pick G1 g2
  have s2 : A3 w2 w.heap.size 0 0 0 := s1.grown g2 (by simp; omega)
  clear g2 G1 s1 h1
  by_cases hr : r = 0
  · subst hr
    go_wp2_with fail
    refine (HS.out _).mono ?_
    rintro e w2b ⟨rfl, rfl⟩
    go_wp2_with fail
    refine (pick_r B R (p + 1 + 1) z _ h2 (by omega) (by omega) (by omega)).mono ?_
    rintro e w3 ⟨u, u1, rfl, h3, g3⟩
    have G3 : w.grownBy w3 (some R) := gb_pick G2 g3
    have s3 : A3 w3 w.heap.size 0 0 0 := s2.grown g3 (by simp; omega)
    clear g3 G2 s2 h2
    go_wp2_with fail
    refine (HS.out _).mono ?_
    rintro e w3b ⟨rfl, rfl⟩
    obtain ⟨t1, t2, t3⟩ := put_end k u 0 s3 h3 G3 hBw (Nat.le_refl _)
    obtain ⟨c0, c1, c2, f0, f1, f2⟩ := s3
    obtain ⟨q0, q1, q2, _, _, _⟩ := t1
    go_wp2
    exact bodyPost_ret (v := .agg #[.int .i64 k, .int .i64 u, .int .i64 0]) (by simp [results, Tryz.results72, go_sem, q0, q1, q2]) rfl ⟨⟨_, _, _, by omega, by omega, rfl⟩, ⟨_, by omega, t2⟩, t3⟩
  · have hr' : ((r : Int) == 0) = false := by simp; omega
    go_wp2_with fail
    refine (HS.out _).mono ?_
    rintro e w2b ⟨rfl, rfl⟩
    obtain ⟨t1, t2, t3⟩ := put_end k v 0 s2 h2 G2 hBw (Nat.le_refl _)
    obtain ⟨c0, c1, c2, f0, f1, f2⟩ := s2
    obtain ⟨q0, q1, q2, _, _, _⟩ := t1
    go_wp2
    exact bodyPost_ret (v := .agg #[.int .i64 k, .int .i64 v, .int .i64 0]) (by simp [results, Tryz.results72, go_sem, q0, q1, q2]) rfl ⟨⟨_, _, _, by omega, by omega, rfl⟩, ⟨_, by omega, t2⟩, t3⟩

theorem arg_r (B R p : Nat) (k : Int) (w : World) (h : Reader B w R p) (hp : p < 9900000) (k1 : 1 ≤ k) (k2 : k ≤ 13) :
    Calls Tryz.prog 72 #[.pointer (some ⟨R, 0, none⟩), .int .i64 k] w fun e w' => IsArg e ∧ (∃ q, q ≤ p + 4 ∧ Reader B w' R q) ∧ w.grownBy w' (some R) := by
  by_cases e1 : k = 11
  · subst e1; exact arg_int B R p w h hp
  by_cases e2 : k = 12
  · subst e2; exact arg_dec B R p w h hp
  by_cases e3 : k = 13
  · subst e3; exact arg_word B R p w h hp
  exact arg_dev B R p k w h hp k1 (by omega)
end Go.Proofs.YtcihplachlokiaaGreatDoor.Rr
/- The specification's draws of operands, spoilt ones too. -/
namespace Go.Proofs.YtcihplachlokiaaGreatDoor.Rr
open Go.RowKit
set_option linter.unusedVariables false

/-- The answer's three cells out of the argument's, at the end of l2Spoilt. -/
theorem spoilt_end {B R q b : Nat} {w W : World} {k n p k0 n0 p0 : Int} (hA : A3 W b k n p) (hS : A3 W (b + 1) k0 n0 p0) (hR : Reader B W R q) (hG : w.grownBy W (some R)) (hB : B ≤ b) (hb : w.heap.size ≤ b) :
    A3 (((W.setCell ⟨b + 1, 0, none⟩ (.int .i64 k)).setCell ⟨b + 1, 1, none⟩ (.int .i64 n)).setCell ⟨b + 1, 2, none⟩ (.int .i64 p)) (b + 1) k n p ∧
    Reader B (((W.setCell ⟨b + 1, 0, none⟩ (.int .i64 k)).setCell ⟨b + 1, 1, none⟩ (.int .i64 n)).setCell ⟨b + 1, 2, none⟩ (.int .i64 p)) R q ∧
    w.grownBy (((W.setCell ⟨b + 1, 0, none⟩ (.int .i64 k)).setCell ⟨b + 1, 1, none⟩ (.int .i64 n)).setCell ⟨b + 1, 2, none⟩ (.int .i64 p)) (some R) :=
  put_end k n p hS hR hG (by omega) (by omega)

set_option maxHeartbeats 4000000 in
theorem spoilt_r (B R p : Nat) (k n m : Int) (w : World) (h : Reader B w R p) (hp : p < 9900000) (bn0 : -3000000000 ≤ n) (bn1 : n ≤ 3000000000) :
    Calls Tryz.prog 59 #[.pointer (some ⟨R, 0, none⟩), .agg #[.int .i64 k, .int .i64 n, .int .i64 m]] w fun e w' => IsArg e ∧ (∃ q, q ≤ p + 2 ∧ Reader B w' R q) ∧ w.grownBy w' (some R) := by
  have hRB := h.1
  have hBw := h.2.1
  have hzz : 0 ≤ kS k ∧ kS k ≤ 64 := by
    by_cases hk : 1 ≤ k ∧ k ≤ 10
    · have := kS_in k hk.1 hk.2
      omega
    · rw [kS_out k (by omega)]; omega
  have HS : Hid (∀ W : World, Calls Tryz.prog 75 #[.int .i64 k] W fun e w' => e = .returned (.int .i64 (kS k)) ∧ w' = W) := fun W => spec_size k W
  obtain ⟨z, HZ⟩ : ∃ z, Hid (z = kS k) := ⟨_, rfl⟩
  rw [← HZ.out] at HS hzz
  clear HZ
  obtain ⟨hz0, hz⟩ := hzz
  go_enter Tryz.func59, Tryz.ntmps59
  go_wp2_with fail
  refine (pick_r B R p 6 _ ((h.alloc _).alloc _) (by omega) (by omega) (by omega)).mono ?_
  rintro e w1 ⟨r6, r61, rfl, h1, g1⟩
  have G1 : w.grownBy w1 (some R) := gb_pick (gb_alloc (gb_alloc (gb_refl _ _) _) _) g1
  have a1 : A3 w1 w.heap.size k n m := ((A3.fresh w k n m 72).alloc _).grown g1 (by simp; omega)
  have s1 : A3 w1 (w.heap.size + 1) 0 0 0 := by
    have := (A3.fresh (w.alloc (.cells #[.int .i64 k, .int .i64 n, .int .i64 m] 72)) 0 0 0 72).grown g1 (by simp; omega)
    simpa using this
  clear g1 h
  have h6 : r6 = 0 ∨ r6 = 1 ∨ r6 = 2 ∨ r6 = 3 ∨ r6 = 4 ∨ r6 = 5 := by omega
  rcases h6 with rfl | rfl | rfl | rfl | rfl | rfl
  · go_wp2_with fail
    refine (pick_r B R (p + 1) 16 _ h1 (by omega) (by omega) (by omega)).mono ?_
    rintro e w2 ⟨r, r1, rfl, h2, g2⟩
    have G2 : w.grownBy w2 (some R) := gb_pick G1 g2
    have a2 : A3 w2 w.heap.size k n m := a1.grown g2 (by simp; omega)
    have s2 : A3 w2 (w.heap.size + 1) 0 0 0 := s1.grown g2 (by simp; omega)
    clear g2 G1 a1 s1 h1
    have a3 := a2.put0 ((r : Int) - 1)
    have s3 := s2.other w.heap.size 0 (by omega) (.int .i64 ((r : Int) - 1))
    obtain ⟨t1, t2, t3⟩ := spoilt_end a3 s3 (h2.set _ _ _ hBw) (gb_put G2 (Nat.le_refl _)) hBw (Nat.le_refl _)
    obtain ⟨c0, c1, c2, f0, f1, f2⟩ := a2
    obtain ⟨d0, d1, d2, u0, u1, u2⟩ := a3
    obtain ⟨e0, e1, e2, v0, v1, v2⟩ := s3
    obtain ⟨q0, q1, q2, _, _, _⟩ := t1
    go_wp2
    exact bodyPost_ret (v := .agg #[.int .i64 ((r : Int) - 1), .int .i64 n, .int .i64 m]) (by simp [results, Tryz.results59, go_sem, q0, q1, q2]) rfl ⟨⟨_, _, _, by omega, by omega, rfl⟩, ⟨_, by omega, t2⟩, t3⟩
  · go_wp2_with fail
    have z1 : w.heap.size + 2 ≤ w1.heap.size := s1.lt
    refine (num_r B R (p + 1) w1.heap.size [-1, 4, 5, 15, 16, 31, 32, 63, 64, 255, 32768, -32769, 1000000000, -1000000000, 20, 10] 16 _ (h1.alloc _) (by decide) (by decide) (by omega) (by omega) (by exact cells_row w1 [-1, 4, 5, 15, 16, 31, 32, 63, 64, 255, 32768, -32769, 1000000000, -1000000000, 20, 10] 3)).mono ?_
    rintro e w2 ⟨v, hv, rfl, h2, g2⟩
    have bv : -3000000000 ≤ v ∧ v ≤ 3000000000 := by simp at hv; omega
    have G2 : w.grownBy w2 (some R) := gb_pick (gb_alloc G1 _) g2
    have a2 : A3 w2 w.heap.size k n m := (a1.alloc _).grown g2 (by simp; omega)
    have s2 : A3 w2 (w.heap.size + 1) 0 0 0 := (s1.alloc _).grown g2 (by simp; omega)
    clear g2 G1 a1 s1 h1 hv z1
    have a3 := a2.put1 v
    have s3 := s2.other w.heap.size 1 (by omega) (.int .i64 v)
    obtain ⟨t1, t2, t3⟩ := spoilt_end a3 s3 (h2.set _ _ _ hBw) (gb_put G2 (Nat.le_refl _)) hBw (Nat.le_refl _)
    obtain ⟨c0, c1, c2, f0, f1, f2⟩ := a2
    obtain ⟨d0, d1, d2, u0, u1, u2⟩ := a3
    obtain ⟨e0, e1, e2, v0, v1, v2⟩ := s3
    obtain ⟨q0, q1, q2, _, _, _⟩ := t1
    go_wp2
    exact bodyPost_ret (v := .agg #[.int .i64 k, .int .i64 v, .int .i64 m]) (by simp [results, Tryz.results59, go_sem, q0, q1, q2]) rfl ⟨⟨_, _, _, by omega, by omega, rfl⟩, ⟨_, by omega, t2⟩, t3⟩
  · go_wp2_with fail
    have z1 : w.heap.size + 2 ≤ w1.heap.size := s1.lt
    refine (num_r B R (p + 1) w1.heap.size [-1, 0, 1, 6, 7] 5 _ (h1.alloc _) (by decide) (by decide) (by omega) (by omega) (by exact cells_row w1 [-1, 0, 1, 6, 7] 3)).mono ?_
    rintro e w2 ⟨v, hv, rfl, h2, g2⟩
    have bv : -3000000000 ≤ v ∧ v ≤ 3000000000 := by simp at hv; omega
    have G2 : w.grownBy w2 (some R) := gb_pick (gb_alloc G1 _) g2
    have a2 : A3 w2 w.heap.size k n m := (a1.alloc _).grown g2 (by simp; omega)
    have s2 : A3 w2 (w.heap.size + 1) 0 0 0 := (s1.alloc _).grown g2 (by simp; omega)
    clear g2 G1 a1 s1 h1 hv z1
    have a3 := a2.put2 v
    have s3 := s2.other w.heap.size 2 (by omega) (.int .i64 v)
    obtain ⟨t1, t2, t3⟩ := spoilt_end a3 s3 (h2.set _ _ _ hBw) (gb_put G2 (Nat.le_refl _)) hBw (Nat.le_refl _)
    obtain ⟨c0, c1, c2, f0, f1, f2⟩ := a2
    obtain ⟨d0, d1, d2, u0, u1, u2⟩ := a3
    obtain ⟨e0, e1, e2, v0, v1, v2⟩ := s3
    obtain ⟨q0, q1, q2, _, _, _⟩ := t1
    go_wp2
    exact bodyPost_ret (v := .agg #[.int .i64 k, .int .i64 n, .int .i64 v]) (by simp [results, Tryz.results59, go_sem, q0, q1, q2]) rfl ⟨⟨_, _, _, by omega, by omega, rfl⟩, ⟨_, by omega, t2⟩, t3⟩
  · have a2 := a1
    have s2 := s1
    have h2 := h1
    have G2 := G1
    obtain ⟨x0, x1, x2, y0, y1, y2⟩ := a1
    go_wp2_with fail
    refine (HS.out _).mono ?_
    rintro e w2 ⟨rfl, rfl⟩
    clear x0 x1 x2 y0 y1 y2 G1 s1 h1
    have a3 := a2.put1 z
    have s3 := s2.other w.heap.size 1 (by omega) (.int .i64 z)
    obtain ⟨t1, t2, t3⟩ := spoilt_end a3 s3 (h2.set _ _ _ hBw) (gb_put G2 (Nat.le_refl _)) hBw (Nat.le_refl _)
    obtain ⟨c0, c1, c2, f0, f1, f2⟩ := a2
    obtain ⟨d0, d1, d2, u0, u1, u2⟩ := a3
    obtain ⟨e0, e1, e2, v0, v1, v2⟩ := s3
    obtain ⟨q0, q1, q2, _, _, _⟩ := t1
    go_wp2
    exact bodyPost_ret (v := .agg #[.int .i64 k, .int .i64 z, .int .i64 m]) (by simp [results, Tryz.results59, go_sem, q0, q1, q2]) rfl ⟨⟨_, _, _, by omega, by omega, rfl⟩, ⟨_, by omega, t2⟩, t3⟩
  · have a2 := a1
    have s2 := s1
    have h2 := h1
    have G2 := G1
    obtain ⟨x0, x1, x2, y0, y1, y2⟩ := a1
    go_wp2_with fail
    refine (HS.out _).mono ?_
    rintro e w2 ⟨rfl, rfl⟩
    clear x0 x1 x2 y0 y1 y2 G1 s1 h1
    have a3 := a2.put1 (z - 1)
    have s3 := s2.other w.heap.size 1 (by omega) (.int .i64 (z - 1))
    obtain ⟨t1, t2, t3⟩ := spoilt_end a3 s3 (h2.set _ _ _ hBw) (gb_put G2 (Nat.le_refl _)) hBw (Nat.le_refl _)
    obtain ⟨c0, c1, c2, f0, f1, f2⟩ := a2
    obtain ⟨d0, d1, d2, u0, u1, u2⟩ := a3
    obtain ⟨e0, e1, e2, v0, v1, v2⟩ := s3
    obtain ⟨q0, q1, q2, _, _, _⟩ := t1
    go_wp2
    exact bodyPost_ret (v := .agg #[.int .i64 k, .int .i64 (z - 1), .int .i64 m]) (by simp [results, Tryz.results59, go_sem, q0, q1, q2]) rfl ⟨⟨_, _, _, by omega, by omega, rfl⟩, ⟨_, by omega, t2⟩, t3⟩
  · have a2 := a1
    have s2 := s1
    have h2 := h1
    have G2 := G1
    clear a1 s1 h1 G1
    have a3 := a2.put1 (-n)
    have s3 := s2.other w.heap.size 1 (by omega) (.int .i64 (-n))
    obtain ⟨t1, t2, t3⟩ := spoilt_end a3 s3 (h2.set _ _ _ hBw) (gb_put G2 (Nat.le_refl _)) hBw (Nat.le_refl _)
    obtain ⟨c0, c1, c2, f0, f1, f2⟩ := a2
    obtain ⟨d0, d1, d2, u0, u1, u2⟩ := a3
    obtain ⟨e0, e1, e2, v0, v1, v2⟩ := s3
    obtain ⟨q0, q1, q2, _, _, _⟩ := t1
    go_wp2
    exact bodyPost_ret (v := .agg #[.int .i64 k, .int .i64 (-n), .int .i64 m]) (by simp [results, Tryz.results59, go_sem, q0, q1, q2]) rfl ⟨⟨_, _, _, by omega, by omega, rfl⟩, ⟨_, by omega, t2⟩, t3⟩

set_option maxHeartbeats 2000000 in
theorem any_r (B R p : Nat) (w : World) (h : Reader B w R p) (hp : p < 9800000) :
    Calls Tryz.prog 58 #[.pointer (some ⟨R, 0, none⟩)] w fun e w' => IsArg e ∧ (∃ q, q ≤ p + 10 ∧ Reader B w' R q) ∧ w.grownBy w' (some R) := by
  have hRB := h.1
  have hBw := h.2.1
  go_enter Tryz.func58, Tryz.ntmps58
  go_wp2_with fail
  refine (pick_r B R p 13 _ (h.alloc _) (by omega) (by omega) (by omega)).mono ?_
  rintro e w1 ⟨r, r1, rfl, h1, g1⟩
  have G1 : w.grownBy w1 (some R) := gb_pick (gb_alloc (gb_refl _ _) _) g1
  have s1 : A3 w1 w.heap.size 0 0 0 := (A3.fresh w 0 0 0 72).grown g1 (by simp; omega)
  clear g1 h
  go_wp2_with fail
  refine (arg_r B R (p + 1) (1 + r) _ h1 (by omega) (by omega) (by omega)).mono ?_
  rintro e w2 ⟨⟨k, n, m, bn0, bn1, rfl⟩, ⟨q, hq, h2⟩, g2⟩
  have G2 : w.grownBy w2 (some R) := gb_pick G1 g2
  have s2 : A3 w2 w.heap.size 0 0 0 := s1.grown g2 (by simp; omega)
  have z2 : w.heap.size < w2.heap.size := s2.lt
  clear g2 G1 s1 h1 r1
  go_wp2_with fail
  refine (pick_r B R q 20 _ (h2.alloc _) (by omega) (by omega) (by omega)).mono ?_
  rintro e w3 ⟨t, t1, rfl, h3, g3⟩
  have G3 : w.grownBy w3 (some R) := gb_pick (gb_alloc G2 _) g3
  have s3 : A3 w3 w.heap.size 0 0 0 := (s2.alloc _).grown g3 (by simp; omega)
  have a3 : A3 w3 w2.heap.size k n m := (A3.fresh w2 k n m 72).grown g3 (by simp; omega)
  clear g3 G2 s2 h2
  by_cases ht : t = 0
  · subst ht
    have a3' := a3
    obtain ⟨c0, c1, c2, f0, f1, f2⟩ := a3
    go_wp2_with fail
    refine (spoilt_r B R (q + 1) k n m _ h3 (by omega) bn0 bn1).mono ?_
    rintro e w4 ⟨⟨k', n', m', bn0', bn1', rfl⟩, ⟨q', hq', h4⟩, g4⟩
    have G4 : w.grownBy w4 (some R) := gb_pick G3 g4
    have s4 : A3 w4 w.heap.size 0 0 0 := s3.grown g4 (by simp; omega)
    clear g4 G3 s3 h3 c0 c1 c2 f0 f1 f2 a3'
    obtain ⟨t1, t2, t3⟩ := put_end k' n' m' s4 h4 G4 hBw (Nat.le_refl _)
    obtain ⟨c0, c1, c2, f0, f1, f2⟩ := s4
    obtain ⟨q0, q1, q2, _, _, _⟩ := t1
    go_wp2
    exact bodyPost_ret (v := .agg #[.int .i64 k', .int .i64 n', .int .i64 m']) (by simp [results, Tryz.results58, go_sem, q0, q1, q2]) rfl ⟨⟨_, _, _, bn0', bn1', rfl⟩, ⟨_, by omega, t2⟩, t3⟩
  · have ht' : ((t : Int) == 0) = false := by simp; omega
    obtain ⟨u1, u2, u3⟩ := put_end k n m s3 h3 G3 hBw (Nat.le_refl _)
    obtain ⟨d0, d1, d2, e0, e1, e2⟩ := a3
    obtain ⟨c0, c1, c2, f0, f1, f2⟩ := s3
    obtain ⟨q0, q1, q2, _, _, _⟩ := u1
    go_wp2
    exact bodyPost_ret (v := .agg #[.int .i64 k, .int .i64 n, .int .i64 m]) (by simp [results, Tryz.results58, go_sem, q0, q1, q2]) rfl ⟨⟨_, _, _, bn0, bn1, rfl⟩, ⟨_, by omega, u2⟩, u3⟩

end Go.Proofs.YtcihplachlokiaaGreatDoor.Rr
/- Operands in the memory, one behind the other. -/
namespace Go.Proofs.YtcihplachlokiaaGreatDoor.Rr
open Go.RowKit Go.Shelf
set_option linter.unusedVariables false

abbrev Arg := Int × Int × Int
/-- The operands of a list lie in the memory, one behind the other. -/
def Ops (w : World) (b o : Nat) (xs : List Arg) : Prop :=
  ∀ j x, xs[j]? = some x → w.cell? ⟨b, o + j * 3, none⟩ = some (.int .i64 x.1) ∧ w.cell? ⟨b, o + j * 3 + 1, none⟩ = some (.int .i64 x.2.1) ∧ w.cell? ⟨b, o + j * 3 + 2, none⟩ = some (.int .i64 x.2.2)
theorem Ops.below {w w' : World} {b o : Nat} {xs : List Arg} (h : Ops w b o xs) {B : Nat} (hB : b < B) (g : Below B w w') : Ops w' b o xs := fun j x hx => by
  have := h j x hx
  refine ⟨?_, ?_, ?_⟩
  · exact (g.cell (p := ⟨b, o + j * 3, none⟩) hB).trans this.1
  · exact (g.cell (p := ⟨b, o + j * 3 + 1, none⟩) hB).trans this.2.1
  · exact (g.cell (p := ⟨b, o + j * 3 + 2, none⟩) hB).trans this.2.2
theorem Ops.lt {w : World} {b o : Nat} {xs : List Arg} (h : Ops w b o xs) (hne : xs ≠ []) : b < w.heap.size := by
  match xs, hne with
  | x :: _, _ => exact World.block_lt_of_cell? _ _ (h 0 x rfl).1
theorem Ops.later {w w' : World} {b o : Nat} {xs : List Arg} (h : Ops w b o xs) (g : Below w.heap.size w w') : Ops w' b o xs := by
  match xs, h with
  | [], _ => intro j x hx; simp at hx
  | x :: r, h => exact h.below (h.lt (by simp)) g

/-- A slice of operands: an empty one, or one that lies in the memory. -/
def Sl (w : World) (a : Option Addr) (xs : List Arg) : Prop := xs = [] ∨ ∃ b o, a = some ⟨b, o, none⟩ ∧ Ops w b o xs
theorem Sl.later {w w' : World} {a : Option Addr} {xs : List Arg} (h : Sl w a xs) (g : Below w.heap.size w w') : Sl w' a xs := by
  rcases h with h | ⟨b, o, h1, h2⟩
  · exact .inl h
  · exact .inr ⟨b, o, h1, h2.later g⟩
theorem Sl.alloc {w : World} {a : Option Addr} {xs : List Arg} (h : Sl w a xs) (o : Obj) : Sl (w.alloc o) a xs := h.later ((Below.refl _ _).alloc (Nat.le_refl _) _)

end Go.Proofs.YtcihplachlokiaaGreatDoor.Rr
