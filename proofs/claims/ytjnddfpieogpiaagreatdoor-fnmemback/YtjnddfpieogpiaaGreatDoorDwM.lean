/- The program's devGuess at the words; the specification's l2Digits and l26Find. -/
import Derived.Test.YtjnddfpieogpiaaGreatDoorDvM
import Derived.Deep.RegionWith
import Derived.Lib.IndexBytes
namespace Go.Proofs.YtjnddfpieogpiaaGreatDoor
open Go.RowKit
set_option linter.unusedVariables false

set_option maxRecDepth 100000 in
set_option maxHeartbeats 2000000 in
theorem guess_word0 (s : ByteArray) (w : World) (hT : Tabs w) (n0 : (s.toList == [110, 97, 110]) = true) :
    Calls Tryz.prog 135 #[.string s] w fun e w' => e = .returned (.agg #[.int .i64 13, .int .i64 0, .int .i64 0]) ∧ Below w.heap.size w w' := by
  have hl := hT.w.lt
  have q0 : ∀ o : Obj, (w.alloc o).cell? ⟨0, 0, none⟩ = some (.string ⟨#[110, 97, 110]⟩) := fun o => (World.cell?_alloc_past _ _ _ hl).trans (hT.w 0 (by omega))
  have q1 : ∀ o : Obj, (w.alloc o).cell? ⟨0, 1, none⟩ = some (.string ⟨#[105, 110, 102]⟩) := fun o => (World.cell?_alloc_past _ _ _ hl).trans (hT.w 1 (by omega))
  have q2 : ∀ o : Obj, (w.alloc o).cell? ⟨0, 2, none⟩ = some (.string ⟨#[45, 105, 110, 102]⟩) := fun o => (World.cell?_alloc_past _ _ _ hl).trans (hT.w 2 (by omega))
  have q3 : ∀ o : Obj, (w.alloc o).cell? ⟨0, 3, none⟩ = some (.string ⟨#[45, 48, 46, 48]⟩) := fun o => (World.cell?_alloc_past _ _ _ hl).trans (hT.w 3 (by omega))
  go_enter Tryz.func135, Tryz.ntmps135
  go_wp2
  go_step3
  go_wp2
  clear q0 q1 q2 q3
  go_loopg [12] 0 (fun g i wr => ∃ n : Nat, n + g = 0 ∧ i = .int .i64 n ∧ wr = w.alloc (.cells #[.int .i64 0, .int .i64 0, .int .i64 0] 54))
  case atStart => exact ⟨0, rfl, rfl, rfl⟩
  case round =>
    obtain ⟨n, hn, rfl, rfl⟩ := hrel
    have hc : n = 0 := by omega
    rcases hc with rfl
    · go_wp2
      try rw [Exit.noGoto_ret]
      refine bodyPost_ret (v := .agg #[.int .i64 13, .int .i64 0, .int .i64 0]) (by simp [results, Tryz.results135, go_sem]) rfl ⟨rfl, ?_⟩
      go_grown

set_option maxRecDepth 100000 in
set_option maxHeartbeats 2000000 in
theorem guess_word1 (s : ByteArray) (w : World) (hT : Tabs w) (n0 : (s.toList == [110, 97, 110]) = false) (n1 : (s.toList == [105, 110, 102]) = true) :
    Calls Tryz.prog 135 #[.string s] w fun e w' => e = .returned (.agg #[.int .i64 13, .int .i64 1, .int .i64 0]) ∧ Below w.heap.size w w' := by
  have hl := hT.w.lt
  have q0 : ∀ o : Obj, (w.alloc o).cell? ⟨0, 0, none⟩ = some (.string ⟨#[110, 97, 110]⟩) := fun o => (World.cell?_alloc_past _ _ _ hl).trans (hT.w 0 (by omega))
  have q1 : ∀ o : Obj, (w.alloc o).cell? ⟨0, 1, none⟩ = some (.string ⟨#[105, 110, 102]⟩) := fun o => (World.cell?_alloc_past _ _ _ hl).trans (hT.w 1 (by omega))
  have q2 : ∀ o : Obj, (w.alloc o).cell? ⟨0, 2, none⟩ = some (.string ⟨#[45, 105, 110, 102]⟩) := fun o => (World.cell?_alloc_past _ _ _ hl).trans (hT.w 2 (by omega))
  have q3 : ∀ o : Obj, (w.alloc o).cell? ⟨0, 3, none⟩ = some (.string ⟨#[45, 48, 46, 48]⟩) := fun o => (World.cell?_alloc_past _ _ _ hl).trans (hT.w 3 (by omega))
  go_enter Tryz.func135, Tryz.ntmps135
  go_wp2
  go_step3
  go_wp2
  clear q0 q1 q2 q3
  go_loopg [12] 1 (fun g i wr => ∃ n : Nat, n + g = 1 ∧ i = .int .i64 n ∧ wr = w.alloc (.cells #[.int .i64 0, .int .i64 0, .int .i64 0] 54))
  case atStart => exact ⟨0, rfl, rfl, rfl⟩
  case round =>
    obtain ⟨n, hn, rfl, rfl⟩ := hrel
    have hc : n = 0 ∨ n = 1 := by omega
    rcases hc with rfl | rfl
    · go_wp2
      go_roundg (gk - 1)
      case measure => omega
      case rel => exact ⟨1, by omega, rfl, rfl⟩
    · go_wp2
      try rw [Exit.noGoto_ret]
      refine bodyPost_ret (v := .agg #[.int .i64 13, .int .i64 1, .int .i64 0]) (by simp [results, Tryz.results135, go_sem]) rfl ⟨rfl, ?_⟩
      go_grown

set_option maxRecDepth 100000 in
set_option maxHeartbeats 2000000 in
theorem guess_word2 (s : ByteArray) (w : World) (hT : Tabs w) (n0 : (s.toList == [110, 97, 110]) = false) (n1 : (s.toList == [105, 110, 102]) = false) (n2 : (s.toList == [45, 105, 110, 102]) = true) :
    Calls Tryz.prog 135 #[.string s] w fun e w' => e = .returned (.agg #[.int .i64 13, .int .i64 2, .int .i64 0]) ∧ Below w.heap.size w w' := by
  have hl := hT.w.lt
  have q0 : ∀ o : Obj, (w.alloc o).cell? ⟨0, 0, none⟩ = some (.string ⟨#[110, 97, 110]⟩) := fun o => (World.cell?_alloc_past _ _ _ hl).trans (hT.w 0 (by omega))
  have q1 : ∀ o : Obj, (w.alloc o).cell? ⟨0, 1, none⟩ = some (.string ⟨#[105, 110, 102]⟩) := fun o => (World.cell?_alloc_past _ _ _ hl).trans (hT.w 1 (by omega))
  have q2 : ∀ o : Obj, (w.alloc o).cell? ⟨0, 2, none⟩ = some (.string ⟨#[45, 105, 110, 102]⟩) := fun o => (World.cell?_alloc_past _ _ _ hl).trans (hT.w 2 (by omega))
  have q3 : ∀ o : Obj, (w.alloc o).cell? ⟨0, 3, none⟩ = some (.string ⟨#[45, 48, 46, 48]⟩) := fun o => (World.cell?_alloc_past _ _ _ hl).trans (hT.w 3 (by omega))
  go_enter Tryz.func135, Tryz.ntmps135
  go_wp2
  go_step3
  go_wp2
  clear q0 q1 q2 q3
  go_loopg [12] 2 (fun g i wr => ∃ n : Nat, n + g = 2 ∧ i = .int .i64 n ∧ wr = w.alloc (.cells #[.int .i64 0, .int .i64 0, .int .i64 0] 54))
  case atStart => exact ⟨0, rfl, rfl, rfl⟩
  case round =>
    obtain ⟨n, hn, rfl, rfl⟩ := hrel
    have hc : n = 0 ∨ n = 1 ∨ n = 2 := by omega
    rcases hc with rfl | rfl | rfl
    · go_wp2
      go_roundg (gk - 1)
      case measure => omega
      case rel => exact ⟨1, by omega, rfl, rfl⟩
    · go_wp2
      go_roundg (gk - 1)
      case measure => omega
      case rel => exact ⟨2, by omega, rfl, rfl⟩
    · go_wp2
      try rw [Exit.noGoto_ret]
      refine bodyPost_ret (v := .agg #[.int .i64 13, .int .i64 2, .int .i64 0]) (by simp [results, Tryz.results135, go_sem]) rfl ⟨rfl, ?_⟩
      go_grown

set_option maxRecDepth 100000 in
set_option maxHeartbeats 2000000 in
theorem guess_word3 (s : ByteArray) (w : World) (hT : Tabs w) (n0 : (s.toList == [110, 97, 110]) = false) (n1 : (s.toList == [105, 110, 102]) = false) (n2 : (s.toList == [45, 105, 110, 102]) = false) (n3 : (s.toList == [45, 48, 46, 48]) = true) :
    Calls Tryz.prog 135 #[.string s] w fun e w' => e = .returned (.agg #[.int .i64 13, .int .i64 3, .int .i64 0]) ∧ Below w.heap.size w w' := by
  have hl := hT.w.lt
  have q0 : ∀ o : Obj, (w.alloc o).cell? ⟨0, 0, none⟩ = some (.string ⟨#[110, 97, 110]⟩) := fun o => (World.cell?_alloc_past _ _ _ hl).trans (hT.w 0 (by omega))
  have q1 : ∀ o : Obj, (w.alloc o).cell? ⟨0, 1, none⟩ = some (.string ⟨#[105, 110, 102]⟩) := fun o => (World.cell?_alloc_past _ _ _ hl).trans (hT.w 1 (by omega))
  have q2 : ∀ o : Obj, (w.alloc o).cell? ⟨0, 2, none⟩ = some (.string ⟨#[45, 105, 110, 102]⟩) := fun o => (World.cell?_alloc_past _ _ _ hl).trans (hT.w 2 (by omega))
  have q3 : ∀ o : Obj, (w.alloc o).cell? ⟨0, 3, none⟩ = some (.string ⟨#[45, 48, 46, 48]⟩) := fun o => (World.cell?_alloc_past _ _ _ hl).trans (hT.w 3 (by omega))
  go_enter Tryz.func135, Tryz.ntmps135
  go_wp2
  go_step3
  go_wp2
  clear q0 q1 q2 q3
  go_loopg [12] 3 (fun g i wr => ∃ n : Nat, n + g = 3 ∧ i = .int .i64 n ∧ wr = w.alloc (.cells #[.int .i64 0, .int .i64 0, .int .i64 0] 54))
  case atStart => exact ⟨0, rfl, rfl, rfl⟩
  case round =>
    obtain ⟨n, hn, rfl, rfl⟩ := hrel
    have hc : n = 0 ∨ n = 1 ∨ n = 2 ∨ n = 3 := by omega
    rcases hc with rfl | rfl | rfl | rfl
    · go_wp2
      go_roundg (gk - 1)
      case measure => omega
      case rel => exact ⟨1, by omega, rfl, rfl⟩
    · go_wp2
      go_roundg (gk - 1)
      case measure => omega
      case rel => exact ⟨2, by omega, rfl, rfl⟩
    · go_wp2
      go_roundg (gk - 1)
      case measure => omega
      case rel => exact ⟨3, by omega, rfl, rfl⟩
    · go_wp2
      try rw [Exit.noGoto_ret]
      refine bodyPost_ret (v := .agg #[.int .i64 13, .int .i64 3, .int .i64 0]) (by simp [results, Tryz.results135, go_sem]) rfl ⟨rfl, ?_⟩
      go_grown

theorem guess_word (i : Nat) (hi : i < 4) (w : World) (hT : Tabs w) :
    Calls Tryz.prog 135 #[.string (wd i)] w fun e w' => e = .returned (.agg #[.int .i64 13, .int .i64 i, .int .i64 0]) ∧ Below w.heap.size w w' := by
  rcases c4 i hi with rfl | rfl | rfl | rfl
  · exact guess_word0 _ w hT (by decide +kernel)
  · exact guess_word1 _ w hT (by decide +kernel) (by decide +kernel)
  · exact guess_word2 _ w hT (by decide +kernel) (by decide +kernel) (by decide +kernel)
  · exact guess_word3 _ w hT (by decide +kernel) (by decide +kernel) (by decide +kernel) (by decide +kernel)

/-- What the program guesses. -/
def gI (s : ByteArray) : Int × Int × Int := gl true 1 11 0 0 s.data.toList
theorem guess_any (s : ByteArray) (w : World) (hT : Tabs w) (hsz : s.size ≤ 1048576) (h : ∀ i : Nat, i < 4 → s ≠ wd i) :
    Calls Tryz.prog 135 #[.string s] w fun e w' => e = .returned (.agg #[.int .i64 (gI s).1, .int .i64 (gI s).2.1, .int .i64 (gI s).2.2]) ∧ Below w.heap.size w w' := by
  have hf : ∀ (i : Nat) (l : List UInt8), i < 4 → (wd i).toList = l → (s.toList == l) = false := by
    intro i l hi hl
    rw [Bool.eq_false_iff]
    intro e
    have e1 := eq_of_beq e
    rw [← hl, Lib.toList_data, Lib.toList_data] at e1
    apply h i hi
    have := ba_list e1
    rw [this, Lib.mk_data]
  exact guess_rest s w hT hsz (hf 0 _ (by omega) (by decide +kernel)) (hf 1 _ (by omega) (by decide +kernel)) (hf 2 _ (by omega) (by decide +kernel)) (hf 3 _ (by omega) (by decide +kernel))

set_option maxHeartbeats 2000000 in
theorem impl_read_no (s : ByteArray) (K N P : Int) (w : World) (hT : Tabs w) (hne : s.toList ≠ [])
    (HG : Hid (∀ W, Tabs W → Calls Tryz.prog 135 #[.string s] W fun e w' => e = .returned (.agg #[.int .i64 K, .int .i64 N, .int .i64 P]) ∧ Below W.heap.size W w')) (hx : ((txt K N P).toList == s.toList) = false) :
    Calls Tryz.prog 84 #[.string s] w fun e w' => e = .returned (.tuple #[.agg #[.int .i64 0, .int .i64 0, .int .i64 0], .bool false]) ∧ Below w.heap.size w w' := by
  have HX : Hid (∀ W, Tabs W → Calls Tryz.prog 25 #[.agg #[.int .i64 K, .int .i64 N, .int .i64 P]] W fun e w' => e = .returned (.string (txt K N P)) ∧ Below W.heap.size W w') := fun W h => impl_text K N P W h
  obtain ⟨X, HXX⟩ : ∃ X, Hid (X = txt K N P) := ⟨_, Eq.refl (txt K N P)⟩
  rw [← HXX.out] at HX hx
  clear HXX
  have he : (s.toList == []) = false := by cases h : s.toList with | nil => exact absurd h hne | cons a b => rfl
  go_enter Tryz.func84, Tryz.ntmps84
  go_wp2_with fail
  refine (HG.out _ (hT.alloc _)).mono ?_
  rintro e w1 ⟨rfl, g1⟩
  have r1 : A3 w1 w.heap.size 0 0 0 := (A3.fresh w 0 0 0 54).later g1
  have b1 : Below w.heap.size w w1 := ((Below.refl _ _).alloc (Nat.le_refl _) _).trans (g1.mono (by simp))
  clear g1 HG
  go_wp2_with fail
  refine (HX.out _ ((hT.later b1).alloc _)).mono ?_
  rintro e w2 ⟨rfl, g2⟩
  have r2 : A3 w2 w.heap.size 0 0 0 := (r1.alloc _).later g2
  have b2 : Below w.heap.size w w2 := (b1.alloc b1.size _).trans (g2.mono (by simp; have := b1.size; omega))
  clear g2 HX r1 b1
  have r3 := r2.set 0 0 0
  obtain ⟨x0, x1, x2, y0, y1, y2⟩ := r2
  obtain ⟨z0, z1, z2, _, _, _⟩ := r3
  go_wp2
  refine bodyPost_ret (v := .tuple #[.agg #[.int .i64 0, .int .i64 0, .int .i64 0], .bool false]) (by simp [results, Tryz.results84, go_sem, z0, z1, z2]) rfl ⟨rfl, ?_⟩
  exact ((b2.setCell (Nat.le_refl _) _).setCell (Nat.le_refl _) _).setCell (Nat.le_refl _) _

set_option maxHeartbeats 2000000 in
theorem impl_read_yes (s : ByteArray) (K N P : Int) (w : World) (hT : Tabs w) (hne : s.toList ≠ [])
    (HG : Hid (∀ W, Tabs W → Calls Tryz.prog 135 #[.string s] W fun e w' => e = .returned (.agg #[.int .i64 K, .int .i64 N, .int .i64 P]) ∧ Below W.heap.size W w')) (hx : ((txt K N P).toList == s.toList) = true) :
    Calls Tryz.prog 84 #[.string s] w fun e w' => e = .returned (.tuple #[.agg #[.int .i64 K, .int .i64 N, .int .i64 P], .bool true]) ∧ Below w.heap.size w w' := by
  have HX : Hid (∀ W, Tabs W → Calls Tryz.prog 25 #[.agg #[.int .i64 K, .int .i64 N, .int .i64 P]] W fun e w' => e = .returned (.string (txt K N P)) ∧ Below W.heap.size W w') := fun W h => impl_text K N P W h
  obtain ⟨X, HXX⟩ : ∃ X, Hid (X = txt K N P) := ⟨_, Eq.refl (txt K N P)⟩
  rw [← HXX.out] at HX hx
  clear HXX
  have he : (s.toList == []) = false := by cases h : s.toList with | nil => exact absurd h hne | cons a b => rfl
  go_enter Tryz.func84, Tryz.ntmps84
  go_wp2_with fail
  refine (HG.out _ (hT.alloc _)).mono ?_
  rintro e w1 ⟨rfl, g1⟩
  have r1 : A3 w1 w.heap.size 0 0 0 := (A3.fresh w 0 0 0 54).later g1
  have b1 : Below w.heap.size w w1 := ((Below.refl _ _).alloc (Nat.le_refl _) _).trans (g1.mono (by simp))
  have n1 : w.heap.size < w1.heap.size := r1.lt
  clear g1 HG
  go_wp2_with fail
  refine (HX.out _ ((hT.later b1).alloc _)).mono ?_
  rintro e w2 ⟨rfl, g2⟩
  have r2 : A3 w2 w.heap.size 0 0 0 := (r1.alloc _).later g2
  have a2 : A3 w2 w1.heap.size K N P := (A3.fresh w1 K N P 54).later g2
  have b2 : Below w.heap.size w w2 := (b1.alloc b1.size _).trans (g2.mono (by simp; have := b1.size; omega))
  clear g2 HX r1 b1
  have r3 := r2.set K N P
  obtain ⟨x0, x1, x2, y0, y1, y2⟩ := r2
  obtain ⟨c0, c1, c2, f0, f1, f2⟩ := a2
  obtain ⟨z0, z1, z2, _, _, _⟩ := r3
  go_wp2
  refine bodyPost_ret (v := .tuple #[.agg #[.int .i64 K, .int .i64 N, .int .i64 P], .bool true]) (by simp [results, Tryz.results84, go_sem, z0, z1, z2]) rfl ⟨rfl, ?_⟩
  exact ((b2.setCell (Nat.le_refl _) _).setCell (Nat.le_refl _) _).setCell (Nat.le_refl _) _

set_option maxHeartbeats 2000000 in
theorem impl_read_empty (s : ByteArray) (K N P : Int) (w : World) (hT : Tabs w) (he : (s.toList == []) = true)
    (HG : Hid (∀ W, Tabs W → Calls Tryz.prog 135 #[.string s] W fun e w' => e = .returned (.agg #[.int .i64 K, .int .i64 N, .int .i64 P]) ∧ Below W.heap.size W w')) :
    Calls Tryz.prog 84 #[.string s] w fun e w' => e = .returned (.tuple #[.agg #[.int .i64 0, .int .i64 0, .int .i64 0], .bool false]) ∧ Below w.heap.size w w' := by
  go_enter Tryz.func84, Tryz.ntmps84
  go_wp2_with fail
  refine (HG.out _ (hT.alloc _)).mono ?_
  rintro e w1 ⟨rfl, g1⟩
  have r1 : A3 w1 w.heap.size 0 0 0 := (A3.fresh w 0 0 0 54).later g1
  have b1 : Below w.heap.size w w1 := ((Below.refl _ _).alloc (Nat.le_refl _) _).trans (g1.mono (by simp))
  clear g1 HG
  have r2 := r1.alloc (.cells #[.int .i64 K, .int .i64 N, .int .i64 P] 54)
  have b2 := b1.alloc b1.size (.cells #[.int .i64 K, .int .i64 N, .int .i64 P] 54)
  have r3 := r2.set 0 0 0
  obtain ⟨x0, x1, x2, y0, y1, y2⟩ := r2
  obtain ⟨z0, z1, z2, _, _, _⟩ := r3
  go_wp2
  refine bodyPost_ret (v := .tuple #[.agg #[.int .i64 0, .int .i64 0, .int .i64 0], .bool false]) (by simp [results, Tryz.results84, go_sem, z0, z1, z2]) rfl ⟨rfl, ?_⟩
  exact ((b2.setCell (Nat.le_refl _) _).setCell (Nat.le_refl _) _).setCell (Nat.le_refl _) _
end Go.Proofs.YtjnddfpieogpiaaGreatDoor
/- The specification's l2Digits and l26Find. -/
namespace Go.Proofs.YtjnddfpieogpiaaGreatDoor
open Go.RowKit
set_option linter.unusedVariables false

/-- The number of digits, -1 where one is none. -/
def dgF : List UInt8 → Int → Int
  | [], acc => acc
  | b :: r, acc => if b.toNat < 48 ∨ 57 < b.toNat then -1 else dgF r (acc * 10 + ((b.toNat : Int) - 48))
def digS (l : List UInt8) : Int := if l.length = 0 ∨ 17 < l.length then -1 else dgF l 0

theorem pow10_le (i : Nat) (h : i ≤ 16) : (10 : Int) ^ i ≤ 10000000000000000 := by
  have : ∀ j : Fin 17, (10 : Int) ^ j.val ≤ 10000000000000000 := by decide
  exact this ⟨i, by omega⟩

set_option maxRecDepth 100000 in
set_option maxHeartbeats 2000000 in
theorem digits_r (s : ByteArray) (w : World) (h1 : 1 ≤ s.size) (h2 : s.size ≤ 17) :
    Calls Tryz.prog 173 #[.string s] w fun e w' => e = .returned (.int .i64 (dgF s.data.toList 0)) ∧ w' = w := by
  have i1 : ((s.size : Int) == 0) = false := by rw [beq_eq_false_iff_ne]; omega
  have i2 : ¬ (17 < (s.size : Int)) := by omega
  obtain ⟨G, HG⟩ : ∃ G, Hid (G = dgF s.data.toList 0) := ⟨_, Eq.refl (dgF s.data.toList 0)⟩
  rw [← HG.out]
  go_enter Tryz.func173, Tryz.ntmps173
  go_wp2
  go_loopg [3, 4] s.size (fun g n i wr => ∃ (j : Nat) (A : Int), j + g = s.size ∧ i = .int .i64 j ∧ n = .int .i64 A ∧ 0 ≤ A ∧ A < (10 : Int) ^ j ∧ Hid (G = dgF (s.data.toList.drop j) A) ∧ wr = w)
  case atStart => exact ⟨0, 0, by omega, rfl, rfl, by omega, by simp, HG.out, rfl⟩
  case round =>
    clear HG
    obtain ⟨j, A, hj, rfl, rfl, hA0, hA1, HG, rfl⟩ := hrel
    by_cases hlt : j < s.size
    · have hp := pow10_le j (by omega)
      have hA2 : A < 10000000000000000 := Int.lt_of_lt_of_le hA1 hp
      have hA3 : A + 1 ≤ (10 : Int) ^ j := hA1
      have hpw : (10 : Int) ^ (j + 1) = 10 ^ j * 10 := Int.pow_succ 10 j
      have hdr := drop_at s j hlt
      have hsj : s[j]? = some (s[j]'hlt) := by simp [hlt]
      by_cases d1 : (s[j]'hlt).toNat < 48
      · have d1' : (((s[j]'hlt).toNat : Nat) : Int) < 48 := by omega
        have HE : Hid (G = -1) := by
          have h := HG.out
          rw [hdr, dgF, if_pos (.inl d1)] at h
          exact h
        clear HG hdr hp hpw hA3
        go_wp2
        go_ret
        exact ⟨by rw [HE.out]; rfl, rfl⟩
      · by_cases d2 : 57 < (s[j]'hlt).toNat
        · have d1' : ¬ (((s[j]'hlt).toNat : Nat) : Int) < 48 := by omega
          have d2' : 57 < (((s[j]'hlt).toNat : Nat) : Int) := by omega
          have HE : Hid (G = -1) := by
            have h := HG.out
            rw [hdr, dgF, if_pos (.inr d2)] at h
            exact h
          clear HG hdr hp hpw hA3
          go_wp2
          go_ret
          exact ⟨by rw [HE.out]; rfl, rfl⟩
        · have d1' : ¬ (((s[j]'hlt).toNat : Nat) : Int) < 48 := by omega
          have d2' : ¬ 57 < (((s[j]'hlt).toNat : Nat) : Int) := by omega
          have HE : Hid (G = dgF (s.data.toList.drop (j + 1)) (A * 10 + (((s[j]'hlt).toNat : Int) - 48))) := by
            have h := HG.out
            rw [hdr, dgF, if_neg (by omega)] at h
            exact h
          have HB : Hid (0 ≤ A * 10 + (((s[j]'hlt).toNat : Int) - 48) ∧ A * 10 + (((s[j]'hlt).toNat : Int) - 48) < (10 : Int) ^ (j + 1)) := by
            refine ⟨by omega, ?_⟩
            rw [hpw]
            omega
          clear HG hdr hp hpw hA3 hA1
          go_wp2
          go_roundg (gk - 1)
          case measure => omega
          case rel => exact ⟨j + 1, _, by omega, by go_num, rfl, HB.out.1, HB.out.2, HE, rfl⟩
    · have e0 : s.data.toList.drop j = [] := List.drop_eq_nil_of_le (by simp; omega)
      have HE : Hid (G = A) := by
        have h := HG.out
        rw [e0] at h
        exact h
      clear HG e0 hA1
      go_wp2
      go_ret
      exact ⟨by rw [HE.out]; rfl, rfl⟩

set_option maxHeartbeats 1000000 in
theorem digits_out (s : ByteArray) (w : World) (h : s.size = 0 ∨ 17 < s.size) (hs : s.size ≤ 1048577) :
    Calls Tryz.prog 173 #[.string s] w fun e w' => e = .returned (.int .i64 (-1)) ∧ w' = w := by
  by_cases h0 : s.size = 0
  · have i1 : ((s.size : Int) == 0) = true := by rw [beq_iff_eq]; omega
    go_enter Tryz.func173, Tryz.ntmps173
    go_wp2
    go_ret
    exact ⟨rfl, rfl⟩
  · have i1 : ((s.size : Int) == 0) = false := by rw [beq_eq_false_iff_ne]; omega
    have i2 : 17 < (s.size : Int) := by omega
    go_enter Tryz.func173, Tryz.ntmps173
    go_wp2
    go_ret
    exact ⟨rfl, rfl⟩

theorem digits_any (s : ByteArray) (w : World) (hs : s.size ≤ 1048577) :
    Calls Tryz.prog 173 #[.string s] w fun e w' => e = .returned (.int .i64 (digS s.data.toList)) ∧ w' = w := by
  unfold digS
  by_cases h : s.size = 0 ∨ 17 < s.size
  · rw [if_pos (by rw [← Lib.size_eq]; exact h)]
    exact digits_out s w h hs
  · rw [if_neg (by rw [← Lib.size_eq]; exact h)]
    exact digits_r s w (by omega) (by omega)

theorem digS_bd (l : List UInt8) : -1 ≤ digS l ∧ digS l ≤ 1000000000000000000 := by
  have key : ∀ (l : List UInt8) (A : Int) (B : Int), 0 ≤ A → A < B → -1 ≤ dgF l A ∧ dgF l A < B * 10 ^ l.length := by
    intro l
    induction l with
    | nil => intro A B h1 h2; simp [dgF]; omega
    | cons b r ih =>
      intro A B h1 h2
      simp only [dgF, List.length_cons]
      split
      · have : (0 : Int) < B * 10 ^ (r.length + 1) := Int.mul_pos (by omega) (Int.pow_pos (by decide))
        omega
      · rename_i hb
        have := ih (A * 10 + ((b.toNat : Int) - 48)) (B * 10) (by omega) (by omega)
        rw [Int.pow_succ, Int.mul_comm (10 ^ r.length) 10, ← Int.mul_assoc]
        exact this
  unfold digS
  split
  · omega
  · rename_i h
    have h1 := key l 0 1 (by omega) (by omega)
    have hp : (10 : Int) ^ l.length ≤ 1000000000000000000 := by
      have : ∀ j : Fin 18, (10 : Int) ^ j.val ≤ 1000000000000000000 := by decide
      exact this ⟨l.length, by omega⟩
    omega

set_option maxRecDepth 100000 in
set_option maxHeartbeats 1000000 in
theorem find_r (s : ByteArray) (w : World) (d : Nat) (hs : s.size ≤ 1048576) (hd : d ≤ s.size) (hno : ∀ j, j < d → ∀ h : j < s.size, (s[j]'h).toNat ≠ 46) (hat : ∀ h : d < s.size, (s[d]'h).toNat = 46) :
    Calls Tryz.prog 94 #[.string s, .int .u8 46] w fun e w' => e = .returned (.int .i64 (if d < s.size then (d : Int) else -1)) ∧ w' = w := by
  obtain ⟨G, HG⟩ : ∃ G : Int, Hid (G = if d < s.size then (d : Int) else -1) := ⟨_, Eq.refl (if d < s.size then (d : Int) else -1)⟩
  rw [← HG.out]
  have Hno : Hid (∀ j, j < d → ∀ h : j < s.size, (s[j]'h).toNat ≠ 46) := hno
  have Hat : Hid (∀ h : d < s.size, (s[d]'h).toNat = 46) := hat
  clear hno hat
  go_enter Tryz.func94, Tryz.ntmps94
  go_wp2
  go_loopg [5] s.size (fun g i wr => ∃ (j : Nat), j + g = s.size ∧ i = .int .i64 j ∧ j ≤ d ∧ wr = w)
  case atStart => exact ⟨0, by omega, rfl, by omega, rfl⟩
  case round =>
    obtain ⟨j, hj, rfl, hjd, rfl⟩ := hrel
    by_cases hlt : j < s.size
    · by_cases hj2 : j < d
      · have hne : ((((s[j]'hlt).toNat : Nat) : Int) == 46) = false := by
          rw [beq_eq_false_iff_ne]
          have := Hno.out j hj2 hlt
          omega
        go_wp2
        go_roundg (gk - 1)
        case measure => omega
        case rel => exact ⟨j + 1, by omega, by go_num, by omega, rfl⟩
      · obtain rfl : j = d := by omega
        have hne : ((((s[j]'hlt).toNat : Nat) : Int) == 46) = true := by
          rw [beq_iff_eq]
          have := Hat.out hlt
          omega
        go_wp2
        go_ret
        exact ⟨by rw [HG.out, if_pos hlt]; rfl, rfl⟩
    · go_wp2
      go_ret
      exact ⟨by rw [HG.out, if_neg (by omega)]; rfl, rfl⟩
end Go.Proofs.YtjnddfpieogpiaaGreatDoor
/- The walk of the specification's l2Guess. -/
namespace Go.Proofs.YtjnddfpieogpiaaGreatDoor
open Go.RowKit
set_option linter.unusedVariables false

theorem ext1 (s : ByteArray) (h : 0 < s.size) : (s.extract 0 1).toList = [s[0]'h] := by
  rw [Lib.extract_toList]
  have h0 : 0 < s.data.toList.length := by rw [← Lib.size_eq]; exact h
  rw [List.drop_zero]
  cases hl : s.data.toList with
  | nil => rw [hl] at h0; simp at h0
  | cons a r =>
    have e : s[0]'h = a := by
      have := drop_at s 0 h
      rw [List.drop_zero, hl] at this
      simp at this
      exact this.symm
    rw [e]
    rfl
theorem cmpF (s : ByteArray) (k : Nat) (h : 0 < s.size) (h1 : 1 ≤ k) (h2 : k ≤ 10) : ((s.extract 0 1).toList == (kL k).toList) = decide (ltr (s[0]'h).toNat = k) := by
  rw [ext1 s h]
  generalize s[0]'h = b
  have key : ∀ (k : Fin 11) (b : Fin 256), 1 ≤ k.val → ([UInt8.ofNat b.val] == (kL (k.val : Nat)).toList) = decide (ltr b.val = k.val) := by decide +kernel
  have := key ⟨k, by omega⟩ ⟨b.toNat, b.toNat_lt⟩ h1
  simpa using this

set_option maxRecDepth 100000 in
set_option maxHeartbeats 4000000 in
theorem sguess_ltr (s : ByteArray) (w : World) (hs : s.size ≤ 1048576) (h0 : 0 < s.size) (hl : ltr (s[0]'h0).toNat ≠ 0) (Hw : Hid (∀ i : Nat, i < 4 → (s.toList == (wd i).toList) = false)) :
    Calls Tryz.prog 143 #[.string s] w fun e w' => e = .returned (.agg #[.int .i64 (ltr (s[0]'h0).toNat), .int .i64 (digS (s.data.toList.drop 1)), .int .i64 0]) ∧ Below w.heap.size w w' := by
  have HC := fun k => cmpF s k h0
  have Hc : Hid (∀ k : Nat, 1 ≤ k → k ≤ 10 → ((s.extract 0 1).toList == (kL k).toList) = decide (ltr (s[0]'h0).toNat = k)) := HC
  clear HC
  have hk10 := ltr_le (s[0]'h0).toNat
  obtain ⟨kk, Hk⟩ : ∃ kk, Hid (kk = ltr (s[0]'h0).toNat) := ⟨_, Eq.refl (ltr (s[0]'h0).toNat)⟩
  rw [← Hk.out] at hl hk10 Hc ⊢
  have HD : Hid (∀ W : World, Calls Tryz.prog 173 #[.string (s.extract 1 s.size)] W fun e w' => e = .returned (.int .i64 (digS (s.data.toList.drop 1))) ∧ w' = W) := fun W => by
    have h := digits_any (s.extract 1 s.size) W (by simp; omega)
    have e : (s.extract 1 s.size).data.toList = s.data.toList.drop 1 := Lib.extract_to_end s 1
    rw [e] at h
    exact h
  obtain ⟨D, HDD⟩ : ∃ D, Hid (D = digS (s.data.toList.drop 1)) := ⟨_, Eq.refl (digS (s.data.toList.drop 1))⟩
  rw [← HDD.out] at HD ⊢
  clear HDD Hk
  have hne : s.toList.isEmpty = false := by
    rw [Lib.toList_data]
    have : 0 < s.data.toList.length := by rw [← Lib.size_eq]; exact h0
    cases hx : s.data.toList with
    | nil => rw [hx] at this; simp at this
    | cons a r => rfl
  have i1 : (1 : Int) ≤ (s.size : Int) := by omega
  go_enter Tryz.func143, Tryz.ntmps143
  go_wp2
  go_loopg [3] 4 (fun g i wr => ∃ n : Nat, n + g = 4 ∧ i = .int .i64 n ∧ A3 wr w.heap.size 0 0 0 ∧ Below w.heap.size w wr)
  case atStart => exact ⟨0, rfl, rfl, A3.fresh w 0 0 0 54, (Below.refl _ _).alloc (Nat.le_refl _) _⟩
  case round =>
    obtain ⟨n, hn, rfl, r1, b1⟩ := hrel
    by_cases hlt : n < 4
    · have hcmp := Hw.out n hlt
      have hlt' : (n : Int) < 4 := by omega
      go_wp2_with fail
      refine (words_b _).mono ?_
      rintro e w1 ⟨rfl, g1, hx⟩
      have hxn := hx n hlt
      have r2 := r1.later g1
      have b2 := b1.trans (g1.mono b1.size)
      clear hx g1 r1 b1
      go_wp2
      go_roundg (gk - 1)
      case measure => omega
      case rel => exact ⟨n + 1, by omega, by go_num, r2, b2⟩
    · clear Hw
      go_wp2
      go_loopg [4] 10 (fun g i wr => ∃ n : Nat, n + g = 11 ∧ i = .int .i64 n ∧ 1 ≤ n ∧ n ≤ kk ∧ A3 wr w.heap.size 0 0 0 ∧ Below w.heap.size w wr)
      case atStart => exact ⟨1, rfl, rfl, by omega, by omega, r1, b1⟩
      case round =>
        clear r1 b1
        obtain ⟨n, hn, rfl, n1, n2, r1, b1⟩ := hrel
        have hcmp := Hc.out n n1 (by omega)
        have HL : Hid (∀ W : World, Calls Tryz.prog 142 #[.int .i64 n] W fun e w' => e = .returned (.string (kL n)) ∧ w' = W) := fun W => spec_letter n W
        have hlt' : (n : Int) ≤ 10 := by omega
        by_cases hhit : kk = n
        · rw [decide_eq_true hhit] at hcmp
          go_upto_region 9 with fail
          go_quiet (first | (go_at_call 142; refine Calls.quiet_of_same (HL.out _)))
          clear HL
          go_wp2_with fail
          refine (HD.out _).mono ?_
          rintro e w1 ⟨rfl, rfl⟩
          have r2 : A3 (wr.drewN nq) w.heap.size 0 0 0 := ⟨r1.c0, r1.c1, r1.c2, r1.f0, r1.f1, r1.f2⟩
          have b2 : Below w.heap.size w (wr.drewN nq) := bdrew b1 nq
          have r3 := r2.set n D 0
          obtain ⟨x0, x1, x2, y0, y1, y2⟩ := r2
          obtain ⟨z0, z1, z2, _, _, _⟩ := r3
          clear r1 b1 HD
          go_wp2
          refine bodyPost_ret (v := .agg #[.int .i64 n, .int .i64 D, .int .i64 0]) (by simp [results, Tryz.results143, go_sem, z0, z1, z2]) rfl ⟨by rw [hhit], ?_⟩
          exact ((b2.setCell (Nat.le_refl _) _).setCell (Nat.le_refl _) _).setCell (Nat.le_refl _) _
        · rw [decide_eq_false hhit] at hcmp
          go_upto_region 9 with fail
          go_quiet (first | (go_at_call 142; refine Calls.quiet_of_same (HL.out _)))
          clear HL
          have r2 : A3 (wr.drewN nq) w.heap.size 0 0 0 := ⟨r1.c0, r1.c1, r1.c2, r1.f0, r1.f1, r1.f2⟩
          have b2 : Below w.heap.size w (wr.drewN nq) := bdrew b1 nq
          go_wp2
          go_roundg (gk - 1)
          case measure => omega
          case rel => exact ⟨n + 1, by omega, by go_num, by omega, by omega, r2, b2⟩
end Go.Proofs.YtjnddfpieogpiaaGreatDoor
/- The walk of the specification's l2Guess: numbers. -/
namespace Go.Proofs.YtjnddfpieogpiaaGreatDoor
open Go.RowKit
set_option linter.unusedVariables false

/-- The number that a text would be, its first point at d. -/
def numG (sg : Int) (T : ByteArray) (d : Nat) : Int × Int × Int :=
  if d < T.size then (12, sg * digS ((T.data.toList.take d) ++ (T.data.toList.drop (d + 1))), (T.size : Int) - d - 1) else (11, sg * digS T.data.toList, 0)

theorem dig_cut (T : ByteArray) (d : Nat) (hd : d < T.size) (hTs : T.size ≤ 1048576) (W : World) :
    Calls Tryz.prog 173 #[.string (T.extract 0 d ++ T.extract (d + 1) T.size)] W fun e w' => e = .returned (.int .i64 (digS ((T.data.toList.take d) ++ (T.data.toList.drop (d + 1))))) ∧ w' = W := by
  have e : (T.extract 0 d ++ T.extract (d + 1) T.size).data.toList = (T.data.toList.take d) ++ (T.data.toList.drop (d + 1)) := by
    have e1 : (T.extract 0 d).data.toList = T.data.toList.take d := by rw [Lib.extract_data]; simp
    have e2 : (T.extract (d + 1) T.size).data.toList = T.data.toList.drop (d + 1) := Lib.extract_to_end T (d + 1)
    rw [← e1, ← e2]
    simp
  have h := digits_any (T.extract 0 d ++ T.extract (d + 1) T.size) W (by
    rw [Lib.size_eq, e, List.length_append, List.length_take, List.length_drop, ← Lib.size_eq]; omega)
  rw [e] at h
  exact h

set_option maxRecDepth 100000 in
set_option maxHeartbeats 4000000 in
theorem sguess_pos (s : ByteArray) (G : Int × Int × Int) (d : Nat) (w : World) (hs : s.size ≤ 1048576) (h0 : 0 < s.size) (Hw : Hid (∀ i : Nat, i < 4 → (s.toList == (wd i).toList) = false))
    (Hc : Hid (∀ k : Nat, 1 ≤ k → k ≤ 10 → ((s.extract 0 1).toList == (kL k).toList) = false)) (hne : s.toList.isEmpty = false) (h45 : (((s[0]'h0).toNat : Int) == 45) = false) (hTs : s.size ≤ 1048576) (hd0 : d ≤ s.size)
    (Hno : Hid (∀ j, j < d → ∀ h : j < s.size, (s[j]'h).toNat ≠ 46)) (Hat : Hid (∀ h : d < s.size, (s[d]'h).toNat = 46)) (HG : Hid (G = numG (1) s d)) :
    Calls Tryz.prog 143 #[.string s] w fun e w' => e = .returned (.agg #[.int .i64 G.1, .int .i64 G.2.1, .int .i64 G.2.2]) ∧ Below w.heap.size w w' := by
  have i1 : (1 : Int) ≤ (s.size : Int) := by omega
  have i0 : (0 : Int) < (s.size : Int) := by omega
  go_enter Tryz.func143, Tryz.ntmps143
  go_wp2
  go_loopg [3] 4 (fun g i wr => ∃ n : Nat, n + g = 4 ∧ i = .int .i64 n ∧ A3 wr w.heap.size 0 0 0 ∧ Below w.heap.size w wr)
  case atStart => exact ⟨0, rfl, rfl, A3.fresh w 0 0 0 54, (Below.refl _ _).alloc (Nat.le_refl _) _⟩
  case round =>
    obtain ⟨n, hn, rfl, r1, b1⟩ := hrel
    by_cases hlt : n < 4
    · have hcmp := Hw.out n hlt
      have hlt' : (n : Int) < 4 := by omega
      go_wp2_with fail
      refine (words_b _).mono ?_
      rintro e w1 ⟨rfl, g1, hx⟩
      have hxn := hx n hlt
      have r2 := r1.later g1
      have b2 := b1.trans (g1.mono b1.size)
      clear hx g1 r1 b1
      go_wp2
      go_roundg (gk - 1)
      case measure => omega
      case rel => exact ⟨n + 1, by omega, by go_num, r2, b2⟩
    · clear Hw
      go_wp2
      go_loopg [4] 10 (fun g i wr => ∃ n : Nat, n + g = 11 ∧ i = .int .i64 n ∧ 1 ≤ n ∧ A3 wr w.heap.size 0 0 0 ∧ Below w.heap.size w wr)
      case atStart => exact ⟨1, rfl, rfl, by omega, r1, b1⟩
      case round =>
        clear r1 b1
        obtain ⟨n, hn, rfl, n1, r1, b1⟩ := hrel
        by_cases hlt : n ≤ 10
        · have hcmp := Hc.out n n1 hlt
          have HL : Hid (∀ W : World, Calls Tryz.prog 142 #[.int .i64 n] W fun e w' => e = .returned (.string (kL n)) ∧ w' = W) := fun W => spec_letter n W
          have hlt' : (n : Int) ≤ 10 := by omega
          go_upto_region 9 with fail
          go_quiet (first | (go_at_call 142; refine Calls.quiet_of_same (HL.out _)))
          clear HL
          have r2 : A3 (wr.drewN nq) w.heap.size 0 0 0 := ⟨r1.c0, r1.c1, r1.c2, r1.f0, r1.f1, r1.f2⟩
          have b2 : Below w.heap.size w (wr.drewN nq) := bdrew b1 nq
          go_wp2
          go_roundg (gk - 1)
          case measure => omega
          case rel => exact ⟨n + 1, by omega, by go_num, by omega, r2, b2⟩
        · clear Hc
          go_wp2_with fail
          refine (find_r s _ d hTs hd0 Hno.out Hat.out).mono ?_
          rintro e w1 ⟨rfl, rfl⟩
          clear Hno Hat
          by_cases hd : d < s.size
          · have HE : Hid (G = (12, 1 * digS ((s.data.toList.take d) ++ (s.data.toList.drop (d + 1))), (s.size : Int) - d - 1)) := by have h := HG.out; rw [numG, if_pos hd] at h; exact h
            have HD : Hid (∀ W : World, Calls Tryz.prog 173 #[.string (s.extract 0 d ++ s.extract (d + 1) s.size)] W fun e w' => e = .returned (.int .i64 (digS ((s.data.toList.take d) ++ (s.data.toList.drop (d + 1))))) ∧ w' = W) := fun W => dig_cut s d hd hTs W
            have bdg := digS_bd ((s.data.toList.take d) ++ (s.data.toList.drop (d + 1)))
            obtain ⟨D, HDD⟩ : ∃ D, Hid (D = digS ((s.data.toList.take d) ++ (s.data.toList.drop (d + 1)))) := ⟨_, Eq.refl (digS ((s.data.toList.take d) ++ (s.data.toList.drop (d + 1))))⟩
            rw [← HDD.out] at HD bdg HE
            rw [if_pos hd]
            clear HDD HG
            have r3 := r1.set 12 D ((s.size : Int) - d - 1)
            obtain ⟨x0, x1, x2, y0, y1, y2⟩ := r1
            obtain ⟨z0, z1, z2, _, _, _⟩ := r3
            have j1 : (d : Int) ≤ (s.size : Int) := by omega
            have j2 : (d : Int) + 1 ≤ (s.size : Int) := by omega
            have j3 : (0 : Int) ≤ (d : Int) + 1 := by omega
            have j6 : d + 1 ≤ s.size := hd
            have v1 : IntKind.i64.wrap ((d : Int) + 1) = (d : Int) + 1 := by rw [IntKind.wrap_i64]; omega
            have v2 : IntKind.i64.wrap ((s.size : Int) - (d : Int)) = (s.size : Int) - (d : Int) := by rw [IntKind.wrap_i64]; omega
            have v3 : IntKind.i64.wrap ((s.size : Int) - (d : Int) - 1) = (s.size : Int) - (d : Int) - 1 := by rw [IntKind.wrap_i64]; omega
            have v4 : IntKind.i64.wrap (1 * D) = D := by rw [IntKind.wrap_i64]; omega
            have v6 : IntKind.i64.wrap D = D := by rw [IntKind.wrap_i64]; omega
            have v5 : ((d : Int) + 1).toNat = d + 1 := by omega
            go_upto_region 18 with fail
            go_region_with (go_at_call 173; refine (HD.out _).mono ?_; rintro e w2 ⟨rfl, rfl⟩)
            all_goals
              go_wp2
              refine bodyPost_ret (v := .agg #[.int .i64 12, .int .i64 D, .int .i64 ((s.size : Int) - d - 1)]) (by simp [results, Tryz.results143, go_sem, z0, z1, z2]) rfl ⟨by rw [HE.out]; simp, ?_⟩
              exact (((b1.setCell (Nat.le_refl _) _).setCell (Nat.le_refl _) _).setCell (Nat.le_refl _) _).drew
          · have HE : Hid (G = (11, 1 * digS s.data.toList, 0)) := by have h := HG.out; rw [numG, if_neg hd] at h; exact h
            have HD : Hid (∀ W : World, Calls Tryz.prog 173 #[.string s] W fun e w' => e = .returned (.int .i64 (digS s.data.toList)) ∧ w' = W) := fun W => digits_any s W (by omega)
            have bdg := digS_bd s.data.toList
            obtain ⟨D, HDD⟩ : ∃ D, Hid (D = digS s.data.toList) := ⟨_, Eq.refl (digS s.data.toList)⟩
            rw [← HDD.out] at HD bdg HE
            rw [if_neg hd]
            clear HDD HG
            go_wp2_with fail
            refine (HD.out _).mono ?_
            rintro e w2 ⟨rfl, rfl⟩
            have r3 := r1.set 11 D 0
            obtain ⟨x0, x1, x2, y0, y1, y2⟩ := r1
            obtain ⟨z0, z1, z2, _, _, _⟩ := r3
            clear HD
            go_wp2
            refine bodyPost_ret (v := .agg #[.int .i64 11, .int .i64 D, .int .i64 0]) (by simp [results, Tryz.results143, go_sem, z0, z1, z2]) rfl ⟨by rw [HE.out]; simp, ?_⟩
            exact ((b1.setCell (Nat.le_refl _) _).setCell (Nat.le_refl _) _).setCell (Nat.le_refl _) _

set_option maxRecDepth 100000 in
set_option maxHeartbeats 4000000 in
theorem sguess_neg (s : ByteArray) (T : ByteArray) (G : Int × Int × Int) (d : Nat) (w : World) (hs : s.size ≤ 1048576) (h0 : 0 < s.size) (Hw : Hid (∀ i : Nat, i < 4 → (s.toList == (wd i).toList) = false))
    (Hc : Hid (∀ k : Nat, 1 ≤ k → k ≤ 10 → ((s.extract 0 1).toList == (kL k).toList) = false)) (hne : s.toList.isEmpty = false) (hT1 : s.extract 1 s.size = T) (h45 : (((s[0]'h0).toNat : Int) == 45) = true) (hTs : T.size ≤ 1048576) (hd0 : d ≤ T.size)
    (Hno : Hid (∀ j, j < d → ∀ h : j < T.size, (T[j]'h).toNat ≠ 46)) (Hat : Hid (∀ h : d < T.size, (T[d]'h).toNat = 46)) (HG : Hid (G = numG (-1) T d)) :
    Calls Tryz.prog 143 #[.string s] w fun e w' => e = .returned (.agg #[.int .i64 G.1, .int .i64 G.2.1, .int .i64 G.2.2]) ∧ Below w.heap.size w w' := by
  have i1 : (1 : Int) ≤ (s.size : Int) := by omega
  have i0 : (0 : Int) < (s.size : Int) := by omega
  go_enter Tryz.func143, Tryz.ntmps143
  go_wp2
  go_loopg [3] 4 (fun g i wr => ∃ n : Nat, n + g = 4 ∧ i = .int .i64 n ∧ A3 wr w.heap.size 0 0 0 ∧ Below w.heap.size w wr)
  case atStart => exact ⟨0, rfl, rfl, A3.fresh w 0 0 0 54, (Below.refl _ _).alloc (Nat.le_refl _) _⟩
  case round =>
    obtain ⟨n, hn, rfl, r1, b1⟩ := hrel
    by_cases hlt : n < 4
    · have hcmp := Hw.out n hlt
      have hlt' : (n : Int) < 4 := by omega
      go_wp2_with fail
      refine (words_b _).mono ?_
      rintro e w1 ⟨rfl, g1, hx⟩
      have hxn := hx n hlt
      have r2 := r1.later g1
      have b2 := b1.trans (g1.mono b1.size)
      clear hx g1 r1 b1
      go_wp2
      go_roundg (gk - 1)
      case measure => omega
      case rel => exact ⟨n + 1, by omega, by go_num, r2, b2⟩
    · clear Hw
      go_wp2
      go_loopg [4] 10 (fun g i wr => ∃ n : Nat, n + g = 11 ∧ i = .int .i64 n ∧ 1 ≤ n ∧ A3 wr w.heap.size 0 0 0 ∧ Below w.heap.size w wr)
      case atStart => exact ⟨1, rfl, rfl, by omega, r1, b1⟩
      case round =>
        clear r1 b1
        obtain ⟨n, hn, rfl, n1, r1, b1⟩ := hrel
        by_cases hlt : n ≤ 10
        · have hcmp := Hc.out n n1 hlt
          have HL : Hid (∀ W : World, Calls Tryz.prog 142 #[.int .i64 n] W fun e w' => e = .returned (.string (kL n)) ∧ w' = W) := fun W => spec_letter n W
          have hlt' : (n : Int) ≤ 10 := by omega
          go_upto_region 9 with fail
          go_quiet (first | (go_at_call 142; refine Calls.quiet_of_same (HL.out _)))
          clear HL
          have r2 : A3 (wr.drewN nq) w.heap.size 0 0 0 := ⟨r1.c0, r1.c1, r1.c2, r1.f0, r1.f1, r1.f2⟩
          have b2 : Below w.heap.size w (wr.drewN nq) := bdrew b1 nq
          go_wp2
          go_roundg (gk - 1)
          case measure => omega
          case rel => exact ⟨n + 1, by omega, by go_num, by omega, r2, b2⟩
        · clear Hc
          go_wp2_with fail
          refine (find_r T _ d hTs hd0 Hno.out Hat.out).mono ?_
          rintro e w1 ⟨rfl, rfl⟩
          clear Hno Hat
          by_cases hd : d < T.size
          · have HE : Hid (G = (12, -1 * digS ((T.data.toList.take d) ++ (T.data.toList.drop (d + 1))), (T.size : Int) - d - 1)) := by have h := HG.out; rw [numG, if_pos hd] at h; exact h
            have HD : Hid (∀ W : World, Calls Tryz.prog 173 #[.string (T.extract 0 d ++ T.extract (d + 1) T.size)] W fun e w' => e = .returned (.int .i64 (digS ((T.data.toList.take d) ++ (T.data.toList.drop (d + 1))))) ∧ w' = W) := fun W => dig_cut T d hd hTs W
            have bdg := digS_bd ((T.data.toList.take d) ++ (T.data.toList.drop (d + 1)))
            obtain ⟨D, HDD⟩ : ∃ D, Hid (D = digS ((T.data.toList.take d) ++ (T.data.toList.drop (d + 1)))) := ⟨_, Eq.refl (digS ((T.data.toList.take d) ++ (T.data.toList.drop (d + 1))))⟩
            rw [← HDD.out] at HD bdg HE
            rw [if_pos hd]
            clear HDD HG
            have r3 := r1.set 12 (-D) ((T.size : Int) - d - 1)
            obtain ⟨x0, x1, x2, y0, y1, y2⟩ := r1
            obtain ⟨z0, z1, z2, _, _, _⟩ := r3
            have j1 : (d : Int) ≤ (T.size : Int) := by omega
            have j2 : (d : Int) + 1 ≤ (T.size : Int) := by omega
            have j3 : (0 : Int) ≤ (d : Int) + 1 := by omega
            have j6 : d + 1 ≤ T.size := hd
            have v1 : IntKind.i64.wrap ((d : Int) + 1) = (d : Int) + 1 := by rw [IntKind.wrap_i64]; omega
            have v2 : IntKind.i64.wrap ((T.size : Int) - (d : Int)) = (T.size : Int) - (d : Int) := by rw [IntKind.wrap_i64]; omega
            have v3 : IntKind.i64.wrap ((T.size : Int) - (d : Int) - 1) = (T.size : Int) - (d : Int) - 1 := by rw [IntKind.wrap_i64]; omega
            have v4 : IntKind.i64.wrap (-1 * D) = (-D) := by rw [IntKind.wrap_i64]; omega
            have v6 : IntKind.i64.wrap (-D) = (-D) := by rw [IntKind.wrap_i64]; omega
            have v5 : ((d : Int) + 1).toNat = d + 1 := by omega
            go_upto_region 18 with fail
            go_region_with (go_at_call 173; refine (HD.out _).mono ?_; rintro e w2 ⟨rfl, rfl⟩)
            all_goals
              go_wp2
              refine bodyPost_ret (v := .agg #[.int .i64 12, .int .i64 (-D), .int .i64 ((T.size : Int) - d - 1)]) (by simp [results, Tryz.results143, go_sem, z0, z1, z2]) rfl ⟨by rw [HE.out]; simp, ?_⟩
              exact (((b1.setCell (Nat.le_refl _) _).setCell (Nat.le_refl _) _).setCell (Nat.le_refl _) _).drew
          · have HE : Hid (G = (11, -1 * digS T.data.toList, 0)) := by have h := HG.out; rw [numG, if_neg hd] at h; exact h
            have HD : Hid (∀ W : World, Calls Tryz.prog 173 #[.string T] W fun e w' => e = .returned (.int .i64 (digS T.data.toList)) ∧ w' = W) := fun W => digits_any T W (by omega)
            have bdg := digS_bd T.data.toList
            obtain ⟨D, HDD⟩ : ∃ D, Hid (D = digS T.data.toList) := ⟨_, Eq.refl (digS T.data.toList)⟩
            rw [← HDD.out] at HD bdg HE
            rw [if_neg hd]
            clear HDD HG
            go_wp2_with fail
            refine (HD.out _).mono ?_
            rintro e w2 ⟨rfl, rfl⟩
            have r3 := r1.set 11 (-D) 0
            obtain ⟨x0, x1, x2, y0, y1, y2⟩ := r1
            obtain ⟨z0, z1, z2, _, _, _⟩ := r3
            clear HD
            go_wp2
            refine bodyPost_ret (v := .agg #[.int .i64 11, .int .i64 (-D), .int .i64 0]) (by simp [results, Tryz.results143, go_sem, z0, z1, z2]) rfl ⟨by rw [HE.out]; simp, ?_⟩
            exact ((b1.setCell (Nat.le_refl _) _).setCell (Nat.le_refl _) _).setCell (Nat.le_refl _) _

set_option maxRecDepth 100000 in
set_option maxHeartbeats 4000000 in
theorem sguess_word (s : ByteArray) (j : Nat) (hj : j < 4) (w : World) (Hw : Hid (∀ i : Nat, i < 4 → (s.toList == (wd i).toList) = decide (i = j))) :
    Calls Tryz.prog 143 #[.string s] w fun e w' => e = .returned (.agg #[.int .i64 13, .int .i64 j, .int .i64 0]) ∧ Below w.heap.size w w' := by
  go_enter Tryz.func143, Tryz.ntmps143
  go_wp2
  go_loopg [3] 4 (fun g i wr => ∃ n : Nat, n + g = 4 ∧ i = .int .i64 n ∧ n ≤ j ∧ A3 wr w.heap.size 0 0 0 ∧ Below w.heap.size w wr)
  case atStart => exact ⟨0, rfl, rfl, by omega, A3.fresh w 0 0 0 54, (Below.refl _ _).alloc (Nat.le_refl _) _⟩
  case round =>
    obtain ⟨n, hn, rfl, hnj, r1, b1⟩ := hrel
    have hlt : n < 4 := by omega
    have hcmp := Hw.out n hlt
    have hlt' : (n : Int) < 4 := by omega
    by_cases e : n = j
    · subst e
      rw [decide_eq_true rfl] at hcmp
      clear Hw hnj hj
      go_wp2_with fail
      refine (words_b _).mono ?_
      rintro e w1 ⟨rfl, g1, hx⟩
      have hxn := hx n hlt
      have r2 := r1.later g1
      have b2 := b1.trans (g1.mono b1.size)
      clear hx g1 r1 b1
      have r3 := r2.set 13 n 0
      obtain ⟨x0, x1, x2, y0, y1, y2⟩ := r2
      obtain ⟨z0, z1, z2, _, _, _⟩ := r3
      go_wp2
      refine bodyPost_ret (v := .agg #[.int .i64 13, .int .i64 n, .int .i64 0]) (by simp [results, Tryz.results143, go_sem, z0, z1, z2]) rfl ⟨rfl, ?_⟩
      exact ((b2.setCell (Nat.le_refl _) _).setCell (Nat.le_refl _) _).setCell (Nat.le_refl _) _
    · rw [decide_eq_false e] at hcmp
      go_wp2_with fail
      refine (words_b _).mono ?_
      rintro e w1 ⟨rfl, g1, hx⟩
      have hxn := hx n hlt
      have r2 := r1.later g1
      have b2 := b1.trans (g1.mono b1.size)
      clear hx g1 r1 b1
      go_wp2
      go_roundg (gk - 1)
      case measure => omega
      case rel => exact ⟨n + 1, by omega, by go_num, by omega, r2, b2⟩

set_option maxRecDepth 100000 in
set_option maxHeartbeats 4000000 in
theorem sguess_empty (w : World) :
    Calls Tryz.prog 143 #[.string ⟨#[]⟩] w fun e w' => e = .returned (.agg #[.int .i64 11, .int .i64 (-1), .int .i64 0]) ∧ Below w.heap.size w w' := by
  have Hw : Hid (∀ i : Nat, i < 4 → ((ByteArray.mk #[]).toList == (wd i).toList) = false) := by
    intro i hi
    rcases c4 i hi with rfl | rfl | rfl | rfl <;> decide +kernel
  have Hno : Hid (∀ j, j < 0 → ∀ h : j < (ByteArray.mk #[]).size, ((ByteArray.mk #[])[j]'h).toNat ≠ 46) := fun j hj => by omega
  have HF : Hid (∀ W : World, Calls Tryz.prog 94 #[.string ⟨#[]⟩, .int .u8 46] W fun e w' => e = .returned (.int .i64 (-1)) ∧ w' = W) := fun W => find_r ⟨#[]⟩ W 0 (by decide) (by decide) Hno.out (fun h => absurd h (by decide))
  have HD : Hid (∀ W : World, Calls Tryz.prog 173 #[.string ⟨#[]⟩] W fun e w' => e = .returned (.int .i64 (-1)) ∧ w' = W) := fun W => digits_out ⟨#[]⟩ W (.inl rfl) (by decide)
  clear Hno
  obtain ⟨s, HS⟩ : ∃ s : ByteArray, Hid (s = ⟨#[]⟩) := ⟨_, Eq.refl (ByteArray.mk #[])⟩
  have hne : s.toList.isEmpty = true := by rw [HS.out]; decide +kernel
  rw [← HS.out] at Hw HF HD ⊢
  clear HS
  go_enter Tryz.func143, Tryz.ntmps143
  go_wp2
  go_loopg [3] 4 (fun g i wr => ∃ n : Nat, n + g = 4 ∧ i = .int .i64 n ∧ A3 wr w.heap.size 0 0 0 ∧ Below w.heap.size w wr)
  case atStart => exact ⟨0, rfl, rfl, A3.fresh w 0 0 0 54, (Below.refl _ _).alloc (Nat.le_refl _) _⟩
  case round =>
    obtain ⟨n, hn, rfl, r1, b1⟩ := hrel
    by_cases hlt : n < 4
    · have hcmp := Hw.out n hlt
      have hlt' : (n : Int) < 4 := by omega
      go_wp2_with fail
      refine (words_b _).mono ?_
      rintro e w1 ⟨rfl, g1, hx⟩
      have hxn := hx n hlt
      have r2 := r1.later g1
      have b2 := b1.trans (g1.mono b1.size)
      clear hx g1 r1 b1
      go_wp2
      go_roundg (gk - 1)
      case measure => omega
      case rel => exact ⟨n + 1, by omega, by go_num, r2, b2⟩
    · clear Hw
      go_wp2
      go_loopg [4] 10 (fun g i wr => ∃ n : Nat, n + g = 11 ∧ i = .int .i64 n ∧ 1 ≤ n ∧ A3 wr w.heap.size 0 0 0 ∧ Below w.heap.size w wr)
      case atStart => exact ⟨1, rfl, rfl, by omega, r1, b1⟩
      case round =>
        clear r1 b1
        obtain ⟨n, hn, rfl, n1, r1, b1⟩ := hrel
        by_cases hlt : n ≤ 10
        · have hlt' : (n : Int) ≤ 10 := by omega
          go_upto_region 9 with fail
          go_quiet (fail)
          have r2 : A3 (wr.drewN nq) w.heap.size 0 0 0 := ⟨r1.c0, r1.c1, r1.c2, r1.f0, r1.f1, r1.f2⟩
          have b2 : Below w.heap.size w (wr.drewN nq) := bdrew b1 nq
          go_wp2
          go_roundg (gk - 1)
          case measure => omega
          case rel => exact ⟨n + 1, by omega, by go_num, by omega, r2, b2⟩
        · go_wp2_with fail
          refine (HF.out _).mono ?_
          rintro e w1 ⟨rfl, rfl⟩
          go_wp2_with fail
          refine (HD.out _).mono ?_
          rintro e w2 ⟨rfl, rfl⟩
          have r3 := r1.set 11 (-1) 0
          obtain ⟨x0, x1, x2, y0, y1, y2⟩ := r1
          obtain ⟨z0, z1, z2, _, _, _⟩ := r3
          go_wp2
          refine bodyPost_ret (v := .agg #[.int .i64 11, .int .i64 (-1), .int .i64 0]) (by simp [results, Tryz.results143, go_sem, z0, z1, z2]) rfl ⟨rfl, ?_⟩
          exact ((b1.setCell (Nat.le_refl _) _).setCell (Nat.le_refl _) _).setCell (Nat.le_refl _) _
end Go.Proofs.YtjnddfpieogpiaaGreatDoor
