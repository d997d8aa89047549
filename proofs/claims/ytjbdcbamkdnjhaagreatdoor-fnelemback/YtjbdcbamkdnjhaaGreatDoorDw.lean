/- The program's devGuess at the words; the specification's l2Digits and l26Find. -/
import Derived.Test.YtjbdcbamkdnjhaaGreatDoorDva
namespace Go.Proofs.YtjbdcbamkdnjhaaGreatDoor
open Go.RowKit
set_option linter.unusedVariables false

set_option maxRecDepth 100000 in
set_option maxHeartbeats 2000000 in
theorem guess_word0 (s : ByteArray) (w : World) (hT : Tabs w) (n0 : (s.toList == [110, 97, 110]) = true) :
    Calls Tryz.prog 184 #[.string s] w fun e w' => e = .returned (.agg #[.int .i64 13, .int .i64 0, .int .i64 0]) ∧ Below w.heap.size w w' := by
  have hl := hT.w.lt
  have q0 : ∀ o : Obj, (w.alloc o).cell? ⟨0, 0, none⟩ = some (.string ⟨#[110, 97, 110]⟩) := fun o => (World.cell?_alloc_past _ _ _ hl).trans (hT.w 0 (by omega))
  have q1 : ∀ o : Obj, (w.alloc o).cell? ⟨0, 1, none⟩ = some (.string ⟨#[105, 110, 102]⟩) := fun o => (World.cell?_alloc_past _ _ _ hl).trans (hT.w 1 (by omega))
  have q2 : ∀ o : Obj, (w.alloc o).cell? ⟨0, 2, none⟩ = some (.string ⟨#[45, 105, 110, 102]⟩) := fun o => (World.cell?_alloc_past _ _ _ hl).trans (hT.w 2 (by omega))
  have q3 : ∀ o : Obj, (w.alloc o).cell? ⟨0, 3, none⟩ = some (.string ⟨#[45, 48, 46, 48]⟩) := fun o => (World.cell?_alloc_past _ _ _ hl).trans (hT.w 3 (by omega))
  go_enter Tryz.func184, Tryz.ntmps184
  go_wp2
  go_step3
  go_wp2
  clear q0 q1 q2 q3
  go_loopg [12] 0 (fun g i wr => ∃ n : Nat, n + g = 0 ∧ i = .int .i64 n ∧ wr = w.alloc (.cells #[.int .i64 0, .int .i64 0, .int .i64 0] 59))
  case atStart => exact ⟨0, rfl, rfl, rfl⟩
  case round =>
    obtain ⟨n, hn, rfl, rfl⟩ := hrel
    have hc : n = 0 := by omega
    rcases hc with rfl
    · go_wp2
      try rw [Exit.noGoto_ret]
      refine bodyPost_ret (v := .agg #[.int .i64 13, .int .i64 0, .int .i64 0]) (by simp [results, Tryz.results184, go_sem]) rfl ⟨rfl, ?_⟩
      go_grown

set_option maxRecDepth 100000 in
set_option maxHeartbeats 2000000 in
theorem guess_word1 (s : ByteArray) (w : World) (hT : Tabs w) (n0 : (s.toList == [110, 97, 110]) = false) (n1 : (s.toList == [105, 110, 102]) = true) :
    Calls Tryz.prog 184 #[.string s] w fun e w' => e = .returned (.agg #[.int .i64 13, .int .i64 1, .int .i64 0]) ∧ Below w.heap.size w w' := by
  have hl := hT.w.lt
  have q0 : ∀ o : Obj, (w.alloc o).cell? ⟨0, 0, none⟩ = some (.string ⟨#[110, 97, 110]⟩) := fun o => (World.cell?_alloc_past _ _ _ hl).trans (hT.w 0 (by omega))
  have q1 : ∀ o : Obj, (w.alloc o).cell? ⟨0, 1, none⟩ = some (.string ⟨#[105, 110, 102]⟩) := fun o => (World.cell?_alloc_past _ _ _ hl).trans (hT.w 1 (by omega))
  have q2 : ∀ o : Obj, (w.alloc o).cell? ⟨0, 2, none⟩ = some (.string ⟨#[45, 105, 110, 102]⟩) := fun o => (World.cell?_alloc_past _ _ _ hl).trans (hT.w 2 (by omega))
  have q3 : ∀ o : Obj, (w.alloc o).cell? ⟨0, 3, none⟩ = some (.string ⟨#[45, 48, 46, 48]⟩) := fun o => (World.cell?_alloc_past _ _ _ hl).trans (hT.w 3 (by omega))
  go_enter Tryz.func184, Tryz.ntmps184
  go_wp2
  go_step3
  go_wp2
  clear q0 q1 q2 q3
  go_loopg [12] 1 (fun g i wr => ∃ n : Nat, n + g = 1 ∧ i = .int .i64 n ∧ wr = w.alloc (.cells #[.int .i64 0, .int .i64 0, .int .i64 0] 59))
  case atStart => exact ⟨0, rfl, rfl, rfl⟩
  case round =>
    obtain ⟨n, hn, rfl, rfl⟩ := hrel
    have hc : n = 0 ∨ n = 1 := by omega
    rcases hc with rfl | rfl
    · go_wp2
      go_roundg (gk - 1)
      case measure => omega
      case rel => exact ⟨1, by omega, rfl, rfl⟩
    · go_wp2
      try rw [Exit.noGoto_ret]
      refine bodyPost_ret (v := .agg #[.int .i64 13, .int .i64 1, .int .i64 0]) (by simp [results, Tryz.results184, go_sem]) rfl ⟨rfl, ?_⟩
      go_grown

set_option maxRecDepth 100000 in
set_option maxHeartbeats 2000000 in
theorem guess_word2 (s : ByteArray) (w : World) (hT : Tabs w) (n0 : (s.toList == [110, 97, 110]) = false) (n1 : (s.toList == [105, 110, 102]) = false) (n2 : (s.toList == [45, 105, 110, 102]) = true) :
    Calls Tryz.prog 184 #[.string s] w fun e w' => e = .returned (.agg #[.int .i64 13, .int .i64 2, .int .i64 0]) ∧ Below w.heap.size w w' := by
  have hl := hT.w.lt
  have q0 : ∀ o : Obj, (w.alloc o).cell? ⟨0, 0, none⟩ = some (.string ⟨#[110, 97, 110]⟩) := fun o => (World.cell?_alloc_past _ _ _ hl).trans (hT.w 0 (by omega))
  have q1 : ∀ o : Obj, (w.alloc o).cell? ⟨0, 1, none⟩ = some (.string ⟨#[105, 110, 102]⟩) := fun o => (World.cell?_alloc_past _ _ _ hl).trans (hT.w 1 (by omega))
  have q2 : ∀ o : Obj, (w.alloc o).cell? ⟨0, 2, none⟩ = some (.string ⟨#[45, 105, 110, 102]⟩) := fun o => (World.cell?_alloc_past _ _ _ hl).trans (hT.w 2 (by omega))
  have q3 : ∀ o : Obj, (w.alloc o).cell? ⟨0, 3, none⟩ = some (.string ⟨#[45, 48, 46, 48]⟩) := fun o => (World.cell?_alloc_past _ _ _ hl).trans (hT.w 3 (by omega))
  go_enter Tryz.func184, Tryz.ntmps184
  go_wp2
  go_step3
  go_wp2
  clear q0 q1 q2 q3
  go_loopg [12] 2 (fun g i wr => ∃ n : Nat, n + g = 2 ∧ i = .int .i64 n ∧ wr = w.alloc (.cells #[.int .i64 0, .int .i64 0, .int .i64 0] 59))
  case atStart => exact ⟨0, rfl, rfl, rfl⟩
  case round =>
    obtain ⟨n, hn, rfl, rfl⟩ := hrel
    have hc : n = 0 ∨ n = 1 ∨ n = 2 := by omega
    rcases hc with rfl | rfl | rfl
    · go_wp2
      go_roundg (gk - 1)
      case measure => omega
      case rel => exact ⟨1, by omega, rfl, rfl⟩
    · go_wp2
      go_roundg (gk - 1)
      case measure => omega
      case rel => exact ⟨2, by omega, rfl, rfl⟩
    · go_wp2
      try rw [Exit.noGoto_ret]
      refine bodyPost_ret (v := .agg #[.int .i64 13, .int .i64 2, .int .i64 0]) (by simp [results, Tryz.results184, go_sem]) rfl ⟨rfl, ?_⟩
      go_grown

set_option maxRecDepth 100000 in
set_option maxHeartbeats 2000000 in
theorem guess_word3 (s : ByteArray) (w : World) (hT : Tabs w) (n0 : (s.toList == [110, 97, 110]) = false) (n1 : (s.toList == [105, 110, 102]) = false) (n2 : (s.toList == [45, 105, 110, 102]) = false) (n3 : (s.toList == [45, 48, 46, 48]) = true) :
    Calls Tryz.prog 184 #[.string s] w fun e w' => e = .returned (.agg #[.int .i64 13, .int .i64 3, .int .i64 0]) ∧ Below w.heap.size w w' := by
  have hl := hT.w.lt
  have q0 : ∀ o : Obj, (w.alloc o).cell? ⟨0, 0, none⟩ = some (.string ⟨#[110, 97, 110]⟩) := fun o => (World.cell?_alloc_past _ _ _ hl).trans (hT.w 0 (by omega))
  have q1 : ∀ o : Obj, (w.alloc o).cell? ⟨0, 1, none⟩ = some (.string ⟨#[105, 110, 102]⟩) := fun o => (World.cell?_alloc_past _ _ _ hl).trans (hT.w 1 (by omega))
  have q2 : ∀ o : Obj, (w.alloc o).cell? ⟨0, 2, none⟩ = some (.string ⟨#[45, 105, 110, 102]⟩) := fun o => (World.cell?_alloc_past _ _ _ hl).trans (hT.w 2 (by omega))
  have q3 : ∀ o : Obj, (w.alloc o).cell? ⟨0, 3, none⟩ = some (.string ⟨#[45, 48, 46, 48]⟩) := fun o => (World.cell?_alloc_past _ _ _ hl).trans (hT.w 3 (by omega))
  go_enter Tryz.func184, Tryz.ntmps184
  go_wp2
  go_step3
  go_wp2
  clear q0 q1 q2 q3
  go_loopg [12] 3 (fun g i wr => ∃ n : Nat, n + g = 3 ∧ i = .int .i64 n ∧ wr = w.alloc (.cells #[.int .i64 0, .int .i64 0, .int .i64 0] 59))
  case atStart => exact ⟨0, rfl, rfl, rfl⟩
  case round =>
    obtain ⟨n, hn, rfl, rfl⟩ := hrel
    have hc : n = 0 ∨ n = 1 ∨ n = 2 ∨ n = 3 := by omega
    rcases hc with rfl | rfl | rfl | rfl
    · go_wp2
      go_roundg (gk - 1)
      case measure => omega
      case rel => exact ⟨1, by omega, rfl, rfl⟩
    · go_wp2
      go_roundg (gk - 1)
      case measure => omega
      case rel => exact ⟨2, by omega, rfl, rfl⟩
    · go_wp2
      go_roundg (gk - 1)
      case measure => omega
      case rel => exact ⟨3, by omega, rfl, rfl⟩
    · go_wp2
      try rw [Exit.noGoto_ret]
      refine bodyPost_ret (v := .agg #[.int .i64 13, .int .i64 3, .int .i64 0]) (by simp [results, Tryz.results184, go_sem]) rfl ⟨rfl, ?_⟩
      go_grown

theorem guess_word (i : Nat) (hi : i < 4) (w : World) (hT : Tabs w) :
    Calls Tryz.prog 184 #[.string (wd i)] w fun e w' => e = .returned (.agg #[.int .i64 13, .int .i64 i, .int .i64 0]) ∧ Below w.heap.size w w' := by
  rcases c4 i hi with rfl | rfl | rfl | rfl
  · exact guess_word0 _ w hT (by decide +kernel)
  · exact guess_word1 _ w hT (by decide +kernel) (by decide +kernel)
  · exact guess_word2 _ w hT (by decide +kernel) (by decide +kernel) (by decide +kernel)
  · exact guess_word3 _ w hT (by decide +kernel) (by decide +kernel) (by decide +kernel) (by decide +kernel)

/-- What the program guesses. -/
def gI (s : ByteArray) : Int × Int × Int := gl true 1 11 0 0 s.data.toList
theorem guess_any (s : ByteArray) (w : World) (hT : Tabs w) (hsz : s.size ≤ 1048576) (h : ∀ i : Nat, i < 4 → s ≠ wd i) :
    Calls Tryz.prog 184 #[.string s] w fun e w' => e = .returned (.agg #[.int .i64 (gI s).1, .int .i64 (gI s).2.1, .int .i64 (gI s).2.2]) ∧ Below w.heap.size w w' := by
  have hf : ∀ (i : Nat) (l : List UInt8), i < 4 → (wd i).toList = l → (s.toList == l) = false := by
    intro i l hi hl
    rw [Bool.eq_false_iff]
    intro e
    have e1 := eq_of_beq e
    rw [← hl, Lib.toList_data, Lib.toList_data] at e1
    apply h i hi
    have := ba_list e1
    rw [this, Lib.mk_data]
  exact guess_rest s w hT hsz (hf 0 _ (by omega) (by decide +kernel)) (hf 1 _ (by omega) (by decide +kernel)) (hf 2 _ (by omega) (by decide +kernel)) (hf 3 _ (by omega) (by decide +kernel))

set_option maxHeartbeats 2000000 in
theorem impl_read_no (s : ByteArray) (K N P : Int) (w : World) (hT : Tabs w) (hne : s.toList ≠ [])
    (HG : Hid (∀ W, Tabs W → Calls Tryz.prog 184 #[.string s] W fun e w' => e = .returned (.agg #[.int .i64 K, .int .i64 N, .int .i64 P]) ∧ Below W.heap.size W w')) (hx : ((txt K N P).toList == s.toList) = false) :
    Calls Tryz.prog 111 #[.string s] w fun e w' => e = .returned (.tuple #[.agg #[.int .i64 0, .int .i64 0, .int .i64 0], .bool false]) ∧ Below w.heap.size w w' := by
  have HX : Hid (∀ W, Tabs W → Calls Tryz.prog 39 #[.agg #[.int .i64 K, .int .i64 N, .int .i64 P]] W fun e w' => e = .returned (.string (txt K N P)) ∧ Below W.heap.size W w') := fun W h => impl_text K N P W h
  obtain ⟨X, HXX⟩ : ∃ X, Hid (X = txt K N P) := ⟨_, Eq.refl (txt K N P)⟩
  rw [← HXX.out] at HX hx
  clear HXX
  have he : (s.toList == []) = false := by cases h : s.toList with | nil => exact absurd h hne | cons a b => rfl
  go_enter Tryz.func111, Tryz.ntmps111
  go_wp2_with fail
  refine (HG.out _ (hT.alloc _)).mono ?_
  rintro e w1 ⟨rfl, g1⟩
  have r1 : A3 w1 w.heap.size 0 0 0 := (A3.fresh w 0 0 0 59).later g1
  have b1 : Below w.heap.size w w1 := ((Below.refl _ _).alloc (Nat.le_refl _) _).trans (g1.mono (by simp))
  clear g1 HG
  go_wp2_with fail
  refine (HX.out _ ((hT.later b1).alloc _)).mono ?_
  rintro e w2 ⟨rfl, g2⟩
  have r2 : A3 w2 w.heap.size 0 0 0 := (r1.alloc _).later g2
  have b2 : Below w.heap.size w w2 := (b1.alloc b1.size _).trans (g2.mono (by simp; have := b1.size; omega))
  clear g2 HX r1 b1
  have r3 := r2.set 0 0 0
  obtain ⟨x0, x1, x2, y0, y1, y2⟩ := r2
  obtain ⟨z0, z1, z2, _, _, _⟩ := r3
  go_wp2
  refine bodyPost_ret (v := .tuple #[.agg #[.int .i64 0, .int .i64 0, .int .i64 0], .bool false]) (by simp [results, Tryz.results111, go_sem, z0, z1, z2]) rfl ⟨rfl, ?_⟩
  exact ((b2.setCell (Nat.le_refl _) _).setCell (Nat.le_refl _) _).setCell (Nat.le_refl _) _

set_option maxHeartbeats 2000000 in
theorem impl_read_yes (s : ByteArray) (K N P : Int) (w : World) (hT : Tabs w) (hne : s.toList ≠ [])
    (HG : Hid (∀ W, Tabs W → Calls Tryz.prog 184 #[.string s] W fun e w' => e = .returned (.agg #[.int .i64 K, .int .i64 N, .int .i64 P]) ∧ Below W.heap.size W w')) (hx : ((txt K N P).toList == s.toList) = true) :
    Calls Tryz.prog 111 #[.string s] w fun e w' => e = .returned (.tuple #[.agg #[.int .i64 K, .int .i64 N, .int .i64 P], .bool true]) ∧ Below w.heap.size w w' := by
  have HX : Hid (∀ W, Tabs W → Calls Tryz.prog 39 #[.agg #[.int .i64 K, .int .i64 N, .int .i64 P]] W fun e w' => e = .returned (.string (txt K N P)) ∧ Below W.heap.size W w') := fun W h => impl_text K N P W h
  obtain ⟨X, HXX⟩ : ∃ X, Hid (X = txt K N P) := ⟨_, Eq.refl (txt K N P)⟩
  rw [← HXX.out] at HX hx
  clear HXX
  have he : (s.toList == []) = false := by cases h : s.toList with | nil => exact absurd h hne | cons a b => rfl
  go_enter Tryz.func111, Tryz.ntmps111
  go_wp2_with fail
  refine (HG.out _ (hT.alloc _)).mono ?_
  rintro e w1 ⟨rfl, g1⟩
  have r1 : A3 w1 w.heap.size 0 0 0 := (A3.fresh w 0 0 0 59).later g1
  have b1 : Below w.heap.size w w1 := ((Below.refl _ _).alloc (Nat.le_refl _) _).trans (g1.mono (by simp))
  have n1 : w.heap.size < w1.heap.size := r1.lt
  clear g1 HG
  go_wp2_with fail
  refine (HX.out _ ((hT.later b1).alloc _)).mono ?_
  rintro e w2 ⟨rfl, g2⟩
  have r2 : A3 w2 w.heap.size 0 0 0 := (r1.alloc _).later g2
  have a2 : A3 w2 w1.heap.size K N P := (A3.fresh w1 K N P 59).later g2
  have b2 : Below w.heap.size w w2 := (b1.alloc b1.size _).trans (g2.mono (by simp; have := b1.size; omega))
  clear g2 HX r1 b1
  have r3 := r2.set K N P
  obtain ⟨x0, x1, x2, y0, y1, y2⟩ := r2
  obtain ⟨c0, c1, c2, f0, f1, f2⟩ := a2
  obtain ⟨z0, z1, z2, _, _, _⟩ := r3
  go_wp2
  refine bodyPost_ret (v := .tuple #[.agg #[.int .i64 K, .int .i64 N, .int .i64 P], .bool true]) (by simp [results, Tryz.results111, go_sem, z0, z1, z2]) rfl ⟨rfl, ?_⟩
  exact ((b2.setCell (Nat.le_refl _) _).setCell (Nat.le_refl _) _).setCell (Nat.le_refl _) _

set_option maxHeartbeats 2000000 in
theorem impl_read_empty (s : ByteArray) (K N P : Int) (w : World) (hT : Tabs w) (he : (s.toList == []) = true)
    (HG : Hid (∀ W, Tabs W → Calls Tryz.prog 184 #[.string s] W fun e w' => e = .returned (.agg #[.int .i64 K, .int .i64 N, .int .i64 P]) ∧ Below W.heap.size W w')) :
    Calls Tryz.prog 111 #[.string s] w fun e w' => e = .returned (.tuple #[.agg #[.int .i64 0, .int .i64 0, .int .i64 0], .bool false]) ∧ Below w.heap.size w w' := by
  go_enter Tryz.func111, Tryz.ntmps111
  go_wp2_with fail
  refine (HG.out _ (hT.alloc _)).mono ?_
  rintro e w1 ⟨rfl, g1⟩
  have r1 : A3 w1 w.heap.size 0 0 0 := (A3.fresh w 0 0 0 59).later g1
  have b1 : Below w.heap.size w w1 := ((Below.refl _ _).alloc (Nat.le_refl _) _).trans (g1.mono (by simp))
  clear g1 HG
  have r2 := r1.alloc (.cells #[.int .i64 K, .int .i64 N, .int .i64 P] 59)
  have b2 := b1.alloc b1.size (.cells #[.int .i64 K, .int .i64 N, .int .i64 P] 59)
  have r3 := r2.set 0 0 0
  obtain ⟨x0, x1, x2, y0, y1, y2⟩ := r2
  obtain ⟨z0, z1, z2, _, _, _⟩ := r3
  go_wp2
  refine bodyPost_ret (v := .tuple #[.agg #[.int .i64 0, .int .i64 0, .int .i64 0], .bool false]) (by simp [results, Tryz.results111, go_sem, z0, z1, z2]) rfl ⟨rfl, ?_⟩
  exact ((b2.setCell (Nat.le_refl _) _).setCell (Nat.le_refl _) _).setCell (Nat.le_refl _) _
end Go.Proofs.YtjbdcbamkdnjhaaGreatDoor
